/- The tree of a text,in memory. -/
import Derived.Test.YtgpcpbmacdhlkaaGreatDoorXv
import Derived.Test.YtgpcpbmacdhlkaaGreatDoorOb
import Derived.Test.YtgpcpbmacdhlkaaGreatDoorXk
import Derived.Test.YtgpcpbmacdhlkaaGreatDoorXb
import Derived.Test.YtgpcpbmacdhlkaaGreatDoorTa
namespace Go.Proofs.YtgpcpbmacdhlkaaGreatDoor
open Go.RowKit Go.Shelf
open M
theorem toks_few (s:ByteArray):(toks 0 (bs s)).length≤s.size:=by
 have hl:=toks_len _ 0 (bs s) (Nat.le_refl _)
 rw [bs_len] at hl
 exact hl
theorem toks_S (s:ByteArray) (hs:s.size≤1073741823) (hl:(toks 0 (bs s)).length≤268435456):TokS s (toks 0 (bs s)):=by
 refine ⟨hs,hl,fun t ht=>?_,X.xt_fits (bs s)⟩
 have h1:=toks_ge _ 0 (bs s) (Nat.le_refl _) t ht
 rw [bs_len] at h1
 have h2:=X.xt_fits (bs s) (X.tkx (bs s) t) (List.mem_map.2 ⟨t,ht,rfl⟩)
 exact ⟨by omega,h2.2.2.2.1,h2.2.2.2.2.1⟩
set_option maxRecDepth 100000 in
set_option maxHeartbeats 300000 in
theorem readerOf_any (b:Nat) (v:Value) (s:ByteArray) (w:World) (h:IsD w b v s) (hs:s.size≤1073741823) (hl:(toks 0 (bs s)).length≤268435456) :
  Calls Tryz.prog 30 #[.pointer (some ⟨b,0,none⟩)] w fun e w'=>∃ rb tv,e=.returned (.pointer (some ⟨rb,0,none⟩))∧Hid (RdrT w' rb s (toks 0 (bs s)) tv 0 0∧w.heap.size≤rb∧(∀ q,tv.ownBlock=some q→w.heap.size≤q∧q<w'.heap.size)∧Below w.heap.size w w'):=by
 have H:=hide h
 have hS:=toks_S s hs hl
 clear h
 go_enter Tryz.func30,Tryz.ntmps30
 go_wp2_with fail
 refine (text_any b v s w H.out).mono ?_
 rintro e w1 ⟨rfl,k1⟩
 have HD1:=hide ((H.out).below k1)
 have K1:=hide k1
 clear k1
 go_wp2_with fail
 refine (docTokens_any b v s w1 HD1.out (by omega)).mono ?_
 rintro e w2 ⟨tv,rfl,O2,k2⟩
 have K2:=hide ((K1.out).trans (k2.mono (K1.out).size))
 have HT2:=hide (IsT.ofOwns O2.out)
 have HG2:=hide (owns_ge O2.out)
 have hz1:=(K1.out).size
 have hz2:=k2.size
 clear k2 O2
 obtain ⟨ao,cap,rfl,-⟩:=HT2.out
 have hraw:RawT (w2.alloc (Obj.cells #[.string s,.slice ao (toks 0 (bs s)).length cap,.int .i64 0,.int .i64 0,.int .i64 0,.string ⟨#[]⟩,.int .i64 0] 132)) w2.heap.size s (.slice ao (toks 0 (bs s)).length cap) ((0:Nat):Int) 0 0 ⟨#[]⟩ ((0:Nat):Int):=heap_alloc_new w2 _
 have kA:Below w2.heap.size w2 (w2.alloc (Obj.cells #[.string s,.slice ao (toks 0 (bs s)).length cap,.int .i64 0,.int .i64 0,.int .i64 0,.string ⟨#[]⟩,.int .i64 0] 132)):=(Below.refl _ w2).alloc (Nat.le_refl _) _
 have HR:=hide hraw
 have HKA:=hide kA
 clear hraw kA
 go_wp2_with fail
 refine (tlook_any w2.heap.size s ⟨#[]⟩ (toks 0 (bs s)) (.slice ao (toks 0 (bs s)).length cap) 0 0 0 0 _ hS HR.out ((HT2.out).below HKA.out) (Nat.zero_le _) (fun k hk e=>by have:=((HG2.out) k hk).2;omega)).mono ?_
 rintro e w3 ⟨rfl,r3,k3⟩
 have HR3:=hide r3
 have K3:=hide (((K2.out).trans ((HKA.out).mono (K2.out).size)).trans (k3.below (by simp;have:=(K2.out).size;omega) (K2.out).size))
 have hz3:=k3.size
 clear r3 k3
 go_wp2_with fail
 go_ret
 exact ⟨w2.heap.size,_,rfl,HR3.out,(K2.out).size,fun q hq=>by have:=(HG2.out) q hq;simp at hz3;exact ⟨by omega,by omega⟩,K3.out⟩
theorem Wk.grown {w w1:World} {rb:Nat} {s:ByteArray} {L:List Tk} {tv:Value} {a dp B k:Nat} {rv:Value} {vs:List Value} {ps:List X.Part} {D D':Nat→Prop} (h:Wk w rb s L tv a dp B k rv vs ps D) (hk:On rb w w1) {a':Nat} (hr:RdrT w1 rb s L tv a' dp)
  (h1:∀ q,D q→D' q) (h2:∀ q,D' q→D q∨w.heap.size≤q) (h3:∀ q,D' q→q<w1.heap.size):Wk w1 rb s L tv a' dp B k rv vs ps D':=by
 have hm:=h.moved hk hr
 have hbl:=h.bra.lt
 have hrl:=h.rdr.raw.lt
 refine ⟨hr,hm.bra,hm.len,hm.each.mono h1,h3,⟨fun hd=>?_,fun hd=>?_,h.sep.2.2⟩,fun g hg=>⟨fun hd=>?_,(h.sepG g hg).2⟩,fun q hq=>?_⟩
 ·rcases h2 _ hd with e|e
  ·exact h.sep.1 e
  ·omega
 ·rcases h2 _ hd with e|e
  ·exact h.sep.2.1 e
  ·omega
 ·rcases h2 _ hd with e|e
  ·exact (h.sepG g hg).1 e
  ·have:=(owns_ge h.bra.row g hg).2;omega
 ·obtain ⟨a1,a2,a3,a4⟩:=h.sepT q hq
  refine ⟨fun hd=>?_,a2,a3,(hm.sepT q hq).2.2.2⟩
  rcases h2 _ hd with e|e
  ·exact a1 e
  ·omega
namespace X
theorem want_lt {x:List UInt8} {ts:List Tok} (h:isN x ts=true):(want x ts).2.length<ts.length:=by
 unfold want;rw [if_pos h];exact take_lt (isN_next h)
theorem andThen_lt {f g:R} {ts:List Tok} (hg:Shr g) (h:(f ts).2.length<ts.length):(andThen f g ts).2.length<ts.length:=by
 have:=hg.le (f ts).2
 show (g (f ts).2).2.length<_
 omega
theorem andThen_snd (f g:R) (ts:List Tok):(andThen f g ts).2=(g (f ts).2).2:=rfl
theorem useR_lt {ts:List Tok} (h:isN sUse ts=true):(useR ts).2.length<ts.length:=by
 unfold useR
 exact andThen_lt (Shr.wname.andThen ((Shr.want _).andThen (Shr.wname.andThen ((Shr.ite (c:=isN [97,115]) (Shr.take.andThen Shr.wname) Shr.nil).andThen (Shr.want _))))) (want_lt h)
theorem defR_lt {ts:List Tok} (h:isN sDef ts=true):(defR ts).2.length<ts.length:=by
 unfold defR
 exact andThen_lt (Shr.wname.andThen ((Shr.ite (c:=isN [40]) Shr.params Shr.nil).andThen ((Shr.want _).andThen ((Shr.expr 65).andThen (Shr.want _))))) (want_lt h)
theorem junkL_lt {ts:List Tok} (hk:(kindN ts==0)=false) (hs:starts ts=false):(junkL ts).2.length<ts.length:=by
 have hn:=kind_next hk
 rw [junkL_yes (by rw [hk,hs];rfl)]
 split
 ·exact take_lt hn
 ·exact andThen_lt (fun ts=>Shr.junkGo ts.length ts) (take_lt hn)
theorem kid_lt {ts:List Tok} (hk:(kindN ts==0)=false):(kid ts).2.2.length<ts.length:=by
 have hn:=kind_next hk
 cases hs:starts ts with
 | false =>
  have e:kid ts=(5,junkL ts):=by rw [kid_eq,hs,if_neg (by simp)]
  rw [e];exact junkL_lt hk hs
 | true =>
  cases hu:isN sUse (optPub ts).2 with
  | true =>
   have e:kid ts=(3,andThen optPub useR ts):=by rw [kid_eq,hs,if_pos rfl,hu,if_pos rfl]
   have h1:=useR_lt hu
   have h2:=Shr.optPub.le ts
   rw [e]
   show (andThen optPub useR ts).2.length<_
   rw [andThen_snd];omega
  | false =>
   have e:kid ts=(4,andThen optPub defR ts):=by rw [kid_eq,hs,if_pos rfl,hu,if_neg (by simp)]
   rw [e]
   show (andThen optPub defR ts).2.length<_
   cases hp:isN sPub ts with
   | true =>
    have ho:(optPub ts).2.length<ts.length:=by unfold optPub;rw [if_pos hp];exact take_lt hn
    exact andThen_lt Shr.defR ho
   | false =>
    have ho:optPub ts=([],ts):=by unfold optPub;rw [if_neg (by rw [hp];simp)]
    rw [ho] at hu
    have hd:isN sDef ts=true:=by
     unfold starts at hs
     rw [hu,hp] at hs
     simpa using hs
    rw [andThen_snd,ho]
    exact defR_lt hd
theorem fileGo_fuel:∀ (n:Nat) (ts:List Tok),ts.length≤n→fileGo n ts=fileGo ts.length ts:=by
 intro n
 induction n using Nat.strongRecOn with
 | _ n ih =>
  intro ts h
  rcases Nat.lt_or_ge ts.length n with hlt|hge
  ·cases n with
   | zero=>omega
   | succ n =>
    cases hm:ts.length with
    | zero =>
     have h0:ts=[]:=List.length_eq_zero_iff.1 hm
     subst h0;rfl
    | succ m =>
     unfold fileGo
     cases hk:(kindN ts==0) with
     | true=>rfl
     | false =>
      have hl:=kid_lt hk
      rw [if_neg (by simp),if_neg (by simp),ih n (by omega) _ (by omega),ih m (by omega) _ (by omega)]
  ·rw [show n=ts.length by omega]
def fileL (ts:List Tok):List Part:=fileGo ts.length ts
theorem fileL_no {ts:List Tok} (h:(kindN ts==0)=true):fileL ts=ts.map lf:=by
 unfold fileL
 cases ts.length with
 | zero=>rfl
 | succ m=>unfold fileGo;rw [if_pos h]
theorem fileL_yes {ts:List Tok} (h:(kindN ts==0)=false):fileL ts=.br (kid ts).1 (kid ts).2.1::fileL (kid ts).2.2:=by
 have hl:=kid_lt h
 unfold fileL
 obtain ⟨m,hm⟩:∃ m,ts.length=m+1:=⟨ts.length - 1,by omega⟩
 rw [hm]
 conv=>lhs;unfold fileGo
 rw [if_neg (by rw [h];simp),fileGo_fuel m _ (by omega)]
end X
structure IsTr (w:World) (tb:Nat) (s:ByteArray):Prop where
 ex:∃ (db:Nat) (dv:Value) (B:Nat) (D:Nat→Prop),w.cell? ⟨tb,0,none⟩=some (.pointer (some ⟨db,0,none⟩))∧w.cell? ⟨tb,1,none⟩=some (.pointer (some ⟨B,0,none⟩))∧IsD w db dv s∧IsP w D (.iface 73 (.pointer (some ⟨B,0,none⟩))) (X.file (X.xt (bs s)))∧∀ q,D q→q<w.heap.size
theorem IsD.keep {S:Nat→Prop} {w w':World} {b:Nat} {v:Value} {s:ByteArray} (h:IsD w b v s) (hk:Kp S w w') (h1:¬ S b) (h2:∀ k,v.ownBlock=some k→¬ S k):IsD w' b v s :=
 ⟨hk.cellv h.text h1,hk.cellv h.held h1,h.row.keep hk h2⟩
set_option maxRecDepth 100000 in
set_option maxHeartbeats 300000 in
theorem newTree_big (s:ByteArray) (w:World) (hT:Tabs w) (hs:s.size≤1073741823) (hl:(toks 0 (bs s)).length≤134217728) :
  Calls Tryz.prog 12 #[.string s] w fun e w'=>∃ tb,e=.returned (.pointer (some ⟨tb,0,none⟩))∧Hid (IsTr w' tb s∧Below w.heap.size w w'):=by
 have hS:=toks_S s (by omega) (by omega)
 go_enter Tryz.func12,Tryz.ntmps12
 go_wp2_with fail
 refine (new_any s w hT (by omega)).mono ?_
 rintro e w1 ⟨db,rfl,H1⟩
 go_wp2_with fail
 obtain ⟨dv,g1,g2,g3,g4,g5⟩:=H1.out
 have HD:=hide g3
 have K1:=hide g5
 have hdb:=g2
 have HDV:Hid (∀ k,dv.ownBlock=some k→k<w1.heap.size):=fun k hk=>by have:=(g4 k hk).2;omega
 have kA:Below w1.heap.size w1 (w1.alloc (Obj.cells #[.int .i64 2,.slice none 0 0] 76)):=(Below.refl _ w1).alloc (Nat.le_refl _) _
 have hnew:(w1.alloc (Obj.cells #[.int .i64 2,.slice none 0 0] 76)).heap[w1.heap.size]?=some (.cells #[.int .i64 2,.slice none 0 0] 76 (0,0)):=heap_alloc_new w1 _
 have hzA:(w1.alloc (Obj.cells #[.int .i64 2,.slice none 0 0] 76)).heap.size=w1.heap.size+1:=by simp
 clear g1 g2 g3 g4 g5 H1
 refine (readerOf_any db dv s _ ((HD.out).below kA) (by omega) (by omega)).mono ?_
 rintro e w3 ⟨rb,tv,rfl,H3⟩
 have HW:Hid (Wk w3 rb s (toks 0 (bs s)) tv 0 0 w1.heap.size 2 (.slice none 0 0) [] [] (fun _=>False)):=by
  obtain ⟨r1,r2,r3,r4⟩:=H3.out
  refine ⟨r1,⟨(Kp.ofBelow r4 (fun _=>False)).heap hnew id,World.ownsRow_nil _ _ _ _⟩,rfl,Each.nil _ _,(fun q hq=>hq.elim),⟨id,id,by omega⟩,(fun g hg=>by cases hg),fun q hq=>?_⟩
  have:=r3 q hq
  exact ⟨id,by omega,(fun e=>by cases e),this.2⟩
 have K3:Hid (Below w.heap.size w w3):=(K1.out).trans ((kA.trans ((H3.out).2.2.2.mono (by omega))).mono (K1.out).size)
 have HD3:=hide (((HD.out).below kA).below (H3.out).2.2.2)
 have hrb:=(H3.out).2.1
 have hz1:=(K1.out).size
 clear H3 hnew kA
 have hL:=hS.len
 have e0:remT s (toks 0 (bs s)) 0=X.xt (bs s):=by unfold remT X.xt;simp
 go_wp2_with fail
 go_loopw [] (fun wr=>∃ (a:Nat) (rv:Value) (vs:List Value) (ps:List X.Part) (D:Nat→Prop),ps.length≤a∧Hid (Wk wr rb s (toks 0 (bs s)) tv a 0 w1.heap.size 2 rv vs ps D)∧Hid (X.fileL (X.xt (bs s))=ps++X.fileL (remT s (toks 0 (bs s)) a))∧Hid (∀ g,rv.ownBlock=some g→w3.heap.size≤g)∧Hid (∀ q,D q→w3.heap.size≤q)∧Hid (Kp (fun q=>q=rb∨q=w1.heap.size) w3 wr)) (fun wr=>(toks 0 (bs s)).length - atT rb wr)
 case atStart=>exact ⟨0,_,_,_,_,Nat.le_refl _,HW,(by show _=_;rw [e0];rfl),(fun g hg=>by cases hg),(fun q hq=>hq.elim),Kp.refl _ _⟩
 case round =>
  obtain ⟨a,rv,vs,ps,D,hpa,HWr,HE,HG,HDD,HK⟩:=hrel
  have hle:=(HWr.out).rdr.le
  have kI:(X.kindN (remT s (toks 0 (bs s)) a) !=0)=!(X.kindN (remT s (toks 0 (bs s)) a)==0):=rfl
  have hat:(toks 0 (bs s)).length - atT rb wr=(remT s (toks 0 (bs s)) a).length:=(Done.refl (HWr.out)).at
  have hln:∀ a,(remT s (toks 0 (bs s)) a).length=(toks 0 (bs s)).length - a:=fun a=>by unfold remT;simp
  go_wp2_with fail
  refine (more_any rb s (toks 0 (bs s)) tv a 0 wr (HWr.out).rdr).mono ?_
  rintro e w4 ⟨rfl,rfl⟩
  rw [kI]
  cases hk:(X.kindN (remT s (toks 0 (bs s)) a)==0) with
  | false =>
   have hlt:=X.kid_lt hk
   have HF:=hide (X.fileL_yes hk)
   go_wp2_with fail
   refine (kid_any hS rb tv a w4 (HWr.out).rdr D (HWr.out).dlt (HWr.out).sep.1 (fun q hq=>⟨((HWr.out).sepT q hq).1,((HWr.out).sepT q hq).2.2.2⟩)).mono ?_
   rintro e w5 ⟨N,D',a',rfl,H5⟩
   have HW5:Hid (Wk w5 rb s (toks 0 (bs s)) tv a' 0 w1.heap.size 2 rv vs ps D'):=(HWr.out).grown (H5.out).2.2.2.2.2.2 (H5.out).1 (H5.out).2.2.2.1 (H5.out).2.2.2.2.1 (H5.out).2.2.2.2.2.1
   have hvl:vs.length≤1073741824:=by rw [(HWr.out).len];omega
   unfold kidV
   generalize hnn:(remT s (toks 0 (bs s)) a).length - (X.kid (remT s (toks 0 (bs s)) a)).2.2.length=nn
   have HNN:Hid (nn=(X.pl (.br (X.kid (remT s (toks 0 (bs s)) a)).1 (X.kid (remT s (toks 0 (bs s)) a)).2.1)).length):=by
    have h:=congrArg List.length (X.kid_lvs (remT s (toks 0 (bs s)) a))
    rw [List.length_append] at h
    show nn=(X.pls (X.kid (remT s (toks 0 (bs s)) a)).2.1).length
    omega
   clear hnn
   go_wp2_with fail
   refine (add_any w1.heap.size 2 rv vs 81 _ w5 (HW5.out).bra (fun g hg=>((HW5.out).sepG g hg).2.2) hvl).mono ?_
   rintro e w6 ⟨rfl,rv6,b6,o6,k6⟩
   have HN:Hid (∃ (a2:Nat) (rv2:Value) (vs2:List Value) (ps2:List X.Part) (D2:Nat→Prop),a<a2∧a2≤(toks 0 (bs s)).length∧ps2.length≤a2∧Hid (Wk w6 rb s (toks 0 (bs s)) tv a2 0 w1.heap.size 2 rv2 vs2 ps2 D2)∧Hid (X.fileL (X.xt (bs s))=ps2++X.fileL (remT s (toks 0 (bs s)) a2))∧Hid (∀ g,rv2.ownBlock=some g→w3.heap.size≤g)∧Hid (∀ q,D2 q→w3.heap.size≤q)∧Hid (Kp (fun q=>q=rb∨q=w1.heap.size) w3 w6)):=by
    obtain ⟨f1,f2,f3,f4,f5,f6,f7⟩:=H5.out
    have hz34:=(HK.out).size
    have hz45:=f7.size
    have hpk:IsP w6 D' (.iface 81 (.agg #[.pointer (some ⟨N,0,none⟩),.int .i64 nn])) (.br (X.kid (remT s (toks 0 (bs s)) a)).1 (X.kid (remT s (toks 0 (bs s)) a)).2.1):=.kid N nn _ HNN.out (f3.keep k6 (fun q hq e=>by
     rcases e with e|e
     ·subst e;exact (HW5.out).sep.2.1 hq
     ·exact ((HW5.out).sepG q e).1 hq))
    have hw6:=(HW5.out).added b6 o6 k6 hpk
    have hle':=f1.le
    have hlt':a<a':=by
     rw [← f2,hln,hln] at hlt;omega
    refine ⟨a',rv6,_,_,D',hlt',hle',by rw [List.length_append];simp;omega,hw6,?_,fun g hg=>?_,fun q hq=>?_,?_⟩
    ·show _=_
     rw [HE.out,HF.out,f2,List.append_assoc];rfl
    ·rcases o6 g hg with e|e
     ·exact (HG.out) g e
     ·omega
    ·rcases f5 q hq with e|e
     ·exact (HDD.out) q e
     ·omega
    ·refine Kp.trans (Kp.trans (HK.out) f7 (fun i _ e=>.inl e)) k6 (fun i hi e=>?_)
     rcases e with e|e
     ·exact .inr e
     ·have:=(HG.out) i e;omega
   clear b6 o6 k6 HW5 H5
   obtain ⟨a2,rv2,vs2,ps2,D2,n1,n2,n3,n4,n5,n6,n7,n8⟩:=HN.out
   go_wp2_with fail
   refine ⟨⟨a2,rv2,vs2,ps2,D2,n3,n4,n5,n6,n7,n8⟩,?_⟩
   rw [hat,(Done.refl n4.out).at,hln,hln];omega
  | true =>
   have HF:=hide (X.fileL_no hk)
   go_wp2_with fail
   refine (rest_any s (toks 0 (bs s)) 0 hS rb tv a w1.heap.size 2 rv vs ps D w4 HWr.out trivial (by simp only [List.length_map];rw [hln];omega)).mono ?_
   rintro e w5 ⟨rfl,H5⟩
   have HR:Hid (∃ D2:Nat→Prop,IsP w5 D2 (.iface 73 (.pointer (some ⟨w1.heap.size,0,none⟩))) (X.file (X.xt (bs s)))∧(∀ q,D2 q→q<w5.heap.size)∧IsD w5 db dv s∧Below w.heap.size w w5):=by
    obtain ⟨a5,rv5,vs5,D5,f1,f2,f3,f4,f5,f6⟩:=H5.out
    have hz34:=(HK.out).size
    have hp:=f1.part
    have he:ps++(remT s (toks 0 (bs s)) a).map X.lf=X.fileL (X.xt (bs s)):=by rw [HE.out,HF.out]
    simp only [he] at hp
    have hkk:Kp (fun q=>q=rb∨q=w1.heap.size) w3 w5:=Kp.trans (HK.out) f6 (fun i hi e=>by
     rcases e with e|e|e
     ·exact .inl e
     ·exact .inr e
     ·have:=(HG.out) i e;omega)
    refine ⟨_,hp,?_,?_,?_⟩
    ·rintro q (e|e|e)
     ·exact f1.dlt q e
     ·subst e;exact f1.bra.lt
     ·exact (owns_ge f1.bra.row q e).2
    ·refine (HD3.out).keep hkk ?_ (fun k hk=>?_)
     ·rintro (e|e)<;>omega
     ·have:=(HDV.out) k hk
      rintro (e|e)<;>omega
    ·exact (K3.out).trans (Kp.below hkk (by have:=(K3.out).size;omega) (fun k e=>by rcases e with e|e<;>omega))
   clear H5
   go_wp2_with fail
   go_ret
   obtain ⟨D2,f1,f2,f3,f4⟩:=HR.out
   have kT:Below w5.heap.size w5 (w5.alloc (Obj.cells #[.pointer (some ⟨db,0,none⟩),.pointer (some ⟨w1.heap.size,0,none⟩)] 85)):=(Below.refl _ w5).alloc (Nat.le_refl _) _
   refine ⟨w5.heap.size,rfl,⟨⟨db,dv,w1.heap.size,D2,?_,?_,f3.below kT,f1.keep (Kp.ofBelow kT (fun _=>False)) (fun _ _=>id),fun q hq=>by have:=f2 q hq;simp;omega⟩⟩,f4.trans (kT.mono f4.size)⟩
   ·rw [cell_of_row _ _ 0 _ _ _ (heap_alloc_new w5 _)];rfl
   ·rw [cell_of_row _ _ 1 _ _ _ (heap_alloc_new w5 _)];rfl
end Go.Proofs.YtgpcpbmacdhlkaaGreatDoor
/- Plain mathematics: the layout of a file,and what it is read as. -/
namespace Go.Proofs.YtgpcpbmacdhlkaaGreatDoor
open M
namespace X
def rmk (t:Tok):Bool:=t.1==2
def remarks (ts:List Tok):List UInt8:=(ts.filter rmk).flatMap (fun t=>t.2++[10])
def item (p:Part):List UInt8 :=
 if kindOf p=3∨chars (flat [p])≤80 then flat [p]++[10]
 else flat ((pts (kidsOf p)).take ((pts (kidsOf p)).length - 2))++([10]++ex (nt ((pts (kidsOf p)).getD ((pts (kidsOf p)).length - 2) nil1)).length 2 ((pts (kidsOf p)).getD ((pts (kidsOf p)).length - 2) nil1) [59])
def kidOut (p:Part):List UInt8:=remarks (pl p)++(if kindOf p=0 then [] else item p)
def lay (ps:List Part):List UInt8:=ps.flatMap kidOut
inductive ItemOk:Part→Prop
 | use (ps:List Part):ItemOk (.br 3 ps)
 | dfn (ps l:List Part) (q:Part) (t:Tok) (h:pts ps=l++[q,lf t]) (hq:Sh q) (ht:t.2=[59]):ItemOk (.br 4 ps)
def KidOk (p:Part):Prop:=quietP p=true∨ItemOk p
mutual
def cln:Part→Bool
 | .leaf k _=>!(k==8)
 | .miss _=>false
 | .br k ps=>!(k==5)&&clns ps
def clns:List Part→Bool
 | []=>true
 | p::ps=>cln p&&clns ps
end
mutual
theorem cln_nm:∀ {p:Part},cln p=true→nm p=true
 | .leaf k x,_=>by rw [nm]
 | .miss m,h=>by rw [cln] at h;cases h
 | .br k ps,h=>by
  rw [cln] at h
  rw [nm]
  simp only [Bool.and_eq_true] at h
  exact clns_nms h.2
theorem clns_nms:∀ {ps:List Part},clns ps=true→nms ps=true
 | [],_=>rfl
 | p::ps,h=>by
  rw [clns] at h
  simp only [Bool.and_eq_true] at h
  rw [nms,cln_nm h.1,clns_nms h.2];rfl
end
theorem def_shape {ts:List Tok} (h:nms (defR ts).1=true):∃ l q t,pts (defR ts).1=l++[q,lf t]∧Sh q∧t.2=[59]:=by
 have e:∃ (a:List Part) (u:List Tok),(defR ts).1=a++((expr 65 u).1++(want [59] (expr 65 u).2).1):=by
  generalize hE:expr 65=E
  refine ⟨(want sDef ts).1++((wname (want sDef ts).2).1++(((if isN [40] (wname (want sDef ts).2).2 then params (wname (want sDef ts).2).2 else ([],(wname (want sDef ts).2).2)):List Part × List Tok).1++(want [61] (((if isN [40] (wname (want sDef ts).2).2 then params (wname (want sDef ts).2).2 else ([],(wname (want sDef ts).2).2)):List Part × List Tok).2)).1)),(want [61] (((if isN [40] (wname (want sDef ts).2).2 then params (wname (want sDef ts).2).2 else ([],(wname (want sDef ts).2).2)):List Part × List Tok).2)).2,?_⟩
  unfold defR
  rw [hE]
  simp only [andThen,List.append_assoc]
 obtain ⟨a,u,e⟩:=e
 rw [e] at h ⊢
 obtain ⟨m1,m2⟩:=nms_two h
 obtain ⟨m3,m4⟩:=nms_two m2
 obtain ⟨q,q1,q2⟩:=ShR.expr 65 u m3
 obtain ⟨t,t1,t2⟩:=want_pts m4
 refine ⟨pts a,q,t,?_,q2,t1⟩
 rw [pts_append,pts_append,q1,q2.pts,t2];rfl
theorem kid_ok {ts:List Tok} (h:cln (.br (kid ts).1 (kid ts).2.1)=true):ItemOk (.br (kid ts).1 (kid ts).2.1):=by
 rw [kid_eq] at h ⊢
 cases hs:starts ts with
 | false =>
  rw [hs,if_neg (by simp)] at h
  rw [cln] at h;cases h
 | true =>
  rw [hs,if_pos rfl] at h
  rw [if_pos rfl]
  cases hu:isN sUse (optPub ts).2 with
  | true=>rw [if_pos rfl];exact .use _
  | false =>
   rw [hu,if_neg (by simp)] at h
   rw [if_neg (by simp)]
   have h1:=cln_nm h
   rw [nm_br] at h1
   have e:(andThen optPub defR ts).1=(optPub ts).1++(defR (optPub ts).2).1:=rfl
   show ItemOk (.br 4 (andThen optPub defR ts).1)
   have h2:nms (andThen optPub defR ts).1=true:=h1
   rw [e] at h2 ⊢
   obtain ⟨l,q,t,d1,d2,d3⟩:=def_shape (nms_two h2).2
   refine .dfn _ (pts (optPub ts).1++l) q t ?_ d2 d3
   rw [pts_append,d1,List.append_assoc]
theorem quiet_all {ts:List Tok} (h:(kindN ts==0)=true) (hk:∀ t∈ts,t.1≠0):∀ t∈ts,quiet t=true:=by
 have hn:ts.dropWhile quiet=[]:=by
  cases hd:ts.dropWhile quiet with
  | nil=>rfl
  | cons t l =>
   exfalso
   have hm:t∈ts:=(List.dropWhile_sublist (p:=quiet) (l:=ts)).subset (by rw [hd];simp)
   unfold kindN nxt at h
   rw [hd] at h
   simp only [List.head?_cons,beq_iff_eq] at h
   exact hk t hm h
 intro t ht
 have:=List.takeWhile_append_dropWhile (p:=quiet) (l:=ts)
 rw [hn,List.append_nil] at this
 rw [← this] at ht
 exact List.all_eq_true.1 List.all_takeWhile t ht
theorem fileL_kids (n:Nat):∀ ts:List Tok,ts.length≤n→(∀ t∈ts,t.1≠0)→clns (fileL ts)=true→∀ p∈fileL ts,KidOk p:=by
 induction n with
 | zero =>
  intro ts h hk hc p hp
  have:ts=[]:=List.length_eq_zero_iff.1 (by omega)
  subst this;cases hp
 | succ n ih =>
  intro ts h hk hc p hp
  cases h0:(kindN ts==0) with
  | true =>
   rw [fileL_no h0] at hp
   obtain ⟨t,ht,rfl⟩:=List.mem_map.1 hp
   exact .inl (by rw [quiet_lf];exact quiet_all h0 hk t ht)
  | false =>
   rw [fileL_yes h0] at hp hc
   rw [clns] at hc
   simp only [Bool.and_eq_true] at hc
   rcases List.mem_cons.1 hp with rfl|hp
   ·exact .inr (kid_ok hc.1)
   ·have hl:=kid_lt h0
    refine ih _ (by omega) (fun t ht=>hk t ?_) hc.2 p hp
    rw [← kid_lvs ts];exact List.mem_append_right _ ht
end X
end Go.Proofs.YtgpcpbmacdhlkaaGreatDoor
/- Plain mathematics: what is read does not hang on tokens that are quiet. -/
namespace Go.Proofs.YtgpcpbmacdhlkaaGreatDoor
open M
namespace X
variable {d:Tok→Bool}
end X
end Go.Proofs.YtgpcpbmacdhlkaaGreatDoor
/- Plain mathematics: a layout does not hang on what is quiet. -/
namespace Go.Proofs.YtgpcpbmacdhlkaaGreatDoor
open M
namespace X
theorem cln_starts {ts:List Tok} (h:cln (.br (kid ts).1 (kid ts).2.1)=true):starts ts=true:=by
 cases hs:starts ts with
 | true=>rfl
 | false =>
  rw [kid_eq,hs,if_neg (by simp),cln] at h;cases h
end X
end Go.Proofs.YtgpcpbmacdhlkaaGreatDoor
/- Plain mathematics: laid out once is laid out for good;a layout is read as the text was. -/
namespace Go.Proofs.YtgpcpbmacdhlkaaGreatDoor
open M
namespace X
theorem lou_rmk {t:Tok} (h:rmk t=true):lou t=false:=by unfold rmk at h;unfold lou;simp at h ⊢;omega
theorem lou_quiet (t:Tok):lou t=!quiet t:=rfl
theorem fileL_toks (ts:List Tok):pls (fileL ts)=ts:=fileGo_lvs _ ts
theorem want_end {s:List UInt8} {ts:List Tok} (h:nms (want s ts).1=true):∃ x t,pls (want s ts).1=x++[t]∧lou t=true:=by
 unfold want at h ⊢
 by_cases hc:isN s ts=true
 ·rw [if_pos hc]
  have hn:=isN_next hc
  unfold nxt at hn
  cases hd:ts.dropWhile quiet with
  | nil=>rw [hd] at hn;exact absurd rfl hn
  | cons t l =>
   have hne:quiet t=false:=by
    have:=List.head?_dropWhile_not quiet ts
    rw [hd] at this
    simpa using this
   refine ⟨ts.takeWhile quiet,t,?_,by rw [lou_quiet,hne];rfl⟩
   show pls ((ts.takeWhile quiet++(ts.dropWhile quiet).take 1).map lf)=_
   rw [hd,pls_lf];rfl
 ·rw [if_neg hc] at h;cases h
theorem kid_end {ts:List Tok} (h:cln (.br (kid ts).1 (kid ts).2.1)=true):∃ x t,pls (kid ts).2.1=x++[t]∧lou t=true:=by
 have hs:=cln_starts h
 have h1:=cln_nm h
 rw [nm_br] at h1
 have key:∀ (a:List Part) (u:List Tok),(kid ts).2.1=a++(want [59] u).1→∃ x t,pls (kid ts).2.1=x++[t]∧lou t=true:=by
  intro a u e
  rw [e] at h1 ⊢
  obtain ⟨x,t,e1,e2⟩:=want_end (nms_two h1).2
  exact ⟨pls a++x,t,by rw [pls_append,e1,List.append_assoc],e2⟩
 have:∃ (a:List Part) (u:List Tok),(kid ts).2.1=a++(want [59] u).1:=by
  rw [kid_eq,hs,if_pos rfl]
  split
  ·unfold useR
   simp only [andThen]
   simp only [← List.append_assoc]
   exact ⟨_,_,rfl⟩
  ·unfold defR
   simp only [andThen]
   simp only [← List.append_assoc]
   exact ⟨_,_,rfl⟩
 obtain ⟨a,u,e⟩:=this
 exact key a u e
end X
end Go.Proofs.YtgpcpbmacdhlkaaGreatDoor
/- Plain mathematics: laid out once is laid out for good;a layout is read as the text was. -/
namespace Go.Proofs.YtgpcpbmacdhlkaaGreatDoor
open M
namespace X
def layOf (s:List UInt8):List UInt8:=lay (fileL (xt s))
theorem xt_kind {s:List UInt8}:∀ t∈xt s,t.1≠0:=fun t ht=>by
 have:=(xt_fits s t ht).2.2.2.1;omega
end X
end Go.Proofs.YtgpcpbmacdhlkaaGreatDoor
/- Plain mathematics: how long a layout can be. -/
namespace Go.Proofs.YtgpcpbmacdhlkaaGreatDoor
open M
namespace X
mutual
def dp:Part→Nat
 | .leaf _ _=>0
 | .miss _=>0
 | .br k ps=>if k=10 then dpb ps else dps ps+(if k=8∨k=9∨k=12∨k=13∨k=14 then 2 else 0)
def dps:List Part→Nat
 | []=>0
 | p::ps=>max (dp p) (dps ps)
def dpb:List Part→Nat
 | []=>0
 | p::ps=>max (dp p) (dps ps+2)
end
theorem dps_append (a b:List Part):dps (a++b)=max (dps a) (dps b):=by
 induction a with
 | nil=>rw [List.nil_append,dps,Nat.zero_max]
 | cons p a ih=>rw [List.cons_append,dps,ih,dps,Nat.max_assoc]
theorem dps_mem {ps:List Part} {p:Part} (h:p∈ps):dp p≤dps ps:=by
 induction ps with
 | nil=>cases h
 | cons q ps ih =>
  rw [dps]
  rcases List.mem_cons.1 h with rfl|h
  ·exact Nat.le_max_left _ _
  ·exact Nat.le_trans (ih h) (Nat.le_max_right _ _)
theorem dps_lf (ts:List Tok):dps (ts.map lf)=0:=by
 induction ts with
 | nil=>rfl
 | cons t ts ih=>rw [List.map_cons,dps,ih];rfl
theorem dps_take (ts:List Tok):dps (take ts).1=0:=dps_lf _
theorem dps_want (s:List UInt8) (ts:List Tok):dps (want s ts).1=0:=by
 unfold want;split
 ·exact dps_take ts
 ·rfl
theorem dps_wname (ts:List Tok):dps (wname ts).1=0:=by
 unfold wname;split
 ·exact dps_take ts
 ·rfl
theorem dps_pts (ps:List Part):dps (pts ps)≤dps ps:=by
 induction ps with
 | nil=>exact Nat.le_refl _
 | cons p ps ih =>
  unfold pts at *
  rw [dps]
  cases h:quietP p with
  | true=>rw [List.filter_cons_of_neg (by simp [h])];omega
  | false=>rw [List.filter_cons_of_pos (by simp [h]),dps];omega
def Db (f:R) (B:Nat):Prop:=∀ ts,dps (f ts).1≤B
theorem Db.andThen {f g:R} {B:Nat} (hf:Db f B) (hg:Db g B):Db (X.andThen f g) B:=fun ts=>by
 show dps ((f ts).1++(g (f ts).2).1)≤B
 rw [dps_append]
 have:=hf ts
 have:=hg (f ts).2
 omega
theorem Db.zero {f:R} {B:Nat} (h:∀ ts,dps (f ts).1=0):Db f B:=fun ts=>by rw [h];omega
theorem Db.take {B:Nat}:Db X.take B:=Db.zero dps_take
theorem Db.want {B:Nat} (s:List UInt8):Db (X.want s) B:=Db.zero (dps_want s)
theorem Db.wname {B:Nat}:Db X.wname B:=Db.zero dps_wname
theorem Db.mono {f:R} {B C:Nat} (h:Db f B) (hc:B≤C):Db f C:=fun ts=>Nat.le_trans (h ts) hc
theorem Db.node {f:R} {B:Nat} (h:Db f B) (k:Nat) (hk:k≠10):Db (X.node k f) (B+2):=fun ts=>by
 show dps [.br k (f ts).1]≤_
 rw [dps,dps,dp,if_neg hk]
 have:=h ts
 split<;>omega
theorem Db.node0 {f:R} {B:Nat} (h:Db f B) (k:Nat) (hk:k≠10) (hk2:¬(k=8∨k=9∨k=12∨k=13∨k=14)):Db (X.node k f) B:=fun ts=>by
 show dps [.br k (f ts).1]≤_
 rw [dps,dps,dp,if_neg hk,if_neg hk2]
 have:=h ts
 omega
theorem Db.ite {f g:R} {c:List Tok→Bool} {B:Nat} (hf:Db f B) (hg:Db g B):Db (fun ts=>if c ts then f ts else g ts) B:=by
 intro ts
 show dps (if c ts then f ts else g ts).1≤B
 split
 ·exact hf ts
 ·exact hg ts
theorem Db.sevGo {one:R} {B:Nat} (h:Db one B):∀ n,Db (X.sevGo one n) B
 | 0=>Db.zero (fun _=>rfl)
 | n+1=>Db.ite (c:=isN [44]) (Db.take.andThen (h.andThen (Db.sevGo h n))) (Db.zero (fun _=>rfl))
theorem Db.several {one:R} {B:Nat} (h:Db one B) (c:List UInt8):Db (X.several one c) B :=
 Db.ite (c:=isN c) (Db.want c) (h.andThen (Db.andThen (f:=fun ts=>X.sevGo one ts.length ts) (fun ts=>Db.sevGo h ts.length ts) (Db.want c)))
theorem rowGo_db {one:R} {ok:List Tok→Bool} {B:Nat} (h:Db one B):∀ (n:Nat) (p:Part) (ts:List Tok),dp p≤B+2→dps (rowGo one ok n [p] ts).1≤B+2
 | 0,p,ts,hp=>by
  show dps [p]≤_
  rw [dps,dps];omega
 | n+1,p,ts,hp=>by
  unfold X.rowGo
  split
  ·refine rowGo_db h n _ _ ?_
   rw [dp,if_pos rfl]
   show dpb (p::((X.take ts).1++(one (X.take ts).2).1))≤_
   rw [dpb,dps_append,dps_take]
   have:=h (X.take ts).2
   omega
  ·show dps [p]≤_
   rw [dps,dps];omega
def O1 (f:R):Prop:=∀ ts,∃ p,(f ts).1=[p]
theorem Db.row {one:R} {ok:List Tok→Bool} {B:Nat} (h:Db one B) (ho:O1 one):Db (X.row one ok) (B+2):=by
 intro ts
 obtain ⟨p,hp⟩:=ho ts
 show dps (rowGo one ok (one ts).2.length (one ts).1 (one ts).2).1≤_
 rw [hp]
 refine rowGo_db h _ p _ ?_
 have:=h ts
 rw [hp,dps,dps] at this
 omega
theorem rowGo_o1 {one:R} {ok:List Tok→Bool}:∀ (n:Nat) (p:Part) (ts:List Tok),∃ q,(rowGo one ok n [p] ts).1=[q]
 | 0,p,ts=>⟨p,rfl⟩
 | n+1,p,ts=>by
  unfold X.rowGo
  split
  ·exact rowGo_o1 n _ _
  ·exact ⟨p,rfl⟩
theorem O1.row {one:R} {ok:List Tok→Bool} (ho:O1 one):O1 (X.row one ok):=by
 intro ts
 obtain ⟨p,hp⟩:=ho ts
 show ∃ q,(rowGo one ok (one ts).2.length (one ts).1 (one ts).2).1=[q]
 rw [hp];exact rowGo_o1 _ p _
theorem Db.args {E:R} {B:Nat} (h:Db E B):Db (X.args E) (B+2):=(Db.take.andThen (h.several _)).node 12 (by decide)
theorem callGo_db {E:R} {B:Nat} (h:Db E B):∀ (n:Nat) (p:Part) (ts:List Tok),dp p≤B+2→(∃ q,(callGo E n [p] ts).1=[q])∧dps (callGo E n [p] ts).1≤B+2
 | 0,p,ts,hp=>⟨⟨p,rfl⟩,by show dps [p]≤_;rw [dps,dps];omega⟩
 | n+1,p,ts,hp=>by
  unfold X.callGo
  split
  ·refine callGo_db h n _ _ ?_
   rw [dp,if_neg (by decide),if_neg (by decide),dps_append,dps,dps]
   have:=h.args ts
   omega
  ·exact ⟨⟨p,rfl⟩,by show dps [p]≤_;rw [dps,dps];omega⟩
theorem O1.part (E:R):O1 (X.part E):=by
 intro ts
 unfold X.part
 repeat' split
 all_goals exact ⟨_,rfl⟩
theorem Db.part {E:R} {B:Nat} (h:Db E B):Db (X.part E) (B+2) :=
 Db.ite (c:=fun ts=>kindN ts==5) (Db.take.node _ (by decide)) <|
 Db.ite (c:=fun ts=>kindN ts==6) (Db.take.node _ (by decide)) <|
 Db.ite (c:=fun ts=>isN [116,114,117,101] ts||isN [102,97,108,115,101] ts) (Db.take.node _ (by decide)) <|
 Db.ite (c:=fun ts=>kindN ts==3) (Db.take.node _ (by decide)) <|
 Db.ite (c:=isN [63]) (Db.take.node _ (by decide)) <|
 Db.ite (c:=isN [40]) ((Db.take.andThen (h.andThen (Db.want _))).node _ (by decide)) <|
 Db.ite (c:=isN [91]) ((Db.take.andThen (h.several _)).node _ (by decide)) (Db.zero (fun _=>rfl))
theorem call_both {E:R} {B:Nat} (h:Db E B):O1 (X.call E)∧Db (X.call E) (B+2):=by
 have key:∀ ts,(∃ q,(X.call E ts).1=[q])∧dps (X.call E ts).1≤B+2:=by
  intro ts
  obtain ⟨p,hp⟩:=O1.part E ts
  have hb:=h.part ts
  rw [hp,dps,dps] at hb
  show (∃ q,(callGo E (X.part E ts).2.length (X.part E ts).1 (X.part E ts).2).1=[q])∧dps (callGo E (X.part E ts).2.length (X.part E ts).1 (X.part E ts).2).1≤B+2
  rw [hp]
  exact callGo_db h _ p _ (by omega)
 exact ⟨fun ts=>(key ts).1,fun ts=>(key ts).2⟩
theorem sum_both {E:R} {B:Nat} (h:Db E B):O1 (X.sum E)∧Db (X.sum E) (B+6):=by
 obtain ⟨o,d⟩:=call_both h
 have o2:O1 (X.product E):=o.row
 have d2:Db (X.product E) (B+4):=d.row o
 exact ⟨o2.row,d2.row o2⟩
theorem Db.comparison {E:R} {B:Nat} (h:Db E B):Db (X.comparison E) (B+8):=by
 obtain ⟨o,d⟩:=sum_both h
 intro ts
 unfold X.comparison
 generalize X.sum E=F at *
 split
 ·obtain ⟨p,hp⟩:=o ts
  show dps [.br 10 ((F ts).1++((X.take (F ts).2).1++(F (X.take (F ts).2).2).1))]≤_
  have h1:=d ts
  have h2:=d (X.take (F ts).2).2
  rw [hp,dps,dps] at h1
  rw [hp,dps,dps,dp,if_pos rfl]
  show max (dpb (p::((X.take (F ts).2).1++(F (X.take (F ts).2).2).1))) 0≤_
  rw [dpb,dps_append,dps_take]
  omega
 ·have:=d ts;omega
theorem Db.params {B:Nat}:Db X.params B:=by
 refine Db.node0 (B:=B) ?_ 6 (by decide) (by decide)
 exact (Db.want _).andThen (Db.wname.several _)
theorem Db.expr:∀ n,Db (X.expr n) (8*n)
 | 0=>Db.zero (fun _=>rfl)
 | n+1=>by
  have h:Db (X.expr n) (8*n):=Db.expr n
  refine Db.ite (c:=isN [108,101,116]) ?_ (Db.ite (c:=isN [105,102]) ?_ (Db.ite (c:=isN [102,117,110]) ?_ ?_))
  ·exact (Db.node0 (Db.take.andThen (Db.wname.andThen ((Db.want _).andThen (h.andThen ((Db.want _).andThen h))))) 7 (by decide) (by decide)).mono (by omega)
  ·exact ((Db.take.andThen (h.andThen ((Db.want _).andThen (h.andThen ((Db.want _).andThen h))))).node 8 (by decide)).mono (by omega)
  ·exact ((Db.take.andThen (Db.params.andThen ((Db.want _).andThen h))).node 9 (by decide)).mono (by omega)
  ·exact h.comparison.mono (by omega)
end X
end Go.Proofs.YtgpcpbmacdhlkaaGreatDoor
/- Plain mathematics: how long a layout can be,and how many tokens it has. -/
namespace Go.Proofs.YtgpcpbmacdhlkaaGreatDoor
open M
namespace X
def wt (M:Nat):List Tok→Nat
 | []=>0
 | t::l=>(t.2.length+(M+2))+wt M l
theorem wt_append (M:Nat) (a b:List Tok):wt M (a++b)=wt M a+wt M b:=by
 induction a with
 | nil=>rw [List.nil_append,wt,Nat.zero_add]
 | cons t a ih=>rw [List.cons_append,wt,ih,wt];omega
theorem wt_one (M:Nat) (t:Tok):wt M [t]=t.2.length+(M+2):=by rw [wt,wt,Nat.add_zero]
theorem flt_len:∀ (M:Nat) (l:List Lf),l≠[]→(flt l).length+(M+1)≤wt M (l.map (·.1))
 | M,[],h=>absurd rfl h
 | M,[a],_=>by rw [flt,List.map_cons,List.map_nil,wt,wt];omega
 | M,b::a::l,_=>by
  have ih:=flt_len M (a::l) (by simp)
  rw [flt,List.map_cons,wt,List.length_append,List.length_append]
  have:(if tight b a then ([]:List UInt8) else [32]).length≤1:=by split<;>simp
  omega
theorem flat_len {M:Nat} {ps:List Part} (h:nts' ps≠[]):(flat ps).length+(M+1)≤wt M (nts' ps):=by
 unfold flat
 rw [← fls_fst false]
 refine flt_len M _ (fun e=>h ?_)
 rw [← fls_fst false,e];rfl
theorem line_len (n:Nat) (s:List UInt8):(line n s).length=n+s.length+1:=by
 unfold line;simp;omega
theorem lou_nt {ps:List Part} {k:Nat} {t:Tok} (h:lf t∈pts ps):t∈nt (.br k ps):=by
 rw [nt_br]
 obtain ⟨a,b,e⟩:=List.append_of_mem h
 rw [e,nts_append,nts_cons,nt_lf' h]
 simp
theorem Sh.ne {p:Part} (h:Sh p):nt p≠[]:=by
 have key:∀ {k:Nat} {ps:List Part} {t:Tok},lf t∈X.pts ps→nt (.br k ps)≠[]:=fun {k ps t} h e=>by
  have:=lou_nt (k:=k) h
  rw [e] at this;cases this
 cases h with
 | tok k t ps hk h=>exact key (t:=t) (by rw [h];simp)
 | lett ps a b c d p q h hp hq=>exact key (t:=a) (by rw [h];simp)
 | ite ps a b c p q s h hc hp hq hs=>exact key (t:=a) (by rw [h];simp)
 | fn ps a b qs p h hp=>exact key (t:=a) (by rw [h];simp)
 | bin ps p a q h hp hq=>exact key (t:=a) (by rw [h];simp)
 | call ps p qs h hp hb =>
  rw [nt_br,h,nts_cons,nts_one,nt_br]
  intro e
  have e2:=(List.append_eq_nil_iff.1 e).2
  generalize hq:X.pts qs=l at *
  cases hb with
  | none _ _ a b ha hb =>
   rw [nts_cons,nt_lf' (ps:=qs) (by rw [hq];simp)] at e2
   simp at e2
  | some _ _ a m ha h2 =>
   rw [nts_cons,nt_lf' (ps:=qs) (by rw [hq];simp)] at e2
   simp at e2
 | list ps hb =>
  generalize hq:X.pts ps=l at *
  cases hb with
  | none _ _ a b ha hb=>exact key (t:=a) (by rw [hq];simp)
  | some _ _ a m ha h2=>exact key (t:=a) (by rw [hq];simp)
 | group ps a p b h ha hb hp=>exact key (t:=a) (by rw [h];simp)
theorem dpb_pts {ps:List Part} {p:Part} {l:List Part} (h:pts ps=p::l):dp p≤dpb ps∧(dps l)+2≤dpb ps:=by
 cases ps with
 | nil=>cases h
 | cons x r =>
  rw [dpb]
  unfold pts at h
  cases hq:quietP x with
  | true =>
   rw [List.filter_cons_of_neg (by simp [hq])] at h
   have:=dps_pts r
   unfold pts at this
   rw [h,dps] at this
   omega
  | false =>
   rw [List.filter_cons_of_pos (by simp [hq])] at h
   injection h with h1 h2
   subst h1
   have:=dps_pts r
   unfold pts at this
   rw [h2] at this
   omega
theorem dp_pts {k:Nat} (hk:k≠10) {ps:List Part} {l:List Part} (h:pts ps=l) {p:Part} (hp:p∈l):dp p+(if k=8∨k=9∨k=12∨k=13∨k=14 then 2 else 0)≤dp (.br k ps):=by
 rw [dp,if_neg hk]
 have h1:=dps_pts ps
 rw [h] at h1
 have h2:=dps_mem hp
 omega
def Ln (M n:Nat) (E:Part→List UInt8→List UInt8):Prop:=∀ p e,Sh p→n+dp p≤M→(E p e).length≤wt M (nt p)+e.length
theorem many_len {M n m:Nat} {E:Part→List UInt8→List UInt8} (hE:Ln M m E) (hn:n≤M) (e:List UInt8):∀ (f:Nat) {c:List UInt8} {l:List Part},l.length≤f→ShA c l→(∀ p∈l,m+dp p≤M)→(∀ t:Tok,lf t∈l→lou t=true) →
  2≤l.length∧(many E l).length+(line n (textOf (l.getD (l.length - 1) nil1)++e)).length≤wt M (nts' l)+e.length:=by
 intro f
 induction f with
 | zero=>intro c l hl h;cases h<;>simp at hl
 | succ f ih =>
  intro c l hl h hd ht
  cases h with
  | last _ p b hp hb =>
   have h1:=hE p [] hp (hd p (by simp))
   refine ⟨Nat.le_refl _,?_⟩
   show (E p []).length+(line n (b.2++e)).length≤_
   rw [nts_cons,nts_one,nt_lf,if_pos (ht b (by simp)),wt_append,wt_one,line_len,List.length_append]
   simp only [List.length_nil] at h1
   omega
  | more _ p b q m' hp hb h =>
   obtain ⟨i1,i2⟩:=ih (by simp at hl ⊢;omega) h (fun x hx=>hd x (List.mem_cons_of_mem _ (List.mem_cons_of_mem _ hx))) (fun t hx=>ht t (List.mem_cons_of_mem _ (List.mem_cons_of_mem _ hx)))
   have h1:=hE p [44] hp (hd p (by simp))
   refine ⟨by simp,?_⟩
   have e1:(p::lf b::q::m').getD ((p::lf b::q::m').length - 1) nil1=(q::m').getD ((q::m').length - 1) nil1:=by
    simp only [List.length_cons,Nat.add_sub_cancel]
    rw [show m'.length+1+1=(m'.length)+2 from rfl]
    rfl
   rw [e1,nts_cons p,nts_cons (lf b),nt_lf,if_pos (ht b (by simp)),wt_append,wt_append,wt_one]
   show (E p [44]++many E (q::m')).length+_≤_
   rw [List.length_append]
   simp only [List.length_cons,List.length_nil] at h1
   omega
theorem bracket_len {M n:Nat} {E:Part→List UInt8→List UInt8} (hE:Ln M (n+2) E) (hn:n≤M) {e whole first:List UInt8} {o c:List UInt8} {l:List Part} (hb:ShB o c l) (hd:∀ p∈l,n+2+dp p≤M) (ht:∀ t:Tok,lf t∈l→lou t=true) {W:Nat} (hw:whole.length≤W+wt M (nts' l)+e.length) (hf:first.length≤W+1):(bracket E n whole first l e).length≤W+wt M (nts' l)+e.length:=by
 unfold bracket
 cases hb with
 | none _ _ a b ha hb=>rw [if_pos (by rfl)];exact hw
 | some _ _ a m ha h =>
  obtain ⟨i1,i2⟩:=many_len hE hn e _ (Nat.le_refl _) h (fun x hx=>hd x (List.mem_cons_of_mem _ hx)) (fun t hx=>ht t (List.mem_cons_of_mem _ hx))
  rw [if_neg (by simp only [List.length_cons];omega)]
  have e1:(lf a::m).getD ((lf a::m).length - 1) nil1=m.getD (m.length - 1) nil1:=by
   obtain ⟨x,hx⟩:∃ x,m.length=x+1:=⟨m.length - 1,by omega⟩
   simp only [List.length_cons,hx,Nat.add_sub_cancel]
   rfl
  rw [e1,nts_cons,nt_lf,if_pos (ht a (by simp)),wt_append,wt_one,List.length_append,List.length_append,line_len]
  show _+((many E m).length+_)≤_
  omega
theorem whole_len {M n:Nat} (hn:n≤M) {p:Part} (h:nt p≠[]) (e:List UInt8):(line n (flat [p]++e)).length≤wt M (nt p)+e.length:=by
 have:=flat_len (M:=M) (ps:=[p]) (by rw [nts_one];exact h)
 rw [nts_one] at this
 rw [line_len,List.length_append];omega
theorem line_len0 {M n:Nat} (hn:n≤M) {ps:List Part} (h:nts' ps≠[]):(line n (flat ps)).length≤wt M (nts' ps):=by
 have:=flat_len (M:=M) h
 rw [line_len];omega
theorem ex_len {M:Nat}:∀ (f n:Nat),Ln M n (ex f n):=by
 intro f
 induction f with
 | zero=>intro n p e hs hd;unfold ex;exact whole_len (by omega) hs.ne e
 | succ f ih =>
 intro n p e hs hd
 have hW:=whole_len (M:=M) (n:=n) (by omega) hs.ne e
 unfold ex
 by_cases hw:n+chars (flat [p])+1≤80
 ·rw [if_pos hw];exact hW
 rw [if_neg hw]
 cases hs with
 | tok k t ps hk h =>
  have e0:kindOf (.br k ps)=k:=rfl
  rw [e0,if_neg (by omega),if_neg (by omega),if_neg (by omega),if_neg (by omega),if_neg (by omega),if_neg (by omega),if_neg (by omega)]
  exact hW
 | lett ps a b c d p q h hp hq =>
  rw [show kindOf (.br 7 ps)=7 from rfl,if_pos rfl]
  have e1:kidsOf (.br 7 ps)=ps:=rfl
  have la:lou a=true:=mem_pts h (by simp)
  have d1:=dp_pts (k:=7) (by decide) h (p:=q) (by simp)
  rw [if_neg (by decide)] at d1
  rw [nt_br,e1,h]
  have e2:nts' [lf a,lf b,lf c,p,lf d,q]=nts' [lf a,lf b,lf c,p,lf d]++nt q:=by rw [← nts_one,← nts_append];rfl
  have e3:nts' [lf a,lf b,lf c,p,lf d]≠[]:=by rw [nts_cons,nt_lf,if_pos la];simp
  rw [e2,wt_append]
  show (line n (flat [lf a,lf b,lf c,p,lf d])++ex f n q e).length≤_
  have:=line_len0 (M:=M) (n:=n) (by omega) e3
  have:=ih n q e hq (by omega)
  rw [List.length_append];omega
 | ite ps a b c p q s h hc hp hq hs =>
  rw [show kindOf (.br 8 ps)=8 from rfl,if_neg (by decide),if_pos rfl]
  have e1:kidsOf (.br 8 ps)=ps:=rfl
  have la:lou a=true:=mem_pts h (by simp)
  have lc:lou c=true:=mem_pts h (by simp)
  have d1:=dp_pts (k:=8) (by decide) h (p:=q) (by simp)
  have d2:=dp_pts (k:=8) (by decide) h (p:=s) (by simp)
  rw [if_pos (by decide)] at d1 d2
  rw [nt_br,e1,h]
  have e2:nts' [lf a,p,lf b,q,lf c,s]=nts' [lf a,p,lf b]++(nt q++([c]++nt s)):=by
   rw [show [lf a,p,lf b,q,lf c,s]=[lf a,p,lf b]++[q,lf c,s] from rfl,nts_append,nts_cons q,nts_cons (lf c),nts_one,nt_lf,if_pos lc]
  have e3:nts' [lf a,p,lf b]≠[]:=by rw [nts_cons,nt_lf,if_pos la];simp
  rw [e2,wt_append,wt_append,wt_append,wt_one]
  show (line n (flat [lf a,p,lf b])++(ex f (n+2) q []++(line n sElse++ex f (n+2) s e))).length≤_
  have:=line_len0 (M:=M) (n:=n) (by omega) e3
  have h1:=ih (n+2) q [] hq (by omega)
  have:=ih (n+2) s e hs (by omega)
  simp only [List.length_nil] at h1
  rw [List.length_append,List.length_append,List.length_append,line_len n sElse,← hc];omega
 | fn ps a b qs p h hp =>
  rw [show kindOf (.br 9 ps)=9 from rfl,if_neg (by decide),if_neg (by decide),if_pos rfl]
  have e1:kidsOf (.br 9 ps)=ps:=rfl
  have la:lou a=true:=mem_pts h (by simp)
  have d1:=dp_pts (k:=9) (by decide) h (p:=p) (by simp)
  rw [if_pos (by decide)] at d1
  rw [nt_br,e1,h]
  have e2:nts' [lf a,.br 6 qs,lf b,p]=nts' [lf a,.br 6 qs,lf b]++nt p:=by rw [← nts_one,← nts_append];rfl
  have e3:nts' [lf a,.br 6 qs,lf b]≠[]:=by rw [nts_cons,nt_lf,if_pos la];simp
  rw [e2,wt_append]
  show (line n (flat [lf a,.br 6 qs,lf b])++ex f (n+2) p e).length≤_
  have:=line_len0 (M:=M) (n:=n) (by omega) e3
  have:=ih (n+2) p e hp (by omega)
  rw [List.length_append];omega
 | bin ps p a q h hp hq =>
  rw [show kindOf (.br 10 ps)=10 from rfl,if_neg (by decide),if_neg (by decide),if_neg (by decide),if_pos rfl]
  have e1:kidsOf (.br 10 ps)=ps:=rfl
  have la:lou a=true:=mem_pts h (by simp)
  obtain ⟨d1,d2⟩:=dpb_pts h
  have d3:dp q≤dps [lf a,q]:=dps_mem (by simp)
  have d4:dp (.br 10 ps)=dpb ps:=by rw [dp,if_pos rfl]
  rw [nt_br,e1,h]
  have e2:nts' [p,lf a,q]=nt p++([a]++nt q):=by rw [nts_cons,nts_cons,nts_one,nt_lf,if_pos la]
  rw [e2,wt_append,wt_append,wt_one]
  show (ex f n p []++(line n a.2++ex f (n+2) q e)).length≤_
  have h1:=ih n p [] hp (by omega)
  have:=ih (n+2) q e hq (by omega)
  simp only [List.length_nil] at h1
  rw [List.length_append,List.length_append,line_len];omega
 | call ps p qs h hp hb =>
  rw [show kindOf (.br 11 ps)=11 from rfl,if_neg (by decide),if_neg (by decide),if_neg (by decide),if_neg (by decide),if_pos rfl]
  have e1:kidsOf (.br 11 ps)=ps:=rfl
  have d1:=dp_pts (k:=11) (by decide) h (p:=.br 12 qs) (by simp)
  rw [if_neg (by decide)] at d1
  rw [nt_br,h] at hW ⊢
  rw [e1,h]
  have e2:nts' [p,.br 12 qs]=nt p++nts' (pts qs):=by rw [nts_cons,nts_one,nt_br]
  rw [e2,wt_append] at hW ⊢
  show (bracket (ex f (n+2)) n (line n (flat [.br 11 ps]++e)) (flat [p]++[40]) (pts qs) e).length≤_
  refine bracket_len (ih (n+2)) (by omega) hb (fun x hx=>?_) (fun t ht=>pts_lou ht) hW ?_
  ·have:=dp_pts (k:=12) (by decide) rfl hx
   rw [if_pos (by decide)] at this
   omega
  ·have:=flat_len (M:=M) (ps:=[p]) (by rw [nts_one];exact hp.ne)
   rw [nts_one] at this
   rw [List.length_append,List.length_singleton];omega
 | list ps hb =>
  rw [show kindOf (.br 13 ps)=13 from rfl,if_neg (by decide),if_neg (by decide),if_neg (by decide),if_neg (by decide),if_neg (by decide),if_pos rfl]
  rw [nt_br] at hW ⊢
  show (bracket (ex f (n+2)) n (line n (flat [.br 13 ps]++e)) [91] (pts ps) e).length≤_
  have:=bracket_len (W:=0) (whole:=line n (flat [.br 13 ps]++e)) (first:=[91]) (ih (n+2)) (by omega) hb (fun x hx=>by
   have:=dp_pts (k:=13) (by decide) rfl hx
   rw [if_pos (by decide)] at this
   omega) (fun t ht=>pts_lou ht) (e:=e) (by omega) (by simp)
  omega
 | group ps a p b h ha hb hp =>
  rw [show kindOf (.br 14 ps)=14 from rfl,if_neg (by decide),if_neg (by decide),if_neg (by decide),if_neg (by decide),if_neg (by decide),if_neg (by decide),if_pos rfl]
  rw [nt_br] at hW ⊢
  show (bracket (ex f (n+2)) n (line n (flat [.br 14 ps]++e)) [40] (pts ps) e).length≤_
  have hB:ShB [40] [41] (pts ps):=by rw [h];exact .some [40] [41] a _ ha (.last [41] p b hp hb)
  have:=bracket_len (W:=0) (whole:=line n (flat [.br 14 ps]++e)) (first:=[40]) (ih (n+2)) (by omega) hB (fun x hx=>by
   have:=dp_pts (k:=14) (by decide) rfl hx
   rw [if_pos (by decide)] at this
   omega) (fun t ht=>pts_lou ht) (e:=e) (by omega) (by simp)
  omega
end X
end Go.Proofs.YtgpcpbmacdhlkaaGreatDoor
/- Plain mathematics: the lines of what stands in brackets,one by one. -/
namespace Go.Proofs.YtgpcpbmacdhlkaaGreatDoor
open M
namespace X
def BrI (L:List Lf) (ib:Nat) (E:Part→List UInt8→List UInt8) (c:List UInt8) (l:List Part) (j:Nat) (lj:List Lne):Prop :=
 (∃ T,RG L ib (nts' (l.take j)).length lj T∧T++many E (l.drop j)=many E l∧ShA c (l.drop j)) ∨
 (∃ F b r,SG L ib (nts' (l.take j)).length lj F∧l.drop j=lf b::r∧((r=[]∧F []=many E l)∨(r≠[]∧b.2=[44]∧ShA c r∧F [44]++many E r=many E l)))
theorem BrI.start {L:List Lf} {ib:Nat} {E:Part→List UInt8→List UInt8} {c:List UInt8} {l:List Part} (h:ShA c l):BrI L ib E c l 0 [] :=
 .inl ⟨[],by rw [List.take_zero,nts_nil];exact RG.nil L ib,by rw [List.drop_zero];rfl,by rw [List.drop_zero];exact h⟩
theorem drop_get {α:Type} {l:List α} {j:Nat} {a:α} {r:List α} (h:l.drop j=a::r):l[j]?=some a∧l.drop (j+1)=r∧l.take (j+1)=l.take j++[a]:=by
 have hj:j<l.length:=by
  rcases Nat.lt_or_ge j l.length with g|g
  ·exact g
  ·rw [List.drop_eq_nil_of_le g] at h;cases h
 rw [List.drop_eq_getElem_cons hj] at h
 injection h with h1 h2
 have h3:l[j]?=some a:=by rw [List.getElem?_eq_getElem hj,h1]
 exact ⟨h3,h2,by rw [List.take_add_one,h3];rfl⟩
theorem ShA.two {c:List UInt8} {l:List Part} (h:ShA c l):2≤l.length:=by
 cases h<;>simp
theorem BrI.next {L:List Lf} {ib:Nat} {E:Part→List UInt8→List UInt8} {c:List UInt8} {l:List Part} {j:Nat} {lj:List Lne} (h:BrI L ib E c l j lj) (hj:j+1<l.length) (hlou:∀ t:Tok,lf t∈l→lou t=true) :
  (∃ p,l[j]?=some p∧Sh p∧lj.length≤(nts' (l.take j)).length∧∀ l2,SG L (ib+(nts' (l.take j)).length) (nt p).length l2 (E p)→BrI L ib E c l (j+1) (lj++l2)) ∨
  (∃ b,l[j]?=some (lf b)∧lou b=true∧b.2=[44]∧lj≠[]∧lj.length≤(nts' (l.take j)).length∧(∀ x∈lj,x.2.2≤ib+(nts' (l.take j)).length)∧∀ a:Lf,L[ib+(nts' (l.take j)).length]?=some a→a.1.2=[44]→BrI L ib E c l (j+1) (cl lj)):=by
 rcases h with ⟨T,h1,h2,h3⟩|⟨F,b,r,h1,h2,h3⟩
 ·generalize hd:l.drop j=d at *
  cases h3 with
  | last _ p b hp hb =>
   obtain ⟨g1,g2,g3⟩:=drop_get hd
   refine .inl ⟨p,g1,hp,h1.len,fun l2 hl2=>.inr ⟨fun e=>T++E p e,b,[],?_,g2,.inl ⟨rfl,?_⟩⟩⟩
   ·rw [g3,nts_append,nts_one,List.length_append];exact h1.then hl2
   ·exact h2
  | more _ p b q l2' hp hb h =>
   obtain ⟨g1,g2,g3⟩:=drop_get hd
   refine .inl ⟨p,g1,hp,h1.len,fun l2 hl2=>.inr ⟨fun e=>T++E p e,b,q::l2',?_,g2,.inr ⟨by simp,hb,h,?_⟩⟩⟩
   ·rw [g3,nts_append,nts_one,List.length_append];exact h1.then hl2
   ·rw [← h2,List.append_assoc];rfl
 ·obtain ⟨g1,g2,g3⟩:=drop_get h2
  rcases h3 with ⟨hr,-⟩|⟨hr,hb,hs,hm⟩
  ·have:=congrArg List.length h2
   rw [List.length_drop,hr] at this
   simp at this
   omega
  ·have hl:lou b=true:=hlou b (List.mem_of_getElem? g1)
   refine .inr ⟨b,g1,hl,hb,h1.ne,h1.rg.len,fun x hx=>(h1.rg.inr x hx).2.2,fun a ha hc=>.inl ⟨F [44],?_,by rw [g2];exact hm,by rw [g2];exact hs⟩⟩
   rw [g3,nts_append,nts_one,nt_lf,if_pos hl,List.length_append]
   have:=h1.close ha (.inl hc)
   rw [hc] at this
   exact this
theorem BrI.fin {L:List Lf} {ib:Nat} {E:Part→List UInt8→List UInt8} {c:List UInt8} {l:List Part} {j:Nat} {lj:List Lne} (h:BrI L ib E c l j lj) (hj:j+1=l.length):RG L ib (nts' (l.take j)).length lj (many E l):=by
 rcases h with ⟨T,h1,h2,h3⟩|⟨F,b,r,h1,h2,h3⟩
 ·have:=h3.two
  rw [List.length_drop] at this
  omega
 ·rcases h3 with ⟨hr,hF⟩|⟨hr,hb,hs,hm⟩
  ·rw [← hF];exact h1.rg
  ·have:=congrArg List.length h2
   have h4:=hs.two
   rw [List.length_drop,List.length_cons] at this
   omega
end X
end Go.Proofs.YtgpcpbmacdhlkaaGreatDoor
/- Plain mathematics: the lines of each kind of expression. -/
namespace Go.Proofs.YtgpcpbmacdhlkaaGreatDoor
open M
namespace X
theorem ex_fit {f n:Nat} {p:Part} {e:List UInt8} (h:n+chars (flat [p])+1≤80):ex f n p e=line n (flat [p]++e):=by
 cases f with
 | zero=>rw [ex]
 | succ f=>unfold ex;rw [if_pos h]
theorem SG.bracket {L:List Lf} {i ib n k0 te:Nat} {lm:List Lne} {first:List UInt8} {l:List Part} {E:Part→List UInt8→List UInt8} {b:Tok} {gg:Bool} (h1:RG L i k0 [(n,i,ib+1)] (X.line n first)) (hk:i+k0=ib+1) (h2:RG L (ib+1) (nts' (l.take (l.length - 1))).length lm (many E l)) (hb:l[l.length - 1]?=some (lf b)) (hlou:lou b=true) (hA:Ats L (ib+1) (fls gg l)) (hn:n≤522) (hte:te=ib+1+(nts' l).length) :
  SG L i (k0+(nts' l).length) ([(n,i,ib+1)]++lm++[(n,te - 1,te)]) (fun e=>X.line n first++(many E l++X.line n (b.2++e))):=by
 have hlt:l.length - 1<l.length:=by
  rcases Nat.lt_or_ge (l.length - 1) l.length with g|g
  ·exact g
  ·rw [List.getElem?_eq_none g] at hb;cases hb
 have hl:l=l.take (l.length - 1)++[lf b]:=by
  have h:=List.take_add_one (l:=l) (i:=l.length - 1)
  rw [hb,List.take_of_length_le (by omega)] at h
  exact h
 have hnl:(nts' l).length=(nts' (l.take (l.length - 1))).length+1:=by
  conv=>lhs;rw [hl]
  rw [nts_append,nts_one,nt_lf,if_pos hlou,List.length_append];rfl
 have hA2:Ats L (ib+1+(nts' (l.take (l.length - 1))).length) [(b,gg&&b.2==[40])]:=by
  have h:fls gg l=fls gg (l.take (l.length - 1))++[(b,gg&&b.2==[40])]:=by
   conv=>lhs;rw [hl]
   rw [fls_append,fls_one,fl_lf hlou]
  rw [h] at hA
  have:=hA.right
  rw [fls_len] at this
  exact this
 have e1:te - 1=ib+1+(nts' (l.take (l.length - 1))).length:=by omega
 have h3:=SG.line (n:=n) (j:=te) hA2 (by simp) hn (by simp;omega)
 rw [← hk] at h2
 have h4:=h1.app h2
 rw [← e1] at h3
 have e2:te - 1=i+(k0+(nts' (l.take (l.length - 1))).length):=by omega
 rw [e2] at h3
 refine (h4.then h3).of (by rw [hnl];simp;omega) (by rw [e2]) (fun e=>?_)
 rw [List.append_assoc];rfl
end X
end Go.Proofs.YtgpcpbmacdhlkaaGreatDoor
/- Plain mathematics: how long a layout can be,and how many tokens it has. -/
namespace Go.Proofs.YtgpcpbmacdhlkaaGreatDoor
open M
namespace X
theorem Db.optPub {B:Nat}:Db X.optPub B:=Db.ite (c:=isN sPub) Db.take (Db.zero (fun _=>rfl))
theorem Db.useR {B:Nat}:Db X.useR B:=(Db.want _).andThen (Db.wname.andThen ((Db.want _).andThen (Db.wname.andThen ((Db.ite (c:=isN [97,115]) (Db.take.andThen Db.wname) (Db.zero (fun _=>rfl))).andThen (Db.want _)))))
theorem Db.defR:Db X.defR 520:=(Db.want _).andThen (Db.wname.andThen ((Db.ite (c:=isN [40]) Db.params (Db.zero (fun _=>rfl))).andThen ((Db.want _).andThen ((Db.expr 65).andThen (Db.want _)))))
theorem kid_dp {ts:List Tok} (h:starts ts=true):dps (kid ts).2.1≤520:=by
 rw [kid_eq,h,if_pos rfl]
 split
 ·exact (Db.optPub.andThen Db.useR) ts
 ·exact (Db.optPub.andThen Db.defR) ts
theorem flat_le {M:Nat} {ps:List Part}:(flat ps).length≤wt M (nts' ps):=by
 by_cases h:nts' ps=[]
 ·have:fls false ps=[]:=by
   have:=fls_fst false ps
   rw [h] at this
   exact List.map_eq_nil_iff.1 this
  unfold flat
  rw [this,flt];exact Nat.zero_le _
 ·have:=flat_len (M:=M) h;omega
theorem item_len {p:Part} (hi:ItemOk p) (hn:nt p≠[]) (hd:dps (kidsOf p)≤520):(item p).length≤wt 522 (nt p):=by
 unfold item
 by_cases hc:kindOf p=3∨chars (flat [p])≤80
 ·rw [if_pos hc]
  have:=flat_len (M:=522) (ps:=[p]) (by rw [nts_one];exact hn)
  rw [nts_one] at this
  rw [List.length_append,List.length_singleton];omega
 rw [if_neg hc]
 cases hi with
 | use ps=>exact absurd (.inl rfl) hc
 | dfn ps l q t h hq ht =>
  have lt:lou t=true:=mem_pts h (by simp)
  have e1:kidsOf (.br 4 ps)=ps:=rfl
  rw [e1] at hd
  rw [nt_br,h,e1,h]
  have e2:(l++[q,lf t]).length - 2=l.length:=by simp
  have e3:(l++[q,lf t]).getD l.length nil1=q:=by simp [List.getD_eq_getElem?_getD]
  have e4:nts' (l++[q,lf t])=nts' l++(nt q++[t]):=by rw [nts_append,nts_cons,nts_one,nt_lf,if_pos lt]
  rw [e2,e3,List.take_left' rfl,e4,wt_append,wt_append,wt_one]
  have d1:dp q≤dps ps:=by
   have h1:=dps_pts ps
   rw [h] at h1
   have h2:dp q≤dps (l++[q,lf t]):=dps_mem (by simp)
   omega
  have h1:=ex_len (M:=522) (nt q).length 2 q [59] hq (by omega)
  have h2:=flat_le (M:=522) (ps:=l)
  rw [List.length_append,List.length_append]
  simp only [List.length_cons,List.length_nil] at h1 ⊢
  omega
theorem remarks_len (M:Nat) (ts:List Tok):(remarks ts).length≤wt M (ts.filter rmk):=by
 unfold remarks
 generalize ts.filter rmk=l
 induction l with
 | nil=>exact Nat.le_refl _
 | cons t l ih=>rw [List.flatMap_cons,wt,List.length_append,List.length_append,List.length_singleton];omega
theorem wt_two (M:Nat) (l:List Tok):wt M (l.filter rmk)+wt M (l.filter lou)≤wt M l:=by
 induction l with
 | nil=>exact Nat.le_refl _
 | cons t l ih =>
  cases hr:rmk t with
  | true=>rw [List.filter_cons_of_pos hr,List.filter_cons_of_neg (by rw [lou_rmk hr];simp),wt,wt];omega
  | false =>
   rw [List.filter_cons_of_neg (by simp [hr])]
   cases hl:lou t with
   | true=>rw [List.filter_cons_of_pos hl,wt,wt];omega
   | false=>rw [List.filter_cons_of_neg (by simp [hl]),wt];omega
def KidLn (p:Part):Prop:=quietP p=true∨(ItemOk p∧nt p≠[]∧dps (kidsOf p)≤520)
theorem kidOut_len {p:Part} (h:KidLn p):(kidOut p).length≤wt 522 (pl p):=by
 have h1:=remarks_len 522 (pl p)
 have h2:=wt_two 522 (pl p)
 unfold kidOut
 rw [List.length_append]
 rcases h with h|⟨i1,i2,i3⟩
 ·have:kindOf p=0:=by
   cases p with
   | leaf k x=>rfl
   | miss m=>cases h
   | br k ps=>cases h
  rw [if_pos this,List.length_nil];omega
 ·have:=item_len i1 i2 i3
  unfold nt at this
  split
  ·rw [List.length_nil];omega
  ·omega
theorem lay_len:∀ (ps:List Part),(∀ p∈ps,KidLn p)→(lay ps).length≤wt 522 (pls ps)
 | [],_=>Nat.le_refl _
 | p::ps,h=>by
  have h1:=kidOut_len (h p (by simp))
  have h2:=lay_len ps (fun q hq=>h q (List.mem_cons_of_mem _ hq))
  unfold lay at h2 ⊢
  rw [List.flatMap_cons,pls,wt_append,List.length_append];omega
theorem fileL_ln (n:Nat):∀ ts:List Tok,ts.length≤n→(∀ t∈ts,t.1≠0)→clns (fileL ts)=true→∀ p∈fileL ts,KidLn p:=by
 induction n with
 | zero =>
  intro ts h hk hc p hp
  have:ts=[]:=List.length_eq_zero_iff.1 (by omega)
  subst this;cases hp
 | succ n ih =>
  intro ts h hk hc p hp
  cases h0:(kindN ts==0) with
  | true =>
   rw [fileL_no h0] at hp
   obtain ⟨t,ht,rfl⟩:=List.mem_map.1 hp
   exact .inl (by rw [quiet_lf];exact quiet_all h0 hk t ht)
  | false =>
   rw [fileL_yes h0] at hp hc
   rw [clns] at hc
   simp only [Bool.and_eq_true] at hc
   rcases List.mem_cons.1 hp with rfl|hp
   ·refine .inr ⟨kid_ok hc.1,?_,kid_dp (cln_starts hc.1)⟩
    obtain ⟨x,t,e1,e2⟩:=kid_end hc.1
    unfold nt
    rw [pl,e1,List.filter_append,List.filter_cons_of_pos e2]
    simp
   ·have hl:=kid_lt h0
    refine ih _ (by omega) (fun t ht=>hk t ?_) hc.2 p hp
    rw [← kid_lvs ts];exact List.mem_append_right _ ht
theorem wt_tb (M:Nat) (ts:List Tok):wt M ts=(tb ts).length+(M+2)*ts.length:=by
 induction ts with
 | nil=>rfl
 | cons t ts ih =>
  have e:tb (t::ts)=t.2++tb ts:=rfl
  rw [wt,ih,e,List.length_append,List.length_cons,Nat.mul_add,Nat.mul_one];omega
theorem xt_len_le (s:List UInt8):(xt s).length≤s.length:=by
 unfold xt;rw [List.length_map];exact toks_len _ 0 s (Nat.le_refl _)
theorem layOf_len {s:List UInt8} (hc:clns (fileL (xt s))=true):(layOf s).length≤525*s.length:=by
 have h1:=lay_len (fileL (xt s)) (fileL_ln _ _ (Nat.le_refl _) xt_kind hc)
 rw [fileL_toks,wt_tb,xt_tb] at h1
 have h2:=xt_len_le s
 unfold layOf
 omega
end X
end Go.Proofs.YtgpcpbmacdhlkaaGreatDoor
/- The document's lines,and how many characters a text has. -/
namespace Go.Proofs.YtgpcpbmacdhlkaaGreatDoor
open Go.RowKit
open M
theorem bs_app (a b:ByteArray):bs (a++b)=bs a++bs b:=by
 unfold bs
 simp [ByteArray.data_append]
theorem ba_app (x y:List UInt8):ba x++ba y=ba (x++y):=bs_inj (by rw [bs_app,bs_ba,bs_ba,bs_ba])
theorem rep_snoc (j:Nat) (b:UInt8):List.replicate j b++[b]=List.replicate (j+1) b:=by rw [List.replicate_succ']
set_option maxRecDepth 100000 in
set_option maxHeartbeats 4000000 in
theorem yline_any (n:Nat) (x:List UInt8) (w:World) (hn:n≤1000000) (hx:x.length≤1073741823) :
  Calls Tryz.prog 49 #[.int .i64 n,.string (ba x)] w fun e w'=>e=.returned (.string (ba (X.line n x)))∧w'=w:=by
 go_enter Tryz.func49,Tryz.ntmps49
 go_wp2_with fail
 go_loopw [5,6] (fun a i wr=>∃ (j:Nat) (A:ByteArray),j≤n∧A=ba (List.replicate j 32)∧a=.string A∧i=.int .i64 j∧wr=w) (fun _ i _=>n - (intOf i).toNat)
 case atStart=>exact ⟨0,⟨#[]⟩,Nat.zero_le _,rfl,rfl,rfl,rfl⟩
 case round =>
  obtain ⟨j,A,hj,hA,rfl,rfl,rfl⟩:=hrel
  have hz:A.size=j:=by rw [hA,ba_size,List.length_replicate]
  by_cases hlt:j<n
  ·have i2:(j:Int)<(n:Int):=by omega
   have i3:decide ((j:Int)<(n:Int))=true:=by simp;omega
   have hnz:¬ 9223372036854775807<A.size+1:=by omega
   have hN:A++⟨#[32]⟩=ba (List.replicate (j+1) 32):=by rw [hA,← rep_snoc,← ba_app];rfl
   have HN:=hide hN
   clear hA hN
   go_wp2_with fail
   exact ⟨⟨j+1,_,by omega,HN.out,rfl,by go_num,trivial⟩,by simp only [intOf];omega⟩
  ·obtain rfl:j=n:=by omega
   have i3:decide ((j:Int)<(j:Int))=false:=by simp
   have hxz:(ba x).size=x.length:=ba_size x
   have hn1:¬ 9223372036854775807<A.size+(ba x).size:=by omega
   have hn2:¬ 9223372036854775807<A.size+(ba x).size+1:=by omega
   have hn3:¬ 9223372036854775807<(A++ba x).size+1:=by rw [ByteArray.size_append];omega
   have HN:Hid (A++ba x++⟨#[10]⟩=ba (X.line j x)):=by
    show _=_
    rw [hA,ba_app,show (⟨#[10]⟩:ByteArray)=ba [10] from rfl,ba_app]
    unfold X.line
    rw [List.append_assoc]
   clear hA
   go_wp2_with fail
   go_ret
   exact ⟨by rw [HN.out];rfl,rfl⟩
end Go.Proofs.YtgpcpbmacdhlkaaGreatDoor
/- Plain mathematics: what the kids of a root are in which nothing is wrong. -/
namespace Go.Proofs.YtgpcpbmacdhlkaaGreatDoor
open M
namespace X
theorem def_first {ts:List Tok} (h:nms (defR ts).1=true):∃ t0 r,pts (defR ts).1=lf t0::r:=by
 have e:∃ b,(defR ts).1=(want sDef ts).1++b:=⟨_,rfl⟩
 obtain ⟨b,e⟩:=e
 rw [e] at h ⊢
 obtain ⟨t,-,t2⟩:=want_pts (nms_two h).1
 exact ⟨t,pts b,by rw [pts_append,t2];rfl⟩
def KidW (p:Part):Prop:=quietP p=true∨(∃ ps,p=.br 3 ps)∨∃ ps l q t,p=.br 4 ps∧pts ps=l++[q,lf t]∧Sh q∧t.2=[59]∧nts' l≠[]
theorem kid_w {ts:List Tok} (h:cln (.br (kid ts).1 (kid ts).2.1)=true):KidW (.br (kid ts).1 (kid ts).2.1):=by
 rw [kid_eq] at h ⊢
 cases hs:starts ts with
 | false =>
  rw [hs,if_neg (by simp)] at h
  rw [cln] at h;cases h
 | true =>
  rw [hs,if_pos rfl] at h
  rw [if_pos rfl]
  cases hu:isN sUse (optPub ts).2 with
  | true=>rw [if_pos rfl];exact .inr (.inl ⟨_,rfl⟩)
  | false =>
   rw [hu,if_neg (by simp)] at h
   rw [if_neg (by simp)]
   have h1:=cln_nm h
   rw [nm_br] at h1
   have e:(andThen optPub defR ts).1=(optPub ts).1++(defR (optPub ts).2).1:=rfl
   show KidW (.br 4 (andThen optPub defR ts).1)
   have h2:nms (andThen optPub defR ts).1=true:=h1
   rw [e] at h2 ⊢
   obtain ⟨l,q,t,d1,d2,d3⟩:=def_shape (nms_two h2).2
   obtain ⟨t0,r,d4⟩:=def_first (nms_two h2).2
   refine .inr (.inr ⟨_,pts (optPub ts).1++l,q,t,rfl,?_,d2,d3,?_⟩)
   ·rw [pts_append,d1,List.append_assoc]
   ·have hl:lou t0=true:=mem_pts d4 (by simp)
    rw [d1] at d4
    cases l with
    | nil =>
     injection d4 with d5 d6
     obtain ⟨k,ps,e2⟩:=d2.br
     rw [e2] at d5;cases d5
    | cons x l =>
     injection d4 with d5 d6
     subst d5
     rw [nts_append,nts_cons,nt_lf,if_pos hl]
     simp
theorem fileL_w (n:Nat):∀ ts:List Tok,ts.length≤n→(∀ t∈ts,t.1≠0)→clns (fileL ts)=true→∀ p∈fileL ts,KidW p:=by
 induction n with
 | zero =>
  intro ts h hk hc p hp
  have:ts=[]:=List.length_eq_zero_iff.1 (by omega)
  subst this;cases hp
 | succ n ih =>
  intro ts h hk hc p hp
  cases h0:(kindN ts==0) with
  | true =>
   rw [fileL_no h0] at hp
   obtain ⟨t,ht,rfl⟩:=List.mem_map.1 hp
   exact .inl (by rw [quiet_lf];exact quiet_all h0 hk t ht)
  | false =>
   rw [fileL_yes h0] at hp hc
   rw [clns] at hc
   simp only [Bool.and_eq_true] at hc
   rcases List.mem_cons.1 hp with rfl|hp
   ·exact kid_w hc.1
   ·have hl:=kid_lt h0
    refine ih _ (by omega) (fun t ht=>hk t ?_) hc.2 p hp
    rw [← kid_lvs ts];exact List.mem_append_right _ ht
theorem item_def {ps l:List Part} {q:Part} {t:Tok} (h:pts ps=l++[q,lf t]) (hw:¬ chars (flat [.br 4 ps])≤80):item (.br 4 ps)=flat l++([10]++ex (nt q).length 2 q [59]):=by
 unfold item
 rw [if_neg (by intro e;rcases e with e|e;exact absurd (show (4:Nat)=3 from e) (by decide);exact hw e)]
 have e1:kidsOf (.br 4 ps)=ps:=rfl
 have e2:(l++[q,lf t]).length - 2=l.length:=by simp
 have e3:(l++[q,lf t]).getD l.length nil1=q:=by simp [List.getD_eq_getElem?_getD]
 rw [e1,h,e2,e3,List.take_left' rfl]
end X
end Go.Proofs.YtgpcpbmacdhlkaaGreatDoor
