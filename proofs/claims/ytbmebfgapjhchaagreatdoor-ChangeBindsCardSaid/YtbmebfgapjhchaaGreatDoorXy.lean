/- The tree of a text,in memory. -/
import Derived.Test.YtbmebfgapjhchaaGreatDoorXv
import Derived.Test.YtbmebfgapjhchaaGreatDoorOb
import Derived.Deep.RegionHeld3
namespace Go.Proofs.YtbmebfgapjhchaaGreatDoor
open Go.RowKit Go.Shelf
open M
theorem toks_few (s:ByteArray):(toks 0 (bs s)).length≤s.size:=by
 have hl:=toks_len _ 0 (bs s) (Nat.le_refl _)
 rw [bs_len] at hl
 exact hl
theorem toks_S (s:ByteArray) (hs:s.size≤1073741823) (hl:(toks 0 (bs s)).length≤268435456):TokS s (toks 0 (bs s)):=by
 refine ⟨hs,hl,fun t ht=>?_,X.xt_fits (bs s)⟩
 have h1:=toks_ge _ 0 (bs s) (Nat.le_refl _) t ht
 rw [bs_len] at h1
 have h2:=X.xt_fits (bs s) (X.tkx (bs s) t) (List.mem_map.2 ⟨t,ht,rfl⟩)
 exact ⟨by omega,h2.2.2.2.1,h2.2.2.2.2.1⟩
set_option maxRecDepth 100000 in
set_option maxHeartbeats 300000 in
theorem readerOf_any (b:Nat) (v:Value) (s:ByteArray) (w:World) (h:IsD w b v s) (hs:s.size≤1073741823) (hl:(toks 0 (bs s)).length≤268435456) :
  Calls Tryz.prog 50 #[.pointer (some ⟨b,0,none⟩)] w fun e w'=>∃ rb tv,e=.returned (.pointer (some ⟨rb,0,none⟩))∧Hid (RdrT w' rb s (toks 0 (bs s)) tv 0 0∧w.heap.size≤rb∧(∀ q,tv.ownBlock=some q→w.heap.size≤q∧q<w'.heap.size)∧Below w.heap.size w w'):=by
 have H:=hide h
 have hS:=toks_S s hs hl
 clear h
 go_enter Tryz.func50,Tryz.ntmps50
 go_wp2_with fail
 refine (text_any b v s w H.out).mono ?_
 rintro e w1 ⟨rfl,k1⟩
 have HD1:=hide ((H.out).below k1)
 have K1:=hide k1
 clear k1
 go_wp2_with fail
 refine (docTokens_any b v s w1 HD1.out (by omega)).mono ?_
 rintro e w2 ⟨tv,rfl,O2,k2⟩
 have K2:=hide ((K1.out).trans (k2.mono (K1.out).size))
 have HT2:=hide (IsT.ofOwns O2.out)
 have HG2:=hide (owns_ge O2.out)
 have hz1:=(K1.out).size
 have hz2:=k2.size
 clear k2 O2
 obtain ⟨ao,cap,rfl,-⟩:=HT2.out
 have hraw:RawT (w2.alloc (Obj.cells #[.string s,.slice ao (toks 0 (bs s)).length cap,.int .i64 0,.int .i64 0,.int .i64 0,.string ⟨#[]⟩,.int .i64 0] 191)) w2.heap.size s (.slice ao (toks 0 (bs s)).length cap) ((0:Nat):Int) 0 0 ⟨#[]⟩ ((0:Nat):Int):=heap_alloc_new w2 _
 have kA:Below w2.heap.size w2 (w2.alloc (Obj.cells #[.string s,.slice ao (toks 0 (bs s)).length cap,.int .i64 0,.int .i64 0,.int .i64 0,.string ⟨#[]⟩,.int .i64 0] 191)):=(Below.refl _ w2).alloc (Nat.le_refl _) _
 have HR:=hide hraw
 have HKA:=hide kA
 clear hraw kA
 go_wp2_with fail
 refine (tlook_any w2.heap.size s ⟨#[]⟩ (toks 0 (bs s)) (.slice ao (toks 0 (bs s)).length cap) 0 0 0 0 _ hS HR.out ((HT2.out).below HKA.out) (Nat.zero_le _) (fun k hk e=>by have:=((HG2.out) k hk).2;omega)).mono ?_
 rintro e w3 ⟨rfl,r3,k3⟩
 have HR3:=hide r3
 have K3:=hide (((K2.out).trans ((HKA.out).mono (K2.out).size)).trans (k3.below (by simp;have:=(K2.out).size;omega) (K2.out).size))
 have hz3:=k3.size
 clear r3 k3
 go_wp2_with fail
 go_ret
 exact ⟨w2.heap.size,_,rfl,HR3.out,(K2.out).size,fun q hq=>by have:=(HG2.out) q hq;simp at hz3;exact ⟨by omega,by omega⟩,K3.out⟩
theorem Wk.grown {w w1:World} {rb:Nat} {s:ByteArray} {L:List Tk} {tv:Value} {a dp B k:Nat} {rv:Value} {vs:List Value} {ps:List X.Part} {D D':Nat→Prop} (h:Wk w rb s L tv a dp B k rv vs ps D) (hk:On rb w w1) {a':Nat} (hr:RdrT w1 rb s L tv a' dp)
  (h1:∀ q,D q→D' q) (h2:∀ q,D' q→D q∨w.heap.size≤q) (h3:∀ q,D' q→q<w1.heap.size):Wk w1 rb s L tv a' dp B k rv vs ps D':=by
 have hm:=h.moved hk hr
 have hbl:=h.bra.lt
 have hrl:=h.rdr.raw.lt
 refine ⟨hr,hm.bra,hm.len,hm.each.mono h1,h3,⟨fun hd=>?_,fun hd=>?_,h.sep.2.2⟩,fun g hg=>⟨fun hd=>?_,(h.sepG g hg).2⟩,fun q hq=>?_⟩
 ·rcases h2 _ hd with e|e
  ·exact h.sep.1 e
  ·omega
 ·rcases h2 _ hd with e|e
  ·exact h.sep.2.1 e
  ·omega
 ·rcases h2 _ hd with e|e
  ·exact (h.sepG g hg).1 e
  ·have:=(owns_ge h.bra.row g hg).2;omega
 ·obtain ⟨a1,a2,a3,a4⟩:=h.sepT q hq
  refine ⟨fun hd=>?_,a2,a3,(hm.sepT q hq).2.2.2⟩
  rcases h2 _ hd with e|e
  ·exact a1 e
  ·omega
namespace X
theorem want_lt {x:List UInt8} {ts:List Tok} (h:isN x ts=true):(want x ts).2.length<ts.length:=by
 unfold want;rw [if_pos h];exact take_lt (isN_next h)
theorem andThen_lt {f g:R} {ts:List Tok} (hg:Shr g) (h:(f ts).2.length<ts.length):(andThen f g ts).2.length<ts.length:=by
 have:=hg.le (f ts).2
 show (g (f ts).2).2.length<_
 omega
theorem andThen_snd (f g:R) (ts:List Tok):(andThen f g ts).2=(g (f ts).2).2:=rfl
theorem useR_lt {ts:List Tok} (h:isN sUse ts=true):(useR ts).2.length<ts.length:=by
 unfold useR
 exact andThen_lt (Shr.wname.andThen ((Shr.want _).andThen (Shr.wname.andThen ((Shr.ite (c:=isN [97,115]) (Shr.take.andThen Shr.wname) Shr.nil).andThen (Shr.want _))))) (want_lt h)
theorem defR_lt {ts:List Tok} (h:isN sDef ts=true):(defR ts).2.length<ts.length:=by
 unfold defR
 exact andThen_lt (Shr.wname.andThen ((Shr.ite (c:=isN [40]) Shr.params Shr.nil).andThen ((Shr.want _).andThen ((Shr.expr 65).andThen (Shr.want _))))) (want_lt h)
theorem junkL_lt {ts:List Tok} (hk:(kindN ts==0)=false) (hs:starts ts=false):(junkL ts).2.length<ts.length:=by
 have hn:=kind_next hk
 rw [junkL_yes (by rw [hk,hs];rfl)]
 split
 ·exact take_lt hn
 ·exact andThen_lt (fun ts=>Shr.junkGo ts.length ts) (take_lt hn)
theorem kid_lt {ts:List Tok} (hk:(kindN ts==0)=false):(kid ts).2.2.length<ts.length:=by
 have hn:=kind_next hk
 cases hs:starts ts with
 | false =>
  have e:kid ts=(5,junkL ts):=by rw [kid_eq,hs,if_neg (by simp)]
  rw [e];exact junkL_lt hk hs
 | true =>
  cases hu:isN sUse (optPub ts).2 with
  | true =>
   have e:kid ts=(3,andThen optPub useR ts):=by rw [kid_eq,hs,if_pos rfl,hu,if_pos rfl]
   have h1:=useR_lt hu
   have h2:=Shr.optPub.le ts
   rw [e]
   show (andThen optPub useR ts).2.length<_
   rw [andThen_snd];omega
  | false =>
   have e:kid ts=(4,andThen optPub defR ts):=by rw [kid_eq,hs,if_pos rfl,hu,if_neg (by simp)]
   rw [e]
   show (andThen optPub defR ts).2.length<_
   cases hp:isN sPub ts with
   | true =>
    have ho:(optPub ts).2.length<ts.length:=by unfold optPub;rw [if_pos hp];exact take_lt hn
    exact andThen_lt Shr.defR ho
   | false =>
    have ho:optPub ts=([],ts):=by unfold optPub;rw [if_neg (by rw [hp];simp)]
    rw [ho] at hu
    have hd:isN sDef ts=true:=by
     unfold starts at hs
     rw [hu,hp] at hs
     simpa using hs
    rw [andThen_snd,ho]
    exact defR_lt hd
theorem fileGo_fuel:∀ (n:Nat) (ts:List Tok),ts.length≤n→fileGo n ts=fileGo ts.length ts:=by
 intro n
 induction n using Nat.strongRecOn with
 | _ n ih =>
  intro ts h
  rcases Nat.lt_or_ge ts.length n with hlt|hge
  ·cases n with
   | zero=>omega
   | succ n =>
    cases hm:ts.length with
    | zero =>
     have h0:ts=[]:=List.length_eq_zero_iff.1 hm
     subst h0;rfl
    | succ m =>
     unfold fileGo
     cases hk:(kindN ts==0) with
     | true=>rfl
     | false =>
      have hl:=kid_lt hk
      rw [if_neg (by simp),if_neg (by simp),ih n (by omega) _ (by omega),ih m (by omega) _ (by omega)]
  ·rw [show n=ts.length by omega]
def fileL (ts:List Tok):List Part:=fileGo ts.length ts
theorem fileL_no {ts:List Tok} (h:(kindN ts==0)=true):fileL ts=ts.map lf:=by
 unfold fileL
 cases ts.length with
 | zero=>rfl
 | succ m=>unfold fileGo;rw [if_pos h]
theorem fileL_yes {ts:List Tok} (h:(kindN ts==0)=false):fileL ts=.br (kid ts).1 (kid ts).2.1::fileL (kid ts).2.2:=by
 have hl:=kid_lt h
 unfold fileL
 obtain ⟨m,hm⟩:∃ m,ts.length=m+1:=⟨ts.length - 1,by omega⟩
 rw [hm]
 conv=>lhs;unfold fileGo
 rw [if_neg (by rw [h];simp),fileGo_fuel m _ (by omega)]
end X
structure IsTr (w:World) (tb:Nat) (s:ByteArray):Prop where
 ex:∃ (db:Nat) (dv:Value) (B:Nat) (D:Nat→Prop),w.cell? ⟨tb,0,none⟩=some (.pointer (some ⟨db,0,none⟩))∧w.cell? ⟨tb,1,none⟩=some (.pointer (some ⟨B,0,none⟩))∧IsD w db dv s∧IsP w D (.iface 130 (.pointer (some ⟨B,0,none⟩))) (X.file (X.xt (bs s)))∧∀ q,D q→q<w.heap.size
theorem IsD.keep {S:Nat→Prop} {w w':World} {b:Nat} {v:Value} {s:ByteArray} (h:IsD w b v s) (hk:Kp S w w') (h1:¬ S b) (h2:∀ k,v.ownBlock=some k→¬ S k):IsD w' b v s :=
 ⟨hk.cellv h.text h1,hk.cellv h.held h1,h.row.keep hk h2⟩
set_option maxRecDepth 100000 in
set_option maxHeartbeats 300000 in
theorem newTree_big (s:ByteArray) (w:World) (hT:Tabs w) (hs:s.size≤1073741823) (hl:(toks 0 (bs s)).length≤134217728) :
  Calls Tryz.prog 35 #[.string s] w fun e w'=>∃ tb,e=.returned (.pointer (some ⟨tb,0,none⟩))∧Hid (IsTr w' tb s∧Below w.heap.size w w'):=by
 have hS:=toks_S s (by omega) (by omega)
 go_enter Tryz.func35,Tryz.ntmps35
 go_wp2_with fail
 refine (new_any s w hT (by omega)).mono ?_
 rintro e w1 ⟨db,rfl,H1⟩
 go_wp2_with fail
 obtain ⟨dv,g1,g2,g3,g4,g5⟩:=H1.out
 have HD:=hide g3
 have K1:=hide g5
 have hdb:=g2
 have HDV:Hid (∀ k,dv.ownBlock=some k→k<w1.heap.size):=fun k hk=>by have:=(g4 k hk).2;omega
 have kA:Below w1.heap.size w1 (w1.alloc (Obj.cells #[.int .i64 2,.slice none 0 0] 133)):=(Below.refl _ w1).alloc (Nat.le_refl _) _
 have hnew:(w1.alloc (Obj.cells #[.int .i64 2,.slice none 0 0] 133)).heap[w1.heap.size]?=some (.cells #[.int .i64 2,.slice none 0 0] 133 (0,0)):=heap_alloc_new w1 _
 have hzA:(w1.alloc (Obj.cells #[.int .i64 2,.slice none 0 0] 133)).heap.size=w1.heap.size+1:=by simp
 clear g1 g2 g3 g4 g5 H1
 refine (readerOf_any db dv s _ ((HD.out).below kA) (by omega) (by omega)).mono ?_
 rintro e w3 ⟨rb,tv,rfl,H3⟩
 have HW:Hid (Wk w3 rb s (toks 0 (bs s)) tv 0 0 w1.heap.size 2 (.slice none 0 0) [] [] (fun _=>False)):=by
  obtain ⟨r1,r2,r3,r4⟩:=H3.out
  refine ⟨r1,⟨(Kp.ofBelow r4 (fun _=>False)).heap hnew id,World.ownsRow_nil _ _ _ _⟩,rfl,Each.nil _ _,(fun q hq=>hq.elim),⟨id,id,by omega⟩,(fun g hg=>by cases hg),fun q hq=>?_⟩
  have:=r3 q hq
  exact ⟨id,by omega,(fun e=>by cases e),this.2⟩
 have K3:Hid (Below w.heap.size w w3):=(K1.out).trans ((kA.trans ((H3.out).2.2.2.mono (by omega))).mono (K1.out).size)
 have HD3:=hide (((HD.out).below kA).below (H3.out).2.2.2)
 have hrb:=(H3.out).2.1
 have hz1:=(K1.out).size
 clear H3 hnew kA
 have hL:=hS.len
 have e0:remT s (toks 0 (bs s)) 0=X.xt (bs s):=by unfold remT X.xt;simp
 go_wp2_with fail
 go_loopw [] (fun wr=>∃ (a:Nat) (rv:Value) (vs:List Value) (ps:List X.Part) (D:Nat→Prop),ps.length≤a∧Hid (Wk wr rb s (toks 0 (bs s)) tv a 0 w1.heap.size 2 rv vs ps D)∧Hid (X.fileL (X.xt (bs s))=ps++X.fileL (remT s (toks 0 (bs s)) a))∧Hid (∀ g,rv.ownBlock=some g→w3.heap.size≤g)∧Hid (∀ q,D q→w3.heap.size≤q)∧Hid (Kp (fun q=>q=rb∨q=w1.heap.size) w3 wr)) (fun wr=>(toks 0 (bs s)).length - atT rb wr)
 case atStart=>exact ⟨0,_,_,_,_,Nat.le_refl _,HW,(by show _=_;rw [e0];rfl),(fun g hg=>by cases hg),(fun q hq=>hq.elim),Kp.refl _ _⟩
 case round =>
  obtain ⟨a,rv,vs,ps,D,hpa,HWr,HE,HG,HDD,HK⟩:=hrel
  have hle:=(HWr.out).rdr.le
  have kI:(X.kindN (remT s (toks 0 (bs s)) a) !=0)=!(X.kindN (remT s (toks 0 (bs s)) a)==0):=rfl
  have hat:(toks 0 (bs s)).length - atT rb wr=(remT s (toks 0 (bs s)) a).length:=(Done.refl (HWr.out)).at
  have hln:∀ a,(remT s (toks 0 (bs s)) a).length=(toks 0 (bs s)).length - a:=fun a=>by unfold remT;simp
  go_wp2_with fail
  refine (more_any rb s (toks 0 (bs s)) tv a 0 wr (HWr.out).rdr).mono ?_
  rintro e w4 ⟨rfl,rfl⟩
  rw [kI]
  cases hk:(X.kindN (remT s (toks 0 (bs s)) a)==0) with
  | false =>
   have hlt:=X.kid_lt hk
   have HF:=hide (X.fileL_yes hk)
   go_wp2_with fail
   refine (kid_any hS rb tv a w4 (HWr.out).rdr D (HWr.out).dlt (HWr.out).sep.1 (fun q hq=>⟨((HWr.out).sepT q hq).1,((HWr.out).sepT q hq).2.2.2⟩)).mono ?_
   rintro e w5 ⟨N,D',a',rfl,H5⟩
   have HW5:Hid (Wk w5 rb s (toks 0 (bs s)) tv a' 0 w1.heap.size 2 rv vs ps D'):=(HWr.out).grown (H5.out).2.2.2.2.2.2 (H5.out).1 (H5.out).2.2.2.1 (H5.out).2.2.2.2.1 (H5.out).2.2.2.2.2.1
   have hvl:vs.length≤1073741824:=by rw [(HWr.out).len];omega
   unfold kidV
   generalize hnn:(remT s (toks 0 (bs s)) a).length - (X.kid (remT s (toks 0 (bs s)) a)).2.2.length=nn
   have HNN:Hid (nn=(X.pl (.br (X.kid (remT s (toks 0 (bs s)) a)).1 (X.kid (remT s (toks 0 (bs s)) a)).2.1)).length):=by
    have h:=congrArg List.length (X.kid_lvs (remT s (toks 0 (bs s)) a))
    rw [List.length_append] at h
    show nn=(X.pls (X.kid (remT s (toks 0 (bs s)) a)).2.1).length
    omega
   clear hnn
   go_wp2_with fail
   refine (add_any w1.heap.size 2 rv vs 138 _ w5 (HW5.out).bra (fun g hg=>((HW5.out).sepG g hg).2.2) hvl).mono ?_
   rintro e w6 ⟨rfl,rv6,b6,o6,k6⟩
   have HN:Hid (∃ (a2:Nat) (rv2:Value) (vs2:List Value) (ps2:List X.Part) (D2:Nat→Prop),a<a2∧a2≤(toks 0 (bs s)).length∧ps2.length≤a2∧Hid (Wk w6 rb s (toks 0 (bs s)) tv a2 0 w1.heap.size 2 rv2 vs2 ps2 D2)∧Hid (X.fileL (X.xt (bs s))=ps2++X.fileL (remT s (toks 0 (bs s)) a2))∧Hid (∀ g,rv2.ownBlock=some g→w3.heap.size≤g)∧Hid (∀ q,D2 q→w3.heap.size≤q)∧Hid (Kp (fun q=>q=rb∨q=w1.heap.size) w3 w6)):=by
    obtain ⟨f1,f2,f3,f4,f5,f6,f7⟩:=H5.out
    have hz34:=(HK.out).size
    have hz45:=f7.size
    have hpk:IsP w6 D' (.iface 138 (.agg #[.pointer (some ⟨N,0,none⟩),.int .i64 nn])) (.br (X.kid (remT s (toks 0 (bs s)) a)).1 (X.kid (remT s (toks 0 (bs s)) a)).2.1):=.kid N nn _ HNN.out (f3.keep k6 (fun q hq e=>by
     rcases e with e|e
     ·subst e;exact (HW5.out).sep.2.1 hq
     ·exact ((HW5.out).sepG q e).1 hq))
    have hw6:=(HW5.out).added b6 o6 k6 hpk
    have hle':=f1.le
    have hlt':a<a':=by
     rw [← f2,hln,hln] at hlt;omega
    refine ⟨a',rv6,_,_,D',hlt',hle',by rw [List.length_append];simp;omega,hw6,?_,fun g hg=>?_,fun q hq=>?_,?_⟩
    ·show _=_
     rw [HE.out,HF.out,f2,List.append_assoc];rfl
    ·rcases o6 g hg with e|e
     ·exact (HG.out) g e
     ·omega
    ·rcases f5 q hq with e|e
     ·exact (HDD.out) q e
     ·omega
    ·refine Kp.trans (Kp.trans (HK.out) f7 (fun i _ e=>.inl e)) k6 (fun i hi e=>?_)
     rcases e with e|e
     ·exact .inr e
     ·have:=(HG.out) i e;omega
   clear b6 o6 k6 HW5 H5
   obtain ⟨a2,rv2,vs2,ps2,D2,n1,n2,n3,n4,n5,n6,n7,n8⟩:=HN.out
   go_wp2_with fail
   refine ⟨⟨a2,rv2,vs2,ps2,D2,n3,n4,n5,n6,n7,n8⟩,?_⟩
   rw [hat,(Done.refl n4.out).at,hln,hln];omega
  | true =>
   have HF:=hide (X.fileL_no hk)
   go_wp2_with fail
   refine (rest_any s (toks 0 (bs s)) 0 hS rb tv a w1.heap.size 2 rv vs ps D w4 HWr.out trivial (by simp only [List.length_map];rw [hln];omega)).mono ?_
   rintro e w5 ⟨rfl,H5⟩
   have HR:Hid (∃ D2:Nat→Prop,IsP w5 D2 (.iface 130 (.pointer (some ⟨w1.heap.size,0,none⟩))) (X.file (X.xt (bs s)))∧(∀ q,D2 q→q<w5.heap.size)∧IsD w5 db dv s∧Below w.heap.size w w5):=by
    obtain ⟨a5,rv5,vs5,D5,f1,f2,f3,f4,f5,f6⟩:=H5.out
    have hz34:=(HK.out).size
    have hp:=f1.part
    have he:ps++(remT s (toks 0 (bs s)) a).map X.lf=X.fileL (X.xt (bs s)):=by rw [HE.out,HF.out]
    simp only [he] at hp
    have hkk:Kp (fun q=>q=rb∨q=w1.heap.size) w3 w5:=Kp.trans (HK.out) f6 (fun i hi e=>by
     rcases e with e|e|e
     ·exact .inl e
     ·exact .inr e
     ·have:=(HG.out) i e;omega)
    refine ⟨_,hp,?_,?_,?_⟩
    ·rintro q (e|e|e)
     ·exact f1.dlt q e
     ·subst e;exact f1.bra.lt
     ·exact (owns_ge f1.bra.row q e).2
    ·refine (HD3.out).keep hkk ?_ (fun k hk=>?_)
     ·rintro (e|e)<;>omega
     ·have:=(HDV.out) k hk
      rintro (e|e)<;>omega
    ·exact (K3.out).trans (Kp.below hkk (by have:=(K3.out).size;omega) (fun k e=>by rcases e with e|e<;>omega))
   clear H5
   go_wp2_with fail
   go_ret
   obtain ⟨D2,f1,f2,f3,f4⟩:=HR.out
   have kT:Below w5.heap.size w5 (w5.alloc (Obj.cells #[.pointer (some ⟨db,0,none⟩),.pointer (some ⟨w1.heap.size,0,none⟩)] 142)):=(Below.refl _ w5).alloc (Nat.le_refl _) _
   refine ⟨w5.heap.size,rfl,⟨⟨db,dv,w1.heap.size,D2,?_,?_,f3.below kT,f1.keep (Kp.ofBelow kT (fun _=>False)) (fun _ _=>id),fun q hq=>by have:=f2 q hq;simp;omega⟩⟩,f4.trans (kT.mono f4.size)⟩
   ·rw [cell_of_row _ _ 0 _ _ _ (heap_alloc_new w5 _)];rfl
   ·rw [cell_of_row _ _ 1 _ _ _ (heap_alloc_new w5 _)];rfl
theorem newTree_any (s:ByteArray) (w:World) (hT:Tabs w) (hs:s.size≤134217728) :
  Calls Tryz.prog 35 #[.string s] w fun e w'=>∃ tb,e=.returned (.pointer (some ⟨tb,0,none⟩))∧Hid (IsTr w' tb s∧Below w.heap.size w w'):=newTree_big s w hT (by omega) (by have:=toks_few s;omega)
end Go.Proofs.YtbmebfgapjhchaaGreatDoor
/- Nodes in memory: what a tree shows. -/
namespace Go.Proofs.YtbmebfgapjhchaaGreatDoor
open Go.RowKit Go.Shelf
open M
inductive IsN (w:World) (D:Nat→Prop):Value→X.Part→Prop
 | leaf (k:Nat) (x:List UInt8):IsN w D (.agg #[.int .i64 0,.int .i64 k,.string (ba x),.slice none 0 0]) (.leaf k x)
 | miss (m:List UInt8):IsN w D (.agg #[.int .i64 1,.int .i64 0,.string (ba m),.slice none 0 0]) (.miss m)
 | br (k cap:Nat) (ao:Option Addr) (c0 c1 c2 c3:Nat→Value) (ps:List X.Part) (hc:ps.length≤cap∧cap≤maxLen)
   (hr:∀ i,i<ps.length→∃ g,ao=some ⟨g,0,none⟩∧D g∧w.cell? ⟨g,i*4,none⟩=some (c0 i)∧w.cell? ⟨g,i*4+1,none⟩=some (c1 i)∧w.cell? ⟨g,i*4+2,none⟩=some (c2 i)∧w.cell? ⟨g,i*4+3,none⟩=some (c3 i))
   (hp:∀ (i:Nat) (p:X.Part),ps[i]?=some p→IsN w D (.agg #[c0 i,c1 i,c2 i,c3 i]) p):IsN w D (.agg #[.int .i64 k,.int .i64 0,.string ⟨#[]⟩,.slice ao ps.length cap]) (.br k ps)
theorem IsN.kept {S:Nat→Prop} {w w':World} {D:Nat→Prop} (kk:Kp S w w') (hS:∀ q,S q→¬ D q) {v:Value} {p:X.Part} (h:IsN w D v p):IsN w' D v p:=by
 induction h with
 | leaf k x=>exact .leaf k x
 | miss m=>exact .miss m
 | br k cap ao c0 c1 c2 c3 ps hc hr hp ih =>
  exact .br k cap ao c0 c1 c2 c3 ps hc (fun i hi=>by
   obtain ⟨g,h1,h0,h2,h3,h4,h5⟩:=hr i hi
   have hn:¬ S g:=fun e=>hS g e h0
   exact ⟨g,h1,h0,kk.cellv h2 hn,kk.cellv h3 hn,kk.cellv h4 hn,kk.cellv h5 hn⟩) ih
theorem IsN.low {w:World} {D E:Nat→Prop} (hb:∀ q,D q→E q) {v:Value} {p:X.Part} (h:IsN w D v p):IsN w E v p:=by
 induction h with
 | leaf k x=>exact .leaf k x
 | miss m=>exact .miss m
 | br k cap ao c0 c1 c2 c3 ps hc hr hp ih =>
  exact .br k cap ao c0 c1 c2 c3 ps hc (fun i hi=>by
   obtain ⟨g,h1,h0,h2⟩:=hr i hi
   exact ⟨g,h1,hb g h0,h2⟩) ih
set_option maxRecDepth 100000 in
set_option maxHeartbeats 300000 in
theorem lshow_any (k:Nat) (x r:List UInt8) (w:World) (hl:x.length≤1073741824) :
  Calls Tryz.prog 192 #[.agg #[.int .i64 k,.int .i64 x.length],.string (ba (x++r))] w fun e w'=>e=.returned (.tuple #[.agg #[.int .i64 0,.int .i64 k,.string (ba x),.slice none 0 0],.string (ba r)])∧Below w.heap.size w w':=by
 have hs:(ba (x++r)).size=x.length+r.length:=by rw [ba_size,List.length_append]
 have e1:(ba (x++r)).extract 0 x.length=ba x:=bs_inj (by rw [bs_take,bs_ba,bs_ba,List.take_left])
 have e2:(ba (x++r)).extract x.length (ba (x++r)).size=ba r:=bs_inj (by rw [bs_drop,bs_ba,bs_ba,List.drop_left])
 rw [hs] at e2
 generalize hT:ba (x++r)=T at *
 have i1:(x.length:Int)≤(T.size:Int):=by omega
 have i2:x.length≤T.size:=by omega
 go_enter Tryz.func192,Tryz.ntmps192
 go_wp2_with fail
 go_region
 all_goals go_wp2_with fail
 all_goals
  exact bodyPost_ret (v:=.tuple #[.agg #[.int .i64 0,.int .i64 k,.string (ba x),.slice none 0 0],.string (ba r)]) (by simp [results,Tryz.results192,go_sem]) rfl ⟨rfl,by
   first
    | exact (((Below.refl _ w).alloc (Nat.le_refl _) _).alloc (by simp) _).drew
    | exact (((Below.refl _ w).alloc (Nat.le_refl _) _).alloc (by simp) _)
    | exact (((Below.refl _ w).drew.alloc (Nat.le_refl _) _).alloc (by simp) _)⟩
set_option maxRecDepth 100000 in
set_option maxHeartbeats 300000 in
theorem mshow_any (m:List UInt8) (t:ByteArray) (w:World) :
  Calls Tryz.prog 207 #[.string (ba m),.string t] w fun e w'=>e=.returned (.tuple #[.agg #[.int .i64 1,.int .i64 0,.string (ba m),.slice none 0 0],.string t])∧Below w.heap.size w w':=by
 go_enter Tryz.func207,Tryz.ntmps207
 go_wp2_with fail
 exact bodyPost_ret (v:=.tuple #[.agg #[.int .i64 1,.int .i64 0,.string (ba m),.slice none 0 0],.string t]) (by simp [results,Tryz.results207,go_sem]) rfl ⟨rfl,(Below.refl _ w).alloc (Nat.le_refl _) _⟩
namespace X
mutual
def psz:Part→Nat
 | .leaf _ _=>1
 | .miss _=>1
 | .br _ ps=>1+pssz ps
def pssz:List Part→Nat
 | []=>0
 | p::ps=>psz p+pssz ps
end
theorem psz_pos (p:Part):1≤psz p:=by cases p<;>simp [psz]
theorem pssz_len:∀ ps:List Part,ps.length≤pssz ps
 | []=>Nat.le_refl _
 | p::ps=>by have:=pssz_len ps;have:=psz_pos p;simp [pssz];omega
theorem pssz_mem:∀ (ps:List Part) (i:Nat) (p:Part),ps[i]?=some p→psz p≤pssz ps
 | [],i,p,h=>by simp at h
 | q::ps,0,p,h=>by
  obtain rfl:q=p:=by simpa using h
  simp [pssz]
 | q::ps,i+1,p,h=>by have:=pssz_mem ps i p (by simpa using h);simp [pssz];omega
theorem psb_mem:∀ (ps:List Part) (i:Nat) (p:Part),ps[i]?=some p→(pb p).length≤(psb ps).length
 | [],i,p,h=>by simp at h
 | q::ps,0,p,h=>by
  obtain rfl:q=p:=by simpa using h
  simp [psb]
 | q::ps,i+1,p,h=>by have:=psb_mem ps i p (by simpa using h);simp [psb];omega
theorem psb_drop {ps:List Part} {i:Nat} {p:Part} (h:ps[i]?=some p):psb (ps.drop i)=pb p++psb (ps.drop (i+1)):=by
 have hi:i<ps.length:=by
  rcases Nat.lt_or_ge i ps.length with g|g
  ·exact g
  ·rw [List.getElem?_eq_none g] at h;cases h
 rw [List.drop_eq_getElem_cons hi,psb,Option.some.inj ((List.getElem?_eq_getElem hi).symm.trans h)]
end X
theorem infoN:(Tryz.prog.info? 120).map (fun i=>(i.zero,i.size,i.bytes))=some (some (.agg #[.int .i64 0,.int .i64 0,.string ⟨#[]⟩,.slice none 0 0]),4,56):=by kernel_rfl
abbrev Q4:=Value × Value × Value × Value
def q4 (q:Q4):List Value:=[q.1,q.2.1,q.2.2.1,q.2.2.2]
def q4v (q:Q4):Value:=.agg #[q.1,q.2.1,q.2.2.1,q.2.2.2]
theorem IsN.shape {w:World} {D:Nat→Prop} {v:Value} {p:X.Part} (h:IsN w D v p):∃ (a c:Int) (s:ByteArray) (ao:Option Addr) (n cap:Nat),v=q4v (.int .i64 a,.int .i64 c,.string s,.slice ao n cap):=by
 cases h with
 | leaf k x=>exact ⟨_,_,_,_,_,_,rfl⟩
 | miss m=>exact ⟨_,_,_,_,_,_,rfl⟩
 | br k cap ao c0 c1 c2 c3 ps hc hr hp=>exact ⟨_,_,_,_,_,_,rfl⟩
def BOk (p:X.Part):Prop:=(X.pb p).length≤1073741824→∀ (w:World) (D:Nat→Prop) (N:Nat) (r:List UInt8),IsP w D (.iface 130 (.pointer (some ⟨N,0,none⟩))) p →
 Calls Tryz.prog 66 #[.pointer (some ⟨N,0,none⟩),.string (ba (X.pb p++r))] w fun e w'=>∃ nv,e=.returned (.tuple #[nv,.string (ba r)])∧Hid (∃ E,IsN w' E nv p∧(∀ q,E q→w.heap.size≤q∧q<w'.heap.size)∧Below w.heap.size w w')
theorem meth_leaf (a b : Value) (w : World) : (Go.method 427 224 (.agg #[a, b]) "amanuensis/tree.show").run Tryz.prog w = .ok (192, .agg #[a, b]) w := by kernel_rfl
theorem meth_miss (m : ByteArray) (w : World) : (Go.method 427 290 (.string m) "amanuensis/tree.show").run Tryz.prog w = .ok (207, .string m) w := by kernel_rfl
theorem meth_br (p : Option Addr) (w : World) : (Go.method 427 130 (.pointer p) "amanuensis/tree.show").run Tryz.prog w = .ok (66, .pointer p) w := by kernel_rfl
theorem meth_kid (p : Option Addr) (n : Value) (w : World) : (Go.method 427 138 (.agg #[.pointer p, n]) "amanuensis/tree.show").run Tryz.prog w = .ok (66, .pointer p) w := by kernel_rfl
theorem en_lshow:∀ args w,(callFunc 192 args).run Tryz.prog w=.ok (.enter 192 args) w:=enters_of Tryz.func192 (by kernel_rfl) rfl
theorem en_mshow:∀ args w,(callFunc 207 args).run Tryz.prog w=.ok (.enter 207 args) w:=enters_of Tryz.func207 (by kernel_rfl) rfl
theorem en_bshow:∀ args w,(callFunc 66 args).run Tryz.prog w=.ok (.enter 66 args) w:=enters_of Tryz.func66 (by kernel_rfl) rfl
theorem show_disp {w:World} {D:Nat→Prop} {v:Value} {p:X.Part} (h:IsP w D v p) (hl:(X.pb p).length≤1073741824) (hB0:BOk p) :
  ∃ ty x fid recv, v = .iface ty x ∧ (∀ W, (Go.method 427 ty x "amanuensis/tree.show").run Tryz.prog W = .ok (fid, recv) W) ∧ (∀ args W, (callFunc fid args).run Tryz.prog W = .ok (.enter fid args) W) ∧
   ∀ (W:World) (r:List UInt8),Below w.heap.size w W→Calls Tryz.prog fid #[recv,.string (ba (X.pb p++r))] W fun e w'=>∃ nv,e=.returned (.tuple #[nv,.string (ba r)])∧Hid (∃ E,IsN w' E nv p∧(∀ q,E q→W.heap.size≤q∧q<w'.heap.size)∧Below W.heap.size W w'):=by
 have hB:=hB0 hl
 cases h with
 | leaf k x =>
  refine ⟨_,_,_,_,rfl,fun W=>meth_leaf _ _ W,en_lshow,fun W r _=>?_⟩
  refine (lshow_any k x r W hl).mono ?_
  rintro e w' ⟨rfl,h2⟩
  exact ⟨_,rfl,fun _=>False,.leaf k x,fun _ h=>h.elim,h2⟩
 | miss m =>
  refine ⟨_,_,_,_,rfl,fun W=>meth_miss _ W,en_mshow,fun W r _=>?_⟩
  refine (mshow_any m _ W).mono ?_
  rintro e w' ⟨rfl,h2⟩
  exact ⟨_,rfl,fun _=>False,.miss m,fun _ h=>h.elim,h2⟩
 | br k N cap ao vs ps hN hb hc hr hp =>
  refine ⟨_,_,_,_,rfl,fun W=>meth_br _ W,en_bshow,fun W r hk=>?_⟩
  exact hB W D N r ((IsP.br k N cap ao vs ps hN hb hc hr hp).keep (Kp.ofBelow hk (fun _=>False)) (fun _ _=>id))
 | kid N n q hn hq =>
  refine ⟨_,_,_,_,rfl,fun W=>meth_kid _ _ W,en_bshow,fun W r hk=>?_⟩
  exact hB W D N r (hq.keep (Kp.ofBelow hk (fun _=>False)) (fun _ _=>id))
structure InSh (w:World) (k:Nat) (ps:List X.Part) (j:Nat) (kv:Value) (qs:List Q4) (E:Nat→Prop) (wr:World):Prop where
 res:wr.heap[w.heap.size]?=some (.cells #[.int .i64 0,.int .i64 0,.string ⟨#[]⟩,.slice none 0 0] 120 (0,0))
 nod:wr.heap[w.heap.size+1]?=some (.cells #[.int .i64 k,.int .i64 0,.string ⟨#[]⟩,kv] 120 (0,0))
 row:wr.ownsRow (w.heap.size+2) 120 4 kv j (qs.flatMap q4)
 len:qs.length=j
 kids:∀ (i:Nat) (q:Q4) (p:X.Part),qs[i]?=some q→ps[i]?=some p→IsN wr E (q4v q) p
 sep:∀ q,E q→w.heap.size+2≤q∧q<wr.heap.size∧kv.ownBlock≠some q
 bel:Below w.heap.size w wr
 sz:w.heap.size+2≤wr.heap.size
theorem q4_get {qs:List Q4} {i:Nat} {q:Q4} {j:Nat} (h:qs[i]?=some q) (hj:j<4):(qs.flatMap q4)[i*4+j]?=(q4 q)[j]?:=by
 induction qs generalizing i with
 | nil=>simp at h
 | cons a L ih =>
  cases i with
  | zero =>
   obtain rfl:a=q:=by simpa using h
   rw [List.flatMap_cons,List.getElem?_append_left (by simp [q4];omega)];simp
  | succ i =>
   rw [List.flatMap_cons,List.getElem?_append_right (by simp [q4];omega),show (i+1)*4+j - (q4 a).length=i*4+j by simp [q4];omega]
   exact ih (by simpa using h)
theorem InSh.node {w wr w':World} {k:Nat} {ps:List X.Part} {kv:Value} {qs:List Q4} {E:Nat→Prop} (h:InSh w k ps ps.length kv qs E wr) (hk:Kp (fun q=>q=w.heap.size) wr w'):IsN w' (fun q=>w.heap.size≤q∧q<w'.heap.size) (.agg #[.int .i64 k,.int .i64 0,.string ⟨#[]⟩,kv]) (.br k ps):=by
 have hcells:=fun g hg=>h.row.cells (g:=g) hg
 have hlen:=h.len
 rcases h.row.2 with ⟨rfl,h0⟩|⟨g,cap,cur,rfl,hb,hg,hn,hm,hsz,ht⟩
 ·have hp:ps=[]:=List.length_eq_zero_iff.1 h0
  subst hp
  exact .br k 0 none (fun _=>undef) (fun _=>undef) (fun _=>undef) (fun _=>undef) [] ⟨Nat.le_refl _,by unfold maxLen;omega⟩ (fun i hi=>by simp at hi) (fun i p hp=>by simp at hp)
 ·have hgn:¬(g=w.heap.size):=by omega
  have hq:∀ i,i<ps.length→qs[i]?=some (qs.getD i (undef,undef,undef,undef)):=fun i hi=>by
   rw [List.getD_eq_getElem?_getD,List.getElem?_eq_getElem (by omega)];rfl
  refine .br k cap (some ⟨g,0,none⟩) (fun i=>(qs.getD i (undef,undef,undef,undef)).1) (fun i=>(qs.getD i (undef,undef,undef,undef)).2.1) (fun i=>(qs.getD i (undef,undef,undef,undef)).2.2.1) (fun i=>(qs.getD i (undef,undef,undef,undef)).2.2.2) ps ⟨hn,hm⟩ (fun i hi=>⟨g,rfl,⟨by omega,by have:=heap_lt hg;have:=hk.size;omega⟩,?_,?_,?_,?_⟩) (fun i p hp=>?_)
  ·have:=hcells g rfl _ _ ((q4_get (hq i hi) (by omega:0<4)).trans rfl)
   rw [Addr.add_lit,Nat.zero_add] at this;exact hk.cellv this hgn
  ·have:=hcells g rfl _ _ ((q4_get (hq i hi) (by omega:1<4)).trans rfl)
   rw [Addr.add_lit,Nat.zero_add] at this;exact hk.cellv this hgn
  ·have:=hcells g rfl _ _ ((q4_get (hq i hi) (by omega:2<4)).trans rfl)
   rw [Addr.add_lit,Nat.zero_add] at this;exact hk.cellv this hgn
  ·have:=hcells g rfl _ _ ((q4_get (hq i hi) (by omega:3<4)).trans rfl)
   rw [Addr.add_lit,Nat.zero_add] at this;exact hk.cellv this hgn
  ·have hi:i<ps.length:=by
    rcases Nat.lt_or_ge i ps.length with g|g
    ·exact g
    ·rw [List.getElem?_eq_none g] at hp;cases hp
   exact ((h.kids i _ p (hq i hi) hp).kept hk (fun q e e2=>by have:=h.sep q e2;omega)).low (fun q e=>by have:=h.sep q e;have:=hk.size;omega)
theorem new_at (w:World) (o:Obj) {n:Nat} (h:w.heap.size=n):(w.alloc o).heap[n]?=some o:=h ▸ heap_alloc_new w o
set_option maxRecDepth 100000 in
set_option maxHeartbeats 400000 in
theorem bshow_any:∀ (n:Nat) (p:X.Part),X.psz p≤n→X.psz p≤1073741824→BOk p:=by
 intro n
 induction n with
 | zero=>intro p h;have:=X.psz_pos p;omega
 | succ n ih =>
  intro p hn hbig hpl w D N r hp
  cases hp with
  | br k N cap ao vs ps hN hb hc hr hp =>
  obtain ⟨i0,hi0,hz0,hz1,hz2⟩:=info_parts infoN
  have hps:X.pssz ps≤n∧X.pssz ps≤1073741824:=by simp only [X.psz] at hn hbig;omega
  have hlen:=X.pssz_len ps
  have HIH:Hid (∀ (i:Nat) (q:X.Part),ps[i]?=some q→BOk q):=fun i q hq=>by
   have:=X.pssz_mem ps i q hq
   exact ih q (by omega) (by omega)
  have HR:=hide hr
  have HP:=hide hp
  have hNl:N<w.heap.size:=heap_lt hb
  have c0:w.cell? ⟨N,0,none⟩=some (.int .i64 k):=cell_of_row w _ 0 _ _ _ hb
  have c1:w.cell? ⟨N,1,none⟩=some (.slice ao ps.length cap):=cell_of_row w _ 1 _ _ _ hb
  have hpl':(X.psb ps).length≤1073741824:=by rw [X.pb] at hpl;exact hpl
  have et:X.pb (.br k ps)++r=X.psb (ps.drop 0)++r:=by rw [List.drop_zero,X.pb]
  rw [et]
  clear et ih hr hp hb hn hbig
  go_enter Tryz.func66,Tryz.ntmps66
  go_wp2_with fail
  have HI0:Hid (InSh w k ps 0 (.slice none 0 0) [] (fun _=>False) ((w.alloc (Obj.cells #[.int .i64 0,.int .i64 0,.string ⟨#[]⟩,.slice none 0 0] 120)).alloc (Obj.cells #[.int .i64 k,.int .i64 0,.string ⟨#[]⟩,.slice none 0 0] 120))):=by
   refine ⟨(heap_alloc_old (w.alloc _) _ (show w.heap.size<_ by simp)).trans (heap_alloc_new w _),?_,World.ownsRow_nil _ _ _ _,rfl,(fun i q p h=>by simp at h),(fun q h=>h.elim),((Below.refl _ w).alloc (Nat.le_refl _) _).alloc (by simp) _,by simp⟩
   have:=heap_alloc_new (w.alloc (Obj.cells #[.int .i64 0,.int .i64 0,.string ⟨#[]⟩,.slice none 0 0] 120)) (Obj.cells #[.int .i64 k,.int .i64 0,.string ⟨#[]⟩,.slice none 0 0] 120)
   rwa [World.size_alloc] at this
  go_loopw [1,20] (fun tv iv wr=>∃ (j:Nat) (kv:Value) (qs:List Q4) (E:Nat→Prop),tv=.string (ba (X.psb (ps.drop j)++r))∧iv=.int .i64 j∧j≤ps.length∧Hid (InSh w k ps j kv qs E wr)) (fun _ iv _=>ps.length - (intOf iv).toNat)
  case atStart=>exact ⟨0,_,_,_,rfl,rfl,Nat.zero_le _,HI0⟩
  case round =>
   obtain ⟨j,kv,qs,E,rfl,rfl,hj,HI⟩:=hrel
   clear HI0
   obtain ⟨ao2,cap2,rfl⟩:∃ ao2 cap2,kv=.slice ao2 j cap2:=by
    rcases (HI.out).row.2 with ⟨h,h0⟩|⟨g,cap,cur,h,-⟩
    ·exact ⟨none,0,by rw [h,h0]⟩
    ·exact ⟨_,_,h⟩
   have n0:=cell_of_row wr _ 0 _ _ _ (HI.out).nod
   have n1:=cell_of_row wr _ 1 _ _ _ (HI.out).nod
   have n2:=cell_of_row wr _ 2 _ _ _ (HI.out).nod
   have n3:=cell_of_row wr _ 3 _ _ _ (HI.out).nod
   by_cases hlt:j<ps.length
   case neg =>
    obtain rfl:j=ps.length:=by omega
    have i1:decide (ps.length<ps.length)=false:=by simp
    have i2:decide ((ps.length:Int)<(ps.length:Int))=false:=by simp
    have m0:=cell_of_row wr _ 0 _ _ _ (HI.out).res
    have m1:=cell_of_row wr _ 1 _ _ _ (HI.out).res
    have m2:=cell_of_row wr _ 2 _ _ _ (HI.out).res
    have m3:=cell_of_row wr _ 3 _ _ _ (HI.out).res
    have fz:∀ o,wr.frozen? ⟨w.heap.size,o,none⟩=false:=fun o=>by simp [World.frozen?,(HI.out).res]
    have f0:=fz 0
    have f1:=fz 1
    have f2:=fz 2
    have f3:=fz 3
    have er:ba (X.psb (ps.drop ps.length)++r)=ba r:=by rw [List.drop_length];rfl
    rw [er]
    have HF:Hid (∀ w',Kp (fun q=>q=w.heap.size) wr w'→∃ E,IsN w' E (.agg #[.int .i64 k,.int .i64 0,.string ⟨#[]⟩,.slice ao2 ps.length cap2]) (.br k ps)∧(∀ q,E q→w.heap.size≤q∧q<w'.heap.size)∧Below w.heap.size w w'):=fun w' hk=>⟨_,(HI.out).node hk,fun _ h=>h,(HI.out).bel.trans (Kp.below hk (by have:=(HI.out).sz;omega) (fun q e=>by omega))⟩
    clear er HIH HR HP hj
    go_wp2_with fail
    try simp only [Exit.inBlock,Exit.then]
    refine bodyPost_ret (v:=.tuple #[.agg #[.int .i64 k,.int .i64 0,.string ⟨#[]⟩,.slice ao2 ps.length cap2],.string (ba r)]) ?_ rfl ?_
    ·simp [results,Tryz.results66,go_sem,m0,m1,m2,m3]
    ·exact ⟨_,rfl,(HF.out) _ (On.set (On.set (On.set (On.set (Kp.refl _ wr) 0 _) 1 _) 2 _) 3 _)⟩
   have hget:ps[j]?=some ps[j]:=List.getElem?_eq_getElem hlt
   obtain ⟨g,rfl,hDg,hcell⟩:=(HR.out) j hlt
   have hgl:g<w.heap.size:=World.block_lt_of_cell? w _ hcell
   have hdrop:=X.psb_drop hget
   have hdisp:=show_disp ((HP.out) j ps[j] hget) (Nat.le_trans (X.psb_mem ps j _ hget) hpl') ((HIH.out) j ps[j] hget)
   obtain ⟨ty,x,fid,recv,hv,hm,hen,hcall⟩:=hdisp
   have HCall:=hide hcall
   have p1:wr.cell? ⟨g,j,none⟩=some (.iface ty x):=by
    have:=(Kp.ofBelow (HI.out).bel (fun _=>False)).cellv hcell id
    rwa [hv] at this
   have i1:decide (j<ps.length)=true:=by simp;omega
   have i2:decide ((j:Int)<(ps.length:Int))=true:=by simp;omega
   rw [hdrop,List.append_assoc]
   clear hcall hv hdrop
   go_wp2_with fail
   have kA:Below wr.heap.size wr (wr.alloc (Obj.cells #[.int .i64 0,.int .i64 0,.string ⟨#[]⟩,.slice none 0 0] 120)):=(Below.refl _ wr).alloc (Nat.le_refl _) _
   have hkb:(wr.alloc (Obj.cells #[.int .i64 0,.int .i64 0,.string ⟨#[]⟩,.slice none 0 0] 120)).heap[wr.heap.size]?=some (.cells #[.int .i64 0,.int .i64 0,.string ⟨#[]⟩,.slice none 0 0] 120 (0,0)):=heap_alloc_new wr _
   have hszA:(wr.alloc (Obj.cells #[.int .i64 0,.int .i64 0,.string ⟨#[]⟩,.slice none 0 0] 120)).heap.size=wr.heap.size+1:=by simp
   refine ((HCall.out) _ (X.psb (ps.drop (j+1))++r) ((HI.out).bel.trans (kA.mono (HI.out).bel.size))).mono ?_
   rintro e w5 ⟨nv,rfl,H5⟩
   obtain ⟨E5,h51,h52,h53⟩:=H5.out
   obtain ⟨qa,qb,qc,qd,qn,qp,hq⟩:=h51.shape
   subst hq
   have H51:=hide h51
   have H52:=hide h52
   have H53:=hide h53
   clear h51 h52 h53 H5
   unfold q4v
   have k5:Below wr.heap.size wr w5:=kA.trans ((H53.out).mono (by omega))
   have hkb5:=(Kp.ofBelow H53.out (fun _=>False)).heap hkb id
   have hnod5:=(Kp.ofBelow k5 (fun _=>False)).heap (HI.out).nod id
   have hrow5:=Kp.owns (Kp.ofBelow k5 (fun _=>False)) (HI.out).row (fun _ _=>id)
   have hz5:wr.heap.size+1≤w5.heap.size:=by have:=(H53.out).size;omega
   have hszr:=(HI.out).sz
   have b0:=cell_of_row w5 _ 0 _ _ _ hkb5
   have b1:=cell_of_row w5 _ 1 _ _ _ hkb5
   have b2:=cell_of_row w5 _ 2 _ _ _ hkb5
   have b3:=cell_of_row w5 _ 3 _ _ _ hkb5
   have e0:∀ o,w5.frozen? ⟨wr.heap.size,o,none⟩=false:=fun o=>by simp [World.frozen?,hkb5]
   have d0:=e0 0
   have d1:=e0 1
   have d2:=e0 2
   have d3:=e0 3
   have x3:=cell_of_row w5 _ 3 _ _ _ hnod5
   have x4:w5.frozen? ⟨w.heap.size+1,3,none⟩=false:=by simp [World.frozen?,hnod5]
   have HRow:=hide hrow5
   clear hrow5 kA hkb e0 n0 n1 n2 n3
   have hne1:wr.heap.size≠w.heap.size+1:=by omega
   have hne2:w.heap.size+1≠wr.heap.size:=by omega
   have HLow:Hid (∀ q,(Value.slice ao2 j cap2).ownBlock=some q→w.heap.size+2≤q∧q<wr.heap.size):=fun q hq=>by
    rcases (HI.out).row.2 with ⟨h,h0⟩|⟨g,cap,cur,h,hb,hg,-⟩
    ·rw [h] at hq;simp [Value.ownBlock] at hq
    ·rw [h] at hq;simp only [Value.ownBlock,Option.some.injEq] at hq;subst hq;exact ⟨hb,heap_lt hg⟩
   have HNod:=hide hnod5
   clear hnod5
   go_wp2_with (at_builtin;refine wpList_append_lies _ rfl _ _ 118 rfl (w.heap.size+2) 120 i0 _ 4 56 Tryz.underlying118 hi0 hz0 hz1 hz2 rfl (by decide) (.slice ao2 j cap2) j _ rfl (Kp.owns (Kp.alloc (On.set (On.set (On.set (On.set (Kp.refl _ w5) 0 _) 1 _) 2 _) 3 _) _) HRow.out (fun q hq e=>by have:=(HLow.out) q hq;omega)) ⟨w5.heap.size,0,none⟩ 1 1 [.int .i64 qa,.int .i64 qb,.string qc,.slice qd qn qp] rfl rfl (World.news_of_block (cs:=#[.int .i64 qa,.int .i64 qb,.string qc,.slice qd qn qp]) (new_at _ _ (by simp))) (by simp [Value.oneCell']) (by omega) (by unfold maxLen;omega) (by omega) (by simp;omega) (w5.heap.size+1) (by simp) ?_;intro g8 cap8 w8 hown8 hgrow8 hat8 hlt8;have k8:Kp (fun q=>q=wr.heap.size∨(Value.slice ao2 j cap2).ownBlock=some q) w5 w8:=Kp.grown (Kp.alloc (Kp.setCell (Kp.setCell (Kp.setCell (Kp.setCell (Kp.refl _ w5) (p:=⟨wr.heap.size,0,none⟩) (fun _=>.inl rfl) _) (p:=⟨wr.heap.size,1,none⟩) (fun _=>.inl rfl) _) (p:=⟨wr.heap.size,2,none⟩) (fun _=>.inl rfl) _) (p:=⟨wr.heap.size,3,none⟩) (fun _=>.inl rfl) _) _) hgrow8 (fun k e _=>.inr e);have nod8:=k8.heap HNod.out (fun e=>e.elim (fun e=>hne2 e) (fun e=>by have:=(HLow.out) _ e;omega));have y1:=cell_of_row w8 _ 3 _ _ _ nod8;have y2:w8.frozen? ⟨w.heap.size+1,3,none⟩=false:=(by simp [World.frozen?,nod8]);have HOwn8:=hide hown8;have HK8:=hide k8;have HNod8:=hide nod8;clear hown8 hgrow8 k8 nod8)
   have kF:Kp (fun q=>q=w.heap.size+1∨q=wr.heap.size∨(Value.slice ao2 j cap2).ownBlock=some q) wr (w8.setCell ⟨w.heap.size+1,3,none⟩ (.slice (some ⟨g8,0,none⟩) (j+1) cap8)) :=
    Kp.setCell (Kp.trans (Kp.ofBelow k5 _) HK8.out (fun q _ e=>.inr e)) (p:=⟨w.heap.size+1,3,none⟩) (fun _=>.inl rfl) _
   have k58:Kp (fun q=>q=w.heap.size+1∨q=wr.heap.size∨(Value.slice ao2 j cap2).ownBlock=some q) w5 (w8.setCell ⟨w.heap.size+1,3,none⟩ (.slice (some ⟨g8,0,none⟩) (j+1) cap8)) :=
    Kp.setCell ((HK8.out).mono (fun q _ e=>.inr e)) (p:=⟨w.heap.size+1,3,none⟩) (fun _=>.inl rfl) _
   have hg8:g8≠w.heap.size+1:=fun e=>by
    rcases hat8 with h|h
    ·have:=(HLow.out) _ h;omega
    ·omega
   have hzF:=kF.size
   have hz58:=k58.size
   have HN:Hid (InSh w k ps (j+1) (.slice (some ⟨g8,0,none⟩) (j+1) cap8) (qs++[(.int .i64 qa,.int .i64 qb,.string qc,.slice qd qn qp)]) (fun q=>E q∨E5 q) (w8.setCell ⟨w.heap.size+1,3,none⟩ (.slice (some ⟨g8,0,none⟩) (j+1) cap8))):=by
    refine ⟨kF.heap (HI.out).res (fun e=>?_),?_,?_,by simp [(HI.out).len],fun i q p hq hp=>?_,fun q e=>?_,?_,by omega⟩
    ·rcases e with e|e|e
     ·omega
     ·omega
     ·have:=(HLow.out) _ e;omega
    ·simp [World.setCell,Array.getElem?_modify,HNod8.out]
    ·rw [List.flatMap_append]
     exact ownsRow_setCell_other HOwn8.out (by simp [Value.ownBlock];omega) _
    ·rcases Nat.lt_or_ge i qs.length with hi|hi
     ·rw [List.getElem?_append_left hi] at hq
      refine (((HI.out).kids i q p hq hp).kept kF (fun q e e2=>?_)).low (fun _=>.inl)
      obtain ⟨s1,s2,s3⟩:=(HI.out).sep q e2
      rcases e with e|e|e
      ·omega
      ·omega
      ·exact s3 e
     ·have hlq:=(HI.out).len
      have hij:i=qs.length:=by
       rcases Nat.lt_or_ge i (qs.length+1) with g|g
       ·omega
       ·rw [List.getElem?_eq_none (by simp;omega)] at hq;cases hq
      subst hij
      rw [List.getElem?_append_right (Nat.le_refl _),Nat.sub_self] at hq
      obtain rfl:=Option.some.inj hq
      rw [hlq,hget] at hp
      obtain rfl:=Option.some.inj hp
      refine ((H51.out).kept k58 (fun q e e2=>?_)).low (fun _=>.inr)
      have:=(H52.out) q e2
      rcases e with e|e|e
      ·omega
      ·omega
      ·have:=(HLow.out) _ e;omega
    ·simp only [Value.ownBlock,ne_eq,Option.some.injEq]
     rcases e with e|e
     ·obtain ⟨s1,s2,s3⟩:=(HI.out).sep q e
      refine ⟨s1,by omega,fun h=>?_⟩
      subst h
      rcases hat8 with h|h
      ·exact s3 h
      ·omega
     ·have:=(H52.out) q e
      refine ⟨by omega,by omega,fun h=>?_⟩
      subst h
      rcases hat8 with h|h
      ·have:=(HLow.out) _ h;omega
      ·omega
    ·exact (HI.out).bel.trans (Kp.below kF (by omega) (fun q e=>by
      rcases e with e|e|e
      ·omega
      ·omega
      ·have:=(HLow.out) _ e;omega))
   exact ⟨⟨j+1,_,_,_,rfl,by go_num,by omega,HN⟩,by simp only [intOf];omega⟩
end Go.Proofs.YtbmebfgapjhchaaGreatDoor
/- Root. -/
namespace Go.Proofs.YtbmebfgapjhchaaGreatDoor
open Go.RowKit Go.Shelf
open M
theorem IsTr.below {w w':World} {tb:Nat} {s:ByteArray} (h:IsTr w tb s) (hk:Below w.heap.size w w'):IsTr w' tb s:=by
 obtain ⟨db,dv,B,D,c0,c1,hd,hp,hD⟩:=h.ex
 have k:=Kp.ofBelow hk (fun _=>False)
 exact ⟨db,dv,B,D,k.cellv c0 id,k.cellv c1 id,hd.below hk,hp.keep k (fun _ _=>id),fun q hq=>Nat.lt_of_lt_of_le (hD q hq) hk.size⟩
set_option maxRecDepth 100000 in
set_option maxHeartbeats 300000 in
theorem text_same (b:Nat) (s:ByteArray) (w:World) (q1:w.cell? ⟨b,0,none⟩=some (.string s)) :
  Calls Tryz.prog 67 #[.pointer (some ⟨b,0,none⟩)] w fun e w'=>e=.returned (.string s)∧w'=w:=by
 go_enter Tryz.func67,Tryz.ntmps67
 go_wp2_with fail
 go_ret
 exact ⟨rfl,rfl⟩
set_option maxRecDepth 100000 in
set_option maxHeartbeats 300000 in
theorem root_res (W:World) (b:Nat) (a1 a2:Int) (a3:ByteArray) (a4:Option Addr) (a5 a6:Nat) (t0 t1 t3 t4 t5 t6 t7 t8 t9 t10 t11 t12 t13 t14 t15 t16 t17 t18:Value) (h:W.heap[b]?=some (.cells #[.int .i64 a1,.int .i64 a2,.string a3,.slice a4 a5 a6] 120 (0,0))) :
  (results Tryz.f44 #[t0,t1,.pointer (some ⟨b,0,none⟩),t3,t4,t5,t6,t7,t8,t9,t10,t11,t12,t13,t14,t15,t16,t17,t18]).run Tryz.prog W=.ok (.agg #[.int .i64 a1,.int .i64 a2,.string a3,.slice a4 a5 a6]) W:=by
 have m0:=cell_of_row W _ 0 _ _ _ h
 have m1:=cell_of_row W _ 1 _ _ _ h
 have m2:=cell_of_row W _ 2 _ _ _ h
 have m3:=cell_of_row W _ 3 _ _ _ h
 simp [results,Tryz.results44,go_sem,m0,m1,m2,m3]
theorem set4_A {W:World} {b:Nat} {x0 x1 x2 x3 y0 y1 y2 y3:Value} {t:TypeId} (o:Obj) (h:W.heap[b]?=some (.cells #[y0,y1,y2,y3] t (0,0))):(((((W.setCell ⟨b,0,none⟩ x0).setCell ⟨b,1,none⟩ x1).setCell ⟨b,2,none⟩ x2).setCell ⟨b,3,none⟩ x3).alloc o).heap[b]?=some (.cells #[x0,x1,x2,x3] t (0,0)):=by
 have hl:=heap_lt h
 rw [heap_alloc_old _ _ (by simpa [World.setCell] using hl)]
 simp [World.setCell,Array.getElem?_modify,h]
theorem far4 {W:World} {c b o:Nat} {x0 x1 x2 x3 v:Value} (hn:¬ b=c) (h:W.cell? ⟨b,o,none⟩=some v):((((W.setCell ⟨c,0,none⟩ x0).setCell ⟨c,1,none⟩ x1).setCell ⟨c,2,none⟩ x2).setCell ⟨c,3,none⟩ x3).cell? ⟨b,o,none⟩=some v :=
 (On.set (On.set (On.set (On.set (Kp.refl (fun k=>k=c) W) 0 x0) 1 x1) 2 x2) 3 x3).cellv h hn
set_option maxRecDepth 100000 in
set_option maxHeartbeats 4000000 in
theorem root_any (tb:Nat) (s:ByteArray) (w:World) (h:IsTr w tb s) (hz:X.psz (X.file (X.xt (bs s)))≤1073741824) (hb:X.pb (X.file (X.xt (bs s)))=bs s) (hs:s.size≤1073741823) :
  Calls Tryz.prog 44 #[.pointer (some ⟨tb,0,none⟩)] w fun e w'=>∃ nv,e=.returned nv∧Hid (∃ E,IsN w' E nv (X.file (X.xt (bs s)))∧(∀ q,E q→w.heap.size≤q∧q<w'.heap.size)∧Below w.heap.size w w'):=by
 obtain ⟨db,dv,B,D,c0,c1,hd,hp,hD⟩:=h.ex
 have HS:Hid (∀ W,Below w.heap.size w W→Calls Tryz.prog 66 #[.pointer (some ⟨B,0,none⟩),.string s] W fun e w'=>∃ (a1 a2:Int) (a3:ByteArray) (a4:Option Addr) (a5 a6:Nat),e=.returned (.tuple #[.agg #[.int .i64 a1,.int .i64 a2,.string a3,.slice a4 a5 a6],.string (ba [])]) ∧
   Hid (∃ E,IsN w' E (.agg #[.int .i64 a1,.int .i64 a2,.string a3,.slice a4 a5 a6]) (X.file (X.xt (bs s)))∧(∀ q,E q→W.heap.size≤q∧q<w'.heap.size)∧Below W.heap.size W w') ∧
   Hid (∀ (S:Nat→Prop) (w2:World),Kp S w' w2→(∀ q,S q→w.heap.size≤q∧q<W.heap.size)→∃ E,IsN w2 E (.agg #[.int .i64 a1,.int .i64 a2,.string a3,.slice a4 a5 a6]) (X.file (X.xt (bs s)))∧(∀ q,E q→w.heap.size≤q∧q<w2.heap.size)∧Below w.heap.size w w2)):=fun W hW=>by
  have h1:=bshow_any _ _ (Nat.le_refl _) hz (by rw [hb];have:=bs_len s;omega) W D B [] (hp.keep (Kp.ofBelow hW (fun _=>False)) (fun _ _=>id))
  rw [hb,List.append_nil,ba_bs] at h1
  refine h1.mono ?_
  rintro e w' ⟨nv,rfl,E,h2,h3⟩
  obtain ⟨a1,a2,a3,a4,a5,a6,rfl⟩:=h2.shape
  have hz:=hW.size
  have hz2:=h3.2.size
  refine ⟨a1,a2,a3,a4,a5,a6,rfl,⟨E,h2,h3⟩,fun S w2 k2 hS=>⟨E,h2.kept k2 (fun q hs hq=>by have:=(h3.1 q hq).1;have:=(hS q hs).2;omega),fun q hq=>?_,?_⟩⟩
  ·have:=h3.1 q hq
   have:=k2.size
   exact ⟨by omega,by omega⟩
  ·exact (hW.trans (h3.2.mono hz)).trans (Kp.below k2 (by omega) (fun q hs=>(hS q hs).1))
 have HT:Hid (∀ W,Below w.heap.size w W→Calls Tryz.prog 67 #[.pointer (some ⟨db,0,none⟩)] W fun e w'=>e=.returned (.string s)∧w'=W):=fun W hW=>text_same db s W ((Kp.ofBelow hW (fun _=>False)).cellv hd.text id)
 have htb:tb<w.heap.size:=World.block_lt_of_cell? w _ c0
 have hx:=hd.text
 have hdb:db<w.heap.size:=World.block_lt_of_cell? w _ hx
 have hne0:¬ tb=w.heap.size:=by omega
 have hne1:¬ tb=w.heap.size+1:=by omega
 have hne2:¬ w.heap.size+1=tb:=by omega
 clear h hp hd hD hb hz hx
 go_enter Tryz.func44,Tryz.ntmps44
 go_wp2_with fail
 go_region_held3 (fun w'=>w'.cell? ⟨tb,0,none⟩=some (.pointer (some ⟨db,0,none⟩))∧w'.cell? ⟨tb,1,none⟩=some (.pointer (some ⟨B,0,none⟩)))
  (first|(with_reducible exact ⟨d0,d1⟩)|(with_reducible exact ⟨far4 hne1 d0,far4 hne1 d1⟩)|go_keep)
  ((first
  | (go_at_call 66;refine ((HS.out) _ ?_).mono ?_;(first|exact ((Below.refl _ w).alloc (Nat.le_refl _) _).drew|exact (((Below.refl _ w).alloc (Nat.le_refl _) _).drew.alloc (by simp) _)|exact (((Below.refl _ w).alloc (Nat.le_refl _) _).alloc (by simp) _).drew);rintro e w5 ⟨a1,a2,a3,a4,a5,a6,rfl,H5,H6⟩;have d0:=(Kp.ofBelow (H5.out.choose_spec).2.2 (fun _=>False)).cellv (p:=⟨tb,0,none⟩) (v:=.pointer (some ⟨db,0,none⟩)) (by go_keep) id;have d1:=(Kp.ofBelow (H5.out.choose_spec).2.2 (fun _=>False)).cellv (p:=⟨tb,1,none⟩) (v:=.pointer (some ⟨B,0,none⟩)) (by go_keep) id;have hres:=(Kp.ofBelow (H5.out.choose_spec).2.2 (fun _=>False)).heap (b:=w.heap.size) (o:=.cells #[.int .i64 0,.int .i64 0,.string ⟨#[]⟩,.slice none 0 0] 120 (0,0)) (by first|exact heap_alloc_new w _|exact (heap_alloc_old _ _ (by simp)).trans (heap_alloc_new w _)) id;try (have hblk:=(Kp.ofBelow (H5.out.choose_spec).2.2 (fun _=>False)).heap (b:=w.heap.size+1) (o:=.cells #[.int .i64 0,.int .i64 0,.string ⟨#[]⟩,.slice none 0 0] 120 (0,0)) (by first|exact new_at (w.alloc _) _ (World.size_alloc w _)|exact new_at (w.alloc _).drew _ (World.size_alloc w _)) id;have t0:=cell_of_row w5 _ 0 _ _ _ hblk;have t1:=cell_of_row w5 _ 1 _ _ _ hblk;have t2:=cell_of_row w5 _ 2 _ _ _ hblk;have t3:=cell_of_row w5 _ 3 _ _ _ hblk;have z0:w5.frozen? ⟨w.heap.size+1,0,none⟩=false:=(by simp [World.frozen?,hblk]);have z1:w5.frozen? ⟨w.heap.size+1,1,none⟩=false:=(by simp [World.frozen?,hblk]);have z2:w5.frozen? ⟨w.heap.size+1,2,none⟩=false:=(by simp [World.frozen?,hblk]);have z3:w5.frozen? ⟨w.heap.size+1,3,none⟩=false:=(by simp [World.frozen?,hblk])))
  | (go_at_call 67;refine ((HT.out) _ ?_).mono ?_;(first|exact ((Below.refl _ w).alloc (Nat.le_refl _) _).drew|exact (((Below.refl _ w).alloc (Nat.le_refl _) _).drew.alloc (by simp) _)|exact (((Below.refl _ w).alloc (Nat.le_refl _) _).alloc (by simp) _).drew);rintro e w4 ⟨rfl,rfl⟩)))
 all_goals
  have m0:=cell_of_row w5 _ 0 _ _ _ hres
  have m1:=cell_of_row w5 _ 1 _ _ _ hres
  have m2:=cell_of_row w5 _ 2 _ _ _ hres
  have m3:=cell_of_row w5 _ 3 _ _ _ hres
  have f0:w5.frozen? ⟨w.heap.size,0,none⟩=false:=by simp [World.frozen?,hres]
  have f1:w5.frozen? ⟨w.heap.size,1,none⟩=false:=by simp [World.frozen?,hres]
  have f2:w5.frozen? ⟨w.heap.size,2,none⟩=false:=by simp [World.frozen?,hres]
  have f3:w5.frozen? ⟨w.heap.size,3,none⟩=false:=by simp [World.frozen?,hres]
  have hl5:w.heap.size<w5.heap.size:=heap_lt hres
  clear H5 HS HT
  go_wp2_with fail
 ·refine bodyPost_ret (root_res _ w.heap.size a1 a2 a3 a4 a5 a6 _ _ _ _ _ _ _ _ _ _ _ _ _ _ _ _ _ _ (set4_A _ hres)) rfl ⟨_,rfl,?_⟩
  exact (H6.out) (fun q=>q=w.heap.size) _ (Kp.alloc (On.set (On.set (On.set (On.set (Kp.refl _ w5) 0 _) 1 _) 2 _) 3 _) _) (fun q e=>by subst e;simp)
 all_goals
  refine bodyPost_ret (root_res _ w.heap.size a1 a2 a3 a4 a5 a6 _ _ _ _ _ _ _ _ _ _ _ _ _ _ _ _ _ _ ?_) rfl ⟨_,rfl,?_⟩
  ·simp [World.setCell,Array.getElem?_modify,hres]
  ·refine (H6.out) (fun q=>q=w.heap.size∨q=w.heap.size+1) _ ?_ (fun q e=>by simp;omega)
   repeat (first|(with_reducible exact Kp.refl _ _)|(with_reducible refine Kp.setCell ?_ (fun _=>by simp) _))
end Go.Proofs.YtbmebfgapjhchaaGreatDoor
