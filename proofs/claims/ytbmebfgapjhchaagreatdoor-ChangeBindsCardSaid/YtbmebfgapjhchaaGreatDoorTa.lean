/- The tokens of a text,as a row in memory. -/
import Derived.Test.YtbmebfgapjhchaaGreatDoorHa
import Derived.Deep.AppendLies
import Derived.OwnWalk
import Derived.Handy
import Derived.Test.YtbmebfgapjhchaaGreatDoorCb
namespace Go.Proofs.YtbmebfgapjhchaaGreatDoor
open Go.RowKit
open M
def tkv (t:Tk):List Value:=[.int .i64 (t.kind:Int),.int .i64 (t.pos:Int),.int .i64 (t.len:Int)]
theorem tkv_get {L:List Tk} {i j:Nat} {t:Tk} (ht:L[i]?=some t) (hj:j<3):(L.flatMap tkv)[i*3+j]?=(tkv t)[j]?:=by
 induction L generalizing i with
 | nil=>simp at ht
 | cons a L ih =>
  cases i with
  | zero =>
   obtain rfl:a=t:=by simpa using ht
   rw [List.flatMap_cons,List.getElem?_append_left (by simp [tkv];omega)];simp
  | succ i =>
   rw [List.flatMap_cons,List.getElem?_append_right (by simp [tkv];omega),show (i+1)*3+j - (tkv a).length=i*3+j by simp [tkv];omega]
   exact ih (by simpa using ht)
def IsT (w:World) (v:Value) (L:List Tk):Prop :=
 ∃ ao cap,v=.slice ao L.length cap∧L.length≤cap∧cap≤maxLen∧(∀ i,i<L.length→∃ b o,ao=some ⟨b,o,none⟩∧∀ t,L[i]?=some t →
  w.cell? ⟨b,o+i*3,none⟩=some (.int .i64 t.kind)∧w.cell? ⟨b,o+i*3+1,none⟩=some (.int .i64 t.pos)∧w.cell? ⟨b,o+i*3+2,none⟩=some (.int .i64 t.len))
theorem IsT.keep {S:Nat→Prop} {w w':World} {v:Value} {L:List Tk} (h:IsT w v L) (hk:Kp S w w') (hn:∀ k,v.ownBlock=some k→¬ S k):IsT w' v L:=by
 obtain ⟨ao,cap,rfl,h1,h2,h3⟩:=h
 refine ⟨ao,cap,rfl,h1,h2,fun i hi=>?_⟩
 obtain ⟨b,o,rfl,ha⟩:=h3 i hi
 refine ⟨b,o,rfl,fun r hr=>?_⟩
 obtain ⟨q1,q2,q3⟩:=ha r hr
 have hs:¬ S b:=hn b rfl
 exact ⟨hk.cellv q1 hs,hk.cellv q2 hs,hk.cellv q3 hs⟩
theorem IsT.below {w w':World} {v:Value} {L:List Tk} (h:IsT w v L) (hk:Below w.heap.size w w'):IsT w' v L :=
 h.keep (Kp.ofBelow hk (fun _=>False)) (fun _ _=>id)
theorem IsT.ofOwns {w:World} {base:Nat} {e:TypeId} {v:Value} {L:List Tk} (h:w.ownsRow base e 3 v L.length (L.flatMap tkv)):IsT w v L:=by
 have hc:=fun g hg=>h.cells (g:=g) hg
 rcases h.2 with ⟨rfl,h0⟩|⟨g,cap,cur,rfl,hb,hg,hn,hm,hs,ht⟩
 ·exact ⟨none,0,by rw [h0],by omega,by unfold maxLen;omega,fun i hi=>by omega⟩
 ·refine ⟨_,cap,rfl,hn,hm,fun i hi=>⟨_,_,rfl,fun r hr=>?_⟩⟩
  have hc':=hc g rfl
  have ad:∀ n,(⟨g,0,none⟩:Addr).add n=⟨g,0+n,none⟩:=by intro n;unfold Addr.add;split<;>simp_all
  have c0:=hc' (i*3) _ ((tkv_get hr (by omega:0<3)).trans rfl)
  have c1:=hc' (i*3+1) _ ((tkv_get hr (by omega:1<3)).trans rfl)
  have c2:=hc' (i*3+2) _ ((tkv_get hr (by omega:2<3)).trans rfl)
  rw [ad] at c0 c1 c2
  exact ⟨c0,by rw [Nat.add_assoc];exact c1,by rw [Nat.add_assoc];exact c2⟩
theorem owns_base {w:World} {B B':Nat} {e:TypeId} {z:Nat} {v:Value} {n:Nat} {xs:List Value} (h:w.ownsRow B e z v n xs) (hB:B'≤B):w.ownsRow B' e z v n xs:=by
 refine ⟨h.1,?_⟩
 rcases h.2 with h'|⟨g,cap,cur,rfl,hb,rest⟩
 ·exact .inl h'
 ·exact .inr ⟨g,cap,cur,rfl,by omega,rest⟩
def lenOf:Value→Nat|.slice _ n _=>n|_=>0
theorem owns_len {w:World} {B:Nat} {e:TypeId} {z:Nat} {v:Value} {n:Nat} {xs:List Value} (h:w.ownsRow B e z v n xs):lenOf v=n:=by
 rcases h.2 with ⟨rfl,rfl⟩|⟨g,cap,cur,rfl,_⟩<;>rfl
theorem owns_ge {w:World} {B:Nat} {e:TypeId} {z:Nat} {v:Value} {n:Nat} {xs:List Value} (h:w.ownsRow B e z v n xs):∀ k,v.ownBlock=some k→B≤k∧k<w.heap.size:=by
 rcases h.2 with ⟨rfl,rfl⟩|⟨g,cap,cur,rfl,hb,hg,_⟩
 ·intro k hk;simp [Value.ownBlock] at hk
 ·intro k hk;simp [Value.ownBlock] at hk;subst hk;exact ⟨hb,heap_lt hg⟩
theorem info29:(Tryz.prog.info? 99).map (fun i=>(i.zero,i.size,i.bytes))=some (some (.agg #[.int .i64 0,.int .i64 0,.int .i64 0]),3,24):=by kernel_rfl
structure InTok (w0:World) (B b:Nat) (s:ByteArray) (L0:List Tk) (q:Nat) (v:Value) (w:World):Prop where
 rdr:Rdr w b s q
 row:w.ownsRow B 99 3 v L0.length (L0.flatMap tkv)
 far:b<B
 on:On b w0 w
 le:L0.length≤q
theorem toks_flat (L:List Tk) (t:Tk):(L++[t]).flatMap tkv=L.flatMap tkv++tkv t:=by simp
set_option maxRecDepth 100000 in
set_option maxHeartbeats 4000000 in
theorem tokens_any (s:ByteArray) (w:World) (hT:Tabs w) (hs:s.size≤1073741824) :
  Calls Tryz.prog 76 #[.string s] w fun e w'=>∃ v,e=.returned v∧w'.ownsRow w.heap.size 99 3 v (toks 0 (bs s)).length ((toks 0 (bs s)).flatMap tkv)∧Below w.heap.size w w':=by
 obtain ⟨i0,hi0,hz0,hz1,hz2⟩:=info_parts info29
 go_enter Tryz.func76,Tryz.ntmps76
 go_wp2_with fail
 refine (readFrom_any s 0 _ hT (Nat.zero_le _) (by omega)).mono ?_
 rintro e w1 ⟨rfl,r1,k1⟩
 have hz:=k1.size
 have hbl:=r1.raw.lt
 have K1:=hide k1
 clear k1
 go_wp2_with fail
 go_loopw [3] (fun v wr=>∃ (L0:List Tk) (q:Nat),Hid (InTok w1 w1.heap.size w.heap.size s L0 q v wr∧toks 0 (bs s)=L0++toks q ((bs s).drop q))) (fun v _=>s.size - lenOf v)
 case atStart=>exact ⟨[],0,⟨⟨r1,World.ownsRow_nil _ _ _ _,hbl,Kp.refl _ _,Nat.le_refl _⟩,by simp⟩⟩
 case round =>
  obtain ⟨L0,q,HI⟩:=hrel
  have hq:=(HI.out).1.rdr.le
  have hl0:=(HI.out).1.le
  obtain ⟨⟨c0,c1,c2,c3⟩,-⟩:=(HI.out).1.rdr.raw.facts
  by_cases hlt:q<s.size
  ·have hne:(cc ((bs s).drop q) !=-1)=true:=by
    have:=drop_ne hlt
    simp only [bne_iff_ne,ne_eq,cc_ne];exact this
   go_wp2_with fail
   refine (token_any w.heap.size s q _ (HI.out).1.rdr hlt).mono ?_
   rintro e w2 ⟨rfl,r2,k2⟩
   have how:w2.ownsRow w1.heap.size 99 3 u3 L0.length (L0.flatMap tkv):=Kp.owns k2 (HI.out).1.row (fun k hk e=>by have:=(owns_ge (HI.out).1.row k hk).1;omega)
   have HO:=hide how
   have hsz2:w1.heap.size≤w2.heap.size:=Nat.le_trans (HI.out).1.on.size k2.size
   have HK:=hide (And.intro r2 k2)
   clear how r2 k2 c0 c1 c2 c3
   go_wp2_with (at_builtin;refine wpList_append_lies _ rfl _ _ 185 rfl w1.heap.size 99 i0 _ 3 24 Tryz.underlying185 hi0 hz0 hz1 hz2 rfl (by decide) u3 L0.length _ rfl ((HO.out).alloc _) ⟨w2.heap.size,0,none⟩ 1 1 (tkv ⟨(tok ((bs s).drop q)).1,q,(tok ((bs s).drop q)).2⟩) rfl rfl (World.news_of_block (cs:=#[.int .i64 (tok ((bs s).drop q)).1,.int .i64 q,.int .i64 (tok ((bs s).drop q)).2]) (heap_alloc_new w2 _)) (by simp [Value.oneCell',tkv]) (by omega) (by unfold maxLen;omega) (by omega) (by simp;omega) (w2.heap.size+1) (by simp) ?_;intro g cap w5 hown5 hgrow5 hat5 hlt5)
   have hrow:=(HI.out).1.row
   have hge:=owns_ge hrow
   have h7:=hT.2
   obtain ⟨r2,k2⟩:=HK.out
   have kW:Kp (fun k=>u3.ownBlock=some k) w2 w5:=Kp.grown (Kp.alloc (Kp.refl _ w2) _) hgrow5 (fun k e _=>e)
   have hb:=tok_bounds (drop_ne hlt)
   refine ⟨⟨L0++[⟨(tok ((bs s).drop q)).1,q,(tok ((bs s).drop q)).2⟩],q+(tok ((bs s).drop q)).2,⟨⟨r2.keep kW (fun e=>by have:=(hge _ e).1;omega) (fun k hk e=>by have:=(hge _ e).1;omega),?_,hbl,?_,?_⟩,?_⟩⟩,?_⟩
   ·rw [toks_flat,List.length_append];exact hown5
   ·exact Kp.trans ((HI.out).1.on.to k2) kW (fun i hi e=>by have:=(hge _ e).1;omega)
   ·rw [List.length_append];simp only [List.length_singleton];omega
   ·rw [(HI.out).2,toks_cons (drop_ne hlt),List.drop_drop];simp
   ·rw [owns_len hrow];simp only [lenOf];omega
  ·have hqe:q=s.size:=by omega
   have HE:Hid ((bs s).drop q=[]):=by show _=_;rw [hqe,← bs_len];simp
   rw [HE.out,cc_nil] at c2
   clear hqe
   go_wp2_with fail
   go_ret
   have e1:toks 0 (bs s)=L0:=by have:=(HI.out).2;rw [HE.out,toks_nil,List.append_nil] at this;exact this
   rw [e1]
   refine ⟨_,rfl,owns_base (HI.out).1.row hz,(K1.out).trans ?_⟩
   exact (HI.out).1.on.below hz (Nat.le_refl _)
end Go.Proofs.YtbmebfgapjhchaaGreatDoor
/- Tokens stand side by side from a text's beginning to its end. -/
namespace Go.Proofs.YtbmebfgapjhchaaGreatDoor
open Go.RowKit
open M
theorem IsT.get {w wr:World} {ao:Option Addr} {n cap:Nat} {L:List Tk} (h:IsT w (.slice ao n cap) L) (hb:Below w.heap.size w wr) {k:Nat} (hk:k<L.length) :
  ∃ b o t,ao=some ⟨b,o,none⟩∧L[k]?=some t∧wr.cell? ⟨b,o+k*3,none⟩=some (.int .i64 t.kind)∧wr.cell? ⟨b,o+k*3+1,none⟩=some (.int .i64 t.pos)∧wr.cell? ⟨b,o+k*3+2,none⟩=some (.int .i64 t.len):=by
 obtain ⟨_,_,e,_,_,h3⟩:=h.below hb
 cases e
 obtain ⟨b,o,ha,h4⟩:=h3 k hk
 obtain ⟨q1,q2,q3⟩:=h4 L[k] (List.getElem?_eq_getElem hk)
 exact ⟨b,o,L[k],ha,List.getElem?_eq_getElem hk,q1,q2,q3⟩
theorem drop_at {L:List Tk} {k:Nat} {t:Tk} (h:L[k]?=some t):L.drop k=t::L.drop (k+1):=by
 have hk:k<L.length:=by
  rcases Nat.lt_or_ge k L.length with h'|h'
  ·exact h'
  ·rw [List.getElem?_eq_none h'] at h;cases h
 rw [List.getElem?_eq_getElem hk] at h
 cases h
 exact List.drop_eq_getElem_cons hk
end Go.Proofs.YtbmebfgapjhchaaGreatDoor
/- Where some tokens end;a text with its tokens in memory. -/
namespace Go.Proofs.YtbmebfgapjhchaaGreatDoor
open Go.RowKit
open M
structure IsD (w:World) (b:Nat) (v:Value) (s:ByteArray):Prop where
 text:w.cell? ⟨b,0,none⟩=some (.string s)
 held:w.cell? ⟨b,1,none⟩=some v
 row:IsT w v (toks 0 (bs s))
theorem IsD.below {w w':World} {b:Nat} {v:Value} {s:ByteArray} (h:IsD w b v s) (hk:Below w.heap.size w w'):IsD w' b v s :=
 ⟨(Kp.ofBelow hk (fun _=>False)).cellv h.text id,(Kp.ofBelow hk (fun _=>False)).cellv h.held id,h.row.below hk⟩
set_option maxRecDepth 100000 in
set_option maxHeartbeats 4000000 in
theorem new_any (s:ByteArray) (w:World) (hT:Tabs w) (hs:s.size≤1073741824) :
  Calls Tryz.prog 49 #[.string s] w fun e w'=>∃ b,e=.returned (.pointer (some ⟨b,0,none⟩))∧Hid (∃ v,w.heap.size≤b∧b<w'.heap.size∧IsD w' b v s∧(∀ k,v.ownBlock=some k→w.heap.size≤k∧k<b)∧Below w.heap.size w w'):=by
 go_enter Tryz.func49,Tryz.ntmps49
 go_wp2_with fail
 refine (tokens_any s _ hT hs).mono ?_
 rintro e w1 ⟨v,rfl,hown,k1⟩
 have HO:=hide (owns_ge hown)
 have HR:=hide (IsT.ofOwns hown)
 have K1:=hide k1
 obtain ⟨ao,cap,rfl,-⟩:=IsT.ofOwns hown
 clear hown k1
 go_wp2_with fail
 go_ret
 refine ⟨w1.heap.size,rfl,_,(K1.out).size,by simp,⟨?_,?_,(HR.out).below ((Below.refl _ w1).alloc (Nat.le_refl _) _)⟩,HO.out,(K1.out).alloc (K1.out).size _⟩
 ·rw [cell_of_row _ _ 0 _ _ _ (heap_alloc_new w1 _)];rfl
 ·rw [cell_of_row _ _ 1 _ _ _ (heap_alloc_new w1 _)];rfl
set_option maxRecDepth 100000 in
set_option maxHeartbeats 4000000 in
theorem text_any (b:Nat) (v:Value) (s:ByteArray) (w:World) (h:IsD w b v s) :
  Calls Tryz.prog 67 #[.pointer (some ⟨b,0,none⟩)] w fun e w'=>e=.returned (.string s)∧Below w.heap.size w w':=by
 obtain ⟨q1,q2,-⟩:=h
 go_enter Tryz.func67,Tryz.ntmps67
 go_wp2_with fail
 go_ret
 exact ⟨rfl,Below.refl _ _⟩
end Go.Proofs.YtbmebfgapjhchaaGreatDoor
