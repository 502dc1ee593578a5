/- The tokens of a text that is kept: a copy. -/
import Derived.Test.YtdkpkpgpphkljaaGreatDoorTa
namespace Go.Proofs.YtdkpkpgpphkljaaGreatDoor
set_option maxRecDepth 100000
set_option maxHeartbeats 4000000
open Tryz
open Go.RowKit
open M
theorem Vh(L:List Tk):∀ u∈L.flatMap vM,u.oneCell'=true:=by
 intro u hu;obtain⟨t,-,ht⟩:=kX.1 hu;unfold vM at ht;simp only[cK,kZ,or_false] at ht;rcases ht with rfl|rfl|rfl<;>rfl
theorem Vi(L:List Tk):(L.flatMap vM).length=L.length*3:=by
 induction L with
 | nil=>rfl
 | cons t L ih=>rw[f_,ak,ih,aW];unfold vM;simp;omega
theorem QX(L:List Tk):∀(j:Nat) (u:Value),(L.flatMap vM)[j]?=some u→∃ i t r,L[i]?=some t∧j=i*3+r∧((r=0∧u=.int .i64 t.kind)∨(r=1∧u=.int .i64 t.pos)∨(r=2∧u=.int .i64 t.len)):=by
 induction L with
 | nil=>intro j u h;simp at h
 | cons t L ih =>
  intro j u h;rw[f_] at h;by_cases hj:j<3
  ·rw[aU (by unfold vM;simpa using hj)] at h
   refine⟨0,t,j,rfl,by omega,?_⟩;unfold vM at h;rcases(by omega:j=0∨j=1∨j=2) with rfl|rfl|rfl
   ·exact .inl ⟨rfl,by simpa using h.symm⟩
   ·exact .inr (.inl ⟨rfl,by simpa using h.symm⟩)
   ·exact .inr (.inr ⟨rfl,by simpa using h.symm⟩)
  ·rw[aQ (by unfold vM;simp;omega)] at h
   obtain⟨i,t',r,h1,h2,h3⟩:=ih _ _ h;refine⟨i+1,t',r,by simpa using h1,?_,h3⟩;unfold vM at h2;simp at h2;omega
theorem yJ.cells{w:World}{b o n cap:Nat}{L:List Tk}(h:yJ w (.slice (some ⟨b,o,none⟩) n cap) L):∀ j u,(L.flatMap vM)[j]?=some u→w.cell? ⟨b,o+j,none⟩=some u:=by
 obtain⟨ao,cap',e,h1,h2,h3⟩:=h;injection e with e1 e2 e3;subst e1;intro j u hu;obtain⟨i,t,r,q1,q2,q3⟩:=QX L j u hu;have hi:i<L.length:=by
  rcases bE i L.length with g|g
  ·exact g
  ·rw[aO g] at q1;cases q1
 obtain⟨b',o',e',ha⟩:=h3 i hi;injection e' with e';injection e' with e1 e2 e3;subst e1;subst e2;obtain⟨a1,a2,a3⟩:=ha t q1;rcases q3 with ⟨rfl,rfl⟩|⟨rfl,rfl⟩|⟨rfl,rfl⟩
 ·rw[q2];exact a1
 ·rw[q2,← fw];exact a2
 ·rw[q2,← fw];exact a3
theorem M8(v:Value)(L:List Tk)(w:World)(h:yJ w v L)(hL:L.length≤1073741824) :
  Calls prog 87 #[v] w fun e w'=>∃ v',e=.returned v'∧Hid (w'.ownsRow w.heap.size 203 3 v' L.length (L.flatMap vM))∧Below w.heap.size w w':=by
 obtain⟨i0,hi0,hz0,hz1,hz2⟩:=gB QY;have q22:∀(w:World) (a:Option Addr) (n c n' c':Nat),(binOp .eql 169 (.slice a n c) (.slice none n' c')).run prog w=.ok (.bool a.isNone) w:=fun w a n c n' c'=>Lib.run_eql_slice_nil w _ _ a n c n' c' underlying169
 have H:=au h;obtain⟨ao,cap,rfl,hc1,hc2,h3⟩:=h;cases ao with
 | none =>
  have h0:L=[]:=by
   rcases gF L.length with g|g
   ·exact aT.1 g
   ·obtain⟨b,o,e,-⟩:=h3 0 g;cases e
  subst h0;clear h3;go_enter func87,ntmps87;go_wp2_with fail
  go_ret;exact⟨_,rfl,bY _ _ _ _,ay _ _⟩
 | some ad =>
  have HN:Hid (∀ j u,(L.flatMap vM)[j]?=some u→w.cell? (ad.add j)=some u):=by
   intro j u hu;obtain⟨i,t,r,q1,-⟩:=QX L j u hu;have hi:i<L.length:=by
    rcases bE i L.length with g|g
    ·exact g
    ·rw[aO g] at q1;cases q1
   obtain⟨b,o,e,-⟩:=h3 i hi;injection e with e;subst e;rw[fe];exact(H.o).cells j u hu
  clear h3;go_enter func87,ntmps87;go_wp2_with (at_builtin;refine wpList_append_own _ rfl _ _ 169 rfl w.heap.size 203 i0 _ 3 24 underlying169 hi0 hz0 hz1 hz2 rfl (by decide) _ _ _ rfl (World.ownsRow_made w #[] 0 (aj _) (aX _) (by simp)) ad L.length cap (L.flatMap vM) rfl ?qc1 ?qc2 ?qc3 ?qc4 ?qc5 ?qc6 ?_)
  case qc1=>exact Vi L
  case qc2=>intro j u hj;exact Lib.cell?_alloc_some _ (HN.o j u hj)
  case qc3=>exact Vh L
  case qc4=>rw[cu];omega
  case qc5=>rw[cu];omega
  case qc6=>simp
  intro v' w1 hown hgrow hnil;go_wp2
  go_ret;refine⟨v',rfl,by show w1.ownsRow _ _ _ _ _ _;simpa using hown,?_⟩;exact((ay _ w).alloc (aj _) _).grown hgrow (by simp) (by intro k hk;simp[Value.ownBlock] at hk;omega)
theorem BB(b:Nat)(v:Value)(s:ByteArray)(w:World)(h:Om w b v s)(hs:s.size≤1073741824) :
  Calls prog 59 #[.pointer (some ⟨b,0,none⟩)] w fun e w'=>∃ v',e=.returned v'∧Hid (w'.ownsRow w.heap.size 203 3 v' (toks 0 (bs s)).length ((toks 0 (bs s)).flatMap vM))∧Below w.heap.size w w':=by
 obtain⟨q1,q2,hr⟩:=h;have hl:=sw _ 0 (bs s) (aj _);rw[eZ] at hl;have HC:=au (M8 v _ w hr (by omega));clear hr;go_enter func59,ntmps59;go_wp2_with fail
 refine(HC.o).mono ?_;rintro e w1 ⟨v',rfl,HO,k1⟩;go_wp2_with fail
 go_ret;exact⟨v',rfl,HO,k1⟩
end Go.Proofs.YtdkpkpgpphkljaaGreatDoor
