import Derived.Test.YtoohcklcppnafaaGreatDoorTa
namespace Go.Proofs.YtoohcklcppnafaaGreatDoor
set_option maxRecDepth 100000
set_option maxHeartbeats 4000000
open Tryz
open Go.RowKit
open M
theorem V8(L:List Tk):∀ u∈L.flatMap uq,u.oneCell'=true:=by
 intro u hu;obtain⟨t,-,ht⟩:=List.mem_flatMap.1 hu;unfold uq at ht;simp only[fJ,o7,or_false] at ht;rcases ht with rfl|rfl|rfl<;>rfl
theorem V9(L:List Tk):(L.flatMap uq).length=L.length*3:=by
 induction L with
 | nil=>rfl
 | cons t L ih=>rw[nX,ay,ih,aY];unfold uq;simp;omega
theorem R8(L:List Tk):∀(j:Nat) (u:Value),(L.flatMap uq)[j]?=some u→∃ i t r,L[i]?=some t∧j=i*3+r∧((r=0∧u=ak t.kind)∨(r=1∧u=ak t.pos)∨(r=2∧u=ak t.len)):=by
 induction L with
 | nil=>intro j u h;simp at h
 | cons t L ih =>
  intro j u h;rw[nX] at h;by_cases hj:j<3
  ·rw[bT (by unfold uq;simpa using hj)] at h
   refine⟨0,t,j,rfl,au,?_⟩;unfold uq at h;rcases(au:j=0∨j=1∨j=2) with rfl|rfl|rfl
   ·exact .inl ⟨rfl,by simpa using h.symm⟩
   ·exact .inr (.inl ⟨rfl,by simpa using h.symm⟩)
   ·exact .inr (.inr ⟨rfl,by simpa using h.symm⟩)
  ·rw[bL (by unfold uq;simp;omega)] at h
   obtain⟨i,t',r,h1,h2,h3⟩:=ih _ _ h;refine⟨i+1,t',r,by simpa using h1,?_,h3⟩;unfold uq at h2;simp at h2;omega
theorem yt.cells{w:aG}{b o n cap:Nat}{L:List Tk}(h:yt w (.slice (some ⟨b,o,none⟩) n cap) L):∀ j u,(L.flatMap uq)[j]?=some u→w.cell? (aC b (o+j))=some u:=by
 obtain⟨ao,cap',e,h1,h2,h3⟩:=h;injection e with e1 e2 e3;subst e1;intro j u hu;obtain⟨i,t,r,q1,q2,q3⟩:=R8 L j u hu;have hi:i<L.length:=by
  rcases cu i L.length with g|g
  ·exact g
  ·rw[bf g] at q1;cases q1
 obtain⟨b',o',e',ha⟩:=h3 i hi;injection e' with e';injection e' with e1 e2 e3;subst e1;subst e2;obtain⟨a1,a2,a3⟩:=ha t q1;rcases q3 with ⟨rfl,rfl⟩|⟨rfl,rfl⟩|⟨rfl,rfl⟩
 ·rw[q2];exact a1
 ·rw[q2,← fK];exact a2
 ·rw[q2,← fK];exact a3
theorem OG(v:Value)(L:List Tk)(w:aG)(h:yt w v L)(hL:L.length≤1073741824) :
  bB 111 #[v] w fun e w'=>∃ v',e=.returned v'∧Hid (w'.ownsRow w.heap.size 155 3 v' L.length (L.flatMap uq))∧Below w.heap.size w w':=by
 obtain⟨i0,hi0,hz0,hz1,hz2⟩:=dM R9;have q22:∀(w:aG) (a:Option Addr) (n c n' c':Nat),(binOp .eql 184 (.slice a n c) (.slice none n' c')).run prog w=.ok (.bool a.isNone) w:=fun w a n c n' c'=>Lib.run_eql_slice_nil w _ _ a n c n' c' underlying184
 have H:=aA h;obtain⟨ao,cap,rfl,hc1,hc2,h3⟩:=h;cases ao with
 | none =>
  have h0:L=[]:=by
   rcases gZ L.length with g|g
   ·exact bP.1 g
   ·obtain⟨b,o,e,-⟩:=h3 0 g;cases e
  subst h0;clear h3;go_enter func111,ntmps111;go_wp2_with fail
  go_ret;exact⟨_,rfl,dK _ _ _ _,aB _ _⟩
 | some ad =>
  have HN:Hid (∀ j u,(L.flatMap uq)[j]?=some u→w.cell? (ad.add j)=some u):=by
   intro j u hu;obtain⟨i,t,r,q1,-⟩:=R8 L j u hu;have hi:i<L.length:=by
    rcases cu i L.length with g|g
    ·exact g
    ·rw[bf g] at q1;cases q1
   obtain⟨b,o,e,-⟩:=h3 i hi;injection e with e;subst e;rw[dQ];exact(H.o).cells j u hu
  clear h3;go_enter func111,ntmps111;go_wp2_with (at_builtin;refine wpList_append_own _ rfl _ _ 184 rfl w.heap.size 155 i0 _ 3 24 underlying184 hi0 hz0 hz1 hz2 rfl aS _ _ _ rfl (World.ownsRow_made w #[] 0 (ax _) (bJ _) aT) ad L.length cap (L.flatMap uq) rfl ?qc1 ?qc2 ?qc3 ?qc4 ?qc5 ?qc6 ?_)
  case qc1=>exact V9 L
  case qc2=>intro j u hj;exact Lib.cell?_alloc_some _ (HN.o j u hj)
  case qc3=>exact V8 L
  case qc4=>rw[bS];omega
  case qc5=>rw[bS];omega
  case qc6=>simp
  intro v' w1 hown hgrow hnil;go_wp2
  go_ret;refine⟨v',rfl,by show w1.ownsRow _ _ _ _ _ _;simpa using hown,?_⟩;exact((aB _ w).alloc (ax _) _).grown hgrow aT (by intro k hk;simp[Value.ownBlock] at hk;omega)
theorem Co(b:Nat)(v:Value)(s:ByteArray)(w:aG)(h:PY w b v s)(hs:s.size≤1073741824) :
  bB 82 #[aH b] w fun e w'=>∃ v',e=.returned v'∧Hid (w'.ownsRow w.heap.size 155 3 v' (toks 0 (bs s)).length ((toks 0 (bs s)).flatMap uq))∧Below w.heap.size w w':=by
 obtain⟨q1,q2,hr⟩:=h;have hl:=sZ _ 0 (bs s) (ax _);rw[eY] at hl;have HC:=aA (OG v _ w hr au);clear hr;go_enter func82,ntmps82;go_wp2_with fail
 refine(HC.o).mono ?_;rintro e w1 ⟨v',rfl,HO,k1⟩;go_wp2_with fail
 go_ret;exact⟨v',rfl,HO,k1⟩
end Go.Proofs.YtoohcklcppnafaaGreatDoor
