import Derived.Test.YtoohcklcppnafaaGreatDoorBc
import Derived.Test.YtoohcklcppnafaaGreatDoorZw
namespace Go.Proofs.YtoohcklcppnafaaGreatDoor
set_option maxRecDepth 100000
set_option maxHeartbeats 8000000
open Go.RowKit
open M
section
variable{e:TypeId}{v:Value}{n q g b sc:Nat}{xs:List Value}{so:Option Addr}
def rD(sl:List X.Nm):List Value:=sl.map fun n=>.string (ba n.1)
def rE(sl:List X.Nm):List Value:=sl.map fun n=>ak n.2
structure qy(B b7:Nat)(no:Option Addr)(nc:Nat)(ao:Option Addr)(ac:Nat)(sl:List X.Nm)(D:Nat→Prop)(x0 x1 x2 x3 x4 x5 x6 x7 x8 x9:Value)(w:aG):Prop where
 i1:D 1→x1=aH b7
 i2:D 2→x2=.slice no sl.length nc
 i5:D 5→x5=.pointer (some ⟨b7,1,none⟩)
 i6:D 6→x6=.slice ao sl.length ac
 i0:D 0→¬ D 3→(∃ g,x0=.slice (b_ g) 0 0)∧w.ownsRow B 9 1 x0 0 []
 i3:D 3→(∃ so sc,x3=.slice so sl.length sc)∧w.ownsRow B 9 1 x3 sl.length (rD sl)
 i4:D 4→¬ D 7→(∃ g,x4=.slice (b_ g) 0 0)∧w.ownsRow B 3 1 x4 0 []
 i7:D 7→(∃ so sc,x7=.slice so sl.length sc)∧w.ownsRow B 3 1 x7 sl.length (rE sl)
 i8:D 8→x8=.agg #[x3,x7]
 i9:D 9→¬ D 10→∃ b,x9=aH b∧B≤b∧w.heap[b]?=some (.cells #[.slice none 0 0,.slice none 0 0] 67 (0,0))
 i10:D 10→∃ b,x9=aH b∧B≤b∧w.heap[b]?=some (.cells #[x3,x7] 67 (0,0))
 j8:D 8→D 3∧D 7
 j10:D 10→D 8∧D 9
theorem eH{w:aG}{base:Nat}{s:Nat}(h:w.ownsRow base e s v n xs)(hq:v.ownBlock=some q):∃ cs d,w.heap[q]?=some (.cells cs e d):=by
 rcases h.2 with ⟨rfl,-⟩|⟨g,cap,cur,rfl,-,hg,-⟩
 ·cases hq
 ·cases hq
  exact⟨_,_,hg⟩
theorem fO{w:aG}{cs cs':Array Value}{t t':TypeId}{d d':Nat × Nat}(h:w.heap[q]?=some (.cells cs t d))(h':w.heap[q]?=some (.cells cs' t' d'))(ht:t≠t'):False:=by
 rw[h] at h';have:=bQ h';injection this with _ h2 _;exact ht h2
section
variable{B b7:Nat}{no:Option Addr}{nc:Nat}{ao:Option Addr}{ac:Nat}{sl:List X.Nm}{D:Nat→Prop}{x0 x1 x2 x3 x4 x5 x6 x7 x8 x9:Value}{w w':aG}
theorem qy.keep(H:qy B b7 no nc ao ac sl D x0 x1 x2 x3 x4 x5 x6 x7 x8 x9 w)(hk:Kp (fun _=>False) w w'):qy B b7 no nc ao ac sl D x0 x1 x2 x3 x4 x5 x6 x7 x8 x9 w' :=
 ⟨H.i1,H.i2,H.i5,H.i6,fun h h'=>⟨(H.i0 h h').1,hk.owns (H.i0 h h').2 (fun _ _=>id)⟩,fun h=>⟨(H.i3 h).1,hk.owns (H.i3 h).2 (fun _ _=>id)⟩,fun h h'=>⟨(H.i4 h h').1,hk.owns (H.i4 h h').2 (fun _ _=>id)⟩,fun h=>⟨(H.i7 h).1,hk.owns (H.i7 h).2 (fun _ _=>id)⟩,H.i8,
  fun h h'=>by obtain⟨b,e1,e2,e3⟩:=H.i9 h h';exact⟨b,e1,e2,hk.heap e3 id⟩,fun h=>by obtain⟨b,e1,e2,e3⟩:=H.i10 h;exact⟨b,e1,e2,hk.heap e3 id⟩,H.j8,H.j10⟩
theorem qy.grow(H:qy B b7 no nc ao ac sl D x0 x1 x2 x3 x4 x5 x6 x7 x8 x9 w)(hv:w.ownsRow B e 1 v n xs)(hk:Kp (fun q=>v.ownBlock=some q) w w') :
  (e≠9→(D 0→¬ D 3→w'.ownsRow B 9 1 x0 0 [])∧(D 3→w'.ownsRow B 9 1 x3 sl.length (rD sl)))∧(e≠3→(D 4→¬ D 7→w'.ownsRow B 3 1 x4 0 [])∧(D 7→w'.ownsRow B 3 1 x7 sl.length (rE sl))) ∧
  (e≠67→(D 9→¬ D 10→∃ b,x9=aH b∧B≤b∧w'.heap[b]?=some (.cells #[.slice none 0 0,.slice none 0 0] 67 (0,0)))∧(D 10→∃ b,x9=aH b∧B≤b∧w'.heap[b]?=some (.cells #[x3,x7] 67 (0,0)))):=by
 refine⟨fun he=>⟨fun h h'=>hk.owns (H.i0 h h').2 (fun q hq hs=>?_),fun h=>hk.owns (H.i3 h).2 (fun q hq hs=>?_)⟩,fun he=>⟨fun h h'=>hk.owns (H.i4 h h').2 (fun q hq hs=>?_),fun h=>hk.owns (H.i7 h).2 (fun q hq hs=>?_)⟩,fun he=>⟨fun h h'=>?_,fun h=>?_⟩⟩
 ·obtain⟨_,_,h1⟩:=eH (H.i0 h h').2 hq
  obtain⟨_,_,h2⟩:=eH hv hs;exact fO h2 h1 he
 ·obtain⟨_,_,h1⟩:=eH (H.i3 h).2 hq
  obtain⟨_,_,h2⟩:=eH hv hs;exact fO h2 h1 he
 ·obtain⟨_,_,h1⟩:=eH (H.i4 h h').2 hq
  obtain⟨_,_,h2⟩:=eH hv hs;exact fO h2 h1 he
 ·obtain⟨_,_,h1⟩:=eH (H.i7 h).2 hq
  obtain⟨_,_,h2⟩:=eH hv hs;exact fO h2 h1 he
 ·obtain⟨b,e1,e2,e3⟩:=H.i9 h h'
  refine⟨b,e1,e2,hk.heap e3 (fun hs=>?_)⟩;obtain⟨_,_,h2⟩:=eH hv hs;exact fO h2 e3 he
 ·obtain⟨b,e1,e2,e3⟩:=H.i10 h
  refine⟨b,e1,e2,hk.heap e3 (fun hs=>?_)⟩;obtain⟨_,_,h2⟩:=eH hv hs;exact fO h2 e3 he
theorem qy.s1(H:qy B b7 no nc ao ac sl D x0 x1 x2 x3 x4 x5 x6 x7 x8 x9 w) :qy B b7 no nc ao ac sl (fun i=>D i∨i=1) x0 (aH b7) x2 x3 x4 x5 x6 x7 x8 x9 w :=
 ⟨fun _=>rfl,fun h=>H.i2 (h.dL),fun h=>H.i5 (h.dL),fun h=>H.i6 (h.dL),fun h hn=>H.i0 (h.dL) (fun e=>hn (.inl e)),fun h=>H.i3 (h.dL),fun h hn=>H.i4 (h.dL) (fun e=>hn (.inl e)),fun h=>H.i7 (h.dL),fun h=>H.i8 (h.dL),fun h hn=>H.i9 (h.dL) (fun e=>hn (.inl e)),fun h=>H.i10 (h.dL),fun h=>⟨.inl (H.j8 (h.dL)).1,.inl (H.j8 (h.dL)).2⟩,fun h=>⟨.inl (H.j10 (h.dL)).1,.inl (H.j10 (h.dL)).2⟩⟩
theorem qy.s2(H:qy B b7 no nc ao ac sl D x0 x1 x2 x3 x4 x5 x6 x7 x8 x9 w) :qy B b7 no nc ao ac sl (fun i=>D i∨i=2) x0 x1 (.slice no sl.length nc) x3 x4 x5 x6 x7 x8 x9 w :=
 ⟨fun h=>H.i1 (h.dL),fun _=>rfl,fun h=>H.i5 (h.dL),fun h=>H.i6 (h.dL),fun h hn=>H.i0 (h.dL) (fun e=>hn (.inl e)),fun h=>H.i3 (h.dL),fun h hn=>H.i4 (h.dL) (fun e=>hn (.inl e)),fun h=>H.i7 (h.dL),fun h=>H.i8 (h.dL),fun h hn=>H.i9 (h.dL) (fun e=>hn (.inl e)),fun h=>H.i10 (h.dL),fun h=>⟨.inl (H.j8 (h.dL)).1,.inl (H.j8 (h.dL)).2⟩,fun h=>⟨.inl (H.j10 (h.dL)).1,.inl (H.j10 (h.dL)).2⟩⟩
theorem qy.s5(H:qy B b7 no nc ao ac sl D x0 x1 x2 x3 x4 x5 x6 x7 x8 x9 w) :qy B b7 no nc ao ac sl (fun i=>D i∨i=5) x0 x1 x2 x3 x4 (.pointer (some ⟨b7,1,none⟩)) x6 x7 x8 x9 w :=
 ⟨fun h=>H.i1 (h.dL),fun h=>H.i2 (h.dL),fun _=>rfl,fun h=>H.i6 (h.dL),fun h hn=>H.i0 (h.dL) (fun e=>hn (.inl e)),fun h=>H.i3 (h.dL),fun h hn=>H.i4 (h.dL) (fun e=>hn (.inl e)),fun h=>H.i7 (h.dL),fun h=>H.i8 (h.dL),fun h hn=>H.i9 (h.dL) (fun e=>hn (.inl e)),fun h=>H.i10 (h.dL),fun h=>⟨.inl (H.j8 (h.dL)).1,.inl (H.j8 (h.dL)).2⟩,fun h=>⟨.inl (H.j10 (h.dL)).1,.inl (H.j10 (h.dL)).2⟩⟩
theorem qy.s6(H:qy B b7 no nc ao ac sl D x0 x1 x2 x3 x4 x5 x6 x7 x8 x9 w) :qy B b7 no nc ao ac sl (fun i=>D i∨i=6) x0 x1 x2 x3 x4 x5 (.slice ao sl.length ac) x7 x8 x9 w :=
 ⟨fun h=>H.i1 (h.dL),fun h=>H.i2 (h.dL),fun h=>H.i5 (h.dL),fun _=>rfl,fun h hn=>H.i0 (h.dL) (fun e=>hn (.inl e)),fun h=>H.i3 (h.dL),fun h hn=>H.i4 (h.dL) (fun e=>hn (.inl e)),fun h=>H.i7 (h.dL),fun h=>H.i8 (h.dL),fun h hn=>H.i9 (h.dL) (fun e=>hn (.inl e)),fun h=>H.i10 (h.dL),fun h=>⟨.inl (H.j8 (h.dL)).1,.inl (H.j8 (h.dL)).2⟩,fun h=>⟨.inl (H.j10 (h.dL)).1,.inl (H.j10 (h.dL)).2⟩⟩
theorem qy.s8(H:qy B b7 no nc ao ac sl D x0 x1 x2 x3 x4 x5 x6 x7 x8 x9 w)(h3:D 3)(h7:D 7):qy B b7 no nc ao ac sl (fun i=>D i∨i=8) x0 x1 x2 x3 x4 x5 x6 x7 (.agg #[x3,x7]) x9 w :=
 ⟨fun h=>H.i1 (h.dL),fun h=>H.i2 (h.dL),fun h=>H.i5 (h.dL),fun h=>H.i6 (h.dL),fun h hn=>H.i0 (h.dL) (fun e=>hn (.inl e)),fun h=>H.i3 (h.dL),fun h hn=>H.i4 (h.dL) (fun e=>hn (.inl e)),fun h=>H.i7 (h.dL),fun _=>rfl,fun h hn=>H.i9 (h.dL) (fun e=>hn (.inl e)),fun h=>H.i10 (h.dL),fun _=>⟨.inl h3,.inl h7⟩,fun h=>⟨.inl (H.j10 (h.dL)).1,.inl (H.j10 (h.dL)).2⟩⟩
theorem qy.s0(H:qy B b7 no nc ao ac sl D x0 x1 x2 x3 x4 x5 x6 x7 x8 x9 w)(ho:w.ownsRow B 9 1 (.slice (b_ g) 0 0) 0 []):qy B b7 no nc ao ac sl (fun i=>D i∨i=0) (.slice (b_ g) 0 0) x1 x2 x3 x4 x5 x6 x7 x8 x9 w :=
 ⟨fun h=>H.i1 (h.dL),fun h=>H.i2 (h.dL),fun h=>H.i5 (h.dL),fun h=>H.i6 (h.dL),fun _ _=>⟨⟨g,rfl⟩,ho⟩,fun h=>H.i3 (h.dL),fun h hn=>H.i4 (h.dL) (fun e=>hn (.inl e)),fun h=>H.i7 (h.dL),fun h=>H.i8 (h.dL),fun h hn=>H.i9 (h.dL) (fun e=>hn (.inl e)),fun h=>H.i10 (h.dL),fun h=>⟨.inl (H.j8 (h.dL)).1,.inl (H.j8 (h.dL)).2⟩,fun h=>⟨.inl (H.j10 (h.dL)).1,.inl (H.j10 (h.dL)).2⟩⟩
theorem qy.s4(H:qy B b7 no nc ao ac sl D x0 x1 x2 x3 x4 x5 x6 x7 x8 x9 w)(ho:w.ownsRow B 3 1 (.slice (b_ g) 0 0) 0 []):qy B b7 no nc ao ac sl (fun i=>D i∨i=4) x0 x1 x2 x3 (.slice (b_ g) 0 0) x5 x6 x7 x8 x9 w :=
 ⟨fun h=>H.i1 (h.dL),fun h=>H.i2 (h.dL),fun h=>H.i5 (h.dL),fun h=>H.i6 (h.dL),fun h hn=>H.i0 (h.dL) (fun e=>hn (.inl e)),fun h=>H.i3 (h.dL),fun _ _=>⟨⟨g,rfl⟩,ho⟩,fun h=>H.i7 (h.dL),fun h=>H.i8 (h.dL),fun h hn=>H.i9 (h.dL) (fun e=>hn (.inl e)),fun h=>H.i10 (h.dL),fun h=>⟨.inl (H.j8 (h.dL)).1,.inl (H.j8 (h.dL)).2⟩,fun h=>⟨.inl (H.j10 (h.dL)).1,.inl (H.j10 (h.dL)).2⟩⟩
theorem qy.s9(H:qy B b7 no nc ao ac sl D x0 x1 x2 x3 x4 x5 x6 x7 x8 x9 w)(hB:B≤b)(hb:w.heap[b]?=some (.cells #[.slice none 0 0,.slice none 0 0] 67 (0,0)))(h9:¬ D 9):qy B b7 no nc ao ac sl (fun i=>D i∨i=9) x0 x1 x2 x3 x4 x5 x6 x7 x8 (aH b) w :=
 ⟨fun h=>H.i1 (h.dL),fun h=>H.i2 (h.dL),fun h=>H.i5 (h.dL),fun h=>H.i6 (h.dL),fun h hn=>H.i0 (h.dL) (fun e=>hn (.inl e)),fun h=>H.i3 (h.dL),fun h hn=>H.i4 (h.dL) (fun e=>hn (.inl e)),fun h=>H.i7 (h.dL),fun h=>H.i8 (h.dL),fun _ _=>⟨b,rfl,hB,hb⟩,fun h=>absurd (H.j10 (h.dL)).2 h9,fun h=>⟨.inl (H.j8 (h.dL)).1,.inl (H.j8 (h.dL)).2⟩,fun h=>⟨.inl (H.j10 (h.dL)).1,.inl (H.j10 (h.dL)).2⟩⟩
theorem qy.s3(H:qy B b7 no nc ao ac sl D x0 x1 x2 x3 x4 x5 x6 x7 x8 x9 w)(h0:D 0)(h3:¬ D 3)(hk:Kp (fun q=>x0.ownBlock=some q) w w')(ho:w'.ownsRow B 9 1 (.slice so sl.length sc) sl.length (rD sl)):qy B b7 no nc ao ac sl (fun i=>D i∨i=3) x0 x1 x2 (.slice so sl.length sc) x4 x5 x6 x7 x8 x9 w' :=
 ⟨fun h=>H.i1 (h.dL),fun h=>H.i2 (h.dL),fun h=>H.i5 (h.dL),fun h=>H.i6 (h.dL),fun _ hn=>absurd (.inr rfl) hn,fun _=>⟨⟨so,sc,rfl⟩,ho⟩,fun h hn=>⟨(H.i4 (h.dL) (fun e=>hn (.inl e))).1,((H.grow (H.i0 h0 h3).2 hk).2.1 aS).1 (h.dL) (fun e=>hn (.inl e))⟩,fun h=>⟨(H.i7 (h.dL)).1,((H.grow (H.i0 h0 h3).2 hk).2.1 aS).2 (h.dL)⟩,fun h=>absurd (H.j8 (h.dL)).1 h3,fun h hn=>((H.grow (H.i0 h0 h3).2 hk).2.2 aS).1 (h.dL) (fun e=>hn (.inl e)),fun h=>absurd (H.j8 (H.j10 (h.dL)).1).1 h3,fun h=>⟨.inl (H.j8 (h.dL)).1,.inl (H.j8 (h.dL)).2⟩,fun h=>⟨.inl (H.j10 (h.dL)).1,.inl (H.j10 (h.dL)).2⟩⟩
theorem qy.s7(H:qy B b7 no nc ao ac sl D x0 x1 x2 x3 x4 x5 x6 x7 x8 x9 w)(h4:D 4)(h7:¬ D 7)(hk:Kp (fun q=>x4.ownBlock=some q) w w')(ho:w'.ownsRow B 3 1 (.slice so sl.length sc) sl.length (rE sl)):qy B b7 no nc ao ac sl (fun i=>D i∨i=7) x0 x1 x2 x3 x4 x5 x6 (.slice so sl.length sc) x8 x9 w' :=
 ⟨fun h=>H.i1 (h.dL),fun h=>H.i2 (h.dL),fun h=>H.i5 (h.dL),fun h=>H.i6 (h.dL),fun h hn=>⟨(H.i0 (h.dL) (fun e=>hn (.inl e))).1,((H.grow (H.i4 h4 h7).2 hk).1 aS).1 (h.dL) (fun e=>hn (.inl e))⟩,fun h=>⟨(H.i3 (h.dL)).1,((H.grow (H.i4 h4 h7).2 hk).1 aS).2 (h.dL)⟩,fun _ hn=>absurd (.inr rfl) hn,fun _=>⟨⟨so,sc,rfl⟩,ho⟩,fun h=>absurd (H.j8 (h.dL)).2 h7,fun h hn=>((H.grow (H.i4 h4 h7).2 hk).2.2 aS).1 (h.dL) (fun e=>hn (.inl e)),fun h=>absurd (H.j8 (H.j10 (h.dL)).1).2 h7,fun h=>⟨.inl (H.j8 (h.dL)).1,.inl (H.j8 (h.dL)).2⟩,fun h=>⟨.inl (H.j10 (h.dL)).1,.inl (H.j10 (h.dL)).2⟩⟩
theorem qy.s10(H:qy B b7 no nc ao ac sl D x0 x1 x2 x3 x4 x5 x6 x7 x8 (aH b) w){b:Nat}(h8:D 8)(h9:D 9)(hB:B≤b)(hk:Kp (fun q=>q=b) w w')(ho:w.heap[b]?=some (.cells #[.slice none 0 0,.slice none 0 0] 67 (0,0)))(hb:w'.heap[b]?=some (.cells #[x3,x7] 67 (0,0))):qy B b7 no nc ao ac sl (fun i=>D i∨i=10) x0 x1 x2 x3 x4 x5 x6 x7 x8 (aH b) w':=by
 have key:∀ {e:TypeId} {v:Value} {n:Nat} {xs:List Value},e≠67→w.ownsRow B e 1 v n xs→w'.ownsRow B e 1 v n xs:=fun he h=>hk.owns h (fun q hq hs=>by
  obtain⟨_,_,h1⟩:=eH h hq;subst hs;exact fO h1 ho he)
 exact⟨fun h=>H.i1 (h.dL),fun h=>H.i2 (h.dL),fun h=>H.i5 (h.dL),fun h=>H.i6 (h.dL),
  fun h hn=>⟨(H.i0 (h.dL) (fun e=>hn (.inl e))).1,key aS (H.i0 (h.dL) (fun e=>hn (.inl e))).2⟩,
  fun h=>⟨(H.i3 (h.dL)).1,key aS (H.i3 (h.dL)).2⟩,
  fun h hn=>⟨(H.i4 (h.dL) (fun e=>hn (.inl e))).1,key aS (H.i4 (h.dL) (fun e=>hn (.inl e))).2⟩,
  fun h=>⟨(H.i7 (h.dL)).1,key aS (H.i7 (h.dL)).2⟩,
  fun h=>H.i8 (h.dL),fun _ hn=>absurd (.inr rfl) hn,fun _=>⟨b,rfl,hB,hb⟩,fun h=>⟨.inl (H.j8 (h.dL)).1,.inl (H.j8 (h.dL)).2⟩,fun _=>⟨.inl h8,.inl h9⟩⟩
theorem qy.iff{D':Nat→Prop}(H:qy B b7 no nc ao ac sl D x0 x1 x2 x3 x4 x5 x6 x7 x8 x9 w)(hD:∀ i,i<11→(D' i↔D i)):qy B b7 no nc ao ac sl D' x0 x1 x2 x3 x4 x5 x6 x7 x8 x9 w :=
 ⟨fun h=>H.i1 ((hD 1 aS).1 h),fun h=>H.i2 ((hD 2 aS).1 h),fun h=>H.i5 ((hD 5 aS).1 h),fun h=>H.i6 ((hD 6 aS).1 h),fun h hn=>H.i0 ((hD 0 aS).1 h) (fun e=>hn ((hD 3 aS).2 e)),fun h=>H.i3 ((hD 3 aS).1 h),fun h hn=>H.i4 ((hD 4 aS).1 h) (fun e=>hn ((hD 7 aS).2 e)),fun h=>H.i7 ((hD 7 aS).1 h),fun h=>H.i8 ((hD 8 aS).1 h),fun h hn=>H.i9 ((hD 9 aS).1 h) (fun e=>hn ((hD 10 aS).2 e)),fun h=>H.i10 ((hD 10 aS).1 h),fun h=>⟨(hD 3 aS).2 (H.j8 ((hD 8 aS).1 h)).1,(hD 7 aS).2 (H.j8 ((hD 8 aS).1 h)).2⟩,fun h=>⟨(hD 8 aS).2 (H.j10 ((hD 10 aS).1 h)).1,(hD 9 aS).2 (H.j10 ((hD 10 aS).1 h)).2⟩⟩
end
end
section
open Tryz
open X
variable{size B b B0 g cap:Nat}{S:Nat→Prop}{w' w3 w5:aG}{nv av:Value}{n1 n2:List Nm}{n:Nm}
variable{w0:aG}{K:DK}{l:List AF}{us:List X.U}{w:aG}
theorem Qc(w:aG)(ao:Option Addr)(cap:Nat):Src prog size 64 (.slice ao 0 cap) 0 [] w:=by
 cases ao with
 | none=>exact Src.ofNil w underlying64 cap
 | some a=>exact Src.ofSlice w underlying64 a 0 cap [] aT (fun j u h=>by simp at h) (fun u h=>by cases h)
theorem Qd(w:aG)(ao:Option Addr)(cap:Nat):Src prog size 65 (.slice ao 0 cap) 0 [] w:=by
 cases ao with
 | none=>exact Src.ofNil w underlying65 cap
 | some a=>exact Src.ofSlice w underlying65 a 0 cap [] aT (fun j u h=>by simp at h) (fun u h=>by cases h)
theorem Qe{ops:Array Oper}{d:Array Bool}(hds:d.size=11)(hr:Region.ready .any ops d=[])(hw:(ops.size==11&&(List.range 11).all (fun j=>match ops[j]? with|some o=>o.after.all (fun e=>decide (e.on<j))|none=>false))=true):∀ i,i<11→d.getD i false=true:=by
 rw[Bool.and_eq_true,beq_iff_eq,List.all_eq_true] at hw;intro i
 induction i using Nat.strongRecOn with
 | _ i ih =>
  intro hi;cases hb:d.getD i false with
  | true=>rfl
  | false =>
   exfalso;have h1:=hw.2 i (jq.2 hi);cases ho:ops[i]? with
   | none=>rw[ho] at h1;cases h1
   | some o =>
    rw[ho] at h1;have h2:∀ e∈o.after,e.on<i:=fun e he=>of_decide_eq_true (Array.all_eq_true'.1 h1 e he)
    have:i∈Region.ready .any ops d:=nQ.2 ⟨by
      rw[jg] at hb ⊢;cases hx:d[i]? with
      | none=>rw[Array.getElem?_eq_none_iff] at hx;omega
      | some b=>rw[hx] at hb;simpa using hb,o,ho,fun e he _=>ih e.on (h2 e he) (by have:=h2 e he;omega)⟩
    rw[hr] at this;cases this
theorem Dr.other(h:Dr w0 K l us w)(hk:Kp S w w')(hS:∀ q,S q→w0.heap.size≤q∧¬ UB w q):Dr w0 K l us w':=by
 have hwl:=h.st.wl;refine⟨h.st,Kp.trans h.kp hk (fun i hi hs=>?_),?_,h.lim⟩
 ·have:=(hS i hs).1;omega
 ·obtain⟨nv,h1,h2⟩:=h.ws
  refine⟨nv,hk.heap h1 (fun hs=>?_),hk.owns h2 (fun q hq hs=>?_)⟩
  ·have:=(hS _ hs).1;omega
  ·obtain⟨cs,d,h3⟩:=eH h2 hq
   exact(hS q hs).2 ⟨cs,d,h3⟩
structure yP(w:aG)(B b:Nat)(nv av:Value)(n1 n2:List Nm):Prop where
 blk:w.heap[b]?=some (.cells #[nv,av] 67 (0,0))
 nr:w.ownsRow B 9 1 nv n1.length (rD n1)
 ar:w.ownsRow B 3 1 av n2.length (rE n2)
theorem yP.keep{w:aG}(h:yP w B b nv av n1 n2)(hk:Kp S w w')(hS:∀ q cs t d,w.heap[q]?=some (.cells cs t d)→B≤q∨q=b→t=67∨t=9∨t=3→¬ S q):yP w' B b nv av n1 n2:=by
 refine⟨hk.heap h.blk (hS b _ _ _ h.blk (.inr rfl) (.inl rfl)),hk.owns h.nr (fun q hq=>?_),hk.owns h.ar (fun q hq=>?_)⟩
 ·obtain⟨cs,d,h1⟩:=eH h.nr hq
  exact hS q _ _ _ h1 (.inl (dG h.nr q hq).1) (.inr (.inl rfl))
 ·obtain⟨cs,d,h1⟩:=eH h.ar hq
  exact hS q _ _ _ h1 (.inl (dG h.ar q hq).1) (.inr (.inr rfl))
theorem yP.dx{w:aG}(h:yP w B b nv av n1 n2)(hk:Dx K B0 w w')(hw:K.wb<B∧K.wb≠b):yP w' B b nv av n1 n2:=h.keep hk (fun q cs t d h1 h2 h3 hs=>by
 rcases hs with hs|⟨-,cs',d',hu⟩
 ·subst hs;rcases h2 with h2|h2
  ·omega
  ·exact hw.2 h2
 ·refine fO h1 hu ?_
  rcases h3 with rfl|rfl|rfl<;>decide)
theorem yP.below{w:aG}(h:yP w B b nv av n1 n2)(hk:Below w.heap.size w w'):yP w' B b nv av n1 n2:=h.keep (Kp.aN hk (fun _=>False)) (fun _ _ _ _ _ _ _=>id)
theorem yP.name{w:aG}(h:yP w B b nv av n1 n2)(hb:Below w.heap.size w w3)(hown:w5.ownsRow B 9 1 (.slice (b_ g) (n1.length+1) cap) (n1.length+1) (rD n1++[.string (ba n.1)]))(hgrow:w3.grownBy w5 nv.ownBlock) :
  yP (w5.setCell (aC b 0) (.slice (b_ g) (n1.length+1) cap)) B b (.slice (b_ g) (n1.length+1) cap) av (n1++[n]) n2∧Kp (fun q=>q=b∨nv.ownBlock=some q) w (w5.setCell (aC b 0) (.slice (b_ g) (n1.length+1) cap)):=by
 have Cy:=(Kp.refl _ w3).grown hgrow (fun q e _=>e);have h3:=h.below hb;have ze:Kp (fun q=>q=b) w5 (w5.setCell (aC b 0) (.slice (b_ g) (n1.length+1) cap)):=Kp.setCell (S:=fun q=>q=b) (p:=⟨b,0,none⟩) (Kp.refl _ w5) (fun _=>rfl) _;have hb5:=Cy.heap h3.blk (fun e=>by obtain⟨_,_,h1⟩:=eH h3.nr e;exact fO h1 h3.blk aS);refine⟨⟨dV hb5 0 _,?_,?_⟩,Kp.trans (Kp.trans (Kp.aN hb _) Cy (fun _ _ e=>.inr e)) ze (fun _ _ e=>.inl e)⟩
 ·have e:(n1++[n]).length=n1.length+1:=by simp
  rw[e];have e2:rD (n1++[n])=rD n1++[.string (ba n.1)]:=by unfold rD;simp
  rw[e2];refine ze.owns hown (fun q hq hs=>?_);obtain⟨_,_,h1⟩:=eH hown hq;subst hs;exact fO h1 hb5 aS
 ·refine ze.owns (Cy.owns h3.ar (fun q hq hs=>?_)) (fun q hq hs=>?_)
  ·obtain⟨_,_,h1⟩:=eH h3.ar hq
   obtain⟨_,_,h2⟩:=eH h3.nr hs;exact fO h1 h2 aS
  ·obtain⟨_,_,h1⟩:=eH h3.ar hq
   subst hs;exact fO h1 h3.blk aS
theorem yP.at{w:aG}(h:yP w B b nv av n1 n2)(hb:Below w.heap.size w w3)(hown:w5.ownsRow B 3 1 (.slice (b_ g) (n2.length+1) cap) (n2.length+1) (rE n2++[ak n.2]))(hgrow:w3.grownBy w5 av.ownBlock) :
  yP (w5.setCell (aC b 1) (.slice (b_ g) (n2.length+1) cap)) B b nv (.slice (b_ g) (n2.length+1) cap) n1 (n2++[n])∧Kp (fun q=>q=b∨av.ownBlock=some q) w (w5.setCell (aC b 1) (.slice (b_ g) (n2.length+1) cap)):=by
 have Cy:=(Kp.refl _ w3).grown hgrow (fun q e _=>e);have h3:=h.below hb;have ze:Kp (fun q=>q=b) w5 (w5.setCell (aC b 1) (.slice (b_ g) (n2.length+1) cap)):=Kp.setCell (S:=fun q=>q=b) (p:=⟨b,1,none⟩) (Kp.refl _ w5) (fun _=>rfl) _;have hb5:=Cy.heap h3.blk (fun e=>by obtain⟨_,_,h1⟩:=eH h3.ar e;exact fO h1 h3.blk aS);refine⟨⟨dV hb5 1 _,?_,?_⟩,Kp.trans (Kp.trans (Kp.aN hb _) Cy (fun _ _ e=>.inr e)) ze (fun _ _ e=>.inl e)⟩
 ·refine ze.owns (Cy.owns h3.nr (fun q hq hs=>?_)) (fun q hq hs=>?_)
  ·obtain⟨_,_,h1⟩:=eH h3.nr hq
   obtain⟨_,_,h2⟩:=eH h3.ar hs;exact fO h1 h2 aS
  ·obtain⟨_,_,h1⟩:=eH h3.nr hq
   subst hs;exact fO h1 h3.blk aS
 ·have e:(n2++[n]).length=n2.length+1:=by simp
  rw[e];have e2:rE (n2++[n])=rE n2++[ak n.2]:=by unfold rE;simp
  rw[e2];refine ze.owns hown (fun q hq hs=>?_);obtain⟨_,_,h1⟩:=eH hown hq;subst hs;exact fO h1 hb5 aS
theorem yP.sc{w:aG}{no ao:Option Addr}{nc ac:Nat}{sl:List Nm}(h:yP w B b (.slice no sl.length nc) (.slice ao sl.length ac) sl sl)(hw:K.wb<B):oH K B0 w no nc ao ac sl:=by
 have key:∀ {t:TypeId} {o:Option Addr} {c:Nat} {xs:List Value},t≠63→w.ownsRow B t 1 (.slice o sl.length c) sl.length xs→(sl.length≤c∧c≤maxLen)∧∀ j u,xs[j]?=some u→∃ g,o=some ⟨g,0,none⟩∧Sf K B0 w g∧w.cell? (aC g j)=some u:=by
  intro t o c xs ht h;have h':=h;rcases h.2 with ⟨e,h0⟩|⟨g,cap,cur,e,hge,hg,hn,hmx,hsz,htk⟩
  ·injection e with e1 e2 e3
   subst e1 e3;refine⟨⟨au,by unfold maxLen;omega⟩,fun j u hj=>?_⟩;have:=h.1;have hl:=lt_of_some hj;omega
  ·injection e with e1 e2 e3
   subst e1 e3;refine⟨⟨hn,hmx⟩,fun j u hj=>⟨g,rfl,Sf.made hg au ht,?_⟩⟩;have:=h'.cells (g:=g) rfl j u hj
   rwa[dQ,bS] at this
 obtain⟨h1,h2⟩:=key aS h.nr;obtain⟨h3,h4⟩:=key aS h.ar;exact⟨h1,h3,fun j n hj=>h2 j _ (by unfold rD;rw[iI,hj];rfl),fun j n hj=>h4 j _ (by unfold rE;rw[iI,hj];rfl)⟩
end
section
open Tryz
open X
variable{w0:aG}{K:DK}{l:List AF}{us:List X.U}{w:aG}
structure Nr(w0:aG)(K:DK)(l:List AF)(us:List X.U)(w:aG)(f:Nat)(pa:Option Addr)(pc:Nat)(ns:List Nm)(B2 b9:Nat)(sl:List Nm)(i:Nat)(wr:aG):Prop where
 dr:Dr w0 K l (us++iL f [] (ns.take i)) wr
 dx:Dx K w0.heap.size w wr
 nr:yO K w0.heap.size wr (.slice pa ns.length pc) ns
 ob:∃ no nc ao ac,yP wr B2 b9 (.slice no (sl++X.dd [] (ns.take i)).length nc) (.slice ao (sl++X.dd [] (ns.take i)).length ac) (sl++X.dd [] (ns.take i)) (sl++X.dd [] (ns.take i))
 b8:wr.heap[w.heap.size+1]?=some (.cells #[.slice none 0 0,.slice none 0 0] 67 (0,0))
theorem tY{ns:List Nm}{i:Nat}{n:Nm}(h:ns[i]?=some n):ns.take (i+1)=ns.take i++[n]:=by rw[List.take_add_one,h];rfl
theorem CG(f:Nat)(pa no ao:Option Addr)(pc nc ac:Nat)(ns sl:List Nm)(h:Dr w0 K l us w)(hns:yO K w0.heap.size w (.slice pa ns.length pc) ns)(hsc:oH K w0.heap.size w no nc ao ac sl)(hlen:sl.length+ns.length≤1073741823)(hlim:us.length+(iL f [] ns).length≤1073741824) :
  bB 20 #[aH K.wb,ak f,.slice pa ns.length pc,.agg #[.slice no sl.length nc,.slice ao sl.length ac]] w fun e w'=>∃ no' ru pV rz,e=.returned (.agg #[.slice no' (sl++X.dd [] ns).length ru,.slice pV (sl++X.dd [] ns).length rz])∧Hid (Dr w0 K l (us++iL f [] ns) w'∧Dx K w0.heap.size w w'∧oH K w0.heap.size w' no' ru pV rz (sl++X.dd [] ns)):=by
 have hsl:sl.length≤1073741824:=au
 obtain⟨pe1,pe2,pe3,pe4⟩:ns.length≤pc∧pc≤maxLen∧(∀(j:Nat) (n:Nm),ns[j]?=some n→∃ g u,pa=some ⟨g,0,none⟩∧Sf K w0.heap.size w g∧w.cell? (aC g j)=some u∧qx w K.a K.b u n)∧True:=by
  obtain⟨pV,cap',e,h1,h2,h3⟩:=hns;injection e with e1 e2 e3;subst e1 e3;exact⟨h1,h2,h3,trivial⟩
 have hpa:∀ g,pa=some ⟨g,0,none⟩→0<ns.length→g<w.heap.size:=fun g hg h0=>by
  obtain⟨g',u,e1,e2,-⟩:=pe3 0 ns[0] (aF h0);rw[hg] at e1;cases e1
  exact e2.1
 have HPa:=aA hpa;clear pe4 pe3 hpa;have UG:=aA h;have LV:=aA hns;have HSc:=aA hsc;have hw0:=h.size;have hwb:=h.st.wl;have kA:Below w.heap.size w ((w.alloc (.cells #[.slice no sl.length nc,.slice ao sl.length ac] 67)).alloc (.cells #[.slice none 0 0,.slice none 0 0] 67)):=((aB _ w).alloc (ax _) _).alloc aT _;have hBx:((w.alloc (.cells #[.slice no sl.length nc,.slice ao sl.length ac] 67)).alloc (.cells #[.slice none 0 0,.slice none 0 0] 67)).heap[w.heap.size]?=some (.cells #[.slice no sl.length nc,.slice ao sl.length ac] 67 (0,0)):=(eG _ _ aT).trans (aI w _);have hB8:((w.alloc (.cells #[.slice no sl.length nc,.slice ao sl.length ac] 67)).alloc (.cells #[.slice none 0 0,.slice none 0 0] 67)).heap[w.heap.size+1]?=some (.cells #[.slice none 0 0,.slice none 0 0] 67 (0,0)):=by have:=aI (w.alloc (.cells #[.slice no sl.length nc,.slice ao sl.length ac] 67)) (.cells #[.slice none 0 0,.slice none 0 0] 67);simpa using this
 go_enter func20,ntmps20;go_wp2_with fail
 generalize hw2:((w.alloc (.cells #[.slice no sl.length nc,.slice ao sl.length ac] 67)).alloc (.cells #[.slice none 0 0,.slice none 0 0] 67))=w2 at *;have hsz2:w2.heap.size=w.heap.size+2:=by rw[← hw2];simp
 have c0:=aj w2 _ 0 _ _ _ hBx;have c1:=aj w2 _ 1 _ _ _ hBx;have Js:=bN hBx;have F5:Hid (0<sl.length→∃ g,no=some ⟨g,0,none⟩∧g<w2.heap.size∧∀ j u,(rD sl)[j]?=some u→w2.cell? (aC g j)=some u):=fun h=>by
  obtain⟨g,e1,e2,-⟩:=(HSc.o).nr 0 sl[0] (aF h);refine⟨g,e1,aJ e2.1 kA.size,fun j u hu=>iY kA e2.1 ?_⟩;unfold rD at hu;rw[iI] at hu;cases hj:sl[j]? with
  | none=>rw[hj] at hu;cases hu
  | some n =>
   rw[hj] at hu;obtain⟨g',F6,-,e3'⟩:=(HSc.o).nr j n hj;rw[e1] at F6;cases F6
   rw[e3'];exact hu
 have F7:Hid (0<sl.length→∃ g,ao=some ⟨g,0,none⟩∧g<w2.heap.size∧∀ j u,(rE sl)[j]?=some u→w2.cell? (aC g j)=some u):=fun h=>by
  obtain⟨g,e1,e2,-⟩:=(HSc.o).ar 0 sl[0] (aF h);refine⟨g,e1,aJ e2.1 kA.size,fun j u hu=>iY kA e2.1 ?_⟩;unfold rE at hu;rw[iI] at hu;cases hj:sl[j]? with
  | none=>rw[hj] at hu;cases hu
  | some n =>
   rw[hj] at hu;obtain⟨g',F6,-,e3'⟩:=(HSc.o).ar j n hj;rw[e1] at F6;cases F6
   rw[e3'];exact hu
 have lV:=aA kA;have HB8:=aA hB8;clear hBx h hns hsc kA hB8 hw2;refine wp_region_any bC ?_;have D_:Hid (Below w2.heap.size w2 w2.drew):=(aB _ w2).drew;refine CF (Inv:=fun d a w'=>d.size=11∧∃ x0 x1 x2 x3 x4 x5 x6 x7 x8 x9,a={ tmps:=#[aH K.wb,ak f,.slice pa ns.length pc,.agg #[.slice no sl.length nc,.slice ao sl.length ac],undef,undef,undef,aH w.heap.size,aH (w.heap.size+1),x9,undef,undef,undef,undef,x0,x1,x2,x3,x4,x5,x6,x7,x8,undef,undef,undef,undef,undef,undef,undef,undef,undef,undef,undef,undef,undef,undef,undef,undef,undef,undef,undef,undef,undef,undef,undef,undef,undef,undef,undef,undef,undef,undef,undef,undef,undef,undef,undef,undef,undef,undef,undef,undef,undef,undef,undef,undef,undef,undef,undef,undef,undef,undef,undef,undef,undef,undef,undef,undef,undef,undef,undef,undef,undef,undef,undef,undef,undef,undef,undef,undef,undef,undef,undef,undef,undef,undef,undef,undef,undef,undef,undef,undef,undef,undef,undef,undef],defers:=[] }∧Hid (qy w2.heap.size w.heap.size no nc ao ac sl (fun i=>d.getD i false=true) x0 x1 x2 x3 x4 x5 x6 x7 x8 x9 w')∧Hid (Below w2.heap.size w2 w')) ?_ ?_ _ _ _ _ ?_ ?_;rotate_left;rotate_left
 ·decide
 ·exact⟨rfl,undef,undef,undef,undef,undef,undef,undef,undef,undef,undef,rfl,⟨fun h=>by simp at h,fun h=>by simp at h,fun h=>by simp at h,fun h=>by simp at h,fun h=>by simp at h,fun h=>by simp at h,fun h=>by simp at h,fun h=>by simp at h,fun h=>by simp at h,fun h=>by simp at h,fun h=>by simp at h,fun h=>by simp at h,fun h=>by simp at h⟩,D_⟩
 ·intro d a w' j hj hI KK hK
  obtain⟨hds,x0,x1,x2,x3,x4,x5,x6,x7,x8,x9,rfl,HC,HB⟩:=hI;have hl:=F3 hj;have hbw:=(HB.o).size;have hun:=(nQ.1 hj).1;have mU:Hid (∀(a':Act) (W:aG) (x0 x1 x2 x3 x4 x5 x6 x7 x8 x9:Value),a'={ tmps:=#[aH K.wb,ak f,.slice pa ns.length pc,.agg #[.slice no sl.length nc,.slice ao sl.length ac],undef,undef,undef,aH w.heap.size,aH (w.heap.size+1),x9,undef,undef,undef,undef,x0,x1,x2,x3,x4,x5,x6,x7,x8,undef,undef,undef,undef,undef,undef,undef,undef,undef,undef,undef,undef,undef,undef,undef,undef,undef,undef,undef,undef,undef,undef,undef,undef,undef,undef,undef,undef,undef,undef,undef,undef,undef,undef,undef,undef,undef,undef,undef,undef,undef,undef,undef,undef,undef,undef,undef,undef,undef,undef,undef,undef,undef,undef,undef,undef,undef,undef,undef,undef,undef,undef,undef,undef,undef,undef,undef,undef,undef,undef,undef,undef,undef,undef,undef,undef,undef,undef,undef,undef,undef,undef,undef,undef],defers:=[] }→qy w2.heap.size w.heap.size no nc ao ac sl (fun i=>d.getD i false=true∨i=j) x0 x1 x2 x3 x4 x5 x6 x7 x8 x9 W→Below w2.heap.size w2 W→KK a' W):=fun a' W x0 x1 x2 x3 x4 x5 x6 x7 x8 x9 h1 h2 h3=>hK.o a' W ⟨by simpa using hds,x0,x1,x2,x3,x4,x5,x6,x7,x8,x9,h1,h2.iff (fun i hi=>by rw[F4];constructor;(rintro(h|⟨h,-⟩);exact .inl h;exact .inr h);(rintro(h|h);exact .inl h;exact .inr ⟨h,au⟩)),h3⟩
  have HJ:Hid (¬ d.getD j false=true):=fun e=>by
   rw[jg] at e hun;cases hx:d[j]? with
   | none=>rw[hx] at e;cases e
   | some b=>rw[hx] at e hun;simp at e hun;rw[hun] at e;cases e
  have kF:∀ o:Obj,Kp (fun _=>False) w' (w'.alloc o):=fun o=>(Kp.refl _ w').alloc o
  have yQ:=aA kF;have YA:Hid (∀ o:Obj,Below w2.heap.size w2 (w'.alloc o)):=fun o=>(HB.o).alloc hbw o
  clear hK hun kF
  match j,hl with
  | 0,_ =>
   refine wpOp_step rfl (fun K' hK'=>?_);go_simp;refine hK' _ _ ((mU.o) _ _ _ x1 x2 x3 x4 x5 x6 x7 x8 x9 rfl (((HC.o).keep ((yQ.o) _)).s0 ?_) ((YA.o) _));exact World.ownsRow_lit w' #[] 0 hbw (by unfold maxLen;omega) rfl
  | 1,_ =>
   refine wpOp_step rfl (fun K' hK'=>?_);go_simp;exact hK' _ _ ((mU.o) _ _ x0 _ x2 x3 x4 x5 x6 x7 x8 x9 rfl ((HC.o).s1) HB.o)
  | 5,_ =>
   refine wpOp_step rfl (fun K' hK'=>?_);go_simp;exact hK' _ _ ((mU.o) _ _ x0 x1 x2 x3 x4 _ x6 x7 x8 x9 rfl ((HC.o).s5) HB.o)
  | 2,_ =>
   obtain rfl:=(HC.o).i1 (gQ hj (i:=1) bC);have c0':=iY HB.o Js c0;refine wpOp_step rfl (fun K' hK'=>?_);go_simp;exact hK' _ _ ((mU.o) _ _ x0 _ _ x3 x4 x5 x6 x7 x8 x9 rfl ((HC.o).s2) HB.o)
  | 6,_ =>
   obtain rfl:=(HC.o).i5 (gQ hj (i:=5) bC);have c1':=iY HB.o Js c1;refine wpOp_step rfl (fun K' hK'=>?_);go_simp;exact hK' _ _ ((mU.o) _ _ x0 x1 x2 x3 x4 _ _ x7 x8 x9 rfl ((HC.o).s6) HB.o)
  | 4,_ =>
   refine wpOp_step rfl (fun K' hK'=>?_);go_simp;refine hK' _ _ ((mU.o) _ _ x0 x1 x2 x3 _ x5 x6 x7 x8 x9 rfl (((HC.o).keep ((yQ.o) _)).s4 ?_) ((YA.o) _));exact World.ownsRow_lit w' #[] 0 hbw (by unfold maxLen;omega) rfl
  | 9,_ =>
   refine wpOp_step rfl (fun K' hK'=>?_);go_simp;exact hK' _ _ ((mU.o) _ _ x0 x1 x2 x3 x4 x5 x6 x7 x8 _ rfl (((HC.o).keep ((yQ.o) _)).s9 hbw (aI w' _) HJ.o) ((YA.o) _))
  | 8,_ =>
   have h3:=gQ hj (i:=3) bC;have h7:=gQ hj (i:=7) bC;obtain⟨⟨so,sc,e3⟩,-⟩:=(HC.o).i3 h3;obtain⟨⟨Ns,zi,e7⟩,-⟩:=(HC.o).i7 h7;subst e3 e7;refine wpOp_step rfl (fun K' hK'=>?_);go_simp;exact hK' _ _ ((mU.o) _ _ x0 x1 x2 _ x4 x5 x6 _ _ x9 rfl ((HC.o).s8 h3 h7) HB.o)
  | 10,_ =>
   have h8:=gQ hj (i:=8) bC;have h9:=gQ hj (i:=9) bC;have h37:=(HC.o).j8 h8;obtain⟨⟨so,sc,e3⟩,-⟩:=(HC.o).i3 h37.1;obtain⟨⟨Ns,zi,e7⟩,-⟩:=(HC.o).i7 h37.2;obtain⟨b9,e9,Nt,yR⟩:=(HC.o).i9 h9 HJ.o;have e8:=(HC.o).i8 h8;subst e3 e7 e9 e8;have z0:=aj w' _ 0 _ _ _ yR;have z1:=aj w' _ 1 _ _ _ yR;have f0:w'.frozen? (aC b9 0)=false:=dO yR
   have f1:w'.frozen? (aC b9 1)=false:=dO yR
   refine wpOp_step rfl (fun K' hK'=>?_);go_simp;refine hK' _ _ ((mU.o) _ _ x0 x1 x2 _ x4 x5 x6 _ _ _ rfl ((HC.o).s10 h8 h9 Nt (Kp.setCell (S:=fun q=>q=b9) (p:=⟨b9,1,none⟩) (Kp.setCell (S:=fun q=>q=b9) (p:=⟨b9,0,none⟩) (Kp.refl _ w') (fun _=>rfl) _) (fun _=>rfl) _) yR ?_) ?_)
   ·exact dV (dV yR 0 _) 1 _
   ·exact(HB.o).trans (Kp.below (S:=fun q=>q=b9) (Kp.setCell (S:=fun q=>q=b9) (p:=⟨b9,1,none⟩) (Kp.setCell (S:=fun q=>q=b9) (p:=⟨b9,0,none⟩) (Kp.refl _ w') (fun _=>rfl) _) (fun _=>rfl) _) hbw (fun k e=>by rw[e];exact Nt))
  | 3,_ =>
   have hr:=gQ hj (i:=0) bC;have hs:=gQ hj (i:=2) bC;obtain⟨⟨g,eg⟩,hown⟩:=(HC.o).i0 hr HJ.o;have es:=(HC.o).i2 hs;subst eg es;obtain⟨i0,hi0,hz0,hz1,hz2⟩:=dM infoSt;rcases gZ sl.length with hz|hpos
   ·obtain rfl:=bP.1 hz
    have HR:=aA (run_append_nothing (P:=prog) w' 64 64 64 9 i0 underlying64 hi0 (b_ g) 0 0 (ax _) (.slice no 0 nc) (Qc _ no nc));refine wpOp_step rfl (fun K' hK'=>?_);refine kP (by rfl) _ _ 64 64 (by rfl) (by rfl) (.slice (b_ g) 0 0) (.slice no 0 nc) (by rfl) (by rfl) HR.o ?_;refine hK' _ _ ((mU.o) _ _ _ x1 _ _ x4 x5 x6 x7 x8 x9 rfl ((HC.o).s3 hr HJ.o (Kp.refl _ w') hown) HB.o)
   ·obtain⟨gs,rfl,hgs,hcs⟩:=(F5.o) hpos
    have hge:=dG hown;refine wpOp_step rfl (fun K' hK'=>?_);refine step_append_lies _ (by rfl) _ _ _ (by rfl) w2.heap.size 9 i0 _ 1 16 underlying64 hi0 hz0 hz1 hz2 rfl au (.slice (b_ g) 0 0) 0 [] (by rfl) hown ⟨gs,0,none⟩ sl.length nc (rD sl) (by rfl) (by unfold rD;rw[cB,Nat.mul_one]) (fun j u hu=>by rw[dQ,bS];exact iY HB.o hgs (hcs j u hu)) (fun u hu=>by unfold rD at hu;obtain⟨n,-,rfl⟩:=fU.1 hu;rfl) hpos (by unfold maxLen;omega) au hbw w'.heap.size rfl ?_;intro g5 cap5 w5 hown5 aV gI jm;rw[bM,bS] at hown5;have hk5:=(Kp.refl _ w').grown aV (fun q e _=>e);rw[bS];refine hK' _ _ ((mU.o) _ _ _ x1 _ _ x4 x5 x6 x7 x8 x9 rfl ((HC.o).s3 hr HJ.o hk5 hown5) ((HB.o).grown aV hbw (fun q hq=>(hge q hq).1)))
  | 7,_ =>
   have hr:=gQ hj (i:=4) bC;have hs:=gQ hj (i:=6) bC;obtain⟨⟨g,eg⟩,hown⟩:=(HC.o).i4 hr HJ.o;have es:=(HC.o).i6 hs;subst eg es;obtain⟨i0,hi0,hz0,hz1,hz2⟩:=dM D9;rcases gZ sl.length with hz|hpos
   ·obtain rfl:=bP.1 hz
    have HR:=aA (run_append_nothing (P:=prog) w' 65 65 65 3 i0 underlying65 hi0 (b_ g) 0 0 (ax _) (.slice ao 0 ac) (Qd _ ao ac));refine wpOp_step rfl (fun K' hK'=>?_);refine kP (by rfl) _ _ 65 65 (by rfl) (by rfl) (.slice (b_ g) 0 0) (.slice ao 0 ac) (by rfl) (by rfl) HR.o ?_;refine hK' _ _ ((mU.o) _ _ x0 x1 x2 x3 _ x5 _ _ x8 x9 rfl ((HC.o).s7 hr HJ.o (Kp.refl _ w') hown) HB.o)
   ·obtain⟨gs,rfl,hgs,hcs⟩:=(F7.o) hpos
    have hge:=dG hown;refine wpOp_step rfl (fun K' hK'=>?_);refine step_append_lies _ (by rfl) _ _ _ (by rfl) w2.heap.size 3 i0 _ 1 8 underlying65 hi0 hz0 hz1 hz2 rfl au (.slice (b_ g) 0 0) 0 [] (by rfl) hown ⟨gs,0,none⟩ sl.length ac (rE sl) (by rfl) (by unfold rE;rw[cB,Nat.mul_one]) (fun j u hu=>by rw[dQ,bS];exact iY HB.o hgs (hcs j u hu)) (fun u hu=>by unfold rE at hu;obtain⟨n,-,rfl⟩:=fU.1 hu;rfl) hpos (by unfold maxLen;omega) au hbw w'.heap.size rfl ?_;intro g5 cap5 w5 hown5 aV gI jm;rw[bM,bS] at hown5;have hk5:=(Kp.refl _ w').grown aV (fun q e _=>e);rw[bS];refine hK' _ _ ((mU.o) _ _ x0 x1 x2 x3 _ x5 _ _ x8 x9 rfl ((HC.o).s7 hr HJ.o hk5 hown5) ((HB.o).grown aV hbw (fun q hq=>(hge q hq).1)))
 ·intro d a w' hr hI
  obtain⟨hds,x0,x1,x2,x3,x4,x5,x6,x7,x8,x9,rfl,HC,HB⟩:=hI;have hall:=Qe hds hr bC;obtain⟨⟨so,sc,e3⟩,ho3⟩:=(HC.o).i3 (hall 3 aS);obtain⟨⟨Ns,zi,e7⟩,ho7⟩:=(HC.o).i7 (hall 7 aS);obtain⟨b9,e9,Nt,yR⟩:=(HC.o).i10 (hall 10 aS);subst e3 e7 e9;have HO3:=aA ho3;have Qf:=aA ho7;have HB9:=aA yR;clear hall hr hds HC ho3 ho7 yR;have HI0:Hid (Nr w0 K l us w f pa pc ns w2.heap.size b9 sl 0 w'):=by
   have kB:=(lV.o).trans ((HB.o).mono (lV.o).size);refine⟨?_,Dx.aN kB,(LV.o).keep (Dx.aN kB) ((UG.o).st.nodes w),⟨so,sc,Ns,zi,?_⟩,(Kp.aN HB.o (fun _=>False)).heap HB8.o id⟩
   ·rw[jr,iL,aL];exact(UG.o).below kB
   ·rw[jr,X.dd,aL];exact⟨HB9.o,HO3.o,Qf.o⟩
  clear HO3 Qf HB9 HB HB8 lV F5 F7 c0 c1 HSc LV D_;go_wp2_with fail
  go_loopw [10] (fun iv wr=>∃ i:Nat,iv=ak i∧i≤ns.length∧Hid (Nr w0 K l us w f pa pc ns w2.heap.size b9 sl i wr)) (fun iv _=>ns.length - (intOf iv).toNat)
  case atStart=>exact⟨0,rfl,bJ _,HI0⟩
  case round =>
   clear HI0;obtain⟨i,rfl,hi,HI⟩:=hrel;by_cases hlt:i<ns.length
   case neg =>
    obtain rfl:i=ns.length:=au
    have i1:decide (ns.length<ns.length)=false:=aT
    have i2:decide ((ns.length:Int)<(ns.length:Int))=false:=aT
    obtain⟨BF,BG,uF,BH,ho⟩:=(HI.o).ob;have q0:=aj wr _ 0 _ _ _ ho.blk;have q1:=aj wr _ 1 _ _ _ ho.blk;have hq9:=bN ho.blk;have b8:=(HI.o).b8;have r0:=aj wr _ 0 _ _ _ b8;have r1:=aj wr _ 1 _ _ _ b8;have g0:wr.frozen? (aC (w.heap.size+1) 0)=false:=dO b8
    have g1:wr.frozen? (aC (w.heap.size+1) 1)=false:=dO b8
    have hne:¬ b9=w.heap.size+1:=au
    have HF:Hid (∀ v1 v2:Value,Dr w0 K l (us++iL f [] ns) ((wr.setCell (aC (w.heap.size+1) 0) v1).setCell (aC (w.heap.size+1) 1) v2)∧Dx K w0.heap.size w ((wr.setCell (aC (w.heap.size+1) 0) v1).setCell (aC (w.heap.size+1) 1) v2)∧oH K w0.heap.size ((wr.setCell (aC (w.heap.size+1) 0) v1).setCell (aC (w.heap.size+1) 1) v2) BF BG uF BH (sl++X.dd [] ns)):=fun v1 v2=>by
     have kS:Kp (fun q=>q=w.heap.size+1) wr ((wr.setCell (aC (w.heap.size+1) 0) v1).setCell (aC (w.heap.size+1) 1) v2):=Kp.setCell (S:=fun q=>q=w.heap.size+1) (p:=⟨w.heap.size+1,1,none⟩) (Kp.setCell (S:=fun q=>q=w.heap.size+1) (p:=⟨w.heap.size+1,0,none⟩) (Kp.refl _ wr) (fun _=>rfl) _) (fun _=>rfl) _;have hd:=(HI.o).dr;rw[fC] at hd ho;refine⟨hd.other kS (fun q hq=>⟨au,fun⟨cs,d,hu⟩=>by subst hq;exact fO b8 hu aS⟩),Kp.trans (HI.o).dx kS (fun q h1 h2=>au),?_⟩;exact(ho.keep kS (fun q cs t d h1 h2 h3 h4=>by rcases h2 with h2|h2<;>omega)).sc au
    rw[fC] at q0 q1;have HB8:=aA b8;clear ho b8 HI;go_wp2_with fail
    (try simp only[Exit.inBlock,Exit.then])
    refine aW (results_cell_row (p:=8) (ty:=67) rfl _ _ (w.heap.size+1) 67 _ (0,0) _ rfl (dV (dV HB8.o 0 _) 1 _) underlying67 rfl bC) rfl ?_;exact⟨BF,BG,uF,BH,by rw[ay];rfl,(HF.o) _ _⟩
   have i1:decide (i<ns.length)=true:=aQ
   have i2:decide ((i:Int)<(ns.length:Int))=true:=aQ
   have hi1:(0:Int)≤(i:Int):=bO _;have hi2:(i:Int)<(ns.length:Int):=au
   obtain⟨n,hn⟩:∃ n,ns[i]?=some n:=⟨ns[i],aF hlt⟩;obtain⟨pa',pc',ep,-,-,hrow⟩:=(HI.o).nr;injection ep with U7 ep2 U8;subst U7 U8;obtain⟨g,u,rfl,hgs,hgc,hlf⟩:=hrow i n hn;have lT:=aA hrow;have HN:=aA hn;have hpl:=xu f ns (i+1);rcases hlf with ⟨hn0,rfl⟩|⟨hn0,N,t,rvN,kM,en,ttN,la,rfl,hN1,tX,-,hnd⟩
   ·have zO:Hid (Nr w0 K l us w f (b_ g) pc ns w2.heap.size b9 sl (i+1) wr):=by
     have h1:iL f [] (ns.take (i+1))=iL f [] (ns.take i):=by
      rw[tY HN.o,qO];unfold jd X.f_;rw[aU hn0,aL]
     have h2:X.dd [] (ns.take (i+1))=X.dd [] (ns.take i):=by rw[tY HN.o,zh,aU hn0,aL]
     refine⟨by rw[h1];exact(HI.o).dr,(HI.o).dx,(HI.o).nr,by rw[h2];exact(HI.o).ob,(HI.o).b8⟩
    clear HI hn hrow;go_wp2_with fail
    exact⟨⟨i+1,by go_num,au,zO⟩,by simp only[intOf];omega⟩
   ·obtain⟨⟨-,-,t2,-,-,-,t6,-⟩,-⟩:=hnd.facts
    have rC:=bN hnd;have YB:Hid (∀(m:Nm) (k:Nat),ns[k]?=some m→wr.cell? (aC g k)=some (.pointer none)∧m.1=[]∨∃ M,wr.cell? (aC g k)=some (aH M)∧M<wr.heap.size∧wr.cell? (aC M 2)=some (.string (ba m.1))):=fun m k hk=>by
     obtain⟨g',u',e1,-,e3,e4⟩:=(lT.o) k m hk;cases e1
     rcases e4 with ⟨h0,rfl⟩|⟨h0,M,t,rv,kM,en,tt,la,rfl,-,-,-,hM⟩
     ·exact .inl ⟨e3,h0⟩
     ·exact .inr ⟨M,e3,bN hM,hM.facts.1.2.2.1⟩
    have hgl:=hgs.1;have hgw:=(HPa.o) g rfl au;have hNb:=aJ tX (UG.o).st.bl;obtain⟨W1,hW1⟩:∃ W1,W1=wr:=⟨_,rfl⟩;subst hW1;clear hn hrow lT hnd hgs;go_wp2_with fail
    go_loopw [11,12] (fun tv kv wx=>∃ k:Nat,tv=.bool ((ns.take k).any (fun m=>m.1==n.1))∧kv=ak k∧k≤i∧Hid (Below W1.heap.size W1 wx)) (fun _ kv _=>i - (intOf kv).toNat)
    case atStart=>exact⟨0,rfl,rfl,bJ _,aB _ _⟩
    case round =>
     obtain⟨k,rfl,rfl,hk,HX⟩:=hrel;by_cases hlt2:k<i
     case neg =>
      obtain rfl:k=i:=au
      have i3:decide (k<k)=false:=aT
      have i4:decide ((k:Int)<(k:Int))=false:=aT
      have HI2:Hid (Nr w0 K l us w f (b_ g) pc ns w2.heap.size b9 sl k wr):=by
       have hx:=HX.o;refine⟨(HI.o).dr.below hx,(HI.o).dx.trans (Dx.aN hx),(HI.o).nr.keep (Dx.aN hx) ((UG.o).st.nodes _),?_,(Kp.aN hx (fun _=>False)).heap (HI.o).b8 id⟩;obtain⟨BF,BG,uF,BH,ho⟩:=(HI.o).ob;exact⟨BF,BG,uF,BH,ho.below hx⟩
      have s1:=iY HX.o hgl hgc;have s2:=iY HX.o rC t2;have s6:=iY HX.o rC t6;have F8:=aJ hgl (HX.o).size;have D8:=aJ rC (HX.o).size;have lG:Hid (∀(er:Nat) (W:aG),(if (ns.take k).any (fun m=>m.1==n.1) then 5 else 0)=er→Dr w0 K l ((us++iL f [] (ns.take k))++[⟨f,n.2,1,f,n.2,er⟩]) W→Dr w0 K l (us++iL f [] (ns.take (k+1))) W):=fun er W he hd=>by
       have e1:iL f [] (ns.take (k+1))=iL f [] (ns.take k)++[⟨f,n.2,1,f,n.2,er⟩]:=by
        rw[tY HN.o,qO,bM,he];unfold jd X.f_;rw[aM hn0]
       rw[e1,← aK];exact hd
      have hl1:(us++iL f [] (ns.take k)).length+1≤1073741824:=by
       have e1:(iL f [] (ns.take (k+1))).length=(iL f [] (ns.take k)).length+1:=by
        rw[tY HN.o,qO,ay];unfold jd X.f_;rw[aM hn0];rfl
       rw[ay];omega
      have HDD:Hid (X.dd [] (ns.take (k+1))=X.dd [] (ns.take k)++(if (ns.take k).any (fun m=>m.1==n.1) then [] else [n])):=by show _=_;rw[tY HN.o,zh,bM,aM hn0]
      have hdl:(X.dd [] (ns.take k)).length≤ns.length:=dI (zN _ _) (by rw[dX];omega);clear HI hgc t2 t6 YB;cases Xr:(ns.take k).any (fun m=>m.1==n.1) with
      | true =>
       have HD1:Hid (X.dd [] (ns.take (k+1))=X.dd [] (ns.take k)):=by show _=_;rw[HDD.o,Xr,aU rfl,aL]
       rw[Xr] at lG;clear HDD;have HC:=aA (mD f n.2 1 (f:Int) (n.2:Int) 5 ((HI2.o).dr.below (w':=wr.drew) ((aB _ wr).drew)) hl1);have YC:Hid (¬ K.Sx w0.heap.size wr.drew g):=by
        obtain⟨pa',pc',ep,-,-,hrow⟩:=(HI2.o).nr;injection ep with U7 ep2 U8;subst U7 U8;obtain⟨g',u',e1,e2,-⟩:=hrow k n HN.o;cases e1
        exact e2.2
       have F9:Hid (¬ K.Sx w0.heap.size wr.drew N):=fun hs=>by
        have:=(UG.o).st.al;rcases hs with hs|⟨hs,-⟩
        ·omega
        ·omega
       clear Xr;go_wp2_with fail
       refine wp_region_noPanic ?_;refine dB (S:=fun w'=>w'.cell? (aC g k)=some (aH N)∧w'.cell? (aC N 6)=some (ak n.2)) (z:=20) bC ?_;have hS:wr.drew.cell? (aC g k)=some (aH N)∧wr.drew.cell? (aC N 6)=some (ak n.2):=⟨s1,s6⟩;iterate 19(refine oQ hS ?_;simp only[Act.put,aD,aO,aP])
       refine dY (i:=19) bC rfl (fun KK hK=>?_);go_simp;refine(HC.o).aX fun w4 H4=>?_;have p1:=Kp.dD (H4.o).2 hS.1 YC.o;have p6:=Kp.dD (H4.o).2 hS.2 F9.o;go_simp;refine hK.o _ _ (fun _=>⟨p1,p6⟩) (fun _=>iF ?_);clear hK KK hS;refine NoPanic.normal ?_;have HF:Hid (Nr w0 K l us w f (b_ g) pc ns w2.heap.size b9 sl (k+1) w4):=by
        have tZ:=(Dx.aN ((aB _ wr).drew)).trans (H4.o).2;obtain⟨BF,BG,uF,BH,ho⟩:=(HI2.o).ob;refine⟨(lG.o) 5 w4 rfl (H4.o).1,(HI2.o).dx.trans tZ,(HI2.o).nr.keep tZ ((UG.o).st.nodes _),⟨BF,BG,uF,BH,?_⟩,?_⟩
        ·rw[HD1.o];exact ho.dx tZ ⟨au,au⟩
        ·exact Kp.heap tZ (HI2.o).b8 (fun hs=>by
          rcases hs with hs|⟨-,cs,d,hu⟩
          ·omega
          ·exact fO (HI2.o).b8 hu aS)
       clear H4 HI2 s1 s2 s6;go_wp2_with fail
       exact⟨⟨k+1,by go_num,au,HF⟩,by simp only[intOf];omega⟩
      | false =>
       have HD1:Hid (sl++X.dd [] (ns.take (k+1))=(sl++X.dd [] (ns.take k))++[n]):=by show _=_;rw[HDD.o,Xr,aM aS,aK]
       rw[Xr] at lG;clear Xr HDD;obtain⟨BF,BG,uF,BH,ho⟩:=(HI2.o).ob;generalize hsm:sl++X.dd [] (ns.take k)=sm at *;have cG8:sm.length≤1073741822:=by rw[← hsm,ay];have:=(show k<ns.length from hlt);have h2:(X.dd [] (ns.take k)).length≤k:=dI (zN _ _) (by rw[dX];omega);omega
       have z0:=aj wr _ 0 _ _ _ ho.blk;have z1:=aj wr _ 1 _ _ _ ho.blk;have zf0:wr.frozen? (aC b9 0)=false:=dO ho.blk
       have U9:=bN ho.blk;have HO:=aA ho;have Jt:=aA ho;have BU:Hid (∀ q,(Value.slice BF sm.length BG).ownBlock=some q→w2.heap.size≤q∧q≠b9):=fun q hq=>⟨(dG (HO.o).nr q hq).1,fun e=>by obtain⟨_,_,h1⟩:=eH (HO.o).nr hq;rw[e] at h1;exact fO h1 (HO.o).blk aS⟩
       obtain⟨i0,hi0,hz0,hz1,hz2⟩:=dM infoSt;have hmb:(sm.length+1)*16≤140737488355328:=au
       have Qg:=dI Nt (Nat.le_of_lt U9);have HZ:=aA Qg;have HZ0:=aA hsz2;clear ho Qg hsz2;go_wp2_with fail
       refine wp_region_noPanic ?_;refine dB (S:=fun w'=>w'.cell? (aC b9 0)=some (.slice BF sm.length BG)∧w'.cell? (aC g k)=some (aH N)∧w'.cell? (aC N 2)=some (.string (ba n.1))) (z:=12) bC ?_;have hS:wr.drew.cell? (aC b9 0)=some (.slice BF sm.length BG)∧wr.drew.cell? (aC g k)=some (aH N)∧wr.drew.cell? (aC N 2)=some (.string (ba n.1)):=⟨z0,s1,s2⟩;iterate 9(refine ny hS ?_;simp only[Act.put,aD,aO,aP])
       refine dY (i:=9) bC rfl (fun KK hK=>?_);go_simp;refine hK.o _ _ (fun _=>by first|go_keep|(dsimp only;go_keep)) (fun hS2=>?_);clear hS hK KK;have hS:=hS2 aS;clear hS2;refine dY (i:=10) bC rfl (fun KK hK=>?_);refine step_append_lies _ (by rfl) _ _ _ (by rfl) w2.heap.size 9 i0 _ 1 16 underlying64 hi0 hz0 hz1 hz2 rfl au (.slice BF sm.length BG) sm.length _ (by rfl) (((HO.o).nr.alloc _).drew) ⟨wr.heap.size,0,none⟩ 1 1 [.string (ba n.1)] (by rfl) (by rfl) (World.news_of_block (cs:=#[.string (ba n.1)]) (t:=9) (fr:=(0,0)) (heap_alloc_new wr _)) (by simp[Value.oneCell']) au (by unfold maxLen;omega) hmb (by have:=HZ.o;simp;omega) (wr.heap.size+1) aT ?_;intro g5 cap5 w5 hown5 aV gI jm;have nb:=BU.o;have hz:=HZ0.o;have y0:=(aV.cell_far ⟨b9,0,none⟩ aQ (fun e=>(nb _ e.symm).2 rfl)).trans hS.1;have y1:=(aV.cell_far ⟨g,k,none⟩ aQ (fun e=>by have h1:w2.heap.size≤g:=(nb _ e.symm).1;omega)).trans hS.2.1;have y2:=(aV.cell_far ⟨N,2,none⟩ aQ (fun e=>by have h1:w2.heap.size≤N:=(nb _ e.symm).1;omega)).trans hS.2.2;have x2:=(aV.frozen_far ⟨b9,0,none⟩ aQ (fun e=>(nb _ e.symm).2 rfl)).trans ((World.frozen?_alloc_old _ _ ⟨b9,0,none⟩ aQ).trans zf0);show KK (Act.put _ (some 72) _) w5;refine hK.o _ _ (fun _=>⟨y0,y1,y2⟩) (fun hS2=>?_);clear hS hK KK;have hS:=hS2 aS;clear hS2;simp only[Act.put,List.setIfInBounds_toArray,List.set_cons_zero,List.set_cons_succ];refine dY (i:=11) bC rfl (fun KK hK=>?_);go_simp;refine hK.o _ _ (fun _=>hS) (fun _=>?_);clear hK KK;refine dY (i:=12) bC rfl (fun KK hK=>?_);go_simp;refine hK.o _ _ (fun h=>absurd rfl h) (fun _=>iF ?_);clear hK KK;refine NoPanic.normal ?_;obtain⟨U_,Xt⟩:=yP.name HO.o ((((Below.refl _ wr).alloc (Nat.le_refl _) (.cells #[.string (ba n.1)] 9)).drew:Below wr.heap.size wr (wr.alloc (.cells #[.string (ba n.1)] 9)).drew)) (n:=n) hown5 aV;have z61:=cell_of_row _ _ 1 _ _ _ U_.blk;have zf6:(w5.setCell (aC b9 0) (.slice (b_ g5) (sm.length+1) cap5)).frozen? (aC b9 1)=false:=dO U_.blk
       have s61:=Xt.dD s1 (fun hs=>by rcases hs with hs|hs;(have:g=b9:=hs;have:=HZ0.o;omega);(have h1:w2.heap.size≤g:=((BU.o) _ hs).1;have:=HZ0.o;omega));have s66:=Xt.dD s6 (fun hs=>by rcases hs with hs|hs;(have:N=b9:=hs;have:=HZ0.o;omega);(have h1:w2.heap.size≤N:=((BU.o) _ hs).1;have:=HZ0.o;omega));have BI:=aA U_;have LW:=aA Xt;clear U_ Xt hown5 aV gI jm y0 y1 y2 x2 hS nb hz s1 s2 s6 z0 z1 zf0 HO;generalize w5.setCell (aC b9 0) (.slice (b_ g5) (sm.length+1) cap5)=W6 at *;have bE6:=bN (BI.o).blk;have hg6:=aJ F8 (LW.o).size;have hN6:=aJ D8 (LW.o).size;have vL:Hid (∀ q,(Value.slice uF sm.length BH).ownBlock=some q→w2.heap.size≤q∧q≠b9):=fun q hq=>⟨(dG (BI.o).ar q hq).1,fun e=>by obtain⟨_,_,h1⟩:=eH (BI.o).ar hq;rw[e] at h1;exact fO h1 (BI.o).blk aS⟩
       obtain⟨j0,hj0,hy0,hy1,hy2⟩:=dM D9;have YD:(sm.length+1)*8≤140737488355328:=au
       have HZ6:=aA <| dI HZ.o (LW.o).size;go_wp2_with fail
       refine wp_region_noPanic ?_;refine dB (S:=fun w'=>w'.cell? (aC b9 1)=some (.slice uF sm.length BH)∧w'.cell? (aC g k)=some (aH N)∧w'.cell? (aC N 6)=some (ak n.2)) (z:=12) bC ?_;have hS:W6.drew.cell? (aC b9 1)=some (.slice uF sm.length BH)∧W6.drew.cell? (aC g k)=some (aH N)∧W6.drew.cell? (aC N 6)=some (ak n.2):=⟨z61,s61,s66⟩;iterate 9(refine ny hS ?_;simp only[Act.put,aD,aO,aP])
       refine dY (i:=9) bC rfl (fun KK hK=>?_);go_simp;refine hK.o _ _ (fun _=>by first|go_keep|(dsimp only;go_keep)) (fun hS2=>?_);clear hS hK KK;have hS:=hS2 aS;clear hS2;refine dY (i:=10) bC rfl (fun KK hK=>?_);refine step_append_lies _ (by rfl) _ _ _ (by rfl) w2.heap.size 3 j0 _ 1 8 underlying65 hj0 hy0 hy1 hy2 rfl au (.slice uF sm.length BH) sm.length _ (by rfl) (((BI.o).ar.alloc _).drew) ⟨W6.heap.size,0,none⟩ 1 1 [ak (n.2:Int)] (by rfl) (by rfl) (World.news_of_block (cs:=#[ak (n.2:Int)]) (t:=3) (fr:=(0,0)) (heap_alloc_new W6 _)) (by simp[Value.oneCell']) au (by unfold maxLen;omega) YD (by have:=HZ6.o;simp;omega) (W6.heap.size+1) aT ?_;intro g5 cap5 w5 hown5 aV gI jm;have nb:=vL.o;have hz:=HZ0.o;have y0:=(aV.cell_far ⟨b9,1,none⟩ aQ (fun e=>(nb _ e.symm).2 rfl)).trans hS.1;have y1:=(aV.cell_far ⟨g,k,none⟩ aQ (fun e=>by have h1:w2.heap.size≤g:=(nb _ e.symm).1;omega)).trans hS.2.1;have y2:=(aV.cell_far ⟨N,6,none⟩ aQ (fun e=>by have h1:w2.heap.size≤N:=(nb _ e.symm).1;omega)).trans hS.2.2;have x2:=(aV.frozen_far ⟨b9,1,none⟩ aQ (fun e=>(nb _ e.symm).2 rfl)).trans ((World.frozen?_alloc_old _ _ ⟨b9,1,none⟩ aQ).trans zf6);show KK (Act.put _ (some 84) _) w5;refine hK.o _ _ (fun _=>⟨y0,y1,y2⟩) (fun hS2=>?_);clear hS hK KK;have hS:=hS2 aS;clear hS2;simp only[Act.put,List.setIfInBounds_toArray,List.set_cons_zero,List.set_cons_succ];refine dY (i:=11) bC rfl (fun KK hK=>?_);go_simp;refine hK.o _ _ (fun _=>hS) (fun _=>?_);clear hK KK;refine dY (i:=12) bC rfl (fun KK hK=>?_);go_simp;refine hK.o _ _ (fun h=>absurd rfl h) (fun _=>iF ?_);clear hK KK;refine NoPanic.normal ?_;obtain⟨hO7,YE⟩:=yP.at BI.o ((((Below.refl _ W6).alloc (Nat.le_refl _) (.cells #[ak (n.2:Int)] 3)).drew:Below W6.heap.size W6 (W6.alloc (.cells #[ak (n.2:Int)] 3)).drew)) (n:=n) hown5 aV;have v1:=YE.dD s61 (fun hs=>by rcases hs with hs|hs;(have:g=b9:=hs;have:=HZ0.o;omega);(have h1:w2.heap.size≤g:=((vL.o) _ hs).1;have:=HZ0.o;omega));have v6:=YE.dD s66 (fun hs=>by rcases hs with hs|hs;(have:N=b9:=hs;have:=HZ0.o;omega);(have h1:w2.heap.size≤N:=((vL.o) _ hs).1;have:=HZ0.o;omega));have Qf:=aA hO7;have YF:=aA YE;clear hO7 YE hown5 aV gI jm y0 y1 y2 x2 hS nb hz s61 s66 z61 zf6;generalize w5.setCell (aC b9 1) (.slice (b_ g5) (sm.length+1) cap5)=W7 at *;have HD7:Hid (Dr w0 K l (us++iL f [] (ns.take k)) W7∧Dx K w0.heap.size w W7∧yO K w0.heap.size W7 (.slice (b_ g) ns.length pc) ns∧W7.heap[w.heap.size+1]?=some (.cells #[.slice none 0 0,.slice none 0 0] 67 (0,0))):=by
        have hz:=HZ0.o;have hno:∀ q,(q=b9∨(Value.slice BF sm.length BG).ownBlock=some q)→w2.heap.size≤q:=fun q hq=>by
         rcases hq with rfl|hq
         ·exact Nt
         ·exact((BU.o) q hq).1
        have hao:∀ q,(q=b9∨(Value.slice uF sm.length BH).ownBlock=some q)→w2.heap.size≤q:=fun q hq=>by
         rcases hq with rfl|hq
         ·exact Nt
         ·exact((vL.o) q hq).1
        have Ju:Kp (fun q=>w2.heap.size≤q) wr W7:=Kp.trans ((LW.o).mono (fun q _ h=>hno q h)) ((YF.o).mono (fun q _ h=>hao q h)) (fun _ _ h=>h);have d6:=(HI2.o).dr.other LW.o (fun q hq=>⟨by have:=hno q hq;omega,fun⟨cs,d,hu⟩=>by
         rcases hq with rfl|hq
         ·exact fO (Jt.o).blk hu aS
         ·obtain⟨_,_,h1⟩:=eH (Jt.o).nr hq
          exact fO h1 hu aS⟩)
        refine⟨d6.other YF.o (fun q hq=>⟨by have:=hao q hq;omega,fun⟨cs,d,hu⟩=>by
         rcases hq with rfl|hq
         ·exact fO (BI.o).blk hu aS
         ·obtain⟨_,_,h1⟩:=eH (BI.o).ar hq
          exact fO h1 hu aS⟩),Kp.trans (HI2.o).dx Ju (fun q h1 h2=>au),?_,Ju.heap (HI2.o).b8 au⟩
        obtain⟨pa',pc',ep,p1,p2,hrow⟩:=(HI2.o).nr;injection ep with U7 ep2 U8;subst U7 U8;refine⟨_,_,rfl,p1,p2,fun j m hj=>?_⟩;obtain⟨g',u',e1,e2,e3,e4⟩:=hrow j m hj;cases e1
        refine⟨g,u',rfl,⟨aJ e2.1 Ju.size,fun hs=>?_⟩,Ju.dD e3 (by show ¬ w2.heap.size≤g;omega),e4.keep Ju (fun q h1 h2 h3=>by have:=(UG.o).st.bl;omega)⟩;rcases hs with hs|⟨hs,cs,d,hu⟩
        ·exact e2.2 (.inl hs)
        ·refine e2.2 (.inr ⟨hs,cs,d,?_⟩)
         rw[← Ju.block g e2.1 (by show ¬ w2.heap.size≤g;omega)];exact hu
       clear HI2 LW YF BI Jt BU vL;have HC:=aA (mD f n.2 1 (f:Int) (n.2:Int) 0 ((HD7.o).1.below (w':=W7.drew) ((aB _ W7).drew)) hl1);have YC:Hid (¬ K.Sx w0.heap.size W7.drew g):=by
        obtain⟨pa',pc',ep,-,-,hrow⟩:=(HD7.o).2.2.1;injection ep with U7 ep2 U8;subst U7 U8;obtain⟨g',u',e1,e2,-⟩:=hrow k n HN.o;cases e1
        exact e2.2
       have F9:Hid (¬ K.Sx w0.heap.size W7.drew N):=fun hs=>by
        have:=(UG.o).st.al;rcases hs with hs|⟨hs,-⟩
        ·omega
        ·omega
       go_wp2_with fail
       refine wp_region_noPanic ?_;refine dB (S:=fun w'=>w'.cell? (aC g k)=some (aH N)∧w'.cell? (aC N 6)=some (ak n.2)) (z:=20) bC ?_;have hS:W7.drew.cell? (aC g k)=some (aH N)∧W7.drew.cell? (aC N 6)=some (ak n.2):=⟨v1,v6⟩;iterate 19(refine oQ hS ?_;simp only[Act.put,aD,aO,aP])
       refine dY (i:=19) bC rfl (fun KK hK=>?_);go_simp;refine(HC.o).aX fun w4 H4=>?_;have p1:=Kp.dD (H4.o).2 hS.1 YC.o;have p6:=Kp.dD (H4.o).2 hS.2 F9.o;go_simp;refine hK.o _ _ (fun _=>⟨p1,p6⟩) (fun _=>iF ?_);clear hK KK hS;refine NoPanic.normal ?_;have HF:Hid (Nr w0 K l us w f (b_ g) pc ns w2.heap.size b9 sl (k+1) w4):=by
        have hz:=HZ0.o;have tZ:=(Dx.aN ((aB _ W7).drew)).trans (H4.o).2;refine⟨(lG.o) 0 w4 rfl (H4.o).1,(HD7.o).2.1.trans tZ,(HD7.o).2.2.1.keep tZ ((UG.o).st.nodes _),?_,?_⟩
        ·have ho:=(Qf.o).dx tZ ⟨au,au⟩
         have e1:=HD1.o;rw[e1,ay];exact⟨_,_,_,_,ho⟩
        ·exact Kp.heap tZ (HD7.o).2.2.2 (fun hs=>by
          rcases hs with hs|⟨-,cs,d,hu⟩
          ·omega
          ·exact fO (HD7.o).2.2.2 hu aS)
       clear H4 HD7 Qf v1 v6;go_wp2_with fail
       exact⟨⟨k+1,by go_num,au,HF⟩,by simp only[intOf];omega⟩
     have i3:decide (k<i)=true:=aQ
     have i4:decide ((k:Int)<(i:Int))=true:=aQ
     have hk1:(0:Int)≤(k:Int):=bO _;have hk2:(k:Int)<(ns.length:Int):=au
     obtain⟨m,hm⟩:∃ m,ns[k]?=some m:=⟨ns[k],aF au⟩;have Nu:Hid ((ns.take (k+1)).any (fun m=>m.1==n.1)=((ns.take k).any (fun m=>m.1==n.1)||(m.1==n.1))):=by show _=_;rw[tY hm,List.any_append];simp
     have s1:=iY HX.o hgl hgc;have s2:=iY HX.o rC t2;generalize (ns.take k).any (fun m=>m.1==n.1)=tb at *;rcases(YB.o) m k hm with ⟨e1,hm0⟩|⟨M,e1,hMl,e2⟩
     ·have s3:=iY HX.o hgl e1
      have HT2:Hid ((ns.take (k+1)).any (fun m=>m.1==n.1)=tb):=by
       show _=_;rw[Nu.o,hm0];have:(([]:ah)==n.1)=false:=by rw[eO];exact fun e=>hn0 e.symm
       rw[this,Bool.or_false]
      clear Nu hm e1;go_wp2_with fail
      go_quiet (fail)
      go_wp2_with fail
      exact⟨⟨k+1,by rw[HT2.o],by go_num,au,iQ HX.o _⟩,by simp only[intOf];omega⟩
     ·have s3:=iY HX.o hgl e1
      have s4:=iY HX.o hMl e2;cases hb:(m.1==n.1) with
      | true =>
       have hs:=oD hb;have HT2:Hid ((ns.take (k+1)).any (fun m=>m.1==n.1)=true):=by show _=_;rw[Nu.o,hb,Bool.or_true]
       clear Nu hm e1 e2 hb;go_wp2_with fail
       go_quiet (fail)
       go_wp2_with fail
       exact⟨⟨k+1,by rw[HT2.o],by go_num,au,iQ HX.o _⟩,by simp only[intOf];omega⟩
      | false =>
       have hs:=oD hb;have HT2:Hid ((ns.take (k+1)).any (fun m=>m.1==n.1)=tb):=by show _=_;rw[Nu.o,hb,Bool.or_false]
       clear Nu hm e1 e2 hb;go_wp2_with fail
       go_quiet (fail)
       go_wp2_with fail
       exact⟨⟨k+1,by rw[HT2.o],by go_num,au,iQ HX.o _⟩,by simp only[intOf];omega⟩
end
end Go.Proofs.YtoohcklcppnafaaGreatDoor
