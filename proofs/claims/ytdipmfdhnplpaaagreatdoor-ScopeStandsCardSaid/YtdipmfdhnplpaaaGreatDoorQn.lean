/- Package scope: the names in an expression: kinds that name nothing themselves. -/
import Derived.Test.YtdipmfdhnplpaaaGreatDoorQl
namespace Go.Proofs.YtdipmfdhnplpaaaGreatDoor
open Go.RowKit
open M
namespace X
theorem exUs_app (f : Nat) (top : List UInt8 → An) (sc : List (List Nm)) : ∀ a b : List Ex, exUs f top sc (a ++ b) = exUs f top sc a ++ exUs f top sc b
  | [], b => by rw [List.nil_append, exUs, List.nil_append]
  | e :: a, b => by rw [List.cons_append, exUs, exUs, exUs_app f top sc a b, List.append_assoc]
theorem exUs_snoc {f : Nat} {top : List UInt8 → An} {sc : List (List Nm)} {es : List Ex} {j : Nat} {e : Ex} (h : es[j]? = some e) : exUs f top sc (es.take (j + 1)) = exUs f top sc (es.take j) ++ exU f top sc e := by
  rw [take_snoc h, exUs_app, exUs, exUs, List.append_nil]
theorem exUs_take (f : Nat) (top : List UInt8 → An) (sc : List (List Nm)) (es : List Ex) (j : Nat) : (exUs f top sc (es.take j)).length ≤ (exUs f top sc es).length := by
  have := exUs_app f top sc (es.take j) (es.drop j)
  rw [List.take_append_drop] at this
  rw [this, List.length_append]; omega
end X
/-- Where the parts of an expression are gone through. -/
structure InE (w w0 : World) (L : Lay) (fs : List X.Fl) (us : List X.U) (lo hi f : Nat) (es : List X.Ex) (ao : Option Addr) (vs : Nat → Value) (bv : Value) (sc : List (List X.Nm)) (Tb j : Nat) (wr : World) : Prop where
  tld : Tld w0 L fs (us ++ X.exUs f (X.topA fs f) sc (es.take j)) w wr
  tl : wr.heap[Tb]? = some (.cells #[.pointer (some ⟨L.wb, 0, none⟩), .int .i64 f] 93 (0, 0))
  row : ∀ k, k < es.length → ∃ g cs d, ao = some ⟨g, 0, none⟩ ∧ w0.heap.size ≤ g ∧ wr.heap[g]? = some (.cells cs 155 d) ∧ wr.cell? ⟨g, k, none⟩ = some (vs k)
  each : ∀ (k : Nat) (e : X.Ex), es[k]? = some e → IsE wr lo hi (vs k) e
  bk : IsBk wr w0.heap.size bv sc
variable {w0 : World} {L : Lay} {fs : List X.Fl} {M : Mem} {us : List X.U} {w : World}
theorem InE.start {lo hi f : Nat} {es : List X.Ex} {rv bv : Value} {sc : List (List X.Nm)} {w1 w2 : World} (hb : Below w.heap.size w w1) (hT : w1.heap[w.heap.size]? = some (.cells #[.pointer (some ⟨L.wb, 0, none⟩), .int .i64 f] 93 (0, 0))) (hp : Pts w1 w2 lo hi rv es) (h : Run w0 L fs M us w1) (hM : MOk fs M) (hI : Idle M) (hbk : IsBk w1 w0.heap.size bv sc) :
    ∃ ao cap vs, rv = .slice ao es.length cap ∧ es.length ≤ cap ∧ cap ≤ maxLen ∧ InE w w0 L fs us lo hi f es ao vs bv sc w.heap.size 0 w2 := by
  obtain ⟨ao, cap, vs, z1, z2, z3, z4, z5⟩ := hp.ex
  have hk := Kp.ofBelow hp.bl (fun _ => False)
  refine ⟨ao, cap, vs, z1, z2, z3, ⟨M, ?_, hM, hI, (Kx.ofBelow hb).trans (Kx.ofBelow hp.bl)⟩, hk.heap hT id, fun k hk' => ?_, fun k e he => (z5 k e he).keep hk (fun _ _ _ => id), hbk.blw hp.bl⟩
  · rw [List.take_zero, X.exUs, List.append_nil]; exact h.below hp.bl
  · obtain ⟨g, cs, d, y1, y2, y3, y4⟩ := z4 k hk'
    exact ⟨g, cs, d, y1, by have := h.size; omega, y3, y4⟩
theorem InE.step {lo hi f : Nat} {es : List X.Ex} {ao : Option Addr} {vs : Nat → Value} {bv : Value} {sc : List (List X.Nm)} {Tb j : Nat} {wr w2 : World} (h : InE w w0 L fs us lo hi f es ao vs bv sc Tb j wr) (hv : Av L fs.length w0.heap.size lo hi) (h1 : w0.heap.size ≤ Tb) {e : X.Ex} (he : es[j]? = some e) (ht : Tld w0 L fs ((us ++ X.exUs f (X.topA fs f) sc (es.take j)) ++ X.exU f (X.topA fs f) sc e) wr w2) : InE w w0 L fs us lo hi f es ao vs bv sc Tb (j + 1) w2 := by
  obtain ⟨M2, r2, m2, i2, x2⟩ := ht
  obtain ⟨M1, r1, m1, i1, x1⟩ := h.tld
  have hS := r2.st.lt
  refine ⟨⟨M2, by rw [X.exUs_snoc he, ← List.append_assoc]; exact r2, m2, i2, x1.trans x2⟩, x2.made hS h.tl h1 (fun cs d e => by cases e), fun k hk => ?_, fun k e' he' => (h.each k e' he').keep x2 (hv.sx wr), h.bk.keep x2 hS⟩
  obtain ⟨g, cs, d, y1, y2, y3, y4⟩ := h.row k hk
  have hg := x2.made hS y3 y2 (fun cs d e => by cases e)
  exact ⟨g, cs, d, y1, y2, hg, (World.cell?_of_block (w := wr) (a := ⟨g, k, none⟩) (hg.trans y3.symm)).trans y4⟩
theorem asLiteralV (b : Nat) (w : World) : (Instr.typeAssert (.iface 264 (.pointer (some ⟨b, 0, none⟩))) 155 203 true).run Tryz.prog w = .ok (.tuple #[.pointer none, .bool false]) w := by kernel_rfl
theorem asLiteralL (b : Nat) (w : World) : (Instr.typeAssert (.iface 264 (.pointer (some ⟨b, 0, none⟩))) 155 208 true).run Tryz.prog w = .ok (.tuple #[.pointer none, .bool false]) w := by kernel_rfl
theorem asLiteralF (b : Nat) (w : World) : (Instr.typeAssert (.iface 264 (.pointer (some ⟨b, 0, none⟩))) 155 211 true).run Tryz.prog w = .ok (.tuple #[.pointer none, .bool false]) w := by kernel_rfl
theorem asHoleV (b : Nat) (w : World) : (Instr.typeAssert (.iface 262 (.pointer (some ⟨b, 0, none⟩))) 155 203 true).run Tryz.prog w = .ok (.tuple #[.pointer none, .bool false]) w := by kernel_rfl
theorem asHoleL (b : Nat) (w : World) : (Instr.typeAssert (.iface 262 (.pointer (some ⟨b, 0, none⟩))) 155 208 true).run Tryz.prog w = .ok (.tuple #[.pointer none, .bool false]) w := by kernel_rfl
theorem asHoleF (b : Nat) (w : World) : (Instr.typeAssert (.iface 262 (.pointer (some ⟨b, 0, none⟩))) 155 211 true).run Tryz.prog w = .ok (.tuple #[.pointer none, .bool false]) w := by kernel_rfl
theorem asMissingV (b : Nat) (w : World) : (Instr.typeAssert (.iface 244 (.pointer (some ⟨b, 0, none⟩))) 155 203 true).run Tryz.prog w = .ok (.tuple #[.pointer none, .bool false]) w := by kernel_rfl
theorem asMissingL (b : Nat) (w : World) : (Instr.typeAssert (.iface 244 (.pointer (some ⟨b, 0, none⟩))) 155 208 true).run Tryz.prog w = .ok (.tuple #[.pointer none, .bool false]) w := by kernel_rfl
theorem asMissingF (b : Nat) (w : World) : (Instr.typeAssert (.iface 244 (.pointer (some ⟨b, 0, none⟩))) 155 211 true).run Tryz.prog w = .ok (.tuple #[.pointer none, .bool false]) w := by kernel_rfl
theorem asIfV (b : Nat) (w : World) : (Instr.typeAssert (.iface 248 (.pointer (some ⟨b, 0, none⟩))) 155 203 true).run Tryz.prog w = .ok (.tuple #[.pointer none, .bool false]) w := by kernel_rfl
theorem asIfL (b : Nat) (w : World) : (Instr.typeAssert (.iface 248 (.pointer (some ⟨b, 0, none⟩))) 155 208 true).run Tryz.prog w = .ok (.tuple #[.pointer none, .bool false]) w := by kernel_rfl
theorem asIfF (b : Nat) (w : World) : (Instr.typeAssert (.iface 248 (.pointer (some ⟨b, 0, none⟩))) 155 211 true).run Tryz.prog w = .ok (.tuple #[.pointer none, .bool false]) w := by kernel_rfl
theorem asBinaryV (b : Nat) (w : World) : (Instr.typeAssert (.iface 252 (.pointer (some ⟨b, 0, none⟩))) 155 203 true).run Tryz.prog w = .ok (.tuple #[.pointer none, .bool false]) w := by kernel_rfl
theorem asBinaryL (b : Nat) (w : World) : (Instr.typeAssert (.iface 252 (.pointer (some ⟨b, 0, none⟩))) 155 208 true).run Tryz.prog w = .ok (.tuple #[.pointer none, .bool false]) w := by kernel_rfl
theorem asBinaryF (b : Nat) (w : World) : (Instr.typeAssert (.iface 252 (.pointer (some ⟨b, 0, none⟩))) 155 211 true).run Tryz.prog w = .ok (.tuple #[.pointer none, .bool false]) w := by kernel_rfl
theorem asCallV (b : Nat) (w : World) : (Instr.typeAssert (.iface 254 (.pointer (some ⟨b, 0, none⟩))) 155 203 true).run Tryz.prog w = .ok (.tuple #[.pointer none, .bool false]) w := by kernel_rfl
theorem asCallL (b : Nat) (w : World) : (Instr.typeAssert (.iface 254 (.pointer (some ⟨b, 0, none⟩))) 155 208 true).run Tryz.prog w = .ok (.tuple #[.pointer none, .bool false]) w := by kernel_rfl
theorem asCallF (b : Nat) (w : World) : (Instr.typeAssert (.iface 254 (.pointer (some ⟨b, 0, none⟩))) 155 211 true).run Tryz.prog w = .ok (.tuple #[.pointer none, .bool false]) w := by kernel_rfl
theorem asListV (b : Nat) (w : World) : (Instr.typeAssert (.iface 256 (.pointer (some ⟨b, 0, none⟩))) 155 203 true).run Tryz.prog w = .ok (.tuple #[.pointer none, .bool false]) w := by kernel_rfl
theorem asListL (b : Nat) (w : World) : (Instr.typeAssert (.iface 256 (.pointer (some ⟨b, 0, none⟩))) 155 208 true).run Tryz.prog w = .ok (.tuple #[.pointer none, .bool false]) w := by kernel_rfl
theorem asListF (b : Nat) (w : World) : (Instr.typeAssert (.iface 256 (.pointer (some ⟨b, 0, none⟩))) 155 211 true).run Tryz.prog w = .ok (.tuple #[.pointer none, .bool false]) w := by kernel_rfl
theorem asGroupV (b : Nat) (w : World) : (Instr.typeAssert (.iface 259 (.pointer (some ⟨b, 0, none⟩))) 155 203 true).run Tryz.prog w = .ok (.tuple #[.pointer none, .bool false]) w := by kernel_rfl
theorem asGroupL (b : Nat) (w : World) : (Instr.typeAssert (.iface 259 (.pointer (some ⟨b, 0, none⟩))) 155 208 true).run Tryz.prog w = .ok (.tuple #[.pointer none, .bool false]) w := by kernel_rfl
theorem asGroupF (b : Nat) (w : World) : (Instr.typeAssert (.iface 259 (.pointer (some ⟨b, 0, none⟩))) 155 211 true).run Tryz.prog w = .ok (.tuple #[.pointer none, .bool false]) w := by kernel_rfl
set_option maxRecDepth 100000 in
set_option maxHeartbeats 4000000 in
theorem texprLiteral (f lo hi b : Nat) (es : List X.Ex) (sc : List (List X.Nm)) (bv : Value) (hv : Av L fs.length w0.heap.size lo hi) (hE : ∀ (j : Nat) (e : X.Ex), es[j]? = some e → TexOk w0 L fs lo hi f e) (hP : Calls Tryz.prog 226 #[.pointer (some ⟨b, 0, none⟩)] (w.alloc (.cells #[.pointer (some ⟨L.wb, 0, none⟩), .int .i64 f] 93)) fun e w' => ∃ rv, e = .returned rv ∧ Hid (Pts (w.alloc (.cells #[.pointer (some ⟨L.wb, 0, none⟩), .int .i64 f] 93)) w' lo hi rv es))
    (h : Run w0 L fs M us w) (hM : MOk fs M) (hId : Idle M) (hbk : IsBk w w0.heap.size bv sc) (hlim : us.length + (X.exUs f (X.topA fs f) sc es).length ≤ 1073741824) :
    Calls Tryz.prog 60 #[.agg #[.pointer (some ⟨L.wb, 0, none⟩), .int .i64 f], .iface 264 (.pointer (some ⟨b, 0, none⟩)), bv] w fun en w' => en = .returned (.tuple #[]) ∧ Hid (Tld w0 L fs (us ++ X.exUs f (X.topA fs f) sc es) w w') := by
  have av := asLiteralV b
  have al := asLiteralL b
  have af := asLiteralF b
  have HP := hide hP
  have HE := hide hE
  have HV := hide hv
  have h0 := h.size
  have HI0 : Hid (∀ w2 rv, Pts (w.alloc (.cells #[.pointer (some ⟨L.wb, 0, none⟩), .int .i64 f] 93)) w2 lo hi rv es → ∃ ao cap vs, rv = .slice ao es.length cap ∧ es.length ≤ cap ∧ cap ≤ maxLen ∧ InE w w0 L fs us lo hi f es ao vs bv sc w.heap.size 0 w2) := fun w2 rv hp =>
    InE.start ((Below.refl _ w).alloc (Nat.le_refl _) _) (heap_alloc_new w _) hp (h.alloc _) hM hId (hbk.blw ((Below.refl _ w).alloc (Nat.le_refl _) _))
  clear hP hE hv h hM hId hbk
  go_enter Tryz.func60, Tryz.ntmps60
  go_wp2_with fail
  refine (HP.out).mono ?_
  rintro e w2 ⟨rv, rfl, X2⟩
  obtain ⟨ao, cap, vs, rfl, z2, z3, hI0⟩ := (HI0.out) w2 rv X2.out
  have HI1 := hide hI0
  clear X2 hI0 HI0 HP av al af
  have hcap : es.length ≤ 9223372036854775807 := by unfold maxLen at z3; omega
  go_wp2_with fail
  go_loopw [59] (fun v wr => ∃ j : Nat, v = .int .i64 j ∧ j ≤ es.length ∧ Hid (InE w w0 L fs us lo hi f es ao vs bv sc w.heap.size j wr)) (fun v _ => es.length - (intOf v).toNat)
  case atStart => exact ⟨0, rfl, Nat.zero_le _, HI1⟩
  case round =>
    obtain ⟨j, rfl, hj, HI⟩ := hrel
    clear HI1
    by_cases hjl : j < es.length
    · obtain ⟨e, he⟩ : ∃ e, es[j]? = some e := ⟨es[j], List.getElem?_eq_getElem hjl⟩
      obtain ⟨g, cs, d, hao, y2, y3, y4⟩ := (HI.out).row j hjl
      subst hao
      have hi1 : (j : Int) < (es.length : Int) := by omega
      have t0 := cell_of_row wr _ 0 _ _ _ (HI.out).tl
      have t1 := cell_of_row wr _ 1 _ _ _ (HI.out).tl
      obtain ⟨M1, r1, m1, i1, x1⟩ := (HI.out).tld
      have HC := hide ((HE.out) j e he M1 _ wr (vs j) bv sc r1 m1 i1 ((HI.out).each j e he) (HI.out).bk (by
        have e2 := X.exUs_take f (X.topA fs f) sc es (j + 1)
        rw [X.exUs_snoc he, List.length_append] at e2
        rw [List.length_append]; omega))
      obtain ⟨yy, gg, hvs⟩ := ((HI.out).each j e he).iface
      rw [hvs] at y4 HC
      clear r1 m1 i1 x1 y3 hvs
      go_wp2_with fail
      refine (HC.out).mono ?_
      rintro en w3 ⟨rfl, X3⟩
      have HI3 := hide ((HI.out).step HV.out h0 he X3.out)
      clear HC X3 HI t0 t1 y4
      go_wp2_with fail
      exact ⟨⟨j + 1, by simp, by omega, HI3⟩, by simp [intOf]; omega⟩
    · obtain rfl : j = es.length := by omega
      have hd1 : ¬ (es.length : Int) < (es.length : Int) := by omega
      have HF : Hid (Tld w0 L fs (us ++ X.exUs f (X.topA fs f) sc es) w wr) := by
        have := (HI.out).tld
        rw [List.take_length] at this
        exact this
      clear HI
      go_wp2_with fail
      go_end0
      exact ⟨rfl, HF⟩
set_option maxRecDepth 100000 in
set_option maxHeartbeats 4000000 in
theorem texprHole (f lo hi b : Nat) (es : List X.Ex) (sc : List (List X.Nm)) (bv : Value) (hv : Av L fs.length w0.heap.size lo hi) (hE : ∀ (j : Nat) (e : X.Ex), es[j]? = some e → TexOk w0 L fs lo hi f e) (hP : Calls Tryz.prog 225 #[.pointer (some ⟨b, 0, none⟩)] (w.alloc (.cells #[.pointer (some ⟨L.wb, 0, none⟩), .int .i64 f] 93)) fun e w' => ∃ rv, e = .returned rv ∧ Hid (Pts (w.alloc (.cells #[.pointer (some ⟨L.wb, 0, none⟩), .int .i64 f] 93)) w' lo hi rv es))
    (h : Run w0 L fs M us w) (hM : MOk fs M) (hId : Idle M) (hbk : IsBk w w0.heap.size bv sc) (hlim : us.length + (X.exUs f (X.topA fs f) sc es).length ≤ 1073741824) :
    Calls Tryz.prog 60 #[.agg #[.pointer (some ⟨L.wb, 0, none⟩), .int .i64 f], .iface 262 (.pointer (some ⟨b, 0, none⟩)), bv] w fun en w' => en = .returned (.tuple #[]) ∧ Hid (Tld w0 L fs (us ++ X.exUs f (X.topA fs f) sc es) w w') := by
  have av := asHoleV b
  have al := asHoleL b
  have af := asHoleF b
  have HP := hide hP
  have HE := hide hE
  have HV := hide hv
  have h0 := h.size
  have HI0 : Hid (∀ w2 rv, Pts (w.alloc (.cells #[.pointer (some ⟨L.wb, 0, none⟩), .int .i64 f] 93)) w2 lo hi rv es → ∃ ao cap vs, rv = .slice ao es.length cap ∧ es.length ≤ cap ∧ cap ≤ maxLen ∧ InE w w0 L fs us lo hi f es ao vs bv sc w.heap.size 0 w2) := fun w2 rv hp =>
    InE.start ((Below.refl _ w).alloc (Nat.le_refl _) _) (heap_alloc_new w _) hp (h.alloc _) hM hId (hbk.blw ((Below.refl _ w).alloc (Nat.le_refl _) _))
  clear hP hE hv h hM hId hbk
  go_enter Tryz.func60, Tryz.ntmps60
  go_wp2_with fail
  refine (HP.out).mono ?_
  rintro e w2 ⟨rv, rfl, X2⟩
  obtain ⟨ao, cap, vs, rfl, z2, z3, hI0⟩ := (HI0.out) w2 rv X2.out
  have HI1 := hide hI0
  clear X2 hI0 HI0 HP av al af
  have hcap : es.length ≤ 9223372036854775807 := by unfold maxLen at z3; omega
  go_wp2_with fail
  go_loopw [59] (fun v wr => ∃ j : Nat, v = .int .i64 j ∧ j ≤ es.length ∧ Hid (InE w w0 L fs us lo hi f es ao vs bv sc w.heap.size j wr)) (fun v _ => es.length - (intOf v).toNat)
  case atStart => exact ⟨0, rfl, Nat.zero_le _, HI1⟩
  case round =>
    obtain ⟨j, rfl, hj, HI⟩ := hrel
    clear HI1
    by_cases hjl : j < es.length
    · obtain ⟨e, he⟩ : ∃ e, es[j]? = some e := ⟨es[j], List.getElem?_eq_getElem hjl⟩
      obtain ⟨g, cs, d, hao, y2, y3, y4⟩ := (HI.out).row j hjl
      subst hao
      have hi1 : (j : Int) < (es.length : Int) := by omega
      have t0 := cell_of_row wr _ 0 _ _ _ (HI.out).tl
      have t1 := cell_of_row wr _ 1 _ _ _ (HI.out).tl
      obtain ⟨M1, r1, m1, i1, x1⟩ := (HI.out).tld
      have HC := hide ((HE.out) j e he M1 _ wr (vs j) bv sc r1 m1 i1 ((HI.out).each j e he) (HI.out).bk (by
        have e2 := X.exUs_take f (X.topA fs f) sc es (j + 1)
        rw [X.exUs_snoc he, List.length_append] at e2
        rw [List.length_append]; omega))
      obtain ⟨yy, gg, hvs⟩ := ((HI.out).each j e he).iface
      rw [hvs] at y4 HC
      clear r1 m1 i1 x1 y3 hvs
      go_wp2_with fail
      refine (HC.out).mono ?_
      rintro en w3 ⟨rfl, X3⟩
      have HI3 := hide ((HI.out).step HV.out h0 he X3.out)
      clear HC X3 HI t0 t1 y4
      go_wp2_with fail
      exact ⟨⟨j + 1, by simp, by omega, HI3⟩, by simp [intOf]; omega⟩
    · obtain rfl : j = es.length := by omega
      have hd1 : ¬ (es.length : Int) < (es.length : Int) := by omega
      have HF : Hid (Tld w0 L fs (us ++ X.exUs f (X.topA fs f) sc es) w wr) := by
        have := (HI.out).tld
        rw [List.take_length] at this
        exact this
      clear HI
      go_wp2_with fail
      go_end0
      exact ⟨rfl, HF⟩
set_option maxRecDepth 100000 in
set_option maxHeartbeats 4000000 in
theorem texprMissing (f lo hi b : Nat) (es : List X.Ex) (sc : List (List X.Nm)) (bv : Value) (hv : Av L fs.length w0.heap.size lo hi) (hE : ∀ (j : Nat) (e : X.Ex), es[j]? = some e → TexOk w0 L fs lo hi f e) (hP : Calls Tryz.prog 219 #[.pointer (some ⟨b, 0, none⟩)] (w.alloc (.cells #[.pointer (some ⟨L.wb, 0, none⟩), .int .i64 f] 93)) fun e w' => ∃ rv, e = .returned rv ∧ Hid (Pts (w.alloc (.cells #[.pointer (some ⟨L.wb, 0, none⟩), .int .i64 f] 93)) w' lo hi rv es))
    (h : Run w0 L fs M us w) (hM : MOk fs M) (hId : Idle M) (hbk : IsBk w w0.heap.size bv sc) (hlim : us.length + (X.exUs f (X.topA fs f) sc es).length ≤ 1073741824) :
    Calls Tryz.prog 60 #[.agg #[.pointer (some ⟨L.wb, 0, none⟩), .int .i64 f], .iface 244 (.pointer (some ⟨b, 0, none⟩)), bv] w fun en w' => en = .returned (.tuple #[]) ∧ Hid (Tld w0 L fs (us ++ X.exUs f (X.topA fs f) sc es) w w') := by
  have av := asMissingV b
  have al := asMissingL b
  have af := asMissingF b
  have HP := hide hP
  have HE := hide hE
  have HV := hide hv
  have h0 := h.size
  have HI0 : Hid (∀ w2 rv, Pts (w.alloc (.cells #[.pointer (some ⟨L.wb, 0, none⟩), .int .i64 f] 93)) w2 lo hi rv es → ∃ ao cap vs, rv = .slice ao es.length cap ∧ es.length ≤ cap ∧ cap ≤ maxLen ∧ InE w w0 L fs us lo hi f es ao vs bv sc w.heap.size 0 w2) := fun w2 rv hp =>
    InE.start ((Below.refl _ w).alloc (Nat.le_refl _) _) (heap_alloc_new w _) hp (h.alloc _) hM hId (hbk.blw ((Below.refl _ w).alloc (Nat.le_refl _) _))
  clear hP hE hv h hM hId hbk
  go_enter Tryz.func60, Tryz.ntmps60
  go_wp2_with fail
  refine (HP.out).mono ?_
  rintro e w2 ⟨rv, rfl, X2⟩
  obtain ⟨ao, cap, vs, rfl, z2, z3, hI0⟩ := (HI0.out) w2 rv X2.out
  have HI1 := hide hI0
  clear X2 hI0 HI0 HP av al af
  have hcap : es.length ≤ 9223372036854775807 := by unfold maxLen at z3; omega
  go_wp2_with fail
  go_loopw [59] (fun v wr => ∃ j : Nat, v = .int .i64 j ∧ j ≤ es.length ∧ Hid (InE w w0 L fs us lo hi f es ao vs bv sc w.heap.size j wr)) (fun v _ => es.length - (intOf v).toNat)
  case atStart => exact ⟨0, rfl, Nat.zero_le _, HI1⟩
  case round =>
    obtain ⟨j, rfl, hj, HI⟩ := hrel
    clear HI1
    by_cases hjl : j < es.length
    · obtain ⟨e, he⟩ : ∃ e, es[j]? = some e := ⟨es[j], List.getElem?_eq_getElem hjl⟩
      obtain ⟨g, cs, d, hao, y2, y3, y4⟩ := (HI.out).row j hjl
      subst hao
      have hi1 : (j : Int) < (es.length : Int) := by omega
      have t0 := cell_of_row wr _ 0 _ _ _ (HI.out).tl
      have t1 := cell_of_row wr _ 1 _ _ _ (HI.out).tl
      obtain ⟨M1, r1, m1, i1, x1⟩ := (HI.out).tld
      have HC := hide ((HE.out) j e he M1 _ wr (vs j) bv sc r1 m1 i1 ((HI.out).each j e he) (HI.out).bk (by
        have e2 := X.exUs_take f (X.topA fs f) sc es (j + 1)
        rw [X.exUs_snoc he, List.length_append] at e2
        rw [List.length_append]; omega))
      obtain ⟨yy, gg, hvs⟩ := ((HI.out).each j e he).iface
      rw [hvs] at y4 HC
      clear r1 m1 i1 x1 y3 hvs
      go_wp2_with fail
      refine (HC.out).mono ?_
      rintro en w3 ⟨rfl, X3⟩
      have HI3 := hide ((HI.out).step HV.out h0 he X3.out)
      clear HC X3 HI t0 t1 y4
      go_wp2_with fail
      exact ⟨⟨j + 1, by simp, by omega, HI3⟩, by simp [intOf]; omega⟩
    · obtain rfl : j = es.length := by omega
      have hd1 : ¬ (es.length : Int) < (es.length : Int) := by omega
      have HF : Hid (Tld w0 L fs (us ++ X.exUs f (X.topA fs f) sc es) w wr) := by
        have := (HI.out).tld
        rw [List.take_length] at this
        exact this
      clear HI
      go_wp2_with fail
      go_end0
      exact ⟨rfl, HF⟩
set_option maxRecDepth 100000 in
set_option maxHeartbeats 4000000 in
theorem texprIf (f lo hi b : Nat) (es : List X.Ex) (sc : List (List X.Nm)) (bv : Value) (hv : Av L fs.length w0.heap.size lo hi) (hE : ∀ (j : Nat) (e : X.Ex), es[j]? = some e → TexOk w0 L fs lo hi f e) (hP : Calls Tryz.prog 220 #[.pointer (some ⟨b, 0, none⟩)] (w.alloc (.cells #[.pointer (some ⟨L.wb, 0, none⟩), .int .i64 f] 93)) fun e w' => ∃ rv, e = .returned rv ∧ Hid (Pts (w.alloc (.cells #[.pointer (some ⟨L.wb, 0, none⟩), .int .i64 f] 93)) w' lo hi rv es))
    (h : Run w0 L fs M us w) (hM : MOk fs M) (hId : Idle M) (hbk : IsBk w w0.heap.size bv sc) (hlim : us.length + (X.exUs f (X.topA fs f) sc es).length ≤ 1073741824) :
    Calls Tryz.prog 60 #[.agg #[.pointer (some ⟨L.wb, 0, none⟩), .int .i64 f], .iface 248 (.pointer (some ⟨b, 0, none⟩)), bv] w fun en w' => en = .returned (.tuple #[]) ∧ Hid (Tld w0 L fs (us ++ X.exUs f (X.topA fs f) sc es) w w') := by
  have av := asIfV b
  have al := asIfL b
  have af := asIfF b
  have HP := hide hP
  have HE := hide hE
  have HV := hide hv
  have h0 := h.size
  have HI0 : Hid (∀ w2 rv, Pts (w.alloc (.cells #[.pointer (some ⟨L.wb, 0, none⟩), .int .i64 f] 93)) w2 lo hi rv es → ∃ ao cap vs, rv = .slice ao es.length cap ∧ es.length ≤ cap ∧ cap ≤ maxLen ∧ InE w w0 L fs us lo hi f es ao vs bv sc w.heap.size 0 w2) := fun w2 rv hp =>
    InE.start ((Below.refl _ w).alloc (Nat.le_refl _) _) (heap_alloc_new w _) hp (h.alloc _) hM hId (hbk.blw ((Below.refl _ w).alloc (Nat.le_refl _) _))
  clear hP hE hv h hM hId hbk
  go_enter Tryz.func60, Tryz.ntmps60
  go_wp2_with fail
  refine (HP.out).mono ?_
  rintro e w2 ⟨rv, rfl, X2⟩
  obtain ⟨ao, cap, vs, rfl, z2, z3, hI0⟩ := (HI0.out) w2 rv X2.out
  have HI1 := hide hI0
  clear X2 hI0 HI0 HP av al af
  have hcap : es.length ≤ 9223372036854775807 := by unfold maxLen at z3; omega
  go_wp2_with fail
  go_loopw [59] (fun v wr => ∃ j : Nat, v = .int .i64 j ∧ j ≤ es.length ∧ Hid (InE w w0 L fs us lo hi f es ao vs bv sc w.heap.size j wr)) (fun v _ => es.length - (intOf v).toNat)
  case atStart => exact ⟨0, rfl, Nat.zero_le _, HI1⟩
  case round =>
    obtain ⟨j, rfl, hj, HI⟩ := hrel
    clear HI1
    by_cases hjl : j < es.length
    · obtain ⟨e, he⟩ : ∃ e, es[j]? = some e := ⟨es[j], List.getElem?_eq_getElem hjl⟩
      obtain ⟨g, cs, d, hao, y2, y3, y4⟩ := (HI.out).row j hjl
      subst hao
      have hi1 : (j : Int) < (es.length : Int) := by omega
      have t0 := cell_of_row wr _ 0 _ _ _ (HI.out).tl
      have t1 := cell_of_row wr _ 1 _ _ _ (HI.out).tl
      obtain ⟨M1, r1, m1, i1, x1⟩ := (HI.out).tld
      have HC := hide ((HE.out) j e he M1 _ wr (vs j) bv sc r1 m1 i1 ((HI.out).each j e he) (HI.out).bk (by
        have e2 := X.exUs_take f (X.topA fs f) sc es (j + 1)
        rw [X.exUs_snoc he, List.length_append] at e2
        rw [List.length_append]; omega))
      obtain ⟨yy, gg, hvs⟩ := ((HI.out).each j e he).iface
      rw [hvs] at y4 HC
      clear r1 m1 i1 x1 y3 hvs
      go_wp2_with fail
      refine (HC.out).mono ?_
      rintro en w3 ⟨rfl, X3⟩
      have HI3 := hide ((HI.out).step HV.out h0 he X3.out)
      clear HC X3 HI t0 t1 y4
      go_wp2_with fail
      exact ⟨⟨j + 1, by simp, by omega, HI3⟩, by simp [intOf]; omega⟩
    · obtain rfl : j = es.length := by omega
      have hd1 : ¬ (es.length : Int) < (es.length : Int) := by omega
      have HF : Hid (Tld w0 L fs (us ++ X.exUs f (X.topA fs f) sc es) w wr) := by
        have := (HI.out).tld
        rw [List.take_length] at this
        exact this
      clear HI
      go_wp2_with fail
      go_end0
      exact ⟨rfl, HF⟩
set_option maxRecDepth 100000 in
set_option maxHeartbeats 4000000 in
theorem texprBinary (f lo hi b : Nat) (es : List X.Ex) (sc : List (List X.Nm)) (bv : Value) (hv : Av L fs.length w0.heap.size lo hi) (hE : ∀ (j : Nat) (e : X.Ex), es[j]? = some e → TexOk w0 L fs lo hi f e) (hP : Calls Tryz.prog 221 #[.pointer (some ⟨b, 0, none⟩)] (w.alloc (.cells #[.pointer (some ⟨L.wb, 0, none⟩), .int .i64 f] 93)) fun e w' => ∃ rv, e = .returned rv ∧ Hid (Pts (w.alloc (.cells #[.pointer (some ⟨L.wb, 0, none⟩), .int .i64 f] 93)) w' lo hi rv es))
    (h : Run w0 L fs M us w) (hM : MOk fs M) (hId : Idle M) (hbk : IsBk w w0.heap.size bv sc) (hlim : us.length + (X.exUs f (X.topA fs f) sc es).length ≤ 1073741824) :
    Calls Tryz.prog 60 #[.agg #[.pointer (some ⟨L.wb, 0, none⟩), .int .i64 f], .iface 252 (.pointer (some ⟨b, 0, none⟩)), bv] w fun en w' => en = .returned (.tuple #[]) ∧ Hid (Tld w0 L fs (us ++ X.exUs f (X.topA fs f) sc es) w w') := by
  have av := asBinaryV b
  have al := asBinaryL b
  have af := asBinaryF b
  have HP := hide hP
  have HE := hide hE
  have HV := hide hv
  have h0 := h.size
  have HI0 : Hid (∀ w2 rv, Pts (w.alloc (.cells #[.pointer (some ⟨L.wb, 0, none⟩), .int .i64 f] 93)) w2 lo hi rv es → ∃ ao cap vs, rv = .slice ao es.length cap ∧ es.length ≤ cap ∧ cap ≤ maxLen ∧ InE w w0 L fs us lo hi f es ao vs bv sc w.heap.size 0 w2) := fun w2 rv hp =>
    InE.start ((Below.refl _ w).alloc (Nat.le_refl _) _) (heap_alloc_new w _) hp (h.alloc _) hM hId (hbk.blw ((Below.refl _ w).alloc (Nat.le_refl _) _))
  clear hP hE hv h hM hId hbk
  go_enter Tryz.func60, Tryz.ntmps60
  go_wp2_with fail
  refine (HP.out).mono ?_
  rintro e w2 ⟨rv, rfl, X2⟩
  obtain ⟨ao, cap, vs, rfl, z2, z3, hI0⟩ := (HI0.out) w2 rv X2.out
  have HI1 := hide hI0
  clear X2 hI0 HI0 HP av al af
  have hcap : es.length ≤ 9223372036854775807 := by unfold maxLen at z3; omega
  go_wp2_with fail
  go_loopw [59] (fun v wr => ∃ j : Nat, v = .int .i64 j ∧ j ≤ es.length ∧ Hid (InE w w0 L fs us lo hi f es ao vs bv sc w.heap.size j wr)) (fun v _ => es.length - (intOf v).toNat)
  case atStart => exact ⟨0, rfl, Nat.zero_le _, HI1⟩
  case round =>
    obtain ⟨j, rfl, hj, HI⟩ := hrel
    clear HI1
    by_cases hjl : j < es.length
    · obtain ⟨e, he⟩ : ∃ e, es[j]? = some e := ⟨es[j], List.getElem?_eq_getElem hjl⟩
      obtain ⟨g, cs, d, hao, y2, y3, y4⟩ := (HI.out).row j hjl
      subst hao
      have hi1 : (j : Int) < (es.length : Int) := by omega
      have t0 := cell_of_row wr _ 0 _ _ _ (HI.out).tl
      have t1 := cell_of_row wr _ 1 _ _ _ (HI.out).tl
      obtain ⟨M1, r1, m1, i1, x1⟩ := (HI.out).tld
      have HC := hide ((HE.out) j e he M1 _ wr (vs j) bv sc r1 m1 i1 ((HI.out).each j e he) (HI.out).bk (by
        have e2 := X.exUs_take f (X.topA fs f) sc es (j + 1)
        rw [X.exUs_snoc he, List.length_append] at e2
        rw [List.length_append]; omega))
      obtain ⟨yy, gg, hvs⟩ := ((HI.out).each j e he).iface
      rw [hvs] at y4 HC
      clear r1 m1 i1 x1 y3 hvs
      go_wp2_with fail
      refine (HC.out).mono ?_
      rintro en w3 ⟨rfl, X3⟩
      have HI3 := hide ((HI.out).step HV.out h0 he X3.out)
      clear HC X3 HI t0 t1 y4
      go_wp2_with fail
      exact ⟨⟨j + 1, by simp, by omega, HI3⟩, by simp [intOf]; omega⟩
    · obtain rfl : j = es.length := by omega
      have hd1 : ¬ (es.length : Int) < (es.length : Int) := by omega
      have HF : Hid (Tld w0 L fs (us ++ X.exUs f (X.topA fs f) sc es) w wr) := by
        have := (HI.out).tld
        rw [List.take_length] at this
        exact this
      clear HI
      go_wp2_with fail
      go_end0
      exact ⟨rfl, HF⟩
set_option maxRecDepth 100000 in
set_option maxHeartbeats 4000000 in
theorem texprCall (f lo hi b : Nat) (es : List X.Ex) (sc : List (List X.Nm)) (bv : Value) (hv : Av L fs.length w0.heap.size lo hi) (hE : ∀ (j : Nat) (e : X.Ex), es[j]? = some e → TexOk w0 L fs lo hi f e) (hP : Calls Tryz.prog 222 #[.pointer (some ⟨b, 0, none⟩)] (w.alloc (.cells #[.pointer (some ⟨L.wb, 0, none⟩), .int .i64 f] 93)) fun e w' => ∃ rv, e = .returned rv ∧ Hid (Pts (w.alloc (.cells #[.pointer (some ⟨L.wb, 0, none⟩), .int .i64 f] 93)) w' lo hi rv es))
    (h : Run w0 L fs M us w) (hM : MOk fs M) (hId : Idle M) (hbk : IsBk w w0.heap.size bv sc) (hlim : us.length + (X.exUs f (X.topA fs f) sc es).length ≤ 1073741824) :
    Calls Tryz.prog 60 #[.agg #[.pointer (some ⟨L.wb, 0, none⟩), .int .i64 f], .iface 254 (.pointer (some ⟨b, 0, none⟩)), bv] w fun en w' => en = .returned (.tuple #[]) ∧ Hid (Tld w0 L fs (us ++ X.exUs f (X.topA fs f) sc es) w w') := by
  have av := asCallV b
  have al := asCallL b
  have af := asCallF b
  have HP := hide hP
  have HE := hide hE
  have HV := hide hv
  have h0 := h.size
  have HI0 : Hid (∀ w2 rv, Pts (w.alloc (.cells #[.pointer (some ⟨L.wb, 0, none⟩), .int .i64 f] 93)) w2 lo hi rv es → ∃ ao cap vs, rv = .slice ao es.length cap ∧ es.length ≤ cap ∧ cap ≤ maxLen ∧ InE w w0 L fs us lo hi f es ao vs bv sc w.heap.size 0 w2) := fun w2 rv hp =>
    InE.start ((Below.refl _ w).alloc (Nat.le_refl _) _) (heap_alloc_new w _) hp (h.alloc _) hM hId (hbk.blw ((Below.refl _ w).alloc (Nat.le_refl _) _))
  clear hP hE hv h hM hId hbk
  go_enter Tryz.func60, Tryz.ntmps60
  go_wp2_with fail
  refine (HP.out).mono ?_
  rintro e w2 ⟨rv, rfl, X2⟩
  obtain ⟨ao, cap, vs, rfl, z2, z3, hI0⟩ := (HI0.out) w2 rv X2.out
  have HI1 := hide hI0
  clear X2 hI0 HI0 HP av al af
  have hcap : es.length ≤ 9223372036854775807 := by unfold maxLen at z3; omega
  go_wp2_with fail
  go_loopw [59] (fun v wr => ∃ j : Nat, v = .int .i64 j ∧ j ≤ es.length ∧ Hid (InE w w0 L fs us lo hi f es ao vs bv sc w.heap.size j wr)) (fun v _ => es.length - (intOf v).toNat)
  case atStart => exact ⟨0, rfl, Nat.zero_le _, HI1⟩
  case round =>
    obtain ⟨j, rfl, hj, HI⟩ := hrel
    clear HI1
    by_cases hjl : j < es.length
    · obtain ⟨e, he⟩ : ∃ e, es[j]? = some e := ⟨es[j], List.getElem?_eq_getElem hjl⟩
      obtain ⟨g, cs, d, hao, y2, y3, y4⟩ := (HI.out).row j hjl
      subst hao
      have hi1 : (j : Int) < (es.length : Int) := by omega
      have t0 := cell_of_row wr _ 0 _ _ _ (HI.out).tl
      have t1 := cell_of_row wr _ 1 _ _ _ (HI.out).tl
      obtain ⟨M1, r1, m1, i1, x1⟩ := (HI.out).tld
      have HC := hide ((HE.out) j e he M1 _ wr (vs j) bv sc r1 m1 i1 ((HI.out).each j e he) (HI.out).bk (by
        have e2 := X.exUs_take f (X.topA fs f) sc es (j + 1)
        rw [X.exUs_snoc he, List.length_append] at e2
        rw [List.length_append]; omega))
      obtain ⟨yy, gg, hvs⟩ := ((HI.out).each j e he).iface
      rw [hvs] at y4 HC
      clear r1 m1 i1 x1 y3 hvs
      go_wp2_with fail
      refine (HC.out).mono ?_
      rintro en w3 ⟨rfl, X3⟩
      have HI3 := hide ((HI.out).step HV.out h0 he X3.out)
      clear HC X3 HI t0 t1 y4
      go_wp2_with fail
      exact ⟨⟨j + 1, by simp, by omega, HI3⟩, by simp [intOf]; omega⟩
    · obtain rfl : j = es.length := by omega
      have hd1 : ¬ (es.length : Int) < (es.length : Int) := by omega
      have HF : Hid (Tld w0 L fs (us ++ X.exUs f (X.topA fs f) sc es) w wr) := by
        have := (HI.out).tld
        rw [List.take_length] at this
        exact this
      clear HI
      go_wp2_with fail
      go_end0
      exact ⟨rfl, HF⟩
set_option maxRecDepth 100000 in
set_option maxHeartbeats 4000000 in
theorem texprList (f lo hi b : Nat) (es : List X.Ex) (sc : List (List X.Nm)) (bv : Value) (hv : Av L fs.length w0.heap.size lo hi) (hE : ∀ (j : Nat) (e : X.Ex), es[j]? = some e → TexOk w0 L fs lo hi f e) (hP : Calls Tryz.prog 223 #[.pointer (some ⟨b, 0, none⟩)] (w.alloc (.cells #[.pointer (some ⟨L.wb, 0, none⟩), .int .i64 f] 93)) fun e w' => ∃ rv, e = .returned rv ∧ Hid (Pts (w.alloc (.cells #[.pointer (some ⟨L.wb, 0, none⟩), .int .i64 f] 93)) w' lo hi rv es))
    (h : Run w0 L fs M us w) (hM : MOk fs M) (hId : Idle M) (hbk : IsBk w w0.heap.size bv sc) (hlim : us.length + (X.exUs f (X.topA fs f) sc es).length ≤ 1073741824) :
    Calls Tryz.prog 60 #[.agg #[.pointer (some ⟨L.wb, 0, none⟩), .int .i64 f], .iface 256 (.pointer (some ⟨b, 0, none⟩)), bv] w fun en w' => en = .returned (.tuple #[]) ∧ Hid (Tld w0 L fs (us ++ X.exUs f (X.topA fs f) sc es) w w') := by
  have av := asListV b
  have al := asListL b
  have af := asListF b
  have HP := hide hP
  have HE := hide hE
  have HV := hide hv
  have h0 := h.size
  have HI0 : Hid (∀ w2 rv, Pts (w.alloc (.cells #[.pointer (some ⟨L.wb, 0, none⟩), .int .i64 f] 93)) w2 lo hi rv es → ∃ ao cap vs, rv = .slice ao es.length cap ∧ es.length ≤ cap ∧ cap ≤ maxLen ∧ InE w w0 L fs us lo hi f es ao vs bv sc w.heap.size 0 w2) := fun w2 rv hp =>
    InE.start ((Below.refl _ w).alloc (Nat.le_refl _) _) (heap_alloc_new w _) hp (h.alloc _) hM hId (hbk.blw ((Below.refl _ w).alloc (Nat.le_refl _) _))
  clear hP hE hv h hM hId hbk
  go_enter Tryz.func60, Tryz.ntmps60
  go_wp2_with fail
  refine (HP.out).mono ?_
  rintro e w2 ⟨rv, rfl, X2⟩
  obtain ⟨ao, cap, vs, rfl, z2, z3, hI0⟩ := (HI0.out) w2 rv X2.out
  have HI1 := hide hI0
  clear X2 hI0 HI0 HP av al af
  have hcap : es.length ≤ 9223372036854775807 := by unfold maxLen at z3; omega
  go_wp2_with fail
  go_loopw [59] (fun v wr => ∃ j : Nat, v = .int .i64 j ∧ j ≤ es.length ∧ Hid (InE w w0 L fs us lo hi f es ao vs bv sc w.heap.size j wr)) (fun v _ => es.length - (intOf v).toNat)
  case atStart => exact ⟨0, rfl, Nat.zero_le _, HI1⟩
  case round =>
    obtain ⟨j, rfl, hj, HI⟩ := hrel
    clear HI1
    by_cases hjl : j < es.length
    · obtain ⟨e, he⟩ : ∃ e, es[j]? = some e := ⟨es[j], List.getElem?_eq_getElem hjl⟩
      obtain ⟨g, cs, d, hao, y2, y3, y4⟩ := (HI.out).row j hjl
      subst hao
      have hi1 : (j : Int) < (es.length : Int) := by omega
      have t0 := cell_of_row wr _ 0 _ _ _ (HI.out).tl
      have t1 := cell_of_row wr _ 1 _ _ _ (HI.out).tl
      obtain ⟨M1, r1, m1, i1, x1⟩ := (HI.out).tld
      have HC := hide ((HE.out) j e he M1 _ wr (vs j) bv sc r1 m1 i1 ((HI.out).each j e he) (HI.out).bk (by
        have e2 := X.exUs_take f (X.topA fs f) sc es (j + 1)
        rw [X.exUs_snoc he, List.length_append] at e2
        rw [List.length_append]; omega))
      obtain ⟨yy, gg, hvs⟩ := ((HI.out).each j e he).iface
      rw [hvs] at y4 HC
      clear r1 m1 i1 x1 y3 hvs
      go_wp2_with fail
      refine (HC.out).mono ?_
      rintro en w3 ⟨rfl, X3⟩
      have HI3 := hide ((HI.out).step HV.out h0 he X3.out)
      clear HC X3 HI t0 t1 y4
      go_wp2_with fail
      exact ⟨⟨j + 1, by simp, by omega, HI3⟩, by simp [intOf]; omega⟩
    · obtain rfl : j = es.length := by omega
      have hd1 : ¬ (es.length : Int) < (es.length : Int) := by omega
      have HF : Hid (Tld w0 L fs (us ++ X.exUs f (X.topA fs f) sc es) w wr) := by
        have := (HI.out).tld
        rw [List.take_length] at this
        exact this
      clear HI
      go_wp2_with fail
      go_end0
      exact ⟨rfl, HF⟩
set_option maxRecDepth 100000 in
set_option maxHeartbeats 4000000 in
theorem texprGroup (f lo hi b : Nat) (es : List X.Ex) (sc : List (List X.Nm)) (bv : Value) (hv : Av L fs.length w0.heap.size lo hi) (hE : ∀ (j : Nat) (e : X.Ex), es[j]? = some e → TexOk w0 L fs lo hi f e) (hP : Calls Tryz.prog 224 #[.pointer (some ⟨b, 0, none⟩)] (w.alloc (.cells #[.pointer (some ⟨L.wb, 0, none⟩), .int .i64 f] 93)) fun e w' => ∃ rv, e = .returned rv ∧ Hid (Pts (w.alloc (.cells #[.pointer (some ⟨L.wb, 0, none⟩), .int .i64 f] 93)) w' lo hi rv es))
    (h : Run w0 L fs M us w) (hM : MOk fs M) (hId : Idle M) (hbk : IsBk w w0.heap.size bv sc) (hlim : us.length + (X.exUs f (X.topA fs f) sc es).length ≤ 1073741824) :
    Calls Tryz.prog 60 #[.agg #[.pointer (some ⟨L.wb, 0, none⟩), .int .i64 f], .iface 259 (.pointer (some ⟨b, 0, none⟩)), bv] w fun en w' => en = .returned (.tuple #[]) ∧ Hid (Tld w0 L fs (us ++ X.exUs f (X.topA fs f) sc es) w w') := by
  have av := asGroupV b
  have al := asGroupL b
  have af := asGroupF b
  have HP := hide hP
  have HE := hide hE
  have HV := hide hv
  have h0 := h.size
  have HI0 : Hid (∀ w2 rv, Pts (w.alloc (.cells #[.pointer (some ⟨L.wb, 0, none⟩), .int .i64 f] 93)) w2 lo hi rv es → ∃ ao cap vs, rv = .slice ao es.length cap ∧ es.length ≤ cap ∧ cap ≤ maxLen ∧ InE w w0 L fs us lo hi f es ao vs bv sc w.heap.size 0 w2) := fun w2 rv hp =>
    InE.start ((Below.refl _ w).alloc (Nat.le_refl _) _) (heap_alloc_new w _) hp (h.alloc _) hM hId (hbk.blw ((Below.refl _ w).alloc (Nat.le_refl _) _))
  clear hP hE hv h hM hId hbk
  go_enter Tryz.func60, Tryz.ntmps60
  go_wp2_with fail
  refine (HP.out).mono ?_
  rintro e w2 ⟨rv, rfl, X2⟩
  obtain ⟨ao, cap, vs, rfl, z2, z3, hI0⟩ := (HI0.out) w2 rv X2.out
  have HI1 := hide hI0
  clear X2 hI0 HI0 HP av al af
  have hcap : es.length ≤ 9223372036854775807 := by unfold maxLen at z3; omega
  go_wp2_with fail
  go_loopw [59] (fun v wr => ∃ j : Nat, v = .int .i64 j ∧ j ≤ es.length ∧ Hid (InE w w0 L fs us lo hi f es ao vs bv sc w.heap.size j wr)) (fun v _ => es.length - (intOf v).toNat)
  case atStart => exact ⟨0, rfl, Nat.zero_le _, HI1⟩
  case round =>
    obtain ⟨j, rfl, hj, HI⟩ := hrel
    clear HI1
    by_cases hjl : j < es.length
    · obtain ⟨e, he⟩ : ∃ e, es[j]? = some e := ⟨es[j], List.getElem?_eq_getElem hjl⟩
      obtain ⟨g, cs, d, hao, y2, y3, y4⟩ := (HI.out).row j hjl
      subst hao
      have hi1 : (j : Int) < (es.length : Int) := by omega
      have t0 := cell_of_row wr _ 0 _ _ _ (HI.out).tl
      have t1 := cell_of_row wr _ 1 _ _ _ (HI.out).tl
      obtain ⟨M1, r1, m1, i1, x1⟩ := (HI.out).tld
      have HC := hide ((HE.out) j e he M1 _ wr (vs j) bv sc r1 m1 i1 ((HI.out).each j e he) (HI.out).bk (by
        have e2 := X.exUs_take f (X.topA fs f) sc es (j + 1)
        rw [X.exUs_snoc he, List.length_append] at e2
        rw [List.length_append]; omega))
      obtain ⟨yy, gg, hvs⟩ := ((HI.out).each j e he).iface
      rw [hvs] at y4 HC
      clear r1 m1 i1 x1 y3 hvs
      go_wp2_with fail
      refine (HC.out).mono ?_
      rintro en w3 ⟨rfl, X3⟩
      have HI3 := hide ((HI.out).step HV.out h0 he X3.out)
      clear HC X3 HI t0 t1 y4
      go_wp2_with fail
      exact ⟨⟨j + 1, by simp, by omega, HI3⟩, by simp [intOf]; omega⟩
    · obtain rfl : j = es.length := by omega
      have hd1 : ¬ (es.length : Int) < (es.length : Int) := by omega
      have HF : Hid (Tld w0 L fs (us ++ X.exUs f (X.topA fs f) sc es) w wr) := by
        have := (HI.out).tld
        rw [List.take_length] at this
        exact this
      clear HI
      go_wp2_with fail
      go_end0
      exact ⟨rfl, HF⟩
end Go.Proofs.YtdipmfdhnplpaaaGreatDoor
