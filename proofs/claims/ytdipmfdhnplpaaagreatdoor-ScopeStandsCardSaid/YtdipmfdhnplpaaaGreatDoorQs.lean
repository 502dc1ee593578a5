/- Package scope: all names of a file. -/
import Derived.Test.YtdipmfdhnplpaaaGreatDoorQq
import Derived.Test.YtdipmfdhnplpaaaGreatDoorQp
namespace Go.Proofs.YtdipmfdhnplpaaaGreatDoor
open Go.RowKit
open M
namespace X
theorem itsU_app (fs : List Fl) (f : Nat) (r : List It) : ∀ (l : List It) (k : Nat), itsU fs f k (l ++ r) = itsU fs f k l ++ itsU fs f (k + l.length) r
  | [], k => by rw [List.nil_append, itsU, List.nil_append]; rfl
  | a :: l, k => by rw [List.cons_append, itsU, itsU, itsU_app fs f r l, List.append_assoc, List.length_cons, show k + 1 + l.length = k + (l.length + 1) by omega]
theorem itsU_snoc {fs : List Fl} {f : Nat} {l : List It} {j : Nat} {it : It} (h : l[j]? = some it) : itsU fs f 0 (l.take (j + 1)) = itsU fs f 0 (l.take j) ++ itU fs f j it := by
  have hj : j < l.length := by
    rcases Nat.lt_or_ge j l.length with g | g
    · exact g
    · rw [List.getElem?_eq_none g] at h; cases h
  rw [take_snoc h, itsU_app, itsU, itsU, List.append_nil, List.length_take, show 0 + min j l.length = j by omega]
theorem itsU_take (fs : List Fl) (f : Nat) (l : List It) (j : Nat) : (itsU fs f 0 (l.take j)).length ≤ (itsU fs f 0 l).length := by
  have := itsU_app fs f (l.drop j) (l.take j) 0
  rw [List.take_append_drop] at this
  rw [this, List.length_append]; omega
end X
theorem asrtUseD (b : Nat) (w : World) : (Instr.typeAssert (.iface 94 (.pointer (some ⟨b, 0, none⟩))) 88 97 true).run Tryz.prog w = .ok (.tuple #[.pointer none, .bool false]) w := by kernel_rfl
theorem asrtDefD (b : Nat) (w : World) : (Instr.typeAssert (.iface 97 (.pointer (some ⟨b, 0, none⟩))) 88 97 true).run Tryz.prog w = .ok (.tuple #[.pointer (some ⟨b, 0, none⟩), .bool true]) w := by kernel_rfl
/-- Where the items of a file are gone through. -/
structure InT (w w0 : World) (L : Lay) (fs : List X.Fl) (us : List X.U) (f Tb j : Nat) (wr : World) : Prop where
  tld : Tld w0 L fs (us ++ X.itsU fs f 0 ((X.itemsOf fs f).take j)) w wr
  tl : wr.heap[Tb]? = some (.cells #[.pointer (some ⟨L.wb, 0, none⟩), .int .i64 f] 93 (0, 0))
variable {w0 : World} {L : Lay} {fs : List X.Fl} {M : Mem} {us : List X.U} {w : World}
theorem InT.step {f Tb j : Nat} {wr w2 : World} (h : InT w w0 L fs us f Tb j wr) (h1 : w0.heap.size ≤ Tb) {it : X.It} (he : (X.itemsOf fs f)[j]? = some it) (ht : Tld w0 L fs ((us ++ X.itsU fs f 0 ((X.itemsOf fs f).take j)) ++ X.itU fs f j it) wr w2) : InT w w0 L fs us f Tb (j + 1) w2 := by
  obtain ⟨M2, r2, m2, i2, x2⟩ := ht
  obtain ⟨M1, r1, m1, i1, x1⟩ := h.tld
  exact ⟨⟨M2, by rw [X.itsU_snoc he, ← List.append_assoc]; exact r2, m2, i2, x1.trans x2⟩, x2.made r2.st.lt h.tl h1 (fun cs d e => by cases e)⟩
set_option maxRecDepth 100000 in
set_option maxHeartbeats 8000000 in
theorem ktell_any (f : Nat) (hf : f < fs.length) (h : Run w0 L fs M us w) (hM : MOk fs M) (hId : Idle M) (hlim : us.length + (X.itsU fs f 0 (X.itemsOf fs f)).length ≤ 1073741824) :
    Calls Tryz.prog 14 #[.pointer (some ⟨L.wb, 0, none⟩), .int .i64 f] w fun e w' => e = .returned (.tuple #[]) ∧ Hid (Tld w0 L fs (us ++ X.itsU fs f 0 (X.itemsOf fs f)) w w') := by
  have kA : Below w.heap.size w (w.alloc (.cells #[.pointer (some ⟨L.wb, 0, none⟩), .int .i64 f] 93)) := (Below.refl _ w).alloc (Nat.le_refl _) _
  have hA := h.below kA
  have h0 := h.size
  have hn16 := h.st.n
  have hIl := h.st.il f
  obtain ⟨nv, -, c1, -, -, -⟩ := hA.cells
  obtain ⟨fg, fcap, d1, d2, d3, d4⟩ := hA.files hf
  rw [d1] at c1
  obtain ⟨lo, hi, hits, hit2, hit3⟩ := h.st.its f hf
  obtain ⟨ao, cap, vs, e1, e2, e3, e4, e5⟩ := hits.ex
  have hff := hA.file hf
  rw [e1] at hff
  have g0 := cell_of_row _ _ 0 _ _ _ hff
  have hi1 : (f : Int) < (fs.length : Int) := by omega
  have hv : Av L fs.length w0.heap.size lo hi := ⟨hit2, hit3⟩
  have HI0 : Hid (InT w w0 L fs us f w.heap.size 0 (w.alloc (.cells #[.pointer (some ⟨L.wb, 0, none⟩), .int .i64 f] 93))) := ⟨⟨M, by rw [List.take_zero, X.itsU, List.append_nil]; exact hA, hM, hId, Kx.ofBelow kA⟩, heap_alloc_new w _⟩
  have HV := hide hv
  have H4 := hide e4
  have H5 := hide e5
  generalize hits2 : X.itemsOf fs f = its at *
  have HIT := hide hits2
  clear kA hA h hM hId hits hff d1 e1 e4 e5 hits2 hit2 hit3 hv
  go_enter Tryz.func14, Tryz.ntmps14
  go_wp2_with fail
  go_loopw [25] (fun v wr => ∃ j : Nat, v = .int .i64 j ∧ j ≤ its.length ∧ Hid (InT w w0 L fs us f w.heap.size j wr)) (fun v _ => its.length - (intOf v).toNat)
  case atStart => exact ⟨0, rfl, Nat.zero_le _, HI0⟩
  case round =>
    obtain ⟨j, rfl, hj, HI⟩ := hrel
    clear HI0
    by_cases hjl : j < its.length
    · obtain ⟨it, he⟩ : ∃ it, its[j]? = some it := ⟨its[j], List.getElem?_eq_getElem hjl⟩
      have he' : (X.itemsOf fs f)[j]? = some it := by rw [HIT.out]; exact he
      obtain ⟨g, hao, y1, y2, y3⟩ := (H4.out) j hjl
      subst hao
      have hi2 : (j : Int) < (its.length : Int) := by omega
      obtain ⟨M1, r1, m1, i1, x1⟩ := (HI.out).tld
      have y4 := r1.kp.cellv y3 ((HV.out).av g y1 y2)
      have t0 : wr.cell? ⟨w.heap.size, 0, none⟩ = some (.pointer (some ⟨L.wb, 0, none⟩)) := cell_of_row wr _ 0 _ _ _ (HI.out).tl
      have t1 : wr.cell? ⟨w.heap.size, 1, none⟩ = some (.int .i64 f) := cell_of_row wr _ 1 _ _ _ (HI.out).tl
      have hl2 : (us ++ X.itsU fs f 0 ((X.itemsOf fs f).take j)).length + (X.itU fs f j it).length ≤ 1073741824 := by
        have q1 := X.itsU_take fs f its (j + 1)
        rw [X.itsU_snoc he, List.length_append] at q1
        rw [List.length_append, HIT.out]; omega
      have hIs := (H5.out) j it he
      generalize vs j = vj at *
      cases hIs with
      | use ub pub gs m n a hb hub =>
        have HC := hide (tuse_any f j lo hi ub pub gs m n a he' HV.out hb hub r1 m1 i1 hl2)
        have q1 := asrtUse ub
        have q2 := asrtUseD ub
        clear r1 m1 i1 x1 y3 hub hl2
        go_wp2_with fail
        refine (HC.out).mono ?_
        rintro en w3 ⟨rfl, X3⟩
        have HI3 := hide ((HI.out).step h0 he' X3.out)
        clear HC X3 HI t0 t1 y4
        go_wp2_with fail
        exact ⟨⟨j + 1, by simp, by omega, HI3⟩, by simp [intOf]; omega⟩
      | dfn db pub n pv ps v e hb hd hp hE =>
        have HC := hide (tdef_any f j lo hi db pub n pv v ps e he' HV.out hb hd hp hE r1 m1 i1 hl2)
        have q1 := asrtDef db
        have q2 := asrtDefD db
        clear r1 m1 i1 x1 y3 hd hl2 hp hE
        go_wp2_with fail
        refine (HC.out).mono ?_
        rintro en w3 ⟨rfl, X3⟩
        have HI3 := hide ((HI.out).step h0 he' X3.out)
        clear HC X3 HI t0 t1 y4
        go_wp2_with fail
        exact ⟨⟨j + 1, by simp, by omega, HI3⟩, by simp [intOf]; omega⟩
    · obtain rfl : j = its.length := by omega
      have hd1 : ¬ (its.length : Int) < (its.length : Int) := by omega
      have HF : Hid (Tld w0 L fs (us ++ X.itsU fs f 0 its) w wr) := by
        have := (HI.out).tld
        rw [HIT.out, List.take_length] at this
        exact this
      clear HI
      go_wp2_with fail
      go_end0
      exact ⟨rfl, HF⟩
end Go.Proofs.YtdipmfdhnplpaaaGreatDoor
