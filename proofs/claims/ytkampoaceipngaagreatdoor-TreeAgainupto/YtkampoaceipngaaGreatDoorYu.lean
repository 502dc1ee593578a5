/- The document's count of a node's leaves. -/
import Derived.Test.YtkampoaceipngaaGreatDoorYt
import Derived.Test.YtkampoaceipngaaGreatDoorYl
import Derived.Test.YtkampoaceipngaaGreatDoorZo
namespace Go.Proofs.YtkampoaceipngaaGreatDoor
open Go.RowKit
open M
/-- What the document's leaves does of a part. -/
def LeavesOk (p : X.Part) : Prop := ∀ (lo hi : Nat) (b : Value) (i : Int) (w : World), IsM w lo hi b (X.put p i) →
  Calls Tryz.prog 38 #[b] w fun e w' => e = .returned (.int .i64 (X.pl p).length) ∧ Below w.heap.size w w'
set_option maxRecDepth 100000 in
set_option maxHeartbeats 2000000 in
theorem leaves_node (k t : Nat) (hk0 : k ≠ 0) (x : List UInt8) (ao2 : Option Addr) (ps : List X.Part) (cap2 N : Nat) (vs : Nat → Value) (at0 en fr tt : Int) (la : Bool) (w : World) (hn : ps.length ≤ 1073741824) (hpl : (X.pls ps).length ≤ 1073741824) (hnd : Nd w N k t x (.slice ao2 ps.length cap2) at0 en fr tt la)
    (hB : ∀ j, j < ps.length → ∃ g, ao2 = some ⟨g, 0, none⟩ ∧ w.cell? ⟨g, j, none⟩ = some (vs j))
    (hCall : ∀ (j : Nat) (hj : j < ps.length), ∀ W, Below w.heap.size w W → Calls Tryz.prog 38 #[vs j] W fun e w' => e = .returned (.int .i64 (X.pl ps[j]).length) ∧ Below W.heap.size W w') :
    Calls Tryz.prog 38 #[.pointer (some ⟨N, 0, none⟩)] w fun e w' => e = .returned (.int .i64 (X.pls ps).length) ∧ Below w.heap.size w w' := by
  have HB := hide hB
  have HCall := hide hCall
  have HND := hide hnd
  clear hB hCall hnd
  obtain ⟨⟨m0, m1, m2, m3, -⟩, -⟩ := Nd.facts HND.out
  have i1 : ((k : Int) == 0) = false := by simp; omega
  go_enter Tryz.func38, Tryz.ntmps38
  go_wp2_with fail
  go_loopw [3, 4] (fun cv v wr => ∃ j : Nat, cv = .int .i64 (tkn ps j) ∧ v = .int .i64 j ∧ j ≤ ps.length ∧ Hid (Below w.heap.size w wr)) (fun _ v _ => ps.length - (intOf v).toNat)
  case atStart => exact ⟨0, rfl, rfl, Nat.zero_le _, Below.refl _ _⟩
  case round =>
    obtain ⟨j, rfl, rfl, hj, HB2⟩ := hrel
    clear m0 m1 m2 m3 i1
    obtain ⟨⟨m0, m1, m2, m3, -⟩, -⟩ := Nd.facts ((Kp.ofBelow HB2.out (fun _ => False)).heap HND.out id)
    by_cases hlt : j < ps.length
    case neg =>
      have i5 : decide (j < ps.length) = false := by simp; omega
      have i6 : decide ((j : Int) < (ps.length : Int)) = false := by simp; omega
      have e0 : tkn ps j = (X.pls ps).length := by unfold tkn; rw [List.take_of_length_le (by omega)]
      have E0 := hide e0
      clear e0
      go_wp2_with fail
      go_ret
      exact ⟨by rw [← E0.out]; rfl, HB2.out⟩
    have i5 : decide (j < ps.length) = true := by simp; omega
    have i6 : decide ((j : Int) < (ps.length : Int)) = true := by simp; omega
    obtain ⟨gB, rfl, q4⟩ := (HB.out) j hlt
    have p4 := (Kp.ofBelow HB2.out (fun _ => False)).cellv q4 id
    have hi1 : (0 : Int) ≤ (j : Int) := Int.natCast_nonneg _
    have hi2 : (j : Int) < (ps.length : Int) := by omega
    have HC := hide ((HCall.out) j hlt wr HB2.out)
    have hts := tkn_succ hlt
    have htl : tkn ps (j + 1) ≤ 1073741824 := by
      have := X.pls_take_drop ps (j + 1)
      unfold tkn; omega
    generalize (X.pl ps[j]).length = n at *
    have HTs := hide hts
    have htb : tkn ps j + n ≤ 1073741824 := by omega
    clear q4 hts
    go_wp2_with fail
    refine (HC.out).mono ?_
    rintro e w5 ⟨rfl, k5⟩
    have HK5 : Hid (Below w.heap.size w w5) := (HB2.out).trans (k5.mono (HB2.out).size)
    clear k5 HC p4 m0 m1 m2 m3
    generalize ht1 : tkn ps j = t1 at *
    go_wp2_with fail
    exact ⟨⟨j + 1, by rw [HTs.out]; go_num, by go_num, by omega, HK5⟩, by simp only [intOf]; omega⟩
set_option maxRecDepth 100000 in
set_option maxHeartbeats 400000 in
theorem leaves_leaf (t : Nat) (x : List UInt8) (rv : Value) (N : Nat) (at0 en fr tt : Int) (la : Bool) (w : World) (hnd : Nd w N 0 t x rv at0 en fr tt la) :
    Calls Tryz.prog 38 #[.pointer (some ⟨N, 0, none⟩)] w fun e w' => e = .returned (.int .i64 1) ∧ Below w.heap.size w w' := by
  obtain ⟨⟨m0, m1, m2, m3, -⟩, -⟩ := Nd.facts hnd
  clear hnd
  go_enter Tryz.func38, Tryz.ntmps38
  go_wp2_with fail
  go_ret
  exact ⟨rfl, Below.refl _ _⟩
theorem rleaves_any : ∀ (n : Nat) (p : X.Part), X.psz p ≤ n → X.psz p ≤ 1073741824 → (X.pl p).length ≤ 1073741824 → X.kok p → LeavesOk p := by
  intro n
  induction n with
  | zero => intro p h; have := X.psz_pos p; omega
  | succ n ih =>
    intro p hn hb hl hko lo hi b i w h2
    cases p with
    | leaf k x =>
      rw [X.put] at h2
      cases h2 with
      | mk _ _ N _ _ _ qs at0 en fr tt la ao cap vs L H hN hbk hc hr hs hp =>
        exact leaves_leaf k x _ N _ _ _ _ _ w hbk
    | miss m =>
      rw [X.put] at h2
      cases h2 with
      | mk _ _ N _ _ _ qs at0 en fr tt la ao cap vs L H hN hbk hc hr hs hp =>
        exact leaves_node 1 0 (by decide) m ao [] cap N vs _ _ _ _ _ w (by simp) (by simp [X.pls]) hbk (fun j hj => by simp at hj) (fun j hj => by simp at hj)
    | br k ps =>
      rw [X.put] at h2
      rw [X.kok] at hko
      cases h2 with
      | mk _ _ N _ _ _ qs at0 en fr tt la ao2 cap2 vs L H hN hbk hc2 hr2 hs2 hp2 =>
        rw [X.puts_len] at hbk hr2
        rw [X.psz] at hn hb
        have hpl := X.pssz_len ps
        refine leaves_node k 0 hko.1 [] ao2 ps cap2 N vs _ _ _ _ _ w (by omega) hl hbk (fun j hj => ?_) (fun j hj W hW => ?_)
        · obtain ⟨g, e1, -, -, -, -, e2⟩ := hr2 j hj
          exact ⟨g, e1, e2⟩
        · have hpj : ps[j]? = some ps[j] := List.getElem?_eq_getElem hj
          obtain ⟨i', hi'⟩ := X.puts_get ps i (-1) (-1) (k == 1) j _ hpj
          have := X.pssz_mem ps j _ hpj
          have hk := Kp.ofBelow hW (fun _ => False)
          have hle : (X.pl ps[j]).length ≤ 1073741824 := by
            have h1 := pls_drop hj
            have h2 := pls_drop_le ps j
            have h3 : (X.pls ps).length ≤ 1073741824 := hl
            omega
          exact ih ps[j] (by omega) (by omega) hle (X.koks_mem ps j _ hko.2 hpj) (L j) (H j) _ i' W ((hp2 j _ hi').keep hk (fun _ _ _ => id))
end Go.Proofs.YtkampoaceipngaaGreatDoor
