/- The program's Print. -/
import Derived.Test.YtcibflndpckkkaaDoorWmk
namespace Go.Proofs.YtcibflndpckkkaaDoor
open Go.RowKit
open Wi

/-- What Print answers. -/
def prG (r : Except Nat (List UInt8)) : Value := match r with
  | .ok s => .tuple #[.string (ba s), .nilIface]
  | .error e => .tuple #[.string ⟨#[]⟩, erV e]
set_option maxRecDepth 100000 in
set_option maxHeartbeats 4000000 in
theorem printP_any (j : J) (va : Value) (w : World) (hT : Tb w) (hIA : IsA w va j) (hl : wt j ≤ 134217728) :
    Calls Tryd.prog 7 #[va] w fun e w' => e = .returned (prG (pr 40 j)) ∧ Below w.heap.size w w' := by
  obtain ⟨k, n, t, kv, rv, rfl, ⟨u1, u2, u3, rfl⟩, ⟨v1, v2, v3, rfl⟩⟩ := hIA.shape
  have HV := hide (pvalue_any w hT 40 (Nat.le_refl _))
  have HIA := hide hIA
  obtain ⟨R, hR⟩ : ∃ R, pr 40 j = R := ⟨_, rfl⟩
  rw [hR]
  have HR := hide hR
  clear hIA hT hR
  have k1 : Below w.heap.size w (w.alloc (.cells #[.int .i64 k, .int .i64 n, .string t, .slice u1 u2 u3, .slice v1 v2 v3] 25)) := (Below.refl _ w).alloc (Nat.le_refl _) _
  have hN := heap_alloc_new w (.cells #[.int .i64 k, .int .i64 n, .string t, .slice u1 u2 u3, .slice v1 v2 v3] 25)
  go_enter Tryd.func7, Tryd.ntmps7
  go_upto_region 1 with fail
  generalize w.alloc (.cells #[.int .i64 k, .int .i64 n, .string t, .slice u1 u2 u3, .slice v1 v2 v3] 25) = w1 at *
  generalize hC : w.heap.size = C at hN k1 ⊢
  rw [← hC] at k1
  have hg2 : Pb (w1.alloc (.cells #[.pointer none, .slice none 0 0] 57)) w1.heap.size [] (.pointer none) (.slice none 0 0) := ⟨heap_alloc_new w1 _, .inl rfl, World.ownsRow_nil _ _ _ _, fun _ => rfl⟩
  have k2 : Below w.heap.size w (w1.alloc (.cells #[.pointer none, .slice none 0 0] 57)) := k1.alloc k1.size _
  have q := Kp.ofBelow ((Below.refl _ w1).alloc (Nat.le_refl _) (.cells #[.pointer none, .slice none 0 0] 57)) (fun _ => False)
  have hN2 := q.heap hN id
  have a0 := cell_blk hN2 (j := 0) rfl
  have a1 := cell_blk hN2 (j := 1) rfl
  have a2 := cell_blk hN2 (j := 2) rfl
  have a3 := cell_blk hN2 (j := 3) rfl
  have a4 := cell_blk hN2 (j := 4) rfl
  have HB := hide k1.size
  have HG2 := hide hg2
  have HK2 := hide k2
  clear q hN2 hN k1 hg2 k2
  go_upto_region 2 with fail
  generalize w1.alloc (.cells #[.pointer none, .slice none 0 0] 57) = w2 at *
  have HB' : Hid (w.heap.size ≤ w1.heap.size) := HB.out
  clear HB
  generalize w1.heap.size = B at *
  have HC := hide ((HV.out) j _ B [] _ _ w2 HIA.out HK2.out HB'.out HG2.out (by simpa using hl))
  rw [show (40 : Int) - ((40 : Nat) : Int) = 0 by decide] at HC
  clear HV HIA
  go_wp2_with fail
  refine (HC.out).mono ?_
  rintro en w3 ⟨v, rfl, hv⟩
  clear HC a0 a1 a2 a3 a4
  have HBL : Hid (∀ W, Kp (fun q => q = B ∨ (Value.slice none 0 0).ownBlock = some q) w2 W → Below w.heap.size w W) := fun W hk => (HK2.out).trans (hk.below (HK2.out).size (fun q e => by
    rcases e with e | e
    · have := HB'.out; omega
    · cases e))
  rw [HR.out] at hv
  cases R with
  | error x =>
    obtain ⟨rfl, hk⟩ := hv
    have HK := hide ((HBL.out) _ hk)
    clear hk HBL HR
    go_wp2_with fail
    go_ret2
    exact ⟨rfl, HK.out⟩
  | ok s =>
    obtain ⟨rfl, p3, bv3, g3, a3, k3⟩ := hv
    have HST := hide (wstring_any prH B _ p3 bv3 w3 g3)
    have hbl3 := (HBL.out) _ k3
    have HF : Hid (∀ W, Kp (fun k => bv3.ownBlock = some k) w3 W → Below w.heap.size w W) := fun W hk => hbl3.trans (hk.below hbl3.size (fun q e => by
      rcases a3 q e with e | e
      · cases e
      · exact Nat.le_trans (HK2.out).size e))
    clear hbl3 g3 a3 k3 HBL HR
    go_wp2_with fail
    refine (HST.out).mono ?_
    rintro en w4 ⟨rfl, -, k4⟩
    have HK := hide ((HF.out) _ k4)
    clear k4 HF HST
    go_wp2_with fail
    go_ret2
    exact ⟨rfl, HK.out⟩
end Go.Proofs.YtcibflndpckkkaaDoor
