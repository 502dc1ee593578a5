/- What the law asks of Layout; a closed fact. -/
import Derived.Test.YtohpfegpnbdfnaaGreatDoorLr
import Derived.Shelf.Spec.SlicesGrow
import Derived.Test.YtohpfegpnbdfnaaGreatDoorXy
namespace Go.Proofs.YtohpfegpnbdfnaaGreatDoor
open M
namespace X
theorem lay0 : layOf [100, 101, 102, 32, 120, 61, 49, 59] = [100, 101, 102, 32, 120, 32, 61, 32, 49, 59, 10] := by kernel_rfl
theorem cln0 : clns (fileL (xt [100, 101, 102, 32, 120, 61, 49, 59])) = true := by kernel_rfl
end X
end Go.Proofs.YtohpfegpnbdfnaaGreatDoor
/- What the laws ask of Layout, and the closed fact that it lays out. -/
namespace Go.Proofs.YtohpfegpnbdfnaaGreatDoor
open Go.RowKit
open M
/-- What Layout is to do. -/
def LayC : Prop := ∀ (s : ByteArray) (w : World), Tabs w → s.size ≤ 1073741823 → (toks 0 (bs s)).length ≤ 134217728 → (X.clns (X.fileL (X.xt (bs s))) = true → (X.layOf (bs s)).length ≤ 1073741823) →
  Calls Tryz.prog 6 #[.string s] w fun e w' => (e = .returned (if X.clns (X.fileL (X.xt (bs s))) then .tuple #[.string (ba (X.layOf (bs s))), .nilIface] else .tuple #[.string ⟨#[]⟩, .iface 45 (.int .i64 3)])) ∧ Below w.heap.size w w'
theorem lives1_any (hL : LayC) (w : World) (hT : Tabs w) : Calls Tryz.prog 9 #[] w fun e w' => e = .returned (.bool true) ∧ Below w.heap.size w w' := by
  have h := hL ⟨#[100, 101, 102, 32, 120, 61, 49, 59]⟩ w hT (by decide) (Nat.le_trans (toks_few _) (by decide)) (fun _ => by
    have e : bs ⟨#[100, 101, 102, 32, 120, 61, 49, 59]⟩ = [100, 101, 102, 32, 120, 61, 49, 59] := rfl
    rw [e, X.lay0]; decide)
  have e : bs ⟨#[100, 101, 102, 32, 120, 61, 49, 59]⟩ = [100, 101, 102, 32, 120, 61, 49, 59] := rfl
  rw [e, X.lay0, X.cln0, if_pos rfl] at h
  have e2 : ba [100, 101, 102, 32, 120, 32, 61, 32, 49, 59, 10] = ⟨#[100, 101, 102, 32, 120, 32, 61, 32, 49, 59, 10]⟩ := rfl
  rw [e2] at h
  have HC := hide h
  clear h e e2 hT
  go_enter Tryz.func9, Tryz.ntmps9
  go_wp2_with fail
  refine (HC.out).mono ?_
  rintro e w1 ⟨rfl, k1⟩
  go_wp2_with fail
  go_ret
  exact ⟨rfl, k1⟩
end Go.Proofs.YtohpfegpnbdfnaaGreatDoor
