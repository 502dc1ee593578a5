/- The program's reader of messages: values, with any number of levels left. -/
import Derived.Test.YthdbnafiindgbaaGreatDoorWpc
import Derived.Test.YthdbnafiindgbaaGreatDoorWpf
namespace Go.Proofs.YthdbnafiindgbaaGreatDoor
open Go.RowKit
open Wi

theorem olist1_any (d : Nat) (hV : VC d) : L1C d := by
  intro w0 sb K P s w kids l hs hl hn h
  cases hv : val d l with
  | bad e n => exact olist1_bad d hV w0 sb K P s w kids l hs hl h e n hv
  | ok j t => exact olist1_ok d hV w0 sb K P s w kids l hs hl hn h j t hv
theorem val_all : ∀ d, d ≤ 40 → VC d
  | 0, _ => oval_any 0 olist_full opairs_full
  | d + 1, h => by
    have ih := val_all d (by omega)
    exact oval_any (d + 1) (olist_any d h (olist1_any d ih) (stpL_sfx d)) (opairs_any d h ih)
end Go.Proofs.YthdbnafiindgbaaGreatDoor
