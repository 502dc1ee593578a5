/- What the document's own function Rune answers, of any text. -/
import Derived.Test.YtgpfmnaglbbebaaDoorDb
import Derived.Test.YtgpfmnaglbbebaaDoorDc
namespace Go.Proofs.YtgpfmnaglbbebaaDoor
open Go.RowKit
open M

theorem getD_bs (s : ByteArray) (k : Nat) (h : k < s.size) : (bs s).getD k 0 = s[k]'h := by
  unfold bs
  rw [List.getD_eq_getElem?_getD, List.getElem?_eq_getElem (by simpa using h)]
  rfl

theorem refRune_any (s : ByteArray) (w : World) (h : 0 < s.size) :
    Calls Tryd.prog 50 #[.string s] w fun e w' => e = .returned (.tuple #[.int .i64 (ch (bs s)), .int .i64 (sz (bs s))]) ∧ w' = w := by
  have hl := bs_len s
  have hd : dec (bs s) = Lib.decodeN s.size ((bs s).getD 0 0).toNat ((bs s).getD 1 0).toNat ((bs s).getD 2 0).toNat ((bs s).getD 3 0).toNat := by
    unfold dec; rw [if_neg (by omega), hl]
  unfold ch sz
  rw [hd, getD_bs s 0 h]
  have hA := (s[0]'h).toNat_lt
  by_cases c1 : (s[0]'h).toNat < 128
  · exact rune_c1 s w h _ _ _ _ rfl (by omega)
  by_cases c2 : (s[0]'h).toNat < 194
  · exact rune_lo s w h _ _ _ _ rfl (by omega) (by omega)
  by_cases c3 : (s[0]'h).toNat ≤ 223
  · by_cases h2 : s.size < 2
    · exact rune_s2 s w h _ _ _ _ rfl (by omega) (by omega) h2
    · rw [getD_bs s 1 (by omega)]
      exact rune_l2 s w h _ _ _ rfl (by omega) (by omega) (by omega) _ rfl
  by_cases c4 : (s[0]'h).toNat ≤ 239
  · by_cases h2 : s.size < 3
    · exact rune_s3 s w h _ _ _ _ rfl (by omega) (by omega) h2
    · rw [getD_bs s 1 (by omega), getD_bs s 2 (by omega)]
      exact rune_l3 s w h _ _ rfl (by omega) (by omega) (by omega) _ _ rfl rfl
  by_cases c5 : (s[0]'h).toNat ≤ 244
  · by_cases h2 : s.size < 4
    · exact rune_s4 s w h _ _ _ _ rfl (by omega) (by omega) h2
    · rw [getD_bs s 1 (by omega), getD_bs s 2 (by omega), getD_bs s 3 (by omega)]
      exact rune_l4 s w h _ rfl (by omega) (by omega) (by omega) _ _ _ rfl rfl rfl
  · exact rune_hi s w h _ _ _ _ rfl (by omega)

end Go.Proofs.YtgpfmnaglbbebaaDoor
