/- Plain mathematics: the leaves that the document hands on; flat texts of these. -/
import Derived.Test.YtohpfegpnbdfnaaGreatDoorLr
import Derived.Test.YtohpfegpnbdfnaaGreatDoorXz
import Derived.Test.YtohpfegpnbdfnaaGreatDoorTa
import Derived.Deep.RegionHeld3
import Derived.Test.YtohpfegpnbdfnaaGreatDoorAa
import Derived.Test.YtohpfegpnbdfnaaGreatDoorLz
namespace Go.Proofs.YtohpfegpnbdfnaaGreatDoor
open M
/-- A leaf as the document hands it on: its text, and whether it begins a group. -/
abbrev LfD := List UInt8 × Bool
namespace X
/-- The tokens that are (b: or are not) remarks, spaces aside. -/
def wantK (b : Bool) (t : Tok) : Bool := !(t.1 == 1) && ((t.1 == 2) == b)
def picks (b : Bool) (ts : List Tok) : List (List UInt8) := (ts.filter (wantK b)).map (·.2)
theorem picks_append (b : Bool) (l r : List Tok) : picks b (l ++ r) = picks b l ++ picks b r := by unfold picks; rw [List.filter_append, List.map_append]
end X
namespace X
mutual
/-- The leaves that are (r: or are not) remarks, spaces aside. -/
def lds (r g : Bool) : Part → List LfD
  | .leaf k x => if wantK r (k, x) then [(x, g && x == [40])] else []
  | .miss _ => []
  | .br k ps => ldss r (k == 14) ps
def ldss (r g : Bool) : List Part → List LfD
  | [] => []
  | p :: ps => lds r g p ++ ldss r g ps
end
theorem ldss_append (r g : Bool) (l m : List Part) : ldss r g (l ++ m) = ldss r g l ++ ldss r g m := by
  induction l with
  | nil => rfl
  | cons p l ih => rw [List.cons_append, ldss, ih, ldss, List.append_assoc]
theorem ldss_take (r g : Bool) {ps : List Part} {j : Nat} {p : Part} (h : ps[j]? = some p) : ldss r g (ps.take (j + 1)) = ldss r g (ps.take j) ++ lds r g p := by
  rw [List.take_add_one, h, Option.toList_some, ldss_append, ldss, ldss, List.append_nil]
mutual
theorem lds_len (r g : Bool) : ∀ p : Part, (lds r g p).length ≤ psz p
  | .leaf k x => by rw [lds, psz]; split <;> simp
  | .miss m => by rw [lds]; simp
  | .br k ps => by
    have := ldss_len r (k == 14) ps
    rw [lds, psz]; omega
theorem ldss_len (r g : Bool) : ∀ ps : List Part, (ldss r g ps).length ≤ pssz ps
  | [] => by rw [ldss]; simp
  | p :: ps => by
    have := lds_len r g p
    have := ldss_len r g ps
    rw [ldss, pssz, List.length_append]; omega
end
theorem ldss_mem (r g : Bool) {ps : List Part} {j : Nat} {p : Part} (h : ps[j]? = some p) : (ldss r g (ps.take j)).length + (lds r g p).length ≤ (ldss r g ps).length := by
  have e : ldss r g ps = ldss r g (ps.take (j + 1)) ++ ldss r g (ps.drop (j + 1)) := by rw [← ldss_append, List.take_append_drop]
  rw [e, ldss_take r g h, List.length_append, List.length_append]; omega
end X
namespace X
/-- Two that have no blank between them. -/
def tgt (b a : LfD) : Bool := b.1 == [40] || b.1 == [91] || b.1 == [46] || a.1 == [46] || a.1 == [41] || a.1 == [93] || a.1 == [44] || a.1 == [59] || (a.1 == [40] && !a.2)
/-- Leaves in one line. -/
def flD : List LfD → List UInt8
  | [] => []
  | [a] => a.1
  | b :: a :: l => b.1 ++ ((if tgt b a then [] else [32]) ++ flD (a :: l))
def thin (l : Lf) : LfD := (l.1.2, l.2)
theorem flt_thin : ∀ l : List Lf, flt l = flD (l.map thin)
  | [] => rfl
  | [a] => rfl
  | b :: a :: l => by
    have ih := flt_thin (a :: l)
    rw [List.map_cons, List.map_cons, flt, flD, ih]
    rfl
theorem want_lou (k : Nat) (x : List UInt8) : wantK false (k, x) = !(k == 1 || k == 2) := by
  unfold wantK
  cases k == 1 <;> cases k == 2 <;> rfl
mutual
theorem fl_thin (g : Bool) : ∀ p : Part, (fl g p).map thin = lds false g p
  | .leaf k x => by
    rw [fl, lds, want_lou]
    by_cases h : k = 1 ∨ k = 2
    · rw [if_pos h, if_neg (by simp; omega)]; rfl
    · rw [if_neg h, if_pos (by simp; omega)]; rfl
  | .miss m => by rw [fl, lds]; rfl
  | .br k ps => by rw [fl, lds]; exact fls_thin (k == 14) ps
theorem fls_thin (g : Bool) : ∀ ps : List Part, (fls g ps).map thin = ldss false g ps
  | [] => rfl
  | p :: ps => by rw [fls, ldss, List.map_append, fl_thin g p, fls_thin g ps]
end
theorem flat_ldss (ps : List Part) : flat ps = flD (ldss false false ps) := by unfold flat; rw [flt_thin, fls_thin]
/-- One more leaf. -/
theorem flD_snoc : ∀ (l : List LfD) (b a : LfD), flD (l ++ [b] ++ [a]) = flD (l ++ [b]) ++ ((if tgt b a then [] else [32]) ++ a.1)
  | [], b, a => by simp [flD]
  | [c], b, a => by simp [flD]
  | c :: d :: l, b, a => by
    have ih := flD_snoc (d :: l) b a
    have e1 : (c :: d :: l) ++ [b] ++ [a] = c :: d :: (l ++ [b] ++ [a]) := by simp
    have e2 : (c :: d :: l) ++ [b] = c :: d :: (l ++ [b]) := by simp
    have e3 : (d :: l) ++ [b] ++ [a] = d :: (l ++ [b] ++ [a]) := by simp
    have e4 : (d :: l) ++ [b] = d :: (l ++ [b]) := by simp
    rw [e3, e4] at ih
    rw [e1, e2, flD, flD, ih]
    simp
theorem flD_take {L : List LfD} {j : Nat} {b a : LfD} (hb : L[j]? = some b) (ha : L[j + 1]? = some a) : flD (L.take (j + 2)) = flD (L.take (j + 1)) ++ ((if tgt b a then [] else [32]) ++ a.1) := by
  have e1 : L.take (j + 2) = L.take j ++ [b] ++ [a] := by
    rw [show j + 2 = (j + 1) + 1 from rfl, List.take_add_one, List.take_add_one, hb, ha]; rfl
  have e2 : L.take (j + 1) = L.take j ++ [b] := by rw [List.take_add_one, hb]; rfl
  rw [e1, e2, flD_snoc]
theorem flD_one {L : List LfD} {a : LfD} (ha : L[0]? = some a) : flD (L.take 1) = a.1 := by
  cases L with
  | nil => cases ha
  | cons c L =>
    have : c = a := by simpa using ha
    subst this
    rfl
end X
end Go.Proofs.YtohpfegpnbdfnaaGreatDoor
/- The law's tokens of a text: those that are, or are not, remarks; rows of texts that are the same. -/

namespace Go.Proofs.YtohpfegpnbdfnaaGreatDoor
open Go.RowKit
open M
def sv (x : List UInt8) : Value := .string (ba x)
set_option maxRecDepth 100000 in
set_option maxHeartbeats 4000000 in
theorem texts_same (xs : List (List UInt8)) (v1 v2 : Value) (w : World) (h1 : IsV w v1 (xs.map sv)) (h2 : IsV w v2 (xs.map sv)) (hl : xs.length ≤ 1073741824) :
    Calls Tryz.prog 11 #[v1, v2] w fun e w' => e = .returned (.bool true) ∧ Below w.heap.size w w' := by
  have H1 := hide h1
  have H2 := hide h2
  obtain ⟨ao, cap, rfl, hc, hcm, -⟩ := h1
  obtain ⟨ao', cap', rfl, hc', hcm', -⟩ := h2
  have hlm : (xs.map sv).length = xs.length := List.length_map ..
  rw [hlm] at hc hc'
  have HG : Hid (∀ (W : World) (k : Nat), Below w.heap.size w W → k < xs.length → ∃ g g' x, ao = some ⟨g, 0, none⟩ ∧ ao' = some ⟨g', 0, none⟩ ∧ W.cell? ⟨g, k, none⟩ = some (.string x) ∧ W.cell? ⟨g', k, none⟩ = some (.string x)) := fun W k hB hk => by
    obtain ⟨g, e1, c1⟩ := (H1.out).get hB rfl (by rw [hlm]; exact hk)
    obtain ⟨g', e2, c2⟩ := (H2.out).get hB rfl (by rw [hlm]; exact hk)
    rw [List.getElem_map] at c1 c2
    exact ⟨g, g', _, e1, e2, c1, c2⟩
  rw [hlm]
  clear H1 H2
  go_enter Tryz.func11, Tryz.ntmps11
  go_wp2_with fail
  go_loopw [5] (fun i wr => ∃ k : Nat, k ≤ xs.length ∧ i = .int .i64 k ∧ Below w.heap.size w wr) (fun i _ => xs.length - (intOf i).toNat)
  case atStart => exact ⟨0, Nat.zero_le _, rfl, Below.refl _ _⟩
  case round =>
    obtain ⟨k, hkl, rfl, hB⟩ := hrel
    by_cases hlt : k < xs.length
    · obtain ⟨g, g', x, rfl, rfl, q1, q2⟩ := (HG.out) wr k hB hlt
      have hi2 : (k : Int) < (xs.length : Int) := by omega
      go_wp2_with fail
      go_quiet (fail)
      go_wp2_with fail
      go_roundw
      case rel => exact ⟨k + 1, by omega, by go_num, belowN hB _⟩
      case measure => simp [intOf]; omega
    · go_wp2_with fail
      go_ret
      exact ⟨rfl, hB⟩
end Go.Proofs.YtohpfegpnbdfnaaGreatDoor
/- The law's tokens of a text. -/
namespace Go.Proofs.YtohpfegpnbdfnaaGreatDoor
open Go.RowKit
open M
theorem infoSt : (Tryz.prog.info? 9).map (fun i => (i.zero, i.size, i.bytes)) = some (some (.string ⟨#[]⟩), 1, 16) := by kernel_rfl
/-- The loop over the tokens. -/
structure InTx (w1 : World) (xs : List (List UInt8)) (rvj : Value) (wr : World) : Prop where
  row : wr.ownsRow w1.heap.size 9 1 rvj xs.length (xs.map sv)
  bel : Below w1.heap.size w1 wr
theorem picks_take (b : Bool) {ts : List X.Tok} {j : Nat} {t : X.Tok} (h : ts[j]? = some t) : X.picks b (ts.take (j + 1)) = X.picks b (ts.take j) ++ (if X.wantK b t then [t.2] else []) := by
  rw [List.take_add_one, h, Option.toList_some, X.picks_append]
  congr 1
  unfold X.picks
  cases hw : X.wantK b t with
  | true => rw [List.filter_cons_of_pos hw, if_pos rfl]; rfl
  | false => rw [List.filter_cons_of_neg (by simp [hw]), if_neg (by simp)]; rfl
theorem X.picks_len (b : Bool) (ts : List X.Tok) : (X.picks b ts).length ≤ ts.length := by unfold X.picks; rw [List.length_map]; exact List.length_filter_le _ _
theorem IsT.lt {w : World} {g o n cap : Nat} {L : List Tk} (h : IsT w (.slice (some ⟨g, o, none⟩) n cap) L) {j : Nat} (hj : j < L.length) : g < w.heap.size := by
  obtain ⟨b, o', t, e, ht, c1, -⟩ := h.get (Below.refl _ w) hj
  injection e with e
  injection e with e1 e2 e3
  subst e1
  rcases Nat.lt_or_ge g w.heap.size with h | h
  · exact h
  · exfalso
    unfold World.cell? at c1
    simp [Array.getElem?_eq_none h] at c1
theorem under' {w wr : World} {base b o : Nat} {v : Value} (hb : b < base) (hk : Below base w wr) (hc : w.cell? ⟨b, o, none⟩ = some v) : wr.cell? ⟨b, o, none⟩ = some v := (Kp.ofBelowB hk (S := fun q => base ≤ q) (fun _ h _ => h)).cellv hc (fun (e : base ≤ b) => by omega)
set_option maxRecDepth 100000 in
set_option maxHeartbeats 4000000 in
theorem l6tokens_any (s : ByteArray) (b : Bool) (w : World) (hT : Tabs w) (hs : s.size ≤ 1073741823) :
    Calls Tryz.prog 10 #[.string s, .bool b] w fun e w' => ∃ rv, e = .returned rv ∧ Hid (w'.ownsRow w.heap.size 9 1 rv (X.picks b (X.xt (bs s))).length ((X.picks b (X.xt (bs s))).map sv) ∧ Below w.heap.size w w') := by
  obtain ⟨i0, hi0, hz0, hz1, hz2⟩ := info_parts infoSt
  have hll : (toks 0 (bs s)).length ≤ s.size := by
    have := toks_len _ 0 (bs s) (Nat.le_refl _)
    rw [bs_len] at this
    exact this
  have HC := hide (tokens_any s w hT (by omega))
  clear hT
  go_enter Tryz.func10, Tryz.ntmps10
  go_wp2_with fail
  refine (HC.out).mono ?_
  rintro e w1 ⟨v, rfl, hown, k1⟩
  have z1 := k1.size
  have K1 := hide k1
  have HT := hide (IsT.ofOwns hown)
  clear hown k1 HC
  obtain ⟨ao, cap, rfl, hc, hcm, -⟩ := HT.out
  have HI0 : Hid (InTx w1 (X.picks b ((X.xt (bs s)).take 0)) (.slice none 0 0) w1) := ⟨World.ownsRow_nil _ _ _ _, Below.refl _ _⟩
  go_wp2_with fail
  go_loopw [6, 7] (fun a i wr => ∃ (j : Nat) (rvj : Value), a = rvj ∧ i = .int .i64 j ∧ j ≤ (toks 0 (bs s)).length ∧ Hid (InTx w1 (X.picks b ((X.xt (bs s)).take j)) rvj wr)) (fun _ i _ => (toks 0 (bs s)).length - (intOf i).toNat)
  case atStart => exact ⟨0, _, rfl, rfl, Nat.zero_le _, HI0⟩
  case round =>
    clear HI0
    obtain ⟨j, rvj, rfl, rfl, hj, HI⟩ := hrel
    by_cases hlt : j < (toks 0 (bs s)).length
    case neg =>
      obtain rfl : j = (toks 0 (bs s)).length := by omega
      have HF : Hid (wr.ownsRow w.heap.size 9 1 u6 (X.picks b (X.xt (bs s))).length ((X.picks b (X.xt (bs s))).map sv) ∧ Below w.heap.size w wr) := by
        have e1 : (X.xt (bs s)).take (toks 0 (bs s)).length = X.xt (bs s) := List.take_of_length_le (by unfold X.xt; rw [List.length_map]; exact Nat.le_refl _)
        have h := (HI.out).row
        rw [e1] at h
        exact ⟨owns_base h z1, (K1.out).trans ((HI.out).bel.mono z1)⟩
      go_wp2_with fail
      go_ret
      exact ⟨_, rfl, HF⟩
    obtain ⟨g, o, t, rfl, ht, q1, q2, q3⟩ := (HT.out).get (HI.out).bel hlt
    have hi2 : (j : Int) < ((toks 0 (bs s)).length : Int) := by omega
    have hm := List.mem_of_getElem? ht
    have hge := toks_ge _ 0 (bs s) (Nat.le_refl _) t hm
    rw [bs_len] at hge
    have hx : (X.xt (bs s))[j]? = some (X.tkx (bs s) t) := by unfold X.xt; rw [List.getElem?_map, ht]; rfl
    have hst := picks_take b hx
    have HST := hide hst
    clear hst hx hm ht
    cases k1 : ((t.kind : Int) != 1) with
    | false =>
      have hw : X.wantK b (X.tkx (bs s) t) = false := by
        have : t.kind = 1 := by have : (t.kind : Int) = 1 := by simpa using k1
                                omega
        unfold X.wantK X.tkx; simp [this]
      have HN : Hid (InTx w1 (X.picks b ((X.xt (bs s)).take (j + 1))) u6 wr) := by rw [HST.out, hw, if_neg (by simp), List.append_nil]; exact HI.out
      go_wp2_with fail
      exact ⟨⟨j + 1, _, rfl, by go_num, by omega, HN⟩, by simp only [intOf]; omega⟩
    | true =>
      have n1 : t.kind ≠ 1 := fun e => by rw [e] at k1; simp at k1
      cases k2 : (((t.kind : Int) == 2) == b) with
      | false =>
        have hw : X.wantK b (X.tkx (bs s) t) = false := by
          have e : ((X.tkx (bs s) t).1 == 2) = ((t.kind : Int) == 2) := by
            show (t.kind == 2) = _
            by_cases h2 : t.kind = 2
            · rw [h2]; rfl
            · have h3 : ¬ ((t.kind : Int) = 2) := by omega
              rw [beq_false_of_ne h2, beq_false_of_ne h3]
          unfold X.wantK
          rw [e, k2, Bool.and_false]
        have HN : Hid (InTx w1 (X.picks b ((X.xt (bs s)).take (j + 1))) u6 wr) := by rw [HST.out, hw, if_neg (by simp), List.append_nil]; exact HI.out
        go_wp2_with fail
        exact ⟨⟨j + 1, _, rfl, by go_num, by omega, HN⟩, by simp only [intOf]; omega⟩
      | true =>
        have hw : X.wantK b (X.tkx (bs s) t) = true := by
          have e : ((X.tkx (bs s) t).1 == 2) = ((t.kind : Int) == 2) := by
            show (t.kind == 2) = _
            by_cases h2 : t.kind = 2
            · rw [h2]; rfl
            · have h3 : ¬ ((t.kind : Int) = 2) := by omega
              rw [beq_false_of_ne h2, beq_false_of_ne h3]
          unfold X.wantK
          rw [e, k2, Bool.and_true]
          show (!(t.kind == 1)) = true
          rw [beq_false_of_ne n1]; rfl
        have hlen := X.picks_len b ((X.xt (bs s)).take j)
        rw [List.length_take] at hlen
        have HO := hide (HI.out).row
        have HBL := hide (HI.out).bel
        have hBz := (HI.out).bel.size
        generalize hP : X.picks b ((X.xt (bs s)).take j) = P at *
        have hgl : g < w1.heap.size := (HT.out).lt hlt
        have i1 : (t.pos : Int) ≤ (t.pos : Int) + (t.len : Int) := by omega
        have i2 : (t.pos : Int) + (t.len : Int) ≤ (s.size : Int) := by omega
        have i0' : (0 : Int) ≤ (t.pos : Int) := Int.natCast_nonneg _
        have i3 : IntKind.i64.wrap ((t.pos : Int) + (t.len : Int)) = (t.pos : Int) + (t.len : Int) := by rw [IntKind.wrap_i64]; omega
        have HG := hide (owns_ge HO.out)
        clear HI
        go_wp2_with fail
        go_region_held3 (fun w' => w'.cell? ⟨g, o + j * 3 + 1, none⟩ = some (.int .i64 t.pos) ∧ w'.cell? ⟨g, o + j * 3 + 2, none⟩ = some (.int .i64 t.len))
          (first | (with_reducible exact ⟨y0, y1⟩) | go_keep)
          ((refine step_append_lies _ (by rfl) _ _ _ (by rfl) w1.heap.size 9 i0 _ 1 16 Tryz.underlying31 hi0 hz0 hz1 hz2 rfl (by omega) u6 P.length _ (by rfl) (((HO.out).alloc _).drew) ⟨wr.heap.size, 0, none⟩ 1 1 [.string (s.extract t.pos ((t.pos : Int) + (t.len : Int)).toNat)] (by rfl) (by rfl) (World.news_of_block (cs := #[.string (s.extract t.pos ((t.pos : Int) + (t.len : Int)).toNat)]) (t := 9) (fr := (0, 0)) (heap_alloc_new wr _)) (by simp [Value.oneCell']) (by omega) (by unfold maxLen; omega) (by omega) (by simp; omega) (wr.heap.size + 1) (by simp) ?_; intro g0 cap5 w5 hown5 hgrow5 hat5 hlt5; have HO5 := hide hown5; have HB5 : Hid (Below w1.heap.size wr w5) := (((Below.refl _ wr).alloc hBz _).drew).grown hgrow5 (by simp; omega) (fun q hq => ((HG.out) q hq).1); have y0 := under' hgl HB5.out q2; have y1 := under' hgl HB5.out q3; clear hown5 hgrow5))
        have HN : Hid (InTx w1 (X.picks b ((X.xt (bs s)).take (j + 1))) (.slice (some ⟨g0, 0, none⟩) (P.length + 1) cap5) w5) := by
          have hx : s.extract t.pos ((t.pos : Int) + (t.len : Int)).toNat = ba (((bs s).drop t.pos).take t.len) := by
            apply bs_inj
            rw [bs_ba, bs_cut, List.drop_take]
            congr 1
            omega
          refine ⟨?_, (HBL.out).trans (HB5.out)⟩
          rw [HST.out, hw, if_pos rfl, List.length_append, List.map_append]
          have h := HO5.out
          rw [hx] at h
          exact h
        clear HO5 HB5 y0 y1
        go_wp2_with fail
        exact ⟨⟨j + 1, _, rfl, by go_num, by omega, HN⟩, by simp only [intOf]; omega⟩
end Go.Proofs.YtohpfegpnbdfnaaGreatDoor
/- The law LayAgain, of a Layout that lays out. -/
namespace Go.Proofs.YtohpfegpnbdfnaaGreatDoor
open Go.RowKit
open M
namespace X
theorem picks_lou (ts : List Tok) : picks false ts = (ts.filter lou).map (·.2) := by
  unfold picks
  congr 1
  congr 1
  funext t
  unfold wantK lou
  cases h1 : t.1 == 1 <;> cases h2 : t.1 == 2 <;> simp
theorem picks_rmk (ts : List Tok) : picks true ts = (ts.filter rmk).map (·.2) := by
  unfold picks
  congr 1
  congr 1
  funext t
  unfold wantK rmk
  cases h2 : t.1 == 2 with
  | true =>
    have : t.1 = 2 := by simpa using h2
    simp [this]
  | false => simp
theorem picks_lay {s : List UInt8} (hc : clns (fileL (xt s)) = true) (b : Bool) : picks b (xt (layOf s)) = picks b (xt s) := by
  obtain ⟨h1, h2⟩ := layOf_toks hc
  cases b with
  | true => rw [picks_rmk, picks_rmk, h2]
  | false => rw [picks_lou, picks_lou, h1]
end X
/-- What tokens tells, as a row that can be read. -/
theorem tok_row (s : ByteArray) (b : Bool) (W : World) (hT : Tabs W) (hs : s.size ≤ 1073741823) :
    Calls Tryz.prog 10 #[.string s, .bool b] W fun e w' => ∃ rv, e = .returned rv ∧ Hid (IsV w' rv ((X.picks b (X.xt (bs s))).map sv) ∧ Below W.heap.size W w') := by
  refine (l6tokens_any s b W hT hs).mono ?_
  rintro e w' ⟨rv, rfl, H⟩
  refine ⟨rv, rfl, IsV.ofOwns (by rw [List.length_map]; exact (H.out).1), (H.out).2⟩
set_option maxRecDepth 100000 in
set_option maxHeartbeats 4000000 in
theorem layAgain_any (hL : LayC) (s : ByteArray) (w : World) (hT : Tabs w) (hs : s.size ≤ 1048576) :
    Calls Tryz.prog 4 #[.string s] w fun e w' => e = .returned (.bool true) ∧ Below w.heap.size w w' := by
  have hfew := toks_few s
  have hbl := bs_len s
  have HL1 := hide (fun W (h : Tabs W) => lives1_any hL W h)
  have HT := hide hT
  by_cases hc : X.clns (X.fileL (X.xt (bs s))) = true
  · have hlen := X.layOf_len hc
    have hcnt := X.layOf_cnt hc
    obtain ⟨hid, hag, hc2⟩ := X.layOf_again hc
    have hp0 := X.picks_lay hc false
    have hp1 := X.picks_lay hc true
    have HLay := hide (fun W (h : Tabs W) => by
      have := hL s W h (by omega) (by omega) (fun _ => by omega)
      rw [hc, if_pos rfl] at this
      exact this)
    generalize hU : X.layOf (bs s) = U at *
    have hUz : (ba U).size = U.length := ba_size U
    have hbU : bs (ba U) = U := bs_ba U
    have hxl : ∀ x : ByteArray, (X.xt (bs x)).length = (toks 0 (bs x)).length := fun x => by unfold X.xt; rw [List.length_map]
    have hUt : (toks 0 (bs (ba U))).length ≤ 2 * s.size + 1 := by rw [← hxl, hbU]; omega
    have HLay2 := hide (fun W (h : Tabs W) => by
      have := hL (ba U) W h (by omega) (by omega) (fun _ => by rw [hbU, hid]; omega)
      rw [hbU, hc2, hid, if_pos rfl] at this
      exact this)
    have HA := hide (fun b W (h : Tabs W) => tok_row s b W h (by omega))
    have HB := hide (fun b W (h : Tabs W) => tok_row (ba U) b W h (by omega))
    have HP0 : Hid (X.picks false (X.xt (bs (ba U))) = X.picks false (X.xt (bs s))) := by show _ = _; rw [hbU]; exact hp0
    have HP1 : Hid (X.picks true (X.xt (bs (ba U))) = X.picks true (X.xt (bs s))) := by show _ = _; rw [hbU]; exact hp1
    have HPL : Hid (∀ b, (X.picks b (X.xt (bs s))).length ≤ 1073741824) := fun b => by
      have h1 := X.picks_len b (X.xt (bs s))
      rw [hxl] at h1
      omega
    clear hL hc hlen hcnt hag hid hc2 hp0 hp1 hU hUz hbU hxl hUt hfew hbl hT
    go_enter Tryz.func4, Tryz.ntmps4
    go_wp2_with fail
    refine ((HL1.out) w HT.out).mono ?_
    rintro e w1 ⟨rfl, k1⟩
    have HT1 := hide ((HT.out).below k1)
    have K1 := hide k1
    clear k1 HT
    go_wp2_with fail
    refine ((HLay.out) w1 HT1.out).mono ?_
    rintro e w2 ⟨rfl, k2⟩
    have HT2 := hide ((HT1.out).below k2)
    have K2 := hide ((K1.out).trans (k2.mono (K1.out).size))
    clear k2 K1 HT1
    go_wp2_with fail
    refine ((HLay2.out) w2 HT2.out).mono ?_
    rintro e w3 ⟨rfl, k3⟩
    have HT3 := hide ((HT2.out).below k3)
    have K3 := hide ((K2.out).trans (k3.mono (K2.out).size))
    clear k3 K2 HT2
    go_wp2_with fail
    refine ((HA.out) false w3 HT3.out).mono ?_
    rintro e w4 ⟨x1, rfl, H4⟩
    have HT4 := hide ((HT3.out).below (H4.out).2)
    have K4 := hide ((K3.out).trans ((H4.out).2.mono (K3.out).size))
    have HX1 := hide (H4.out).1
    clear H4 K3 HT3
    go_wp2_with fail
    refine ((HB.out) false w4 HT4.out).mono ?_
    rintro e w5 ⟨x2, rfl, H5⟩
    have HT5 := hide ((HT4.out).below (H5.out).2)
    have K5 := hide ((K4.out).trans ((H5.out).2.mono (K4.out).size))
    have HX1' := hide ((HX1.out).below (H5.out).2)
    have HX2 : Hid (IsV w5 x2 ((X.picks false (X.xt (bs s))).map sv)) := by
      have := (H5.out).1
      rw [HP0.out] at this
      exact this
    clear H5 K4 HT4 HX1
    go_wp2_with fail
    refine ((HA.out) true w5 HT5.out).mono ?_
    rintro e w6 ⟨x3, rfl, H6⟩
    have HT6 := hide ((HT5.out).below (H6.out).2)
    have K6 := hide ((K5.out).trans ((H6.out).2.mono (K5.out).size))
    have HX1b := hide ((HX1'.out).below (H6.out).2)
    have HX2b := hide ((HX2.out).below (H6.out).2)
    have HX3 := hide (H6.out).1
    clear H6 K5 HT5 HX1' HX2
    go_wp2_with fail
    refine ((HB.out) true w6 HT6.out).mono ?_
    rintro e w7 ⟨x4, rfl, H7⟩
    have K7 := hide ((K6.out).trans ((H7.out).2.mono (K6.out).size))
    have HX1c := hide ((HX1b.out).below (H7.out).2)
    have HX2c := hide ((HX2b.out).below (H7.out).2)
    have HX3c := hide ((HX3.out).below (H7.out).2)
    have HX4 : Hid (IsV w7 x4 ((X.picks true (X.xt (bs s))).map sv)) := by
      have := (H7.out).1
      rw [HP1.out] at this
      exact this
    clear H7 K6 HT6 HX1b HX2b HX3
    go_wp2_with fail
    refine (texts_same _ x1 x2 w7 HX1c.out HX2c.out ((HPL.out) false)).mono ?_
    rintro e w8 ⟨rfl, k8⟩
    have HX3d := hide ((HX3c.out).below k8)
    have HX4d := hide ((HX4.out).below k8)
    have K8 := hide ((K7.out).trans (k8.mono (K7.out).size))
    clear k8 K7 HX1c HX2c HX3c HX4
    go_wp2_with fail
    refine (texts_same _ x3 x4 w8 HX3d.out HX4d.out ((HPL.out) true)).mono ?_
    rintro e w9 ⟨rfl, k9⟩
    have HF : Hid (Below w.heap.size w w9) := (K8.out).trans (k9.mono (K8.out).size)
    clear k9 K8
    go_wp2_with fail
    go_ret
    exact ⟨rfl, HF.out⟩
  · have HLay := hide (fun W (h : Tabs W) => by
      have := hL s W h (by omega) (by omega) (fun e => absurd e hc)
      rw [if_neg hc] at this
      exact this)
    clear hL hc hfew hbl hT
    go_enter Tryz.func4, Tryz.ntmps4
    go_wp2_with fail
    refine ((HL1.out) w HT.out).mono ?_
    rintro e w1 ⟨rfl, k1⟩
    have HT1 := hide ((HT.out).below k1)
    have K1 := hide k1
    clear k1
    go_wp2_with fail
    refine ((HLay.out) w1 HT1.out).mono ?_
    rintro e w2 ⟨rfl, k2⟩
    have K2 := hide ((K1.out).trans (k2.mono (K1.out).size))
    clear k2 K1 HT1 HT
    go_wp2_with fail
    go_ret
    exact ⟨rfl, K2.out⟩
end Go.Proofs.YtohpfegpnbdfnaaGreatDoor
