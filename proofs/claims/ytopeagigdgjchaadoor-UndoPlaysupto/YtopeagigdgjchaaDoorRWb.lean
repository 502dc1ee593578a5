/- What firstOf, longest, measureOf and beginOf do: a text is taken apart into characters, and measured. -/
import Derived.Test.YtopeagigdgjchaaDoorRWa
import Derived.Test.YtopeagigdgjchaaDoorRShelf
import Derived.Deep.DeepFit
namespace Go.Proofs.YtopeagigdgjchaaDoor.Rp
open Go.RowKit
open M

def Tabs (w : World) : Prop := Lib.Utf8Tabs 2 3 w ∧ 4 ≤ w.heap.size
theorem Tabs.below {w w' : World} (h : Tabs w) (hb : Below w.heap.size w w') : Tabs w' := by
  obtain ⟨⟨h1, h2⟩, h3⟩ := h
  obtain ⟨hc, _⟩ := bcell hb
  refine ⟨⟨fun c hcc => ?_, fun i hi => ?_⟩, ?_⟩
  · rw [hc 2 c (by omega)]; exact h1 c hcc
  · rw [hc 3 _ (by omega), hc 3 _ (by omega)]; exact h2 i hi
  · have := hb.size; omega

theorem hide {p : Prop} (h : p) : Hid p := h
/-- A string's bytes. -/
def bs (s : ByteArray) : List UInt8 := s.data.toList
theorem bs_len (s : ByteArray) : (bs s).length = s.size := by cases s; simp [bs, ByteArray.size]

theorem get!_bs (s : ByteArray) (k : Nat) : s.get! k = (bs s).getD k 0 := by
  cases s with
  | mk a =>
    show a[k]! = _
    simp only [bs, List.getD_eq_getElem?_getD, Array.getElem?_toList]
    rw [getElem!_def]
    cases a[k]? <;> rfl

theorem decodeGo_bs (s : ByteArray) : Lib.decodeGo s = dec (bs s) := by
  unfold Lib.decodeGo dec
  rw [bs_len]
  by_cases h : s.size = 0
  · rw [if_pos h, if_pos h]
  · rw [if_neg h, if_neg h, Lib.decode_at]
    simp only [get!_bs, Nat.sub_zero, Nat.zero_add]

theorem decode_any (s : ByteArray) (w : World) (hT : Tabs w) :
    Calls Tryd.prog 56 #[.string s] w fun e w' => e = .returned (.tuple #[.int .i32 (ch (bs s)), .int .i64 (sz (bs s))]) ∧ Below w.heap.size w w' := by
  have := Tryd.utf8_DecodeRuneInString s w hT.1
  rw [decodeGo_bs] at this
  exact this

theorem ch_le {l : List UInt8} (h : l ≠ []) : ch l ≤ 1114111 := by
  by_cases hm : 1 < sz l
  · exact (multi hm).2.2.2
  · have p := head_cases h (by have := sz_pos h; omega)
    omega

theorem Tabs.alloc {w : World} (h : Tabs w) (o : Obj) : Tabs (w.alloc o) := h.below ((Below.refl _ _).alloc (Nat.le_refl _) _)

/-- A block of four cells: a measure in memory. -/
def Blk4 (w : World) (b : Nat) (x0 x1 x2 x3 : Value) : Prop := w.heap[b]? = some (.cells #[x0, x1, x2, x3] 93 (0, 0))
theorem Blk4.new (w : World) (x0 x1 x2 x3 : Value) : Blk4 (w.alloc (.cells #[x0, x1, x2, x3] 93)) w.heap.size x0 x1 x2 x3 := by
  show (w.heap.push _)[w.heap.size]? = _
  simp
theorem Blk4.below {w w' : World} {b B : Nat} {x0 x1 x2 x3 : Value} (h : Blk4 w b x0 x1 x2 x3) (hb : Below B w w') (hB : b < B) : Blk4 w' b x0 x1 x2 x3 := (hb.block b hB).trans h
theorem Blk4.alloc {w : World} {b : Nat} {x0 x1 x2 x3 : Value} (h : Blk4 w b x0 x1 x2 x3) (hB : b < w.heap.size) (o : Obj) : Blk4 (w.alloc o) b x0 x1 x2 x3 := (Below.heap_alloc w o b hB).trans h
theorem Blk4.facts {w : World} {b : Nat} {x0 x1 x2 x3 : Value} (h : Blk4 w b x0 x1 x2 x3) :
    (w.cell? ⟨b, 0, none⟩ = some x0 ∧ w.cell? ⟨b, 1, none⟩ = some x1 ∧ w.cell? ⟨b, 2, none⟩ = some x2 ∧ w.cell? ⟨b, 3, none⟩ = some x3) ∧
    (w.frozen? ⟨b, 0, none⟩ = false ∧ w.frozen? ⟨b, 1, none⟩ = false ∧ w.frozen? ⟨b, 2, none⟩ = false ∧ w.frozen? ⟨b, 3, none⟩ = false) := by
  unfold Blk4 at h
  refine ⟨⟨?_, ?_, ?_, ?_⟩, ?_, ?_, ?_, ?_⟩ <;> simp [World.cell?, World.frozen?, h]

/-- Four stores into it. -/
def set4 (w : World) (b : Nat) (y0 y1 y2 y3 : Value) : World := (((w.setCell ⟨b, 0, none⟩ y0).setCell ⟨b, 1, none⟩ y1).setCell ⟨b, 2, none⟩ y2).setCell ⟨b, 3, none⟩ y3
theorem below_set4 {B : Nat} {w w' : World} (h : Below B w w') {b : Nat} (hb : B ≤ b) (y0 y1 y2 y3 : Value) : Below B w (set4 w' b y0 y1 y2 y3) :=
  (((h.setCell (p := ⟨b, 0, none⟩) hb _).setCell (p := ⟨b, 1, none⟩) hb _).setCell (p := ⟨b, 2, none⟩) hb _).setCell (p := ⟨b, 3, none⟩) hb _
theorem Blk4.set {w : World} {b : Nat} {x0 x1 x2 x3 : Value} (h : Blk4 w b x0 x1 x2 x3) (y0 y1 y2 y3 : Value) : Blk4 (set4 w b y0 y1 y2 y3) b y0 y1 y2 y3 := by
  unfold Blk4 at h
  simp [Blk4, set4, World.setCell, Array.getElem?_modify, h]

theorem Blk4.other {w : World} {b b' : Nat} {x0 x1 x2 x3 : Value} (h : Blk4 w b x0 x1 x2 x3) (hne : b ≠ b') (y0 y1 y2 y3 : Value) : Blk4 (set4 w b' y0 y1 y2 y3) b x0 x1 x2 x3 := by
  unfold Blk4 at h ⊢
  unfold set4
  rw [Below.heap_setCell _ _ _ _ hne, Below.heap_setCell _ _ _ _ hne, Below.heap_setCell _ _ _ _ hne, Below.heap_setCell _ _ _ _ hne, h]
theorem size_set4 (w : World) (b : Nat) (y0 y1 y2 y3 : Value) : (set4 w b y0 y1 y2 y3).heap.size = w.heap.size := by
  simp [set4, World.setCell]

set_option maxHeartbeats 400000 in
theorem firstOf_any (s : ByteArray) (hl : bs s ≠ []) (w : World) (hT : Tabs w) :
    Calls Tryd.prog 64 #[.string s] w fun e w' => e = .returned (.agg #[.int .i64 (sz (bs s)), .int .i64 (br (ch (bs s))), .int .i64 1, .int .i64 (un (ch (bs s)))]) ∧ Below w.heap.size w w' := by
  have hcl := ch_le hl
  by_cases h10 : ch (bs s) = 10
  · have hb : (((ch (bs s) : Nat) : Int) == 10) = true := by rw [h10]; rfl
    have hs1 : sz (bs s) = 1 := sz_ascii hl (by have := (ch_ten hl).1 h10; omega)
    rw [show br (ch (bs s)) = 1 from if_pos h10, show un (ch (bs s)) = 1 from if_neg (by omega), hs1]
    clear hs1 h10
    go_enter Tryd.func64, Tryd.ntmps64
    go_wp2_with fail
    refine (decode_any s _ (hT.alloc _)).mono ?_
    rintro e w1 ⟨rfl, hb1⟩
    have hz := hb1.size
    have k1 := (Blk4.new w _ _ _ _).below hb1 (by simp)
    simp only [World.size_alloc] at hz
    go_wp2_with fail
    refine (lineBreak_any _).mono ?_
    rintro e w2 ⟨rfl, hb2⟩
    have k2 := k1.below hb2 (by omega)
    obtain ⟨⟨c0, c1, c2, c3⟩, f0, f1, f2, f3⟩ := k2.facts
    go_wp2_with fail
    refine bodyPost_ret (v := .agg #[.int .i64 1, .int .i64 1, .int .i64 1, .int .i64 1]) (by simp [results, Tryd.results64, go_sem, c0, c1, c2, c3]) rfl ⟨rfl, ?_⟩
    exact below_set4 ((((Below.refl _ w).alloc (Nat.le_refl _) _).trans (hb1.mono (by simp))).trans (hb2.mono (by omega))) (Nat.le_refl _) _ _ _ _
  · have hb : (((ch (bs s) : Nat) : Int) == 10) = false := by rw [beq_eq_false_iff_ne]; omega
    rw [show br (ch (bs s)) = 0 from if_neg h10]
    clear h10
    go_enter Tryd.func64, Tryd.ntmps64
    go_wp2_with fail
    refine (decode_any s _ (hT.alloc _)).mono ?_
    rintro e w1 ⟨rfl, hb1⟩
    have hz := hb1.size
    have k1 := (Blk4.new w _ _ _ _).below hb1 (by simp)
    simp only [World.size_alloc] at hz
    obtain ⟨⟨c0, c1, c2, c3⟩, f0, f1, f2, f3⟩ := k1.facts
    go_wp2_with fail
    refine (unitsOf_any _ _).mono ?_
    rintro e w2 ⟨rfl, rfl⟩
    go_wp2_with fail
    refine bodyPost_ret (v := .agg #[.int .i64 (sz (bs s)), .int .i64 0, .int .i64 1, .int .i64 (un (ch (bs s)))]) (by simp [results, Tryd.results64, go_sem, c0, c1, c2, c3]) rfl ⟨rfl, ?_⟩
    exact below_set4 (((Below.refl _ w).alloc (Nat.le_refl _) _).trans (hb1.mono (by simp))) (Nat.le_refl _) _ _ _ _

/-- A function value that answers of measures, from a world on. -/
structure Fits (g : Nat) (lb : Array Value) (fit : Nat → Nat → Nat → Nat → Bool) (w0 : World) : Prop where
  enters : ∀ args w, (callFunc g args).run Tryd.prog w = .ok (.enter g args) w
  calls : ∀ (a b c d : Nat) (W : World), Below w0.heap.size w0 W → a ≤ 9007199254740992 → b ≤ 9007199254740992 → c ≤ 9007199254740992 → d ≤ 9007199254740992 →
    Calls Tryd.prog g (#[.agg #[.int .i64 a, .int .i64 b, .int .i64 c, .int .i64 d]] ++ lb) W fun e w' => e = .returned (.bool (fit a b c d)) ∧ Below W.heap.size W w'
theorem Fits.later {g : Nat} {lb : Array Value} {fit : Nat → Nat → Nat → Nat → Bool} {w W : World} (h : Fits g lb fit w) (hb : Below w.heap.size w W) : Fits g lb fit W :=
  ⟨h.enters, fun a b c d W' hb' => h.calls a b c d W' (hb.trans (hb'.mono hb.size))⟩

def strLen : Value → Nat | .string s => s.size | _ => 0

theorem bs_drop (s : ByteArray) (a : Nat) : bs (s.extract a s.size) = (bs s).drop a := Lib.extract_to_end s a
theorem bs_ne {s : ByteArray} (h : 0 < s.size) : bs s ≠ [] := by intro e; have := bs_len s; rw [e] at this; simp at this; omega

set_option maxHeartbeats 1000000 in
theorem longest_any (s : ByteArray) (A B C D : Nat) (g : Nat) (lb : Array Value) (fit : Nat → Nat → Nat → Nat → Bool) (w : World) (hT : Tabs w) (hF : Fits g lb fit w)
    (hs : s.size ≤ 1125899906842624) (hA : A ≤ 1125899906842624) (hB : B ≤ 1125899906842624) (hC : C ≤ 1125899906842624) (hD : D ≤ 2251799813685248) :
    Calls Tryd.prog 54 #[.string s, .agg #[.int .i64 A, .int .i64 B, .int .i64 C, .int .i64 D], .func (.func g) #[] lb] w fun e w' => ∃ k, k ≤ s.size ∧ Bd (bs s) k ∧
      e = .returned (.agg #[.int .i64 (A + k : Nat), .int .i64 (B + nb ((bs s).take k) : Nat), .int .i64 (C + nr ((bs s).take k) : Nat), .int .i64 (D + nu ((bs s).take k) : Nat)]) ∧
      (0 < k → fit (A + k) (B + nb ((bs s).take k)) (C + nr ((bs s).take k)) (D + nu ((bs s).take k)) = true) ∧
      (k < s.size → fit (A + (k + sz ((bs s).drop k))) (B + nb ((bs s).take (k + sz ((bs s).drop k)))) (C + nr ((bs s).take (k + sz ((bs s).drop k)))) (D + nu ((bs s).take (k + sz ((bs s).drop k)))) = false) ∧
      Below w.heap.size w w' := by
  have eg := hF.enters
  have hl := bs_len s
  go_enter Tryd.func54, Tryd.ntmps54
  go_wp2_with fail
  go_loopw [0] (fun t wr => ∃ (s' : ByteArray) (k : Nat), t = .string s' ∧ bs s' = (bs s).drop k ∧ k ≤ s.size ∧ Bd (bs s) k ∧
      Blk4 wr w.heap.size (.int .i64 (A + k : Nat)) (.int .i64 (B + nb ((bs s).take k) : Nat)) (.int .i64 (C + nr ((bs s).take k) : Nat)) (.int .i64 (D + nu ((bs s).take k) : Nat)) ∧
      Blk4 wr (w.heap.size + 1) (.int .i64 0) (.int .i64 0) (.int .i64 0) (.int .i64 0) ∧ Below w.heap.size w wr ∧ w.heap.size + 2 ≤ wr.heap.size ∧
      (0 < k → fit (A + k) (B + nb ((bs s).take k)) (C + nr ((bs s).take k)) (D + nu ((bs s).take k)) = true)) (fun t _ => strLen t)
  case atStart =>
    refine ⟨s, 0, rfl, rfl, Nat.zero_le _, bd_zero _, ?_, ?_, ?_, ?_, fun h => absurd h (by omega)⟩
    · exact (Blk4.new w _ _ _ _).below ((Below.refl _ _).alloc (Nat.le_refl _) _) (by simp)
    · have := Blk4.new (w.alloc (.cells #[.int .i64 A, .int .i64 B, .int .i64 C, .int .i64 D] 93)) (.int .i64 0) (.int .i64 0) (.int .i64 0) (.int .i64 0)
      rwa [World.size_alloc] at this
    · exact ((Below.refl _ w).alloc (Nat.le_refl _) _).alloc (by simp) _
    · simp
  case round =>
    obtain ⟨s', k, rfl, hs', hk, hbd, k1, k2, hb, hsz, hfit⟩ := hrel
    have hsl := bs_len s'
    rw [hs', List.length_drop, hl] at hsl
    have hle : nb ((bs s).take k) ≤ s.size ∧ nr ((bs s).take k) ≤ s.size ∧ nu ((bs s).take k) ≤ 2 * s.size := by
      have h1 := nb_le ((bs s).take k); have h2 := nr_le ((bs s).take k); have h3 := nu_le ((bs s).take k)
      rw [List.length_take, hl] at h1 h2 h3
      omega
    obtain ⟨a, ha⟩ : ∃ a, A + k = a := ⟨_, rfl⟩
    obtain ⟨b, hbb⟩ : ∃ b, B + nb ((bs s).take k) = b := ⟨_, rfl⟩
    obtain ⟨c, hcc⟩ : ∃ c, C + nr ((bs s).take k) = c := ⟨_, rfl⟩
    obtain ⟨d, hdd⟩ : ∃ d, D + nu ((bs s).take k) = d := ⟨_, rfl⟩
    rw [ha, hbb, hcc, hdd] at k1 hfit
    have ba : a ≤ 2251799813685248 := by omega
    have bb : b ≤ 2251799813685248 := by omega
    have bc : c ≤ 2251799813685248 := by omega
    have bd : d ≤ 4503599627370496 := by omega
    have Hfit := hide hfit
    have Hs' := hide hs'
    have Heq := hide (And.intro ha (And.intro hbb (And.intro hcc hdd)))
    have Hsl := hide hsl
    clear hfit hs' ha hbb hcc hdd hle hsl
    by_cases hlt : k < s.size
    · have hz' : 0 < s'.size := by have := Hsl.out; omega
      have hne := bs_ne hz'
      go_wp2_with fail
      refine (firstOf_any s' hne wr (hT.below hb)).mono ?_
      rintro e w1 ⟨rfl, hb1⟩
      have q1 := k1.below hb1 (by omega)
      have q2 := k2.below hb1 (by omega)
      have hz1 : w.heap.size + 1 < w1.heap.size := by have := hb1.size; omega
      have hz1' : w.heap.size < w1.heap.size := by omega
      obtain ⟨⟨c0, c1, c2, c3⟩, f0, f1, f2, f3⟩ := q1.facts
      have bn : sz (bs s') ≤ 4 := sz_le4 _
      have bbr := br_le (ch (bs s'))
      have bun := (un_le (ch (bs s'))).2
      obtain ⟨n, hn⟩ : ∃ n, sz (bs s') = n := ⟨_, rfl⟩
      obtain ⟨r, hr⟩ : ∃ n, br (ch (bs s')) = n := ⟨_, rfl⟩
      obtain ⟨u, hu⟩ : ∃ n, un (ch (bs s')) = n := ⟨_, rfl⟩
      rw [hn, hr, hu]
      rw [hn] at bn; rw [hr] at bbr; rw [hu] at bun
      have Hn := hide (And.intro hn (And.intro hr hu))
      clear hn hr hu
      go_wp2_with fail
      refine (plus_any a b c d n r 1 u _ (by omega) (by omega) (by omega) (by omega) (by omega) (by omega) (by omega) (by omega)).mono ?_
      rintro e w2 ⟨rfl, hb2⟩
      have p1 := (q1.alloc hz1' _).below hb2 (by simp; omega)
      have p2 := (q2.alloc hz1 _).below hb2 (by simp; omega)
      have p3 := (Blk4.new w1 _ _ _ _).below hb2 (by simp)
      have hz2 : w1.heap.size < w2.heap.size := by have := hb2.size; simp only [World.size_alloc] at this; omega
      have hz2a : w.heap.size < w2.heap.size := by omega
      have hz2b : w.heap.size + 1 < w2.heap.size := by omega
      have B2 : Below w.heap.size w w2 := ((hb.trans (hb1.mono (by omega))).alloc (by omega) _).trans (hb2.mono (by simp; omega))
      have hn1 : ¬ w1.heap.size = w.heap.size := by omega
      have hn2 : ¬ w.heap.size = w1.heap.size := by omega
      clear c0 c1 c2 c3 f0 f1 f2 f3 q1 q2 hz1 hz1'
      go_wp2_with fail
      have hcall := hF.calls (a + n) (b + r) (c + 1) (d + u) (w2.alloc (Obj.cells #[Value.int IntKind.i64 (↑a + ↑n), Value.int IntKind.i64 (↑b + ↑r), Value.int IntKind.i64 (↑c + 1), Value.int IntKind.i64 (↑d + ↑u)] 93)) (B2.alloc (by omega) _) (by omega) (by omega) (by omega) (by omega)
      simp only [Int.natCast_add, Int.natCast_one] at hcall
      refine hcall.mono ?_
      clear hcall
      rintro e w3 ⟨rfl, hb3⟩
      have r1 := (p1.alloc hz2a _).below hb3 (by simp; omega)
      have r2 := (p2.alloc hz2b _).below hb3 (by simp; omega)
      have r3 := (p3.alloc hz2 _).below hb3 (by simp; omega)
      have r4 := (Blk4.new w2 _ _ _ _).below hb3 (by simp)
      have hz3 : w2.heap.size < w3.heap.size := by have := hb3.size; simp only [World.size_alloc] at this; omega
      have B3 : Below w.heap.size w w3 := (B2.alloc (by omega) _).trans (hb3.mono (by simp; omega))
      obtain ⟨⟨c0, c1, c2, c3⟩, f0, f1, f2, f3⟩ := r1.facts
      obtain ⟨⟨d0, d1, d2, d3⟩, g0, g1, g2, g3⟩ := r2.facts
      obtain ⟨⟨e0, e1, e2, e3⟩, _, _, _, _⟩ := r3.facts
      obtain ⟨⟨i0, i1, i2, i3⟩, _, _, _, _⟩ := r4.facts
      obtain ⟨y, hy⟩ : ∃ y, fit (a + n) (b + r) (c + 1) (d + u) = y := ⟨_, rfl⟩
      rw [hy]
      have Hy := hide hy
      clear hy
      have hnl : n ≤ s'.size := by
        have h1 := Hn.out.1
        have h2 := sz_le (bs s')
        rw [bs_len] at h2
        omega
      have hnext : n = sz ((bs s).drop k) ∧ 1 ≤ n ∧ A + (k + n) = a + n ∧ B + nb ((bs s).take (k + n)) = b + r ∧ C + nr ((bs s).take (k + n)) = c + 1 ∧ D + nu ((bs s).take (k + n)) = d + u := by
        obtain ⟨hn, hr, hu⟩ := Hn.out
        obtain ⟨ea, eb, ec, ed⟩ := Heq.out
        have hp := sz_pos hne
        rw [Hs'.out] at hn hr hu hp
        have ht := take_next hbd (by omega : k < (bs s).length)
        rw [hn, hr, hu] at ht
        refine ⟨hn.symm, by omega, by omega, by rw [ht.1]; omega, by rw [ht.2.1]; omega, by rw [ht.2.2]; omega⟩
      have Hnext := hide hnext
      clear hnext
      cases y with
      | false =>
        go_wp2_with fail
        refine bodyPost_ret (v := .agg #[.int .i64 a, .int .i64 b, .int .i64 c, .int .i64 d]) (by simp [results, Tryd.results54, go_sem, d0, d1, d2, d3]) rfl ⟨k, hk, hbd, ?_, ?_, ?_, ?_⟩
        · obtain ⟨ea, eb, ec, ed⟩ := Heq.out
          rw [ea, eb, ec, ed]
        · obtain ⟨ea, eb, ec, ed⟩ := Heq.out
          rw [ea, eb, ec, ed]
          exact Hfit.out
        · intro _
          obtain ⟨h0, _, h1, h2, h3, h4⟩ := Hnext.out
          rw [← h0, h1, h2, h3, h4]
          exact Hy.out
        · exact below_set4 B3 (by omega) _ _ _ _
      | true =>
        go_wp2_with fail
        obtain ⟨h0, hn1', h1, h2, h3, h4⟩ := Hnext.out
        refine ⟨⟨s'.extract n s'.size, k + n, rfl, ?_, ?_, ?_, ?_, ?_, ?_, ?_, ?_⟩, ?_⟩
        · rw [bs_drop, Hs'.out, List.drop_drop]
        · have := Hsl.out; omega
        · rw [h0]; exact bd_next hbd
        · rw [h1, h2, h3, h4]
          simp only [Int.natCast_add, Int.natCast_one]
          exact r1.set _ _ _ _
        · exact r2.other (by omega) _ _ _ _
        · exact below_set4 B3 (by omega) _ _ _ _
        · show _ ≤ (set4 w3 w.heap.size _ _ _ _).heap.size
          rw [size_set4]; omega
        · intro _
          rw [h1, h2, h3, h4]
          exact Hy.out
        · have e1 := bs_len (s'.extract n s'.size)
          rw [bs_drop, List.length_drop, bs_len] at e1
          simp only [strLen]
          omega
    · have hz' : ¬ 0 < s'.size := by have := Hsl.out; omega
      obtain ⟨⟨c0, c1, c2, c3⟩, f0, f1, f2, f3⟩ := k1.facts
      obtain ⟨⟨d0, d1, d2, d3⟩, g0, g1, g2, g3⟩ := k2.facts
      go_wp2_with fail
      refine bodyPost_ret (v := .agg #[.int .i64 a, .int .i64 b, .int .i64 c, .int .i64 d]) (by simp [results, Tryd.results54, go_sem, d0, d1, d2, d3]) rfl ⟨k, hk, hbd, ?_, ?_, ?_, ?_⟩
      · obtain ⟨ea, eb, ec, ed⟩ := Heq.out
        rw [ea, eb, ec, ed]
      · obtain ⟨ea, eb, ec, ed⟩ := Heq.out
        rw [ea, eb, ec, ed]
        exact Hfit.out
      · intro h; exact absurd h hlt
      · exact below_set4 hb (by omega) _ _ _ _
end Go.Proofs.YtopeagigdgjchaaDoor.Rp
