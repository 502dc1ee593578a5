/- Package scope: the name of an NVar. -/
import Derived.Test.YtdipmfdhnplpaaaGreatDoorQj
import Derived.Test.YtdipmfdhnplpaaaGreatDoorQk
namespace Go.Proofs.YtdipmfdhnplpaaaGreatDoor
open Go.RowKit
open M
variable {w0 : World} {L : Lay} {fs : List X.Fl} {M : Mem} {us : List X.U} {w : World}
theorem fldTo (a b c d : Int) (w : World) : (Instr.field 148 (.agg #[.int .i64 a, .int .i64 b, .int .i64 c, .int .i64 d]) 1).run Tryz.prog w = .ok (.agg #[.int .i64 b, .int .i64 c]) w := by kernel_rfl
/-- What a call that tells names leaves. -/
def Tld (w0 : World) (L : Lay) (fs : List X.Fl) (us : List X.U) (w w' : World) : Prop := ∃ M', Run w0 L fs M' us w' ∧ MOk fs M' ∧ Idle M' ∧ Kx L fs.length w0.heap.size w w'
theorem find_is (B : Nat) (bv : Value) (sc : List (List X.Nm)) (x : List UInt8) (w : World) (h : IsBk w B bv sc) (hx : x.length ≤ maxLen) (r : Option Nat) (hr : X.sight sc x = r) :
    Calls Tryz.prog 127 #[bv, .string (ba x)] w fun e w' => e = .returned (.tuple #[.int .i64 ((r.getD 0 : Nat) : Int), .bool r.isSome]) ∧ w' = w := by
  subst hr
  exact find_any B bv sc x w h hx
set_option maxRecDepth 100000 in
set_option maxHeartbeats 4000000 in
theorem tvariable_any (f : Nat) (hf : f < fs.length) (n : X.Nm) (hnB : X.nmB 268435456 n) (bv : Value) (sc : List (List X.Nm)) (h : Run w0 L fs M us w) (hM : MOk fs M) (hId : Idle M) (hbk : IsBk w w0.heap.size bv sc) (tl : List X.U) (htl : X.exU f (X.topA fs f) sc (.var n) = tl) (hlim : us.length + tl.length ≤ 1073741824) :
    Calls Tryz.prog 98 #[.agg #[.pointer (some ⟨L.wb, 0, none⟩), .int .i64 f], .agg #[.string (ba n.1), .int .i64 n.2], bv] w fun e w' => e = .returned (.tuple #[]) ∧ Hid (Tld w0 L fs (us ++ tl) w w') := by
  have kA : Below w.heap.size w ((w.alloc (.cells #[.pointer (some ⟨L.wb, 0, none⟩), .int .i64 f] 93)).alloc (.cells #[.string (ba n.1), .int .i64 n.2] 90)) := ((Below.refl _ w).alloc (Nat.le_refl _) _).alloc (by simp) _
  have h1 := h.below kA
  have hb1 := hbk.blw kA
  have hT : ((w.alloc (.cells #[.pointer (some ⟨L.wb, 0, none⟩), .int .i64 f] 93)).alloc (.cells #[.string (ba n.1), .int .i64 n.2] 90)).heap[w.heap.size]? = some (.cells #[.pointer (some ⟨L.wb, 0, none⟩), .int .i64 f] 93 (0, 0)) := (heap_alloc_old _ _ (by simp)).trans (heap_alloc_new w _)
  have hN : ((w.alloc (.cells #[.pointer (some ⟨L.wb, 0, none⟩), .int .i64 f] 93)).alloc (.cells #[.string (ba n.1), .int .i64 n.2] 90)).heap[w.heap.size + 1]? = some (.cells #[.string (ba n.1), .int .i64 n.2] 90 (0, 0)) := by have := heap_alloc_new (w.alloc (.cells #[.pointer (some ⟨L.wb, 0, none⟩), .int .i64 f] 93)) (.cells #[.string (ba n.1), .int .i64 n.2] 90); simpa using this
  obtain ⟨k1, k2⟩ := hnB
  have hlen : n.1.length ≤ maxLen := by unfold maxLen; omega
  have hn16 := h.st.n
  have h0 := h.size
  have hi1 : (f : Int) < (fs.length : Int) := by omega
  rw [X.exU] at htl
  have HKA := hide kA
  have HMo := hide hM
  have HId := hide hId
  clear kA h hbk hM hId
  cases hsg : X.sight sc n.1 with
  | some i =>
    rw [hsg] at htl
    have htl' : X.tellU f n 6 (f, i, 0) = tl := htl
    have HC := hide (find_is w0.heap.size bv sc n.1 _ hb1 hlen (some i) hsg)
    have HA := hide (tadd_any f n 6 f i 0 h1 (by rw [htl']; exact hlim))
    clear hb1 h1
    go_enter Tryz.func98, Tryz.ntmps98
    go_wp2_with fail
    refine (HC.out).mono ?_
    rintro e w2 ⟨rfl, rfl⟩
    generalize (w.alloc (.cells #[.pointer (some ⟨L.wb, 0, none⟩), .int .i64 f] 93)).alloc (.cells #[.string (ba n.1), .int .i64 n.2] 90) = W at *
    have t0 := cell_of_row W _ 0 _ _ _ hT
    have t1 := cell_of_row W _ 1 _ _ _ hT
    have n0 := cell_of_row W _ 0 _ _ _ hN
    have n1 := cell_of_row W _ 1 _ _ _ hN
    have e1 : ((some i).getD 0 : Nat) = i := rfl
    rw [e1]
    have e2 : (some i).isSome = true := rfl
    rw [e2]
    clear hT hN HC
    go_wp2_with fail
    refine (HA.out).mono ?_
    rintro e w3 ⟨rfl, H3⟩
    have HF : Hid (Tld w0 L fs (us ++ tl) w w3) := by
      rw [← htl']
      exact ⟨M, (H3.out).1, HMo.out, HId.out, (Kx.ofBelow HKA.out).trans (H3.out).2⟩
    clear HA H3 t0 t1 n0 n1
    go_wp2_with fail
    go_end0
    exact ⟨rfl, HF⟩
  | none =>
    rw [hsg] at htl
    have htl0 : X.tellU f n 6 (X.topA fs f n.1) = tl := htl
    have HC := hide (find_is w0.heap.size bv sc n.1 _ hb1 hlen none hsg)
    obtain ⟨kk, hmp⟩ := (h1.below ((Below.refl _ _).drew)).named hf
    have hrun := hmp.run_ok hlen
    obtain ⟨nv, -, c1, -, -, -⟩ := h1.cells
    obtain ⟨fg, fcap, d1, d2, d3, d4⟩ := h1.files hf
    rw [d1] at c1
    have g1 := cell_of_row _ _ 1 _ _ _ (h1.file hf)
    have HR := hide h1
    clear hb1 h1 hmp d1 htl
    cases htp : X.topI (X.itemsOf fs f) n.1 with
    | none =>
      rw [htp] at hrun
      have hrun' : (Instr.lookup 47 (.map (some (L.nb f))) (.string (ba n.1)) true).run Tryz.prog ((w.alloc (.cells #[.pointer (some ⟨L.wb, 0, none⟩), .int .i64 f] 93)).alloc (.cells #[.string (ba n.1), .int .i64 n.2] 90)).drew = .ok (.tuple #[.int .i64 0, .bool false]) ((w.alloc (.cells #[.pointer (some ⟨L.wb, 0, none⟩), .int .i64 f] 93)).alloc (.cells #[.string (ba n.1), .int .i64 n.2] 90)).drew := hrun
      clear hrun
      go_enter Tryz.func98, Tryz.ntmps98
      go_wp2_with fail
      refine (HC.out).mono ?_
      rintro e w2 ⟨rfl, rfl⟩
      generalize (w.alloc (.cells #[.pointer (some ⟨L.wb, 0, none⟩), .int .i64 f] 93)).alloc (.cells #[.string (ba n.1), .int .i64 n.2] 90) = W at *
      have t0 := cell_of_row W _ 0 _ _ _ hT
      have t1 := cell_of_row W _ 1 _ _ _ hT
      have n0 := cell_of_row W _ 0 _ _ _ hN
      have n1 := cell_of_row W _ 1 _ _ _ hN
      have hTl := heap_lt hT
      have hNl := heap_lt hN
      have e1 : ((none : Option Nat).getD 0 : Nat) = 0 := rfl
      rw [e1]
      have e2 : (none : Option Nat).isSome = false := rfl
      rw [e2]
      clear HC
      go_wp2_with fail
      go_region_held3 (fun w' => w'.cell? ⟨w.heap.size, 0, none⟩ = some (.pointer (some ⟨L.wb, 0, none⟩)) ∧ w'.cell? ⟨w.heap.size, 1, none⟩ = some (.int .i64 f) ∧ w'.cell? ⟨L.wb, 1, none⟩ = some (.slice (some ⟨fg, 0, none⟩) fs.length fcap) ∧ w'.cell? ⟨fg, f, none⟩ = some (.pointer (some ⟨L.fb f, 0, none⟩)) ∧ w'.cell? ⟨L.fb f, 1, none⟩ = some (.map (some (L.nb f))) ∧ w'.cell? ⟨w.heap.size + 1, 0, none⟩ = some (.string (ba n.1)) ∧ (Instr.lookup 47 (.map (some (L.nb f))) (.string (ba n.1)) true).run Tryz.prog w' = .ok (.tuple #[.int .i64 0, .bool false]) w')
        (first | (with_reducible exact ⟨t0, t1, c1, d4, g1, n0, hrun'⟩) | go_keep)
        (fail)
      have hKW : Below w.heap.size w W.drew := (HKA.out).drew
      have HR2 : Hid (Run w0 L fs M us W.drew) := (HR.out).below ((Below.refl _ W).drew)
      have t0' : W.drew.cell? ⟨w.heap.size, 0, none⟩ = some (.pointer (some ⟨L.wb, 0, none⟩)) := t0
      have t1' : W.drew.cell? ⟨w.heap.size, 1, none⟩ = some (.int .i64 f) := t1
      have n0' : W.drew.cell? ⟨w.heap.size + 1, 0, none⟩ = some (.string (ba n.1)) := n0
      have n1' : W.drew.cell? ⟨w.heap.size + 1, 1, none⟩ = some (.int .i64 n.2) := n1
      have hTd : W.drew.heap[w.heap.size]? = some (.cells #[.pointer (some ⟨L.wb, 0, none⟩), .int .i64 f] 93 (0, 0)) := hT
      have hNd : W.drew.heap[w.heap.size + 1]? = some (.cells #[.string (ba n.1), .int .i64 n.2] 90 (0, 0)) := hN
      have hTl' : w.heap.size < W.drew.heap.size := hTl
      have hNl' : w.heap.size + 1 < W.drew.heap.size := hNl
      clear hrun' t0 t1 n0 n1 c1 d4 g1 hT hN hTl hNl HR HKA
      generalize W.drew = Wd at *
      go_wp2_with fail
      have htl' : X.tellU f n 6 (-1, -1, 4) = tl := by rw [← htl0, X.topA, htp]
      refine wp_region_noPanic ?_
      refine wpTo_start (S := fun w' => w'.cell? ⟨w.heap.size, 0, none⟩ = some (.pointer (some ⟨L.wb, 0, none⟩)) ∧ w'.cell? ⟨w.heap.size, 1, none⟩ = some (.int .i64 f) ∧ w'.cell? ⟨w.heap.size + 1, 0, none⟩ = some (.string (ba n.1)) ∧ w'.cell? ⟨w.heap.size + 1, 1, none⟩ = some (.int .i64 n.2)) (z := 3) (by kernel_rfl) ?_
      have hS : Wd.drew.cell? ⟨w.heap.size, 0, none⟩ = some (.pointer (some ⟨L.wb, 0, none⟩)) ∧ Wd.drew.cell? ⟨w.heap.size, 1, none⟩ = some (.int .i64 f) ∧ Wd.drew.cell? ⟨w.heap.size + 1, 0, none⟩ = some (.string (ba n.1)) ∧ Wd.drew.cell? ⟨w.heap.size + 1, 1, none⟩ = some (.int .i64 n.2) := ⟨t0', t1', n0', n1'⟩
      refine wpTo_take (i := 0) (dn := 54) (v := ?_) rfl rfl (by kernel_rfl) (by kernel_rfl) (by kernel_rfl) (by kernel_rfl) (fun _ _ _ h => h) (Or.inl ⟨by rfl, ?_⟩) hS ?_
      rotate_left
      · (intro wx hSw; (try dsimp only at hSw); go_simp; try (with_reducible rfl))
      simp only [Act.put, List.setIfInBounds_toArray, List.set_cons_zero, List.set_cons_succ]
      refine wpTo_take (i := 1) (dn := 55) (v := ?_) rfl rfl (by kernel_rfl) (by kernel_rfl) (by kernel_rfl) (by kernel_rfl) (fun _ _ _ h => h) (Or.inl ⟨by rfl, ?_⟩) hS ?_
      rotate_left
      · (intro wx hSw; (try dsimp only at hSw); go_simp; try (with_reducible rfl))
      simp only [Act.put, List.setIfInBounds_toArray, List.set_cons_zero, List.set_cons_succ]
      refine wpTo_one (i := 2) (by kernel_rfl) rfl (fun K hK => ?_)
      go_simp
      refine (nowhere_any _).mono ?_
      rintro e w3 ⟨rfl, B3⟩
      have HR3 : Hid (Run w0 L fs M us w3) := (HR2.out).below (((Below.refl _ Wd).drew).trans B3)
      have HK3 : Hid (Below w.heap.size w w3) := hKW.trans ((((Below.refl _ Wd).drew).trans B3).mono hKW.size)
      go_simp
      refine hK.out _ _ (fun _ => ⟨kcb B3 hTl' hS.1, kcb B3 hTl' hS.2.1, kcb B3 hNl' hS.2.2.1, kcb B3 hNl' hS.2.2.2⟩) (fun hS2 => ?_)
      clear hS hK K
      have hS := hS2 (by decide)
      clear hS2
      refine wpTo_one (i := 3) (by kernel_rfl) rfl (fun K hK => ?_)
      go_simp
      refine (tadd_any f n 6 (-1) (-1) 4 HR3.out (by rw [htl']; exact hlim)).mono ?_
      rintro e w4 ⟨rfl, H4⟩
      go_simp
      refine hK.out _ _ (fun h => absurd rfl h) (fun _ => wpTo_end (by kernel_rfl) ?_)
      clear hK K hS
      refine NoPanic.normal ?_
      have HF : Hid (Tld w0 L fs (us ++ tl) w w4) := by
        rw [← htl']
        exact ⟨M, (H4.out).1, HMo.out, HId.out, (Kx.ofBelow HK3.out).trans (H4.out).2⟩
      clear H4
      go_wp2_with fail
      go_end0
      exact ⟨rfl, HF⟩
    | some k =>
      rw [htp] at hrun
      have hrun' : (Instr.lookup 47 (.map (some (L.nb f))) (.string (ba n.1)) true).run Tryz.prog ((w.alloc (.cells #[.pointer (some ⟨L.wb, 0, none⟩), .int .i64 f] 93)).alloc (.cells #[.string (ba n.1), .int .i64 n.2] 90)).drew = .ok (.tuple #[.int .i64 (k : Nat), .bool true]) ((w.alloc (.cells #[.pointer (some ⟨L.wb, 0, none⟩), .int .i64 f] 93)).alloc (.cells #[.string (ba n.1), .int .i64 n.2] 90)).drew := hrun
      clear hrun
      go_enter Tryz.func98, Tryz.ntmps98
      go_wp2_with fail
      refine (HC.out).mono ?_
      rintro e w2 ⟨rfl, rfl⟩
      generalize (w.alloc (.cells #[.pointer (some ⟨L.wb, 0, none⟩), .int .i64 f] 93)).alloc (.cells #[.string (ba n.1), .int .i64 n.2] 90) = W at *
      have t0 := cell_of_row W _ 0 _ _ _ hT
      have t1 := cell_of_row W _ 1 _ _ _ hT
      have n0 := cell_of_row W _ 0 _ _ _ hN
      have n1 := cell_of_row W _ 1 _ _ _ hN
      have hTl := heap_lt hT
      have hNl := heap_lt hN
      have e1 : ((none : Option Nat).getD 0 : Nat) = 0 := rfl
      rw [e1]
      have e2 : (none : Option Nat).isSome = false := rfl
      rw [e2]
      clear HC
      go_wp2_with fail
      go_region_held3 (fun w' => w'.cell? ⟨w.heap.size, 0, none⟩ = some (.pointer (some ⟨L.wb, 0, none⟩)) ∧ w'.cell? ⟨w.heap.size, 1, none⟩ = some (.int .i64 f) ∧ w'.cell? ⟨L.wb, 1, none⟩ = some (.slice (some ⟨fg, 0, none⟩) fs.length fcap) ∧ w'.cell? ⟨fg, f, none⟩ = some (.pointer (some ⟨L.fb f, 0, none⟩)) ∧ w'.cell? ⟨L.fb f, 1, none⟩ = some (.map (some (L.nb f))) ∧ w'.cell? ⟨w.heap.size + 1, 0, none⟩ = some (.string (ba n.1)) ∧ (Instr.lookup 47 (.map (some (L.nb f))) (.string (ba n.1)) true).run Tryz.prog w' = .ok (.tuple #[.int .i64 (k : Nat), .bool true]) w')
        (first | (with_reducible exact ⟨t0, t1, c1, d4, g1, n0, hrun'⟩) | go_keep)
        (fail)
      have hKW : Below w.heap.size w W.drew := (HKA.out).drew
      have HR2 : Hid (Run w0 L fs M us W.drew) := (HR.out).below ((Below.refl _ W).drew)
      have t0' : W.drew.cell? ⟨w.heap.size, 0, none⟩ = some (.pointer (some ⟨L.wb, 0, none⟩)) := t0
      have t1' : W.drew.cell? ⟨w.heap.size, 1, none⟩ = some (.int .i64 f) := t1
      have n0' : W.drew.cell? ⟨w.heap.size + 1, 0, none⟩ = some (.string (ba n.1)) := n0
      have n1' : W.drew.cell? ⟨w.heap.size + 1, 1, none⟩ = some (.int .i64 n.2) := n1
      have hTd : W.drew.heap[w.heap.size]? = some (.cells #[.pointer (some ⟨L.wb, 0, none⟩), .int .i64 f] 93 (0, 0)) := hT
      have hNd : W.drew.heap[w.heap.size + 1]? = some (.cells #[.string (ba n.1), .int .i64 n.2] 90 (0, 0)) := hN
      have hTl' : w.heap.size < W.drew.heap.size := hTl
      have hNl' : w.heap.size + 1 < W.drew.heap.size := hNl
      clear hrun' t0 t1 n0 n1 c1 d4 g1 hT hN hTl hNl HR HKA
      generalize W.drew = Wd at *
      go_wp2_with fail
      have htl' : X.tellU f n 6 ((X.ansI fs (X.usesN fs) f k).1, (X.ansI fs (X.usesN fs) f k).2.1, 0) = tl := by rw [← htl0, X.topA, htp]
      obtain ⟨it, hit, -⟩ := X.topI_name htp
      have hfl := fldTo
      go_region_held3 (fun w' => w'.cell? ⟨w.heap.size, 0, none⟩ = some (.pointer (some ⟨L.wb, 0, none⟩)) ∧ w'.cell? ⟨w.heap.size, 1, none⟩ = some (.int .i64 f) ∧ w'.cell? ⟨w.heap.size + 1, 0, none⟩ = some (.string (ba n.1)) ∧ w'.cell? ⟨w.heap.size + 1, 1, none⟩ = some (.int .i64 n.2))
        (first | (with_reducible exact ⟨t0', t1', n0', n1'⟩) | (with_reducible exact ⟨t03, t13, n03, n13⟩) | (with_reducible exact ⟨t04, t14, n04, n14⟩) | go_keep)
        ((first
          | (go_at_call 126; refine (kitem_any f k it ((HR2.out).below ((Below.refl _ Wd).drew)) HMo.out HId.out hit).mono ?_; rintro e w3 ⟨rfl, H3⟩; obtain ⟨M3, x1, x2, x3, x4⟩ := H3.out; have hS3 := x1.st.lt; have hT3 : w3.heap[w.heap.size]? = some (.cells #[.pointer (some ⟨L.wb, 0, none⟩), .int .i64 f] 93 (0, 0)) := x4.made hS3 hTd h0 (fun cs d e => (by cases e)); have hN3 : w3.heap[w.heap.size + 1]? = some (.cells #[.string (ba n.1), .int .i64 n.2] 90 (0, 0)) := x4.made hS3 hNd (by omega) (fun cs d e => (by cases e)); have HX3 : Hid (Kx L fs.length w0.heap.size w w3) := (Kx.ofBelow (hKW.drew)).trans x4; have t03 := cell_of_row w3 _ 0 _ _ _ hT3; have t13 := cell_of_row w3 _ 1 _ _ _ hT3; have n03 := cell_of_row w3 _ 0 _ _ _ hN3; have n13 := cell_of_row w3 _ 1 _ _ _ hN3)
          | (go_at_call 58; refine (tadd_any f n 6 (X.ansI fs (X.usesN fs) f k).1 (X.ansI fs (X.usesN fs) f k).2.1 0 x1 (by rw [htl']; exact hlim)).mono ?_; rintro e w4 ⟨rfl, H4⟩; have hT4 : w4.heap[w.heap.size]? = some (.cells #[.pointer (some ⟨L.wb, 0, none⟩), .int .i64 f] 93 (0, 0)) := (H4.out).2.made hS3 hT3 h0 (fun cs d e => (by cases e)); have hN4 : w4.heap[w.heap.size + 1]? = some (.cells #[.string (ba n.1), .int .i64 n.2] 90 (0, 0)) := (H4.out).2.made hS3 hN3 (by omega) (fun cs d e => (by cases e)); have t04 := cell_of_row w4 _ 0 _ _ _ hT4; have t14 := cell_of_row w4 _ 1 _ _ _ hT4; have n04 := cell_of_row w4 _ 0 _ _ _ hN4; have n14 := cell_of_row w4 _ 1 _ _ _ hN4)))
      have HF : Hid (Tld w0 L fs (us ++ tl) w w4) := by
        rw [← htl']
        exact ⟨M3, (H4.out).1, x2, x3, (HX3.out).trans (H4.out).2⟩
      clear H4 x1 x2 x3 x4 hT3 hN3 hT4 hN4 t03 t13 n03 n13 t04 t14 n04 n14
      go_wp2_with fail
      go_end0
      exact ⟨rfl, HF⟩
end Go.Proofs.YtdipmfdhnplpaaaGreatDoor
/- Package scope: a let. -/
namespace Go.Proofs.YtdipmfdhnplpaaaGreatDoor
open Go.RowKit
open M
variable {w0 : World} {L : Lay} {fs : List X.Fl} {M : Mem} {us : List X.U} {w : World}
/-- What expression does. -/
def TexOk (w0 : World) (L : Lay) (fs : List X.Fl) (lo hi f : Nat) (e : X.Ex) : Prop := ∀ (M : Mem) (us : List X.U) (w : World) (v bv : Value) (sc : List (List X.Nm)), Run w0 L fs M us w → MOk fs M → Idle M → IsE w lo hi v e → IsBk w w0.heap.size bv sc → us.length + (X.exU f (X.topA fs f) sc e).length ≤ 1073741824 →
  Calls Tryz.prog 60 #[.agg #[.pointer (some ⟨L.wb, 0, none⟩), .int .i64 f], v, bv] w fun en w' => en = .returned (.tuple #[]) ∧ Hid (Tld w0 L fs (us ++ X.exU f (X.topA fs f) sc e) w w')
theorem first_one (n : X.Nm) (x : List UInt8) : X.first [n] x = upd (fun _ => none) n.1 n.2 x := by
  unfold X.first upd
  by_cases e : x = n.1
  · subst e; simp
  · have : (n.1 == x) = false := by simpa using Ne.symm e
    simp [this, e]
theorem IsBk.ptr {B : Nat} {w : World} {v : Value} {sc : List (List X.Nm)} (h : IsBk w B v sc) : ∃ pa, v = .pointer pa := by cases h <;> exact ⟨_, rfl⟩
theorem mkMap (t : TypeId) (w : World) : (Instr.makeMap t none).run Tryz.prog w = .ok (.map (some w.heap.size)) (w.alloc (.map #[] 0)) := rfl
set_option maxRecDepth 100000 in
set_option maxHeartbeats 8000000 in
theorem tlet_any (f lo hi lb : Nat) (n : X.Nm) (v1 v2 bv : Value) (e1 e2 : X.Ex) (sc : List (List X.Nm)) (hv : Av L fs.length w0.heap.size lo hi) (h1 : TexOk w0 L fs lo hi f e1) (h2 : TexOk w0 L fs lo hi f e2) (hnB : X.nmB 268435456 n) (hlb : lo ≤ lb ∧ lb < hi)
    (hl : w.heap[lb]? = some (.cells #[.string (ba n.1), .int .i64 n.2, v1, v2] 275 (0, 0))) (q1 : IsE w lo hi v1 e1) (q2 : IsE w lo hi v2 e2) (h : Run w0 L fs M us w) (hM : MOk fs M) (hId : Idle M) (hbk : IsBk w w0.heap.size bv sc) (hlim : us.length + (X.exU f (X.topA fs f) sc (.lett n e1 e2)).length ≤ 1073741824) :
    Calls Tryz.prog 99 #[.agg #[.pointer (some ⟨L.wb, 0, none⟩), .int .i64 f], .pointer (some ⟨lb, 0, none⟩), bv] w fun en w' => en = .returned (.tuple #[]) ∧ Hid (Tld w0 L fs (us ++ X.exU f (X.topA fs f) sc (.lett n e1 e2)) w w') := by
  obtain ⟨y1, g1, rfl⟩ := q1.iface
  obtain ⟨y2, g2, rfl⟩ := q2.iface
  obtain ⟨pa, rfl⟩ := hbk.ptr
  have hmm := mkMap
  have kA : Below w.heap.size w (w.alloc (.cells #[.pointer (some ⟨L.wb, 0, none⟩), .int .i64 f] 93)) := (Below.refl _ w).alloc (Nat.le_refl _) _
  have hT0 := hide (heap_alloc_new w (.cells #[.pointer (some ⟨L.wb, 0, none⟩), .int .i64 f] 93))
  have h0 := h.size
  have hlw : lb < w0.heap.size := by have := hv.top; omega
  obtain ⟨nB1, nB2⟩ := hnB
  have hlen : n.1.length ≤ maxLen := by unfold maxLen; omega
  have hn2 : n.2 ≤ 9223372036854775807 := by omega
  have hS := h.st.lt
  have hul : X.exU f (X.topA fs f) sc (.lett n e1 e2) = X.ownU f n 2 0 ++ (X.exU f (X.topA fs f) sc e1 ++ X.exU f (X.topA fs f) ([n] :: sc) e2) := by rw [X.exU]
  rw [hul] at hlim ⊢
  generalize hE1 : X.exU f (X.topA fs f) sc e1 = E1 at *
  generalize hE2 : X.exU f (X.topA fs f) ([n] :: sc) e2 = E2 at *
  rw [List.length_append, List.length_append] at hlim
  have HV := hide hv
  have HB := hide hbk
  have Q1 := hide q1
  have Q2 := hide q2
  have HL := hide hl
  have HR := hide h
  have HM := hide hM
  have HI := hide hId
  have H1 := hide h1
  have H2 := hide h2
  have HE1 := hide hE1
  have HE2 := hide hE2
  have HKA := hide kA
  -- what the first name leaves
  have HC1 := hide (town_any f n 2 0 ((HR.out).below ((HKA.out).drew)) (by omega))
  clear hv hbk q1 q2 hl h hM hId h1 h2 hE1 hE2 kA hul
  have l0 := kcb HKA.out (by omega) (cell_of_row w _ 0 _ _ _ HL.out)
  have l1 := kcb HKA.out (by omega) (cell_of_row w _ 1 _ _ _ HL.out)
  go_enter Tryz.func99, Tryz.ntmps99
  go_wp2_with fail
  generalize w.alloc (.cells #[.pointer (some ⟨L.wb, 0, none⟩), .int .i64 f] 93) = W at *
  have t0 := cell_of_row W _ 0 _ _ _ hT0.out
  have t1 := cell_of_row W _ 1 _ _ _ hT0.out
  go_region_held3 (fun w' => w'.cell? ⟨w.heap.size, 0, none⟩ = some (.pointer (some ⟨L.wb, 0, none⟩)) ∧ w'.cell? ⟨w.heap.size, 1, none⟩ = some (.int .i64 f) ∧ w'.cell? ⟨lb, 0, none⟩ = some (.string (ba n.1)) ∧ w'.cell? ⟨lb, 1, none⟩ = some (.int .i64 n.2))
    (first | (with_reducible exact ⟨t0, t1, l0, l1⟩) | (with_reducible exact ⟨t02, t12, l02, l12⟩) | go_keep)
    ((go_at_call 59; refine (HC1.out).mono ?_; rintro e w2 ⟨rfl, X2⟩; have kx2 : Kx L fs.length w0.heap.size w w2 := (Kx.ofBelow (HKA.out).drew).trans (X2.out).2; have hT2 : w2.heap[w.heap.size]? = some (.cells #[.pointer (some ⟨L.wb, 0, none⟩), .int .i64 f] 93 (0, 0)) := (X2.out).2.made hS hT0.out h0 (fun cs d e => (by cases e)); have hl2 := Kp.heap kx2 HL.out ((HV.out).sx w lb hlb.1 hlb.2); have t02 := cell_of_row w2 _ 0 _ _ _ hT2; have t12 := cell_of_row w2 _ 1 _ _ _ hT2; have l02 := cell_of_row w2 _ 0 _ _ _ hl2; have l12 := cell_of_row w2 _ 1 _ _ _ hl2))
  have HT2 := hide hT2
  have HL2 := hide hl2
  have l22 := cell_of_row w2 _ 2 _ _ _ hl2
  have Q12 := hide ((Q1.out).keep kx2 ((HV.out).sx w))
  have Q22 := hide ((Q2.out).keep kx2 ((HV.out).sx w))
  have HB2 := hide ((HB.out).keep kx2 hS)
  have HR2 := hide (X2.out).1
  have KX2 := hide kx2
  have HC2 := hide ((H1.out) M _ w2.drew _ _ sc ((HR2.out).below ((Below.refl _ w2).drew)) HM.out HI.out ((Q12.out).keep (Kp.ofBelow ((Below.refl _ w2).drew) (fun _ => False)) (fun _ _ _ => id)) ((HB2.out).blw ((Below.refl _ w2).drew)) (by rw [HE1.out, List.length_append]; omega))
  clear hT2 hl2 kx2 X2 t0 t1 l0 l1 HC1 Q1 Q2 HB HL HR hT0 Q12 l12
  go_wp2_with fail
  go_region_held3 (fun w' => w'.cell? ⟨w.heap.size, 0, none⟩ = some (.pointer (some ⟨L.wb, 0, none⟩)) ∧ w'.cell? ⟨w.heap.size, 1, none⟩ = some (.int .i64 f) ∧ w'.cell? ⟨lb, 2, none⟩ = some (.iface y1 (.pointer (some ⟨g1, 0, none⟩))))
    (first | (with_reducible exact ⟨t02, t12, l22⟩) | (with_reducible exact ⟨t03, t13, l23⟩) | go_keep)
    ((go_at_call 60; refine (HC2.out).mono ?_; rintro e w3 ⟨rfl, X3⟩; obtain ⟨M3, r3, m3, i3, x3⟩ := X3.out; have kx3 : Kx L fs.length w0.heap.size w2 w3 := (Kx.ofBelow ((Below.refl _ w2).drew)).trans x3; have hT3 := kx3.made hS HT2.out h0 (fun cs d e => (by cases e)); have hl3 := Kp.heap kx3 HL2.out ((HV.out).sx w2 lb hlb.1 hlb.2); have t03 := cell_of_row w3 _ 0 _ _ _ hT3; have t13 := cell_of_row w3 _ 1 _ _ _ hT3; have l23 := cell_of_row w3 _ 2 _ _ _ hl3))
  have HT3 := hide hT3
  have HL3 := hide hl3
  have l03 := cell_of_row w3 _ 0 _ _ _ hl3
  have l13 := cell_of_row w3 _ 1 _ _ _ hl3
  have l33 := cell_of_row w3 _ 3 _ _ _ hl3
  have Q23 := hide ((Q22.out).keep kx3 ((HV.out).sx w2))
  have HB3 := hide ((HB2.out).keep kx3 hS)
  have HR3 := hide r3
  have HM3 := hide m3
  have HI3 := hide i3
  have KX3 : Hid (Kx L fs.length w0.heap.size w w3) := (KX2.out).trans kx3
  clear hT3 hl3 kx3 X3 r3 m3 i3 x3 HC2 t02 t12 l22 l02 Q22 HB2 HR2 HT2 HL2 KX2 l23
  -- the block of the let
  obtain ⟨w5, hri, hm5, hk5⟩ := (Mp.made w3.drew).run_put (by unfold maxLen; omega) (k := n.1) hlen (i := n.2) hn2
  have hri' : (Instr.mapUpdate 47 (.map (some w3.heap.size)) (.string (ba n.1)) (.int .i64 n.2)).run Tryz.prog (w3.alloc (.map #[] 0)).drew = .ok () w5 := hri
  have hz3 : w3.heap.size < (w3.drew.alloc (.map #[] 0)).heap.size := by show w3.heap.size < (w3.drew.alloc (.map #[] 0)).heap.size; rw [World.size_alloc]; exact Nat.lt_succ_self _
  have hz5 : w3.heap.size < w5.heap.size := Nat.lt_of_lt_of_le hz3 hk5.size
  have hk35 : Kp (fun q => q = w3.heap.size) w3 w5 := Kp.trans (((Kp.refl _ w3).drew).alloc _) hk5 (fun _ _ e => e)
  have hw3 : w0.heap.size ≤ w3.heap.size := (HR3.out).size
  have htl3 := heap_lt HT3.out
  have hne : ∀ q, q < w3.heap.size → ¬ q = w3.heap.size := fun q hq e => by omega
  have hT5 := hk35.heap HT3.out (hne _ htl3)
  have hl5 := hk35.heap HL3.out (hne _ (by omega))
  have kB : Below w5.heap.size w5 (w5.alloc (.cells #[.map (some w3.heap.size), .pointer pa] 218)) := (Below.refl _ w5).alloc (Nat.le_refl _) _
  have hR5 : Run w0 L fs M3 _ w5 := Run.map ((HR3.out).below (((Below.refl _ w3).drew).alloc (Nat.le_refl _) (.map #[] 0))) hk5 hw3 (Mp.obj (Mp.made w3.drew))
  have hkx5 : Kx L fs.length w0.heap.size w3 w5 := hk35.mono (fun q hq e => by omega)
  have hkx6 : Kx L fs.length w0.heap.size w3 (w5.alloc (.cells #[.map (some w3.heap.size), .pointer pa] 218)) := hkx5.trans (Kx.ofBelow kB)
  have hb6 : (w5.alloc (.cells #[.map (some w3.heap.size), .pointer pa] 218)).heap[w5.heap.size]? = some (.cells #[.map (some w3.heap.size), .pointer pa] 218 (0, 0)) := heap_alloc_new w5 _
  have hB6 : IsBk (w5.alloc (.cells #[.map (some w3.heap.size), .pointer pa] 218)) w0.heap.size (.pointer (some ⟨w5.heap.size, 0, none⟩)) ([n] :: sc) :=
    .cons _ _ _ [n] _ sc (by omega) hw3 hb6 ((hm5.below kB).congr (fun x => (first_one n x).symm)) ((HB3.out).keep hkx6 hS)
  have HC3 := hide ((H2.out) M3 _ _ _ _ ([n] :: sc) (hR5.below kB) HM3.out HI3.out ((Q23.out).keep hkx6 ((HV.out).sx w3)) hB6 (by rw [HE2.out, List.length_append, List.length_append, HE1.out]; omega))
  have HT6 := hide ((Kp.ofBelow kB (fun _ => False)).heap hT5 id)
  have HL6 := hide ((Kp.ofBelow kB (fun _ => False)).heap hl5 id)
  have HK6 := hide hkx6
  have t05 := cell_of_row w5 _ 0 _ _ _ hT5
  have t15 := cell_of_row w5 _ 1 _ _ _ hT5
  have l05 := cell_of_row w5 _ 0 _ _ _ hl5
  have l15 := cell_of_row w5 _ 1 _ _ _ hl5
  have l35 := cell_of_row w5 _ 3 _ _ _ hl5
  have t06 := cell_of_row _ _ 0 _ _ _ HT6.out
  have t16 := cell_of_row _ _ 1 _ _ _ HT6.out
  have l06 := cell_of_row _ _ 0 _ _ _ HL6.out
  have l16 := cell_of_row _ _ 1 _ _ _ HL6.out
  have l36 := cell_of_row _ _ 3 _ _ _ HL6.out
  have t04 := Lib.cell?_alloc_some (.map #[] 0) t03
  have t14 := Lib.cell?_alloc_some (.map #[] 0) t13
  have l04 := Lib.cell?_alloc_some (.map #[] 0) l03
  have l14 := Lib.cell?_alloc_some (.map #[] 0) l13
  have l34 := Lib.cell?_alloc_some (.map #[] 0) l33
  clear hm5 hk5 hz3 hk35 hT5 hl5 kB hR5 hkx5 hkx6 hb6 hB6 hne
  go_wp2_with fail
  go_region_held3 (fun w' => w'.cell? ⟨w.heap.size, 0, none⟩ = some (.pointer (some ⟨L.wb, 0, none⟩)) ∧ w'.cell? ⟨w.heap.size, 1, none⟩ = some (.int .i64 f) ∧ w'.cell? ⟨lb, 0, none⟩ = some (.string (ba n.1)) ∧ w'.cell? ⟨lb, 1, none⟩ = some (.int .i64 n.2) ∧ w'.cell? ⟨lb, 3, none⟩ = some (.iface y2 (.pointer (some ⟨g2, 0, none⟩))))
    (first | (with_reducible exact ⟨t03, t13, l03, l13, l33⟩) | (with_reducible exact ⟨t04, t14, l04, l14, l34⟩) | (with_reducible exact ⟨t05, t15, l05, l15, l35⟩) | (with_reducible exact ⟨t06, t16, l06, l16, l36⟩) | (with_reducible exact ⟨t07, t17, l07, l17, l37⟩) | go_keep)
    ((go_at_call 60; refine (HC3.out).mono ?_; rintro e w7 ⟨rfl, X7⟩; obtain ⟨M7, r7, m7, i7, x7⟩ := X7.out; have hT7 := x7.made hS HT6.out h0 (fun cs d e => (by cases e)); have hl7 := Kp.heap x7 HL6.out ((HV.out).sx _ lb hlb.1 hlb.2); have t07 := cell_of_row w7 _ 0 _ _ _ hT7; have t17 := cell_of_row w7 _ 1 _ _ _ hT7; have l07 := cell_of_row w7 _ 0 _ _ _ hl7; have l17 := cell_of_row w7 _ 1 _ _ _ hl7; have l37 := cell_of_row w7 _ 3 _ _ _ hl7))
  have HF : Hid (Tld w0 L fs (us ++ (X.ownU f n 2 0 ++ (E1 ++ E2))) w w7) := by
    refine ⟨M7, ?_, m7, i7, ((KX3.out).trans HK6.out).trans x7⟩
    rw [HE1.out, HE2.out] at r7
    simpa [List.append_assoc] using r7
  clear X7 r7 m7 i7 x7 hT7 hl7 t07 t17 l07 l17 l37
  go_wp2_with fail
  go_end0
  exact ⟨rfl, HF⟩
end Go.Proofs.YtdipmfdhnplpaaaGreatDoor
/- Package scope: the names in an expression: NVar, NLet, NFun; all kinds. -/
namespace Go.Proofs.YtdipmfdhnplpaaaGreatDoor
open Go.RowKit
open M
variable {w0 : World} {L : Lay} {fs : List X.Fl} {M : Mem} {us : List X.U} {w : World}
theorem asVarV (b : Nat) (w : World) : (Instr.typeAssert (.iface 203 (.pointer (some ⟨b, 0, none⟩))) 155 203 true).run Tryz.prog w = .ok (.tuple #[.pointer (some ⟨b, 0, none⟩), .bool true]) w := by kernel_rfl
theorem asLetV (b : Nat) (w : World) : (Instr.typeAssert (.iface 208 (.pointer (some ⟨b, 0, none⟩))) 155 203 true).run Tryz.prog w = .ok (.tuple #[.pointer none, .bool false]) w := by kernel_rfl
theorem asLetL (b : Nat) (w : World) : (Instr.typeAssert (.iface 208 (.pointer (some ⟨b, 0, none⟩))) 155 208 true).run Tryz.prog w = .ok (.tuple #[.pointer (some ⟨b, 0, none⟩), .bool true]) w := by kernel_rfl
theorem asFunV (b : Nat) (w : World) : (Instr.typeAssert (.iface 211 (.pointer (some ⟨b, 0, none⟩))) 155 203 true).run Tryz.prog w = .ok (.tuple #[.pointer none, .bool false]) w := by kernel_rfl
theorem asFunL (b : Nat) (w : World) : (Instr.typeAssert (.iface 211 (.pointer (some ⟨b, 0, none⟩))) 155 208 true).run Tryz.prog w = .ok (.tuple #[.pointer none, .bool false]) w := by kernel_rfl
theorem asFunF (b : Nat) (w : World) : (Instr.typeAssert (.iface 211 (.pointer (some ⟨b, 0, none⟩))) 155 211 true).run Tryz.prog w = .ok (.tuple #[.pointer (some ⟨b, 0, none⟩), .bool true]) w := by kernel_rfl
theorem Tld.below {w1 w' : World} (hb : Below w.heap.size w w1) (h : Tld w0 L fs us w1 w') : Tld w0 L fs us w w' := by
  obtain ⟨M, a, b, c, d⟩ := h
  exact ⟨M, a, b, c, (Kx.ofBelow hb).trans d⟩
set_option maxRecDepth 100000 in
set_option maxHeartbeats 4000000 in
theorem texprVar (f lo hi b : Nat) (n : X.Nm) (sc : List (List X.Nm)) (bv : Value) (hf : f < fs.length) (hv : Av L fs.length w0.heap.size lo hi) (hnB : X.nmB 268435456 n) (hb : lo ≤ b ∧ b < hi) (hcell : w.heap[b]? = some (.cells #[.string (ba n.1), .int .i64 n.2] 207 (0, 0)))
    (h : Run w0 L fs M us w) (hM : MOk fs M) (hId : Idle M) (hbk : IsBk w w0.heap.size bv sc) (hlim : us.length + (X.exU f (X.topA fs f) sc (.var n)).length ≤ 1073741824) :
    Calls Tryz.prog 60 #[.agg #[.pointer (some ⟨L.wb, 0, none⟩), .int .i64 f], .iface 203 (.pointer (some ⟨b, 0, none⟩)), bv] w fun en w' => en = .returned (.tuple #[]) ∧ Hid (Tld w0 L fs (us ++ X.exU f (X.topA fs f) sc (.var n)) w w') := by
  have av := asVarV b
  have kA : Below w.heap.size w (w.alloc (.cells #[.pointer (some ⟨L.wb, 0, none⟩), .int .i64 f] 93)) := (Below.refl _ w).alloc (Nat.le_refl _) _
  have hT0 := hide (heap_alloc_new w (.cells #[.pointer (some ⟨L.wb, 0, none⟩), .int .i64 f] 93))
  have hbl := heap_lt hcell
  have v0 := kcb kA hbl (cell_of_row w _ 0 _ _ _ hcell)
  have v1 := kcb kA hbl (cell_of_row w _ 1 _ _ _ hcell)
  have h0 := h.size
  have hS := h.st.lt
  have hc1 := (Kp.ofBelow kA.drew (fun _ => False)).heap hcell id
  have HC := hide (tvariable_any f hf n hnB bv sc (h.below kA.drew) hM hId (hbk.blw kA.drew) _ rfl hlim)
  have HKA := hide kA
  have HV := hide hv
  have HCL := hide hc1
  clear kA hcell h hM hId hbk hlim hv hc1
  go_enter Tryz.func60, Tryz.ntmps60
  go_wp2_with fail
  generalize w.alloc (.cells #[.pointer (some ⟨L.wb, 0, none⟩), .int .i64 f] 93) = W at *
  have t0 := cell_of_row W _ 0 _ _ _ hT0.out
  have t1 := cell_of_row W _ 1 _ _ _ hT0.out
  go_region_held3 (fun w' => w'.cell? ⟨w.heap.size, 0, none⟩ = some (.pointer (some ⟨L.wb, 0, none⟩)) ∧ w'.cell? ⟨w.heap.size, 1, none⟩ = some (.int .i64 f) ∧ w'.cell? ⟨b, 0, none⟩ = some (.string (ba n.1)) ∧ w'.cell? ⟨b, 1, none⟩ = some (.int .i64 n.2))
    (first | (with_reducible exact ⟨t0, t1, v0, v1⟩) | (with_reducible exact ⟨t02, t12, v02, v12⟩) | go_keep)
    ((go_at_call 98; refine (HC.out).mono ?_; rintro e w2 ⟨rfl, X2⟩; obtain ⟨M2, r2, m2, i2, x2⟩ := X2.out; have hT2 := x2.made hS hT0.out h0 (fun cs d e => (by cases e)); have hc2 := Kp.heap x2 HCL.out ((HV.out).sx _ b hb.1 hb.2); have t02 := cell_of_row w2 _ 0 _ _ _ hT2; have t12 := cell_of_row w2 _ 1 _ _ _ hT2; have v02 := cell_of_row w2 _ 0 _ _ _ hc2; have v12 := cell_of_row w2 _ 1 _ _ _ hc2))
  have HF := hide (Tld.below (HKA.out).drew X2.out)
  clear HC X2 r2 m2 i2 x2 hT2 hc2 t02 t12 v02 v12 t0 t1 v0 v1
  go_wp2_with fail
  go_end0
  exact ⟨rfl, HF⟩
set_option maxRecDepth 100000 in
set_option maxHeartbeats 4000000 in
theorem texprLet (f lo hi b : Nat) (n : X.Nm) (v1 v2 : Value) (e1 e2 : X.Ex) (sc : List (List X.Nm)) (bv : Value) (hv : Av L fs.length w0.heap.size lo hi) (h1 : TexOk w0 L fs lo hi f e1) (h2 : TexOk w0 L fs lo hi f e2) (hnB : X.nmB 268435456 n) (hb : lo ≤ b ∧ b < hi) (hcell : w.heap[b]? = some (.cells #[.string (ba n.1), .int .i64 n.2, v1, v2] 275 (0, 0))) (q1 : IsE w lo hi v1 e1) (q2 : IsE w lo hi v2 e2)
    (h : Run w0 L fs M us w) (hM : MOk fs M) (hId : Idle M) (hbk : IsBk w w0.heap.size bv sc) (hlim : us.length + (X.exU f (X.topA fs f) sc (.lett n e1 e2)).length ≤ 1073741824) :
    Calls Tryz.prog 60 #[.agg #[.pointer (some ⟨L.wb, 0, none⟩), .int .i64 f], .iface 208 (.pointer (some ⟨b, 0, none⟩)), bv] w fun en w' => en = .returned (.tuple #[]) ∧ Hid (Tld w0 L fs (us ++ X.exU f (X.topA fs f) sc (.lett n e1 e2)) w w') := by
  have av := asLetV b
  have al := asLetL b
  have kA : Below w.heap.size w (w.alloc (.cells #[.pointer (some ⟨L.wb, 0, none⟩), .int .i64 f] 93)) := (Below.refl _ w).alloc (Nat.le_refl _) _
  have hk := Kp.ofBelow kA (fun _ => False)
  have HC := hide (tlet_any f lo hi b n v1 v2 bv e1 e2 sc hv h1 h2 hnB hb (hk.heap hcell id) (q1.keep hk (fun _ _ _ => id)) (q2.keep hk (fun _ _ _ => id)) (h.below kA) hM hId (hbk.blw kA) hlim)
  have HKA := hide kA
  clear kA hcell h hM hId hbk hlim hv hk h1 h2 q1 q2
  go_enter Tryz.func60, Tryz.ntmps60
  go_wp2_with fail
  refine (HC.out).mono ?_
  rintro e w2 ⟨rfl, X2⟩
  have HF := hide (Tld.below HKA.out X2.out)
  clear HC X2
  go_wp2_with fail
  go_end0
  exact ⟨rfl, HF⟩
set_option maxRecDepth 100000 in
set_option maxHeartbeats 4000000 in
theorem texprFun (f lo hi b pb : Nat) (ns : List X.Nm) (v1 : Value) (e1 : X.Ex) (sc : List (List X.Nm)) (bv : Value) (hv : Av L fs.length w0.heap.size lo hi) (h1 : TexOk w0 L fs lo hi f e1) (hnB : ∀ n ∈ ns, X.nmB 268435456 n) (hb : lo ≤ b ∧ b < hi) (hcell : w.heap[b]? = some (.cells #[.pointer (some ⟨pb, 0, none⟩), v1] 214 (0, 0))) (hp : IsPar w lo hi pb ns) (q1 : IsE w lo hi v1 e1)
    (h : Run w0 L fs M us w) (hM : MOk fs M) (hId : Idle M) (hbk : IsBk w w0.heap.size bv sc) (hlim : us.length + (X.exU f (X.topA fs f) sc (.fn ns e1)).length ≤ 1073741824) :
    Calls Tryz.prog 60 #[.agg #[.pointer (some ⟨L.wb, 0, none⟩), .int .i64 f], .iface 211 (.pointer (some ⟨b, 0, none⟩)), bv] w fun en w' => en = .returned (.tuple #[]) ∧ Hid (Tld w0 L fs (us ++ X.exU f (X.topA fs f) sc (.fn ns e1)) w w') := by
  have av := asFunV b
  have al := asFunL b
  have af := asFunF b
  obtain ⟨y1, g1, rfl⟩ := q1.iface
  have kA : Below w.heap.size w (w.alloc (.cells #[.pointer (some ⟨L.wb, 0, none⟩), .int .i64 f] 93)) := (Below.refl _ w).alloc (Nat.le_refl _) _
  have hT0 := hide (heap_alloc_new w (.cells #[.pointer (some ⟨L.wb, 0, none⟩), .int .i64 f] 93))
  have hbl := heap_lt hcell
  have v0 := kcb kA hbl (cell_of_row w _ 0 _ _ _ hcell)
  have v1 := kcb kA hbl (cell_of_row w _ 1 _ _ _ hcell)
  have h0 := h.size
  have hS := h.st.lt
  have hkd := Kp.ofBelow kA.drew (fun _ => False)
  have hul : X.exU f (X.topA fs f) sc (.fn ns e1) = X.parU f [] ns ++ X.exU f (X.topA fs f) (ns :: sc) e1 := by rw [X.exU]
  rw [hul] at hlim ⊢
  rw [List.length_append] at hlim
  have HC := hide (tparams_any f lo hi pb ns bv sc hv (hp.keep hkd (fun _ _ _ => id)) hnB (h.below kA.drew) (hbk.blw kA.drew) (by omega))
  have HC2 : Hid (∀ w2 bp, Run w0 L fs M (us ++ X.parU f [] ns) w2 → IsE w2 lo hi (.iface y1 (.pointer (some ⟨g1, 0, none⟩))) e1 → IsBk w2 w0.heap.size bp (ns :: sc) → Calls Tryz.prog 60 #[.agg #[.pointer (some ⟨L.wb, 0, none⟩), .int .i64 f], .iface y1 (.pointer (some ⟨g1, 0, none⟩)), bp] w2 fun en w' => en = .returned (.tuple #[]) ∧ Hid (Tld w0 L fs ((us ++ X.parU f [] ns) ++ X.exU f (X.topA fs f) (ns :: sc) e1) w2 w')) := fun w2 bp hr he hb2 => h1 M _ w2 _ bp (ns :: sc) hr hM hId he hb2 (by rw [List.length_append]; omega)
  have HKA := hide kA
  have HV := hide hv
  have HCL := hide (hkd.heap hcell id)
  have HQ := hide (q1.keep hkd (fun _ _ _ => id))
  clear kA hcell h hM hId hbk hlim hv hkd h1 q1 hp hul hnB
  go_enter Tryz.func60, Tryz.ntmps60
  go_wp2_with fail
  generalize w.alloc (.cells #[.pointer (some ⟨L.wb, 0, none⟩), .int .i64 f] 93) = W at *
  have t0 := cell_of_row W _ 0 _ _ _ hT0.out
  have t1 := cell_of_row W _ 1 _ _ _ hT0.out
  go_region_held3 (fun w' => w'.cell? ⟨w.heap.size, 0, none⟩ = some (.pointer (some ⟨L.wb, 0, none⟩)) ∧ w'.cell? ⟨w.heap.size, 1, none⟩ = some (.int .i64 f) ∧ w'.cell? ⟨b, 0, none⟩ = some (.pointer (some ⟨pb, 0, none⟩)) ∧ w'.cell? ⟨b, 1, none⟩ = some (.iface y1 (.pointer (some ⟨g1, 0, none⟩))))
    (first | (with_reducible exact ⟨t0, t1, v0, v1⟩) | (with_reducible exact ⟨t02, t12, v02, v12⟩) | (with_reducible exact ⟨t03, t13, v03, v13⟩) | go_keep)
    ((first
      | (go_at_call 61; refine (HC.out).mono ?_; rintro e w2 ⟨nb, rfl, X2⟩; have r2 := (X2.out).1; have x2 := (X2.out).2.1; have hT2 := x2.made hS hT0.out h0 (fun cs d e => (by cases e)); have hc2 := Kp.heap x2 HCL.out ((HV.out).sx _ b hb.1 hb.2); have t02 := cell_of_row w2 _ 0 _ _ _ hT2; have t12 := cell_of_row w2 _ 1 _ _ _ hT2; have v02 := cell_of_row w2 _ 0 _ _ _ hc2; have v12 := cell_of_row w2 _ 1 _ _ _ hc2; have HC3 := hide ((HC2.out) w2 _ r2 ((HQ.out).keep x2 ((HV.out).sx _)) (X2.out).2.2))
      | (go_at_call 60; refine (HC3.out).mono ?_; rintro e w3 ⟨rfl, X3⟩; obtain ⟨M3, r3, m3, i3, x3⟩ := X3.out; have hT3 := x3.made hS hT2 h0 (fun cs d e => (by cases e)); have hc3 := Kp.heap x3 hc2 ((HV.out).sx _ b hb.1 hb.2); have t03 := cell_of_row w3 _ 0 _ _ _ hT3; have t13 := cell_of_row w3 _ 1 _ _ _ hT3; have v03 := cell_of_row w3 _ 0 _ _ _ hc3; have v13 := cell_of_row w3 _ 1 _ _ _ hc3)))
  have HF : Hid (Tld w0 L fs (us ++ (X.parU f [] ns ++ X.exU f (X.topA fs f) (ns :: sc) e1)) w w3) := by
    refine ⟨M3, ?_, m3, i3, ((Kx.ofBelow (HKA.out).drew).trans x2).trans x3⟩
    rw [← List.append_assoc]; exact r3
  clear HC X2 r2 x2 hT2 hc2 t02 t12 v02 v12 t0 t1 v0 v1 X3 r3 m3 i3 x3 hT3 hc3 t03 t13 v03 v13 HC3
  go_wp2_with fail
  go_end0
  exact ⟨rfl, HF⟩
end Go.Proofs.YtdipmfdhnplpaaaGreatDoor
