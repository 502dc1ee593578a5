/- The program's reader of messages: Parse. -/
import Derived.Test.YthdbnafiindgbaaGreatDoorWph
namespace Go.Proofs.YthdbnafiindgbaaGreatDoor
open Go.RowKit
open Wi

/-- What comes of a message. -/
def OkM (w : World) (P : World → World → Prop) (s : ByteArray) (en : Ending) (w' : World) : Prop := P w w' ∧ match parse (bs s) with
  | .ok j _ => ∃ v, en = .returned (.tuple #[v, .int .i64 0, .nilIface]) ∧ IsX w' (fun q => w.heap.size ≤ q) v j
  | .bad e n => en = .returned (.tuple #[.agg #[.int .i64 0, .int .i64 0, .string ⟨#[]⟩, .slice none 0 0, .slice none 0 0], .int .i64 (s.size - n : Nat), .iface 47 (.int .i64 e)])
theorem pos_full (s : ByteArray) : pos s (bs s) = 0 := by unfold pos; rw [bs_len]; omega
theorem heap3 (w : World) (a b c : Obj) : (((w.alloc a).alloc b).alloc c).heap[w.heap.size]? = some a ∧ (((w.alloc a).alloc b).alloc c).heap[w.heap.size + 1]? = some b ∧ (((w.alloc a).alloc b).alloc c).heap[w.heap.size + 1 + 1]? = some c := by
  refine ⟨?_, ?_, ?_⟩
  · rw [Below.heap_alloc _ _ _ (by simp; omega), Below.heap_alloc _ _ _ (by simp)]; exact heap_alloc_new w _
  · rw [Below.heap_alloc _ _ _ (by simp)]
    have := heap_alloc_new (w.alloc a) b
    simpa using this
  · have := heap_alloc_new ((w.alloc a).alloc b) c
    simpa using this
theorem Ow.three {sb n : Nat} {w w3 w' : World} (k3 : Ow sb w w3) (hn : w.heap.size ≤ n) (k : Kp (fun q => q = n ∨ q = n + 1 ∨ q = n + 1 + 1) w3 w') : Ow sb w w' :=
  Kp.trans k3 k (fun q hq e => by rcases e with e | e | e <;> omega)
/-- Behind a fault: what message tells. -/
theorem msg_end {sb n : Nat} {w w3 w' : World} {s : ByteArray} {e k : Nat} (hp : parse (bs s) = .bad e k) (k3 : Ow sb w w3) (hn : w.heap.size ≤ n) (kk : Kp (fun q => q = n ∨ q = n + 1 ∨ q = n + 1 + 1) w3 w') :
    OkM w (Ow sb) s (.returned (.tuple #[.agg #[.int .i64 0, .int .i64 0, .string ⟨#[]⟩, .slice none 0 0, .slice none 0 0], .int .i64 (s.size - k : Nat), .iface 47 (.int .i64 e)])) w' := by
  unfold OkM
  rw [hp]
  exact ⟨k3.three hn kk, rfl⟩
set_option maxRecDepth 100000 in
set_option maxHeartbeats 4000000 in
theorem omessage_bad (sb : Nat) (s : ByteArray) (w : World) (hs : s.size ≤ 1073741824) (h : RawS w sb s 0 0) (hE : Es w) (hne : sb ≠ 1) (e n : Nat) (hv : val 40 (bs s) = .bad e n) :
    Calls Tryz.prog 8 #[.pointer (some ⟨sb, 0, none⟩)] w fun en w' => OkM w (Ow sb) s en w' := by
  have HE : Hid (parse (bs s) = .bad e n) := by show _ = _; unfold parse; rw [hv]
  have hmf : ∀ (fn : Fn) (first cap : Array Value) (w : World), (Instr.makeFunc fn first cap).run Tryz.prog w = .ok (.func fn first cap) w := fun _ _ _ _ => rfl
  have hal1 := (Below.refl _ w).alloc (Nat.le_refl _) (.cells #[.int .i64 0, .int .i64 0, .string ⟨#[]⟩, .slice none 0 0, .slice none 0 0] 25)
  have hal2 := hal1.alloc (by simp) (.cells #[.int .i64 0] 3)
  have hal3 := hal2.alloc (by simp; omega) (.cells #[.nilIface] 27)
  have HV := hide (val_all 40 (Nat.le_refl _) sb s (bs s) _ hs ⟨[], rfl⟩ (by rw [pos_full]; exact h.below hal3) (hE.below hal3) hne)
  rw [hv] at HV
  have hsl := h.lt
  have HA := hide (Ow.ofBelow sb hal3)
  obtain ⟨e1, e2, e3⟩ := heap3 w (.cells #[.int .i64 0, .int .i64 0, .string ⟨#[]⟩, .slice none 0 0, .slice none 0 0] 25) (.cells #[.int .i64 0] 3) (.cells #[.nilIface] 27)
  have H1 := hide e1
  have H2 := hide e2
  have H3 := hide e3
  clear h hE hne hv hal1 hal2 hal3 e1 e2 e3
  go_enter_defers Tryz.func8, Tryz.ntmps8
  go_wp2_with fail
  refine (HV.out).mono ?_
  rintro en w3 ⟨k3, rfl⟩
  have h1 := k3.heap H1.out (fun e => by omega)
  have h2 := k3.heap H2.out (fun e => by omega)
  have h3 := k3.heap H3.out (fun e => by omega)
  have HC := hide (mcatch_panicking w.heap.size (w.heap.size + 1) (w.heap.size + 1 + 1) (s.size - n : Nat) e [] w3 _ _ _ rfl h1 h2 h3)
  have HM := hide (fun w' => msg_end (w' := w') HE.out ((HA.out).to k3) (Nat.le_refl _))
  clear HV HE HA H1 H2 H3 k3 h1 h2 h3
  go_wp2_with fail
  refine leaves_cons (f := 14) (args := #[.pointer (some ⟨w.heap.size, 0, none⟩), .pointer (some ⟨w.heap.size + 1, 0, none⟩), .pointer (some ⟨w.heap.size + 1 + 1, 0, none⟩)]) (by simp) (by simp [go_sem]) ?_
  refine (HC.out).mono ?_
  rintro en u' w'' ⟨rfl, rfl, kk, ej, ea, ee⟩
  have HF := hide ((HM.out) w'' kk)
  have c0 : w''.cell? ⟨w.heap.size, 0, none⟩ = some (.int .i64 0) := by simp [World.cell?, ej]
  have c1 : w''.cell? ⟨w.heap.size, 1, none⟩ = some (.int .i64 0) := by simp [World.cell?, ej]
  have c2 : w''.cell? ⟨w.heap.size, 2, none⟩ = some (.string ⟨#[]⟩) := by simp [World.cell?, ej]
  have c3 : w''.cell? ⟨w.heap.size, 3, none⟩ = some (.slice none 0 0) := by simp [World.cell?, ej]
  have c4 : w''.cell? ⟨w.heap.size, 4, none⟩ = some (.slice none 0 0) := by simp [World.cell?, ej]
  have ca : w''.cell? ⟨w.heap.size + 1, 0, none⟩ = some (.int .i64 (s.size - n : Nat)) := by simp [World.cell?, ea]
  have ce : w''.cell? ⟨w.heap.size + 1 + 1, 0, none⟩ = some (.iface 47 (.int .i64 e)) := by simp [World.cell?, ee]
  clear ej ea ee kk HM HC
  simp [Leaves, settle, results, Tryz.results8, go_sem, c0, c1, c2, c3, c4, ca, ce]
  exact HF.out
set_option maxRecDepth 100000 in
set_option maxHeartbeats 4000000 in
theorem omessage_ok (sb : Nat) (s : ByteArray) (w : World) (hs : s.size ≤ 1073741824) (h : RawS w sb s 0 0) (hE : Es w) (hne : sb ≠ 1) (j : J) (r : List UInt8) (hv : val 40 (bs s) = .ok j r) :
    Calls Tryz.prog 8 #[.pointer (some ⟨sb, 0, none⟩)] w fun en w' => OkM w (Ow sb) s en w' := by
  have HE : Hid (parse (bs s) = match bla r with | [] => .ok j [] | _ :: t => .bad 3 (t.length + 1)) := by show _ = _; unfold parse; rw [hv]; rfl
  have hmf : ∀ (fn : Fn) (first cap : Array Value) (w : World), (Instr.makeFunc fn first cap).run Tryz.prog w = .ok (.func fn first cap) w := fun _ _ _ _ => rfl
  have hal1 := (Below.refl _ w).alloc (Nat.le_refl _) (.cells #[.int .i64 0, .int .i64 0, .string ⟨#[]⟩, .slice none 0 0, .slice none 0 0] 25)
  have hal2 := hal1.alloc (by simp) (.cells #[.int .i64 0] 3)
  have hal3 := hal2.alloc (by simp; omega) (.cells #[.nilIface] 27)
  have HV := hide (val_all 40 (Nat.le_refl _) sb s (bs s) _ hs ⟨[], rfl⟩ (by rw [pos_full]; exact h.below hal3) (hE.below hal3) hne)
  rw [hv] at HV
  have hsr : Sfx s r := val_sfx 40 (bs s) j r hv
  have hsl := h.lt
  have HA := hide (Ow.ofBelow sb hal3)
  obtain ⟨e1, e2, e3⟩ := heap3 w (.cells #[.int .i64 0, .int .i64 0, .string ⟨#[]⟩, .slice none 0 0, .slice none 0 0] 25) (.cells #[.int .i64 0] 3) (.cells #[.nilIface] 27)
  have H1 := hide e1
  have H2 := hide e2
  have H3 := hide e3
  have hsz : (((w.alloc (.cells #[.int .i64 0, .int .i64 0, .string ⟨#[]⟩, .slice none 0 0, .slice none 0 0] 25)).alloc (.cells #[.int .i64 0] 3)).alloc (.cells #[.nilIface] 27)).heap.size = w.heap.size + 1 + 1 + 1 := by simp
  clear h hE hne hv hal1 hal2 hal3 e1 e2 e3
  go_enter_defers Tryz.func8, Tryz.ntmps8
  go_wp2_with fail
  refine (HV.out).mono ?_
  rintro en w3 ⟨k3, v, rfl, hx, hr⟩
  obtain ⟨v1, v2, v3, u1, u2, u3, y1, y2, y3, rfl⟩ := hx.shape5
  have h1 := k3.heap H1.out (fun e => by omega)
  have h2 := k3.heap H2.out (fun e => by omega)
  have h3 := k3.heap H3.out (fun e => by omega)
  have kA := (HA.out).to k3
  rw [hsz] at hx
  have hs3 := k3.size
  rw [hsz] at hs3
  clear HV HA H1 H2 H3 k3 hsz
  have c0 : w3.cell? ⟨w.heap.size, 0, none⟩ = some (.int .i64 0) := by simp [World.cell?, h1]
  have c1 : w3.cell? ⟨w.heap.size, 1, none⟩ = some (.int .i64 0) := by simp [World.cell?, h1]
  have c2 : w3.cell? ⟨w.heap.size, 2, none⟩ = some (.string ⟨#[]⟩) := by simp [World.cell?, h1]
  have c3 : w3.cell? ⟨w.heap.size, 3, none⟩ = some (.slice none 0 0) := by simp [World.cell?, h1]
  have c4 : w3.cell? ⟨w.heap.size, 4, none⟩ = some (.slice none 0 0) := by simp [World.cell?, h1]
  have f0 : ∀ k, w3.frozen? ⟨w.heap.size, k, none⟩ = false := fun k => by simp [World.frozen?, h1]
  have g0 := f0 0
  have g1 := f0 1
  have g2 := f0 2
  have g3 := f0 3
  have g4 := f0 4
  have kj : Kp (fun x => x = w.heap.size) w3 (((((w3.setCell ⟨w.heap.size, 0, none⟩ (.int .i64 v1)).setCell ⟨w.heap.size, 1, none⟩ (.int .i64 v2)).setCell ⟨w.heap.size, 2, none⟩ (.string v3)).setCell ⟨w.heap.size, 3, none⟩ (.slice u1 u2 u3)).setCell ⟨w.heap.size, 4, none⟩ (.slice y1 y2 y3)) := Kp.five w3 w.heap.size 0 _ _ _ _ _
  have ej : (((((w3.setCell ⟨w.heap.size, 0, none⟩ (.int .i64 v1)).setCell ⟨w.heap.size, 1, none⟩ (.int .i64 v2)).setCell ⟨w.heap.size, 2, none⟩ (.string v3)).setCell ⟨w.heap.size, 3, none⟩ (.slice u1 u2 u3)).setCell ⟨w.heap.size, 4, none⟩ (.slice y1 y2 y3)).heap[w.heap.size]? = some (.cells #[.int .i64 v1, .int .i64 v2, .string v3, .slice u1 u2 u3, .slice y1 y2 y3] 25 (0, 0)) := by
    have := set_blkB (set_blkB (set_blkB (set_blkB (set_blkB h1 0 (.int .i64 v1)) 1 (.int .i64 v2)) 2 (.string v3)) 3 (.slice u1 u2 u3)) 4 (.slice y1 y2 y3)
    simpa using this
  have H1 := hide ej
  have H2 := hide (kj.heap h2 (fun e => by omega))
  have H3 := hide (kj.heap h3 (fun e => by omega))
  have HX := hide (hx.keep kj (fun q hq e => by have : q = w.heap.size := e; omega))
  have hr4 := hr.keep kj (fun e => by have : sb = w.heap.size := e; omega)
  have HB := hide (oblanks_any sb s r _ _ hs hsr hr4)
  have HA : Hid (Ow sb w (((((w3.setCell ⟨w.heap.size, 0, none⟩ (.int .i64 v1)).setCell ⟨w.heap.size, 1, none⟩ (.int .i64 v2)).setCell ⟨w.heap.size, 2, none⟩ (.string v3)).setCell ⟨w.heap.size, 3, none⟩ (.slice u1 u2 u3)).setCell ⟨w.heap.size, 4, none⟩ (.slice y1 y2 y3))) := Kp.trans kA kj (fun q hq e => by have : q = w.heap.size := e; omega)
  have hs4 : w.heap.size + 1 + 1 + 1 ≤ (((((w3.setCell ⟨w.heap.size, 0, none⟩ (.int .i64 v1)).setCell ⟨w.heap.size, 1, none⟩ (.int .i64 v2)).setCell ⟨w.heap.size, 2, none⟩ (.string v3)).setCell ⟨w.heap.size, 3, none⟩ (.slice u1 u2 u3)).setCell ⟨w.heap.size, 4, none⟩ (.slice y1 y2 y3)).heap.size := Nat.le_trans hs3 kj.size
  clear h1 h2 h3 hx hr kA f0 kj ej hr4
  go_wp2_with fail
  clear c0 c1 c2 c3 c4 g0 g1 g2 g3 g4
  generalize (((((w3.setCell ⟨w.heap.size, 0, none⟩ (.int .i64 v1)).setCell ⟨w.heap.size, 1, none⟩ (.int .i64 v2)).setCell ⟨w.heap.size, 2, none⟩ (.string v3)).setCell ⟨w.heap.size, 3, none⟩ (.slice u1 u2 u3)).setCell ⟨w.heap.size, 4, none⟩ (.slice y1 y2 y3)) = w4 at *
  refine (HB.out).mono ?_
  rintro en w5 ⟨rfl, h5, k5⟩
  have hps := (hsr.mono (bla_sfx r)).pos
  have h1 := k5.heap H1.out (fun e => by omega)
  have h2 := k5.heap H2.out (fun e => by omega)
  have h3 := k5.heap H3.out (fun e => by omega)
  have hx := (HX.out).keep k5 (fun q hq e => by have : q = sb := e; omega)
  have kA := (HA.out).to k5
  obtain ⟨⟨c0, c1, c2⟩, -, -⟩ := h5.facts
  clear HB H1 H2 H3 HX HA k5
  cases hb : bla r with
  | nil =>
    have HP : Hid (parse (bs s) = .ok j []) := by show _ = _; rw [HE.out, hb]
    rw [hb] at c1 hps
    rw [pos_nil] at c1
    have d0 : w5.cell? ⟨w.heap.size, 0, none⟩ = some (.int .i64 v1) := by simp [World.cell?, h1]
    have d1 : w5.cell? ⟨w.heap.size, 1, none⟩ = some (.int .i64 v2) := by simp [World.cell?, h1]
    have d2 : w5.cell? ⟨w.heap.size, 2, none⟩ = some (.string v3) := by simp [World.cell?, h1]
    have d3 : w5.cell? ⟨w.heap.size, 3, none⟩ = some (.slice u1 u2 u3) := by simp [World.cell?, h1]
    have d4 : w5.cell? ⟨w.heap.size, 4, none⟩ = some (.slice y1 y2 y3) := by simp [World.cell?, h1]
    have f0 : ∀ k, w5.frozen? ⟨w.heap.size, k, none⟩ = false := fun k => by simp [World.frozen?, h1]
    have g0 := f0 0
    have g1 := f0 1
    have g2 := f0 2
    have g3 := f0 3
    have g4 := f0 4
    have p0 : w5.cell? ⟨w.heap.size + 1, 0, none⟩ = some (.int .i64 0) := by simp [World.cell?, h2]
    have p1 : w5.frozen? ⟨w.heap.size + 1, 0, none⟩ = false := by simp [World.frozen?, h2]
    have q0 : w5.cell? ⟨w.heap.size + 1 + 1, 0, none⟩ = some .nilIface := by simp [World.cell?, h3]
    have q1 : w5.frozen? ⟨w.heap.size + 1 + 1, 0, none⟩ = false := by simp [World.frozen?, h3]
    have H1 := hide h1
    have H2 := hide h2
    have H3 := hide h3
    have HX := hide hx
    have HA := hide kA
    clear h1 h2 h3 hx kA f0 h5 HE hb
    go_wp2_with fail
    go_quiet (fail)
    go_wp2_with fail
    have hkd := Kp.ofBelow (belowN (Below.refl _ w5) nq) (fun _ => False)
    have h1 := hkd.heap H1.out id
    have h2 := hkd.heap H2.out id
    have h3 := hkd.heap H3.out id
    have hx := (HX.out).keep hkd (fun _ _ => id)
    have kA := (HA.out).drewN nq
    clear hkd H1 H2 H3 HX HA c0 c1 c2 d0 d1 d2 d3 d4 g0 g1 g2 g3 g4 p0 p1 q0 q1
    generalize w5.drewN nq = w6 at *
    have kj : Kp (fun x => x = w.heap.size) w6 (((((w6.setCell ⟨w.heap.size, 0, none⟩ (.int .i64 v1)).setCell ⟨w.heap.size, 1, none⟩ (.int .i64 v2)).setCell ⟨w.heap.size, 2, none⟩ (.string v3)).setCell ⟨w.heap.size, 3, none⟩ (.slice u1 u2 u3)).setCell ⟨w.heap.size, 4, none⟩ (.slice y1 y2 y3)) := Kp.five w6 w.heap.size 0 _ _ _ _ _
    have ej : (((((w6.setCell ⟨w.heap.size, 0, none⟩ (.int .i64 v1)).setCell ⟨w.heap.size, 1, none⟩ (.int .i64 v2)).setCell ⟨w.heap.size, 2, none⟩ (.string v3)).setCell ⟨w.heap.size, 3, none⟩ (.slice u1 u2 u3)).setCell ⟨w.heap.size, 4, none⟩ (.slice y1 y2 y3)).heap[w.heap.size]? = some (.cells #[.int .i64 v1, .int .i64 v2, .string v3, .slice u1 u2 u3, .slice y1 y2 y3] 25 (0, 0)) := by
      have := set_blkB (set_blkB (set_blkB (set_blkB (set_blkB h1 0 (.int .i64 v1)) 1 (.int .i64 v2)) 2 (.string v3)) 3 (.slice u1 u2 u3)) 4 (.slice y1 y2 y3)
      simpa using this
    have h2 := kj.heap h2 (fun e => by omega)
    have h3 := kj.heap h3 (fun e => by omega)
    have hx := hx.keep kj (fun q hq e => by have : q = w.heap.size := e; omega)
    have kA := Kp.trans kA kj (fun q hq e => by have : q = w.heap.size := e; omega)
    clear h1 kj
    generalize (((((w6.setCell ⟨w.heap.size, 0, none⟩ (.int .i64 v1)).setCell ⟨w.heap.size, 1, none⟩ (.int .i64 v2)).setCell ⟨w.heap.size, 2, none⟩ (.string v3)).setCell ⟨w.heap.size, 3, none⟩ (.slice u1 u2 u3)).setCell ⟨w.heap.size, 4, none⟩ (.slice y1 y2 y3)) = w7 at *
    have ka : Kp (fun x => x = w.heap.size + 1) w7 (w7.setCell ⟨w.heap.size + 1, 0, none⟩ (.int .i64 0)) := Kp.setCell (S := fun x => x = w.heap.size + 1) (p := ⟨w.heap.size + 1, 0, none⟩) (Kp.refl _ w7) (fun _ => rfl) _
    have ej := ka.heap ej (fun e => by omega)
    have h2 := set_blkB h2 0 (.int .i64 0)
    have h3 := ka.heap h3 (fun e => by omega)
    have hx := hx.keep ka (fun q hq e => by have : q = w.heap.size + 1 := e; omega)
    have kA := Kp.trans kA ka (fun q hq e => by have : q = w.heap.size + 1 := e; omega)
    clear ka
    generalize w7.setCell ⟨w.heap.size + 1, 0, none⟩ (.int .i64 0) = w8 at *
    have ke : Kp (fun x => x = w.heap.size + 1 + 1) w8 (w8.setCell ⟨w.heap.size + 1 + 1, 0, none⟩ .nilIface) := Kp.setCell (S := fun x => x = w.heap.size + 1 + 1) (p := ⟨w.heap.size + 1 + 1, 0, none⟩) (Kp.refl _ w8) (fun _ => rfl) _
    have ej := ke.heap ej (fun e => by omega)
    have h2 := ke.heap h2 (fun e => by omega)
    have h3 := set_blkB h3 0 .nilIface
    have hx := hx.keep ke (fun q hq e => by have : q = w.heap.size + 1 + 1 := e; omega)
    have kA : Ow sb w (w8.setCell ⟨w.heap.size + 1 + 1, 0, none⟩ .nilIface) := Kp.trans kA ke (fun q hq e => by have : q = w.heap.size + 1 + 1 := e; omega)
    clear ke
    generalize w8.setCell ⟨w.heap.size + 1 + 1, 0, none⟩ .nilIface = w9 at *
    have HF : Hid (OkM w (Ow sb) s (.returned (.tuple #[.agg #[.int .i64 v1, .int .i64 v2, .string v3, .slice u1 u2 u3, .slice y1 y2 y3], .int .i64 0, .nilIface])) w9) := by
      show OkM _ _ _ _ _
      unfold OkM
      rw [HP.out]
      exact ⟨kA, _, rfl, hx.mono (fun q hq _ => by omega)⟩
    have c0 : w9.cell? ⟨w.heap.size, 0, none⟩ = some (.int .i64 v1) := by simp [World.cell?, ej]
    have c1 : w9.cell? ⟨w.heap.size, 1, none⟩ = some (.int .i64 v2) := by simp [World.cell?, ej]
    have c2 : w9.cell? ⟨w.heap.size, 2, none⟩ = some (.string v3) := by simp [World.cell?, ej]
    have c3 : w9.cell? ⟨w.heap.size, 3, none⟩ = some (.slice u1 u2 u3) := by simp [World.cell?, ej]
    have c4 : w9.cell? ⟨w.heap.size, 4, none⟩ = some (.slice y1 y2 y3) := by simp [World.cell?, ej]
    have ca : w9.cell? ⟨w.heap.size + 1, 0, none⟩ = some (.int .i64 0) := by simp [World.cell?, h2]
    have ce : w9.cell? ⟨w.heap.size + 1 + 1, 0, none⟩ = some .nilIface := by simp [World.cell?, h3]
    clear ej h2 h3 hx kA HP
    refine leaves_cons (f := 14) (args := #[.pointer (some ⟨w.heap.size, 0, none⟩), .pointer (some ⟨w.heap.size + 1, 0, none⟩), .pointer (some ⟨w.heap.size + 1 + 1, 0, none⟩)]) (by simp) (by simp [go_sem]) ?_
    refine (mcatch_idle ⟨w.heap.size, 0, none⟩ ⟨w.heap.size + 1, 0, none⟩ ⟨w.heap.size + 1 + 1, 0, none⟩ w9).mono ?_
    rintro en u' w'' ⟨rfl, rfl, rfl⟩
    simp [Leaves, settle, results, Tryz.results8, go_sem, c0, c1, c2, c3, c4, ca, ce]
    exact HF.out
  | cons c t =>
    have HP : Hid (parse (bs s) = .bad 3 (t.length + 1)) := by show _ = _; rw [HE.out, hb]
    rw [hb] at c1 hps h5
    simp only [List.length_cons] at hps
    have i1 : ((pos s (c :: t) : Nat) : Int) < (s.size : Int) := by omega
    have H1 := hide h1
    have H2 := hide h2
    have H3 := hide h3
    have HA := hide kA
    have HR := hide h5
    have hpp : pos s (c :: t) = s.size - (t.length + 1) := by omega
    clear h1 h2 h3 hx kA h5 HE hb
    go_wp2_with fail
    go_quiet (fail)
    have HST := hide (ostop_any sb s _ _ _ ((HR.out).drew nq))
    have hkd := Kp.ofBelow (belowN (Below.refl _ w5) nq) (fun _ => False)
    have HC := hide (mcatch_panicking w.heap.size (w.heap.size + 1) (w.heap.size + 1 + 1) (s.size - (t.length + 1) : Nat) 3 [] (w5.drewN nq) _ _ _ rfl (hkd.heap H1.out id) (hkd.heap H2.out id) (hkd.heap H3.out id))
    have HM := hide (fun w' => msg_end (w' := w') HP.out ((HA.out).drewN nq) (Nat.le_refl _))
    rw [hpp] at HST
    clear hkd HR H1 H2 H3 HA HP c0 c1 c2
    go_wp2_with fail
    refine (HST.out).mono ?_
    rintro e w6 ⟨rfl, rfl⟩
    clear HST
    go_wp2_with fail
    refine leaves_cons (f := 14) (args := #[.pointer (some ⟨w.heap.size, 0, none⟩), .pointer (some ⟨w.heap.size + 1, 0, none⟩), .pointer (some ⟨w.heap.size + 1 + 1, 0, none⟩)]) (by simp) (by simp [go_sem]) ?_
    refine (HC.out).mono ?_
    rintro en u' w'' ⟨rfl, rfl, kk, ej, ea, ee⟩
    have HF := hide ((HM.out) w'' kk)
    have c0 : w''.cell? ⟨w.heap.size, 0, none⟩ = some (.int .i64 0) := by simp [World.cell?, ej]
    have c1 : w''.cell? ⟨w.heap.size, 1, none⟩ = some (.int .i64 0) := by simp [World.cell?, ej]
    have c2 : w''.cell? ⟨w.heap.size, 2, none⟩ = some (.string ⟨#[]⟩) := by simp [World.cell?, ej]
    have c3 : w''.cell? ⟨w.heap.size, 3, none⟩ = some (.slice none 0 0) := by simp [World.cell?, ej]
    have c4 : w''.cell? ⟨w.heap.size, 4, none⟩ = some (.slice none 0 0) := by simp [World.cell?, ej]
    have ca : w''.cell? ⟨w.heap.size + 1, 0, none⟩ = some (.int .i64 (s.size - (t.length + 1) : Nat)) := by simp [World.cell?, ea]
    have ce : w''.cell? ⟨w.heap.size + 1 + 1, 0, none⟩ = some (.iface 47 (.int .i64 3)) := by simp [World.cell?, ee]
    clear ej ea ee kk HM HC
    simp [Leaves, settle, results, Tryz.results8, go_sem, c0, c1, c2, c3, c4, ca, ce]
    exact HF.out
end Go.Proofs.YthdbnafiindgbaaGreatDoor
