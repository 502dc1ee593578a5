/- The program's reader of messages: a fault that is recovered. -/
import Derived.Test.YthdbnafiindgbaaGreatDoorWpg
import Derived.Defers
import Derived.Recover
namespace Go.Proofs.YthdbnafiindgbaaGreatDoor
open Go.RowKit
open Wi

theorem mcatch_idle (jb ab eb : Addr) (w : World) :
    CallsD Tryz.prog 14 #[.pointer (some jb), .pointer (some ab), .pointer (some eb)] .returning w fun e u' w' => e = .returned (.tuple #[]) ∧ u' = .returning ∧ w' = w := by
  refine callsD_of_wpS Tryz.func14 rfl fun c₀ cs hu => ?_
  apply wpS_seq
  apply wpS_region
  simp [wpOpsS, go_sem, recoverD, hu, Tryz.ntmps14, Exit.thenS]
  apply wpS_seq
  apply wpS_region
  simp [wpOpsS, go_sem, Exit.thenS]
  refine wpS_cond (t := false) (by simp [Act.eval, Array.replicate]) ?_
  simp only [Bool.false_eq_true, if_false]
  refine wpS_of_wp (wp_skip ?_)
  cases c₀
  simp_all [bodyPostS, results, Tryz.results14]
theorem arr5 {c : Array Value} (h : c.size = 5) : ∃ a b d e f, c = #[a, b, d, e, f] := by
  obtain ⟨l⟩ := c
  match l, h with
  | [a, b, d, e, f], _ => exact ⟨a, b, d, e, f, rfl⟩
theorem wp_via {P : Program} {c : Code} {Q : Exit → Act → World → Prop} {a : Act} {w : World} (F : World → Prop) (hQ : ∀ a' w', a'.defers = [] → F w' → Q .normal a' w') (hp : ∀ (c : List PanicEntry) (a : Act) (w : World) (dn : Nat) (v : Value), Q (.panic c) (a.put (some dn) v) w → Q (.panic c) a w)
    (h : ∀ Q' : Exit → Act → World → Prop, Hid (∀ a' w', a'.defers = [] → F w' → Q' .normal a' w') → Hid (∀ (c : List PanicEntry) (a : Act) (w : World) (dn : Nat) (v : Value), Q' (.panic c) (a.put (some dn) v) w → Q' (.panic c) a w) → c.wp P Q' a w) : c.wp P Q a w := h Q hQ hp
set_option maxRecDepth 100000 in
set_option maxHeartbeats 4000000 in
theorem mcatch_panicking (jB aB eB : Nat) (i e : Int) (older : List PanicEntry) (w : World) (cj : Array Value) (va ve : Value) (hcj : cj.size = 5) (h1 : w.heap[jB]? = some (.cells cj 25 (0, 0))) (h2 : w.heap[aB]? = some (.cells #[va] 3 (0, 0))) (h3 : w.heap[eB]? = some (.cells #[ve] 27 (0, 0))) :
    CallsD Tryz.prog 14 #[.pointer (some ⟨jB, 0, none⟩), .pointer (some ⟨aB, 0, none⟩), .pointer (some ⟨eB, 0, none⟩)] (.panicking ({ v := .iface 52 (.agg #[.int .i64 i, .int .i64 e]), recovered := false } :: older)) w fun en u' w' =>
      en = .returned (.tuple #[]) ∧ u' = .panicking ({ v := .iface 52 (.agg #[.int .i64 i, .int .i64 e]), recovered := true } :: older) ∧ Kp (fun q => q = jB ∨ q = aB ∨ q = eB) w w' ∧
      w'.heap[jB]? = some (.cells #[.int .i64 0, .int .i64 0, .string ⟨#[]⟩, .slice none 0 0, .slice none 0 0] 25 (0, 0)) ∧ w'.heap[aB]? = some (.cells #[.int .i64 i] 3 (0, 0)) ∧ w'.heap[eB]? = some (.cells #[.iface 47 (.int .i64 e)] 27 (0, 0)) := by
  refine callsD_of_wpS Tryz.func14 rfl fun c₀ cs hu => ?_
  apply wpS_seq
  apply wpS_region
  simp [wpOpsS, go_sem, recoverD, hu, Tryz.ntmps14, Exit.thenS]
  refine wpS_of_wp (wp_via (fun w' => Kp (fun q => q = jB ∨ q = aB ∨ q = eB) w w' ∧ w'.heap[jB]? = some (.cells #[.int .i64 0, .int .i64 0, .string ⟨#[]⟩, .slice none 0 0, .slice none 0 0] 25 (0, 0)) ∧ w'.heap[aB]? = some (.cells #[.int .i64 i] 3 (0, 0)) ∧ w'.heap[eB]? = some (.cells #[.iface 47 (.int .i64 e)] 27 (0, 0))) ?_ (fun _ _ _ _ _ h => h) ?_)
  · intro a' w' hd h
    cases c₀
    simp_all [bodyPostS, results, Tryz.results14]
  · clear hu cs c₀
    intro Q' HQ HPP
    have H1 := hide h1
    have H2 := hide h2
    have H3 := hide h3
    clear h1 h2 h3
    have hta : ∀ W : World, (Instr.typeAssert (.iface 52 (.agg #[.int .i64 i, .int .i64 e])) 20 52 true).run Tryz.prog W = .ok (.tuple #[.agg #[.int .i64 i, .int .i64 e], .bool true]) W := fun W => by kernel_rfl
    rw [show Array.replicate 20 undef = #[undef, undef, undef, undef, undef, undef, undef, undef, undef, undef, undef, undef, undef, undef, undef, undef, undef, undef, undef, undef] from rfl]
    simp only [List.setIfInBounds_toArray, List.set_cons_zero, List.set_cons_succ, List.append_toArray, List.cons_append, List.nil_append]
    go_wp2_with fail
    have hba : Below w.heap.size w (w.alloc (.cells #[.int .i64 i, .int .i64 e] 52)).drew := ((Below.refl _ w).alloc (Nat.le_refl _) _).drew
    have hk0 := Kp.ofBelow hba (fun _ => False)
    have HA : Hid (Kp (fun q => q = jB ∨ q = aB ∨ q = eB) w (w.alloc (.cells #[.int .i64 i, .int .i64 e] 52)).drew) := Kp.ofBelow hba _
    have HJ : Hid ((w.alloc (.cells #[.int .i64 i, .int .i64 e] 52)).drew.heap[jB]? = some (.cells cj 25 (0, 0))) := hk0.heap H1.out id
    have HB : Hid ((w.alloc (.cells #[.int .i64 i, .int .i64 e] 52)).drew.heap[aB]? = some (.cells #[va] 3 (0, 0))) := hk0.heap H2.out id
    have HE : Hid ((w.alloc (.cells #[.int .i64 i, .int .i64 e] 52)).drew.heap[eB]? = some (.cells #[ve] 27 (0, 0))) := hk0.heap H3.out id
    have HFB : Hid ((w.alloc (.cells #[.int .i64 i, .int .i64 e] 52)).drew.heap[w.heap.size]? = some (.cells #[.int .i64 i, .int .i64 e] 52 (0, 0))) := heap_alloc_new w _
    have nja : ¬ jB = aB := fun h => absurd (cells_tyB (h ▸ H1.out) H2.out) (by decide)
    have nje : ¬ jB = eB := fun h => absurd (cells_tyB (h ▸ H1.out) H3.out) (by decide)
    have nae : ¬ aB = eB := fun h => absurd (cells_tyB (h ▸ H2.out) H3.out) (by decide)
    have l1 := heap_lt H1.out
    have l2 := heap_lt H2.out
    have l3 := heap_lt H3.out
    have naj : ¬ aB = jB := fun h => nja h.symm
    have nej : ¬ eB = jB := fun h => nje h.symm
    have nea : ¬ eB = aB := fun h => nae h.symm
    obtain ⟨x0, x1, x2, x3, x4, rfl⟩ : ∃ x0 x1 x2 x3 x4, cj = #[x0, x1, x2, x3, x4] := arr5 hcj
    refine wpZ_start (S := fun w' => w'.cell? ⟨w.heap.size, 0, none⟩ = some (.int .i64 i) ∧ w'.cell? ⟨w.heap.size, 1, none⟩ = some (.int .i64 e)) (Z := fun _ => false) (by kernel_rfl) ?_
    generalize (w.alloc (.cells #[.int .i64 i, .int .i64 e] 52)).drew = wa at *
    have nfj : ¬ w.heap.size = jB := by omega
    have nfa : ¬ w.heap.size = aB := by omega
    have nfe : ¬ w.heap.size = eB := by omega
    generalize w.heap.size = fb at *
    have hS : wa.cell? ⟨fb, 0, none⟩ = some (.int .i64 i) ∧ wa.cell? ⟨fb, 1, none⟩ = some (.int .i64 e) := by constructor <;> simp [World.cell?, HFB.out]
    have j0 : wa.cell? ⟨jB, 0, none⟩ = some x0 := by simp [World.cell?, HJ.out]
    have j1 : wa.cell? ⟨jB, 1, none⟩ = some x1 := by simp [World.cell?, HJ.out]
    have j2 : wa.cell? ⟨jB, 2, none⟩ = some x2 := by simp [World.cell?, HJ.out]
    have j3 : wa.cell? ⟨jB, 3, none⟩ = some x3 := by simp [World.cell?, HJ.out]
    have j4 : wa.cell? ⟨jB, 4, none⟩ = some x4 := by simp [World.cell?, HJ.out]
    have g0 : wa.frozen? ⟨jB, 0, none⟩ = false := by simp [World.frozen?, HJ.out]
    have g1 : wa.frozen? ⟨jB, 1, none⟩ = false := by simp [World.frozen?, HJ.out]
    have g2 : wa.frozen? ⟨jB, 2, none⟩ = false := by simp [World.frozen?, HJ.out]
    have g3 : wa.frozen? ⟨jB, 3, none⟩ = false := by simp [World.frozen?, HJ.out]
    have g4 : wa.frozen? ⟨jB, 4, none⟩ = false := by simp [World.frozen?, HJ.out]
    have k0 : wa.cell? ⟨aB, 0, none⟩ = some va := by simp [World.cell?, HB.out]
    have k1 : wa.frozen? ⟨aB, 0, none⟩ = false := by simp [World.frozen?, HB.out]
    have m0 : wa.cell? ⟨eB, 0, none⟩ = some ve := by simp [World.cell?, HE.out]
    have m1 : wa.frozen? ⟨eB, 0, none⟩ = false := by simp [World.frozen?, HE.out]
    clear l1 l2 l3 hba hk0 H1 H2 H3 hta
    refine wpZ_take (i := 0) (dn := 17) (v := ?_) rfl rfl (by kernel_rfl) (fun z hz => by cases hz) (by kernel_rfl) (by kernel_rfl) (fun c a w h => HPP.out c a w _ _ h) (Or.inl ⟨by rfl, ?_⟩) hS ?_
    rotate_left
    · (intro wx hSw; (try dsimp only at hSw); obtain ⟨hSw1, hSw2⟩ := hSw; go_simp; try (with_reducible rfl))
    simp only [Act.put, List.setIfInBounds_toArray, List.set_cons_zero, List.set_cons_succ]
    refine wpZ_take (i := 1) (dn := 18) (v := ?_) rfl rfl (by kernel_rfl) (fun z hz => by cases hz) (by kernel_rfl) (by kernel_rfl) (fun c a w h => HPP.out c a w _ _ h) (Or.inl ⟨by rfl, ?_⟩) hS ?_
    rotate_left
    · (intro wx hSw; (try dsimp only at hSw); obtain ⟨hSw1, hSw2⟩ := hSw; go_simp; try (with_reducible rfl))
    simp only [Act.put, List.setIfInBounds_toArray, List.set_cons_zero, List.set_cons_succ]
    refine wpZ_take (i := 2) (dn := 19) (v := ?_) rfl rfl (by kernel_rfl) (fun z hz => by cases hz) (by kernel_rfl) (by kernel_rfl) (fun c a w h => HPP.out c a w _ _ h) (Or.inl ⟨by rfl, ?_⟩) hS ?_
    rotate_left
    · (intro wx hSw; (try dsimp only at hSw); obtain ⟨hSw1, hSw2⟩ := hSw; go_simp; try (with_reducible rfl))
    simp only [Act.put, List.setIfInBounds_toArray, List.set_cons_zero, List.set_cons_succ]
    refine wpZ_take (i := 3) (dn := 20) (v := ?_) rfl rfl (by kernel_rfl) (fun z hz => by cases hz) (by kernel_rfl) (by kernel_rfl) (fun c a w h => HPP.out c a w _ _ h) (Or.inl ⟨by rfl, ?_⟩) hS ?_
    rotate_left
    · (intro wx hSw; (try dsimp only at hSw); obtain ⟨hSw1, hSw2⟩ := hSw; go_simp; try (with_reducible rfl))
    simp only [Act.put, List.setIfInBounds_toArray, List.set_cons_zero, List.set_cons_succ]
    refine wpZ_take (i := 4) (dn := 21) (v := ?_) rfl rfl (by kernel_rfl) (fun z hz => by cases hz) (by kernel_rfl) (by kernel_rfl) (fun c a w h => HPP.out c a w _ _ h) (Or.inl ⟨by rfl, ?_⟩) hS ?_
    rotate_left
    · (intro wx hSw; (try dsimp only at hSw); obtain ⟨hSw1, hSw2⟩ := hSw; go_simp; try (with_reducible rfl))
    simp only [Act.put, List.setIfInBounds_toArray, List.set_cons_zero, List.set_cons_succ]
    refine wpZ_take (i := 5) (dn := 22) (v := ?_) rfl rfl (by kernel_rfl) (fun z hz => by cases hz) (by kernel_rfl) (by kernel_rfl) (fun c a w h => HPP.out c a w _ _ h) (Or.inl ⟨by rfl, ?_⟩) hS ?_
    rotate_left
    · (intro wx hSw; (try dsimp only at hSw); obtain ⟨hSw1, hSw2⟩ := hSw; go_simp; try (with_reducible rfl))
    simp only [Act.put, List.setIfInBounds_toArray, List.set_cons_zero, List.set_cons_succ]
    have kj : Kp (fun x => x = jB) wa (((((wa.setCell ⟨jB, 0, none⟩ (.int .i64 0)).setCell ⟨jB, 1, none⟩ (.int .i64 0)).setCell ⟨jB, 2, none⟩ (.string ⟨#[]⟩)).setCell ⟨jB, 3, none⟩ (.slice none 0 0)).setCell ⟨jB, 4, none⟩ (.slice none 0 0)) := Kp.five wa jB 0 _ _ _ _ _
    have ej : (((((wa.setCell ⟨jB, 0, none⟩ (.int .i64 0)).setCell ⟨jB, 1, none⟩ (.int .i64 0)).setCell ⟨jB, 2, none⟩ (.string ⟨#[]⟩)).setCell ⟨jB, 3, none⟩ (.slice none 0 0)).setCell ⟨jB, 4, none⟩ (.slice none 0 0)).heap[jB]? = some (.cells #[.int .i64 0, .int .i64 0, .string ⟨#[]⟩, .slice none 0 0, .slice none 0 0] 25 (0, 0)) := by
      have := set_blkB (set_blkB (set_blkB (set_blkB (set_blkB HJ.out 0 (.int .i64 0)) 1 (.int .i64 0)) 2 (.string ⟨#[]⟩)) 3 (.slice none 0 0)) 4 (.slice none 0 0)
      simpa using this
    have HKJ := hide kj
    have HEJ := hide ej
    refine wpZ_one (i := 6) (by kernel_rfl) rfl (fun K' hK' => ?_)
    go_simp
    refine hK'.out _ _ (fun _ => ⟨kj.cellv hS.1 nfj, kj.cellv hS.2 nfj⟩) (fun _ => ?_)
    clear hK' K' ej
    have hS6 : (((((wa.setCell ⟨jB, 0, none⟩ (.int .i64 0)).setCell ⟨jB, 1, none⟩ (.int .i64 0)).setCell ⟨jB, 2, none⟩ (.string ⟨#[]⟩)).setCell ⟨jB, 3, none⟩ (.slice none 0 0)).setCell ⟨jB, 4, none⟩ (.slice none 0 0)).cell? ⟨fb, 0, none⟩ = some (.int .i64 i) ∧ (((((wa.setCell ⟨jB, 0, none⟩ (.int .i64 0)).setCell ⟨jB, 1, none⟩ (.int .i64 0)).setCell ⟨jB, 2, none⟩ (.string ⟨#[]⟩)).setCell ⟨jB, 3, none⟩ (.slice none 0 0)).setCell ⟨jB, 4, none⟩ (.slice none 0 0)).cell? ⟨fb, 1, none⟩ = some (.int .i64 e) := ⟨kj.cellv hS.1 nfj, kj.cellv hS.2 nfj⟩
    have k0' := kj.cellv k0 naj
    have k1' : (((((wa.setCell ⟨jB, 0, none⟩ (.int .i64 0)).setCell ⟨jB, 1, none⟩ (.int .i64 0)).setCell ⟨jB, 2, none⟩ (.string ⟨#[]⟩)).setCell ⟨jB, 3, none⟩ (.slice none 0 0)).setCell ⟨jB, 4, none⟩ (.slice none 0 0)).frozen? ⟨aB, 0, none⟩ = false := by rw [kj.frozen (heap_lt HB.out) naj]; exact k1
    have m0' := kj.cellv m0 nej
    have m1' : (((((wa.setCell ⟨jB, 0, none⟩ (.int .i64 0)).setCell ⟨jB, 1, none⟩ (.int .i64 0)).setCell ⟨jB, 2, none⟩ (.string ⟨#[]⟩)).setCell ⟨jB, 3, none⟩ (.slice none 0 0)).setCell ⟨jB, 4, none⟩ (.slice none 0 0)).frozen? ⟨eB, 0, none⟩ = false := by rw [kj.frozen (heap_lt HE.out) nej]; exact m1
    have HB' := hide (kj.heap HB.out naj)
    have HE' := hide (kj.heap HE.out nej)
    clear kj hS j0 j1 j2 j3 j4 g0 g1 g2 g3 g4 k0 k1 m0 m1 HJ HB HE HFB
    generalize (((((wa.setCell ⟨jB, 0, none⟩ (.int .i64 0)).setCell ⟨jB, 1, none⟩ (.int .i64 0)).setCell ⟨jB, 2, none⟩ (.string ⟨#[]⟩)).setCell ⟨jB, 3, none⟩ (.slice none 0 0)).setCell ⟨jB, 4, none⟩ (.slice none 0 0)) = wb at *
    have ka : Kp (fun x => x = aB) wb (wb.setCell ⟨aB, 0, none⟩ (.int .i64 i)) := Kp.setCell (S := fun x => x = aB) (p := ⟨aB, 0, none⟩) (Kp.refl _ wb) (fun _ => rfl) _
    refine wpZ_one (i := 7) (by kernel_rfl) rfl (fun K' hK' => ?_)
    go_simp
    refine hK'.out _ _ (fun _ => ⟨ka.cellv hS6.1 nfa, ka.cellv hS6.2 nfa⟩) (fun _ => ?_)
    clear hK' K'
    have m0 := ka.cellv m0' nea
    have m1 : (wb.setCell ⟨aB, 0, none⟩ (.int .i64 i)).frozen? ⟨eB, 0, none⟩ = false := by rw [ka.frozen (heap_lt HE'.out) nea]; exact m1'
    have hSc : (wb.setCell ⟨aB, 0, none⟩ (.int .i64 i)).cell? ⟨fb, 0, none⟩ = some (.int .i64 i) ∧ (wb.setCell ⟨aB, 0, none⟩ (.int .i64 i)).cell? ⟨fb, 1, none⟩ = some (.int .i64 e) := ⟨ka.cellv hS6.1 nfa, ka.cellv hS6.2 nfa⟩
    have HJ2 := hide (ka.heap HEJ.out nja)
    have HA2 := hide (set_blkB HB'.out 0 (.int .i64 i))
    have HE2 := hide (ka.heap HE'.out nea)
    have HK2 : Hid (Kp (fun q => q = jB ∨ q = aB ∨ q = eB) w (wb.setCell ⟨aB, 0, none⟩ (.int .i64 i))) := Kp.trans (Kp.trans HA.out HKJ.out (fun _ _ h => .inl h)) ka (fun _ _ h => .inr (.inl h))
    clear ka hS6 k0' k1' m0' m1' HB' HE' HEJ HKJ HA
    generalize wb.setCell ⟨aB, 0, none⟩ (.int .i64 i) = wc at *
    have ke : Kp (fun x => x = eB) wc (wc.setCell ⟨eB, 0, none⟩ (.iface 47 (.int .i64 e))) := Kp.setCell (S := fun x => x = eB) (p := ⟨eB, 0, none⟩) (Kp.refl _ wc) (fun _ => rfl) _
    refine wpZ_one (i := 8) (by kernel_rfl) rfl (fun K' hK' => ?_)
    go_simp
    refine hK'.out _ _ (fun _ => ⟨ke.cellv hSc.1 nfe, ke.cellv hSc.2 nfe⟩) (fun _ => wpZ_end (by kernel_rfl) ?_)
    clear hK' K'
    refine HQ.out _ _ rfl ⟨Kp.trans HK2.out ke (fun _ _ h => .inr (.inr h)), ke.heap HJ2.out nje, ?_, ?_⟩
    · have := ke.heap HA2.out nae
      simpa using this
    · have := set_blkB HE2.out 0 (.iface 47 (.int .i64 e))
      simpa using this
end Go.Proofs.YthdbnafiindgbaaGreatDoor
