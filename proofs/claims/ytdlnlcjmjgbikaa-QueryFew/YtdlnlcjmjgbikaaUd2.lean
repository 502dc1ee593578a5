/- A new round: each operation. -/
import Derived.Test.YtdlnlcjmjgbikaaUc1
namespace Go.Proofs.Ytdlnlcjmjgbikaa
open Go Go.Conc Go.RowKit Go.Deep

noncomputable section
def ropsAt : Array Oper := match Sq.f26.body with | some (.seq _ (.seq (.region _ o _) _)) => o | _ => #[]
theorem rops_chk : chkOps .any ropsAt = true := by kernel_rfl
theorem rops_size : ropsAt.size = 39 := by kernel_rfl
variable {R : QR} {Z : QZ} {st most : Int} {w0 w w' : World} {T : QT} {lv : Nat → Value} {d : Array Bool} {a : Act} {Q : Exit → Act → World → Prop}
/-- What is known of the sheet. -/
structure RF (R : QR) (Z : QZ) (st : Int) (T : QT) (lv : Nat → Value) (w0 : World) : Prop where
  s : Sh R Z st w0 T
  h0 : 0 < R.n
  hn : R.n < 65
  m : ∀ k, k < R.n → MemAt w0 Z.mb (k * 4) (T.mem k) (lv k) ∧ ∃ a n c, lv k = .slice a n c
theorem memF_cell (F : RF R Z st T lv w0) {j : Nat} (hj : j < R.n * 4) : w0.cell? ⟨Z.mb, j, none⟩ = some (memF T lv j) := by
  have hk : j / 4 < R.n := by omega
  obtain ⟨h0, h1, h2, h3⟩ := (F.m (j / 4) hk).1
  unfold memF
  have : j % 4 = 0 ∨ j % 4 = 1 ∨ j % 4 = 2 ∨ j % 4 = 3 := by omega
  rcases this with e | e | e | e
  · rw [if_pos e, show j = j / 4 * 4 by omega]; rw [show j / 4 * 4 / 4 = j / 4 by omega]; exact h0.1
  · rw [if_neg (by omega), if_pos e, show (⟨Z.mb, j, none⟩ : Addr) = ⟨Z.mb, j / 4 * 4 + 1, none⟩ by congr 1; omega]; exact h1.1
  · rw [if_neg (by omega), if_neg (by omega), if_pos e, show (⟨Z.mb, j, none⟩ : Addr) = ⟨Z.mb, j / 4 * 4 + 2, none⟩ by congr 1; omega]; exact h2.1
  · rw [if_neg (by omega), if_neg (by omega), if_neg (by omega), show (⟨Z.mb, j, none⟩ : Addr) = ⟨Z.mb, j / 4 * 4 + 3, none⟩ by congr 1; omega]; exact h3.1
theorem memF_one (F : RF R Z st T lv w0) {j : Nat} (hj : j < R.n * 4) : (memF T lv j).oneCell' = true := by
  obtain ⟨a, n, c, e⟩ := (F.m (j / 4) (by omega)).2
  unfold memF
  split
  · rfl
  · split
    · rfl
    · split
      · rfl
      · rw [e]; rfl
theorem row_list {n : Nat} {f : Nat → Value} {w : World} {b : Nat} (h : ∀ j, j < n → w.cell? ⟨b, j, none⟩ = some (f j)) : ∀ j u, ((List.range n).map f)[j]? = some u → w.cell? ⟨b, j, none⟩ = some u := fun j u hj => by
  rw [List.getElem?_map] at hj
  obtain ⟨k, hk, rfl⟩ := Option.map_eq_some_iff.1 hj
  have hjn : j < n := by
    have := (List.getElem?_eq_some_iff.1 hk).1
    simpa using this
  obtain rfl : j = k := by simpa [hjn] using hk
  exact h j hjn
theorem mem_list {n : Nat} {f : Nat → Value} {w : World} {b : Nat} (h : Mem w b n (fun j => ((List.range n).map f).getD j undef)) : Mem w b n f := h.congr fun j hj => by simp [hj]
theorem mk_row {P : Program} (t e : TypeId) (z x : Value) (bytes : Nat) (ht : P.underlying t = some (.slice e)) (hinfo : (P.info? e).map (fun i => (i.zero, i.size, i.bytes)) = some (some z, 1, bytes)) (hz1 : z.cells = #[x]) (n : Nat) (hbytes : bytes * n ≤ 281474976710656) (h63 : n ≤ 9223372036854775807) (w : World) :
    (Instr.makeSlice t (.int .i64 (n : Int)) (.int .i64 (n : Int))).run P w = .ok (.slice (some ⟨w.heap.size, 0, none⟩) n n) (w.alloc (.cells (madeCells #[x] n) e)) := by
  obtain ⟨i, hi, hzz⟩ := Option.map_eq_some_iff.1 hinfo
  simp only [Prod.mk.injEq] at hzz
  obtain ⟨hz, hs, hb⟩ := hzz
  have hb' : (i.bytes : Int) * (n : Int) ≤ 281474976710656 := by
    have h : ((i.bytes * n : Nat) : Int) ≤ 281474976710656 := by rw [hb]; omega
    rwa [Int.natCast_mul] at h
  have hr := run_make (P := P) w t e i z ht hi hz .i64 .i64 n n (by omega) (Int.le_refl _) hb' (by omega)
  simp only [Int.toNat_natCast, hs, Nat.mul_one, hz1] at hr
  exact hr
theorem noMk {i : Nat} {v : Value} {w : World} (h : isMk i = false) : isMk i = true → ∃ g, v.ownBlock = some g ∧ w.heap.size ≤ g := fun e => by rw [h] at e; cases e
set_option maxRecDepth 100000 in
theorem rstep0 (_F : RF R Z st T lv w0) (h : RJ R Z T lv most w0 d a w) (hu : d.getD 0 true = false) {o : Oper} (ho : ropsAt[0]? = some o) (ha : ∀ e ∈ o.after, Region.binds .any e = true → d.getD e.on false = true) : o.wp Sq.prog a w (fun a' w' => RJ R Z T lv most w0 (d.setIfInBounds 0 true) a' w') Q := by
  obtain rfl : ({ dst := some 8, op := Op.move (Operand.tmp 0), type := 25, pos := "round.go:33", after := #[], guard := none } : Oper) = o := Option.some.inj ((show ropsAt[0]? = some ({ dst := some 8, op := Op.move (Operand.tmp 0), type := 25, pos := "round.go:33", after := #[], guard := none }) from rfl).symm.trans ho)
  have e0 : a.eval (.tmp 0) = .pointer (some ⟨Z.sh, 0, none⟩) := h.t0
  refine wp_value (v := .pointer (some ⟨Z.sh, 0, none⟩)) (w' := w) ?_ (h.put (i := 0) (by decide) hu (Keep.refl _ _) rfl (noMk (by decide)))
  unfold execOp
  simp only [e0]
  first | done | go_simp
set_option maxRecDepth 100000 in
theorem rstep1 (_F : RF R Z st T lv w0) (h : RJ R Z T lv most w0 d a w) (hu : d.getD 1 true = false) {o : Oper} (ho : ropsAt[1]? = some o) (ha : ∀ e ∈ o.after, Region.binds .any e = true → d.getD e.on false = true) : o.wp Sq.prog a w (fun a' w' => RJ R Z T lv most w0 (d.setIfInBounds 1 true) a' w') Q := by
  obtain rfl : ({ dst := some 9, op := Op.nilCheck (Operand.tmp 8), type := 0, pos := "round.go:33", after := #[{ on := 0, ground := Ground.data }], guard := none } : Oper) = o := Option.some.inj ((show ropsAt[1]? = some ({ dst := some 9, op := Op.nilCheck (Operand.tmp 8), type := 0, pos := "round.go:33", after := #[{ on := 0, ground := Ground.data }], guard := none }) from rfl).symm.trans ho)
  have e8 : a.eval (.tmp 8) = .pointer (some ⟨Z.sh, 0, none⟩) := h.c 0 (by decide) (ha ⟨0, Ground.data⟩ (by simp) rfl)
  refine wp_value (v := .pointer (some ⟨Z.sh, 0, none⟩)) (w' := w) ?_ (h.put (i := 1) (by decide) hu (Keep.refl _ _) rfl (noMk (by decide)))
  unfold execOp
  simp only [e8]
  first | done | go_simp
set_option maxRecDepth 100000 in
theorem rstep2 (_F : RF R Z st T lv w0) (h : RJ R Z T lv most w0 d a w) (hu : d.getD 2 true = false) {o : Oper} (ho : ropsAt[2]? = some o) (ha : ∀ e ∈ o.after, Region.binds .any e = true → d.getD e.on false = true) : o.wp Sq.prog a w (fun a' w' => RJ R Z T lv most w0 (d.setIfInBounds 2 true) a' w') Q := by
  obtain rfl : ({ dst := some 10, op := Op.fieldAddr 54 (Operand.tmp 9) 1, type := 0, pos := "round.go:33", after := #[{ on := 1, ground := Ground.data }], guard := none } : Oper) = o := Option.some.inj ((show ropsAt[2]? = some ({ dst := some 10, op := Op.fieldAddr 54 (Operand.tmp 9) 1, type := 0, pos := "round.go:33", after := #[{ on := 1, ground := Ground.data }], guard := none }) from rfl).symm.trans ho)
  have e9 : a.eval (.tmp 9) = .pointer (some ⟨Z.sh, 0, none⟩) := h.c 1 (by decide) (ha ⟨1, Ground.data⟩ (by simp) rfl)
  refine wp_value (v := .pointer (some ⟨Z.sh, 2, none⟩)) (w' := w) ?_ (h.put (i := 2) (by decide) hu (Keep.refl _ _) rfl (noMk (by decide)))
  unfold execOp
  simp only [e9]
  first | done | go_simp
set_option maxRecDepth 100000 in
theorem rstep3 (F : RF R Z st T lv w0) (h : RJ R Z T lv most w0 d a w) (hu : d.getD 3 true = false) {o : Oper} (ho : ropsAt[3]? = some o) (ha : ∀ e ∈ o.after, Region.binds .any e = true → d.getD e.on false = true) : o.wp Sq.prog a w (fun a' w' => RJ R Z T lv most w0 (d.setIfInBounds 3 true) a' w') Q := by
  obtain rfl : ({ dst := some 11, op := Op.load 43 (Operand.tmp 10), type := 43, pos := "round.go:33", after := #[{ on := 2, ground := Ground.data }], guard := none } : Oper) = o := Option.some.inj ((show ropsAt[3]? = some ({ dst := some 11, op := Op.load 43 (Operand.tmp 10), type := 43, pos := "round.go:33", after := #[{ on := 2, ground := Ground.data }], guard := none }) from rfl).symm.trans ho)
  have e10 : a.eval (.tmp 10) = .pointer (some ⟨Z.sh, 2, none⟩) := h.c 2 (by decide) (ha ⟨2, Ground.data⟩ (by simp) rfl)
  have hc := h.kp.cell id (F.s.s.cell (i := 2) (by decide))
  simp only [QZ.sv] at hc
  refine wp_value (v := .slice (some ⟨Z.cb, 0, none⟩) R.n Z.cc) (w' := w) ?_ (h.put (i := 3) (by decide) hu (Keep.refl _ _) rfl (noMk (by decide)))
  unfold execOp
  simp only [e10]
  first | done | go_simp
set_option maxRecDepth 100000 in
theorem rstep4 (_F : RF R Z st T lv w0) (h : RJ R Z T lv most w0 d a w) (hu : d.getD 4 true = false) {o : Oper} (ho : ropsAt[4]? = some o) (ha : ∀ e ∈ o.after, Region.binds .any e = true → d.getD e.on false = true) : o.wp Sq.prog a w (fun a' w' => RJ R Z T lv most w0 (d.setIfInBounds 4 true) a' w') Q := by
  obtain rfl : ({ dst := some 12, op := Op.move (Operand.tmp 0), type := 25, pos := "round.go:33", after := #[], guard := none } : Oper) = o := Option.some.inj ((show ropsAt[4]? = some ({ dst := some 12, op := Op.move (Operand.tmp 0), type := 25, pos := "round.go:33", after := #[], guard := none }) from rfl).symm.trans ho)
  have e0 : a.eval (.tmp 0) = .pointer (some ⟨Z.sh, 0, none⟩) := h.t0
  refine wp_value (v := .pointer (some ⟨Z.sh, 0, none⟩)) (w' := w) ?_ (h.put (i := 4) (by decide) hu (Keep.refl _ _) rfl (noMk (by decide)))
  unfold execOp
  simp only [e0]
  first | done | go_simp
set_option maxRecDepth 100000 in
theorem rstep5 (_F : RF R Z st T lv w0) (h : RJ R Z T lv most w0 d a w) (hu : d.getD 5 true = false) {o : Oper} (ho : ropsAt[5]? = some o) (ha : ∀ e ∈ o.after, Region.binds .any e = true → d.getD e.on false = true) : o.wp Sq.prog a w (fun a' w' => RJ R Z T lv most w0 (d.setIfInBounds 5 true) a' w') Q := by
  obtain rfl : ({ dst := some 13, op := Op.nilCheck (Operand.tmp 12), type := 0, pos := "round.go:33", after := #[{ on := 4, ground := Ground.data }], guard := none } : Oper) = o := Option.some.inj ((show ropsAt[5]? = some ({ dst := some 13, op := Op.nilCheck (Operand.tmp 12), type := 0, pos := "round.go:33", after := #[{ on := 4, ground := Ground.data }], guard := none }) from rfl).symm.trans ho)
  have e12 : a.eval (.tmp 12) = .pointer (some ⟨Z.sh, 0, none⟩) := h.c 4 (by decide) (ha ⟨4, Ground.data⟩ (by simp) rfl)
  refine wp_value (v := .pointer (some ⟨Z.sh, 0, none⟩)) (w' := w) ?_ (h.put (i := 5) (by decide) hu (Keep.refl _ _) rfl (noMk (by decide)))
  unfold execOp
  simp only [e12]
  first | done | go_simp
set_option maxRecDepth 100000 in
theorem rstep6 (_F : RF R Z st T lv w0) (h : RJ R Z T lv most w0 d a w) (hu : d.getD 6 true = false) {o : Oper} (ho : ropsAt[6]? = some o) (ha : ∀ e ∈ o.after, Region.binds .any e = true → d.getD e.on false = true) : o.wp Sq.prog a w (fun a' w' => RJ R Z T lv most w0 (d.setIfInBounds 6 true) a' w') Q := by
  obtain rfl : ({ dst := some 14, op := Op.fieldAddr 54 (Operand.tmp 13) 2, type := 0, pos := "round.go:33", after := #[{ on := 5, ground := Ground.data }], guard := none } : Oper) = o := Option.some.inj ((show ropsAt[6]? = some ({ dst := some 14, op := Op.fieldAddr 54 (Operand.tmp 13) 2, type := 0, pos := "round.go:33", after := #[{ on := 5, ground := Ground.data }], guard := none }) from rfl).symm.trans ho)
  have e13 : a.eval (.tmp 13) = .pointer (some ⟨Z.sh, 0, none⟩) := h.c 5 (by decide) (ha ⟨5, Ground.data⟩ (by simp) rfl)
  refine wp_value (v := .pointer (some ⟨Z.sh, 3, none⟩)) (w' := w) ?_ (h.put (i := 6) (by decide) hu (Keep.refl _ _) rfl (noMk (by decide)))
  unfold execOp
  simp only [e13]
  first | done | go_simp
set_option maxRecDepth 100000 in
theorem rstep7 (F : RF R Z st T lv w0) (h : RJ R Z T lv most w0 d a w) (hu : d.getD 7 true = false) {o : Oper} (ho : ropsAt[7]? = some o) (ha : ∀ e ∈ o.after, Region.binds .any e = true → d.getD e.on false = true) : o.wp Sq.prog a w (fun a' w' => RJ R Z T lv most w0 (d.setIfInBounds 7 true) a' w') Q := by
  obtain rfl : ({ dst := some 15, op := Op.load 44 (Operand.tmp 14), type := 44, pos := "round.go:33", after := #[{ on := 6, ground := Ground.data }], guard := none } : Oper) = o := Option.some.inj ((show ropsAt[7]? = some ({ dst := some 15, op := Op.load 44 (Operand.tmp 14), type := 44, pos := "round.go:33", after := #[{ on := 6, ground := Ground.data }], guard := none }) from rfl).symm.trans ho)
  have e14 : a.eval (.tmp 14) = .pointer (some ⟨Z.sh, 3, none⟩) := h.c 6 (by decide) (ha ⟨6, Ground.data⟩ (by simp) rfl)
  have hc := h.kp.cell id (F.s.s.cell (i := 3) (by decide))
  simp only [QZ.sv] at hc
  refine wp_value (v := .slice (some ⟨Z.mb, 0, none⟩) R.n Z.mc) (w' := w) ?_ (h.put (i := 7) (by decide) hu (Keep.refl _ _) rfl (noMk (by decide)))
  unfold execOp
  simp only [e14]
  first | done | go_simp
set_option maxRecDepth 100000 in
theorem rstep8 (F : RF R Z st T lv w0) (h : RJ R Z T lv most w0 d a w) (hu : d.getD 8 true = false) {o : Oper} (ho : ropsAt[8]? = some o) (ha : ∀ e ∈ o.after, Region.binds .any e = true → d.getD e.on false = true) : o.wp Sq.prog a w (fun a' w' => RJ R Z T lv most w0 (d.setIfInBounds 8 true) a' w') Q := by
  obtain rfl : ({ dst := some 16, op := Op.call { callee := Callee.value (Operand.func 40), args := #[Operand.tmp 15], argTypes := #[44] }, type := 44, pos := "round.go:35", after := #[{ on := 7, ground := Ground.data }], guard := none } : Oper) = o := Option.some.inj ((show ropsAt[8]? = some ({ dst := some 16, op := Op.call { callee := Callee.value (Operand.func 40), args := #[Operand.tmp 15], argTypes := #[44] }, type := 44, pos := "round.go:35", after := #[{ on := 7, ground := Ground.data }], guard := none }) from rfl).symm.trans ho)
  have e15 : a.eval (.tmp 15) = .slice (some ⟨Z.mb, 0, none⟩) R.n Z.mc := h.c 7 (by decide) (ha ⟨7, Ground.data⟩ (by simp) rfl)
  have hc : Calls Sq.prog 40 #[.slice (some ⟨Z.mb, 0, none⟩) R.n Z.mc] w _ := cloneM_any Z.mb Z.mc R.n ((List.range (R.n * 4)).map (memF T lv)) F.h0 F.hn (by simp) (fun u hu => by
    obtain ⟨j, hj, rfl⟩ := List.mem_map.1 hu
    exact memF_one F (List.mem_range.1 hj)) w (row_list fun j hj => h.kp.cell id (memF_cell F hj))
  refine wp_enter (f := 40) (args := #[.slice (some ⟨Z.mb, 0, none⟩) R.n Z.mc]) (w1 := w) ?_ (hc.mono ?_)
  · unfold execOp
    have e' := e15
    simp only [Act.eval, Array.getD_eq_getD_getElem?] at e'
    go_simp
  · rintro e w1 ⟨g, c, rfl, h1, h2, h3, h4⟩
    exact ⟨_, rfl, h.put (i := 8) (by decide) hu h4 ⟨g, c, rfl, Nat.le_trans h.kp.size h1, h2, mem_list h3⟩ fun _ => ⟨g, rfl, h1⟩⟩
set_option maxRecDepth 100000 in
theorem rstep9 (_F : RF R Z st T lv w0) (h : RJ R Z T lv most w0 d a w) (hu : d.getD 9 true = false) {o : Oper} (ho : ropsAt[9]? = some o) (ha : ∀ e ∈ o.after, Region.binds .any e = true → d.getD e.on false = true) : o.wp Sq.prog a w (fun a' w' => RJ R Z T lv most w0 (d.setIfInBounds 9 true) a' w') Q := by
  obtain rfl : ({ dst := some 17, op := Op.move (Operand.tmp 0), type := 25, pos := "round.go:33", after := #[], guard := none } : Oper) = o := Option.some.inj ((show ropsAt[9]? = some ({ dst := some 17, op := Op.move (Operand.tmp 0), type := 25, pos := "round.go:33", after := #[], guard := none }) from rfl).symm.trans ho)
  have e0 : a.eval (.tmp 0) = .pointer (some ⟨Z.sh, 0, none⟩) := h.t0
  refine wp_value (v := .pointer (some ⟨Z.sh, 0, none⟩)) (w' := w) ?_ (h.put (i := 9) (by decide) hu (Keep.refl _ _) rfl (noMk (by decide)))
  unfold execOp
  simp only [e0]
  first | done | go_simp
set_option maxRecDepth 100000 in
theorem rstep10 (_F : RF R Z st T lv w0) (h : RJ R Z T lv most w0 d a w) (hu : d.getD 10 true = false) {o : Oper} (ho : ropsAt[10]? = some o) (ha : ∀ e ∈ o.after, Region.binds .any e = true → d.getD e.on false = true) : o.wp Sq.prog a w (fun a' w' => RJ R Z T lv most w0 (d.setIfInBounds 10 true) a' w') Q := by
  obtain rfl : ({ dst := some 18, op := Op.nilCheck (Operand.tmp 17), type := 0, pos := "round.go:33", after := #[{ on := 9, ground := Ground.data }], guard := none } : Oper) = o := Option.some.inj ((show ropsAt[10]? = some ({ dst := some 18, op := Op.nilCheck (Operand.tmp 17), type := 0, pos := "round.go:33", after := #[{ on := 9, ground := Ground.data }], guard := none }) from rfl).symm.trans ho)
  have e17 : a.eval (.tmp 17) = .pointer (some ⟨Z.sh, 0, none⟩) := h.c 9 (by decide) (ha ⟨9, Ground.data⟩ (by simp) rfl)
  refine wp_value (v := .pointer (some ⟨Z.sh, 0, none⟩)) (w' := w) ?_ (h.put (i := 10) (by decide) hu (Keep.refl _ _) rfl (noMk (by decide)))
  unfold execOp
  simp only [e17]
  first | done | go_simp
set_option maxRecDepth 100000 in
theorem rstep11 (_F : RF R Z st T lv w0) (h : RJ R Z T lv most w0 d a w) (hu : d.getD 11 true = false) {o : Oper} (ho : ropsAt[11]? = some o) (ha : ∀ e ∈ o.after, Region.binds .any e = true → d.getD e.on false = true) : o.wp Sq.prog a w (fun a' w' => RJ R Z T lv most w0 (d.setIfInBounds 11 true) a' w') Q := by
  obtain rfl : ({ dst := some 19, op := Op.fieldAddr 54 (Operand.tmp 18) 1, type := 0, pos := "round.go:33", after := #[{ on := 10, ground := Ground.data }], guard := none } : Oper) = o := Option.some.inj ((show ropsAt[11]? = some ({ dst := some 19, op := Op.fieldAddr 54 (Operand.tmp 18) 1, type := 0, pos := "round.go:33", after := #[{ on := 10, ground := Ground.data }], guard := none }) from rfl).symm.trans ho)
  have e18 : a.eval (.tmp 18) = .pointer (some ⟨Z.sh, 0, none⟩) := h.c 10 (by decide) (ha ⟨10, Ground.data⟩ (by simp) rfl)
  refine wp_value (v := .pointer (some ⟨Z.sh, 2, none⟩)) (w' := w) ?_ (h.put (i := 11) (by decide) hu (Keep.refl _ _) rfl (noMk (by decide)))
  unfold execOp
  simp only [e18]
  first | done | go_simp
set_option maxRecDepth 100000 in
theorem rstep12 (F : RF R Z st T lv w0) (h : RJ R Z T lv most w0 d a w) (hu : d.getD 12 true = false) {o : Oper} (ho : ropsAt[12]? = some o) (ha : ∀ e ∈ o.after, Region.binds .any e = true → d.getD e.on false = true) : o.wp Sq.prog a w (fun a' w' => RJ R Z T lv most w0 (d.setIfInBounds 12 true) a' w') Q := by
  obtain rfl : ({ dst := some 20, op := Op.load 43 (Operand.tmp 19), type := 43, pos := "round.go:33", after := #[{ on := 11, ground := Ground.data }], guard := none } : Oper) = o := Option.some.inj ((show ropsAt[12]? = some ({ dst := some 20, op := Op.load 43 (Operand.tmp 19), type := 43, pos := "round.go:33", after := #[{ on := 11, ground := Ground.data }], guard := none }) from rfl).symm.trans ho)
  have e19 : a.eval (.tmp 19) = .pointer (some ⟨Z.sh, 2, none⟩) := h.c 11 (by decide) (ha ⟨11, Ground.data⟩ (by simp) rfl)
  have hc := h.kp.cell id (F.s.s.cell (i := 2) (by decide))
  simp only [QZ.sv] at hc
  refine wp_value (v := .slice (some ⟨Z.cb, 0, none⟩) R.n Z.cc) (w' := w) ?_ (h.put (i := 12) (by decide) hu (Keep.refl _ _) rfl (noMk (by decide)))
  unfold execOp
  simp only [e19]
  first | done | go_simp
set_option maxRecDepth 100000 in
theorem rstep13 (_F : RF R Z st T lv w0) (h : RJ R Z T lv most w0 d a w) (hu : d.getD 13 true = false) {o : Oper} (ho : ropsAt[13]? = some o) (ha : ∀ e ∈ o.after, Region.binds .any e = true → d.getD e.on false = true) : o.wp Sq.prog a w (fun a' w' => RJ R Z T lv most w0 (d.setIfInBounds 13 true) a' w') Q := by
  obtain rfl : ({ dst := some 21, op := Op.call { callee := Callee.builtin Builtin.len, args := #[Operand.tmp 20], argTypes := #[43] }, type := 3, pos := "round.go:33", after := #[{ on := 12, ground := Ground.data }], guard := none } : Oper) = o := Option.some.inj ((show ropsAt[13]? = some ({ dst := some 21, op := Op.call { callee := Callee.builtin Builtin.len, args := #[Operand.tmp 20], argTypes := #[43] }, type := 3, pos := "round.go:33", after := #[{ on := 12, ground := Ground.data }], guard := none }) from rfl).symm.trans ho)
  have e20 : a.eval (.tmp 20) = .slice (some ⟨Z.cb, 0, none⟩) R.n Z.cc := h.c 12 (by decide) (ha ⟨12, Ground.data⟩ (by simp) rfl)
  refine wp_value (v := .int .i64 R.n) (w' := w) ?_ (h.put (i := 13) (by decide) hu (Keep.refl _ _) rfl (noMk (by decide)))
  unfold execOp
  have e' := e20
  simp only [Act.eval, Array.getD_eq_getD_getElem?] at e'
  go_simp
set_option maxRecDepth 100000 in
theorem rstep14 (F : RF R Z st T lv w0) (h : RJ R Z T lv most w0 d a w) (hu : d.getD 14 true = false) {o : Oper} (ho : ropsAt[14]? = some o) (ha : ∀ e ∈ o.after, Region.binds .any e = true → d.getD e.on false = true) : o.wp Sq.prog a w (fun a' w' => RJ R Z T lv most w0 (d.setIfInBounds 14 true) a' w') Q := by
  obtain rfl : ({ dst := some 22, op := Op.makeSlice 78 (Operand.tmp 21) (Operand.tmp 21), type := 78, pos := "round.go:33", after := #[{ on := 13, ground := Ground.data }, { on := 13, ground := Ground.data }], guard := none } : Oper) = o := Option.some.inj ((show ropsAt[14]? = some ({ dst := some 22, op := Op.makeSlice 78 (Operand.tmp 21) (Operand.tmp 21), type := 78, pos := "round.go:33", after := #[{ on := 13, ground := Ground.data }, { on := 13, ground := Ground.data }], guard := none }) from rfl).symm.trans ho)
  have e21 : a.eval (.tmp 21) = .int .i64 R.n := h.c 13 (by decide) (ha ⟨13, Ground.data⟩ (by simp) rfl)
  have hn := F.hn
  have hmk := mk_row (P := Sq.prog) 78 81 (.agg #[.int .i64 0]) (.int .i64 0) 8 ((sq_under 78).trans Try.underlying78) (by kernel_rfl) rfl R.n (by omega) (by omega) w
  refine wp_value (v := .slice (some ⟨w.heap.size, 0, none⟩) R.n R.n) (w' := w.alloc (.cells (madeCells #[.int .i64 0] R.n) 81)) ?_ (h.put (i := 14) (by decide) hu ((Keep.refl _ _).alloc _) ⟨_, _, rfl, h.kp.size, by simp, fun j hj => ?_⟩ fun _ => ⟨_, rfl, Nat.le_refl _⟩)
  · unfold execOp
    simp only [e21]
    first | done | go_simp
  · have hr := World.rowIs_made w (.int .i64 0) R.n 81
    exact ⟨hr.cell hj, hr.frozen j⟩
set_option maxRecDepth 100000 in
theorem rstep15 (_F : RF R Z st T lv w0) (h : RJ R Z T lv most w0 d a w) (hu : d.getD 15 true = false) {o : Oper} (ho : ropsAt[15]? = some o) (ha : ∀ e ∈ o.after, Region.binds .any e = true → d.getD e.on false = true) : o.wp Sq.prog a w (fun a' w' => RJ R Z T lv most w0 (d.setIfInBounds 15 true) a' w') Q := by
  obtain rfl : ({ dst := some 23, op := Op.move (Operand.tmp 0), type := 25, pos := "round.go:33", after := #[], guard := none } : Oper) = o := Option.some.inj ((show ropsAt[15]? = some ({ dst := some 23, op := Op.move (Operand.tmp 0), type := 25, pos := "round.go:33", after := #[], guard := none }) from rfl).symm.trans ho)
  have e0 : a.eval (.tmp 0) = .pointer (some ⟨Z.sh, 0, none⟩) := h.t0
  refine wp_value (v := .pointer (some ⟨Z.sh, 0, none⟩)) (w' := w) ?_ (h.put (i := 15) (by decide) hu (Keep.refl _ _) rfl (noMk (by decide)))
  unfold execOp
  simp only [e0]
  first | done | go_simp
set_option maxRecDepth 100000 in
theorem rstep16 (_F : RF R Z st T lv w0) (h : RJ R Z T lv most w0 d a w) (hu : d.getD 16 true = false) {o : Oper} (ho : ropsAt[16]? = some o) (ha : ∀ e ∈ o.after, Region.binds .any e = true → d.getD e.on false = true) : o.wp Sq.prog a w (fun a' w' => RJ R Z T lv most w0 (d.setIfInBounds 16 true) a' w') Q := by
  obtain rfl : ({ dst := some 24, op := Op.nilCheck (Operand.tmp 23), type := 0, pos := "round.go:33", after := #[{ on := 15, ground := Ground.data }], guard := none } : Oper) = o := Option.some.inj ((show ropsAt[16]? = some ({ dst := some 24, op := Op.nilCheck (Operand.tmp 23), type := 0, pos := "round.go:33", after := #[{ on := 15, ground := Ground.data }], guard := none }) from rfl).symm.trans ho)
  have e23 : a.eval (.tmp 23) = .pointer (some ⟨Z.sh, 0, none⟩) := h.c 15 (by decide) (ha ⟨15, Ground.data⟩ (by simp) rfl)
  refine wp_value (v := .pointer (some ⟨Z.sh, 0, none⟩)) (w' := w) ?_ (h.put (i := 16) (by decide) hu (Keep.refl _ _) rfl (noMk (by decide)))
  unfold execOp
  simp only [e23]
  first | done | go_simp
set_option maxRecDepth 100000 in
theorem rstep17 (_F : RF R Z st T lv w0) (h : RJ R Z T lv most w0 d a w) (hu : d.getD 17 true = false) {o : Oper} (ho : ropsAt[17]? = some o) (ha : ∀ e ∈ o.after, Region.binds .any e = true → d.getD e.on false = true) : o.wp Sq.prog a w (fun a' w' => RJ R Z T lv most w0 (d.setIfInBounds 17 true) a' w') Q := by
  obtain rfl : ({ dst := some 25, op := Op.fieldAddr 54 (Operand.tmp 24) 3, type := 0, pos := "round.go:33", after := #[{ on := 16, ground := Ground.data }], guard := none } : Oper) = o := Option.some.inj ((show ropsAt[17]? = some ({ dst := some 25, op := Op.fieldAddr 54 (Operand.tmp 24) 3, type := 0, pos := "round.go:33", after := #[{ on := 16, ground := Ground.data }], guard := none }) from rfl).symm.trans ho)
  have e24 : a.eval (.tmp 24) = .pointer (some ⟨Z.sh, 0, none⟩) := h.c 16 (by decide) (ha ⟨16, Ground.data⟩ (by simp) rfl)
  refine wp_value (v := .pointer (some ⟨Z.sh, 4, none⟩)) (w' := w) ?_ (h.put (i := 17) (by decide) hu (Keep.refl _ _) rfl (noMk (by decide)))
  unfold execOp
  simp only [e24]
  first | done | go_simp
set_option maxRecDepth 100000 in
theorem rstep18 (F : RF R Z st T lv w0) (h : RJ R Z T lv most w0 d a w) (hu : d.getD 18 true = false) {o : Oper} (ho : ropsAt[18]? = some o) (ha : ∀ e ∈ o.after, Region.binds .any e = true → d.getD e.on false = true) : o.wp Sq.prog a w (fun a' w' => RJ R Z T lv most w0 (d.setIfInBounds 18 true) a' w') Q := by
  obtain rfl : ({ dst := some 26, op := Op.load 45 (Operand.tmp 25), type := 45, pos := "round.go:33", after := #[{ on := 17, ground := Ground.data }], guard := none } : Oper) = o := Option.some.inj ((show ropsAt[18]? = some ({ dst := some 26, op := Op.load 45 (Operand.tmp 25), type := 45, pos := "round.go:33", after := #[{ on := 17, ground := Ground.data }], guard := none }) from rfl).symm.trans ho)
  have e25 : a.eval (.tmp 25) = .pointer (some ⟨Z.sh, 4, none⟩) := h.c 17 (by decide) (ha ⟨17, Ground.data⟩ (by simp) rfl)
  have hc := h.kp.cell id (F.s.s.cell (i := 4) (by decide))
  simp only [QZ.sv] at hc
  refine wp_value (v := .slice (some ⟨Z.fb, 0, none⟩) R.n Z.fc) (w' := w) ?_ (h.put (i := 18) (by decide) hu (Keep.refl _ _) rfl (noMk (by decide)))
  unfold execOp
  simp only [e25]
  first | done | go_simp
set_option maxRecDepth 100000 in
theorem rstep19 (F : RF R Z st T lv w0) (h : RJ R Z T lv most w0 d a w) (hu : d.getD 19 true = false) {o : Oper} (ho : ropsAt[19]? = some o) (ha : ∀ e ∈ o.after, Region.binds .any e = true → d.getD e.on false = true) : o.wp Sq.prog a w (fun a' w' => RJ R Z T lv most w0 (d.setIfInBounds 19 true) a' w') Q := by
  obtain rfl : ({ dst := some 27, op := Op.call { callee := Callee.value (Operand.func 29), args := #[Operand.tmp 26], argTypes := #[45] }, type := 45, pos := "round.go:37", after := #[{ on := 18, ground := Ground.data }, { on := 8, ground := Ground.chain }], guard := none } : Oper) = o := Option.some.inj ((show ropsAt[19]? = some ({ dst := some 27, op := Op.call { callee := Callee.value (Operand.func 29), args := #[Operand.tmp 26], argTypes := #[45] }, type := 45, pos := "round.go:37", after := #[{ on := 18, ground := Ground.data }, { on := 8, ground := Ground.chain }], guard := none }) from rfl).symm.trans ho)
  have e26 : a.eval (.tmp 26) = .slice (some ⟨Z.fb, 0, none⟩) R.n Z.fc := h.c 18 (by decide) (ha ⟨18, Ground.data⟩ (by simp) rfl)
  have hc : Calls Sq.prog 29 #[.slice (some ⟨Z.fb, 0, none⟩) R.n Z.fc] w _ := cloneB_any Z.fb Z.fc R.n ((List.range (R.n * 1)).map ((fun k => .bool (T.fr k)))) F.h0 F.hn (by simp) (fun u hu => by
    obtain ⟨j, hj, rfl⟩ := List.mem_map.1 hu
    rfl) w (row_list fun j hj => h.kp.cell id (F.s.fresh.cell (by omega)))
  refine wp_enter (f := 29) (args := #[.slice (some ⟨Z.fb, 0, none⟩) R.n Z.fc]) (w1 := w) ?_ (hc.mono ?_)
  · unfold execOp
    have e' := e26
    simp only [Act.eval, Array.getD_eq_getD_getElem?] at e'
    go_simp
  · rintro e w1 ⟨g, c, rfl, h1, h2, h3, h4⟩
    exact ⟨_, rfl, h.put (i := 19) (by decide) hu h4 ⟨g, c, rfl, Nat.le_trans h.kp.size h1, h2, fun j hj => mem_list h3 j (by simpa [mkSize] using hj)⟩ fun _ => ⟨g, rfl, h1⟩⟩
set_option maxRecDepth 100000 in
theorem rstep20 (_F : RF R Z st T lv w0) (h : RJ R Z T lv most w0 d a w) (hu : d.getD 20 true = false) {o : Oper} (ho : ropsAt[20]? = some o) (ha : ∀ e ∈ o.after, Region.binds .any e = true → d.getD e.on false = true) : o.wp Sq.prog a w (fun a' w' => RJ R Z T lv most w0 (d.setIfInBounds 20 true) a' w') Q := by
  obtain rfl : ({ dst := some 28, op := Op.buildSlice 23 1 #[(0, Operand.const (Value.int IntKind.i64 (-1)))], type := 23, pos := "round.go:33", after := #[], guard := none } : Oper) = o := Option.some.inj ((show ropsAt[20]? = some ({ dst := some 28, op := Op.buildSlice 23 1 #[(0, Operand.const (Value.int IntKind.i64 (-1)))], type := 23, pos := "round.go:33", after := #[], guard := none }) from rfl).symm.trans ho)
  refine wp_value (v := .slice (some ⟨w.heap.size, 0, none⟩) 1 1) (w' := w.alloc (.cells #[.int .i64 (-1)] 3)) ?_ (h.put (i := 20) (by decide) hu ((Keep.refl _ _).alloc _) ⟨_, _, rfl, h.kp.size, by simp, fun j hj => ?_⟩ fun _ => ⟨_, rfl, Nat.le_refl _⟩)
  · unfold execOp
    go_simp
  · obtain rfl : j = 0 := by
      have : j < 1 := hj
      omega
    exact ⟨by simp [mkCell], by simp⟩
set_option maxRecDepth 100000 in
theorem rstep21 (_F : RF R Z st T lv w0) (h : RJ R Z T lv most w0 d a w) (hu : d.getD 21 true = false) {o : Oper} (ho : ropsAt[21]? = some o) (ha : ∀ e ∈ o.after, Region.binds .any e = true → d.getD e.on false = true) : o.wp Sq.prog a w (fun a' w' => RJ R Z T lv most w0 (d.setIfInBounds 21 true) a' w') Q := by
  obtain rfl : ({ dst := some 29, op := Op.move (Operand.tmp 0), type := 25, pos := "round.go:33", after := #[], guard := none } : Oper) = o := Option.some.inj ((show ropsAt[21]? = some ({ dst := some 29, op := Op.move (Operand.tmp 0), type := 25, pos := "round.go:33", after := #[], guard := none }) from rfl).symm.trans ho)
  have e0 : a.eval (.tmp 0) = .pointer (some ⟨Z.sh, 0, none⟩) := h.t0
  refine wp_value (v := .pointer (some ⟨Z.sh, 0, none⟩)) (w' := w) ?_ (h.put (i := 21) (by decide) hu (Keep.refl _ _) rfl (noMk (by decide)))
  unfold execOp
  simp only [e0]
  first | done | go_simp
set_option maxRecDepth 100000 in
theorem rstep22 (_F : RF R Z st T lv w0) (h : RJ R Z T lv most w0 d a w) (hu : d.getD 22 true = false) {o : Oper} (ho : ropsAt[22]? = some o) (ha : ∀ e ∈ o.after, Region.binds .any e = true → d.getD e.on false = true) : o.wp Sq.prog a w (fun a' w' => RJ R Z T lv most w0 (d.setIfInBounds 22 true) a' w') Q := by
  obtain rfl : ({ dst := some 30, op := Op.nilCheck (Operand.tmp 29), type := 0, pos := "round.go:33", after := #[{ on := 21, ground := Ground.data }], guard := none } : Oper) = o := Option.some.inj ((show ropsAt[22]? = some ({ dst := some 30, op := Op.nilCheck (Operand.tmp 29), type := 0, pos := "round.go:33", after := #[{ on := 21, ground := Ground.data }], guard := none }) from rfl).symm.trans ho)
  have e29 : a.eval (.tmp 29) = .pointer (some ⟨Z.sh, 0, none⟩) := h.c 21 (by decide) (ha ⟨21, Ground.data⟩ (by simp) rfl)
  refine wp_value (v := .pointer (some ⟨Z.sh, 0, none⟩)) (w' := w) ?_ (h.put (i := 22) (by decide) hu (Keep.refl _ _) rfl (noMk (by decide)))
  unfold execOp
  simp only [e29]
  first | done | go_simp
set_option maxRecDepth 100000 in
theorem rstep23 (_F : RF R Z st T lv w0) (h : RJ R Z T lv most w0 d a w) (hu : d.getD 23 true = false) {o : Oper} (ho : ropsAt[23]? = some o) (ha : ∀ e ∈ o.after, Region.binds .any e = true → d.getD e.on false = true) : o.wp Sq.prog a w (fun a' w' => RJ R Z T lv most w0 (d.setIfInBounds 23 true) a' w') Q := by
  obtain rfl : ({ dst := some 31, op := Op.fieldAddr 54 (Operand.tmp 30) 1, type := 0, pos := "round.go:33", after := #[{ on := 22, ground := Ground.data }], guard := none } : Oper) = o := Option.some.inj ((show ropsAt[23]? = some ({ dst := some 31, op := Op.fieldAddr 54 (Operand.tmp 30) 1, type := 0, pos := "round.go:33", after := #[{ on := 22, ground := Ground.data }], guard := none }) from rfl).symm.trans ho)
  have e30 : a.eval (.tmp 30) = .pointer (some ⟨Z.sh, 0, none⟩) := h.c 22 (by decide) (ha ⟨22, Ground.data⟩ (by simp) rfl)
  refine wp_value (v := .pointer (some ⟨Z.sh, 2, none⟩)) (w' := w) ?_ (h.put (i := 23) (by decide) hu (Keep.refl _ _) rfl (noMk (by decide)))
  unfold execOp
  simp only [e30]
  first | done | go_simp
set_option maxRecDepth 100000 in
theorem rstep24 (F : RF R Z st T lv w0) (h : RJ R Z T lv most w0 d a w) (hu : d.getD 24 true = false) {o : Oper} (ho : ropsAt[24]? = some o) (ha : ∀ e ∈ o.after, Region.binds .any e = true → d.getD e.on false = true) : o.wp Sq.prog a w (fun a' w' => RJ R Z T lv most w0 (d.setIfInBounds 24 true) a' w') Q := by
  obtain rfl : ({ dst := some 32, op := Op.load 43 (Operand.tmp 31), type := 43, pos := "round.go:33", after := #[{ on := 23, ground := Ground.data }], guard := none } : Oper) = o := Option.some.inj ((show ropsAt[24]? = some ({ dst := some 32, op := Op.load 43 (Operand.tmp 31), type := 43, pos := "round.go:33", after := #[{ on := 23, ground := Ground.data }], guard := none }) from rfl).symm.trans ho)
  have e31 : a.eval (.tmp 31) = .pointer (some ⟨Z.sh, 2, none⟩) := h.c 23 (by decide) (ha ⟨23, Ground.data⟩ (by simp) rfl)
  have hc := h.kp.cell id (F.s.s.cell (i := 2) (by decide))
  simp only [QZ.sv] at hc
  refine wp_value (v := .slice (some ⟨Z.cb, 0, none⟩) R.n Z.cc) (w' := w) ?_ (h.put (i := 24) (by decide) hu (Keep.refl _ _) rfl (noMk (by decide)))
  unfold execOp
  simp only [e31]
  first | done | go_simp
set_option maxRecDepth 100000 in
theorem rstep25 (_F : RF R Z st T lv w0) (h : RJ R Z T lv most w0 d a w) (hu : d.getD 25 true = false) {o : Oper} (ho : ropsAt[25]? = some o) (ha : ∀ e ∈ o.after, Region.binds .any e = true → d.getD e.on false = true) : o.wp Sq.prog a w (fun a' w' => RJ R Z T lv most w0 (d.setIfInBounds 25 true) a' w') Q := by
  obtain rfl : ({ dst := some 33, op := Op.call { callee := Callee.builtin Builtin.len, args := #[Operand.tmp 32], argTypes := #[43] }, type := 3, pos := "round.go:33", after := #[{ on := 24, ground := Ground.data }], guard := none } : Oper) = o := Option.some.inj ((show ropsAt[25]? = some ({ dst := some 33, op := Op.call { callee := Callee.builtin Builtin.len, args := #[Operand.tmp 32], argTypes := #[43] }, type := 3, pos := "round.go:33", after := #[{ on := 24, ground := Ground.data }], guard := none }) from rfl).symm.trans ho)
  have e32 : a.eval (.tmp 32) = .slice (some ⟨Z.cb, 0, none⟩) R.n Z.cc := h.c 24 (by decide) (ha ⟨24, Ground.data⟩ (by simp) rfl)
  refine wp_value (v := .int .i64 R.n) (w' := w) ?_ (h.put (i := 25) (by decide) hu (Keep.refl _ _) rfl (noMk (by decide)))
  unfold execOp
  have e' := e32
  simp only [Act.eval, Array.getD_eq_getD_getElem?] at e'
  go_simp
set_option maxRecDepth 100000 in
theorem rstep26 (F : RF R Z st T lv w0) (h : RJ R Z T lv most w0 d a w) (hu : d.getD 26 true = false) {o : Oper} (ho : ropsAt[26]? = some o) (ha : ∀ e ∈ o.after, Region.binds .any e = true → d.getD e.on false = true) : o.wp Sq.prog a w (fun a' w' => RJ R Z T lv most w0 (d.setIfInBounds 26 true) a' w') Q := by
  obtain rfl : ({ dst := some 34, op := Op.call { callee := Callee.value (Operand.func 41), args := #[Operand.tmp 28, Operand.tmp 33], argTypes := #[23, 3] }, type := 23, pos := "round.go:38", after := #[{ on := 20, ground := Ground.data }, { on := 25, ground := Ground.data }, { on := 19, ground := Ground.chain }], guard := none } : Oper) = o := Option.some.inj ((show ropsAt[26]? = some ({ dst := some 34, op := Op.call { callee := Callee.value (Operand.func 41), args := #[Operand.tmp 28, Operand.tmp 33], argTypes := #[23, 3] }, type := 23, pos := "round.go:38", after := #[{ on := 20, ground := Ground.data }, { on := 25, ground := Ground.data }, { on := 19, ground := Ground.chain }], guard := none }) from rfl).symm.trans ho)
  obtain ⟨g0, c0, e28, _, _, hm0⟩ : Made R T lv w0 20 (a.eval (.tmp 28)) w := h.c 20 (by decide) (ha ⟨20, Ground.data⟩ (by simp) rfl)
  have e33 : a.eval (.tmp 33) = .int .i64 (R.n : Nat) := h.c 25 (by decide) (ha ⟨25, Ground.data⟩ (by simp) rfl)
  have hx : w.cell? ⟨g0, 0, none⟩ = some (.int .i64 (-1)) := hm0.cell (i := 0) (by simp [mkSize])
  refine wp_enter (f := 41) (args := #[.slice (some ⟨g0, 0, none⟩) 1 c0, .int .i64 (R.n : Nat)]) (w1 := w) ?_ ((repeat_any g0 c0 R.n F.hn F.h0 w hx).mono ?_)
  · unfold execOp
    have e' := e28
    have e'' := e33
    simp only [Act.eval, Array.getD_eq_getD_getElem?, mkLen] at e' e''
    go_simp
  · rintro e w1 ⟨g, rfl, h1, h2, h3, h4⟩
    exact ⟨_, rfl, h.put (i := 26) (by decide) hu h4 ⟨g, _, rfl, Nat.le_trans h.kp.size h1, h2, h3⟩ fun _ => ⟨g, rfl, h1⟩⟩
set_option maxRecDepth 100000 in
theorem rstep27 (_F : RF R Z st T lv w0) (h : RJ R Z T lv most w0 d a w) (hu : d.getD 27 true = false) {o : Oper} (ho : ropsAt[27]? = some o) (ha : ∀ e ∈ o.after, Region.binds .any e = true → d.getD e.on false = true) : o.wp Sq.prog a w (fun a' w' => RJ R Z T lv most w0 (d.setIfInBounds 27 true) a' w') Q := by
  obtain rfl : ({ dst := some 35, op := Op.move (Operand.tmp 0), type := 25, pos := "round.go:33", after := #[], guard := none } : Oper) = o := Option.some.inj ((show ropsAt[27]? = some ({ dst := some 35, op := Op.move (Operand.tmp 0), type := 25, pos := "round.go:33", after := #[], guard := none }) from rfl).symm.trans ho)
  have e0 : a.eval (.tmp 0) = .pointer (some ⟨Z.sh, 0, none⟩) := h.t0
  refine wp_value (v := .pointer (some ⟨Z.sh, 0, none⟩)) (w' := w) ?_ (h.put (i := 27) (by decide) hu (Keep.refl _ _) rfl (noMk (by decide)))
  unfold execOp
  simp only [e0]
  first | done | go_simp
set_option maxRecDepth 100000 in
theorem rstep28 (_F : RF R Z st T lv w0) (h : RJ R Z T lv most w0 d a w) (hu : d.getD 28 true = false) {o : Oper} (ho : ropsAt[28]? = some o) (ha : ∀ e ∈ o.after, Region.binds .any e = true → d.getD e.on false = true) : o.wp Sq.prog a w (fun a' w' => RJ R Z T lv most w0 (d.setIfInBounds 28 true) a' w') Q := by
  obtain rfl : ({ dst := some 36, op := Op.nilCheck (Operand.tmp 35), type := 0, pos := "round.go:33", after := #[{ on := 27, ground := Ground.data }], guard := none } : Oper) = o := Option.some.inj ((show ropsAt[28]? = some ({ dst := some 36, op := Op.nilCheck (Operand.tmp 35), type := 0, pos := "round.go:33", after := #[{ on := 27, ground := Ground.data }], guard := none }) from rfl).symm.trans ho)
  have e35 : a.eval (.tmp 35) = .pointer (some ⟨Z.sh, 0, none⟩) := h.c 27 (by decide) (ha ⟨27, Ground.data⟩ (by simp) rfl)
  refine wp_value (v := .pointer (some ⟨Z.sh, 0, none⟩)) (w' := w) ?_ (h.put (i := 28) (by decide) hu (Keep.refl _ _) rfl (noMk (by decide)))
  unfold execOp
  simp only [e35]
  first | done | go_simp
set_option maxRecDepth 100000 in
theorem rstep29 (_F : RF R Z st T lv w0) (h : RJ R Z T lv most w0 d a w) (hu : d.getD 29 true = false) {o : Oper} (ho : ropsAt[29]? = some o) (ha : ∀ e ∈ o.after, Region.binds .any e = true → d.getD e.on false = true) : o.wp Sq.prog a w (fun a' w' => RJ R Z T lv most w0 (d.setIfInBounds 29 true) a' w') Q := by
  obtain rfl : ({ dst := some 37, op := Op.fieldAddr 54 (Operand.tmp 36) 1, type := 0, pos := "round.go:33", after := #[{ on := 28, ground := Ground.data }], guard := none } : Oper) = o := Option.some.inj ((show ropsAt[29]? = some ({ dst := some 37, op := Op.fieldAddr 54 (Operand.tmp 36) 1, type := 0, pos := "round.go:33", after := #[{ on := 28, ground := Ground.data }], guard := none }) from rfl).symm.trans ho)
  have e36 : a.eval (.tmp 36) = .pointer (some ⟨Z.sh, 0, none⟩) := h.c 28 (by decide) (ha ⟨28, Ground.data⟩ (by simp) rfl)
  refine wp_value (v := .pointer (some ⟨Z.sh, 2, none⟩)) (w' := w) ?_ (h.put (i := 29) (by decide) hu (Keep.refl _ _) rfl (noMk (by decide)))
  unfold execOp
  simp only [e36]
  first | done | go_simp
set_option maxRecDepth 100000 in
theorem rstep30 (F : RF R Z st T lv w0) (h : RJ R Z T lv most w0 d a w) (hu : d.getD 30 true = false) {o : Oper} (ho : ropsAt[30]? = some o) (ha : ∀ e ∈ o.after, Region.binds .any e = true → d.getD e.on false = true) : o.wp Sq.prog a w (fun a' w' => RJ R Z T lv most w0 (d.setIfInBounds 30 true) a' w') Q := by
  obtain rfl : ({ dst := some 38, op := Op.load 43 (Operand.tmp 37), type := 43, pos := "round.go:33", after := #[{ on := 29, ground := Ground.data }], guard := none } : Oper) = o := Option.some.inj ((show ropsAt[30]? = some ({ dst := some 38, op := Op.load 43 (Operand.tmp 37), type := 43, pos := "round.go:33", after := #[{ on := 29, ground := Ground.data }], guard := none }) from rfl).symm.trans ho)
  have e37 : a.eval (.tmp 37) = .pointer (some ⟨Z.sh, 2, none⟩) := h.c 29 (by decide) (ha ⟨29, Ground.data⟩ (by simp) rfl)
  have hc := h.kp.cell id (F.s.s.cell (i := 2) (by decide))
  simp only [QZ.sv] at hc
  refine wp_value (v := .slice (some ⟨Z.cb, 0, none⟩) R.n Z.cc) (w' := w) ?_ (h.put (i := 30) (by decide) hu (Keep.refl _ _) rfl (noMk (by decide)))
  unfold execOp
  simp only [e37]
  first | done | go_simp
set_option maxRecDepth 100000 in
theorem rstep31 (_F : RF R Z st T lv w0) (h : RJ R Z T lv most w0 d a w) (hu : d.getD 31 true = false) {o : Oper} (ho : ropsAt[31]? = some o) (ha : ∀ e ∈ o.after, Region.binds .any e = true → d.getD e.on false = true) : o.wp Sq.prog a w (fun a' w' => RJ R Z T lv most w0 (d.setIfInBounds 31 true) a' w') Q := by
  obtain rfl : ({ dst := some 39, op := Op.call { callee := Callee.builtin Builtin.len, args := #[Operand.tmp 38], argTypes := #[43] }, type := 3, pos := "round.go:33", after := #[{ on := 30, ground := Ground.data }], guard := none } : Oper) = o := Option.some.inj ((show ropsAt[31]? = some ({ dst := some 39, op := Op.call { callee := Callee.builtin Builtin.len, args := #[Operand.tmp 38], argTypes := #[43] }, type := 3, pos := "round.go:33", after := #[{ on := 30, ground := Ground.data }], guard := none }) from rfl).symm.trans ho)
  have e38 : a.eval (.tmp 38) = .slice (some ⟨Z.cb, 0, none⟩) R.n Z.cc := h.c 30 (by decide) (ha ⟨30, Ground.data⟩ (by simp) rfl)
  refine wp_value (v := .int .i64 R.n) (w' := w) ?_ (h.put (i := 31) (by decide) hu (Keep.refl _ _) rfl (noMk (by decide)))
  unfold execOp
  have e' := e38
  simp only [Act.eval, Array.getD_eq_getD_getElem?] at e'
  go_simp
set_option maxRecDepth 100000 in
theorem rstep32 (F : RF R Z st T lv w0) (h : RJ R Z T lv most w0 d a w) (hu : d.getD 32 true = false) {o : Oper} (ho : ropsAt[32]? = some o) (ha : ∀ e ∈ o.after, Region.binds .any e = true → d.getD e.on false = true) : o.wp Sq.prog a w (fun a' w' => RJ R Z T lv most w0 (d.setIfInBounds 32 true) a' w') Q := by
  obtain rfl : ({ dst := some 40, op := Op.makeSlice 82 (Operand.tmp 39) (Operand.tmp 39), type := 82, pos := "round.go:33", after := #[{ on := 31, ground := Ground.data }, { on := 31, ground := Ground.data }], guard := none } : Oper) = o := Option.some.inj ((show ropsAt[32]? = some ({ dst := some 40, op := Op.makeSlice 82 (Operand.tmp 39) (Operand.tmp 39), type := 82, pos := "round.go:33", after := #[{ on := 31, ground := Ground.data }, { on := 31, ground := Ground.data }], guard := none }) from rfl).symm.trans ho)
  have e39 : a.eval (.tmp 39) = .int .i64 R.n := h.c 31 (by decide) (ha ⟨31, Ground.data⟩ (by simp) rfl)
  have hn := F.hn
  have hmk := mk_row (P := Sq.prog) 82 145 (.chan none) (.chan none) 8 ((sq_under 82).trans Try.underlying82) (by kernel_rfl) rfl R.n (by omega) (by omega) w
  refine wp_value (v := .slice (some ⟨w.heap.size, 0, none⟩) R.n R.n) (w' := w.alloc (.cells (madeCells #[.chan none] R.n) 145)) ?_ (h.put (i := 32) (by decide) hu ((Keep.refl _ _).alloc _) ⟨_, _, rfl, h.kp.size, by simp, fun j hj => ?_⟩ fun _ => ⟨_, rfl, Nat.le_refl _⟩)
  · unfold execOp
    simp only [e39]
    first | done | go_simp
  · have hr := World.rowIs_made w (.chan none) R.n 145
    exact ⟨hr.cell hj, hr.frozen j⟩
set_option maxRecDepth 100000 in
theorem rstep33 (_F : RF R Z st T lv w0) (h : RJ R Z T lv most w0 d a w) (hu : d.getD 33 true = false) {o : Oper} (ho : ropsAt[33]? = some o) (ha : ∀ e ∈ o.after, Region.binds .any e = true → d.getD e.on false = true) : o.wp Sq.prog a w (fun a' w' => RJ R Z T lv most w0 (d.setIfInBounds 33 true) a' w') Q := by
  obtain rfl : ({ dst := some 41, op := Op.buildSlice 23 1 #[(0, Operand.const (Value.int IntKind.i64 (-1)))], type := 23, pos := "round.go:33", after := #[], guard := none } : Oper) = o := Option.some.inj ((show ropsAt[33]? = some ({ dst := some 41, op := Op.buildSlice 23 1 #[(0, Operand.const (Value.int IntKind.i64 (-1)))], type := 23, pos := "round.go:33", after := #[], guard := none }) from rfl).symm.trans ho)
  refine wp_value (v := .slice (some ⟨w.heap.size, 0, none⟩) 1 1) (w' := w.alloc (.cells #[.int .i64 (-1)] 3)) ?_ (h.put (i := 33) (by decide) hu ((Keep.refl _ _).alloc _) ⟨_, _, rfl, h.kp.size, by simp, fun j hj => ?_⟩ fun _ => ⟨_, rfl, Nat.le_refl _⟩)
  · unfold execOp
    go_simp
  · obtain rfl : j = 0 := by
      have : j < 1 := hj
      omega
    exact ⟨by simp [mkCell], by simp⟩
set_option maxRecDepth 100000 in
theorem rstep34 (_F : RF R Z st T lv w0) (h : RJ R Z T lv most w0 d a w) (hu : d.getD 34 true = false) {o : Oper} (ho : ropsAt[34]? = some o) (ha : ∀ e ∈ o.after, Region.binds .any e = true → d.getD e.on false = true) : o.wp Sq.prog a w (fun a' w' => RJ R Z T lv most w0 (d.setIfInBounds 34 true) a' w') Q := by
  obtain rfl : ({ dst := some 42, op := Op.move (Operand.tmp 1), type := 3, pos := "round.go:33", after := #[], guard := none } : Oper) = o := Option.some.inj ((show ropsAt[34]? = some ({ dst := some 42, op := Op.move (Operand.tmp 1), type := 3, pos := "round.go:33", after := #[], guard := none }) from rfl).symm.trans ho)
  have e1 : a.eval (.tmp 1) = .int .i64 1 := h.t1
  refine wp_value (v := .int .i64 1) (w' := w) ?_ (h.put (i := 34) (by decide) hu (Keep.refl _ _) rfl (noMk (by decide)))
  unfold execOp
  simp only [e1]
  first | done | go_simp
set_option maxRecDepth 100000 in
theorem rstep35 (_F : RF R Z st T lv w0) (h : RJ R Z T lv most w0 d a w) (hu : d.getD 35 true = false) {o : Oper} (ho : ropsAt[35]? = some o) (ha : ∀ e ∈ o.after, Region.binds .any e = true → d.getD e.on false = true) : o.wp Sq.prog a w (fun a' w' => RJ R Z T lv most w0 (d.setIfInBounds 35 true) a' w') Q := by
  obtain rfl : ({ dst := some 43, op := Op.call { callee := Callee.value (Operand.func 41), args := #[Operand.tmp 41, Operand.tmp 42], argTypes := #[23, 3] }, type := 23, pos := "round.go:40", after := #[{ on := 33, ground := Ground.data }, { on := 34, ground := Ground.data }, { on := 26, ground := Ground.chain }], guard := none } : Oper) = o := Option.some.inj ((show ropsAt[35]? = some ({ dst := some 43, op := Op.call { callee := Callee.value (Operand.func 41), args := #[Operand.tmp 41, Operand.tmp 42], argTypes := #[23, 3] }, type := 23, pos := "round.go:40", after := #[{ on := 33, ground := Ground.data }, { on := 34, ground := Ground.data }, { on := 26, ground := Ground.chain }], guard := none }) from rfl).symm.trans ho)
  obtain ⟨g0, c0, e41, _, _, hm0⟩ : Made R T lv w0 33 (a.eval (.tmp 41)) w := h.c 33 (by decide) (ha ⟨33, Ground.data⟩ (by simp) rfl)
  have e42 : a.eval (.tmp 42) = .int .i64 (1 : Nat) := h.c 34 (by decide) (ha ⟨34, Ground.data⟩ (by simp) rfl)
  have hx : w.cell? ⟨g0, 0, none⟩ = some (.int .i64 (-1)) := hm0.cell (i := 0) (by simp [mkSize])
  refine wp_enter (f := 41) (args := #[.slice (some ⟨g0, 0, none⟩) 1 c0, .int .i64 (1 : Nat)]) (w1 := w) ?_ ((repeat_any g0 c0 1 (by decide) (by decide) w hx).mono ?_)
  · unfold execOp
    have e' := e41
    have e'' := e42
    simp only [Act.eval, Array.getD_eq_getD_getElem?, mkLen] at e' e''
    go_simp
  · rintro e w1 ⟨g, rfl, h1, h2, h3, h4⟩
    exact ⟨_, rfl, h.put (i := 35) (by decide) hu h4 ⟨g, _, rfl, Nat.le_trans h.kp.size h1, h2, h3⟩ fun _ => ⟨g, rfl, h1⟩⟩
set_option maxRecDepth 100000 in
theorem rstep36 (_F : RF R Z st T lv w0) (h : RJ R Z T lv most w0 d a w) (hu : d.getD 36 true = false) {o : Oper} (ho : ropsAt[36]? = some o) (ha : ∀ e ∈ o.after, Region.binds .any e = true → d.getD e.on false = true) : o.wp Sq.prog a w (fun a' w' => RJ R Z T lv most w0 (d.setIfInBounds 36 true) a' w') Q := by
  obtain rfl : ({ dst := some 44, op := Op.build 84 #[(0, Operand.tmp 11), (1, Operand.tmp 16), (2, Operand.tmp 22), (5, Operand.tmp 27), (6, Operand.tmp 34), (7, Operand.tmp 40), (8, Operand.tmp 43)], type := 84, pos := "round.go:33", after := #[{ on := 3, ground := Ground.data }, { on := 8, ground := Ground.data }, { on := 14, ground := Ground.data }, { on := 19, ground := Ground.data }, { on := 26, ground := Ground.data }, { on := 32, ground := Ground.data }, { on := 35, ground := Ground.data }], guard := none } : Oper) = o := Option.some.inj ((show ropsAt[36]? = some ({ dst := some 44, op := Op.build 84 #[(0, Operand.tmp 11), (1, Operand.tmp 16), (2, Operand.tmp 22), (5, Operand.tmp 27), (6, Operand.tmp 34), (7, Operand.tmp 40), (8, Operand.tmp 43)], type := 84, pos := "round.go:33", after := #[{ on := 3, ground := Ground.data }, { on := 8, ground := Ground.data }, { on := 14, ground := Ground.data }, { on := 19, ground := Ground.data }, { on := 26, ground := Ground.data }, { on := 32, ground := Ground.data }, { on := 35, ground := Ground.data }], guard := none }) from rfl).symm.trans ho)
  have e11 : a.eval (.tmp 11) = .slice (some ⟨Z.cb, 0, none⟩) R.n Z.cc := h.c 3 (by decide) (ha ⟨3, Ground.data⟩ (by simp) rfl)
  have m16 : Made R T lv w0 8 (a.eval (.tmp 16)) w := h.c 8 (by decide) (ha ⟨8, Ground.data⟩ (by simp) rfl)
  have m22 : Made R T lv w0 14 (a.eval (.tmp 22)) w := h.c 14 (by decide) (ha ⟨14, Ground.data⟩ (by simp) rfl)
  have m27 : Made R T lv w0 19 (a.eval (.tmp 27)) w := h.c 19 (by decide) (ha ⟨19, Ground.data⟩ (by simp) rfl)
  have m34 : Made R T lv w0 26 (a.eval (.tmp 34)) w := h.c 26 (by decide) (ha ⟨26, Ground.data⟩ (by simp) rfl)
  have m40 : Made R T lv w0 32 (a.eval (.tmp 40)) w := h.c 32 (by decide) (ha ⟨32, Ground.data⟩ (by simp) rfl)
  have m43 : Made R T lv w0 35 (a.eval (.tmp 43)) w := h.c 35 (by decide) (ha ⟨35, Ground.data⟩ (by simp) rfl)
  have n16_22 : (a.eval (.tmp 16)).ownBlock ≠ (a.eval (.tmp 22)).ownBlock := h.dist 8 14 (by decide) (by decide) (by decide) (by decide) (by decide) (ha ⟨8, Ground.data⟩ (by simp) rfl) (ha ⟨14, Ground.data⟩ (by simp) rfl)
  have n16_27 : (a.eval (.tmp 16)).ownBlock ≠ (a.eval (.tmp 27)).ownBlock := h.dist 8 19 (by decide) (by decide) (by decide) (by decide) (by decide) (ha ⟨8, Ground.data⟩ (by simp) rfl) (ha ⟨19, Ground.data⟩ (by simp) rfl)
  have n16_34 : (a.eval (.tmp 16)).ownBlock ≠ (a.eval (.tmp 34)).ownBlock := h.dist 8 26 (by decide) (by decide) (by decide) (by decide) (by decide) (ha ⟨8, Ground.data⟩ (by simp) rfl) (ha ⟨26, Ground.data⟩ (by simp) rfl)
  have n16_40 : (a.eval (.tmp 16)).ownBlock ≠ (a.eval (.tmp 40)).ownBlock := h.dist 8 32 (by decide) (by decide) (by decide) (by decide) (by decide) (ha ⟨8, Ground.data⟩ (by simp) rfl) (ha ⟨32, Ground.data⟩ (by simp) rfl)
  have n16_43 : (a.eval (.tmp 16)).ownBlock ≠ (a.eval (.tmp 43)).ownBlock := h.dist 8 35 (by decide) (by decide) (by decide) (by decide) (by decide) (ha ⟨8, Ground.data⟩ (by simp) rfl) (ha ⟨35, Ground.data⟩ (by simp) rfl)
  have n22_27 : (a.eval (.tmp 22)).ownBlock ≠ (a.eval (.tmp 27)).ownBlock := h.dist 14 19 (by decide) (by decide) (by decide) (by decide) (by decide) (ha ⟨14, Ground.data⟩ (by simp) rfl) (ha ⟨19, Ground.data⟩ (by simp) rfl)
  have n22_34 : (a.eval (.tmp 22)).ownBlock ≠ (a.eval (.tmp 34)).ownBlock := h.dist 14 26 (by decide) (by decide) (by decide) (by decide) (by decide) (ha ⟨14, Ground.data⟩ (by simp) rfl) (ha ⟨26, Ground.data⟩ (by simp) rfl)
  have n22_40 : (a.eval (.tmp 22)).ownBlock ≠ (a.eval (.tmp 40)).ownBlock := h.dist 14 32 (by decide) (by decide) (by decide) (by decide) (by decide) (ha ⟨14, Ground.data⟩ (by simp) rfl) (ha ⟨32, Ground.data⟩ (by simp) rfl)
  have n22_43 : (a.eval (.tmp 22)).ownBlock ≠ (a.eval (.tmp 43)).ownBlock := h.dist 14 35 (by decide) (by decide) (by decide) (by decide) (by decide) (ha ⟨14, Ground.data⟩ (by simp) rfl) (ha ⟨35, Ground.data⟩ (by simp) rfl)
  have n27_34 : (a.eval (.tmp 27)).ownBlock ≠ (a.eval (.tmp 34)).ownBlock := h.dist 19 26 (by decide) (by decide) (by decide) (by decide) (by decide) (ha ⟨19, Ground.data⟩ (by simp) rfl) (ha ⟨26, Ground.data⟩ (by simp) rfl)
  have n27_40 : (a.eval (.tmp 27)).ownBlock ≠ (a.eval (.tmp 40)).ownBlock := h.dist 19 32 (by decide) (by decide) (by decide) (by decide) (by decide) (ha ⟨19, Ground.data⟩ (by simp) rfl) (ha ⟨32, Ground.data⟩ (by simp) rfl)
  have n27_43 : (a.eval (.tmp 27)).ownBlock ≠ (a.eval (.tmp 43)).ownBlock := h.dist 19 35 (by decide) (by decide) (by decide) (by decide) (by decide) (ha ⟨19, Ground.data⟩ (by simp) rfl) (ha ⟨35, Ground.data⟩ (by simp) rfl)
  have n34_40 : (a.eval (.tmp 34)).ownBlock ≠ (a.eval (.tmp 40)).ownBlock := h.dist 26 32 (by decide) (by decide) (by decide) (by decide) (by decide) (ha ⟨26, Ground.data⟩ (by simp) rfl) (ha ⟨32, Ground.data⟩ (by simp) rfl)
  have n34_43 : (a.eval (.tmp 34)).ownBlock ≠ (a.eval (.tmp 43)).ownBlock := h.dist 26 35 (by decide) (by decide) (by decide) (by decide) (by decide) (ha ⟨26, Ground.data⟩ (by simp) rfl) (ha ⟨35, Ground.data⟩ (by simp) rfl)
  have n40_43 : (a.eval (.tmp 40)).ownBlock ≠ (a.eval (.tmp 43)).ownBlock := h.dist 32 35 (by decide) (by decide) (by decide) (by decide) (by decide) (ha ⟨32, Ground.data⟩ (by simp) rfl) (ha ⟨35, Ground.data⟩ (by simp) rfl)
  generalize hx16 : a.eval (.tmp 16) = x16 at *
  generalize hx22 : a.eval (.tmp 22) = x22 at *
  generalize hx27 : a.eval (.tmp 27) = x27 at *
  generalize hx34 : a.eval (.tmp 34) = x34 at *
  generalize hx40 : a.eval (.tmp 40) = x40 at *
  generalize hx43 : a.eval (.tmp 43) = x43 at *
  obtain ⟨g16, c16, e16, _⟩ := id m16
  obtain ⟨g22, c22, e22, _⟩ := id m22
  obtain ⟨g27, c27, e27, _⟩ := id m27
  obtain ⟨g34, c34, e34, _⟩ := id m34
  obtain ⟨g40, c40, e40, _⟩ := id m40
  obtain ⟨g43, c43, e43, _⟩ := id m43
  refine wp_value (v := .agg (roundV R Z x16 x22 x27 x34 x40 x43)) (w' := w) ?_ (h.put (i := 36) (by decide) hu (Keep.refl _ _) ⟨_, rfl, x16, x22, x27, x34, x40, x43, rfl, m16, m22, m27, m34, m40, m43, by simp only [List.nodup_cons, List.mem_cons, List.not_mem_nil, or_false, not_or, List.nodup_nil, and_true, not_false_eq_true]; exact ⟨⟨n16_22, n16_27, n16_34, n16_40, n16_43⟩, ⟨n22_27, n22_34, n22_40, n22_43⟩, ⟨n27_34, n27_40, n27_43⟩, ⟨n34_40, n34_43⟩, n40_43⟩⟩ (noMk (by decide)))
  subst e16 e22 e27 e34 e40 e43
  unfold execOp
  simp only [Act.eval, Array.getD_eq_getD_getElem?] at e11 hx16 hx22 hx27 hx34 hx40 hx43
  simp only [roundV]
  go_simp
set_option maxRecDepth 100000 in
theorem rstep37 (_F : RF R Z st T lv w0) (h : RJ R Z T lv most w0 d a w) (hu : d.getD 37 true = false) {o : Oper} (ho : ropsAt[37]? = some o) (ha : ∀ e ∈ o.after, Region.binds .any e = true → d.getD e.on false = true) : o.wp Sq.prog a w (fun a' w' => RJ R Z T lv most w0 (d.setIfInBounds 37 true) a' w') Q := by
  obtain rfl : ({ dst := some 45, op := Op.box 84 (Operand.tmp 44), type := 75, pos := "round.go:33", after := #[{ on := 36, ground := Ground.data }], guard := none } : Oper) = o := Option.some.inj ((show ropsAt[37]? = some ({ dst := some 45, op := Op.box 84 (Operand.tmp 44), type := 75, pos := "round.go:33", after := #[{ on := 36, ground := Ground.data }], guard := none }) from rfl).symm.trans ho)
  obtain ⟨c, e44, hv⟩ : ∃ c, a.eval (.tmp 44) = .agg c ∧ RV R Z T lv w0 c w := h.c 36 (by decide) (ha ⟨36, Ground.data⟩ (by simp) rfl)
  refine wp_value (v := .pointer (some ⟨w.heap.size, 0, none⟩)) (w' := w.alloc (.cells c 84)) ?_ (h.put (i := 37) (by decide) hu ((Keep.refl _ _).alloc _) ⟨_, c, w, rfl, h.kp.size, heap_alloc_new w _, Nat.le_refl _, hv, (Keep.refl _ _).alloc _⟩ (noMk (by decide)))
  unfold execOp
  simp only [e44]
  go_simp
set_option maxRecDepth 100000 in
theorem rstep38 (_F : RF R Z st T lv w0) (h : RJ R Z T lv most w0 d a w) (hu : d.getD 38 true = false) {o : Oper} (ho : ropsAt[38]? = some o) (ha : ∀ e ∈ o.after, Region.binds .any e = true → d.getD e.on false = true) : o.wp Sq.prog a w (fun a' w' => RJ R Z T lv most w0 (d.setIfInBounds 38 true) a' w') Q := by
  obtain rfl : ({ dst := some 7, op := Op.assign (Operand.tmp 45), type := 75, pos := "round.go:33", after := #[{ on := 37, ground := Ground.data }, { on := 35, ground := Ground.chain }, { on := 0, ground := Ground.phase }, { on := 1, ground := Ground.phase }, { on := 2, ground := Ground.phase }, { on := 3, ground := Ground.phase }, { on := 4, ground := Ground.phase }, { on := 5, ground := Ground.phase }, { on := 6, ground := Ground.phase }, { on := 7, ground := Ground.phase }, { on := 8, ground := Ground.phase }, { on := 9, ground := Ground.phase }, { on := 10, ground := Ground.phase }, { on := 11, ground := Ground.phase }, { on := 12, ground := Ground.phase }, { on := 13, ground := Ground.phase }, { on := 14, ground := Ground.phase }, { on := 15, ground := Ground.phase }, { on := 16, ground := Ground.phase }, { on := 17, ground := Ground.phase }, { on := 18, ground := Ground.phase }, { on := 19, ground := Ground.phase }, { on := 20, ground := Ground.phase }, { on := 21, ground := Ground.phase }, { on := 22, ground := Ground.phase }, { on := 23, ground := Ground.phase }, { on := 24, ground := Ground.phase }, { on := 25, ground := Ground.phase }, { on := 26, ground := Ground.phase }, { on := 27, ground := Ground.phase }, { on := 28, ground := Ground.phase }, { on := 29, ground := Ground.phase }, { on := 30, ground := Ground.phase }, { on := 31, ground := Ground.phase }, { on := 32, ground := Ground.phase }, { on := 33, ground := Ground.phase }, { on := 34, ground := Ground.phase }, { on := 35, ground := Ground.phase }, { on := 36, ground := Ground.phase }, { on := 37, ground := Ground.phase }], guard := none } : Oper) = o := Option.some.inj ((show ropsAt[38]? = some ({ dst := some 7, op := Op.assign (Operand.tmp 45), type := 75, pos := "round.go:33", after := #[{ on := 37, ground := Ground.data }, { on := 35, ground := Ground.chain }, { on := 0, ground := Ground.phase }, { on := 1, ground := Ground.phase }, { on := 2, ground := Ground.phase }, { on := 3, ground := Ground.phase }, { on := 4, ground := Ground.phase }, { on := 5, ground := Ground.phase }, { on := 6, ground := Ground.phase }, { on := 7, ground := Ground.phase }, { on := 8, ground := Ground.phase }, { on := 9, ground := Ground.phase }, { on := 10, ground := Ground.phase }, { on := 11, ground := Ground.phase }, { on := 12, ground := Ground.phase }, { on := 13, ground := Ground.phase }, { on := 14, ground := Ground.phase }, { on := 15, ground := Ground.phase }, { on := 16, ground := Ground.phase }, { on := 17, ground := Ground.phase }, { on := 18, ground := Ground.phase }, { on := 19, ground := Ground.phase }, { on := 20, ground := Ground.phase }, { on := 21, ground := Ground.phase }, { on := 22, ground := Ground.phase }, { on := 23, ground := Ground.phase }, { on := 24, ground := Ground.phase }, { on := 25, ground := Ground.phase }, { on := 26, ground := Ground.phase }, { on := 27, ground := Ground.phase }, { on := 28, ground := Ground.phase }, { on := 29, ground := Ground.phase }, { on := 30, ground := Ground.phase }, { on := 31, ground := Ground.phase }, { on := 32, ground := Ground.phase }, { on := 33, ground := Ground.phase }, { on := 34, ground := Ground.phase }, { on := 35, ground := Ground.phase }, { on := 36, ground := Ground.phase }, { on := 37, ground := Ground.phase }], guard := none }) from rfl).symm.trans ho)
  have e45 : RB R Z T lv w0 (a.eval (.tmp 45)) w := h.c 37 (by decide) (ha ⟨37, Ground.data⟩ (by simp) rfl)
  refine wp_value (v := a.eval (.tmp 45)) (w' := w) ?_ (h.put (i := 38) (by decide) hu (Keep.refl _ _) e45 (noMk (by decide)))
  unfold execOp
  rfl
theorem round_step (F : RF R Z st T lv w0) (h : RJ R Z T lv most w0 d a w) {i : Nat} {o : Oper} (ho : ropsAt[i]? = some o) (hu : d.getD i true = false) (ha : ∀ e ∈ o.after, Region.binds .any e = true → d.getD e.on false = true) : o.wp Sq.prog a w (fun a' w' => RJ R Z T lv most w0 (d.setIfInBounds i true) a' w') Q := by
  have hi : i < 39 := by
    have := (Array.getElem?_eq_some_iff.1 ho).1
    rwa [rops_size] at this
  have : i = 0 ∨ i = 1 ∨ i = 2 ∨ i = 3 ∨ i = 4 ∨ i = 5 ∨ i = 6 ∨ i = 7 ∨ i = 8 ∨ i = 9 ∨ i = 10 ∨ i = 11 ∨ i = 12 ∨ i = 13 ∨ i = 14 ∨ i = 15 ∨ i = 16 ∨ i = 17 ∨ i = 18 ∨ i = 19 ∨ i = 20 ∨ i = 21 ∨ i = 22 ∨ i = 23 ∨ i = 24 ∨ i = 25 ∨ i = 26 ∨ i = 27 ∨ i = 28 ∨ i = 29 ∨ i = 30 ∨ i = 31 ∨ i = 32 ∨ i = 33 ∨ i = 34 ∨ i = 35 ∨ i = 36 ∨ i = 37 ∨ i = 38 := by omega
  rcases this with rfl | rfl | rfl | rfl | rfl | rfl | rfl | rfl | rfl | rfl | rfl | rfl | rfl | rfl | rfl | rfl | rfl | rfl | rfl | rfl | rfl | rfl | rfl | rfl | rfl | rfl | rfl | rfl | rfl | rfl | rfl | rfl | rfl | rfl | rfl | rfl | rfl | rfl | rfl
  · exact rstep0 F h hu ho ha
  · exact rstep1 F h hu ho ha
  · exact rstep2 F h hu ho ha
  · exact rstep3 F h hu ho ha
  · exact rstep4 F h hu ho ha
  · exact rstep5 F h hu ho ha
  · exact rstep6 F h hu ho ha
  · exact rstep7 F h hu ho ha
  · exact rstep8 F h hu ho ha
  · exact rstep9 F h hu ho ha
  · exact rstep10 F h hu ho ha
  · exact rstep11 F h hu ho ha
  · exact rstep12 F h hu ho ha
  · exact rstep13 F h hu ho ha
  · exact rstep14 F h hu ho ha
  · exact rstep15 F h hu ho ha
  · exact rstep16 F h hu ho ha
  · exact rstep17 F h hu ho ha
  · exact rstep18 F h hu ho ha
  · exact rstep19 F h hu ho ha
  · exact rstep20 F h hu ho ha
  · exact rstep21 F h hu ho ha
  · exact rstep22 F h hu ho ha
  · exact rstep23 F h hu ho ha
  · exact rstep24 F h hu ho ha
  · exact rstep25 F h hu ho ha
  · exact rstep26 F h hu ho ha
  · exact rstep27 F h hu ho ha
  · exact rstep28 F h hu ho ha
  · exact rstep29 F h hu ho ha
  · exact rstep30 F h hu ho ha
  · exact rstep31 F h hu ho ha
  · exact rstep32 F h hu ho ha
  · exact rstep33 F h hu ho ha
  · exact rstep34 F h hu ho ha
  · exact rstep35 F h hu ho ha
  · exact rstep36 F h hu ho ha
  · exact rstep37 F h hu ho ha
  · exact rstep38 F h hu ho ha
end
end Go.Proofs.Ytdlnlcjmjgbikaa
