/- What a rule reckons. -/
import Derived.Test.YtdlnlcjmjgbikaaTd
namespace Go.Proofs.Ytdlnlcjmjgbikaa
open Go Go.Conc Go.RowKit

noncomputable section
variable {b o n cap : Nat} {w : World}
/-- What the rule makes of the first and the last number. -/
def rk (k f l : Int) : Int := if k = 1 then mdl (wrap64 (mdl f 1000003 + mdl l 1000003)) 1000003 else if k = 2 then mdl (wrap64 (mdl f 1000003 * mdl l 1000003)) 1000003 else if k = 3 then (if f < l then 1 else 0) else if k = 4 then l else mdl f 4
set_option maxRecDepth 100000 in
set_option maxHeartbeats 1000000 in
theorem reckon_low {ab ao : Nat} {f : Int} (h0 : w.cell? ⟨b, o, none⟩ = some (.int .i64 5)) (hf : w.cell? ⟨ab, ao + 1, none⟩ = some (.int .i64 f)) :
    Calls Sq.prog 89 #[.pointer (some ⟨b, o, none⟩), .slice (some ⟨ab, ao, none⟩) 1 cap] w fun e w' => e = .returned (.int .i64 (rk 5 f f)) ∧ ∃ d, w' = w.at d := by
  go_enter Sq.func89, Sq.ntmps89
  go_wp2_with fail
  go_region
  go_wp2_with fail
  refine (modulo_any f 4 _ (by decide)).mono ?_
  rintro e w1 ⟨rfl, rfl⟩
  go_wp2_with fail
  go_ret
  exact ⟨by simp [rk], _, rfl⟩
set_option maxRecDepth 100000 in
set_option maxHeartbeats 1000000 in
theorem reckon_add {ab ao : Nat} {f l : Int} (h0 : w.cell? ⟨b, o, none⟩ = some (.int .i64 1)) (hf : w.cell? ⟨ab, ao + 1, none⟩ = some (.int .i64 f)) (hl : w.cell? ⟨ab, ao + 4, none⟩ = some (.int .i64 l)) :
    Calls Sq.prog 89 #[.pointer (some ⟨b, o, none⟩), .slice (some ⟨ab, ao, none⟩) 2 cap] w fun e w' => e = .returned (.int .i64 (rk 1 f l)) ∧ ∃ d, w' = w.at d := by
  go_enter Sq.func89, Sq.ntmps89
  go_wp2_with fail
  go_region
  go_wp2_with fail
  refine (modulo_any f 1000003 _ (by decide)).mono ?_
  rintro e w1 ⟨rfl, rfl⟩
  go_wp2_with fail
  refine (modulo_any l 1000003 _ (by decide)).mono ?_
  rintro e w1 ⟨rfl, rfl⟩
  go_wp2_with fail
  refine (modulo_any _ 1000003 _ (by decide)).mono ?_
  rintro e w1 ⟨rfl, rfl⟩
  go_wp2_with fail
  go_ret
  exact ⟨by simp [rk], _, rfl⟩
set_option maxRecDepth 100000 in
set_option maxHeartbeats 1000000 in
theorem reckon_mul {ab ao : Nat} {f l : Int} (h0 : w.cell? ⟨b, o, none⟩ = some (.int .i64 2)) (hf : w.cell? ⟨ab, ao + 1, none⟩ = some (.int .i64 f)) (hl : w.cell? ⟨ab, ao + 4, none⟩ = some (.int .i64 l)) :
    Calls Sq.prog 89 #[.pointer (some ⟨b, o, none⟩), .slice (some ⟨ab, ao, none⟩) 2 cap] w fun e w' => e = .returned (.int .i64 (rk 2 f l)) ∧ ∃ d, w' = w.at d := by
  go_enter Sq.func89, Sq.ntmps89
  go_wp2_with fail
  go_region
  go_wp2_with fail
  refine (modulo_any f 1000003 _ (by decide)).mono ?_
  rintro e w1 ⟨rfl, rfl⟩
  go_wp2_with fail
  refine (modulo_any l 1000003 _ (by decide)).mono ?_
  rintro e w1 ⟨rfl, rfl⟩
  go_wp2_with fail
  refine (modulo_any _ 1000003 _ (by decide)).mono ?_
  rintro e w1 ⟨rfl, rfl⟩
  go_wp2_with fail
  go_ret
  exact ⟨by simp [rk], _, rfl⟩
set_option maxRecDepth 100000 in
set_option maxHeartbeats 1000000 in
theorem reckon_pick {ab ao : Nat} {f l : Int} (h0 : w.cell? ⟨b, o, none⟩ = some (.int .i64 4)) (hf : w.cell? ⟨ab, ao + 1, none⟩ = some (.int .i64 f)) (hl : w.cell? ⟨ab, ao + 4, none⟩ = some (.int .i64 l)) :
    Calls Sq.prog 89 #[.pointer (some ⟨b, o, none⟩), .slice (some ⟨ab, ao, none⟩) 2 cap] w fun e w' => e = .returned (.int .i64 (rk 4 f l)) ∧ ∃ d, w' = w.at d := by
  go_enter Sq.func89, Sq.ntmps89
  go_wp2_with fail
  go_region
  go_wp2_with fail
  go_ret
  exact ⟨by simp [rk], _, rfl⟩
set_option maxRecDepth 100000 in
set_option maxHeartbeats 1000000 in
theorem reckon_less {ab ao : Nat} {f l : Int} (h0 : w.cell? ⟨b, o, none⟩ = some (.int .i64 3)) (hf : w.cell? ⟨ab, ao + 1, none⟩ = some (.int .i64 f)) (hl : w.cell? ⟨ab, ao + 4, none⟩ = some (.int .i64 l)) :
    Calls Sq.prog 89 #[.pointer (some ⟨b, o, none⟩), .slice (some ⟨ab, ao, none⟩) 2 cap] w fun e w' => e = .returned (.int .i64 (rk 3 f l)) ∧ ∃ d, w' = w.at d := by
  go_enter Sq.func89, Sq.ntmps89
  go_wp2_with fail
  go_region
  go_wp2_with fail
  refine (truth_any (decide (f < l)) _).mono ?_
  rintro e w1 ⟨rfl, rfl⟩
  go_wp2_with fail
  all_goals
    go_ret
    refine ⟨?_, _, rfl⟩
    simp_all [rk]
end
end Go.Proofs.Ytdlnlcjmjgbikaa
/- take and release. -/
namespace Go.Proofs.Ytdlnlcjmjgbikaa
open Go Go.Conc Go.RowKit

noncomputable section
variable {r s fb fc k n : Nat} {w : World}
set_option maxRecDepth 100000 in
set_option maxHeartbeats 1000000 in
/-- It is up to date. -/
theorem take_ready (h4 : w.cell? ⟨r, s + 4, none⟩ = some (.int .i32 0)) (z4 : w.frozen? ⟨r, s + 4, none⟩ = false) (h6 : w.cell? ⟨r, s + 6, none⟩ = some (.slice (some ⟨fb, 0, none⟩) n fc)) (hk : k < n) (hf : w.cell? ⟨fb, k, none⟩ = some (.bool true)) (hne : fb ≠ r) :
    Calls Sq.prog 70 #[.pointer (some ⟨r, s, none⟩), .int .i64 0, .int .i64 k] w fun e w' => e = .returned (.tuple #[.int .i64 0, .chan none]) ∧ w' = (w.setCell ⟨r, s + 4, none⟩ (.int .i32 1)).setCell ⟨r, s + 4, none⟩ (.int .i32 0) := by
  go_enter_defers Sq.func70, Sq.ntmps70
  go_wp2_with fail
  refine (qlock_any ⟨r, s + 4, none⟩ w h4 z4).mono ?_
  rintro e w1 ⟨rfl, rfl⟩
  go_wp2_with fail
  refine leaves_cons (f := 15) (args := #[.pointer (some ⟨r, s + 4, none⟩)]) (by simp) (by simp [invoke]) ?_
  refine (qunlock_d ⟨r, s + 4, none⟩ _ _ ?_ (by simp [z4])).mono ?_
  · exact World.cell?_setCell_same _ _ _ h4
  · rintro e u' w3 ⟨rfl, rfl, rfl⟩
    exact ⟨_, results_tmp2 rfl _ _ _, rfl, rfl⟩
set_option maxRecDepth 100000 in
set_option maxHeartbeats 1000000 in
/-- leadsBack, of a worker's own cell. -/
theorem back_own {hb hc : Nat} (h7 : w.cell? ⟨r, s + 7, none⟩ = some (.slice (some ⟨hb, 0, none⟩) n hc)) (hk : k < n) (hh : w.cell? ⟨hb, k, none⟩ = some (.int .i64 0)) :
    Calls Sq.prog 86 #[.pointer (some ⟨r, s, none⟩), .int .i64 0, .int .i64 k] w fun e w' => e = .returned (.bool true) ∧ w' = w := by
  go_enter Sq.func86, Sq.ntmps86
  go_wp2_with fail
  refine wp_loop_rounds 1 ?_
  rw [rounds_succ]
  go_wp2_with fail
  have hk1 : ((k : Int) != -1) = true := by simp
  go_ret
  simp [hk1]
set_option maxRecDepth 100000 in
set_option maxHeartbeats 1000000 in
/-- It is in the worker's own hands: a ring. -/
theorem take_ring {hb hc : Nat} (h4 : w.cell? ⟨r, s + 4, none⟩ = some (.int .i32 0)) (z4 : w.frozen? ⟨r, s + 4, none⟩ = false) (h6 : w.cell? ⟨r, s + 6, none⟩ = some (.slice (some ⟨fb, 0, none⟩) n fc)) (hk : k < n) (hf : w.cell? ⟨fb, k, none⟩ = some (.bool false)) (hne : fb ≠ r)
    (h7 : w.cell? ⟨r, s + 7, none⟩ = some (.slice (some ⟨hb, 0, none⟩) n hc)) (hh : w.cell? ⟨hb, k, none⟩ = some (.int .i64 0)) (hne2 : hb ≠ r) :
    Calls Sq.prog 70 #[.pointer (some ⟨r, s, none⟩), .int .i64 0, .int .i64 k] w fun e w' => e = .returned (.tuple #[.int .i64 3, .chan none]) ∧ w' = (w.setCell ⟨r, s + 4, none⟩ (.int .i32 1)).setCell ⟨r, s + 4, none⟩ (.int .i32 0) := by
  have o1 : ∀ p : Addr, p ≠ ⟨r, s + 4, none⟩ → (w.setCell ⟨r, s + 4, none⟩ (.int .i32 1)).cell? p = w.cell? p := fun p hp => World.cell?_setCell_other _ _ _ _ (Ne.symm hp)
  have h7' : (w.setCell ⟨r, s + 4, none⟩ (.int .i32 1)).cell? ⟨r, s + 7, none⟩ = some (.slice (some ⟨hb, 0, none⟩) n hc) := by rw [o1 _ (by simp)]; exact h7
  have hh' : (w.setCell ⟨r, s + 4, none⟩ (.int .i32 1)).cell? ⟨hb, k, none⟩ = some (.int .i64 0) := by rw [o1 _ (fun e => hne2 (congrArg Addr.block e))]; exact hh
  go_enter_defers Sq.func70, Sq.ntmps70
  go_wp2_with fail
  refine (qlock_any ⟨r, s + 4, none⟩ w h4 z4).mono ?_
  rintro e w1 ⟨rfl, rfl⟩
  go_wp2_with fail
  refine (back_own h7' hk hh').mono ?_
  rintro e w1 ⟨rfl, rfl⟩
  go_wp2_with fail
  refine leaves_cons (f := 15) (args := #[.pointer (some ⟨r, s + 4, none⟩)]) (by simp) (by simp [invoke]) ?_
  refine (qunlock_d ⟨r, s + 4, none⟩ _ _ ?_ (by simp [z4])).mono ?_
  · exact World.cell?_setCell_same _ _ _ h4
  · rintro e u' w3 ⟨rfl, rfl, rfl⟩
    exact ⟨_, results_tmp2 rfl _ _ _, rfl, rfl⟩
end
end Go.Proofs.Ytdlnlcjmjgbikaa
/- take, of a cell that nobody has; release. -/
namespace Go.Proofs.Ytdlnlcjmjgbikaa
open Go Go.Conc Go.RowKit

noncomputable section
variable {r s fb fc k n : Nat} {w : World}
theorem chan145_run (w : World) : (Instr.makeChan 145 (.int .i64 0)).run Sq.prog w = .ok (.chan (some w.heap.size)) (w.alloc (.chan 0 #[] false 0 0 false)) := by
  obtain ⟨i, hi⟩ : ∃ i, Sq.prog.info? 46 = some i := Option.isSome_iff_exists.1 (by kernel_rfl)
  exact run_makeChan (P := Sq.prog) ((sq_under 145).trans Try.underlying145) hi .i64 0 (by decide) (by simp)
attribute [local simp] chan145_run
theorem alloc_cell (w : World) (x : Obj) (p : Addr) (h : p.block < w.heap.size) : (w.alloc x).cell? p = w.cell? p ∧ (w.alloc x).frozen? p = w.frozen? p := by
  have e : (w.alloc x).heap[p.block]? = w.heap[p.block]? := by
    show (w.heap.push x)[p.block]? = _
    rw [Array.getElem?_push, if_neg (by omega)]
  unfold World.cell? World.frozen?
  rw [e]
  exact ⟨rfl, rfl⟩
set_option maxRecDepth 100000 in
set_option maxHeartbeats 1000000 in
/-- Nobody has it: it is taken. -/
theorem take_taken {hb hc db dc : Nat} {u : Value} (h4 : w.cell? ⟨r, s + 4, none⟩ = some (.int .i32 0)) (z4 : w.frozen? ⟨r, s + 4, none⟩ = false) (h6 : w.cell? ⟨r, s + 6, none⟩ = some (.slice (some ⟨fb, 0, none⟩) n fc)) (hk : k < n) (hf : w.cell? ⟨fb, k, none⟩ = some (.bool false)) (hne : fb ≠ r)
    (h7 : w.cell? ⟨r, s + 7, none⟩ = some (.slice (some ⟨hb, 0, none⟩) n hc)) (hh : w.cell? ⟨hb, k, none⟩ = some (.int .i64 (-1))) (zh : w.frozen? ⟨hb, k, none⟩ = false) (hne2 : hb ≠ r)
    (h8 : w.cell? ⟨r, s + 8, none⟩ = some (.slice (some ⟨db, 0, none⟩) n dc)) (hd : w.cell? ⟨db, k, none⟩ = some u) (zd : w.frozen? ⟨db, k, none⟩ = false) (hne3 : db ≠ r) (hne4 : db ≠ hb) :
    Calls Sq.prog 70 #[.pointer (some ⟨r, s, none⟩), .int .i64 0, .int .i64 k] w fun e w' => e = .returned (.tuple #[.int .i64 1, .chan none]) ∧ ∃ W : World, W = (w.setCell ⟨r, s + 4, none⟩ (.int .i32 1)).setCell ⟨hb, k, none⟩ (.int .i64 0) ∧ w' = (((W.setCell ⟨db, k, none⟩ (.chan (some W.heap.size))).alloc (.chan 0 #[] false 0 0 false)).drew).setCell ⟨r, s + 4, none⟩ (.int .i32 0) := by
  have o1 : ∀ p : Addr, p ≠ ⟨r, s + 4, none⟩ → (w.setCell ⟨r, s + 4, none⟩ (.int .i32 1)).cell? p = w.cell? p := fun p hp => World.cell?_setCell_other _ _ _ _ (Ne.symm hp)
  have h7' : (w.setCell ⟨r, s + 4, none⟩ (.int .i32 1)).cell? ⟨r, s + 7, none⟩ = some (.slice (some ⟨hb, 0, none⟩) n hc) := by rw [o1 _ (by simp)]; exact h7
  have hh' : (w.setCell ⟨r, s + 4, none⟩ (.int .i32 1)).cell? ⟨hb, k, none⟩ = some (.int .i64 (-1)) := by rw [o1 _ (fun e => hne2 (congrArg Addr.block e))]; exact hh
  go_enter_defers Sq.func70, Sq.ntmps70
  go_wp2_with fail
  refine (qlock_any ⟨r, s + 4, none⟩ w h4 z4).mono ?_
  rintro e w1 ⟨rfl, rfl⟩
  go_wp2_with fail
  have h8' : ((w.setCell ⟨r, s + 4, none⟩ (.int .i32 1)).setCell ⟨hb, k, none⟩ (.int .i64 0)).cell? ⟨r, s + 8, none⟩ = some (.slice (some ⟨db, 0, none⟩) n dc) := by
    rw [World.cell?_setCell_other _ _ _ _ (fun e => hne2 (congrArg Addr.block e)), o1 _ (by simp)]
    exact h8
  have hd' : ((w.setCell ⟨r, s + 4, none⟩ (.int .i32 1)).setCell ⟨hb, k, none⟩ (.int .i64 0)).cell? ⟨db, k, none⟩ = some u := by
    rw [World.cell?_setCell_other _ _ _ _ (fun e => hne4 (congrArg Addr.block e).symm), o1 _ (fun e => hne3 (congrArg Addr.block e))]
    exact hd
  have zd' : ((w.setCell ⟨r, s + 4, none⟩ (.int .i32 1)).setCell ⟨hb, k, none⟩ (.int .i64 0)).frozen? ⟨db, k, none⟩ = false := by simp [zd]
  have c4 : ((w.setCell ⟨r, s + 4, none⟩ (.int .i32 1)).setCell ⟨hb, k, none⟩ (.int .i64 0)).cell? ⟨r, s + 4, none⟩ = some (.int .i32 1) := by
    rw [World.cell?_setCell_other _ _ _ _ (fun e => hne2 (congrArg Addr.block e))]
    exact World.cell?_setCell_same _ _ _ h4
  have z4' : ((w.setCell ⟨r, s + 4, none⟩ (.int .i32 1)).setCell ⟨hb, k, none⟩ (.int .i64 0)).frozen? ⟨r, s + 4, none⟩ = false := by simp [z4]
  generalize hW : (w.setCell ⟨r, s + 4, none⟩ (.int .i32 1)).setCell ⟨hb, k, none⟩ (.int .i64 0) = W at h8' hd' zd' c4 z4' ⊢
  have hrb : r < W.heap.size := World.block_lt_of_cell? W ⟨r, s + 8, none⟩ h8'
  have hdb : db < W.heap.size := World.block_lt_of_cell? W ⟨db, k, none⟩ hd'
  go_region
  go_wp2_with fail
  have c5 : ((W.setCell ⟨db, k, none⟩ (.chan (some W.heap.size))).alloc (.chan 0 #[] false 0 0 false)).cell? ⟨r, s + 4, none⟩ = some (.int .i32 1) := by
    rw [(alloc_cell _ _ _ (by simpa using hrb)).1, World.cell?_setCell_other _ _ _ _ (fun e => hne3 (congrArg Addr.block e))]
    exact c4
  have z5 : ((W.setCell ⟨db, k, none⟩ (.chan (some W.heap.size))).alloc (.chan 0 #[] false 0 0 false)).frozen? ⟨r, s + 4, none⟩ = false := by
    rw [(alloc_cell _ _ _ (by simpa using hrb)).2]
    simpa using z4'
  refine leaves_cons (f := 15) (args := #[.pointer (some ⟨r, s + 4, none⟩)]) (by simp) (by simp [invoke]) ?_
  refine (qunlock_d ⟨r, s + 4, none⟩ .returning ((W.setCell ⟨db, k, none⟩ (.chan (some W.heap.size))).alloc (.chan 0 #[] false 0 0 false)).drew c5 z5).mono ?_
  rintro e u' w3 ⟨rfl, rfl, rfl⟩
  exact ⟨_, results_tmp2 rfl _ _ _, rfl, W, hW.symm, rfl⟩
end
end Go.Proofs.Ytdlnlcjmjgbikaa
/- The mathematics of a round: one worker brings cells upf to date. -/
namespace Go.Proofs.Ytdlnlcjmjgbikaa
open Go Go.Conc Go.RowKit

/-- An outcome, a lead, a memory, what a round knows, the rules. -/
structure QO where
  num : Int
  err : Int
deriving DecidableEq
structure QL where
  key : Int
  had : QO
deriving DecidableEq
structure QM where
  ran : Bool
  out : QO
  led : List QL
structure QS where
  fr : Nat → Bool
  hd : Nat → Bool
  rn : Nat → Int
  left : Int
  mem : Nat → QM
structure QR where
  n : Nat
  op : Nat → Int
  a : Nat → Int
  b : Nat → Int
  c : Nat → Int
def upf {α : Type} (f : Nat → α) (k : Nat) (v : α) : Nat → α := fun j => if j = k then v else f j
theorem upf_same {α : Type} (f : Nat → α) (k : Nat) (v : α) : upf f k v k = v := by simp [upf]
theorem upf_ne {α : Type} (f : Nat → α) {k j : Nat} (v : α) (h : j ≠ k) : upf f k v j = f j := by simp [upf, h]
theorem upf_upf {α : Type} (f : Nat → α) (k : Nat) (v u : α) : upf (upf f k v) k u = upf f k u := by
  funext j
  simp only [upf]
  split <;> rfl
theorem upf_eta {α : Type} (f : Nat → α) (k : Nat) (v : α) (h : f k = v) : upf f k v = f := by
  funext j
  simp only [upf]
  split
  · rename_i e; rw [e, h]
  · rfl

/-- The second cell to which a rule is led. -/
def secM (R : QR) (k : Nat) (o : QO) : Int := if R.op k = 4 then (if o.num = 0 then R.c k else R.b k) else R.b k
def runM (R : QR) (br : QS → Nat → QO × QS) (S : QS) (k : Nat) : QM × QS :=
  if wrap64 (S.left + -1) < 0 then (⟨false, ⟨0, 14⟩, []⟩, { S with left := wrap64 (S.left + -1) }) else
  let r1 := br { S with left := wrap64 (S.left + -1), rn := upf S.rn k (wrap64 (S.rn k + 1)) } (R.a k).toNat
  if r1.1.err ≠ 0 then (⟨true, r1.1, [⟨R.a k, r1.1⟩]⟩, r1.2) else
  if R.op k = 5 then (⟨true, ⟨rk (R.op k) r1.1.num r1.1.num, 0⟩, [⟨R.a k, r1.1⟩]⟩, r1.2) else
  let r2 := br r1.2 (secM R k r1.1).toNat
  if r2.1.err ≠ 0 then (⟨true, r2.1, [⟨R.a k, r1.1⟩, ⟨secM R k r1.1, r2.1⟩]⟩, r2.2) else
  (⟨true, ⟨rk (R.op k) r1.1.num r2.1.num, 0⟩, [⟨R.a k, r1.1⟩, ⟨secM R k r1.1, r2.1⟩]⟩, r2.2)
def holdsM (br : QS → Nat → QO × QS) : List QL → QS → Bool × QS
  | [], S => (true, S)
  | l :: t, S => if (br S l.key.toNat).1 = l.had then holdsM br t (br S l.key.toNat).2 else (false, (br S l.key.toNat).2)
/-- A cell that is taken is brought upf to date: what is known behind it, it being still in hand. -/
def takenM (R : QR) (br : QS → Nat → QO × QS) (S : QS) (k : Nat) : QS :=
  let h := holdsM br (S.mem k).led S
  if h.1 && (h.2.mem k).ran then h.2 else { (runM R br h.2 k).2 with mem := upf (runM R br h.2 k).2.mem k (runM R br h.2 k).1 }
def taken (S : QS) (k : Nat) : QS := { S with hd := upf S.hd k true }
def releasedM (S : QS) (k : Nat) : QS := { S with fr := upf S.fr k true, hd := upf S.hd k false }
def brM (R : QR) : Nat → QS → Nat → QO × QS
  | 0, S, _ => (⟨0, 0⟩, S)
  | f + 1, S, k => if S.fr k then ((S.mem k).out, S) else if S.hd k then (⟨0, 7⟩, S) else
    (((takenM R (brM R f) (taken S k) k).mem k).out, releasedM (takenM R (brM R f) (taken S k) k) k)

/-- What a program may rely on. -/
structure QR.Ok (R : QR) : Prop where
  op : ∀ k, k < R.n → 0 ≤ R.op k ∧ R.op k ≤ 5
  a : ∀ k, k < R.n → R.op k ≠ 0 → 0 ≤ R.a k ∧ R.a k < R.n
  b : ∀ k, k < R.n → R.op k ≠ 0 → R.op k ≠ 5 → 0 ≤ R.b k ∧ R.b k < R.n
  c : ∀ k, k < R.n → R.op k = 4 → 0 ≤ R.c k ∧ R.c k < R.n
structure QS.Ok (R : QR) (S : QS) : Prop where
  input : ∀ k, k < R.n → R.op k = 0 → S.fr k = true
  led : ∀ k, k < R.n → ∀ l ∈ (S.mem k).led, 0 ≤ l.key ∧ l.key < R.n
theorem sec_ok {R : QR} (h : R.Ok) {k : Nat} (hk : k < R.n) (h0 : R.op k ≠ 0) (h5 : R.op k ≠ 5) (o : QO) : 0 ≤ secM R k o ∧ secM R k o < R.n := by
  unfold secM
  split
  · split
    · exact h.c k hk ‹_›
    · exact h.b k hk h0 h5
  · exact h.b k hk h0 h5

/-- What bringing keeps: for one step function br, whatever it is. -/
structure Brings (R : QR) (br : QS → Nat → QO × QS) : Prop where
  hd : ∀ S k, (br S k).2.hd = S.hd
  fr : ∀ S k j, S.fr j = true → (br S k).2.fr j = true
  led : ∀ S : QS, (∀ k, k < R.n → ∀ l ∈ (S.mem k).led, 0 ≤ l.key ∧ l.key < R.n) → (∀ k, k < R.n → R.op k = 0 → S.fr k = true) → ∀ k, k < R.n → ∀ j, j < R.n → ∀ l ∈ ((br S k).2.mem j).led, 0 ≤ l.key ∧ l.key < R.n
theorem Brings.ok {R : QR} {br : QS → Nat → QO × QS} (h : Brings R br) {S : QS} (hS : S.Ok R) {k : Nat} (hk : k < R.n) : (br S k).2.Ok R :=
  ⟨fun j hj h0 => h.fr _ _ _ (hS.input j hj h0), fun j hj => h.led S hS.led hS.input k hk j hj⟩
theorem holds_hd {R : QR} {br : QS → Nat → QO × QS} (h : Brings R br) : ∀ (t : List QL) (S : QS), (holdsM br t S).2.hd = S.hd
  | [], S => rfl
  | l :: t, S => by
    unfold holdsM
    split
    · rw [holds_hd h t, h.hd]
    · exact h.hd _ _
theorem holds_fr {R : QR} {br : QS → Nat → QO × QS} (h : Brings R br) : ∀ (t : List QL) (S : QS) j, S.fr j = true → (holdsM br t S).2.fr j = true
  | [], S, j, hj => hj
  | l :: t, S, j, hj => by
    unfold holdsM
    split
    · exact holds_fr h t _ j (h.fr _ _ _ hj)
    · exact h.fr _ _ _ hj
theorem holds_ok {R : QR} {br : QS → Nat → QO × QS} (h : Brings R br) : ∀ (t : List QL) (S : QS), (∀ l ∈ t, 0 ≤ l.key ∧ l.key < R.n) → S.Ok R → (holdsM br t S).2.Ok R
  | [], S, _, hS => hS
  | l :: t, S, ht, hS => by
    have hl := ht l (by simp)
    have hb := h.ok hS (k := l.key.toNat) (by omega)
    unfold holdsM
    split
    · exact holds_ok h t _ (fun l hl => ht l (by simp [hl])) hb
    · exact hb
theorem run_hd {R : QR} {br : QS → Nat → QO × QS} (h : Brings R br) (S : QS) (k : Nat) : (runM R br S k).2.hd = S.hd := by
  unfold runM
  split
  · rfl
  · dsimp only
    split
    · rw [h.hd]
    · split
      · rw [h.hd]
      · split
        · rw [h.hd, h.hd]
        · rw [h.hd, h.hd]
theorem run_fr {R : QR} {br : QS → Nat → QO × QS} (h : Brings R br) (S : QS) (k j : Nat) (hj : S.fr j = true) : (runM R br S k).2.fr j = true := by
  unfold runM
  split
  · exact hj
  · dsimp only
    split
    · exact h.fr _ _ _ hj
    · split
      · exact h.fr _ _ _ hj
      · split
        · exact h.fr _ _ _ (h.fr _ _ _ hj)
        · exact h.fr _ _ _ (h.fr _ _ _ hj)
theorem run_ok {R : QR} (hR : R.Ok) {br : QS → Nat → QO × QS} (h : Brings R br) {S : QS} (hS : S.Ok R) {k : Nat} (hk : k < R.n) (h0 : R.op k ≠ 0) : (runM R br S k).2.Ok R ∧ ∀ l ∈ (runM R br S k).1.led, 0 ≤ l.key ∧ l.key < R.n := by
  have ha := hR.a k hk h0
  have h1 : ∀ S' : QS, S'.fr = S.fr → S'.mem = S.mem → S'.Ok R := fun S' e1 e2 => ⟨by rw [e1]; exact hS.input, by rw [e2]; exact hS.led⟩
  unfold runM
  split
  · exact ⟨h1 _ rfl rfl, by simp⟩
  · dsimp only
    have o1 : (br { S with left := wrap64 (S.left + -1), rn := upf S.rn k (wrap64 (S.rn k + 1)) } (R.a k).toNat).2.Ok R := h.ok (h1 { S with left := wrap64 (S.left + -1), rn := upf S.rn k (wrap64 (S.rn k + 1)) } rfl rfl) (by omega)
    split
    · exact ⟨o1, by simpa using ha⟩
    · split
      · exact ⟨o1, by simpa using ha⟩
      · rename_i h5
        have hs := sec_ok hR hk h0 h5
        split
        · refine ⟨h.ok o1 (by have := hs (br { S with left := wrap64 (S.left + -1), rn := upf S.rn k (wrap64 (S.rn k + 1)) } (R.a k).toNat).1; omega), ?_⟩
          simp only [List.mem_cons, List.not_mem_nil, or_false]
          rintro l (rfl | rfl)
          · exact ha
          · exact hs _
        · refine ⟨h.ok o1 (by have := hs (br { S with left := wrap64 (S.left + -1), rn := upf S.rn k (wrap64 (S.rn k + 1)) } (R.a k).toNat).1; omega), ?_⟩
          simp only [List.mem_cons, List.not_mem_nil, or_false]
          rintro l (rfl | rfl)
          · exact ha
          · exact hs _
theorem taken_hd {R : QR} {br : QS → Nat → QO × QS} (h : Brings R br) (S : QS) (k : Nat) : (takenM R br S k).hd = S.hd := by
  unfold takenM
  dsimp only
  split
  · exact holds_hd h _ _
  · show (runM R br _ k).2.hd = _
    rw [run_hd h, holds_hd h]
theorem taken_fr {R : QR} {br : QS → Nat → QO × QS} (h : Brings R br) (S : QS) (k j : Nat) (hj : S.fr j = true) : (takenM R br S k).fr j = true := by
  unfold takenM
  dsimp only
  split
  · exact holds_fr h _ _ _ hj
  · exact run_fr h _ _ _ (holds_fr h _ _ _ hj)
theorem taken_ok {R : QR} (hR : R.Ok) {br : QS → Nat → QO × QS} (h : Brings R br) {S : QS} (hS : S.Ok R) {k : Nat} (hk : k < R.n) (h0 : R.op k ≠ 0) : (takenM R br S k).Ok R := by
  have h1 := holds_ok h _ _ (hS.led k hk) hS
  unfold takenM
  dsimp only
  split
  · exact h1
  · obtain ⟨h2, h3⟩ := run_ok hR h h1 hk h0
    refine ⟨h2.input, fun j hj => ?_⟩
    dsimp only [upf]
    split
    · exact h3
    · exact h2.led j hj
theorem brM_brings {R : QR} (hR : R.Ok) : ∀ f, Brings R (brM R f)
  | 0 => ⟨fun _ _ => rfl, fun _ _ _ h => h, fun S h _ k hk j hj => h j hj⟩
  | f + 1 => by
    have ih := brM_brings hR f
    refine ⟨fun S k => ?_, fun S k j hj => ?_, fun S hl hi k hk j hj => ?_⟩
    · unfold brM
      split
      · rfl
      · split
        · rfl
        · rename_i hf hd
          show upf (takenM R (brM R f) (taken S k) k).hd k false = _
          rw [taken_hd ih]
          show upf (upf S.hd k true) k false = _
          rw [upf_upf]
          exact upf_eta _ _ _ (by simpa using hd)
    · unfold brM
      split
      · exact hj
      · split
        · exact hj
        · show upf _ k true j = true
          unfold upf
          split
          · rfl
          · exact taken_fr ih _ _ _ hj
    · unfold brM
      split
      · exact hl j hj
      · split
        · exact hl j hj
        · rename_i hf hd
          have h0 : R.op k ≠ 0 := fun e => hf (hi k hk e)
          exact (taken_ok hR ih (S := taken S k) ⟨hi, hl⟩ hk h0).led j hj

/-- How many cells are not in hand. -/
def offs (R : QR) (S : QS) : Nat := (List.range R.n).countP fun j => !S.hd j
theorem count_up (p : Nat → Bool) (k : Nat) (hp : p k = false) : ∀ n, k < n → (List.range n).countP (fun j => !(upf p k true) j) + 1 = (List.range n).countP fun j => !p j
  | 0, h => absurd h (by omega)
  | n + 1, h => by
    rw [List.range_succ, List.countP_append, List.countP_append]
    rcases Nat.lt_or_ge k n with h1 | h1
    · have := count_up p k hp n h1
      have e : upf p k true n = p n := upf_ne _ _ (by omega)
      simp only [List.countP_cons, List.countP_nil, e]
      omega
    · obtain rfl : k = n := by omega
      have e : (List.range k).countP (fun j => !(upf p k true) j) = (List.range k).countP fun j => !p j := by
        refine List.countP_congr fun j hj => ?_
        rw [upf_ne _ _ (by have := List.mem_range.1 hj; omega)]
      rw [e]
      simp [upf_same, hp]
theorem offs_taken {R : QR} {S : QS} {k : Nat} (hk : k < R.n) (h : S.hd k = false) : offs R (taken S k) + 1 = offs R S := count_up S.hd k h R.n hk
theorem offs_hd {R : QR} {S S' : QS} (h : S'.hd = S.hd) : offs R S' = offs R S := by unfold offs; rw [h]
end Go.Proofs.Ytdlnlcjmjgbikaa
