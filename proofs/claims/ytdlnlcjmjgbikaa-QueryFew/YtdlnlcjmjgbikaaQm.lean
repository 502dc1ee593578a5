/- The seat's program, in one goroutine. -/
import Derived.Test.YtdlnlcjmjgbikaaQj
import Derived.Test.YtdlnlcjmjgbikaaProg
import Derived.KernelRfl
namespace Go.Proofs.Ytdlnlcjmjgbikaa
open Go Go.Conc

noncomputable section
/-- The functions whose code stays. -/
def whites : List Nat := [4,5,6,7,9,10,11,12,13,16,17,18,20,21,22,25,26,28,29,30,31,40,41,42,46,49,50,58,70,71,72,73,79,80,81,86,87,88,89,92,94,95,96]
/-- The functions without code that stay. -/
def wexts : List Nat := [48, 59, 78, 91, 93]
abbrev sts : List TypeId := [64]
/-- A function that is nobody's. -/
def nopeF : Func := { name := "", origin := "", params := #[], resultTypes := #[], nfree := 0, ntmps := 0, results := #[], body := none, norace := false, tmpNames := #[] }

/-- Operations one behind the other. -/
abbrev opq (i : Nat) (dst : Option Nat) (o : Op) (t : TypeId) : Oper := ⟨dst, o, t, "", if i = 0 then #[] else #[⟨i - 1, .data⟩], none⟩
def muC (x y : Int) : Code :=
  .seq (.region 0 #[opq 0 (some 2) (.move (.tmp 0)) 73, opq 1 (some 3) (.move (.tmp 2)) 0, opq 2 (some 4) (.fieldAddr 52 (.tmp 3) 1) 0, opq 3 (some 5) (.load 21 (.tmp 4)) 21,
    opq 4 (some 5) (.binOp .eql bad (.tmp 5) (.const (.int .i32 x)) bad) 4] false)
  (.seq (.cond (.tmp 5) .skip (.refuse "")) (.region 1 #[opq 0 none (.store 21 (.tmp 4) (.const (.int .i32 y))) 0, opq 1 (some 5) (.move (.const (.tuple #[]))) 0] false))
abbrev lockC : Code := muC 0 1
abbrev unlockC : Code := muC 1 0
abbrev blank : Op := .range 9 (.const (.string .empty))
def serveC : Code :=
  .seq (.region 0 #[opq 0 (some 3) blank 0, opq 1 (some 4) blank 0, opq 2 (some 5) blank 0, opq 3 (some 6) blank 0, opq 4 (some 7) blank 0] false)
  (.seq (.region 1 #[opq 0 (some 8) (.binOp .eql bad (.tmp 2) (.const (.int .i64 1)) bad) 4] false)
  (.seq (.cond (.tmp 8) .skip (.refuse ""))
  (.seq (.region 2 #[opq 0 (some 9) (.call ⟨.builtin .len, #[.tmp 1], #[23]⟩) 3, opq 1 (some 10) (.binOp .eql bad (.tmp 9) (.const (.int .i64 1)) bad) 4, opq 2 (some 14) (.binOp .eql 23 (.tmp 1) (.const (.slice none 0 0)) bad) 4] false)
  (.seq (.cond (.tmp 10) .skip (.refuse ""))
  (.seq (.cond (.tmp 14) (.refuse "") .skip)
  (.seq (.region 3 #[opq 0 (some 11) (.indexAddr 23 (.tmp 1) (.const (.int .i64 0))) 0, opq 1 (some 12) (.load 3 (.tmp 11)) 3, opq 2 (some 15) (.fieldAddr 84 (.tmp 0) 1) 0] false)
  (.region 4 #[opq 0 (some 13) (.call ⟨.value (.func 46), #[.tmp 0, .const (.int .i64 0), .tmp 12], #[75, 3, 3]⟩) 64] false)))))))

/-- A function of the program in one goroutine. -/
def seqFn (i : Nat) (f : Func) : Func :=
  if whites.contains i then { f with body := f.body.map (cutCode Try.prog sts) }
  else if i = 14 then { f with body := some lockC }
  else if i = 15 then { f with body := some unlockC }
  else if i = 27 then { f with body := some serveC }
  else if wexts.contains i then f
  else nopeF
/-- The program in one goroutine. -/
def Sq.prog : Program := { Try.prog with funcs := Try.prog.funcs.mapIdx seqFn }
theorem sq_kin : Kin Try.prog Sq.prog := rfl
theorem sq_func (i : Nat) : Sq.prog.funcs[i]? = (Try.prog.funcs[i]?).map (seqFn i) := by
  show (Try.prog.funcs.mapIdx seqFn)[i]? = _
  rw [Array.getElem?_mapIdx]

/-- A stand-in: a function whose code in one goroutine is another. -/
def Mac (f : FuncId) : Prop := f = 14 ∨ f = 15 ∨ f = 27
/-- What the kernel tells of the functions that stay. -/
def stay (P : Program) (l : List Nat) (b : Bool) : Bool := l.all fun f => match P.funcs[f]? with
  | some fn => fn.name != "runtime.NumGoroutine" && fn.body.isSome == b
  | none => false
theorem stay_at {P : Program} {l : List Nat} {b : Bool} (h : stay P l b = true) {f : Nat} (hf : f ∈ l) : ∃ fn, P.funcs[f]? = some fn ∧ fn.name ≠ "runtime.NumGoroutine" ∧ fn.body.isSome = b := by
  have := List.all_eq_true.1 h f hf
  split at this
  · rename_i fn e
    simp only [Bool.and_eq_true, bne_iff_ne, beq_iff_eq] at this
    exact ⟨fn, e, this⟩
  · cases this
theorem stay_w : stay Try.prog whites true = true := by kernel_rfl
theorem stay_m : stay Try.prog [14, 15, 27] true = true := by kernel_rfl
theorem stay_e : stay Try.prog wexts false = true := by kernel_rfl

/-- What a function of the program in one goroutine is. -/
inductive Kind (i : Nat) : Prop
  | white (f : Func) : i ∈ whites → Try.prog.funcs[i]? = some f → f.name ≠ "runtime.NumGoroutine" → (b : Code) → f.body = some b → Sq.prog.funcs[i]? = some { f with body := some (cutCode Try.prog sts b) } → Kind i
  | mac (f : Func) (b : Code) : Mac i → Try.prog.funcs[i]? = some f → f.name ≠ "runtime.NumGoroutine" → f.body.isSome = true → b = lockC ∨ b = unlockC ∨ b = serveC → Sq.prog.funcs[i]? = some { f with body := some b } → Kind i
  | ext (f : Func) : i ∈ wexts → Try.prog.funcs[i]? = some f → f.name ≠ "runtime.NumGoroutine" → f.body = none → Sq.prog.funcs[i]? = some f → Kind i
  | nope : Sq.prog.funcs[i]? = some nopeF → Kind i
  | none : Try.prog.funcs[i]? = none → Sq.prog.funcs[i]? = none → Kind i
theorem kind (i : Nat) : Kind i := by
  have hq := sq_func i
  by_cases hw : i ∈ whites
  · obtain ⟨f, e, hn, hb⟩ := stay_at stay_w hw
    obtain ⟨b, hb⟩ := Option.isSome_iff_exists.1 hb
    refine .white f hw e hn b hb ?_
    rw [hq, e]
    simp only [Option.map_some, seqFn, List.contains_iff_mem.2 hw, if_true, hb]
  · have hc : whites.contains i = false := by simpa using hw
    by_cases hm : Mac i
    · have hm' : i ∈ [14, 15, 27] := by simpa [Mac] using hm
      obtain ⟨f, e, hn, hb⟩ := stay_at stay_m hm'
      rw [e] at hq
      simp only [Option.map_some, seqFn, hc, Bool.false_eq_true, if_false] at hq
      rcases hm with rfl | rfl | rfl
      · exact .mac f lockC (.inl rfl) e hn hb (.inl rfl) hq
      · exact .mac f unlockC (.inr (.inl rfl)) e hn hb (.inr (.inl rfl)) hq
      · exact .mac f serveC (.inr (.inr rfl)) e hn hb (.inr (.inr rfl)) hq
    · have h1 : i ≠ 14 := fun h => hm (.inl h)
      have h2 : i ≠ 15 := fun h => hm (.inr (.inl h))
      have h3 : i ≠ 27 := fun h => hm (.inr (.inr h))
      by_cases he : i ∈ wexts
      · obtain ⟨f, e, hn, hb⟩ := stay_at stay_e he
        refine .ext f he e hn (by simpa using hb) ?_
        rw [hq, e]
        simp only [Option.map_some, seqFn, hc, Bool.false_eq_true, if_false, h1, h2, h3, List.contains_iff_mem.2 he, if_true]
      · have he' : wexts.contains i = false := by simpa using he
        cases e : Try.prog.funcs[i]? with
        | none => exact .none e (by rw [hq, e]; rfl)
        | some f =>
          refine .nope ?_
          rw [hq, e]
          simp only [Option.map_some, seqFn, hc, Bool.false_eq_true, if_false, h1, h2, h3, he']

/-- Nothing of it stands ready early. -/
theorem readies_cut (P : Program) (c : Code) : readies (cutCode P sts c) = [] := by
  induction c with
  | region id ops d =>
    simp only [cutCode]
    split
    · rename_i h
      simp only [readies, Array.toList_map, List.filterMap_map, List.filterMap_eq_nil_iff]
      intro o ho
      have ho' := (Array.all_eq_true_iff_forall_mem.1 h) o (Array.mem_toList_iff.1 ho)
      obtain ⟨dst, op, type, pos, after, guard⟩ := o
      unfold okOp at ho'
      cases op with
      | binOp op t x y z =>
        simp only [Function.comp, cutOp]
        by_cases hc : (!isEq op || intTy P t) = true
        · rw [if_pos hc]
        · rw [if_neg hc]
      | _ => first | rfl | cases ho'
    · rfl
  | seq a b iha ihb => simp only [cutCode, readies, iha, ihb, List.append_nil]
  | cond x a b iha ihb => simp only [cutCode, readies, iha, ihb, List.append_nil]
  | block id b ih => simp only [cutCode, readies, ih]
  | loop b ih => simp only [cutCode, readies, ih]
  | _ => rfl
theorem sq_early (g : Nat) : Sq.prog.stepOf g = none := by
  unfold Program.stepOf
  rw [Array.findIdx?_eq_none_iff]
  intro f hf
  obtain ⟨i, hi, e⟩ := Array.mem_iff_getElem.1 hf
  have e' : Sq.prog.funcs[i]? = some f := by rw [Array.getElem?_eq_getElem hi, e]
  cases kind i with
  | white f0 hw hP hn b hb hQ =>
    rw [hQ] at e'; cases e'
    simp [readies_cut]
  | mac f0 b hm hP hn hb hbs hQ =>
    rw [hQ] at e'; cases e'
    rcases hbs with rfl | rfl | rfl <;> rfl
  | ext f0 he hP hn hb hQ =>
    rw [hQ] at e'; cases e'
    simp [hb]
  | nope hQ => rw [hQ] at e'; cases e'; rfl
  | none hP hQ => rw [hQ] at e'; cases e'
theorem sq_bodies : Bodies Try.prog Sq.prog sts Mac where
  body := by
    intro f hm fn' e hs
    cases kind f with
    | white f0 hw hP hn b hb hQ =>
      rw [hQ] at e; cases e
      exact ⟨f0, b, hP, hb, rfl, rfl, rfl⟩
    | mac f0 b hm' => exact absurd hm' hm
    | ext f0 he hP hn hb hQ => rw [hQ] at e; cases e; rw [hb] at hs; cases hs
    | nope hQ => rw [hQ] at e; cases e; cases hs
    | none hP hQ => rw [hQ] at e; cases e
  early := sq_early
  ahead := by kernel_rfl
end
end Go.Proofs.Ytdlnlcjmjgbikaa
/- The seat's functions, called in both programs. -/
namespace Go.Proofs.Ytdlnlcjmjgbikaa
open Go Go.Conc

noncomputable section
variable {P Q : Program} {X : Nat → Prop}

theorem t_read (hT : Kin P Q) (t : Extern.Atomic.T) (a : Addr) : Tm P Q X (Extern.Atomic.read t a) (Extern.Atomic.read t a) := by
  unfold Extern.Atomic.read
  refine tb (tm_load hT _ _) fun v => ?_
  repeat' (with_reducible first | exact tp _ | exact tu _ _ | refine tite ?_ ?_ | split)
theorem t_loadT (hT : Kin P Q) (t : Extern.Atomic.T) (args : Array Value) : Tm P Q X (Extern.Atomic.loadT t args) (Extern.Atomic.loadT t args) := by
  unfold Extern.Atomic.loadT
  obtain ⟨l⟩ := args
  rcases l with _ | ⟨x, _ | ⟨y, l⟩⟩
  · exact ts _ _
  · exact tb (t_asAddr hT _) fun _ => t_read hT _ _
  · exact ts _ _
theorem t_storeT (hT : Kin P Q) (args : Array Value) : Tm P Q X (Extern.Atomic.storeT args) (Extern.Atomic.storeT args) := by
  unfold Extern.Atomic.storeT
  obtain ⟨l⟩ := args
  rcases l with _ | ⟨x, _ | ⟨y, _ | ⟨z, l⟩⟩⟩
  · exact ts _ _
  · exact ts _ _
  · exact tb (t_asAddr hT _) fun _ => tb (tm_store hT _ _ _) fun _ => tp _
  · exact ts _ _
theorem t_updateT (hT : Kin P Q) (op : IntKind → Int → Int → Sem Value) (hop : ∀ k a b, Tm P Q X (op k a b) (op k a b)) (k : IntKind) (b : Bool) (args : Array Value) : Tm P Q X (Extern.Atomic.update op k b args) (Extern.Atomic.update op k b args) := by
  unfold Extern.Atomic.update
  obtain ⟨l⟩ := args
  rcases l with _ | ⟨x, _ | ⟨y, _ | ⟨z, l⟩⟩⟩
  · exact ts _ _
  · exact ts _ _
  · exact tb (t_asAddr hT _) fun _ => tb (t_read hT _ _) fun _ => tb (t_asInt _) fun _ => tb (t_asInt _) fun _ => tb (hop _ _ _) fun _ => tb (tm_store hT _ _ _) fun _ => tp _
  · exact ts _ _

/-- The functions without code that stay, one by one. -/
inductive IsExt : (Array Value → Sem Value) → Prop
  | load (t : Extern.Atomic.T) : IsExt (Extern.Atomic.loadT t)
  | store : IsExt Extern.Atomic.storeT
  | add (k : IntKind) : IsExt (Extern.Atomic.update (Op.intArith .add) k true)
theorem t_ext (hT : Kin P Q) {e : Array Value → Sem Value} (h : IsExt e) (args : Array Value) : Tm P Q X (e args) (e args) := by
  cases h with
  | load t => exact t_loadT hT t args
  | store => exact t_storeT hT args
  | add k => exact t_updateT hT _ (fun k a b => by
      unfold Op.intArith
      repeat' (with_reducible first | exact tp _ | exact tu _ _ | exact ts _ _ | refine tite ?_ ?_ | split)) k true args

theorem ext_at (f : Nat) (hf : f ∈ wexts) (fn : Func) (h : Try.prog.funcs[f]? = some fn) : Extern.findNext fn = none ∧ ∃ e, Extern.find fn = some e ∧ IsExt e := by
  have h1 : f = 48 ∨ f = 59 ∨ f = 78 ∨ f = 91 ∨ f = 93 := by simpa [wexts] using hf
  rcases h1 with rfl | rfl | rfl | rfl | rfl
  · rw [Try.func48] at h; cases h
    exact ⟨by kernel_rfl, Extern.Atomic.loadT (.int .i64), by kernel_rfl, .load _⟩
  · rw [Try.func59] at h; cases h
    exact ⟨by kernel_rfl, Extern.Atomic.storeT, by kernel_rfl, .store⟩
  · rw [Try.func78] at h; cases h
    exact ⟨by kernel_rfl, Extern.Atomic.loadT (.int .u32), by kernel_rfl, .load _⟩
  · rw [Try.func91] at h; cases h
    exact ⟨by kernel_rfl, Extern.Atomic.storeT, by kernel_rfl, .store⟩
  · rw [Try.func93] at h; cases h
    exact ⟨by kernel_rfl, Extern.Atomic.update (Op.intArith .add) .i64 true, by kernel_rfl, .add _⟩
theorem nope_find : Extern.find nopeF = none := by kernel_rfl
theorem nope_next : Extern.findNext nopeF = none := by kernel_rfl

/-- A call, by what the function is. -/
theorem call_enter {p : Program} {f : Nat} {fn : Func} (h : p.funcs[f]? = some fn) (hn : fn.name ≠ "runtime.NumGoroutine") (hb : fn.body.isSome = true) (args : Array Value) (w : World) (es : Array Event) : (callFunc f args).runT p w es = (.ok (.enter f args) w, es) := by
  have hb' : fn.body.isNone = false := by cases h : fn.body with
    | none => rw [h] at hb; cases hb
    | some _ => rfl
  show ((match p.funcs[f]? with
    | none => _
    | some fn => _ : Sem Next)).runT p w es = _
  rw [h]
  simp only [beq_iff_eq, hn, if_false, hb', Bool.false_eq_true]
  rfl
theorem call_ext {p : Program} {f : Nat} {fn : Func} (h : p.funcs[f]? = some fn) (hn : fn.name ≠ "runtime.NumGoroutine") (hb : fn.body = none) {e : Array Value → Sem Value} (h1 : Extern.findNext fn = none) (h2 : Extern.find fn = some e) (args : Array Value) (w : World) (es : Array Event) :
    (callFunc f args).runT p w es = (mark (.extern f) >>= fun _ => e args >>= fun x => pure (Next.value x)).runT p w es := by
  show ((match p.funcs[f]? with
    | none => _
    | some fn => _ : Sem Next)).runT p w es = _
  rw [h]
  simp only [beq_iff_eq, hn, if_false, hb, Option.isNone_none, if_true, h1, h2]
theorem call_nope {p : Program} {f : Nat} (h : p.funcs[f]? = some nopeF) (args : Array Value) (w : World) (es : Array Event) :
    (callFunc f args).runT p w es = (mark (.extern f) >>= fun _ => (unsupported (.extern "") : Sem Next)).runT p w es := by
  show ((match p.funcs[f]? with
    | none => _
    | some fn => _ : Sem Next)).runT p w es = _
  rw [h]
  simp only [nope_find, nope_next]
  rfl
theorem call_none {p : Program} {f : Nat} (h : p.funcs[f]? = none) (args : Array Value) (w : World) (es : Array Event) : (callFunc f args).runT p w es = (stuck "call: no such function" : Sem Next).runT p w es := by
  show ((match p.funcs[f]? with
    | none => _
    | some fn => _ : Sem Next)).runT p w es = _
  rw [h]

theorem Tm.congr {α : Type} {a a' b b' : Sem α} (h : Tm P Q X b' b) (e' : ∀ w es, a'.runT Q w es = b'.runT Q w es) (e : ∀ w es, a.runT P w es = b.runT P w es) : Tm P Q X a' a := by
  intro v es hg
  have := h v es hg
  rw [← e' v es] at this
  refine ⟨this.1, this.2.1, ?_⟩
  obtain ⟨n, hn, k⟩ := this.2.2
  refine ⟨n, hn, fun w hw ha => ?_⟩
  rw [e]
  exact k w hw ha
theorem ev_extern (f : Nat) : Ev X ⟨.mark (.extern f), false, true⟩ := by
  unfold Ev; trivial

/-- The one program's calls. -/
theorem sq_own (f : FuncId) (args : Array Value) : Tm Sq.prog Sq.prog (fun _ => False) (callFunc f args) (callFunc f args) := by
  cases kind f with
  | white f0 hw hP hn b hb hQ => exact (tp (P := Sq.prog) (Q := Sq.prog) (Next.enter f args)).congr (call_enter hQ hn rfl args) (call_enter hQ hn rfl args)
  | mac f0 b hm hP hn hb hbs hQ => exact (tp (P := Sq.prog) (Q := Sq.prog) (Next.enter f args)).congr (call_enter hQ hn rfl args) (call_enter hQ hn rfl args)
  | ext f0 he hP hn hb hQ =>
    obtain ⟨h1, e, h2, h3⟩ := ext_at f he f0 hP
    exact (tb (tm_mark _ (ev_extern f)) fun _ => tb (t_ext rfl h3 args) fun x => tp (Next.value x)).congr (call_ext hQ hn hb h1 h2 args) (call_ext hQ hn hb h1 h2 args)
  | nope hQ => exact (tb (tm_mark _ (ev_extern f)) fun _ => tu _ _).congr (call_nope hQ args) (call_nope hQ args)
  | none hP hQ => exact (ts (P := Sq.prog) (Q := Sq.prog) _ _).congr (call_none hQ args) (call_none hQ args)
/-- The two programs' calls. -/
theorem sq_tm (f : FuncId) (args : Array Value) : Tm Try.prog Sq.prog X (callFunc f args) (callFunc f args) := by
  cases kind f with
  | white f0 hw hP hn b hb hQ => exact (tp (P := Try.prog) (Q := Sq.prog) (X := X) (Next.enter f args)).congr (call_enter hQ hn rfl args) (call_enter hP hn (by rw [hb]; rfl) args)
  | mac f0 b hm hP hn hb hbs hQ => exact (tp (P := Try.prog) (Q := Sq.prog) (X := X) (Next.enter f args)).congr (call_enter hQ hn rfl args) (call_enter hP hn hb args)
  | ext f0 he hP hn hb hQ =>
    obtain ⟨h1, e, h2, h3⟩ := ext_at f he f0 hP
    exact (tb (tm_mark _ (ev_extern f)) fun _ => tb (t_ext sq_kin h3 args) fun x => tp (Next.value x)).congr (call_ext hQ hn hb h1 h2 args) (call_ext hP hn hb h1 h2 args)
  | nope hQ => exact tm_dead (sq_own f args) fun v w es _ _ => by rw [call_nope hQ]; trivial
  | none hP hQ => exact (ts (P := Try.prog) (Q := Sq.prog) (X := X) _ _).congr (call_none hQ args) (fun _ _ => rfl)
/-- What the one program's calls come to. -/
theorem sq_res (f : FuncId) (args : Array Value) : Res Sq.prog (PlainN Sq.prog) (callFunc f args) := by
  intro v es a v' es' hg e
  cases kind f with
  | white f0 hw hP hn b hb hQ => rw [call_enter hQ hn rfl] at e; cases e; exact ⟨_, hQ, rfl⟩
  | mac f0 b hm hP hn hb hbs hQ => rw [call_enter hQ hn rfl] at e; cases e; exact ⟨_, hQ, rfl⟩
  | ext f0 he hP hn hb hQ =>
    obtain ⟨h1, e', h2, h3⟩ := ext_at f he f0 hP
    rw [call_ext hQ hn hb h1 h2] at e
    exact (r0_bind fun _ => r0_val : Res0 Sq.prog (PlainN Sq.prog) _) v es a v' es' e
  | nope hQ => rw [call_nope hQ] at e; cases e
  | none hP hQ => rw [call_none hQ] at e; cases e

theorem sq_fns : Fns Try.prog Sq.prog X := ⟨sq_tm, sq_own, sq_res⟩
theorem sq_fns_own : Fns Sq.prog Sq.prog (fun _ => False) := ⟨sq_own, sq_own, sq_res⟩
theorem sq_st : ∀ t ∈ sts, NumStruct Try.prog Sq.prog t := by
  intro t ht
  rw [List.mem_singleton.1 ht]
  refine ⟨by kernel_rfl, by kernel_rfl, by kernel_rfl, by kernel_rfl, ?_⟩
  obtain ⟨fs, h⟩ : ∃ fs, Try.prog.underlying 64 = some (.struct fs) ∧ (fs.all fun f => plainInt Try.prog f.type) = true := ⟨_, Try.underlying64, by kernel_rfl⟩
  exact ⟨fs, h.1, fun f hf => Array.all_eq_true_iff_forall_mem.1 h.2 f hf⟩
theorem sq_bad : Sq.prog.info? bad = none := by kernel_rfl
theorem sq_env (hX : ∀ r, X r → Sq.prog.globals.size ≤ r) : Env Try.prog Sq.prog X sts := ⟨sq_kin, sq_bad, hX, sq_fns, sq_st⟩
theorem sq_st_own : ∀ t ∈ sts, NumStruct Sq.prog Sq.prog t := fun t ht => ⟨(sq_st t ht).guardQ, (sq_st t ht).guardQ, (sq_st t ht).stoodQ, (sq_st t ht).stoodQ, by
  obtain ⟨fs, h1, h2⟩ := (sq_st t ht).parts
  refine ⟨fs, by rw [sq_kin.underlying]; exact h1, fun f hf => ?_⟩
  have := h2 f hf
  unfold plainInt at this ⊢
  rw [intTy_kin sq_kin, sq_kin.info]
  exact this⟩
theorem sq_env_own : Env Sq.prog Sq.prog (fun _ => False) sts := ⟨rfl, sq_bad, fun _ h => h.elim, sq_fns_own, sq_st_own⟩

theorem mac_cut : cutCode Sq.prog sts lockC = lockC ∧ cutCode Sq.prog sts unlockC = unlockC ∧ cutCode Sq.prog sts serveC = serveC := ⟨by kernel_rfl, by kernel_rfl, by kernel_rfl⟩
/-- The one program's code holds nothing that is left out. -/
theorem sq_bodies_own : Bodies Sq.prog Sq.prog sts (fun _ => False) where
  body := by
    intro f _ fn' e hs
    cases kind f with
    | white f0 hw hP hn b hb hQ =>
      rw [hQ] at e; cases e
      exact ⟨_, cutCode Try.prog sts b, hQ, rfl, by rw [cut_cut sq_kin sq_bad], rfl, rfl⟩
    | mac f0 b hm hP hn hb hbs hQ =>
      rw [hQ] at e; cases e
      refine ⟨_, b, hQ, rfl, ?_, rfl, rfl⟩
      rcases hbs with rfl | rfl | rfl
      · rw [mac_cut.1]
      · rw [mac_cut.2.1]
      · rw [mac_cut.2.2]
    | ext f0 he hP hn hb hQ => rw [hQ] at e; cases e; rw [hb] at hs; cases hs
    | nope hQ => rw [hQ] at e; cases e; cases hs
    | none hP hQ => rw [hQ] at e; cases e
  early := sq_early
  ahead := sq_bodies.ahead
end
end Go.Proofs.Ytdlnlcjmjgbikaa
