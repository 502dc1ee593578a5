/- Plain mathematics: how a text's tokens are read into a tree. -/
import Derived.Test.YtpoipoencbieeaaDoorKa
namespace Go.Proofs.YtpoipoencbieeaaDoor
namespace X

/-- A token: its kind, its bytes. -/
abbrev Tok := Nat × List UInt8
/-- What trees are made of. -/
inductive Part where
  | leaf (k : Nat) (x : List UInt8)
  | miss (m : List UInt8)
  | br (k : Nat) (ps : List Part)

/-- A way to read: what comes of the tokens ahead, and what is left. -/
abbrev R := List Tok → List Part × List Tok

def quiet (t : Tok) : Bool := t.1 == 1 || t.1 == 2
def nxt (ts : List Tok) : Option Tok := (ts.dropWhile quiet).head?
def kindN (ts : List Tok) : Nat := match nxt ts with | some t => t.1 | none => 0
def isN (s : List UInt8) (ts : List Tok) : Bool := match nxt ts with | some t => (t.1 == 4 || t.1 == 7) && t.2 == s | none => false
def lf (t : Tok) : Part := .leaf t.1 t.2
def take : R := fun ts => ((ts.takeWhile quiet ++ (ts.dropWhile quiet).take 1).map lf, (ts.dropWhile quiet).drop 1)
def want (s : List UInt8) : R := fun ts => if isN s ts then take ts else ([.miss s], ts)
/-- `name` and `expression`. -/
def sName : List UInt8 := [110, 97, 109, 101]
def sExpr : List UInt8 := [101, 120, 112, 114, 101, 115, 115, 105, 111, 110]
def wname : R := fun ts => if kindN ts == 3 then take ts else ([.miss sName], ts)
def andThen (f g : R) : R := fun ts => ((f ts).1 ++ (g (f ts).2).1, (g (f ts).2).2)
def node (k : Nat) (f : R) : R := fun ts => ([.br k (f ts).1], (f ts).2)

/-- As long as a `,` is next: it is taken, and another one read. -/
def sevGo (one : R) : Nat → R
  | 0 => fun ts => ([], ts)
  | n + 1 => fun ts => if isN [44] ts then andThen take (andThen one (sevGo one n)) ts else ([], ts)
def several (one : R) (e : List UInt8) : R := fun ts => if isN e ts then want e ts else andThen one (andThen (fun ts => sevGo one ts.length ts) (want e)) ts
def params : R := node 6 (andThen (want [40]) (several wname [41]))

/-- What has been read and a sign that is next become a node, with another one. -/
def rowGo (one : R) (ok : List Tok → Bool) : Nat → List Part → R
  | 0, p => fun ts => (p, ts)
  | n + 1, p => fun ts => if ok ts then rowGo one ok n [.br 10 (p ++ (andThen take one ts).1)] (andThen take one ts).2 else (p, ts)
def row (one : R) (ok : List Tok → Bool) : R := fun ts => rowGo one ok (one ts).2.length (one ts).1 (one ts).2
def args (E : R) : R := node 12 (andThen take (several E [41]))
def callGo (E : R) : Nat → List Part → R
  | 0, p => fun ts => (p, ts)
  | n + 1, p => fun ts => if isN [40] ts then callGo E n [.br 11 (p ++ (args E ts).1)] (args E ts).2 else (p, ts)
def part (E : R) : R := fun ts =>
  if kindN ts == 5 then node 15 take ts
  else if kindN ts == 6 then node 16 take ts
  else if isN [116, 114, 117, 101] ts || isN [102, 97, 108, 115, 101] ts then node 17 take ts
  else if kindN ts == 3 then node 18 take ts
  else if isN [63] ts then node 19 take ts
  else if isN [40] ts then node 14 (andThen take (andThen E (want [41]))) ts
  else if isN [91] ts then node 13 (andThen take (several E [93])) ts
  else ([.miss sExpr], ts)
def call (E : R) : R := fun ts => callGo E (part E ts).2.length (part E ts).1 (part E ts).2
def product (E : R) : R := row (call E) (isN [42])
def sum (E : R) : R := row (product E) (fun ts => isN [43] ts || isN [45] ts || isN [43, 43] ts)
def comparison (E : R) : R := fun ts =>
  if isN [61, 61] (sum E ts).2 || isN [60] (sum E ts).2 then ([.br 10 ((sum E ts).1 ++ (andThen take (sum E) (sum E ts).2).1)], (andThen take (sum E) (sum E ts).2).2) else sum E ts
/-- An expression, with so many levels left. -/
def expr : Nat → R
  | 0 => fun ts => ([.miss sExpr], ts)
  | n + 1 => fun ts =>
    if isN [108, 101, 116] ts then node 7 (andThen take (andThen wname (andThen (want [61]) (andThen (expr n) (andThen (want [105, 110]) (expr n)))))) ts
    else if isN [105, 102] ts then node 8 (andThen take (andThen (expr n) (andThen (want [116, 104, 101, 110]) (andThen (expr n) (andThen (want [101, 108, 115, 101]) (expr n)))))) ts
    else if isN [102, 117, 110] ts then node 9 (andThen take (andThen params (andThen (want [61, 62]) (expr n)))) ts
    else comparison (expr n) ts

def sUse : List UInt8 := [117, 115, 101]
def sPub : List UInt8 := [112, 117, 98]
def sDef : List UInt8 := [100, 101, 102]
def starts (ts : List Tok) : Bool := isN sUse ts || isN sPub ts || isN sDef ts
def junkGo : Nat → R
  | 0 => fun ts => ([], ts)
  | n + 1 => fun ts => if kindN ts == 0 || starts ts then ([], ts) else if isN [59] ts then take ts else andThen take (junkGo n) ts
def optPub : R := fun ts => if isN sPub ts then take ts else ([], ts)
def useR : R := andThen (want sUse) (andThen wname (andThen (want [46]) (andThen wname (andThen (fun ts => if isN [97, 115] ts then andThen take wname ts else ([], ts)) (want [59])))))
def defR : R := andThen (want sDef) (andThen wname (andThen (fun ts => if isN [40] ts then params ts else ([], ts)) (andThen (want [61]) (andThen (expr 65) (want [59])))))
/-- A kid of the root: its kind, what is in it, what is left. -/
def kid (ts : List Tok) : Nat × List Part × List Tok :=
  if starts ts then
    if isN sUse (optPub ts).2 then (3, andThen optPub useR ts) else (4, andThen optPub defR ts)
  else (5, junkGo ts.length ts)
def fileGo : Nat → List Tok → List Part
  | 0, ts => ts.map lf
  | n + 1, ts => if kindN ts == 0 then ts.map lf else .br (kid ts).1 (kid ts).2.1 :: fileGo n (kid ts).2.2
/-- The tree of a text. -/
def file (ts : List Tok) : Part := .br 2 (fileGo ts.length ts)

/-- The bytes of some tokens; of a tree. -/
def tb (ts : List Tok) : List UInt8 := ts.flatMap (·.2)
mutual
def pb : Part → List UInt8
  | .leaf _ x => x
  | .miss _ => []
  | .br _ ps => psb ps
def psb : List Part → List UInt8
  | [] => []
  | p :: ps => pb p ++ psb ps
end
theorem psb_append (l r : List Part) : psb (l ++ r) = psb l ++ psb r := by
  induction l with
  | nil => rfl
  | cons p l ih => rw [List.cons_append, psb, ih, psb, List.append_assoc]
theorem psb_lf (ts : List Tok) : psb (ts.map lf) = tb ts := by
  induction ts with
  | nil => rfl
  | cons t ts ih => rw [List.map_cons, psb, ih]; rfl
theorem tb_append (l r : List Tok) : tb (l ++ r) = tb l ++ tb r := List.flatMap_append

/-- Nothing is lost, and nothing comes twice. -/
def Keeps (f : R) : Prop := ∀ ts, psb (f ts).1 ++ tb (f ts).2 = tb ts
theorem Keeps.andThen {f g : R} (hf : Keeps f) (hg : Keeps g) : Keeps (andThen f g) := by
  intro ts
  show psb ((f ts).1 ++ (g (f ts).2).1) ++ tb (g (f ts).2).2 = _
  rw [psb_append, List.append_assoc, hg, hf]
theorem Keeps.node {f : R} (hf : Keeps f) (k : Nat) : Keeps (node k f) := by
  intro ts
  show psb [.br k _] ++ _ = _
  rw [psb, pb, psb, List.append_nil]; exact hf ts
theorem Keeps.nil : Keeps (fun ts => ([], ts)) := fun _ => rfl
theorem Keeps.miss (s : List UInt8) : Keeps (fun ts => ([.miss s], ts)) := fun _ => rfl
theorem Keeps.ite {f g : R} {c : List Tok → Bool} (hf : Keeps f) (hg : Keeps g) : Keeps (fun ts => if c ts then f ts else g ts) := by
  intro ts
  show psb (if c ts then f ts else g ts).1 ++ tb (if c ts then f ts else g ts).2 = _
  split
  · exact hf ts
  · exact hg ts
theorem Keeps.take : Keeps take := by
  intro ts
  show psb (List.map lf (ts.takeWhile quiet ++ (ts.dropWhile quiet).take 1)) ++ tb ((ts.dropWhile quiet).drop 1) = _
  rw [psb_lf, ← tb_append, List.append_assoc, List.take_append_drop, List.takeWhile_append_dropWhile]
theorem Keeps.want (s : List UInt8) : Keeps (want s) := Keeps.ite (c := isN s) Keeps.take (Keeps.miss s)
theorem Keeps.wname : Keeps wname := Keeps.ite (c := fun ts => kindN ts == 3) Keeps.take (Keeps.miss sName)
theorem Keeps.sevGo {one : R} (h : Keeps one) : ∀ n, Keeps (sevGo one n)
  | 0 => Keeps.nil
  | n + 1 => Keeps.ite (c := isN [44]) (Keeps.take.andThen (h.andThen (Keeps.sevGo h n))) Keeps.nil
theorem Keeps.several {one : R} (h : Keeps one) (e : List UInt8) : Keeps (several one e) :=
  Keeps.ite (c := isN e) (Keeps.want e) (h.andThen (Keeps.andThen (fun ts => Keeps.sevGo h ts.length ts) (Keeps.want e)))
theorem Keeps.params : Keeps params := ((Keeps.want _).andThen (Keeps.wname.several _)).node 6
theorem Keeps.rowGo {one : R} {ok : List Tok → Bool} (h : Keeps one) : ∀ (n : Nat) (p : List Part) (ts : List Tok), psb (rowGo one ok n p ts).1 ++ tb (rowGo one ok n p ts).2 = psb p ++ tb ts
  | 0, p, ts => rfl
  | n + 1, p, ts => by
    unfold X.rowGo
    split
    · rw [Keeps.rowGo h n, psb, pb, psb, List.append_nil, psb_append, List.append_assoc, (Keeps.take.andThen h) ts]
    · rfl
theorem Keeps.row {one : R} {ok : List Tok → Bool} (h : Keeps one) : Keeps (row one ok) := fun ts => (Keeps.rowGo h _ _ _).trans (h ts)
theorem Keeps.args {E : R} (h : Keeps E) : Keeps (args E) := (Keeps.take.andThen (h.several _)).node 12
theorem Keeps.callGo {E : R} (h : Keeps E) : ∀ (n : Nat) (p : List Part) (ts : List Tok), psb (callGo E n p ts).1 ++ tb (callGo E n p ts).2 = psb p ++ tb ts
  | 0, p, ts => rfl
  | n + 1, p, ts => by
    unfold X.callGo
    split
    · rw [Keeps.callGo h n, psb, pb, psb, List.append_nil, psb_append, List.append_assoc, (Keeps.args h) ts]
    · rfl
theorem Keeps.part {E : R} (h : Keeps E) : Keeps (part E) :=
  Keeps.ite (c := fun ts => kindN ts == 5) (Keeps.take.node _) <|
  Keeps.ite (c := fun ts => kindN ts == 6) (Keeps.take.node _) <|
  Keeps.ite (c := fun ts => isN [116, 114, 117, 101] ts || isN [102, 97, 108, 115, 101] ts) (Keeps.take.node _) <|
  Keeps.ite (c := fun ts => kindN ts == 3) (Keeps.take.node _) <|
  Keeps.ite (c := isN [63]) (Keeps.take.node _) <|
  Keeps.ite (c := isN [40]) ((Keeps.take.andThen (h.andThen (Keeps.want _))).node _) <|
  Keeps.ite (c := isN [91]) ((Keeps.take.andThen (h.several _)).node _) (Keeps.miss _)
theorem Keeps.call {E : R} (h : Keeps E) : Keeps (call E) := fun ts => (Keeps.callGo h _ _ _).trans (Keeps.part h ts)
theorem Keeps.product {E : R} (h : Keeps E) : Keeps (product E) := h.call.row
theorem Keeps.sum {E : R} (h : Keeps E) : Keeps (sum E) := h.product.row
theorem Keeps.comparison {E : R} (h : Keeps E) : Keeps (comparison E) := by
  intro ts
  unfold X.comparison
  split
  · rw [psb, pb, psb, List.append_nil, psb_append, List.append_assoc, (Keeps.take.andThen h.sum), h.sum ts]
  · exact h.sum ts
theorem Keeps.expr : ∀ n, Keeps (expr n)
  | 0 => Keeps.miss _
  | n + 1 =>
    have h := Keeps.expr n
    Keeps.ite (c := isN [108, 101, 116]) ((Keeps.take.andThen (Keeps.wname.andThen ((Keeps.want _).andThen (h.andThen ((Keeps.want _).andThen h))))).node _) <|
    Keeps.ite (c := isN [105, 102]) ((Keeps.take.andThen (h.andThen ((Keeps.want _).andThen (h.andThen ((Keeps.want _).andThen h))))).node _) <|
    Keeps.ite (c := isN [102, 117, 110]) ((Keeps.take.andThen (Keeps.params.andThen ((Keeps.want _).andThen h))).node _) h.comparison
theorem Keeps.junkGo : ∀ n, Keeps (junkGo n)
  | 0 => Keeps.nil
  | n + 1 => Keeps.ite (c := fun ts => kindN ts == 0 || starts ts) Keeps.nil (Keeps.ite (c := isN [59]) Keeps.take (Keeps.take.andThen (Keeps.junkGo n)))
theorem Keeps.optPub : Keeps optPub := Keeps.ite (c := isN sPub) Keeps.take Keeps.nil
theorem Keeps.useR : Keeps useR :=
  (Keeps.want _).andThen (Keeps.wname.andThen ((Keeps.want _).andThen (Keeps.wname.andThen ((Keeps.ite (c := isN [97, 115]) (Keeps.take.andThen Keeps.wname) Keeps.nil).andThen (Keeps.want _)))))
theorem Keeps.defR : Keeps defR :=
  (Keeps.want _).andThen (Keeps.wname.andThen ((Keeps.ite (c := isN [40]) Keeps.params Keeps.nil).andThen ((Keeps.want _).andThen ((Keeps.expr 65).andThen (Keeps.want _)))))
theorem kid_keeps (ts : List Tok) : psb (kid ts).2.1 ++ tb (kid ts).2.2 = tb ts := by
  unfold kid
  split
  · split
    · exact (Keeps.optPub.andThen Keeps.useR) ts
    · exact (Keeps.optPub.andThen Keeps.defR) ts
  · exact Keeps.junkGo _ ts
theorem fileGo_keeps : ∀ (n : Nat) (ts : List Tok), psb (fileGo n ts) = tb ts
  | 0, ts => psb_lf ts
  | n + 1, ts => by
    unfold fileGo
    split
    · exact psb_lf ts
    · rw [psb, pb, fileGo_keeps n, kid_keeps]
/-- A tree is its text. -/
theorem file_keeps (ts : List Tok) : pb (file ts) = tb ts := fileGo_keeps _ ts
end X
end Go.Proofs.YtpoipoencbieeaaDoor
