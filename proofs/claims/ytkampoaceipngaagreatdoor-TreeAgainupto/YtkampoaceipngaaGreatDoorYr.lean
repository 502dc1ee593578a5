/- Plain mathematics: which tokens stay when a piece is replaced, and so which kids. -/
import Derived.Test.YtkampoaceipngaaGreatDoorRp2
import Derived.Test.YtkampoaceipngaaGreatDoorYl
namespace Go.Proofs.YtkampoaceipngaaGreatDoor
open M
namespace X
theorem beg_suf (c : Int) (L : List Tk) : beg c L <:+ L := List.dropWhile_suffix _
theorem anw_suf (g : Int) (n : Nat) : ∀ (old : List Tk) (a : Nat) (t : List UInt8), t.length ≤ n → (anw g old a t).2 <:+ old := by
  induction n with
  | zero =>
    intro old a t h
    obtain rfl : t = [] := List.length_eq_zero_iff.1 (by omega)
    rw [anw_end]; exact beg_suf _ _
  | succ n ih =>
    intro old a t h
    by_cases h0 : t = []
    · subst h0; rw [anw_end]; exact beg_suf _ _
    · by_cases hs : (beg (a - g) old).head?.map (fun k => (k.pos : Int)) = some (a - g)
      · rw [anw_stop hs]; exact beg_suf _ _
      · rw [anw_on h0 hs]
        have hb := tok_bounds h0
        exact (ih _ _ _ (by rw [List.length_drop]; omega)).trans (beg_suf _ _)
theorem cut_same {l l' : List UInt8} {p n f : Nat} (h : p + n ≤ f) (he : l.take f = l'.take f) : (l.drop p).take n = (l'.drop p).take n := by
  have key : ∀ x : List UInt8, (x.drop p).take n = ((x.take f).drop p).take n := fun x => by
    rw [List.drop_take, List.take_take, Nat.min_eq_left (by omega)]
  rw [key l, key l', he]
/-- The tokens of a text in which a piece is replaced: those ahead and those behind are the same. -/
structure Stays (old new : List Tok) (Lo Ln : List Tk) (A b : Nat) : Prop where
  ao : A ≤ Lo.length
  an : A ≤ Ln.length
  fr : Lo.take A = Ln.take A
  frx : old.take A = new.take A
  bo : b ≤ old.length
  bn : b ≤ new.length
  bk : old.drop (old.length - b) = new.drop (new.length - b)
theorem rep_stays {T X : List UInt8} {f u : Nat} (h1 : f ≤ u) (h2 : u ≤ T.length) {A' S : List Tk} (hA : anw ((X.length : Int) - ((u : Int) - f)) (beg u (toks 0 T)) (endF 0 (ahd f (toks 0 T))) ((rep T X f u).drop (endF 0 (ahd f (toks 0 T)))) = (A', S)) :
    Stays (xt T) (xt (rep T X f u)) (toks 0 T) (toks 0 (rep T X f u)) (ahd f (toks 0 T)).length S.length ∧ (toks 0 (rep T X f u)).length = (ahd f (toks 0 T)).length + A'.length + S.length := by
  obtain ⟨e1, -⟩ := rep_toks (X := X) h1 h2 (g := (X.length : Int) - ((u : Int) - f)) rfl
  rw [hA] at e1
  simp only at e1
  have hS := rep_same (T := T) (X := X) h1 h2 (g := (X.length : Int) - ((u : Int) - f)) rfl
  have hsuf := anw_suf ((X.length : Int) - ((u : Int) - f)) _ (beg u (toks 0 T)) (endF 0 (ahd f (toks 0 T))) ((rep T X f u).drop (endF 0 (ahd f (toks 0 T)))) (Nat.le_refl _)
  have hge := anw_ge ((X.length : Int) - ((u : Int) - f)) _ (beg u (toks 0 T)) (endF 0 (ahd f (toks 0 T))) ((rep T X f u).drop (endF 0 (ahd f (toks 0 T)))) (Nat.le_refl _) (beg_toks _ ⟨0, _, rfl⟩)
  rw [hA] at hsuf hge
  have hbg : ∀ k ∈ S, (u : Int) ≤ k.pos := fun k hk => beg_ge k (hsuf.subset hk)
  obtain ⟨P, hP⟩ := hsuf.trans (beg_suf _ _)
  have hta : (toks 0 T).take (ahd f (toks 0 T)).length = ahd f (toks 0 T) := (ahd_take f (toks 0 T)).symm
  have htn : (toks 0 (rep T X f u)).take (ahd f (toks 0 T)).length = ahd f (toks 0 T) := by rw [e1, List.append_assoc, List.take_left]
  have hal : (ahd f (toks 0 T)).length ≤ (toks 0 T).length := by
    have := congrArg List.length hta
    rw [List.length_take] at this; omega
  have hln : (toks 0 (rep T X f u)).length = (ahd f (toks 0 T)).length + A'.length + S.length := by rw [e1]; simp [Nat.add_assoc]
  have hlo : (toks 0 T).length = P.length + S.length := by rw [← hP, List.length_append]
  have hxo : (xt T).length = (toks 0 T).length := by unfold xt; rw [List.length_map]
  have hxn : (xt (rep T X f u)).length = (toks 0 (rep T X f u)).length := by unfold xt; rw [List.length_map]
  have hpre : T.take f = (rep T X f u).take f := by
    unfold rep
    rw [List.append_assoc, List.take_append_of_le_length (by rw [List.length_take]; omega), List.take_take, Nat.min_self]
  refine ⟨⟨hal, by omega, by rw [hta, htn], ?_, by omega, by omega, ?_⟩, hln⟩
  · unfold xt
    rw [← List.map_take, ← List.map_take, hta, htn]
    refine List.map_congr_left fun t ht => ?_
    have := ahead_le t ht
    unfold tkx
    rw [cut_same this hpre]
  · have do1 : (toks 0 T).drop ((xt T).length - S.length) = S := by
      rw [hxo, hlo, show P.length + S.length - S.length = P.length by omega, ← hP, List.drop_left]
    have dn1 : (toks 0 (rep T X f u)).drop ((xt (rep T X f u)).length - S.length) = S.map (mv ((X.length : Int) - ((u : Int) - f))) := by
      rw [hxn, hln, show (ahd f (toks 0 T)).length + A'.length + S.length - S.length = (ahd f (toks 0 T) ++ A').length by rw [List.length_append]; omega, e1, List.drop_left]
    have e2 : ∀ l m, (xt l).drop m = ((toks 0 l).drop m).map (tkx l) := fun l m => by unfold xt; rw [List.map_drop]
    rw [e2, e2, do1, dn1, List.map_map]
    refine List.map_congr_left fun k hk => ?_
    have g1 := hge k hk
    have g2 := hbg k hk
    show tkx T k = tkx (rep T X f u) (mv _ k)
    unfold tkx mv
    rw [hS.same k.pos ((k.pos : Int) + ((X.length : Int) - ((u : Int) - f))).toNat (by omega) (by omega)]
end X
theorem nxI_lt {L : List Tk} {p A : Nat} (hA : A ≤ L.length) : nxI L p < A ↔ ∃ m t, p ≤ m ∧ m < A ∧ L[m]? = some t ∧ qk t = false := by
  constructor
  · intro h
    have hlt : nxI L p < L.length := by omega
    refine ⟨nxI L p, L[nxI L p], by unfold nxI; omega, h, List.getElem?_eq_getElem hlt, ?_⟩
    have h1 : ((L.drop p).takeWhile qk).length < (L.drop p).length := by
      unfold nxI at hlt
      rw [List.length_drop]; omega
    have h2 : (L.drop p)[((L.drop p).takeWhile qk).length]? = some L[nxI L p] := by
      rw [List.getElem?_drop]
      exact List.getElem?_eq_getElem hlt
    have h3 : (L.drop p).dropWhile qk = (L.drop p).drop ((L.drop p).takeWhile qk).length := by
      have := List.drop_left (l₁ := (L.drop p).takeWhile qk) (l₂ := (L.drop p).dropWhile qk)
      rw [List.takeWhile_append_dropWhile] at this
      exact this.symm
    have h4 : ((L.drop p).dropWhile qk).head? = some L[nxI L p] := by
      rw [h3, List.head?_drop]; exact h2
    have h5 := List.head?_dropWhile_not qk (L.drop p)
    rw [h4] at h5
    simpa using h5
  · rintro ⟨m, t, h1, h2, h3, h4⟩
    rcases Nat.lt_or_ge (nxI L p) A with g | g
    · exact g
    · exfalso
      have hm : m - p < ((L.drop p).takeWhile qk).length := by unfold nxI at g; omega
      have h5 : ((L.drop p).takeWhile qk)[m - p]? = some t := by
        have := List.takeWhile_append_dropWhile (p := qk) (l := L.drop p)
        have h6 : (L.drop p)[m - p]? = some t := by rw [List.getElem?_drop, show p + (m - p) = m by omega]; exact h3
        rw [← this, List.getElem?_append_left hm] at h6
        exact h6
      have h7 := List.all_eq_true.1 (List.all_takeWhile (p := qk) (l := L.drop p)) t (List.mem_of_getElem? h5)
      rw [h4] at h7; cases h7
theorem tkn_drop {ts : List X.Tok} (i : Nat) : tkn (X.fileL ts) i + (X.pls ((X.fileL ts).drop i)).length = ts.length := by
  have := X.pls_take_drop (X.fileL ts) i
  rw [X.fileL_lvs] at this
  exact this
theorem tkn_mono {ps : List X.Part} {i j : Nat} (h : i ≤ j) : tkn ps i ≤ tkn ps j := by
  have h1 := X.pls_take_drop ps i
  have h2 := X.pls_take_drop ps j
  have h3 := begs_mono (ops := ps) h
  unfold tkn; omega
/-- Is a kid kept? In the old tokens as in the new ones. -/
theorem kept_iff {old new : List X.Tok} {Lo Ln : List Tk} {A b : Nat} (h : X.Stays old new Lo Ln A b) (ps : List X.Part) (i : Nat) : kept Ln ps A i ↔ kept Lo ps A i := by
  have key : ∀ m, m < A → Lo[m]? = Ln[m]? := fun m hm => by
    have h1 := congrArg (fun l : List Tk => l[m]?) h.fr
    simp only [List.getElem?_take_of_lt hm] at h1
    exact h1
  unfold kept
  rw [nxI_lt h.an, nxI_lt h.ao]
  constructor
  · rintro ⟨h1, m, t, h2, h3, h4, h5⟩; exact ⟨h1, m, t, h2, h3, (key m h3).trans h4, h5⟩
  · rintro ⟨h1, m, t, h2, h3, h4, h5⟩; exact ⟨h1, m, t, h2, h3, (key m h3).symm.trans h4, h5⟩
/-- What is next behind a kid that is kept. -/
theorem kept_next {T : List UInt8} {A : Nat} {ps : List X.Part} {i : Nat} (hA : A ≤ (toks 0 T).length) (h : kept (toks 0 T) ps A i) : ∃ m t, tkn ps (i + 1) ≤ m ∧ m < A ∧ (X.xt T)[m]? = some t ∧ X.quiet t = false := by
  obtain ⟨m, t, h1, h2, h3, h4⟩ := (nxI_lt hA).1 h.2
  exact ⟨m, X.tkx T t, h1, h2, by unfold X.xt; rw [List.getElem?_map, h3]; rfl, h4⟩
/-- The kids that are kept are those of the new root. -/
theorem kept_all {T N : List UInt8} {A b : Nat} (hs : X.Stays (X.xt T) (X.xt N) (toks 0 T) (toks 0 N) A b) (hk : ∀ t ∈ X.xt T, t.1 ≠ 0) {j : Nat} (hj : ∀ i, i < j → kept (toks 0 N) (X.fileL (X.xt T)) A i) :
    ∀ i, i ≤ j → X.fileL (X.xt N) = (X.fileL (X.xt T)).take i ++ X.fileL ((X.xt N).drop (tkn (X.fileL (X.xt T)) i))
  | 0, _ => by unfold tkn; simp [X.pls]
  | i + 1, hi => by
    have ih := kept_all hs hk hj i (by omega)
    have hk1 := (kept_iff hs _ i).1 (hj i (by omega))
    obtain ⟨⟨k, qs, hp⟩, -⟩ := hk1
    obtain ⟨m, t, g1, g2, g3, g4⟩ := kept_next hs.ao ((kept_iff hs _ i).1 (hj i (by omega)))
    obtain ⟨hlt, hpe⟩ := List.getElem?_eq_some_iff.1 hp
    have hts : tkn (X.fileL (X.xt T)) (i + 1) = tkn (X.fileL (X.xt T)) i + (X.pls qs).length := by
      rw [tkn_succ hlt, hpe]; rfl
    have hxo : (X.xt T).length = (toks 0 T).length := by unfold X.xt; rw [List.length_map]
    have eo : (X.xt T).take A ++ (X.xt T).drop A = X.xt T := List.take_append_drop _ _
    have en : (X.xt T).take A ++ (X.xt N).drop A = X.xt N := by rw [hs.frx, List.take_append_drop]
    have hb : X.nxt (((X.xt T).take A).drop (tkn (X.fileL (X.xt T)) i + (X.pls qs).length)) ≠ none := by
      intro e0
      unfold X.nxt at e0
      have e1 : (((X.xt T).take A).drop (tkn (X.fileL (X.xt T)) i + (X.pls qs).length)).dropWhile X.quiet = [] := List.head?_eq_none_iff.1 e0
      have hm : t ∈ ((X.xt T).take A).drop (tkn (X.fileL (X.xt T)) i + (X.pls qs).length) := by
        rw [hts] at g1
        refine List.mem_of_getElem? (i := m - (tkn (X.fileL (X.xt T)) i + (X.pls qs).length)) ?_
        rw [List.getElem?_drop, show tkn (X.fileL (X.xt T)) i + (X.pls qs).length + (m - (tkn (X.fileL (X.xt T)) i + (X.pls qs).length)) = m by omega, List.getElem?_take_of_lt g2]
        exact g3
      have := X.drop_nil _ e1 t hm
      rw [g4] at this; cases this
    have hst := X.keep_step (A := (X.xt T).take A) (M := (X.xt T).drop A) (M' := (X.xt N).drop A) (i := i) (k := k) (ps := qs) (by rw [eo]; exact hk) (by rw [eo]; exact hp) (a := tkn (X.fileL (X.xt T)) i) (by rw [eo]; rfl) hb
    rw [en] at hst
    rw [ih, hst, hts, List.take_succ_eq_append_getElem hlt, hpe, List.append_assoc]; rfl
/-- A kid behind which nothing is next is not kept. -/
theorem kept_lt {T : List UInt8} {A nk i : Nat} (hA : A ≤ (toks 0 T).length) (hq : ∀ t ∈ (X.xt T).drop (tkn (X.fileL (X.xt T)) nk), X.quiet t = true) (hl : ∀ i p, nk ≤ i → (X.fileL (X.xt T))[i]? = some p → ∃ k x, p = .leaf k x) (h : kept (toks 0 T) (X.fileL (X.xt T)) A i) : i + 1 < nk := by
  have hin : i < nk := by
    rcases Nat.lt_or_ge i nk with g | g
    · exact g
    · obtain ⟨⟨k, qs, e⟩, -⟩ := h
      obtain ⟨k', x, e'⟩ := hl i _ g e
      cases e'
  rcases Nat.lt_or_ge (i + 1) nk with g | g
  · exact g
  · exfalso
    obtain rfl : nk = i + 1 := by omega
    obtain ⟨m, t, g1, g2, g3, g4⟩ := kept_next hA h
    have := hq t (List.mem_of_getElem? (i := m - tkn (X.fileL (X.xt T)) (i + 1)) (by rw [List.getElem?_drop, show tkn (X.fileL (X.xt T)) (i + 1) + (m - tkn (X.fileL (X.xt T)) (i + 1)) = m by omega]; exact g3))
    rw [g4] at this; cases this
/-- Where the document looks for an old kid. -/
def DBeg (ps : List X.Part) (nk ol b m : Nat) : Prop := m ≤ b ∧ ∃ j, j < nk ∧ tkn ps j + m = ol
theorem begs_iff {old new : List X.Tok} {Lo Ln : List Tk} {A b nk : Nat} (hs : X.Stays old new Lo Ln A b) (hnk : nk ≤ (X.fileL old).length) (hq : ∀ t ∈ old.drop (tkn (X.fileL old) nk), X.quiet t = true) {i0 : Nat} (hi0 : i0 ≤ (X.fileL old).length) (h1 : (X.pls ((X.fileL old).drop i0)).length ≤ b) (h2 : i0 = 0 ∨ b < (X.pls ((X.fileL old).drop (i0 - 1))).length) (x : Nat) (hk : (X.kindN (new.drop x) == 0) = false) :
    X.Begs ((X.fileL old).drop i0) (new.drop x).length ↔ DBeg (X.fileL old) nk old.length b (new.drop x).length := by
  constructor
  · rintro ⟨i, hi, e⟩
    rw [List.drop_drop] at e
    have hle : (new.drop x).length ≤ b := by
      rw [← e]
      exact Nat.le_trans (begs_mono (ops := X.fileL old) (i := i0) (j := i0 + i) (by omega)) h1
    have ht := tkn_drop (ts := old) (i0 + i)
    refine ⟨hle, i0 + i, ?_, by omega⟩
    rcases Nat.lt_or_ge (i0 + i) nk with g | g
    · exact g
    · exfalso
      have hx : x ≤ new.length := by
        rcases Nat.le_total x new.length with g | g
        · exact g
        · rw [List.drop_eq_nil_of_le g] at hk; simp [X.kindN, X.nxt] at hk
      have hbo := hs.bo
      have hbn := hs.bn
      have hbk := hs.bk
      have hle' : new.length - x ≤ b := by rw [List.length_drop] at hle; exact hle
      have e1 : new.drop x = old.drop (tkn (X.fileL old) (i0 + i)) := by
        rw [List.length_drop] at e
        have a1 : new.length - b + (b - (new.length - x)) = x := by omega
        have a2 : old.length - b + (b - (new.length - x)) = tkn (X.fileL old) (i0 + i) := by omega
        rw [← a1, ← a2, ← List.drop_drop, ← List.drop_drop, hbk]
      have hm := tkn_mono (ps := X.fileL old) g
      have : (X.kindN (new.drop x) == 0) = true := X.kindN_quiet fun t ht' => by
        rw [e1] at ht'
        refine hq t ?_
        have a3 : tkn (X.fileL old) (i0 + i) = tkn (X.fileL old) nk + (tkn (X.fileL old) (i0 + i) - tkn (X.fileL old) nk) := by omega
        rw [a3, ← List.drop_drop] at ht'
        exact List.mem_of_mem_drop ht'
      rw [this] at hk; cases hk
  · rintro ⟨hle, j, hj, e⟩
    have ht := tkn_drop (ts := old) j
    have hjl : (X.pls ((X.fileL old).drop j)).length = (new.drop x).length := by omega
    have hge : i0 ≤ j := by
      rcases Nat.lt_or_ge j i0 with g | g
      · exfalso
        rcases h2 with h | h
        · omega
        · have := begs_mono (ops := X.fileL old) (i := j) (j := i0 - 1) (by omega)
          omega
      · exact g
    exact ⟨j - i0, by rw [List.length_drop]; omega, by rw [List.drop_drop, show i0 + (j - i0) = j by omega]; exact hjl⟩
end Go.Proofs.YtkampoaceipngaaGreatDoor
