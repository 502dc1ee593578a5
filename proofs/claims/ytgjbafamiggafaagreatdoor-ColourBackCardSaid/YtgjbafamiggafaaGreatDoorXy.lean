/- The tree of a text, in memory. -/
import Derived.Test.YtgjbafamiggafaaGreatDoorXv
import Derived.Test.YtgjbafamiggafaaGreatDoorOb
namespace Go.Proofs.YtgjbafamiggafaaGreatDoor
open Go.RowKit Go.Shelf
open M

theorem toks_few (s : ByteArray) : (toks 0 (bs s)).length ≤ s.size := by
  have hl := toks_len _ 0 (bs s) (Nat.le_refl _)
  rw [bs_len] at hl
  exact hl
theorem toks_S (s : ByteArray) (hs : s.size ≤ 1073741823) (hl : (toks 0 (bs s)).length ≤ 268435456) : TokS s (toks 0 (bs s)) := by
  refine ⟨hs, hl, fun t ht => ?_, X.xt_fits (bs s)⟩
  have h1 := toks_ge _ 0 (bs s) (Nat.le_refl _) t ht
  rw [bs_len] at h1
  have h2 := X.xt_fits (bs s) (X.tkx (bs s) t) (List.mem_map.2 ⟨t, ht, rfl⟩)
  exact ⟨by omega, h2.2.2.2.1, h2.2.2.2.2.1⟩

set_option maxRecDepth 100000 in
set_option maxHeartbeats 300000 in
theorem readerOf_any (b : Nat) (v : Value) (s : ByteArray) (w : World) (h : IsD w b v s) (hs : s.size ≤ 1073741823) (hl : (toks 0 (bs s)).length ≤ 268435456) :
    Calls Tryz.prog 40 #[.pointer (some ⟨b, 0, none⟩)] w fun e w' => ∃ rb tv, e = .returned (.pointer (some ⟨rb, 0, none⟩)) ∧ Hid (RdrT w' rb s (toks 0 (bs s)) tv 0 0 ∧ w.heap.size ≤ rb ∧ (∀ q, tv.ownBlock = some q → w.heap.size ≤ q ∧ q < w'.heap.size) ∧ Below w.heap.size w w') := by
  have H := hide h
  have hS := toks_S s hs hl
  clear h
  go_enter Tryz.func40, Tryz.ntmps40
  go_wp2_with fail
  refine (text_any b v s w H.out).mono ?_
  rintro e w1 ⟨rfl, k1⟩
  have HD1 := hide ((H.out).below k1)
  have K1 := hide k1
  clear k1
  go_wp2_with fail
  refine (docTokens_any b v s w1 HD1.out (by omega)).mono ?_
  rintro e w2 ⟨tv, rfl, O2, k2⟩
  have K2 := hide ((K1.out).trans (k2.mono (K1.out).size))
  have HT2 := hide (IsT.ofOwns O2.out)
  have HG2 := hide (owns_ge O2.out)
  have hz1 := (K1.out).size
  have hz2 := k2.size
  clear k2 O2
  obtain ⟨ao, cap, rfl, -⟩ := HT2.out
  have hraw : RawT (w2.alloc (Obj.cells #[.string s, .slice ao (toks 0 (bs s)).length cap, .int .i64 0, .int .i64 0, .int .i64 0, .string ⟨#[]⟩, .int .i64 0] 161)) w2.heap.size s (.slice ao (toks 0 (bs s)).length cap) ((0 : Nat) : Int) 0 0 ⟨#[]⟩ ((0 : Nat) : Int) := heap_alloc_new w2 _
  have kA : Below w2.heap.size w2 (w2.alloc (Obj.cells #[.string s, .slice ao (toks 0 (bs s)).length cap, .int .i64 0, .int .i64 0, .int .i64 0, .string ⟨#[]⟩, .int .i64 0] 161)) := (Below.refl _ w2).alloc (Nat.le_refl _) _
  have HR := hide hraw
  have HKA := hide kA
  clear hraw kA
  go_wp2_with fail
  refine (tlook_any w2.heap.size s ⟨#[]⟩ (toks 0 (bs s)) (.slice ao (toks 0 (bs s)).length cap) 0 0 0 0 _ hS HR.out ((HT2.out).below HKA.out) (Nat.zero_le _) (fun k hk e => by have := ((HG2.out) k hk).2; omega)).mono ?_
  rintro e w3 ⟨rfl, r3, k3⟩
  have HR3 := hide r3
  have K3 := hide (((K2.out).trans ((HKA.out).mono (K2.out).size)).trans (k3.below (by simp; have := (K2.out).size; omega) (K2.out).size))
  have hz3 := k3.size
  clear r3 k3
  go_wp2_with fail
  go_ret
  exact ⟨w2.heap.size, _, rfl, HR3.out, (K2.out).size, fun q hq => by have := (HG2.out) q hq; simp at hz3; exact ⟨by omega, by omega⟩, K3.out⟩

/-- More parts are finished, the reader has moved. -/
theorem Wk.grown {w w1 : World} {rb : Nat} {s : ByteArray} {L : List Tk} {tv : Value} {a dp B k : Nat} {rv : Value} {vs : List Value} {ps : List X.Part} {D D' : Nat → Prop} (h : Wk w rb s L tv a dp B k rv vs ps D) (hk : On rb w w1) {a' : Nat} (hr : RdrT w1 rb s L tv a' dp)
    (h1 : ∀ q, D q → D' q) (h2 : ∀ q, D' q → D q ∨ w.heap.size ≤ q) (h3 : ∀ q, D' q → q < w1.heap.size) : Wk w1 rb s L tv a' dp B k rv vs ps D' := by
  have hm := h.moved hk hr
  have hbl := h.bra.lt
  have hrl := h.rdr.raw.lt
  refine ⟨hr, hm.bra, hm.len, hm.each.mono h1, h3, ⟨fun hd => ?_, fun hd => ?_, h.sep.2.2⟩, fun g hg => ⟨fun hd => ?_, (h.sepG g hg).2⟩, fun q hq => ?_⟩
  · rcases h2 _ hd with e | e
    · exact h.sep.1 e
    · omega
  · rcases h2 _ hd with e | e
    · exact h.sep.2.1 e
    · omega
  · rcases h2 _ hd with e | e
    · exact (h.sepG g hg).1 e
    · have := (owns_ge h.bra.row g hg).2; omega
  · obtain ⟨a1, a2, a3, a4⟩ := h.sepT q hq
    refine ⟨fun hd => ?_, a2, a3, (hm.sepT q hq).2.2.2⟩
    rcases h2 _ hd with e | e
    · exact a1 e
    · omega

namespace X
theorem want_lt {x : List UInt8} {ts : List Tok} (h : isN x ts = true) : (want x ts).2.length < ts.length := by
  unfold want; rw [if_pos h]; exact take_lt (isN_next h)
theorem andThen_lt {f g : R} {ts : List Tok} (hg : Shr g) (h : (f ts).2.length < ts.length) : (andThen f g ts).2.length < ts.length := by
  have := hg.le (f ts).2
  show (g (f ts).2).2.length < _
  omega
theorem andThen_snd (f g : R) (ts : List Tok) : (andThen f g ts).2 = (g (f ts).2).2 := rfl
theorem useR_lt {ts : List Tok} (h : isN sUse ts = true) : (useR ts).2.length < ts.length := by
  unfold useR
  exact andThen_lt (Shr.wname.andThen ((Shr.want _).andThen (Shr.wname.andThen ((Shr.ite (c := isN [97, 115]) (Shr.take.andThen Shr.wname) Shr.nil).andThen (Shr.want _))))) (want_lt h)
theorem defR_lt {ts : List Tok} (h : isN sDef ts = true) : (defR ts).2.length < ts.length := by
  unfold defR
  exact andThen_lt (Shr.wname.andThen ((Shr.ite (c := isN [40]) Shr.params Shr.nil).andThen ((Shr.want _).andThen ((Shr.expr 65).andThen (Shr.want _))))) (want_lt h)
theorem junkL_lt {ts : List Tok} (hk : (kindN ts == 0) = false) (hs : starts ts = false) : (junkL ts).2.length < ts.length := by
  have hn := kind_next hk
  rw [junkL_yes (by rw [hk, hs]; rfl)]
  split
  · exact take_lt hn
  · exact andThen_lt (fun ts => Shr.junkGo ts.length ts) (take_lt hn)
theorem kid_lt {ts : List Tok} (hk : (kindN ts == 0) = false) : (kid ts).2.2.length < ts.length := by
  have hn := kind_next hk
  cases hs : starts ts with
  | false =>
    have e : kid ts = (5, junkL ts) := by rw [kid_eq, hs, if_neg (by simp)]
    rw [e]; exact junkL_lt hk hs
  | true =>
    cases hu : isN sUse (optPub ts).2 with
    | true =>
      have e : kid ts = (3, andThen optPub useR ts) := by rw [kid_eq, hs, if_pos rfl, hu, if_pos rfl]
      have h1 := useR_lt hu
      have h2 := Shr.optPub.le ts
      rw [e]
      show (andThen optPub useR ts).2.length < _
      rw [andThen_snd]; omega
    | false =>
      have e : kid ts = (4, andThen optPub defR ts) := by rw [kid_eq, hs, if_pos rfl, hu, if_neg (by simp)]
      rw [e]
      show (andThen optPub defR ts).2.length < _
      cases hp : isN sPub ts with
      | true =>
        have ho : (optPub ts).2.length < ts.length := by unfold optPub; rw [if_pos hp]; exact take_lt hn
        exact andThen_lt Shr.defR ho
      | false =>
        have ho : optPub ts = ([], ts) := by unfold optPub; rw [if_neg (by rw [hp]; simp)]
        rw [ho] at hu
        have hd : isN sDef ts = true := by
          unfold starts at hs
          rw [hu, hp] at hs
          simpa using hs
        rw [andThen_snd, ho]
        exact defR_lt hd
theorem fileGo_fuel : ∀ (n : Nat) (ts : List Tok), ts.length ≤ n → fileGo n ts = fileGo ts.length ts := by
  intro n
  induction n using Nat.strongRecOn with
  | _ n ih =>
    intro ts h
    rcases Nat.lt_or_ge ts.length n with hlt | hge
    · cases n with
      | zero => omega
      | succ n =>
        cases hm : ts.length with
        | zero =>
          have h0 : ts = [] := List.length_eq_zero_iff.1 hm
          subst h0; rfl
        | succ m =>
          unfold fileGo
          cases hk : (kindN ts == 0) with
          | true => rfl
          | false =>
            have hl := kid_lt hk
            rw [if_neg (by simp), if_neg (by simp), ih n (by omega) _ (by omega), ih m (by omega) _ (by omega)]
    · rw [show n = ts.length by omega]
def fileL (ts : List Tok) : List Part := fileGo ts.length ts
theorem fileL_no {ts : List Tok} (h : (kindN ts == 0) = true) : fileL ts = ts.map lf := by
  unfold fileL
  cases ts.length with
  | zero => rfl
  | succ m => unfold fileGo; rw [if_pos h]
theorem fileL_yes {ts : List Tok} (h : (kindN ts == 0) = false) : fileL ts = .br (kid ts).1 (kid ts).2.1 :: fileL (kid ts).2.2 := by
  have hl := kid_lt h
  unfold fileL
  obtain ⟨m, hm⟩ : ∃ m, ts.length = m + 1 := ⟨ts.length - 1, by omega⟩
  rw [hm]
  conv => lhs; unfold fileGo
  rw [if_neg (by rw [h]; simp), fileGo_fuel m _ (by omega)]
end X

/-- A tree in memory: its text, and its root. -/
structure IsTr (w : World) (tb : Nat) (s : ByteArray) : Prop where
  ex : ∃ (db : Nat) (dv : Value) (B : Nat) (D : Nat → Prop), w.cell? ⟨tb, 0, none⟩ = some (.pointer (some ⟨db, 0, none⟩)) ∧ w.cell? ⟨tb, 1, none⟩ = some (.pointer (some ⟨B, 0, none⟩)) ∧ IsD w db dv s ∧ IsP w D (.iface 110 (.pointer (some ⟨B, 0, none⟩))) (X.file (X.xt (bs s))) ∧ ∀ q, D q → q < w.heap.size

theorem IsD.keep {S : Nat → Prop} {w w' : World} {b : Nat} {v : Value} {s : ByteArray} (h : IsD w b v s) (hk : Kp S w w') (h1 : ¬ S b) (h2 : ∀ k, v.ownBlock = some k → ¬ S k) : IsD w' b v s :=
  ⟨hk.cellv h.text h1, hk.cellv h.held h1, h.row.keep hk h2⟩
set_option maxRecDepth 100000 in
set_option maxHeartbeats 300000 in
theorem newTree_big (s : ByteArray) (w : World) (hT : Tabs w) (hs : s.size ≤ 1073741823) (hl : (toks 0 (bs s)).length ≤ 134217728) :
    Calls Tryz.prog 23 #[.string s] w fun e w' => ∃ tb, e = .returned (.pointer (some ⟨tb, 0, none⟩)) ∧ Hid (IsTr w' tb s ∧ Below w.heap.size w w') := by
  have hS := toks_S s (by omega) (by omega)
  go_enter Tryz.func23, Tryz.ntmps23
  go_wp2_with fail
  refine (new_any s w hT (by omega)).mono ?_
  rintro e w1 ⟨db, rfl, H1⟩
  go_wp2_with fail
  obtain ⟨dv, g1, g2, g3, g4, g5⟩ := H1.out
  have HD := hide g3
  have K1 := hide g5
  have hdb := g2
  have HDV : Hid (∀ k, dv.ownBlock = some k → k < w1.heap.size) := fun k hk => by have := (g4 k hk).2; omega
  have kA : Below w1.heap.size w1 (w1.alloc (Obj.cells #[.int .i64 2, .slice none 0 0] 113)) := (Below.refl _ w1).alloc (Nat.le_refl _) _
  have hnew : (w1.alloc (Obj.cells #[.int .i64 2, .slice none 0 0] 113)).heap[w1.heap.size]? = some (.cells #[.int .i64 2, .slice none 0 0] 113 (0, 0)) := heap_alloc_new w1 _
  have hzA : (w1.alloc (Obj.cells #[.int .i64 2, .slice none 0 0] 113)).heap.size = w1.heap.size + 1 := by simp
  clear g1 g2 g3 g4 g5 H1
  refine (readerOf_any db dv s _ ((HD.out).below kA) (by omega) (by omega)).mono ?_
  rintro e w3 ⟨rb, tv, rfl, H3⟩
  have HW : Hid (Wk w3 rb s (toks 0 (bs s)) tv 0 0 w1.heap.size 2 (.slice none 0 0) [] [] (fun _ => False)) := by
    obtain ⟨r1, r2, r3, r4⟩ := H3.out
    refine ⟨r1, ⟨(Kp.ofBelow r4 (fun _ => False)).heap hnew id, World.ownsRow_nil _ _ _ _⟩, rfl, Each.nil _ _, (fun q hq => hq.elim), ⟨id, id, by omega⟩, (fun g hg => by cases hg), fun q hq => ?_⟩
    have := r3 q hq
    exact ⟨id, by omega, (fun e => by cases e), this.2⟩
  have K3 : Hid (Below w.heap.size w w3) := (K1.out).trans ((kA.trans ((H3.out).2.2.2.mono (by omega))).mono (K1.out).size)
  have HD3 := hide (((HD.out).below kA).below (H3.out).2.2.2)
  have hrb := (H3.out).2.1
  have hz1 := (K1.out).size
  clear H3 hnew kA
  have hL := hS.len
  have e0 : remT s (toks 0 (bs s)) 0 = X.xt (bs s) := by unfold remT X.xt; simp
  go_wp2_with fail
  go_loopw [] (fun wr => ∃ (a : Nat) (rv : Value) (vs : List Value) (ps : List X.Part) (D : Nat → Prop), ps.length ≤ a ∧ Hid (Wk wr rb s (toks 0 (bs s)) tv a 0 w1.heap.size 2 rv vs ps D) ∧ Hid (X.fileL (X.xt (bs s)) = ps ++ X.fileL (remT s (toks 0 (bs s)) a)) ∧ Hid (∀ g, rv.ownBlock = some g → w3.heap.size ≤ g) ∧ Hid (∀ q, D q → w3.heap.size ≤ q) ∧ Hid (Kp (fun q => q = rb ∨ q = w1.heap.size) w3 wr)) (fun wr => (toks 0 (bs s)).length - atT rb wr)
  case atStart => exact ⟨0, _, _, _, _, Nat.le_refl _, HW, (by show _ = _; rw [e0]; rfl), (fun g hg => by cases hg), (fun q hq => hq.elim), Kp.refl _ _⟩
  case round =>
    obtain ⟨a, rv, vs, ps, D, hpa, HWr, HE, HG, HDD, HK⟩ := hrel
    have hle := (HWr.out).rdr.le
    have kI : (X.kindN (remT s (toks 0 (bs s)) a) != 0) = !(X.kindN (remT s (toks 0 (bs s)) a) == 0) := rfl
    have hat : (toks 0 (bs s)).length - atT rb wr = (remT s (toks 0 (bs s)) a).length := (Done.refl (HWr.out)).at
    have hln : ∀ a, (remT s (toks 0 (bs s)) a).length = (toks 0 (bs s)).length - a := fun a => by unfold remT; simp
    go_wp2_with fail
    refine (more_any rb s (toks 0 (bs s)) tv a 0 wr (HWr.out).rdr).mono ?_
    rintro e w4 ⟨rfl, rfl⟩
    rw [kI]
    cases hk : (X.kindN (remT s (toks 0 (bs s)) a) == 0) with
    | false =>
      have hlt := X.kid_lt hk
      have HF := hide (X.fileL_yes hk)
      go_wp2_with fail
      refine (kid_any hS rb tv a w4 (HWr.out).rdr D (HWr.out).dlt (HWr.out).sep.1 (fun q hq => ⟨((HWr.out).sepT q hq).1, ((HWr.out).sepT q hq).2.2.2⟩)).mono ?_
      rintro e w5 ⟨N, D', a', rfl, H5⟩
      have HW5 : Hid (Wk w5 rb s (toks 0 (bs s)) tv a' 0 w1.heap.size 2 rv vs ps D') := (HWr.out).grown (H5.out).2.2.2.2.2.2 (H5.out).1 (H5.out).2.2.2.1 (H5.out).2.2.2.2.1 (H5.out).2.2.2.2.2.1
      have hvl : vs.length ≤ 1073741824 := by rw [(HWr.out).len]; omega
      unfold kidV
      generalize hnn : (remT s (toks 0 (bs s)) a).length - (X.kid (remT s (toks 0 (bs s)) a)).2.2.length = nn
      have HNN : Hid (nn = (X.pl (.br (X.kid (remT s (toks 0 (bs s)) a)).1 (X.kid (remT s (toks 0 (bs s)) a)).2.1)).length) := by
        have h := congrArg List.length (X.kid_lvs (remT s (toks 0 (bs s)) a))
        rw [List.length_append] at h
        show nn = (X.pls (X.kid (remT s (toks 0 (bs s)) a)).2.1).length
        omega
      clear hnn
      go_wp2_with fail
      refine (add_any w1.heap.size 2 rv vs 118 _ w5 (HW5.out).bra (fun g hg => ((HW5.out).sepG g hg).2.2) hvl).mono ?_
      rintro e w6 ⟨rfl, rv6, b6, o6, k6⟩
      have HN : Hid (∃ (a2 : Nat) (rv2 : Value) (vs2 : List Value) (ps2 : List X.Part) (D2 : Nat → Prop), a < a2 ∧ a2 ≤ (toks 0 (bs s)).length ∧ ps2.length ≤ a2 ∧ Hid (Wk w6 rb s (toks 0 (bs s)) tv a2 0 w1.heap.size 2 rv2 vs2 ps2 D2) ∧ Hid (X.fileL (X.xt (bs s)) = ps2 ++ X.fileL (remT s (toks 0 (bs s)) a2)) ∧ Hid (∀ g, rv2.ownBlock = some g → w3.heap.size ≤ g) ∧ Hid (∀ q, D2 q → w3.heap.size ≤ q) ∧ Hid (Kp (fun q => q = rb ∨ q = w1.heap.size) w3 w6)) := by
        obtain ⟨f1, f2, f3, f4, f5, f6, f7⟩ := H5.out
        have hz34 := (HK.out).size
        have hz45 := f7.size
        have hpk : IsP w6 D' (.iface 118 (.agg #[.pointer (some ⟨N, 0, none⟩), .int .i64 nn])) (.br (X.kid (remT s (toks 0 (bs s)) a)).1 (X.kid (remT s (toks 0 (bs s)) a)).2.1) := .kid N nn _ HNN.out (f3.keep k6 (fun q hq e => by
          rcases e with e | e
          · subst e; exact (HW5.out).sep.2.1 hq
          · exact ((HW5.out).sepG q e).1 hq))
        have hw6 := (HW5.out).added b6 o6 k6 hpk
        have hle' := f1.le
        have hlt' : a < a' := by
          rw [← f2, hln, hln] at hlt; omega
        refine ⟨a', rv6, _, _, D', hlt', hle', by rw [List.length_append]; simp; omega, hw6, ?_, fun g hg => ?_, fun q hq => ?_, ?_⟩
        · show _ = _
          rw [HE.out, HF.out, f2, List.append_assoc]; rfl
        · rcases o6 g hg with e | e
          · exact (HG.out) g e
          · omega
        · rcases f5 q hq with e | e
          · exact (HDD.out) q e
          · omega
        · refine Kp.trans (Kp.trans (HK.out) f7 (fun i _ e => .inl e)) k6 (fun i hi e => ?_)
          rcases e with e | e
          · exact .inr e
          · have := (HG.out) i e; omega
      clear b6 o6 k6 HW5 H5
      obtain ⟨a2, rv2, vs2, ps2, D2, n1, n2, n3, n4, n5, n6, n7, n8⟩ := HN.out
      go_wp2_with fail
      refine ⟨⟨a2, rv2, vs2, ps2, D2, n3, n4, n5, n6, n7, n8⟩, ?_⟩
      rw [hat, (Done.refl n4.out).at, hln, hln]; omega
    | true =>
      have HF := hide (X.fileL_no hk)
      go_wp2_with fail
      refine (rest_any s (toks 0 (bs s)) 0 hS rb tv a w1.heap.size 2 rv vs ps D w4 HWr.out trivial (by simp only [List.length_map]; rw [hln]; omega)).mono ?_
      rintro e w5 ⟨rfl, H5⟩
      have HR : Hid (∃ D2 : Nat → Prop, IsP w5 D2 (.iface 110 (.pointer (some ⟨w1.heap.size, 0, none⟩))) (X.file (X.xt (bs s))) ∧ (∀ q, D2 q → q < w5.heap.size) ∧ IsD w5 db dv s ∧ Below w.heap.size w w5) := by
        obtain ⟨a5, rv5, vs5, D5, f1, f2, f3, f4, f5, f6⟩ := H5.out
        have hz34 := (HK.out).size
        have hp := f1.part
        have he : ps ++ (remT s (toks 0 (bs s)) a).map X.lf = X.fileL (X.xt (bs s)) := by rw [HE.out, HF.out]
        simp only [he] at hp
        have hkk : Kp (fun q => q = rb ∨ q = w1.heap.size) w3 w5 := Kp.trans (HK.out) f6 (fun i hi e => by
          rcases e with e | e | e
          · exact .inl e
          · exact .inr e
          · have := (HG.out) i e; omega)
        refine ⟨_, hp, ?_, ?_, ?_⟩
        · rintro q (e | e | e)
          · exact f1.dlt q e
          · subst e; exact f1.bra.lt
          · exact (owns_ge f1.bra.row q e).2
        · refine (HD3.out).keep hkk ?_ (fun k hk => ?_)
          · rintro (e | e) <;> omega
          · have := (HDV.out) k hk
            rintro (e | e) <;> omega
        · exact (K3.out).trans (Kp.below hkk (by have := (K3.out).size; omega) (fun k e => by rcases e with e | e <;> omega))
      clear H5
      go_wp2_with fail
      go_ret
      obtain ⟨D2, f1, f2, f3, f4⟩ := HR.out
      have kT : Below w5.heap.size w5 (w5.alloc (Obj.cells #[.pointer (some ⟨db, 0, none⟩), .pointer (some ⟨w1.heap.size, 0, none⟩)] 122)) := (Below.refl _ w5).alloc (Nat.le_refl _) _
      refine ⟨w5.heap.size, rfl, ⟨⟨db, dv, w1.heap.size, D2, ?_, ?_, f3.below kT, f1.keep (Kp.ofBelow kT (fun _ => False)) (fun _ _ => id), fun q hq => by have := f2 q hq; simp; omega⟩⟩, f4.trans (kT.mono f4.size)⟩
      · rw [cell_of_row _ _ 0 _ _ _ (heap_alloc_new w5 _)]; rfl
      · rw [cell_of_row _ _ 1 _ _ _ (heap_alloc_new w5 _)]; rfl
theorem newTree_any (s : ByteArray) (w : World) (hT : Tabs w) (hs : s.size ≤ 134217728) :
    Calls Tryz.prog 23 #[.string s] w fun e w' => ∃ tb, e = .returned (.pointer (some ⟨tb, 0, none⟩)) ∧ Hid (IsTr w' tb s ∧ Below w.heap.size w w') := newTree_big s w hT (by omega) (by have := toks_few s; omega)
end Go.Proofs.YtgjbafamiggafaaGreatDoor
