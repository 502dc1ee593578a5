/- What is wrong in a part, as the program tells it. -/
import Derived.Test.YtkampoaceipngaaGreatDoorYd
namespace Go.Proofs.YtkampoaceipngaaGreatDoor
open Go.RowKit
open M
/-- Notes as they lie in memory. -/
def nv (n : X.Nt) : List Value := [.int .i64 n.1, .int .i64 n.2.1, .int .i64 n.2.2]
def nvs (ns : List X.Nt) : List Value := ns.flatMap nv
theorem nvs_append (a b : List X.Nt) : nvs (a ++ b) = nvs a ++ nvs b := List.flatMap_append
theorem nvs_one (n : X.Nt) : nvs [n] = nv n := by unfold nvs; simp
theorem nvs_len (ns : List X.Nt) : (nvs ns).length = ns.length * 3 := by
  induction ns with
  | nil => rfl
  | cons n ns ih =>
    have : nvs (n :: ns) = nv n ++ nvs ns := by unfold nvs; rw [List.flatMap_cons]
    rw [this, List.length_append, ih, List.length_cons]; simp [nv]; omega
namespace X
mutual
theorem nts_len : ∀ (p : Part) (i : Nat), (nts p i).length ≤ psz p
  | .leaf k x, i => by rw [nts, psz]; split <;> simp
  | .miss m, i => by rw [nts, psz]; simp
  | .br k ps, i => by
    rw [nts, psz, List.length_append]
    have := ntss_len ps i
    split <;> simp <;> omega
theorem ntss_len : ∀ (ps : List Part) (i : Nat), (ntss ps i).length ≤ pssz ps
  | [], i => by rw [ntss, pssz]; simp
  | p :: ps, i => by
    rw [ntss, pssz, List.length_append]
    have := nts_len p i
    have := ntss_len ps (i + (pb p).length)
    omega
end
end X
theorem infoNote : (Tryz.prog.info? 50).map (fun i => (i.zero, i.size, i.bytes)) = some (some (.agg #[.int .i64 0, .int .i64 0, .int .i64 0]), 3, 24) := by kernel_rfl
/-- A row of notes, in blocks from base on. -/
def IsNs (w : World) (base : Nat) (rv : Value) (ns : List X.Nt) : Prop := w.ownsRow base 50 3 rv ns.length (nvs ns)
theorem IsNs.keep {S : Nat → Prop} {w w' : World} {base : Nat} {rv : Value} {ns : List X.Nt} (h : IsNs w base rv ns) (hk : Kp S w w') (hS : ∀ q, S q → q < base) : IsNs w' base rv ns := hk.owns h (fun g hg hs => by have := (owns_ge h g hg).1; have := hS g hs; omega)
/-- What telling has come to. -/
def Told (w : World) (base : Nat) (ns : List X.Nt) (rv' : Value) (w' : World) : Prop := IsNs w' base rv' ns ∧ Below base w w'
set_option maxRecDepth 100000 in
set_option maxHeartbeats 1000000 in
theorem ltell_any (k : Nat) (x : List UInt8) (base : Nat) (rv : Value) (ns : List X.Nt) (i : Nat) (w : World) (h : IsNs w base rv ns) (hb : base ≤ w.heap.size) (hi : i + x.length ≤ 1073741824) (hn : ns.length ≤ 1073741823) :
    Calls Tryz.prog 161 #[.agg #[.int .i64 k, .int .i64 x.length], rv, .int .i64 i] w fun e w' => ∃ rv', e = .returned (.tuple #[rv', .int .i64 ((i + x.length : Nat) : Int)]) ∧ Hid (Told w base (ns ++ X.nts (.leaf k x) i) rv' w') := by
  obtain ⟨i0, hi0, hz0, hz1, hz2⟩ := info_parts infoNote
  have HI := hide h
  clear h
  have kA : ∀ o : Obj, Below base w (w.alloc o) := fun o => (Below.refl _ w).alloc hb _
  have HKA := hide kA
  clear kA
  cases h8 : ((k : Int) == 8) with
  | false =>
    have e8 : ¬ k = 8 := by intro e; subst e; cases h8
    have HR : Hid (X.nts (.leaf k x) i = []) := by show _ = _; rw [X.nts, if_neg e8]
    go_enter Tryz.func161, Tryz.ntmps161
    go_wp2_with fail
    exact bodyPost_ret (v := .tuple #[rv, .int .i64 ((i : Int) + (x.length : Int))]) (by simp [results, Tryz.results161, go_sem]) rfl ⟨rv, by rw [Int.natCast_add], by rw [HR.out, List.append_nil]; exact ⟨(HI.out).keep (Kp.alloc (Kp.refl (fun _ => False) w) _) (fun _ h => h.elim), (HKA.out) _⟩⟩
  | true =>
    have e8 : k = 8 := by have : (k : Int) = 8 := by simpa using h8
                          omega
    have HR : Hid (X.nts (.leaf k x) i = [((i : Int), ((i + x.length : Nat) : Int), 3)]) := by show _ = _; rw [X.nts, if_pos e8]
    clear e8
    go_enter Tryz.func161, Tryz.ntmps161
    go_wp2_with (at_builtin; refine wpList_append_lies _ rfl _ _ 32 rfl base 50 i0 _ 3 24 Tryz.underlying32 hi0 hz0 hz1 hz2 rfl (by decide) rv ns.length _ rfl (((HI.out : w.ownsRow _ _ _ _ _ _).alloc _).alloc _) ⟨w.heap.size + 1, 0, none⟩ 1 1 (nv ((i : Int), ((i : Int) + (x.length : Int)), 3)) rfl rfl (World.news_of_block (cs := #[.int .i64 i, .int .i64 ((i : Int) + (x.length : Int)), .int .i64 3]) (new_at (w.alloc _) _ (World.size_alloc w _))) (by simp [Value.oneCell', nv]) (by omega) (by unfold maxLen; omega) (by omega) (by simp; omega) (w.heap.size + 2) (by simp) ?_; intro g cap5 w5 hown5 hgrow5 hat5 hlt5; have HO := hide hown5; have HGr := hide hgrow5; clear hown5 hgrow5)
    refine bodyPost_ret (v := .tuple #[.slice (some ⟨g, 0, none⟩) (ns.length + 1) cap5, .int .i64 ((i : Int) + (x.length : Int))]) (by simp [results, Tryz.results161, go_sem]) rfl ⟨_, by rw [Int.natCast_add], ?_⟩
    rw [HR.out]
    refine ⟨?_, ?_⟩
    · show w5.ownsRow _ _ _ _ _ _
      rw [List.length_append, nvs_append, nvs_one, Int.natCast_add]; exact HO.out
    · have k1 : Below base w ((w.alloc (.cells #[.int .i64 k, .int .i64 x.length] 130)).alloc (.cells #[.int .i64 i, .int .i64 ((i : Int) + (x.length : Int)), .int .i64 3] 50)) := ((Below.refl _ w).alloc hb _).alloc (by simp; omega) _
      exact k1.grown HGr.out (by simp; omega) (fun q hq => (owns_ge HI.out q hq).1)
set_option maxRecDepth 100000 in
set_option maxHeartbeats 1000000 in
theorem mtell_any (m : List UInt8) (base : Nat) (rv : Value) (ns : List X.Nt) (i : Nat) (w : World) (h : IsNs w base rv ns) (hb : base ≤ w.heap.size) (hn : ns.length ≤ 1073741823) :
    Calls Tryz.prog 177 #[.string (ba m), rv, .int .i64 i] w fun e w' => ∃ rv', e = .returned (.tuple #[rv', .int .i64 (i : Int)]) ∧ Hid (Told w base (ns ++ X.nts (.miss m) i) rv' w') := by
  obtain ⟨i0, hi0, hz0, hz1, hz2⟩ := info_parts infoNote
  have HI := hide h
  clear h
  have HR : Hid (X.nts (.miss m) i = [((i : Int), (i : Int), 9)]) := by show _ = _; rw [X.nts]
  go_enter Tryz.func177, Tryz.ntmps177
  go_wp2_with (at_builtin; refine wpList_append_lies _ rfl _ _ 32 rfl base 50 i0 _ 3 24 Tryz.underlying32 hi0 hz0 hz1 hz2 rfl (by decide) rv ns.length _ rfl ((HI.out : w.ownsRow _ _ _ _ _ _).alloc _) ⟨w.heap.size, 0, none⟩ 1 1 (nv ((i : Int), (i : Int), 9)) rfl rfl (World.news_of_block (cs := #[.int .i64 i, .int .i64 i, .int .i64 9]) (heap_alloc_new w _)) (by simp [Value.oneCell', nv]) (by omega) (by unfold maxLen; omega) (by omega) (by simp; omega) (w.heap.size + 1) (by simp) ?_; intro g cap5 w5 hown5 hgrow5 hat5 hlt5; have HO := hide hown5; have HGr := hide hgrow5; clear hown5 hgrow5)
  refine bodyPost_ret (v := .tuple #[.slice (some ⟨g, 0, none⟩) (ns.length + 1) cap5, .int .i64 (i : Int)]) (by simp [results, Tryz.results177, go_sem]) rfl ⟨_, rfl, ?_⟩
  rw [HR.out]
  refine ⟨?_, ?_⟩
  · show w5.ownsRow _ _ _ _ _ _
    rw [List.length_append, nvs_append, nvs_one]; exact HO.out
  · have k1 : Below base w (w.alloc (.cells #[.int .i64 i, .int .i64 i, .int .i64 9] 50)) := (Below.refl _ w).alloc hb _
    exact k1.grown HGr.out (by simp; omega) (fun q hq => (owns_ge HI.out q hq).1)
/-- What branch.tell does of a part. -/
def BTOk (p : X.Part) : Prop := ∀ (w : World) (D : Nat → Prop) (N base : Nat) (rv : Value) (ns : List X.Nt) (i : Nat), IsP w D (.iface 54 (.pointer (some ⟨N, 0, none⟩))) p → (∀ q, D q → q < base) → IsNs w base rv ns → base ≤ w.heap.size → i + (X.pb p).length ≤ 1073741824 → ns.length + X.psz p ≤ 1073741823 →
  Calls Tryz.prog 30 #[.pointer (some ⟨N, 0, none⟩), rv, .int .i64 i] w fun e w' => ∃ rv', e = .returned (.tuple #[rv', .int .i64 ((i + (X.pb p).length : Nat) : Int)]) ∧ Hid (Told w base (ns ++ X.nts p i) rv' w')
theorem mt_leaf (a b : Value) (w : World) : (Go.method 323 130 (.agg #[a, b]) "amanuensis/tree.tell").run Tryz.prog w = .ok (161, .agg #[a, b]) w := by kernel_rfl
theorem mt_miss (m : ByteArray) (w : World) : (Go.method 323 177 (.string m) "amanuensis/tree.tell").run Tryz.prog w = .ok (177, .string m) w := by kernel_rfl
theorem mt_br (p : Option Addr) (w : World) : (Go.method 323 54 (.pointer p) "amanuensis/tree.tell").run Tryz.prog w = .ok (30, .pointer p) w := by kernel_rfl
theorem mt_kid (p : Option Addr) (n : Value) (w : World) : (Go.method 323 63 (.agg #[.pointer p, n]) "amanuensis/tree.tell").run Tryz.prog w = .ok (30, .pointer p) w := by kernel_rfl
theorem en_ltell : ∀ args w, (callFunc 161 args).run Tryz.prog w = .ok (.enter 161 args) w := enters_of Tryz.func161 (by kernel_rfl) rfl
theorem en_mtell : ∀ args w, (callFunc 177 args).run Tryz.prog w = .ok (.enter 177 args) w := enters_of Tryz.func177 (by kernel_rfl) rfl
theorem en_btell : ∀ args w, (callFunc 30 args).run Tryz.prog w = .ok (.enter 30 args) w := enters_of Tryz.func30 (by kernel_rfl) rfl
/-- Whatever a part is, its tell is found and tells. -/
theorem tell_disp {w : World} {D : Nat → Prop} {v : Value} {p : X.Part} (h : IsP w D v p) (hB : BTOk p) (base : Nat) (hD : ∀ q, D q → q < base) :
    ∃ ty x fid recv, v = .iface ty x ∧ (∀ W, (Go.method 323 ty x "amanuensis/tree.tell").run Tryz.prog W = .ok (fid, recv) W) ∧ (∀ args W, (callFunc fid args).run Tryz.prog W = .ok (.enter fid args) W) ∧
      ∀ (W : World) (rv : Value) (ns : List X.Nt) (i : Nat), Below base w W → IsNs W base rv ns → base ≤ W.heap.size → i + (X.pb p).length ≤ 1073741824 → ns.length + X.psz p ≤ 1073741823 → Calls Tryz.prog fid #[recv, rv, .int .i64 i] W fun e w' => ∃ rv', e = .returned (.tuple #[rv', .int .i64 ((i + (X.pb p).length : Nat) : Int)]) ∧ Hid (Told W base (ns ++ X.nts p i) rv' w') := by
  have keep : ∀ {W : World} {v : Value} {p : X.Part}, Below base w W → IsP w D v p → IsP W D v p := fun hk h => h.keep (Kp.ofBelowB hk (S := fun q => base ≤ q) (fun _ h _ => h)) (fun q hq e => by have := hD q hq; omega)
  cases h with
  | leaf k x =>
    refine ⟨_, _, _, _, rfl, fun W => mt_leaf _ _ W, en_ltell, fun W rv ns i _ h1 h2 h3 h4 => ?_⟩
    rw [X.pb] at h3 ⊢
    exact ltell_any k x base rv ns i W h1 h2 h3 (by omega)
  | miss m =>
    refine ⟨_, _, _, _, rfl, fun W => mt_miss _ W, en_mtell, fun W rv ns i _ h1 h2 h3 h4 => ?_⟩
    rw [X.pb]
    exact mtell_any m base rv ns i W h1 h2 (by omega)
  | br k N cap ao vs ps hN hb hc hr hp =>
    refine ⟨_, _, _, _, rfl, fun W => mt_br _ W, en_btell, fun W rv ns i hk h1 h2 h3 h4 => ?_⟩
    exact hB W D N base rv ns i (keep hk (IsP.br k N cap ao vs ps hN hb hc hr hp)) hD h1 h2 h3 h4
  | kid N n q hn hq =>
    refine ⟨_, _, _, _, rfl, fun W => mt_kid _ _ W, en_btell, fun W rv ns i hk h1 h2 h3 h4 => ?_⟩
    exact hB W D N base rv ns i (keep hk hq) hD h1 h2 h3 h4
/-- A leaf's value. -/
theorem IsP.ofLeaf {w : World} {D : Nat → Prop} {v : Value} {k : Nat} {x : List UInt8} (h : IsP w D v (.leaf k x)) : v = .iface 130 (.agg #[.int .i64 k, .int .i64 x.length]) := by
  cases h with
  | leaf => rfl
  | kid N n q hn hq => cases hq
theorem qlen_step {ps : List X.Part} {j : Nat} {k : Nat} {x : List UInt8} (h : ps[j]? = some (.leaf k x)) : X.qlen (ps.drop j) = if k = 1 ∨ k = 2 then x.length + X.qlen (ps.drop (j + 1)) else 0 := by
  have hl : j < ps.length := by
    rcases Nat.lt_or_ge j ps.length with g | g
    · exact g
    · rw [List.getElem?_eq_none g] at h; cases h
  have hd : ps.drop j = .leaf k x :: ps.drop (j + 1) := by
    rw [List.drop_eq_getElem_cons hl]; congr 1
    exact Option.some.inj ((List.getElem?_eq_getElem hl).symm.trans h)
  rw [hd, X.qlen]
theorem ta_leaf (a b : Value) (w : World) : (Instr.typeAssert (.iface 130 (.agg #[a, b])) 106 130 true).run Tryz.prog w = .ok (.tuple #[.agg #[a, b], .bool true]) w := by kernel_rfl
set_option maxRecDepth 100000 in
set_option maxHeartbeats 1000000 in
theorem bquiet_any (w : World) (D : Nat → Prop) (N k : Nat) (ps : List X.Part) (h : IsP w D (.iface 54 (.pointer (some ⟨N, 0, none⟩))) (.br k ps)) (hj : ∀ p ∈ ps, X.lv p = true) (hl : (X.psb ps).length ≤ 1073741824) (hpl : ps.length ≤ 1073741824) :
    Calls Tryz.prog 55 #[.pointer (some ⟨N, 0, none⟩)] w fun e w' => e = .returned (.int .i64 (X.qlen ps)) ∧ Below w.heap.size w w' := by
  cases h with
  | br _ _ cap ao vs _ hN hb hc hr hp =>
  have HR := hide hr
  have HP := hide hp
  have HJ := hide hj
  have c0 := cell_of_row w _ 0 _ _ _ hb
  have c1 := cell_of_row w _ 1 _ _ _ hb
  have HB := hide hb
  have hcap := hc.1
  clear hr hp hb hc hj
  go_enter Tryz.func55, Tryz.ntmps55
  go_wp2_with fail
  go_loopw [3, 13] (fun a v wr => ∃ (j sm : Nat), a = .int .i64 sm ∧ v = .int .i64 j ∧ j ≤ ps.length ∧ Hid (X.qlen ps = sm + X.qlen (ps.drop j)) ∧ Hid (sm + (X.psb (ps.drop j)).length ≤ (X.psb ps).length) ∧ Hid (Below w.heap.size w wr)) (fun _ v _ => ps.length - (intOf v).toNat)
  case atStart => exact ⟨0, 0, rfl, rfl, Nat.zero_le _, (by show _ = _; simp), (by show _ ≤ _; simp), Below.refl _ _⟩
  case round =>
    obtain ⟨j, sm, rfl, rfl, hjl, HQ, HS, HBl⟩ := hrel
    by_cases hlt : j < ps.length
    case neg =>
      have i1 : decide (j < ps.length) = false := by simp; omega
      have i2 : decide ((j : Int) < (ps.length : Int)) = false := by simp; omega
      have HE : Hid (X.qlen ps = sm) := by
        show _ = _
        rw [HQ.out, List.drop_eq_nil_iff.2 (by omega)]; rfl
      go_wp2_with fail
      go_ret
      exact ⟨congrArg (fun z : Nat => Ending.returned (.int .i64 (z : Int))) HE.out.symm, HBl.out⟩
    have i1 : decide (j < ps.length) = true := by simp; omega
    have i2 : decide ((j : Int) < (ps.length : Int)) = true := by simp; omega
    have hpj : ps[j]? = some ps[j] := List.getElem?_eq_getElem hlt
    obtain ⟨kk, x, hlf⟩ : ∃ kk x, ps[j] = .leaf kk x := by
      have := (HJ.out) ps[j] (List.getElem_mem hlt)
      cases hq : ps[j] with
      | leaf kk x => exact ⟨kk, x, rfl⟩
      | miss m => rw [hq] at this; cases this
      | br a b => rw [hq] at this; cases this
    rw [hlf] at hpj
    have hv := ((HP.out) j _ hpj).ofLeaf
    have hst := qlen_step hpj
    have hps : (X.psb (ps.drop j)).length = x.length + (X.psb (ps.drop (j + 1))).length := by
      rw [List.drop_eq_getElem_cons hlt, hlf, X.psb, X.pb, List.length_append]
    have hsm := HS.out
    have hsm' : sm + x.length ≤ 1073741824 := by omega
    obtain ⟨g, rfl, hDg, hcell⟩ := (HR.out) j hlt
    rw [hv] at hcell
    have hka := Kp.ofBelow HBl.out (fun _ => False)
    have p0 := hka.cellv hcell id
    have hta := ta_leaf (.int .i64 kk) (.int .i64 x.length)
    have hi1 : (0 : Int) ≤ (j : Int) := Int.natCast_nonneg _
    have hi2 : (j : Int) < (ps.length : Int) := by omega
    have hkA : ∀ o : Obj, Below w.heap.size w (wr.alloc o) := fun o => (HBl.out).alloc (HBl.out).size _
    have HKA := hide hkA
    clear hka hcell hv hpj hkA
    by_cases hq : kk = 1 ∨ kk = 2
    · rw [if_pos hq] at hst
      have HN : Hid (X.qlen ps = (sm + x.length) + X.qlen (ps.drop (j + 1))) := by show _ = _; rw [HQ.out, hst]; omega
      have HS2 : Hid ((sm + x.length) + (X.psb (ps.drop (j + 1))).length ≤ (X.psb ps).length) := by show _ ≤ _; omega
      have i3 : decide ((kk : Int) = 1 ∨ (kk : Int) = 2) = true := by simp; omega
      clear hst hps hsm HS HQ
      go_wp2_with fail
      refine (isQuiet_any _ _).mono ?_
      rintro e w2 ⟨rfl, rfl⟩
      rw [i3]
      go_wp2_with fail
      exact ⟨⟨j + 1, sm + x.length, by go_num, by go_num, by omega, HN, HS2, (HKA.out) _⟩, by simp only [intOf]; omega⟩
    · rw [if_neg hq] at hst
      have HE : Hid (X.qlen ps = sm) := by show _ = _; rw [HQ.out, hst, Nat.add_zero]
      have i3 : decide ((kk : Int) = 1 ∨ (kk : Int) = 2) = false := by simp; omega
      clear hst hps hsm HS HQ
      go_wp2_with fail
      refine (isQuiet_any _ _).mono ?_
      rintro e w2 ⟨rfl, rfl⟩
      rw [i3]
      go_wp2_with fail
      go_ret
      exact ⟨congrArg (fun z : Nat => Ending.returned (.int .i64 (z : Int))) HE.out.symm, (HKA.out) _⟩
end Go.Proofs.YtkampoaceipngaaGreatDoor
/- Package tree: the tokens of a root's parts are counted. -/
namespace Go.Proofs.YtkampoaceipngaaGreatDoor
open Go.RowKit
open M

/-- A part of a root, as a value: a leaf, or a kid with the count of its tokens. -/
inductive IsK (w : World) (D : Nat → Prop) : Value → X.Part → Prop
  | leaf (k : Nat) (x : List UInt8) : IsK w D (.iface 130 (.agg #[.int .i64 k, .int .i64 x.length])) (.leaf k x)
  | kid (N n k : Nat) (qs : List X.Part) (hn : n = (X.pls qs).length) (h : IsP w D (.iface 54 (.pointer (some ⟨N, 0, none⟩))) (.br k qs)) : IsK w D (.iface 63 (.agg #[.pointer (some ⟨N, 0, none⟩), .int .i64 n])) (.br k qs)
theorem IsK.part {w : World} {D : Nat → Prop} {v : Value} {p : X.Part} (h : IsK w D v p) : IsP w D v p := by
  cases h with
  | leaf k x => exact .leaf k x
  | kid N n k qs hn h => exact .kid N n _ hn h
theorem ta_kid1 (a b : Value) (w : World) : (Instr.typeAssert (.iface 63 (.agg #[a, b])) 106 63 true).run Tryz.prog w = .ok (.tuple #[.agg #[a, b], .bool true]) w := by kernel_rfl
theorem ta_kid0 (a b : Value) (w : World) : (Instr.typeAssert (.iface 130 (.agg #[a, b])) 106 63 true).run Tryz.prog w = .ok (.tuple #[.agg #[.pointer none, .int .i64 0], .bool false]) w := by kernel_rfl
/-- Some parts of a root in a row. -/
structure IsKs (w : World) (D : Nat → Prop) (rv : Value) (ps : List X.Part) : Prop where
  ex : ∃ (ao : Option Addr) (cap : Nat) (vs : Nat → Value), rv = .slice ao ps.length cap ∧ ps.length ≤ cap ∧ cap ≤ maxLen ∧ (∀ i, i < ps.length → ∃ g o, ao = some ⟨g, o, none⟩ ∧ D g ∧ w.cell? ⟨g, o + i, none⟩ = some (vs i)) ∧ (∀ (i : Nat) (p : X.Part), ps[i]? = some p → IsK w D (vs i) p)
theorem pls_drop {ps : List X.Part} {j : Nat} (h : j < ps.length) : (X.pls (ps.drop j)).length = (X.pl ps[j]).length + (X.pls (ps.drop (j + 1))).length := by
  rw [List.drop_eq_getElem_cons h, X.pls, List.length_append]
set_option maxRecDepth 100000 in
set_option maxHeartbeats 1000000 in
theorem tokensOf_any (w : World) (D : Nat → Prop) (rv : Value) (ps : List X.Part) (h : IsKs w D rv ps) (hl : (X.pls ps).length ≤ 1073741824) (hpl : ps.length ≤ 1073741824) :
    Calls Tryz.prog 64 #[rv] w fun e w' => e = .returned (.int .i64 (X.pls ps).length) ∧ Below w.heap.size w w' := by
  obtain ⟨ao, cap, vs, rfl, hcap, hcm, hr, hp⟩ := h.ex
  have HR := hide hr
  have HP := hide hp
  clear hr hp h
  go_enter Tryz.func64, Tryz.ntmps64
  go_wp2_with fail
  go_loopw [3, 10] (fun a v wr => ∃ (j sm : Nat), a = .int .i64 sm ∧ v = .int .i64 j ∧ j ≤ ps.length ∧ Hid ((X.pls ps).length = sm + (X.pls (ps.drop j)).length) ∧ Hid (Below w.heap.size w wr)) (fun _ v _ => ps.length - (intOf v).toNat)
  case atStart => exact ⟨0, 0, rfl, rfl, Nat.zero_le _, (by show _ = _; simp), Below.refl _ _⟩
  case round =>
    obtain ⟨j, sm, rfl, rfl, hjl, HQ, HBl⟩ := hrel
    by_cases hlt : j < ps.length
    case neg =>
      have i1 : decide (j < ps.length) = false := by simp; omega
      have i2 : decide ((j : Int) < (ps.length : Int)) = false := by simp; omega
      have HE : Hid ((X.pls ps).length = sm) := by
        show _ = _
        rw [HQ.out, List.drop_eq_nil_iff.2 (by omega)]; rfl
      go_wp2_with fail
      go_ret
      exact ⟨congrArg (fun z : Nat => Ending.returned (.int .i64 (z : Int))) HE.out.symm, HBl.out⟩
    have i1 : decide (j < ps.length) = true := by simp; omega
    have i2 : decide ((j : Int) < (ps.length : Int)) = true := by simp; omega
    have hpj : ps[j]? = some ps[j] := List.getElem?_eq_getElem hlt
    have hst := pls_drop hlt
    have hq := HQ.out
    have hk := (HP.out) j _ hpj
    obtain ⟨g, o, rfl, hDg, hcell⟩ := (HR.out) j hlt
    have hka := Kp.ofBelow HBl.out (fun _ => False)
    have p0 := hka.cellv hcell id
    have hi1 : (0 : Int) ≤ (j : Int) := Int.natCast_nonneg _
    have hi2 : (j : Int) < (ps.length : Int) := by omega
    have hkA : ∀ o : Obj, Below w.heap.size w (wr.alloc o) := fun o => (HBl.out).alloc (HBl.out).size _
    have HKA := hide hkA
    clear hka hcell hpj hkA
    generalize hpe : ps[j] = pj at *
    generalize vs j = vj at *
    cases hk with
    | leaf k x =>
      have hta := ta_kid0 (.int .i64 k) (.int .i64 x.length)
      have e1 : (X.pl (.leaf k x)).length = 1 := rfl
      have HN : Hid ((X.pls ps).length = (sm + 1) + (X.pls (ps.drop (j + 1))).length) := by show _ = _; omega
      have hsm : sm + 1 ≤ 1073741824 := by omega
      clear hst hq HQ e1
      go_wp2_with fail
      exact ⟨⟨j + 1, sm + 1, by go_num, by go_num, by omega, HN, (HKA.out) _⟩, by simp only [intOf]; omega⟩
    | kid N n k qs hn h =>
      have hta := ta_kid1 (.pointer (some ⟨N, 0, none⟩)) (.int .i64 n)
      have e1 : (X.pl (.br k qs)).length = n := hn.symm
      have HN : Hid ((X.pls ps).length = (sm + n) + (X.pls (ps.drop (j + 1))).length) := by show _ = _; omega
      have hsm : sm + n ≤ 1073741824 := by omega
      clear hst hq HQ e1 hn h
      go_wp2_with fail
      exact ⟨⟨j + 1, sm + n, by go_num, by go_num, by omega, HN, (HKA.out) _⟩, by simp only [intOf]; omega⟩
set_option maxRecDepth 100000 in
set_option maxHeartbeats 300000 in
/-- The reader goes on behind so many tokens. -/
theorem tpass_any (rb n : Nat) (s : ByteArray) (L : List Tk) (tv : Value) (a dp : Nat) (w : World) (hS : TokS s L) (h : RdrT w rb s L tv a dp) (hn : a + n ≤ L.length) :
    Calls Tryz.prog 63 #[.pointer (some ⟨rb, 0, none⟩), .int .i64 n] w fun e w' => e = .returned (.tuple #[]) ∧ RdrT w' rb s L tv (a + n) dp ∧ On rb w w' := by
  have h1 := hS.size
  have h2 := hS.len
  have HH := hide h
  obtain ⟨⟨c0, c1, c2, c3, c4, c5, c6⟩, f0, f1, f2, f3, f4, f5, f6⟩ := h.raw.facts
  clear h
  go_enter Tryz.func63, Tryz.ntmps63
  go_wp2_with fail
  have e0 : (a : Int) + (n : Int) = ((a + n : Nat) : Int) := by omega
  rw [e0]
  clear e0
  refine (tlook_any rb s _ L tv (a + n) dp _ _ _ hS ((HH.out).raw.set2 ((a + n : Nat) : Int)) ((HH.out).row.keep (On.set (Kp.refl _ w) 2 _) (fun k hk => (HH.out).own k hk)) hn (HH.out).own).mono ?_
  rintro e' w2 ⟨rfl, r2, k2⟩
  go_wp2_with fail
  go_end0
  exact ⟨rfl, r2, On.to (On.set (Kp.refl _ w) 2 _) k2⟩
end Go.Proofs.YtkampoaceipngaaGreatDoor
/- What is wrong in a branch, as the program tells it. -/
namespace Go.Proofs.YtkampoaceipngaaGreatDoor
open Go.RowKit
open M
theorem IsNs.form {w : World} {base : Nat} {rv : Value} {ns : List X.Nt} (h : IsNs w base rv ns) : ∃ ao cap, rv = .slice ao ns.length cap ∧ ns.length ≤ cap ∧ (∀ j, j < ns.length → ∃ g, ao = some ⟨g, 0, none⟩) := by
  rcases h.2 with ⟨rfl, h0⟩ | ⟨g, cap, cur, rfl, hb, hg, hn, hm, hsz, ht⟩
  · exact ⟨none, 0, by rw [h0], by omega, fun j hj => by omega⟩
  · exact ⟨_, cap, rfl, hn, fun j _ => ⟨g, rfl⟩⟩
theorem nvs_cut (ns1 rest : List X.Nt) (n : X.Nt) : nvs (ns1 ++ n :: rest) = nvs ns1 ++ (nv n ++ nvs rest) := by
  rw [nvs_append]; congr 1
theorem nvs_set (ns1 rest : List X.Nt) (a b b' : Int) (c : Nat) : (nvs (ns1 ++ (a, b, c) :: rest)).set (ns1.length * 3 + 1) (.int .i64 b') = nvs (ns1 ++ (a, b', c) :: rest) := by
  rw [nvs_cut, nvs_cut, List.set_append_right _ _ (by rw [nvs_len]; omega), nvs_len]
  congr 1
  rw [show ns1.length * 3 + 1 - ns1.length * 3 = 1 by omega]
  rfl
/-- A note's end is put in later. -/
theorem IsNs.set {w : World} {base g n cap : Nat} {ns1 rest : List X.Nt} {a b : Int} {c : Nat} (h : IsNs w base (.slice (some ⟨g, 0, none⟩) n cap) (ns1 ++ (a, b, c) :: rest)) (b' : Int) :
    IsNs (w.setCell ⟨g, ns1.length * 3 + 1, none⟩ (.int .i64 b')) base (.slice (some ⟨g, 0, none⟩) n cap) (ns1 ++ (a, b', c) :: rest) ∧ (∃ u, w.cell? ⟨g, ns1.length * 3 + 1, none⟩ = some u) ∧ w.frozen? ⟨g, ns1.length * 3 + 1, none⟩ = false ∧ base ≤ g ∧ g < w.heap.size := by
  obtain ⟨hl, h2⟩ := h
  rcases h2 with ⟨e, -⟩ | ⟨g', cap', cur, e, hb, hg, hn, hm, hsz, ht⟩
  · cases e
  · injection e with e1 e2 e3
    obtain rfl : g = g' := by simpa using e1
    subst e2
    subst e3
    have hlen : (ns1 ++ (a, b', c) :: rest).length = (ns1 ++ (a, b, c) :: rest).length := by simp
    have hlt : ns1.length * 3 + 1 < (ns1 ++ (a, b, c) :: rest).length * 3 := by rw [List.length_append, List.length_cons]; omega
    have hcs : ns1.length * 3 + 1 < cur.size := by rw [hsz]; exact Nat.lt_of_lt_of_le hlt (Nat.mul_le_mul_right 3 hn)
    refine ⟨⟨by rw [nvs_len], .inr ⟨g, cap, cur.setIfInBounds (ns1.length * 3 + 1) (.int .i64 b'), by rw [hlen], hb, ?_, by rw [hlen]; exact hn, hm, by rw [Array.size_setIfInBounds, hsz], ?_⟩⟩, ?_, ?_, hb, heap_lt hg⟩
    · simp [World.setCell, Array.getElem?_modify, hg]
    · rw [hlen, Array.toList_setIfInBounds, List.take_set, ht, nvs_set]
    · exact ⟨cur[ns1.length * 3 + 1], by simp [World.cell?, hg, hcs]⟩
    · simp [World.frozen?, hg]
theorem keepUnder {w wr : World} {base b o : Nat} {v : Value} (hb : b < base) (hk : Below base w wr) (hc : w.cell? ⟨b, o, none⟩ = some v) : wr.cell? ⟨b, o, none⟩ = some v := (Kp.ofBelowB hk (S := fun q => base ≤ q) (fun _ h _ => h)).cellv hc (Nat.not_le.2 hb)
theorem pssz_take {ps : List X.Part} {j : Nat} {p : X.Part} (h : ps[j]? = some p) : X.pssz (ps.take j) + X.psz p ≤ X.pssz ps := by
  have hl : j < ps.length := by
    rcases Nat.lt_or_ge j ps.length with g | g
    · exact g
    · rw [List.getElem?_eq_none g] at h; cases h
  have hd : ps.drop j = p :: ps.drop (j + 1) := by
    rw [List.drop_eq_getElem_cons hl]; congr 1
    exact Option.some.inj ((List.getElem?_eq_getElem hl).symm.trans h)
  have e : X.pssz ps = X.pssz (ps.take j) + X.pssz (ps.drop j) := by rw [← X.pssz_append, List.take_append_drop]
  rw [e, hd, X.pssz]; omega
theorem take_step {ps : List X.Part} {j : Nat} {p : X.Part} (h : ps[j]? = some p) : ps.take (j + 1) = ps.take j ++ [p] := by rw [List.take_add_one, h]; rfl
theorem ntss_take {ps : List X.Part} {j : Nat} {p : X.Part} (h : ps[j]? = some p) (i : Nat) : X.ntss (ps.take (j + 1)) i = X.ntss (ps.take j) i ++ X.nts p (i + (X.psb (ps.take j)).length) := by
  rw [take_step h, X.ntss_append, X.ntss, X.ntss, List.append_nil]
theorem psb_take {ps : List X.Part} {j : Nat} {p : X.Part} (h : ps[j]? = some p) : (X.psb (ps.take (j + 1))).length = (X.psb (ps.take j)).length + (X.pb p).length := by
  rw [take_step h, X.psb_append, X.psb, X.psb, List.append_nil, List.length_append]
theorem psb_take_le {ps : List X.Part} {j : Nat} {p : X.Part} (h : ps[j]? = some p) : (X.psb (ps.take j)).length + (X.pb p).length ≤ (X.psb ps).length := by
  rw [← psb_take h]
  have e : X.psb ps = X.psb (ps.take (j + 1)) ++ X.psb (ps.drop (j + 1)) := by rw [← X.psb_append, List.take_append_drop]
  rw [e, List.length_append]; omega
theorem qlen_le : ∀ ps : List X.Part, X.qlen ps ≤ (X.psb ps).length
  | [] => by simp [X.qlen]
  | .leaf k x :: ps => by
    rw [X.qlen, X.psb, X.pb, List.length_append]
    have := qlen_le ps
    split <;> omega
  | .miss m :: ps => by simp [X.qlen]
  | .br k qs :: ps => by simp [X.qlen]
/-- The loop over a branch's parts. -/
structure InTl (w : World) (base : Nat) (ns1 : List X.Nt) (ps : List X.Part) (i j pos : Nat) (rvj : Value) (wr : World) : Prop where
  pos : pos = i + (X.psb (ps.take j)).length
  row : IsNs wr base rvj (ns1 ++ X.ntss (ps.take j) i)
  bel : Below base w wr
set_option maxRecDepth 100000 in
set_option maxHeartbeats 2000000 in
theorem btell_br (k : Nat) (ps : List X.Part) (hjk : k = 5 → X.Junky ps) (ih : ∀ (j : Nat) (p : X.Part), ps[j]? = some p → BTOk p) : BTOk (.br k ps) := by
  intro w D N base rv ns i h hD hns hb hi hn
  obtain ⟨i0, hi0, hz0, hz1, hz2⟩ := info_parts infoNote
  have HP0 := hide h
  rw [X.pb] at hi ⊢
  rw [X.psz] at hn
  have hpl := X.pssz_len ps
  cases h with
  | br _ _ cap ao vs _ hN hbk hc hr hp =>
  have hNb := hD N hN
  have HR := hide hr
  have HDisp : Hid (∀ j, j < ps.length → ∃ p, ps[j]? = some p ∧ ∃ ty x fid recv, vs j = .iface ty x ∧ (∀ W, (Go.method 323 ty x "amanuensis/tree.tell").run Tryz.prog W = .ok (fid, recv) W) ∧ (∀ args W, (callFunc fid args).run Tryz.prog W = .ok (.enter fid args) W) ∧
      ∀ (W : World) (rv : Value) (ns : List X.Nt) (i : Nat), Below base w W → IsNs W base rv ns → base ≤ W.heap.size → i + (X.pb p).length ≤ 1073741824 → ns.length + X.psz p ≤ 1073741823 → Calls Tryz.prog fid #[recv, rv, .int .i64 i] W fun e w' => ∃ rv', e = .returned (.tuple #[rv', .int .i64 ((i + (X.pb p).length : Nat) : Int)]) ∧ Hid (Told W base (ns ++ X.nts p i) rv' w')) := fun j hj => by
    have hpj : ps[j]? = some ps[j] := List.getElem?_eq_getElem hj
    exact ⟨_, hpj, tell_disp (hp j _ hpj) (ih j _ hpj) base hD⟩
  have c0 := cell_of_row w _ 0 _ _ _ hbk
  have c1 := cell_of_row w _ 1 _ _ _ hbk
  have HBk := hide hbk
  have HNS := hide hns
  have hcap := hc.1
  have HDg : Hid (∀ q, D q → q < base) := hD
  have hrow : ∀ j, j < ps.length → ∃ g, ao = some ⟨g, 0, none⟩ ∧ g < base ∧ w.cell? ⟨g, j, none⟩ = some (vs j) := fun j hj => by obtain ⟨g, e1, e2, e3⟩ := hr j hj; exact ⟨g, e1, hD g e2, e3⟩
  have HRow := hide hrow
  obtain ⟨aon, capn, hrv, hcn, -⟩ := hns.form
  clear hr hp hbk hc hD hrow ih hns HR HDg
  subst hrv
  have HEnd : Hid (X.ntss (ps.take ps.length) i = X.ntss ps i ∧ (X.psb (ps.take ps.length)).length = (X.psb ps).length) := by
    show _ ∧ _
    rw [List.take_length]; exact ⟨rfl, rfl⟩
  cases h5 : ((k : Int) == 5) with
  | false =>
    have e5 : ¬ k = 5 := by intro e; subst e; cases h5
    have HR5 : Hid (X.nts (.br k ps) i = X.ntss ps i) := by show _ = _; rw [X.nts, if_neg e5, List.nil_append]
    have HI0 : Hid (InTl w base ns ps i 0 i (.slice aon ns.length capn) w) := ⟨by simp [X.psb], by simpa [X.ntss] using HNS.out, Below.refl _ _⟩
    clear e5 hjk
    go_enter Tryz.func30, Tryz.ntmps30
    go_wp2_with fail
    go_loopw [1, 2, 31] (fun a b v wr => ∃ (j pos : Nat) (rvj : Value), a = rvj ∧ b = .int .i64 pos ∧ v = .int .i64 j ∧ j ≤ ps.length ∧ Hid (InTl w base ns ps i j pos rvj wr)) (fun _ _ v _ => ps.length - (intOf v).toNat)
    case atStart => exact ⟨0, i, _, rfl, rfl, rfl, Nat.zero_le _, HI0⟩
    case round =>
      clear HI0 c1
      obtain ⟨j, pos, rvj, rfl, rfl, rfl, hj, HI⟩ := hrel
      have c0r := keepUnder hNb (HI.out).bel c0
      by_cases hlt : j < ps.length
      case neg =>
        obtain rfl : j = ps.length := by omega
        have i1 : decide (ps.length < ps.length) = false := by simp
        have i2 : decide ((ps.length : Int) < (ps.length : Int)) = false := by simp
        have HF : Hid ((i + (X.psb ps).length = pos) ∧ Told w base (ns ++ X.nts (.br k ps) i) u1 wr) := by
          refine ⟨by rw [(HI.out).pos, (HEnd.out).2], ?_, (HI.out).bel⟩
          rw [HR5.out, ← (HEnd.out).1]; exact (HI.out).row
        clear c0
        go_wp2_with fail
        exact bodyPost_ret (v := .tuple #[u1, .int .i64 (pos : Int)]) (by simp [results, Tryz.results30, go_sem]) rfl ⟨u1, by rw [(HF.out).1], (HF.out).2⟩
      have i1 : decide (j < ps.length) = true := by simp; omega
      have i2 : decide ((j : Int) < (ps.length : Int)) = true := by simp; omega
      obtain ⟨p, hpj, ty, x, fid, recv, hvj, hm, hen, hcall⟩ := (HDisp.out) j hlt
      obtain ⟨g, rfl, hgb, hcell⟩ := (HRow.out) j hlt
      rw [hvj] at hcell
      have p0 := keepUnder hgb (HI.out).bel hcell
      have hi1 : (0 : Int) ≤ (j : Int) := Int.natCast_nonneg _
      have hi2 : (j : Int) < (ps.length : Int) := by omega
      have HCall : Hid (Calls Tryz.prog fid #[recv, u1, .int .i64 pos] wr fun e w' => ∃ rv', e = .returned (.tuple #[rv', .int .i64 ((pos + (X.pb p).length : Nat) : Int)]) ∧ Hid (Told wr base ((ns ++ X.ntss (ps.take j) i) ++ X.nts p pos) rv' w')) := by
        have h1 := psb_take_le hpj
        have h2 := pssz_take hpj
        have h3 := X.ntss_len (ps.take j) i
        have h4 := (HI.out).pos
        exact hcall wr u1 _ pos (HI.out).bel (HI.out).row (Nat.le_trans hb (HI.out).bel.size) (by omega) (by rw [List.length_append]; omega)
      have HPJ := hide hpj
      clear hcall hcell hpj c0
      go_wp2_with fail
      refine (HCall.out).mono ?_
      rintro e w2 ⟨rv2, rfl, H2⟩
      have HN : Hid (InTl w base ns ps i (j + 1) (pos + (X.pb p).length) rv2 w2) := by
        refine ⟨by rw [psb_take HPJ.out, (HI.out).pos]; omega, ?_, (HI.out).bel.trans ((H2.out).2)⟩
        rw [ntss_take HPJ.out, ← List.append_assoc, ← (HI.out).pos]; exact (H2.out).1
      clear HCall H2
      go_wp2_with fail
      exact ⟨⟨j + 1, pos + (X.pb p).length, rv2, rfl, rfl, by go_num, by omega, HN⟩, by simp only [intOf]; omega⟩
  | true =>
    have e5 : k = 5 := by have : (k : Int) = 5 := by simpa using h5
                          omega
    have hJ := hjk e5
    have HR5 : Hid (X.nts (.br k ps) i = [(((i + X.qlen ps : Nat) : Int), ((i + (X.psb ps).length : Nat) : Int), 3)] ++ X.ntss ps i) := by show _ = _; rw [X.nts, if_pos e5]
    have HQu := hide (bquiet_any w D N k ps HP0.out hJ.1 (by omega) (by omega))
    have hql : X.qlen ps ≤ (X.psb ps).length := qlen_le ps
    clear e5 hjk hJ
    go_enter Tryz.func30, Tryz.ntmps30
    go_wp2_with fail
    refine (HQu.out).mono ?_
    rintro e w1 ⟨rfl, k1⟩
    have HK1 := hide k1
    have HN1 : Hid (IsNs w1 base (.slice aon ns.length capn) ns) := (HNS.out).keep (Kp.ofBelow k1 (fun _ => False)) (fun _ h => h.elim)
    have hsz1 := k1.size
    clear k1 HQu
    have c0' := keepUnder hNb ((HK1.out).mono hb) c0
    have c1' := keepUnder hNb ((HK1.out).mono hb) c1
    have HC0 := hide c0
    have HC1 := hide c1
    clear c0 c1
    go_wp2_with (at_builtin; refine wpList_append_lies _ rfl _ _ 32 rfl base 50 i0 _ 3 24 Tryz.underlying32 hi0 hz0 hz1 hz2 rfl (by decide) (.slice aon ns.length capn) ns.length _ rfl ((HN1.out : w1.ownsRow _ _ _ _ _ _).alloc _) ⟨w1.heap.size, 0, none⟩ 1 1 (nv (((i : Int) + (X.qlen ps : Int)), 0, 3)) rfl rfl (World.news_of_block (cs := #[.int .i64 ((i : Int) + (X.qlen ps : Int)), .int .i64 0, .int .i64 3]) (heap_alloc_new w1 _)) (by simp [Value.oneCell', nv]) (by omega) (by unfold maxLen; omega) (by omega) (by simp; omega) (w1.heap.size + 1) (by simp) ?_; intro g0 cap5 w5 hown5 hgrow5 hat5 hlt5; have HO := hide hown5; have HB5 : Hid (Below base w w5) := (((HK1.out).mono hb).alloc (by omega) _).grown hgrow5 (by simp; omega) (fun q hq => (owns_ge HN1.out q hq).1); have d1 := keepUnder hNb HB5.out HC1.out; have d0 := keepUnder hNb HB5.out HC0.out; clear hown5 hgrow5)
    have HN5 : Hid (IsNs w5 base (.slice (some ⟨g0, 0, none⟩) (ns.length + 1) cap5) (ns ++ [(((i + X.qlen ps : Nat) : Int), 0, 3)])) := by
      show w5.ownsRow _ _ _ _ _ _
      rw [List.length_append, nvs_append, nvs_one, Int.natCast_add]; exact HO.out
    have HI0 : Hid (InTl w base (ns ++ [(((i + X.qlen ps : Nat) : Int), 0, 3)]) ps i 0 i (.slice (some ⟨g0, 0, none⟩) (ns.length + 1) cap5) w5) := ⟨by simp [X.psb], by simpa [X.ntss] using HN5.out, HB5.out⟩
    clear HO HN5 HB5 HN1 HK1 c0' c1'
    go_loopw [1, 2, 31] (fun a b v wr => ∃ (j pos : Nat) (rvj : Value), a = rvj ∧ b = .int .i64 pos ∧ v = .int .i64 j ∧ j ≤ ps.length ∧ Hid (InTl w base (ns ++ [(((i + X.qlen ps : Nat) : Int), 0, 3)]) ps i j pos rvj wr)) (fun _ _ v _ => ps.length - (intOf v).toNat)
    case atStart => exact ⟨0, i, _, rfl, rfl, rfl, Nat.zero_le _, HI0⟩
    case round =>
      clear HI0 d0 d1
      obtain ⟨j, pos, rvj, rfl, rfl, rfl, hj, HI⟩ := hrel
      have c0 := HC0.out
      have c0r := keepUnder hNb (HI.out).bel c0
      by_cases hlt : j < ps.length
      case neg =>
        obtain rfl : j = ps.length := by omega
        have i1 : decide (ps.length < ps.length) = false := by simp
        have i2 : decide ((ps.length : Int) < (ps.length : Int)) = false := by simp
        have hrow := (HI.out).row
        have hbel := (HI.out).bel
        have hpos := (HI.out).pos
        rw [(HEnd.out).1, List.append_assoc, List.singleton_append] at hrow
        rw [(HEnd.out).2] at hpos
        obtain ⟨ao', cap', hform, hcp, hgo⟩ := hrow.form
        obtain ⟨g, rfl⟩ := hgo 0 (by simp; omega)
        obtain ⟨n, hnn⟩ : ∃ n, (ns ++ (((i + X.qlen ps : Nat) : Int), (0 : Int), 3) :: X.ntss ps i).length = n := ⟨_, rfl⟩
        have hnl : ns.length < n := by rw [← hnn, List.length_append, List.length_cons]; omega
        rw [hnn] at hform hcp
        subst hform
        obtain ⟨hset, ⟨u, hcell⟩, hfz, hge, hgl⟩ := hrow.set (pos : Int)
        have HF : Hid (Told w base (ns ++ X.nts (.br k ps) i) (.slice (some ⟨g, 0, none⟩) n cap') (wr.setCell ⟨g, ns.length * 3 + 1, none⟩ (.int .i64 (pos : Int)))) := by
          refine ⟨?_, hbel.trans (Kp.below (On.set (Kp.refl (fun q => q = g) wr) _ _) (Nat.le_trans hb hbel.size) (fun q e => by omega))⟩
          rw [HR5.out, List.singleton_append, ← hpos]; exact hset
        have HPos : Hid (i + (X.psb ps).length = pos) := hpos.symm
        have hi3 : (0 : Int) ≤ (ns.length : Int) := Int.natCast_nonneg _
        have hi4 : (ns.length : Int) < (n : Int) := by omega
        clear hrow hset hbel hpos hnn HI c0
        go_wp2_with fail
        exact bodyPost_ret (v := .tuple #[.slice (some ⟨g, 0, none⟩) n cap', .int .i64 (pos : Int)]) (by simp [results, Tryz.results30, go_sem]) rfl ⟨_, by rw [HPos.out], HF⟩
      have i1 : decide (j < ps.length) = true := by simp; omega
      have i2 : decide ((j : Int) < (ps.length : Int)) = true := by simp; omega
      obtain ⟨p, hpj, ty, x, fid, recv, hvj, hm, hen, hcall⟩ := (HDisp.out) j hlt
      obtain ⟨g, rfl, hgb, hcell⟩ := (HRow.out) j hlt
      rw [hvj] at hcell
      have p0 := keepUnder hgb (HI.out).bel hcell
      have hi1 : (0 : Int) ≤ (j : Int) := Int.natCast_nonneg _
      have hi2 : (j : Int) < (ps.length : Int) := by omega
      have HCall : Hid (Calls Tryz.prog fid #[recv, u1, .int .i64 pos] wr fun e w' => ∃ rv', e = .returned (.tuple #[rv', .int .i64 ((pos + (X.pb p).length : Nat) : Int)]) ∧ Hid (Told wr base (((ns ++ [(((i + X.qlen ps : Nat) : Int), 0, 3)]) ++ X.ntss (ps.take j) i) ++ X.nts p pos) rv' w')) := by
        have h1 := psb_take_le hpj
        have h2 := pssz_take hpj
        have h3 := X.ntss_len (ps.take j) i
        have h4 := (HI.out).pos
        exact hcall wr u1 _ pos (HI.out).bel (HI.out).row (Nat.le_trans hb (HI.out).bel.size) (by omega) (by rw [List.length_append, List.length_append, List.length_singleton]; omega)
      have HPJ := hide hpj
      clear hcall hcell hpj c0
      go_wp2_with fail
      refine (HCall.out).mono ?_
      rintro e w2 ⟨rv2, rfl, H2⟩
      have HN : Hid (InTl w base (ns ++ [(((i + X.qlen ps : Nat) : Int), 0, 3)]) ps i (j + 1) (pos + (X.pb p).length) rv2 w2) := by
        refine ⟨by rw [psb_take HPJ.out, (HI.out).pos]; omega, ?_, (HI.out).bel.trans ((H2.out).2)⟩
        rw [ntss_take HPJ.out, ← List.append_assoc, ← (HI.out).pos]; exact (H2.out).1
      clear HCall H2
      go_wp2_with fail
      exact ⟨⟨j + 1, pos + (X.pb p).length, rv2, rfl, rfl, by go_num, by omega, HN⟩, by simp only [intOf]; omega⟩
theorem btell_any : ∀ (n : Nat) (p : X.Part), X.psz p ≤ n → X.jok p → BTOk p := by
  intro n
  induction n with
  | zero => intro p h; have := X.psz_pos p; omega
  | succ n ih =>
    intro p hn hj
    cases p with
    | leaf k x => intro w D N base rv ns i h; cases h
    | miss m => intro w D N base rv ns i h; cases h
    | br k ps =>
      rw [X.psz] at hn
      rw [X.jok] at hj
      exact btell_br k ps hj.1.2 (fun j p hp => by
        have := X.pssz_mem ps j p hp
        exact ih p (by omega) (X.joks_mem ps j p hj.2 hp))
end Go.Proofs.YtkampoaceipngaaGreatDoor
