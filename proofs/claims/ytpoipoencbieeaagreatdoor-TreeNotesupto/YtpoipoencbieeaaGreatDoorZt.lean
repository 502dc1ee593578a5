/- What is wrong in a part, as the program tells it. -/
import Derived.Test.YtpoipoencbieeaaGreatDoorZr
namespace Go.Proofs.YtpoipoencbieeaaGreatDoor
open Go.RowKit
open M
/-- Notes as they lie in memory. -/
def nv (n : X.Nt) : List Value := [.int .i64 n.1, .int .i64 n.2.1, .int .i64 n.2.2]
def nvs (ns : List X.Nt) : List Value := ns.flatMap nv
theorem nvs_append (a b : List X.Nt) : nvs (a ++ b) = nvs a ++ nvs b := List.flatMap_append
theorem nvs_one (n : X.Nt) : nvs [n] = nv n := by unfold nvs; simp
theorem nvs_len (ns : List X.Nt) : (nvs ns).length = ns.length * 3 := by
  induction ns with
  | nil => rfl
  | cons n ns ih =>
    have : nvs (n :: ns) = nv n ++ nvs ns := by unfold nvs; rw [List.flatMap_cons]
    rw [this, List.length_append, ih, List.length_cons]; simp [nv]; omega
namespace X
mutual
theorem nts_len : ∀ (p : Part) (i : Nat), (nts p i).length ≤ psz p
  | .leaf k x, i => by rw [nts, psz]; split <;> simp
  | .miss m, i => by rw [nts, psz]; simp
  | .br k ps, i => by
    rw [nts, psz, List.length_append]
    have := ntss_len ps i
    split <;> simp <;> omega
theorem ntss_len : ∀ (ps : List Part) (i : Nat), (ntss ps i).length ≤ pssz ps
  | [], i => by rw [ntss, pssz]; simp
  | p :: ps, i => by
    rw [ntss, pssz, List.length_append]
    have := nts_len p i
    have := ntss_len ps (i + (pb p).length)
    omega
end
end X
theorem infoNote : (Tryz.prog.info? 50).map (fun i => (i.zero, i.size, i.bytes)) = some (some (.agg #[.int .i64 0, .int .i64 0, .int .i64 0]), 3, 24) := by kernel_rfl
/-- A row of notes, in blocks from base on. -/
def IsNs (w : World) (base : Nat) (rv : Value) (ns : List X.Nt) : Prop := w.ownsRow base 50 3 rv ns.length (nvs ns)
theorem IsNs.keep {S : Nat → Prop} {w w' : World} {base : Nat} {rv : Value} {ns : List X.Nt} (h : IsNs w base rv ns) (hk : Kp S w w') (hS : ∀ q, S q → q < base) : IsNs w' base rv ns := hk.owns h (fun g hg hs => by have := (owns_ge h g hg).1; have := hS g hs; omega)
/-- What telling has come to. -/
def Told (w : World) (base : Nat) (ns : List X.Nt) (rv' : Value) (w' : World) : Prop := IsNs w' base rv' ns ∧ Below base w w'
set_option maxRecDepth 100000 in
set_option maxHeartbeats 1000000 in
theorem ltell_any (k : Nat) (x : List UInt8) (base : Nat) (rv : Value) (ns : List X.Nt) (i : Nat) (w : World) (h : IsNs w base rv ns) (hb : base ≤ w.heap.size) (hi : i + x.length ≤ 1073741824) (hn : ns.length ≤ 1073741823) :
    Calls Tryz.prog 161 #[.agg #[.int .i64 k, .int .i64 x.length], rv, .int .i64 i] w fun e w' => ∃ rv', e = .returned (.tuple #[rv', .int .i64 ((i + x.length : Nat) : Int)]) ∧ Hid (Told w base (ns ++ X.nts (.leaf k x) i) rv' w') := by
  obtain ⟨i0, hi0, hz0, hz1, hz2⟩ := info_parts infoNote
  have HI := hide h
  clear h
  have kA : ∀ o : Obj, Below base w (w.alloc o) := fun o => (Below.refl _ w).alloc hb _
  have HKA := hide kA
  clear kA
  cases h8 : ((k : Int) == 8) with
  | false =>
    have e8 : ¬ k = 8 := by intro e; subst e; cases h8
    have HR : Hid (X.nts (.leaf k x) i = []) := by show _ = _; rw [X.nts, if_neg e8]
    go_enter Tryz.func161, Tryz.ntmps161
    go_wp2_with fail
    exact bodyPost_ret (v := .tuple #[rv, .int .i64 ((i : Int) + (x.length : Int))]) (by simp [results, Tryz.results161, go_sem]) rfl ⟨rv, by rw [Int.natCast_add], by rw [HR.out, List.append_nil]; exact ⟨(HI.out).keep (Kp.alloc (Kp.refl (fun _ => False) w) _) (fun _ h => h.elim), (HKA.out) _⟩⟩
  | true =>
    have e8 : k = 8 := by have : (k : Int) = 8 := by simpa using h8
                          omega
    have HR : Hid (X.nts (.leaf k x) i = [((i : Int), ((i + x.length : Nat) : Int), 3)]) := by show _ = _; rw [X.nts, if_pos e8]
    clear e8
    go_enter Tryz.func161, Tryz.ntmps161
    go_wp2_with (at_builtin; refine wpList_append_lies _ rfl _ _ 32 rfl base 50 i0 _ 3 24 Tryz.underlying32 hi0 hz0 hz1 hz2 rfl (by decide) rv ns.length _ rfl (((HI.out : w.ownsRow _ _ _ _ _ _).alloc _).alloc _) ⟨w.heap.size + 1, 0, none⟩ 1 1 (nv ((i : Int), ((i : Int) + (x.length : Int)), 3)) rfl rfl (World.news_of_block (cs := #[.int .i64 i, .int .i64 ((i : Int) + (x.length : Int)), .int .i64 3]) (new_at (w.alloc _) _ (World.size_alloc w _))) (by simp [Value.oneCell', nv]) (by omega) (by unfold maxLen; omega) (by omega) (by simp; omega) (w.heap.size + 2) (by simp) ?_; intro g cap5 w5 hown5 hgrow5 hat5 hlt5; have HO := hide hown5; have HGr := hide hgrow5; clear hown5 hgrow5)
    refine bodyPost_ret (v := .tuple #[.slice (some ⟨g, 0, none⟩) (ns.length + 1) cap5, .int .i64 ((i : Int) + (x.length : Int))]) (by simp [results, Tryz.results161, go_sem]) rfl ⟨_, by rw [Int.natCast_add], ?_⟩
    rw [HR.out]
    refine ⟨?_, ?_⟩
    · show w5.ownsRow _ _ _ _ _ _
      rw [List.length_append, nvs_append, nvs_one, Int.natCast_add]; exact HO.out
    · have k1 : Below base w ((w.alloc (.cells #[.int .i64 k, .int .i64 x.length] 130)).alloc (.cells #[.int .i64 i, .int .i64 ((i : Int) + (x.length : Int)), .int .i64 3] 50)) := ((Below.refl _ w).alloc hb _).alloc (by simp; omega) _
      exact k1.grown HGr.out (by simp; omega) (fun q hq => (owns_ge HI.out q hq).1)
set_option maxRecDepth 100000 in
set_option maxHeartbeats 1000000 in
theorem mtell_any (m : List UInt8) (base : Nat) (rv : Value) (ns : List X.Nt) (i : Nat) (w : World) (h : IsNs w base rv ns) (hb : base ≤ w.heap.size) (hn : ns.length ≤ 1073741823) :
    Calls Tryz.prog 177 #[.string (ba m), rv, .int .i64 i] w fun e w' => ∃ rv', e = .returned (.tuple #[rv', .int .i64 (i : Int)]) ∧ Hid (Told w base (ns ++ X.nts (.miss m) i) rv' w') := by
  obtain ⟨i0, hi0, hz0, hz1, hz2⟩ := info_parts infoNote
  have HI := hide h
  clear h
  have HR : Hid (X.nts (.miss m) i = [((i : Int), (i : Int), 9)]) := by show _ = _; rw [X.nts]
  go_enter Tryz.func177, Tryz.ntmps177
  go_wp2_with (at_builtin; refine wpList_append_lies _ rfl _ _ 32 rfl base 50 i0 _ 3 24 Tryz.underlying32 hi0 hz0 hz1 hz2 rfl (by decide) rv ns.length _ rfl ((HI.out : w.ownsRow _ _ _ _ _ _).alloc _) ⟨w.heap.size, 0, none⟩ 1 1 (nv ((i : Int), (i : Int), 9)) rfl rfl (World.news_of_block (cs := #[.int .i64 i, .int .i64 i, .int .i64 9]) (heap_alloc_new w _)) (by simp [Value.oneCell', nv]) (by omega) (by unfold maxLen; omega) (by omega) (by simp; omega) (w.heap.size + 1) (by simp) ?_; intro g cap5 w5 hown5 hgrow5 hat5 hlt5; have HO := hide hown5; have HGr := hide hgrow5; clear hown5 hgrow5)
  refine bodyPost_ret (v := .tuple #[.slice (some ⟨g, 0, none⟩) (ns.length + 1) cap5, .int .i64 (i : Int)]) (by simp [results, Tryz.results177, go_sem]) rfl ⟨_, rfl, ?_⟩
  rw [HR.out]
  refine ⟨?_, ?_⟩
  · show w5.ownsRow _ _ _ _ _ _
    rw [List.length_append, nvs_append, nvs_one]; exact HO.out
  · have k1 : Below base w (w.alloc (.cells #[.int .i64 i, .int .i64 i, .int .i64 9] 50)) := (Below.refl _ w).alloc hb _
    exact k1.grown HGr.out (by simp; omega) (fun q hq => (owns_ge HI.out q hq).1)
/-- What branch.tell does of a part. -/
def BTOk (p : X.Part) : Prop := ∀ (w : World) (D : Nat → Prop) (N base : Nat) (rv : Value) (ns : List X.Nt) (i : Nat), IsP w D (.iface 54 (.pointer (some ⟨N, 0, none⟩))) p → (∀ q, D q → q < base) → IsNs w base rv ns → base ≤ w.heap.size → i + (X.pb p).length ≤ 1073741824 → ns.length + X.psz p ≤ 1073741823 →
  Calls Tryz.prog 30 #[.pointer (some ⟨N, 0, none⟩), rv, .int .i64 i] w fun e w' => ∃ rv', e = .returned (.tuple #[rv', .int .i64 ((i + (X.pb p).length : Nat) : Int)]) ∧ Hid (Told w base (ns ++ X.nts p i) rv' w')
theorem mt_leaf (a b : Value) (w : World) : (Go.method 323 130 (.agg #[a, b]) "amanuensis/tree.tell").run Tryz.prog w = .ok (161, .agg #[a, b]) w := by kernel_rfl
theorem mt_miss (m : ByteArray) (w : World) : (Go.method 323 177 (.string m) "amanuensis/tree.tell").run Tryz.prog w = .ok (177, .string m) w := by kernel_rfl
theorem mt_br (p : Option Addr) (w : World) : (Go.method 323 54 (.pointer p) "amanuensis/tree.tell").run Tryz.prog w = .ok (30, .pointer p) w := by kernel_rfl
theorem mt_kid (p : Option Addr) (n : Value) (w : World) : (Go.method 323 63 (.agg #[.pointer p, n]) "amanuensis/tree.tell").run Tryz.prog w = .ok (30, .pointer p) w := by kernel_rfl
theorem en_ltell : ∀ args w, (callFunc 161 args).run Tryz.prog w = .ok (.enter 161 args) w := enters_of Tryz.func161 (by kernel_rfl) rfl
theorem en_mtell : ∀ args w, (callFunc 177 args).run Tryz.prog w = .ok (.enter 177 args) w := enters_of Tryz.func177 (by kernel_rfl) rfl
theorem en_btell : ∀ args w, (callFunc 30 args).run Tryz.prog w = .ok (.enter 30 args) w := enters_of Tryz.func30 (by kernel_rfl) rfl
/-- Whatever a part is, its tell is found and tells. -/
theorem tell_disp {w : World} {D : Nat → Prop} {v : Value} {p : X.Part} (h : IsP w D v p) (hB : BTOk p) (base : Nat) (hD : ∀ q, D q → q < base) :
    ∃ ty x fid recv, v = .iface ty x ∧ (∀ W, (Go.method 323 ty x "amanuensis/tree.tell").run Tryz.prog W = .ok (fid, recv) W) ∧ (∀ args W, (callFunc fid args).run Tryz.prog W = .ok (.enter fid args) W) ∧
      ∀ (W : World) (rv : Value) (ns : List X.Nt) (i : Nat), Below base w W → IsNs W base rv ns → base ≤ W.heap.size → i + (X.pb p).length ≤ 1073741824 → ns.length + X.psz p ≤ 1073741823 → Calls Tryz.prog fid #[recv, rv, .int .i64 i] W fun e w' => ∃ rv', e = .returned (.tuple #[rv', .int .i64 ((i + (X.pb p).length : Nat) : Int)]) ∧ Hid (Told W base (ns ++ X.nts p i) rv' w') := by
  have keep : ∀ {W : World} {v : Value} {p : X.Part}, Below base w W → IsP w D v p → IsP W D v p := fun hk h => h.keep (Kp.ofBelowB hk (S := fun q => base ≤ q) (fun _ h _ => h)) (fun q hq e => by have := hD q hq; omega)
  cases h with
  | leaf k x =>
    refine ⟨_, _, _, _, rfl, fun W => mt_leaf _ _ W, en_ltell, fun W rv ns i _ h1 h2 h3 h4 => ?_⟩
    rw [X.pb] at h3 ⊢
    exact ltell_any k x base rv ns i W h1 h2 h3 (by omega)
  | miss m =>
    refine ⟨_, _, _, _, rfl, fun W => mt_miss _ W, en_mtell, fun W rv ns i _ h1 h2 h3 h4 => ?_⟩
    rw [X.pb]
    exact mtell_any m base rv ns i W h1 h2 (by omega)
  | br k N cap ao vs ps hN hb hc hr hp =>
    refine ⟨_, _, _, _, rfl, fun W => mt_br _ W, en_btell, fun W rv ns i hk h1 h2 h3 h4 => ?_⟩
    exact hB W D N base rv ns i (keep hk (IsP.br k N cap ao vs ps hN hb hc hr hp)) hD h1 h2 h3 h4
  | kid N n q hq =>
    refine ⟨_, _, _, _, rfl, fun W => mt_kid _ _ W, en_btell, fun W rv ns i hk h1 h2 h3 h4 => ?_⟩
    exact hB W D N base rv ns i (keep hk hq) hD h1 h2 h3 h4
/-- A leaf's value. -/
theorem IsP.ofLeaf {w : World} {D : Nat → Prop} {v : Value} {k : Nat} {x : List UInt8} (h : IsP w D v (.leaf k x)) : v = .iface 130 (.agg #[.int .i64 k, .int .i64 x.length]) := by
  cases h with
  | leaf => rfl
  | kid N n q hq => cases hq
theorem qlen_step {ps : List X.Part} {j : Nat} {k : Nat} {x : List UInt8} (h : ps[j]? = some (.leaf k x)) : X.qlen (ps.drop j) = if k = 1 ∨ k = 2 then x.length + X.qlen (ps.drop (j + 1)) else 0 := by
  have hl : j < ps.length := by
    rcases Nat.lt_or_ge j ps.length with g | g
    · exact g
    · rw [List.getElem?_eq_none g] at h; cases h
  have hd : ps.drop j = .leaf k x :: ps.drop (j + 1) := by
    rw [List.drop_eq_getElem_cons hl]; congr 1
    exact Option.some.inj ((List.getElem?_eq_getElem hl).symm.trans h)
  rw [hd, X.qlen]
theorem ta_leaf (a b : Value) (w : World) : (Instr.typeAssert (.iface 130 (.agg #[a, b])) 106 130 true).run Tryz.prog w = .ok (.tuple #[.agg #[a, b], .bool true]) w := by kernel_rfl
set_option maxRecDepth 100000 in
set_option maxHeartbeats 1000000 in
theorem bquiet_any (w : World) (D : Nat → Prop) (N k : Nat) (ps : List X.Part) (h : IsP w D (.iface 54 (.pointer (some ⟨N, 0, none⟩))) (.br k ps)) (hj : ∀ p ∈ ps, X.lv p = true) (hl : (X.psb ps).length ≤ 1073741824) (hpl : ps.length ≤ 1073741824) :
    Calls Tryz.prog 55 #[.pointer (some ⟨N, 0, none⟩)] w fun e w' => e = .returned (.int .i64 (X.qlen ps)) ∧ Below w.heap.size w w' := by
  cases h with
  | br _ _ cap ao vs _ hN hb hc hr hp =>
  have HR := hide hr
  have HP := hide hp
  have HJ := hide hj
  have c0 := cell_of_row w _ 0 _ _ _ hb
  have c1 := cell_of_row w _ 1 _ _ _ hb
  have HB := hide hb
  have hcap := hc.1
  clear hr hp hb hc hj
  go_enter Tryz.func55, Tryz.ntmps55
  go_wp2_with fail
  go_loopw [3, 13] (fun a v wr => ∃ (j sm : Nat), a = .int .i64 sm ∧ v = .int .i64 j ∧ j ≤ ps.length ∧ Hid (X.qlen ps = sm + X.qlen (ps.drop j)) ∧ Hid (sm + (X.psb (ps.drop j)).length ≤ (X.psb ps).length) ∧ Hid (Below w.heap.size w wr)) (fun _ v _ => ps.length - (intOf v).toNat)
  case atStart => exact ⟨0, 0, rfl, rfl, Nat.zero_le _, (by show _ = _; simp), (by show _ ≤ _; simp), Below.refl _ _⟩
  case round =>
    obtain ⟨j, sm, rfl, rfl, hjl, HQ, HS, HBl⟩ := hrel
    by_cases hlt : j < ps.length
    case neg =>
      have i1 : decide (j < ps.length) = false := by simp; omega
      have i2 : decide ((j : Int) < (ps.length : Int)) = false := by simp; omega
      have HE : Hid (X.qlen ps = sm) := by
        show _ = _
        rw [HQ.out, List.drop_eq_nil_iff.2 (by omega)]; rfl
      go_wp2_with fail
      go_ret
      exact ⟨congrArg (fun z : Nat => Ending.returned (.int .i64 (z : Int))) HE.out.symm, HBl.out⟩
    have i1 : decide (j < ps.length) = true := by simp; omega
    have i2 : decide ((j : Int) < (ps.length : Int)) = true := by simp; omega
    have hpj : ps[j]? = some ps[j] := List.getElem?_eq_getElem hlt
    obtain ⟨kk, x, hlf⟩ : ∃ kk x, ps[j] = .leaf kk x := by
      have := (HJ.out) ps[j] (List.getElem_mem hlt)
      cases hq : ps[j] with
      | leaf kk x => exact ⟨kk, x, rfl⟩
      | miss m => rw [hq] at this; cases this
      | br a b => rw [hq] at this; cases this
    rw [hlf] at hpj
    have hv := ((HP.out) j _ hpj).ofLeaf
    have hst := qlen_step hpj
    have hps : (X.psb (ps.drop j)).length = x.length + (X.psb (ps.drop (j + 1))).length := by
      rw [List.drop_eq_getElem_cons hlt, hlf, X.psb, X.pb, List.length_append]
    have hsm := HS.out
    have hsm' : sm + x.length ≤ 1073741824 := by omega
    obtain ⟨g, rfl, hDg, hcell⟩ := (HR.out) j hlt
    rw [hv] at hcell
    have hka := Kp.ofBelow HBl.out (fun _ => False)
    have p0 := hka.cellv hcell id
    have hta := ta_leaf (.int .i64 kk) (.int .i64 x.length)
    have hi1 : (0 : Int) ≤ (j : Int) := Int.natCast_nonneg _
    have hi2 : (j : Int) < (ps.length : Int) := by omega
    have hkA : ∀ o : Obj, Below w.heap.size w (wr.alloc o) := fun o => (HBl.out).alloc (HBl.out).size _
    have HKA := hide hkA
    clear hka hcell hv hpj hkA
    by_cases hq : kk = 1 ∨ kk = 2
    · rw [if_pos hq] at hst
      have HN : Hid (X.qlen ps = (sm + x.length) + X.qlen (ps.drop (j + 1))) := by show _ = _; rw [HQ.out, hst]; omega
      have HS2 : Hid ((sm + x.length) + (X.psb (ps.drop (j + 1))).length ≤ (X.psb ps).length) := by show _ ≤ _; omega
      have i3 : decide ((kk : Int) = 1 ∨ (kk : Int) = 2) = true := by simp; omega
      clear hst hps hsm HS HQ
      go_wp2_with fail
      refine (isQuiet_any _ _).mono ?_
      rintro e w2 ⟨rfl, rfl⟩
      rw [i3]
      go_wp2_with fail
      exact ⟨⟨j + 1, sm + x.length, by go_num, by go_num, by omega, HN, HS2, (HKA.out) _⟩, by simp only [intOf]; omega⟩
    · rw [if_neg hq] at hst
      have HE : Hid (X.qlen ps = sm) := by show _ = _; rw [HQ.out, hst, Nat.add_zero]
      have i3 : decide ((kk : Int) = 1 ∨ (kk : Int) = 2) = false := by simp; omega
      clear hst hps hsm HS HQ
      go_wp2_with fail
      refine (isQuiet_any _ _).mono ?_
      rintro e w2 ⟨rfl, rfl⟩
      rw [i3]
      go_wp2_with fail
      go_ret
      exact ⟨congrArg (fun z : Nat => Ending.returned (.int .i64 (z : Int))) HE.out.symm, (HKA.out) _⟩
end Go.Proofs.YtpoipoencbieeaaGreatDoor
