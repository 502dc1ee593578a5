/- Package scope: the names in an expression: kinds that name nothing themselves. -/
import Derived.Test.YtgjbafamiggafaaGreatDoorJl
import Derived.Test.YtgjbafamiggafaaGreatDoorWzw
namespace Go.Proofs.YtgjbafamiggafaaGreatDoor
open Go.RowKit
open M
namespace X
theorem exUs_app (f : Nat) (top : List UInt8 → An) (sc : List (List Nm)) : ∀ a b : List Ex, exUs f top sc (a ++ b) = exUs f top sc a ++ exUs f top sc b
  | [], b => by rw [List.nil_append, exUs, List.nil_append]
  | e :: a, b => by rw [List.cons_append, exUs, exUs, exUs_app f top sc a b, List.append_assoc]
theorem exUs_snoc {f : Nat} {top : List UInt8 → An} {sc : List (List Nm)} {es : List Ex} {j : Nat} {e : Ex} (h : es[j]? = some e) : exUs f top sc (es.take (j + 1)) = exUs f top sc (es.take j) ++ exU f top sc e := by
  rw [take_snoc h, exUs_app, exUs, exUs, List.append_nil]
theorem exUs_take (f : Nat) (top : List UInt8 → An) (sc : List (List Nm)) (es : List Ex) (j : Nat) : (exUs f top sc (es.take j)).length ≤ (exUs f top sc es).length := by
  have := exUs_app f top sc (es.take j) (es.drop j)
  rw [List.take_append_drop] at this
  rw [this, List.length_append]; omega
end X
/-- Where the parts of an expression are gone through. -/
structure InE (w w0 : World) (L : Lay) (fs : List X.Fl) (us : List X.U) (lo hi : Nat) (es : List X.Ex) (ao : Option Addr) (vs : Nat → Value) (bv : Value) (sc : List (List X.Nm)) (j : Nat) (wr : World) : Prop where
  tld : Tld w0 L fs (us ++ X.exUs L.tf (X.topA fs L.tf) sc (es.take j)) w wr
  row : ∀ k, k < es.length → ∃ g cs d, ao = some ⟨g, 0, none⟩ ∧ w0.heap.size ≤ g ∧ wr.heap[g]? = some (.cells cs 152 d) ∧ wr.cell? ⟨g, k, none⟩ = some (vs k)
  each : ∀ (k : Nat) (e : X.Ex), es[k]? = some e → IsE wr lo hi (vs k) e
  bk : IsBk wr w0.heap.size bv sc
variable {w0 : World} {L : Lay} {fs : List X.Fl} {M : Mem} {us : List X.U} {w : World}
theorem InE.start {lo hi : Nat} {es : List X.Ex} {rv bv : Value} {sc : List (List X.Nm)} {w2 : World} (hp : Pts w w2 lo hi rv es) (h : Run w0 L fs M us w) (hM : MOk fs M) (hI : Idle M) (hbk : IsBk w w0.heap.size bv sc) :
    ∃ ao cap vs, rv = .slice ao es.length cap ∧ es.length ≤ cap ∧ cap ≤ maxLen ∧ InE w w0 L fs us lo hi es ao vs bv sc 0 w2 := by
  obtain ⟨ao, cap, vs, z1, z2, z3, z4, z5⟩ := hp.ex
  have hk := Kp.ofBelow hp.bl (fun _ => False)
  refine ⟨ao, cap, vs, z1, z2, z3, ⟨M, ?_, hM, hI, Kx.ofBelow hp.bl⟩, fun k hk' => ?_, fun k e he => (z5 k e he).keep hk (fun _ _ _ => id), hbk.blw hp.bl⟩
  · rw [List.take_zero, X.exUs, List.append_nil]; exact h.below hp.bl
  · obtain ⟨g, cs, d, y1, y2, y3, y4⟩ := z4 k hk'
    exact ⟨g, cs, d, y1, by have := h.size; omega, y3, y4⟩
theorem InE.step {lo hi : Nat} {es : List X.Ex} {ao : Option Addr} {vs : Nat → Value} {bv : Value} {sc : List (List X.Nm)} {j : Nat} {wr w2 : World} (h : InE w w0 L fs us lo hi es ao vs bv sc j wr) (hv : Av L fs.length w0.heap.size lo hi) {e : X.Ex} (he : es[j]? = some e) (ht : Tld w0 L fs ((us ++ X.exUs L.tf (X.topA fs L.tf) sc (es.take j)) ++ X.exU L.tf (X.topA fs L.tf) sc e) wr w2) : InE w w0 L fs us lo hi es ao vs bv sc (j + 1) w2 := by
  obtain ⟨M2, r2, m2, i2, x2⟩ := ht
  obtain ⟨M1, r1, m1, i1, x1⟩ := h.tld
  have hS := r2.st.lt
  refine ⟨⟨M2, by rw [X.exUs_snoc he, ← List.append_assoc]; exact r2, m2, i2, x1.trans x2⟩, fun k hk => ?_, fun k e' he' => (h.each k e' he').keep x2 (hv.sx wr), h.bk.keep x2 hS⟩
  obtain ⟨g, cs, d, y1, y2, y3, y4⟩ := h.row k hk
  have hg := x2.made hS y3 y2 (fun cs d e => by cases e)
  exact ⟨g, cs, d, y1, y2, hg, (World.cell?_of_block (w := wr) (a := ⟨g, k, none⟩) (hg.trans y3.symm)).trans y4⟩
/-- A kind that is no name, no let and no function, and the function that gives its parts. -/
structure Kd (ty : TypeId) (pf : FuncId) : Prop where
  av : ∀ b w, (Instr.typeAssert (.iface ty (.pointer (some ⟨b, 0, none⟩))) 152 231 true).run Tryz.prog w = .ok (.tuple #[.pointer none, .bool false]) w
  al : ∀ b w, (Instr.typeAssert (.iface ty (.pointer (some ⟨b, 0, none⟩))) 152 212 true).run Tryz.prog w = .ok (.tuple #[.pointer none, .bool false]) w
  af : ∀ b w, (Instr.typeAssert (.iface ty (.pointer (some ⟨b, 0, none⟩))) 152 219 true).run Tryz.prog w = .ok (.tuple #[.pointer none, .bool false]) w
  mt : ∀ b w, (method 396 ty (.pointer (some ⟨b, 0, none⟩)) "Parts").run Tryz.prog w = .ok (pf, .pointer (some ⟨b, 0, none⟩)) w
  cf : ∀ b w, (callFunc pf #[.pointer (some ⟨b, 0, none⟩)]).run Tryz.prog w = .ok (.enter pf #[.pointer (some ⟨b, 0, none⟩)]) w
theorem kdLiteral : Kd 236 187 := ⟨fun b w => by kernel_rfl, fun b w => by kernel_rfl, fun b w => by kernel_rfl, fun b w => by kernel_rfl, fun b w => by kernel_rfl⟩
theorem kdHole : Kd 234 186 := ⟨fun b w => by kernel_rfl, fun b w => by kernel_rfl, fun b w => by kernel_rfl, fun b w => by kernel_rfl, fun b w => by kernel_rfl⟩
theorem kdMissing : Kd 209 175 := ⟨fun b w => by kernel_rfl, fun b w => by kernel_rfl, fun b w => by kernel_rfl, fun b w => by kernel_rfl, fun b w => by kernel_rfl⟩
theorem kdIf : Kd 216 179 := ⟨fun b w => by kernel_rfl, fun b w => by kernel_rfl, fun b w => by kernel_rfl, fun b w => by kernel_rfl, fun b w => by kernel_rfl⟩
theorem kdBinary : Kd 221 181 := ⟨fun b w => by kernel_rfl, fun b w => by kernel_rfl, fun b w => by kernel_rfl, fun b w => by kernel_rfl, fun b w => by kernel_rfl⟩
theorem kdCall : Kd 223 182 := ⟨fun b w => by kernel_rfl, fun b w => by kernel_rfl, fun b w => by kernel_rfl, fun b w => by kernel_rfl, fun b w => by kernel_rfl⟩
theorem kdList : Kd 225 183 := ⟨fun b w => by kernel_rfl, fun b w => by kernel_rfl, fun b w => by kernel_rfl, fun b w => by kernel_rfl, fun b w => by kernel_rfl⟩
theorem kdGroup : Kd 228 184 := ⟨fun b w => by kernel_rfl, fun b w => by kernel_rfl, fun b w => by kernel_rfl, fun b w => by kernel_rfl, fun b w => by kernel_rfl⟩
set_option maxRecDepth 100000 in
set_option maxHeartbeats 4000000 in
theorem texpr_kd {ty : TypeId} {pf : FuncId} (hkd : Kd ty pf) (lo hi b : Nat) (es : List X.Ex) (sc : List (List X.Nm)) (bv : Value) (hv : Av L fs.length w0.heap.size lo hi) (hE : ∀ (j : Nat) (e : X.Ex), es[j]? = some e → TexOk w0 L fs lo hi e) (hP : Calls Tryz.prog pf #[.pointer (some ⟨b, 0, none⟩)] w fun e w' => ∃ rv, e = .returned rv ∧ Hid (Pts w w' lo hi rv es))
    (h : Run w0 L fs M us w) (hM : MOk fs M) (hId : Idle M) (hbk : IsBk w w0.heap.size bv sc) (hlim : us.length + (X.exUs L.tf (X.topA fs L.tf) sc es).length ≤ 1073741824) :
    Calls Tryz.prog 106 #[.pointer (some ⟨L.tb, 0, none⟩), .iface ty (.pointer (some ⟨b, 0, none⟩)), bv] w fun en w' => en = .returned (.tuple #[]) ∧ Hid (Tld w0 L fs (us ++ X.exUs L.tf (X.topA fs L.tf) sc es) w w') := by
  have av := hkd.av b
  have al := hkd.al b
  have af := hkd.af b
  have mt := hkd.mt b
  have cf := hkd.cf b
  have HP := hide hP
  have HE := hide hE
  have HV := hide hv
  have HI0 : Hid (∀ w2 rv, Pts w w2 lo hi rv es → ∃ ao cap vs, rv = .slice ao es.length cap ∧ es.length ≤ cap ∧ cap ≤ maxLen ∧ InE w w0 L fs us lo hi es ao vs bv sc 0 w2) := fun w2 rv hp => InE.start hp h hM hId hbk
  clear hP hE hv h hM hId hbk hkd
  go_enter Tryz.func106, Tryz.ntmps106
  go_wp2_with fail
  refine (HP.out).mono ?_
  rintro e w2 ⟨rv, rfl, X2⟩
  obtain ⟨ao, cap, vs, rfl, z2, z3, hI0⟩ := (HI0.out) w2 rv X2.out
  have HI1 := hide hI0
  clear X2 hI0 HI0 HP av al af mt cf
  have hcap : es.length ≤ 9223372036854775807 := by unfold maxLen at z3; omega
  go_wp2_with fail
  go_loopw [59] (fun v wr => ∃ j : Nat, v = .int .i64 j ∧ j ≤ es.length ∧ Hid (InE w w0 L fs us lo hi es ao vs bv sc j wr)) (fun v _ => es.length - (intOf v).toNat)
  case atStart => exact ⟨0, rfl, Nat.zero_le _, HI1⟩
  case round =>
    obtain ⟨j, rfl, hj, HI⟩ := hrel
    clear HI1
    by_cases hjl : j < es.length
    · obtain ⟨e, he⟩ : ∃ e, es[j]? = some e := ⟨es[j], List.getElem?_eq_getElem hjl⟩
      obtain ⟨g, cs, d, hao, y2, y3, y4⟩ := (HI.out).row j hjl
      subst hao
      have hi1 : (j : Int) < (es.length : Int) := by omega
      obtain ⟨M1, r1, m1, i1, x1⟩ := (HI.out).tld
      have HC := hide ((HE.out) j e he M1 _ wr (vs j) bv sc r1 m1 i1 ((HI.out).each j e he) (HI.out).bk (by
        have e2 := X.exUs_take L.tf (X.topA fs L.tf) sc es (j + 1)
        rw [X.exUs_snoc he, List.length_append] at e2
        rw [List.length_append]; omega))
      obtain ⟨yy, gg, hvs⟩ := ((HI.out).each j e he).iface
      rw [hvs] at y4 HC
      clear r1 m1 i1 x1 y3 hvs
      go_wp2_with fail
      refine (HC.out).mono ?_
      rintro en w3 ⟨rfl, X3⟩
      have HI3 := hide ((HI.out).step HV.out he X3.out)
      clear HC X3 HI y4
      go_wp2_with fail
      exact ⟨⟨j + 1, by simp, by omega, HI3⟩, by simp [intOf]; omega⟩
    · obtain rfl : j = es.length := by omega
      have hd1 : ¬ (es.length : Int) < (es.length : Int) := by omega
      have HF : Hid (Tld w0 L fs (us ++ X.exUs L.tf (X.topA fs L.tf) sc es) w wr) := by
        have := (HI.out).tld
        rw [List.take_length] at this
        exact this
      clear HI
      go_wp2_with fail
      go_end0
      exact ⟨rfl, HF⟩
end Go.Proofs.YtgjbafamiggafaaGreatDoor
/- Package scope: the names in any expression. -/
namespace Go.Proofs.YtgjbafamiggafaaGreatDoor
open Go.RowKit
open M
variable {w0 : World} {L : Lay} {fs : List X.Fl} {lo hi : Nat}
mutual
theorem tex_ok (hf : L.tf < fs.length) (hv : Av L fs.length w0.heap.size lo hi) : ∀ e : X.Ex, X.exB 268435456 e → TexOk w0 L fs lo hi e
  | .lit k x, _ => fun M us w v bv sc h hM hI hE hbk hlim => by
    cases hE with
    | lit b _ _ hb hc =>
      have e1 : X.exU L.tf (X.topA fs L.tf) sc (.lit k x) = X.exUs L.tf (X.topA fs L.tf) sc [] := by rw [X.exU, X.exUs]
      rw [e1] at hlim ⊢
      exact texpr_kd kdLiteral lo hi b [] sc bv hv (fun j e hj => by simp at hj) ((partsLiteral_any b _).mono (fun e w' h => ⟨_, h.1, by rw [h.2]; exact Pts.nil _ _ _⟩)) h hM hI hbk hlim
  | .hole i, _ => fun M us w v bv sc h hM hI hE hbk hlim => by
    cases hE with
    | hole b _ hb hc =>
      have e1 : X.exU L.tf (X.topA fs L.tf) sc (.hole i) = X.exUs L.tf (X.topA fs L.tf) sc [] := by rw [X.exU, X.exUs]
      rw [e1] at hlim ⊢
      exact texpr_kd kdHole lo hi b [] sc bv hv (fun j e hj => by simp at hj) ((partsHole_any b _).mono (fun e w' h => ⟨_, h.1, by rw [h.2]; exact Pts.nil _ _ _⟩)) h hM hI hbk hlim
  | .missing, _ => fun M us w v bv sc h hM hI hE hbk hlim => by
    cases hE with
    | missing b hb hc =>
      have e1 : X.exU L.tf (X.topA fs L.tf) sc .missing = X.exUs L.tf (X.topA fs L.tf) sc [] := by rw [X.exU, X.exUs]
      rw [e1] at hlim ⊢
      exact texpr_kd kdMissing lo hi b [] sc bv hv (fun j e hj => by simp at hj) ((partsMissing_any b _).mono (fun e w' h => ⟨_, h.1, by rw [h.2]; exact Pts.nil _ _ _⟩)) h hM hI hbk hlim
  | .var n, hB => fun M us w v bv sc h hM hI hE hbk hlim => by
    rw [X.exB] at hB
    cases hE with
    | var b _ hb hc => exact texprVar b n sc bv hf hB hc h hM hI hbk hlim
  | .lett n e1 e2, hB => fun M us w v bv sc h hM hI hE hbk hlim => by
    rw [X.exB] at hB
    cases hE with
    | lett b _ v1 v2 _ _ hb hc q1 q2 => exact texprLet lo hi b n v1 v2 e1 e2 sc bv hv (tex_ok hf hv e1 hB.2.1) (tex_ok hf hv e2 hB.2.2) hB.1 hb hc q1 q2 h hM hI hbk hlim
  | .ite a b c, hB => fun M us w v bv sc h hM hI hE hbk hlim => by
    rw [X.exB] at hB
    have ha := tex_ok hf hv a hB.1
    have hb' := tex_ok hf hv b hB.2.1
    have hc' := tex_ok hf hv c hB.2.2
    cases hE with
    | ite p v1 v2 v3 _ _ _ hb hc q1 q2 q3 =>
      have e1 : X.exU L.tf (X.topA fs L.tf) sc (.ite a b c) = X.exUs L.tf (X.topA fs L.tf) sc [a, b, c] := by rw [X.exU, X.exUs, X.exUs, X.exUs, X.exUs, List.append_nil]
      rw [e1] at hlim ⊢
      refine texpr_kd kdIf lo hi p [a, b, c] sc bv hv (fun j e hj => ?_) ((partsIf_any p v1 v2 v3 a b c _ lo hi hc q1 q2 q3).mono (fun e w' h => h)) h hM hI hbk hlim
      match j with
      | 0 => simp at hj; subst hj; exact ha
      | 1 => simp at hj; subst hj; exact hb'
      | 2 => simp at hj; subst hj; exact hc'
      | j + 3 => simp at hj
  | .fn ns e, hB => fun M us w v bv sc h hM hI hE hbk hlim => by
    rw [X.exB] at hB
    cases hE with
    | fn b pb _ v1 _ hb hc hp q1 => exact texprFun lo hi b pb ns v1 e sc bv hv (tex_ok hf hv e hB.2) hB.1 hb hc hp q1 h hM hI hbk hlim
  | .bin l x r, hB => fun M us w v bv sc h hM hI hE hbk hlim => by
    rw [X.exB] at hB
    have ha := tex_ok hf hv l hB.1
    have hb' := tex_ok hf hv r hB.2
    cases hE with
    | bin p v1 v2 _ _ _ hb hc q1 q2 =>
      have e1 : X.exU L.tf (X.topA fs L.tf) sc (.bin l x r) = X.exUs L.tf (X.topA fs L.tf) sc [l, r] := by rw [X.exU, X.exUs, X.exUs, X.exUs, List.append_nil]
      rw [e1] at hlim ⊢
      refine texpr_kd kdBinary lo hi p [l, r] sc bv hv (fun j e hj => ?_) ((partsBinary_any p x v1 v2 l r _ lo hi hc q1 q2).mono (fun e w' h => h)) h hM hI hbk hlim
      match j with
      | 0 => simp at hj; subst hj; exact ha
      | 1 => simp at hj; subst hj; exact hb'
      | j + 2 => simp at hj
  | .call g gs, hB => fun M us w v bv sc h hM hI hE hbk hlim => by
    rw [X.exB] at hB
    have ha := tex_ok hf hv g hB.1
    have hs := texs_ok hf hv gs hB.2.2
    cases hE with
    | call p v1 _ ao cap vs _ hb hc hcap q1 hr hp =>
      have e1 : X.exU L.tf (X.topA fs L.tf) sc (.call g gs) = X.exUs L.tf (X.topA fs L.tf) sc (g :: gs) := by rw [X.exU, X.exUs]
      rw [e1] at hlim ⊢
      refine texpr_kd kdCall lo hi p (g :: gs) sc bv hv (fun j e hj => ?_) ((partsCall_any p v1 g ao cap vs gs _ lo hi hc q1 hr hp hB.2.1).mono (fun e w' h => h)) h hM hI hbk hlim
      match j with
      | 0 => simp at hj; subst hj; exact ha
      | j + 1 => exact hs j e (by simpa using hj)
  | .list l, hB => fun M us w v bv sc h hM hI hE hbk hlim => by
    rw [X.exB] at hB
    have hs := texs_ok hf hv l hB.2
    cases hE with
    | list p ao cap vs _ hb hc hcap hr hp =>
      have e1 : X.exU L.tf (X.topA fs L.tf) sc (.list l) = X.exUs L.tf (X.topA fs L.tf) sc l := by rw [X.exU]
      rw [e1] at hlim ⊢
      exact texpr_kd kdList lo hi p l sc bv hv hs ((partsList_any p ao cap vs l _ lo hi hc hr hp hB.1).mono (fun e w' h => h)) h hM hI hbk hlim
  | .group e0, hB => fun M us w v bv sc h hM hI hE hbk hlim => by
    rw [X.exB] at hB
    have ha := tex_ok hf hv e0 hB
    cases hE with
    | group p v1 _ hb hc q1 =>
      have e1 : X.exU L.tf (X.topA fs L.tf) sc (.group e0) = X.exUs L.tf (X.topA fs L.tf) sc [e0] := by rw [X.exU, X.exUs, X.exUs, List.append_nil]
      rw [e1] at hlim ⊢
      refine texpr_kd kdGroup lo hi p [e0] sc bv hv (fun j e hj => ?_) ((partsGroup_any p v1 e0 _ lo hi hc q1).mono (fun e w' h => h)) h hM hI hbk hlim
      match j with
      | 0 => simp at hj; subst hj; exact ha
      | j + 1 => simp at hj
theorem texs_ok (hf : L.tf < fs.length) (hv : Av L fs.length w0.heap.size lo hi) : ∀ es : List X.Ex, X.exBs 268435456 es → ∀ (j : Nat) (e : X.Ex), es[j]? = some e → TexOk w0 L fs lo hi e
  | [], _ => fun j e hj => by simp at hj
  | a :: es, hB => fun j e hj => by
    rw [X.exBs] at hB
    have ha := tex_ok hf hv a hB.1
    have hs := texs_ok hf hv es hB.2
    match j with
    | 0 => simp at hj; subst hj; exact ha
    | j + 1 => exact hs j e (by simpa using hj)
end
end Go.Proofs.YtgjbafamiggafaaGreatDoor
/- Package scope: the names of a def. -/
namespace Go.Proofs.YtgjbafamiggafaaGreatDoor
open Go.RowKit
open M
variable {w0 : World} {L : Lay} {fs : List X.Fl} {M : Mem} {us : List X.U} {w : World}
theorem tparams_none (pa : Option Addr) (w : World) (tv : Value) :
    Calls Tryz.prog 107 #[tv, .pointer none, .pointer pa] w fun e w' => e = .returned (.pointer pa) ∧ Below w.heap.size w w' := by
  go_enter Tryz.func107, Tryz.ntmps107
  go_wp2_with fail
  go_ret
  exact ⟨rfl, Below.refl _ w⟩
/-- The cells of a def. -/
def defC (pub : Bool) (n : X.Nm) (pv v : Value) (fr tt : Int) : Obj := .cells #[.bool pub, .string (ba n.1), .int .i64 n.2, pv, v, .int .i64 fr, .int .i64 tt] 154 (0, 0)
set_option maxRecDepth 100000 in
set_option maxHeartbeats 8000000 in
/-- By letters: what the names tell (pu), in which blocks the expression stands (sc), what it tells (eu). -/
theorem tinner_of (lo hi db : Nat) (pub : Bool) (n : X.Nm) (pa : Option Addr) (y g : Nat) (fr tt : Int) (e1 : X.Ex) (sc : List (List X.Nm)) (pu eu : List X.U) (hv : Av L fs.length w0.heap.size lo hi) (hb : lo ≤ db ∧ db < hi) (hub : w0.heap[db]? = some (defC pub n (.pointer pa) (.iface y (.pointer (some ⟨g, 0, none⟩))) fr tt)) (hE : IsE w0 lo hi (.iface y (.pointer (some ⟨g, 0, none⟩))) e1) (h : Run w0 L fs M us w)
    (hC2 : ∀ w : World, Run w0 L fs M us w → Calls Tryz.prog 107 #[.pointer (some ⟨L.tb, 0, none⟩), .pointer pa, .pointer none] w fun e w' => ∃ b, e = .returned (.pointer b) ∧ Hid (Run w0 L fs M (us ++ pu) w' ∧ Kx L fs.length w0.heap.size w w' ∧ IsBk w' w0.heap.size (.pointer b) sc))
    (hC3 : ∀ (w : World) (b : Option Addr), Run w0 L fs M (us ++ pu) w → IsE w lo hi (.iface y (.pointer (some ⟨g, 0, none⟩))) e1 → IsBk w w0.heap.size (.pointer b) sc → Calls Tryz.prog 106 #[.pointer (some ⟨L.tb, 0, none⟩), .iface y (.pointer (some ⟨g, 0, none⟩)), .pointer b] w fun en w' => en = .returned (.tuple #[]) ∧ Hid (Tld w0 L fs ((us ++ pu) ++ eu) w w')) :
    Calls Tryz.prog 87 #[.pointer (some ⟨L.tb, 0, none⟩), .pointer (some ⟨db, 0, none⟩)] w fun e w' => e = .returned (.tuple #[]) ∧ Hid (Tld w0 L fs (us ++ (pu ++ eu)) w w') := by
  have hus := hv.av db hb.1 hb.2
  have hu1 := h.kp.heap hub hus
  have u3 : w.cell? ⟨db, 3, none⟩ = some (.pointer pa) := cell_of_row _ _ 3 _ _ _ hu1
  have u4 : w.cell? ⟨db, 4, none⟩ = some (.iface y (.pointer (some ⟨g, 0, none⟩))) := cell_of_row _ _ 4 _ _ _ hu1
  have HCP := hide (hC2 w.drew (h.below ((Below.refl _ w).drew)))
  have HC3 := hide hC3
  have HV := hide hv
  have HU := hide hub
  have HE := hide hE
  have HUS := hide hus
  clear h hC2 hC3 hu1 hv hub hE hus
  go_enter Tryz.func87, Tryz.ntmps87
  go_wp2_with fail
  refine wpTo_start (S := fun w' => w'.cell? ⟨db, 3, none⟩ = some (.pointer pa) ∧ w'.cell? ⟨db, 4, none⟩ = some (.iface y (.pointer (some ⟨g, 0, none⟩)))) (z := 12) (by kernel_rfl) ?_
  have hS : w.drew.cell? ⟨db, 3, none⟩ = some (.pointer pa) ∧ w.drew.cell? ⟨db, 4, none⟩ = some (.iface y (.pointer (some ⟨g, 0, none⟩))) := ⟨u3, u4⟩
  iterate 10 (refine wpTo_nx (v := ?_) rfl rfl (by kernel_rfl) (by decide) (by kernel_rfl) (by kernel_rfl) (fun _ _ _ h => h) (Or.inl ⟨by rfl, ?_⟩) hS ?_; rotate_left; (· (intro wx hSw; (try dsimp only at hSw); go_simp; try (with_reducible rfl))); simp only [Act.put, List.setIfInBounds_toArray, List.set_cons_zero, List.set_cons_succ])
  refine wpTo_one (i := 10) (by kernel_rfl) rfl (fun K hK => ?_)
  go_simp
  refine (HCP.out).mono ?_
  rintro e w4 ⟨pb4, rfl, X4⟩
  have r4 := (X4.out).1
  have x4 := (X4.out).2.1
  have hu4 := r4.kp.heap HU.out HUS.out
  have HX := hide ((HC3.out) w4 pb4 r4 ((HE.out).keep r4.kp (HV.out).av) (X4.out).2.2)
  dsimp only
  refine hK.out _ _ (fun _ => ⟨cell_of_row w4 _ 3 _ _ _ hu4, cell_of_row w4 _ 4 _ _ _ hu4⟩) (fun hS2 => ?_)
  clear hS hK K
  have hS := hS2 (by decide)
  clear hS2
  refine wpTo_one (i := 11) (by kernel_rfl) rfl (fun K hK => ?_)
  go_simp
  refine (HX.out).mono ?_
  rintro e w5 ⟨rfl, X5⟩
  obtain ⟨M5, r5, m5, i5, x5⟩ := X5.out
  have hu5 := r5.kp.heap HU.out HUS.out
  have HF : Hid (Tld w0 L fs (us ++ (pu ++ eu)) w w5) := by
    refine ⟨M5, ?_, m5, i5, (((Kx.refl _ _ _ w).drew).trans x4).trans x5⟩
    simpa [List.append_assoc] using r5
  dsimp only
  refine hK.out _ _ (fun _ => ⟨cell_of_row w5 _ 3 _ _ _ hu5, cell_of_row w5 _ 4 _ _ _ hu5⟩) (fun _ => wpTo_end (by kernel_rfl) ?_)
  clear hK K hS X4 X5 r4 x4 hu4 r5 m5 i5 x5 hu5 HX HC3 HCP
  go_wp2_with fail
  go_end0
  exact ⟨rfl, HF⟩
set_option maxRecDepth 100000 in
set_option maxHeartbeats 8000000 in
/-- By letters: what is twice (tw), what stands inside tells (iu). -/
theorem tdef_of (k db : Nat) (n : X.Nm) (tw : Nat) (iu : List X.U) (hus : ¬ L.S fs.length db) (hub : ∃ pub pv v fr tt, w0.heap[db]? = some (defC pub n pv v fr tt)) (h : Run w0 L fs M us w)
    (hC1 : ∀ w : World, Run w0 L fs M us w → Calls Tryz.prog 84 #[.pointer (some ⟨L.tb, 0, none⟩), .int .i64 k] w fun e w' => e = .returned (.int .i64 tw) ∧ Below w.heap.size w w')
    (hC2 : ∀ w : World, Run w0 L fs M (us ++ X.ownU L.tf n 0 tw) w → Calls Tryz.prog 87 #[.pointer (some ⟨L.tb, 0, none⟩), .pointer (some ⟨db, 0, none⟩)] w fun en w' => en = .returned (.tuple #[]) ∧ Hid (Tld w0 L fs ((us ++ X.ownU L.tf n 0 tw) ++ iu) w w'))
    (hlim : us.length + (X.ownU L.tf n 0 tw).length ≤ 1073741824) :
    Calls Tryz.prog 53 #[.pointer (some ⟨L.tb, 0, none⟩), .int .i64 k, .pointer (some ⟨db, 0, none⟩)] w fun e w' => e = .returned (.tuple #[]) ∧ Hid (Tld w0 L fs (us ++ (X.ownU L.tf n 0 tw ++ iu)) w w') := by
  obtain ⟨pub, pv, v, fr, tt, hub⟩ := hub
  have hu1 := h.kp.heap hub hus
  have u1 : w.cell? ⟨db, 1, none⟩ = some (.string (ba n.1)) := cell_of_row _ _ 1 _ _ _ hu1
  have u2 : w.cell? ⟨db, 2, none⟩ = some (.int .i64 n.2) := cell_of_row _ _ 2 _ _ _ hu1
  have HCT := hide (hC1 w.drew (h.below ((Below.refl _ w).drew)))
  have HC2 := hide hC2
  have HU := hide hub
  have HUS := hide hus
  have HR := hide h
  clear h hC1 hC2 hu1 hub hus
  go_enter Tryz.func53, Tryz.ntmps53
  go_wp2_with fail
  refine wpTo_start (S := fun w' => w'.cell? ⟨db, 1, none⟩ = some (.string (ba n.1)) ∧ w'.cell? ⟨db, 2, none⟩ = some (.int .i64 n.2)) (z := 9) (by kernel_rfl) ?_
  have hS : w.drew.cell? ⟨db, 1, none⟩ = some (.string (ba n.1)) ∧ w.drew.cell? ⟨db, 2, none⟩ = some (.int .i64 n.2) := ⟨u1, u2⟩
  iterate 7 (refine wpTo_nx (v := ?_) rfl rfl (by kernel_rfl) (by decide) (by kernel_rfl) (by kernel_rfl) (fun _ _ _ h => h) (Or.inl ⟨by rfl, ?_⟩) hS ?_; rotate_left; (· (intro wx hSw; (try dsimp only at hSw); go_simp; try (with_reducible rfl))); simp only [Act.put, List.setIfInBounds_toArray, List.set_cons_zero, List.set_cons_succ])
  refine wpTo_one (i := 7) (by kernel_rfl) rfl (fun K hK => ?_)
  go_simp
  refine (HCT.out).mono ?_
  rintro e w2 ⟨rfl, B2⟩
  have hR2 := (HR.out).below (((Below.refl _ w).drew).trans B2)
  have hu2 := hR2.kp.heap HU.out HUS.out
  have HO := hide (town_any n 0 tw hR2 hlim)
  dsimp only
  refine hK.out _ _ (fun _ => ⟨cell_of_row w2 _ 1 _ _ _ hu2, cell_of_row w2 _ 2 _ _ _ hu2⟩) (fun hS2 => ?_)
  clear hS hK K
  have hS := hS2 (by decide)
  clear hS2
  refine wpTo_one (i := 8) (by kernel_rfl) rfl (fun K hK => ?_)
  go_simp
  refine (HO.out).mono ?_
  rintro e w3 ⟨rfl, X3⟩
  have hu3 := (X3.out).1.kp.heap HU.out HUS.out
  have KX3 : Hid (Kx L fs.length w0.heap.size w w3) := (Kx.ofBelow (((Below.refl _ w).drew).trans B2)).trans (X3.out).2
  have HI := hide ((HC2.out) w3 (X3.out).1)
  dsimp only
  refine hK.out _ _ (fun _ => ⟨cell_of_row w3 _ 1 _ _ _ hu3, cell_of_row w3 _ 2 _ _ _ hu3⟩) (fun _ => wpTo_end (by kernel_rfl) ?_)
  clear hK K hS X3 hu3 hu2 hR2 B2 HO HC2 HCT HR u1 u2
  go_wp2_with fail
  refine (HI.out).mono ?_
  rintro e w5 ⟨rfl, X5⟩
  have HF : Hid (Tld w0 L fs (us ++ (X.ownU L.tf n 0 tw ++ iu)) w w5) := by
    obtain ⟨M5, r5, m5, i5, x5⟩ := X5.out
    refine ⟨M5, ?_, m5, i5, (KX3.out).trans x5⟩
    simpa [List.append_assoc] using r5
  clear X5 HI KX3
  go_wp2_with fail
  go_end0
  exact ⟨rfl, HF⟩
theorem tdef_any (k lo hi db : Nat) (pub : Bool) (n : X.Nm) (pv v : Value) (fr tt : Int) (ps : Option (List X.Nm)) (e1 : X.Ex) (hk : (X.itemsOf fs L.tf)[k]? = some (.dfn pub n ps e1)) (hv : Av L fs.length w0.heap.size lo hi) (hb : lo ≤ db ∧ db < hi) (hub : w0.heap[db]? = some (defC pub n pv v fr tt)) (hp : IsPv w0 lo hi pv ps) (hE : IsE w0 lo hi v e1) (h : Run w0 L fs M us w) (hM : MOk fs M) (hId : Idle M) (hlim : us.length + (X.itU fs L.tf k (.dfn pub n ps e1)).length ≤ 1073741824) :
    Calls Tryz.prog 53 #[.pointer (some ⟨L.tb, 0, none⟩), .int .i64 k, .pointer (some ⟨db, 0, none⟩)] w fun e w' => e = .returned (.tuple #[]) ∧ Hid (Tld w0 L fs (us ++ X.itU fs L.tf k (.dfn pub n ps e1)) w w') := by
  obtain ⟨hnB, hpB, heB⟩ := h.itB hk
  obtain ⟨y, g, rfl⟩ := hE.iface
  have hf := (item_lt hk).1
  have hC1 := fun (w : World) (h : Run w0 L fs M us w) => ttwice_any k _ hk h
  rcases hp with ⟨rfl, rfl⟩ | ⟨ns, pb, rfl, rfl, hpar⟩
  · have hul : X.itU fs L.tf k (.dfn pub n none e1) = X.ownU L.tf n 0 (X.twiceE (X.itemsOf fs L.tf) k n.1) ++ ([] ++ X.exU L.tf (X.topA fs L.tf) [] e1) := rfl
    rw [hul] at hlim ⊢
    rw [List.length_append, List.length_append] at hlim
    refine tdef_of k db n _ _ (hv.av db hb.1 hb.2) ⟨_, _, _, _, _, hub⟩ h hC1 (fun w h => tinner_of lo hi db pub n none y g fr tt e1 [] [] _ hv hb hub hE h (fun w h => (tparams_none none w _).mono ?_) (fun w b hr he hbk => ?_)) (by omega)
    · rintro e w' ⟨rfl, hB⟩
      exact ⟨none, rfl, by rw [List.append_nil]; exact h.below hB, Kx.ofBelow hB, .nil⟩
    · rw [List.append_nil] at hr ⊢
      exact tex_ok hf hv e1 heB M _ w _ _ [] hr hM hId he hbk (by rw [List.length_append]; omega)
  · have hul : X.itU fs L.tf k (.dfn pub n (some ns) e1) = X.ownU L.tf n 0 (X.twiceE (X.itemsOf fs L.tf) k n.1) ++ (X.parU L.tf [] ns ++ X.exU L.tf (X.topA fs L.tf) [ns] e1) := rfl
    rw [hul] at hlim ⊢
    rw [List.length_append, List.length_append] at hlim
    refine tdef_of k db n _ _ (hv.av db hb.1 hb.2) ⟨_, _, _, _, _, hub⟩ h hC1 (fun w h => tinner_of lo hi db pub n (some ⟨pb, 0, none⟩) y g fr tt e1 [ns] _ _ hv hb hub hE h (fun w h => (tparams_any lo hi pb ns (.pointer none) [] hv (hpar.keep h.kp hv.av) hpB h .nil (by rw [List.length_append]; omega)).mono ?_) (fun w b hr he hbk => ?_)) (by omega)
    · rintro e w' ⟨b, rfl, H⟩
      exact ⟨_, rfl, H⟩
    · exact tex_ok hf hv e1 heB M _ w _ _ [ns] hr hM hId he hbk (by rw [List.length_append, List.length_append]; omega)
end Go.Proofs.YtgjbafamiggafaaGreatDoor
