/- Package syntax: Read. -/
import Derived.Test.YtgjbafamiggafaaGreatDoorVv
import Derived.Test.YtgjbafamiggafaaGreatDoorXz
namespace Go.Proofs.YtgjbafamiggafaaGreatDoor
open Go.RowKit
open M
theorem pz_file (ts : List X.Tok) : X.pz (X.fileL ts) = (X.pb (X.file ts)).length := by
  have := X.pz_br 2 (X.fileL ts)
  unfold X.pz at this ⊢
  rw [← this, X.psb, X.psb, List.append_nil]
  rfl
theorem fldKids (a b : Int) (c : ByteArray) (a4 : Option Addr) (a5 a6 : Nat) (w : World) : (Instr.field 100 (.agg #[.int .i64 a, .int .i64 b, .string c, .slice a4 a5 a6]) 3).run Tryz.prog w = .ok (.slice a4 a5 a6) w := by kernel_rfl
/-- An item is read. -/
theorem item_ok (D : Nat → Prop) (rb ab : Nat) (p : X.Part) (ps : List X.Part) (it : X.It) (i : Nat) (w : World) (h : IsRw w D rb ab (p :: ps) i) (hrd : X.Rdi p i it) (hz : X.psz p ≤ 268435456) (hi : i + X.pz [p] ≤ 1073741824) (hDl : ∀ q, D q → q < w.heap.size) :
    (X.nk p = 3 ∧ Calls Tryz.prog 36 #[.pointer (some ⟨rb, 0, none⟩)] w fun e w' => ∃ b, e = .returned (.pointer (some ⟨b, 0, none⟩)) ∧ Hid (IsIt w' w.heap.size w'.heap.size (.iface 104 (.pointer (some ⟨b, 0, none⟩))) it ∧ IsRw w' D rb ab ps (i + X.pz [p]) ∧ Kq D rb ab w w')) ∨
    (X.nk p = 4 ∧ Calls Tryz.prog 37 #[.pointer (some ⟨rb, 0, none⟩)] w fun e w' => ∃ b, e = .returned (.pointer (some ⟨b, 0, none⟩)) ∧ Hid (IsIt w' w.heap.size w'.heap.size (.iface 106 (.pointer (some ⟨b, 0, none⟩))) it ∧ IsRw w' D rb ab ps (i + X.pz [p]) ∧ Kq D rb ab w w')) := by
  cases hrd with
  | use pb t1 n1 t2 n2 ap t3 _ pub gs m n a hp h1 hm h2 hn ha h3 =>
    left
    rw [X.pz_br] at hi ⊢
    rw [psz_br] at hz
    have hl := pssz_len (pb ++ (t1 ++ (n1 ++ (t2 ++ (n2 ++ (ap ++ t3))))))
    exact ⟨rfl, wuse_any D rb ab pb t1 n1 t2 n2 ap t3 pub gs m n a ps i w h hp h1 hm h2 hn ha h3 hi (by omega) hDl⟩
  | dfn pb t1 n1 pr t2 p t3 _ pub n pso e hp h1 hn hr h2 he h3 =>
    right
    rw [X.pz_br] at hi ⊢
    rw [psz_br] at hz
    have hl := pssz_len (pb ++ (t1 ++ (n1 ++ (pr ++ (t2 ++ ([p] ++ t3))))))
    have hp1 := pssz_mem (pb ++ (t1 ++ (n1 ++ (pr ++ (t2 ++ ([p] ++ t3)))))) p (by simp)
    refine ⟨rfl, wdef_any D rb ab pb t1 n1 pr t2 t3 p pub n pso e ps i w h hp h1 hn hr h2 he h3 (expr_ok _ p (Nat.le_refl _) (by omega)) (fun qs e => ?_) hi (by omega) hDl⟩
    have hq := pssz_mem (pb ++ (t1 ++ (n1 ++ (pr ++ (t2 ++ ([p] ++ t3)))))) (.br 6 qs) (by rw [e]; simp)
    rw [psz_br] at hq
    have := pssz_len qs
    omega
set_option maxRecDepth 100000 in
set_option maxHeartbeats 4000000 in
theorem syRead_any (tb : Nat) (s : ByteArray) (its : List X.It) (w : World) (h : IsTr w tb s) (hz : X.psz (X.file (X.xt (bs s))) ≤ 268435456) (hb : X.pb (X.file (X.xt (bs s))) = bs s) (hs : s.size ≤ 134217728) (hf : X.Rdf (X.fileL (X.xt (bs s))) 0 its) :
    Calls Tryz.prog 22 #[.pointer (some ⟨tb, 0, none⟩)] w fun en w' => ∃ rv, en = .returned rv ∧ Hid (IsIts w' w.heap.size w'.heap.size rv its ∧ Below w.heap.size w w') := by
  have HR : Hid (∀ W, Below w.heap.size w W → Calls Tryz.prog 34 #[.pointer (some ⟨tb, 0, none⟩)] W fun e w' => ∃ a4 a5 a6, e = .returned (.agg #[.int .i64 2, .int .i64 0, .string (ba []), .slice a4 a5 a6]) ∧ Hid (∃ E, NdS w' E (.slice a4 a5 a6) (X.fileL (X.xt (bs s))) ∧ (∀ q, E q → W.heap.size ≤ q ∧ q < w'.heap.size) ∧ Below W.heap.size W w')) := fun W hW => by
    refine (root_any tb s W (h.below hW) (by omega) hb (by omega)).mono ?_
    rintro e w' ⟨nv, rfl, X1⟩
    obtain ⟨E, x1, x2, x3⟩ := X1.out
    obtain ⟨kv, rfl, x4⟩ := x1.val
    obtain ⟨a4, a6, _, _, _, _, rfl, -⟩ := x4.ex
    exact ⟨_, _, _, rfl, E, x4, x2, x3⟩
  have hfld := fldKids
  obtain ⟨i0, hi0, hz0, hz1, hz2⟩ := info_parts infoIt
  have hlz : Hid (∀ p ∈ X.fileL (X.xt (bs s)), X.psz p ≤ 268435456) := fun p hp => by
    have h1 := pssz_mem _ p hp
    have h2 : X.psz (X.file (X.xt (bs s))) = 1 + X.pssz (X.fileL (X.xt (bs s))) := rfl
    omega
  have hll : (X.fileL (X.xt (bs s))).length ≤ 268435456 := by
    have h1 := pssz_len (X.fileL (X.xt (bs s)))
    have h2 : X.psz (X.file (X.xt (bs s))) = 1 + X.pssz (X.fileL (X.xt (bs s))) := rfl
    omega
  have htot : X.pz (X.fileL (X.xt (bs s))) ≤ 134217728 := by rw [pz_file, hb, bs_len]; exact hs
  have hil : its.length ≤ 268435456 := Nat.le_trans (rdf_len hf) hll
  have HF := hide hf
  have hgL : Hid (X.Gd (X.fileL (X.xt (bs s)))) := ⟨X.file_byts (bs s), (X.file_kok (X.xt (bs s))).2⟩
  clear h hz hb hs hf
  generalize X.fileL (X.xt (bs s)) = L at *
  go_enter Tryz.func22, Tryz.ntmps22
  go_wp2_with fail
  have kA : Below w.heap.size w (w.alloc (.cells #[.int .i64 0, .slice none 0 0, .int .i64 0, .int .i64 0] 97)) := (Below.refl _ w).alloc (Nat.le_refl _) _
  refine ((HR.out) _ kA).mono ?_
  rintro en w2 ⟨a4, a5, a6, rfl, X2⟩
  obtain ⟨D, x1, x2, x3⟩ := X2.out
  have hsA : (w.alloc (.cells #[.int .i64 0, .slice none 0 0, .int .i64 0, .int .i64 0] 97)).heap.size = w.heap.size + 1 := by simp
  have hs2 := x3.size
  have kB : Below w2.heap.size w2 (w2.alloc (.cells #[.pointer (some ⟨w.heap.size, 0, none⟩), .slice a4 a5 a6] 103)) := (Below.refl _ w2).alloc (Nat.le_refl _) _
  have hz0' : (w2.alloc (.cells #[.pointer (some ⟨w.heap.size, 0, none⟩), .slice a4 a5 a6] 103)).heap.size = w2.heap.size + 1 := by simp
  have HRw : Hid (IsRw (w2.alloc (.cells #[.pointer (some ⟨w.heap.size, 0, none⟩), .slice a4 a5 a6] 103)) D w2.heap.size w.heap.size L 0) := by
    refine ⟨⟨_, heap_alloc_new w2 _, x1.keep (Kp.ofBelow kB (fun _ => False)) (fun _ _ => id)⟩, ⟨.slice none 0 0, [], 0, 0, ?_, World.ownsRow_nil _ _ _ _, Nat.le_refl _, fun q hq => by cases hq⟩, ⟨by omega, fun hd => by have := (x2 _ hd).2; omega, fun hd => by have := (x2 _ hd).1; omega⟩, hgL.out⟩
    exact (Kp.ofBelow kB (fun _ => False)).heap ((Kp.ofBelow x3 (fun _ => False)).heap (heap_alloc_new w _) id) id
  have HBw : Hid (Below w.heap.size w (w2.alloc (.cells #[.pointer (some ⟨w.heap.size, 0, none⟩), .slice a4 a5 a6] 103))) := (kA.trans (x3.mono (by omega))).trans (kB.mono (by omega))
  have HDl : Hid (∀ q, D q → q < (w2.alloc (.cells #[.pointer (some ⟨w.heap.size, 0, none⟩), .slice a4 a5 a6] 103)).heap.size) := fun q hq => by have := (x2 q hq).2; omega
  clear HR X2 x1 x2 x3 kA kB
  go_wp2_with fail
  generalize hW0 : w2.alloc (.cells #[.pointer (some ⟨w.heap.size, 0, none⟩), .slice a4 a5 a6] 103) = W0 at *
  generalize hkb : w2.heap.size = kb at *
  generalize hab : w.heap.size = ab at *
  have hr : kb < W0.heap.size := by omega
  have ha : ab < W0.heap.size := by omega
  have hrw0 : ab ≤ kb := by omega
  clear hfld hW0 hkb hz0' hs2 hsA
  have HI0 : Hid (InIts W0 D kb ab its (0 + X.pz L) L 0 [] (.slice none 0 0) [] W0) := ⟨HRw.out, ⟨its, HF.out, rfl⟩, World.ownsRow_nil _ _ _ _, rfl, fun j e hj => by simp at hj, Kq.refl _ _ _ _, rfl⟩
  clear HRw HF
  go_loopw [4] (fun av wr => ∃ (l : List X.Part) (k : Nat) (acc : List X.It) (rv : Value) (vs : List Value), rv = av ∧ l.length ≤ 268435456 ∧ Hid (∀ p ∈ l, X.psz p ≤ 268435456) ∧ Hid (InIts W0 D kb ab its (0 + X.pz L) l k acc rv vs wr)) (fun _ wr => lenR kb wr)
  case atStart => exact ⟨L, 0, [], _, [], rfl, hll, hlz, HI0⟩
  case round =>
    obtain ⟨l, k, acc, rv, vs, rfl, hll', HZ, HI⟩ := hrel
    clear HI0 hlz hll
    have hlen : lenR kb wr = l.length := (HI.out).rw.len
    have hpos := (HI.out).pos
    have HM := hide (wmore_any D kb ab l k wr (HI.out).rw (by omega) (by omega) (fun q hq => Nat.lt_of_lt_of_le ((HDl.out) q hq) (HI.out).kp.size))
    go_wp2_with fail
    refine (HM.out).mono ?_
    rintro e w3 ⟨rfl, H3⟩
    have hpz : X.pz l = X.pz (l.takeWhile X.lq) + X.pz (l.dropWhile X.lq) := by rw [← X.pz_app, List.takeWhile_append_dropWhile]
    have hdl : (l.dropWhile X.lq).length ≤ l.length := (List.dropWhile_sublist _).length_le
    have HI3 : Hid (InIts W0 D kb ab its (0 + X.pz L) (l.dropWhile X.lq) (k + X.pz (l.takeWhile X.lq)) acc rv vs w3) := by
      obtain ⟨es', g1, g2⟩ := (HI.out).rdf
      exact (HI.out).step hr ha (H3.out).2 (H3.out).1 ⟨es', rdf_quiet g1, g2⟩ (by omega)
    have HZd : Hid (∀ p ∈ l.dropWhile X.lq, X.psz p ≤ 268435456) := fun p hp => (HZ.out) p ((List.dropWhile_sublist _).mem hp)
    have hql' : ∀ p t, l.dropWhile X.lq = p :: t → X.lq p = false := fun p t e => by
      have := List.head?_dropWhile_not X.lq l
      rw [e] at this
      simpa using this
    clear HM H3 HI HZ
    generalize l.dropWhile X.lq = l3 at *
    generalize k + X.pz (l.takeWhile X.lq) = k3 at *
    cases l3 with
    | nil =>
      have HF : Hid (IsIts w3 ab w3.heap.size rv its ∧ Below ab w w3) := by
        obtain ⟨z1, z2, z3⟩ := (HI3.out).done
        refine ⟨?_, ?_⟩
        · obtain ⟨ao, cap, f, y1, y2, y3, y4, y5⟩ := z1.ex
          exact ⟨ao, cap, f, y1, y2, y3, fun j hj => by obtain ⟨g, u1, u2, u3, u4⟩ := y4 j hj; exact ⟨g, u1, by omega, u3, u4⟩, fun j e hj => (y5 j e hj).wide (by omega) (Nat.le_refl _)⟩
        · have hb0 := HBw.out
          exact ⟨z3.kp.os.trans hb0.os, z3.kp.tape.trans hb0.tape, z3.kp.output.trans hb0.output, Nat.le_trans hb0.size z3.size, fun q hq => (z3.kp.block q (by omega) (fun e => by rcases e with e | e | ⟨e, -⟩ <;> omega)).trans (hb0.block q hq)⟩
      have hdf : decide (([] : List X.Part) ≠ []) = false := by simp
      rw [hdf]
      clear HI3
      go_wp2_with fail
      go_ret
      exact ⟨rv, rfl, by rw [hab]; exact HF⟩
    | cons p l4 =>
      have hdt : decide (p :: l4 ≠ []) = true := by simp
      rw [hdt]
      clear hdt
      have hq := hql' p l4 rfl
      clear hql'
      obtain ⟨v, hb, hnn⟩ := (HI3.out).rw.blk
      have c1 := cell_of_row w3 _ 1 _ _ _ hb
      obtain ⟨g, o, cap, kv, rfl, hD, y0, y1, y2, y3, hkk, -, hc1, hc2, -, -⟩ := hnn.head
      have hi1 : (0 : Int) < ((l4.length + 1 : Nat) : Int) := by omega
      have hi2 : 0 < l4.length + 1 := by omega
      have hpos3 := (HI3.out).pos
      rw [X.pz_cons] at hpos3
      rw [List.length_cons] at hdl
      have hzp := (HZd.out) p (by simp)
      have HZ4 : Hid (∀ q ∈ l4, X.psz q ≤ 268435456) := fun q hq => (HZd.out) q (List.mem_cons_of_mem _ hq)
      have HD3 : ∀ q, D q → q < w3.heap.size := fun q hq => Nat.lt_of_lt_of_le ((HDl.out) q hq) (HI3.out).kp.size
      obtain ⟨es', g1, g2⟩ := (HI3.out).rdf
      clear hb hnn hkk HZd y1 y2 y3
      rcases rdf_head g1 hq with ⟨qs, rfl, hlv, hrest⟩ | ⟨it0, its2, e1, hrd, hrest⟩
      · have y0' : w3.cell? ⟨g, o, none⟩ = some (.int .i64 5) := y0
        rw [psz_br] at hzp
        have hql := pssz_len qs
        rw [X.pz_br] at hpos3
        have HC := hide (wjunk_any D kb ab qs l4 k3 w3 (HI3.out).rw hlv (by omega) (by omega) HD3)
        have HNs : Hid (∃ es', X.Rdf l4 (k3 + X.pz qs) es' ∧ its = acc ++ es') := by rw [X.pz_br] at hrest; exact ⟨es', hrest, g2⟩
        clear HD3 g1 g2 hlv hrest y0
        go_wp2_with fail
        refine (HC.out).mono ?_
        rintro e w5 ⟨rfl, X5⟩
        have HI5 : Hid (InIts W0 D kb ab its (0 + X.pz L) l4 (k3 + X.pz qs) acc rv vs w5) := (HI3.out).step hr ha (X5.out).2 (X5.out).1 HNs.out (by omega)
        clear HC X5 HI3 c1 y0'
        have hl5 : lenR kb w5 = l4.length := (HI5.out).rw.len
        go_wp2_with fail
        exact ⟨⟨l4, k3 + X.pz qs, acc, rv, vs, rfl, by omega, HZ4, HI5⟩, by rw [hlen, hl5]; omega⟩
      · have HNs : Hid (∃ es', X.Rdf l4 (k3 + X.pz [p]) es' ∧ its = (acc ++ [it0]) ++ es') := ⟨its2, hrest, by rw [g2, e1, List.append_assoc]; rfl⟩
        have hacc : acc.length ≤ 268435456 := by
          have := congrArg List.length g2
          rw [List.length_append] at this; omega
        have hio := item_ok D kb ab p l4 it0 k3 w3 (HI3.out).rw hrd hzp (by omega) HD3
        clear HD3 g1 g2 hrest e1 hrd
        rcases hio with ⟨hnk, HC0⟩ | ⟨hnk, HC0⟩
        · have HC := hide HC0
          clear HC0
          rw [hnk] at y0
          have y0' : w3.cell? ⟨g, o, none⟩ = some (.int .i64 3) := y0
          clear y0 hnk
          go_wp2_with fail
          refine (HC.out).mono ?_
          rintro e w5 ⟨b5, rfl, X5⟩
          clear c1 y0'
          have hvl : vs.length = acc.length := (HI3.out).len
          have HO5 : Hid (w5.ownsRow W0.heap.size 134 1 rv acc.length vs) := (X5.out).2.2.owns (HI3.out).own (by decide) (fun g hg => by
            have := (owns_ge (HI3.out).own g hg).1
            exact ⟨by omega, by omega⟩)
          have hs5 : W0.heap.size ≤ w5.heap.size := by have := (X5.out).2.2.size; have := (HI3.out).kp.size; omega
          go_wp2_with (at_builtin; refine wpList_append_lies _ rfl _ _ 65 rfl W0.heap.size 134 i0 _ 1 16 Tryz.underlying65 hi0 hz0 hz1 hz2 rfl (by decide) rv acc.length _ rfl ((HO5.out).alloc _) ⟨w5.heap.size, 0, none⟩ 1 1 [.iface 104 (.pointer (some ⟨b5, 0, none⟩))] rfl rfl (World.news_of_block (cs := #[.iface 104 (.pointer (some ⟨b5, 0, none⟩))]) (heap_alloc_new w5 _)) (by simp [Value.oneCell']) (by omega) (by unfold maxLen; omega) (by omega) (by simp; omega) (w5.heap.size + 1) (by simp) ?_; intro g7 cap7 w7 hown7 hgrow7 hat7 hlt7; have HI7 := hide ((HI3.out).more hr ha HDl.out (X5.out).2.2 (X5.out).2.1 (X5.out).1 HNs.out (by omega) _ hown7 hgrow7 hat7); clear hown7 hgrow7)
          have hl7 : lenR kb w7 = l4.length := (HI7.out).rw.len
          exact ⟨⟨l4, k3 + X.pz [p], acc ++ [it0], _, _, rfl, by omega, HZ4, HI7⟩, by rw [hlen, hl7]; omega⟩
        · have HC := hide HC0
          clear HC0
          rw [hnk] at y0
          have y0' : w3.cell? ⟨g, o, none⟩ = some (.int .i64 4) := y0
          clear y0 hnk
          go_wp2_with fail
          refine (HC.out).mono ?_
          rintro e w5 ⟨b5, rfl, X5⟩
          clear c1 y0'
          have hvl : vs.length = acc.length := (HI3.out).len
          have HO5 : Hid (w5.ownsRow W0.heap.size 134 1 rv acc.length vs) := (X5.out).2.2.owns (HI3.out).own (by decide) (fun g hg => by
            have := (owns_ge (HI3.out).own g hg).1
            exact ⟨by omega, by omega⟩)
          have hs5 : W0.heap.size ≤ w5.heap.size := by have := (X5.out).2.2.size; have := (HI3.out).kp.size; omega
          go_wp2_with (at_builtin; refine wpList_append_lies _ rfl _ _ 65 rfl W0.heap.size 134 i0 _ 1 16 Tryz.underlying65 hi0 hz0 hz1 hz2 rfl (by decide) rv acc.length _ rfl ((HO5.out).alloc _) ⟨w5.heap.size, 0, none⟩ 1 1 [.iface 106 (.pointer (some ⟨b5, 0, none⟩))] rfl rfl (World.news_of_block (cs := #[.iface 106 (.pointer (some ⟨b5, 0, none⟩))]) (heap_alloc_new w5 _)) (by simp [Value.oneCell']) (by omega) (by unfold maxLen; omega) (by omega) (by simp; omega) (w5.heap.size + 1) (by simp) ?_; intro g7 cap7 w7 hown7 hgrow7 hat7 hlt7; have HI7 := hide ((HI3.out).more hr ha HDl.out (X5.out).2.2 (X5.out).2.1 (X5.out).1 HNs.out (by omega) _ hown7 hgrow7 hat7); clear hown7 hgrow7)
          have hl7 : lenR kb w7 = l4.length := (HI7.out).rw.len
          exact ⟨⟨l4, k3 + X.pz [p], acc ++ [it0], _, _, rfl, by omega, HZ4, HI7⟩, by rw [hlen, hl7]; omega⟩
end Go.Proofs.YtgjbafamiggafaaGreatDoor
