/- New. -/
import Derived.Test.YtdlnlcjmjgbikaaUk1
import Derived.LoopTactic
namespace Go.Proofs.Ytdlnlcjmjgbikaa
open Go Go.Conc Go.RowKit Go.Deep

noncomputable section
variable {w w' : World} {k : Nat}
set_option maxRecDepth 100000 in
set_option maxHeartbeats 8000000 in
theorem new_any {R : QR} {ro : Option Addr} {n cap : Nat} (hRn : R.n = n) (hr : RulesAt w R ro) : Calls Sq.prog 6 #[.slice ro n cap] w (NewPost R w) := by
  suffices ∀ Pp : Ending → World → Prop, Hid (∀ e w', NewPost R w e w' → Pp e w') → Calls Sq.prog 6 #[.slice ro n cap] w Pp from this _ (hide fun _ _ h => h)
  intro Pp HP
  by_cases hbig : 64 < n
  · have HE := hide (HP.out (.returned (.tuple #[.pointer none, .iface 36 (.int .i64 12)])) w ⟨Keep.refl _ _, .inl ⟨_, rfl, fun h => by have := h.1; omega⟩⟩)
    clear hr
    go_enter Sq.func6, Sq.ntmps6
    go_wp2_with fail
    exact HE.out
  · have hn : n < 65 := by omega
    have mk43 := mk_rows (P := Sq.prog) 43 61 _ 8 72 ((sq_under 43).trans Try.underlying43) info61 n (by omega) (by omega)
    have mk44 := mk_rows (P := Sq.prog) 44 67 _ 4 48 ((sq_under 44).trans Try.underlying44) info67 n (by omega) (by omega)
    have mk45 := mk_rows (P := Sq.prog) 45 4 (.bool false) 1 1 ((sq_under 45).trans Try.underlying45) (by kernel_rfl) n (by omega) (by omega)
    have mk23 := mk_rows (P := Sq.prog) 23 3 (.int .i64 0) 1 8 ((sq_under 23).trans Try.underlying23) (by kernel_rfl) n (by omega) (by omega)
    have HR := hide (And.intro hRn hr)
    clear hr hRn
    go_enter Sq.func6, Sq.ntmps6
    go_wp2_with fail
    rename_i K hK
    have key : ∀ (cb mb fb rb sh : Nat) (w1 : World), NF n cb mb fb rb sh w w1 → Exit.then K (bodyPost Sq.prog Sq.f6 Pp) Exit.normal { tmps := #[.slice ro n cap, undef, .pointer none, .nilIface, .pointer (some ⟨sh, 0, none⟩), undef, undef, .slice ro n cap, .int .i64 n, .bool (decide (64 < (n : Int))), undef, .slice ro n cap, .int .i64 n, .slice (some ⟨cb, 0, none⟩) n n, .slice ro n cap, .int .i64 n, .slice (some ⟨mb, 0, none⟩) n n, .slice ro n cap, .int .i64 n, .slice (some ⟨fb, 0, none⟩) n n, .slice ro n cap, .int .i64 n, .slice (some ⟨rb, 0, none⟩) n n, .agg #[.int .i32 0, .int .u32 0, .slice (some ⟨cb, 0, none⟩) n n, .slice (some ⟨mb, 0, none⟩) n n, .slice (some ⟨fb, 0, none⟩) n n, .slice (some ⟨rb, 0, none⟩) n n], .pointer (some ⟨sh, 0, none⟩), undef, undef, undef, undef, undef, undef, undef, undef, undef, undef, undef, undef, undef, undef, undef, undef, undef, undef, undef, undef, undef, undef, undef, undef], defers := [] } w1 := by
      clear mk43 mk44 mk45 mk23
      intro cb mb fb rb sh w1 nf
      have NFH := hide nf
      clear nf
      go_wp2_with fail
      go_loopw [27] (fun iv wr => ∃ j : Nat, iv = .int .i64 j ∧ j ≤ n ∧ Hid (NLoop R cb w1 wr j)) (fun iv _ => n - ivn iv)
      case atStart =>
        have hb := NFH.out.c
        exact ⟨0, rfl, Nat.zero_le _, hide ⟨Keep.refl _ _, ⟨fun _ => 0, fun _ => 0, fun i hi => absurd hi (Nat.not_lt_zero _)⟩, fun i hi _ => made_cell hb (by rw [← HR.out.1]; exact hi), fun i => by simp [World.frozen?, hb]⟩⟩
      case round =>
        obtain ⟨j, rfl, hj, HI⟩ := hrel
        have nf := NFH.out
        have nl := HI.out
        have hcb1 : cb < w1.heap.size := (Array.getElem?_eq_some_iff.1 nf.c).1
        have s2 : w1.cell? ⟨sh, 2, none⟩ = some (.slice (some ⟨cb, 0, none⟩) n n) := by simp [World.cell?, nf.s]
        have d2 := nl.kp.cell (a := ⟨sh, 2, none⟩) nf.ne.1.1 s2
        by_cases hlt : j < n
        · obtain ⟨b0, o0, hro, r0, r1, r2, r3⟩ := HR.out.2 j (by rw [HR.out.1]; exact hlt)
          have hb0 : b0 < w.heap.size := World.block_lt_of_cell? w _ r0
          have hbc : b0 ≠ cb := by have := nf.ge.1; omega
          have kr : ∀ {o : Nat} {x : Value}, w.cell? ⟨b0, o, none⟩ = some x → wr.cell? ⟨b0, o, none⟩ = some x := fun h => nl.kp.cell (show ¬ b0 = cb from hbc) (nf.kp.cell id h)
          replace r0 := kr r0
          replace r1 := kr r1
          replace r2 := kr r2
          replace r3 := kr r3
          have nc := nl.rest j (by rw [HR.out.1]; exact hlt) (Nat.le_refl _)
          obtain ⟨v0, v1, v2, v3, _, _, _, vz⟩ := id nc
          have z0 : wr.frozen? ⟨cb, j * 8, none⟩ = false := vz 0
          have z1 := vz 1
          have z2 := vz 2
          have z3 := vz 3
          have hcl : cb < wr.heap.size := World.block_lt_of_cell? wr _ v0
          have hsl : sh < wr.heap.size := World.block_lt_of_cell? wr _ d2
          have hsc : sh ≠ cb := nf.ne.1.1
          have hcs : cb ≠ sh := Ne.symm hsc
          generalize hop : R.op j = op at r0
          generalize hxa : R.a j = xa at r1
          generalize hxb : R.b j = xb at r2
          generalize hxc : R.c j = xc at r3
          have LD := fun o => @laid wr cb j op xa xb xc o _ nc rfl
          have LDH := hide LD
          have RU := hide (And.intro hop (And.intro hxa (And.intro hxb hxc)))
          have HN := hide (And.intro nf (And.intro nl (And.intro hcb1 d2)))
          subst hro
          clear nf nl nc vz s2 kr hbc hb0 LD hop hxa hxb hxc hcb1
          go_wp2_with fail
          go_region
          go_wp2_with fail
          obtain ⟨nf, nl, hcb1, d2⟩ := HN.out
          obtain ⟨nc2, kW, oc, of⟩ := LDH.out (.cells #[.int .i64 op, .int .i64 xa, .int .i64 xb, .int .i64 xc] 41)
          generalize hW : (((((wr.setCell ⟨cb, j * 8, none⟩ (.int .i64 op)).setCell ⟨cb, j * 8 + 1, none⟩ (.int .i64 xa)).setCell ⟨cb, j * 8 + 2, none⟩ (.int .i64 xb)).setCell ⟨cb, j * 8 + 3, none⟩ (.int .i64 xc)).alloc (.cells #[.int .i64 op, .int .i64 xa, .int .i64 xb, .int .i64 xc] 41)).drew = W at nc2 kW oc of ⊢
          refine (sound_any (kW.cell (a := ⟨sh, 2, none⟩) hsc d2) hsc hlt nc2).mono ?_
          rintro e w2 ⟨b, rfl, kw2, hg, hng⟩
          by_cases hb : b = true
          · subst hb
            obtain ⟨rop, rxa, rxb, rxc⟩ := RU.out
            obtain ⟨hgr, hlk⟩ := hg rfl
            have hgr2 : goodRule R.n (R.op j) (R.a j) (R.b j) (R.c j) := by rw [HR.out.1, rop, rxa, rxb, rxc]; exact hgr
            have nc3 : NewCell W cb j (R.op j) (R.a j) (R.b j) (R.c j) := by rw [rop, rxa, rxb, rxc]; exact nc2
            have hlk2 : Looked W w2 cb j (R.op j) (R.a j) (R.b j) (R.c j) := by rw [rop, rxa, rxb, rxc]; exact hlk
            have NS := hide (nl.step hcb1 nc3 kW oc of kw2 hgr2 hlk2)
            clear nf nl hcb1 d2 hW nc2 nc3 kW oc of kw2 hg hng rop rxa rxb rxc hgr hgr2 hlk hlk2 HI HN LDH RU r0 r1 r2 r3 v0 v1 v2 v3 z0 z1 z2 z3
            go_wp2_with fail
            refine ⟨⟨j + 1, rfl, hlt, NS⟩, ?_⟩
            simp only [ivn]
            omega
          · have hbf : b = false := by simpa using hb
            subst hbf
            have HE := hide (HP.out (.returned (.tuple #[.pointer none, .iface 36 (.int .i64 1)])) w2 ⟨nf.kp.after (nl.kp.trans (kW.trans kw2)) (by rintro b rfl; exact nf.ge.1), .inl ⟨_, rfl, fun h => hng rfl (by
              have := h.2 j (by rw [HR.out.1]; exact hlt)
              rw [HR.out.1, RU.out.1, RU.out.2.1, RU.out.2.2.1, RU.out.2.2.2] at this
              exact this)⟩⟩)
            clear nf nl hcb1 d2 hW nc2 kW oc of kw2 hg hng hb HI HN LDH RU r0 r1 r2 r3 v0 v1 v2 v3 z0 z1 z2 z3
            go_wp2_with fail
            exact HE.out
        · obtain rfl : j = n := by omega
          obtain ⟨Z, hZs, hZ, hRok, hsh, hge⟩ := new_sheet (by rw [HR.out.1]; exact nf) (by rw [HR.out.1]; exact nl)
          have AG := hide (age_any hZ hsh (by rw [HR.out.1]; exact hn))
          rw [hZs] at AG
          have HE : Hid (∀ w3, Sh R Z 0 w3 (zeroT R) → Keep Z.mut wr w3 → Pp (.returned (.tuple #[.pointer (some ⟨sh, 0, none⟩), .nilIface])) w3) := hide fun w3 h3 k3 => by
            have kz : Keep (fun _ => False) w w3 := by
              have k2 : Keep (fun _ => False) w wr := (nf.kp.after nl.kp (by rintro b rfl; exact nf.ge.1))
              exact k2.after k3 hge
            exact HP.out _ _ ⟨kz, .inr ⟨Z, by rw [hZs], by rw [HR.out.1]; exact hn, hZ, hRok, h3, hge⟩⟩
          clear nf nl s2 hZ hRok hsh hge hZs hcb1 HI
          go_wp2_with fail
          refine AG.out.mono ?_
          rintro e w3 ⟨rfl, h3, k3⟩
          have HE3 := hide (HE.out w3 h3 k3)
          clear h3 k3
          go_wp2_with fail
          exact HE3.out
    go_region
    all_goals
      obtain ⟨g1, g2, g3, g4, g5, gk⟩ := @fiveU w _ _ _ _ _
      refine key _ _ _ _ _ _ ?_
      constructor <;> first | exact g1 | exact g2 | exact g3 | exact g4 | exact g5 | exact gk | (simp; done) | omega
end
end Go.Proofs.Ytdlnlcjmjgbikaa
/- Few runs: the mathematics. -/
namespace Go.Proofs.Ytdlnlcjmjgbikaa
open Go Go.Conc Go.RowKit

def sumN (f : Nat → Int) : Nat → Int
  | 0 => 0
  | n + 1 => sumN f n + f n
theorem sumN_upf (f : Nat → Int) (k : Nat) (v : Int) : ∀ n, k < n → sumN (upf f k v) n = sumN f n - f k + v
  | 0, h => absurd h (Nat.not_lt_zero _)
  | n + 1, h => by
    unfold sumN
    by_cases e : k = n
    · subst e
      have : sumN (upf f k v) k = sumN f k := by
        have : ∀ m, m ≤ k → sumN (upf f k v) m = sumN f m := fun m => by
          induction m with
          | zero => intro _; rfl
          | succ m ih =>
            intro hm
            unfold sumN
            rw [ih (by omega), upf_ne _ _ (by omega)]
        exact this k (Nat.le_refl _)
      rw [this, upf_same]
      omega
    · rw [sumN_upf f k v n (by omega), upf_ne _ _ (fun e2 => e e2.symm)]
      omega
theorem sumN_le (f : Nat → Int) : ∀ n, (∀ j, j < n → f j = 0 ∨ f j = 1) → 0 ≤ sumN f n ∧ sumN f n ≤ n
  | 0, _ => ⟨Int.le_refl _, Int.le_refl _⟩
  | n + 1, h => by
    have ih := sumN_le f n fun j hj => h j (by omega)
    have := h n (by omega)
    unfold sumN
    omega
theorem sumN_lt (f : Nat → Int) (n k : Nat) (hk : k < n) (h : ∀ j, j < n → f j = 0 ∨ f j = 1) (h0 : f k = 0) : sumN f n + 1 ≤ n := by
  have := (sumN_le (upf f k 1) n fun j hj => by
    unfold upf
    split
    · exact .inr rfl
    · exact h j hj).2
  rw [sumN_upf f k 1 n hk] at this
  omega
theorem wrap64_at (x : Int) (h : -9223372036854775808 ≤ x ∧ x ≤ 9223372036854775807) : wrap64 x = x := by unfold wrap64; omega
structure QV (R : QR) (S : QS) : Prop where
  r01 : ∀ j, j < R.n → S.rn j = 0 ∨ S.rn j = 1
  z : ∀ j, j < R.n → S.fr j = false → S.hd j = false → S.rn j = 0
  sum : S.left + sumN S.rn R.n = 64
structure QK (R : QR) (S S' : QS) : Prop where
  fr : ∀ j, S.fr j = true → S'.fr j = true
  hd : S'.hd = S.hd
  same : ∀ j, j < R.n → S.fr j = true ∨ S.hd j = true → S'.rn j = S.rn j ∧ S'.mem j = S.mem j
theorem QK.refl (R : QR) (S : QS) : QK R S S := ⟨fun _ h => h, rfl, fun _ _ _ => ⟨rfl, rfl⟩⟩
theorem QK.trans {R : QR} {S S' S'' : QS} (h : QK R S S') (k : QK R S' S'') : QK R S S'' :=
  ⟨fun j hj => k.fr j (h.fr j hj), k.hd.trans h.hd, fun j hj hc => by
    have h1 := h.same j hj hc
    have h2 := k.same j hj (hc.imp (h.fr j) fun hd => by rw [h.hd]; exact hd)
    exact ⟨h2.1.trans h1.1, h2.2.trans h1.2⟩⟩
/-- What one bringing does, where fewer than m cells are not in hand. -/
def Brq (R : QR) (br : QS → Nat → QO × QS) (m : Nat) : Prop := ∀ S k, QV R S → S.Ok R → k < R.n → offs R S < m → QV R (br S k).2 ∧ QK R S (br S k).2 ∧ ((br S k).2.fr k = true ∨ S.hd k = true)
theorem holds_q {R : QR} {br : QS → Nat → QO × QS} {m : Nat} (hb : Brings R br) (h : Brq R br m) : ∀ (t : List QL) (S : QS), (∀ l ∈ t, 0 ≤ l.key ∧ l.key < R.n) → QV R S → S.Ok R → offs R S < m → QV R (holdsM br t S).2 ∧ QK R S (holdsM br t S).2
  | [], S, _, hv, _, _ => ⟨hv, QK.refl R S⟩
  | l :: t, S, ht, hv, ho, hm => by
    have hl := ht l (by simp)
    have hk : l.key.toNat < R.n := by omega
    obtain ⟨v1, k1, _⟩ := h S l.key.toNat hv ho hk hm
    unfold holdsM
    split
    · obtain ⟨v2, k2⟩ := holds_q hb h t _ (fun l hl => ht l (by simp [hl])) v1 (hb.ok ho hk) (by rw [offs_hd (hb.hd S _)]; exact hm)
      exact ⟨v2, k1.trans k2⟩
    · exact ⟨v1, k1⟩
/-- Behind a run of cell k, in hand: all but k itself. -/
structure QKx (R : QR) (k : Nat) (S S' : QS) : Prop where
  fr : ∀ j, S.fr j = true → S'.fr j = true
  hd : S'.hd = S.hd
  same : ∀ j, j < R.n → j ≠ k → S.fr j = true ∨ S.hd j = true → S'.rn j = S.rn j ∧ S'.mem j = S.mem j
theorem QKx.then {R : QR} {k : Nat} {S S' S'' : QS} (h : QKx R k S S') (q : QK R S' S'') : QKx R k S S'' :=
  ⟨fun j hj => q.fr j (h.fr j hj), q.hd.trans h.hd, fun j hj hne hc => by
    have h1 := h.same j hj hne hc
    have h2 := q.same j hj (hc.imp (h.fr j) fun hd => by rw [h.hd]; exact hd)
    exact ⟨h2.1.trans h1.1, h2.2.trans h1.2⟩⟩
theorem run_q {R : QR} (hR : R.Ok) (hn : R.n ≤ 64) {br : QS → Nat → QO × QS} {m : Nat} (hb : Brings R br) (h : Brq R br m) {S : QS} {k : Nat} (hk : k < R.n) (h0 : R.op k ≠ 0) (hv : QV R S) (ho : S.Ok R) (hm : offs R S < m) (hd : S.hd k = true) (hz : S.rn k = 0) : QV R (runM R br S k).2 ∧ QKx R k S (runM R br S k).2 := by
  have hs := sumN_lt S.rn R.n k hk hv.r01 hz
  have hs0 := (sumN_le S.rn R.n hv.r01).1
  have hl := hv.sum
  have hw : wrap64 (S.left + -1) = S.left - 1 := wrap64_at _ (by omega)
  have hw2 : wrap64 (S.rn k + 1) = 1 := by rw [hz]; exact wrap64_at _ (by omega)
  have ha := hR.a k hk h0
  have v1 : QV R { S with left := wrap64 (S.left + -1), rn := upf S.rn k (wrap64 (S.rn k + 1)) } := by
    rw [hw, hw2]
    refine ⟨fun j hj => ?_, fun j hj hf hh => ?_, ?_⟩
    · show upf S.rn k 1 j = 0 ∨ upf S.rn k 1 j = 1
      unfold upf
      split
      · exact .inr rfl
      · exact hv.r01 j hj
    · show upf S.rn k 1 j = 0
      by_cases e : j = k
      · subst e
        rw [show S.hd j = false from hh] at hd
        cases hd
      · rw [upf_ne _ _ e]
        exact hv.z j hj hf hh
    · show S.left - 1 + sumN (upf S.rn k 1) R.n = 64
      rw [sumN_upf _ _ _ _ hk]
      omega
  have k1 : QKx R k S { S with left := wrap64 (S.left + -1), rn := upf S.rn k (wrap64 (S.rn k + 1)) } := ⟨fun _ h => h, rfl, fun j hj hne _ => ⟨upf_ne _ _ hne, rfl⟩⟩
  have o1 : QS.Ok R { S with left := wrap64 (S.left + -1), rn := upf S.rn k (wrap64 (S.rn k + 1)) } := ⟨ho.input, ho.led⟩
  have ka : (R.a k).toNat < R.n := by omega
  obtain ⟨v2, k2, _⟩ := h _ (R.a k).toNat v1 o1 ka hm
  have o2 := hb.ok o1 ka
  have m2 : offs R (br { S with left := wrap64 (S.left + -1), rn := upf S.rn k (wrap64 (S.rn k + 1)) } (R.a k).toNat).2 < m := by
    rw [offs_hd (hb.hd _ _)]
    exact hm
  unfold runM
  rw [if_neg (by rw [hw]; omega)]
  dsimp only
  split
  · exact ⟨v2, k1.then k2⟩
  · split
    · exact ⟨v2, k1.then k2⟩
    · rename_i h5
      have hs := sec_ok hR hk h0 h5 (br { S with left := wrap64 (S.left + -1), rn := upf S.rn k (wrap64 (S.rn k + 1)) } (R.a k).toNat).1
      obtain ⟨v3, k3, _⟩ := h _ (secM R k (br { S with left := wrap64 (S.left + -1), rn := upf S.rn k (wrap64 (S.rn k + 1)) } (R.a k).toNat).1).toNat v2 o2 (by omega) m2
      split
      · exact ⟨v3, (k1.then k2).then k3⟩
      · exact ⟨v3, (k1.then k2).then k3⟩
theorem brM_q {R : QR} (hR : R.Ok) (hn : R.n ≤ 64) : ∀ f, Brq R (brM R f) f
  | 0 => fun S k _ _ _ hm => absurd hm (Nat.not_lt_zero _)
  | f + 1 => fun S k hv ho hk hm => by
    have ih := brM_q hR hn f
    have hb := brM_brings hR f
    unfold brM
    split
    · rename_i hf
      exact ⟨hv, QK.refl R S, .inl hf⟩
    · split
      · rename_i hd
        exact ⟨hv, QK.refl R S, .inr hd⟩
      · rename_i hf hd
        have hf0 : S.fr k = false := by simpa using hf
        have hd0 : S.hd k = false := by simpa using hd
        have h0 : R.op k ≠ 0 := fun e => hf (ho.input k hk e)
        have hm2 : offs R (taken S k) < f := by have := offs_taken hk hd0; omega
        have hz : S.rn k = 0 := hv.z k hk hf0 hd0
        have vt : QV R (taken S k) := ⟨hv.r01, fun j hj hf hh => by
          by_cases e : j = k
          · subst e; exact hz
          · exact hv.z j hj hf ((upf_ne S.hd true e).symm.trans hh), hv.sum⟩
        have ot : (taken S k).Ok R := ⟨ho.input, ho.led⟩
        obtain ⟨v1, k1⟩ := holds_q hb ih ((taken S k).mem k).led (taken S k) (ho.led k hk) vt ot hm2
        have hdt : (taken S k).hd k = true := upf_same _ _ _
        have o1 := holds_ok hb ((taken S k).mem k).led (taken S k) (ho.led k hk) ot
        -- what is known when the cell is to be released
        have key : ∀ S3 : QS, S3 = takenM R (brM R f) (taken S k) k → QV R S3 ∧ QKx R k (taken S k) S3 := fun S3 e => by
          subst e
          unfold takenM
          dsimp only
          have kx : QKx R k (taken S k) (holdsM (brM R f) ((taken S k).mem k).led (taken S k)).2 := ⟨k1.fr, k1.hd, fun j hj _ hc => k1.same j hj hc⟩
          split
          · exact ⟨v1, kx⟩
          · have hz1 : (holdsM (brM R f) ((taken S k).mem k).led (taken S k)).2.rn k = 0 := (k1.same k hk (.inr hdt)).1.trans hz
            have hd1 : (holdsM (brM R f) ((taken S k).mem k).led (taken S k)).2.hd k = true := by rw [k1.hd]; exact hdt
            obtain ⟨v2, k2⟩ := run_q hR hn hb ih hk h0 v1 o1 (by rw [offs_hd k1.hd]; exact hm2) hd1 hz1
            refine ⟨⟨v2.r01, v2.z, v2.sum⟩, ⟨fun j hj => k2.fr j (k1.fr j hj), k2.hd.trans k1.hd, fun j hj hne hc => ?_⟩⟩
            have h1 := k1.same j hj hc
            have h2 := k2.same j hj hne (hc.imp (k1.fr j) fun hd => by rw [k1.hd]; exact hd)
            exact ⟨h2.1.trans h1.1, (upf_ne _ _ hne).trans (h2.2.trans h1.2)⟩
        obtain ⟨v3, k3⟩ := key _ rfl
        refine ⟨⟨v3.r01, fun j hj hf2 hh2 => ?_, v3.sum⟩, ⟨fun j hj => ?_, ?_, fun j hj hc => ?_⟩, .inl (upf_same _ _ _)⟩
        · by_cases e : j = k
          · subst e
            have : upf (takenM R (brM R f) (taken S j) j).fr j true j = false := hf2
            rw [upf_same] at this
            cases this
          · exact v3.z j hj ((upf_ne _ _ e).symm.trans hf2) ((upf_ne _ _ e).symm.trans hh2)
        · show upf _ k true j = true
          unfold upf
          split
          · rfl
          · exact k3.fr j hj
        · show upf (takenM R (brM R f) (taken S k) k).hd k false = S.hd
          rw [k3.hd]
          show upf (upf S.hd k true) k false = _
          rw [upf_upf]
          exact upf_eta _ _ _ hd0
        · have hne : j ≠ k := fun e => by
            subst e
            rcases hc with hc | hc
            · exact hf hc
            · exact hd hc
          exact k3.same j hj hne (hc.imp id fun hd => (upf_ne S.hd true hne).trans hd)
theorem sumN_zero : ∀ n, sumN (fun _ => 0) n = 0
  | 0 => rfl
  | n + 1 => by unfold sumN; rw [sumN_zero n]; rfl
/-- What one question of a cell does. -/
theorem ask_facts {R : QR} (hR : R.Ok) (hn : R.n ≤ 64) {T : QT} (hT : T.Ok R) {k : Nat} (hk : k < R.n) : ¬ (askS R T 64 k).left < 0 ∧ (askT R T 64 k).Ok R ∧ (∀ j, j < R.n → T.fr j = true → (askT R T 64 k).fr j = true ∧ (askT R T 64 k).rn j = wrap64 (T.rn j) ∧ (askT R T 64 k).mem j = T.mem j) ∧
    (∀ j, j < R.n → (askT R T 64 k).rn j = wrap64 (T.rn j) ∨ (askT R T 64 k).rn j = wrap64 (T.rn j + 1) ∧ (askT R T 64 k).fr j = true) ∧ (askT R T 64 k).fr k = true := by
  have v0 : QV R (startS T 64) := ⟨fun _ _ => .inl rfl, fun _ _ _ _ => rfl, by
    show (64 : Int) + sumN (fun _ => 0) R.n = 64
    rw [sumN_zero]; rfl⟩
  have o0 : (startS T 64).Ok R := ⟨hT.input, hT.led⟩
  obtain ⟨v, q, f⟩ := brM_q hR hn (R.n + 1) (startS T 64) k v0 o0 hk (offs_start R T 64)
  have ok := (brM_brings hR (R.n + 1)).ok o0 hk
  have hs := sumN_le _ R.n v.r01
  have hsum := v.sum
  refine ⟨?_, ⟨ok.input, ok.led⟩, fun j hj hf => ?_, fun j hj => ?_, ?_⟩
  · show ¬ (brM R (R.n + 1) (startS T 64) k).2.left < 0
    omega
  · have h1 := q.same j hj (.inl hf)
    refine ⟨q.fr j hf, ?_, h1.2⟩
    show wrap64 (T.rn j + (brM R (R.n + 1) (startS T 64) k).2.rn j) = _
    rw [h1.1]
    show wrap64 (T.rn j + 0) = _
    rw [Int.add_zero]
  · show wrap64 (T.rn j + (brM R (R.n + 1) (startS T 64) k).2.rn j) = _ ∨ wrap64 (T.rn j + (brM R (R.n + 1) (startS T 64) k).2.rn j) = _ ∧ (brM R (R.n + 1) (startS T 64) k).2.fr j = true
    rcases v.r01 j hj with h | h
    · left
      rw [h, Int.add_zero]
    · right
      rw [h]
      refine ⟨rfl, ?_⟩
      cases e : (brM R (R.n + 1) (startS T 64) k).2.fr j with
      | true => rfl
      | false =>
        have := v.z j hj e (by rw [q.hd]; rfl)
        omega
  · rcases f with f | f
    · exact f
    · cases f
/-- Up to the first Runs. -/
structure FewA (R : QR) (T : QT) : Prop where
  ok : T.Ok R
  inp : ∀ k, k < R.n → R.op k = 0 → T.fr k = true ∧ (T.mem k).out.err = 0 ∧ T.rn k = 0
  run : ∀ k, k < R.n → T.rn k = 0 ∨ T.rn k = 1 ∧ T.fr k = true
theorem zero_ok (R : QR) : (zeroT R).Ok R := ⟨fun k _ h => by show (R.op k == 0) = true; simpa using h, fun _ _ l hl => by cases hl⟩
theorem few_zero (R : QR) : FewA R (zeroT R) ∧ ∀ k, (zeroT R).rn k = 0 := ⟨⟨zero_ok R, fun k _ h => ⟨by show (R.op k == 0) = true; simpa using h, rfl, rfl⟩, fun _ _ => .inl rfl⟩, fun _ => rfl⟩
theorem setM_ok {R : QR} {T : QT} (hT : T.Ok R) (k : Nat) (v : Int) : (setM R T k v).Ok R := by
  unfold setM
  split
  · exact hT
  · refine ⟨fun j _ h => by show (R.op j == 0) = true; simpa using h, fun j hj => ?_⟩
    show ∀ l ∈ (upf T.mem k _ j).led, _
    by_cases e : j = k
    · subst e; rw [upf_same]; exact hT.led j hj
    · rw [upf_ne _ _ e]; exact hT.led j hj
theorem setM_err {R : QR} {T : QT} (k : Nat) (v : Int) (j : Nat) : ((setM R T k v).mem j).out.err = (T.mem j).out.err := by
  unfold setM
  split
  · rfl
  · show (upf T.mem k _ j).out.err = _
    by_cases e : j = k
    · subst e; rw [upf_same]
    · rw [upf_ne _ _ e]
theorem few_set {R : QR} {T : QT} (h : FewA R T) (hz : ∀ k, T.rn k = 0) (k : Nat) (v : Int) : FewA R (setM R T k v) ∧ ∀ j, (setM R T k v).rn j = 0 := by
  have hr : (setM R T k v).rn = T.rn := by unfold setM; split <;> rfl
  have ok := setM_ok h.ok k v
  exact ⟨⟨ok, fun j hj h0 => ⟨ok.input j hj h0, by rw [setM_err]; exact (h.inp j hj h0).2.1, by rw [hr]; exact hz j⟩, fun j _ => .inl (by rw [hr]; exact hz j)⟩, fun j => by rw [hr]; exact hz j⟩
theorem few_ask {R : QR} (hR : R.Ok) (hn : R.n ≤ 64) {T : QT} (h : FewA R T) {k : Nat} (hk : k < R.n) : FewA R (askT R T 64 k) := by
  obtain ⟨_, ok, a1, a2, _⟩ := ask_facts hR hn h.ok hk
  refine ⟨ok, fun j hj h0 => ?_, fun j hj => ?_⟩
  · obtain ⟨i1, i2, i3⟩ := h.inp j hj h0
    obtain ⟨b1, b2, b3⟩ := a1 j hj i1
    exact ⟨b1, by rw [b3]; exact i2, by rw [b2, i3]; exact wrap64_at _ (by omega)⟩
  · rcases h.run j hj with h1 | ⟨h1, h2⟩
    · rcases a2 j hj with h3 | ⟨h3, h4⟩
      · left; rw [h3, h1]; exact wrap64_at _ (by omega)
      · right; rw [h3, h1]; exact ⟨wrap64_at _ (by omega), h4⟩
    · right
      obtain ⟨b1, b2, b3⟩ := a1 j hj h2
      exact ⟨by rw [b2, h1]; exact wrap64_at _ (by omega), b1⟩
/-- Behind the first Runs (which told u). -/
structure FewB (R : QR) (u : Nat → Int) (same : Bool) (T : QT) : Prop where
  ok : T.Ok R
  run : ∀ k, k < R.n → T.rn k = u k ∨ T.rn k = u k + 1 ∧ T.fr k = true
  inp : ∀ k, k < R.n → R.op k = 0 → T.rn k = u k
  sm : same = true → ∀ k, k < R.n → T.fr k = true ∧ T.rn k = u k
theorem fewB_ask {R : QR} (hR : R.Ok) (hn : R.n ≤ 64) {u : Nat → Int} (hu : ∀ k, k < R.n → u k = 0 ∨ u k = 1) {same : Bool} {T : QT} (h : FewB R u same T) {k : Nat} (hk : k < R.n) : FewB R u same (askT R T 64 k) := by
  obtain ⟨_, ok, a1, a2, _⟩ := ask_facts hR hn h.ok hk
  have w : ∀ j, j < R.n → ∀ d : Int, 0 ≤ d ∧ d ≤ 2 → wrap64 (u j + d) = u j + d := fun j hj d hd => wrap64_at _ (by have := hu j hj; omega)
  refine ⟨ok, fun j hj => ?_, fun j hj h0 => ?_, fun hs j hj => ?_⟩
  · rcases h.run j hj with h1 | ⟨h1, h2⟩
    · rcases a2 j hj with h3 | ⟨h3, h4⟩
      · left; rw [h3, h1]; have := w j hj 0 (by omega); rwa [Int.add_zero] at this
      · right; rw [h3, h1]; exact ⟨w j hj 1 (by omega), h4⟩
    · right
      obtain ⟨b1, b2, b3⟩ := a1 j hj h2
      exact ⟨by rw [b2, h1]; exact w j hj 1 (by omega), b1⟩
  · obtain ⟨b1, b2, b3⟩ := a1 j hj (h.ok.input j hj h0)
    rw [b2, h.inp j hj h0]
    have := w j hj 0 (by omega)
    rwa [Int.add_zero] at this
  · obtain ⟨i1, i2⟩ := h.sm hs j hj
    obtain ⟨b1, b2, b3⟩ := a1 j hj i1
    refine ⟨b1, ?_⟩
    rw [b2, i2]
    have := w j hj 0 (by omega)
    rwa [Int.add_zero] at this
end Go.Proofs.Ytdlnlcjmjgbikaa
