/- The document's lines of any expression. -/
import Derived.Test.YtgpcpbmacdhlkaaGreatDoorLkg
import Derived.Test.YtgpcpbmacdhlkaaGreatDoorLks
import Derived.Test.YtgpcpbmacdhlkaaGreatDoorLkt
namespace Go.Proofs.YtgpcpbmacdhlkaaGreatDoor
open Go.RowKit
open M
theorem psz_pts {k:Nat} {ps:List X.Part} {q:X.Part} (hq:q∈X.pts ps):X.psz q<X.psz (.br k ps):=by
 have hm:q∈ps:=(List.mem_filter.1 hq).1
 obtain ⟨j,hj⟩:=List.getElem?_of_mem hm
 have:=X.pssz_mem ps j q hj
 rw [X.psz];omega
theorem yexpr_any:∀ (m:Nat) (p:X.Part),X.psz p≤m→X.Sh p→Fine p→EC p:=by
 intro m
 induction m with
 | zero=>intro p h;have:=X.psz_pos p;omega
 | succ m ih =>
  intro p hm hs hp
  have hk:∀ {k:Nat} {ps:List X.Part},p=.br k ps→∀ q∈X.pts ps,X.Sh q→EC q:=fun {k ps} e q hq hsq=>by
   subst e
   have:=psz_pts (k:=k) hq
   exact ih q (by omega) hsq (hp.part hq)
  have hs2:=hs
  cases hs2 with
  | tok k t ps hkk h =>
   have:k=15∨k=16∨k=17∨k=18∨k=19:=by omega
   rcases this with rfl|rfl|rfl|rfl|rfl
   ·exact expr_tok15 ps t h hs hp
   ·exact expr_tok16 ps t h hs hp
   ·exact expr_tok17 ps t h hs hp
   ·exact expr_tok18 ps t h hs hp
   ·exact expr_tok19 ps t h hs hp
  | lett ps a b c d p q h h1 h2=>exact expr_lett ps a b c d p q h hs h2 hp (hk rfl q (by rw [h];simp) h2)
  | ite ps a b c p q s h hc h1 h2 h3=>exact expr_ite ps a b c p q s h hs h2 h3 hp (hk rfl q (by rw [h];simp) h2) (hk rfl s (by rw [h];simp) h3)
  | fn ps a b qs p h h1=>exact expr_fn ps a b qs p h hs h1 hp (hk rfl p (by rw [h];simp) h1)
  | bin ps p a q h h1 h2=>exact expr_bin ps p a q h hs h1 h2 hp (hk rfl p (by rw [h];simp) h1) (hk rfl q (by rw [h];simp) h2)
  | call ps p qs h h1 hb =>
   have hq12:.br 12 qs∈X.pts ps:=by rw [h];simp
   have hf12:=hp.part hq12
   have hz12:=psz_pts (k:=11) hq12
   generalize hl:X.pts qs=l at *
   cases hb with
   | none _ _ a b ha hb=>exact expr_call0 ps p qs a b h hl hs hp
   | some _ _ a ml ha hA =>
    refine expr_call ps p qs a ml h hl hA hs hp (fun q hq hsq=>?_)
    have hqm:q∈X.pts qs:=by rw [hl];exact List.mem_cons_of_mem _ hq
    have:=psz_pts (k:=12) hqm
    exact ih q (by omega) hsq (hf12.part hqm)
  | list ps hb =>
   generalize hl:X.pts ps=l at *
   cases hb with
   | none _ _ a b ha hb=>exact expr_list0 ps a b hl hs hp
   | some _ _ a ml ha hA=>exact expr_list ps a ml hl hA hs hp (fun q hq hsq=>hk rfl q (by rw [hl];exact List.mem_cons_of_mem _ hq) hsq)
  | group ps a p b h ha hb h1=>exact expr_group ps a [p,X.lf b] h (.last [41] p b h1 hb) hs hp (fun q hq hsq=>hk rfl q (by rw [h];exact List.mem_cons_of_mem _ hq) hsq)
end Go.Proofs.YtgpcpbmacdhlkaaGreatDoor
