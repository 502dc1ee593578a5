/- The document's own tokens of a text;the same tokens. -/
import Derived.Test.YtgpcpbmacdhlkaaGreatDoorFc
import Derived.Test.YtgpcpbmacdhlkaaGreatDoorTa
namespace Go.Proofs.YtgpcpbmacdhlkaaGreatDoor
open Go.RowKit
open M
theorem info53:(Tryz.prog.info? 114).map (fun i=>(i.zero,i.size,i.bytes))=some (some (.agg #[.int .i64 0,.int .i64 0,.int .i64 0]),3,24):=by kernel_rfl
set_option maxRecDepth 100000 in
set_option maxHeartbeats 4000000 in
theorem refTokens_any (s:ByteArray) (w:World) (hs:s.size≤1073741824) :
  Calls Tryz.prog 44 #[.string s] w fun e w'=>∃ v,e=.returned v∧w'.ownsRow w.heap.size 114 3 v (toks 0 (bs s)).length ((toks 0 (bs s)).flatMap tkv)∧Below w.heap.size w w':=by
 obtain ⟨i0,hi0,hz0,hz1,hz2⟩:=info_parts info53
 go_enter Tryz.func44,Tryz.ntmps44
 go_wp2_with fail
 go_loopw [3,4] (fun v i wr=>∃ (L0:List Tk) (q:Nat),i=.int .i64 q∧q≤s.size∧L0.length≤q∧Hid (wr.ownsRow w.heap.size 114 3 v L0.length (L0.flatMap tkv))∧Hid (toks 0 (bs s)=L0++toks q ((bs s).drop q))∧Below w.heap.size w wr) (fun _ i _=>s.size - (intOf i).toNat)
 case atStart=>exact ⟨[],0,rfl,by omega,by simp,World.ownsRow_nil _ _ _ _,(by simp:toks 0 (bs s)=[]++toks 0 ((bs s).drop 0)),Below.refl _ _⟩
 case round =>
  obtain ⟨L0,q,rfl,hq,hl0,HO,HE,hB⟩:=hrel
  by_cases hlt:q<s.size
  ·have hsz:=hB.size
   go_wp2_with fail
   refine (one_any s q _ hs hlt).mono ?_
   rintro e w2 ⟨rfl,k2⟩
   have hsz2:=k2.size
   have hown2:w2.ownsRow w.heap.size 114 3 u3 L0.length (L0.flatMap tkv):=Kp.owns (S:=fun _=>False) (Kp.ofBelow k2 _) HO.out (fun _ _=>id)
   have HO2:=hide hown2
   have hB2:Below w.heap.size w w2:=hB.trans (k2.mono hsz)
   have HB2:=hide hB2
   have htl:=tok_drop_le hlt
   have hbd:=tok_bounds (drop_ne hlt)
   clear hown2 hB2 k2
   obtain ⟨T,hT⟩:∃ T,M.tok ((bs s).drop q)=T:=⟨_,rfl⟩
   have HT:=hide hT
   rw [hT] at htl hbd ⊢
   clear hT
   go_wp2_with (at_builtin;refine wpList_append_lies _ rfl _ _ 107 rfl w.heap.size 114 i0 _ 3 24 Tryz.underlying107 hi0 hz0 hz1 hz2 rfl (by decide) u3 L0.length _ rfl (((HO2.out).alloc _).alloc _) ⟨w2.heap.size+1,0,none⟩ 1 1 (tkv ⟨T.1,q,T.2⟩) rfl rfl (World.news_of_block (cs:=#[.int .i64 T.1,.int .i64 q,.int .i64 T.2]) (by have:=heap_alloc_new (w2.alloc (.cells #[.int .i64 T.1,.int .i64 q,.int .i64 T.2] 114)) (.cells #[.int .i64 T.1,.int .i64 q,.int .i64 T.2] 114);simpa using this)) (by simp [Value.oneCell',tkv]) (by omega) (by unfold maxLen;omega) (by omega) (by simp;omega) (w2.heap.size+2) (by simp) ?_;intro g cap w5 hown5 hgrow5 hat5 hlt5;have kW:Kp (fun k=>u3.ownBlock=some k) ((w2.alloc (.cells #[.int .i64 T.1,.int .i64 q,.int .i64 T.2] 114)).alloc (.cells #[.int .i64 T.1,.int .i64 q,.int .i64 T.2] 114)) w5:=Kp.grown (Kp.refl _ _) hgrow5 (fun k e _=>e);have g5:Blk3T w5 w2.heap.size (.int .i64 T.1) (.int .i64 q) (.int .i64 T.2):=Kp.heap kW (Kp.heap (Kp.alloc (Kp.refl (fun _=>False) (w2.alloc (.cells #[.int .i64 T.1,.int .i64 q,.int .i64 T.2] 114))) _) (Blk3T.new w2 _ _ _) id) (fun e=>by have:=(owns_ge HO2.out _ e).2;omega);obtain ⟨⟨-,-,c5⟩,-⟩:=g5.facts)
   have hge:=owns_ge HO2.out
   refine ⟨⟨L0++[⟨T.1,q,T.2⟩],q+T.2,by go_num,htl,by rw [List.length_append];simp only [List.length_singleton];omega,?_,?_,?_⟩,by simp [intOf];omega⟩
   ·show w5.ownsRow _ _ _ _ _ _
    rw [toks_flat,List.length_append];exact hown5
   ·show _=_
    rw [HE.out,toks_cons (drop_ne hlt),List.drop_drop,HT.out];simp
   ·have k3:Kp (fun k=>u3.ownBlock=some k) w2 w5:=Kp.trans (Kp.alloc (Kp.alloc (Kp.refl _ w2) _) _) kW (fun _ _ e=>e)
    exact (HB2.out).trans (k3.below (by omega) (fun k e=>(hge k e).1))
  ·have hqe:q=s.size:=by omega
   have HEN:Hid ((bs s).drop q=[]):=by show _=_;rw [hqe,← bs_len];simp
   go_wp2_with fail
   go_ret
   have e1:toks 0 (bs s)=L0:=by have:=HE.out;rw [HEN.out,toks_nil,List.append_nil] at this;exact this
   rw [e1]
   exact ⟨_,rfl,HO.out,hB⟩
end Go.Proofs.YtgpcpbmacdhlkaaGreatDoor
