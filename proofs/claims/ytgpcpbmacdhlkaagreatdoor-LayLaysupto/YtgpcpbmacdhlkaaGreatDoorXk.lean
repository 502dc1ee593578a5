/- The last part of a branch goes into a new one. -/
import Derived.Test.YtgpcpbmacdhlkaaGreatDoorXf
import Derived.Test.YtgpcpbmacdhlkaaGreatDoorXb
namespace Go.Proofs.YtgpcpbmacdhlkaaGreatDoor
open Go.RowKit
open M
theorem IsP.iface {w:World} {D:Nat→Prop} {v:Value} {p:X.Part} (h:IsP w D v p):∃ ty x,v=.iface ty x:=by
 cases h with
 | leaf k x=>exact ⟨_,_,rfl⟩
 | miss m=>exact ⟨_,_,rfl⟩
 | br k N cap ao vs ps hN hb hc hr hp=>exact ⟨_,_,rfl⟩
 | kid N n p hn h=>exact ⟨_,_,rfl⟩
theorem Wk.last {w:World} {rb:Nat} {s:ByteArray} {L:List Tk} {tv:Value} {a dp B k:Nat} {rv:Value} {vs:List Value} {ps:List X.Part} {p:X.Part} {D:Nat→Prop} (h:Wk w rb s L tv a dp B k rv vs (ps++[p]) D) :
  ∃ vs0 ty x,vs=vs0++[.iface ty x]∧vs0.length=ps.length∧Each w D vs0 ps∧IsP w D (.iface ty x) p:=by
 have hl:=h.len
 rw [List.length_append,List.length_singleton] at hl
 obtain ⟨v,h1,h2⟩:=h.each ps.length p (by rw [List.getElem?_append_right (Nat.le_refl _),Nat.sub_self];rfl)
 obtain ⟨ty,x,rfl⟩:=h2.iface
 have e:vs=vs.take ps.length++[.iface ty x]:=by
  conv=>lhs;rw [← List.take_append_drop ps.length vs]
  congr 1
  rw [List.drop_eq_getElem_cons (by omega),List.drop_eq_nil_iff.2 (by omega)]
  congr 1
  exact Option.some.inj ((List.getElem?_eq_getElem (by omega)).symm.trans h1)
 refine ⟨vs.take ps.length,ty,x,e,by rw [List.length_take];omega,fun i q hq=>?_,h2⟩
 have hi:i<ps.length:=by
  rcases Nat.lt_or_ge i ps.length with g|g
  ·exact g
  ·rw [List.getElem?_eq_none g] at hq;cases hq
 obtain ⟨u,h3,h4⟩:=h.each i q (by rw [List.getElem?_append_left hi];exact hq)
 exact ⟨u,by rw [List.getElem?_take_of_lt hi];exact h3,h4⟩
set_option maxRecDepth 100000 in
set_option maxHeartbeats 4000000 in
theorem wrap_any (rb:Nat) (s:ByteArray) (L:List Tk) (tv:Value) (a dp B k:Nat) (rv:Value) (vs:List Value) (ps:List X.Part) (p:X.Part) (D:Nat→Prop) (w:World) (h:Wk w rb s L tv a dp B k rv vs (ps++[p]) D) (hl:ps.length+1≤1073741824) (kd:Nat) :
  Calls Tryz.prog 149 #[.pointer (some ⟨B,0,none⟩),.int .i64 kd] w fun e w'=>∃ N rvn v,e=.returned (.pointer (some ⟨N,0,none⟩))∧Hid (Opn w rb s L tv B k rv ps D N rvn w'∧Wk w' rb s L tv a dp N kd rvn [v] [p] D):=by
 have HK:=hide h
 obtain ⟨vs0,ty,x,rfl,hl0,he0,hp0⟩:=h.last
 obtain ⟨⟨c0,c1⟩,f0,f1⟩:=h.bra.facts
 obtain ⟨g,cap,rfl,-,hgl⟩:=h.bra.row.form (by simp)
 have hlen:(vs0++[Value.iface ty x]).length=ps.length+1:=by simp [hl0]
 rw [hlen] at c1
 have x1:w.cell? ⟨g,ps.length,none⟩=some (.iface ty x):=by
  have:=h.bra.row.cells (g:=g) rfl ps.length (.iface ty x) (by rw [List.getElem?_append_right (by omega),hl0,Nat.sub_self];rfl)
  rwa [Addr.add_lit,Nat.zero_add] at this
 have x2:w.frozen? ⟨g,ps.length,none⟩=false:=h.bra.row.frozenAt _
 have HE0:=hide he0
 have HP0:=hide hp0
 have hbl:=h.bra.lt
 have hgB:=(h.sepG g rfl).2.2
 clear h he0 hp0
 go_enter Tryz.func149,Tryz.ntmps149
 go_wp2_with fail
 go_ret
 refine ⟨w.heap.size+1,.slice (some ⟨w.heap.size,0,none⟩) 1 1,.iface ty x,rfl,?_⟩
 have h:=HK.out
 have hrl:=h.rdr.raw.lt
 have k0:Kp (fun q=>q=g) w (w.setCell ⟨g,ps.length,none⟩ (.iface 73 (.pointer (some ⟨w.heap.size+1,0,none⟩)))):=Kp.setCell (Kp.refl (fun q=>q=g) w) (p:=⟨g,ps.length,none⟩) (fun _=>rfl) _
 have hset:=(h.bra.row.stored ps.length (.iface 73 (.pointer (some ⟨w.heap.size+1,0,none⟩)))).1
 have hse:(vs0++[Value.iface ty x]).set ps.length (.iface 73 (.pointer (some ⟨w.heap.size+1,0,none⟩)))=vs0++[.iface 73 (.pointer (some ⟨w.heap.size+1,0,none⟩))]:=by
  rw [List.set_append_right _ _ (by omega),hl0,Nat.sub_self];rfl
 rw [hse] at hset
 have hs0:(w.setCell ⟨g,ps.length,none⟩ (.iface 73 (.pointer (some ⟨w.heap.size+1,0,none⟩)))).heap.size=w.heap.size:=by simp
 generalize w.setCell ⟨g,ps.length,none⟩ (.iface 73 (.pointer (some ⟨w.heap.size+1,0,none⟩)))=W0 at *
 have k2:Kp (fun q=>q=g) w ((W0.alloc (Obj.cells #[Value.iface ty x] 134)).alloc (Obj.cells #[Value.int IntKind.i64 kd,Value.slice (some ⟨w.heap.size,0,none⟩) 1 1] 76)):=Kp.alloc (Kp.alloc k0 _) _
 have hr1:((W0.alloc (Obj.cells #[Value.iface ty x] 134)).alloc (Obj.cells #[Value.int IntKind.i64 kd,Value.slice (some ⟨w.heap.size,0,none⟩) 1 1] 76)).heap[w.heap.size]?=some (.cells #[.iface ty x] 134 (0,0)):=by
  rw [← hs0]
  exact (heap_alloc_old (W0.alloc _) _ (show W0.heap.size<_ by simp)).trans (heap_alloc_new W0 _)
 have hr2:((W0.alloc (Obj.cells #[Value.iface ty x] 134)).alloc (Obj.cells #[Value.int IntKind.i64 kd,Value.slice (some ⟨w.heap.size,0,none⟩) 1 1] 76)).heap[w.heap.size+1]?=some (.cells #[.int .i64 kd,.slice (some ⟨w.heap.size,0,none⟩) 1 1] 76 (0,0)):=by
  have:=heap_alloc_new (W0.alloc (Obj.cells #[Value.iface ty x] 134)) (Obj.cells #[Value.int IntKind.i64 kd,Value.slice (some ⟨w.heap.size,0,none⟩) 1 1] 76)
  rwa [World.size_alloc,hs0] at this
 have hown:=(hset.alloc (Obj.cells #[Value.iface ty x] 134)).alloc (Obj.cells #[Value.int IntKind.i64 kd,Value.slice (some ⟨w.heap.size,0,none⟩) 1 1] 76)
 have hsz:((W0.alloc (Obj.cells #[Value.iface ty x] 134)).alloc (Obj.cells #[Value.int IntKind.i64 kd,Value.slice (some ⟨w.heap.size,0,none⟩) 1 1] 76)).heap.size=w.heap.size+2:=by simp [hs0]
 generalize (W0.alloc (Obj.cells #[Value.iface ty x] 134)).alloc (Obj.cells #[Value.int IntKind.i64 kd,Value.slice (some ⟨w.heap.size,0,none⟩) 1 1] 76)=W at *
 have hDg:∀ q,D q→¬(q=g):=fun q hq e=>(h.sepG g rfl).1 (e ▸ hq)
 refine ⟨⟨a,dp,_,_,_,vs0,h,⟨k2.heap h.bra.blk (fun e=>hgB e.symm),?_⟩,hl0,(HE0.out).keep k2 hDg,fun q hq=>.inl hq,Kp.mono k2 (fun i _ e=>.inr (.inr (by rw [e];rfl))),by omega,by omega,fun q hq=>?_⟩,?_⟩
 ·have e:(vs0++[Value.iface 73 (.pointer (some ⟨w.heap.size+1,0,none⟩))]).length=(vs0++[Value.iface ty x]).length:=by simp
  rw [e];exact hown
 ·simp only [Value.ownBlock,Option.some.injEq] at hq ⊢
  subst hq
  exact ⟨Nat.le_refl _,fun e=>by have e2:g=w.heap.size:=Option.some.inj e;omega⟩
 ·refine ⟨h.rdr.keep k2 (fun e=>(h.sepG g rfl).2.1 e.symm) (fun q hq e=>(h.sepT q hq).2.2.1 (by rw [e];rfl)),⟨hr2,⟨by simp,.inr ⟨w.heap.size,1,#[.iface ty x],rfl,Nat.zero_le _,hr1,Nat.le_refl _,by unfold maxLen;omega,rfl,rfl⟩⟩⟩,rfl,?_,fun q hq=>by have:=h.dlt q hq;omega,⟨h.sep.1,fun hd=>by have:=h.dlt _ hd;omega,by omega⟩,fun q hq=>?_,fun q hq=>?_⟩
  ·have:=(Each.nil W D).snoc rfl ((HP0.out).keep k2 hDg)
   exact this
  ·simp only [Value.ownBlock,Option.some.injEq] at hq
   subst hq
   exact ⟨fun hd=>by have:=h.dlt _ hd;omega,by omega,by omega⟩
  ·obtain ⟨a1,a2,a3,a4⟩:=h.sepT q hq
   exact ⟨a1,by omega,(fun e=>by simp only [Value.ownBlock,Option.some.injEq] at e;omega),by omega⟩
end Go.Proofs.YtgpcpbmacdhlkaaGreatDoor
/- One level deeper. -/
namespace Go.Proofs.YtgpcpbmacdhlkaaGreatDoor
open Go.RowKit
open M
theorem RdrT.deep {w:World} {rb:Nat} {s:ByteArray} {L:List Tk} {tv:Value} {a dp:Nat} (h:RdrT w rb s L tv a dp) (d2:Nat):RdrT (w.setCell ⟨rb,6,none⟩ (.int .i64 d2)) rb s L tv a d2 :=
 ⟨h.raw.set6 _,h.row.keep (On.set (Kp.refl _ w) 6 _) (fun k hk e=>h.own k hk e),h.le,h.own⟩
theorem Done.deep {w w4:World} {rb:Nat} {s:ByteArray} {L:List Tk} {tv:Value} {dp B k:Nat} {rv:Value} {ps:List X.Part} {ts:List X.Tok} {D:Nat→Prop} (h:Done w rb s L tv dp B k rv ps ts D w4) (d2:Nat):Done w rb s L tv d2 B k rv ps ts D (w4.setCell ⟨rb,6,none⟩ (.int .i64 d2)):=by
 obtain ⟨a',rv',vs',D',h1,h2,h3,h4,h5,h6⟩:=h
 have hOn:On rb w4 (w4.setCell ⟨rb,6,none⟩ (.int .i64 d2)):=On.set (Kp.refl _ w4) 6 _
 exact ⟨a',rv',vs',D',h1.moved hOn (h1.rdr.deep d2),h2,h3,h4,h5,Kp.trans h6 hOn (fun i _ e=>.inl e)⟩
theorem Done.then {w w1:World} {rb:Nat} {s:ByteArray} {L:List Tk} {tv:Value} {dp B k:Nat} {rv:Value} {ps1:List X.Part} {ts1:List X.Tok} {D:Nat→Prop} {fn:FuncId} {F:X.R} {ok:List X.Tok→Prop} {Q:Ending→World→Prop}
  (h:Done w rb s L tv dp B k rv ps1 ts1 D w1) (hF:Reads fn F ok s L dp) (hok:ok ts1) (hl:ps1.length+(F ts1).1.length≤1073741824)
  (hQ:∀ w2,Hid (Done w rb s L tv dp B k rv (ps1++(F ts1).1) (F ts1).2 D w2)→Q (.returned (.tuple #[])) w2) :
  Calls Tryz.prog fn #[.pointer (some ⟨rb,0,none⟩),.pointer (some ⟨B,0,none⟩)] w1 Q:=by
 obtain ⟨a1,rv1,vs1,D1,g1,rfl,g3,g4,g5,g6⟩:=h
 refine (hF rb tv a1 B k rv1 vs1 ps1 D1 w1 g1 hok hl).mono ?_
 rintro e w2 ⟨rfl,H2⟩
 exact hQ w2 (Done.trans g3 g4 g5 g6 H2.out)
set_option maxRecDepth 100000 in
set_option maxHeartbeats 4000000 in
theorem nest_any (s:ByteArray) (L:List Tk) (dp:Nat) (hS:TokS s L) (hdp:dp≤1000) (fn:FuncId) (hen:∀ args w,(callFunc fn args).run Tryz.prog w=.ok (.enter fn args) w) (I:X.R) (hI:Reads fn I (fun _=>True) s L (dp+1))
  (rb:Nat) (tv:Value) (a B k:Nat) (rv:Value) (vs:List Value) (ps:List X.Part) (D:Nat→Prop) (w:World) (h:Wk w rb s L tv a dp B k rv vs ps D) (hn:X.nxt (remT s L a)≠none) (kd:Nat) (hl:ps.length+1≤1073741824) (hl2:(X.andThen X.take I (remT s L a)).1.length≤1073741824) :
  Calls Tryz.prog 130 #[.pointer (some ⟨rb,0,none⟩),.pointer (some ⟨B,0,none⟩),.int .i64 kd,.func (.func fn) #[.pointer (some ⟨rb,0,none⟩)] #[]] w fun en w'=>en=.returned (.tuple #[])∧Hid (Done w rb s L tv dp B k rv (ps++(X.node kd (X.andThen X.take I) (remT s L a)).1) (X.node kd (X.andThen X.take I) (remT s L a)).2 D w'):=by
 have hlA:(X.take (remT s L a)).1.length+(I (X.take (remT s L a)).2).1.length≤1073741824:=by
  have:(X.andThen X.take I (remT s L a)).1.length=(X.take (remT s L a)).1.length+(I (X.take (remT s L a)).2).1.length:=by simp [X.andThen]
  omega
 clear hl2
 have HH:=hide h
 clear h
 go_enter Tryz.func130,Tryz.ntmps130
 go_wp2_with fail
 refine (grow_any rb s L tv a dp B k rv vs ps D w HH.out (by omega) kd).mono ?_
 rintro e w1 ⟨rfl,H1⟩
 obtain ⟨⟨c0,c1,c2,c3,c4,c5,c6⟩,f0,f1,f2,f3,f4,f5,f6⟩:=(H1.out).2.rdr.raw.facts
 go_wp2_with fail
 have hOn:On rb w1 (w1.setCell ⟨rb,6,none⟩ (.int .i64 ((dp:Int)+1))):=On.set (Kp.refl _ w1) 6 _
 have HO2:=hide ((H1.out).1.moved hOn)
 have HW2:Hid (Wk (w1.setCell ⟨rb,6,none⟩ (.int .i64 ((dp:Int)+1))) rb s L tv a (dp+1) w.heap.size kd (.slice none 0 0) [] [] D):=(H1.out).2.moved hOn (by have:=(H1.out).2.rdr.deep (dp+1);rw [Int.natCast_add] at this;exact this)
 clear c0 c1 c2 c3 c4 c5 c6 f0 f1 f2 f3 f4 f5 f6 hOn H1
 generalize w1.setCell ⟨rb,6,none⟩ (.int .i64 ((dp:Int)+1))=W2 at *
 refine (take_any s L (dp+1) hS rb tv a w.heap.size kd (.slice none 0 0) [] [] D W2 HW2.out hn (by simp;omega)).mono ?_
 rintro e w3 ⟨rfl,H3⟩
 rw [List.nil_append] at H3
 go_wp2_with fail
 refine Done.then (H3.out) hI trivial (by omega) ?_
 intro w4 H4
 have HD:Hid (∃ a4:Nat,RawT w4 rb s tv a4 (nxI L a4) (X.kindN (remT s L a4)) (ba (X.wordN (remT s L a4))) ((dp+1:Nat):Int)):=by
  obtain ⟨a4,_,_,_,g1,_⟩:=H4.out
  exact ⟨a4,g1.rdr.raw⟩
 obtain ⟨a4,hraw⟩:=HD.out
 obtain ⟨⟨c0,c1,c2,c3,c4,c5,c6⟩,f0,f1,f2,f3,f4,f5,f6⟩:=hraw.facts
 rw [Int.natCast_add] at c6
 have HC:Hid (Done w rb s L tv dp B k rv (ps++(X.node kd (X.andThen X.take I) (remT s L a)).1) (X.node kd (X.andThen X.take I) (remT s L a)).2 D (w4.setCell ⟨rb,6,none⟩ (.int .i64 dp))):=(HO2.out).close (H4.out.deep dp)
 clear H4 H3 HD hraw HO2 HW2
 go_wp2_with fail
 go_end0
 exact ⟨rfl,by simpa using HC⟩
end Go.Proofs.YtgpcpbmacdhlkaaGreatDoor
/- Steps of a reader,one behind the other. -/
namespace Go.Proofs.YtgpcpbmacdhlkaaGreatDoor
open Go.RowKit
open M
def strA (ss:List (List UInt8)):Array Value:=(ss.map (fun x=>Value.string (ba x))).toArray
theorem strRow_all (w:World) (ss:List (List UInt8)) (hl:ss.length≤1073741824):StrRow (w.alloc (Obj.cells (strA ss) 9)) w.heap.size ss:=by
 refine ⟨fun i z hz=>?_,hl⟩
 rw [cell_of_row _ _ i _ _ _ (heap_alloc_new w _)]
 unfold strA
 simp [hz]
theorem Done.isNext {w w1:World} {rb:Nat} {s:ByteArray} {L:List Tk} {tv:Value} {dp B k:Nat} {rv:Value} {ps1:List X.Part} {ts1:List X.Tok} {D:Nat→Prop} {Q:Ending→World→Prop}
  (h:Done w rb s L tv dp B k rv ps1 ts1 D w1) (ss:List (List UInt8)) (hl:ss.length≤1073741824)
  (hQ:∀ w2,Hid (Done w rb s L tv dp B k rv ps1 ts1 D w2)→Q (.returned (.bool (ss.any (fun x=>X.pN x ts1)))) w2) :
  Calls Tryz.prog 82 #[.pointer (some ⟨rb,0,none⟩),.slice (some ⟨w1.heap.size,0,none⟩) ss.length ss.length] (w1.alloc (Obj.cells (strA ss) 9)) Q:=by
 obtain ⟨a1,rv1,vs1,D1,g1,rfl,g3,g4,g5,g6⟩:=h
 have kA:Below w1.heap.size w1 (w1.alloc (Obj.cells (strA ss) 9)):=(Below.refl _ w1).alloc (Nat.le_refl _) _
 refine (isNext_any rb s L tv a1 dp _ (g1.below kA).rdr w1.heap.size ss (strRow_all w1 ss hl)).mono ?_
 rintro e w2 ⟨rfl,k2⟩
 have hk:Below w1.heap.size w1 w2:=kA.trans (k2.mono (by simp))
 exact hQ w2 ⟨a1,rv1,vs1,D1,g1.below hk,rfl,g3,g4,g5,Kp.trans g6 (Kp.ofBelow hk (fun _=>False)) (fun _ _ h=>h.elim)⟩
theorem Done.want {w w1:World} {rb:Nat} {s:ByteArray} {L:List Tk} {tv:Value} {dp B k:Nat} {rv:Value} {ps1:List X.Part} {ts1:List X.Tok} {D:Nat→Prop} {Q:Ending→World→Prop}
  (h:Done w rb s L tv dp B k rv ps1 ts1 D w1) (hS:TokS s L) (ss:List (List UInt8)) (hx:∀ x∈ss,x≠[]) (hl1:ss.length≤1073741824) (hl:ps1.length+(X.wantsP ss ts1).1.length≤1073741824)
  (hQ:∀ w2,Hid (Done w rb s L tv dp B k rv (ps1++(X.wantsP ss ts1).1) (X.wantsP ss ts1).2 D w2)→Q (.returned (.tuple #[])) w2) :
  Calls Tryz.prog 112 #[.pointer (some ⟨rb,0,none⟩),.pointer (some ⟨B,0,none⟩),.slice (some ⟨w1.heap.size,0,none⟩) ss.length ss.length] (w1.alloc (Obj.cells (strA ss) 9)) Q:=by
 obtain ⟨a1,rv1,vs1,D1,g1,rfl,g3,g4,g5,g6⟩:=h
 have kA:Below w1.heap.size w1 (w1.alloc (Obj.cells (strA ss) 9)):=(Below.refl _ w1).alloc (Nat.le_refl _) _
 have hbl:=g1.bra.lt
 have hrl:=g1.rdr.raw.lt
 refine (want_any s L dp hS rb tv a1 B k rv1 vs1 ps1 D1 _ (g1.below kA) w1.heap.size ss (strRow_all w1 ss hl1) hx ⟨by omega,by omega,fun e=>by have:=(owns_ge g1.bra.row _ e).2;omega,by simp⟩ hl).mono ?_
 rintro e w2 ⟨rfl,H2⟩
 refine hQ w2 (Done.trans g3 g4 g5 (Kp.trans g6 (Kp.ofBelow kA (fun _=>False)) (fun _ _ h=>h.elim)) ?_)
 obtain ⟨a2,rv2,vs2,D2,f1,f2,f3,f4,f5,f6⟩:=H2.out
 refine ⟨a2,rv2,vs2,D2,f1,f2,f3,fun q hq=>?_,fun g hg=>?_,f6⟩
 ·exact f4 q hq
 ·exact f5 g hg
theorem Done.start {w:World} {rb:Nat} {s:ByteArray} {L:List Tk} {tv:Value} {a dp B k:Nat} {rv:Value} {vs:List Value} {ps:List X.Part} {D:Nat→Prop} (h:Wk w rb s L tv a dp B k rv vs ps D):Hid (Done w rb s L tv dp B k rv ps (remT s L a) D w):=Done.refl h
theorem Done.good {w w1:World} {rb:Nat} {s:ByteArray} {L:List Tk} {tv:Value} {dp B k:Nat} {rv:Value} {ps1:List X.Part} {ts1:List X.Tok} {D:Nat→Prop} (h:Done w rb s L tv dp B k rv ps1 ts1 D w1) (hS:TokS s L):X.Good ts1:=by
 obtain ⟨a1,rv1,vs1,D1,g1,rfl,-⟩:=h
 exact hS.rem a1
end Go.Proofs.YtgpcpbmacdhlkaaGreatDoor
/- Plain mathematics: readings that take away;loops with enough rounds. -/
namespace Go.Proofs.YtgpcpbmacdhlkaaGreatDoor
open M
namespace X
def Shr (f:R):Prop:=∀ ts,∃ n,(f ts).2=ts.drop n
theorem Shr.le {f:R} (h:Shr f) (ts:List Tok):(f ts).2.length≤ts.length:=by
 obtain ⟨n,e⟩:=h ts;rw [e,List.length_drop];omega
theorem Shr.good {f:R} (h:Shr f) {ts:List Tok} (hg:Good ts):Good (f ts).2:=by
 obtain ⟨n,e⟩:=h ts;rw [e];exact fun t ht=>hg t ((List.drop_sublist _ _).subset ht)
theorem Shr.nil:Shr nilR:=fun _=>⟨0,rfl⟩
theorem Shr.andThen {f g:R} (hf:Shr f) (hg:Shr g):Shr (andThen f g):=by
 intro ts
 obtain ⟨n,e⟩:=hf ts
 obtain ⟨m,e'⟩:=hg (f ts).2
 exact ⟨n+m,by show (g (f ts).2).2=_;rw [e',e,List.drop_drop]⟩
theorem Shr.node {f:R} (hf:Shr f) (k:Nat):Shr (node k f):=hf
theorem Shr.ite {f g:R} {c:List Tok→Bool} (hf:Shr f) (hg:Shr g):Shr (fun ts=>if c ts then f ts else g ts):=by
 intro ts
 show ∃ n,(if c ts then f ts else g ts).2=_
 split
 ·exact hf ts
 ·exact hg ts
theorem Shr.miss (m:List UInt8):Shr (fun ts=>([.miss m],ts)):=fun _=>⟨0,rfl⟩
theorem dropWhile_dropN (p:Tok→Bool) (l:List Tok):∃ n,l.dropWhile p=l.drop n:=⟨_,dropWhile_drop p l⟩
theorem Shr.take:Shr take:=by
 intro ts
 obtain ⟨n,e⟩:=dropWhile_dropN quiet ts
 exact ⟨n+1,by show (ts.dropWhile quiet).drop 1=_;rw [e,List.drop_drop]⟩
theorem take_lt {ts:List Tok} (h:nxt ts≠none):(take ts).2.length<ts.length:=by
 have h1:(ts.dropWhile quiet).length≤ts.length:=(List.dropWhile_sublist _).length_le
 have h2:0<(ts.dropWhile quiet).length:=by
  rcases Nat.eq_zero_or_pos (ts.dropWhile quiet).length with g|g
  ·exfalso;apply h;unfold nxt;rw [List.length_eq_zero_iff.1 g];rfl
  ·exact g
 show ((ts.dropWhile quiet).drop 1).length<_
 rw [List.length_drop];omega
theorem Shr.want (x:List UInt8):Shr (want x):=Shr.ite (c:=isN x) Shr.take (Shr.miss x)
theorem Shr.wname:Shr wname:=Shr.ite (c:=fun ts=>kindN ts==3) Shr.take (Shr.miss sName)
theorem isN_next {x:List UInt8} {ts:List Tok} (h:isN x ts=true):nxt ts≠none:=by
 intro e;unfold isN at h;rw [e] at h;cases h
theorem kindN_next {k:Nat} {ts:List Tok} (hk:k≠0) (h:(kindN ts==k)=true):nxt ts≠none:=by
 intro e;unfold kindN at h;rw [e] at h;simp at h;omega
theorem wantP_sign {x:List UInt8} {ts:List Tok} (hg:Good ts) (hs:x∈words∨x∈signs):wantP x ts=want x ts:=by
 unfold wantP want;rw [pN_sign hg hs]
theorem wantP_name {ts:List Tok} (hg:Good ts):wantP sName ts=wname ts:=by
 unfold wantP wname;rw [pN_name hg]
theorem wantsP_one (x:List UInt8):wantsP [x]=wantP x:=by rw [wantsP,wantsP,andThen_nil]
theorem sevGo_fuel {one:R} (hO:Shr one):∀ (n:Nat) (ts:List Tok),ts.length≤n→sevGo one n ts=sevGo one ts.length ts:=by
 intro n
 induction n using Nat.strongRecOn with
 | _ n ih =>
  intro ts h
  rcases Nat.lt_or_ge ts.length n with hlt|hge
  ·cases n with
   | zero=>omega
   | succ n =>
    cases hm:ts.length with
    | zero =>
     have h0:ts=[]:=List.length_eq_zero_iff.1 hm
     subst h0;rfl
    | succ m =>
     unfold sevGo
     by_cases hc:isN [44] ts=true
     ·rw [if_pos hc,if_pos hc]
      have hl:=take_lt (isN_next hc)
      have hl2:=hO.le (take ts).2
      have e1:=ih n (by omega) (one (take ts).2).2 (by omega)
      have e2:=ih m (by omega) (one (take ts).2).2 (by omega)
      show (_,_)=(_,_)
      simp only [X.andThen]
      rw [e1,e2]
     ·rw [if_neg hc,if_neg hc]
  ·rw [show n=ts.length by omega]
def sevL (one:R):R:=fun ts=>sevGo one ts.length ts
theorem sevL_yes {one:R} (hO:Shr one) {ts:List Tok} (h:isN [44] ts=true):sevL one ts=andThen take (andThen one (sevL one)) ts:=by
 have hl:=take_lt (isN_next h)
 have hl2:=hO.le (take ts).2
 unfold sevL
 obtain ⟨m,hm⟩:∃ m,ts.length=m+1:=⟨ts.length - 1,by omega⟩
 rw [hm]
 conv=>lhs;unfold sevGo
 rw [if_pos h]
 simp only [X.andThen]
 rw [sevGo_fuel hO m _ (by omega)]
theorem sevL_no {one:R} {ts:List Tok} (h:isN [44] ts=false):sevL one ts=([],ts):=by
 unfold sevL
 cases ts.length with
 | zero=>rfl
 | succ m=>unfold sevGo;rw [if_neg (by rw [h];simp)]
theorem Shr.sevGo {one:R} (h:Shr one):∀ n,Shr (sevGo one n)
 | 0=>Shr.nil
 | n+1=>Shr.ite (c:=isN [44]) (Shr.take.andThen (h.andThen (Shr.sevGo h n))) Shr.nil
theorem Shr.sevL {one:R} (h:Shr one):Shr (sevL one):=fun ts=>Shr.sevGo h ts.length ts
theorem several_eq (one:R) (e:List UInt8) (ts:List Tok):several one e ts=if isN e ts then want e ts else andThen one (andThen (sevL one) (want e)) ts:=rfl
theorem Shr.several {one:R} (h:Shr one) (e:List UInt8):Shr (several one e):=Shr.ite (c:=isN e) (Shr.want e) (h.andThen (h.sevL.andThen (Shr.want e)))
theorem Shr.params:Shr params:=((Shr.want _).andThen (Shr.wname.several _)).node 6
theorem rowGo_fuel {one:R} {ok:List Tok→Bool} (hO:Shr one) (hok:∀ ts,ok ts=true→nxt ts≠none):∀ (n:Nat) (p:List Part) (ts:List Tok),ts.length≤n→rowGo one ok n p ts=rowGo one ok ts.length p ts:=by
 intro n
 induction n using Nat.strongRecOn with
 | _ n ih =>
  intro p ts h
  rcases Nat.lt_or_ge ts.length n with hlt|hge
  ·cases n with
   | zero=>omega
   | succ n =>
    by_cases hc:ok ts=true
    ·have hl:=take_lt (hok ts hc)
     have hl2:=hO.le (take ts).2
     obtain ⟨m,hm⟩:∃ m,ts.length=m+1:=⟨ts.length - 1,by omega⟩
     rw [hm]
     unfold rowGo
     rw [if_pos hc,if_pos hc,ih n (by omega) _ _ (by show (one (take ts).2).2.length≤_;omega),ih m (by omega) _ _ (by show (one (take ts).2).2.length≤_;omega)]
    ·have e:∀ m,rowGo one ok (m+1) p ts=(p,ts):=fun m=>by unfold rowGo;rw [if_neg hc]
     rw [e n]
     cases hm:ts.length with
     | zero=>rfl
     | succ m=>rw [e m]
  ·rw [show n=ts.length by omega]
def rowL (one:R) (ok:List Tok→Bool) (p:List Part):R:=fun ts=>rowGo one ok ts.length p ts
theorem rowL_yes {one:R} {ok:List Tok→Bool} (hO:Shr one) (hok:∀ ts,ok ts=true→nxt ts≠none) {p:List Part} {ts:List Tok} (h:ok ts=true):rowL one ok p ts=rowL one ok [.br 10 (p++(andThen take one ts).1)] (andThen take one ts).2:=by
 have hl:=take_lt (hok ts h)
 have hl2:=hO.le (take ts).2
 unfold rowL
 obtain ⟨m,hm⟩:∃ m,ts.length=m+1:=⟨ts.length - 1,by omega⟩
 rw [hm]
 conv=>lhs;unfold rowGo
 rw [if_pos h,rowGo_fuel hO hok m _ _ (by show (one (take ts).2).2.length≤_;omega)]
theorem rowL_no {one:R} {ok:List Tok→Bool} {p:List Part} {ts:List Tok} (h:ok ts=false):rowL one ok p ts=(p,ts):=by
 unfold rowL
 cases ts.length with
 | zero=>rfl
 | succ m=>unfold rowGo;rw [if_neg (by rw [h];simp)]
theorem row_eq (one:R) (ok:List Tok→Bool) (ts:List Tok):row one ok ts=rowL one ok (one ts).1 (one ts).2:=rfl
theorem Shr.rowGo {one:R} {ok:List Tok→Bool} (h:Shr one):∀ (n:Nat) (p:List Part),Shr (rowGo one ok n p)
 | 0,_=>fun _=>⟨0,rfl⟩
 | n+1,p=>by
  intro ts
  unfold X.rowGo
  split
  ·obtain ⟨m,e⟩:=(Shr.take.andThen h) ts
   obtain ⟨m',e'⟩:=Shr.rowGo (ok:=ok) h n [.br 10 (p++(X.andThen X.take one ts).1)] (X.andThen X.take one ts).2
   exact ⟨m+m',by rw [e',e,List.drop_drop]⟩
  ·exact ⟨0,rfl⟩
theorem Shr.row {one:R} {ok:List Tok→Bool} (h:Shr one):Shr (row one ok):=by
 intro ts
 obtain ⟨m,e⟩:=h ts
 obtain ⟨m',e'⟩:=Shr.rowGo (ok:=ok) h (one ts).2.length (one ts).1 (one ts).2
 exact ⟨m+m',by show (X.rowGo _ _ _ _ _).2=_;rw [e',e,List.drop_drop]⟩
theorem Shr.args {E:R} (h:Shr E):Shr (args E):=(Shr.take.andThen (h.several _)).node 12
theorem args_lt {E:R} (h:Shr E) {ts:List Tok} (hn:nxt ts≠none):(args E ts).2.length<ts.length:=by
 have h1:=take_lt hn
 have h2:=(h.several [41]).le (take ts).2
 show (several E [41] (take ts).2).2.length<_
 omega
theorem callGo_fuel {E:R} (hE:Shr E):∀ (n:Nat) (p:List Part) (ts:List Tok),ts.length≤n→callGo E n p ts=callGo E ts.length p ts:=by
 intro n
 induction n using Nat.strongRecOn with
 | _ n ih =>
  intro p ts h
  rcases Nat.lt_or_ge ts.length n with hlt|hge
  ·cases n with
   | zero=>omega
   | succ n =>
    by_cases hc:isN [40] ts=true
    ·have hl:=args_lt hE (isN_next hc)
     obtain ⟨m,hm⟩:∃ m,ts.length=m+1:=⟨ts.length - 1,by omega⟩
     rw [hm]
     unfold callGo
     rw [if_pos hc,if_pos hc,ih n (by omega) _ _ (by omega),ih m (by omega) _ _ (by omega)]
    ·have e:∀ m,callGo E (m+1) p ts=(p,ts):=fun m=>by unfold callGo;rw [if_neg hc]
     rw [e n]
     cases hm:ts.length with
     | zero=>rfl
     | succ m=>rw [e m]
  ·rw [show n=ts.length by omega]
def callL (E:R) (p:List Part):R:=fun ts=>callGo E ts.length p ts
theorem callL_yes {E:R} (hE:Shr E) {p:List Part} {ts:List Tok} (h:isN [40] ts=true):callL E p ts=callL E [.br 11 (p++(args E ts).1)] (args E ts).2:=by
 have hl:=args_lt hE (isN_next h)
 unfold callL
 obtain ⟨m,hm⟩:∃ m,ts.length=m+1:=⟨ts.length - 1,by omega⟩
 rw [hm]
 conv=>lhs;unfold callGo
 rw [if_pos h,callGo_fuel hE m _ _ (by omega)]
theorem callL_no {E:R} {p:List Part} {ts:List Tok} (h:isN [40] ts=false):callL E p ts=(p,ts):=by
 unfold callL
 cases ts.length with
 | zero=>rfl
 | succ m=>unfold callGo;rw [if_neg (by rw [h];simp)]
theorem Shr.callGo {E:R} (h:Shr E):∀ (n:Nat) (p:List Part),Shr (callGo E n p)
 | 0,_=>fun _=>⟨0,rfl⟩
 | n+1,p=>by
  intro ts
  unfold X.callGo
  split
  ·obtain ⟨m,e⟩:=h.args ts
   obtain ⟨m',e'⟩:=Shr.callGo h n [.br 11 (p++(X.args E ts).1)] (X.args E ts).2
   exact ⟨m+m',by rw [e',e,List.drop_drop]⟩
  ·exact ⟨0,rfl⟩
theorem Shr.part {E:R} (h:Shr E):Shr (part E) :=
 Shr.ite (c:=fun ts=>kindN ts==5) (Shr.take.node _) <|
 Shr.ite (c:=fun ts=>kindN ts==6) (Shr.take.node _) <|
 Shr.ite (c:=fun ts=>isN [116,114,117,101] ts||isN [102,97,108,115,101] ts) (Shr.take.node _) <|
 Shr.ite (c:=fun ts=>kindN ts==3) (Shr.take.node _) <|
 Shr.ite (c:=isN [63]) (Shr.take.node _) <|
 Shr.ite (c:=isN [40]) ((Shr.take.andThen (h.andThen (Shr.want _))).node _) <|
 Shr.ite (c:=isN [91]) ((Shr.take.andThen (h.several _)).node _) (Shr.miss _)
theorem Shr.call {E:R} (h:Shr E):Shr (call E):=by
 intro ts
 obtain ⟨m,e⟩:=h.part ts
 obtain ⟨m',e'⟩:=Shr.callGo h (X.part E ts).2.length (X.part E ts).1 (X.part E ts).2
 exact ⟨m+m',by show (X.callGo _ _ _ _).2=_;rw [e',e,List.drop_drop]⟩
theorem Shr.product {E:R} (h:Shr E):Shr (product E):=h.call.row
theorem Shr.sum {E:R} (h:Shr E):Shr (sum E):=h.product.row
theorem Shr.comparison {E:R} (h:Shr E):Shr (comparison E):=by
 intro ts
 by_cases hc:(isN [61,61] (X.sum E ts).2||isN [60] (X.sum E ts).2)=true
 ·have e3:(X.comparison E ts).2=(X.andThen X.take (X.sum E) (X.sum E ts).2).2:=by unfold X.comparison;rw [if_pos hc]
  obtain ⟨m,e⟩:=h.sum ts
  obtain ⟨m',e'⟩:=(Shr.take.andThen h.sum) (X.sum E ts).2
  refine ⟨m+m',?_⟩
  rw [e3,e',e,List.drop_drop]
 ·have e3:X.comparison E ts=X.sum E ts:=by unfold X.comparison;rw [if_neg hc]
  rw [e3];exact h.sum ts
theorem Shr.expr:∀ n,Shr (expr n)
 | 0=>Shr.miss _
 | n+1 =>
  have h:=Shr.expr n
  Shr.ite (c:=isN [108,101,116]) ((Shr.take.andThen (Shr.wname.andThen ((Shr.want _).andThen (h.andThen ((Shr.want _).andThen h))))).node _) <|
  Shr.ite (c:=isN [105,102]) ((Shr.take.andThen (h.andThen ((Shr.want _).andThen (h.andThen ((Shr.want _).andThen h))))).node _) <|
  Shr.ite (c:=isN [102,117,110]) ((Shr.take.andThen (Shr.params.andThen ((Shr.want _).andThen h))).node _) h.comparison
end X
end Go.Proofs.YtgpcpbmacdhlkaaGreatDoor
/- Plain mathematics: what is read,if nothing is missing: shapes. -/
namespace Go.Proofs.YtgpcpbmacdhlkaaGreatDoor
open M
namespace X
mutual
def nm:Part→Bool
 | .leaf _ _=>true
 | .miss _=>false
 | .br _ ps=>nms ps
def nms:List Part→Bool
 | []=>true
 | p::ps=>nm p&&nms ps
end
theorem nms_append (a b:List Part):nms (a++b)=(nms a&&nms b):=by
 induction a with
 | nil=>rfl
 | cons p a ih=>rw [List.cons_append,nms,ih,nms,Bool.and_assoc]
theorem nms_two {a b:List Part} (h:nms (a++b)=true):nms a=true∧nms b=true:=by rw [nms_append] at h;simpa using h
theorem nms_one (p:Part):nms [p]=nm p:=by rw [nms,nms,Bool.and_true]
theorem nm_br (k:Nat) (ps:List Part):nm (.br k ps)=nms ps:=by rw [nm]
theorem quiet_lf (t:Tok):quietP (lf t)=quiet t:=rfl
theorem pts_quiet {ts:List Tok} (h:∀ t∈ts,quiet t=true):pts (ts.map lf)=[]:=by
 unfold pts
 rw [List.filter_eq_nil_iff]
 intro p hp
 obtain ⟨t,ht,rfl⟩:=List.mem_map.1 hp
 rw [quiet_lf,h t ht];decide
theorem take_pts {ts:List Tok} (h:nxt ts≠none):∃ t,nxt ts=some t∧pts (take ts).1=[lf t]:=by
 unfold nxt at h
 cases hd:ts.dropWhile quiet with
 | nil=>rw [hd] at h;exact absurd rfl h
 | cons t l =>
  have hne:quiet t=false:=by
   have:=List.head?_dropWhile_not quiet ts
   rw [hd] at this
   simpa using this
  refine ⟨t,by unfold nxt;rw [hd];rfl,?_⟩
  show pts ((ts.takeWhile quiet++(ts.dropWhile quiet).take 1).map lf)=_
  rw [hd,List.map_append,pts_append,pts_quiet (fun t ht=>List.all_eq_true.1 List.all_takeWhile t ht),List.nil_append]
  show pts [lf t]=_
  unfold pts
  rw [List.filter_cons_of_pos (by rw [quiet_lf,hne];decide)];rfl
theorem isN_text {s:List UInt8} {ts:List Tok} {t:Tok} (h:isN s ts=true) (ht:nxt ts=some t):t.2=s:=by
 unfold isN at h
 rw [ht] at h
 simp at h
 exact h.2
theorem want_pts {s:List UInt8} {ts:List Tok} (h:nms (want s ts).1=true):∃ t:Tok,t.2=s∧pts (want s ts).1=[lf t]:=by
 unfold want at h ⊢
 by_cases hc:isN s ts=true
 ·rw [if_pos hc]
  obtain ⟨t,h1,h2⟩:=take_pts (isN_next hc)
  exact ⟨t,isN_text hc h1,h2⟩
 ·rw [if_neg hc] at h;cases h
theorem wname_pts {ts:List Tok} (h:nms (wname ts).1=true):∃ t:Tok,pts (wname ts).1=[lf t]:=by
 unfold wname at h ⊢
 by_cases hc:(kindN ts==3)=true
 ·rw [if_pos hc]
  obtain ⟨t,h1,h2⟩:=take_pts (kindN_next (by decide) hc)
  exact ⟨t,h2⟩
 ·rw [if_neg hc] at h;cases h
theorem Sh.br {p:Part} (h:Sh p):∃ k ps,p=.br k ps:=by
 cases h<;>exact ⟨_,_,rfl⟩
theorem Sh.pts {p:Part} (h:Sh p):X.pts [p]=[p]:=by
 obtain ⟨k,ps,rfl⟩:=h.br;rfl
theorem pts_br (k:Nat) (ps:List Part):pts [.br k ps]=[.br k ps]:=rfl
def ShR (f:R):Prop:=∀ ts,nms (f ts).1=true→∃ p,(f ts).1=[p]∧Sh p
theorem sev_sh {one:R} (hO:ShR one) (sO:Shr one) (c:List UInt8) (n:Nat):∀ ts:List Tok,ts.length≤n→nms (andThen (sevL one) (want c) ts).1=true→∀ p,Sh p→ShA c (p::pts (andThen (sevL one) (want c) ts).1):=by
 induction n with
 | zero =>
  intro ts h hm p hp
  have:ts=[]:=List.length_eq_zero_iff.1 (by omega)
  subst this
  have e:andThen (sevL one) (want c) []=want c []:=rfl
  rw [e] at hm ⊢
  obtain ⟨t,h1,h2⟩:=want_pts hm
  rw [h2];exact .last c p t hp h1
 | succ n ih =>
  intro ts h hm p hp
  cases hc:isN [44] ts with
  | false =>
   have e:andThen (sevL one) (want c) ts=want c ts:=by unfold andThen;rw [sevL_no hc];rfl
   rw [e] at hm ⊢
   obtain ⟨t,h1,h2⟩:=want_pts hm
   rw [h2];exact .last c p t hp h1
  | true =>
   have e:(andThen (sevL one) (want c) ts).1=(take ts).1++((one (take ts).2).1++(andThen (sevL one) (want c) (one (take ts).2).2).1):=by
    unfold andThen
    rw [sevL_yes sO hc]
    simp only [andThen,List.append_assoc]
   rw [e] at hm ⊢
   obtain ⟨m1,m2⟩:=nms_two hm
   obtain ⟨m3,m4⟩:=nms_two m2
   obtain ⟨t,t1,t2⟩:=take_pts (isN_next hc)
   obtain ⟨q,q1,q2⟩:=hO _ m3
   have hl:=take_lt (isN_next hc)
   have hl2:=sO.le (take ts).2
   have:=ih (one (take ts).2).2 (by omega) m4 q q2
   rw [pts_append,pts_append,t2,q1,q2.pts]
   exact .more c p t q _ hp (isN_text hc t1) this
theorem several_sh {one:R} (hO:ShR one) (sO:Shr one) (c:List UInt8) (ts:List Tok) (h:nms (several one c ts).1=true):(∃ t:Tok,t.2=c∧pts (several one c ts).1=[lf t])∨ShA c (pts (several one c ts).1):=by
 rw [several_eq] at h ⊢
 cases hc:isN c ts with
 | true =>
  rw [hc,if_pos rfl] at h
  rw [if_pos rfl]
  exact .inl (want_pts h)
 | false =>
  rw [hc,if_neg (by simp)] at h
  rw [if_neg (by simp)]
  have e:(andThen one (andThen (sevL one) (want c)) ts).1=(one ts).1++(andThen (sevL one) (want c) (one ts).2).1:=rfl
  rw [e] at h ⊢
  obtain ⟨m1,m2⟩:=nms_two h
  obtain ⟨p,p1,p2⟩:=hO _ m1
  rw [pts_append,p1,p2.pts]
  exact .inr (sev_sh hO sO c _ _ (Nat.le_refl _) m2 p p2)
theorem brackets_sh {one:R} (hO:ShR one) (sO:Shr one) {o c:List UInt8} {ts:List Tok} (hn:isN o ts=true) (h:nms (andThen take (several one c) ts).1=true):ShB o c (pts (andThen take (several one c) ts).1):=by
 have e:(andThen take (several one c) ts).1=(take ts).1++(several one c (take ts).2).1:=rfl
 rw [e] at h ⊢
 obtain ⟨m1,m2⟩:=nms_two h
 obtain ⟨t,t1,t2⟩:=take_pts (isN_next hn)
 rw [pts_append,t2]
 rcases several_sh hO sO c _ m2 with ⟨u,u1,u2⟩|h3
 ·rw [u2];exact .none o c t u (isN_text hn t1) u1
 ·exact .some o c t _ (isN_text hn t1) h3
theorem callL_nm {E:R} (sE:Shr E) (n:Nat):∀ (ts:List Tok) (p:List Part),ts.length≤n→nms (callL E p ts).1=true→nms p=true:=by
 induction n with
 | zero =>
  intro ts p h hm
  have:ts=[]:=List.length_eq_zero_iff.1 (by omega)
  subst this;exact hm
 | succ n ih =>
  intro ts p h hm
  cases hc:isN [40] ts with
  | false=>rw [callL_no hc] at hm;exact hm
  | true =>
   rw [callL_yes sE hc] at hm
   have hl:(args E ts).2.length<ts.length:=by
    have h1:=take_lt (isN_next hc)
    have h2:=(sE.several [41]).le (take ts).2
    show (several E [41] (take ts).2).2.length<_
    omega
   have:=ih _ _ (by omega) hm
   rw [nms_one,nm_br] at this
   exact (nms_two this).1
theorem callL_sh {E:R} (hE:ShR E) (sE:Shr E) (n:Nat):∀ (ts:List Tok) (p:Part),ts.length≤n→Sh p→nms (callL E [p] ts).1=true→∃ q,(callL E [p] ts).1=[q]∧Sh q:=by
 induction n with
 | zero =>
  intro ts p h hp hm
  have:ts=[]:=List.length_eq_zero_iff.1 (by omega)
  subst this;exact ⟨p,rfl,hp⟩
 | succ n ih =>
  intro ts p h hp hm
  cases hc:isN [40] ts with
  | false=>rw [callL_no hc];exact ⟨p,rfl,hp⟩
  | true =>
   rw [callL_yes sE hc] at hm ⊢
   have hl:(args E ts).2.length<ts.length:=by
    have h1:=take_lt (isN_next hc)
    have h2:=(sE.several [41]).le (take ts).2
    show (several E [41] (take ts).2).2.length<_
    omega
   have h3:=callL_nm sE _ _ _ (Nat.le_refl _) hm
   rw [nms_one,nm_br] at h3
   have h4:=(nms_two h3).2
   have e:(args E ts).1=[.br 12 (andThen take (several E [41]) ts).1]:=rfl
   rw [e,nms_one,nm_br] at h4
   refine ih _ _ (by omega) ?_ hm
   refine .call _ p (andThen take (several E [41]) ts).1 ?_ hp (brackets_sh hE sE hc h4)
   rw [pts_append,hp.pts,e];rfl
theorem rowL_nm {one:R} {ok:List Tok→Bool} (sO:Shr one) (hok:∀ ts,ok ts=true→nxt ts≠none) (n:Nat):∀ (ts:List Tok) (p:List Part),ts.length≤n→nms (rowL one ok p ts).1=true→nms p=true:=by
 induction n with
 | zero =>
  intro ts p h hm
  have:ts=[]:=List.length_eq_zero_iff.1 (by omega)
  subst this;exact hm
 | succ n ih =>
  intro ts p h hm
  cases hc:ok ts with
  | false=>rw [rowL_no hc] at hm;exact hm
  | true =>
   rw [rowL_yes sO hok hc] at hm
   have hl:(andThen take one ts).2.length<ts.length:=by
    have h1:=take_lt (hok ts hc)
    have h2:=sO.le (take ts).2
    show (one (take ts).2).2.length<_
    omega
   have:=ih _ _ (by omega) hm
   rw [nms_one,nm_br] at this
   exact (nms_two this).1
theorem rowL_sh {one:R} {ok:List Tok→Bool} (hO:ShR one) (sO:Shr one) (hok:∀ ts,ok ts=true→nxt ts≠none) (n:Nat):∀ (ts:List Tok) (p:Part),ts.length≤n→Sh p→nms (rowL one ok [p] ts).1=true→∃ q,(rowL one ok [p] ts).1=[q]∧Sh q:=by
 induction n with
 | zero =>
  intro ts p h hp hm
  have:ts=[]:=List.length_eq_zero_iff.1 (by omega)
  subst this;exact ⟨p,rfl,hp⟩
 | succ n ih =>
  intro ts p h hp hm
  cases hc:ok ts with
  | false=>rw [rowL_no hc];exact ⟨p,rfl,hp⟩
  | true =>
   rw [rowL_yes sO hok hc] at hm ⊢
   have hl:(andThen take one ts).2.length<ts.length:=by
    have h1:=take_lt (hok ts hc)
    have h2:=sO.le (take ts).2
    show (one (take ts).2).2.length<_
    omega
   have h3:=rowL_nm sO hok _ _ _ (Nat.le_refl _) hm
   rw [nms_one,nm_br] at h3
   have h4:=(nms_two h3).2
   have e:(andThen take one ts).1=(take ts).1++(one (take ts).2).1:=rfl
   rw [e] at h4
   obtain ⟨t,t1,t2⟩:=take_pts (hok ts hc)
   obtain ⟨q,q1,q2⟩:=hO _ (nms_two h4).2
   refine ih _ _ (by omega) ?_ hm
   refine .bin _ p t q ?_ hp q2
   rw [pts_append,hp.pts,e,pts_append,t2,q1,q2.pts];rfl
theorem ShR.row {one:R} {ok:List Tok→Bool} (hO:ShR one) (sO:Shr one) (hok:∀ ts,ok ts=true→nxt ts≠none):ShR (row one ok):=by
 intro ts h
 have e:X.row one ok ts=rowL one ok (one ts).1 (one ts).2:=rfl
 rw [e] at h ⊢
 obtain ⟨p,p1,p2⟩:=hO ts (rowL_nm sO hok _ _ _ (Nat.le_refl _) h)
 rw [p1] at h ⊢
 exact rowL_sh hO sO hok _ _ p (Nat.le_refl _) p2 h
theorem tok_sh {k:Nat} (hk:15≤k∧k≤19) {ts:List Tok} (h:nxt ts≠none):∃ p,(node k take ts).1=[p]∧Sh p:=by
 obtain ⟨t,t1,t2⟩:=take_pts h
 exact ⟨_,rfl,.tok k t _ hk t2⟩
theorem ShR.part {E:R} (hE:ShR E) (sE:Shr E):ShR (part E):=by
 intro ts h
 unfold X.part at h ⊢
 by_cases c1:(kindN ts==5)=true
 ·rw [if_pos c1];exact tok_sh (by decide) (kindN_next (by decide) c1)
 rw [if_neg c1] at h ⊢
 by_cases c2:(kindN ts==6)=true
 ·rw [if_pos c2];exact tok_sh (by decide) (kindN_next (by decide) c2)
 rw [if_neg c2] at h ⊢
 by_cases c3:(isN [116,114,117,101] ts||isN [102,97,108,115,101] ts)=true
 ·rw [if_pos c3]
  refine tok_sh (by decide) ?_
  rcases Bool.or_eq_true _ _ ▸ c3 with c|c
  ·exact isN_next c
  ·exact isN_next c
 rw [if_neg c3] at h ⊢
 by_cases c4:(kindN ts==3)=true
 ·rw [if_pos c4];exact tok_sh (by decide) (kindN_next (by decide) c4)
 rw [if_neg c4] at h ⊢
 by_cases c5:isN [63] ts=true
 ·rw [if_pos c5];exact tok_sh (by decide) (isN_next c5)
 rw [if_neg c5] at h ⊢
 by_cases c6:isN [40] ts=true
 ·rw [if_pos c6] at h ⊢
  have e:(node 14 (andThen take (andThen E (want [41]))) ts).1=[.br 14 ((take ts).1++((E (take ts).2).1++(want [41] (E (take ts).2).2).1))]:=rfl
  rw [e] at h ⊢
  rw [nms_one,nm_br] at h
  obtain ⟨m1,m2⟩:=nms_two h
  obtain ⟨m3,m4⟩:=nms_two m2
  obtain ⟨t,t1,t2⟩:=take_pts (isN_next c6)
  obtain ⟨q,q1,q2⟩:=hE _ m3
  obtain ⟨u,u1,u2⟩:=want_pts m4
  refine ⟨_,rfl,.group _ t q u ?_ (isN_text c6 t1) u1 q2⟩
  rw [pts_append,pts_append,t2,q1,q2.pts,u2];rfl
 rw [if_neg c6] at h ⊢
 by_cases c7:isN [91] ts=true
 ·rw [if_pos c7] at h ⊢
  have e:(node 13 (andThen take (several E [93])) ts).1=[.br 13 (andThen take (several E [93]) ts).1]:=rfl
  rw [e] at h ⊢
  rw [nms_one,nm_br] at h
  exact ⟨_,rfl,.list _ (brackets_sh hE sE c7 h)⟩
 ·rw [if_neg c7] at h;cases h
theorem ShR.call {E:R} (hE:ShR E) (sE:Shr E):ShR (call E):=by
 intro ts h
 have e:X.call E ts=callL E (X.part E ts).1 (X.part E ts).2:=rfl
 rw [e] at h ⊢
 obtain ⟨p,p1,p2⟩:=hE.part sE ts (callL_nm sE _ _ _ (Nat.le_refl _) h)
 rw [p1] at h ⊢
 exact callL_sh hE sE _ _ p (Nat.le_refl _) p2 h
theorem ShR.product {E:R} (hE:ShR E) (sE:Shr E):ShR (product E):=(hE.call sE).row sE.call (fun _ hc=>isN_next hc)
theorem ShR.sum {E:R} (hE:ShR E) (sE:Shr E):ShR (sum E):=(hE.product sE).row sE.product (fun ts hc=>by
 simp only [Bool.or_eq_true] at hc
 rcases hc with (c|c)|c
 ·exact isN_next c
 ·exact isN_next c
 ·exact isN_next c)
theorem ShR.comparison {E:R} (hE:ShR E) (sE:Shr E):ShR (comparison E):=by
 intro ts h
 have hs:=hE.sum sE
 unfold X.comparison at h ⊢
 generalize X.sum E=F at *
 by_cases hc:(isN [61,61] (F ts).2||isN [60] (F ts).2)=true
 ·rw [if_pos hc] at h ⊢
  have hn:nxt (F ts).2≠none:=by
   simp only [Bool.or_eq_true] at hc
   rcases hc with c|c
   ·exact isN_next c
   ·exact isN_next c
  have e:(andThen take F (F ts).2).1=(take (F ts).2).1++(F (take (F ts).2).2).1:=rfl
  simp only at h ⊢
  rw [e] at h ⊢
  rw [nms_one,nm_br] at h
  obtain ⟨m1,m2⟩:=nms_two h
  obtain ⟨m3,m4⟩:=nms_two m2
  obtain ⟨p,p1,p2⟩:=hs ts m1
  obtain ⟨t,t1,t2⟩:=take_pts hn
  obtain ⟨q,q1,q2⟩:=hs _ m4
  refine ⟨_,rfl,.bin _ p t q ?_ p2 q2⟩
  rw [pts_append,pts_append,p1,p2.pts,t2,q1,q2.pts];rfl
 ·rw [if_neg hc] at h ⊢;exact hs ts h
theorem params_br (ts:List Tok):∃ qs,(params ts).1=[.br 6 qs]:=⟨_,rfl⟩
theorem ShR.expr:∀ n,ShR (expr n)
 | 0=>fun ts h=>by cases h
 | n+1=>by
  have hE:ShR (X.expr n):=ShR.expr n
  have sE:Shr (X.expr n):=Shr.expr n
  intro ts h
  unfold X.expr at h ⊢
  generalize X.expr n=E at *
  by_cases c1:isN [108,101,116] ts=true
  ·rw [if_pos c1] at h ⊢
   have e:(node 7 (andThen take (andThen wname (andThen (want [61]) (andThen E (andThen (want [105,110]) E))))) ts).1=[.br 7 ((take ts).1++((wname (take ts).2).1++((want [61] (wname (take ts).2).2).1++((E (want [61] (wname (take ts).2).2).2).1++((want [105,110] (E (want [61] (wname (take ts).2).2).2).2).1++(E (want [105,110] (E (want [61] (wname (take ts).2).2).2).2).2).1)))))]:=rfl
   rw [e] at h ⊢
   rw [nms_one,nm_br] at h
   obtain ⟨m1,h⟩:=nms_two h
   obtain ⟨m2,h⟩:=nms_two h
   obtain ⟨m3,h⟩:=nms_two h
   obtain ⟨m4,h⟩:=nms_two h
   obtain ⟨m5,m6⟩:=nms_two h
   obtain ⟨a,a1,a2⟩:=take_pts (isN_next c1)
   obtain ⟨b,b1⟩:=wname_pts m2
   obtain ⟨c,c1,c2⟩:=want_pts m3
   obtain ⟨p,p1,p2⟩:=hE _ m4
   obtain ⟨d,d1,d2⟩:=want_pts m5
   obtain ⟨q,q1,q2⟩:=hE _ m6
   refine ⟨_,rfl,.lett _ a b c d p q ?_ p2 q2⟩
   rw [pts_append,pts_append,pts_append,pts_append,pts_append,a2,b1,c2,p1,p2.pts,d2,q1,q2.pts];rfl
  rw [if_neg c1] at h ⊢
  by_cases c2:isN [105,102] ts=true
  ·rw [if_pos c2] at h ⊢
   have e:(node 8 (andThen take (andThen E (andThen (want [116,104,101,110]) (andThen E (andThen (want [101,108,115,101]) E))))) ts).1=[.br 8 ((take ts).1++((E (take ts).2).1++((want [116,104,101,110] (E (take ts).2).2).1++((E (want [116,104,101,110] (E (take ts).2).2).2).1++((want [101,108,115,101] (E (want [116,104,101,110] (E (take ts).2).2).2).2).1++(E (want [101,108,115,101] (E (want [116,104,101,110] (E (take ts).2).2).2).2).2).1)))))]:=rfl
   rw [e] at h ⊢
   rw [nms_one,nm_br] at h
   obtain ⟨m1,h⟩:=nms_two h
   obtain ⟨m2,h⟩:=nms_two h
   obtain ⟨m3,h⟩:=nms_two h
   obtain ⟨m4,h⟩:=nms_two h
   obtain ⟨m5,m6⟩:=nms_two h
   obtain ⟨a,a1,a2⟩:=take_pts (isN_next c2)
   obtain ⟨p,p1,p2⟩:=hE _ m2
   obtain ⟨b,b1,b2⟩:=want_pts m3
   obtain ⟨q,q1,q2⟩:=hE _ m4
   obtain ⟨c,c1,c2⟩:=want_pts m5
   obtain ⟨s,s1,s2⟩:=hE _ m6
   refine ⟨_,rfl,.ite _ a b c p q s ?_ c1 p2 q2 s2⟩
   rw [pts_append,pts_append,pts_append,pts_append,pts_append,a2,p1,p2.pts,b2,q1,q2.pts,c2,s1,s2.pts];rfl
  rw [if_neg c2] at h ⊢
  by_cases c3:isN [102,117,110] ts=true
  ·rw [if_pos c3] at h ⊢
   have e:(node 9 (andThen take (andThen params (andThen (want [61,62]) E))) ts).1=[.br 9 ((take ts).1++((params (take ts).2).1++((want [61,62] (params (take ts).2).2).1++(E (want [61,62] (params (take ts).2).2).2).1)))]:=rfl
   rw [e] at h ⊢
   rw [nms_one,nm_br] at h
   obtain ⟨m1,h⟩:=nms_two h
   obtain ⟨m2,h⟩:=nms_two h
   obtain ⟨m3,m4⟩:=nms_two h
   obtain ⟨a,a1,a2⟩:=take_pts (isN_next c3)
   obtain ⟨qs,q1⟩:=params_br (take ts).2
   obtain ⟨b,b1,b2⟩:=want_pts m3
   obtain ⟨p,p1,p2⟩:=hE _ m4
   refine ⟨_,rfl,.fn _ a b qs p ?_ p2⟩
   rw [pts_append,pts_append,pts_append,a2,q1,pts_br,b2,p1,p2.pts];rfl
  ·rw [if_neg c3] at h ⊢;exact hE.comparison sE ts h
end X
end Go.Proofs.YtgpcpbmacdhlkaaGreatDoor
