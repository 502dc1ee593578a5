/- Plain mathematics: how many parts a reading makes. -/
import Derived.Test.YtgpcpbmacdhlkaaGreatDoorXk
import Derived.Test.YtgpcpbmacdhlkaaGreatDoorXf
import Derived.Deep.RegionHeld3
namespace Go.Proofs.YtgpcpbmacdhlkaaGreatDoor
open M
namespace X
def Cap (f:R) (c:Nat):Prop:=∀ ts,(f ts).1.length+2*(f ts).2.length≤c+2*ts.length
theorem Cap.le {f:R} {c:Nat} (h:Cap f c) (ts:List Tok):(f ts).1.length≤c+2*ts.length:=by have:=h ts;omega
theorem Cap.mono {f:R} {c d:Nat} (h:Cap f c) (hd:c≤d):Cap f d:=fun ts=>by have:=h ts;omega
theorem Cap.nil:Cap nilR 0:=fun ts=>by show 0+_≤_;simp [nilR]
theorem Cap.andThen {f g:R} {c d:Nat} (hf:Cap f c) (hg:Cap g d):Cap (andThen f g) (c+d):=by
 intro ts
 have h1:=hf ts
 have h2:=hg (f ts).2
 show ((f ts).1++(g (f ts).2).1).length+2*(g (f ts).2).2.length≤_
 rw [List.length_append];omega
theorem Cap.ite {f g:R} {c:Nat} {b:List Tok→Bool} (hf:Cap f c) (hg:Cap g c):Cap (fun ts=>if b ts then f ts else g ts) c:=by
 intro ts
 show (if b ts then f ts else g ts).1.length+2*(if b ts then f ts else g ts).2.length≤_
 split
 ·exact hf ts
 ·exact hg ts
theorem Cap.miss (m:List UInt8):Cap (fun ts=>([.miss m],ts)) 1:=fun ts=>by show 1+_≤_;simp
theorem take_len (ts:List Tok):(take ts).1.length+(take ts).2.length=ts.length:=by
 show (List.map lf (ts.takeWhile quiet++(ts.dropWhile quiet).take 1)).length+((ts.dropWhile quiet).drop 1).length=_
 have h:=congrArg List.length (List.takeWhile_append_dropWhile (p:=quiet) (l:=ts))
 rw [List.length_append] at h
 rw [List.length_map,List.length_append,List.length_take,List.length_drop];omega
theorem Cap.take:Cap take 0:=fun ts=>by have:=take_len ts;omega
theorem Cap.want (x:List UInt8):Cap (want x) 1:=Cap.ite (b:=isN x) (Cap.take.mono (by omega)) (Cap.miss x)
theorem Cap.wname:Cap wname 1:=Cap.ite (b:=fun ts=>kindN ts==3) (Cap.take.mono (by omega)) (Cap.miss sName)
theorem Cap.sevGo {one:R} (h:Cap one 1):∀ n,Cap (sevGo one n) 0
 | 0=>Cap.nil
 | n+1=>by
  intro ts
  unfold X.sevGo
  by_cases hc:isN [44] ts=true
  ·rw [if_pos hc]
   have h1:=take_lt (isN_next hc)
   have h2:=take_len ts
   have h3:=(h.andThen (Cap.sevGo h n)) (X.take ts).2
   show ((X.take ts).1++(X.andThen one (X.sevGo one n) (X.take ts).2).1).length+2*(X.andThen one (X.sevGo one n) (X.take ts).2).2.length≤_
   rw [List.length_append];omega
  ·rw [if_neg hc];simp
theorem Cap.sevL {one:R} (h:Cap one 1):Cap (sevL one) 0:=fun ts=>Cap.sevGo h ts.length ts
theorem Cap.several {one:R} (h:Cap one 1) (e:List UInt8):Cap (several one e) 2:=Cap.ite (b:=isN e) ((Cap.want e).mono (by omega)) (h.andThen (h.sevL.andThen (Cap.want e)))
def One1 (f:R):Prop:=∀ ts,∃ p,(f ts).1=[p]
theorem One1.node (f:R) (k:Nat):One1 (node k f):=fun ts=>⟨.br k (f ts).1,rfl⟩
theorem One1.miss (m:List UInt8):One1 (fun ts=>([.miss m],ts)):=fun _=>⟨_,rfl⟩
theorem One1.ite {f g:R} {b:List Tok→Bool} (hf:One1 f) (hg:One1 g):One1 (fun ts=>if b ts then f ts else g ts):=by
 intro ts
 show ∃ p,(if b ts then f ts else g ts).1=[p]
 split
 ·exact hf ts
 ·exact hg ts
theorem One1.rowGo {one:R} {ok:List Tok→Bool}:∀ (n:Nat) (p:Part) (ts:List Tok),∃ q,(rowGo one ok n [p] ts).1=[q]
 | 0,p,_=>⟨p,rfl⟩
 | n+1,p,ts=>by
  unfold X.rowGo
  split
  ·exact One1.rowGo n _ _
  ·exact ⟨p,rfl⟩
theorem One1.row {one:R} {ok:List Tok→Bool} (h:One1 one):One1 (row one ok):=by
 intro ts
 obtain ⟨p,e⟩:=h ts
 show ∃ q,(X.rowGo one ok (one ts).2.length (one ts).1 (one ts).2).1=[q]
 rw [e]
 exact One1.rowGo _ _ _
theorem One1.callGo {E:R}:∀ (n:Nat) (p:Part) (ts:List Tok),∃ q,(callGo E n [p] ts).1=[q]
 | 0,p,_=>⟨p,rfl⟩
 | n+1,p,ts=>by
  unfold X.callGo
  split
  ·exact One1.callGo n _ _
  ·exact ⟨p,rfl⟩
theorem One1.part (E:R):One1 (part E) :=
 One1.ite (b:=fun ts=>kindN ts==5) (One1.node _ _) <|
 One1.ite (b:=fun ts=>kindN ts==6) (One1.node _ _) <|
 One1.ite (b:=fun ts=>isN [116,114,117,101] ts||isN [102,97,108,115,101] ts) (One1.node _ _) <|
 One1.ite (b:=fun ts=>kindN ts==3) (One1.node _ _) <|
 One1.ite (b:=isN [63]) (One1.node _ _) <|
 One1.ite (b:=isN [40]) (One1.node _ _) <|
 One1.ite (b:=isN [91]) (One1.node _ _) (One1.miss _)
theorem One1.call (E:R):One1 (call E):=by
 intro ts
 obtain ⟨p,e⟩:=One1.part E ts
 show ∃ q,(X.callGo E (X.part E ts).2.length (X.part E ts).1 (X.part E ts).2).1=[q]
 rw [e]
 exact One1.callGo _ _ _
theorem One1.product (E:R):One1 (product E):=(One1.call E).row
theorem One1.sum (E:R):One1 (sum E):=(One1.product E).row
theorem One1.comparison (E:R):One1 (comparison E):=by
 intro ts
 by_cases hc:(isN [61,61] (X.sum E ts).2||isN [60] (X.sum E ts).2)=true
 ·unfold X.comparison;rw [if_pos hc];exact ⟨_,rfl⟩
 ·unfold X.comparison;rw [if_neg hc];exact One1.sum E ts
theorem One1.expr:∀ n,One1 (expr n)
 | 0=>One1.miss _
 | _+1=>One1.ite (b:=isN [108,101,116]) (One1.node _ _) <| One1.ite (b:=isN [105,102]) (One1.node _ _) <| One1.ite (b:=isN [102,117,110]) (One1.node _ _) (One1.comparison _)
theorem One1.cap {f:R} (h:One1 f) (hs:Shr f):Cap f 1:=by
 intro ts
 obtain ⟨p,e⟩:=h ts
 have:=hs.le ts
 rw [e];simp;omega
theorem One1.len {f:R} (h:One1 f) (ts:List Tok):(f ts).1.length=1:=by obtain ⟨p,e⟩:=h ts;rw [e];rfl
end X
end Go.Proofs.YtgpcpbmacdhlkaaGreatDoor
/- Several things within brackets;the names of a function. -/
namespace Go.Proofs.YtgpcpbmacdhlkaaGreatDoor
open Go.RowKit
open M
def atT (rb:Nat) (w:World):Nat:=match w.cell? ⟨rb,2,none⟩ with|some (.int _ a)=>a.toNat|_=>0
theorem Done.at {w w1:World} {rb:Nat} {s:ByteArray} {L:List Tk} {tv:Value} {dp B k:Nat} {rv:Value} {ps1:List X.Part} {ts1:List X.Tok} {D:Nat→Prop} (h:Done w rb s L tv dp B k rv ps1 ts1 D w1):L.length - atT rb w1=ts1.length:=by
 obtain ⟨a1,rv1,vs1,D1,g1,rfl,-⟩:=h
 obtain ⟨⟨c0,c1,c2,-⟩,-⟩:=g1.rdr.raw.facts
 have:atT rb w1=a1:=by unfold atT;rw [c2];rfl
 rw [this];unfold remT;simp
theorem Done.len {w w1:World} {rb:Nat} {s:ByteArray} {L:List Tk} {tv:Value} {dp B k:Nat} {rv:Value} {ps1:List X.Part} {ts1:List X.Tok} {D:Nat→Prop} (h:Done w rb s L tv dp B k rv ps1 ts1 D w1):ts1.length≤L.length:=by
 obtain ⟨a1,rv1,vs1,D1,g1,rfl,-⟩:=h
 unfold remT;simp
def ReadsA (fn:FuncId) (args:Nat→Nat→Array Value) (F:X.R) (ok:List X.Tok→Prop) (s:ByteArray) (L:List Tk) (dp:Nat):Prop :=
 ∀ (rb:Nat) (tv:Value) (a B k:Nat) (rv:Value) (vs:List Value) (ps:List X.Part) (D:Nat→Prop) (w:World),Wk w rb s L tv a dp B k rv vs ps D→ok (remT s L a)→ps.length+(F (remT s L a)).1.length≤1073741824 →
  Calls Tryz.prog fn (args rb B) w fun en w'=>en=.returned (.tuple #[])∧Hid (Done w rb s L tv dp B k rv (ps++(F (remT s L a)).1) (F (remT s L a)).2 D w')
theorem Done.thenA {w w1:World} {rb:Nat} {s:ByteArray} {L:List Tk} {tv:Value} {dp B k:Nat} {rv:Value} {ps1:List X.Part} {ts1:List X.Tok} {D:Nat→Prop} {fn:FuncId} {args:Nat→Nat→Array Value} {F:X.R} {ok:List X.Tok→Prop} {Q:Ending→World→Prop}
  (h:Done w rb s L tv dp B k rv ps1 ts1 D w1) (hF:ReadsA fn args F ok s L dp) (hok:ok ts1) (hl:ps1.length+(F ts1).1.length≤1073741824)
  (hQ:∀ w2,Hid (Done w rb s L tv dp B k rv (ps1++(F ts1).1) (F ts1).2 D w2)→Q (.returned (.tuple #[])) w2) :
  Calls Tryz.prog fn (args rb B) w1 Q:=by
 obtain ⟨a1,rv1,vs1,D1,g1,rfl,g3,g4,g5,g6⟩:=h
 refine (hF rb tv a1 B k rv1 vs1 ps1 D1 w1 g1 hok hl).mono ?_
 rintro e w2 ⟨rfl,H2⟩
 exact hQ w2 (Done.trans g3 g4 g5 g6 H2.out)
set_option maxRecDepth 100000 in
set_option maxHeartbeats 4000000 in
theorem name_any (s:ByteArray) (L:List Tk) (dp:Nat) (hS:TokS s L):Reads 129 X.wname (fun _=>True) s L dp:=by
 intro rb tv a B k rv vs ps D w h _ hl
 have H:=Done.start h
 have hg:=hS.rem a
 have e1:X.wantsP [X.sName] (remT s L a)=X.wname (remT s L a):=by rw [X.wantsP_one,X.wantP_name hg]
 rw [← e1] at hl ⊢
 clear h e1
 go_enter Tryz.func129,Tryz.ntmps129
 go_wp2_with fail
 refine Done.want (H.out) hS [X.sName] (by simp [X.sName]) (by simp) hl ?_
 intro w1 H1
 go_wp2_with fail
 go_end0
 exact ⟨rfl,H1⟩
set_option maxRecDepth 100000 in
set_option maxHeartbeats 4000000 in
theorem several_any (s:ByteArray) (L:List Tk) (dp:Nat) (hS:TokS s L) (fn:FuncId) (hen:∀ args w,(callFunc fn args).run Tryz.prog w=.ok (.enter fn args) w) (O:X.R) (hO:Reads fn O (fun _=>True) s L dp) (hsh:X.Shr O) (e:List UInt8) (he:e∈X.signs) :
  ReadsA 128 (fun rb B=>#[.pointer (some ⟨rb,0,none⟩),.pointer (some ⟨B,0,none⟩),.func (.func fn) #[.pointer (some ⟨rb,0,none⟩)] #[],.string (ba e)]) (X.several O e) (fun _=>True) s L dp:=by
 intro rb tv a B k rv vs ps D w h _ hl
 have H:=Done.start h
 have hg:=hS.rem a
 have hen0:e≠[]:=by rintro rfl;revert he;decide
 have HO:=hide hO
 rw [X.several_eq] at hl
 clear h hO
 have e1:[e].any (fun x=>X.pN x (remT s L a))=X.isN e (remT s L a):=by simp [X.pN_sign hg (.inr he)]
 go_enter Tryz.func128,Tryz.ntmps128
 go_wp2_with fail
 refine Done.isNext (H.out) [e] (by simp) ?_
 intro w1 H1
 rw [e1]
 clear e1 H
 cases hc:X.isN e (remT s L a) with
 | true =>
  rw [hc] at hl
  simp only [if_true] at hl
  have e2:X.wantsP [e] (remT s L a)=X.want e (remT s L a):=by rw [X.wantsP_one,X.wantP_sign hg (.inr he)]
  rw [← e2] at hl
  go_wp2_with fail
  refine Done.want (H1.out) hS [e] (by simpa using hen0) (by simp) hl ?_
  intro w2 H2
  go_wp2_with fail
  go_end0
  refine ⟨rfl,?_⟩
  rw [X.several_eq,hc,if_pos rfl,← e2]
  exact H2
 | false =>
  rw [hc] at hl
  simp only [Bool.false_eq_true,if_false] at hl
  have hlA:ps.length+((O (remT s L a)).1.length+((X.sevL O (O (remT s L a)).2).1.length+(X.want e (X.sevL O (O (remT s L a)).2).2).1.length))≤1073741824:=by
   simp only [X.andThen,List.length_append] at hl;omega
  go_wp2_with fail
  refine Done.then (H1.out) (HO.out) trivial (by omega) ?_
  intro w2 H2
  go_wp2_with fail
  go_loopw [] (fun wr=>∃ (acc:List X.Part) (ts1:List X.Tok),Hid (Done w rb s L tv dp B k rv (ps++acc) ts1 D wr)∧Hid (X.andThen O (X.sevL O) (remT s L a)=(acc++(X.sevL O ts1).1,(X.sevL O ts1).2))) (fun wr=>L.length - atT rb wr)
  case atStart=>exact ⟨_,_,H2,(rfl:_=_)⟩
  case round =>
   obtain ⟨acc,ts1,H3,HE⟩:=hrel
   have hg1:=(H3.out).good hS
   have hlB:acc.length+(X.sevL O ts1).1.length=(O (remT s L a)).1.length+(X.sevL O (O (remT s L a)).2).1.length:=by
    have:=congrArg (fun z=>z.1.length) HE.out
    simp only [X.andThen,List.length_append] at this
    omega
   have e3:[[44]].any (fun x=>X.pN x ts1)=X.isN [44] ts1:=by simp [X.pN_sign hg1 (.inr (by decide:[44]∈X.signs))]
   go_wp2_with fail
   refine Done.isNext (H3.out) [[44]] (by simp) ?_
   intro w4 H4
   rw [e3]
   cases hc2:X.isN [44] ts1 with
   | true =>
    have hs:=X.sevL_yes hsh hc2
    have hlC:(X.sevL O ts1).1.length=(X.take ts1).1.length+((O (X.take ts1).2).1.length+(X.sevL O (O (X.take ts1).2).2).1.length):=by
     rw [hs];simp only [X.andThen,List.length_append]
    go_wp2_with fail
    refine Done.then (H4.out) (take_any s L dp hS) (X.isN_next hc2) (by rw [List.length_append];omega) ?_
    intro w5 H5
    go_wp2_with fail
    refine Done.then (H5.out) (HO.out) trivial (by rw [List.length_append,List.length_append];omega) ?_
    intro w6 H6
    go_wp2_with fail
    refine ⟨⟨acc++(X.take ts1).1++(O (X.take ts1).2).1,(O (X.take ts1).2).2,?_,?_⟩,?_⟩
    ·have:ps++(acc++(X.take ts1).1++(O (X.take ts1).2).1)=ps++acc++(X.take ts1).1++(O (X.take ts1).2).1:=by simp
     rw [this];exact H6
    ·show _=_
     rw [HE.out,hs];simp [X.andThen]
    ·rw [(H6.out).at,(H3.out).at]
     have:=X.take_lt (X.isN_next hc2)
     have:=hsh.le (X.take ts1).2
     omega
   | false =>
    have hs:=X.sevL_no (one:=O) hc2
    have hx:X.andThen O (X.sevL O) (remT s L a)=(acc,ts1):=by rw [HE.out,hs];simp
    have e4:X.wantsP [e] ts1=X.want e ts1:=by rw [X.wantsP_one,X.wantP_sign hg1 (.inr he)]
    have hx1:(X.sevL O (O (remT s L a)).2).2=ts1:=congrArg Prod.snd hx
    have hx2:(O (remT s L a)).1++(X.sevL O (O (remT s L a)).2).1=acc:=congrArg Prod.fst hx
    rw [hx1] at hlA
    go_wp2_with fail
    refine Done.want (H4.out) hS [e] (by simpa using hen0) (by simp) (by rw [e4,List.length_append,← hx2,List.length_append];omega) ?_
    intro w5 H5
    go_wp2_with fail
    go_end0
    refine ⟨rfl,?_⟩
    rw [X.several_eq,hc,if_neg (by simp)]
    have e5:X.andThen O (X.andThen (X.sevL O) (X.want e)) (remT s L a)=(acc++(X.want e ts1).1,(X.want e ts1).2):=by
     rw [← X.andThen_assoc]
     show ((X.andThen O (X.sevL O) (remT s L a)).1++_,_)=_
     simp only [hx]
    rw [e5,← List.append_assoc,← e4]
    exact H5
end Go.Proofs.YtgpcpbmacdhlkaaGreatDoor
/- The document's nodes in memory. -/
namespace Go.Proofs.YtgpcpbmacdhlkaaGreatDoor
open Go.RowKit
open M
namespace X
inductive Q where
 | mk (k t:Nat) (x:List UInt8) (qs:List Q) (at0 en fr tt:Int) (la:Bool)
mutual
def raw:Part→Q
 | .leaf k x=>.mk 0 k x [] 0 0 0 0 false
 | .miss m=>.mk 1 0 m [] 0 0 0 0 false
 | .br k ps=>.mk k 0 [] (raws ps) 0 0 0 0 false
def raws:List Part→List Q
 | []=>[]
 | p::ps=>raw p::raws ps
end
theorem raws_eq:∀ ps:List Part,raws ps=ps.map raw
 | []=>rfl
 | p::ps=>by rw [raws,raws_eq ps,List.map_cons]
end X
def mcell (k t:Nat) (x:List UInt8) (rv:Value) (at0 en fr tt:Int) (la:Bool):Obj:=.cells #[.int .i64 k,.int .i64 t,.string (ba x),rv,.int .i64 at0,.int .i64 en,.int .i64 fr,.int .i64 tt,.bool la] 58 (0,0)
inductive IsM (w:World):Nat→Nat→Value→X.Q→Prop
 | mk (lo hi N k t:Nat) (x:List UInt8) (qs:List X.Q) (at0 en fr tt:Int) (la:Bool) (ao:Option Addr) (cap:Nat) (vs:Nat→Value) (L H:Nat→Nat)
   (hN:lo≤N∧N<hi) (hb:w.heap[N]?=some (mcell k t x (.slice ao qs.length cap) at0 en fr tt la)) (hc:qs.length≤cap∧cap≤maxLen)
   (hr:∀ i,i<qs.length→∃ g,ao=some ⟨g,0,none⟩∧lo≤g∧g<hi∧g≠N∧(∀ j,j<qs.length→¬(L j≤g∧g<H j))∧w.cell? ⟨g,i,none⟩=some (vs i))
   (hs:∀ i,i<qs.length→lo≤L i∧L i≤H i∧H i≤hi∧¬(L i≤N∧N<H i)∧∀ j,i<j→j<qs.length→H i≤L j)
   (hp:∀ (i:Nat) (q:X.Q),qs[i]?=some q→IsM w (L i) (H i) (vs i) q):IsM w lo hi (.pointer (some ⟨N,0,none⟩)) (.mk k t x qs at0 en fr tt la)
theorem IsM.keep {S:Nat→Prop} {w w':World} (hk:Kp S w w') {lo hi:Nat} {v:Value} {q:X.Q} (h:IsM w lo hi v q):(∀ i,lo≤i→i<hi→¬ S i)→IsM w' lo hi v q:=by
 induction h with
 | mk lo hi N k t x qs at0 en fr tt la ao cap vs L H hN hb hc hr hs hp ih =>
  intro hS
  refine .mk lo hi N k t x qs at0 en fr tt la ao cap vs L H hN (hk.heap hb (hS N hN.1 hN.2)) hc (fun i hi=>?_) hs (fun i q hq=>ih i q hq (fun j h1 h2=>?_))
  ·obtain ⟨g,h1,h2,h3,h4,h5,h6⟩:=hr i hi
   exact ⟨g,h1,h2,h3,h4,h5,hk.cellv h6 (hS g h2 h3)⟩
  ·have hl:i<qs.length:=by
    rcases Nat.lt_or_ge i qs.length with g|g
    ·exact g
    ·rw [List.getElem?_eq_none g] at hq;cases hq
   have:=hs i hl
   exact hS j (by omega) (by omega)
theorem IsM.lt {w:World} {lo hi:Nat} {v:Value} {q:X.Q} (h:IsM w lo hi v q):lo<hi:=by
 cases h with
 | mk _ _ N _ _ _ _ _ _ _ _ _ _ _ _ _ _ hN=>omega
theorem IsM.kept {w w':World} (hk:Below w.heap.size w w') {lo hi:Nat} {v:Value} {q:X.Q} (h:IsM w lo hi v q):IsM w' lo hi v q:=h.keep (Kp.ofBelow hk (fun _=>False)) (fun _ _ _=>id)
theorem IsM.wide {w:World} {lo hi lo' hi':Nat} {v:Value} {q:X.Q} (h:IsM w lo hi v q) (h1:lo'≤lo) (h2:hi≤hi'):IsM w lo' hi' v q:=by
 cases h with
 | mk _ _ N k t x qs at0 en fr tt la ao cap vs L H hN hb hc hr hs hp =>
  exact .mk lo' hi' N k t x qs at0 en fr tt la ao cap vs L H ⟨by omega,by omega⟩ hb hc (fun i hi=>by obtain ⟨g,e1,e2,e3,e4⟩:=hr i hi;exact ⟨g,e1,by omega,by omega,e4⟩) (fun i hi=>by obtain ⟨e1,e2,e3,e4⟩:=hs i hi;exact ⟨by omega,e2,by omega,e4⟩) hp
structure Kds (w:World) (lo B:Nat) (og:Option Nat) (vs:List Value) (ps:List X.Part) (L H:Nat→Nat):Prop where
 len:vs.length=ps.length
 sep:∀ i,i<ps.length→lo≤L i∧L i≤H i∧H i≤w.heap.size∧¬(L i≤B∧B<H i)∧(∀ g,og=some g→¬(L i≤g∧g<H i))∧∀ j,i<j→j<ps.length→H i≤L j
 each:∀ (i:Nat) (p:X.Part),ps[i]?=some p→∃ v,vs[i]?=some v∧IsM w (L i) (H i) v (X.raw p)
theorem Kds.keep {S:Nat→Prop} {w w':World} {lo B:Nat} {og:Option Nat} {vs:List Value} {ps:List X.Part} {L H:Nat→Nat} (h:Kds w lo B og vs ps L H) (hk:Kp S w w') (hS:∀ i,i<ps.length→∀ q,L i≤q→q<H i→¬ S q):Kds w' lo B og vs ps L H:=by
 refine ⟨h.len,fun i hi=>?_,fun i p hp=>?_⟩
 ·obtain ⟨h1,h2,h3,h4⟩:=h.sep i hi
  exact ⟨h1,h2,Nat.le_trans h3 hk.size,h4⟩
 ·obtain ⟨v,h1,h2⟩:=h.each i p hp
  have hl:i<ps.length:=by
   rcases Nat.lt_or_ge i ps.length with g|g
   ·exact g
   ·rw [List.getElem?_eq_none g] at hp;cases hp
  exact ⟨v,h1,h2.keep hk (hS i hl)⟩
theorem Kds.nil (w:World) (lo B:Nat) (og:Option Nat):Kds w lo B og [] [] (fun _=>0) (fun _=>0):=⟨rfl,fun i hi=>by simp at hi,fun i p hp=>by simp at hp⟩
theorem Kds.snoc {w:World} {lo B:Nat} {og og':Option Nat} {vs:List Value} {ps:List X.Part} {L H:Nat→Nat} (h:Kds w lo B og vs ps L H) {l u:Nat} {v:Value} {p:X.Part} (hp:IsM w l u v (X.raw p))
  (h1:∀ i,i<ps.length→H i≤l) (h2:lo≤l) (h3:u≤w.heap.size) (h4:¬(l≤B∧B<u)) (h5:∀ g,og'=some g→(¬(l≤g∧g<u))∧∀ i,i<ps.length→¬(L i≤g∧g<H i)) :
  Kds w lo B og' (vs++[v]) (ps++[p]) (fun i=>if i=ps.length then l else L i) (fun i=>if i=ps.length then u else H i):=by
 have hlu:=hp.lt
 refine ⟨by rw [List.length_append,List.length_append,h.len];rfl,fun i hi=>?_,fun i q hq=>?_⟩
 ·rw [List.length_append,List.length_singleton] at hi
  by_cases e:i=ps.length
  ·simp only [e,if_true]
   refine ⟨h2,by omega,h3,h4,fun g hg=>(h5 g hg).1,fun j hj hj2=>?_⟩
   rw [List.length_append,List.length_singleton] at hj2;omega
  ·have hi':i<ps.length:=by omega
   obtain ⟨a1,a2,a3,a4,a5,a6⟩:=h.sep i hi'
   simp only [e,if_false]
   refine ⟨a1,a2,a3,a4,fun g hg=>(h5 g hg).2 i hi',fun j hj hj2=>?_⟩
   rw [List.length_append,List.length_singleton] at hj2
   by_cases e2:j=ps.length
   ·simp only [e2,if_true];exact h1 i hi'
   ·simp only [e2,if_false];exact a6 j hj (by omega)
 ·have hi:i<ps.length+1:=by
   rcases Nat.lt_or_ge i (ps.length+1) with g|g
   ·exact g
   ·rw [List.getElem?_eq_none (by rw [List.length_append];exact g)] at hq;cases hq
  by_cases e:i=ps.length
  ·subst e
   rw [List.getElem?_append_right (Nat.le_refl _),Nat.sub_self] at hq
   obtain rfl:p=q:=by simpa using hq
   refine ⟨v,by rw [← h.len,List.getElem?_append_right (Nat.le_refl _),Nat.sub_self];rfl,?_⟩
   simp only [if_true];exact hp
  ·rw [List.getElem?_append_left (by omega)] at hq
   obtain ⟨u',g1,g2⟩:=h.each i q hq
   refine ⟨u',by rw [List.getElem?_append_left (by rw [h.len];omega)];exact g1,?_⟩
   simp only [e,if_false];exact g2
structure Mk (w:World) (lo B k:Nat) (rv:Value) (vs:List Value) (ps:List X.Part) (L H:Nat→Nat):Prop where
 blk:w.heap[B]?=some (mcell k 0 [] rv 0 0 0 0 false)
 row:w.ownsRow lo 52 1 rv vs.length vs
 kds:Kds w lo B rv.ownBlock vs ps L H
 ge:lo≤B
 ne:rv.ownBlock≠some B
theorem Mk.lt {w:World} {lo B k:Nat} {rv:Value} {vs:List Value} {ps:List X.Part} {L H:Nat→Nat} (h:Mk w lo B k rv vs ps L H):B<w.heap.size:=heap_lt h.blk
theorem Mk.keep {S:Nat→Prop} {w w':World} {lo B k:Nat} {rv:Value} {vs:List Value} {ps:List X.Part} {L H:Nat→Nat} (h:Mk w lo B k rv vs ps L H) (hk:Kp S w w') (hS:∀ q,lo≤q→q<w.heap.size→¬ S q):Mk w' lo B k rv vs ps L H :=
 ⟨hk.heap h.blk (hS B h.ge h.lt),hk.owns h.row (fun g hg=>by have:=owns_ge h.row g hg;exact hS g this.1 this.2),h.kds.keep hk (fun i hi q h1 h2=>by have:=h.kds.sep i hi;exact hS q (by omega) (by omega)),h.ge,h.ne⟩
theorem Mk.below {w w':World} {lo B k:Nat} {rv:Value} {vs:List Value} {ps:List X.Part} {L H:Nat→Nat} (h:Mk w lo B k rv vs ps L H) (hk:Below w.heap.size w w'):Mk w' lo B k rv vs ps L H:=h.keep (Kp.ofBelow hk (fun _=>False)) (fun _ _ _=>id)
theorem Mk.facts {w:World} {lo B k:Nat} {rv:Value} {vs:List Value} {ps:List X.Part} {L H:Nat→Nat} (h:Mk w lo B k rv vs ps L H) :
  w.cell? ⟨B,0,none⟩=some (.int .i64 k)∧w.cell? ⟨B,3,none⟩=some rv∧w.frozen? ⟨B,0,none⟩=false∧w.frozen? ⟨B,3,none⟩=false:=by
 have h:=h.blk
 unfold mcell at h
 refine ⟨?_,?_,?_,?_⟩<;>simp [World.cell?,World.frozen?,h]
theorem Mk.new (w:World) (k:Nat):Mk (w.alloc (mcell k 0 [] (.slice none 0 0) 0 0 0 0 false)) w.heap.size w.heap.size k (.slice none 0 0) [] [] (fun _=>0) (fun _=>0) :=
 ⟨heap_alloc_new w _,World.ownsRow_nil _ _ _ _,Kds.nil _ _ _ _,Nat.le_refl _,fun e=>by cases e⟩
theorem Mk.done {w:World} {lo B k:Nat} {rv:Value} {vs:List Value} {ps:List X.Part} {L H:Nat→Nat} (h:Mk w lo B k rv vs ps L H):IsM w lo w.heap.size (.pointer (some ⟨B,0,none⟩)) (X.raw (.br k ps)):=by
 have hl:=h.kds.len
 have hbl:=h.lt
 have hge:=h.ge
 have hb:=h.blk
 have hql:(X.raws ps).length=ps.length:=by rw [X.raws_eq,List.length_map]
 have hkid:∀ (vs':Nat→Value),(∀ i,vs' i=vs.getD i undef)→∀ (i:Nat) (q:X.Q),(X.raws ps)[i]?=some q→IsM w (L i) (H i) (vs' i) q:=by
  intro vs' hv i q hq
  rw [X.raws_eq,List.getElem?_map] at hq
  cases hp:ps[i]? with
  | none=>rw [hp] at hq;cases hq
  | some p =>
   rw [hp] at hq
   obtain rfl:X.raw p=q:=by simpa using hq
   obtain ⟨v,h1,h2⟩:=h.kds.each i p hp
   rw [hv,List.getD_eq_getElem?_getD,h1];exact h2
 rw [X.raw]
 rcases h.row.2 with ⟨rfl,h0⟩|⟨g,cap,cur,rfl,hg0,hg,hn,hmx,hsz,ht⟩
 ·have hp:ps=[]:=List.length_eq_zero_iff.1 (by omega)
  subst hp
  exact .mk lo _ B k 0 [] _ 0 0 0 0 false none 0 (fun i=>vs.getD i undef) L H ⟨hge,hbl⟩ hb ⟨Nat.le_refl _,by unfold maxLen;omega⟩ (fun i hi=>by simp [X.raws] at hi) (fun i hi=>by simp [X.raws] at hi) (hkid _ (fun _=>rfl))
 ·have hgl:=heap_lt hg
  rw [hl] at hb hn
  have hne:g≠B:=fun e=>h.ne (by rw [e];rfl)
  refine .mk lo _ B k 0 [] _ 0 0 0 0 false (some ⟨g,0,none⟩) cap (fun i=>vs.getD i undef) L H ⟨hge,hbl⟩ (by rw [hql];exact hb) ⟨by rw [hql];exact hn,hmx⟩ (fun i hi=>⟨g,rfl,hg0,hgl,hne,fun j hj=>?_,?_⟩) (fun i hi=>?_) (hkid _ (fun _=>rfl))
  ·rw [hql] at hj
   exact (h.kds.sep j hj).2.2.2.2.1 g rfl
  ·rw [hql] at hi
   have hv:vs[i]?=some (vs.getD i undef):=by
    rw [List.getD_eq_getElem?_getD,List.getElem?_eq_getElem (by omega)];rfl
   have:=h.row.cells (g:=g) rfl i _ hv
   rwa [Addr.add_lit,Nat.zero_add] at this
  ·rw [hql] at hi
   obtain ⟨a1,a2,a3,a4,a5,a6⟩:=h.kds.sep i hi
   exact ⟨a1,a2,a3,a4,fun j h1 h2=>a6 j h1 (by rw [hql] at h2;exact h2)⟩
theorem IsM.leaf {w:World} {N k:Nat} {x:List UInt8} (hb:w.heap[N]?=some (mcell 0 k x (.slice none 0 0) 0 0 0 0 false)):IsM w N (N+1) (.pointer (some ⟨N,0,none⟩)) (X.raw (.leaf k x)):=by
 rw [X.raw]
 exact .mk N _ N 0 k x [] 0 0 0 0 false none 0 (fun _=>undef) (fun _=>0) (fun _=>0) ⟨Nat.le_refl _,by omega⟩ hb ⟨Nat.le_refl _,by unfold maxLen;omega⟩ (fun i hi=>by simp at hi) (fun i hi=>by simp at hi) (fun i q hq=>by simp at hq)
theorem IsM.miss {w:World} {N:Nat} {x:List UInt8} (hb:w.heap[N]?=some (mcell 1 0 x (.slice none 0 0) 0 0 0 0 false)):IsM w N (N+1) (.pointer (some ⟨N,0,none⟩)) (X.raw (.miss x)):=by
 rw [X.raw]
 exact .mk N _ N 1 0 x [] 0 0 0 0 false none 0 (fun _=>undef) (fun _=>0) (fun _=>0) ⟨Nat.le_refl _,by omega⟩ hb ⟨Nat.le_refl _,by unfold maxLen;omega⟩ (fun i hi=>by simp at hi) (fun i hi=>by simp at hi) (fun i q hq=>by simp at hq)
theorem infoM:(Tryz.prog.info? 52).map (fun i=>(i.zero,i.size,i.bytes))=some (some (.pointer none),1,8):=by kernel_rfl
end Go.Proofs.YtgpcpbmacdhlkaaGreatDoor
/- The document's reader in memory: what is next. -/
namespace Go.Proofs.YtgpcpbmacdhlkaaGreatDoor
open Go.RowKit
open M
def RawM (w:World) (rb:Nat) (s:ByteArray) (tv:Value) (a dp:Int) (c:Bool):Prop:=w.heap[rb]?=some (.cells #[.string s,tv,.int .i64 a,.int .i64 dp,.bool c] 111 (0,0))
theorem RawM.facts {w:World} {rb:Nat} {s:ByteArray} {tv:Value} {a dp:Int} {c:Bool} (h:RawM w rb s tv a dp c) :
  (w.cell? ⟨rb,0,none⟩=some (.string s)∧w.cell? ⟨rb,1,none⟩=some tv∧w.cell? ⟨rb,2,none⟩=some (.int .i64 a)∧w.cell? ⟨rb,3,none⟩=some (.int .i64 dp))∧(w.frozen? ⟨rb,2,none⟩=false∧w.frozen? ⟨rb,3,none⟩=false∧w.frozen? ⟨rb,4,none⟩=false)∧w.cell? ⟨rb,4,none⟩=some (.bool c):=by
 unfold RawM at h
 refine ⟨⟨?_,?_,?_,?_⟩,⟨?_,?_,?_⟩,?_⟩<;>simp [World.cell?,World.frozen?,h]
theorem RawM.set2 {w:World} {rb:Nat} {s:ByteArray} {tv:Value} {a dp:Int} {c:Bool} (h:RawM w rb s tv a dp c) (y:Int):RawM (w.setCell ⟨rb,2,none⟩ (.int .i64 y)) rb s tv y dp c:=by
 unfold RawM at h ⊢
 simp [World.setCell,Array.getElem?_modify,h]
theorem RawM.set3 {w:World} {rb:Nat} {s:ByteArray} {tv:Value} {a dp:Int} {c:Bool} (h:RawM w rb s tv a dp c) (y:Int):RawM (w.setCell ⟨rb,3,none⟩ (.int .i64 y)) rb s tv a y c:=by
 unfold RawM at h ⊢
 simp [World.setCell,Array.getElem?_modify,h]
theorem RawM.set4 {w:World} {rb:Nat} {s:ByteArray} {tv:Value} {a dp:Int} {c:Bool} (h:RawM w rb s tv a dp c) (y:Bool):RawM (w.setCell ⟨rb,4,none⟩ (.bool y)) rb s tv a dp y:=by
 unfold RawM at h ⊢
 simp [World.setCell,Array.getElem?_modify,h]
structure RdM (w:World) (rb:Nat) (s:ByteArray) (L:List Tk) (tv:Value) (a dp:Nat):Prop where
 raw:∃ c,RawM w rb s tv a dp c
 row:IsT w tv L
 le:a≤L.length
 own:∀ k,tv.ownBlock=some k→k≠rb∧k<w.heap.size
theorem RdM.lt {w:World} {rb:Nat} {s:ByteArray} {L:List Tk} {tv:Value} {a dp:Nat} (h:RdM w rb s L tv a dp):rb<w.heap.size:=by obtain ⟨c,h1⟩:=h.raw;exact heap_lt h1
theorem RdM.keep {S:Nat→Prop} {w w':World} {rb:Nat} {s:ByteArray} {L:List Tk} {tv:Value} {a dp:Nat} (h:RdM w rb s L tv a dp) (hk:Kp S w w') (hn:¬ S rb) (ht:∀ k,tv.ownBlock=some k→¬ S k):RdM w' rb s L tv a dp :=
 ⟨by obtain ⟨c,h1⟩:=h.raw;exact ⟨c,hk.heap h1 hn⟩,h.row.keep hk ht,h.le,fun k e=>⟨(h.own k e).1,Nat.lt_of_lt_of_le (h.own k e).2 hk.size⟩⟩
theorem RdM.below {w w':World} {rb:Nat} {s:ByteArray} {L:List Tk} {tv:Value} {a dp:Nat} (h:RdM w rb s L tv a dp) (hk:Below w.heap.size w w'):RdM w' rb s L tv a dp:=h.keep (Kp.ofBelow hk (fun _=>False)) id (fun _ _=>id)
theorem RdM.moved {w w':World} {rb:Nat} {s:ByteArray} {L:List Tk} {tv:Value} {a dp a' dp':Nat} {c:Bool} (h:RdM w rb s L tv a dp) (hk:On rb w w') (hr:RawM w' rb s tv a' dp' c) (ha:a'≤L.length):RdM w' rb s L tv a' dp' :=
 ⟨⟨c,hr⟩,h.row.keep hk (fun k e e'=>(h.own k e).1 e'),ha,fun k e=>⟨(h.own k e).1,Nat.lt_of_lt_of_le (h.own k e).2 hk.size⟩⟩
theorem nxI_quiet {L:List Tk} {a:Nat} {t:Tk} (h:L[a]?=some t) (hq:qk t=true):nxI L a=nxI L (a+1):=by
 have hd:L.drop a=t::L.drop (a+1):=by
  have hl:a<L.length:=by
   rcases Nat.lt_or_ge a L.length with g|g
   ·exact g
   ·rw [List.getElem?_eq_none g] at h;cases h
  rw [List.drop_eq_getElem_cons hl];congr 1
  exact Option.some.inj ((List.getElem?_eq_getElem hl).symm.trans h)
 unfold nxI
 rw [hd,List.takeWhile_cons,if_pos hq,List.length_cons];omega
theorem nxI_here {L:List Tk} {a:Nat} {t:Tk} (h:L[a]?=some t) (hq:qk t=false):nxI L a=a:=by
 have hd:L.drop a=t::L.drop (a+1):=by
  have hl:a<L.length:=by
   rcases Nat.lt_or_ge a L.length with g|g
   ·exact g
   ·rw [List.getElem?_eq_none g] at h;cases h
  rw [List.drop_eq_getElem_cons hl];congr 1
  exact Option.some.inj ((List.getElem?_eq_getElem hl).symm.trans h)
 unfold nxI
 rw [hd,List.takeWhile_cons,if_neg (by rw [hq];simp)];rfl
theorem retn {a b:Nat} (h:a=b):Ending.returned (.int .i64 (a:Int))=Ending.returned (.int .i64 (b:Int)):=by rw [h]
theorem nxI_over {L:List Tk}:nxI L L.length=L.length:=by unfold nxI;simp
set_option maxRecDepth 100000 in
set_option maxHeartbeats 1000000 in
theorem ahead_any (rb:Nat) (s:ByteArray) (L:List Tk) (tv:Value) (a dp:Nat) (w:World) (hS:TokS s L) (h:RdM w rb s L tv a dp) :
  Calls Tryz.prog 66 #[.pointer (some ⟨rb,0,none⟩)] w fun e w'=>e=.returned (.int .i64 (nxI L a))∧Below w.heap.size w w':=by
 obtain ⟨c,hr⟩:=h.raw
 have HR:=hide hr
 obtain ⟨⟨c0,c1,c2,c3⟩,-,-⟩:=hr.facts
 have hl2:=hS.len
 have HT:=hide h.row
 have ha:=h.le
 obtain ⟨ao,cap,rfl,hc1,hc2,-⟩:=h.row
 clear h hr hS
 go_enter Tryz.func66,Tryz.ntmps66
 go_wp2_with fail
 go_loopw [3] (fun v wr=>∃ m:Nat,v=.int .i64 m∧m≤L.length∧Hid (nxI L a=nxI L m)∧Hid (Below w.heap.size w wr)) (fun v _=>L.length - (intOf v).toNat)
 case atStart=>exact ⟨a,rfl,ha,(rfl:nxI L a=nxI L a),Below.refl _ w⟩
 case round =>
  obtain ⟨m,rfl,hm,HJ,HB⟩:=hrel
  clear c0 c1 c2 c3
  obtain ⟨⟨c0,c1,c2,c3⟩,-,-⟩:=RawM.facts ((Kp.ofBelow (HB.out) (fun _=>False)).heap HR.out id)
  by_cases hlt:m<L.length
  case neg =>
   have i1:decide (m<L.length)=false:=by simp;omega
   have i2:decide ((m:Int)<(L.length:Int))=false:=by simp;omega
   have HE:Hid (nxI L a=m):=by
    have hml:m=L.length:=by omega
    show _=_
    rw [HJ.out,hml,nxI_over]
   clear HJ
   go_wp2_with fail
   go_ret
   exact ⟨retn HE.out.symm,HB.out⟩
  obtain ⟨b',o',t,rfl,ht,q1,q2,q3⟩:=(HT.out).get HB.out hlt
  have i1:decide (m<L.length)=true:=by simp;omega
  have i2:decide ((m:Int)<(L.length:Int))=true:=by simp;omega
  have hi1:(0:Int)≤(m:Int):=Int.natCast_nonneg _
  have hi2:(m:Int)<(L.length:Int):=by omega
  cases k1:((t.kind:Int)==1) with
  | true =>
   have HN:Hid (nxI L a=nxI L (m+1)):=by
    show _=_
    rw [HJ.out];exact nxI_quiet ht (by unfold qk;simp at k1 ⊢;omega)
   clear ht HJ
   go_wp2_with fail
   exact ⟨⟨m+1,by go_num,by omega,HN,HB⟩,by simp only [intOf];omega⟩
  | false =>
   cases k2:((t.kind:Int)==2) with
   | true =>
    have HN:Hid (nxI L a=nxI L (m+1)):=by
     show _=_
     rw [HJ.out];exact nxI_quiet ht (by unfold qk;simp at k2 ⊢;omega)
    clear ht HJ
    go_wp2_with fail
    exact ⟨⟨m+1,by go_num,by omega,HN,HB⟩,by simp only [intOf];omega⟩
   | false =>
    have HN:Hid (nxI L a=m):=by
     show _=_
     rw [HJ.out];exact nxI_here ht (by unfold qk;simp at k1 k2 ⊢;omega)
    clear ht HJ
    go_wp2_with fail
    go_ret
    exact ⟨retn HN.out.symm,HB.out⟩
set_option maxRecDepth 100000 in
set_option maxHeartbeats 1000000 in
theorem rkind_any (rb:Nat) (s:ByteArray) (L:List Tk) (tv:Value) (a dp:Nat) (w:World) (hS:TokS s L) (h:RdM w rb s L tv a dp) :
  Calls Tryz.prog 45 #[.pointer (some ⟨rb,0,none⟩)] w fun e w'=>e=.returned (.int .i64 (X.kindN (remT s L a)))∧Below w.heap.size w w':=by
 have HR:=hide h
 have hl2:=hS.len
 have hq:=nxI_le h.le
 obtain ⟨ao,cap,rfl,hc1,hc2,-⟩:=h.row
 have HK:=hide (kind_rem s L a)
 clear h
 go_enter Tryz.func45,Tryz.ntmps45
 go_wp2_with fail
 refine (ahead_any rb s L _ a dp w hS HR.out).mono ?_
 rintro e w1 ⟨rfl,k1⟩
 have HB:=hide k1
 have HR1:=hide ((HR.out).below k1)
 clear k1 HR
 obtain ⟨c,hr⟩:=(HR1.out).raw
 obtain ⟨⟨c0,c1,c2,c3⟩,-,-⟩:=hr.facts
 clear hr
 by_cases hlt:nxI L a<L.length
 ·obtain ⟨b',o',t,rfl,ht,q1,q2,q3⟩:=(HR1.out).row.get (Below.refl _ w1) hlt
  rw [ht] at HK
  have i1:decide (L.length≤nxI L a)=false:=by simp;omega
  have i2:decide ((L.length:Int)≤(nxI L a:Int))=false:=by simp;omega
  have hi1:(0:Int)≤(nxI L a:Int):=Int.natCast_nonneg _
  have hi2:(nxI L a:Int)<(L.length:Int):=by omega
  clear ht
  go_wp2_with fail
  go_ret
  exact ⟨retn HK.out.symm,HB.out⟩
 ·have i1:decide (L.length≤nxI L a)=true:=by simp;omega
  have i2:decide ((L.length:Int)≤(nxI L a:Int))=true:=by simp;omega
  have hnone:L[nxI L a]?=none:=List.getElem?_eq_none (by omega)
  rw [hnone] at HK
  clear hnone
  go_wp2_with fail
  go_ret
  exact ⟨retn (b:=X.kindN (remT s L a)) HK.out.symm,HB.out⟩
theorem isN_rem (s:ByteArray) (L:List Tk) (a:Nat) (x:List UInt8):X.isN x (remT s L a)=match L[nxI L a]? with|some t=>(t.kind==4||t.kind==7)&&((bs s).drop t.pos).take t.len==x|none=>false:=by
 unfold X.isN
 rw [nxt_rem]
 cases L[nxI L a]?<;>rfl
set_option maxRecDepth 100000 in
set_option maxHeartbeats 1000000 in
theorem ris_any (rb:Nat) (s:ByteArray) (L:List Tk) (tv:Value) (a dp:Nat) (x:List UInt8) (w:World) (hS:TokS s L) (h:RdM w rb s L tv a dp) :
  Calls Tryz.prog 68 #[.pointer (some ⟨rb,0,none⟩),.string (ba x)] w fun e w'=>e=.returned (.bool (X.isN x (remT s L a)))∧Below w.heap.size w w':=by
 have HR:=hide h
 have hl1:=hS.size
 have hl2:=hS.len
 have HF:=hide hS.fit
 have hq:=nxI_le h.le
 obtain ⟨ao,cap,rfl,hc1,hc2,-⟩:=h.row
 have HK:=hide (isN_rem s L a x)
 clear h
 go_enter Tryz.func68,Tryz.ntmps68
 go_wp2_with fail
 refine (ahead_any rb s L _ a dp w hS HR.out).mono ?_
 rintro e w1 ⟨rfl,k1⟩
 have HB:=hide k1
 have HR1:=hide ((HR.out).below k1)
 clear k1 HR hS
 obtain ⟨c,hr⟩:=(HR1.out).raw
 obtain ⟨⟨c0,c1,c2,c3⟩,-,-⟩:=hr.facts
 have hrl:=heap_lt hr
 clear hr
 by_cases hlt:nxI L a<L.length
 ·obtain ⟨b',o',t,rfl,ht,q1,q2,q3⟩:=(HR1.out).row.get (Below.refl _ w1) hlt
  obtain ⟨g1,g2,g3⟩:=(HF.out) t (List.mem_of_getElem? ht)
  rw [ht] at HK
  have i1:decide (L.length≤nxI L a)=false:=by simp;omega
  have i2:decide ((L.length:Int)≤(nxI L a:Int))=false:=by simp;omega
  have hi1:(0:Int)≤(nxI L a:Int):=Int.natCast_nonneg _
  have hi2:(nxI L a:Int)<(L.length:Int):=by omega
  have j1:(t.pos:Int)≤(t.pos:Int)+(t.len:Int):=by omega
  have j2:(t.pos:Int)+(t.len:Int)≤(s.size:Int):=by omega
  have j3:t.pos≤s.size:=by omega
  have tl:∀ z:List UInt8,(ba z).toList=z:=fun z=>by rw [ByteArray.toList_eq];exact bs_ba z
  have HX:Hid ((s.extract t.pos (t.pos+t.len)).toList=((bs s).drop t.pos).take t.len):=by
   show _=_
   rw [ByteArray.toList_eq]
   show bs _=_
   rw [bs_cut,List.drop_take,Nat.add_sub_cancel_left]
  have HXX:Hid ((((bs s).drop t.pos).take t.len==x)=((s.extract t.pos (t.pos+t.len)).toList==(ba x).toList)):=by
   show _=_
   rw [HX.out,tl]
  have hbl:b'<w1.heap.size:=World.block_lt_of_cell? _ _ q1
  clear ht tl HX
  have hnew:∀ o:Obj,(w1.alloc o).cell? ⟨b',o'+nxI L a*3,none⟩=w1.cell? ⟨b',o'+nxI L a*3,none⟩:=fun o=>World.cell?_alloc_old _ _ _ (Nat.ne_of_lt hbl)
  cases k1:((t.kind:Int)==4) with
  | true =>
   have HK2:Hid (X.isN x (remT s L a)=((s.extract t.pos (t.pos+t.len)).toList==(ba x).toList)):=by
    show _=_
    rw [HK.out,← HXX.out]
    have:(t.kind==4)=true:=by simp at k1 ⊢;omega
    simp only [this,Bool.true_or,Bool.true_and]
   have n1:((t.kind:Int) !=4)=false:=by simp [bne,k1]
   have n2:(t.kind:Int)=4:=by simpa using k1
   clear HK HXX hnew
   go_wp2_with fail
   go_quiet (fail)
   go_wp2_with fail
   go_ret
   exact ⟨retb HK2.out.symm,(HB.out).trans ((belowN ((Below.refl _ w1).alloc (Nat.le_refl _) _) nq).mono (HB.out).size)⟩
  | false =>
   cases k2:((t.kind:Int)==7) with
   | true =>
    have HK2:Hid (X.isN x (remT s L a)=((s.extract t.pos (t.pos+t.len)).toList==(ba x).toList)):=by
     show _=_
     rw [HK.out,← HXX.out]
     have:(t.kind==7)=true:=by simp at k2 ⊢;omega
     simp only [this,Bool.or_true,Bool.true_and]
    have n1:((t.kind:Int) !=4)=true:=by simp [bne,k1]
    have n2:¬(t.kind:Int)=4:=by simpa using k1
    have n3:((t.kind:Int) !=7)=false:=by simp [bne,k2]
    have n4:(t.kind:Int)=7:=by simpa using k2
    clear HK HXX hnew
    go_wp2_with fail
    go_quiet (fail)
    go_wp2_with fail
    go_ret
    exact ⟨retb HK2.out.symm,(HB.out).trans ((belowN ((Below.refl _ w1).alloc (Nat.le_refl _) _) nq).mono (HB.out).size)⟩
   | false =>
    have HK2:Hid (X.isN x (remT s L a)=false):=by
     show _=_
     rw [HK.out]
     have e1:(t.kind==4)=false:=by simp at k1 ⊢;omega
     have e2:(t.kind==7)=false:=by simp at k2 ⊢;omega
     simp only [e1,e2,Bool.or_self,Bool.false_and]
    have n1:((t.kind:Int) !=4)=true:=by simp [bne,k1]
    have n2:¬(t.kind:Int)=4:=by simpa using k1
    have n3:((t.kind:Int) !=7)=true:=by simp [bne,k2]
    have n4:¬(t.kind:Int)=7:=by simpa using k2
    clear HK HXX hnew
    go_wp2_with fail
    go_ret
    exact ⟨retb HK2.out.symm,HB.out⟩
 ·have i1:decide (L.length≤nxI L a)=true:=by simp;omega
  have i2:decide ((L.length:Int)≤(nxI L a:Int))=true:=by simp;omega
  have hnone:L[nxI L a]?=none:=List.getElem?_eq_none (by omega)
  rw [hnone] at HK
  clear hnone
  go_wp2_with fail
  go_ret
  exact ⟨retb HK.out.symm,HB.out⟩
end Go.Proofs.YtgpcpbmacdhlkaaGreatDoor
/- The document's reader at work on a node. -/
namespace Go.Proofs.YtgpcpbmacdhlkaaGreatDoor
open Go.RowKit
open M
theorem Mk.added {w w':World} {lo B k:Nat} {rv rv' v:Value} {vs:List Value} {ps:List X.Part} {p:X.Part} {L H:Nat→Nat} {l u:Nat} (h:Mk w lo B k rv vs ps L H) (hp:IsM w l u v (X.raw p))
  (h1:∀ i,i<ps.length→H i≤l) (h2:lo≤l) (h3:u≤w.heap.size) (h4:¬(l≤B∧B<u)) (h5:∀ g,rv.ownBlock=some g→¬(l≤g∧g<u))
  (hb:w'.heap[B]?=some (mcell k 0 [] rv' 0 0 0 0 false)) (hr:w'.ownsRow lo 52 1 rv' (vs++[v]).length (vs++[v])) (ho:∀ g,rv'.ownBlock=some g→rv.ownBlock=some g∨w.heap.size≤g) (hk:Kp (fun q=>q=B∨rv.ownBlock=some q) w w') :
  ∃ L' H',Mk w' lo B k rv' (vs++[v]) (ps++[p]) L' H':=by
 have hS:∀ i,i<ps.length→∀ q,L i≤q→q<H i→¬(q=B∨rv.ownBlock=some q):=by
  rintro i hi q e1 e2 (e|e)
  ·have:=(h.kds.sep i hi).2.2.2.1;subst e;exact this ⟨e1,e2⟩
  ·exact (h.kds.sep i hi).2.2.2.2.1 q e ⟨e1,e2⟩
 have hP:∀ i,l≤i→i<u→¬(i=B∨rv.ownBlock=some i):=by
  rintro i e1 e2 (e|e)
  ·subst e;exact h4 ⟨e1,e2⟩
  ·exact h5 i e ⟨e1,e2⟩
 have hbl:=h.lt
 refine ⟨_,_,hb,hr,(h.kds.keep hk hS).snoc (hp.keep hk hP) h1 h2 (Nat.le_trans h3 hk.size) h4 (fun g hg=>?_),h.ge,fun e=>?_⟩
 ·rcases ho g hg with e|e
  ·exact ⟨h5 g e,fun i hi=>(h.kds.sep i hi).2.2.2.2.1 g e⟩
  ·exact ⟨by omega,fun i hi=>by have:=(h.kds.sep i hi).2.2.1;omega⟩
 ·rcases ho B e with e|e
  ·exact h.ne e
  ·omega
structure WkM (w:World) (rb:Nat) (s:ByteArray) (L:List Tk) (tv:Value) (a dp lo B k:Nat) (rv:Value) (vs:List Value) (ps:List X.Part) (Lo Hi:Nat→Nat):Prop where
 rdr:RdM w rb s L tv a dp
 nd:Mk w lo B k rv vs ps Lo Hi
 rlt:rb<lo
 tlt:∀ q,tv.ownBlock=some q→q<lo
def Sm (rb B:Nat) (rv:Value) (q:Nat):Prop:=q=rb∨q=B∨rv.ownBlock=some q
def DnM (w:World) (rb:Nat) (s:ByteArray) (L:List Tk) (tv:Value) (dp lo B k:Nat) (rv:Value) (ps':List X.Part) (ts':List X.Tok) (w':World):Prop :=
 ∃ a' rv' vs' Lo' Hi',WkM w' rb s L tv a' dp lo B k rv' vs' ps' Lo' Hi'∧remT s L a'=ts'∧(∀ g,rv'.ownBlock=some g→rv.ownBlock=some g∨w.heap.size≤g)∧Kp (Sm rb B rv) w w'
theorem DnM.refl {w:World} {rb:Nat} {s:ByteArray} {L:List Tk} {tv:Value} {a dp lo B k:Nat} {rv:Value} {vs:List Value} {ps:List X.Part} {Lo Hi:Nat→Nat} (h:WkM w rb s L tv a dp lo B k rv vs ps Lo Hi):DnM w rb s L tv dp lo B k rv ps (remT s L a) w :=
 ⟨a,rv,vs,Lo,Hi,h,rfl,fun _ hg=>.inl hg,Kp.refl _ _⟩
theorem DnM.trans {w w1 w2:World} {rb:Nat} {s:ByteArray} {L:List Tk} {tv:Value} {dp lo B k1:Nat} {rv rv1:Value} {ps2:List X.Part} {ts2:List X.Tok}
  (hr:∀ g,rv1.ownBlock=some g→rv.ownBlock=some g∨w.heap.size≤g) (hk:Kp (Sm rb B rv) w w1) (h:DnM w1 rb s L tv dp lo B k1 rv1 ps2 ts2 w2):DnM w rb s L tv dp lo B k1 rv ps2 ts2 w2:=by
 obtain ⟨a',rv',vs',Lo',Hi',h1,h2,h3,h4⟩:=h
 have hz:=hk.size
 refine ⟨a',rv',vs',Lo',Hi',h1,h2,fun g hg=>?_,Kp.trans hk h4 (fun i hi e=>?_)⟩
 ·rcases h3 g hg with e|e
  ·exact hr g e
  ·exact .inr (by omega)
 ·rcases e with e|e|e
  ·exact .inl e
  ·exact .inr (.inl e)
  ·rcases hr i e with e|e
   ·exact .inr (.inr e)
   ·omega
theorem WkM.below {w w':World} {rb:Nat} {s:ByteArray} {L:List Tk} {tv:Value} {a dp lo B k:Nat} {rv:Value} {vs:List Value} {ps:List X.Part} {Lo Hi:Nat→Nat} (h:WkM w rb s L tv a dp lo B k rv vs ps Lo Hi) (hk:Below w.heap.size w w'):WkM w' rb s L tv a dp lo B k rv vs ps Lo Hi :=
 ⟨h.rdr.below hk,h.nd.below hk,h.rlt,h.tlt⟩
theorem WkM.moved {w w':World} {rb:Nat} {s:ByteArray} {L:List Tk} {tv:Value} {a dp a' dp' lo B k:Nat} {rv:Value} {vs:List Value} {ps:List X.Part} {Lo Hi:Nat→Nat} (h:WkM w rb s L tv a dp lo B k rv vs ps Lo Hi) (hk:On rb w w') (hr:RdM w' rb s L tv a' dp'):WkM w' rb s L tv a' dp' lo B k rv vs ps Lo Hi :=
 ⟨hr,h.nd.keep hk (fun q e1 _ e=>by have:=h.rlt;omega),h.rlt,h.tlt⟩
theorem DnM.next {w w1:World} {rb:Nat} {s:ByteArray} {L:List Tk} {tv:Value} {dp lo B k:Nat} {rv:Value} {ps1:List X.Part} {ts1:List X.Tok} (h:DnM w rb s L tv dp lo B k rv ps1 ts1 w1) {w2:World} (hk:Below w1.heap.size w1 w2):DnM w rb s L tv dp lo B k rv ps1 ts1 w2:=by
 obtain ⟨a',rv',vs',Lo',Hi',h1,h2,h3,h4⟩:=h
 exact ⟨a',rv',vs',Lo',Hi',h1.below hk,h2,h3,Kp.trans h4 (Kp.ofBelow hk (fun _=>False)) (fun _ _ e=>e.elim)⟩
theorem WkM.put {w W w5:World} {rb:Nat} {s:ByteArray} {L:List Tk} {tv:Value} {a dp a' dp' lo B k:Nat} {rv v:Value} {vs:List Value} {ps:List X.Part} {p:X.Part} {Lo Hi:Nat→Nat} {l u g cap:Nat} (h:WkM w rb s L tv a dp lo B k rv vs ps Lo Hi) (hK:On rb w W) (hr:RdM W rb s L tv a' dp')
  (hp:IsM W l u v (X.raw p)) (hl:w.heap.size≤l) (hu:u≤W.heap.size) (hgrow:W.grownBy w5 rv.ownBlock) (hown:w5.ownsRow lo 52 1 (.slice (some ⟨g,0,none⟩) (vs.length+1) cap) (vs.length+1) (vs++[v])) (hat:rv.ownBlock=some g∨W.heap.size≤g) :
  DnM w rb s L tv dp' lo B k rv (ps++[p]) (remT s L a') (w5.setCell ⟨B,3,none⟩ (.slice (some ⟨g,0,none⟩) (vs.length+1) cap)):=by
 have hM:WkM W rb s L tv a' dp' lo B k rv vs ps Lo Hi:=h.moved hK hr
 have hz:=hK.size
 have hbl:=h.nd.lt
 have hrl:=h.rlt
 have hge:=h.nd.ge
 have hrow:=owns_ge h.nd.row
 have hne:rv.ownBlock≠some B:=h.nd.ne
 have hgB:g≠B:=by
  rcases hat with e|e
  ·exact fun e'=>hne (e' ▸ e)
  ·omega
 have hk1:Kp (fun q=>q=B∨rv.ownBlock=some q) W w5:=Kp.grown (Kp.refl _ W) hgrow (fun k e _=>.inr e)
 have hk:Kp (fun q=>q=B∨rv.ownBlock=some q) W (w5.setCell ⟨B,3,none⟩ (.slice (some ⟨g,0,none⟩) (vs.length+1) cap)):=Kp.setCell hk1 (p:=⟨B,3,none⟩) (fun _=>.inl rfl) _
 have hb5:w5.heap[B]?=some (mcell k 0 [] rv 0 0 0 0 false):=(hgrow.block B (by omega) (fun e=>hne e.symm)).trans hM.nd.blk
 have hb:(w5.setCell ⟨B,3,none⟩ (.slice (some ⟨g,0,none⟩) (vs.length+1) cap)).heap[B]?=some (mcell k 0 [] (.slice (some ⟨g,0,none⟩) (vs.length+1) cap) 0 0 0 0 false):=by
  unfold mcell at hb5 ⊢
  simp [World.setCell,Array.getElem?_modify,hb5]
 have ho:∀ q,(Value.slice (some ⟨g,0,none⟩) (vs.length+1) cap).ownBlock=some q→rv.ownBlock=some q∨W.heap.size≤q:=by
  intro q hq
  simp only [Value.ownBlock,Option.some.injEq] at hq
  subst hq;exact hat
 obtain ⟨L',H',hm⟩:=hM.nd.added hp (fun i hi=>by have:=(h.nd.kds.sep i hi).2.2.1;omega) (by omega) hu (by omega) (fun g' hg'=>by have:=hrow g' hg';omega) hb (by rw [List.length_append];exact ownsRow_setCell_other hown (by simp [Value.ownBlock];omega) _) ho hk
 have hS:∀ q,(q=B∨rv.ownBlock=some q)→lo≤q:=by
  rintro q (e|e)
  ·omega
  ·exact (hrow q e).1
 refine ⟨a',_,_,L',H',⟨hr.keep hk (fun e=>by have:=hS _ e;omega) (fun q e e'=>by have:=hS _ e';have:=h.tlt q e;omega),hm,h.rlt,h.tlt⟩,rfl,fun q hq=>?_,Kp.trans (Kp.mono hK (fun i _ e=>.inl e)) hk (fun i _ e=>.inr e)⟩
 rcases ho q hq with e|e
 ·exact .inl e
 ·exact .inr (by omega)
def ReadsM (fn:FuncId) (F:X.R) (ok:List X.Tok→Prop) (s:ByteArray) (L:List Tk) (dp:Nat):Prop :=
 ∀ (rb:Nat) (tv:Value) (a lo B k:Nat) (rv:Value) (vs:List Value) (ps:List X.Part) (Lo Hi:Nat→Nat) (w:World),WkM w rb s L tv a dp lo B k rv vs ps Lo Hi→ok (remT s L a)→ps.length+(F (remT s L a)).1.length≤1073741824 →
  Calls Tryz.prog fn #[.pointer (some ⟨rb,0,none⟩),.pointer (some ⟨B,0,none⟩)] w fun en w'=>en=.returned (.tuple #[])∧Hid (DnM w rb s L tv dp lo B k rv (ps++(F (remT s L a)).1) (F (remT s L a)).2 w')
end Go.Proofs.YtgpcpbmacdhlkaaGreatDoor
