/- Plain mathematics: what is wrong in a tree. -/
import Derived.Test.YtgpcpbmacdhlkaaGreatDoorYd
import Derived.Test.YtgpcpbmacdhlkaaGreatDoorXy
import Derived.Test.YtgpcpbmacdhlkaaGreatDoorKa
import Derived.Test.YtgpcpbmacdhlkaaGreatDoorXz
import Derived.Deep.RegionHeld3
namespace Go.Proofs.YtgpcpbmacdhlkaaGreatDoor
open M
namespace X
abbrev Nt:=Int × Int × Nat
def qlen:List Part→Nat
 | .leaf k x::ps=>if k=1∨k=2 then x.length+qlen ps else 0
 | _=>0
mutual
def nts:Part→Nat→List Nt
 | .leaf k x,i=>if k=8 then [((i:Int),((i+x.length:Nat):Int),3)] else []
 | .miss _,i=>[((i:Int),(i:Int),9)]
 | .br k ps,i=>(if k=5 then [(((i+qlen ps:Nat):Int),((i+(psb ps).length:Nat):Int),3)] else [])++ntss ps i
def ntss:List Part→Nat→List Nt
 | [],_=>[]
 | p::ps,i=>nts p i++ntss ps (i+(pb p).length)
end
theorem ntss_append:∀ (l r:List Part) (i:Nat),ntss (l++r) i=ntss l i++ntss r (i+(psb l).length)
 | [],r,i=>by simp [ntss,psb]
 | p::l,r,i=>by
  rw [List.cons_append,ntss,ntss_append l r,ntss,psb,List.length_append,List.append_assoc,Nat.add_assoc]
def lv:Part→Bool
 | .leaf _ _=>true
 | _=>false
def Junky (ps:List Part):Prop:=(∀ p∈ps,lv p=true)∧∃ l k x,ps=l++[.leaf k x]∧¬(k=1∨k=2)
mutual
def jok:Part→Prop
 | .leaf _ _=>True
 | .miss _=>True
 | .br k ps=>(k≠1∧(k=5→Junky ps))∧joks ps
def joks:List Part→Prop
 | []=>True
 | p::ps=>jok p∧joks ps
end
theorem joks_append {l r:List Part} (hl:joks l) (hr:joks r):joks (l++r):=by
 induction l with
 | nil=>exact hr
 | cons p l ih=>rw [List.cons_append,joks];rw [joks] at hl;exact ⟨hl.1,ih hl.2⟩
theorem joks_mem:∀ (ps:List Part) (i:Nat) (p:Part),joks ps→ps[i]?=some p→jok p
 | [],i,p,_,h=>by simp at h
 | q::ps,0,p,hk,h=>by
  obtain rfl:q=p:=by simpa using h
  exact hk.1
 | q::ps,i+1,p,hk,h=>joks_mem ps i p hk.2 (by simpa using h)
theorem joks_lf (ts:List Tok):joks (ts.map lf):=by
 induction ts with
 | nil=>rw [List.map_nil,joks];trivial
 | cons t ts ih=>rw [List.map_cons,joks,lf,jok];exact ⟨trivial,ih⟩
def Jn (f:R):Prop:=∀ ts,joks (f ts).1
theorem Jn.andThen {f g:R} (hf:Jn f) (hg:Jn g):Jn (X.andThen f g):=fun ts=>joks_append (hf ts) (hg (f ts).2)
theorem joks_one {k:Nat} {ps:List Part} (hk:k≠1∧k≠5) (h:joks ps):joks [.br k ps]:=by rw [joks,joks,jok];exact ⟨⟨⟨hk.1,fun e=>absurd e hk.2⟩,h⟩,trivial⟩
theorem Jn.node {f:R} (h:Jn f) {k:Nat} (hk:k≠1∧k≠5):Jn (X.node k f):=fun ts=>joks_one hk (h ts)
theorem Jn.nil:Jn (fun ts=>([],ts)):=fun ts=>by show joks [];rw [joks];trivial
theorem Jn.miss (m:List UInt8):Jn (fun ts=>([.miss m],ts)):=fun ts=>by show joks [.miss m];rw [joks,joks,jok];exact ⟨trivial,trivial⟩
theorem Jn.ite {f g:R} {b:List Tok→Bool} (hf:Jn f) (hg:Jn g):Jn (fun ts=>if b ts then f ts else g ts):=by
 intro ts
 show joks (if b ts then f ts else g ts).1
 split
 ·exact hf ts
 ·exact hg ts
theorem Jn.take:Jn X.take:=fun _=>joks_lf _
theorem Jn.want (s:List UInt8):Jn (X.want s):=Jn.ite (b:=isN s) Jn.take (Jn.miss s)
theorem Jn.wname:Jn X.wname:=Jn.ite (b:=fun ts=>kindN ts==3) Jn.take (Jn.miss sName)
theorem Jn.sevGo {one:R} (h:Jn one):∀ n,Jn (X.sevGo one n)
 | 0=>Jn.nil
 | n+1=>Jn.ite (b:=isN [44]) (Jn.take.andThen (h.andThen (Jn.sevGo h n))) Jn.nil
theorem Jn.several {one:R} (h:Jn one) (e:List UInt8):Jn (X.several one e):=Jn.ite (b:=isN e) (Jn.want e) (h.andThen (Jn.andThen (f:=fun ts=>X.sevGo one ts.length ts) (fun ts=>Jn.sevGo h ts.length ts) (Jn.want e)))
theorem Jn.params:Jn X.params:=((Jn.want _).andThen (Jn.wname.several _)).node (by decide)
theorem rowGo_jn {one:R} {ok:List Tok→Bool} (h:Jn one):∀ (n:Nat) (p:List Part) (ts:List Tok),joks p→joks (rowGo one ok n p ts).1
 | 0,p,ts,hp=>hp
 | n+1,p,ts,hp=>by
  unfold X.rowGo
  split
  ·exact rowGo_jn h n _ _ (joks_one (by decide) (joks_append hp ((Jn.take.andThen h) ts)))
  ·exact hp
theorem Jn.row {one:R} {ok:List Tok→Bool} (h:Jn one):Jn (X.row one ok):=fun ts=>rowGo_jn h _ _ _ (h ts)
theorem Jn.args {E:R} (h:Jn E):Jn (X.args E):=(Jn.take.andThen (h.several _)).node (by decide)
theorem callGo_jn {E:R} (h:Jn E):∀ (n:Nat) (p:List Part) (ts:List Tok),joks p→joks (callGo E n p ts).1
 | 0,p,ts,hp=>hp
 | n+1,p,ts,hp=>by
  unfold X.callGo
  split
  ·exact callGo_jn h n _ _ (joks_one (by decide) (joks_append hp (h.args ts)))
  ·exact hp
theorem Jn.part {E:R} (h:Jn E):Jn (X.part E) :=
 Jn.ite (b:=fun ts=>kindN ts==5) (Jn.take.node (by decide)) <|
 Jn.ite (b:=fun ts=>kindN ts==6) (Jn.take.node (by decide)) <|
 Jn.ite (b:=fun ts=>isN [116,114,117,101] ts||isN [102,97,108,115,101] ts) (Jn.take.node (by decide)) <|
 Jn.ite (b:=fun ts=>kindN ts==3) (Jn.take.node (by decide)) <|
 Jn.ite (b:=isN [63]) (Jn.take.node (by decide)) <|
 Jn.ite (b:=isN [40]) ((Jn.take.andThen (h.andThen (Jn.want _))).node (by decide)) <|
 Jn.ite (b:=isN [91]) ((Jn.take.andThen (h.several _)).node (by decide)) (Jn.miss _)
theorem Jn.call {E:R} (h:Jn E):Jn (X.call E):=fun ts=>callGo_jn h _ _ _ (h.part ts)
theorem Jn.product {E:R} (h:Jn E):Jn (X.product E):=h.call.row
theorem Jn.sum {E:R} (h:Jn E):Jn (X.sum E):=h.product.row
theorem Jn.comparison {E:R} (h:Jn E):Jn (X.comparison E):=by
 intro ts
 have h0:=h.sum
 cases hc:(isN [61,61] (X.sum E ts).2||isN [60] (X.sum E ts).2) with
 | true =>
  have e0:=comparison_yes hc
  rw [e0]
  clear e0 h hc
  revert h0
  generalize X.sum E=F
  intro h0
  exact joks_one (by decide) (joks_append (h0 ts) (joks_append (joks_lf _) (h0 _)))
 | false=>rw [comparison_no hc];exact h0 ts
theorem Jn.expr:∀ n,Jn (X.expr n)
 | 0=>Jn.miss _
 | n+1 =>
  have h:Jn (X.expr n):=Jn.expr n
  Jn.ite (b:=isN [108,101,116]) ((Jn.take.andThen (Jn.wname.andThen ((Jn.want _).andThen (h.andThen ((Jn.want _).andThen h))))).node (by decide)) <|
  Jn.ite (b:=isN [105,102]) ((Jn.take.andThen (h.andThen ((Jn.want _).andThen (h.andThen ((Jn.want _).andThen h))))).node (by decide)) <|
  Jn.ite (b:=isN [102,117,110]) ((Jn.take.andThen (Jn.params.andThen ((Jn.want _).andThen h))).node (by decide)) h.comparison
theorem Jn.optPub:Jn X.optPub:=Jn.ite (b:=isN sPub) Jn.take Jn.nil
theorem Jn.useR:Jn X.useR:=(Jn.want _).andThen (Jn.wname.andThen ((Jn.want _).andThen (Jn.wname.andThen ((Jn.ite (b:=isN [97,115]) (Jn.take.andThen Jn.wname) Jn.nil).andThen (Jn.want _)))))
theorem Jn.defR:Jn X.defR:=(Jn.want _).andThen (Jn.wname.andThen ((Jn.ite (b:=isN [40]) Jn.params Jn.nil).andThen ((Jn.want _).andThen ((Jn.expr 65).andThen (Jn.want _)))))
theorem take_junky {ts:List Tok} (h:nxt ts≠none):Junky (take ts).1:=by
 unfold nxt at h
 have hq:∃ t r,ts.dropWhile quiet=t::r:=by
  cases hd:ts.dropWhile quiet with
  | nil=>rw [hd] at h;exact absurd rfl h
  | cons t r=>exact ⟨t,r,rfl⟩
 obtain ⟨t,r,hd⟩:=hq
 have hnq:quiet t=false:=by
  have:=List.head?_dropWhile_not quiet ts
  rw [hd] at this
  simpa using this
 refine ⟨fun p hp=>?_,(ts.takeWhile quiet).map lf,t.1,t.2,?_,?_⟩
 ·obtain ⟨t',-,rfl⟩:=List.mem_map.1 hp
  rfl
 ·show List.map lf _=_
  rw [hd,List.map_append];rfl
 ·unfold quiet at hnq
  simpa using hnq
theorem Junky.append {l r:List Part} (hl:Junky l) (hr:Junky r):Junky (l++r):=by
 obtain ⟨l',k,x,e,hk⟩:=hr.2
 refine ⟨fun p hp=>?_,l++l',k,x,by rw [e,List.append_assoc],hk⟩
 rcases List.mem_append.1 hp with h|h
 ·exact hl.1 p h
 ·exact hr.1 p h
theorem junkGo_junky:∀ (n:Nat) (ts:List Tok),(junkGo n ts).1=[]∨Junky (junkGo n ts).1
 | 0,ts=>.inl rfl
 | n+1,ts=>by
  unfold junkGo
  by_cases h1:(kindN ts==0||starts ts)=true
  ·rw [if_pos h1];exact .inl rfl
  ·rw [if_neg h1]
   have hk:(kindN ts==0)=false:=by
    cases h:(kindN ts==0) with
    | false=>rfl
    | true=>rw [h] at h1;exact absurd rfl h1
   have hn:=kind_next hk
   by_cases h2:isN [59] ts=true
   ·rw [if_pos h2];exact .inr (take_junky hn)
   ·rw [if_neg h2]
    right
    show Junky ((take ts).1++(junkGo n (take ts).2).1)
    rcases junkGo_junky n (take ts).2 with e|e
    ·rw [e,List.append_nil];exact take_junky hn
    ·exact (take_junky hn).append e
theorem leaves_joks:∀ {ps:List Part},(∀ p∈ps,lv p=true)→joks ps
 | [],_=>by rw [joks];trivial
 | p::ps,h=>by
  rw [joks]
  refine ⟨?_,leaves_joks (fun q hq=>h q (List.mem_cons_of_mem _ hq))⟩
  have:=h p (List.mem_cons_self ..)
  cases p with
  | leaf k x=>rw [jok];trivial
  | miss m=>cases this
  | br k qs=>cases this
theorem kid_jok {ts:List Tok} (hk:(kindN ts==0)=false):jok (.br (kid ts).1 (kid ts).2.1):=by
 have hU:=Jn.optPub.andThen Jn.useR
 have hD:=Jn.optPub.andThen Jn.defR
 rw [kid_eq]
 revert hU hD
 generalize X.andThen optPub useR=U
 generalize X.andThen optPub defR=V
 intro hU hD
 by_cases hs:starts ts=true
 ·simp only [hs,if_true]
  split
  ·rw [jok];exact ⟨⟨fun e=>(by cases e),fun e=>(by cases e)⟩,hU ts⟩
  ·rw [jok];exact ⟨⟨fun e=>(by cases e),fun e=>(by cases e)⟩,hD ts⟩
 ·simp only [Bool.not_eq_true] at hs
  simp only [hs,Bool.false_eq_true,if_false]
  have hn:=kind_next hk
  have hj:Junky (junkL ts).1:=by
   rcases junkGo_junky ts.length ts with e|e
   ·exfalso
    have h2:junkL ts=if isN [59] ts then take ts else X.andThen take junkL ts:=junkL_yes (by rw [hk,hs];rfl)
    have h3:(take ts).1≠[]:=by
     obtain ⟨-,l,k,x,e',-⟩:=take_junky hn
     rw [e'];simp
    have h4:(junkL ts).1=[]:=e
    rw [h2] at h4
    split at h4
    ·exact h3 h4
    ·have:(take ts).1++(junkL (take ts).2).1=[]:=h4
     exact h3 (List.append_eq_nil_iff.1 this).1
   ·exact e
  rw [jok]
  exact ⟨⟨by decide,fun _=>hj⟩,leaves_joks hj.1⟩
theorem fileGo_jok:∀ (n:Nat) (ts:List Tok),joks (fileGo n ts)
 | 0,ts=>joks_lf ts
 | n+1,ts=>by
  unfold fileGo
  by_cases hk:(kindN ts==0)=true
  ·rw [if_pos hk];exact joks_lf ts
  ·rw [if_neg hk]
   simp only [Bool.not_eq_true] at hk
   rw [joks]
   exact ⟨kid_jok hk,fileGo_jok n _⟩
theorem file_jok (ts:List Tok):jok (file ts):=by rw [file,jok];exact ⟨⟨by decide,fun e=>absurd e (by decide)⟩,fileGo_jok _ ts⟩
end X
end Go.Proofs.YtgpcpbmacdhlkaaGreatDoor
/- Plain mathematics: what a tree says: items. -/
namespace Go.Proofs.YtgpcpbmacdhlkaaGreatDoor
open M
namespace X
end X
end Go.Proofs.YtgpcpbmacdhlkaaGreatDoor
/- Plain mathematics: what names stand for. -/
namespace Go.Proofs.YtgpcpbmacdhlkaaGreatDoor
open M
namespace X
/-! The places at which names stand. -/
end X
end Go.Proofs.YtgpcpbmacdhlkaaGreatDoor
/- Plain mathematics: what a name stands for stands for itself. -/
namespace Go.Proofs.YtgpcpbmacdhlkaaGreatDoor
open M
namespace X
end X
end Go.Proofs.YtgpcpbmacdhlkaaGreatDoor
/- Plain mathematics: names are told once each,from the left. -/
namespace Go.Proofs.YtgpcpbmacdhlkaaGreatDoor
open M
namespace X
end X
end Go.Proofs.YtgpcpbmacdhlkaaGreatDoor
/- Plain mathematics: uses that lead to uses,and rings of them. -/
namespace Go.Proofs.YtgpcpbmacdhlkaaGreatDoor
open M
namespace X
/-! How many uses there are. -/
end X
end Go.Proofs.YtgpcpbmacdhlkaaGreatDoor
/- Plain mathematics: names are no longer than the text,and stand in it. -/
namespace Go.Proofs.YtgpcpbmacdhlkaaGreatDoor
open M
namespace X
end X
end Go.Proofs.YtgpcpbmacdhlkaaGreatDoor
/- What is wrong in a part,as the program tells it. -/
namespace Go.Proofs.YtgpcpbmacdhlkaaGreatDoor
open Go.RowKit
open M
def nv (n:X.Nt):List Value:=[.int .i64 n.1,.int .i64 n.2.1,.int .i64 n.2.2]
def nvs (ns:List X.Nt):List Value:=ns.flatMap nv
theorem nvs_append (a b:List X.Nt):nvs (a++b)=nvs a++nvs b:=List.flatMap_append
theorem nvs_one (n:X.Nt):nvs [n]=nv n:=by unfold nvs;simp
theorem nvs_len (ns:List X.Nt):(nvs ns).length=ns.length*3:=by
 induction ns with
 | nil=>rfl
 | cons n ns ih =>
  have:nvs (n::ns)=nv n++nvs ns:=by unfold nvs;rw [List.flatMap_cons]
  rw [this,List.length_append,ih,List.length_cons];simp [nv];omega
namespace X
mutual
theorem nts_len:∀ (p:Part) (i:Nat),(nts p i).length≤psz p
 | .leaf k x,i=>by rw [nts,psz];split<;>simp
 | .miss m,i=>by rw [nts,psz];simp
 | .br k ps,i=>by
  rw [nts,psz,List.length_append]
  have:=ntss_len ps i
  split<;>simp<;>omega
theorem ntss_len:∀ (ps:List Part) (i:Nat),(ntss ps i).length≤pssz ps
 | [],i=>by rw [ntss,pssz];simp
 | p::ps,i=>by
  rw [ntss,pssz,List.length_append]
  have:=nts_len p i
  have:=ntss_len ps (i+(pb p).length)
  omega
end
end X
theorem infoNote:(Tryz.prog.info? 137).map (fun i=>(i.zero,i.size,i.bytes))=some (some (.agg #[.int .i64 0,.int .i64 0,.int .i64 0]),3,24):=by kernel_rfl
def IsNs (w:World) (base:Nat) (rv:Value) (ns:List X.Nt):Prop:=w.ownsRow base 137 3 rv ns.length (nvs ns)
theorem IsNs.keep {S:Nat→Prop} {w w':World} {base:Nat} {rv:Value} {ns:List X.Nt} (h:IsNs w base rv ns) (hk:Kp S w w') (hS:∀ q,S q→q<base):IsNs w' base rv ns:=hk.owns h (fun g hg hs=>by have:=(owns_ge h g hg).1;have:=hS g hs;omega)
def Told (w:World) (base:Nat) (ns:List X.Nt) (rv':Value) (w':World):Prop:=IsNs w' base rv' ns∧Below base w w'
set_option maxRecDepth 100000 in
set_option maxHeartbeats 1000000 in
theorem ltell_any (k:Nat) (x:List UInt8) (base:Nat) (rv:Value) (ns:List X.Nt) (i:Nat) (w:World) (h:IsNs w base rv ns) (hb:base≤w.heap.size) (hi:i+x.length≤1073741824) (hn:ns.length≤1073741823) :
  Calls Tryz.prog 180 #[.agg #[.int .i64 k,.int .i64 x.length],rv,.int .i64 i] w fun e w'=>∃ rv',e=.returned (.tuple #[rv',.int .i64 ((i+x.length:Nat):Int)])∧Hid (Told w base (ns++X.nts (.leaf k x) i) rv' w'):=by
 obtain ⟨i0,hi0,hz0,hz1,hz2⟩:=info_parts infoNote
 have HI:=hide h
 clear h
 have kA:∀ o:Obj,Below base w (w.alloc o):=fun o=>(Below.refl _ w).alloc hb _
 have HKA:=hide kA
 clear kA
 cases h8:((k:Int)==8) with
 | false =>
  have e8:¬ k=8:=by intro e;subst e;cases h8
  have HR:Hid (X.nts (.leaf k x) i=[]):=by show _=_;rw [X.nts,if_neg e8]
  go_enter Tryz.func180,Tryz.ntmps180
  go_wp2_with fail
  exact bodyPost_ret (v:=.tuple #[rv,.int .i64 ((i:Int)+(x.length:Int))]) (by simp [results,Tryz.results180,go_sem]) rfl ⟨rv,by rw [Int.natCast_add],by rw [HR.out,List.append_nil];exact ⟨(HI.out).keep (Kp.alloc (Kp.refl (fun _=>False) w) _) (fun _ h=>h.elim),(HKA.out) _⟩⟩
 | true =>
  have e8:k=8:=by have:(k:Int)=8:=(by simpa using h8);omega
  have HR:Hid (X.nts (.leaf k x) i=[((i:Int),((i+x.length:Nat):Int),3)]):=by show _=_;rw [X.nts,if_pos e8]
  clear e8
  go_enter Tryz.func180,Tryz.ntmps180
  go_wp2_with (at_builtin;refine wpList_append_lies _ rfl _ _ 43 rfl base 137 i0 _ 3 24 Tryz.underlying43 hi0 hz0 hz1 hz2 rfl (by decide) rv ns.length _ rfl (((HI.out:w.ownsRow _ _ _ _ _ _).alloc _).alloc _) ⟨w.heap.size+1,0,none⟩ 1 1 (nv ((i:Int),((i:Int)+(x.length:Int)),3)) rfl rfl (World.news_of_block (cs:=#[.int .i64 i,.int .i64 ((i:Int)+(x.length:Int)),.int .i64 3]) (new_at (w.alloc _) _ (World.size_alloc w _))) (by simp [Value.oneCell',nv]) (by omega) (by unfold maxLen;omega) (by omega) (by simp;omega) (w.heap.size+2) (by simp) ?_;intro g cap5 w5 hown5 hgrow5 hat5 hlt5;have HO:=hide hown5;have HGr:=hide hgrow5;clear hown5 hgrow5)
  refine bodyPost_ret (v:=.tuple #[.slice (some ⟨g,0,none⟩) (ns.length+1) cap5,.int .i64 ((i:Int)+(x.length:Int))]) (by simp [results,Tryz.results180,go_sem]) rfl ⟨_,by rw [Int.natCast_add],?_⟩
  rw [HR.out]
  refine ⟨?_,?_⟩
  ·show w5.ownsRow _ _ _ _ _ _
   rw [List.length_append,nvs_append,nvs_one,Int.natCast_add];exact HO.out
  ·have k1:Below base w ((w.alloc (.cells #[.int .i64 k,.int .i64 x.length] 166)).alloc (.cells #[.int .i64 i,.int .i64 ((i:Int)+(x.length:Int)),.int .i64 3] 137)):=((Below.refl _ w).alloc hb _).alloc (by simp;omega) _
   exact k1.grown HGr.out (by simp;omega) (fun q hq=>(owns_ge HI.out q hq).1)
set_option maxRecDepth 100000 in
set_option maxHeartbeats 1000000 in
theorem mtell_any (m:List UInt8) (base:Nat) (rv:Value) (ns:List X.Nt) (i:Nat) (w:World) (h:IsNs w base rv ns) (hb:base≤w.heap.size) (hn:ns.length≤1073741823) :
  Calls Tryz.prog 193 #[.string (ba m),rv,.int .i64 i] w fun e w'=>∃ rv',e=.returned (.tuple #[rv',.int .i64 (i:Int)])∧Hid (Told w base (ns++X.nts (.miss m) i) rv' w'):=by
 obtain ⟨i0,hi0,hz0,hz1,hz2⟩:=info_parts infoNote
 have HI:=hide h
 clear h
 have HR:Hid (X.nts (.miss m) i=[((i:Int),(i:Int),9)]):=by show _=_;rw [X.nts]
 go_enter Tryz.func193,Tryz.ntmps193
 go_wp2_with (at_builtin;refine wpList_append_lies _ rfl _ _ 43 rfl base 137 i0 _ 3 24 Tryz.underlying43 hi0 hz0 hz1 hz2 rfl (by decide) rv ns.length _ rfl ((HI.out:w.ownsRow _ _ _ _ _ _).alloc _) ⟨w.heap.size,0,none⟩ 1 1 (nv ((i:Int),(i:Int),9)) rfl rfl (World.news_of_block (cs:=#[.int .i64 i,.int .i64 i,.int .i64 9]) (heap_alloc_new w _)) (by simp [Value.oneCell',nv]) (by omega) (by unfold maxLen;omega) (by omega) (by simp;omega) (w.heap.size+1) (by simp) ?_;intro g cap5 w5 hown5 hgrow5 hat5 hlt5;have HO:=hide hown5;have HGr:=hide hgrow5;clear hown5 hgrow5)
 refine bodyPost_ret (v:=.tuple #[.slice (some ⟨g,0,none⟩) (ns.length+1) cap5,.int .i64 (i:Int)]) (by simp [results,Tryz.results193,go_sem]) rfl ⟨_,rfl,?_⟩
 rw [HR.out]
 refine ⟨?_,?_⟩
 ·show w5.ownsRow _ _ _ _ _ _
  rw [List.length_append,nvs_append,nvs_one];exact HO.out
 ·have k1:Below base w (w.alloc (.cells #[.int .i64 i,.int .i64 i,.int .i64 9] 137)):=(Below.refl _ w).alloc hb _
  exact k1.grown HGr.out (by simp;omega) (fun q hq=>(owns_ge HI.out q hq).1)
def BTOk (p:X.Part):Prop:=∀ (w:World) (D:Nat→Prop) (N base:Nat) (rv:Value) (ns:List X.Nt) (i:Nat),IsP w D (.iface 73 (.pointer (some ⟨N,0,none⟩))) p→(∀ q,D q→q<base)→IsNs w base rv ns→base≤w.heap.size→i+(X.pb p).length≤1073741824→ns.length+X.psz p≤1073741823 →
 Calls Tryz.prog 37 #[.pointer (some ⟨N,0,none⟩),rv,.int .i64 i] w fun e w'=>∃ rv',e=.returned (.tuple #[rv',.int .i64 ((i+(X.pb p).length:Nat):Int)])∧Hid (Told w base (ns++X.nts p i) rv' w')
theorem mt_leaf (a b : Value) (w : World) : (Go.method 349 166 (.agg #[a, b]) "amanuensis/tree.tell").run Tryz.prog w = .ok (180, .agg #[a, b]) w := by kernel_rfl
theorem mt_miss (m : ByteArray) (w : World) : (Go.method 349 206 (.string m) "amanuensis/tree.tell").run Tryz.prog w = .ok (193, .string m) w := by kernel_rfl
theorem mt_br (p : Option Addr) (w : World) : (Go.method 349 73 (.pointer p) "amanuensis/tree.tell").run Tryz.prog w = .ok (37, .pointer p) w := by kernel_rfl
theorem mt_kid (p : Option Addr) (n : Value) (w : World) : (Go.method 349 81 (.agg #[.pointer p, n]) "amanuensis/tree.tell").run Tryz.prog w = .ok (37, .pointer p) w := by kernel_rfl
theorem en_ltell:∀ args w,(callFunc 180 args).run Tryz.prog w=.ok (.enter 180 args) w:=enters_of Tryz.func180 (by kernel_rfl) rfl
theorem en_mtell:∀ args w,(callFunc 193 args).run Tryz.prog w=.ok (.enter 193 args) w:=enters_of Tryz.func193 (by kernel_rfl) rfl
theorem en_btell:∀ args w,(callFunc 37 args).run Tryz.prog w=.ok (.enter 37 args) w:=enters_of Tryz.func37 (by kernel_rfl) rfl
theorem tell_disp {w:World} {D:Nat→Prop} {v:Value} {p:X.Part} (h:IsP w D v p) (hB:BTOk p) (base:Nat) (hD:∀ q,D q→q<base) :
  ∃ ty x fid recv, v = .iface ty x ∧ (∀ W, (Go.method 349 ty x "amanuensis/tree.tell").run Tryz.prog W = .ok (fid, recv) W) ∧ (∀ args W, (callFunc fid args).run Tryz.prog W = .ok (.enter fid args) W) ∧
   ∀ (W:World) (rv:Value) (ns:List X.Nt) (i:Nat),Below base w W→IsNs W base rv ns→base≤W.heap.size→i+(X.pb p).length≤1073741824→ns.length+X.psz p≤1073741823→Calls Tryz.prog fid #[recv,rv,.int .i64 i] W fun e w'=>∃ rv',e=.returned (.tuple #[rv',.int .i64 ((i+(X.pb p).length:Nat):Int)])∧Hid (Told W base (ns++X.nts p i) rv' w'):=by
 have keep:∀ {W:World} {v:Value} {p:X.Part},Below base w W→IsP w D v p→IsP W D v p:=fun hk h=>h.keep (Kp.ofBelowB hk (S:=fun q=>base≤q) (fun _ h _=>h)) (fun q hq e=>by have:=hD q hq;omega)
 cases h with
 | leaf k x =>
  refine ⟨_,_,_,_,rfl,fun W=>mt_leaf _ _ W,en_ltell,fun W rv ns i _ h1 h2 h3 h4=>?_⟩
  rw [X.pb] at h3 ⊢
  exact ltell_any k x base rv ns i W h1 h2 h3 (by omega)
 | miss m =>
  refine ⟨_,_,_,_,rfl,fun W=>mt_miss _ W,en_mtell,fun W rv ns i _ h1 h2 h3 h4=>?_⟩
  rw [X.pb]
  exact mtell_any m base rv ns i W h1 h2 (by omega)
 | br k N cap ao vs ps hN hb hc hr hp =>
  refine ⟨_,_,_,_,rfl,fun W=>mt_br _ W,en_btell,fun W rv ns i hk h1 h2 h3 h4=>?_⟩
  exact hB W D N base rv ns i (keep hk (IsP.br k N cap ao vs ps hN hb hc hr hp)) hD h1 h2 h3 h4
 | kid N n q hn hq =>
  refine ⟨_,_,_,_,rfl,fun W=>mt_kid _ _ W,en_btell,fun W rv ns i hk h1 h2 h3 h4=>?_⟩
  exact hB W D N base rv ns i (keep hk hq) hD h1 h2 h3 h4
theorem IsP.ofLeaf {w:World} {D:Nat→Prop} {v:Value} {k:Nat} {x:List UInt8} (h:IsP w D v (.leaf k x)):v=.iface 166 (.agg #[.int .i64 k,.int .i64 x.length]):=by
 cases h with
 | leaf=>rfl
 | kid N n q hn hq=>cases hq
theorem qlen_step {ps:List X.Part} {j:Nat} {k:Nat} {x:List UInt8} (h:ps[j]?=some (.leaf k x)):X.qlen (ps.drop j)=if k=1∨k=2 then x.length+X.qlen (ps.drop (j+1)) else 0:=by
 have hl:j<ps.length:=by
  rcases Nat.lt_or_ge j ps.length with g|g
  ·exact g
  ·rw [List.getElem?_eq_none g] at h;cases h
 have hd:ps.drop j=.leaf k x::ps.drop (j+1):=by
  rw [List.drop_eq_getElem_cons hl];congr 1
  exact Option.some.inj ((List.getElem?_eq_getElem hl).symm.trans h)
 rw [hd,X.qlen]
theorem ta_leaf (a b:Value) (w:World):(Instr.typeAssert (.iface 166 (.agg #[a,b])) 134 166 true).run Tryz.prog w=.ok (.tuple #[.agg #[a,b],.bool true]) w:=by kernel_rfl
set_option maxRecDepth 100000 in
set_option maxHeartbeats 1000000 in
theorem bquiet_any (w:World) (D:Nat→Prop) (N k:Nat) (ps:List X.Part) (h:IsP w D (.iface 73 (.pointer (some ⟨N,0,none⟩))) (.br k ps)) (hj:∀ p∈ps,X.lv p=true) (hl:(X.psb ps).length≤1073741824) (hpl:ps.length≤1073741824) :
  Calls Tryz.prog 59 #[.pointer (some ⟨N,0,none⟩)] w fun e w'=>e=.returned (.int .i64 (X.qlen ps))∧Below w.heap.size w w':=by
 cases h with
 | br _ _ cap ao vs _ hN hb hc hr hp =>
 have HR:=hide hr
 have HP:=hide hp
 have HJ:=hide hj
 have c0:=cell_of_row w _ 0 _ _ _ hb
 have c1:=cell_of_row w _ 1 _ _ _ hb
 have HB:=hide hb
 have hcap:=hc.1
 clear hr hp hb hc hj
 go_enter Tryz.func59,Tryz.ntmps59
 go_wp2_with fail
 go_loopw [3,13] (fun a v wr=>∃ (j sm:Nat),a=.int .i64 sm∧v=.int .i64 j∧j≤ps.length∧Hid (X.qlen ps=sm+X.qlen (ps.drop j))∧Hid (sm+(X.psb (ps.drop j)).length≤(X.psb ps).length)∧Hid (Below w.heap.size w wr)) (fun _ v _=>ps.length - (intOf v).toNat)
 case atStart=>exact ⟨0,0,rfl,rfl,Nat.zero_le _,(by show _=_;simp),(by show _≤_;simp),Below.refl _ _⟩
 case round =>
  obtain ⟨j,sm,rfl,rfl,hjl,HQ,HS,HBl⟩:=hrel
  by_cases hlt:j<ps.length
  case neg =>
   have i1:decide (j<ps.length)=false:=by simp;omega
   have i2:decide ((j:Int)<(ps.length:Int))=false:=by simp;omega
   have HE:Hid (X.qlen ps=sm):=by
    show _=_
    rw [HQ.out,List.drop_eq_nil_iff.2 (by omega)];rfl
   go_wp2_with fail
   go_ret
   exact ⟨congrArg (fun z:Nat=>Ending.returned (.int .i64 (z:Int))) HE.out.symm,HBl.out⟩
  have i1:decide (j<ps.length)=true:=by simp;omega
  have i2:decide ((j:Int)<(ps.length:Int))=true:=by simp;omega
  have hpj:ps[j]?=some ps[j]:=List.getElem?_eq_getElem hlt
  obtain ⟨kk,x,hlf⟩:∃ kk x,ps[j]=.leaf kk x:=by
   have:=(HJ.out) ps[j] (List.getElem_mem hlt)
   cases hq:ps[j] with
   | leaf kk x=>exact ⟨kk,x,rfl⟩
   | miss m=>rw [hq] at this;cases this
   | br a b=>rw [hq] at this;cases this
  rw [hlf] at hpj
  have hv:=((HP.out) j _ hpj).ofLeaf
  have hst:=qlen_step hpj
  have hps:(X.psb (ps.drop j)).length=x.length+(X.psb (ps.drop (j+1))).length:=by
   rw [List.drop_eq_getElem_cons hlt,hlf,X.psb,X.pb,List.length_append]
  have hsm:=HS.out
  have hsm':sm+x.length≤1073741824:=by omega
  obtain ⟨g,rfl,hDg,hcell⟩:=(HR.out) j hlt
  rw [hv] at hcell
  have hka:=Kp.ofBelow HBl.out (fun _=>False)
  have p0:=hka.cellv hcell id
  have hta:=ta_leaf (.int .i64 kk) (.int .i64 x.length)
  have hi1:(0:Int)≤(j:Int):=Int.natCast_nonneg _
  have hi2:(j:Int)<(ps.length:Int):=by omega
  have hkA:∀ o:Obj,Below w.heap.size w (wr.alloc o):=fun o=>(HBl.out).alloc (HBl.out).size _
  have HKA:=hide hkA
  clear hka hcell hv hpj hkA
  by_cases hq:kk=1∨kk=2
  ·rw [if_pos hq] at hst
   have HN:Hid (X.qlen ps=(sm+x.length)+X.qlen (ps.drop (j+1))):=by show _=_;rw [HQ.out,hst];omega
   have HS2:Hid ((sm+x.length)+(X.psb (ps.drop (j+1))).length≤(X.psb ps).length):=by show _≤_;omega
   have i3:decide ((kk:Int)=1∨(kk:Int)=2)=true:=by simp;omega
   clear hst hps hsm HS HQ
   go_wp2_with fail
   refine (isQuiet_any _ _).mono ?_
   rintro e w2 ⟨rfl,rfl⟩
   rw [i3]
   go_wp2_with fail
   exact ⟨⟨j+1,sm+x.length,by go_num,by go_num,by omega,HN,HS2,(HKA.out) _⟩,by simp only [intOf];omega⟩
  ·rw [if_neg hq] at hst
   have HE:Hid (X.qlen ps=sm):=by show _=_;rw [HQ.out,hst,Nat.add_zero]
   have i3:decide ((kk:Int)=1∨(kk:Int)=2)=false:=by simp;omega
   clear hst hps hsm HS HQ
   go_wp2_with fail
   refine (isQuiet_any _ _).mono ?_
   rintro e w2 ⟨rfl,rfl⟩
   rw [i3]
   go_wp2_with fail
   go_ret
   exact ⟨congrArg (fun z:Nat=>Ending.returned (.int .i64 (z:Int))) HE.out.symm,(HKA.out) _⟩
end Go.Proofs.YtgpcpbmacdhlkaaGreatDoor
/- What is wrong in a branch,as the program tells it. -/
namespace Go.Proofs.YtgpcpbmacdhlkaaGreatDoor
open Go.RowKit
open M
theorem IsNs.form {w:World} {base:Nat} {rv:Value} {ns:List X.Nt} (h:IsNs w base rv ns):∃ ao cap,rv=.slice ao ns.length cap∧ns.length≤cap∧(∀ j,j<ns.length→∃ g,ao=some ⟨g,0,none⟩):=by
 rcases h.2 with ⟨rfl,h0⟩|⟨g,cap,cur,rfl,hb,hg,hn,hm,hsz,ht⟩
 ·exact ⟨none,0,by rw [h0],by omega,fun j hj=>by omega⟩
 ·exact ⟨_,cap,rfl,hn,fun j _=>⟨g,rfl⟩⟩
theorem nvs_cut (ns1 rest:List X.Nt) (n:X.Nt):nvs (ns1++n::rest)=nvs ns1++(nv n++nvs rest):=by
 rw [nvs_append];congr 1
theorem nvs_set (ns1 rest:List X.Nt) (a b b':Int) (c:Nat):(nvs (ns1++(a,b,c)::rest)).set (ns1.length*3+1) (.int .i64 b')=nvs (ns1++(a,b',c)::rest):=by
 rw [nvs_cut,nvs_cut,List.set_append_right _ _ (by rw [nvs_len];omega),nvs_len]
 congr 1
 rw [show ns1.length*3+1 - ns1.length*3=1 by omega]
 rfl
theorem IsNs.set {w:World} {base g n cap:Nat} {ns1 rest:List X.Nt} {a b:Int} {c:Nat} (h:IsNs w base (.slice (some ⟨g,0,none⟩) n cap) (ns1++(a,b,c)::rest)) (b':Int) :
  IsNs (w.setCell ⟨g,ns1.length*3+1,none⟩ (.int .i64 b')) base (.slice (some ⟨g,0,none⟩) n cap) (ns1++(a,b',c)::rest)∧(∃ u,w.cell? ⟨g,ns1.length*3+1,none⟩=some u)∧w.frozen? ⟨g,ns1.length*3+1,none⟩=false∧base≤g∧g<w.heap.size:=by
 obtain ⟨hl,h2⟩:=h
 rcases h2 with ⟨e,-⟩|⟨g',cap',cur,e,hb,hg,hn,hm,hsz,ht⟩
 ·cases e
 ·injection e with e1 e2 e3
  obtain rfl:g=g':=by simpa using e1
  subst e2
  subst e3
  have hlen:(ns1++(a,b',c)::rest).length=(ns1++(a,b,c)::rest).length:=by simp
  have hlt:ns1.length*3+1<(ns1++(a,b,c)::rest).length*3:=by rw [List.length_append,List.length_cons];omega
  have hcs:ns1.length*3+1<cur.size:=by rw [hsz];exact Nat.lt_of_lt_of_le hlt (Nat.mul_le_mul_right 3 hn)
  refine ⟨⟨by rw [nvs_len],.inr ⟨g,cap,cur.setIfInBounds (ns1.length*3+1) (.int .i64 b'),by rw [hlen],hb,?_,by rw [hlen];exact hn,hm,by rw [Array.size_setIfInBounds,hsz],?_⟩⟩,?_,?_,hb,heap_lt hg⟩
  ·simp [World.setCell,Array.getElem?_modify,hg]
  ·rw [hlen,Array.toList_setIfInBounds,List.take_set,ht,nvs_set]
  ·exact ⟨cur[ns1.length*3+1],by simp [World.cell?,hg,hcs]⟩
  ·simp [World.frozen?,hg]
theorem keepUnder {w wr:World} {base b o:Nat} {v:Value} (hb:b<base) (hk:Below base w wr) (hc:w.cell? ⟨b,o,none⟩=some v):wr.cell? ⟨b,o,none⟩=some v:=(Kp.ofBelowB hk (S:=fun q=>base≤q) (fun _ h _=>h)).cellv hc (Nat.not_le.2 hb)
theorem pssz_take {ps:List X.Part} {j:Nat} {p:X.Part} (h:ps[j]?=some p):X.pssz (ps.take j)+X.psz p≤X.pssz ps:=by
 have hl:j<ps.length:=by
  rcases Nat.lt_or_ge j ps.length with g|g
  ·exact g
  ·rw [List.getElem?_eq_none g] at h;cases h
 have hd:ps.drop j=p::ps.drop (j+1):=by
  rw [List.drop_eq_getElem_cons hl];congr 1
  exact Option.some.inj ((List.getElem?_eq_getElem hl).symm.trans h)
 have e:X.pssz ps=X.pssz (ps.take j)+X.pssz (ps.drop j):=by rw [← X.pssz_append,List.take_append_drop]
 rw [e,hd,X.pssz];omega
theorem take_step {ps:List X.Part} {j:Nat} {p:X.Part} (h:ps[j]?=some p):ps.take (j+1)=ps.take j++[p]:=by rw [List.take_add_one,h];rfl
theorem ntss_take {ps:List X.Part} {j:Nat} {p:X.Part} (h:ps[j]?=some p) (i:Nat):X.ntss (ps.take (j+1)) i=X.ntss (ps.take j) i++X.nts p (i+(X.psb (ps.take j)).length):=by
 rw [take_step h,X.ntss_append,X.ntss,X.ntss,List.append_nil]
theorem psb_take {ps:List X.Part} {j:Nat} {p:X.Part} (h:ps[j]?=some p):(X.psb (ps.take (j+1))).length=(X.psb (ps.take j)).length+(X.pb p).length:=by
 rw [take_step h,X.psb_append,X.psb,X.psb,List.append_nil,List.length_append]
theorem psb_take_le {ps:List X.Part} {j:Nat} {p:X.Part} (h:ps[j]?=some p):(X.psb (ps.take j)).length+(X.pb p).length≤(X.psb ps).length:=by
 rw [← psb_take h]
 have e:X.psb ps=X.psb (ps.take (j+1))++X.psb (ps.drop (j+1)):=by rw [← X.psb_append,List.take_append_drop]
 rw [e,List.length_append];omega
theorem qlen_le:∀ ps:List X.Part,X.qlen ps≤(X.psb ps).length
 | []=>by simp [X.qlen]
 | .leaf k x::ps=>by
  rw [X.qlen,X.psb,X.pb,List.length_append]
  have:=qlen_le ps
  split<;>omega
 | .miss m::ps=>by simp [X.qlen]
 | .br k qs::ps=>by simp [X.qlen]
structure InTl (w:World) (base:Nat) (ns1:List X.Nt) (ps:List X.Part) (i j pos:Nat) (rvj:Value) (wr:World):Prop where
 pos:pos=i+(X.psb (ps.take j)).length
 row:IsNs wr base rvj (ns1++X.ntss (ps.take j) i)
 bel:Below base w wr
set_option maxRecDepth 100000 in
set_option maxHeartbeats 2000000 in
theorem btell_br (k:Nat) (ps:List X.Part) (hjk:k=5→X.Junky ps) (ih:∀ (j:Nat) (p:X.Part),ps[j]?=some p→BTOk p):BTOk (.br k ps):=by
 intro w D N base rv ns i h hD hns hb hi hn
 obtain ⟨i0,hi0,hz0,hz1,hz2⟩:=info_parts infoNote
 have HP0:=hide h
 rw [X.pb] at hi ⊢
 rw [X.psz] at hn
 have hpl:=X.pssz_len ps
 cases h with
 | br _ _ cap ao vs _ hN hbk hc hr hp =>
 have hNb:=hD N hN
 have HR:=hide hr
 have HDisp : Hid (∀ j, j < ps.length → ∃ p, ps[j]? = some p ∧ ∃ ty x fid recv, vs j = .iface ty x ∧ (∀ W, (Go.method 349 ty x "amanuensis/tree.tell").run Tryz.prog W = .ok (fid, recv) W) ∧ (∀ args W, (callFunc fid args).run Tryz.prog W = .ok (.enter fid args) W) ∧
   ∀ (W:World) (rv:Value) (ns:List X.Nt) (i:Nat),Below base w W→IsNs W base rv ns→base≤W.heap.size→i+(X.pb p).length≤1073741824→ns.length+X.psz p≤1073741823→Calls Tryz.prog fid #[recv,rv,.int .i64 i] W fun e w'=>∃ rv',e=.returned (.tuple #[rv',.int .i64 ((i+(X.pb p).length:Nat):Int)])∧Hid (Told W base (ns++X.nts p i) rv' w')):=fun j hj=>by
  have hpj:ps[j]?=some ps[j]:=List.getElem?_eq_getElem hj
  exact ⟨_,hpj,tell_disp (hp j _ hpj) (ih j _ hpj) base hD⟩
 have c0:=cell_of_row w _ 0 _ _ _ hbk
 have c1:=cell_of_row w _ 1 _ _ _ hbk
 have HBk:=hide hbk
 have HNS:=hide hns
 have hcap:=hc.1
 have HDg:Hid (∀ q,D q→q<base):=hD
 have hrow:∀ j,j<ps.length→∃ g,ao=some ⟨g,0,none⟩∧g<base∧w.cell? ⟨g,j,none⟩=some (vs j):=fun j hj=>by obtain ⟨g,e1,e2,e3⟩:=hr j hj;exact ⟨g,e1,hD g e2,e3⟩
 have HRow:=hide hrow
 obtain ⟨aon,capn,hrv,hcn,-⟩:=hns.form
 clear hr hp hbk hc hD hrow ih hns HR HDg
 subst hrv
 have HEnd:Hid (X.ntss (ps.take ps.length) i=X.ntss ps i∧(X.psb (ps.take ps.length)).length=(X.psb ps).length):=by
  show _∧_
  rw [List.take_length];exact ⟨rfl,rfl⟩
 cases h5:((k:Int)==5) with
 | false =>
  have e5:¬ k=5:=by intro e;subst e;cases h5
  have HR5:Hid (X.nts (.br k ps) i=X.ntss ps i):=by show _=_;rw [X.nts,if_neg e5,List.nil_append]
  have HI0:Hid (InTl w base ns ps i 0 i (.slice aon ns.length capn) w):=⟨by simp [X.psb],by simpa [X.ntss] using HNS.out,Below.refl _ _⟩
  clear e5 hjk
  go_enter Tryz.func37,Tryz.ntmps37
  go_wp2_with fail
  go_loopw [1,2,31] (fun a b v wr=>∃ (j pos:Nat) (rvj:Value),a=rvj∧b=.int .i64 pos∧v=.int .i64 j∧j≤ps.length∧Hid (InTl w base ns ps i j pos rvj wr)) (fun _ _ v _=>ps.length - (intOf v).toNat)
  case atStart=>exact ⟨0,i,_,rfl,rfl,rfl,Nat.zero_le _,HI0⟩
  case round =>
   clear HI0 c1
   obtain ⟨j,pos,rvj,rfl,rfl,rfl,hj,HI⟩:=hrel
   have c0r:=keepUnder hNb (HI.out).bel c0
   by_cases hlt:j<ps.length
   case neg =>
    obtain rfl:j=ps.length:=by omega
    have i1:decide (ps.length<ps.length)=false:=by simp
    have i2:decide ((ps.length:Int)<(ps.length:Int))=false:=by simp
    have HF:Hid ((i+(X.psb ps).length=pos)∧Told w base (ns++X.nts (.br k ps) i) u1 wr):=by
     refine ⟨by rw [(HI.out).pos,(HEnd.out).2],?_,(HI.out).bel⟩
     rw [HR5.out,← (HEnd.out).1];exact (HI.out).row
    clear c0
    go_wp2_with fail
    exact bodyPost_ret (v:=.tuple #[u1,.int .i64 (pos:Int)]) (by simp [results,Tryz.results37,go_sem]) rfl ⟨u1,by rw [(HF.out).1],(HF.out).2⟩
   have i1:decide (j<ps.length)=true:=by simp;omega
   have i2:decide ((j:Int)<(ps.length:Int))=true:=by simp;omega
   obtain ⟨p,hpj,ty,x,fid,recv,hvj,hm,hen,hcall⟩:=(HDisp.out) j hlt
   obtain ⟨g,rfl,hgb,hcell⟩:=(HRow.out) j hlt
   rw [hvj] at hcell
   have p0:=keepUnder hgb (HI.out).bel hcell
   have hi1:(0:Int)≤(j:Int):=Int.natCast_nonneg _
   have hi2:(j:Int)<(ps.length:Int):=by omega
   have HCall:Hid (Calls Tryz.prog fid #[recv,u1,.int .i64 pos] wr fun e w'=>∃ rv',e=.returned (.tuple #[rv',.int .i64 ((pos+(X.pb p).length:Nat):Int)])∧Hid (Told wr base ((ns++X.ntss (ps.take j) i)++X.nts p pos) rv' w')):=by
    have h1:=psb_take_le hpj
    have h2:=pssz_take hpj
    have h3:=X.ntss_len (ps.take j) i
    have h4:=(HI.out).pos
    exact hcall wr u1 _ pos (HI.out).bel (HI.out).row (Nat.le_trans hb (HI.out).bel.size) (by omega) (by rw [List.length_append];omega)
   have HPJ:=hide hpj
   clear hcall hcell hpj c0
   go_wp2_with fail
   refine (HCall.out).mono ?_
   rintro e w2 ⟨rv2,rfl,H2⟩
   have HN:Hid (InTl w base ns ps i (j+1) (pos+(X.pb p).length) rv2 w2):=by
    refine ⟨by rw [psb_take HPJ.out,(HI.out).pos];omega,?_,(HI.out).bel.trans ((H2.out).2)⟩
    rw [ntss_take HPJ.out,← List.append_assoc,← (HI.out).pos];exact (H2.out).1
   clear HCall H2
   go_wp2_with fail
   exact ⟨⟨j+1,pos+(X.pb p).length,rv2,rfl,rfl,by go_num,by omega,HN⟩,by simp only [intOf];omega⟩
 | true =>
  have e5:k=5:=by have:(k:Int)=5:=(by simpa using h5);omega
  have hJ:=hjk e5
  have HR5:Hid (X.nts (.br k ps) i=[(((i+X.qlen ps:Nat):Int),((i+(X.psb ps).length:Nat):Int),3)]++X.ntss ps i):=by show _=_;rw [X.nts,if_pos e5]
  have HQu:=hide (bquiet_any w D N k ps HP0.out hJ.1 (by omega) (by omega))
  have hql:X.qlen ps≤(X.psb ps).length:=qlen_le ps
  clear e5 hjk hJ
  go_enter Tryz.func37,Tryz.ntmps37
  go_wp2_with fail
  refine (HQu.out).mono ?_
  rintro e w1 ⟨rfl,k1⟩
  have HK1:=hide k1
  have HN1:Hid (IsNs w1 base (.slice aon ns.length capn) ns):=(HNS.out).keep (Kp.ofBelow k1 (fun _=>False)) (fun _ h=>h.elim)
  have hsz1:=k1.size
  clear k1 HQu
  have c0':=keepUnder hNb ((HK1.out).mono hb) c0
  have c1':=keepUnder hNb ((HK1.out).mono hb) c1
  have HC0:=hide c0
  have HC1:=hide c1
  clear c0 c1
  go_wp2_with (at_builtin;refine wpList_append_lies _ rfl _ _ 43 rfl base 137 i0 _ 3 24 Tryz.underlying43 hi0 hz0 hz1 hz2 rfl (by decide) (.slice aon ns.length capn) ns.length _ rfl ((HN1.out:w1.ownsRow _ _ _ _ _ _).alloc _) ⟨w1.heap.size,0,none⟩ 1 1 (nv (((i:Int)+(X.qlen ps:Int)),0,3)) rfl rfl (World.news_of_block (cs:=#[.int .i64 ((i:Int)+(X.qlen ps:Int)),.int .i64 0,.int .i64 3]) (heap_alloc_new w1 _)) (by simp [Value.oneCell',nv]) (by omega) (by unfold maxLen;omega) (by omega) (by simp;omega) (w1.heap.size+1) (by simp) ?_;intro g0 cap5 w5 hown5 hgrow5 hat5 hlt5;have HO:=hide hown5;have HB5:Hid (Below base w w5):=(((HK1.out).mono hb).alloc (by omega) _).grown hgrow5 (by simp;omega) (fun q hq=>(owns_ge HN1.out q hq).1);have d1:=keepUnder hNb HB5.out HC1.out;have d0:=keepUnder hNb HB5.out HC0.out;clear hown5 hgrow5)
  have HN5:Hid (IsNs w5 base (.slice (some ⟨g0,0,none⟩) (ns.length+1) cap5) (ns++[(((i+X.qlen ps:Nat):Int),0,3)])):=by
   show w5.ownsRow _ _ _ _ _ _
   rw [List.length_append,nvs_append,nvs_one,Int.natCast_add];exact HO.out
  have HI0:Hid (InTl w base (ns++[(((i+X.qlen ps:Nat):Int),0,3)]) ps i 0 i (.slice (some ⟨g0,0,none⟩) (ns.length+1) cap5) w5):=⟨by simp [X.psb],by simpa [X.ntss] using HN5.out,HB5.out⟩
  clear HO HN5 HB5 HN1 HK1 c0' c1'
  go_loopw [1,2,31] (fun a b v wr=>∃ (j pos:Nat) (rvj:Value),a=rvj∧b=.int .i64 pos∧v=.int .i64 j∧j≤ps.length∧Hid (InTl w base (ns++[(((i+X.qlen ps:Nat):Int),0,3)]) ps i j pos rvj wr)) (fun _ _ v _=>ps.length - (intOf v).toNat)
  case atStart=>exact ⟨0,i,_,rfl,rfl,rfl,Nat.zero_le _,HI0⟩
  case round =>
   clear HI0 d0 d1
   obtain ⟨j,pos,rvj,rfl,rfl,rfl,hj,HI⟩:=hrel
   have c0:=HC0.out
   have c0r:=keepUnder hNb (HI.out).bel c0
   by_cases hlt:j<ps.length
   case neg =>
    obtain rfl:j=ps.length:=by omega
    have i1:decide (ps.length<ps.length)=false:=by simp
    have i2:decide ((ps.length:Int)<(ps.length:Int))=false:=by simp
    have hrow:=(HI.out).row
    have hbel:=(HI.out).bel
    have hpos:=(HI.out).pos
    rw [(HEnd.out).1,List.append_assoc,List.singleton_append] at hrow
    rw [(HEnd.out).2] at hpos
    obtain ⟨ao',cap',hform,hcp,hgo⟩:=hrow.form
    obtain ⟨g,rfl⟩:=hgo 0 (by simp;omega)
    obtain ⟨n,hnn⟩:∃ n,(ns++(((i+X.qlen ps:Nat):Int),(0:Int),3)::X.ntss ps i).length=n:=⟨_,rfl⟩
    have hnl:ns.length<n:=by rw [← hnn,List.length_append,List.length_cons];omega
    rw [hnn] at hform hcp
    subst hform
    obtain ⟨hset,⟨u,hcell⟩,hfz,hge,hgl⟩:=hrow.set (pos:Int)
    have HF:Hid (Told w base (ns++X.nts (.br k ps) i) (.slice (some ⟨g,0,none⟩) n cap') (wr.setCell ⟨g,ns.length*3+1,none⟩ (.int .i64 (pos:Int)))):=by
     refine ⟨?_,hbel.trans (Kp.below (On.set (Kp.refl (fun q=>q=g) wr) _ _) (Nat.le_trans hb hbel.size) (fun q e=>by omega))⟩
     rw [HR5.out,List.singleton_append,← hpos];exact hset
    have HPos:Hid (i+(X.psb ps).length=pos):=hpos.symm
    have hi3:(0:Int)≤(ns.length:Int):=Int.natCast_nonneg _
    have hi4:(ns.length:Int)<(n:Int):=by omega
    clear hrow hset hbel hpos hnn HI c0
    go_wp2_with fail
    exact bodyPost_ret (v:=.tuple #[.slice (some ⟨g,0,none⟩) n cap',.int .i64 (pos:Int)]) (by simp [results,Tryz.results37,go_sem]) rfl ⟨_,by rw [HPos.out],HF⟩
   have i1:decide (j<ps.length)=true:=by simp;omega
   have i2:decide ((j:Int)<(ps.length:Int))=true:=by simp;omega
   obtain ⟨p,hpj,ty,x,fid,recv,hvj,hm,hen,hcall⟩:=(HDisp.out) j hlt
   obtain ⟨g,rfl,hgb,hcell⟩:=(HRow.out) j hlt
   rw [hvj] at hcell
   have p0:=keepUnder hgb (HI.out).bel hcell
   have hi1:(0:Int)≤(j:Int):=Int.natCast_nonneg _
   have hi2:(j:Int)<(ps.length:Int):=by omega
   have HCall:Hid (Calls Tryz.prog fid #[recv,u1,.int .i64 pos] wr fun e w'=>∃ rv',e=.returned (.tuple #[rv',.int .i64 ((pos+(X.pb p).length:Nat):Int)])∧Hid (Told wr base (((ns++[(((i+X.qlen ps:Nat):Int),0,3)])++X.ntss (ps.take j) i)++X.nts p pos) rv' w')):=by
    have h1:=psb_take_le hpj
    have h2:=pssz_take hpj
    have h3:=X.ntss_len (ps.take j) i
    have h4:=(HI.out).pos
    exact hcall wr u1 _ pos (HI.out).bel (HI.out).row (Nat.le_trans hb (HI.out).bel.size) (by omega) (by rw [List.length_append,List.length_append,List.length_singleton];omega)
   have HPJ:=hide hpj
   clear hcall hcell hpj c0
   go_wp2_with fail
   refine (HCall.out).mono ?_
   rintro e w2 ⟨rv2,rfl,H2⟩
   have HN:Hid (InTl w base (ns++[(((i+X.qlen ps:Nat):Int),0,3)]) ps i (j+1) (pos+(X.pb p).length) rv2 w2):=by
    refine ⟨by rw [psb_take HPJ.out,(HI.out).pos];omega,?_,(HI.out).bel.trans ((H2.out).2)⟩
    rw [ntss_take HPJ.out,← List.append_assoc,← (HI.out).pos];exact (H2.out).1
   clear HCall H2
   go_wp2_with fail
   exact ⟨⟨j+1,pos+(X.pb p).length,rv2,rfl,rfl,by go_num,by omega,HN⟩,by simp only [intOf];omega⟩
theorem btell_any:∀ (n:Nat) (p:X.Part),X.psz p≤n→X.jok p→BTOk p:=by
 intro n
 induction n with
 | zero=>intro p h;have:=X.psz_pos p;omega
 | succ n ih =>
  intro p hn hj
  cases p with
  | leaf k x=>intro w D N base rv ns i h;cases h
  | miss m=>intro w D N base rv ns i h;cases h
  | br k ps =>
   rw [X.psz] at hn
   rw [X.jok] at hj
   exact btell_br k ps hj.1.2 (fun j p hp=>by
    have:=X.pssz_mem ps j p hp
    exact ih p (by omega) (X.joks_mem ps j p hj.2 hp))
end Go.Proofs.YtgpcpbmacdhlkaaGreatDoor
/- Plain mathematics: nothing is wrong in a tree if it has no notes. -/
namespace Go.Proofs.YtgpcpbmacdhlkaaGreatDoor
open M
namespace X
mutual
theorem nts_cln:∀ (p:Part) (i:Nat),nts p i=[]↔cln p=true
 | .leaf k x,i=>by
  rw [nts,cln]
  by_cases h:k=8
  ·subst h;simp
  ·simp [h]
 | .miss m,i=>by rw [nts,cln];simp
 | .br k ps,i=>by
  have:=ntss_clns ps i
  rw [nts,cln]
  by_cases h:k=5
  ·subst h;simp
  ·rw [if_neg h,List.nil_append,this];simp [h]
theorem ntss_clns:∀ (ps:List Part) (i:Nat),ntss ps i=[]↔clns ps=true
 | [],i=>by rw [ntss,clns];simp
 | p::ps,i=>by
  have h1:=nts_cln p i
  have h2:=ntss_clns ps (i+(pb p).length)
  rw [ntss,clns,List.append_eq_nil_iff,h1,h2,Bool.and_eq_true]
end
theorem file_cln (ts:List Tok) (i:Nat):nts (file ts) i=[]↔clns (fileL ts)=true:=by
 have e:file ts=.br 2 (fileL ts):=rfl
 rw [e,nts_cln,cln];simp
end X
end Go.Proofs.YtgpcpbmacdhlkaaGreatDoor
/- The document's nodes,where they stand;the parts of a node that are no spaces and no remarks. -/
namespace Go.Proofs.YtgpcpbmacdhlkaaGreatDoor
open Go.RowKit
open M
namespace X
def puL:List Part→Int→List Q
 | [],_=>[]
 | p::ps,i=>put p i::puL ps (i+pz [p])
theorem pz_one (p:Part):pz [p]=(pb p).length:=by unfold pz;rw [psb,psb,List.append_nil]
theorem puts_puL:∀ (ps:List Part) (i f t:Int) (l:Bool),(puts ps i f t l).1=puL ps i
 | [],i,f,t,l=>by rw [puts,puL]
 | p::ps,i,f,t,l=>by
  rw [puts,puL]
  show put p i::(puts ps _ _ _ _).1=_
  rw [puts_puL ps,put_en,pz_one]
theorem puL_len:∀ (ps:List Part) (i:Int),(puL ps i).length=ps.length
 | [],i=>rfl
 | p::ps,i=>by rw [puL,List.length_cons,puL_len ps,List.length_cons]
theorem puL_get:∀ (ps:List Part) (i:Nat) (j:Nat) (p:Part),ps[j]?=some p→(puL ps i)[j]?=some (put p ((i+pz (ps.take j):Nat):Int))
 | [],i,j,p,h=>by simp at h
 | q::ps,i,0,p,h=>by
  obtain rfl:q=p:=by simpa using h
  rw [puL,List.take_zero,pz_nil];rfl
 | q::ps,i,j+1,p,h=>by
  rw [puL,List.getElem?_cons_succ,List.take_succ_cons,pz_cons q (ps.take j)]
  have:=puL_get ps (i+pz [q]) j p (by simpa using h)
  rw [← Nat.add_assoc]
  rw [show ((i:Int)+(pz [q]:Int))=((i+pz [q]:Nat):Int) by omega]
  exact this
def kds:Part→List Part
 | .br _ ps=>ps
 | _=>[]
end X
def NdP (w:World) (a b:Nat) (v:Value) (p:X.Part) (i:Nat):Prop:=IsM w a b v (X.put p i)
theorem NdP.keep {S:Nat→Prop} {w w':World} (hk:Kp S w w') {a b:Nat} {v:Value} {p:X.Part} {i:Nat} (h:NdP w a b v p i) (hS:∀ q,a≤q→q<b→¬ S q):NdP w' a b v p i:=IsM.keep hk h hS
def pk:X.Part→Nat
 | .leaf _ _=>0
 | .miss _=>1
 | .br k _=>k
def ptk:X.Part→Nat
 | .leaf k _=>k
 | _=>0
def ptx:X.Part→List UInt8
 | .leaf _ x=>x
 | .miss m=>m
 | .br _ _=>[]
theorem NdP.any {w:World} {a b:Nat} {v:Value} {p:X.Part} {i:Nat} (h:NdP w a b v p i):∃ N ao cap at0 en fr tt la,∃ vs:Nat→Value,v=.pointer (some ⟨N,0,none⟩)∧a≤N∧N<b∧Nd w N (pk p) (ptk p) (ptx p) (.slice ao (X.kds p).length cap) at0 en fr tt la∧(X.kds p).length≤cap∧cap≤maxLen ∧
  (∀ j,j<(X.kds p).length→∃ g,ao=some ⟨g,0,none⟩∧a≤g∧g<b∧w.cell? ⟨g,j,none⟩=some (vs j)) ∧
  ∀ (j:Nat) (q:X.Part),(X.kds p)[j]?=some q→NdP w a b (vs j) q (i+X.pz ((X.kds p).take j)):=by
 unfold NdP at h
 have key:∀ (k t:Nat) (x:List UInt8) (ps:List X.Part) (i en fr tt:Int) (la:Bool) (i0:Nat),IsM w a b v (.mk k t x (X.puL ps i0) i en fr tt la)→∃ N ao cap at0 en fr tt la,∃ vs:Nat→Value,v=.pointer (some ⟨N,0,none⟩)∧a≤N∧N<b∧Nd w N k t x (.slice ao ps.length cap) at0 en fr tt la∧ps.length≤cap∧cap≤maxLen ∧
  (∀ j,j<ps.length→∃ g,ao=some ⟨g,0,none⟩∧a≤g∧g<b∧w.cell? ⟨g,j,none⟩=some (vs j)) ∧
  ∀ (j:Nat) (q:X.Part),ps[j]?=some q→NdP w a b (vs j) q (i0+X.pz (ps.take j)):=by
  intro k t x ps i en fr tt la i0 h
  cases h with
  | mk _ _ N _ _ _ qs at0 en fr tt la ao cap vs L H hN hb hc hr hs hp =>
   rw [X.puL_len] at hb hc hr hs
   refine ⟨N,ao,cap,_,_,_,_,_,vs,rfl,hN.1,hN.2,hb,hc.1,hc.2,fun j hj=>?_,fun j q hq=>?_⟩
   ·obtain ⟨g,e1,e2,e3,e4,e5,e6⟩:=hr j hj
    exact ⟨g,e1,e2,e3,e6⟩
   ·have hj:j<ps.length:=lt_of_some hq
    obtain ⟨s1,s2,s3,-⟩:=hs j hj
    exact (hp j _ (X.puL_get ps i0 j q hq)).wide s1 s3
 cases p with
 | leaf k x=>rw [X.put] at h;exact key 0 k x [] _ _ _ _ _ i h
 | miss m=>rw [X.put] at h;exact key 1 0 m [] _ _ _ _ _ i h
 | br k ps=>rw [X.put,X.puts_puL] at h;exact key k 0 [] ps _ _ _ _ _ i h
inductive LP (w:World) (a b:Nat):List Value→List X.Part→Nat→Prop
 | nil (i:Nat):LP w a b [] [] i
 | quiet (q:X.Part) (l:List Value) (ps:List X.Part) (i:Nat) (hq:X.lq q=true) (h:LP w a b l ps (i+X.pz [q])):LP w a b l (q::ps) i
 | cons (v:Value) (p:X.Part) (l:List Value) (ps:List X.Part) (i:Nat) (hq:X.lq p=false) (hv:NdP w a b v p i) (h:LP w a b l ps (i+X.pz [p])):LP w a b (v::l) (p::ps) i
theorem LP.len {w:World} {a b:Nat} {l:List Value} {ps:List X.Part} {i:Nat} (h:LP w a b l ps i):l.length≤ps.length:=by
 induction h with
 | nil i=>exact Nat.le_refl _
 | quiet q l ps i hq h ih=>rw [List.length_cons];omega
 | cons v p l ps i hq hv h ih=>rw [List.length_cons,List.length_cons];omega
theorem LP.snocq {w:World} {a b:Nat} {l:List Value} {ps:List X.Part} {i:Nat} (h:LP w a b l ps i) {q:X.Part} (hq:X.lq q=true):LP w a b l (ps++[q]) i:=by
 induction h with
 | nil i=>exact .quiet q [] [] i hq (.nil _)
 | quiet q' l ps i hq' h ih=>exact .quiet q' l _ i hq' ih
 | cons v p l ps i hq' hv h ih=>exact .cons v p l _ i hq' hv ih
theorem LP.snoc {w:World} {a b:Nat} {l:List Value} {ps:List X.Part} {i:Nat} (h:LP w a b l ps i) {q:X.Part} {v:Value} (hq:X.lq q=false):NdP w a b v q (i+X.pz ps)→LP w a b (l++[v]) (ps++[q]) i:=by
 induction h with
 | nil i=>intro hv;exact .cons v q [] [] i hq (by rw [X.pz_nil] at hv;exact hv) (.nil _)
 | quiet q' l ps i hq' h ih =>
  intro hv
  rw [X.pz_cons,← Nat.add_assoc] at hv
  exact .quiet q' _ _ i hq' (ih hv)
 | cons v' p l ps i hq' hv' h ih =>
  intro hv
  rw [X.pz_cons,← Nat.add_assoc] at hv
  exact .cons v' p _ _ i hq' hv' (ih hv)
end Go.Proofs.YtgpcpbmacdhlkaaGreatDoor
/- The document's Parts,named and Names. -/
namespace Go.Proofs.YtgpcpbmacdhlkaaGreatDoor
open Go.RowKit
open M
theorem ba_toList (l:List UInt8):(ba l).toList=l:=by rw [ByteArray.toList_eq];exact bs_ba l
theorem NdP.below {w w':World} (hk:Below w.heap.size w w') {a b:Nat} {v:Value} {p:X.Part} {i:Nat} (h:NdP w a b v p i):NdP w' a b v p i:=h.keep (Kp.ofBelow hk (fun _=>False)) (fun _ _ _=>id)
structure InPs (w:World) (a b:Nat) (ps:List X.Part) (i:Nat) (j:Nat) (rv:Value) (wr:World):Prop where
 ex:∃ l,LP w a b l (ps.take j) i∧wr.ownsRow w.heap.size 52 1 rv l.length l
 bel:Below w.heap.size w wr
set_option maxRecDepth 100000 in
set_option maxHeartbeats 4000000 in
theorem parts_any {w:World} {a b:Nat} {v:Value} {p:X.Part} {i:Nat} (h:NdP w a b v p i) (hb:b≤w.heap.size) (hk0:X.kok p) (hl:(X.kds p).length≤1073741824) :
  Calls Tryz.prog 24 #[v] w fun e w'=>∃ rv,e=.returned rv∧Hid ((∃ l,LP w a b l (X.kds p) i∧w'.ownsRow w.heap.size 52 1 rv l.length l)∧Below w.heap.size w w'):=by
 obtain ⟨i0,hi0,hz0,hz1,hz2⟩:=info_parts infoM
 obtain ⟨N,ao,cap,at0,en,fr,tt,la,vs,rfl,hN1,hN2,hnd,hc,hcm,hrow,hkid⟩:=h.any
 have HQ:Hid (∀ q∈X.kds p,∀ k' ps',q=.br k' ps'→k'≠0):=by
  cases p with
  | leaf k x=>intro q hq;cases hq
  | miss m=>intro q hq;cases hq
  | br k ps =>
   rw [X.kok] at hk0
   intro q hq k' ps' e
   obtain ⟨j,hj⟩:=List.getElem?_of_mem hq
   have:=X.koks_mem ps j q hk0.2 hj
   rw [e,X.kok] at this
   exact this.1
 generalize X.kds p=ps at *
 obtain ⟨⟨c0,c1,c2,c3,c4,c5,c6,c7,c8⟩,-⟩:=hnd.facts
 have HI0:Hid (InPs w a b ps i 0 (.slice none 0 0) w):=⟨⟨[],.nil i,World.ownsRow_nil _ _ _ _⟩,Below.refl _ _⟩
 have HRow:=hide hrow
 have HKid:=hide hkid
 have hNl:N<w.heap.size:=by omega
 clear hrow hkid h hnd hk0
 go_enter Tryz.func24,Tryz.ntmps24
 go_wp2_with fail
 go_loopw [3,4] (fun rv jv wr=>∃ (j:Nat),jv=.int .i64 j∧j≤ps.length∧Hid (InPs w a b ps i j rv wr)) (fun _ v _=>ps.length - (intOf v).toNat)
 case atStart=>exact ⟨0,rfl,Nat.zero_le _,HI0⟩
 case round =>
  clear HI0
  obtain ⟨j,rfl,hj,HI⟩:=hrel
  have d3:=kcb (HI.out).bel hNl c3
  by_cases hlt:j<ps.length
  case neg =>
   obtain rfl:j=ps.length:=by omega
   have i1:decide (ps.length<ps.length)=false:=by simp
   have i2:decide ((ps.length:Int)<(ps.length:Int))=false:=by simp
   have HF:Hid ((∃ l,LP w a b l ps i∧wr.ownsRow w.heap.size 52 1 u3 l.length l)∧Below w.heap.size w wr):=by
    obtain ⟨l,h1,h2⟩:=(HI.out).ex
    rw [List.take_length] at h1
    exact ⟨⟨l,h1,h2⟩,(HI.out).bel⟩
   clear c0 c1 c2 c3 c4 c5 c6 c7 c8
   go_wp2_with fail
   go_ret
   exact ⟨_,rfl,HF⟩
  have i1:decide (j<ps.length)=true:=by simp;omega
  have i2:decide ((j:Int)<(ps.length:Int))=true:=by simp;omega
  have hi1:(0:Int)≤(j:Int):=Int.natCast_nonneg _
  have hi2:(j:Int)<(ps.length:Int):=by omega
  obtain ⟨q,hqj⟩:∃ q,ps[j]?=some q:=⟨ps[j],List.getElem?_eq_getElem hlt⟩
  have hq:=(HKid.out) j q hqj
  obtain ⟨g,rfl,hg1,hg2,hcell⟩:=(HRow.out) j hlt
  have p0:=kcb (HI.out).bel (by omega) hcell
  obtain ⟨Nj,aoj,capj,a1,a2,a3,a4,a5,vsj,hvj,hj1,hj2,hndj,-⟩:=hq.any
  obtain ⟨⟨e0,e1,-⟩,-⟩:=hndj.facts
  have f0:=kcb (HI.out).bel (by omega) e0
  have f1:=kcb (HI.out).bel (by omega) e1
  rw [hvj] at p0
  have HQJ:=hide hq
  have HP:=hide hqj
  have HV:=hide hvj
  obtain ⟨l,hlp,hown⟩:=(HI.out).ex
  have hll:l.length≤j:=by have:=hlp.len;rw [List.length_take] at this;omega
  have HLP:=hide hlp
  have HO:=hide hown
  have HB:=hide (HI.out).bel
  clear hq hvj hndj hcell e0 e1 c0 c1 c2 c4 c5 c6 c7 c8 hlp hown HI
  have HNext:Hid (∀ (W:World) (rv:Value) (l':List Value),LP w a b l' (ps.take j++[q]) i→W.ownsRow w.heap.size 52 1 rv l'.length l'→Below w.heap.size w W→InPs w a b ps i (j+1) rv W):=fun W rv l' h1 h2 h3=>⟨⟨l',by rw [List.take_add_one,HP.out];exact h1,h2⟩,h3⟩
  have hq0:=(HQ.out) q (List.mem_of_getElem? hqj)
  cases hlq:X.lq q with
  | true =>
   obtain ⟨k,x,rfl,hk⟩:=X.lq_leaf hlq
   have b0:((pk (.leaf k x):Nat):Int)=0:=rfl
   rw [b0] at f0
   have HN:Hid (InPs w a b ps i (j+1) u3 wr):=(HNext.out) wr u3 l ((HLP.out).snocq hlq) HO.out HB.out
   clear HNext HLP HO hqj
   have b1:((ptk (.leaf k x):Nat):Int)=(k:Int):=rfl
   rw [b1] at f1
   rcases hk with rfl|rfl
   ·go_wp2_with fail
    exact ⟨⟨j+1,by go_num,by omega,HN⟩,by simp only [intOf];omega⟩
   ·go_wp2_with fail
    exact ⟨⟨j+1,by go_num,by omega,HN⟩,by simp only [intOf];omega⟩
  | false =>
   have HN:Hid (∀ (W:World) (rv:Value),W.ownsRow w.heap.size 52 1 rv (l.length+1) (l++[.pointer (some ⟨Nj,0,none⟩)])→Below w.heap.size w W→InPs w a b ps i (j+1) rv W):=fun W rv h1 h2=>(HNext.out) W rv (l++[.pointer (some ⟨Nj,0,none⟩)]) (by
    have hv:=HQJ.out
    rw [HV.out] at hv
    exact (HLP.out).snoc hlq hv) (by rw [List.length_append,List.length_singleton];exact h1) h2
   have hbsz:=(HB.out).size
   have key:(pk q=0∧((ptk q:Int) !=1)=true∧((ptk q:Int) !=2)=true)∨((pk q:Int) !=0)=true:=by
    cases q with
    | leaf k x =>
     left
     simp [X.lq] at hlq
     refine ⟨rfl,?_,?_⟩<;>simp [ptk]<;>omega
    | miss m=>right;rfl
    | br k ps'=>right;have:=hq0 k ps' rfl;simp [pk];omega
   clear HNext HLP HQJ hqj hq0 hlq
   generalize pk q=kq at *
   generalize ptk q=tq at *
   have hge:=owns_ge HO.out
   rcases key with ⟨rfl,k1,k2⟩|k0
   ·go_wp2_with (at_builtin;refine wpList_append_lies _ rfl _ _ 56 rfl w.heap.size 52 i0 _ 1 8 Tryz.underlying56 hi0 hz0 hz1 hz2 rfl (by decide) u3 l.length _ rfl ((HO.out).alloc _) ⟨wr.heap.size,0,none⟩ 1 1 [.pointer (some ⟨Nj,0,none⟩)] rfl rfl (World.news_of_block (cs:=#[.pointer (some ⟨Nj,0,none⟩)]) (heap_alloc_new wr _)) (by simp [Value.oneCell']) (by omega) (by unfold maxLen;omega) (by omega) (by simp;omega) (wr.heap.size+1) (by simp) ?_;intro g5 cap5 w5 hown5 hgrow5 hat5 hlt5;have HW5:Hid (InPs w a b ps i (j+1) (.slice (some ⟨g5,0,none⟩) (l.length+1) cap5) w5):=(HN.out) w5 _ hown5 ((((HB.out).alloc hbsz _)).grown hgrow5 (by simp;omega) (fun q hq=>(hge q hq).1)))
    exact ⟨⟨j+1,by go_num,by omega,HW5⟩,by simp only [intOf];omega⟩
   ·go_wp2_with (at_builtin;refine wpList_append_lies _ rfl _ _ 56 rfl w.heap.size 52 i0 _ 1 8 Tryz.underlying56 hi0 hz0 hz1 hz2 rfl (by decide) u3 l.length _ rfl ((HO.out).alloc _) ⟨wr.heap.size,0,none⟩ 1 1 [.pointer (some ⟨Nj,0,none⟩)] rfl rfl (World.news_of_block (cs:=#[.pointer (some ⟨Nj,0,none⟩)]) (heap_alloc_new wr _)) (by simp [Value.oneCell']) (by omega) (by unfold maxLen;omega) (by omega) (by simp;omega) (wr.heap.size+1) (by simp) ?_;intro g5 cap5 w5 hown5 hgrow5 hat5 hlt5;have HW5:Hid (InPs w a b ps i (j+1) (.slice (some ⟨g5,0,none⟩) (l.length+1) cap5) w5):=(HN.out) w5 _ hown5 ((((HB.out).alloc hbsz _)).grown hgrow5 (by simp;omega) (fun q hq=>(hge q hq).1)))
    exact ⟨⟨j+1,by go_num,by omega,HW5⟩,by simp only [intOf];omega⟩
end Go.Proofs.YtgpcpbmacdhlkaaGreatDoor
/- The document's leaves of a node. -/
namespace Go.Proofs.YtgpcpbmacdhlkaaGreatDoor
open Go.RowKit
open M
def lgt (g:Bool):Int:=if g then 99 else 0
def ldv (l:LfD):List Value:=[.int .i64 0,.int .i64 (lgt l.2),.string (ba l.1),.slice none 0 0,.int .i64 0,.int .i64 0,.int .i64 0,.int .i64 0,.bool false]
def IsLd (w:World) (base:Nat) (rv:Value) (L:List LfD):Prop:=w.ownsRow base 58 9 rv L.length (L.flatMap ldv)
theorem infoNn:(Tryz.prog.info? 58).map (fun i=>(i.zero,i.size,i.bytes))=some (some (.agg #[.int .i64 0,.int .i64 0,.string ⟨#[]⟩,.slice none 0 0,.int .i64 0,.int .i64 0,.int .i64 0,.int .i64 0,.bool false]),9,96):=by kernel_rfl
theorem undr {w wr:World} {base b o:Nat} {v:Value} (hb:b<base) (hk:Below base w wr) (hc:w.cell? ⟨b,o,none⟩=some v):wr.cell? ⟨b,o,none⟩=some v:=(Kp.ofBelowB hk (S:=fun q=>base≤q) (fun _ h _=>h)).cellv hc (fun (e:base≤b)=>by omega)
def LQ (r:Bool) (p:X.Part):Prop:=∀ (w:World) (a b:Nat) (v:Value) (i:Nat) (g:Bool) (base:Nat) (rv:Value) (L:List LfD),NdP w a b v p i→b≤base→IsLd w base rv L→base≤w.heap.size→L.length+(X.lds r g p).length≤268435456 →
 Calls Tryz.prog 21 #[v,.bool r,.bool g,rv] w fun e w'=>∃ rv',e=.returned rv'∧Hid (IsLd w' base rv' (L++X.lds r g p)∧Below base w w')
structure InL (w:World) (base:Nat) (L:List LfD) (rvj:Value) (wr:World):Prop where
 row:IsLd wr base rvj L
 bel:Below base w wr
set_option maxRecDepth 100000 in
set_option maxHeartbeats 4000000 in
theorem leaves_leaf (r:Bool) (k:Nat) (x:List UInt8):LQ r (.leaf k x):=by
 intro w a b v i g base rv L h hib hL hb hn
 obtain ⟨i0,hi0,hz0,hz1,hz2⟩:=info_parts infoNn
 obtain ⟨N,ao,cap,at0,en,fr,tt,la,vs,rfl,hN1,hN2,hnd,-⟩:=h.any
 obtain ⟨⟨c0,c1,c2,-⟩,-⟩:=hnd.facts
 have b0:((pk (.leaf k x):Nat):Int)=0:=rfl
 have b1:((ptk (.leaf k x):Nat):Int)=(k:Int):=rfl
 have b2:ptx (.leaf k x)=x:=rfl
 rw [b0] at c0
 rw [b1] at c1
 rw [b2] at c2
 have HL:=hide hL
 have HG:=hide (owns_ge hL)
 have hNl:N<w.heap.size:=by omega
 clear h hL hnd b0 b1 b2
 cases k1:((k:Int) !=1) with
 | false =>
  have hw:X.wantK r (k,x)=false:=by
   have:k=1:=by have:(k:Int)=1:=(by simpa using k1);omega
   unfold X.wantK;simp [this]
  have HF:Hid (IsLd w base rv (L++X.lds r g (.leaf k x))∧Below base w w):=by
   rw [X.lds,hw,if_neg (by simp),List.append_nil];exact ⟨HL.out,Below.refl _ _⟩
  go_enter Tryz.func21,Tryz.ntmps21
  go_wp2_with fail
  go_ret
  exact ⟨_,rfl,HF⟩
 | true =>
  have n1:k≠1:=fun e=>by rw [e] at k1;simp at k1
  have e2:(((k,x):X.Tok).1==2)=((k:Int)==2):=by
   show (k==2)=_
   by_cases h2:k=2
   ·rw [h2];rfl
   ·have h3:¬((k:Int)=2):=by omega
    rw [beq_false_of_ne h2,beq_false_of_ne h3]
  cases k2:(((k:Int)==2)==r) with
  | false =>
   have hw:X.wantK r (k,x)=false:=by unfold X.wantK;rw [e2,k2,Bool.and_false]
   have HF:Hid (IsLd w base rv (L++X.lds r g (.leaf k x))∧Below base w w):=by
    rw [X.lds,hw,if_neg (by simp),List.append_nil];exact ⟨HL.out,Below.refl _ _⟩
   clear e2
   go_enter Tryz.func21,Tryz.ntmps21
   go_wp2_with fail
   go_ret
   exact ⟨_,rfl,HF⟩
  | true =>
   have hw:X.wantK r (k,x)=true:=by
    unfold X.wantK;rw [e2,k2,Bool.and_true]
    show (!(k==1))=true
    rw [beq_false_of_ne n1];rfl
   have hlx:X.lds r g (.leaf k x)=[(x,g&&x==[40])]:=by rw [X.lds,hw,if_pos rfl]
   have HLX:=hide hlx
   rw [hlx] at hn
   clear e2 hw hlx
   generalize hX:ba x=T at *
   cases g with
   | false =>
    go_enter Tryz.func21,Tryz.ntmps21
    go_wp2_with (at_builtin;refine wpList_append_lies _ rfl _ _ 59 rfl base 58 i0 _ 9 96 Tryz.underlying59 hi0 hz0 hz1 hz2 rfl (by decide) rv L.length _ rfl (((HL.out:w.ownsRow _ _ _ _ _ _).alloc _).alloc _) ⟨w.heap.size+1,0,none⟩ 1 1 [.int .i64 0,.int .i64 0,.string T,.slice none 0 0,.int .i64 0,.int .i64 0,.int .i64 0,.int .i64 0,.bool false] rfl rfl (World.news_of_block (cs:=#[.int .i64 0,.int .i64 0,.string T,.slice none 0 0,.int .i64 0,.int .i64 0,.int .i64 0,.int .i64 0,.bool false]) (by have:=heap_alloc_new (w.alloc (.cells #[.int .i64 0,.int .i64 0,.string T,.slice none 0 0,.int .i64 0,.int .i64 0,.int .i64 0,.int .i64 0,.bool false] 58)) (.cells #[.int .i64 0,.int .i64 0,.string T,.slice none 0 0,.int .i64 0,.int .i64 0,.int .i64 0,.int .i64 0,.bool false] 58);simpa using this)) (by simp [Value.oneCell']) (by omega) (by unfold maxLen;omega) (by simp only [List.length_singleton] at hn;omega) (by simp;omega) (w.heap.size+2) (by simp) ?_;intro g5 cap5 w5 hown5 hgrow5 hat5 hlt5;have HO5:=hide hown5;have HG5:=hide hgrow5;clear hown5 hgrow5 hat5 hlt5)
    have HF:Hid (IsLd w5 base (.slice (some ⟨g5,0,none⟩) (L.length+1) cap5) (L++X.lds r false (.leaf k x))∧Below base w w5):=by
     refine ⟨?_,(((Below.refl _ w).alloc hb _).alloc (by simp;omega) _).grown HG5.out (by simp;omega) (fun q hq=>((HG.out) q hq).1)⟩
     show w5.ownsRow _ _ _ _ _ _
     have e9:([(x,false&&x==[40])]:List LfD).flatMap ldv=[.int .i64 0,.int .i64 0,.string T,.slice none 0 0,.int .i64 0,.int .i64 0,.int .i64 0,.int .i64 0,.bool false]:=by
      rw [← hX];simp [ldv,lgt]
     rw [HLX.out,List.length_append,List.length_singleton,List.flatMap_append,e9];exact HO5.out
    go_wp2_with fail
    go_ret
    exact ⟨_,rfl,HF⟩
   | true =>
    cases hx40:(x==[40]) with
    | false =>
     have hT:(T.toList==[40])=false:=by rw [← hX,ba_toList];exact hx40
     go_enter Tryz.func21,Tryz.ntmps21
     go_wp2_with (at_builtin;refine wpList_append_lies _ rfl _ _ 59 rfl base 58 i0 _ 9 96 Tryz.underlying59 hi0 hz0 hz1 hz2 rfl (by decide) rv L.length _ rfl (((HL.out:w.ownsRow _ _ _ _ _ _).alloc _).alloc _) ⟨w.heap.size+1,0,none⟩ 1 1 [.int .i64 0,.int .i64 0,.string T,.slice none 0 0,.int .i64 0,.int .i64 0,.int .i64 0,.int .i64 0,.bool false] rfl rfl (World.news_of_block (cs:=#[.int .i64 0,.int .i64 0,.string T,.slice none 0 0,.int .i64 0,.int .i64 0,.int .i64 0,.int .i64 0,.bool false]) (by have:=heap_alloc_new (w.alloc (.cells #[.int .i64 0,.int .i64 0,.string T,.slice none 0 0,.int .i64 0,.int .i64 0,.int .i64 0,.int .i64 0,.bool false] 58)) (.cells #[.int .i64 0,.int .i64 0,.string T,.slice none 0 0,.int .i64 0,.int .i64 0,.int .i64 0,.int .i64 0,.bool false] 58);simpa using this)) (by simp [Value.oneCell']) (by omega) (by unfold maxLen;omega) (by simp only [List.length_singleton] at hn;omega) (by simp;omega) (w.heap.size+2) (by simp) ?_;intro g5 cap5 w5 hown5 hgrow5 hat5 hlt5;have HO5:=hide hown5;have HG5:=hide hgrow5;clear hown5 hgrow5 hat5 hlt5)
     have HF:Hid (IsLd w5 base (.slice (some ⟨g5,0,none⟩) (L.length+1) cap5) (L++X.lds r true (.leaf k x))∧Below base w w5):=by
      refine ⟨?_,(((Below.refl _ w).alloc hb _).alloc (by simp;omega) _).grown HG5.out (by simp;omega) (fun q hq=>((HG.out) q hq).1)⟩
      show w5.ownsRow _ _ _ _ _ _
      have e9:([(x,true&&x==[40])]:List LfD).flatMap ldv=[.int .i64 0,.int .i64 0,.string T,.slice none 0 0,.int .i64 0,.int .i64 0,.int .i64 0,.int .i64 0,.bool false]:=by
       rw [← hX];simp [ldv,lgt,hx40]
      rw [HLX.out,List.length_append,List.length_singleton,List.flatMap_append,e9];exact HO5.out
     go_wp2_with fail
     go_ret
     exact ⟨_,rfl,HF⟩
    | true =>
     have hT:(T.toList==[40])=true:=by rw [← hX,ba_toList];exact hx40
     go_enter Tryz.func21,Tryz.ntmps21
     go_wp2_with (at_builtin;refine wpList_append_lies _ rfl _ _ 59 rfl base 58 i0 _ 9 96 Tryz.underlying59 hi0 hz0 hz1 hz2 rfl (by decide) rv L.length _ rfl (((HL.out:w.ownsRow _ _ _ _ _ _).alloc _).alloc _) ⟨w.heap.size+1,0,none⟩ 1 1 [.int .i64 0,.int .i64 99,.string T,.slice none 0 0,.int .i64 0,.int .i64 0,.int .i64 0,.int .i64 0,.bool false] rfl rfl (World.news_of_block (cs:=#[.int .i64 0,.int .i64 99,.string T,.slice none 0 0,.int .i64 0,.int .i64 0,.int .i64 0,.int .i64 0,.bool false]) (by have:=heap_alloc_new (w.alloc (.cells #[.int .i64 0,.int .i64 99,.string T,.slice none 0 0,.int .i64 0,.int .i64 0,.int .i64 0,.int .i64 0,.bool false] 58)) (.cells #[.int .i64 0,.int .i64 99,.string T,.slice none 0 0,.int .i64 0,.int .i64 0,.int .i64 0,.int .i64 0,.bool false] 58);simpa using this)) (by simp [Value.oneCell']) (by omega) (by unfold maxLen;omega) (by simp only [List.length_singleton] at hn;omega) (by simp;omega) (w.heap.size+2) (by simp) ?_;intro g5 cap5 w5 hown5 hgrow5 hat5 hlt5;have HO5:=hide hown5;have HG5:=hide hgrow5;clear hown5 hgrow5 hat5 hlt5)
     have HF:Hid (IsLd w5 base (.slice (some ⟨g5,0,none⟩) (L.length+1) cap5) (L++X.lds r true (.leaf k x))∧Below base w w5):=by
      refine ⟨?_,(((Below.refl _ w).alloc hb _).alloc (by simp;omega) _).grown HG5.out (by simp;omega) (fun q hq=>((HG.out) q hq).1)⟩
      show w5.ownsRow _ _ _ _ _ _
      have e9:([(x,true&&x==[40])]:List LfD).flatMap ldv=[.int .i64 0,.int .i64 99,.string T,.slice none 0 0,.int .i64 0,.int .i64 0,.int .i64 0,.int .i64 0,.bool false]:=by
       rw [← hX];simp [ldv,lgt,hx40]
      rw [HLX.out,List.length_append,List.length_singleton,List.flatMap_append,e9];exact HO5.out
     go_wp2_with fail
     go_ret
     exact ⟨_,rfl,HF⟩
end Go.Proofs.YtgpcpbmacdhlkaaGreatDoor
