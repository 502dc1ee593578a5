/- Plain mathematics: what a tree says,without spaces,remarks and signs: expressions. -/
import Derived.Test.YtbmebfgapjhchaaGreatDoorYd
import Derived.Test.YtbmebfgapjhchaaGreatDoorKa
import Derived.Test.YtbmebfgapjhchaaGreatDoorXy
import Derived.BigQuiet
namespace Go.Proofs.YtbmebfgapjhchaaGreatDoor
open M
namespace X
abbrev Nm:=List UInt8 × Nat
inductive Ex where
 | lit (k:Nat) (x:List UInt8)
 | hole (i:Nat)
 | missing
 | var (n:Nm)
 | lett (n:Nm) (v b:Ex)
 | ite (a b c:Ex)
 | fn (ns:List Nm) (b:Ex)
 | bin (l:Ex) (x:List UInt8) (r:Ex)
 | call (f:Ex) (gs:List Ex)
 | list (l:List Ex)
 | group (e:Ex)
def lq:Part→Bool
 | .leaf k _=>k==1||k==2
 | _=>false
def pz (ps:List Part):Nat:=(psb ps).length
theorem pz_app (l r:List Part):pz (l++r)=pz l+pz r:=by unfold pz;rw [psb_append,List.length_append]
theorem pz_nil:pz []=0:=rfl
theorem pz_cons (p:Part) (ps:List Part):pz (p::ps)=pz [p]+pz ps:=pz_app [p] ps
theorem pz_leaf (k:Nat) (x:List UInt8):pz [.leaf k x]=x.length:=by unfold pz;rw [psb,pb,psb,List.append_nil]
theorem pz_br (k:Nat) (ps:List Part):pz [.br k ps]=pz ps:=by unfold pz;rw [psb,pb,psb,List.append_nil]
structure Tk1 (ps:List Part) (k:Nat) (x:List UInt8) (qs:List Part):Prop where
 eq:ps=qs++[.leaf k x]
 qu:∀ q∈qs,lq q=true
 ne:¬(k=1∨k=2)
def Tkp (ps:List Part):Prop:=(∃ k x qs,Tk1 ps k x qs)∨∃ m,ps=[.miss m]
inductive Nmp:List Part→Nat→Nm→Prop
 | name (ps:List Part) (x:List UInt8) (qs:List Part) (i:Nat) (h:Tk1 ps 3 x qs):Nmp ps i (x,i+pz qs)
 | miss (i:Nat):Nmp [.miss sName] i ([],0)
inductive Nms:List Part→Nat→List Nm→Prop
 | nil (i:Nat):Nms [] i []
 | name (x:List UInt8) (ps:List Part) (i:Nat) (ns:List Nm) (h:Nms ps (i+x.length) ns):Nms (.leaf 3 x::ps) i ((x,i)::ns)
 | leaf (k:Nat) (x:List UInt8) (ps:List Part) (i:Nat) (ns:List Nm) (hk:k≠3) (h:Nms ps (i+x.length) ns):Nms (.leaf k x::ps) i ns
 | lack (ps:List Part) (i:Nat) (ns:List Nm) (h:Nms ps i ns):Nms (.miss sName::ps) i (([],0)::ns)
 | miss (m:List UInt8) (ps:List Part) (i:Nat) (ns:List Nm) (hm:m≠sName) (h:Nms ps i ns):Nms (.miss m::ps) i ns
mutual
inductive Rd:Part→Nat→Ex→Prop
 | missing (i:Nat):Rd (.miss sExpr) i .missing
 | lit (k t:Nat) (x:List UInt8) (ps qs:List Part) (i:Nat) (hk:15≤k∧k≤17) (h:Tk1 ps t x qs):Rd (.br k ps) i (.lit k x)
 | var (x:List UInt8) (ps qs:List Part) (i:Nat) (h:Tk1 ps 3 x qs):Rd (.br 18 ps) i (.var (x,i+pz qs))
 | hole (t:Nat) (x:List UInt8) (ps qs:List Part) (i:Nat) (h:Tk1 ps t x qs):Rd (.br 19 ps) i (.hole (i+pz qs))
 | lett (t1 n t2 t3:List Part) (p1 p2:Part) (i:Nat) (nm:Nm) (e1 e2:Ex) (h1:Tkp t1) (hn:Nmp n (i+pz t1) nm) (h2:Tkp t2) (hv:Rd p1 (i+pz t1+pz n+pz t2) e1) (h3:Tkp t3) (hb:Rd p2 (i+pz t1+pz n+pz t2+pz [p1]+pz t3) e2):Rd (.br 7 (t1++(n++(t2++([p1]++(t3++[p2])))))) i (.lett nm e1 e2)
 | ite (ps:List Part) (i:Nat) (a b c:Ex) (h:Rds ps i [a,b,c]):Rd (.br 8 ps) i (.ite a b c)
 | fn (t1 qs t2:List Part) (p:Part) (i:Nat) (ns:List Nm) (e:Ex) (h1:Tkp t1) (hn:Nms qs (i+pz t1) ns) (h2:Tkp t2) (hb:Rd p (i+pz t1+pz qs+pz t2) e):Rd (.br 9 (t1++([.br 6 qs]++(t2++[p])))) i (.fn ns e)
 | bin (p1 p2:Part) (t qs:List Part) (k:Nat) (x:List UInt8) (i:Nat) (e1 e2:Ex) (hl:Rd p1 i e1) (h:Tk1 t k x qs) (hr:Rd p2 (i+pz [p1]+pz t) e2):Rd (.br 10 ([p1]++(t++[p2]))) i (.bin e1 x e2)
 | call (p:Part) (gs:List Part) (i:Nat) (e:Ex) (es:List Ex) (hc:Rd p i e) (ha:Rds gs (i+pz [p]) es):Rd (.br 11 ([p]++[.br 12 gs])) i (.call e es)
 | list (ps:List Part) (i:Nat) (es:List Ex) (h:Rds ps i es):Rd (.br 13 ps) i (.list es)
 | group (ps:List Part) (i:Nat) (e:Ex) (h:Rds ps i [e]):Rd (.br 14 ps) i (.group e)
inductive Rds:List Part→Nat→List Ex→Prop
 | nil (i:Nat):Rds [] i []
 | leaf (k:Nat) (x:List UInt8) (ps:List Part) (i:Nat) (es:List Ex) (h:Rds ps (i+x.length) es):Rds (.leaf k x::ps) i es
 | miss (m:List UInt8) (ps:List Part) (i:Nat) (es:List Ex) (hm:m≠sExpr) (h:Rds ps i es):Rds (.miss m::ps) i es
 | cons (p:Part) (ps:List Part) (i:Nat) (e:Ex) (es:List Ex) (hp:Rd p i e) (h:Rds ps (i+pz [p]) es):Rds (p::ps) i (e::es)
end
def Rx (p:Part):Prop:=∀ i,∃ e,Rd p i e
def RdR (f:R):Prop:=∀ ts,∃ p,(f ts).1=[p]∧Rx p
theorem take_tk1 {ts:List Tok} (h:nxt ts≠none):∃ k x qs,Tk1 (take ts).1 k x qs∧nxt ts=some (k,x):=by
 unfold nxt at h
 cases hd:ts.dropWhile quiet with
 | nil=>rw [hd] at h;exact absurd rfl h
 | cons t l =>
  have hne:quiet t=false:=by
   have:=List.head?_dropWhile_not quiet ts
   rw [hd] at this
   simpa using this
  refine ⟨t.1,t.2,(ts.takeWhile quiet).map lf,⟨?_,fun q hq=>?_,?_⟩,?_⟩
  ·show ((ts.takeWhile quiet++(ts.dropWhile quiet).take 1).map lf)=_
   rw [hd,List.map_append];rfl
  ·obtain ⟨u,hu,rfl⟩:=List.mem_map.1 hq
   exact List.all_eq_true.1 (List.all_takeWhile (p:=quiet) (l:=ts)) u hu
  ·unfold quiet at hne;simp at hne;omega
  ·unfold nxt;rw [hd];rfl
theorem want_tkp (s:List UInt8) (ts:List Tok):Tkp (want s ts).1:=by
 unfold want
 split
 ·next h =>
  obtain ⟨k,x,qs,h1,-⟩:=take_tk1 (isN_next h)
  exact .inl ⟨k,x,qs,h1⟩
 ·exact .inr ⟨s,rfl⟩
theorem kindN_eq {ts:List Tok} {k:Nat} {x:List UInt8} (h:nxt ts=some (k,x)):kindN ts=k:=by unfold kindN;rw [h]
theorem wname_nmp (ts:List Tok) (i:Nat):∃ nm,Nmp (wname ts).1 i nm:=by
 unfold wname
 split
 ·next h =>
  obtain ⟨k,x,qs,h1,h2⟩:=take_tk1 (kindN_next (by decide) h)
  have:=kindN_eq h2
  rw [this] at h
  obtain rfl:k=3:=by simpa using h
  exact ⟨_,.name _ x qs i h1⟩
 ·exact ⟨_,.miss i⟩
theorem lq_leaf {q:Part} (h:lq q=true):∃ k x,q=.leaf k x∧(k=1∨k=2):=by
 cases q with
 | leaf k x=>exact ⟨k,x,rfl,by simpa [lq] using h⟩
 | miss m=>cases h
 | br k ps=>cases h
theorem Rds.skip:∀ {qs:List Part} {ps:List Part} {i:Nat} {es:List Ex},(∀ q∈qs,∃ k x,q=.leaf k x)→Rds ps (i+pz qs) es→Rds (qs++ps) i es
 | [],ps,i,es,_,h=>by rw [pz_nil] at h;exact h
 | q::qs,ps,i,es,hq,h=>by
  obtain ⟨k,x,rfl⟩:=hq q (by simp)
  have e1:pz (.leaf k x::qs)=x.length+pz qs:=by unfold pz;rw [psb,pb,List.length_append]
  rw [e1,← Nat.add_assoc] at h
  exact .leaf k x _ _ _ (Rds.skip (fun q' hq'=>hq q' (List.mem_cons_of_mem _ hq')) h)
theorem Tk1.leaves {ps:List Part} {k:Nat} {x:List UInt8} {qs:List Part} (h:Tk1 ps k x qs):∀ q∈ps,∃ k x,q=.leaf k x:=by
 intro q hq
 rw [h.eq] at hq
 rcases List.mem_append.1 hq with h1|h1
 ·obtain ⟨k,x,e,-⟩:=lq_leaf (h.qu q h1)
  exact ⟨k,x,e⟩
 ·obtain rfl:=List.mem_singleton.1 h1
  exact ⟨k,x,rfl⟩
theorem Rds.tkp {t ps:List Part} {i:Nat} {es:List Ex} (ht:Tkp t) (hx:t≠[.miss sExpr]) (h:Rds ps (i+pz t) es):Rds (t++ps) i es:=by
 rcases ht with ⟨k,x,qs,h1⟩|⟨m,rfl⟩
 ·exact Rds.skip h1.leaves h
 ·have:pz [.miss m]=0:=rfl
  rw [this] at h
  exact .miss m _ _ _ (fun e=>hx (by rw [e])) h
theorem want_ne (s:List UInt8) (hs:s≠sExpr) (ts:List Tok):(want s ts).1≠[.miss sExpr]:=by
 unfold want
 split
 ·next h =>
  obtain ⟨k,x,qs,h1,-⟩:=take_tk1 (isN_next h)
  rw [h1.eq]
  intro e
  cases qs with
  | nil=>cases e
  | cons q qs =>
   have:=congrArg List.length e
   simp at this
 ·intro e
  cases e
  exact hs rfl
theorem tk1_ne {ps:List Part} {k:Nat} {x:List UInt8} {qs:List Part} (h:Tk1 ps k x qs):ps≠[.miss sExpr]:=by
 intro e
 obtain ⟨k',x',e'⟩:=h.leaves (.miss sExpr) (by rw [e];simp)
 cases e'
theorem sevGo_rds {E:R} (hE:RdR E) {t:List Part} (ht:Tkp t) (hx:t≠[.miss sExpr]):∀ (n:Nat) (ts:List Tok) (i:Nat),∃ es,Rds ((sevGo E n ts).1++t) i es
 | 0,ts,i=>⟨[],by
   show Rds ([]++t) i []
   have:=Rds.tkp (ps:=[]) (i:=i) (es:=[]) ht hx (.nil _)
   rw [List.append_nil] at this
   exact this⟩
 | n+1,ts,i=>by
  unfold sevGo
  split
  ·next h =>
   obtain ⟨k,x,qs,h1,-⟩:=take_tk1 (isN_next h)
   obtain ⟨p,hp,hr⟩:=hE (take ts).2
   obtain ⟨e,he⟩:=hr (i+pz (take ts).1)
   obtain ⟨es,hes⟩:=sevGo_rds hE ht hx n (E (take ts).2).2 (i+pz (take ts).1+pz [p])
   refine ⟨e::es,?_⟩
   show Rds (((take ts).1++((E (take ts).2).1++(sevGo E n (E (take ts).2).2).1))++t) i _
   rw [hp,List.append_assoc]
   refine Rds.tkp (.inl ⟨k,x,qs,h1⟩) (tk1_ne h1) ?_
   exact .cons p _ _ e es he hes
  ·have:=Rds.tkp (ps:=[]) (i:=i) (es:=[]) ht hx (.nil _)
   rw [List.append_nil] at this
   exact ⟨[],this⟩
theorem several_rds {E:R} (hE:RdR E) {s:List UInt8} (hs:s≠sExpr) (ts:List Tok) (i:Nat):∃ es,Rds (several E s ts).1 i es:=by
 unfold several
 split
 ·have:=Rds.tkp (ps:=[]) (i:=i) (es:=[]) (want_tkp s ts) (want_ne s hs ts) (.nil _)
  rw [List.append_nil] at this
  exact ⟨[],this⟩
 ·obtain ⟨p,hp,hr⟩:=hE ts
  obtain ⟨e,he⟩:=hr i
  obtain ⟨es,hes⟩:=sevGo_rds hE (want_tkp s ((fun ts=>sevGo E ts.length ts) (E ts).2).2) (want_ne s hs _) (E ts).2.length (E ts).2 (i+pz [p])
  refine ⟨e::es,?_⟩
  show Rds ((E ts).1++((sevGo E (E ts).2.length (E ts).2).1++_)) i _
  rw [hp]
  exact .cons p _ _ e es he hes
theorem Nms.skip:∀ {qs:List Part} {ps:List Part} {i:Nat} {ns:List Nm},(∀ q∈qs,∃ k x,q=.leaf k x∧k≠3)→Nms ps (i+pz qs) ns→Nms (qs++ps) i ns
 | [],ps,i,ns,_,h=>by rw [pz_nil] at h;exact h
 | q::qs,ps,i,ns,hq,h=>by
  obtain ⟨k,x,rfl,hk⟩:=hq q (by simp)
  have e1:pz (.leaf k x::qs)=x.length+pz qs:=by unfold pz;rw [psb,pb,List.length_append]
  rw [e1,← Nat.add_assoc] at h
  exact .leaf k x _ _ _ hk (Nms.skip (fun q' hq'=>hq q' (List.mem_cons_of_mem _ hq')) h)
theorem lq_ne3 {qs:List Part} (h:∀ q∈qs,lq q=true):∀ q∈qs,∃ k x,q=.leaf k x∧k≠3:=fun q hq=>by
 obtain ⟨k,x,e,hk⟩:=lq_leaf (h q hq)
 exact ⟨k,x,e,by omega⟩
theorem want_nms {s:List UInt8} (hs:s≠sName) (ts:List Tok) {ps:List Part} {i:Nat} {ns:List Nm} (h:Nms ps (i+pz (want s ts).1) ns):Nms ((want s ts).1++ps) i ns:=by
 unfold want at h ⊢
 split
 ·next hi =>
  rw [if_pos hi] at h
  obtain ⟨k,x,qs,h1,h2⟩:=take_tk1 (isN_next hi)
  have hk:k≠3:=by
   unfold isN at hi
   rw [h2] at hi
   intro e;subst e
   simp at hi
  refine Nms.skip (fun q hq=>?_) h
  rw [h1.eq] at hq
  rcases List.mem_append.1 hq with g|g
  ·exact lq_ne3 h1.qu q g
  ·obtain rfl:=List.mem_singleton.1 g
   exact ⟨k,x,rfl,hk⟩
 ·next hi =>
  rw [if_neg hi] at h
  exact .miss s _ _ _ hs h
theorem wname_nms (ts:List Tok) {ps:List Part} {i:Nat} (h:∀ j,∃ ns,Nms ps j ns):∃ ns,Nms ((wname ts).1++ps) i ns:=by
 unfold wname
 split
 ·next hi =>
  obtain ⟨k,x,qs,h1,h2⟩:=take_tk1 (kindN_next (by decide) hi)
  have:=kindN_eq h2
  rw [this] at hi
  obtain rfl:k=3:=by simpa using hi
  obtain ⟨ns,hns⟩:=h (i+pz qs+x.length)
  refine ⟨(x,i+pz qs)::ns,?_⟩
  rw [h1.eq,List.append_assoc]
  exact Nms.skip (lq_ne3 h1.qu) (.name x _ _ _ hns)
 ·obtain ⟨ns,hns⟩:=h i
  exact ⟨_,.lack _ _ _ hns⟩
theorem sevGo_nms {s:List UInt8} (hs:s≠sName):∀ (n:Nat) (ts ts':List Tok) (i:Nat),∃ ns,Nms ((sevGo wname n ts).1++(want s ts').1) i ns
 | 0,ts,ts',i=>⟨[],by
   show Nms ([]++(want s ts').1) i []
   have:=want_nms (ps:=[]) (i:=i) (ns:=[]) hs ts' (.nil _)
   rw [List.append_nil] at this
   exact this⟩
 | n+1,ts,ts',i=>by
  unfold sevGo
  split
  ·next h =>
   obtain ⟨k,x,qs,h1,h2⟩:=take_tk1 (isN_next h)
   have hk:k≠3:=by
    unfold isN at h
    rw [h2] at h
    intro e;subst e
    simp at h
   obtain ⟨ns,hns⟩:=wname_nms (take ts).2 (ps:=(sevGo wname n (wname (take ts).2).2).1++(want s ts').1) (i:=i+pz (take ts).1) (fun j=>sevGo_nms hs n _ _ j)
   refine ⟨ns,?_⟩
   show Nms (((take ts).1++((wname (take ts).2).1++(sevGo wname n (wname (take ts).2).2).1))++_) i _
   rw [List.append_assoc,List.append_assoc]
   refine Nms.skip (fun q hq=>?_) hns
   rw [h1.eq] at hq
   rcases List.mem_append.1 hq with g|g
   ·exact lq_ne3 h1.qu q g
   ·obtain rfl:=List.mem_singleton.1 g
    exact ⟨k,x,rfl,hk⟩
  ·have:=want_nms (ps:=[]) (i:=i) (ns:=[]) hs ts' (.nil _)
   rw [List.append_nil] at this
   exact ⟨[],this⟩
theorem params_nms (ts:List Tok):∃ qs,(params ts).1=[.br 6 qs]∧∀ i,∃ ns,Nms qs i ns:=by
 refine ⟨_,rfl,fun i=>?_⟩
 show ∃ ns,Nms ((want [40] ts).1++(several wname [41] (want [40] ts).2).1) i ns
 have key:∀ j,∃ ns,Nms (several wname [41] (want [40] ts).2).1 j ns:=fun j=>by
  unfold several
  split
  ·have:=want_nms (s:=[41]) (ps:=[]) (i:=j) (ns:=[]) (by decide) (want [40] ts).2 (.nil _)
   rw [List.append_nil] at this
   exact ⟨[],this⟩
  ·exact wname_nms _ (fun j=>sevGo_nms (by decide) _ _ _ j)
 obtain ⟨ns,h⟩:=key (i+pz (want [40] ts).1)
 exact ⟨ns,want_nms (by decide) ts h⟩
theorem tok_rdr {ts:List Tok} (h:nxt ts≠none) {k:Nat} (hk:(15≤k∧k≤17)∨k=19∨(k=18∧(kindN ts==3)=true)):∃ p,(node k take ts).1=[p]∧Rx p:=by
 obtain ⟨t,x,qs,h1,h2⟩:=take_tk1 h
 refine ⟨_,rfl,fun i=>?_⟩
 rcases hk with hk|rfl|⟨rfl,hk⟩
 ·exact ⟨_,.lit k t x _ qs i hk h1⟩
 ·exact ⟨_,.hole t x _ qs i h1⟩
 ·rw [kindN_eq h2] at hk
  obtain rfl:t=3:=by simpa using hk
  exact ⟨_,.var x _ qs i h1⟩
theorem part_rdr {E:R} (hE:RdR E):RdR (part E):=by
 intro ts
 unfold part
 split
 ·next h=>exact tok_rdr (kindN_next (by decide) h) (.inl ⟨by decide,by decide⟩)
 split
 ·next h=>exact tok_rdr (kindN_next (by decide) h) (.inl ⟨by decide,by decide⟩)
 split
 ·next h =>
  refine tok_rdr ?_ (.inl ⟨by decide,by decide⟩)
  rcases Bool.or_eq_true_iff.1 h with g|g
  ·exact isN_next g
  ·exact isN_next g
 split
 ·next h=>exact tok_rdr (kindN_next (by decide) h) (.inr (.inr ⟨rfl,h⟩))
 split
 ·next h=>exact tok_rdr (isN_next h) (.inr (.inl rfl))
 split
 ·next h =>
  obtain ⟨k,x,qs,h1,-⟩:=take_tk1 (isN_next h)
  obtain ⟨p,hp,hr⟩:=hE (take ts).2
  refine ⟨_,rfl,fun i=>?_⟩
  obtain ⟨e,he⟩:=hr (i+pz (take ts).1)
  refine ⟨.group e,.group _ i e ?_⟩
  show Rds ((take ts).1++((E (take ts).2).1++(want [41] (E (take ts).2).2).1)) i [e]
  rw [hp]
  refine Rds.tkp (.inl ⟨k,x,qs,h1⟩) (tk1_ne h1) (.cons p _ _ e [] he ?_)
  have:=Rds.tkp (ps:=[]) (i:=i+pz (take ts).1+pz [p]) (es:=[]) (want_tkp [41] (E (take ts).2).2) (want_ne [41] (by decide) _) (.nil _)
  rw [List.append_nil] at this
  exact this
 split
 ·next h =>
  obtain ⟨k,x,qs,h1,-⟩:=take_tk1 (isN_next h)
  refine ⟨_,rfl,fun i=>?_⟩
  obtain ⟨es,hes⟩:=several_rds hE (s:=[93]) (by decide) (take ts).2 (i+pz (take ts).1)
  exact ⟨.list es,.list _ i es (Rds.tkp (.inl ⟨k,x,qs,h1⟩) (tk1_ne h1) hes)⟩
 ·exact ⟨_,rfl,fun i=>⟨_,.missing i⟩⟩
theorem callGo_rdr {E:R} (hE:RdR E):∀ (n:Nat) (p:Part) (ts:List Tok),Rx p→∃ q,(callGo E n [p] ts).1=[q]∧Rx q
 | 0,p,ts,h=>⟨p,rfl,h⟩
 | n+1,p,ts,h=>by
  unfold callGo
  split
  ·next hi =>
   refine callGo_rdr hE n _ _ fun i=>?_
   obtain ⟨k,x,qs,h1,-⟩:=take_tk1 (isN_next hi)
   obtain ⟨e,he⟩:=h i
   obtain ⟨es,hes⟩:=several_rds hE (s:=[41]) (by decide) (take ts).2 (i+pz [p]+pz (take ts).1)
   exact ⟨.call e es,.call p _ i e es he (Rds.tkp (.inl ⟨k,x,qs,h1⟩) (tk1_ne h1) hes)⟩
  ·exact ⟨p,rfl,h⟩
theorem call_rdr {E:R} (hE:RdR E):RdR (call E):=fun ts=>by
 obtain ⟨p,hp,hr⟩:=part_rdr hE ts
 unfold call
 rw [hp]
 exact callGo_rdr hE _ p _ hr
theorem bin_rx {one:R} (h1:RdR one) {p:Part} (hp:Rx p) {ts:List Tok} (hn:nxt ts≠none):Rx (.br 10 ([p]++(andThen take one ts).1)):=by
 intro i
 obtain ⟨k,x,qs,ht,-⟩:=take_tk1 hn
 obtain ⟨q,hq,hr⟩:=h1 (take ts).2
 obtain ⟨e,he⟩:=hp i
 obtain ⟨e2,he2⟩:=hr (i+pz [p]+pz (take ts).1)
 refine ⟨.bin e x e2,?_⟩
 show Rd (.br 10 ([p]++((take ts).1++(one (take ts).2).1))) i _
 rw [hq]
 exact .bin p q _ qs k x i e e2 he ht he2
theorem rowGo_rdr {one:R} (h1:RdR one) {ok:List Tok→Bool} (hok:∀ ts,ok ts=true→nxt ts≠none):∀ (n:Nat) (p:Part) (ts:List Tok),Rx p→∃ q,(rowGo one ok n [p] ts).1=[q]∧Rx q
 | 0,p,ts,h=>⟨p,rfl,h⟩
 | n+1,p,ts,h=>by
  unfold rowGo
  split
  ·next hi=>exact rowGo_rdr h1 hok n _ _ (bin_rx h1 h (hok ts hi))
  ·exact ⟨p,rfl,h⟩
theorem row_rdr {one:R} (h1:RdR one) {ok:List Tok→Bool} (hok:∀ ts,ok ts=true→nxt ts≠none):RdR (row one ok):=fun ts=>by
 obtain ⟨p,hp,hr⟩:=h1 ts
 unfold row
 rw [hp]
 exact rowGo_rdr h1 hok _ p _ hr
theorem sum_rdr {E:R} (hE:RdR E):RdR (sum E) :=
 row_rdr (row_rdr (call_rdr hE) (fun _ h=>isN_next h)) (fun ts h=>by
  rcases Bool.or_eq_true_iff.1 h with g|g
  ·rcases Bool.or_eq_true_iff.1 g with g|g
   ·exact isN_next g
   ·exact isN_next g
  ·exact isN_next g)
theorem comparison_rdr {E:R} (hE:RdR E):RdR (comparison E):=fun ts=>by
 have hs:=sum_rdr hE
 obtain ⟨p,hp,hr⟩:=hs ts
 unfold comparison
 split
 ·next h =>
  rw [hp]
  refine ⟨_,rfl,bin_rx hs hr ?_⟩
  rcases Bool.or_eq_true_iff.1 h with g|g
  ·exact isN_next g
  ·exact isN_next g
 ·exact ⟨p,hp,hr⟩
theorem expr_rdr:∀ n,RdR (expr n)
 | 0=>fun ts=>⟨_,rfl,fun i=>⟨_,.missing i⟩⟩
 | n+1=>fun ts=>by
  have hE:=expr_rdr n
  unfold expr
  generalize expr n=E at *
  split
  ·next h =>
   obtain ⟨k,x,qs,h1,-⟩:=take_tk1 (isN_next h)
   refine ⟨_,rfl,fun i=>?_⟩
   obtain ⟨nm,hn⟩:=wname_nmp (take ts).2 (i+pz (take ts).1)
   obtain ⟨p1,hp1,hr1⟩:=hE (want [61] (wname (take ts).2).2).2
   obtain ⟨p2,hp2,hr2⟩:=hE (want [105,110] (E (want [61] (wname (take ts).2).2).2).2).2
   obtain ⟨e1,he1⟩:=hr1 (i+pz (take ts).1+pz (wname (take ts).2).1+pz (want [61] (wname (take ts).2).2).1)
   obtain ⟨e2,he2⟩:=hr2 (i+pz (take ts).1+pz (wname (take ts).2).1+pz (want [61] (wname (take ts).2).2).1+pz [p1]+pz (want [105,110] (E (want [61] (wname (take ts).2).2).2).2).1)
   refine ⟨.lett nm e1 e2,?_⟩
   show Rd (.br 7 ((take ts).1++((wname (take ts).2).1++((want [61] (wname (take ts).2).2).1++((E (want [61] (wname (take ts).2).2).2).1++((want [105,110] (E (want [61] (wname (take ts).2).2).2).2).1++(E (want [105,110] (E (want [61] (wname (take ts).2).2).2).2).2).1)))))) i _
   rw [hp1,hp2]
   exact .lett _ _ _ _ p1 p2 i nm e1 e2 (.inl ⟨k,x,qs,h1⟩) hn (want_tkp _ _) he1 (want_tkp _ _) he2
  split
  ·next h =>
   obtain ⟨k,x,qs,h1,-⟩:=take_tk1 (isN_next h)
   refine ⟨_,rfl,fun i=>?_⟩
   obtain ⟨p1,hp1,hr1⟩:=hE (take ts).2
   obtain ⟨p2,hp2,hr2⟩:=hE (want [116,104,101,110] (E (take ts).2).2).2
   obtain ⟨p3,hp3,hr3⟩:=hE (want [101,108,115,101] (E (want [116,104,101,110] (E (take ts).2).2).2).2).2
   obtain ⟨e1,he1⟩:=hr1 (i+pz (take ts).1)
   obtain ⟨e2,he2⟩:=hr2 (i+pz (take ts).1+pz [p1]+pz (want [116,104,101,110] (E (take ts).2).2).1)
   obtain ⟨e3,he3⟩:=hr3 (i+pz (take ts).1+pz [p1]+pz (want [116,104,101,110] (E (take ts).2).2).1+pz [p2]+pz (want [101,108,115,101] (E (want [116,104,101,110] (E (take ts).2).2).2).2).1)
   refine ⟨.ite e1 e2 e3,.ite _ i e1 e2 e3 ?_⟩
   show Rds ((take ts).1++((E (take ts).2).1++((want [116,104,101,110] (E (take ts).2).2).1++((E (want [116,104,101,110] (E (take ts).2).2).2).1++((want [101,108,115,101] (E (want [116,104,101,110] (E (take ts).2).2).2).2).1++(E (want [101,108,115,101] (E (want [116,104,101,110] (E (take ts).2).2).2).2).2).1))))) i _
   rw [hp1,hp2,hp3]
   have s3:=Rds.tkp (i:=i+pz (take ts).1+pz [p1]+pz (want [116,104,101,110] (E (take ts).2).2).1+pz [p2]) (want_tkp [101,108,115,101] (E (want [116,104,101,110] (E (take ts).2).2).2).2) (want_ne _ (by decide) _) (.cons p3 [] _ e3 [] he3 (.nil _))
   have s2:=Rds.tkp (i:=i+pz (take ts).1+pz [p1]) (want_tkp [116,104,101,110] (E (take ts).2).2) (want_ne _ (by decide) _) (.cons p2 _ _ e2 _ he2 s3)
   exact Rds.tkp (.inl ⟨k,x,qs,h1⟩) (tk1_ne h1) (.cons p1 _ _ e1 _ he1 s2)
  split
  ·next h =>
   obtain ⟨k,x,qs,h1,-⟩:=take_tk1 (isN_next h)
   refine ⟨_,rfl,fun i=>?_⟩
   obtain ⟨ps,hps,hns⟩:=params_nms (take ts).2
   obtain ⟨ns,hn⟩:=hns (i+pz (take ts).1)
   obtain ⟨p,hp,hr⟩:=hE (want [61,62] (params (take ts).2).2).2
   obtain ⟨e,he⟩:=hr (i+pz (take ts).1+pz ps+pz (want [61,62] (params (take ts).2).2).1)
   refine ⟨.fn ns e,?_⟩
   show Rd (.br 9 ((take ts).1++((params (take ts).2).1++((want [61,62] (params (take ts).2).2).1++(E (want [61,62] (params (take ts).2).2).2).1)))) i _
   rw [hps,hp]
   exact .fn _ ps _ p i ns e (.inl ⟨k,x,qs,h1⟩) hn (want_tkp _ _) he
  ·exact comparison_rdr hE ts
end X
end Go.Proofs.YtbmebfgapjhchaaGreatDoor
/- Plain mathematics: what a tree says: items. -/
namespace Go.Proofs.YtbmebfgapjhchaaGreatDoor
open M
namespace X
inductive It where
 | use (pub:Bool) (m n:Nm) (gs:Bool) (a:Nm)
 | dfn (pub:Bool) (n:Nm) (ps:Option (List Nm)) (b:Ex)
def sAs:List UInt8:=[97,115]
inductive Pbp:List Part→Bool→Prop
 | yes (ps:List Part) (k:Nat) (qs:List Part) (h:Tk1 ps k sPub qs):Pbp ps true
 | no:Pbp [] false
def Tkn (s:List UInt8) (ps:List Part):Prop:=(∃ k x qs,Tk1 ps k x qs∧x≠s)∨∃ m,ps=[.miss m]
theorem Tkn.tkp {s:List UInt8} {ps:List Part} (h:Tkn s ps):Tkp ps:=by
 rcases h with ⟨k,x,qs,h1,-⟩|h
 ·exact .inl ⟨k,x,qs,h1⟩
 ·exact .inr h
inductive Asp:List Part→Nat→Bool→Nm→Prop
 | yes (t n:List Part) (k:Nat) (qs:List Part) (i:Nat) (nm:Nm) (h:Tk1 t k sAs qs) (hn:Nmp n (i+pz t) nm):Asp (t++n) i true nm
 | no (i:Nat):Asp [] i false ([],0)
inductive Prp:List Part→Nat→Option (List Nm)→Prop
 | yes (qs:List Part) (i:Nat) (ns:List Nm) (h:Nms qs i ns):Prp [.br 6 qs] i (some ns)
 | no (i:Nat):Prp [] i none
inductive Rdi:Part→Nat→It→Prop
 | use (pb t1 n1 t2 n2 ap t3:List Part) (i:Nat) (pub gs:Bool) (m n a:Nm) (hp:Pbp pb pub) (h1:Tkn sPub t1) (hm:Nmp n1 (i+pz pb+pz t1) m) (h2:Tkp t2) (hn:Nmp n2 (i+pz pb+pz t1+pz n1+pz t2) n) (ha:Asp ap (i+pz pb+pz t1+pz n1+pz t2+pz n2) gs a) (h3:Tkn sAs t3) :
   Rdi (.br 3 (pb++(t1++(n1++(t2++(n2++(ap++t3))))))) i (.use pub m n gs a)
 | dfn (pb t1 n1 pr t2:List Part) (p:Part) (t3:List Part) (i:Nat) (pub:Bool) (n:Nm) (ps:Option (List Nm)) (e:Ex) (hp:Pbp pb pub) (h1:Tkn sPub t1) (hn:Nmp n1 (i+pz pb+pz t1) n) (hr:Prp pr (i+pz pb+pz t1+pz n1) ps) (h2:Tkp t2) (he:Rd p (i+pz pb+pz t1+pz n1+pz pr+pz t2) e) (h3:Tkp t3) :
   Rdi (.br 4 (pb++(t1++(n1++(pr++(t2++([p]++t3))))))) i (.dfn pub n ps e)
inductive Rdf:List Part→Nat→List It→Prop
 | leaves (ps:List Part) (i:Nat) (h:∀ q∈ps,lq q=true):Rdf ps i []
 | junk (qs ps:List Part) (i:Nat) (its:List It) (hq:∀ q∈qs,∃ k x,q=.leaf k x) (h:Rdf ps (i+pz [.br 5 qs]) its):Rdf (.br 5 qs::ps) i its
 | item (p:Part) (ps:List Part) (i:Nat) (it:It) (its:List It) (hp:Rdi p i it) (h:Rdf ps (i+pz [p]) its):Rdf (p::ps) i (it::its)
theorem take_word {s:List UInt8} {ts:List Tok} (h:isN s ts=true):∃ k qs,Tk1 (take ts).1 k s qs:=by
 obtain ⟨k,x,qs,h1,h2⟩:=take_tk1 (isN_next h)
 have:x=s:=by
  unfold isN at h
  rw [h2] at h
  simp at h
  exact h.2
 subst this
 exact ⟨k,qs,h1⟩
theorem want_tkn {s s':List UInt8} (hs:s≠s') (ts:List Tok):Tkn s' (want s ts).1:=by
 unfold want
 split
 ·next h =>
  obtain ⟨k,qs,h1⟩:=take_word h
  exact .inl ⟨k,s,qs,h1,hs⟩
 ·exact .inr ⟨s,rfl⟩
theorem pub_pbp (ts:List Tok):∃ b,Pbp (optPub ts).1 b:=by
 unfold optPub
 split
 ·next h =>
  obtain ⟨k,qs,h1⟩:=take_word h
  exact ⟨true,.yes _ k qs h1⟩
 ·exact ⟨false,.no⟩
theorem as_asp (ts:List Tok) (i:Nat):∃ b a,Asp (if isN [97,115] ts then andThen take wname ts else ([],ts)).1 i b a:=by
 split
 ·next h =>
  obtain ⟨k,qs,h1⟩:=take_word h
  obtain ⟨nm,hn⟩:=wname_nmp (take ts).2 (i+pz (take ts).1)
  exact ⟨true,nm,.yes _ _ k qs i nm h1 hn⟩
 ·exact ⟨false,_,.no i⟩
theorem par_prp (ts:List Tok) (i:Nat):∃ b,Prp (if isN [40] ts then params ts else ([],ts)).1 i b:=by
 split
 ·obtain ⟨qs,h1,h2⟩:=params_nms ts
  obtain ⟨ns,hn⟩:=h2 i
  rw [h1]
  exact ⟨_,.yes qs i ns hn⟩
 ·exact ⟨_,.no i⟩
theorem use_rdi (ts:List Tok) (i:Nat):∃ it,Rdi (.br 3 (andThen optPub useR ts).1) i it:=by
 obtain ⟨pub,hp⟩:=pub_pbp ts
 show ∃ it,Rdi (.br 3 ((optPub ts).1++(useR (optPub ts).2).1)) i it
 generalize (optPub ts).1=pb at *
 generalize (optPub ts).2=ts1 at *
 unfold useR
 have h1:=want_tkn (s:=sUse) (s':=sPub) (by decide) ts1
 show ∃ it,Rdi (.br 3 (pb++((want sUse ts1).1++((wname (want sUse ts1).2).1++((want [46] (wname (want sUse ts1).2).2).1++((wname (want [46] (wname (want sUse ts1).2).2).2).1++((if isN [97,115] (wname (want [46] (wname (want sUse ts1).2).2).2).2 then andThen take wname (wname (want [46] (wname (want sUse ts1).2).2).2).2 else ([],(wname (want [46] (wname (want sUse ts1).2).2).2).2)).1++(want [59] (if isN [97,115] (wname (want [46] (wname (want sUse ts1).2).2).2).2 then andThen take wname (wname (want [46] (wname (want sUse ts1).2).2).2).2 else ([],(wname (want [46] (wname (want sUse ts1).2).2).2).2)).2).1)))))) ) i it
 generalize want sUse ts1=r1 at *
 obtain ⟨m,hm⟩:=wname_nmp r1.2 (i+pz pb+pz r1.1)
 generalize wname r1.2=r2 at *
 have h2:=want_tkp [46] r2.2
 generalize want [46] r2.2=r3 at *
 obtain ⟨n,hn⟩:=wname_nmp r3.2 (i+pz pb+pz r1.1+pz r2.1+pz r3.1)
 generalize wname r3.2=r4 at *
 obtain ⟨gs,a,ha⟩:=as_asp r4.2 (i+pz pb+pz r1.1+pz r2.1+pz r3.1+pz r4.1)
 generalize (if isN [97,115] r4.2 then andThen take wname r4.2 else ([],r4.2))=r5 at *
 have h3:=want_tkn (s:=[59]) (s':=sAs) (by decide) r5.2
 exact ⟨_,.use _ _ _ _ _ _ _ i pub gs m n a hp h1 hm h2 hn ha h3⟩
theorem def_rdi (ts:List Tok) (i:Nat):∃ it,Rdi (.br 4 (andThen optPub defR ts).1) i it:=by
 obtain ⟨pub,hp⟩:=pub_pbp ts
 show ∃ it,Rdi (.br 4 ((optPub ts).1++(defR (optPub ts).2).1)) i it
 generalize (optPub ts).1=pb at *
 generalize (optPub ts).2=ts1 at *
 have hE:=expr_rdr 65
 unfold defR
 generalize expr 65=E at *
 have h1:=want_tkn (s:=sDef) (s':=sPub) (by decide) ts1
 show ∃ it,Rdi (.br 4 (pb++((want sDef ts1).1++((wname (want sDef ts1).2).1++((if isN [40] (wname (want sDef ts1).2).2 then params (wname (want sDef ts1).2).2 else ([],(wname (want sDef ts1).2).2)).1++((want [61] (if isN [40] (wname (want sDef ts1).2).2 then params (wname (want sDef ts1).2).2 else ([],(wname (want sDef ts1).2).2)).2).1++((E (want [61] (if isN [40] (wname (want sDef ts1).2).2 then params (wname (want sDef ts1).2).2 else ([],(wname (want sDef ts1).2).2)).2).2).1++(want [59] (E (want [61] (if isN [40] (wname (want sDef ts1).2).2 then params (wname (want sDef ts1).2).2 else ([],(wname (want sDef ts1).2).2)).2).2).2).1)))))) ) i it
 generalize want sDef ts1=r1 at *
 obtain ⟨n,hn⟩:=wname_nmp r1.2 (i+pz pb+pz r1.1)
 generalize wname r1.2=r2 at *
 obtain ⟨ps,hr⟩:=par_prp r2.2 (i+pz pb+pz r1.1+pz r2.1)
 generalize (if isN [40] r2.2 then params r2.2 else ([],r2.2))=r3 at *
 have h2:=want_tkp [61] r3.2
 generalize want [61] r3.2=r4 at *
 obtain ⟨p,hpe,hx⟩:=hE r4.2
 rw [hpe]
 obtain ⟨e,he⟩:=hx (i+pz pb+pz r1.1+pz r2.1+pz r3.1+pz r4.1)
 have h3:=want_tkp [59] (E r4.2).2
 exact ⟨_,.dfn _ _ _ _ _ p _ i pub n ps e hp h1 hn hr h2 he h3⟩
theorem lv_leaf {p:Part} (h:lv p=true):∃ k x,p=.leaf k x:=by
 cases p with
 | leaf k x=>exact ⟨k,x,rfl⟩
 | miss m=>cases h
 | br k ps=>cases h
theorem file_rdf:∀ (n:Nat) (ts:List Tok),ts.length≤n→(∀ t∈ts,t.1≠0)→∀ i,∃ its,Rdf (fileL ts) i its
 | n,ts,hn,hk,i=>by
  cases h:(kindN ts==0) with
  | true =>
   have hq:=kindN_drop h hk
   refine ⟨[],?_⟩
   rw [fileL_no h]
   refine .leaves _ i fun q hq'=>?_
   obtain ⟨t,ht,rfl⟩:=List.mem_map.1 hq'
   exact hq t ht
  | false =>
   have hl:=kid_lt h
   have hs:=kid_split ts
   match n,hn with
   | 0,hn=>omega
   | n+1,hn =>
    have hk2:∀ t∈(kid ts).2.2,t.1≠0:=fun t ht=>hk t (by rw [hs];exact List.mem_append_right _ ht)
    obtain ⟨its,hits⟩:=file_rdf n (kid ts).2.2 (by omega) hk2 (i+pz [.br (kid ts).1 (kid ts).2.1])
    rw [fileL_yes h]
    have hj:=kid_jok h
    revert hits hj
    rw [kid_eq]
    split
    ·split
     ·intro hits _
      obtain ⟨it,hit⟩:=use_rdi ts i
      exact ⟨it::its,.item _ _ i it its hit hits⟩
     ·intro hits _
      obtain ⟨it,hit⟩:=def_rdi ts i
      exact ⟨it::its,.item _ _ i it its hit hits⟩
    ·intro hits hj
     rw [jok] at hj
     exact ⟨its,.junk _ _ i its (fun q hq=>lv_leaf ((hj.1.2 rfl).1 q hq)) hits⟩
end X
end Go.Proofs.YtbmebfgapjhchaaGreatDoor
/- Plain mathematics: the leaves of what was read have bytes. -/
namespace Go.Proofs.YtbmebfgapjhchaaGreatDoor
open M
namespace X
def Byt (p:Part):Prop:=∀ t∈pl p,t.2≠[]
def Byts (ps:List Part):Prop:=∀ t∈pls ps,t.2≠[]
theorem Byts.app {a b:List Part} (h:Byts (a++b)):Byts a∧Byts b:=by
 unfold Byts at *
 rw [pls_append] at h
 exact ⟨fun t ht=>h t (List.mem_append_left _ ht),fun t ht=>h t (List.mem_append_right _ ht)⟩
theorem Byts.one {p:Part} (h:Byts [p]):Byt p:=fun t ht=>h t (by rw [pls,pls,List.append_nil];exact ht)
theorem Byts.head {p:Part} {ps:List Part} (h:Byts (p::ps)):Byt p∧Byts ps:=by
 have:=Byts.app (a:=[p]) (b:=ps) h
 exact ⟨this.1.one,this.2⟩
theorem Byt.kids {k:Nat} {ps:List Part} (h:Byt (.br k ps)):Byts ps:=fun t ht=>h t (by rw [pl];exact ht)
theorem Byt.leaf {k:Nat} {x:List UInt8} (h:Byt (.leaf k x)):x≠[]:=h (k,x) (by rw [pl];exact List.mem_singleton.2 rfl)
theorem file_byts (x:List UInt8):Byts (fileL (xt x)):=fun t ht=>by
 have h:pls (fileL (xt x))=xt x:=file_lvs (xt x)
 rw [h] at ht
 obtain ⟨-,-,h1⟩:=xt_fits x t ht
 intro e
 rw [e] at h1
 simp at h1
def Gd (ps:List Part):Prop:=Byts ps∧koks ps
theorem Gd.tail {p:Part} {ps:List Part} (h:Gd (p::ps)):Gd ps:=⟨h.1.head.2,by have:=h.2;rw [koks] at this;exact this.2⟩
theorem Gd.app {a b:List Part} (h:Gd (a++b)):Gd b:=by
 induction a with
 | nil=>exact h
 | cons p a ih=>exact ih h.tail
theorem Gd.leaf {k:Nat} {x:List UInt8} {ps:List Part} (h:Gd (.leaf k x::ps)):0<x.length:=by
 have:=h.1.head.1.leaf
 cases x with
 | nil=>exact absurd rfl this
 | cons a x=>simp
theorem Gd.br {k:Nat} {qs ps:List Part} (h:Gd (.br k qs::ps)):k≠0∧Gd qs:=by
 have h2:=h.2
 rw [koks,kok] at h2
 exact ⟨h2.1.1,h.1.head.1.kids,h2.1.2⟩
end X
end Go.Proofs.YtbmebfgapjhchaaGreatDoor
/- Package syntax: rows of nodes in memory. -/
namespace Go.Proofs.YtbmebfgapjhchaaGreatDoor
open Go.RowKit
open M
namespace X
def nk:Part→Nat
 | .leaf _ _=>0
 | .miss _=>1
 | .br k _=>k
def ntk:Part→Nat
 | .leaf k _=>k
 | _=>0
def ntx:Part→List UInt8
 | .leaf _ x=>x
 | .miss m=>m
 | .br _ _=>[]
def nln:Part→Nat
 | .leaf _ x=>x.length
 | _=>0
def kids:Part→List Part
 | .br _ ps=>ps
 | _=>[]
end X
structure NdS (w:World) (D:Nat→Prop) (v:Value) (ps:List X.Part):Prop where
 ex:∃ (ao:Option Addr) (cap:Nat) (c0 c1 c2 c3:Nat→Value),v=.slice ao ps.length cap∧ps.length≤cap∧cap≤maxLen∧(∀ j,j<ps.length→∃ g o,ao=some ⟨g,o,none⟩∧D g∧w.cell? ⟨g,o+j*4,none⟩=some (c0 j)∧w.cell? ⟨g,o+j*4+1,none⟩=some (c1 j)∧w.cell? ⟨g,o+j*4+2,none⟩=some (c2 j)∧w.cell? ⟨g,o+j*4+3,none⟩=some (c3 j))∧(∀ (j:Nat) (p:X.Part),ps[j]?=some p→IsN w D (.agg #[c0 j,c1 j,c2 j,c3 j]) p)
theorem NdS.keep {S:Nat→Prop} {w w':World} {D:Nat→Prop} (hk:Kp S w w') (hD:∀ q,D q→¬ S q) {v:Value} {ps:List X.Part} (h:NdS w D v ps):NdS w' D v ps:=by
 obtain ⟨ao,cap,c0,c1,c2,c3,e,h1,h2,hr,hp⟩:=h.ex
 refine ⟨ao,cap,c0,c1,c2,c3,e,h1,h2,fun j hj=>?_,fun j p hj=>(hp j p hj).kept hk (fun q hs hd=>hD q hd hs)⟩
 obtain ⟨g,o,x1,x2,y0,y1,y2,y3⟩:=hr j hj
 have hn:=hD g x2
 exact ⟨g,o,x1,x2,hk.cellv y0 hn,hk.cellv y1 hn,hk.cellv y2 hn,hk.cellv y3 hn⟩
theorem IsN.val {w:World} {D:Nat→Prop} {v:Value} {p:X.Part} (h:IsN w D v p):∃ kv,v=.agg #[.int .i64 (X.nk p),.int .i64 (X.ntk p),.string (ba (X.ntx p)),kv]∧NdS w D kv (X.kids p):=by
 cases h with
 | leaf k x=>exact ⟨_,rfl,none,0,fun _=>undef,fun _=>undef,fun _=>undef,fun _=>undef,rfl,Nat.le_refl _,by unfold maxLen;omega,fun j hj=>absurd hj (Nat.not_lt_zero _),fun j p hp=>by simp [X.kids] at hp⟩
 | miss m=>exact ⟨_,rfl,none,0,fun _=>undef,fun _=>undef,fun _=>undef,fun _=>undef,rfl,Nat.le_refl _,by unfold maxLen;omega,fun j hj=>absurd hj (Nat.not_lt_zero _),fun j p hp=>by simp [X.kids] at hp⟩
 | br k cap ao c0 c1 c2 c3 ps hc hr hp =>
  refine ⟨_,rfl,ao,cap,c0,c1,c2,c3,rfl,hc.1,hc.2,fun j hj=>?_,hp⟩
  obtain ⟨g,e1,e2,y0,y1,y2,y3⟩:=hr j hj
  exact ⟨g,0,e1,e2,by rw [Nat.zero_add];exact y0,by rw [Nat.zero_add];exact y1,by rw [Nat.zero_add];exact y2,by rw [Nat.zero_add];exact y3⟩
theorem NdS.head {w:World} {D:Nat→Prop} {v:Value} {p:X.Part} {ps:List X.Part} (h:NdS w D v (p::ps)) :
  ∃ g o cap kv,v=.slice (some ⟨g,o,none⟩) (ps.length+1) cap∧D g∧w.cell? ⟨g,o,none⟩=some (.int .i64 (X.nk p))∧w.cell? ⟨g,o+1,none⟩=some (.int .i64 (X.ntk p))∧w.cell? ⟨g,o+2,none⟩=some (.string (ba (X.ntx p)))∧w.cell? ⟨g,o+3,none⟩=some kv∧NdS w D kv (X.kids p)∧IsN w D (.agg #[.int .i64 (X.nk p),.int .i64 (X.ntk p),.string (ba (X.ntx p)),kv]) p∧ps.length+1≤cap∧cap≤maxLen ∧
   (cap≠1→NdS w D (.slice (some ⟨g,o+4,none⟩) ps.length (cap - 1)) ps)∧(cap=1→NdS w D (.slice (some ⟨g,o,none⟩) 0 0) ps∧ps=[]):=by
 obtain ⟨ao,cap,c0,c1,c2,c3,rfl,h1,h2,hr,hp⟩:=h.ex
 obtain ⟨g,o,rfl,hD,y0,y1,y2,y3⟩:=hr 0 (by rw [List.length_cons];omega)
 have hn:=hp 0 p rfl
 obtain ⟨kv,hv,hk⟩:=hn.val
 have hv':=hv
 simp only [Value.agg.injEq] at hv
 have e0:c0 0=.int .i64 (X.nk p):=Option.some.inj (congrArg (fun a:Array Value=>a[0]?) hv)
 have e1:c1 0=.int .i64 (X.ntk p):=Option.some.inj (congrArg (fun a:Array Value=>a[1]?) hv)
 have e2:c2 0=.string (ba (X.ntx p)):=Option.some.inj (congrArg (fun a:Array Value=>a[2]?) hv)
 have e3:c3 0=kv:=Option.some.inj (congrArg (fun a:Array Value=>a[3]?) hv)
 rw [hv'] at hn
 simp only [Nat.zero_mul,Nat.add_zero,e0,e1,e2,e3] at y0 y1 y2 y3
 rw [List.length_cons] at h1
 refine ⟨g,o,cap,kv,by rw [List.length_cons],hD,y0,y1,y2,y3,hk,hn,h1,h2,fun _=>?_,fun e=>?_⟩
 ·refine ⟨_,_,fun j=>c0 (j+1),fun j=>c1 (j+1),fun j=>c2 (j+1),fun j=>c3 (j+1),rfl,by omega,by omega,fun j hj=>?_,fun j q hq=>hp (j+1) q (by rw [List.getElem?_cons_succ];exact hq)⟩
  obtain ⟨g',o',e,-,z0,z1,z2,z3⟩:=hr (j+1) (by rw [List.length_cons];omega)
  cases e
  have a0:o+4+j*4=o+(j+1)*4:=by omega
  exact ⟨g,o+4,rfl,hD,by rw [a0];exact z0,by rw [a0];exact z1,by rw [a0];exact z2,by rw [a0];exact z3⟩
 ·have hps:ps=[]:=List.length_eq_zero_iff.1 (by omega)
  subst hps
  exact ⟨⟨_,0,fun _=>undef,fun _=>undef,fun _=>undef,fun _=>undef,rfl,Nat.le_refl _,by omega,fun j hj=>absurd hj (Nat.not_lt_zero _),fun j q hq=>by simp at hq⟩,rfl⟩
end Go.Proofs.YtbmebfgapjhchaaGreatDoor
/- Package syntax: what is quiet. -/
namespace Go.Proofs.YtbmebfgapjhchaaGreatDoor
open Go.RowKit
open M
set_option maxRecDepth 100000 in
set_option maxHeartbeats 1000000 in
theorem syQuiet_any (a1 a2:Nat) (x:ByteArray) (a4:Option Addr) (a5 a6:Nat) (w:World) :
  Calls Tryz.prog 68 #[.agg #[.int .i64 a1,.int .i64 a2,.string x,.slice a4 a5 a6]] w fun e w'=>e=.returned (.bool (a1==0&&(a2==1||a2==2)))∧Below w.heap.size w w':=by
 have kA:Below w.heap.size w (w.alloc (.cells #[.int .i64 a1,.int .i64 a2,.string x,.slice a4 a5 a6] 120)):=(Below.refl _ w).alloc (Nat.le_refl _) _
 have HKA:=hide kA
 clear kA
 by_cases h0:a1=0
 ·subst h0
  by_cases h1:a2=1
  ·subst h1
   go_enter Tryz.func68,Tryz.ntmps68
   go_wp2_with fail
   go_ret
   exact ⟨rfl,HKA.out⟩
  ·have j1:((a2:Int)==1)=false:=by simp;omega
   have k1:(a2==1)=false:=by simp;omega
   by_cases h2:a2=2
   ·subst h2
    go_enter Tryz.func68,Tryz.ntmps68
    go_wp2_with fail
    go_ret
    exact ⟨rfl,HKA.out⟩
   ·have j2:((a2:Int)==2)=false:=by simp;omega
    have k2:(a2==2)=false:=by simp;omega
    rw [k1,k2]
    go_enter Tryz.func68,Tryz.ntmps68
    go_wp2_with fail
    go_ret
    exact ⟨rfl,HKA.out⟩
 ·have j0:((a1:Int)==0)=false:=by simp;omega
  have k0:(a1==0)=false:=by simp;omega
  rw [k0]
  go_enter Tryz.func68,Tryz.ntmps68
  go_wp2_with fail
  go_ret
  exact ⟨rfl,HKA.out⟩
theorem lq_eq (p:X.Part):(X.nk p==0&&(X.ntk p==1||X.ntk p==2))=X.lq p:=by
 cases p with
 | leaf k x=>rfl
 | miss m=>rfl
 | br k ps=>show ((k==0)&&false)=false;rw [Bool.and_false]
end Go.Proofs.YtbmebfgapjhchaaGreatDoor
/- Plain mathematics: what names stand for. -/
namespace Go.Proofs.YtbmebfgapjhchaaGreatDoor
open M
namespace X
structure U where
 f:Nat
 i:Nat
 s:Nat
 tf:Int
 tt:Int
 e:Nat
deriving DecidableEq
abbrev An:=Int × Int × Nat
def tellU (f:Nat) (n:Nm) (s:Nat) (a:An):List U:=if n.1=[] then [] else [⟨f,n.2,s,a.1,a.2.1,a.2.2⟩]
def ownU (f:Nat) (n:Nm) (s e:Nat):List U:=tellU f n s (f,n.2,e)
def parU (f:Nat):List Nm→List Nm→List U
 | _,[]=>[]
 | seen,n::ns=>ownU f n 1 (if seen.any (fun m=>m.1==n.1) then 5 else 0)++parU f (seen++[n]) ns
def first (l:List Nm) (x:List UInt8):Option Nat:=(l.find? (fun m=>m.1==x)).map (·.2)
def sight:List (List Nm)→List UInt8→Option Nat
 | [],_=>none
 | b::bs,x=>match first b x with|some i=>some i|none=>sight bs x
mutual
def exU (f:Nat) (top:List UInt8→An):List (List Nm)→Ex→List U
 | _,.lit _ _=>[]
 | _,.hole _=>[]
 | _,.missing=>[]
 | sc,.var n=>tellU f n 6 (match sight sc n.1 with|some i=>(f,i,0)|none=>top n.1)
 | sc,.lett n v b=>ownU f n 2 0++(exU f top sc v++exU f top ([n]::sc) b)
 | sc,.ite a b c=>exU f top sc a++(exU f top sc b++exU f top sc c)
 | sc,.fn ns b=>parU f [] ns++exU f top (ns::sc) b
 | sc,.bin l _ r=>exU f top sc l++exU f top sc r
 | sc,.call g l=>exU f top sc g++exUs f top sc l
 | sc,.list l=>exUs f top sc l
 | sc,.group e=>exU f top sc e
def exUs (f:Nat) (top:List UInt8→An):List (List Nm)→List Ex→List U
 | _,[]=>[]
 | sc,e::l=>exU f top sc e++exUs f top sc l
end
def called:It→Nm
 | .use _ _ n gs a=>if gs then a else n
 | .dfn _ n _ _=>n
def shown:It→Bool
 | .use p _ _ _ _=>p
 | .dfn p _ _ _=>p
def topI (l:List It) (x:List UInt8):Option Nat:=if x=[] then none else l.findIdx? (fun it=>(called it).1==x)
abbrev Fl:=List UInt8 × List It
def modI (fs:List Fl) (x:List UInt8):Option Nat:=if x=[] then none else fs.findIdx? (fun f=>f.1==x)
def itemsOf (fs:List Fl) (f:Nat):List It:=(fs.getD f ([],[])).2
def ansI (fs:List Fl):Nat→Nat→Nat→An
 | left,f,k=>match (itemsOf fs f)[k]? with
  | none=>(-1,-1,4)
  | some (.dfn _ n _ _)=>(f,n.2,0)
  | some (.use _ m n _ _)=>match modI fs m.1 with
   | none=>(-1,-1,4)
   | some f'=>match topI (itemsOf fs f') n.1 with
    | none=>(-1,-1,4)
    | some k'=>match (itemsOf fs f')[k']? with
     | none=>(-1,-1,4)
     | some it=>if shown it=false∧f'≠f then (-1,-1,6) else
      match left with
      | 0=>match it with
       | .dfn _ d _ _=>(f',d.2,0)
       | .use _ _ _ _ _=>(-1,-1,7)
      | left+1=>ansI fs left f' k'
def usesN (fs:List Fl):Nat:=(fs.map fun f=>(f.2.filter fun it=>match it with|.use _ _ _ _ _=>true|_=>false).length).sum
def topA (fs:List Fl) (f:Nat) (x:List UInt8):An:=match topI (itemsOf fs f) x with
 | none=>(-1,-1,4)
 | some k=>((ansI fs (usesN fs) f k).1,(ansI fs (usesN fs) f k).2.1,0)
def twiceE (l:List It) (k:Nat) (x:List UInt8):Nat:=if x=[]∨topI l x=some k then 0 else 5
def itU (fs:List Fl) (f k:Nat):It→List U
 | .use _ m n gs a =>
  let an:=ansI fs (usesN fs) f k
  let tw:=twiceE (itemsOf fs f) k (if gs then a else n).1
  tellU f m 3 (match modI fs m.1 with|some f'=>(f',-1,0)|none=>(-1,-1,4)) ++
  (tellU f n 4 (an.1,an.2.1,if an.2.2=0∧gs=false then tw else an.2.2)++tellU f a 5 (an.1,an.2.1,tw))
 | .dfn _ n ps b=>ownU f n 0 (twiceE (itemsOf fs f) k n.1)++(parU f [] (ps.getD [])++exU f (topA fs f) (match ps with|some ns=>[ns]|none=>[]) b)
def itsU (fs:List Fl) (f:Nat):Nat→List It→List U
 | _,[]=>[]
 | k,it::l=>itU fs f k it++itsU fs f (k+1) l
def allU (fs:List Fl):List U:=(List.range fs.length).flatMap fun f=>itsU fs f 0 (itemsOf fs f)
/-! The places at which names stand. -/
def Between (lo hi:Nat) (l:List U):Prop:=l.Pairwise (fun a b=>a.i<b.i)∧∀ u∈l,lo≤u.i∧u.i<hi
theorem Between.nil {lo hi:Nat}:Between lo hi []:=⟨List.Pairwise.nil,fun _ h=>by cases h⟩
theorem Between.app {lo mi hi:Nat} {a b:List U} (h1:Between lo mi a) (h2:Between mi hi b) (hl:lo≤mi) (hh:mi≤hi):Between lo hi (a++b):=by
 refine ⟨List.pairwise_append.2 ⟨h1.1,h2.1,fun x hx y hy=>?_⟩,fun u hu=>?_⟩
 ·have:=h1.2 x hx
  have:=h2.2 y hy
  omega
 ·rcases List.mem_append.1 hu with g|g
  ·have:=h1.2 u g;omega
  ·have:=h2.2 u g;omega
theorem Between.wide {lo hi lo' hi':Nat} {a:List U} (h:Between lo hi a) (h1:lo'≤lo) (h2:hi≤hi'):Between lo' hi' a:=⟨h.1,fun u hu=>by have:=h.2 u hu;omega⟩
theorem tellU_btw {f:Nat} {n:Nm} {s:Nat} {a:An} {lo hi:Nat} (h:n.1≠[]→lo≤n.2∧n.2<hi):Between lo hi (tellU f n s a):=by
 unfold tellU
 split
 ·exact .nil
 ·next h0=>exact ⟨List.pairwise_singleton _ _,fun u hu=>by obtain rfl:=List.mem_singleton.1 hu;exact h h0⟩
theorem nmp_at {ps:List Part} {i:Nat} {nm:Nm} (h:Nmp ps i nm):nm.1≠[]→i≤nm.2∧nm.2<i+pz ps:=by
 cases h with
 | name _ x qs _ h =>
  intro hx
  have e:pz ps=pz qs+x.length:=by
   rw [h.eq,pz_app]
   unfold pz
   rw [psb,pb,psb,List.append_nil]
  have:x.length≠0:=fun e0=>hx (List.length_eq_zero_iff.1 e0)
  show i≤i+pz qs∧i+pz qs<i+pz ps
  omega
 | miss _=>intro hx;exact absurd rfl hx
theorem parU_btw {f:Nat} {ps:List Part} {i:Nat} {ns:List Nm} (h:Nms ps i ns):∀ seen,Between i (i+pz ps) (parU f seen ns):=by
 induction h with
 | nil i=>intro _;exact .nil
 | name x ps i ns h ih =>
  intro seen
  rw [parU,pz_cons,pz_leaf]
  refine Between.app (mi:=i+x.length) (tellU_btw fun hx=>?_) ((ih _).wide (Nat.le_refl _) (by omega)) (by omega) (by omega)
  have:x.length≠0:=fun e0=>hx (List.length_eq_zero_iff.1 e0)
  exact ⟨Nat.le_refl _,by show i<_;omega⟩
 | leaf k x ps i ns hk h ih =>
  intro seen
  rw [pz_cons,pz_leaf]
  exact (ih seen).wide (by omega) (by omega)
 | lack ps i ns h ih =>
  intro seen
  rw [parU,pz_cons]
  have:pz [.miss sName]=0:=rfl
  refine Between.app (mi:=i) (tellU_btw fun hx=>absurd rfl hx) ((ih _).wide (Nat.le_refl _) (by omega)) (Nat.le_refl _) (by omega)
 | miss m ps i ns hm h ih =>
  intro seen
  rw [pz_cons]
  have:pz [.miss m]=0:=rfl
  exact (ih seen).wide (by omega) (by omega)
theorem pssz_one (p:Part):pssz [p]=psz p:=by rw [pssz,pssz,Nat.add_zero]
theorem pz_tk1 {ps:List Part} {k:Nat} {x:List UInt8} {qs:List Part} (h:Tk1 ps k x qs):pz ps=pz qs+x.length:=by
 rw [h.eq,pz_app,pz_leaf]
theorem exU_btw (f:Nat) (top:List UInt8→An):∀ n:Nat,(∀ (p:Part) (i:Nat) (e:Ex),psz p≤n→Rd p i e→∀ sc,Between i (i+pz [p]) (exU f top sc e))∧(∀ (ps:List Part) (i:Nat) (es:List Ex),pssz ps≤n→Rds ps i es→∀ sc,Between i (i+pz ps) (exUs f top sc es)):=by
 intro n
 induction n with
 | zero =>
  refine ⟨fun p i e h=>?_,fun ps i es h hr sc=>?_⟩
  ·have:=psz_pos p;omega
  ·cases ps with
   | nil=>cases hr;rw [exUs];exact .nil
   | cons p ps=>rw [pssz] at h;have:=psz_pos p;omega
 | succ n ih =>
  have hE:∀ (p:Part) (i:Nat) (e:Ex),psz p≤n+1→Rd p i e→∀ sc,Between i (i+pz [p]) (exU f top sc e):=by
   intro p i e hn hr sc
   cases hr with
   | missing _=>rw [exU];exact .nil
   | lit k t x ps qs _ hk h=>rw [exU];exact .nil
   | hole t x ps qs _ h=>rw [exU];exact .nil
   | var x ps qs _ h =>
    rw [exU,pz_br,pz_tk1 h]
    refine tellU_btw fun hx=>?_
    have:x.length≠0:=fun e0=>hx (List.length_eq_zero_iff.1 e0)
    show i≤i+pz qs∧i+pz qs<_
    omega
   | lett t1 n1 t2 t3 p1 p2 _ nm e1 e2 h1 hn1 h2 hv h3 hb =>
    rw [psz,pssz_append,pssz_append,pssz_append,pssz_append,pssz_append,pssz_one,pssz_one] at hn
    rw [exU,pz_br,pz_app,pz_app,pz_app,pz_app,pz_app]
    have b1:=ih.1 p1 _ e1 (by omega) hv sc
    have b2:=ih.1 p2 _ e2 (by omega) hb ([nm]::sc)
    refine Between.app (mi:=i+pz t1+pz n1) ((tellU_btw (nmp_at hn1)).wide (by omega) (by omega)) ?_ (by omega) (by omega)
    refine Between.app (mi:=i+pz t1+pz n1+pz t2+pz [p1]) (b1.wide (by omega) (by omega)) (b2.wide (by omega) (by omega)) (by omega) (by omega)
   | ite ps _ a b c h =>
    rw [psz] at hn
    rw [exU,pz_br]
    have:=ih.2 ps i [a,b,c] (by omega) h sc
    rw [exUs,exUs,exUs,exUs,List.append_nil] at this
    exact this
   | fn t1 qs t2 p _ ns e h1 hns h2 hb =>
    rw [psz,pssz_append,pssz_append,pssz_append,pssz_one,pssz_one] at hn
    rw [exU,pz_br,pz_app,pz_app,pz_app,pz_br]
    have b1:=parU_btw (f:=f) hns []
    have b2:=ih.1 p _ e (by omega) hb (ns::sc)
    exact Between.app (mi:=i+pz t1+pz qs) (b1.wide (by omega) (by omega)) (b2.wide (by omega) (by omega)) (by omega) (by omega)
   | bin p1 p2 t qs k x _ e1 e2 hl h hr2 =>
    rw [psz,pssz_append,pssz_append,pssz_one,pssz_one] at hn
    rw [exU,pz_br,pz_app,pz_app]
    have b1:=ih.1 p1 _ e1 (by omega) hl sc
    have b2:=ih.1 p2 _ e2 (by omega) hr2 sc
    exact Between.app (mi:=i+pz [p1]) b1 (b2.wide (by omega) (by omega)) (by omega) (by omega)
   | call p gs _ e es hc ha =>
    rw [psz,pssz_append,pssz_one,pssz_one,psz] at hn
    rw [exU,pz_br,pz_app,pz_br]
    have b1:=ih.1 p _ e (by omega) hc sc
    have b2:=ih.2 gs _ es (by omega) ha sc
    exact Between.app (mi:=i+pz [p]) b1 (b2.wide (by omega) (by omega)) (by omega) (by omega)
   | list ps _ es h =>
    rw [psz] at hn
    rw [exU,pz_br]
    exact ih.2 ps i es (by omega) h sc
   | group ps _ e h =>
    rw [psz] at hn
    rw [exU,pz_br]
    have:=ih.2 ps i [e] (by omega) h sc
    rw [exUs,exUs,List.append_nil] at this
    exact this
  refine ⟨hE,fun ps i es hn hr sc=>?_⟩
  induction ps generalizing i es with
  | nil=>cases hr;rw [exUs];exact .nil
  | cons q ps ihp =>
   rw [pssz] at hn
   have hq:=psz_pos q
   cases hr with
   | leaf k x _ _ _ h =>
    rw [pz_cons,pz_leaf]
    exact (ihp (i+x.length) es (by omega) h).wide (by omega) (by omega)
   | miss m _ _ _ hm h =>
    rw [pz_cons]
    have:pz [.miss m]=0:=rfl
    exact (ihp i es (by omega) h).wide (by omega) (by omega)
   | cons _ _ _ e es hp h =>
    rw [exUs,pz_cons]
    exact Between.app (mi:=i+pz [q]) (hE q i e (by omega) hp sc) ((ihp (i+pz [q]) es (by omega) h).wide (Nat.le_refl _) (by omega)) (by omega) (by omega)
end X
end Go.Proofs.YtbmebfgapjhchaaGreatDoor
