/- Plain mathematics: readings that take away;loops with enough rounds. -/
import Derived.Test.YtbmebfgapjhchaaGreatDoorXf
namespace Go.Proofs.YtbmebfgapjhchaaGreatDoor
open M
namespace X
def Shr (f:R):Prop:=∀ ts,∃ n,(f ts).2=ts.drop n
theorem Shr.le {f:R} (h:Shr f) (ts:List Tok):(f ts).2.length≤ts.length:=by
 obtain ⟨n,e⟩:=h ts;rw [e,List.length_drop];omega
theorem Shr.good {f:R} (h:Shr f) {ts:List Tok} (hg:Good ts):Good (f ts).2:=by
 obtain ⟨n,e⟩:=h ts;rw [e];exact fun t ht=>hg t ((List.drop_sublist _ _).subset ht)
theorem Shr.nil:Shr nilR:=fun _=>⟨0,rfl⟩
theorem Shr.andThen {f g:R} (hf:Shr f) (hg:Shr g):Shr (andThen f g):=by
 intro ts
 obtain ⟨n,e⟩:=hf ts
 obtain ⟨m,e'⟩:=hg (f ts).2
 exact ⟨n+m,by show (g (f ts).2).2=_;rw [e',e,List.drop_drop]⟩
theorem Shr.node {f:R} (hf:Shr f) (k:Nat):Shr (node k f):=hf
theorem Shr.ite {f g:R} {c:List Tok→Bool} (hf:Shr f) (hg:Shr g):Shr (fun ts=>if c ts then f ts else g ts):=by
 intro ts
 show ∃ n,(if c ts then f ts else g ts).2=_
 split
 ·exact hf ts
 ·exact hg ts
theorem Shr.miss (m:List UInt8):Shr (fun ts=>([.miss m],ts)):=fun _=>⟨0,rfl⟩
theorem dropWhile_dropN (p:Tok→Bool) (l:List Tok):∃ n,l.dropWhile p=l.drop n:=⟨_,dropWhile_drop p l⟩
theorem Shr.take:Shr take:=by
 intro ts
 obtain ⟨n,e⟩:=dropWhile_dropN quiet ts
 exact ⟨n+1,by show (ts.dropWhile quiet).drop 1=_;rw [e,List.drop_drop]⟩
theorem take_lt {ts:List Tok} (h:nxt ts≠none):(take ts).2.length<ts.length:=by
 have h1:(ts.dropWhile quiet).length≤ts.length:=(List.dropWhile_sublist _).length_le
 have h2:0<(ts.dropWhile quiet).length:=by
  rcases Nat.eq_zero_or_pos (ts.dropWhile quiet).length with g|g
  ·exfalso;apply h;unfold nxt;rw [List.length_eq_zero_iff.1 g];rfl
  ·exact g
 show ((ts.dropWhile quiet).drop 1).length<_
 rw [List.length_drop];omega
theorem Shr.want (x:List UInt8):Shr (want x):=Shr.ite (c:=isN x) Shr.take (Shr.miss x)
theorem Shr.wname:Shr wname:=Shr.ite (c:=fun ts=>kindN ts==3) Shr.take (Shr.miss sName)
theorem isN_next {x:List UInt8} {ts:List Tok} (h:isN x ts=true):nxt ts≠none:=by
 intro e;unfold isN at h;rw [e] at h;cases h
theorem kindN_next {k:Nat} {ts:List Tok} (hk:k≠0) (h:(kindN ts==k)=true):nxt ts≠none:=by
 intro e;unfold kindN at h;rw [e] at h;simp at h;omega
theorem wantP_sign {x:List UInt8} {ts:List Tok} (hg:Good ts) (hs:x∈words∨x∈signs):wantP x ts=want x ts:=by
 unfold wantP want;rw [pN_sign hg hs]
theorem wantP_name {ts:List Tok} (hg:Good ts):wantP sName ts=wname ts:=by
 unfold wantP wname;rw [pN_name hg]
theorem wantsP_one (x:List UInt8):wantsP [x]=wantP x:=by rw [wantsP,wantsP,andThen_nil]
theorem sevGo_fuel {one:R} (hO:Shr one):∀ (n:Nat) (ts:List Tok),ts.length≤n→sevGo one n ts=sevGo one ts.length ts:=by
 intro n
 induction n using Nat.strongRecOn with
 | _ n ih =>
  intro ts h
  rcases Nat.lt_or_ge ts.length n with hlt|hge
  ·cases n with
   | zero=>omega
   | succ n =>
    cases hm:ts.length with
    | zero =>
     have h0:ts=[]:=List.length_eq_zero_iff.1 hm
     subst h0;rfl
    | succ m =>
     unfold sevGo
     by_cases hc:isN [44] ts=true
     ·rw [if_pos hc,if_pos hc]
      have hl:=take_lt (isN_next hc)
      have hl2:=hO.le (take ts).2
      have e1:=ih n (by omega) (one (take ts).2).2 (by omega)
      have e2:=ih m (by omega) (one (take ts).2).2 (by omega)
      show (_,_)=(_,_)
      simp only [X.andThen]
      rw [e1,e2]
     ·rw [if_neg hc,if_neg hc]
  ·rw [show n=ts.length by omega]
def sevL (one:R):R:=fun ts=>sevGo one ts.length ts
theorem sevL_yes {one:R} (hO:Shr one) {ts:List Tok} (h:isN [44] ts=true):sevL one ts=andThen take (andThen one (sevL one)) ts:=by
 have hl:=take_lt (isN_next h)
 have hl2:=hO.le (take ts).2
 unfold sevL
 obtain ⟨m,hm⟩:∃ m,ts.length=m+1:=⟨ts.length - 1,by omega⟩
 rw [hm]
 conv=>lhs;unfold sevGo
 rw [if_pos h]
 simp only [X.andThen]
 rw [sevGo_fuel hO m _ (by omega)]
theorem sevL_no {one:R} {ts:List Tok} (h:isN [44] ts=false):sevL one ts=([],ts):=by
 unfold sevL
 cases ts.length with
 | zero=>rfl
 | succ m=>unfold sevGo;rw [if_neg (by rw [h];simp)]
theorem Shr.sevGo {one:R} (h:Shr one):∀ n,Shr (sevGo one n)
 | 0=>Shr.nil
 | n+1=>Shr.ite (c:=isN [44]) (Shr.take.andThen (h.andThen (Shr.sevGo h n))) Shr.nil
theorem Shr.sevL {one:R} (h:Shr one):Shr (sevL one):=fun ts=>Shr.sevGo h ts.length ts
theorem several_eq (one:R) (e:List UInt8) (ts:List Tok):several one e ts=if isN e ts then want e ts else andThen one (andThen (sevL one) (want e)) ts:=rfl
theorem Shr.several {one:R} (h:Shr one) (e:List UInt8):Shr (several one e):=Shr.ite (c:=isN e) (Shr.want e) (h.andThen (h.sevL.andThen (Shr.want e)))
theorem Shr.params:Shr params:=((Shr.want _).andThen (Shr.wname.several _)).node 6
theorem rowGo_fuel {one:R} {ok:List Tok→Bool} (hO:Shr one) (hok:∀ ts,ok ts=true→nxt ts≠none):∀ (n:Nat) (p:List Part) (ts:List Tok),ts.length≤n→rowGo one ok n p ts=rowGo one ok ts.length p ts:=by
 intro n
 induction n using Nat.strongRecOn with
 | _ n ih =>
  intro p ts h
  rcases Nat.lt_or_ge ts.length n with hlt|hge
  ·cases n with
   | zero=>omega
   | succ n =>
    by_cases hc:ok ts=true
    ·have hl:=take_lt (hok ts hc)
     have hl2:=hO.le (take ts).2
     obtain ⟨m,hm⟩:∃ m,ts.length=m+1:=⟨ts.length - 1,by omega⟩
     rw [hm]
     unfold rowGo
     rw [if_pos hc,if_pos hc,ih n (by omega) _ _ (by show (one (take ts).2).2.length≤_;omega),ih m (by omega) _ _ (by show (one (take ts).2).2.length≤_;omega)]
    ·have e:∀ m,rowGo one ok (m+1) p ts=(p,ts):=fun m=>by unfold rowGo;rw [if_neg hc]
     rw [e n]
     cases hm:ts.length with
     | zero=>rfl
     | succ m=>rw [e m]
  ·rw [show n=ts.length by omega]
def rowL (one:R) (ok:List Tok→Bool) (p:List Part):R:=fun ts=>rowGo one ok ts.length p ts
theorem rowL_yes {one:R} {ok:List Tok→Bool} (hO:Shr one) (hok:∀ ts,ok ts=true→nxt ts≠none) {p:List Part} {ts:List Tok} (h:ok ts=true):rowL one ok p ts=rowL one ok [.br 10 (p++(andThen take one ts).1)] (andThen take one ts).2:=by
 have hl:=take_lt (hok ts h)
 have hl2:=hO.le (take ts).2
 unfold rowL
 obtain ⟨m,hm⟩:∃ m,ts.length=m+1:=⟨ts.length - 1,by omega⟩
 rw [hm]
 conv=>lhs;unfold rowGo
 rw [if_pos h,rowGo_fuel hO hok m _ _ (by show (one (take ts).2).2.length≤_;omega)]
theorem rowL_no {one:R} {ok:List Tok→Bool} {p:List Part} {ts:List Tok} (h:ok ts=false):rowL one ok p ts=(p,ts):=by
 unfold rowL
 cases ts.length with
 | zero=>rfl
 | succ m=>unfold rowGo;rw [if_neg (by rw [h];simp)]
theorem row_eq (one:R) (ok:List Tok→Bool) (ts:List Tok):row one ok ts=rowL one ok (one ts).1 (one ts).2:=rfl
theorem Shr.rowGo {one:R} {ok:List Tok→Bool} (h:Shr one):∀ (n:Nat) (p:List Part),Shr (rowGo one ok n p)
 | 0,_=>fun _=>⟨0,rfl⟩
 | n+1,p=>by
  intro ts
  unfold X.rowGo
  split
  ·obtain ⟨m,e⟩:=(Shr.take.andThen h) ts
   obtain ⟨m',e'⟩:=Shr.rowGo (ok:=ok) h n [.br 10 (p++(X.andThen X.take one ts).1)] (X.andThen X.take one ts).2
   exact ⟨m+m',by rw [e',e,List.drop_drop]⟩
  ·exact ⟨0,rfl⟩
theorem Shr.row {one:R} {ok:List Tok→Bool} (h:Shr one):Shr (row one ok):=by
 intro ts
 obtain ⟨m,e⟩:=h ts
 obtain ⟨m',e'⟩:=Shr.rowGo (ok:=ok) h (one ts).2.length (one ts).1 (one ts).2
 exact ⟨m+m',by show (X.rowGo _ _ _ _ _).2=_;rw [e',e,List.drop_drop]⟩
theorem Shr.args {E:R} (h:Shr E):Shr (args E):=(Shr.take.andThen (h.several _)).node 12
theorem args_lt {E:R} (h:Shr E) {ts:List Tok} (hn:nxt ts≠none):(args E ts).2.length<ts.length:=by
 have h1:=take_lt hn
 have h2:=(h.several [41]).le (take ts).2
 show (several E [41] (take ts).2).2.length<_
 omega
theorem callGo_fuel {E:R} (hE:Shr E):∀ (n:Nat) (p:List Part) (ts:List Tok),ts.length≤n→callGo E n p ts=callGo E ts.length p ts:=by
 intro n
 induction n using Nat.strongRecOn with
 | _ n ih =>
  intro p ts h
  rcases Nat.lt_or_ge ts.length n with hlt|hge
  ·cases n with
   | zero=>omega
   | succ n =>
    by_cases hc:isN [40] ts=true
    ·have hl:=args_lt hE (isN_next hc)
     obtain ⟨m,hm⟩:∃ m,ts.length=m+1:=⟨ts.length - 1,by omega⟩
     rw [hm]
     unfold callGo
     rw [if_pos hc,if_pos hc,ih n (by omega) _ _ (by omega),ih m (by omega) _ _ (by omega)]
    ·have e:∀ m,callGo E (m+1) p ts=(p,ts):=fun m=>by unfold callGo;rw [if_neg hc]
     rw [e n]
     cases hm:ts.length with
     | zero=>rfl
     | succ m=>rw [e m]
  ·rw [show n=ts.length by omega]
def callL (E:R) (p:List Part):R:=fun ts=>callGo E ts.length p ts
theorem callL_yes {E:R} (hE:Shr E) {p:List Part} {ts:List Tok} (h:isN [40] ts=true):callL E p ts=callL E [.br 11 (p++(args E ts).1)] (args E ts).2:=by
 have hl:=args_lt hE (isN_next h)
 unfold callL
 obtain ⟨m,hm⟩:∃ m,ts.length=m+1:=⟨ts.length - 1,by omega⟩
 rw [hm]
 conv=>lhs;unfold callGo
 rw [if_pos h,callGo_fuel hE m _ _ (by omega)]
theorem callL_no {E:R} {p:List Part} {ts:List Tok} (h:isN [40] ts=false):callL E p ts=(p,ts):=by
 unfold callL
 cases ts.length with
 | zero=>rfl
 | succ m=>unfold callGo;rw [if_neg (by rw [h];simp)]
theorem Shr.callGo {E:R} (h:Shr E):∀ (n:Nat) (p:List Part),Shr (callGo E n p)
 | 0,_=>fun _=>⟨0,rfl⟩
 | n+1,p=>by
  intro ts
  unfold X.callGo
  split
  ·obtain ⟨m,e⟩:=h.args ts
   obtain ⟨m',e'⟩:=Shr.callGo h n [.br 11 (p++(X.args E ts).1)] (X.args E ts).2
   exact ⟨m+m',by rw [e',e,List.drop_drop]⟩
  ·exact ⟨0,rfl⟩
theorem Shr.part {E:R} (h:Shr E):Shr (part E) :=
 Shr.ite (c:=fun ts=>kindN ts==5) (Shr.take.node _) <|
 Shr.ite (c:=fun ts=>kindN ts==6) (Shr.take.node _) <|
 Shr.ite (c:=fun ts=>isN [116,114,117,101] ts||isN [102,97,108,115,101] ts) (Shr.take.node _) <|
 Shr.ite (c:=fun ts=>kindN ts==3) (Shr.take.node _) <|
 Shr.ite (c:=isN [63]) (Shr.take.node _) <|
 Shr.ite (c:=isN [40]) ((Shr.take.andThen (h.andThen (Shr.want _))).node _) <|
 Shr.ite (c:=isN [91]) ((Shr.take.andThen (h.several _)).node _) (Shr.miss _)
theorem Shr.call {E:R} (h:Shr E):Shr (call E):=by
 intro ts
 obtain ⟨m,e⟩:=h.part ts
 obtain ⟨m',e'⟩:=Shr.callGo h (X.part E ts).2.length (X.part E ts).1 (X.part E ts).2
 exact ⟨m+m',by show (X.callGo _ _ _ _).2=_;rw [e',e,List.drop_drop]⟩
theorem Shr.product {E:R} (h:Shr E):Shr (product E):=h.call.row
theorem Shr.sum {E:R} (h:Shr E):Shr (sum E):=h.product.row
theorem Shr.comparison {E:R} (h:Shr E):Shr (comparison E):=by
 intro ts
 by_cases hc:(isN [61,61] (X.sum E ts).2||isN [60] (X.sum E ts).2)=true
 ·have e3:(X.comparison E ts).2=(X.andThen X.take (X.sum E) (X.sum E ts).2).2:=by unfold X.comparison;rw [if_pos hc]
  obtain ⟨m,e⟩:=h.sum ts
  obtain ⟨m',e'⟩:=(Shr.take.andThen h.sum) (X.sum E ts).2
  refine ⟨m+m',?_⟩
  rw [e3,e',e,List.drop_drop]
 ·have e3:X.comparison E ts=X.sum E ts:=by unfold X.comparison;rw [if_neg hc]
  rw [e3];exact h.sum ts
theorem Shr.expr:∀ n,Shr (expr n)
 | 0=>Shr.miss _
 | n+1 =>
  have h:=Shr.expr n
  Shr.ite (c:=isN [108,101,116]) ((Shr.take.andThen (Shr.wname.andThen ((Shr.want _).andThen (h.andThen ((Shr.want _).andThen h))))).node _) <|
  Shr.ite (c:=isN [105,102]) ((Shr.take.andThen (h.andThen ((Shr.want _).andThen (h.andThen ((Shr.want _).andThen h))))).node _) <|
  Shr.ite (c:=isN [102,117,110]) ((Shr.take.andThen (Shr.params.andThen ((Shr.want _).andThen h))).node _) h.comparison
end X
end Go.Proofs.YtbmebfgapjhchaaGreatDoor
/- Plain mathematics: how many parts a reading makes. -/
namespace Go.Proofs.YtbmebfgapjhchaaGreatDoor
open M
namespace X
def Cap (f:R) (c:Nat):Prop:=∀ ts,(f ts).1.length+2*(f ts).2.length≤c+2*ts.length
theorem Cap.le {f:R} {c:Nat} (h:Cap f c) (ts:List Tok):(f ts).1.length≤c+2*ts.length:=by have:=h ts;omega
theorem Cap.mono {f:R} {c d:Nat} (h:Cap f c) (hd:c≤d):Cap f d:=fun ts=>by have:=h ts;omega
theorem Cap.nil:Cap nilR 0:=fun ts=>by show 0+_≤_;simp [nilR]
theorem Cap.andThen {f g:R} {c d:Nat} (hf:Cap f c) (hg:Cap g d):Cap (andThen f g) (c+d):=by
 intro ts
 have h1:=hf ts
 have h2:=hg (f ts).2
 show ((f ts).1++(g (f ts).2).1).length+2*(g (f ts).2).2.length≤_
 rw [List.length_append];omega
theorem Cap.ite {f g:R} {c:Nat} {b:List Tok→Bool} (hf:Cap f c) (hg:Cap g c):Cap (fun ts=>if b ts then f ts else g ts) c:=by
 intro ts
 show (if b ts then f ts else g ts).1.length+2*(if b ts then f ts else g ts).2.length≤_
 split
 ·exact hf ts
 ·exact hg ts
theorem Cap.miss (m:List UInt8):Cap (fun ts=>([.miss m],ts)) 1:=fun ts=>by show 1+_≤_;simp
theorem take_len (ts:List Tok):(take ts).1.length+(take ts).2.length=ts.length:=by
 show (List.map lf (ts.takeWhile quiet++(ts.dropWhile quiet).take 1)).length+((ts.dropWhile quiet).drop 1).length=_
 have h:=congrArg List.length (List.takeWhile_append_dropWhile (p:=quiet) (l:=ts))
 rw [List.length_append] at h
 rw [List.length_map,List.length_append,List.length_take,List.length_drop];omega
theorem Cap.take:Cap take 0:=fun ts=>by have:=take_len ts;omega
theorem Cap.want (x:List UInt8):Cap (want x) 1:=Cap.ite (b:=isN x) (Cap.take.mono (by omega)) (Cap.miss x)
theorem Cap.wname:Cap wname 1:=Cap.ite (b:=fun ts=>kindN ts==3) (Cap.take.mono (by omega)) (Cap.miss sName)
theorem Cap.sevGo {one:R} (h:Cap one 1):∀ n,Cap (sevGo one n) 0
 | 0=>Cap.nil
 | n+1=>by
  intro ts
  unfold X.sevGo
  by_cases hc:isN [44] ts=true
  ·rw [if_pos hc]
   have h1:=take_lt (isN_next hc)
   have h2:=take_len ts
   have h3:=(h.andThen (Cap.sevGo h n)) (X.take ts).2
   show ((X.take ts).1++(X.andThen one (X.sevGo one n) (X.take ts).2).1).length+2*(X.andThen one (X.sevGo one n) (X.take ts).2).2.length≤_
   rw [List.length_append];omega
  ·rw [if_neg hc];simp
theorem Cap.sevL {one:R} (h:Cap one 1):Cap (sevL one) 0:=fun ts=>Cap.sevGo h ts.length ts
theorem Cap.several {one:R} (h:Cap one 1) (e:List UInt8):Cap (several one e) 2:=Cap.ite (b:=isN e) ((Cap.want e).mono (by omega)) (h.andThen (h.sevL.andThen (Cap.want e)))
def One1 (f:R):Prop:=∀ ts,∃ p,(f ts).1=[p]
theorem One1.node (f:R) (k:Nat):One1 (node k f):=fun ts=>⟨.br k (f ts).1,rfl⟩
theorem One1.miss (m:List UInt8):One1 (fun ts=>([.miss m],ts)):=fun _=>⟨_,rfl⟩
theorem One1.ite {f g:R} {b:List Tok→Bool} (hf:One1 f) (hg:One1 g):One1 (fun ts=>if b ts then f ts else g ts):=by
 intro ts
 show ∃ p,(if b ts then f ts else g ts).1=[p]
 split
 ·exact hf ts
 ·exact hg ts
theorem One1.rowGo {one:R} {ok:List Tok→Bool}:∀ (n:Nat) (p:Part) (ts:List Tok),∃ q,(rowGo one ok n [p] ts).1=[q]
 | 0,p,_=>⟨p,rfl⟩
 | n+1,p,ts=>by
  unfold X.rowGo
  split
  ·exact One1.rowGo n _ _
  ·exact ⟨p,rfl⟩
theorem One1.row {one:R} {ok:List Tok→Bool} (h:One1 one):One1 (row one ok):=by
 intro ts
 obtain ⟨p,e⟩:=h ts
 show ∃ q,(X.rowGo one ok (one ts).2.length (one ts).1 (one ts).2).1=[q]
 rw [e]
 exact One1.rowGo _ _ _
theorem One1.callGo {E:R}:∀ (n:Nat) (p:Part) (ts:List Tok),∃ q,(callGo E n [p] ts).1=[q]
 | 0,p,_=>⟨p,rfl⟩
 | n+1,p,ts=>by
  unfold X.callGo
  split
  ·exact One1.callGo n _ _
  ·exact ⟨p,rfl⟩
theorem One1.part (E:R):One1 (part E) :=
 One1.ite (b:=fun ts=>kindN ts==5) (One1.node _ _) <|
 One1.ite (b:=fun ts=>kindN ts==6) (One1.node _ _) <|
 One1.ite (b:=fun ts=>isN [116,114,117,101] ts||isN [102,97,108,115,101] ts) (One1.node _ _) <|
 One1.ite (b:=fun ts=>kindN ts==3) (One1.node _ _) <|
 One1.ite (b:=isN [63]) (One1.node _ _) <|
 One1.ite (b:=isN [40]) (One1.node _ _) <|
 One1.ite (b:=isN [91]) (One1.node _ _) (One1.miss _)
theorem One1.call (E:R):One1 (call E):=by
 intro ts
 obtain ⟨p,e⟩:=One1.part E ts
 show ∃ q,(X.callGo E (X.part E ts).2.length (X.part E ts).1 (X.part E ts).2).1=[q]
 rw [e]
 exact One1.callGo _ _ _
theorem One1.product (E:R):One1 (product E):=(One1.call E).row
theorem One1.sum (E:R):One1 (sum E):=(One1.product E).row
theorem One1.comparison (E:R):One1 (comparison E):=by
 intro ts
 by_cases hc:(isN [61,61] (X.sum E ts).2||isN [60] (X.sum E ts).2)=true
 ·unfold X.comparison;rw [if_pos hc];exact ⟨_,rfl⟩
 ·unfold X.comparison;rw [if_neg hc];exact One1.sum E ts
theorem One1.expr:∀ n,One1 (expr n)
 | 0=>One1.miss _
 | _+1=>One1.ite (b:=isN [108,101,116]) (One1.node _ _) <| One1.ite (b:=isN [105,102]) (One1.node _ _) <| One1.ite (b:=isN [102,117,110]) (One1.node _ _) (One1.comparison _)
theorem One1.cap {f:R} (h:One1 f) (hs:Shr f):Cap f 1:=by
 intro ts
 obtain ⟨p,e⟩:=h ts
 have:=hs.le ts
 rw [e];simp;omega
theorem One1.len {f:R} (h:One1 f) (ts:List Tok):(f ts).1.length=1:=by obtain ⟨p,e⟩:=h ts;rw [e];rfl
end X
end Go.Proofs.YtbmebfgapjhchaaGreatDoor
/- Several things within brackets;the names of a function. -/
namespace Go.Proofs.YtbmebfgapjhchaaGreatDoor
open Go.RowKit
open M
def atT (rb:Nat) (w:World):Nat:=match w.cell? ⟨rb,2,none⟩ with|some (.int _ a)=>a.toNat|_=>0
theorem Done.at {w w1:World} {rb:Nat} {s:ByteArray} {L:List Tk} {tv:Value} {dp B k:Nat} {rv:Value} {ps1:List X.Part} {ts1:List X.Tok} {D:Nat→Prop} (h:Done w rb s L tv dp B k rv ps1 ts1 D w1):L.length - atT rb w1=ts1.length:=by
 obtain ⟨a1,rv1,vs1,D1,g1,rfl,-⟩:=h
 obtain ⟨⟨c0,c1,c2,-⟩,-⟩:=g1.rdr.raw.facts
 have:atT rb w1=a1:=by unfold atT;rw [c2];rfl
 rw [this];unfold remT;simp
theorem Done.len {w w1:World} {rb:Nat} {s:ByteArray} {L:List Tk} {tv:Value} {dp B k:Nat} {rv:Value} {ps1:List X.Part} {ts1:List X.Tok} {D:Nat→Prop} (h:Done w rb s L tv dp B k rv ps1 ts1 D w1):ts1.length≤L.length:=by
 obtain ⟨a1,rv1,vs1,D1,g1,rfl,-⟩:=h
 unfold remT;simp
def ReadsA (fn:FuncId) (args:Nat→Nat→Array Value) (F:X.R) (ok:List X.Tok→Prop) (s:ByteArray) (L:List Tk) (dp:Nat):Prop :=
 ∀ (rb:Nat) (tv:Value) (a B k:Nat) (rv:Value) (vs:List Value) (ps:List X.Part) (D:Nat→Prop) (w:World),Wk w rb s L tv a dp B k rv vs ps D→ok (remT s L a)→ps.length+(F (remT s L a)).1.length≤1073741824 →
  Calls Tryz.prog fn (args rb B) w fun en w'=>en=.returned (.tuple #[])∧Hid (Done w rb s L tv dp B k rv (ps++(F (remT s L a)).1) (F (remT s L a)).2 D w')
theorem Done.thenA {w w1:World} {rb:Nat} {s:ByteArray} {L:List Tk} {tv:Value} {dp B k:Nat} {rv:Value} {ps1:List X.Part} {ts1:List X.Tok} {D:Nat→Prop} {fn:FuncId} {args:Nat→Nat→Array Value} {F:X.R} {ok:List X.Tok→Prop} {Q:Ending→World→Prop}
  (h:Done w rb s L tv dp B k rv ps1 ts1 D w1) (hF:ReadsA fn args F ok s L dp) (hok:ok ts1) (hl:ps1.length+(F ts1).1.length≤1073741824)
  (hQ:∀ w2,Hid (Done w rb s L tv dp B k rv (ps1++(F ts1).1) (F ts1).2 D w2)→Q (.returned (.tuple #[])) w2) :
  Calls Tryz.prog fn (args rb B) w1 Q:=by
 obtain ⟨a1,rv1,vs1,D1,g1,rfl,g3,g4,g5,g6⟩:=h
 refine (hF rb tv a1 B k rv1 vs1 ps1 D1 w1 g1 hok hl).mono ?_
 rintro e w2 ⟨rfl,H2⟩
 exact hQ w2 (Done.trans g3 g4 g5 g6 H2.out)
set_option maxRecDepth 100000 in
set_option maxHeartbeats 4000000 in
theorem name_any (s:ByteArray) (L:List Tk) (dp:Nat) (hS:TokS s L):Reads 141 X.wname (fun _=>True) s L dp:=by
 intro rb tv a B k rv vs ps D w h _ hl
 have H:=Done.start h
 have hg:=hS.rem a
 have e1:X.wantsP [X.sName] (remT s L a)=X.wname (remT s L a):=by rw [X.wantsP_one,X.wantP_name hg]
 rw [← e1] at hl ⊢
 clear h e1
 go_enter Tryz.func141,Tryz.ntmps141
 go_wp2_with fail
 refine Done.want (H.out) hS [X.sName] (by simp [X.sName]) (by simp) hl ?_
 intro w1 H1
 go_wp2_with fail
 go_end0
 exact ⟨rfl,H1⟩
set_option maxRecDepth 100000 in
set_option maxHeartbeats 4000000 in
theorem several_any (s:ByteArray) (L:List Tk) (dp:Nat) (hS:TokS s L) (fn:FuncId) (hen:∀ args w,(callFunc fn args).run Tryz.prog w=.ok (.enter fn args) w) (O:X.R) (hO:Reads fn O (fun _=>True) s L dp) (hsh:X.Shr O) (e:List UInt8) (he:e∈X.signs) :
  ReadsA 140 (fun rb B=>#[.pointer (some ⟨rb,0,none⟩),.pointer (some ⟨B,0,none⟩),.func (.func fn) #[.pointer (some ⟨rb,0,none⟩)] #[],.string (ba e)]) (X.several O e) (fun _=>True) s L dp:=by
 intro rb tv a B k rv vs ps D w h _ hl
 have H:=Done.start h
 have hg:=hS.rem a
 have hen0:e≠[]:=by rintro rfl;revert he;decide
 have HO:=hide hO
 rw [X.several_eq] at hl
 clear h hO
 have e1:[e].any (fun x=>X.pN x (remT s L a))=X.isN e (remT s L a):=by simp [X.pN_sign hg (.inr he)]
 go_enter Tryz.func140,Tryz.ntmps140
 go_wp2_with fail
 refine Done.isNext (H.out) [e] (by simp) ?_
 intro w1 H1
 rw [e1]
 clear e1 H
 cases hc:X.isN e (remT s L a) with
 | true =>
  rw [hc] at hl
  simp only [if_true] at hl
  have e2:X.wantsP [e] (remT s L a)=X.want e (remT s L a):=by rw [X.wantsP_one,X.wantP_sign hg (.inr he)]
  rw [← e2] at hl
  go_wp2_with fail
  refine Done.want (H1.out) hS [e] (by simpa using hen0) (by simp) hl ?_
  intro w2 H2
  go_wp2_with fail
  go_end0
  refine ⟨rfl,?_⟩
  rw [X.several_eq,hc,if_pos rfl,← e2]
  exact H2
 | false =>
  rw [hc] at hl
  simp only [Bool.false_eq_true,if_false] at hl
  have hlA:ps.length+((O (remT s L a)).1.length+((X.sevL O (O (remT s L a)).2).1.length+(X.want e (X.sevL O (O (remT s L a)).2).2).1.length))≤1073741824:=by
   simp only [X.andThen,List.length_append] at hl;omega
  go_wp2_with fail
  refine Done.then (H1.out) (HO.out) trivial (by omega) ?_
  intro w2 H2
  go_wp2_with fail
  go_loopw [] (fun wr=>∃ (acc:List X.Part) (ts1:List X.Tok),Hid (Done w rb s L tv dp B k rv (ps++acc) ts1 D wr)∧Hid (X.andThen O (X.sevL O) (remT s L a)=(acc++(X.sevL O ts1).1,(X.sevL O ts1).2))) (fun wr=>L.length - atT rb wr)
  case atStart=>exact ⟨_,_,H2,(rfl:_=_)⟩
  case round =>
   obtain ⟨acc,ts1,H3,HE⟩:=hrel
   have hg1:=(H3.out).good hS
   have hlB:acc.length+(X.sevL O ts1).1.length=(O (remT s L a)).1.length+(X.sevL O (O (remT s L a)).2).1.length:=by
    have:=congrArg (fun z=>z.1.length) HE.out
    simp only [X.andThen,List.length_append] at this
    omega
   have e3:[[44]].any (fun x=>X.pN x ts1)=X.isN [44] ts1:=by simp [X.pN_sign hg1 (.inr (by decide:[44]∈X.signs))]
   go_wp2_with fail
   refine Done.isNext (H3.out) [[44]] (by simp) ?_
   intro w4 H4
   rw [e3]
   cases hc2:X.isN [44] ts1 with
   | true =>
    have hs:=X.sevL_yes hsh hc2
    have hlC:(X.sevL O ts1).1.length=(X.take ts1).1.length+((O (X.take ts1).2).1.length+(X.sevL O (O (X.take ts1).2).2).1.length):=by
     rw [hs];simp only [X.andThen,List.length_append]
    go_wp2_with fail
    refine Done.then (H4.out) (take_any s L dp hS) (X.isN_next hc2) (by rw [List.length_append];omega) ?_
    intro w5 H5
    go_wp2_with fail
    refine Done.then (H5.out) (HO.out) trivial (by rw [List.length_append,List.length_append];omega) ?_
    intro w6 H6
    go_wp2_with fail
    refine ⟨⟨acc++(X.take ts1).1++(O (X.take ts1).2).1,(O (X.take ts1).2).2,?_,?_⟩,?_⟩
    ·have:ps++(acc++(X.take ts1).1++(O (X.take ts1).2).1)=ps++acc++(X.take ts1).1++(O (X.take ts1).2).1:=by simp
     rw [this];exact H6
    ·show _=_
     rw [HE.out,hs];simp [X.andThen]
    ·rw [(H6.out).at,(H3.out).at]
     have:=X.take_lt (X.isN_next hc2)
     have:=hsh.le (X.take ts1).2
     omega
   | false =>
    have hs:=X.sevL_no (one:=O) hc2
    have hx:X.andThen O (X.sevL O) (remT s L a)=(acc,ts1):=by rw [HE.out,hs];simp
    have e4:X.wantsP [e] ts1=X.want e ts1:=by rw [X.wantsP_one,X.wantP_sign hg1 (.inr he)]
    have hx1:(X.sevL O (O (remT s L a)).2).2=ts1:=congrArg Prod.snd hx
    have hx2:(O (remT s L a)).1++(X.sevL O (O (remT s L a)).2).1=acc:=congrArg Prod.fst hx
    rw [hx1] at hlA
    go_wp2_with fail
    refine Done.want (H4.out) hS [e] (by simpa using hen0) (by simp) (by rw [e4,List.length_append,← hx2,List.length_append];omega) ?_
    intro w5 H5
    go_wp2_with fail
    go_end0
    refine ⟨rfl,?_⟩
    rw [X.several_eq,hc,if_neg (by simp)]
    have e5:X.andThen O (X.andThen (X.sevL O) (X.want e)) (remT s L a)=(acc++(X.want e ts1).1,(X.want e ts1).2):=by
     rw [← X.andThen_assoc]
     show ((X.andThen O (X.sevL O) (remT s L a)).1++_,_)=_
     simp only [hx]
    rw [e5,← List.append_assoc,← e4]
    exact H5
end Go.Proofs.YtbmebfgapjhchaaGreatDoor
