/- Plain mathematics of edits as lists: spans,steps,what they make of a text,the writer of plain spans,one edit for two,two hands. -/
import Init
namespace Go.Proofs.YtbmebfgapjhchaaGreatDoor.Ed
namespace EM
abbrev By:=List UInt8
structure Sp where
 f:Nat
 t:Nat
 s:By
deriving DecidableEq
def Ok (a n:Nat):List Sp→Prop
 | []=>a≤n
 | c::L=>a≤c.f∧c.f≤c.t∧Ok c.t n L
def app (x:By) (a:Nat):List Sp→By
 | []=>x.drop a
 | c::L=>(x.drop a).take (c.f - a)++c.s++app x c.t L
theorem Ok.le {a n:Nat} {L:List Sp} (h:Ok a n L):a≤n:=by
 induction L generalizing a with
 | nil=>exact h
 | cons c L ih=>have:=ih h.2.2;have:=h.1;have:=h.2.1;omega
inductive St where
 | stay (c:Nat)
 | put (s:By)
 | drop (c:Nat)
def St.k:St→Nat|.stay _=>0|.put _=>1|.drop _=>2
def St.c:St→Nat|.stay c=>c|.put s=>s.length|.drop c=>c
def St.s:St→By|.stay _=>[]|.put s=>s|.drop _=>[]
def St.w:St→Nat|.stay c=>c|.put _=>0|.drop c=>c
def need (S:List St):Nat:=(S.map St.w).sum
def pos (S:List St):Prop:=∀ s∈S,0<s.c
def st3 (a:Nat) (c:Sp):List St:=[.stay (c.f - a),.put c.s,.drop (c.t - c.f)]
def real (S:List St):List St:=S.filter (fun s=>0<s.c)
def sts (a:Nat):List Sp→List St
 | []=>[]
 | c::L=>real (st3 a c)++sts c.t L
def run:List St→By→By
 | [],x=>x
 | .stay n::r,x=>x.take n++run r (x.drop n)
 | .put s::r,x=>s++run r x
 | .drop n::r,x=>run r (x.drop n)
theorem run_zero (s:St) (S:List St) (x:By) (h:s.c=0):run (s::S) x=run S x:=by
 cases s with
 | stay n=>simp [St.c] at h;subst h;simp [run]
 | put t=>simp [St.c] at h;subst h;simp [run]
 | drop n=>simp [St.c] at h;subst h;simp [run]
theorem run_real (S T:List St) (x:By):run (real S++T) x=run (S++T) x:=by
 induction S generalizing x with
 | nil=>rfl
 | cons s S ih =>
  unfold real at ih ⊢
  by_cases h:0<s.c
  ·rw [List.filter_cons_of_pos (by simpa using h)]
   cases s<;>simp [run,ih]
  ·rw [List.filter_cons_of_neg (by simpa using h),List.cons_append,run_zero _ _ _ (by omega),ih]
theorem need_real (S:List St):need (real S)=need S:=by
 induction S with
 | nil=>rfl
 | cons s S ih =>
  unfold real at ih ⊢
  by_cases h:0<s.c
  ·rw [List.filter_cons_of_pos (by simpa using h)]
   simp only [need,List.map_cons,List.sum_cons] at ih ⊢;rw [ih]
  ·rw [List.filter_cons_of_neg (by simpa using h),ih]
   have:s.w=0:=by cases s<;>simp [St.c,St.w] at h ⊢<;>omega
   simp [need,this]
theorem need_append (S T:List St):need (S++T)=need S+need T:=by simp [need]
theorem need_cons (s:St) (T:List St):need (s::T)=s.w+need T:=by simp [need]
theorem need_sts (a n:Nat) (L:List Sp) (h:Ok a n L):need (sts a L)≤n - a:=by
 induction L generalizing a with
 | nil=>simp [sts,need]
 | cons c L ih =>
  have h1:=ih c.t h.2.2
  have h2:=h.2.2.le
  have h3:=h.1
  have h4:=h.2.1
  simp only [sts,need_append,need_real]
  simp [st3,need,St.w]
  simp [need] at h1
  omega
theorem pos_sts (a:Nat) (L:List Sp):pos (sts a L):=by
 induction L generalizing a with
 | nil=>simp [sts,pos]
 | cons c L ih =>
  intro s hs
  simp only [sts,real,List.mem_append,List.mem_filter] at hs
  rcases hs with ⟨_,h⟩|h
  ·simpa using h
  ·exact ih _ s h
theorem app_run (x:By) (a:Nat) (L:List Sp) (h:Ok a x.length L):app x a L=run (sts a L) (x.drop a):=by
 induction L generalizing a with
 | nil=>rfl
 | cons c L ih =>
  have h2:=h.2.2.le
  have h3:=h.1
  have h4:=h.2.1
  rw [app,sts,run_real,ih _ h.2.2]
  simp only [st3,List.cons_append,List.nil_append,run,List.drop_drop]
  rw [show a+(c.f - a)+(c.t - c.f)=c.t by omega,List.append_assoc]
theorem cut_cut (x:By) (a b c:Nat) (h1:a≤b) (h2:b≤c):(x.take b).drop a++(x.take c).drop b=(x.take c).drop a:=by
 apply List.ext_getElem?
 intro i
 simp only [List.getElem?_append,List.length_drop,List.length_take,List.getElem?_drop,List.getElem?_take]
 by_cases hb:b≤x.length
 ·rw [Nat.min_eq_left hb]
  by_cases hi:i<b - a
  ·simp only [hi,↓reduceIte]
   rw [if_pos (by omega),if_pos (by omega)]
  ·simp only [hi,↓reduceIte]
   rw [show b+(i - (b - a))=a+i by omega]
 ·rw [Nat.min_eq_right (by omega)]
  by_cases hi:i<x.length - a
  ·simp only [hi,↓reduceIte]
   rw [if_pos (by omega),if_pos (by omega)]
  ·simp only [hi,↓reduceIte]
   have e1:x[b+(i - (x.length - a))]?=none:=List.getElem?_eq_none (by omega)
   have e2:x[a+i]?=none:=List.getElem?_eq_none (by omega)
   simp [e1,e2]
def inG (L:List Sp) (g:Nat):By:=L.flatMap fun c=>if c.f=g then c.s else []
def outG (L:List Sp) (g:Nat):Bool:=L.any fun c=>decide (c.f≤g)&&decide (g<c.t)
def inS:List St→Nat→By
 | [],_=>[]
 | .put s::S,g=>(if g=0 then s else [])++inS S g
 | .stay c::S,g=>if g<c then [] else inS S (g - c)
 | .drop c::S,g=>if g<c then [] else inS S (g - c)
def outS:List St→Nat→Bool
 | [],_=>false
 | .put _::S,g=>outS S g
 | .stay c::S,g=>if g<c then false else outS S (g - c)
 | .drop c::S,g=>if g<c then true else outS S (g - c)
theorem inG_low {a n:Nat} {L:List Sp} (h:Ok a n L) (g:Nat) (hg:g<a):inG L g=[]:=by
 induction L generalizing a with
 | nil=>rfl
 | cons c L ih =>
  have h3:=h.1
  have h4:=h.2.1
  have:=ih h.2.2 (by omega)
  simp only [inG,List.flatMap_cons] at this ⊢
  rw [this,if_neg (by omega)];rfl
theorem outG_low {a n:Nat} {L:List Sp} (h:Ok a n L) (g:Nat) (hg:g<a):outG L g=false:=by
 induction L generalizing a with
 | nil=>rfl
 | cons c L ih =>
  have h3:=h.1
  have h4:=h.2.1
  have:=ih h.2.2 (by omega)
  simp only [outG,List.any_cons] at this ⊢
  rw [this];simp;omega
theorem in_zero (s:St) (S:List St) (g:Nat) (h:s.c=0):inS (s::S) g=inS S g∧outS (s::S) g=outS S g:=by
 cases s with
 | stay n=>simp [St.c] at h;subst h;simp [inS,outS]
 | put t=>simp [St.c] at h;subst h;simp [inS,outS]
 | drop n=>simp [St.c] at h;subst h;simp [inS,outS]
theorem in_real (S T:List St) (g:Nat):inS (real S++T) g=inS (S++T) g∧outS (real S++T) g=outS (S++T) g:=by
 induction S generalizing g with
 | nil=>exact ⟨rfl,rfl⟩
 | cons s S ih =>
  unfold real at ih ⊢
  by_cases h:0<s.c
  ·rw [List.filter_cons_of_pos (by simpa using h)]
   cases s<;>simp [inS,outS,ih]
  ·rw [List.filter_cons_of_neg (by simpa using h),List.cons_append,(in_zero _ _ _ (by omega)).1,(in_zero _ _ _ (by omega)).2]
   exact ih g
theorem in_sts (a n:Nat) (L:List Sp) (h:Ok a n L) (g:Nat):inS (sts a L) g=inG L (a+g)∧outS (sts a L) g=outG L (a+g):=by
 induction L generalizing a g with
 | nil=>exact ⟨rfl,rfl⟩
 | cons c L ih =>
  have h3:=h.1
  have h4:=h.2.1
  rw [sts,(in_real _ _ _).1,(in_real _ _ _).2]
  have e1:inG (c::L) (a+g)=(if c.f=a+g then c.s else [])++inG L (a+g):=by simp [inG]
  have e2:outG (c::L) (a+g)=(decide (c.f≤a+g)&&decide (a+g<c.t)||outG L (a+g)):=by simp [outG]
  rw [e1,e2]
  simp only [st3,List.cons_append,List.nil_append,inS,outS]
  by_cases g1:g<c.f - a
  ·rw [if_pos g1,if_pos g1,if_neg (by omega),inG_low h.2.2 _ (by omega),outG_low h.2.2 _ (by omega)]
   simp;omega
  ·rw [if_neg g1,if_neg g1]
   by_cases g2:g - (c.f - a)<c.t - c.f
   ·rw [if_pos g2,if_pos g2,inG_low h.2.2 _ (by omega),outG_low h.2.2 _ (by omega)]
    constructor
    ·by_cases g3:g - (c.f - a)=0
     ·rw [if_pos g3,if_pos (by omega)]
     ·rw [if_neg g3,if_neg (by omega)]
    ·simp;omega
   ·rw [if_neg g2,if_neg g2,(ih c.t h.2.2 _).1,(ih c.t h.2.2 _).2]
    rw [show c.t+(g - (c.f - a) - (c.t - c.f))=a+g by omega]
    constructor
    ·by_cases g3:g - (c.f - a)=0
     ·rw [if_pos g3,if_pos (by omega)]
     ·rw [if_neg g3,if_neg (by omega)]
    ·rw [show decide (a+g<c.t)=false by simp;omega];simp
theorem flatMap_same {α:Type} (l:List α) (F G:α→By) (h:∀ g∈l,F g=G g):l.flatMap F=l.flatMap G:=by
 induction l with
 | nil=>rfl
 | cons a l ih=>simp only [List.flatMap_cons];rw [h a (by simp),ih (fun g hg=>h g (by simp [hg]))]
def does (x:By) (I:Nat→By) (O:Nat→Bool):By:=(List.range (x.length+1)).flatMap fun g=>I g++(if O g then [] else (x.drop g).take 1)
theorem does_congr (x:By) (I I':Nat→By) (O O':Nat→Bool) (h:∀ g,g≤x.length→I g=I' g∧O g=O' g):does x I O=does x I' O':=by
 unfold does
 apply flatMap_same
 intro g hg
 have:=h g (by simpa [Nat.lt_succ_iff] using hg)
 rw [this.1,this.2]
theorem flatMap_range_add (a b:Nat) (F:Nat→By):(List.range (a+b)).flatMap F=(List.range a).flatMap F++(List.range b).flatMap fun g=>F (a+g):=by
 rw [List.range_add,List.flatMap_append,List.flatMap_map]
theorem does_skip (x:By) (I:Nat→By) (O:Nat→Bool) (c:Nat) (o:Bool) (hc:c≤x.length) (hI:∀ g,g<c→I g=[]) (hO:∀ g,g<c→O g=o) :
  does x I O=(if o then [] else x.take c)++does (x.drop c) (fun g=>I (c+g)) (fun g=>O (c+g)):=by
 unfold does
 rw [List.length_drop,show x.length+1=c+(x.length - c+1) by omega,flatMap_range_add]
 congr 1
 ·clear hc
  induction c with
  | zero=>simp
  | succ c ih =>
   rw [List.range_succ,List.flatMap_append,ih (fun g hg=>hI g (by omega)) (fun g hg=>hO g (by omega))]
   simp only [List.flatMap_cons,List.flatMap_nil,List.append_nil,hI c (by omega),hO c (by omega),List.nil_append]
   cases o with
   | true=>rfl
   | false =>
    simp only [Bool.false_eq_true,if_false]
    have:=cut_cut x 0 c (c+1) (by omega) (by omega)
    rw [List.take_drop]
    simpa using this
 ·apply flatMap_same
  intro g _
  simp only [List.drop_drop]
theorem does_put (x:By) (I J:Nat→By) (O:Nat→Bool) (s:By) (h0:I 0=s++J 0) (hI:∀ g,0<g→I g=J g):does x I O=s++does x J O:=by
 unfold does
 rw [Nat.add_comm,flatMap_range_add,flatMap_range_add 1]
 rw [show List.range 1=[0] from rfl]
 simp only [List.flatMap_cons,List.flatMap_nil,List.append_nil,h0,List.append_assoc]
 congr 3
 apply flatMap_same
 intro g _
 rw [hI _ (by omega)]
theorem does_none (x:By):does x (fun _=>[]) (fun _=>false)=x:=by
 have:=does_skip x (fun _=>[]) (fun _=>false) x.length false (Nat.le_refl _) (fun _ _=>rfl) (fun _ _=>rfl)
 rw [this]
 simp [does]
theorem run_does (S:List St) (x:By) (h:need S≤x.length):run S x=does x (inS S) (outS S):=by
 induction S generalizing x with
 | nil=>exact (does_none x).symm
 | cons s S ih =>
  rw [need_cons] at h
  cases s with
  | stay c =>
   simp only [St.w] at h
   rw [does_skip x _ _ c false (by omega) (fun g hg=>by simp [inS,hg]) (fun g hg=>by simp [outS,hg]),run,ih _ (by simp;omega)]
   simp only [Bool.false_eq_true,if_false]
   congr 1
   refine does_congr _ _ _ _ _ fun g _=>?_
   simp [inS,outS,show ¬ c+g<c by omega]
  | put t =>
   simp only [St.w] at h
   rw [does_put x _ (inS S) _ t (by simp [inS]) (fun g hg=>by simp [inS];omega),run,ih _ (by omega)]
   rfl
  | drop c =>
   simp only [St.w] at h
   rw [does_skip x _ _ c true (by omega) (fun g hg=>by simp [inS,hg]) (fun g hg=>by simp [outS,hg]),run,ih _ (by simp;omega)]
   simp only [if_true,List.nil_append]
   refine does_congr _ _ _ _ _ fun g _=>?_
   simp [inS,outS,show ¬ c+g<c by omega]
theorem app_does (x:By) (L:List Sp) (h:Ok 0 x.length L):app x 0 L=does x (inG L) (outG L):=by
 have hn:=need_sts 0 x.length L h
 rw [app_run x 0 L h,List.drop_zero,run_does _ _ (by omega)]
 refine does_congr _ _ _ _ _ fun g _=>?_
 have:=in_sts 0 x.length L h g
 simpa using this
end EM
end Go.Proofs.YtbmebfgapjhchaaGreatDoor.Ed
