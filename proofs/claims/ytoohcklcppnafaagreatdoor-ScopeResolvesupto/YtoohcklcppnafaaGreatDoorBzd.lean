import Derived.Test.YtoohcklcppnafaaGreatDoorJza
import Derived.Test.YtoohcklcppnafaaGreatDoorRows
namespace Go.Proofs.YtoohcklcppnafaaGreatDoor
set_option maxRecDepth 100000
open Go.Proofs.Tryz
open Go.RowKit Go.Deep
open M
section
variable{H:Type}{enc:TypeId × Value→H}{W:aG}{base:Nat}{spare:Nat→Bool}{held:Bool}
theorem NR(l:List (DataW H))(d:DataW H)(h:d∈l):Rows.uptoBulk d≤Rows.uptoBulkAll l:=by
 induction l with
 | nil=>cases h
 | cons x l ih =>
  simp only[Rows.uptoBulkAll];rcases fJ.1 h with rfl|h
  ·omega
  ·have:=ih h;omega
theorem QT(d:DataW H):1≤Rows.uptoBulk d:=by
 cases d with
 | lit x=>cases x<;>simp only[Rows.uptoBulk]<;>omega
 | nil=>simp only[Rows.uptoBulk];omega
 | ptr d=>simp only[Rows.uptoBulk];omega
 | slice a b=>simp only[Rows.uptoBulk];omega
 | agg a=>simp only[Rows.uptoBulk];omega
 | iface a b=>simp only[Rows.uptoBulk];omega
 | map a=>simp only[Rows.uptoBulk];omega
 | held a=>simp only[Rows.uptoBulk];omega
theorem QU(l:List (DataW H)):l.length≤Rows.uptoBulkAll l:=by
 induction l with
 | nil=>simp[Rows.uptoBulkAll]
 | cons x l ih=>simp only[Rows.uptoBulkAll,aY];have:=QT x;omega
theorem Kc{n:Nat}{cs:List Value}{x:DataW H × List MemPlace}(h:DataW.trod enc prog W base spare held n 46 cs=some x):∃ r:AF,cs=r.vals∧r.n.size+1≤Rows.uptoBulk x.1:=by
 obtain⟨f0,f1,hu,o0,o1,t0,t1⟩:=bI3;obtain⟨xs,k,_,hxy,hcl,hxl,hf⟩:=DataW.trod_struct hu h;have hxy':=hxy;rw[QV] at hcl
 match xs,hxl,cs,hcl with
 | [y0,y1],_,[v0,v1],_ =>
  have g0:=hf 0 f0 rfl;have g1:=hf 1 f1 rfl;simp[o0,o1,t0,t1,Vr] at g0 g1;obtain⟨s0,e0,d0,_⟩:=DataW.trod_string underlying9 g0;obtain⟨s1,e1,_,_⟩:=DataW.trod_string underlying9 g1;simp only[List.cons.injEq,and_true] at e0 e1;subst e0 e1;refine⟨⟨s0,s1⟩,rfl,?_⟩;rw[hxy',d0];simp only[iO,List.map_nil,Rows.uptoBulk,Rows.uptoBulkAll];have:s0.data.toList.length=s0.size:=eY s0;show s0.size+1≤_;omega
theorem Gs{v:Value}{d:DataW H}{ps:List MemPlace}(hv:v.cells=#[v])(h:DataW.Trod enc prog W base spare held 22 v d ps)(hk:Rows.uptoBulk d≤1048576) :
  ∃(ao:Option Addr) (cap:Nat) (l:List AF),v=.slice ao l.length cap∧l.length≤cap∧cap≤maxLen∧sw W W.heap.size ao l∧l.length≤1048576∧∀ r∈l,r.n.size≤1048576:=by
 obtain⟨fuel,hf⟩:=h;rw[hv] at hf;rcases open_slice underlying22 hf with ⟨h0,hx⟩|⟨a,len,cap,m,n,D,Pl,hc,hb,hl,hm,hmm,hx,he⟩
 ·simp only[List.cons.injEq,and_true] at h0
  exact⟨none,0,[],h0,ax _,by unfold maxLen;omega,fun j a hj=>by simp at hj,bJ _,fun r hr=>by cases hr⟩
 ·simp only[List.cons.injEq,and_true] at hc
  simp only[kE] at hx;obtain⟨rfl,_⟩:=hx;have hlm:len≤m:=by rw[hmm];split<;>omega
  have hDk:∀ i,i<len→Rows.uptoBulk (D i)≤1048576:=by
   intro i hi;have h1:=NR ((List.range len).map D) (D i) (fU.2 ⟨i,jq.2 hi,rfl⟩);simp only[Rows.uptoBulk] at hk;omega
  have hlen:len≤1048576:=by
   have h1:=QU ((List.range len).map D);simp only[Rows.uptoBulk] at hk;rw[cB,List.length_range] at h1;omega
  have each:∀ i,i<len→∃ r:AF,W.cells? base (a.add (i*2)) 2=some r.vals∧r.n.size≤1048576:=by
   intro i hi;obtain⟨cs',h1,h2⟩:=he i au;rw[QV] at h1;obtain⟨r,rfl,h3⟩:=Kc h2;exact⟨r,h1,by have h4:r.n.size+1≤Rows.uptoBulk (D i):=h3;have:=hDk i hi;omega⟩
  obtain⟨R,hR⟩:=choose_lt each;refine⟨some a,cap,(List.range len).map R,by simpa using hc,by simpa using hl,hm,fun i r hr=>?_,by simpa using hlen,fun r hr=>by
   obtain⟨i,hi,rfl⟩:=fU.1 hr;exact(hR i (jq.1 hi)).2⟩
  have hi':i<len:=by
   rcases cu i len with q|q
   ·exact q
   ·rw[bf (by simpa using q)] at hr;cases hr
  obtain⟨_,_,hcell⟩:=World.cells?_some (hR i hi').1;have hsp:a.spot=none:=by
   obtain⟨_,_,hc0⟩:=World.cells?_some (hR 0 au).1;have:=hc0 0 au;simp only[Nat.zero_mul] at this;have ha:(a.add 0).add 0=a:=by simp[Addr.add]
   rw[ha] at this;unfold World.cell? at this
   split at this
   ·split at this
    ·simp[AF.vals] at this
    ·rename_i h;simpa using h
   ·simp[AF.vals] at this
  obtain⟨ab,ao,as_⟩:=a;simp only at hsp;subst hsp;obtain rfl:R i=r:=by simpa [hi'] using hr
  have ad:∀ j,((⟨ab,ao,none⟩:Addr).add (i*2)).add j=⟨ab,ao+i*2+j,none⟩:=by
   intro j;unfold Addr.add;by_cases h1:i*2=0<;>by_cases h2:j=0<;>simp[h1,h2]
  have e0:=hcell 0 au;have e1:=hcell 1 au;rw[ad] at e0 e1;exact⟨ab,ao,rfl,dU W ⟨ab,ao+i*2,none⟩ e0,e0,e1⟩
end
end Go.Proofs.YtoohcklcppnafaaGreatDoor
