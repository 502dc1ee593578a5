/- Files that come in,read as data. -/
import Derived.Test.YtdkpkpgpphkljaaGreatDoorJt
import Derived.Deep.Slices
namespace Go.Proofs.YtdkpkpgpphkljaaGreatDoor
set_option maxRecDepth 100000
open Tryz
open Go.RowKit Go.Deep
theorem aZ5:∃ f0 f1:Field,prog.underlying 30=some (.struct #[f0,f1])∧f0.offset=0∧f1.offset=1∧f0.type=9∧f1.type=9 :=
 ⟨_,_,underlying30,rfl,rfl,rfl,rfl⟩
theorem Pq:prog.cellsOf 30=2:=by kernel_rfl
theorem Uy:prog.cellsOf 9=1:=by kernel_rfl
instance:Inhabited AF:=⟨⟨.empty,.empty⟩⟩
def AF.vals(a:AF):List Value:=[.string a.n,.string a.t]
section
variable{H:Type}{enc:TypeId × Value→H}{W:World}{base:Nat}{spare:Nat→Bool}{held:Bool}
theorem Mw{n:Nat}{cs:List Value}{x:DataW H × List MemPlace}(h:DataW.trod enc prog W base spare held n 30 cs=some x):∃ r:AF,cs=r.vals:=by
 obtain⟨f0,f1,hu,o0,o1,t0,t1⟩:=aZ5;obtain⟨xs,k,_,hxy,hcl,hxl,hf⟩:=DataW.trod_struct hu h;rw[Pq] at hcl
 match xs,hxl,cs,hcl with
 | [y0,y1],_,[v0,v1],_ =>
  have g0:=hf 0 f0 rfl;have g1:=hf 1 f1 rfl;simp[o0,o1,t0,t1,Uy] at g0 g1;obtain⟨s0,e0,_,_⟩:=DataW.trod_string underlying9 g0;obtain⟨s1,e1,_,_⟩:=DataW.trod_string underlying9 g1;simp only[List.cons.injEq,and_true] at e0 e1;subst e0 e1;exact⟨⟨s0,s1⟩,rfl⟩
theorem IQ{v:Value}{d:DataW H}{ps:List MemPlace}(hv:v.cells=#[v])(h:DataW.Trod enc prog W base spare held 22 v d ps) :
  ∃(ao:Option Addr) (cap:Nat) (l:List AF),v=.slice ao l.length cap∧l.length≤cap∧cap≤maxLen∧qF W W.heap.size ao l:=by
 obtain⟨fuel,hf⟩:=h;rw[hv] at hf;rcases open_slice underlying22 hf with ⟨h0,hx⟩|⟨a,len,cap,m,n,D,Pl,hc,hb,hl,hm,hmm,hx,he⟩
 ·simp only[List.cons.injEq,and_true] at h0
  exact⟨none,0,[],h0,aj _,by unfold maxLen;omega,fun j a hj=>by simp at hj⟩
 ·simp only[List.cons.injEq,and_true] at hc
  have hlm:len≤m:=by rw[hmm];split<;>omega
  have each:∀ i,i<len→∃ r:AF,W.cells? base (a.add (i*2)) 2=some r.vals:=by
   intro i hi;obtain⟨cs',h1,h2⟩:=he i (by omega);rw[Pq] at h1;obtain⟨r,rfl⟩:=Mw h2;exact⟨r,h1⟩
  obtain⟨R,hR⟩:=choose_lt each;refine⟨some a,cap,(List.range len).map R,by simpa using hc,by simpa using hl,hm,fun i r hr=>?_⟩;have hi':i<len:=by
   rcases bE i len with q|q
   ·exact q
   ·rw[aO (by simpa using q)] at hr;cases hr
  obtain⟨_,_,hcell⟩:=World.cells?_some (hR i hi');have hsp:a.spot=none:=by
   obtain⟨_,_,hc0⟩:=World.cells?_some (hR 0 (by omega));have:=hc0 0 (by omega);simp only[Nat.zero_mul] at this;have ha:(a.add 0).add 0=a:=by simp[Addr.add]
   rw[ha] at this;unfold World.cell? at this
   split at this
   ·split at this
    ·simp[AF.vals] at this
    ·rename_i h;simpa using h
   ·simp[AF.vals] at this
  obtain⟨ab,ao,as_⟩:=a;simp only at hsp;subst hsp;obtain rfl:R i=r:=by simpa [hi'] using hr
  have ad:∀ j,((⟨ab,ao,none⟩:Addr).add (i*2)).add j=⟨ab,ao+i*2+j,none⟩:=by
   intro j;unfold Addr.add;by_cases h1:i*2=0<;>by_cases h2:j=0<;>simp[h1,h2]
  have e0:=hcell 0 (by omega);have e1:=hcell 1 (by omega);rw[ad] at e0 e1;exact⟨ab,ao,rfl,bG W ⟨ab,ao+i*2,none⟩ e0,e0,e1⟩
end
end Go.Proofs.YtdkpkpgpphkljaaGreatDoor
