/- Files laid behind a row of files;a file's text made another one. -/
import Derived.Test.YtbmebfgapjhchaaGreatDoorJe
import Derived.Laws.AppendOwn
import Derived.Laws.OwnMore
import Derived.Deep.AppendLies
import Derived.Lib.AppendZeros
import Derived.Lib.SliceRun
namespace Go.Proofs.YtbmebfgapjhchaaGreatDoor
open Go.RowKit
open M
theorem infoAF:(Tryz.prog.info? 39).map (fun i=>(i.zero,i.size,i.bytes))=some (some (.agg #[.string ⟨#[]⟩,.string ⟨#[]⟩]),2,32):=by kernel_rfl
def fvs (l:List AF):List Value:=l.flatMap fun a=>[.string a.n,.string a.t]
theorem fvs_len (l:List AF):(fvs l).length=l.length*2:=by
 induction l with
 | nil=>rfl
 | cons a l ih=>show ([Value.string a.n,.string a.t]++fvs l).length=(l.length+1)*2;rw [List.length_append,ih];show 2+_=_;omega
theorem fvs_at:∀ (l:List AF) (j:Nat) (u:Value),(fvs l)[j]?=some u→∃ a,l[j / 2]?=some a∧((j % 2=0∧u=.string a.n)∨(j % 2=1∧u=.string a.t))
 | [],j,u,h=>by simp [fvs] at h
 | a::l,0,u,h=>⟨a,rfl,.inl ⟨rfl,(Option.some.inj h).symm⟩⟩
 | a::l,1,u,h=>⟨a,rfl,.inr ⟨rfl,(Option.some.inj h).symm⟩⟩
 | a::l,j+2,u,h=>by
  obtain ⟨b,h1,h2⟩:=fvs_at l j u h
  rw [show (j+2) / 2=j / 2+1 by omega,show (j+2) % 2=j % 2 by omega]
  exact ⟨b,h1,h2⟩
set_option maxRecDepth 100000 in
theorem run_append_f (w:World) (B:Nat) (v:Value) (hown:w.ownsRow B 39 2 v 0 []) (ao:Option Addr) (cap:Nat) (l:List AF) (h:IsAF w w.heap.size ao l) (h0:0<l.length) (hl:l.length≤16) (hB:B≤w.heap.size) (ty:TypeId) :
  ∃ v' w',(Builtin.append_ #[22,22] ty #[v,.slice ao l.length cap]).run Tryz.prog w=.ok v' w'∧w'.ownsRow B 39 2 v' l.length (fvs l)∧w.grownBy w' v.ownBlock:=by
 obtain ⟨i0,hi0,hz0,hz1,hz2⟩:=info_parts infoAF
 obtain ⟨b,o,rfl,-⟩:=h 0 l[0] (List.getElem?_eq_getElem h0)
 have HN:∀ j u,(fvs l)[j]?=some u→w.cell? ((⟨b,o,none⟩:Addr).add j)=some u:=by
  intro j u hu
  rw [Addr.add_lit]
  obtain ⟨a,ha,hc⟩:=fvs_at l j u hu
  obtain ⟨b',o',e,-,c0,c1⟩:=h _ a ha
  cases e
  rcases hc with ⟨hj,rfl⟩|⟨hj,rfl⟩
  ·rw [show o+j=o+j / 2*2 by omega];exact c0
  ·rw [show o+j=o+j / 2*2+1 by omega];exact c1
 have h1:∀ u∈fvs l,u.oneCell'=true:=by
  intro u hu
  obtain ⟨a,-,hx⟩:=List.mem_flatMap.1 hu
  simp at hx
  rcases hx with rfl|rfl<;>rfl
 obtain ⟨v',w',a1,a2,a3,-⟩:=run_append_own (P:=Tryz.prog) w B 22 ty 39 i0 _ 2 32 Tryz.underlying22 hi0 hz0 hz1 hz2 rfl (by decide) v 0 [] hown ⟨b,o,none⟩ l.length cap (fvs l) (fvs_len l) HN h1 (by unfold maxLen;omega) (by omega) hB
 exact ⟨v',w',a1,by simpa using a2,a3⟩
theorem fvs_set:∀ (l:List AF) (i:Nat) (a:AF) (s:ByteArray),l[i]?=some a→(fvs l).set (i*2+1) (.string s)=fvs (l.set i ⟨a.n,s⟩)
 | [],i,a,s,h=>by simp at h
 | b::l,0,a,s,h=>by
  obtain rfl:b=a:=Option.some.inj h
  rfl
 | b::l,i+1,a,s,h=>by
  have ih:=fvs_set l i a s h
  show (([Value.string b.n,.string b.t]++fvs l).set ((i+1)*2+1) (.string s))=[Value.string b.n,.string b.t]++fvs (l.set i ⟨a.n,s⟩)
  rw [← ih,show (i+1)*2+1=(i*2+1)+1+1 by omega]
  rfl
theorem fvs_even:∀ (l:List AF) (j:Nat) (a:AF),l[j]?=some a→(fvs l)[j*2]?=some (.string a.n)∧(fvs l)[j*2+1]?=some (.string a.t)
 | [],j,a,h=>by simp at h
 | b::l,0,a,h=>by
  obtain rfl:b=a:=Option.some.inj h
  exact ⟨rfl,rfl⟩
 | b::l,j+1,a,h=>by
  have ih:=fvs_even l j a h
  rw [show (j+1)*2=j*2+1+1 by omega]
  exact ih
theorem af_owns {w:World} {B g n cap:Nat} {l:List AF} (hn:n=l.length) (h:w.ownsRow B 39 2 (.slice (some ⟨g,0,none⟩) n cap) n (fvs l)) (hg:g<w.heap.size):IsAF w w.heap.size (some ⟨g,0,none⟩) l:=by
 intro j a hj
 have hjl:j<l.length:=by
  rcases Nat.lt_or_ge j l.length with q|q
  ·exact q
  ·rw [List.getElem?_eq_none q] at hj;cases hj
 obtain ⟨e1,e2⟩:=fvs_even l j a hj
 refine ⟨g,0,rfl,hg,?_,?_⟩
 ·rw [Nat.zero_add];exact (h.cellAt (j*2) (by omega)).trans e1
 ·rw [Nat.zero_add];exact (h.cellAt (j*2+1) (by omega)).trans e2
theorem af_cap {w:World} {B g n cap:Nat} {xs:List Value} (h:w.ownsRow B 39 2 (.slice (some ⟨g,0,none⟩) n cap) n xs):n≤cap∧cap≤maxLen:=by
 rcases h.2 with ⟨e,-⟩|⟨_,_,_,e,_,_,h1,h2,_⟩
 ·cases e
 ·cases e;exact ⟨h1,h2⟩
end Go.Proofs.YtbmebfgapjhchaaGreatDoor
