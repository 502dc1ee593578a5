/- Package syntax: junk is passed. -/
import Derived.Test.YtbmebfgapjhchaaGreatDoorVt
import Derived.Deep.RegionHeld3
import Derived.Test.YtbmebfgapjhchaaGreatDoorXy
namespace Go.Proofs.YtbmebfgapjhchaaGreatDoor
open Go.RowKit
open M
structure InJk (w:World) (D:Nat→Prop) (rb ab:Nat) (ps:List X.Part) (tot kb:Nat) (l:List X.Part) (k:Nat) (wr:World):Prop where
 rw:IsRw wr D kb ab l k
 lv:∀ q∈l,∃ k x,q=X.Part.leaf k x
 out:∃ v,wr.heap[rb]?=some (.cells #[.pointer (some ⟨ab,0,none⟩),v] 123 (0,0))∧NdS wr D v ps
 new:w.heap.size≤kb
 kp:Kq D rb ab w wr
 pos:k+X.pz l=tot
theorem InJk.step {w:World} {D:Nat→Prop} {rb ab:Nat} {ps:List X.Part} {tot kb:Nat} {l:List X.Part} {k:Nat} {wr:World} (h:InJk w D rb ab ps tot kb l k wr) {w2:World} {l2:List X.Part} {k2:Nat} (hr:rb<w.heap.size) (hne:rb≠ab) (hk:Kq D kb ab wr w2) (hw:IsRw w2 D kb ab l2 k2) (hn:∀ q∈l2,∃ k x,q=X.Part.leaf k x) (hp:k2+X.pz l2=tot):InJk w D rb ab ps tot kb l2 k2 w2:=by
 obtain ⟨v,e,hv⟩:=h.out
 have n1:=h.new
 exact ⟨hw,hn,⟨v,hk.heap e (by decide) (by omega) hne,hk.nds hv hw.sep.2.1 hw.sep.2.2⟩,h.new,h.kp.inner hk n1,hp⟩
theorem InJk.copy {w:World} {D:Nat→Prop} {rb ab:Nat} {ps:List X.Part} {tot kb:Nat} {l:List X.Part} {k:Nat} {wr:World} (h:InJk w D rb ab ps tot kb l k wr) (hDlt:∀ {q},D q→q<w.heap.size) (ha:ab<w.heap.size) {v:Value} (hb:wr.heap[kb]?=some (.cells #[.pointer (some ⟨ab,0,none⟩),v] 123 (0,0))):InJk w D rb ab ps tot wr.heap.size l k (wr.alloc (.cells #[.pointer (some ⟨ab,0,none⟩),v] 123)):=by
 have kB:Below wr.heap.size wr (wr.alloc (.cells #[.pointer (some ⟨ab,0,none⟩),v] 123)):=(Below.refl _ wr).alloc (Nat.le_refl _) _
 have hk:=Kp.ofBelow kB (fun _=>False)
 obtain ⟨v0,e0,hn0⟩:=h.out
 obtain ⟨v',e1,hn1⟩:=h.rw.blk
 obtain rfl:v'=v:=by
  rw [hb] at e1
  cases e1;rfl
 have hkl:=heap_lt hb
 have hs:=h.kp.size
 refine ⟨⟨⟨v',heap_alloc_new wr _,hn1.keep hk (fun _ _=>id)⟩,h.rw.psd.below kB,⟨by have:=h.rw.psd.lt;omega,?_,h.rw.sep.2.2⟩,h.rw.byt⟩,h.lv,⟨v0,hk.heap e0 id,hn0.keep hk (fun _ _=>id)⟩,hs,h.kp.more kB ha,h.pos⟩
 intro hd
 have:=hDlt hd
 omega
set_option maxRecDepth 100000 in
set_option maxHeartbeats 4000000 in
theorem wjunk_any (D:Nat→Prop) (rb ab:Nat) (qs:List X.Part) (ps:List X.Part) (i:Nat) (w:World) (h:IsRw w D rb ab (.br 5 qs::ps) i) (hn:∀ q∈qs,∃ k x,q=X.Part.leaf k x) (hi:i+X.pz qs≤1073741824) (hql:qs.length≤268435456) (hDl:∀ q,D q→q<w.heap.size) :
  Calls Tryz.prog 48 #[.pointer (some ⟨rb,0,none⟩)] w fun e w'=>e=.returned (.tuple #[])∧Hid (IsRw w' D rb ab ps (i+X.pz qs)∧Kq D rb ab w w'):=by
 obtain ⟨hr,ha⟩:=h.lt
 have hsep:=h.sep
 have hgq:=h.byt.br.2
 have hgp:=h.byt.tail
 have HE:=hide (wenter_any D rb ab (.br 5 qs) ps i _ h (by show i+0≤_;omega) hDl)
 have HDl:=hide hDl
 clear h hDl
 go_enter Tryz.func48,Tryz.ntmps48
 go_wp2_with fail
 refine (HE.out).mono ?_
 rintro e w2 ⟨a4,a5,a6,rfl,H2⟩
 have H2':Hid (NdS w2 D (.slice a4 a5 a6) qs∧IsRw w2 D rb ab ps i∧Kq D rb ab w w2):=H2.out
 have HI0:Hid (InJk w D rb ab ps (i+X.pz qs) w2.heap.size qs i (w2.alloc (.cells #[.pointer (some ⟨ab,0,none⟩),.slice a4 a5 a6] 123))):=by
  obtain ⟨x1,x2,x3⟩:=H2'.out
  have hs2:=x3.size
  have kB:Below w2.heap.size w2 (w2.alloc (.cells #[.pointer (some ⟨ab,0,none⟩),.slice a4 a5 a6] 123)):=(Below.refl _ w2).alloc (Nat.le_refl _) _
  have x2b:=x2.below kB
  exact ⟨⟨⟨_,heap_alloc_new w2 _,x1.keep (Kp.ofBelow kB (fun _=>False)) (fun _ _=>id)⟩,x2b.psd,⟨by omega,fun hd=>by have:=(HDl.out) _ hd;omega,x2.sep.2.2⟩,hgq⟩,hn,x2b.blk,hs2,x3.more kB ha,rfl⟩
 clear H2 H2' HE
 go_wp2_with fail
 generalize w2.alloc (.cells #[.pointer (some ⟨ab,0,none⟩),.slice a4 a5 a6] 123)=W2 at *
 go_loopw [2] (fun kv wr=>∃ (kb:Nat) (l:List X.Part) (k:Nat),kv=.pointer (some ⟨kb,0,none⟩)∧l.length≤268435456∧Hid (InJk w D rb ab ps (i+X.pz qs) kb l k wr)) (fun kv wr=>lenP kv wr)
 case atStart=>exact ⟨w2.heap.size,qs,i,rfl,hql,HI0⟩
 case round =>
  obtain ⟨kb,l,k,rfl,hll,HI⟩:=hrel
  clear HI0
  have hlen:lenP (.pointer (some ⟨kb,0,none⟩)) wr=l.length:=(HI.out).rw.len
  have hpos:=(HI.out).pos
  have HDw:∀ q,D q→q<wr.heap.size:=fun q hq=>Nat.lt_of_lt_of_le ((HDl.out) q hq) (HI.out).kp.size
  have HM:=hide (wmore_any D kb ab l k wr (HI.out).rw (by omega) (by omega) HDw)
  clear HDw
  go_wp2_with fail
  refine (HM.out).mono ?_
  rintro e w3 ⟨rfl,H3⟩
  have hpz:X.pz l=X.pz (l.takeWhile X.lq)+X.pz (l.dropWhile X.lq):=by rw [← X.pz_app,List.takeWhile_append_dropWhile]
  have hdl:(l.dropWhile X.lq).length≤l.length:=(List.dropWhile_sublist _).length_le
  have HI3:Hid (InJk w D rb ab ps (i+X.pz qs) kb (l.dropWhile X.lq) (k+X.pz (l.takeWhile X.lq)) w3) :=
   (HI.out).step hr hsep.1 (H3.out).2 (H3.out).1 (fun q hq=>(HI.out).lv q ((List.dropWhile_sublist _).subset hq)) (by omega)
  clear HM H3 HI
  generalize l.dropWhile X.lq=l3 at *
  generalize k+X.pz (l.takeWhile X.lq)=k3 at *
  cases l3 with
  | nil =>
   have HF:Hid (IsRw w3 D rb ab ps (i+X.pz qs)∧Kq D rb ab w w3):=by
    have hp3:k3=i+X.pz qs:=(HI3.out).pos
    exact ⟨⟨(HI3.out).out,by rw [← hp3];exact (HI3.out).rw.psd,hsep,hgp⟩,(HI3.out).kp⟩
   have hdf:decide (([]:List X.Part)≠[])=false:=by simp
   rw [hdf]
   clear HI3
   go_wp2_with fail
   exact bodyPost_end (results_none rfl _ _ _) rfl ⟨rfl,HF⟩
  | cons p l4 =>
   have hdt:decide (p::l4≠[])=true:=by simp
   rw [hdt]
   clear hdt
   have hpos3:=(HI3.out).pos
   rw [X.pz_cons] at hpos3
   rw [List.length_cons] at hdl
   have hln:X.nln p=X.pz [p]:=by
    obtain ⟨k',x',rfl⟩:=(HI3.out).lv p (by simp)
    exact (X.pz_leaf k' x').symm
   have HLv:=hide (wleave_any D kb ab p l4 k3 w3 (HI3.out).rw (by omega) (fun q hq=>Nat.lt_of_lt_of_le ((HDl.out) q hq) (HI3.out).kp.size))
   go_wp2_with fail
   refine (HLv.out).mono ?_
   rintro e w5 ⟨d4,d5,d6,rfl,H5⟩
   have HI5:Hid (InJk w D rb ab ps (i+X.pz qs) kb l4 (k3+X.pz [p]) w5):=by
    obtain ⟨-,z2,z3⟩:=H5.out
    rw [hln] at z2
    exact (HI3.out).step hr hsep.1 z3 z2 (fun q hq=>(HI3.out).lv q (List.mem_cons_of_mem _ hq)) (by omega)
   clear H5 HLv HI3
   obtain ⟨v5,hb5,hn5⟩:=(HI5.out).rw.blk
   have c0:=cell_of_row w5 _ 0 _ _ _ hb5
   obtain ⟨f4,f6,_,_,_,_,rfl,-⟩:=hn5.ex
   have c1:=cell_of_row w5 _ 1 _ _ _ hb5
   have HI6:=hide ((HI5.out).copy (fun {q} hq=>(HDl.out) q hq) ha (v:=.slice f4 l4.length f6) hb5)
   clear hb5 hn5 HI5
   go_wp2_with fail
   refine ⟨⟨w5.heap.size,l4,k3+X.pz [p],rfl,by omega,HI6⟩,?_⟩
   have:=(HI6.out).rw.len
   rw [hlen]
   show lenR w5.heap.size _<_
   rw [this];omega
end Go.Proofs.YtbmebfgapjhchaaGreatDoor
/- Package syntax: the items of a root. -/
namespace Go.Proofs.YtbmebfgapjhchaaGreatDoor
open Go.RowKit
open M
theorem IsIt.keep {S:Nat→Prop} {w w':World} (hk:Kp S w w') {lo hi:Nat} (hS:∀ i,lo≤i→i<hi→¬ S i) {v:Value} {e:X.It} (h:IsIt w lo hi v e):IsIt w' lo hi v e:=by
 cases h with
 | use b pub gs m n a hb h=>exact .use b pub gs m n a hb (hk.heap h (hS b hb.1 hb.2))
 | dfn b pub n pv ps v e hb h hp he=>exact .dfn b pub n pv ps v e hb (hk.heap h (hS b hb.1 hb.2)) (IsPv.keep hp hk hS) (he.keep hk hS)
theorem IsPv.keepi {S:Nat→Prop} {w w':World} {lo hi:Nat} {pv:Value} {ps:Option (List X.Nm)} (h:IsPv w lo hi pv ps) (hk:Kp S w w') (hS:∀ i,lo≤i→i<hi→S i→∃ c f,w.heap[i]?=some (.cells c 3 f)):IsPv w' lo hi pv ps:=by
 rcases h with h|⟨ns,pb,a,b,c⟩
 ·exact .inl h
 ·exact .inr ⟨ns,pb,a,b,c.keepi hk hS⟩
theorem IsIt.keepi {S:Nat→Prop} {w w':World} (hk:Kp S w w') {lo hi:Nat} (hS:∀ i,lo≤i→i<hi→S i→∃ c f,w.heap[i]?=some (.cells c 3 f)) {v:Value} {e:X.It} (h:IsIt w lo hi v e):IsIt w' lo hi v e:=by
 cases h with
 | use b pub gs m n a hb h=>exact .use b pub gs m n a hb (hk.heap h (fun e=>not_int h (by decide) (hS _ hb.1 hb.2 e)))
 | dfn b pub n pv ps v e hb h hp he=>exact .dfn b pub n pv ps v e hb (hk.heap h (fun e=>not_int h (by decide) (hS _ hb.1 hb.2 e))) (IsPv.keepi hp hk hS) (he.keepi hk hS)
theorem IsIt.keepq {D:Nat→Prop} {rb ab:Nat} {w w':World} (hk:Kq D rb ab w w') {lo hi:Nat} {v:Value} {e:X.It} (h:IsIt w lo hi v e) (h1:rb<lo) (h2:ab<lo):IsIt w' lo hi v e:=h.keepi hk.kp (fun _ hi _ e=>e.int h1 h2 hi)
theorem IsIt.wide {w:World} {lo hi lo' hi':Nat} (q1:lo'≤lo) (q2:hi≤hi') {v:Value} {e:X.It} (h:IsIt w lo hi v e):IsIt w lo' hi' v e:=by
 cases h with
 | use b pub gs m n a hb h=>exact .use b pub gs m n a ⟨by omega,by omega⟩ h
 | dfn b pub n pv ps v e hb h hp he=>exact .dfn b pub n pv ps v e ⟨by omega,by omega⟩ h (IsPv.wide hp q1 q2) (he.wide q1 q2)
theorem rdi_lq {p:X.Part} {i:Nat} {it:X.It} (h:X.Rdi p i it):X.lq p=false:=by cases h<;>rfl
theorem all_quiet:∀ (l:List X.Part),(∀ q∈l,X.lq q=true)→l.dropWhile X.lq=[]
 | [],_=>rfl
 | p::l,h=>by rw [List.dropWhile_cons_of_pos (h p (by simp))];exact all_quiet l (fun q hq=>h q (List.mem_cons_of_mem _ hq))
theorem rdf_quiet {l:List X.Part} {k:Nat} {its:List X.It} (h:X.Rdf l k its):X.Rdf (l.dropWhile X.lq) (k+X.pz (l.takeWhile X.lq)) its:=by
 cases h with
 | leaves _ _ h=>rw [all_quiet l h];exact .leaves _ _ (fun q hq=>by cases hq)
 | junk qs ps _ _ hq h =>
  have e:X.lq (.br 5 qs)=false:=rfl
  rw [List.dropWhile_cons_of_neg (by rw [e];simp),List.takeWhile_cons_of_neg (by rw [e];simp)]
  exact .junk qs ps _ _ hq h
 | item p ps _ it its hp h =>
  have e:=rdi_lq hp
  rw [List.dropWhile_cons_of_neg (by rw [e];simp),List.takeWhile_cons_of_neg (by rw [e];simp)]
  exact .item p ps _ it its hp h
theorem rdf_head {p:X.Part} {l:List X.Part} {k:Nat} {its:List X.It} (h:X.Rdf (p::l) k its) (hq:X.lq p=false):(∃ qs,p=.br 5 qs∧(∀ q∈qs,∃ k x,q=X.Part.leaf k x)∧X.Rdf l (k+X.pz [p]) its)∨∃ it its2,its=it::its2∧X.Rdi p k it∧X.Rdf l (k+X.pz [p]) its2:=by
 cases h with
 | leaves _ _ h=>have:=h p (by simp);rw [hq] at this;cases this
 | junk qs ps _ _ hl h=>exact .inl ⟨qs,rfl,hl,h⟩
 | item p ps _ it its hp h=>exact .inr ⟨it,its,rfl,hp,h⟩
theorem rdf_len {l:List X.Part} {k:Nat} {its:List X.It} (h:X.Rdf l k its):its.length≤l.length:=by
 induction h with
 | leaves _ _ h=>exact Nat.zero_le _
 | junk qs ps _ _ hq h ih=>rw [List.length_cons];omega
 | item p ps _ it its hp h ih=>rw [List.length_cons,List.length_cons];omega
structure IsIts (w:World) (lo hi:Nat) (rv:Value) (es:List X.It):Prop where
 ex:∃ (ao:Option Addr) (cap:Nat) (vs:Nat→Value),rv=.slice ao es.length cap∧es.length≤cap∧cap≤maxLen∧(∀ j,j<es.length→∃ g,ao=some ⟨g,0,none⟩∧lo≤g∧g<hi∧w.cell? ⟨g,j,none⟩=some (vs j)∧∃ c f,w.heap[g]?=some (.cells c 163 f))∧(∀ (j:Nat) (e:X.It),es[j]?=some e→IsIt w lo hi (vs j) e)
theorem infoIt:(Tryz.prog.info? 163).map (fun i=>(i.zero,i.size,i.bytes))=some (some .nilIface,1,16):=by kernel_rfl
structure InIts (w:World) (D:Nat→Prop) (kb ab:Nat) (es:List X.It) (tot:Nat) (l:List X.Part) (k:Nat) (acc:List X.It) (rv:Value) (vs:List Value) (wr:World):Prop where
 rw:IsRw wr D kb ab l k
 rdf:∃ es',X.Rdf l k es'∧es=acc++es'
 own:wr.ownsRow w.heap.size 163 1 rv acc.length vs
 len:vs.length=acc.length
 each:∀ (j:Nat) (e:X.It),acc[j]?=some e→∃ v L H,vs[j]?=some v∧w.heap.size≤L∧H≤wr.heap.size∧(∀ g,rv.ownBlock=some g→¬(L≤g∧g<H))∧IsIt wr L H v e
 kp:Kq D kb ab w wr
 pos:k+X.pz l=tot
theorem InIts.step {w:World} {D:Nat→Prop} {kb ab:Nat} {es:List X.It} {tot:Nat} {l:List X.Part} {k:Nat} {acc:List X.It} {rv:Value} {vs:List Value} {wr:World} (h:InIts w D kb ab es tot l k acc rv vs wr) {w2:World} {l2:List X.Part} {k2:Nat} (hr:kb<w.heap.size) (ha:ab<w.heap.size) (hk:Kq D kb ab wr w2) (hw:IsRw w2 D kb ab l2 k2) (hn:∃ es',X.Rdf l2 k2 es'∧es=acc++es') (hp:k2+X.pz l2=tot):InIts w D kb ab es tot l2 k2 acc rv vs w2:=by
 refine ⟨hw,hn,hk.owns h.own (by decide) (fun g hg=>by have:=(owns_ge h.own g hg).1;exact ⟨by omega,by omega⟩),h.len,fun j e hj=>?_,h.kp.trans hk,hp⟩
 obtain ⟨v,L,H,x1,x2,x3,x4,x5⟩:=h.each j e hj
 exact ⟨v,L,H,x1,x2,Nat.le_trans x3 hk.size,x4,x5.keepq hk (Nat.lt_of_lt_of_le hr x2) (Nat.lt_of_lt_of_le ha x2)⟩
theorem InIts.more {w:World} {D:Nat→Prop} {kb ab:Nat} {es:List X.It} {tot:Nat} {l:List X.Part} {k:Nat} {acc:List X.It} {rv:Value} {vs:List Value} {wr:World} (h:InIts w D kb ab es tot l k acc rv vs wr) {w5 w6:World} {l2:List X.Part} {k2:Nat} (hr:kb<w.heap.size) (ha:ab<w.heap.size) (hD:∀ q,D q→q<w.heap.size) (hk:Kq D kb ab wr w5) (hw:IsRw w5 D kb ab l2 k2) {e:X.It} {v:Value} (hE:IsIt w5 wr.heap.size w5.heap.size v e) (hn:∃ es',X.Rdf l2 k2 es'∧es=(acc++[e])++es') (hp:k2+X.pz l2=tot) (o:Obj) {g cap:Nat}
  (hown:w6.ownsRow w.heap.size 163 1 (.slice (some ⟨g,0,none⟩) (acc.length+1) cap) (acc.length+1) (vs++[v])) (hgrow:(w5.alloc o).grownBy w6 rv.ownBlock) (hat:rv.ownBlock=some g∨g=w5.heap.size+1) :
  InIts w D kb ab es tot l2 k2 (acc++[e]) (.slice (some ⟨g,0,none⟩) (acc.length+1) cap) (vs++[v]) w6:=by
 have hs5:=hk.size
 have hge:=fun q hq=>(owns_ge h.own q hq)
 have hown5:=hk.owns h.own (by decide) (fun g hg=>by have:=(hge g hg).1;exact ⟨by omega,by omega⟩)
 have hA:Kp (fun q=>rv.ownBlock=some q) w5 w6:=Kp.grown (Kp.alloc (Kp.refl _ w5) o) hgrow (fun k e _=>e)
 have hs6:=hA.size
 have hws:=h.kp.size
 have hgo:∀ L H,H≤w5.heap.size→(∀ g',rv.ownBlock=some g'→¬(L≤g'∧g'<H))→∀ q,(Value.slice (some ⟨g,0,none⟩) (acc.length+1) cap).ownBlock=some q→¬(L≤q∧q<H):=fun L H hH h0 q hq=>by
  simp only [Value.ownBlock,Option.some.injEq] at hq
  subst hq
  rcases hat with e|e
  ·exact h0 g e
  ·omega
 refine ⟨hw.keep hA (fun e=>by have:=(hge _ e).1;omega) (fun e=>by have:=(hge _ e).1;omega) (fun q hq e=>by have:=(hge _ e).1;have:=hD q hq;omega) (fun q c f _ hc e=>by obtain ⟨-,c',f',hc'⟩:=owns_typed hown5 e;exact not_int hc' (by decide) ⟨c,f,hc⟩),hn,by rw [List.length_append];exact hown,by rw [List.length_append,List.length_append,h.len];rfl,fun j e' hj=>?_,(h.kp.trans hk).over hA ha (fun i hi e=>by have:=(hge _ e).1;omega),hp⟩
 by_cases hjl:j<acc.length
 ·rw [List.getElem?_append_left hjl] at hj
  obtain ⟨v',L,H,x1,x2,x3,x4,x5⟩:=h.each j e' hj
  exact ⟨v',L,H,by rw [List.getElem?_append_left (by rw [h.len];exact hjl)];exact x1,x2,by omega,hgo L H (by omega) x4,(x5.keepq hk (Nat.lt_of_lt_of_le hr x2) (Nat.lt_of_lt_of_le ha x2)).keep hA (fun q h1 h2 e=>x4 q e ⟨h1,h2⟩)⟩
 ·rw [List.getElem?_append_right (by omega)] at hj
  have h0:j - acc.length=0:=by
   rcases Nat.eq_zero_or_pos (j - acc.length) with q|q
   ·exact q
   ·rw [List.getElem?_eq_none (by simp;omega)] at hj;cases hj
  rw [h0] at hj
  obtain rfl:e=e':=by simpa using hj
  have hno:∀ q,rv.ownBlock=some q→¬(wr.heap.size≤q∧q<w5.heap.size):=fun q hq=>by have:=(hge q hq).2;omega
  exact ⟨v,wr.heap.size,w5.heap.size,by rw [List.getElem?_append_right (by rw [h.len];omega),h.len,h0];rfl,hws,hs6,hgo _ _ (Nat.le_refl _) hno,hE.keep hA (fun q h1 h2 e=>hno q e ⟨h1,h2⟩)⟩
theorem InIts.done {w:World} {D:Nat→Prop} {kb ab:Nat} {es:List X.It} {tot:Nat} {k:Nat} {acc:List X.It} {rv:Value} {vs:List Value} {wr:World} (h:InIts w D kb ab es tot [] k acc rv vs wr):IsIts wr w.heap.size wr.heap.size rv es∧IsRw wr D kb ab [] tot∧Kq D kb ab w wr:=by
 obtain ⟨es',h1,h2⟩:=h.rdf
 cases h1
 rw [List.append_nil] at h2
 subst h2
 have hp:k=tot:=h.pos
 have hge:=fun q hq=>(owns_ge h.own q hq)
 have hl:=h.len
 refine ⟨?_,by rw [← hp];exact h.rw,h.kp⟩
 have hc:=fun g hg=>h.own.cells (g:=g) hg
 have hown:=h.own
 rcases hown.2 with ⟨rfl,h0⟩|⟨g,cap,cur,rfl,-,-,hn,hm,-,-⟩
 ·have he:es=[]:=List.length_eq_zero_iff.1 h0
  subst he
  exact ⟨none,0,fun _=>undef,rfl,Nat.le_refl _,by unfold maxLen;omega,fun j hj=>absurd hj (Nat.not_lt_zero _),fun j e hj=>by simp at hj⟩
 ·refine ⟨_,cap,fun j=>vs.getD j undef,rfl,hn,hm,fun j hj=>⟨g,rfl,(hge g rfl).1,(hge g rfl).2,?_,(owns_typed hown rfl).2⟩,fun j e hj=>?_⟩
  ·have hv:vs[j]?=some (vs.getD j undef):=by
    rw [List.getD_eq_getElem?_getD,List.getElem?_eq_getElem (by omega)];rfl
   have:=hc g rfl j _ hv
   rwa [Addr.add_lit,Nat.zero_add] at this
  ·obtain ⟨v,L,H,x1,x2,x3,-,x5⟩:=h.each j e hj
   have:vs.getD j undef=v:=by rw [List.getD_eq_getElem?_getD,x1];rfl
   show IsIt _ _ _ (vs.getD j undef) e
   rw [this]
   exact x5.wide x2 x3
end Go.Proofs.YtbmebfgapjhchaaGreatDoor
/- Package syntax: by what name an item is known,and whether it is shown. -/
namespace Go.Proofs.YtbmebfgapjhchaaGreatDoor
open Go.RowKit
open M
theorem useShown_any (b:Nat) (pub gs:Bool) (m n a:X.Nm) (w:World) (h:w.heap[b]?=some (.cells #[.bool pub,.string (ba m.1),.int .i64 m.2,.string (ba n.1),.int .i64 n.2,.bool gs,.string (ba a.1),.int .i64 a.2] 177 (0,0))) :
  Calls Tryz.prog 185 #[.pointer (some ⟨b,0,none⟩)] w fun e w'=>e=.returned (.bool pub)∧w'=w:=by
 have c0:=cell_of_row w _ 0 _ _ _ h
 clear h
 go_enter Tryz.func185,Tryz.ntmps185
 go_wp2_with fail
 go_ret
 exact ⟨rfl,rfl⟩
theorem defShown_any (b:Nat) (pub:Bool) (n:X.Nm) (pv v:Value) (fr tt:Int) (w:World) (h:w.heap[b]?=some (.cells #[.bool pub,.string (ba n.1),.int .i64 n.2,pv,v,.int .i64 fr,.int .i64 tt] 182 (0,0))) :
  Calls Tryz.prog 187 #[.pointer (some ⟨b,0,none⟩)] w fun e w'=>e=.returned (.bool pub)∧w'=w:=by
 have c0:=cell_of_row w _ 0 _ _ _ h
 clear h
 go_enter Tryz.func187,Tryz.ntmps187
 go_wp2_with fail
 go_ret
 exact ⟨rfl,rfl⟩
set_option maxRecDepth 100000 in
set_option maxHeartbeats 1000000 in
theorem defCalled_any (b:Nat) (pub:Bool) (n:X.Nm) (pv v:Value) (fr tt:Int) (w:World) (h:w.heap[b]?=some (.cells #[.bool pub,.string (ba n.1),.int .i64 n.2,pv,v,.int .i64 fr,.int .i64 tt] 182 (0,0))) :
  Calls Tryz.prog 186 #[.pointer (some ⟨b,0,none⟩)] w fun e w'=>e=.returned (.agg #[.string (ba n.1),.int .i64 n.2])∧Below w.heap.size w w':=by
 have c1:=cell_of_row w _ 1 _ _ _ h
 have c2:=cell_of_row w _ 2 _ _ _ h
 have hb:=heap_lt h
 clear h
 go_enter Tryz.func186,Tryz.ntmps186
 go_wp2_with fail
 exact bodyPost_ret (res_name rfl _ _ (b:=w.heap.size) rfl (heap_alloc_new w _)) rfl ⟨rfl,(Below.refl _ w).alloc (Nat.le_refl _) _⟩
set_option maxRecDepth 100000 in
set_option maxHeartbeats 1000000 in
theorem useCalled_any (b:Nat) (pub gs:Bool) (m n a:X.Nm) (w:World) (h:w.heap[b]?=some (.cells #[.bool pub,.string (ba m.1),.int .i64 m.2,.string (ba n.1),.int .i64 n.2,.bool gs,.string (ba a.1),.int .i64 a.2] 177 (0,0))) :
  Calls Tryz.prog 184 #[.pointer (some ⟨b,0,none⟩)] w fun e w'=>e=.returned (.agg #[.string (ba (if gs then a else n).1),.int .i64 (if gs then a else n).2])∧Below w.heap.size w w':=by
 have c3:=cell_of_row w _ 3 _ _ _ h
 have c4:=cell_of_row w _ 4 _ _ _ h
 have c5:=cell_of_row w _ 5 _ _ _ h
 have c6:=cell_of_row w _ 6 _ _ _ h
 have c7:=cell_of_row w _ 7 _ _ _ h
 have hb:=heap_lt h
 clear h
 cases gs with
 | true =>
  show Calls _ _ _ _ fun e w'=>e=.returned (.agg #[.string (ba a.1),.int .i64 a.2])∧_
  go_enter Tryz.func184,Tryz.ntmps184
  go_wp2_with fail
  exact bodyPost_ret (res_name rfl _ _ (b:=w.heap.size) rfl (heap_alloc_new w _)) rfl ⟨rfl,(Below.refl _ w).alloc (Nat.le_refl _) _⟩
 | false =>
  show Calls _ _ _ _ fun e w'=>e=.returned (.agg #[.string (ba n.1),.int .i64 n.2])∧_
  go_enter Tryz.func184,Tryz.ntmps184
  go_wp2_with fail
  exact bodyPost_ret (res_name rfl _ _ (b:=w.heap.size) rfl (heap_alloc_new w _)) rfl ⟨rfl,(Below.refl _ w).alloc (Nat.le_refl _) _⟩
theorem nameMissing_any (x:List UInt8) (n:Int) (w:World) :
  Calls Tryz.prog 63 #[.agg #[.string (ba x),.int .i64 n]] w fun e w'=>e=.returned (.bool x.isEmpty)∧Below w.heap.size w w':=by
 have hx:((ba x).toList==[])=x.isEmpty:=by rw [ba_list];cases x<;>rfl
 go_enter Tryz.func63,Tryz.ntmps63
 go_wp2_with fail
 go_ret
 exact ⟨rfl,(Below.refl _ w).alloc (Nat.le_refl _) _⟩
end Go.Proofs.YtbmebfgapjhchaaGreatDoor
/- Package syntax: the parts of an expression (all kinds but calls and lists). -/
namespace Go.Proofs.YtbmebfgapjhchaaGreatDoor
open Go.RowKit
open M
structure Pts (w w':World) (lo hi:Nat) (rv:Value) (es:List X.Ex):Prop where
 ex:∃ (ao:Option Addr) (cap:Nat) (vs:Nat→Value),rv=.slice ao es.length cap∧es.length≤cap∧cap≤maxLen∧(∀ j,j<es.length→∃ g cs d,ao=some ⟨g,0,none⟩∧w.heap.size≤g∧w'.heap[g]?=some (.cells cs 180 d)∧w'.cell? ⟨g,j,none⟩=some (vs j))∧(∀ (j:Nat) (e:X.Ex),es[j]?=some e→IsE w lo hi (vs j) e)
 bl:Below w.heap.size w w'
theorem Pts.nil (w:World) (lo hi:Nat):Pts w w lo hi (.slice none 0 0) []:=⟨⟨none,0,fun _=>undef,rfl,Nat.le_refl _,by unfold maxLen;omega,fun j hj=>absurd hj (Nat.not_lt_zero _),fun j e hj=>by simp at hj⟩,Below.refl _ w⟩
theorem Pts.drew {w w':World} {lo hi:Nat} {rv:Value} {es:List X.Ex} (h:Pts w w' lo hi rv es):Pts w w'.drew lo hi rv es:=⟨h.ex,h.bl.drew⟩
theorem pts_new {w:World} {lo hi:Nat} {es:List X.Ex} {vs:List Value} (hl:vs.length=es.length) (hm:es.length≤3) (hp:∀ (j:Nat) (e:X.Ex),es[j]?=some e→∃ v,vs[j]?=some v∧IsE w lo hi v e) :
  Pts w (w.alloc (.cells vs.toArray 180)) lo hi (.slice (some ⟨w.heap.size,0,none⟩) es.length es.length) es:=by
 refine ⟨⟨_,_,fun j=>vs.getD j undef,rfl,Nat.le_refl _,by unfold maxLen;omega,fun j hj=>⟨w.heap.size,_,_,rfl,Nat.le_refl _,heap_alloc_new w _,?_⟩,fun j e hj=>?_⟩,(Below.refl _ w).alloc (Nat.le_refl _) _⟩
 ·have:=cell_of_row (w.alloc (.cells vs.toArray 180)) w.heap.size j _ _ _ (heap_alloc_new w _)
  rw [this]
  simp [List.getD_eq_getElem?_getD,List.getElem?_eq_getElem (show j<vs.length by omega)]
 ·obtain ⟨v,x1,x2⟩:=hp j e hj
  have:vs.getD j undef=v:=by rw [List.getD_eq_getElem?_getD,x1];rfl
  show IsE _ _ _ (vs.getD j undef) e
  rw [this]
  exact x2
theorem partsHole_any (b:Nat) (w:World):Calls Tryz.prog 205 #[.pointer (some ⟨b,0,none⟩)] w fun e w'=>e=.returned (.slice none 0 0)∧w'=w:=by
 go_enter Tryz.func205,Tryz.ntmps205
 go_wp2_with fail
 go_ret
 exact ⟨rfl,rfl⟩
theorem partsMissing_any (b:Nat) (w:World):Calls Tryz.prog 194 #[.pointer (some ⟨b,0,none⟩)] w fun e w'=>e=.returned (.slice none 0 0)∧w'=w:=by
 go_enter Tryz.func194,Tryz.ntmps194
 go_wp2_with fail
 go_ret
 exact ⟨rfl,rfl⟩
theorem partsLiteral_any (b:Nat) (w:World):Calls Tryz.prog 206 #[.pointer (some ⟨b,0,none⟩)] w fun e w'=>e=.returned (.slice none 0 0)∧w'=w:=by
 go_enter Tryz.func206,Tryz.ntmps206
 go_wp2_with fail
 go_ret
 exact ⟨rfl,rfl⟩
set_option maxRecDepth 100000 in
set_option maxHeartbeats 1000000 in
theorem partsGroup_any {m0 n0:Int} {z0:Bool} (b:Nat) (v:Value) (e1:X.Ex) (w:World) (lo hi:Nat) (h:w.heap[b]?=some (.cells #[.int .i64 m0,.int .i64 n0,.bool z0,v] 261 (0,0))) (h1:IsE w lo hi v e1) :
  Calls Tryz.prog 203 #[.pointer (some ⟨b,0,none⟩)] w fun e w'=>∃ rv,e=.returned rv∧Hid (Pts w w' lo hi rv [e1]):=by
 obtain ⟨y1,g1,hv1⟩:=h1.iface
 subst hv1
 have c0:=cell_of_row w _ 3 _ _ _ h
 have HF:Hid (Pts w (w.alloc (.cells #[.iface y1 (.pointer (some ⟨g1,0,none⟩))] 180)) lo hi (.slice (some ⟨w.heap.size,0,none⟩) 1 1) [e1]) :=
  pts_new (es:=[e1]) (vs:=[.iface y1 (.pointer (some ⟨g1,0,none⟩))]) rfl (by simp) (fun j e hj=>by
   match j with
   | 0=>simp at hj;subst hj;exact ⟨_,rfl,h1⟩
   | j+1=>simp at hj)
 clear h h1
 go_enter Tryz.func203,Tryz.ntmps203
 go_wp2_with fail
 go_ret
 exact ⟨_,rfl,HF⟩
end Go.Proofs.YtbmebfgapjhchaaGreatDoor
/- Package syntax: the parts of an expression,more kinds. -/
namespace Go.Proofs.YtbmebfgapjhchaaGreatDoor
open Go.RowKit
open M
set_option maxRecDepth 100000 in
set_option maxHeartbeats 2000000 in
theorem partsBinary_any {m0 n0:Int} {z0:Bool} (b:Nat) (x:List UInt8) (v0 v1:Value) (e0 e1:X.Ex) (w:World) (lo hi:Nat) (h:w.heap[b]?=some (.cells #[.int .i64 m0,.int .i64 n0,.bool z0,v0,.string (ba x),v1] 287 (0,0))) (h0:IsE w lo hi v0 e0) (h1:IsE w lo hi v1 e1) :
  Calls Tryz.prog 200 #[.pointer (some ⟨b,0,none⟩)] w fun e w'=>∃ rv,e=.returned rv∧Hid (Pts w w' lo hi rv [e0,e1]):=by
 obtain ⟨y0,g0,hv0⟩:=h0.iface
 subst hv0
 obtain ⟨y1,g1,hv1⟩:=h1.iface
 subst hv1
 have c0:w.cell? ⟨b,3,none⟩=some (.iface y0 (.pointer (some ⟨g0,0,none⟩))):=cell_of_row w _ 3 _ _ _ h
 have c1:w.cell? ⟨b,5,none⟩=some (.iface y1 (.pointer (some ⟨g1,0,none⟩))):=cell_of_row w _ 5 _ _ _ h
 have HF:Hid (Pts w (w.alloc (.cells #[.iface y0 (.pointer (some ⟨g0,0,none⟩)),.iface y1 (.pointer (some ⟨g1,0,none⟩))] 180)) lo hi (.slice (some ⟨w.heap.size,0,none⟩) 2 2) [e0,e1]) :=
  pts_new (es:=[e0,e1]) (vs:=[.iface y0 (.pointer (some ⟨g0,0,none⟩)),.iface y1 (.pointer (some ⟨g1,0,none⟩))]) rfl (by simp) (fun j e hj=>by
   match j with
   | 0=>simp at hj;subst hj;exact ⟨_,rfl,h0⟩
   | 1=>simp at hj;subst hj;exact ⟨_,rfl,h1⟩
   | j+2=>simp at hj)
 have hb:=heap_lt h
 clear h h0 h1
 go_enter Tryz.func200,Tryz.ntmps200
 go_wp2_with fail
 go_region_held3 (fun w'=>w'.cell? ⟨b,3,none⟩=some (.iface y0 (.pointer (some ⟨g0,0,none⟩)))∧w'.cell? ⟨b,5,none⟩=some (.iface y1 (.pointer (some ⟨g1,0,none⟩))))
  (first|(with_reducible exact ⟨c0,c1⟩)|(with_reducible exact ⟨Lib.cell?_alloc_some _ c0,Lib.cell?_alloc_some _ c1⟩)|go_keep)
  (fail)
 go_wp2_with fail
 go_ret
 exact ⟨_,rfl,(HF.out).drew⟩
set_option maxRecDepth 100000 in
set_option maxHeartbeats 2000000 in
theorem partsIf_any {m0 n0:Int} {z0:Bool} (b:Nat)  (v0 v1 v2:Value) (e0 e1 e2:X.Ex) (w:World) (lo hi:Nat) (h:w.heap[b]?=some (.cells #[.int .i64 m0,.int .i64 n0,.bool z0,v0,v1,v2] 249 (0,0))) (h0:IsE w lo hi v0 e0) (h1:IsE w lo hi v1 e1) (h2:IsE w lo hi v2 e2) :
  Calls Tryz.prog 198 #[.pointer (some ⟨b,0,none⟩)] w fun e w'=>∃ rv,e=.returned rv∧Hid (Pts w w' lo hi rv [e0,e1,e2]):=by
 obtain ⟨y0,g0,hv0⟩:=h0.iface
 subst hv0
 obtain ⟨y1,g1,hv1⟩:=h1.iface
 subst hv1
 obtain ⟨y2,g2,hv2⟩:=h2.iface
 subst hv2
 have c0:w.cell? ⟨b,3,none⟩=some (.iface y0 (.pointer (some ⟨g0,0,none⟩))):=cell_of_row w _ 3 _ _ _ h
 have c1:w.cell? ⟨b,4,none⟩=some (.iface y1 (.pointer (some ⟨g1,0,none⟩))):=cell_of_row w _ 4 _ _ _ h
 have c2:w.cell? ⟨b,5,none⟩=some (.iface y2 (.pointer (some ⟨g2,0,none⟩))):=cell_of_row w _ 5 _ _ _ h
 have HF:Hid (Pts w (w.alloc (.cells #[.iface y0 (.pointer (some ⟨g0,0,none⟩)),.iface y1 (.pointer (some ⟨g1,0,none⟩)),.iface y2 (.pointer (some ⟨g2,0,none⟩))] 180)) lo hi (.slice (some ⟨w.heap.size,0,none⟩) 3 3) [e0,e1,e2]) :=
  pts_new (es:=[e0,e1,e2]) (vs:=[.iface y0 (.pointer (some ⟨g0,0,none⟩)),.iface y1 (.pointer (some ⟨g1,0,none⟩)),.iface y2 (.pointer (some ⟨g2,0,none⟩))]) rfl (by simp) (fun j e hj=>by
   match j with
   | 0=>simp at hj;subst hj;exact ⟨_,rfl,h0⟩
   | 1=>simp at hj;subst hj;exact ⟨_,rfl,h1⟩
   | 2=>simp at hj;subst hj;exact ⟨_,rfl,h2⟩
   | j+3=>simp at hj)
 have hb:=heap_lt h
 clear h h0 h1 h2
 go_enter Tryz.func198,Tryz.ntmps198
 go_wp2_with fail
 go_region_held3 (fun w'=>w'.cell? ⟨b,3,none⟩=some (.iface y0 (.pointer (some ⟨g0,0,none⟩)))∧w'.cell? ⟨b,4,none⟩=some (.iface y1 (.pointer (some ⟨g1,0,none⟩)))∧w'.cell? ⟨b,5,none⟩=some (.iface y2 (.pointer (some ⟨g2,0,none⟩))))
  (first|(with_reducible exact ⟨c0,c1,c2⟩)|(with_reducible exact ⟨Lib.cell?_alloc_some _ c0,Lib.cell?_alloc_some _ c1,Lib.cell?_alloc_some _ c2⟩)|go_keep)
  (fail)
 go_wp2_with fail
 go_ret
 exact ⟨_,rfl,(HF.out).drew⟩
end Go.Proofs.YtbmebfgapjhchaaGreatDoor
/- Package syntax: Read. -/
namespace Go.Proofs.YtbmebfgapjhchaaGreatDoor
open Go.RowKit
open M
theorem pz_file (ts:List X.Tok):X.pz (X.fileL ts)=(X.pb (X.file ts)).length:=by
 have:=X.pz_br 2 (X.fileL ts)
 unfold X.pz at this ⊢
 rw [← this,X.psb,X.psb,List.append_nil]
 rfl
theorem fldKids (a b:Int) (c:ByteArray) (a4:Option Addr) (a5 a6:Nat) (w:World):(Instr.field 120 (.agg #[.int .i64 a,.int .i64 b,.string c,.slice a4 a5 a6]) 3).run Tryz.prog w=.ok (.slice a4 a5 a6) w:=by kernel_rfl
theorem item_ok (D:Nat→Prop) (rb ab:Nat) (p:X.Part) (ps:List X.Part) (it:X.It) (i:Nat) (w:World) (h:IsRw w D rb ab (p::ps) i) (hrd:X.Rdi p i it) (hz:X.psz p≤268435456) (hi:i+X.pz [p]≤1073741824) (hDl:∀ q,D q→q<w.heap.size) :
  (X.nk p=3∧Calls Tryz.prog 46 #[.pointer (some ⟨rb,0,none⟩)] w fun e w'=>∃ b,e=.returned (.pointer (some ⟨b,0,none⟩))∧Hid (IsIt w' w.heap.size w'.heap.size (.iface 124 (.pointer (some ⟨b,0,none⟩))) it∧IsRw w' D rb ab ps (i+X.pz [p])∧Kq D rb ab w w')) ∨
  (X.nk p=4∧Calls Tryz.prog 47 #[.pointer (some ⟨rb,0,none⟩)] w fun e w'=>∃ b,e=.returned (.pointer (some ⟨b,0,none⟩))∧Hid (IsIt w' w.heap.size w'.heap.size (.iface 126 (.pointer (some ⟨b,0,none⟩))) it∧IsRw w' D rb ab ps (i+X.pz [p])∧Kq D rb ab w w')):=by
 cases hrd with
 | use pb t1 n1 t2 n2 ap t3 _ pub gs m n a hp h1 hm h2 hn ha h3 =>
  left
  rw [X.pz_br] at hi ⊢
  rw [psz_br] at hz
  have hl:=pssz_len (pb++(t1++(n1++(t2++(n2++(ap++t3))))))
  exact ⟨rfl,wuse_any D rb ab pb t1 n1 t2 n2 ap t3 pub gs m n a ps i w h hp h1 hm h2 hn ha h3 hi (by omega) hDl⟩
 | dfn pb t1 n1 pr t2 p t3 _ pub n pso e hp h1 hn hr h2 he h3 =>
  right
  rw [X.pz_br] at hi ⊢
  rw [psz_br] at hz
  have hl:=pssz_len (pb++(t1++(n1++(pr++(t2++([p]++t3))))))
  have hp1:=pssz_mem (pb++(t1++(n1++(pr++(t2++([p]++t3)))))) p (by simp)
  refine ⟨rfl,wdef_any D rb ab pb t1 n1 pr t2 t3 p pub n pso e ps i w h hp h1 hn hr h2 he h3 (expr_ok _ p (Nat.le_refl _) (by omega)) (fun qs e=>?_) hi (by omega) hDl⟩
  have hq:=pssz_mem (pb++(t1++(n1++(pr++(t2++([p]++t3)))))) (.br 6 qs) (by rw [e];simp)
  rw [psz_br] at hq
  have:=pssz_len qs
  omega
set_option maxRecDepth 100000 in
set_option maxHeartbeats 4000000 in
theorem syRead_any (tb:Nat) (s:ByteArray) (its:List X.It) (w:World) (h:IsTr w tb s) (hz:X.psz (X.file (X.xt (bs s)))≤268435456) (hb:X.pb (X.file (X.xt (bs s)))=bs s) (hs:s.size≤134217728) (hf:X.Rdf (X.fileL (X.xt (bs s))) 0 its) :
  Calls Tryz.prog 34 #[.pointer (some ⟨tb,0,none⟩)] w fun en w'=>∃ rv,en=.returned rv∧Hid (IsIts w' w.heap.size w'.heap.size rv its∧Below w.heap.size w w'):=by
 have HR:Hid (∀ W,Below w.heap.size w W→Calls Tryz.prog 44 #[.pointer (some ⟨tb,0,none⟩)] W fun e w'=>∃ a4 a5 a6,e=.returned (.agg #[.int .i64 2,.int .i64 0,.string (ba []),.slice a4 a5 a6])∧Hid (∃ E,NdS w' E (.slice a4 a5 a6) (X.fileL (X.xt (bs s)))∧(∀ q,E q→W.heap.size≤q∧q<w'.heap.size)∧Below W.heap.size W w')):=fun W hW=>by
  refine (root_any tb s W (h.below hW) (by omega) hb (by omega)).mono ?_
  rintro e w' ⟨nv,rfl,X1⟩
  obtain ⟨E,x1,x2,x3⟩:=X1.out
  obtain ⟨kv,rfl,x4⟩:=x1.val
  obtain ⟨a4,a6,_,_,_,_,rfl,-⟩:=x4.ex
  exact ⟨_,_,_,rfl,E,x4,x2,x3⟩
 have hfld:=fldKids
 obtain ⟨i0,hi0,hz0,hz1,hz2⟩:=info_parts infoIt
 have hlz:Hid (∀ p∈X.fileL (X.xt (bs s)),X.psz p≤268435456):=fun p hp=>by
  have h1:=pssz_mem _ p hp
  have h2:X.psz (X.file (X.xt (bs s)))=1+X.pssz (X.fileL (X.xt (bs s))):=rfl
  omega
 have hll:(X.fileL (X.xt (bs s))).length≤268435456:=by
  have h1:=pssz_len (X.fileL (X.xt (bs s)))
  have h2:X.psz (X.file (X.xt (bs s)))=1+X.pssz (X.fileL (X.xt (bs s))):=rfl
  omega
 have htot:X.pz (X.fileL (X.xt (bs s)))≤134217728:=by rw [pz_file,hb,bs_len];exact hs
 have hil:its.length≤268435456:=Nat.le_trans (rdf_len hf) hll
 have HF:=hide hf
 have hgL:Hid (X.Gd (X.fileL (X.xt (bs s)))):=⟨X.file_byts (bs s),(X.file_kok (X.xt (bs s))).2⟩
 clear h hz hb hs hf
 generalize X.fileL (X.xt (bs s))=L at *
 go_enter Tryz.func34,Tryz.ntmps34
 go_wp2_with fail
 have kA:Below w.heap.size w (w.alloc (.cells #[.int .i64 0,.slice none 0 0,.int .i64 0,.int .i64 0] 117)):=(Below.refl _ w).alloc (Nat.le_refl _) _
 refine ((HR.out) _ kA).mono ?_
 rintro en w2 ⟨a4,a5,a6,rfl,X2⟩
 obtain ⟨D,x1,x2,x3⟩:=X2.out
 have hsA:(w.alloc (.cells #[.int .i64 0,.slice none 0 0,.int .i64 0,.int .i64 0] 117)).heap.size=w.heap.size+1:=by simp
 have hs2:=x3.size
 have kB:Below w2.heap.size w2 (w2.alloc (.cells #[.pointer (some ⟨w.heap.size,0,none⟩),.slice a4 a5 a6] 123)):=(Below.refl _ w2).alloc (Nat.le_refl _) _
 have hz0':(w2.alloc (.cells #[.pointer (some ⟨w.heap.size,0,none⟩),.slice a4 a5 a6] 123)).heap.size=w2.heap.size+1:=by simp
 have HRw:Hid (IsRw (w2.alloc (.cells #[.pointer (some ⟨w.heap.size,0,none⟩),.slice a4 a5 a6] 123)) D w2.heap.size w.heap.size L 0):=by
  refine ⟨⟨_,heap_alloc_new w2 _,x1.keep (Kp.ofBelow kB (fun _=>False)) (fun _ _=>id)⟩,⟨.slice none 0 0,[],0,0,?_,World.ownsRow_nil _ _ _ _,Nat.le_refl _,fun q hq=>by cases hq⟩,⟨by omega,fun hd=>by have:=(x2 _ hd).2;omega,fun hd=>by have:=(x2 _ hd).1;omega⟩,hgL.out⟩
  exact (Kp.ofBelow kB (fun _=>False)).heap ((Kp.ofBelow x3 (fun _=>False)).heap (heap_alloc_new w _) id) id
 have HBw:Hid (Below w.heap.size w (w2.alloc (.cells #[.pointer (some ⟨w.heap.size,0,none⟩),.slice a4 a5 a6] 123))):=(kA.trans (x3.mono (by omega))).trans (kB.mono (by omega))
 have HDl:Hid (∀ q,D q→q<(w2.alloc (.cells #[.pointer (some ⟨w.heap.size,0,none⟩),.slice a4 a5 a6] 123)).heap.size):=fun q hq=>by have:=(x2 q hq).2;omega
 clear HR X2 x1 x2 x3 kA kB
 go_wp2_with fail
 generalize hW0:w2.alloc (.cells #[.pointer (some ⟨w.heap.size,0,none⟩),.slice a4 a5 a6] 123)=W0 at *
 generalize hkb:w2.heap.size=kb at *
 generalize hab:w.heap.size=ab at *
 have hr:kb<W0.heap.size:=by omega
 have ha:ab<W0.heap.size:=by omega
 have hrw0:ab≤kb:=by omega
 clear hfld hW0 hkb hz0' hs2 hsA
 have HI0:Hid (InIts W0 D kb ab its (0+X.pz L) L 0 [] (.slice none 0 0) [] W0):=⟨HRw.out,⟨its,HF.out,rfl⟩,World.ownsRow_nil _ _ _ _,rfl,fun j e hj=>by simp at hj,Kq.refl _ _ _ _,rfl⟩
 clear HRw HF
 go_loopw [4] (fun av wr=>∃ (l:List X.Part) (k:Nat) (acc:List X.It) (rv:Value) (vs:List Value),rv=av∧l.length≤268435456∧Hid (∀ p∈l,X.psz p≤268435456)∧Hid (InIts W0 D kb ab its (0+X.pz L) l k acc rv vs wr)) (fun _ wr=>lenR kb wr)
 case atStart=>exact ⟨L,0,[],_,[],rfl,hll,hlz,HI0⟩
 case round =>
  obtain ⟨l,k,acc,rv,vs,rfl,hll',HZ,HI⟩:=hrel
  clear HI0 hlz hll
  have hlen:lenR kb wr=l.length:=(HI.out).rw.len
  have hpos:=(HI.out).pos
  have HM:=hide (wmore_any D kb ab l k wr (HI.out).rw (by omega) (by omega) (fun q hq=>Nat.lt_of_lt_of_le ((HDl.out) q hq) (HI.out).kp.size))
  go_wp2_with fail
  refine (HM.out).mono ?_
  rintro e w3 ⟨rfl,H3⟩
  have hpz:X.pz l=X.pz (l.takeWhile X.lq)+X.pz (l.dropWhile X.lq):=by rw [← X.pz_app,List.takeWhile_append_dropWhile]
  have hdl:(l.dropWhile X.lq).length≤l.length:=(List.dropWhile_sublist _).length_le
  have HI3:Hid (InIts W0 D kb ab its (0+X.pz L) (l.dropWhile X.lq) (k+X.pz (l.takeWhile X.lq)) acc rv vs w3):=by
   obtain ⟨es',g1,g2⟩:=(HI.out).rdf
   exact (HI.out).step hr ha (H3.out).2 (H3.out).1 ⟨es',rdf_quiet g1,g2⟩ (by omega)
  have HZd:Hid (∀ p∈l.dropWhile X.lq,X.psz p≤268435456):=fun p hp=>(HZ.out) p ((List.dropWhile_sublist _).mem hp)
  have hql':∀ p t,l.dropWhile X.lq=p::t→X.lq p=false:=fun p t e=>by
   have:=List.head?_dropWhile_not X.lq l
   rw [e] at this
   simpa using this
  clear HM H3 HI HZ
  generalize l.dropWhile X.lq=l3 at *
  generalize k+X.pz (l.takeWhile X.lq)=k3 at *
  cases l3 with
  | nil =>
   have HF:Hid (IsIts w3 ab w3.heap.size rv its∧Below ab w w3):=by
    obtain ⟨z1,z2,z3⟩:=(HI3.out).done
    refine ⟨?_,?_⟩
    ·obtain ⟨ao,cap,f,y1,y2,y3,y4,y5⟩:=z1.ex
     exact ⟨ao,cap,f,y1,y2,y3,fun j hj=>by obtain ⟨g,u1,u2,u3,u4⟩:=y4 j hj;exact ⟨g,u1,by omega,u3,u4⟩,fun j e hj=>(y5 j e hj).wide (by omega) (Nat.le_refl _)⟩
    ·have hb0:=HBw.out
     exact ⟨z3.kp.os.trans hb0.os,z3.kp.tape.trans hb0.tape,z3.kp.output.trans hb0.output,Nat.le_trans hb0.size z3.size,fun q hq=>(z3.kp.block q (by omega) (fun e=>by rcases e with e|e|⟨e,-⟩<;>omega)).trans (hb0.block q hq)⟩
   have hdf:decide (([]:List X.Part)≠[])=false:=by simp
   rw [hdf]
   clear HI3
   go_wp2_with fail
   go_ret
   exact ⟨rv,rfl,by rw [hab];exact HF⟩
  | cons p l4 =>
   have hdt:decide (p::l4≠[])=true:=by simp
   rw [hdt]
   clear hdt
   have hq:=hql' p l4 rfl
   clear hql'
   obtain ⟨v,hb,hnn⟩:=(HI3.out).rw.blk
   have c1:=cell_of_row w3 _ 1 _ _ _ hb
   obtain ⟨g,o,cap,kv,rfl,hD,y0,y1,y2,y3,hkk,-,hc1,hc2,-,-⟩:=hnn.head
   have hi1:(0:Int)<((l4.length+1:Nat):Int):=by omega
   have hi2:0<l4.length+1:=by omega
   have hpos3:=(HI3.out).pos
   rw [X.pz_cons] at hpos3
   rw [List.length_cons] at hdl
   have hzp:=(HZd.out) p (by simp)
   have HZ4:Hid (∀ q∈l4,X.psz q≤268435456):=fun q hq=>(HZd.out) q (List.mem_cons_of_mem _ hq)
   have HD3:∀ q,D q→q<w3.heap.size:=fun q hq=>Nat.lt_of_lt_of_le ((HDl.out) q hq) (HI3.out).kp.size
   obtain ⟨es',g1,g2⟩:=(HI3.out).rdf
   clear hb hnn hkk HZd y1 y2 y3
   rcases rdf_head g1 hq with ⟨qs,rfl,hlv,hrest⟩|⟨it0,its2,e1,hrd,hrest⟩
   ·have y0':w3.cell? ⟨g,o,none⟩=some (.int .i64 5):=y0
    rw [psz_br] at hzp
    have hql:=pssz_len qs
    rw [X.pz_br] at hpos3
    have HC:=hide (wjunk_any D kb ab qs l4 k3 w3 (HI3.out).rw hlv (by omega) (by omega) HD3)
    have HNs:Hid (∃ es',X.Rdf l4 (k3+X.pz qs) es'∧its=acc++es'):=by rw [X.pz_br] at hrest;exact ⟨es',hrest,g2⟩
    clear HD3 g1 g2 hlv hrest y0
    go_wp2_with fail
    refine (HC.out).mono ?_
    rintro e w5 ⟨rfl,X5⟩
    have HI5:Hid (InIts W0 D kb ab its (0+X.pz L) l4 (k3+X.pz qs) acc rv vs w5):=(HI3.out).step hr ha (X5.out).2 (X5.out).1 HNs.out (by omega)
    clear HC X5 HI3 c1 y0'
    have hl5:lenR kb w5=l4.length:=(HI5.out).rw.len
    go_wp2_with fail
    exact ⟨⟨l4,k3+X.pz qs,acc,rv,vs,rfl,by omega,HZ4,HI5⟩,by rw [hlen,hl5];omega⟩
   ·have HNs:Hid (∃ es',X.Rdf l4 (k3+X.pz [p]) es'∧its=(acc++[it0])++es'):=⟨its2,hrest,by rw [g2,e1,List.append_assoc];rfl⟩
    have hacc:acc.length≤268435456:=by
     have:=congrArg List.length g2
     rw [List.length_append] at this;omega
    have hio:=item_ok D kb ab p l4 it0 k3 w3 (HI3.out).rw hrd hzp (by omega) HD3
    clear HD3 g1 g2 hrest e1 hrd
    rcases hio with ⟨hnk,HC0⟩|⟨hnk,HC0⟩
    ·have HC:=hide HC0
     clear HC0
     rw [hnk] at y0
     have y0':w3.cell? ⟨g,o,none⟩=some (.int .i64 3):=y0
     clear y0 hnk
     go_wp2_with fail
     refine (HC.out).mono ?_
     rintro e w5 ⟨b5,rfl,X5⟩
     clear c1 y0'
     have hvl:vs.length=acc.length:=(HI3.out).len
     have HO5:Hid (w5.ownsRow W0.heap.size 163 1 rv acc.length vs):=(X5.out).2.2.owns (HI3.out).own (by decide) (fun g hg=>by
      have:=(owns_ge (HI3.out).own g hg).1
      exact ⟨by omega,by omega⟩)
     have hs5:W0.heap.size≤w5.heap.size:=by have:=(X5.out).2.2.size;have:=(HI3.out).kp.size;omega
     go_wp2_with (at_builtin;refine wpList_append_lies _ rfl _ _ 90 rfl W0.heap.size 163 i0 _ 1 16 Tryz.underlying90 hi0 hz0 hz1 hz2 rfl (by decide) rv acc.length _ rfl ((HO5.out).alloc _) ⟨w5.heap.size,0,none⟩ 1 1 [.iface 124 (.pointer (some ⟨b5,0,none⟩))] rfl rfl (World.news_of_block (cs:=#[.iface 124 (.pointer (some ⟨b5,0,none⟩))]) (heap_alloc_new w5 _)) (by simp [Value.oneCell']) (by omega) (by unfold maxLen;omega) (by omega) (by simp;omega) (w5.heap.size+1) (by simp) ?_;intro g7 cap7 w7 hown7 hgrow7 hat7 hlt7;have HI7:=hide ((HI3.out).more hr ha HDl.out (X5.out).2.2 (X5.out).2.1 (X5.out).1 HNs.out (by omega) _ hown7 hgrow7 hat7);clear hown7 hgrow7)
     have hl7:lenR kb w7=l4.length:=(HI7.out).rw.len
     exact ⟨⟨l4,k3+X.pz [p],acc++[it0],_,_,rfl,by omega,HZ4,HI7⟩,by rw [hlen,hl7];omega⟩
    ·have HC:=hide HC0
     clear HC0
     rw [hnk] at y0
     have y0':w3.cell? ⟨g,o,none⟩=some (.int .i64 4):=y0
     clear y0 hnk
     go_wp2_with fail
     refine (HC.out).mono ?_
     rintro e w5 ⟨b5,rfl,X5⟩
     clear c1 y0'
     have hvl:vs.length=acc.length:=(HI3.out).len
     have HO5:Hid (w5.ownsRow W0.heap.size 163 1 rv acc.length vs):=(X5.out).2.2.owns (HI3.out).own (by decide) (fun g hg=>by
      have:=(owns_ge (HI3.out).own g hg).1
      exact ⟨by omega,by omega⟩)
     have hs5:W0.heap.size≤w5.heap.size:=by have:=(X5.out).2.2.size;have:=(HI3.out).kp.size;omega
     go_wp2_with (at_builtin;refine wpList_append_lies _ rfl _ _ 90 rfl W0.heap.size 163 i0 _ 1 16 Tryz.underlying90 hi0 hz0 hz1 hz2 rfl (by decide) rv acc.length _ rfl ((HO5.out).alloc _) ⟨w5.heap.size,0,none⟩ 1 1 [.iface 126 (.pointer (some ⟨b5,0,none⟩))] rfl rfl (World.news_of_block (cs:=#[.iface 126 (.pointer (some ⟨b5,0,none⟩))]) (heap_alloc_new w5 _)) (by simp [Value.oneCell']) (by omega) (by unfold maxLen;omega) (by omega) (by simp;omega) (w5.heap.size+1) (by simp) ?_;intro g7 cap7 w7 hown7 hgrow7 hat7 hlt7;have HI7:=hide ((HI3.out).more hr ha HDl.out (X5.out).2.2 (X5.out).2.1 (X5.out).1 HNs.out (by omega) _ hown7 hgrow7 hat7);clear hown7 hgrow7)
     have hl7:lenR kb w7=l4.length:=(HI7.out).rw.len
     exact ⟨⟨l4,k3+X.pz [p],acc++[it0],_,_,rfl,by omega,HZ4,HI7⟩,by rw [hlen,hl7];omega⟩
end Go.Proofs.YtbmebfgapjhchaaGreatDoor
