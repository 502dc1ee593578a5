/- Package scope: the names in an expression: kinds that name nothing themselves. -/
import Derived.Test.YtbmebfgapjhchaaGreatDoorJl
import Derived.Test.YtbmebfgapjhchaaGreatDoorWzw
namespace Go.Proofs.YtbmebfgapjhchaaGreatDoor
open Go.RowKit
open M
namespace X
theorem exUs_app (f:Nat) (top:List UInt8→An) (sc:List (List Nm)):∀ a b:List Ex,exUs f top sc (a++b)=exUs f top sc a++exUs f top sc b
 | [],b=>by rw [List.nil_append,exUs,List.nil_append]
 | e::a,b=>by rw [List.cons_append,exUs,exUs,exUs_app f top sc a b,List.append_assoc]
theorem exUs_snoc {f:Nat} {top:List UInt8→An} {sc:List (List Nm)} {es:List Ex} {j:Nat} {e:Ex} (h:es[j]?=some e):exUs f top sc (es.take (j+1))=exUs f top sc (es.take j)++exU f top sc e:=by
 rw [take_snoc h,exUs_app,exUs,exUs,List.append_nil]
theorem exUs_take (f:Nat) (top:List UInt8→An) (sc:List (List Nm)) (es:List Ex) (j:Nat):(exUs f top sc (es.take j)).length≤(exUs f top sc es).length:=by
 have:=exUs_app f top sc (es.take j) (es.drop j)
 rw [List.take_append_drop] at this
 rw [this,List.length_append];omega
end X
structure InE (w w0:World) (L:Lay) (fs:List X.Fl) (us:List X.U) (lo hi:Nat) (es:List X.Ex) (ao:Option Addr) (vs:Nat→Value) (bv:Value) (sc:List (List X.Nm)) (j:Nat) (wr:World):Prop where
 tld:Tld w0 L fs (us++X.exUs L.tf (X.topA fs L.tf) sc (es.take j)) w wr
 row:∀ k,k<es.length→∃ g cs d,ao=some ⟨g,0,none⟩∧w0.heap.size≤g∧wr.heap[g]?=some (.cells cs 180 d)∧wr.cell? ⟨g,k,none⟩=some (vs k)
 each:∀ (k:Nat) (e:X.Ex),es[k]?=some e→IsE wr lo hi (vs k) e
 bk:IsBk wr w0.heap.size bv sc
variable {w0:World} {L:Lay} {fs:List X.Fl} {M:Mem} {us:List X.U} {w:World}
theorem InE.start {lo hi:Nat} {es:List X.Ex} {rv bv:Value} {sc:List (List X.Nm)} {w2:World} (hp:Pts w w2 lo hi rv es) (h:Run w0 L fs M us w) (hM:MOk fs M) (hI:Idle M) (hbk:IsBk w w0.heap.size bv sc) :
  ∃ ao cap vs,rv=.slice ao es.length cap∧es.length≤cap∧cap≤maxLen∧InE w w0 L fs us lo hi es ao vs bv sc 0 w2:=by
 obtain ⟨ao,cap,vs,z1,z2,z3,z4,z5⟩:=hp.ex
 have hk:=Kp.ofBelow hp.bl (fun _=>False)
 refine ⟨ao,cap,vs,z1,z2,z3,⟨M,?_,hM,hI,Kx.ofBelow hp.bl⟩,fun k hk'=>?_,fun k e he=>(z5 k e he).keep hk (fun _ _ _=>id),hbk.blw hp.bl⟩
 ·rw [List.take_zero,X.exUs,List.append_nil];exact h.below hp.bl
 ·obtain ⟨g,cs,d,y1,y2,y3,y4⟩:=z4 k hk'
  exact ⟨g,cs,d,y1,by have:=h.size;omega,y3,y4⟩
theorem InE.step {lo hi:Nat} {es:List X.Ex} {ao:Option Addr} {vs:Nat→Value} {bv:Value} {sc:List (List X.Nm)} {j:Nat} {wr w2:World} (h:InE w w0 L fs us lo hi es ao vs bv sc j wr) (hv:Av L fs.length w0.heap.size lo hi) {e:X.Ex} (he:es[j]?=some e) (ht:Tld w0 L fs ((us++X.exUs L.tf (X.topA fs L.tf) sc (es.take j))++X.exU L.tf (X.topA fs L.tf) sc e) wr w2):InE w w0 L fs us lo hi es ao vs bv sc (j+1) w2:=by
 obtain ⟨M2,r2,m2,i2,x2⟩:=ht
 obtain ⟨M1,r1,m1,i1,x1⟩:=h.tld
 have hS:=r2.st.lt
 refine ⟨⟨M2,by rw [X.exUs_snoc he,← List.append_assoc];exact r2,m2,i2,x1.trans x2⟩,fun k hk=>?_,fun k e' he'=>(h.each k e' he').keep x2 (hv.sx wr),h.bk.keep x2 hS⟩
 obtain ⟨g,cs,d,y1,y2,y3,y4⟩:=h.row k hk
 have hg:=x2.made hS y3 y2 (fun cs d e=>by cases e)
 exact ⟨g,cs,d,y1,y2,hg,(World.cell?_of_block (w:=wr) (a:=⟨g,k,none⟩) (hg.trans y3.symm)).trans y4⟩
structure Kd (ty:TypeId) (pf:FuncId):Prop where
 av:∀ b w,(Instr.typeAssert (.iface ty (.pointer (some ⟨b,0,none⟩))) 180 262 true).run Tryz.prog w=.ok (.tuple #[.pointer none,.bool false]) w
 al:∀ b w,(Instr.typeAssert (.iface ty (.pointer (some ⟨b,0,none⟩))) 180 243 true).run Tryz.prog w=.ok (.tuple #[.pointer none,.bool false]) w
 af:∀ b w,(Instr.typeAssert (.iface ty (.pointer (some ⟨b,0,none⟩))) 180 250 true).run Tryz.prog w=.ok (.tuple #[.pointer none,.bool false]) w
 mt : ∀ b w, (method 427 ty (.pointer (some ⟨b, 0, none⟩)) "Parts").run Tryz.prog w = .ok (pf, .pointer (some ⟨b, 0, none⟩)) w
 cf:∀ b w,(callFunc pf #[.pointer (some ⟨b,0,none⟩)]).run Tryz.prog w=.ok (.enter pf #[.pointer (some ⟨b,0,none⟩)]) w
theorem kdLiteral:Kd 267 206:=⟨fun b w=>by kernel_rfl,fun b w=>by kernel_rfl,fun b w=>by kernel_rfl,fun b w=>by kernel_rfl,fun b w=>by kernel_rfl⟩
theorem kdHole:Kd 265 205:=⟨fun b w=>by kernel_rfl,fun b w=>by kernel_rfl,fun b w=>by kernel_rfl,fun b w=>by kernel_rfl,fun b w=>by kernel_rfl⟩
theorem kdMissing:Kd 240 194:=⟨fun b w=>by kernel_rfl,fun b w=>by kernel_rfl,fun b w=>by kernel_rfl,fun b w=>by kernel_rfl,fun b w=>by kernel_rfl⟩
theorem kdIf:Kd 247 198:=⟨fun b w=>by kernel_rfl,fun b w=>by kernel_rfl,fun b w=>by kernel_rfl,fun b w=>by kernel_rfl,fun b w=>by kernel_rfl⟩
theorem kdBinary:Kd 252 200:=⟨fun b w=>by kernel_rfl,fun b w=>by kernel_rfl,fun b w=>by kernel_rfl,fun b w=>by kernel_rfl,fun b w=>by kernel_rfl⟩
theorem kdCall:Kd 254 201:=⟨fun b w=>by kernel_rfl,fun b w=>by kernel_rfl,fun b w=>by kernel_rfl,fun b w=>by kernel_rfl,fun b w=>by kernel_rfl⟩
theorem kdList:Kd 256 202:=⟨fun b w=>by kernel_rfl,fun b w=>by kernel_rfl,fun b w=>by kernel_rfl,fun b w=>by kernel_rfl,fun b w=>by kernel_rfl⟩
theorem kdGroup:Kd 259 203:=⟨fun b w=>by kernel_rfl,fun b w=>by kernel_rfl,fun b w=>by kernel_rfl,fun b w=>by kernel_rfl,fun b w=>by kernel_rfl⟩
set_option maxRecDepth 100000 in
set_option maxHeartbeats 4000000 in
theorem texpr_kd {ty:TypeId} {pf:FuncId} (hkd:Kd ty pf) (lo hi b:Nat) (es:List X.Ex) (sc:List (List X.Nm)) (bv:Value) (hv:Av L fs.length w0.heap.size lo hi) (hE:∀ (j:Nat) (e:X.Ex),es[j]?=some e→TexOk w0 L fs lo hi e) (hP:Calls Tryz.prog pf #[.pointer (some ⟨b,0,none⟩)] w fun e w'=>∃ rv,e=.returned rv∧Hid (Pts w w' lo hi rv es))
  (h:Run w0 L fs M us w) (hM:MOk fs M) (hId:Idle M) (hbk:IsBk w w0.heap.size bv sc) (hlim:us.length+(X.exUs L.tf (X.topA fs L.tf) sc es).length≤1073741824) :
  Calls Tryz.prog 121 #[.pointer (some ⟨L.tb,0,none⟩),.iface ty (.pointer (some ⟨b,0,none⟩)),bv] w fun en w'=>en=.returned (.tuple #[])∧Hid (Tld w0 L fs (us++X.exUs L.tf (X.topA fs L.tf) sc es) w w'):=by
 have av:=hkd.av b
 have al:=hkd.al b
 have af:=hkd.af b
 have mt:=hkd.mt b
 have cf:=hkd.cf b
 have HP:=hide hP
 have HE:=hide hE
 have HV:=hide hv
 have HI0:Hid (∀ w2 rv,Pts w w2 lo hi rv es→∃ ao cap vs,rv=.slice ao es.length cap∧es.length≤cap∧cap≤maxLen∧InE w w0 L fs us lo hi es ao vs bv sc 0 w2):=fun w2 rv hp=>InE.start hp h hM hId hbk
 clear hP hE hv h hM hId hbk hkd
 go_enter Tryz.func121,Tryz.ntmps121
 go_wp2_with fail
 refine (HP.out).mono ?_
 rintro e w2 ⟨rv,rfl,X2⟩
 obtain ⟨ao,cap,vs,rfl,z2,z3,hI0⟩:=(HI0.out) w2 rv X2.out
 have HI1:=hide hI0
 clear X2 hI0 HI0 HP av al af mt cf
 have hcap:es.length≤9223372036854775807:=by unfold maxLen at z3;omega
 go_wp2_with fail
 go_loopw [59] (fun v wr=>∃ j:Nat,v=.int .i64 j∧j≤es.length∧Hid (InE w w0 L fs us lo hi es ao vs bv sc j wr)) (fun v _=>es.length - (intOf v).toNat)
 case atStart=>exact ⟨0,rfl,Nat.zero_le _,HI1⟩
 case round =>
  obtain ⟨j,rfl,hj,HI⟩:=hrel
  clear HI1
  by_cases hjl:j<es.length
  ·obtain ⟨e,he⟩:∃ e,es[j]?=some e:=⟨es[j],List.getElem?_eq_getElem hjl⟩
   obtain ⟨g,cs,d,hao,y2,y3,y4⟩:=(HI.out).row j hjl
   subst hao
   have hi1:(j:Int)<(es.length:Int):=by omega
   obtain ⟨M1,r1,m1,i1,x1⟩:=(HI.out).tld
   have HC:=hide ((HE.out) j e he M1 _ wr (vs j) bv sc r1 m1 i1 ((HI.out).each j e he) (HI.out).bk (by
    have e2:=X.exUs_take L.tf (X.topA fs L.tf) sc es (j+1)
    rw [X.exUs_snoc he,List.length_append] at e2
    rw [List.length_append];omega))
   obtain ⟨yy,gg,hvs⟩:=((HI.out).each j e he).iface
   rw [hvs] at y4 HC
   clear r1 m1 i1 x1 y3 hvs
   go_wp2_with fail
   refine (HC.out).mono ?_
   rintro en w3 ⟨rfl,X3⟩
   have HI3:=hide ((HI.out).step HV.out he X3.out)
   clear HC X3 HI y4
   go_wp2_with fail
   exact ⟨⟨j+1,by simp,by omega,HI3⟩,by simp [intOf];omega⟩
  ·obtain rfl:j=es.length:=by omega
   have hd1:¬(es.length:Int)<(es.length:Int):=by omega
   have HF:Hid (Tld w0 L fs (us++X.exUs L.tf (X.topA fs L.tf) sc es) w wr):=by
    have:=(HI.out).tld
    rw [List.take_length] at this
    exact this
   clear HI
   go_wp2_with fail
   go_end0
   exact ⟨rfl,HF⟩
end Go.Proofs.YtbmebfgapjhchaaGreatDoor
/- Package scope: the names in any expression. -/
namespace Go.Proofs.YtbmebfgapjhchaaGreatDoor
open Go.RowKit
open M
variable {w0:World} {L:Lay} {fs:List X.Fl} {lo hi:Nat}
mutual
theorem tex_ok (hf:L.tf<fs.length) (hv:Av L fs.length w0.heap.size lo hi):∀ e:X.Ex,X.exB 268435456 e→TexOk w0 L fs lo hi e
 | .lit k x,_=>fun M us w v bv sc h hM hI hE hbk hlim=>by
  cases hE with
  | lit b _ _ hb hc =>
   have e1:X.exU L.tf (X.topA fs L.tf) sc (.lit k x)=X.exUs L.tf (X.topA fs L.tf) sc []:=by rw [X.exU,X.exUs]
   rw [e1] at hlim ⊢
   exact texpr_kd kdLiteral lo hi b [] sc bv hv (fun j e hj=>by simp at hj) ((partsLiteral_any b _).mono (fun e w' h=>⟨_,h.1,by rw [h.2];exact Pts.nil _ _ _⟩)) h hM hI hbk hlim
 | .hole i,_=>fun M us w v bv sc h hM hI hE hbk hlim=>by
  cases hE with
  | hole b _ hb hc =>
   have e1:X.exU L.tf (X.topA fs L.tf) sc (.hole i)=X.exUs L.tf (X.topA fs L.tf) sc []:=by rw [X.exU,X.exUs]
   rw [e1] at hlim ⊢
   exact texpr_kd kdHole lo hi b [] sc bv hv (fun j e hj=>by simp at hj) ((partsHole_any b _).mono (fun e w' h=>⟨_,h.1,by rw [h.2];exact Pts.nil _ _ _⟩)) h hM hI hbk hlim
 | .missing,_=>fun M us w v bv sc h hM hI hE hbk hlim=>by
  cases hE with
  | missing b hb hc =>
   have e1:X.exU L.tf (X.topA fs L.tf) sc .missing=X.exUs L.tf (X.topA fs L.tf) sc []:=by rw [X.exU,X.exUs]
   rw [e1] at hlim ⊢
   exact texpr_kd kdMissing lo hi b [] sc bv hv (fun j e hj=>by simp at hj) ((partsMissing_any b _).mono (fun e w' h=>⟨_,h.1,by rw [h.2];exact Pts.nil _ _ _⟩)) h hM hI hbk hlim
 | .var n,hB=>fun M us w v bv sc h hM hI hE hbk hlim=>by
  rw [X.exB] at hB
  cases hE with
  | var b _ hb hc=>exact texprVar b n sc bv hf hB hc h hM hI hbk hlim
 | .lett n e1 e2,hB=>fun M us w v bv sc h hM hI hE hbk hlim=>by
  rw [X.exB] at hB
  cases hE with
  | lett b _ v1 v2 _ _ hb hc q1 q2=>exact texprLet lo hi b n v1 v2 e1 e2 sc bv hv (tex_ok hf hv e1 hB.2.1) (tex_ok hf hv e2 hB.2.2) hB.1 hb hc q1 q2 h hM hI hbk hlim
 | .ite a b c,hB=>fun M us w v bv sc h hM hI hE hbk hlim=>by
  rw [X.exB] at hB
  have ha:=tex_ok hf hv a hB.1
  have hb':=tex_ok hf hv b hB.2.1
  have hc':=tex_ok hf hv c hB.2.2
  cases hE with
  | ite p v1 v2 v3 _ _ _ hb hc q1 q2 q3 =>
   have e1:X.exU L.tf (X.topA fs L.tf) sc (.ite a b c)=X.exUs L.tf (X.topA fs L.tf) sc [a,b,c]:=by rw [X.exU,X.exUs,X.exUs,X.exUs,X.exUs,List.append_nil]
   rw [e1] at hlim ⊢
   refine texpr_kd kdIf lo hi p [a,b,c] sc bv hv (fun j e hj=>?_) ((partsIf_any p v1 v2 v3 a b c _ lo hi hc q1 q2 q3).mono (fun e w' h=>h)) h hM hI hbk hlim
   match j with
   | 0=>simp at hj;subst hj;exact ha
   | 1=>simp at hj;subst hj;exact hb'
   | 2=>simp at hj;subst hj;exact hc'
   | j+3=>simp at hj
 | .fn ns e,hB=>fun M us w v bv sc h hM hI hE hbk hlim=>by
  rw [X.exB] at hB
  cases hE with
  | fn b pb _ v1 _ hb hc hp q1=>exact texprFun lo hi b pb ns v1 e sc bv hv (tex_ok hf hv e hB.2) hB.1 hb hc hp q1 h hM hI hbk hlim
 | .bin l x r,hB=>fun M us w v bv sc h hM hI hE hbk hlim=>by
  rw [X.exB] at hB
  have ha:=tex_ok hf hv l hB.1
  have hb':=tex_ok hf hv r hB.2
  cases hE with
  | bin p v1 v2 _ _ _ hb hc q1 q2 =>
   have e1:X.exU L.tf (X.topA fs L.tf) sc (.bin l x r)=X.exUs L.tf (X.topA fs L.tf) sc [l,r]:=by rw [X.exU,X.exUs,X.exUs,X.exUs,List.append_nil]
   rw [e1] at hlim ⊢
   refine texpr_kd kdBinary lo hi p [l,r] sc bv hv (fun j e hj=>?_) ((partsBinary_any p x v1 v2 l r _ lo hi hc q1 q2).mono (fun e w' h=>h)) h hM hI hbk hlim
   match j with
   | 0=>simp at hj;subst hj;exact ha
   | 1=>simp at hj;subst hj;exact hb'
   | j+2=>simp at hj
 | .call g gs,hB=>fun M us w v bv sc h hM hI hE hbk hlim=>by
  rw [X.exB] at hB
  have ha:=tex_ok hf hv g hB.1
  have hs:=texs_ok hf hv gs hB.2.2
  cases hE with
  | call p v1 _ ao cap vs _ hb hc hcap q1 hr hp =>
   have e1:X.exU L.tf (X.topA fs L.tf) sc (.call g gs)=X.exUs L.tf (X.topA fs L.tf) sc (g::gs):=by rw [X.exU,X.exUs]
   rw [e1] at hlim ⊢
   refine texpr_kd kdCall lo hi p (g::gs) sc bv hv (fun j e hj=>?_) ((partsCall_any p v1 g ao cap vs gs _ lo hi hc q1 hr hp hB.2.1).mono (fun e w' h=>h)) h hM hI hbk hlim
   match j with
   | 0=>simp at hj;subst hj;exact ha
   | j+1=>exact hs j e (by simpa using hj)
 | .list l,hB=>fun M us w v bv sc h hM hI hE hbk hlim=>by
  rw [X.exB] at hB
  have hs:=texs_ok hf hv l hB.2
  cases hE with
  | list p ao cap vs _ hb hc hcap hr hp =>
   have e1:X.exU L.tf (X.topA fs L.tf) sc (.list l)=X.exUs L.tf (X.topA fs L.tf) sc l:=by rw [X.exU]
   rw [e1] at hlim ⊢
   exact texpr_kd kdList lo hi p l sc bv hv hs ((partsList_any p ao cap vs l _ lo hi hc hr hp hB.1).mono (fun e w' h=>h)) h hM hI hbk hlim
 | .group e0,hB=>fun M us w v bv sc h hM hI hE hbk hlim=>by
  rw [X.exB] at hB
  have ha:=tex_ok hf hv e0 hB
  cases hE with
  | group p v1 _ hb hc q1 =>
   have e1:X.exU L.tf (X.topA fs L.tf) sc (.group e0)=X.exUs L.tf (X.topA fs L.tf) sc [e0]:=by rw [X.exU,X.exUs,X.exUs,List.append_nil]
   rw [e1] at hlim ⊢
   refine texpr_kd kdGroup lo hi p [e0] sc bv hv (fun j e hj=>?_) ((partsGroup_any p v1 e0 _ lo hi hc q1).mono (fun e w' h=>h)) h hM hI hbk hlim
   match j with
   | 0=>simp at hj;subst hj;exact ha
   | j+1=>simp at hj
theorem texs_ok (hf:L.tf<fs.length) (hv:Av L fs.length w0.heap.size lo hi):∀ es:List X.Ex,X.exBs 268435456 es→∀ (j:Nat) (e:X.Ex),es[j]?=some e→TexOk w0 L fs lo hi e
 | [],_=>fun j e hj=>by simp at hj
 | a::es,hB=>fun j e hj=>by
  rw [X.exBs] at hB
  have ha:=tex_ok hf hv a hB.1
  have hs:=texs_ok hf hv es hB.2
  match j with
  | 0=>simp at hj;subst hj;exact ha
  | j+1=>exact hs j e (by simpa using hj)
end
end Go.Proofs.YtbmebfgapjhchaaGreatDoor
/- Package scope: the names of a def. -/
namespace Go.Proofs.YtbmebfgapjhchaaGreatDoor
open Go.RowKit
open M
variable {w0:World} {L:Lay} {fs:List X.Fl} {M:Mem} {us:List X.U} {w:World}
theorem tparams_none (pa:Option Addr) (w:World) (tv:Value) :
  Calls Tryz.prog 122 #[tv,.pointer none,.pointer pa] w fun e w'=>e=.returned (.pointer pa)∧Below w.heap.size w w':=by
 go_enter Tryz.func122,Tryz.ntmps122
 go_wp2_with fail
 go_ret
 exact ⟨rfl,Below.refl _ w⟩
def defC (pub:Bool) (n:X.Nm) (pv v:Value) (fr tt:Int):Obj:=.cells #[.bool pub,.string (ba n.1),.int .i64 n.2,pv,v,.int .i64 fr,.int .i64 tt] 182 (0,0)
set_option maxRecDepth 100000 in
set_option maxHeartbeats 8000000 in
theorem tinner_of (lo hi db:Nat) (pub:Bool) (n:X.Nm) (pa:Option Addr) (y g:Nat) (fr tt:Int) (e1:X.Ex) (sc:List (List X.Nm)) (pu eu:List X.U) (hv:Av L fs.length w0.heap.size lo hi) (hb:lo≤db∧db<hi) (hub:w0.heap[db]?=some (defC pub n (.pointer pa) (.iface y (.pointer (some ⟨g,0,none⟩))) fr tt)) (hE:IsE w0 lo hi (.iface y (.pointer (some ⟨g,0,none⟩))) e1) (h:Run w0 L fs M us w)
  (hC2:∀ w:World,Run w0 L fs M us w→Calls Tryz.prog 122 #[.pointer (some ⟨L.tb,0,none⟩),.pointer pa,.pointer none] w fun e w'=>∃ b,e=.returned (.pointer b)∧Hid (Run w0 L fs M (us++pu) w'∧Kx L fs.length w0.heap.size w w'∧IsBk w' w0.heap.size (.pointer b) sc))
  (hC3:∀ (w:World) (b:Option Addr),Run w0 L fs M (us++pu) w→IsE w lo hi (.iface y (.pointer (some ⟨g,0,none⟩))) e1→IsBk w w0.heap.size (.pointer b) sc→Calls Tryz.prog 121 #[.pointer (some ⟨L.tb,0,none⟩),.iface y (.pointer (some ⟨g,0,none⟩)),.pointer b] w fun en w'=>en=.returned (.tuple #[])∧Hid (Tld w0 L fs ((us++pu)++eu) w w')) :
  Calls Tryz.prog 94 #[.pointer (some ⟨L.tb,0,none⟩),.pointer (some ⟨db,0,none⟩)] w fun e w'=>e=.returned (.tuple #[])∧Hid (Tld w0 L fs (us++(pu++eu)) w w'):=by
 have hus:=hv.av db hb.1 hb.2
 have hu1:=h.kp.heap hub hus
 have u3:w.cell? ⟨db,3,none⟩=some (.pointer pa):=cell_of_row _ _ 3 _ _ _ hu1
 have u4:w.cell? ⟨db,4,none⟩=some (.iface y (.pointer (some ⟨g,0,none⟩))):=cell_of_row _ _ 4 _ _ _ hu1
 have HCP:=hide (hC2 w.drew (h.below ((Below.refl _ w).drew)))
 have HC3:=hide hC3
 have HV:=hide hv
 have HU:=hide hub
 have HE:=hide hE
 have HUS:=hide hus
 clear h hC2 hC3 hu1 hv hub hE hus
 go_enter Tryz.func94,Tryz.ntmps94
 go_wp2_with fail
 refine wpTo_start (S:=fun w'=>w'.cell? ⟨db,3,none⟩=some (.pointer pa)∧w'.cell? ⟨db,4,none⟩=some (.iface y (.pointer (some ⟨g,0,none⟩)))) (z:=12) (by kernel_rfl) ?_
 have hS:w.drew.cell? ⟨db,3,none⟩=some (.pointer pa)∧w.drew.cell? ⟨db,4,none⟩=some (.iface y (.pointer (some ⟨g,0,none⟩))):=⟨u3,u4⟩
 iterate 10 (refine wpTo_nx (v:=?_) rfl rfl (by kernel_rfl) (by decide) (by kernel_rfl) (by kernel_rfl) (fun _ _ _ h=>h) (Or.inl ⟨by rfl,?_⟩) hS ?_;rotate_left;(· (intro wx hSw;(try dsimp only at hSw);go_simp;try (with_reducible rfl)));simp only [Act.put,List.setIfInBounds_toArray,List.set_cons_zero,List.set_cons_succ])
 refine wpTo_one (i:=10) (by kernel_rfl) rfl (fun K hK=>?_)
 go_simp
 refine (HCP.out).mono ?_
 rintro e w4 ⟨pb4,rfl,X4⟩
 have r4:=(X4.out).1
 have x4:=(X4.out).2.1
 have hu4:=r4.kp.heap HU.out HUS.out
 have HX:=hide ((HC3.out) w4 pb4 r4 ((HE.out).keep r4.kp (HV.out).av) (X4.out).2.2)
 dsimp only
 refine hK.out _ _ (fun _=>⟨cell_of_row w4 _ 3 _ _ _ hu4,cell_of_row w4 _ 4 _ _ _ hu4⟩) (fun hS2=>?_)
 clear hS hK K
 have hS:=hS2 (by decide)
 clear hS2
 refine wpTo_one (i:=11) (by kernel_rfl) rfl (fun K hK=>?_)
 go_simp
 refine (HX.out).mono ?_
 rintro e w5 ⟨rfl,X5⟩
 obtain ⟨M5,r5,m5,i5,x5⟩:=X5.out
 have hu5:=r5.kp.heap HU.out HUS.out
 have HF:Hid (Tld w0 L fs (us++(pu++eu)) w w5):=by
  refine ⟨M5,?_,m5,i5,(((Kx.refl _ _ _ w).drew).trans x4).trans x5⟩
  simpa [List.append_assoc] using r5
 dsimp only
 refine hK.out _ _ (fun _=>⟨cell_of_row w5 _ 3 _ _ _ hu5,cell_of_row w5 _ 4 _ _ _ hu5⟩) (fun _=>wpTo_end (by kernel_rfl) ?_)
 clear hK K hS X4 X5 r4 x4 hu4 r5 m5 i5 x5 hu5 HX HC3 HCP
 go_wp2_with fail
 go_end0
 exact ⟨rfl,HF⟩
set_option maxRecDepth 100000 in
set_option maxHeartbeats 8000000 in
theorem tdef_of (k db:Nat) (n:X.Nm) (tw:Nat) (iu:List X.U) (hus:¬ L.S fs.length db) (hub:∃ pub pv v fr tt,w0.heap[db]?=some (defC pub n pv v fr tt)) (h:Run w0 L fs M us w)
  (hC1:∀ w:World,Run w0 L fs M us w→Calls Tryz.prog 91 #[.pointer (some ⟨L.tb,0,none⟩),.int .i64 k] w fun e w'=>e=.returned (.int .i64 tw)∧Below w.heap.size w w')
  (hC2:∀ w:World,Run w0 L fs M (us++X.ownU L.tf n 0 tw) w→Calls Tryz.prog 94 #[.pointer (some ⟨L.tb,0,none⟩),.pointer (some ⟨db,0,none⟩)] w fun en w'=>en=.returned (.tuple #[])∧Hid (Tld w0 L fs ((us++X.ownU L.tf n 0 tw)++iu) w w'))
  (hlim:us.length+(X.ownU L.tf n 0 tw).length≤1073741824) :
  Calls Tryz.prog 65 #[.pointer (some ⟨L.tb,0,none⟩),.int .i64 k,.pointer (some ⟨db,0,none⟩)] w fun e w'=>e=.returned (.tuple #[])∧Hid (Tld w0 L fs (us++(X.ownU L.tf n 0 tw++iu)) w w'):=by
 obtain ⟨pub,pv,v,fr,tt,hub⟩:=hub
 have hu1:=h.kp.heap hub hus
 have u1:w.cell? ⟨db,1,none⟩=some (.string (ba n.1)):=cell_of_row _ _ 1 _ _ _ hu1
 have u2:w.cell? ⟨db,2,none⟩=some (.int .i64 n.2):=cell_of_row _ _ 2 _ _ _ hu1
 have HCT:=hide (hC1 w.drew (h.below ((Below.refl _ w).drew)))
 have HC2:=hide hC2
 have HU:=hide hub
 have HUS:=hide hus
 have HR:=hide h
 clear h hC1 hC2 hu1 hub hus
 go_enter Tryz.func65,Tryz.ntmps65
 go_wp2_with fail
 refine wpTo_start (S:=fun w'=>w'.cell? ⟨db,1,none⟩=some (.string (ba n.1))∧w'.cell? ⟨db,2,none⟩=some (.int .i64 n.2)) (z:=9) (by kernel_rfl) ?_
 have hS:w.drew.cell? ⟨db,1,none⟩=some (.string (ba n.1))∧w.drew.cell? ⟨db,2,none⟩=some (.int .i64 n.2):=⟨u1,u2⟩
 iterate 7 (refine wpTo_nx (v:=?_) rfl rfl (by kernel_rfl) (by decide) (by kernel_rfl) (by kernel_rfl) (fun _ _ _ h=>h) (Or.inl ⟨by rfl,?_⟩) hS ?_;rotate_left;(· (intro wx hSw;(try dsimp only at hSw);go_simp;try (with_reducible rfl)));simp only [Act.put,List.setIfInBounds_toArray,List.set_cons_zero,List.set_cons_succ])
 refine wpTo_one (i:=7) (by kernel_rfl) rfl (fun K hK=>?_)
 go_simp
 refine (HCT.out).mono ?_
 rintro e w2 ⟨rfl,B2⟩
 have hR2:=(HR.out).below (((Below.refl _ w).drew).trans B2)
 have hu2:=hR2.kp.heap HU.out HUS.out
 have HO:=hide (town_any n 0 tw hR2 hlim)
 dsimp only
 refine hK.out _ _ (fun _=>⟨cell_of_row w2 _ 1 _ _ _ hu2,cell_of_row w2 _ 2 _ _ _ hu2⟩) (fun hS2=>?_)
 clear hS hK K
 have hS:=hS2 (by decide)
 clear hS2
 refine wpTo_one (i:=8) (by kernel_rfl) rfl (fun K hK=>?_)
 go_simp
 refine (HO.out).mono ?_
 rintro e w3 ⟨rfl,X3⟩
 have hu3:=(X3.out).1.kp.heap HU.out HUS.out
 have KX3:Hid (Kx L fs.length w0.heap.size w w3):=(Kx.ofBelow (((Below.refl _ w).drew).trans B2)).trans (X3.out).2
 have HI:=hide ((HC2.out) w3 (X3.out).1)
 dsimp only
 refine hK.out _ _ (fun _=>⟨cell_of_row w3 _ 1 _ _ _ hu3,cell_of_row w3 _ 2 _ _ _ hu3⟩) (fun _=>wpTo_end (by kernel_rfl) ?_)
 clear hK K hS X3 hu3 hu2 hR2 B2 HO HC2 HCT HR u1 u2
 go_wp2_with fail
 refine (HI.out).mono ?_
 rintro e w5 ⟨rfl,X5⟩
 have HF:Hid (Tld w0 L fs (us++(X.ownU L.tf n 0 tw++iu)) w w5):=by
  obtain ⟨M5,r5,m5,i5,x5⟩:=X5.out
  refine ⟨M5,?_,m5,i5,(KX3.out).trans x5⟩
  simpa [List.append_assoc] using r5
 clear X5 HI KX3
 go_wp2_with fail
 go_end0
 exact ⟨rfl,HF⟩
theorem tdef_any (k lo hi db:Nat) (pub:Bool) (n:X.Nm) (pv v:Value) (fr tt:Int) (ps:Option (List X.Nm)) (e1:X.Ex) (hk:(X.itemsOf fs L.tf)[k]?=some (.dfn pub n ps e1)) (hv:Av L fs.length w0.heap.size lo hi) (hb:lo≤db∧db<hi) (hub:w0.heap[db]?=some (defC pub n pv v fr tt)) (hp:IsPv w0 lo hi pv ps) (hE:IsE w0 lo hi v e1) (h:Run w0 L fs M us w) (hM:MOk fs M) (hId:Idle M) (hlim:us.length+(X.itU fs L.tf k (.dfn pub n ps e1)).length≤1073741824) :
  Calls Tryz.prog 65 #[.pointer (some ⟨L.tb,0,none⟩),.int .i64 k,.pointer (some ⟨db,0,none⟩)] w fun e w'=>e=.returned (.tuple #[])∧Hid (Tld w0 L fs (us++X.itU fs L.tf k (.dfn pub n ps e1)) w w'):=by
 obtain ⟨hnB,hpB,heB⟩:=h.itB hk
 obtain ⟨y,g,rfl⟩:=hE.iface
 have hf:=(item_lt hk).1
 have hC1:=fun (w:World) (h:Run w0 L fs M us w)=>ttwice_any k _ hk h
 rcases hp with ⟨rfl,rfl⟩|⟨ns,pb,rfl,rfl,hpar⟩
 ·have hul:X.itU fs L.tf k (.dfn pub n none e1)=X.ownU L.tf n 0 (X.twiceE (X.itemsOf fs L.tf) k n.1)++([]++X.exU L.tf (X.topA fs L.tf) [] e1):=rfl
  rw [hul] at hlim ⊢
  rw [List.length_append,List.length_append] at hlim
  refine tdef_of k db n _ _ (hv.av db hb.1 hb.2) ⟨_,_,_,_,_,hub⟩ h hC1 (fun w h=>tinner_of lo hi db pub n none y g fr tt e1 [] [] _ hv hb hub hE h (fun w h=>(tparams_none none w _).mono ?_) (fun w b hr he hbk=>?_)) (by omega)
  ·rintro e w' ⟨rfl,hB⟩
   exact ⟨none,rfl,by rw [List.append_nil];exact h.below hB,Kx.ofBelow hB,.nil⟩
  ·rw [List.append_nil] at hr ⊢
   exact tex_ok hf hv e1 heB M _ w _ _ [] hr hM hId he hbk (by rw [List.length_append];omega)
 ·have hul:X.itU fs L.tf k (.dfn pub n (some ns) e1)=X.ownU L.tf n 0 (X.twiceE (X.itemsOf fs L.tf) k n.1)++(X.parU L.tf [] ns++X.exU L.tf (X.topA fs L.tf) [ns] e1):=rfl
  rw [hul] at hlim ⊢
  rw [List.length_append,List.length_append] at hlim
  refine tdef_of k db n _ _ (hv.av db hb.1 hb.2) ⟨_,_,_,_,_,hub⟩ h hC1 (fun w h=>tinner_of lo hi db pub n (some ⟨pb,0,none⟩) y g fr tt e1 [ns] _ _ hv hb hub hE h (fun w h=>(tparams_any lo hi pb ns (.pointer none) [] hv (hpar.keep h.kp hv.av) hpB h .nil (by rw [List.length_append];omega)).mono ?_) (fun w b hr he hbk=>?_)) (by omega)
  ·rintro e w' ⟨b,rfl,H⟩
   exact ⟨_,rfl,H⟩
  ·exact tex_ok hf hv e1 heB M _ w _ _ [ns] hr hM hId he hbk (by rw [List.length_append,List.length_append];omega)
end Go.Proofs.YtbmebfgapjhchaaGreatDoor
/- Package scope: the names of a use. -/
namespace Go.Proofs.YtbmebfgapjhchaaGreatDoor
open Go.RowKit
open M
variable {w0:World} {L:Lay} {fs:List X.Fl} {M:Mem} {us:List X.U} {w:World}
theorem Run.one (h:Run w0 L fs M us w) {w':World} {b:Nat} {o:Obj} (hk:Kp (fun q=>q=b) w w') (hb:w0.heap.size≤b) (ho:w.heap[b]?=some o) (hn:∀ cs d,o≠.cells cs 36 d):Run w0 L fs M us w':=by
 refine ⟨h.st,h.kp.trans hk (fun i hi e=>by omega),?_,fun i hi=>?_,h.lim⟩
 ·obtain ⟨nv,h1,h2⟩:=h.tl
  refine ⟨nv,hk.heap h1 (fun e=>by have:=h.st.wl;omega),hk.owns h2 (fun q hq e=>?_)⟩
  rcases h2.2 with ⟨rfl,-⟩|⟨g',cap',cur,rfl,hge,hgg,-⟩
  ·cases hq
  ·cases hq
   have e':g'=b:=e
   rw [e',ho] at hgg
   exact hn _ _ (Option.some.inj hgg)
 ·obtain ⟨arr,x1,x2⟩:=h.fd i hi
  exact ⟨arr,hk.heap x1 (fun e=>by have:=(h.st.gl i hi).1;omega),x2⟩
theorem wpTo_two {P:Program} {ops:Array Oper} {Q:Exit→Act→World→Prop} {S:World→Prop} {z i k:Nat} {o u:Oper} {n:Nat} {d:Array Bool} {a:Act} {w:World} (hr:Region.ready .any ops d=[i,k]) (ho:ops[i]?=some o) (hu:ops[k]?=some u)
  (h:∀ K:Act→World→Prop,Hid (∀ a' w',(i≠z→S w')→((i≠z→S w')→wpTo P ops Q S z n (d.setIfInBounds i true) a' w')→K a' w')→if Region.wanted o (yielded ops a.tmps)=true then Oper.wp P o a w K Q else K (a.put o.dst undef) w)
  (h':∀ K:Act→World→Prop,Hid (∀ a' w',(k≠z→S w')→((k≠z→S w')→wpTo P ops Q S z n (d.setIfInBounds k true) a' w')→K a' w')→if Region.wanted u (yielded ops a.tmps)=true then Oper.wp P u a w K Q else K (a.put u.dst undef) w):wpTo P ops Q S z (n+1) d a w:=by
 refine ⟨fun h0=>(by rw [hr] at h0;cases h0),fun j hj=>?_⟩
 rw [hr] at hj
 rcases List.mem_cons.1 hj with rfl|hj
 ·exact wpOp_step ho (fun K' hK=>h K' (fun a' w' h1 h2=>hK a' w' ⟨h1,h2 h1⟩))
 ·obtain rfl:j=k:=by simpa using hj
  exact wpOp_step hu (fun K' hK=>h' K' (fun a' w' h1 h2=>hK a' w' ⟨h1,h2 h1⟩))
set_option maxRecDepth 100000 in
set_option maxHeartbeats 8000000 in
theorem tuse_of (k lo hi ub:Nat) (pub gs:Bool) (m n a:X.Nm) (tm:List X.U) (tf tt:Int) (er tw er2:Nat) (hv:Av L fs.length w0.heap.size lo hi) (hb:lo≤ub∧ub<hi) (hub:w0.heap[ub]?=some (useC pub gs m n a)) (h:Run w0 L fs M us w)
  (hC1:∀ w:World,Run w0 L fs M us w→Calls Tryz.prog 89 #[.pointer (some ⟨L.tb,0,none⟩),.agg #[.string (ba m.1),.int .i64 m.2]] w fun e w'=>e=.returned (.tuple #[])∧Hid (Run w0 L fs M (us++tm) w'∧Kx L fs.length w0.heap.size w w'))
  (hC2:∀ w:World,Run w0 L fs M (us++tm) w→Calls Tryz.prog 90 #[.pointer (some ⟨L.wb,0,none⟩),.int .i64 L.tf,.int .i64 k,.pointer (some ⟨ub,0,none⟩)] w fun e w'=>e=.returned (.agg #[.int .i64 2,.int .i64 tf,.int .i64 tt,.int .i64 er])∧Hid (∃ M',Run w0 L fs M' (us++tm) w'∧MOk fs M'∧Idle M'∧Kx L fs.length w0.heap.size w w'))
  (hC3:∀ (M:Mem) (w:World),Run w0 L fs M (us++tm) w→Calls Tryz.prog 91 #[.pointer (some ⟨L.tb,0,none⟩),.int .i64 k] w fun e w'=>e=.returned (.int .i64 tw)∧Below w.heap.size w w')
  (he:er2=if er=0∧gs=false then tw else er)
  (hlim:us.length+tm.length+(X.tellU L.tf n 4 (tf,tt,er2)).length+(X.tellU L.tf a 5 (tf,tt,tw)).length≤1073741824) :
  Calls Tryz.prog 64 #[.pointer (some ⟨L.tb,0,none⟩),.int .i64 k,.pointer (some ⟨ub,0,none⟩)] w fun e w'=>e=.returned (.tuple #[])∧Hid (Tld w0 L fs (us++(tm++(X.tellU L.tf n 4 (tf,tt,er2)++X.tellU L.tf a 5 (tf,tt,tw)))) w w'):=by
 have h0:=h.size
 have hSl:=h.st.lt
 have hu1:=h.kp.heap hub (hv.av ub hb.1 hb.2)
 have u1:w.cell? ⟨ub,1,none⟩=some (.string (ba m.1)):=cell_of_row _ _ 1 _ _ _ hu1
 have u2:w.cell? ⟨ub,2,none⟩=some (.int .i64 m.2):=cell_of_row _ _ 2 _ _ _ hu1
 have HC1:=hide (hC1 w h)
 have HC2:=hide hC2
 have HC3:=hide hC3
 have HU:=hide hub
 have HUS:=hide ((hv.av ub hb.1 hb.2))
 clear h hC1 hC2 hC3 hu1 hv hub
 go_enter Tryz.func64,Tryz.ntmps64
 go_wp2_with fail
 refine (HC1.out).mono ?_
 rintro e w2 ⟨rfl,X2⟩
 have HR2:=hide (X2.out).1
 have KX2:=hide (X2.out).2
 obtain ⟨nv2,t0,t1,-⟩:=(HR2.out).cells
 clear X2 u1 u2 HC1
 go_upto_region 1 with fail
 go_cut [6] (fun v wx=>∃ (b:Nat) (M3:Mem),v=.pointer (some ⟨b,0,none⟩)∧Hid (w0.heap.size≤b∧w.heap.size≤b∧wx.heap[b]?=some (.cells #[.int .i64 2,.int .i64 tf,.int .i64 tt,.int .i64 er] 205 (0,0))∧Run w0 L fs M3 (us++tm) wx∧MOk fs M3∧Idle M3∧Kx L fs.length w0.heap.size w wx))
 case first =>
  have k2:=(HR2.out).size
  have kw2:w.heap.size≤w2.heap.size:=Kp.size KX2.out
  have HSt:Hid (∀ (Wa:World) (b:Nat) (M3:Mem),w0.heap.size≤b→w.heap.size≤b→Wa.heap[b]?=some (.cells #[.int .i64 0,.int .i64 0,.int .i64 0,.int .i64 0] 205 (0,0))→Run w0 L fs M3 (us++tm) Wa→MOk fs M3→Idle M3→Kx L fs.length w0.heap.size w Wa→w0.heap.size≤b∧w.heap.size≤b∧((((Wa.setCell ⟨b,0,none⟩ (.int .i64 2)).setCell ⟨b,1,none⟩ (.int .i64 tf)).setCell ⟨b,2,none⟩ (.int .i64 tt)).setCell ⟨b,3,none⟩ (.int .i64 er)).heap[b]?=some (.cells #[.int .i64 2,.int .i64 tf,.int .i64 tt,.int .i64 er] 205 (0,0))∧Run w0 L fs M3 (us++tm) ((((Wa.setCell ⟨b,0,none⟩ (.int .i64 2)).setCell ⟨b,1,none⟩ (.int .i64 tf)).setCell ⟨b,2,none⟩ (.int .i64 tt)).setCell ⟨b,3,none⟩ (.int .i64 er))∧MOk fs M3∧Idle M3∧Kx L fs.length w0.heap.size w ((((Wa.setCell ⟨b,0,none⟩ (.int .i64 2)).setCell ⟨b,1,none⟩ (.int .i64 tf)).setCell ⟨b,2,none⟩ (.int .i64 tt)).setCell ⟨b,3,none⟩ (.int .i64 er))):=fun Wa b M3 hb0 hbw hz hr hm hi hk=>by
   have k4:Kp (fun q=>q=b) Wa ((((Wa.setCell ⟨b,0,none⟩ (.int .i64 2)).setCell ⟨b,1,none⟩ (.int .i64 tf)).setCell ⟨b,2,none⟩ (.int .i64 tt)).setCell ⟨b,3,none⟩ (.int .i64 er)):=On.set (On.set (On.set (On.set (Kp.refl _ Wa) 0 _) 1 _) 2 _) 3 _
   exact ⟨hb0,hbw,set4_own hz,hr.one k4 hb0 hz (fun cs d e=>by cases e),hm,hi,Kp.trans hk k4 (fun i hi e=>by omega)⟩
  go_wp2_with fail
  refine wpTo_start (S:=fun w'=>w'.cell? ⟨L.tb,0,none⟩=some (.pointer (some ⟨L.wb,0,none⟩))∧w'.cell? ⟨L.tb,1,none⟩=some (.int .i64 L.tf)) (z:=12) (by kernel_rfl) ?_
  have hS:w2.drew.cell? ⟨L.tb,0,none⟩=some (.pointer (some ⟨L.wb,0,none⟩))∧w2.drew.cell? ⟨L.tb,1,none⟩=some (.int .i64 L.tf):=⟨t0,t1⟩
  iterate 10 (refine wpTo_nx0 (v:=?_) rfl rfl (by kernel_rfl) (by kernel_rfl) (by kernel_rfl) (by kernel_rfl) (fun _ _ _ h=>h) (Or.inl ⟨by rfl,?_⟩) hS ?_;rotate_left;(· (intro wx hSw;(try dsimp only at hSw);go_simp;try (with_reducible rfl)));simp only [Act.put,List.setIfInBounds_toArray,List.set_cons_zero,List.set_cons_succ])
  refine wpTo_two (i:=10) (k:=11) (by kernel_rfl) rfl rfl (fun K hK=>?_) (fun K hK=>?_)
  ·go_simp
   refine ((HC2.out) w2.drew ((HR2.out).below (Below.refl _ w2).drew)).mono ?_
   rintro e w3 ⟨rfl,X3⟩
   obtain ⟨M3,r3,m3,i3,x3⟩:=X3.out
   obtain ⟨nv3,v0,v1,-⟩:=r3.cells
   dsimp only
   refine hK.out _ _ (fun _=>⟨v0,v1⟩) (fun hS2=>?_)
   clear hS hK K
   have hS:=hS2 (by decide)
   clear hS2
   refine wpTo_one (i:=11) (by kernel_rfl) rfl (fun K hK=>?_)
   go_simp
   have hZ:=heap_alloc_new w3 (.cells #[.int .i64 0,.int .i64 0,.int .i64 0,.int .i64 0] 205)
   have hRa:=r3.alloc (.cells #[.int .i64 0,.int .i64 0,.int .i64 0,.int .i64 0] 205)
   have hKa:Kx L fs.length w0.heap.size w (w3.alloc (.cells #[.int .i64 0,.int .i64 0,.int .i64 0,.int .i64 0] 205)):=((((KX2.out).drew).trans x3).alloc _)
   have hw3:w.heap.size≤w3.heap.size:=Kp.size (((KX2.out).drew).trans x3)
   have h03:=r3.size
   refine hK.out _ _ (fun _=>⟨Lib.cell?_alloc_some _ v0,Lib.cell?_alloc_some _ v1⟩) (fun hS2=>?_)
   clear hS hK K
   have hS:=hS2 (by decide)
   clear hS2
   generalize w3.alloc (.cells #[.int .i64 0,.int .i64 0,.int .i64 0,.int .i64 0] 205)=Wa at *
   generalize w3.heap.size=b at *
   have e0:=cell_of_row Wa _ 0 _ _ _ hZ
   have e1:=cell_of_row Wa _ 1 _ _ _ hZ
   have e2:=cell_of_row Wa _ 2 _ _ _ hZ
   have e3:=cell_of_row Wa _ 3 _ _ _ hZ
   have q0:=frzB hZ 0
   have q1:=frzB hZ 1
   have q2:=frzB hZ 2
   have q3:=frzB hZ 3
   have HG:=hide ((HSt.out) Wa _ M3 (by omega) (by omega) hZ hRa m3 i3 hKa)
   have HM:Hid (MOk fs M3∧Idle M3):=⟨m3,i3⟩
   clear hZ hRa hKa X3 r3 m3 i3 x3 HSt
   refine wpTo_one (i:=12) (by kernel_rfl) rfl (fun K hK=>?_)
   go_simp
   refine hK.out _ _ (fun h=>absurd rfl h) (fun _=>wpTo_end (by kernel_rfl) ?_)
   clear hK K hS e0 e1 e2 e3 q0 q1 q2 q3
   go_wp2_with fail
   go_meet
   exact ⟨_,M3,rfl,HG⟩
  ·go_simp
   refine hK.out _ _ (fun _=>⟨Lib.cell?_alloc_some _ t0,Lib.cell?_alloc_some _ t1⟩) (fun hS2=>?_)
   clear hS hK K
   have hS:=hS2 (by decide)
   clear hS2
   have hZ0:=heap_alloc_new w2 (.cells #[.int .i64 0,.int .i64 0,.int .i64 0,.int .i64 0] 205)
   have hRz:Run w0 L fs M (us++tm) (w2.alloc (.cells #[.int .i64 0,.int .i64 0,.int .i64 0,.int .i64 0] 205)).drew:=(HR2.out).below (((Below.refl _ w2).alloc (Nat.le_refl _) _).drew)
   refine wpTo_one (i:=10) (by kernel_rfl) rfl (fun K hK=>?_)
   go_simp
   refine ((HC2.out) _ hRz).mono ?_
   rintro e w3 ⟨rfl,X3⟩
   obtain ⟨M3,r3,m3,i3,x3⟩:=X3.out
   obtain ⟨nv3,v0,v1,-⟩:=r3.cells
   have hZ:=x3.made (b:=w2.heap.size) hSl hZ0 k2 (fun cs d e=>by cases e)
   have hRa:=r3
   have hKa:Kx L fs.length w0.heap.size w w3:=(((KX2.out).alloc _).drew).trans x3
   dsimp only
   refine hK.out _ _ (fun _=>⟨v0,v1⟩) (fun hS2=>?_)
   clear hS hK K hZ0 hRz
   have hS:=hS2 (by decide)
   clear hS2
   have e0:=cell_of_row w3 _ 0 _ _ _ hZ
   have e1:=cell_of_row w3 _ 1 _ _ _ hZ
   have e2:=cell_of_row w3 _ 2 _ _ _ hZ
   have e3:=cell_of_row w3 _ 3 _ _ _ hZ
   have q0:=frzB hZ 0
   have q1:=frzB hZ 1
   have q2:=frzB hZ 2
   have q3:=frzB hZ 3
   have HG:=hide ((HSt.out) w3 _ M3 (by omega) (by omega) hZ hRa m3 i3 hKa)
   have HM:Hid (MOk fs M3∧Idle M3):=⟨m3,i3⟩
   clear hZ hRa hKa X3 r3 m3 i3 x3 HSt
   refine wpTo_one (i:=12) (by kernel_rfl) rfl (fun K hK=>?_)
   go_simp
   refine hK.out _ _ (fun h=>absurd rfl h) (fun _=>wpTo_end (by kernel_rfl) ?_)
   clear hK K hS e0 e1 e2 e3 q0 q1 q2 q3
   go_wp2_with fail
   go_meet
   exact ⟨_,M3,rfl,HG⟩
 case rest =>
  obtain ⟨b,M3,rfl,HX⟩:=hcut
  have h0b:=(HX.out).1
  have hwb:=hide (HX.out).2.1
  have HA4:=hide (HX.out).2.2.1
  have HR4:=hide (HX.out).2.2.2.1
  have HM4:=hide (HX.out).2.2.2.2.1
  have HI4:=hide (HX.out).2.2.2.2.2.1
  have KX4:=hide (HX.out).2.2.2.2.2.2
  have HC4:=hide ((HC3.out) M3 _ HR4.out)
  clear HX HC3 KX2 HR2 HC2 t0 t1
  go_wp2_with fail
  refine (HC4.out).mono ?_
  rintro e w5 ⟨rfl,B5⟩
  have HA5:=hide ((Kp.ofBelow B5 (fun _=>False)).heap HA4.out id)
  have HR5:=hide ((HR4.out).below B5)
  have KX5:Hid (Kx L fs.length w0.heap.size w w5):=(KX4.out).trans (Kx.ofBelow B5)
  have hu5:=(HR5.out).kp.heap HU.out HUS.out
  have u55:w5.cell? ⟨ub,5,none⟩=some (.bool gs):=cell_of_row w5 _ 5 _ _ _ hu5
  have a35:=cell_of_row w5 _ 3 _ _ _ HA5.out
  have za:=frozen_of_row w5 _ 3 _ _ HA5.out
  clear B5 HA4 HR4 KX4 HC4 hu5
  have hway:(er=0∧gs=false∧er2=tw)∨(er2=er∧(er≠0∨(er=0∧gs=true))):=by
   by_cases hq:er=0
   ·cases gs with
    | false=>exact .inl ⟨hq,rfl,by rw [he,if_pos ⟨hq,rfl⟩]⟩
    | true=>exact .inr ⟨by rw [he,if_neg (by simp)],.inr ⟨hq,rfl⟩⟩
   ·exact .inr ⟨by rw [he,if_neg (fun e=>hq e.1)],.inl hq⟩
  clear he
  rcases hway with ⟨rfl,rfl,he2⟩|⟨he2,hq|⟨rfl,rfl⟩⟩
  all_goals first
   | have q1:((er:Int)==0)=false:=by simp;omega
     have HA6:Hid (w5.heap[b]?=some (.cells #[.int .i64 2,.int .i64 tf,.int .i64 tt,.int .i64 er2] 205 (0,0))):=by rw [he2];exact HA5.out
     have HR6:=HR5
     have KX6:=KX5
     clear HA5 HR5 KX5 he2 za hwb
     go_upto_region 5 with fail
     clear a35 u55 q1 hq
     generalize w5=W6 at *
   | have he3:er2=tw:=he2
     clear he2
     have a35':w5.cell? ⟨b,3,none⟩=some (.int .i64 0):=a35
     clear a35
     have k56:Kp (fun q=>q=b) w5 (w5.setCell ⟨b,3,none⟩ (.int .i64 tw)):=On.set (Kp.refl _ w5) 3 _
     have HA6:Hid ((w5.setCell ⟨b,3,none⟩ (.int .i64 tw)).heap[b]?=some (.cells #[.int .i64 2,.int .i64 tf,.int .i64 tt,.int .i64 er2] 205 (0,0))):=by rw [he3];exact set_cells HA5.out 3 _
     have HR6:Hid (Run w0 L fs M3 (us++tm) (w5.setCell ⟨b,3,none⟩ (.int .i64 tw))):=(HR5.out).one k56 h0b HA5.out (fun cs d e=>by cases e)
     have KX6:Hid (Kx L fs.length w0.heap.size w (w5.setCell ⟨b,3,none⟩ (.int .i64 tw))):=Kp.trans KX5.out k56 (fun i hi e=>by have:=hwb.out;omega)
     clear k56 HA5 HR5 KX5
     go_upto_region 5 with fail
     generalize w5.setCell ⟨b,3,none⟩ (.int .i64 tw)=W6 at *
     clear a35' za u55 he3 hwb
   | have a35':w5.cell? ⟨b,3,none⟩=some (.int .i64 0):=a35
     have HA6:Hid (w5.heap[b]?=some (.cells #[.int .i64 2,.int .i64 tf,.int .i64 tt,.int .i64 er2] 205 (0,0))):=by rw [he2];exact HA5.out
     have HR6:=HR5
     have KX6:=KX5
     clear HA5 HR5 KX5 he2 za hwb a35
     go_upto_region 5 with fail
     clear a35' u55
     generalize w5=W6 at *
  all_goals
   have hu6:=(HR6.out).kp.heap HU.out HUS.out
   have u36:W6.cell? ⟨ub,3,none⟩=some (.string (ba n.1)):=cell_of_row W6 _ 3 _ _ _ hu6
   have u46:W6.cell? ⟨ub,4,none⟩=some (.int .i64 n.2):=cell_of_row W6 _ 4 _ _ _ hu6
   have a16:W6.cell? ⟨b,1,none⟩=some (.int .i64 tf):=cell_of_row W6 _ 1 _ _ _ HA6.out
   have a26:W6.cell? ⟨b,2,none⟩=some (.int .i64 tt):=cell_of_row W6 _ 2 _ _ _ HA6.out
   have a36:W6.cell? ⟨b,3,none⟩=some (.int .i64 er2):=cell_of_row W6 _ 3 _ _ _ HA6.out
   have HC6:=hide (tadd_any n 4 tf tt er2 ((HR6.out).below ((Below.refl _ W6).drew)) (by rw [List.length_append];omega))
   clear hu6
   go_wp2_with fail
   refine wpTo_start (S:=fun w'=>w'.cell? ⟨ub,3,none⟩=some (.string (ba n.1))∧w'.cell? ⟨ub,4,none⟩=some (.int .i64 n.2)∧w'.cell? ⟨b,1,none⟩=some (.int .i64 tf)∧w'.cell? ⟨b,2,none⟩=some (.int .i64 tt)∧w'.cell? ⟨b,3,none⟩=some (.int .i64 er2)) (z:=10) (by kernel_rfl) ?_
   have hS:W6.drew.cell? ⟨ub,3,none⟩=some (.string (ba n.1))∧W6.drew.cell? ⟨ub,4,none⟩=some (.int .i64 n.2)∧W6.drew.cell? ⟨b,1,none⟩=some (.int .i64 tf)∧W6.drew.cell? ⟨b,2,none⟩=some (.int .i64 tt)∧W6.drew.cell? ⟨b,3,none⟩=some (.int .i64 er2):=⟨u36,u46,a16,a26,a36⟩
   iterate 9 (refine wpTo_nx (v:=?_) rfl rfl (by kernel_rfl) (by decide) (by kernel_rfl) (by kernel_rfl) (fun _ _ _ h=>h) (Or.inl ⟨by rfl,?_⟩) hS ?_;rotate_left;(· (intro wx hSw;(try dsimp only at hSw);go_simp;try (with_reducible rfl)));simp only [Act.put,List.setIfInBounds_toArray,List.set_cons_zero,List.set_cons_succ])
   refine wpTo_one (i:=9) (by kernel_rfl) rfl (fun K hK=>?_)
   go_simp
   refine (HC6.out).mono ?_
   rintro e w7 ⟨rfl,X7⟩
   have r7:=(X7.out).1
   have x7:=(X7.out).2
   have hA7:=x7.made (b:=b) hSl HA6.out h0b (fun cs d e=>by cases e)
   have hu7:=r7.kp.heap HU.out HUS.out
   have u37:w7.cell? ⟨ub,3,none⟩=some (.string (ba n.1)):=cell_of_row w7 _ 3 _ _ _ hu7
   have u47:w7.cell? ⟨ub,4,none⟩=some (.int .i64 n.2):=cell_of_row w7 _ 4 _ _ _ hu7
   have u67:w7.cell? ⟨ub,6,none⟩=some (.string (ba a.1)):=cell_of_row w7 _ 6 _ _ _ hu7
   have u77:w7.cell? ⟨ub,7,none⟩=some (.int .i64 a.2):=cell_of_row w7 _ 7 _ _ _ hu7
   have a17:w7.cell? ⟨b,1,none⟩=some (.int .i64 tf):=cell_of_row w7 _ 1 _ _ _ hA7
   have a27:w7.cell? ⟨b,2,none⟩=some (.int .i64 tt):=cell_of_row w7 _ 2 _ _ _ hA7
   have a37:w7.cell? ⟨b,3,none⟩=some (.int .i64 er2):=cell_of_row w7 _ 3 _ _ _ hA7
   dsimp only
   refine hK.out _ _ (fun _=>⟨u37,u47,a17,a27,a37⟩) (fun _=>wpTo_end (by kernel_rfl) ?_)
   clear hK K hS
   have HA7:=hide hA7
   have KX7:Hid (Kx L fs.length w0.heap.size w w7):=((KX6.out).drew).trans x7
   have HC7:=hide (tadd_any a 5 tf tt tw (r7.below ((Below.refl _ w7).drew)) (by rw [List.length_append,List.length_append];omega))
   clear X7 r7 x7 hA7 hu7 HA6 HR6 KX6 u36 u46 a16 a26 a36 u37 u47 a37 HC6
   go_wp2_with fail
   refine wpTo_start (S:=fun w'=>w'.cell? ⟨ub,6,none⟩=some (.string (ba a.1))∧w'.cell? ⟨ub,7,none⟩=some (.int .i64 a.2)∧w'.cell? ⟨b,1,none⟩=some (.int .i64 tf)∧w'.cell? ⟨b,2,none⟩=some (.int .i64 tt)) (z:=9) (by kernel_rfl) ?_
   have hS:w7.drew.cell? ⟨ub,6,none⟩=some (.string (ba a.1))∧w7.drew.cell? ⟨ub,7,none⟩=some (.int .i64 a.2)∧w7.drew.cell? ⟨b,1,none⟩=some (.int .i64 tf)∧w7.drew.cell? ⟨b,2,none⟩=some (.int .i64 tt):=⟨u67,u77,a17,a27⟩
   iterate 8 (refine wpTo_nx (v:=?_) rfl rfl (by kernel_rfl) (by decide) (by kernel_rfl) (by kernel_rfl) (fun _ _ _ h=>h) (Or.inl ⟨by rfl,?_⟩) hS ?_;rotate_left;(· (intro wx hSw;(try dsimp only at hSw);go_simp;try (with_reducible rfl)));simp only [Act.put,List.setIfInBounds_toArray,List.set_cons_zero,List.set_cons_succ])
   refine wpTo_one (i:=8) (by kernel_rfl) rfl (fun K hK=>?_)
   go_simp
   refine (HC7.out).mono ?_
   rintro e w8 ⟨rfl,X8⟩
   have hA8:=(X8.out).2.made (b:=b) hSl HA7.out h0b (fun cs d e=>by cases e)
   have hu8:=(X8.out).1.kp.heap HU.out HUS.out
   have HF:Hid (Tld w0 L fs (us++(tm++(X.tellU L.tf n 4 (tf,tt,er2)++X.tellU L.tf a 5 (tf,tt,tw)))) w w8):=by
    refine ⟨M3,?_,HM4.out,HI4.out,((KX7.out).drew).trans (X8.out).2⟩
    have:=(X8.out).1
    simpa [List.append_assoc] using this
   dsimp only
   refine hK.out _ _ (fun _=>⟨cell_of_row w8 _ 6 _ _ _ hu8,cell_of_row w8 _ 7 _ _ _ hu8,cell_of_row w8 _ 1 _ _ _ hA8,cell_of_row w8 _ 2 _ _ _ hA8⟩) (fun _=>wpTo_end (by kernel_rfl) ?_)
   clear hK K hS X8 hA8 hu8 HA7 KX7 u67 u77 a17 a27 HC7
   go_wp2_with fail
   go_end0
   exact ⟨rfl,HF⟩
theorem tuse_any (k lo hi ub:Nat) (pub gs:Bool) (m n a:X.Nm) (hk:(X.itemsOf fs L.tf)[k]?=some (.use pub m n gs a)) (hv:Av L fs.length w0.heap.size lo hi) (hb:lo≤ub∧ub<hi) (hub:w0.heap[ub]?=some (useC pub gs m n a)) (h:Run w0 L fs M us w) (hM:MOk fs M) (hId:Idle M) (hlim:us.length+(X.itU fs L.tf k (.use pub m n gs a)).length≤1073741824) :
  Calls Tryz.prog 64 #[.pointer (some ⟨L.tb,0,none⟩),.int .i64 k,.pointer (some ⟨ub,0,none⟩)] w fun e w'=>e=.returned (.tuple #[])∧Hid (Tld w0 L fs (us++X.itU fs L.tf k (.use pub m n gs a)) w w'):=by
 obtain ⟨hmB,hnB,haB⟩:=h.itB hk
 have hul:X.itU fs L.tf k (.use pub m n gs a)=X.tellU L.tf m 3 (match X.modI fs m.1 with|some f'=>(f',-1,0)|none=>(-1,-1,4))++(X.tellU L.tf n 4 ((X.ansI fs (X.usesN fs) L.tf k).1,(X.ansI fs (X.usesN fs) L.tf k).2.1,if (X.ansI fs (X.usesN fs) L.tf k).2.2=0∧gs=false then X.twiceE (X.itemsOf fs L.tf) k (if gs then a else n).1 else (X.ansI fs (X.usesN fs) L.tf k).2.2)++X.tellU L.tf a 5 ((X.ansI fs (X.usesN fs) L.tf k).1,(X.ansI fs (X.usesN fs) L.tf k).2.1,X.twiceE (X.itemsOf fs L.tf) k (if gs then a else n).1)):=rfl
 have hm3:=fun (w:World) (h:Run w0 L fs M us w)=>tmodule_any m hmB h
 generalize hX:X.itU fs L.tf k (.use pub m n gs a)=Xu at *
 generalize htm:X.tellU L.tf m 3 (match X.modI fs m.1 with|some f'=>(f',-1,0)|none=>(-1,-1,4))=tm at *
 rw [hul] at hlim ⊢
 rw [List.length_append,List.length_append] at hlim
 exact tuse_of k lo hi ub pub gs m n a tm _ _ _ _ _ hv hb hub h (fun w h=>hm3 w h (by omega)) (fun w h=>used_any L.tf k pub gs m n a ub h hM hId hk hub (hv.av ub hb.1 hb.2)) (fun M w h=>ttwice_any k _ hk h) rfl (by omega)
end Go.Proofs.YtbmebfgapjhchaaGreatDoor
/- Package scope: all names of a file. -/
namespace Go.Proofs.YtbmebfgapjhchaaGreatDoor
open Go.RowKit
open M
namespace X
theorem itsU_app (fs:List Fl) (f:Nat) (r:List It):∀ (l:List It) (k:Nat),itsU fs f k (l++r)=itsU fs f k l++itsU fs f (k+l.length) r
 | [],k=>by rw [List.nil_append,itsU,List.nil_append];rfl
 | a::l,k=>by rw [List.cons_append,itsU,itsU,itsU_app fs f r l,List.append_assoc,List.length_cons,show k+1+l.length=k+(l.length+1) by omega]
theorem itsU_snoc {fs:List Fl} {f:Nat} {l:List It} {j:Nat} {it:It} (h:l[j]?=some it):itsU fs f 0 (l.take (j+1))=itsU fs f 0 (l.take j)++itU fs f j it:=by
 have hj:j<l.length:=by
  rcases Nat.lt_or_ge j l.length with g|g
  ·exact g
  ·rw [List.getElem?_eq_none g] at h;cases h
 rw [take_snoc h,itsU_app,itsU,itsU,List.append_nil,List.length_take,show 0+min j l.length=j by omega]
theorem itsU_take (fs:List Fl) (f:Nat) (l:List It) (j:Nat):(itsU fs f 0 (l.take j)).length≤(itsU fs f 0 l).length:=by
 have:=itsU_app fs f (l.drop j) (l.take j) 0
 rw [List.take_append_drop] at this
 rw [this,List.length_append];omega
end X
theorem asrtUseD (b:Nat) (w:World):(Instr.typeAssert (.iface 124 (.pointer (some ⟨b,0,none⟩))) 163 126 true).run Tryz.prog w=.ok (.tuple #[.pointer none,.bool false]) w:=by kernel_rfl
theorem asrtDefD (b:Nat) (w:World):(Instr.typeAssert (.iface 126 (.pointer (some ⟨b,0,none⟩))) 163 126 true).run Tryz.prog w=.ok (.tuple #[.pointer (some ⟨b,0,none⟩),.bool true]) w:=by kernel_rfl
variable {w0:World} {L:Lay} {fs:List X.Fl} {M:Mem} {us:List X.U} {w:World}
theorem Run.turnTo (h:Run w0 L fs M us w) (f:Nat):Run w0 { L with tf:=f } fs M us (w.setCell ⟨L.tb,1,none⟩ (.int .i64 f))∧Kx L fs.length w0.heap.size w (w.setCell ⟨L.tb,1,none⟩ (.int .i64 f)):=by
 have k1:Kp (fun q=>q=L.tb) w (w.setCell ⟨L.tb,1,none⟩ (.int .i64 f)):=On.set (Kp.refl _ w) 1 _
 have kx:Kx L fs.length w0.heap.size w (w.setCell ⟨L.tb,1,none⟩ (.int .i64 f)):=Kp.trans (Kp.refl _ w) k1 (fun i hi e=>.inl (.inl e))
 refine ⟨⟨⟨h.st.n,h.st.ws,h.st.mp,h.st.ms,h.st.fl,h.st.fi,h.st.nm,h.st.its,h.st.bd,h.st.il,h.st.wl,h.st.gl⟩,kx.st h.kp,?_,fun i hi=>?_,h.lim⟩,kx⟩
 ·obtain ⟨nv,h1,h2⟩:=h.tl
  refine ⟨nv,set_cells h1 1 _,k1.owns h2 (fun q hq e=>?_)⟩
  have:=(owns_ge h2 q hq).1
  have:=h.st.wl
  omega
 ·obtain ⟨arr,x1,x2⟩:=h.fd i hi
  exact ⟨arr,k1.heap x1 (h.st.gl i hi).2.1,x2⟩
theorem Tld.step {a:World} {j:Nat} {wr w2:World} (h:Tld w0 L fs (us++X.itsU fs L.tf 0 ((X.itemsOf fs L.tf).take j)) a wr) {it:X.It} (he:(X.itemsOf fs L.tf)[j]?=some it) (ht:Tld w0 L fs ((us++X.itsU fs L.tf 0 ((X.itemsOf fs L.tf).take j))++X.itU fs L.tf j it) wr w2):Tld w0 L fs (us++X.itsU fs L.tf 0 ((X.itemsOf fs L.tf).take (j+1))) a w2:=by
 obtain ⟨M2,r2,m2,i2,x2⟩:=ht
 obtain ⟨M1,r1,m1,i1,x1⟩:=h
 exact ⟨M2,by rw [X.itsU_snoc he,← List.append_assoc];exact r2,m2,i2,x1.trans x2⟩
set_option maxRecDepth 100000 in
set_option maxHeartbeats 8000000 in
theorem tall_of (hf:L.tf<fs.length) (x:Value) (hx:w.cell? ⟨L.tb,1,none⟩=some x) (hz:w.frozen? ⟨L.tb,1,none⟩=false) (h:Run w0 L fs M us (w.setCell ⟨L.tb,1,none⟩ (.int .i64 L.tf))) (hM:MOk fs M) (hId:Idle M) (hlim:us.length+(X.itsU fs L.tf 0 (X.itemsOf fs L.tf)).length≤1073741824) :
  Calls Tryz.prog 43 #[.pointer (some ⟨L.tb,0,none⟩),.int .i64 L.tf] w fun e w'=>e=.returned (.tuple #[])∧Hid (Tld w0 L fs (us++X.itsU fs L.tf 0 (X.itemsOf fs L.tf)) (w.setCell ⟨L.tb,1,none⟩ (.int .i64 L.tf)) w'):=by
 go_enter Tryz.func43,Tryz.ntmps43
 go_upto_region 1 with fail
 clear hx hz
 generalize hW:w.setCell ⟨L.tb,1,none⟩ (.int .i64 L.tf)=W at *
 have HW:=hide hW
 clear hW
 have hn16:=h.st.n
 have hIl:=h.st.il L.tf
 obtain ⟨nv,t0,-,-⟩:=h.cells
 obtain ⟨-,c1⟩:=h.wsp
 obtain ⟨fg,fcap,d1,d2,d3,d4⟩:=h.files hf
 rw [d1] at c1
 obtain ⟨lo,hi,hits,hit2,hit3⟩:=h.st.its L.tf hf
 obtain ⟨ao,cap,vs,e1,e2,e3,e4,e5⟩:=hits.ex
 have hff:=h.file hf
 rw [e1] at hff
 have g0:=cell_of_row _ _ 0 _ _ _ hff
 have hi1:(L.tf:Int)<(fs.length:Int):=by omega
 have HI0:Hid (Tld w0 L fs (us++X.itsU fs L.tf 0 ((X.itemsOf fs L.tf).take 0)) W W):=⟨M,by rw [List.take_zero,X.itsU,List.append_nil];exact h,hM,hId,Kx.refl _ _ _ _⟩
 have HV:Hid (Av L fs.length w0.heap.size lo hi):=⟨hit2,hit3⟩
 have H4:=hide e4
 have H5:=hide e5
 generalize hits2:X.itemsOf fs L.tf=its at *
 have HIT:=hide hits2
 clear h hM hId hits hff d1 e1 e4 e5 hits2 hit2 hit3
 go_wp2_with fail
 go_loopw [28] (fun v wr=>∃ j:Nat,v=.int .i64 j∧j≤its.length∧Hid (Tld w0 L fs (us++X.itsU fs L.tf 0 (its.take j)) W wr)) (fun v _=>its.length - (intOf v).toNat)
 case atStart=>exact ⟨0,rfl,Nat.zero_le _,HI0⟩
 case round =>
  obtain ⟨j,rfl,hj,HI⟩:=hrel
  clear HI0 t0 c1 d4 g0
  by_cases hjl:j<its.length
  ·obtain ⟨it,he⟩:∃ it,its[j]?=some it:=⟨its[j],List.getElem?_eq_getElem hjl⟩
   have he':(X.itemsOf fs L.tf)[j]?=some it:=by rw [HIT.out];exact he
   obtain ⟨g,hao,y1,y2,y3,-⟩:=(H4.out) j hjl
   subst hao
   have hi2:(j:Int)<(its.length:Int):=by omega
   obtain ⟨M1,r1,m1,i1,x1⟩:=HI.out
   have y4:=r1.kp.cellv y3 ((HV.out).av g y1 y2)
   have hl2:(us++X.itsU fs L.tf 0 (its.take j)).length+(X.itU fs L.tf j it).length≤1073741824:=by
    have q1:=X.itsU_take fs L.tf its (j+1)
    rw [X.itsU_snoc he,List.length_append] at q1
    rw [List.length_append];omega
   have HS:Hid (∀ w2,Tld w0 L fs ((us++X.itsU fs L.tf 0 (its.take j))++X.itU fs L.tf j it) wr w2→Tld w0 L fs (us++X.itsU fs L.tf 0 (its.take (j+1))) W w2):=fun w2 ht=>by
    have:=HI.out
    rw [← HIT.out] at this ht ⊢
    exact this.step he' ht
   have hIs:=(H5.out) j it he
   generalize vs j=vj at *
   cases hIs with
   | use ub pub gs m n a hb hub =>
    have HC:=hide (tuse_any j lo hi ub pub gs m n a he' HV.out hb hub r1 m1 i1 hl2)
    have q1:=asrtUse ub
    have q2:=asrtUseD ub
    clear r1 m1 i1 x1 y3 hub hl2 HI
    go_wp2_with fail
    refine (HC.out).mono ?_
    rintro en w3 ⟨rfl,X3⟩
    have HI3:=hide ((HS.out) w3 X3.out)
    clear HC X3 HS y4
    go_wp2_with fail
    exact ⟨⟨j+1,by simp,by omega,HI3⟩,by simp [intOf];omega⟩
   | dfn db pub n pv ps v e hb hd hp hE =>
    have HC:=hide (tdef_any j lo hi db pub n pv v _ _ ps e he' HV.out hb hd hp hE r1 m1 i1 hl2)
    have q1:=asrtDef db
    have q2:=asrtDefD db
    clear r1 m1 i1 x1 y3 hd hl2 hp hE HI
    go_wp2_with fail
    refine (HC.out).mono ?_
    rintro en w3 ⟨rfl,X3⟩
    have HI3:=hide ((HS.out) w3 X3.out)
    clear HC X3 HS y4
    go_wp2_with fail
    exact ⟨⟨j+1,by simp,by omega,HI3⟩,by simp [intOf];omega⟩
  ·obtain rfl:j=its.length:=by omega
   have hd1:¬(its.length:Int)<(its.length:Int):=by omega
   have HF:Hid (Tld w0 L fs (us++X.itsU fs L.tf 0 its) W wr):=by
    have:=HI.out
    rw [List.take_length] at this
    exact this
   clear HI
   go_wp2_with fail
   go_end0
   exact ⟨rfl,by rw [HW.out,HIT.out];exact HF⟩
theorem tall_any (f:Nat) (hf:f<fs.length) (h:Run w0 L fs M us w) (hM:MOk fs M) (hId:Idle M) (hlim:us.length+(X.itsU fs f 0 (X.itemsOf fs f)).length≤1073741824) :
  Calls Tryz.prog 43 #[.pointer (some ⟨L.tb,0,none⟩),.int .i64 f] w fun e w'=>e=.returned (.tuple #[])∧Hid (∃ M',Run w0 { L with tf:=f } fs M' (us++X.itsU fs f 0 (X.itemsOf fs f)) w'∧MOk fs M'∧Idle M'∧Kx L fs.length w0.heap.size w w'):=by
 obtain ⟨h1,k1⟩:=h.turnTo f
 obtain ⟨nv,g1,-⟩:=h.tl
 refine (tall_of (L:={ L with tf:=f }) hf _ (cell_of_row w _ 1 _ _ _ g1) (frozen_of_row w _ 1 _ _ g1) h1 hM hId hlim).mono ?_
 rintro e w' ⟨rfl,X⟩
 obtain ⟨M5,r5,m5,i5,x5⟩:=X.out
 exact ⟨rfl,M5,r5,m5,i5,k1.trans x5⟩
end Go.Proofs.YtbmebfgapjhchaaGreatDoor
