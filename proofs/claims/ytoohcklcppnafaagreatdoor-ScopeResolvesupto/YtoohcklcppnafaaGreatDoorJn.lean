import Derived.Test.YtoohcklcppnafaaGreatDoorJh
namespace Go.Proofs.YtoohcklcppnafaaGreatDoor
set_option maxRecDepth 100000
set_option maxHeartbeats 8000000
open Go.RowKit
open M
open X
section
open Tryz
variable{j lo hi:Nat}{es:List Ex}{sc:List (List Nm)}
namespace X
theorem AO(f:Nat)(top:ah→An)(sc:List (List Nm)):∀ a b:List Ex,iM f top sc (a++b)=iM f top sc a++iM f top sc b
 | [],b=>by rw[bM,iM,bM]
 | e::a,b=>by rw[fM,iM,iM,AO f top sc a b,aK]
theorem Di{f:Nat}{top:ah→An}{sc:List (List Nm)}{es:List Ex}{e:Ex}(h:es[j]?=some e):iM f top sc (es.take (j+1))=iM f top sc (es.take j)++exU f top sc e:=by
 rw[lg h,AO,iM,iM,aL]
theorem Ox(f:Nat)(top:ah→An)(sc:List (List Nm))(es:List Ex)(j:Nat):(iM f top sc (es.take j)).length≤(iM f top sc es).length:=by
 have:=AO f top sc (es.take j) (es.drop j);rw[fD] at this;rw[this,ay];omega
end X
structure XY(w w0:aG)(L:Lay)(fs:List Fl)(us:List X.U)(lo hi:Nat)(es:List Ex)(ao:Option Addr)(vs:Nat→Value)(bv:Value)(sc:List (List Nm))(j:Nat)(wr:aG):Prop where
 tld:sF w0 L fs (us++iM L.tf (fH fs L.tf) sc (es.take j)) w wr
 row:∀ k,k<es.length→∃ g cs d,ao=some ⟨g,0,none⟩∧w0.heap.size≤g∧wr.heap[g]?=some (.cells cs 179 d)∧wr.cell? (aC g k)=some (vs k)
 each:∀(k:Nat) (e:Ex),es[k]?=some e→je wr lo hi (vs k) e
 bk:jN wr w0.heap.size bv sc
variable{w0:aG}{L:Lay}{fs:List Fl}{M:Mem}{us:List X.U}{w:aG}
theorem XY.start{rv bv:Value}{w2:aG}(hp:AP w w2 lo hi rv es)(h:Run w0 L fs M us w)(hM:qF fs M)(hI:Idle M)(hbk:jN w w0.heap.size bv sc) :
  ∃ ao cap vs,rv=.slice ao es.length cap∧es.length≤cap∧cap≤maxLen∧XY w w0 L fs us lo hi es ao vs bv sc 0 w2:=by
 obtain⟨ao,cap,vs,z1,z2,z3,z4,z5⟩:=hp.ex;have hk:=Kp.aN hp.bl (fun _=>False);refine⟨ao,cap,vs,z1,z2,z3,⟨M,?_,hM,hI,Kx.aN hp.bl⟩,fun k hk'=>?_,fun k e he=>(z5 k e he).keep hk (fun _ _ _=>id),hbk.UK hp.bl⟩
 ·rw[jr,iM,aL];exact h.below hp.bl
 ·obtain⟨g,cs,d,y1,y2,y3,y4⟩:=z4 k hk'
  exact⟨g,cs,d,y1,by have:=h.size;omega,y3,y4⟩
theorem XY.step{ao:Option Addr}{vs:Nat→Value}{bv:Value}{wr w2:aG}(h:XY w w0 L fs us lo hi es ao vs bv sc j wr)(hv:Av L fs.length w0.heap.size lo hi){e:Ex}(he:es[j]?=some e)(ht:sF w0 L fs ((us++iM L.tf (fH fs L.tf) sc (es.take j))++exU L.tf (fH fs L.tf) sc e) wr w2):XY w w0 L fs us lo hi es ao vs bv sc (j+1) w2:=by
 obtain⟨M2,r2,m2,i2,x2⟩:=ht;obtain⟨M1,r1,m1,i1,x1⟩:=h.tld;have hS:=r2.st.lt;refine⟨⟨M2,by rw[Di he,← aK];exact r2,m2,i2,x1.trans x2⟩,fun k hk=>?_,fun k e' he'=>(h.each k e' he').keep x2 (hv.sx wr),h.bk.keep x2 hS⟩;obtain⟨g,cs,d,y1,y2,y3,y4⟩:=h.row k hk;have hg:=x2.made hS y3 y2 (fun cs d e=>by cases e);exact⟨g,cs,d,y1,y2,hg,(World.cell?_of_block (w:=wr) (a:=⟨g,k,none⟩) (hg.trans y3.symm)).trans y4⟩
structure Kd(ty:TypeId)(pf:FuncId):Prop where
 av:∀ b w,(Instr.typeAssert (.iface ty (aH b)) 179 274 true).run prog w=.ok (.tuple #[.pointer none,.bool false]) w
 al:∀ b w,(Instr.typeAssert (.iface ty (aH b)) 179 255 true).run prog w=.ok (.tuple #[.pointer none,.bool false]) w
 af:∀ b w,(Instr.typeAssert (.iface ty (aH b)) 179 262 true).run prog w=.ok (.tuple #[.pointer none,.bool false]) w
 mt : ∀ b w, (method 460 ty (.pointer (some ⟨b, 0, none⟩)) "Parts").run Tryz.prog w = .ok (pf, .pointer (some ⟨b, 0, none⟩)) w
 cf:∀ b w,(callFunc pf #[aH b]).run prog w=.ok (.enter pf #[aH b]) w
theorem Oy:Kd 279 237:=⟨fun b w=>bC,fun b w=>bC,fun b w=>bC,fun b w=>bC,fun b w=>bC⟩
theorem ZF:Kd 277 236:=⟨fun b w=>bC,fun b w=>bC,fun b w=>bC,fun b w=>bC,fun b w=>bC⟩
theorem Oz:Kd 252 225:=⟨fun b w=>bC,fun b w=>bC,fun b w=>bC,fun b w=>bC,fun b w=>bC⟩
theorem bK9:Kd 259 229:=⟨fun b w=>bC,fun b w=>bC,fun b w=>bC,fun b w=>bC,fun b w=>bC⟩
theorem RL:Kd 264 231:=⟨fun b w=>bC,fun b w=>bC,fun b w=>bC,fun b w=>bC,fun b w=>bC⟩
theorem ZG:Kd 266 232:=⟨fun b w=>bC,fun b w=>bC,fun b w=>bC,fun b w=>bC,fun b w=>bC⟩
theorem ZH:Kd 268 233:=⟨fun b w=>bC,fun b w=>bC,fun b w=>bC,fun b w=>bC,fun b w=>bC⟩
theorem VW:Kd 271 234:=⟨fun b w=>bC,fun b w=>bC,fun b w=>bC,fun b w=>bC,fun b w=>bC⟩
theorem oL{ty:TypeId}{pf:FuncId}(hkd:Kd ty pf)(lo hi b:Nat)(es:List Ex)(sc:List (List Nm))(bv:Value)(hv:Av L fs.length w0.heap.size lo hi)(hE:∀(j:Nat) (e:Ex),es[j]?=some e→yE w0 L fs lo hi e)(hP:Calls prog pf #[aH b] w fun e w'=>∃ rv,e=.returned rv∧Hid (AP w w' lo hi rv es))
  (h:Run w0 L fs M us w) (hM:qF fs M) (xK:Idle M) (hbk:jN w w0.heap.size bv sc) (hlim:us.length+(iM L.tf (fH fs L.tf) sc es).length≤1073741824) :
  bB 126 #[aH L.tb,.iface ty (aH b),bv] w fun en w'=>en=.returned (.tuple #[])∧Hid (sF w0 L fs (us++iM L.tf (fH fs L.tf) sc es) w w'):=by
 have av:=hkd.av b;have al:=hkd.al b;have af:=hkd.af b;have mt:=hkd.mt b;have cf:=hkd.cf b;have HP:=aA hP;have HE:=aA hE;have HV:=aA hv;have HI0:Hid (∀ w2 rv,AP w w2 lo hi rv es→∃ ao cap vs,rv=.slice ao es.length cap∧es.length≤cap∧cap≤maxLen∧XY w w0 L fs us lo hi es ao vs bv sc 0 w2):=fun w2 rv hp=>XY.start hp h hM xK hbk
 clear hP hE hv h hM xK hbk hkd;go_enter func126,ntmps126;go_wp2_with fail
 refine(HP.o).mono ?_;rintro e w2 ⟨rv,rfl,X2⟩;obtain⟨ao,cap,vs,rfl,z2,z3,hI0⟩:=(HI0.o) w2 rv X2.o;have HI1:=aA hI0;clear X2 hI0 HI0 HP av al af mt cf;have hcap:es.length≤9223372036854775807:=by unfold maxLen at z3;omega
 go_wp2_with fail
 go_loopw [59] (fun v wr=>∃ j:Nat,v=ak j∧j≤es.length∧Hid (XY w w0 L fs us lo hi es ao vs bv sc j wr)) (fun v _=>es.length - (intOf v).toNat)
 case atStart=>exact⟨0,rfl,bJ _,HI1⟩
 case round =>
  obtain⟨j,rfl,hj,HI⟩:=hrel;clear HI1;by_cases hjl:j<es.length
  ·obtain⟨e,he⟩:∃ e,es[j]?=some e:=⟨es[j],aF hjl⟩
   obtain⟨g,cs,d,hao,y2,y3,y4⟩:=(HI.o).row j hjl;subst hao;have hi1:(j:Int)<(es.length:Int):=au
   obtain⟨M1,r1,m1,i1,x1⟩:=(HI.o).tld;have HC:=aA ((HE.o) j e he M1 _ wr (vs j) bv sc r1 m1 i1 ((HI.o).each j e he) (HI.o).bk (by
    have e2:=Ox L.tf (fH fs L.tf) sc es (j+1);rw[Di he,ay] at e2;rw[ay];omega))
   obtain⟨yy,gg,hvs⟩:=((HI.o).each j e he).iface;rw[hvs] at y4 HC;clear r1 m1 i1 x1 y3 hvs;go_wp2_with fail
   refine(HC.o).aX fun w3 X3=>?_;have HI3:=aA ((HI.o).step HV.o he X3.o);clear HC X3 HI y4;go_wp2_with fail
   exact⟨⟨j+1,aT,au,HI3⟩,by simp[intOf];omega⟩
  ·obtain rfl:j=es.length:=by omega
   have hd1:¬(es.length:Int)<(es.length:Int):=au
   have HF:Hid (sF w0 L fs (us++iM L.tf (fH fs L.tf) sc es) w wr):=by
    have:=(HI.o).tld;rw[fC] at this;exact this
   clear HI;go_wp2_with fail
   go_end0;exact⟨rfl,HF⟩
end
section
variable{w0:aG}{L:Lay}{fs:List Fl}{lo hi:Nat}
mutual
theorem om(hf:L.tf<fs.length)(hv:Av L fs.length w0.heap.size lo hi):∀ e:Ex,uz 268435456 e→yE w0 L fs lo hi e
 | .lit k x,_=>fun M us w v bv sc h hM hI hE hbk hlim=>by
  cases hE with
  | lit b _ _ hb hc =>
   have e1:exU L.tf (fH fs L.tf) sc (.lit k x)=iM L.tf (fH fs L.tf) sc []:=by rw[exU,iM]
   rw[e1] at hlim ⊢;exact oL Oy lo hi b [] sc bv hv (fun j e hj=>by simp at hj) ((xL b _).mono (fun e w' h=>⟨_,h.1,by rw[h.2];exact AP.nil _ _ _⟩)) h hM hI hbk hlim
 | .hole i,_=>fun M us w v bv sc h hM hI hE hbk hlim=>by
  cases hE with
  | hole b _ hb hc =>
   have e1:exU L.tf (fH fs L.tf) sc (.hole i)=iM L.tf (fH fs L.tf) sc []:=by rw[exU,iM]
   rw[e1] at hlim ⊢;exact oL ZF lo hi b [] sc bv hv (fun j e hj=>by simp at hj) ((Cj b _).mono (fun e w' h=>⟨_,h.1,by rw[h.2];exact AP.nil _ _ _⟩)) h hM hI hbk hlim
 | .missing,_=>fun M us w v bv sc h hM hI hE hbk hlim=>by
  cases hE with
  | missing b hb hc =>
   have e1:exU L.tf (fH fs L.tf) sc .missing=iM L.tf (fH fs L.tf) sc []:=by rw[exU,iM]
   rw[e1] at hlim ⊢;exact oL Oz lo hi b [] sc bv hv (fun j e hj=>by simp at hj) ((xM b _).mono (fun e w' h=>⟨_,h.1,by rw[h.2];exact AP.nil _ _ _⟩)) h hM hI hbk hlim
 | .var n,hB=>fun M us w v bv sc h hM hI hE hbk hlim=>by
  rw[uz] at hB;cases hE with
  | var b _ hb hc=>exact RN b n sc bv hf hB hc h hM hI hbk hlim
 | .kH n e1 e2,hB=>fun M us w v bv sc h hM hI hE hbk hlim=>by
  rw[uz] at hB;cases hE with
  | kH b _ v1 v2 _ _ hb hc q1 q2=>exact RO lo hi b n v1 v2 e1 e2 sc bv hv (om hf hv e1 hB.2.1) (om hf hv e2 hB.2.2) hB.1 hb hc q1 q2 h hM hI hbk hlim
 | .ite a b c,hB=>fun M us w v bv sc h hM hI hE hbk hlim=>by
  rw[uz] at hB;have ha:=om hf hv a hB.1;have hb':=om hf hv b hB.2.1;have hc':=om hf hv c hB.2.2;cases hE with
  | ite p v1 v2 v3 _ _ _ hb hc q1 q2 q3 =>
   have e1:exU L.tf (fH fs L.tf) sc (.ite a b c)=iM L.tf (fH fs L.tf) sc [a,b,c]:=by rw[exU,iM,iM,iM,iM,aL]
   rw[e1] at hlim ⊢;refine oL bK9 lo hi p [a,b,c] sc bv hv (fun j e hj=>?_) ((G9 p v1 v2 v3 a b c _ lo hi hc q1 q2 q3).mono (fun e w' h=>h)) h hM hI hbk hlim
   match j with
   | 0=>simp at hj;subst hj;exact ha
   | 1=>simp at hj;subst hj;exact hb'
   | 2=>simp at hj;subst hj;exact hc'
   | j+3=>simp at hj
 | .fn ns e,hB=>fun M us w v bv sc h hM hI hE hbk hlim=>by
  rw[uz] at hB;cases hE with
  | fn b pb _ v1 _ hb hc hp q1=>exact RP lo hi b pb ns v1 e sc bv hv (om hf hv e hB.2) hB.1 hb hc hp q1 h hM hI hbk hlim
 | .bin l x r,hB=>fun M us w v bv sc h hM hI hE hbk hlim=>by
  rw[uz] at hB;have ha:=om hf hv l hB.1;have hb':=om hf hv r hB.2;cases hE with
  | bin p v1 v2 _ _ _ hb hc q1 q2 =>
   have e1:exU L.tf (fH fs L.tf) sc (.bin l x r)=iM L.tf (fH fs L.tf) sc [l,r]:=by rw[exU,iM,iM,iM,aL]
   rw[e1] at hlim ⊢;refine oL RL lo hi p [l,r] sc bv hv (fun j e hj=>?_) ((yV p x v1 v2 l r _ lo hi hc q1 q2).mono (fun e w' h=>h)) h hM hI hbk hlim
   match j with
   | 0=>simp at hj;subst hj;exact ha
   | 1=>simp at hj;subst hj;exact hb'
   | j+2=>simp at hj
 | .call g gs,hB=>fun M us w v bv sc h hM hI hE hbk hlim=>by
  rw[uz] at hB;have ha:=om hf hv g hB.1;have hs:=EU hf hv gs hB.2.2;cases hE with
  | call p v1 _ ao cap vs _ hb hc hcap q1 hr hp =>
   have e1:exU L.tf (fH fs L.tf) sc (.call g gs)=iM L.tf (fH fs L.tf) sc (g::gs):=by rw[exU,iM]
   rw[e1] at hlim ⊢;refine oL ZG lo hi p (g::gs) sc bv hv (fun j e hj=>?_) ((Ck p v1 g ao cap vs gs _ lo hi hc q1 hr hp hB.2.1).mono (fun e w' h=>h)) h hM hI hbk hlim
   match j with
   | 0=>simp at hj;subst hj;exact ha
   | j+1=>exact hs j e (by simpa using hj)
 | .list l,hB=>fun M us w v bv sc h hM hI hE hbk hlim=>by
  rw[uz] at hB;have hs:=EU hf hv l hB.2;cases hE with
  | list p ao cap vs _ hb hc hcap hr hp =>
   have e1:exU L.tf (fH fs L.tf) sc (.list l)=iM L.tf (fH fs L.tf) sc l:=by rw[exU]
   rw[e1] at hlim ⊢;exact oL ZH lo hi p l sc bv hv hs ((Cm p ao cap vs l _ lo hi hc hr hp hB.1).mono (fun e w' h=>h)) h hM hI hbk hlim
 | .group e0,hB=>fun M us w v bv sc h hM hI hE hbk hlim=>by
  rw[uz] at hB;have ha:=om hf hv e0 hB;cases hE with
  | group p v1 _ hb hc q1 =>
   have e1:exU L.tf (fH fs L.tf) sc (.group e0)=iM L.tf (fH fs L.tf) sc [e0]:=by rw[exU,iM,iM,aL]
   rw[e1] at hlim ⊢;refine oL VW lo hi p [e0] sc bv hv (fun j e hj=>?_) ((AQ p v1 e0 _ lo hi hc q1).mono (fun e w' h=>h)) h hM hI hbk hlim
   match j with
   | 0=>simp at hj;subst hj;exact ha
   | j+1=>simp at hj
theorem EU(hf:L.tf<fs.length)(hv:Av L fs.length w0.heap.size lo hi):∀ es:List Ex,xO 268435456 es→∀(j:Nat) (e:Ex),es[j]?=some e→yE w0 L fs lo hi e
 | [],_=>fun j e hj=>by simp at hj
 | a::es,hB=>fun j e hj=>by
  rw[xO] at hB;have ha:=om hf hv a hB.1;have hs:=EU hf hv es hB.2
  match j with
  | 0=>simp at hj;subst hj;exact ha
  | j+1=>exact hs j e (by simpa using hj)
end
end
section
open Tryz
variable{w0:aG}{L:Lay}{fs:List Fl}{M:Mem}{us:List X.U}{w:aG}
theorem EW(pa:Option Addr)(w:aG)(tv:Value) :
  bB 127 #[tv,.pointer none,.pointer pa] w (cK (.pointer pa) fun w'=>Below w.heap.size w w'):=by
 go_enter func127,ntmps127;go_wp2_with fail
 go_ret;exact⟨rfl,aB _ w⟩
def ZQ(pub:Bool)(n:Nm)(pv v:Value)(fr tt:Int):Obj:=.cells #[.bool pub,.string (ba n.1),ak n.2,pv,v,ak fr,ak tt] 181 (0,0)
theorem Dj(lo hi db:Nat)(pub:Bool)(n:Nm)(pa:Option Addr)(y g:Nat)(fr tt:Int)(e1:Ex)(sc:List (List Nm))(pu eu:List X.U)(hv:Av L fs.length w0.heap.size lo hi)(hb:lo≤db∧db<hi)(hub:w0.heap[db]?=some (ZQ pub n (.pointer pa) (.iface y (aH g)) fr tt))(hE:je w0 lo hi (.iface y (aH g)) e1)(h:Run w0 L fs M us w)
  (hC2:∀ w:aG,Run w0 L fs M us w→bB 127 #[aH L.tb,.pointer pa,.pointer none] w fun e w'=>∃ b,e=.returned (.pointer b)∧Hid (Run w0 L fs M (us++pu) w'∧Kx L fs.length w0.heap.size w w'∧jN w' w0.heap.size (.pointer b) sc))
  (hC3:∀(w:aG) (b:Option Addr),Run w0 L fs M (us++pu) w→je w lo hi (.iface y (aH g)) e1→jN w w0.heap.size (.pointer b) sc→bB 126 #[aH L.tb,.iface y (aH g),.pointer b] w fun en w'=>en=.returned (.tuple #[])∧Hid (sF w0 L fs ((us++pu)++eu) w w')) :
  bB 106 #[aH L.tb,aH db] w (cK (.tuple #[]) fun w'=>Hid (sF w0 L fs (us++(pu++eu)) w w')):=by
 have CV:=hv.av db hb.1 hb.2;have hu1:=h.kp.heap hub CV;have u3:w.cell? (aC db 3)=some (.pointer pa):=aj _ _ 3 _ _ _ hu1;have u4:w.cell? (aC db 4)=some (.iface y (aH g)):=aj _ _ 4 _ _ _ hu1;have HCP:=aA (hC2 w.drew (h.below ((aB _ w).drew)));have uh:=aA hC3;have HV:=aA hv;have HU:=aA hub;have HE:=aA hE;have UO:=aA CV;clear h hC2 hC3 hu1 hv hub hE CV;go_enter func106,ntmps106;go_wp2_with fail
 refine dB (S:=fun w'=>w'.cell? (aC db 3)=some (.pointer pa)∧w'.cell? (aC db 4)=some (.iface y (aH g))) (z:=12) bC ?_;have hS:w.drew.cell? (aC db 3)=some (.pointer pa)∧w.drew.cell? (aC db 4)=some (.iface y (aH g)):=⟨u3,u4⟩;iterate 10(refine oQ hS ?_;simp only[Act.put,aD,aO,aP])
 refine fw 10 fun K hK=>?_;go_simp;refine(HCP.o).mono ?_;rintro e w4 ⟨pb4,rfl,X4⟩;have r4:=(X4.o).1;have x4:=(X4.o).2.1;have hu4:=r4.kp.heap HU.o UO.o;have HX:=aA ((uh.o) w4 pb4 r4 ((HE.o).keep r4.kp (HV.o).av) (X4.o).2.2);dsimp only;refine hK.o _ _ (fun _=>⟨cell_of_row w4 _ 3 _ _ _ hu4,cell_of_row w4 _ 4 _ _ _ hu4⟩) (fun hS2=>?_);clear hS hK K;have hS:=hS2 aS;clear hS2;refine fw 11 fun K hK=>?_;go_simp;refine(HX.o).aX fun w5 X5=>?_;obtain⟨M5,r5,m5,i5,x5⟩:=X5.o;have PV:=r5.kp.heap HU.o UO.o;have HF:Hid (sF w0 L fs (us++(pu++eu)) w w5):=by
  refine⟨M5,?_,m5,i5,(((Kx.refl _ _ _ w).drew).trans x4).trans x5⟩
  simpa using r5
 dsimp only;refine hK.o _ _ (fun _=>⟨cell_of_row w5 _ 3 _ _ _ PV,cell_of_row w5 _ 4 _ _ _ PV⟩) (fun _=>iF ?_);clear hK K hS X4 X5 r4 x4 hu4 r5 m5 i5 x5 PV HX uh HCP;go_wp2_with fail
 go_end0;exact⟨rfl,HF⟩
theorem ME(k db:Nat)(n:Nm)(tw:Nat)(iu:List X.U)(CV:¬ L.S fs.length db)(hub:∃ pub pv v fr tt,w0.heap[db]?=some (ZQ pub n pv v fr tt))(h:Run w0 L fs M us w)
  (XZ:∀ w:aG,Run w0 L fs M us w→bB 103 #[aH L.tb,ak k] w (cK (ak tw) fun w'=>Below w.heap.size w w'))
  (hC2:∀ w:aG,Run w0 L fs M (us++jd L.tf n 0 tw) w→bB 106 #[aH L.tb,aH db] w fun en w'=>en=.returned (.tuple #[])∧Hid (sF w0 L fs ((us++jd L.tf n 0 tw)++iu) w w'))
  (hlim:us.length+(jd L.tf n 0 tw).length≤1073741824) :
  bB 70 #[aH L.tb,ak k,aH db] w (cK (.tuple #[]) fun w'=>Hid (sF w0 L fs (us++(jd L.tf n 0 tw++iu)) w w')):=by
 obtain⟨pub,pv,v,fr,tt,hub⟩:=hub;have hu1:=h.kp.heap hub CV;have u1:w.cell? (aC db 1)=some (.string (ba n.1)):=aj _ _ 1 _ _ _ hu1;have u2:w.cell? (aC db 2)=some (ak n.2):=aj _ _ 2 _ _ _ hu1;have HCT:=aA (XZ w.drew (h.below ((aB _ w).drew)));have nC:=aA hC2;have HU:=aA hub;have UO:=aA CV;have HR:=aA h;clear h XZ hC2 hu1 hub CV;go_enter func70,ntmps70;go_wp2_with fail
 refine dB (S:=fun w'=>w'.cell? (aC db 1)=some (.string (ba n.1))∧w'.cell? (aC db 2)=some (ak n.2)) (z:=9) bC ?_;have hS:w.drew.cell? (aC db 1)=some (.string (ba n.1))∧w.drew.cell? (aC db 2)=some (ak n.2):=⟨u1,u2⟩;iterate 7(refine oQ hS ?_;simp only[Act.put,aD,aO,aP])
 refine fw 7 fun K hK=>?_;go_simp;refine(HCT.o).aX fun w2 B2=>?_;have hR2:=(HR.o).below (((Below.refl _ w).drew).trans B2);have hu2:=hR2.kp.heap HU.o UO.o;have HO:=aA (vY n 0 tw hR2 hlim);dsimp only;refine hK.o _ _ (fun _=>⟨cell_of_row w2 _ 1 _ _ _ hu2,cell_of_row w2 _ 2 _ _ _ hu2⟩) (fun hS2=>?_);clear hS hK K;have hS:=hS2 aS;clear hS2;refine fw 8 fun K hK=>?_;go_simp;refine(HO.o).aX fun w3 X3=>?_;have hu3:=(X3.o).1.kp.heap HU.o UO.o;have KX3:=aA <| (Kx.aN (((Below.refl _ w).drew).trans B2)).trans (X3.o).2;have HI:=aA ((nC.o) w3 (X3.o).1);dsimp only;refine hK.o _ _ (fun _=>⟨cell_of_row w3 _ 1 _ _ _ hu3,cell_of_row w3 _ 2 _ _ _ hu3⟩) (fun _=>iF ?_);clear hK K hS X3 hu3 hu2 hR2 B2 HO nC HCT HR u1 u2;go_wp2_with fail
 refine(HI.o).aX fun w5 X5=>?_;have HF:Hid (sF w0 L fs (us++(jd L.tf n 0 tw++iu)) w w5):=by
  obtain⟨M5,r5,m5,i5,x5⟩:=X5.o;refine⟨M5,?_,m5,i5,(KX3.o).trans x5⟩
  simpa using r5
 clear X5 HI KX3;go_wp2_with fail
 go_end0;exact⟨rfl,HF⟩
theorem RU(k lo hi db:Nat)(pub:Bool)(n:Nm)(pv v:Value)(fr tt:Int)(ps:Option (List Nm))(e1:Ex)(hk:(bI fs L.tf)[k]?=some (.dfn pub n ps e1))(hv:Av L fs.length w0.heap.size lo hi)(hb:lo≤db∧db<hi)(hub:w0.heap[db]?=some (ZQ pub n pv v fr tt))(hp:sG w0 lo hi pv ps)(hE:je w0 lo hi v e1)(h:Run w0 L fs M us w)(hM:qF fs M)(xK:Idle M)(hlim:us.length+(BJ fs L.tf k (.dfn pub n ps e1)).length≤1073741824) :
  bB 70 #[aH L.tb,ak k,aH db] w (cK (.tuple #[]) fun w'=>Hid (sF w0 L fs (us++BJ fs L.tf k (.dfn pub n ps e1)) w w')):=by
 obtain⟨FN,hpB,heB⟩:=h.PX hk;obtain⟨y,g,rfl⟩:=hE.iface;have hf:=(mQ hk).1;have XZ:=fun(w:aG) (h:Run w0 L fs M us w)=>Au k _ hk h
 rcases hp with ⟨rfl,rfl⟩|⟨ns,pb,rfl,rfl,hpar⟩
 ·have FX:BJ fs L.tf k (.dfn pub n none e1)=jd L.tf n 0 (gJ (bI fs L.tf) k n.1)++([]++exU L.tf (fH fs L.tf) [] e1):=rfl
  rw[FX] at hlim ⊢;rw[ay,ay] at hlim;refine ME k db n _ _ (hv.av db hb.1 hb.2) ⟨_,_,_,_,_,hub⟩ h XZ (fun w h=>Dj lo hi db pub n none y g fr tt e1 [] [] _ hv hb hub hE h (fun w h=>(EW none w _).mono ?_) (fun w b hr he hbk=>?_)) au
  ·rintro e w' ⟨rfl,hB⟩
   exact⟨none,rfl,by rw[aL];exact h.below hB,Kx.aN hB,.nil⟩
  ·rw[aL] at hr ⊢
   exact om hf hv e1 heB M _ w _ _ [] hr hM xK he hbk (by rw[ay];omega)
 ·have FX:BJ fs L.tf k (.dfn pub n (some ns) e1)=jd L.tf n 0 (gJ (bI fs L.tf) k n.1)++(iL L.tf [] ns++exU L.tf (fH fs L.tf) [ns] e1):=rfl
  rw[FX] at hlim ⊢;rw[ay,ay] at hlim;refine ME k db n _ _ (hv.av db hb.1 hb.2) ⟨_,_,_,_,_,hub⟩ h XZ (fun w h=>Dj lo hi db pub n (b_ pb) y g fr tt e1 [ns] _ _ hv hb hub hE h (fun w h=>(yD lo hi pb ns (.pointer none) [] hv (hpar.keep h.kp hv.av) hpB h .nil (by rw[ay];omega)).mono ?_) (fun w b hr he hbk=>?_)) au
  ·rintro e w' ⟨b,rfl,H⟩
   exact⟨_,rfl,H⟩
  ·exact om hf hv e1 heB M _ w _ _ [ns] hr hM xK he hbk (by rw[ay,ay];omega)
theorem Run.one(h:Run w0 L fs M us w){w':aG}{b:Nat}{o:Obj}(hk:Kp (fun q=>q=b) w w')(hb:w0.heap.size≤b)(ho:w.heap[b]?=some o)(hn:∀ cs d,o≠.cells cs 72 d):Run w0 L fs M us w':=by
 refine⟨h.st,h.kp.trans hk (fun i hi e=>au),?_,fun i hi=>?_,h.lim⟩
 ·obtain⟨nv,h1,h2⟩:=h.tl
  refine⟨nv,hk.heap h1 (fun e=>by have:=h.st.wl;omega),hk.owns h2 (fun q hq e=>?_)⟩;rcases h2.2 with ⟨rfl,-⟩|⟨g',cap',cur,rfl,hge,hgg,-⟩
  ·cases hq
  ·cases hq
   have e':g'=b:=e;rw[e',ho] at hgg;exact hn _ _ (bQ hgg)
 ·obtain⟨arr,x1,x2⟩:=h.fd i hi
  exact⟨arr,hk.heap x1 (fun e=>by have:=(h.st.gl i hi).1;omega),x2⟩
theorem RQ{P:Program}{ops:Array Oper}{Q:Exit→Act→World→Prop}{S:aG→Prop}{z i k:Nat}{o u:Oper}{n:Nat}{d:Array Bool}{a:Act}{w:aG}(hr:Region.ready .any ops d=[i,k])(ho:ops[i]?=some o)(hu:ops[k]?=some u)
  (h:∀ K:Act→World→Prop,Hid (∀ a' w',(i≠z→S w')→((i≠z→S w')→mH P ops Q S z n (d.setIfInBounds i true) a' w')→K a' w')→if Region.wanted o (yielded ops a.tmps)=true then Oper.wp P o a w K Q else K (a.put o.dst undef) w)
  (h':∀ K:Act→World→Prop,Hid (∀ a' w',(k≠z→S w')→((k≠z→S w')→mH P ops Q S z n (d.setIfInBounds k true) a' w')→K a' w')→if Region.wanted u (yielded ops a.tmps)=true then Oper.wp P u a w K Q else K (a.put u.dst undef) w):mH P ops Q S z (n+1) d a w:=by
 refine⟨fun h0=>(by rw[hr] at h0;cases h0),fun j hj=>?_⟩;rw[hr] at hj;rcases fJ.1 hj with rfl|hj
 ·exact wpOp_step ho (fun K' hK=>h K' (fun a' w' h1 h2=>hK a' w' ⟨h1,h2 h1⟩))
 ·obtain rfl:j=k:=by simpa using hj
  exact wpOp_step hu (fun K' hK=>h' K' (fun a' w' h1 h2=>hK a' w' ⟨h1,h2 h1⟩))
theorem VX(k lo hi ub:Nat)(pub gs:Bool)(m n a:Nm)(tm:List X.U)(tf tt:Int)(er tw MC:Nat)(hv:Av L fs.length w0.heap.size lo hi)(hb:lo≤ub∧ub<hi)(hub:w0.heap[ub]?=some (Om pub gs m n a))(h:Run w0 L fs M us w)
  (XZ:∀ w:aG,Run w0 L fs M us w→bB 101 #[aH L.tb,.agg #[.string (ba m.1),ak m.2]] w (cK (.tuple #[]) fun w'=>Hid (Run w0 L fs M (us++tm) w'∧Kx L fs.length w0.heap.size w w')))
  (hC2:∀ w:aG,Run w0 L fs M (us++tm) w→bB 102 #[aH L.wb,ak L.tf,ak k,aH ub] w (cK (.agg #[ak 2,ak tf,ak tt,ak er]) fun w'=>Hid (∃ M',Run w0 L fs M' (us++tm) w'∧qF fs M'∧Idle M'∧Kx L fs.length w0.heap.size w w')))
  (hC3:∀(M:Mem) (w:aG),Run w0 L fs M (us++tm) w→bB 103 #[aH L.tb,ak k] w (cK (ak tw) fun w'=>Below w.heap.size w w'))
  (he:MC=if er=0∧gs=false then tw else er)
  (hlim:us.length+tm.length+(X.f_ L.tf n 4 (tf,tt,MC)).length+(X.f_ L.tf a 5 (tf,tt,tw)).length≤1073741824) :
  bB 69 #[aH L.tb,ak k,aH ub] w (cK (.tuple #[]) fun w'=>Hid (sF w0 L fs (us++(tm++(X.f_ L.tf n 4 (tf,tt,MC)++X.f_ L.tf a 5 (tf,tt,tw)))) w w')):=by
 have h0:=h.size;have hSl:=h.st.lt;have hu1:=h.kp.heap hub (hv.av ub hb.1 hb.2);have u1:w.cell? (aC ub 1)=some (.string (ba m.1)):=aj _ _ 1 _ _ _ hu1;have u2:w.cell? (aC ub 2)=some (ak m.2):=aj _ _ 2 _ _ _ hu1;have ug:=aA (XZ w h);have nC:=aA hC2;have uh:=aA hC3;have HU:=aA hub;have UO:=aA ((hv.av ub hb.1 hb.2));clear h XZ hC2 hC3 hu1 hv hub;go_enter func69,ntmps69;go_wp2_with fail
 refine(ug.o).aX fun w2 X2=>?_;have HR2:=aA (X2.o).1;have XW:=aA (X2.o).2;obtain⟨nv2,t0,t1,-⟩:=(HR2.o).cells;clear X2 u1 u2 ug
 go_upto_region 1 with fail
 go_cut [6] (fun v wx=>∃(b:Nat) (M3:Mem),v=aH b∧Hid (w0.heap.size≤b∧w.heap.size≤b∧wx.heap[b]?=some (.cells #[ak 2,ak tf,ak tt,ak er] 222 (0,0))∧Run w0 L fs M3 (us++tm) wx∧qF fs M3∧Idle M3∧Kx L fs.length w0.heap.size w wx))
 case first =>
  have k2:=(HR2.o).size;have kw2:=Kp.size XW.o;have Nn:Hid (∀(Wa:aG) (b:Nat) (M3:Mem),w0.heap.size≤b→w.heap.size≤b→Wa.heap[b]?=some (.cells #[ak 0,ak 0,ak 0,ak 0] 222 (0,0))→Run w0 L fs M3 (us++tm) Wa→qF fs M3→Idle M3→Kx L fs.length w0.heap.size w Wa→w0.heap.size≤b∧w.heap.size≤b∧((((Wa.setCell (aC b 0) (ak 2)).setCell (aC b 1) (ak tf)).setCell (aC b 2) (ak tt)).setCell (aC b 3) (ak er)).heap[b]?=some (.cells #[ak 2,ak tf,ak tt,ak er] 222 (0,0))∧Run w0 L fs M3 (us++tm) ((((Wa.setCell (aC b 0) (ak 2)).setCell (aC b 1) (ak tf)).setCell (aC b 2) (ak tt)).setCell (aC b 3) (ak er))∧qF fs M3∧Idle M3∧Kx L fs.length w0.heap.size w ((((Wa.setCell (aC b 0) (ak 2)).setCell (aC b 1) (ak tf)).setCell (aC b 2) (ak tt)).setCell (aC b 3) (ak er))):=fun Wa b M3 hb0 hbw hz hr hm hi hk=>by
   have k4:Kp (fun q=>q=b) Wa ((((Wa.setCell (aC b 0) (ak 2)).setCell (aC b 1) (ak tf)).setCell (aC b 2) (ak tt)).setCell (aC b 3) (ak er)):=On.set (On.set (On.set (On.set (Kp.refl _ Wa) 0 _) 1 _) 2 _) 3 _;exact⟨hb0,hbw,jL hz,hr.one k4 hb0 hz (fun cs d e=>by cases e),hm,hi,Kp.trans hk k4 (fun i hi e=>au)⟩
  go_wp2_with fail
  refine dB (S:=fun w'=>w'.cell? (aC L.tb 0)=some (aH L.wb)∧w'.cell? (aC L.tb 1)=some (ak L.tf)) (z:=12) bC ?_;have hS:w2.drew.cell? (aC L.tb 0)=some (aH L.wb)∧w2.drew.cell? (aC L.tb 1)=some (ak L.tf):=⟨t0,t1⟩;iterate 10(refine ny hS ?_;simp only[Act.put,aD,aO,aP])
  refine RQ (i:=10) (k:=11) bC rfl rfl (fun K hK=>?_) (fun K hK=>?_)
  ·go_simp
   refine((nC.o) w2.drew ((HR2.o).below (Below.refl _ w2).drew)).aX fun w3 X3=>?_;obtain⟨M3,r3,m3,i3,x3⟩:=X3.o;obtain⟨nv3,v0,v1,-⟩:=r3.cells;dsimp only;refine hK.o _ _ (fun _=>⟨v0,v1⟩) (fun hS2=>?_);clear hS hK K;have hS:=hS2 aS;clear hS2;refine fw 11 fun K hK=>?_;go_simp;have hZ:=heap_alloc_new w3 (.cells #[ak 0,ak 0,ak 0,ak 0] 222);have hRa:=r3.alloc (.cells #[ak 0,ak 0,ak 0,ak 0] 222);have hKa:Kx L fs.length w0.heap.size w (w3.alloc (.cells #[ak 0,ak 0,ak 0,ak 0] 222)):=((((XW.o).drew).trans x3).alloc _);have hw3:=Kp.size (((XW.o).drew).trans x3);have h03:=r3.size;refine hK.o _ _ (fun _=>⟨Lib.cell?_alloc_some _ v0,Lib.cell?_alloc_some _ v1⟩) (fun hS2=>?_);clear hS hK K;have hS:=hS2 aS;clear hS2;generalize w3.alloc (.cells #[ak 0,ak 0,ak 0,ak 0] 222)=Wa at *;generalize w3.heap.size=b at *;have e0:=cell_of_row Wa _ 0 _ _ _ hZ;have e1:=cell_of_row Wa _ 1 _ _ _ hZ;have e2:=cell_of_row Wa _ 2 _ _ _ hZ;have e3:=cell_of_row Wa _ 3 _ _ _ hZ;have q0:=oo hZ 0;have q1:=oo hZ 1;have q2:=oo hZ 2;have q3:=oo hZ 3;have HG:=aA ((Nn.o) Wa _ M3 au au hZ hRa m3 i3 hKa);have HM:Hid (qF fs M3∧Idle M3):=⟨m3,i3⟩;clear hZ hRa hKa X3 r3 m3 i3 x3 Nn;refine fw 12 fun K hK=>?_;go_simp;refine hK.o _ _ (fun h=>absurd rfl h) (fun _=>iF ?_);clear hK K hS e0 e1 e2 e3 q0 q1 q2 q3;go_wp2_with fail
   go_meet
   exact⟨_,M3,rfl,HG⟩
  ·go_simp
   refine hK.o _ _ (fun _=>⟨Lib.cell?_alloc_some _ t0,Lib.cell?_alloc_some _ t1⟩) (fun hS2=>?_);clear hS hK K;have hS:=hS2 aS;clear hS2;have hZ0:=heap_alloc_new w2 (.cells #[ak 0,ak 0,ak 0,ak 0] 222);have hRz:Run w0 L fs M (us++tm) (w2.alloc (.cells #[ak 0,ak 0,ak 0,ak 0] 222)).drew:=(HR2.o).below (((Below.refl _ w2).alloc (Nat.le_refl _) _).drew);refine fw 10 fun K hK=>?_;go_simp;refine((nC.o) _ hRz).aX fun w3 X3=>?_;obtain⟨M3,r3,m3,i3,x3⟩:=X3.o;obtain⟨nv3,v0,v1,-⟩:=r3.cells;have hZ:=x3.made (b:=w2.heap.size) hSl hZ0 k2 (fun cs d e=>by cases e);have hRa:=r3;have hKa:=(((XW.o).alloc _).drew).trans x3;dsimp only;refine hK.o _ _ (fun _=>⟨v0,v1⟩) (fun hS2=>?_);clear hS hK K hZ0 hRz;have hS:=hS2 aS;clear hS2;have e0:=cell_of_row w3 _ 0 _ _ _ hZ;have e1:=cell_of_row w3 _ 1 _ _ _ hZ;have e2:=cell_of_row w3 _ 2 _ _ _ hZ;have e3:=cell_of_row w3 _ 3 _ _ _ hZ;have q0:=oo hZ 0;have q1:=oo hZ 1;have q2:=oo hZ 2;have q3:=oo hZ 3;have HG:=aA ((Nn.o) w3 _ M3 au au hZ hRa m3 i3 hKa);have HM:Hid (qF fs M3∧Idle M3):=⟨m3,i3⟩;clear hZ hRa hKa X3 r3 m3 i3 x3 Nn;refine fw 12 fun K hK=>?_;go_simp;refine hK.o _ _ (fun h=>absurd rfl h) (fun _=>iF ?_);clear hK K hS e0 e1 e2 e3 q0 q1 q2 q3;go_wp2_with fail
   go_meet
   exact⟨_,M3,rfl,HG⟩
 case rest =>
  obtain⟨b,M3,rfl,HX⟩:=hcut;have h0b:=(HX.o).1;have hwb:=aA (HX.o).2.1;have HA4:=aA (HX.o).2.2.1;have HR4:=aA (HX.o).2.2.2.1;have vN:=aA (HX.o).2.2.2.2.1;have HI4:=aA (HX.o).2.2.2.2.2.1;have KX4:=aA (HX.o).2.2.2.2.2.2;have Ai:=aA ((uh.o) M3 _ HR4.o);clear HX uh XW HR2 nC t0 t1;go_wp2_with fail
  refine(Ai.o).aX fun w5 B5=>?_;have OA:=aA ((Kp.aN B5 (fun _=>False)).heap HA4.o id);have LY:=aA ((HR4.o).below B5);have KX5:=aA <| (KX4.o).trans (Kx.aN B5);have PV:=(LY.o).kp.heap HU.o UO.o;have u55:w5.cell? (aC ub 5)=some (.bool gs):=aj w5 _ 5 _ _ _ PV;have a35:=aj w5 _ 3 _ _ _ OA.o;have za:=bW w5 _ 3 _ _ OA.o;clear B5 HA4 HR4 KX4 Ai PV;have bL1:(er=0∧gs=false∧MC=tw)∨(MC=er∧(er≠0∨(er=0∧gs=true))):=by
   by_cases hq:er=0
   ·cases gs with
    | false=>exact .inl ⟨hq,rfl,by rw[he,aU ⟨hq,rfl⟩]⟩
    | true=>exact .inr ⟨by rw[he,aM aT],.inr ⟨hq,rfl⟩⟩
   ·exact .inr ⟨by rw[he,aM (fun e=>hq e.1)],.inl hq⟩
  clear he;rcases bL1 with ⟨rfl,rfl,he2⟩|⟨he2,hq|⟨rfl,rfl⟩⟩
  all_goals first
   | have q1:((er:Int)==0)=false:=by simp;omega
     have ZO:Hid (w5.heap[b]?=some (.cells #[ak 2,ak tf,ak tt,ak MC] 222 (0,0))):=by rw[he2];exact OA.o
     have BL:=LY;have KX6:=KX5;clear OA LY KX5 he2 za hwb
     go_upto_region 5 with fail
     clear a35 u55 q1 hq;generalize w5=W6 at *
   | have he3:=he2
     clear he2;have ZP:w5.cell? (aC b 3)=some (ak 0):=a35;clear a35;have ze:Kp (fun q=>q=b) w5 (w5.setCell (aC b 3) (ak tw)):=On.set (Kp.refl _ w5) 3 _;have ZO:Hid ((w5.setCell (aC b 3) (ak tw)).heap[b]?=some (.cells #[ak 2,ak tf,ak tt,ak MC] 222 (0,0))):=by rw[he3];exact dV OA.o 3 _
     have BL:=aA <| (LY.o).one ze h0b OA.o (fun cs d e=>by cases e);have KX6:Hid (Kx L fs.length w0.heap.size w (w5.setCell (aC b 3) (ak tw))):=Kp.trans KX5.o ze (fun i hi e=>by have:=hwb.o;omega);clear ze OA LY KX5
     go_upto_region 5 with fail
     generalize w5.setCell (aC b 3) (ak tw)=W6 at *;clear ZP za u55 he3 hwb
   | have ZP:w5.cell? (aC b 3)=some (ak 0):=a35
     have ZO:Hid (w5.heap[b]?=some (.cells #[ak 2,ak tf,ak tt,ak MC] 222 (0,0))):=by rw[he2];exact OA.o
     have BL:=LY;have KX6:=KX5;clear OA LY KX5 he2 za hwb a35
     go_upto_region 5 with fail
     clear ZP u55;generalize w5=W6 at *
  all_goals
   have hu6:=(BL.o).kp.heap HU.o UO.o;have u36:W6.cell? (aC ub 3)=some (.string (ba n.1)):=aj W6 _ 3 _ _ _ hu6;have u46:W6.cell? (aC ub 4)=some (ak n.2):=aj W6 _ 4 _ _ _ hu6;have a16:W6.cell? (aC b 1)=some (ak tf):=aj W6 _ 1 _ _ _ ZO.o;have a26:W6.cell? (aC b 2)=some (ak tt):=aj W6 _ 2 _ _ _ ZO.o;have a36:W6.cell? (aC b 3)=some (ak MC):=aj W6 _ 3 _ _ _ ZO.o;have Ec:=aA (oJ n 4 tf tt MC ((BL.o).below ((aB _ W6).drew)) (by rw[ay];omega));clear hu6;go_wp2_with fail
   refine dB (S:=fun w'=>w'.cell? (aC ub 3)=some (.string (ba n.1))∧w'.cell? (aC ub 4)=some (ak n.2)∧w'.cell? (aC b 1)=some (ak tf)∧w'.cell? (aC b 2)=some (ak tt)∧w'.cell? (aC b 3)=some (ak MC)) (z:=10) bC ?_;have hS:W6.drew.cell? (aC ub 3)=some (.string (ba n.1))∧W6.drew.cell? (aC ub 4)=some (ak n.2)∧W6.drew.cell? (aC b 1)=some (ak tf)∧W6.drew.cell? (aC b 2)=some (ak tt)∧W6.drew.cell? (aC b 3)=some (ak MC):=⟨u36,u46,a16,a26,a36⟩;iterate 9(refine oQ hS ?_;simp only[Act.put,aD,aO,aP])
   refine fw 9 fun K hK=>?_;go_simp;refine(Ec.o).aX fun w7 X7=>?_;have r7:=(X7.o).1;have x7:=(X7.o).2;have hA7:=x7.made (b:=b) hSl ZO.o h0b (fun cs d e=>by cases e);have hu7:=r7.kp.heap HU.o UO.o;have u37:w7.cell? (aC ub 3)=some (.string (ba n.1)):=cell_of_row w7 _ 3 _ _ _ hu7;have u47:w7.cell? (aC ub 4)=some (ak n.2):=cell_of_row w7 _ 4 _ _ _ hu7;have u67:w7.cell? (aC ub 6)=some (.string (ba a.1)):=cell_of_row w7 _ 6 _ _ _ hu7;have u77:w7.cell? (aC ub 7)=some (ak a.2):=cell_of_row w7 _ 7 _ _ _ hu7;have a17:w7.cell? (aC b 1)=some (ak tf):=cell_of_row w7 _ 1 _ _ _ hA7;have a27:w7.cell? (aC b 2)=some (ak tt):=cell_of_row w7 _ 2 _ _ _ hA7;have a37:w7.cell? (aC b 3)=some (ak MC):=cell_of_row w7 _ 3 _ _ _ hA7;dsimp only;refine hK.o _ _ (fun _=>⟨u37,u47,a17,a27,a37⟩) (fun _=>iF ?_);clear hK K hS;have HA7:=aA hA7;have KX7:=aA <| ((KX6.o).drew).trans x7;have Gl:=aA (oJ a 5 tf tt tw (r7.below ((Below.refl _ w7).drew)) (by rw[List.length_append,List.length_append];omega));clear X7 r7 x7 hA7 hu7 ZO BL KX6 u36 u46 a16 a26 a36 u37 u47 a37 Ec;go_wp2_with fail
   refine dB (S:=fun w'=>w'.cell? (aC ub 6)=some (.string (ba a.1))∧w'.cell? (aC ub 7)=some (ak a.2)∧w'.cell? (aC b 1)=some (ak tf)∧w'.cell? (aC b 2)=some (ak tt)) (z:=9) bC ?_;have hS:w7.drew.cell? (aC ub 6)=some (.string (ba a.1))∧w7.drew.cell? (aC ub 7)=some (ak a.2)∧w7.drew.cell? (aC b 1)=some (ak tf)∧w7.drew.cell? (aC b 2)=some (ak tt):=⟨u67,u77,a17,a27⟩;iterate 8(refine oQ hS ?_;simp only[Act.put,aD,aO,aP])
   refine fw 8 fun K hK=>?_;go_simp;refine(Gl.o).aX fun w8 X8=>?_;have hA8:=(X8.o).2.made (b:=b) hSl HA7.o h0b (fun cs d e=>by cases e);have hu8:=(X8.o).1.kp.heap HU.o UO.o;have HF:Hid (sF w0 L fs (us++(tm++(X.f_ L.tf n 4 (tf,tt,MC)++X.f_ L.tf a 5 (tf,tt,tw)))) w w8):=by
    refine⟨M3,?_,vN.o,HI4.o,((KX7.o).drew).trans (X8.o).2⟩;have:=(X8.o).1
    simpa using this
   dsimp only;refine hK.o _ _ (fun _=>⟨cell_of_row w8 _ 6 _ _ _ hu8,cell_of_row w8 _ 7 _ _ _ hu8,cell_of_row w8 _ 1 _ _ _ hA8,cell_of_row w8 _ 2 _ _ _ hA8⟩) (fun _=>iF ?_);clear hK K hS X8 hA8 hu8 HA7 KX7 u67 u77 a17 a27 Gl;go_wp2_with fail
   go_end0;exact⟨rfl,HF⟩
theorem RS(k lo hi ub:Nat)(pub gs:Bool)(m n a:Nm)(hk:(bI fs L.tf)[k]?=some (.use pub m n gs a))(hv:Av L fs.length w0.heap.size lo hi)(hb:lo≤ub∧ub<hi)(hub:w0.heap[ub]?=some (Om pub gs m n a))(h:Run w0 L fs M us w)(hM:qF fs M)(xK:Idle M)(hlim:us.length+(BJ fs L.tf k (.use pub m n gs a)).length≤1073741824) :
  bB 69 #[aH L.tb,ak k,aH ub] w (cK (.tuple #[]) fun w'=>Hid (sF w0 L fs (us++BJ fs L.tf k (.use pub m n gs a)) w w')):=by
 obtain⟨hmB,FN,haB⟩:=h.PX hk;have FX:BJ fs L.tf k (.use pub m n gs a)=X.f_ L.tf m 3 (match m_ fs m.1 with|some f'=>(f',-1,0)|none=>(-1,-1,4))++(X.f_ L.tf n 4 ((iC fs (h_ fs) L.tf k).1,(iC fs (h_ fs) L.tf k).2.1,if (iC fs (h_ fs) L.tf k).2.2=0∧gs=false then gJ (bI fs L.tf) k (if gs then a else n).1 else(iC fs (h_ fs) L.tf k).2.2)++X.f_ L.tf a 5 ((iC fs (h_ fs) L.tf k).1,(iC fs (h_ fs) L.tf k).2.1,gJ (bI fs L.tf) k (if gs then a else n).1)):=rfl;have hm3:=fun(w:aG) (h:Run w0 L fs M us w)=>GY m hmB h
 generalize hX:BJ fs L.tf k (.use pub m n gs a)=Xu at *;generalize htm:X.f_ L.tf m 3 (match m_ fs m.1 with|some f'=>(f',-1,0)|none=>(-1,-1,4))=tm at *;rw[FX] at hlim ⊢;rw[ay,ay] at hlim;exact VX k lo hi ub pub gs m n a tm _ _ _ _ _ hv hb hub h (fun w h=>hm3 w h au) (fun w h=>RH L.tf k pub gs m n a ub h hM xK hk hub (hv.av ub hb.1 hb.2)) (fun M w h=>Au k _ hk h) rfl au
end
section
open Tryz
namespace X
theorem AR(fs:List Fl)(f:Nat)(r:List It):∀(l:List It) (k:Nat),jZ fs f k (l++r)=jZ fs f k l++jZ fs f (k+l.length) r
 | [],k=>by rw[bM,jZ,bM];rfl
 | a::l,k=>by rw[fM,jZ,jZ,AR fs f r l,aK,aY,show k+1+l.length=k+(l.length+1) by omega]
theorem t_{fs:List Fl}{f:Nat}{l:List It}{j:Nat}{it:It}(h:l[j]?=some it):jZ fs f 0 (l.take (j+1))=jZ fs f 0 (l.take j)++BJ fs f j it:=by
 have hj:j<l.length:=by
  rcases cu j l.length with g|g
  ·exact g
  ·rw[bf g] at h;cases h
 rw[lg h,AR,jZ,jZ,aL,dX,show 0+min j l.length=j by omega]
theorem CU(fs:List Fl)(f:Nat)(l:List It)(j:Nat):(jZ fs f 0 (l.take j)).length≤(jZ fs f 0 l).length:=by
 have:=AR fs f (l.drop j) (l.take j) 0;rw[fD] at this;rw[this,ay];omega
end X
theorem RV(b:Nat)(w:aG):(Instr.typeAssert (.iface 121 (aH b)) 161 123 true).run prog w=.ok (.tuple #[.pointer none,.bool false]) w:=bC
theorem RX(b:Nat)(w:aG):(Instr.typeAssert (.iface 123 (aH b)) 161 123 true).run prog w=.ok (.tuple #[aH b,.bool true]) w:=bC
variable{w0:aG}{L:Lay}{fs:List Fl}{M:Mem}{us:List X.U}{w:aG}
theorem Run.ZR(h:Run w0 L fs M us w)(f:Nat):Run w0 { L with tf:=f } fs M us (w.setCell (aC L.tb 1) (ak f))∧Kx L fs.length w0.heap.size w (w.setCell (aC L.tb 1) (ak f)):=by
 have k1:Kp (fun q=>q=L.tb) w (w.setCell (aC L.tb 1) (ak f)):=On.set (Kp.refl _ w) 1 _;have kx:Kx L fs.length w0.heap.size w (w.setCell (aC L.tb 1) (ak f)):=Kp.trans (Kp.refl _ w) k1 (fun i hi e=>.inl (.inl e));refine⟨⟨⟨h.st.n,h.st.ws,h.st.mp,h.st.ms,h.st.fl,h.st.fi,h.st.nm,h.st.its,h.st.bd,h.st.il,h.st.wl,h.st.gl⟩,kx.st h.kp,?_,fun i hi=>?_,h.lim⟩,kx⟩
 ·obtain⟨nv,h1,h2⟩:=h.tl
  refine⟨nv,dV h1 1 _,k1.owns h2 (fun q hq e=>?_)⟩;have:=(dG h2 q hq).1;have:=h.st.wl;omega
 ·obtain⟨arr,x1,x2⟩:=h.fd i hi
  exact⟨arr,k1.heap x1 (h.st.gl i hi).2.1,x2⟩
theorem sF.step{a:aG}{j:Nat}{wr w2:aG}(h:sF w0 L fs (us++jZ fs L.tf 0 ((bI fs L.tf).take j)) a wr){it:It}(he:(bI fs L.tf)[j]?=some it)(ht:sF w0 L fs ((us++jZ fs L.tf 0 ((bI fs L.tf).take j))++BJ fs L.tf j it) wr w2):sF w0 L fs (us++jZ fs L.tf 0 ((bI fs L.tf).take (j+1))) a w2:=by
 obtain⟨M2,r2,m2,i2,x2⟩:=ht;obtain⟨M1,r1,m1,i1,x1⟩:=h;exact⟨M2,by rw[t_ he,← aK];exact r2,m2,i2,x1.trans x2⟩
theorem VY(hf:L.tf<fs.length)(x:Value)(hx:w.cell? (aC L.tb 1)=some x)(hz:w.frozen? (aC L.tb 1)=false)(h:Run w0 L fs M us (w.setCell (aC L.tb 1) (ak L.tf)))(hM:qF fs M)(xK:Idle M)(hlim:us.length+(jZ fs L.tf 0 (bI fs L.tf)).length≤1073741824) :
  bB 42 #[aH L.tb,ak L.tf] w (cK (.tuple #[]) fun w'=>Hid (sF w0 L fs (us++jZ fs L.tf 0 (bI fs L.tf)) (w.setCell (aC L.tb 1) (ak L.tf)) w')):=by
 go_enter func42,ntmps42
 go_upto_region 1 with fail
 clear hx hz;generalize hW:w.setCell (aC L.tb 1) (ak L.tf)=W at *;have HW:=aA hW;clear hW;have hn16:=h.st.n;have Zy:=h.st.il L.tf;obtain⟨nv,t0,-,-⟩:=h.cells;obtain⟨-,c1⟩:=h.VR;obtain⟨fg,vZ,d1,d2,d3,d4⟩:=h.files hf;rw[d1] at c1;obtain⟨lo,hi,hits,hit2,hit3⟩:=h.st.its L.tf hf;obtain⟨ao,cap,vs,e1,e2,e3,e4,e5⟩:=hits.ex;have wZ:=h.file hf;rw[e1] at wZ;have g0:=aj _ _ 0 _ _ _ wZ;have hi1:(L.tf:Int)<(fs.length:Int):=au
 have HI0:Hid (sF w0 L fs (us++jZ fs L.tf 0 ((bI fs L.tf).take 0)) W W):=⟨M,by rw[jr,jZ,aL];exact h,hM,xK,Kx.refl _ _ _ _⟩;have HV:Hid (Av L fs.length w0.heap.size lo hi):=⟨hit2,hit3⟩;have H4:=aA e4;have H5:=aA e5;generalize X0:bI fs L.tf=its at *;have HIT:=aA X0;clear h hM xK hits wZ d1 e1 e4 e5 X0 hit2 hit3;go_wp2_with fail
 go_loopw [28] (fun v wr=>∃ j:Nat,v=ak j∧j≤its.length∧Hid (sF w0 L fs (us++jZ fs L.tf 0 (its.take j)) W wr)) (fun v _=>its.length - (intOf v).toNat)
 case atStart=>exact⟨0,rfl,bJ _,HI0⟩
 case round =>
  obtain⟨j,rfl,hj,HI⟩:=hrel;clear HI0 t0 c1 d4 g0;by_cases hjl:j<its.length
  ·obtain⟨it,he⟩:∃ it,its[j]?=some it:=⟨its[j],aF hjl⟩
   have he':(bI fs L.tf)[j]?=some it:=by rw[HIT.o];exact he
   obtain⟨g,hao,y1,y2,y3,-⟩:=(H4.o) j hjl;subst hao;have hi2:(j:Int)<(its.length:Int):=au
   obtain⟨M1,r1,m1,i1,x1⟩:=HI.o;have y4:=r1.kp.dD y3 ((HV.o).av g y1 y2);have hl2:(us++jZ fs L.tf 0 (its.take j)).length+(BJ fs L.tf j it).length≤1073741824:=by
    have q1:=CU fs L.tf its (j+1);rw[t_ he,ay] at q1;rw[ay];omega
   have HS:Hid (∀ w2,sF w0 L fs ((us++jZ fs L.tf 0 (its.take j))++BJ fs L.tf j it) wr w2→sF w0 L fs (us++jZ fs L.tf 0 (its.take (j+1))) W w2):=fun w2 ht=>by
    have:=HI.o;rw[← HIT.o] at this ht ⊢;exact this.step he' ht
   have hIs:=(H5.o) j it he;generalize vs j=vj at *;cases hIs with
   | use ub pub gs m n a hb hub =>
    have HC:=aA (RS j lo hi ub pub gs m n a he' HV.o hb hub r1 m1 i1 hl2);have q1:=Mt ub;have q2:=RV ub;clear r1 m1 i1 x1 y3 hub hl2 HI;go_wp2_with fail
    refine(HC.o).aX fun w3 X3=>?_;have HI3:=aA ((HS.o) w3 X3.o);clear HC X3 HS y4;go_wp2_with fail
    exact⟨⟨j+1,aT,au,HI3⟩,by simp[intOf];omega⟩
   | dfn db pub n pv ps v e hb hd hp hE =>
    have HC:=aA (RU j lo hi db pub n pv v _ _ ps e he' HV.o hb hd hp hE r1 m1 i1 hl2);have q1:=Mv db;have q2:=RX db;clear r1 m1 i1 x1 y3 hd hl2 hp hE HI;go_wp2_with fail
    refine(HC.o).aX fun w3 X3=>?_;have HI3:=aA ((HS.o) w3 X3.o);clear HC X3 HS y4;go_wp2_with fail
    exact⟨⟨j+1,aT,au,HI3⟩,by simp[intOf];omega⟩
  ·obtain rfl:j=its.length:=by omega
   have hd1:¬(its.length:Int)<(its.length:Int):=au
   have HF:Hid (sF w0 L fs (us++jZ fs L.tf 0 its) W wr):=by
    have:=HI.o;rw[fC] at this;exact this
   clear HI;go_wp2_with fail
   go_end0;exact⟨rfl,by rw[HW.o,HIT.o];exact HF⟩
theorem RY(f:Nat)(hf:f<fs.length)(h:Run w0 L fs M us w)(hM:qF fs M)(xK:Idle M)(hlim:us.length+(jZ fs f 0 (bI fs f)).length≤1073741824) :
  bB 42 #[aH L.tb,ak f] w (cK (.tuple #[]) fun w'=>Hid (∃ M',Run w0 { L with tf:=f } fs M' (us++jZ fs f 0 (bI fs f)) w'∧qF fs M'∧Idle M'∧Kx L fs.length w0.heap.size w w')):=by
 obtain⟨h1,k1⟩:=h.ZR f;obtain⟨nv,g1,-⟩:=h.tl;refine(VY (L:={ L with tf:=f }) hf _ (aj w _ 1 _ _ _ g1) (bW w _ 1 _ _ g1) h1 hM xK hlim).aX fun w' X=>?_;obtain⟨M5,r5,m5,i5,x5⟩:=X.o;exact⟨rfl,M5,r5,m5,i5,k1.trans x5⟩
end
end Go.Proofs.YtoohcklcppnafaaGreatDoor
