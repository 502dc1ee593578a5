/- Package scope: the names in an expression: kinds that name nothing themselves. -/
import Derived.Test.YtdkpkpgpphkljaaGreatDoorJh
namespace Go.Proofs.YtdkpkpgpphkljaaGreatDoor
set_option maxRecDepth 100000
set_option maxHeartbeats 8000000
open Go.RowKit
open M
section
open Tryz
variable{j lo hi:Nat}{es:List X.Ex}{sc:List (List X.Nm)}
namespace X
theorem zH(f:Nat)(top:ah→An)(sc:List (List Nm)):∀ a b:List Ex,gL f top sc (a++b)=gL f top sc a++gL f top sc b
 | [],b=>by rw[bT,gL,bT]
 | e::a,b=>by rw[dx,gL,gL,zH f top sc a b,aA]
theorem BV{f:Nat}{top:ah→An}{sc:List (List Nm)}{es:List Ex}{e:Ex}(h:es[j]?=some e):gL f top sc (es.take (j+1))=gL f top sc (es.take j)++exU f top sc e:=by
 rw[jH h,zH,gL,gL,aJ]
theorem Mf(f:Nat)(top:ah→An)(sc:List (List Nm))(es:List Ex)(j:Nat):(gL f top sc (es.take j)).length≤(gL f top sc es).length:=by
 have:=zH f top sc (es.take j) (es.drop j);rw[dA] at this;rw[this,ak];omega
end X
structure WK(w w0:World)(L:Lay)(fs:List X.Fl)(us:List X.U)(lo hi:Nat)(es:List X.Ex)(ao:Option Addr)(vs:Nat→Value)(bv:Value)(sc:List (List X.Nm))(j:Nat)(wr:World):Prop where
 tld:qX w0 L fs (us++X.gL L.tf (X.gT fs L.tf) sc (es.take j)) w wr
 row:∀ k,k<es.length→∃ g cs d,ao=some ⟨g,0,none⟩∧w0.heap.size≤g∧wr.heap[g]?=some (.cells cs 72 d)∧wr.cell? ⟨g,k,none⟩=some (vs k)
 each:∀(k:Nat) (e:X.Ex),es[k]?=some e→gJ wr lo hi (vs k) e
 bk:iL wr w0.heap.size bv sc
variable{w0:World}{L:Lay}{fs:List X.Fl}{M:Mem}{us:List X.U}{w:World}
theorem WK.start{rv bv:Value}{w2:World}(hp:yR w w2 lo hi rv es)(h:Run w0 L fs M us w)(hM:p9 fs M)(hI:Idle M)(hbk:iL w w0.heap.size bv sc) :
  ∃ ao cap vs,rv=.slice ao es.length cap∧es.length≤cap∧cap≤maxLen∧WK w w0 L fs us lo hi es ao vs bv sc 0 w2:=by
 obtain⟨ao,cap,vs,z1,z2,z3,z4,z5⟩:=hp.ex;have hk:=Kp.aI hp.bl (fun _=>False);refine⟨ao,cap,vs,z1,z2,z3,⟨M,?_,hM,hI,Kx.aI hp.bl⟩,fun k hk'=>?_,fun k e he=>(z5 k e he).keep hk (fun _ _ _=>id),hbk.LY hp.bl⟩
 ·rw[nT,X.gL,aJ];exact h.below hp.bl
 ·obtain⟨g,cs,d,y1,y2,y3,y4⟩:=z4 k hk'
  exact⟨g,cs,d,y1,by have:=h.size;omega,y3,y4⟩
theorem WK.step{ao:Option Addr}{vs:Nat→Value}{bv:Value}{wr w2:World}(h:WK w w0 L fs us lo hi es ao vs bv sc j wr)(hv:Av L fs.length w0.heap.size lo hi){e:X.Ex}(he:es[j]?=some e)(ht:qX w0 L fs ((us++X.gL L.tf (X.gT fs L.tf) sc (es.take j))++X.exU L.tf (X.gT fs L.tf) sc e) wr w2):WK w w0 L fs us lo hi es ao vs bv sc (j+1) w2:=by
 obtain⟨M2,r2,m2,i2,x2⟩:=ht;obtain⟨M1,r1,m1,i1,x1⟩:=h.tld;have hS:=r2.st.lt;refine⟨⟨M2,by rw[X.BV he,← aA];exact r2,m2,i2,x1.trans x2⟩,fun k hk=>?_,fun k e' he'=>(h.each k e' he').keep x2 (hv.sx wr),h.bk.keep x2 hS⟩;obtain⟨g,cs,d,y1,y2,y3,y4⟩:=h.row k hk;have hg:=x2.made hS y3 y2 (fun cs d e=>by cases e);exact⟨g,cs,d,y1,y2,hg,(aN (w:=wr) (a:=⟨g,k,none⟩) (hg.trans y3.symm)).trans y4⟩
structure Kd(ty:TypeId)(pf:FuncId):Prop where
 av:∀ b w,(Instr.typeAssert (.iface ty (.pointer (some ⟨b,0,none⟩))) 72 228 true).run prog w=.ok (.tuple #[.pointer none,.bool false]) w
 al:∀ b w,(Instr.typeAssert (.iface ty (.pointer (some ⟨b,0,none⟩))) 72 230 true).run prog w=.ok (.tuple #[.pointer none,.bool false]) w
 af:∀ b w,(Instr.typeAssert (.iface ty (.pointer (some ⟨b,0,none⟩))) 72 234 true).run prog w=.ok (.tuple #[.pointer none,.bool false]) w
 mt : ∀ b w, (method 517 ty (.pointer (some ⟨b, 0, none⟩)) "Parts").run Tryz.prog w = .ok (pf, .pointer (some ⟨b, 0, none⟩)) w
 cf:∀ b w,(callFunc pf #[.pointer (some ⟨b,0,none⟩)]).run prog w=.ok (.enter pf #[.pointer (some ⟨b,0,none⟩)]) w
theorem Mg:Kd 223 229:=⟨fun b w=>by kernel_rfl,fun b w=>by kernel_rfl,fun b w=>by kernel_rfl,fun b w=>by kernel_rfl,fun b w=>by kernel_rfl⟩
theorem XB:Kd 281 258:=⟨fun b w=>by kernel_rfl,fun b w=>by kernel_rfl,fun b w=>by kernel_rfl,fun b w=>by kernel_rfl,fun b w=>by kernel_rfl⟩
theorem Mh:Kd 269 257:=⟨fun b w=>by kernel_rfl,fun b w=>by kernel_rfl,fun b w=>by kernel_rfl,fun b w=>by kernel_rfl,fun b w=>by kernel_rfl⟩
theorem aX1:Kd 232 235:=⟨fun b w=>by kernel_rfl,fun b w=>by kernel_rfl,fun b w=>by kernel_rfl,fun b w=>by kernel_rfl,fun b w=>by kernel_rfl⟩
theorem O0:Kd 238 238:=⟨fun b w=>by kernel_rfl,fun b w=>by kernel_rfl,fun b w=>by kernel_rfl,fun b w=>by kernel_rfl,fun b w=>by kernel_rfl⟩
theorem XC:Kd 243 250:=⟨fun b w=>by kernel_rfl,fun b w=>by kernel_rfl,fun b w=>by kernel_rfl,fun b w=>by kernel_rfl,fun b w=>by kernel_rfl⟩
theorem XD:Kd 250 253:=⟨fun b w=>by kernel_rfl,fun b w=>by kernel_rfl,fun b w=>by kernel_rfl,fun b w=>by kernel_rfl,fun b w=>by kernel_rfl⟩
theorem Uq:Kd 254 255:=⟨fun b w=>by kernel_rfl,fun b w=>by kernel_rfl,fun b w=>by kernel_rfl,fun b w=>by kernel_rfl,fun b w=>by kernel_rfl⟩
theorem nK{ty:TypeId}{pf:FuncId}(hkd:Kd ty pf)(lo hi b:Nat)(es:List X.Ex)(sc:List (List X.Nm))(bv:Value)(hv:Av L fs.length w0.heap.size lo hi)(hE:∀(j:Nat) (e:X.Ex),es[j]?=some e→xV w0 L fs lo hi e)(hP:Calls prog pf #[.pointer (some ⟨b,0,none⟩)] w fun e w'=>∃ rv,e=.returned rv∧Hid (yR w w' lo hi rv es))
  (h:Run w0 L fs M us w) (hM:p9 fs M) (wU:Idle M) (hbk:iL w w0.heap.size bv sc) (hlim:us.length+(X.gL L.tf (X.gT fs L.tf) sc es).length≤1073741824) :
  Calls prog 134 #[.pointer (some ⟨L.tb,0,none⟩),.iface ty (.pointer (some ⟨b,0,none⟩)),bv] w fun en w'=>en=.returned (.tuple #[])∧Hid (qX w0 L fs (us++X.gL L.tf (X.gT fs L.tf) sc es) w w'):=by
 have av:=hkd.av b;have al:=hkd.al b;have af:=hkd.af b;have mt:=hkd.mt b;have cf:=hkd.cf b;have HP:=au hP;have HE:=au hE;have HV:=au hv;have HI0:Hid (∀ w2 rv,yR w w2 lo hi rv es→∃ ao cap vs,rv=.slice ao es.length cap∧es.length≤cap∧cap≤maxLen∧WK w w0 L fs us lo hi es ao vs bv sc 0 w2):=fun w2 rv hp=>WK.start hp h hM wU hbk
 clear hP hE hv h hM wU hbk hkd;go_enter func134,ntmps134;go_wp2_with fail
 refine(HP.o).mono ?_;rintro e w2 ⟨rv,rfl,X2⟩;obtain⟨ao,cap,vs,rfl,z2,z3,hI0⟩:=(HI0.o) w2 rv X2.o;have HI1:=au hI0;clear X2 hI0 HI0 HP av al af mt cf;have hcap:es.length≤9223372036854775807:=by unfold maxLen at z3;omega
 go_wp2_with fail
 go_loopw [59] (fun v wr=>∃ j:Nat,v=.int .i64 j∧j≤es.length∧Hid (WK w w0 L fs us lo hi es ao vs bv sc j wr)) (fun v _=>es.length - (intOf v).toNat)
 case atStart=>exact⟨0,rfl,aX _,HI1⟩
 case round =>
  obtain⟨j,rfl,hj,HI⟩:=hrel;clear HI1;by_cases hjl:j<es.length
  ·obtain⟨e,he⟩:∃ e,es[j]?=some e:=⟨es[j],aC hjl⟩
   obtain⟨g,cs,d,hao,y2,y3,y4⟩:=(HI.o).row j hjl;subst hao;have hi1:(j:Int)<(es.length:Int):=by omega
   obtain⟨M1,r1,m1,i1,x1⟩:=(HI.o).tld;have HC:=au ((HE.o) j e he M1 _ wr (vs j) bv sc r1 m1 i1 ((HI.o).each j e he) (HI.o).bk (by
    have e2:=X.Mf L.tf (X.gT fs L.tf) sc es (j+1);rw[X.BV he,ak] at e2;rw[ak];omega))
   obtain⟨yy,gg,hvs⟩:=((HI.o).each j e he).iface;rw[hvs] at y4 HC;clear r1 m1 i1 x1 y3 hvs;go_wp2_with fail
   refine(HC.o).mono ?_;rintro en w3 ⟨rfl,X3⟩;have HI3:=au ((HI.o).step HV.o he X3.o);clear HC X3 HI y4;go_wp2_with fail
   exact⟨⟨j+1,by simp,by omega,HI3⟩,by simp[intOf];omega⟩
  ·obtain rfl:j=es.length:=by omega
   have hd1:¬(es.length:Int)<(es.length:Int):=by omega
   have HF:Hid (qX w0 L fs (us++X.gL L.tf (X.gT fs L.tf) sc es) w wr):=by
    have:=(HI.o).tld;rw[kY] at this;exact this
   clear HI;go_wp2_with fail
   go_end0;exact⟨rfl,HF⟩
end
section
variable{w0:World}{L:Lay}{fs:List X.Fl}{lo hi:Nat}
mutual
theorem mV(hf:L.tf<fs.length)(hv:Av L fs.length w0.heap.size lo hi):∀ e:X.Ex,X.tX 268435456 e→xV w0 L fs lo hi e
 | .lit k x,_=>fun M us w v bv sc h hM hI hE hbk hlim=>by
  cases hE with
  | lit b _ _ hb hc =>
   have e1:X.exU L.tf (X.gT fs L.tf) sc (.lit k x)=X.gL L.tf (X.gT fs L.tf) sc []:=by rw[X.exU,X.gL]
   rw[e1] at hlim ⊢;exact nK Mg lo hi b [] sc bv hv (fun j e hj=>by simp at hj) ((wY b _).mono (fun e w' h=>⟨_,h.1,by rw[h.2];exact yR.nil _ _ _⟩)) h hM hI hbk hlim
 | .hole i,_=>fun M us w v bv sc h hM hI hE hbk hlim=>by
  cases hE with
  | hole b _ hb hc =>
   have e1:X.exU L.tf (X.gT fs L.tf) sc (.hole i)=X.gL L.tf (X.gT fs L.tf) sc []:=by rw[X.exU,X.gL]
   rw[e1] at hlim ⊢;exact nK XB lo hi b [] sc bv hv (fun j e hj=>by simp at hj) ((Ba b _).mono (fun e w' h=>⟨_,h.1,by rw[h.2];exact yR.nil _ _ _⟩)) h hM hI hbk hlim
 | .missing,_=>fun M us w v bv sc h hM hI hE hbk hlim=>by
  cases hE with
  | missing b hb hc =>
   have e1:X.exU L.tf (X.gT fs L.tf) sc .missing=X.gL L.tf (X.gT fs L.tf) sc []:=by rw[X.exU,X.gL]
   rw[e1] at hlim ⊢;exact nK Mh lo hi b [] sc bv hv (fun j e hj=>by simp at hj) ((wZ b _).mono (fun e w' h=>⟨_,h.1,by rw[h.2];exact yR.nil _ _ _⟩)) h hM hI hbk hlim
 | .var n,hB=>fun M us w v bv sc h hM hI hE hbk hlim=>by
  rw[X.tX] at hB;cases hE with
  | var b _ hb hc=>exact O7 b n sc bv hf hB hc h hM hI hbk hlim
 | .iJ n e1 e2,hB=>fun M us w v bv sc h hM hI hE hbk hlim=>by
  rw[X.tX] at hB;cases hE with
  | iJ b _ v1 v2 _ _ hb hc q1 q2=>exact O8 lo hi b n v1 v2 e1 e2 sc bv hv (mV hf hv e1 hB.2.1) (mV hf hv e2 hB.2.2) hB.1 hb hc q1 q2 h hM hI hbk hlim
 | .ite a b c,hB=>fun M us w v bv sc h hM hI hE hbk hlim=>by
  rw[X.tX] at hB;have ha:=mV hf hv a hB.1;have hb':=mV hf hv b hB.2.1;have hc':=mV hf hv c hB.2.2;cases hE with
  | ite p v1 v2 v3 _ _ _ hb hc q1 q2 q3 =>
   have e1:X.exU L.tf (X.gT fs L.tf) sc (.ite a b c)=X.gL L.tf (X.gT fs L.tf) sc [a,b,c]:=by rw[X.exU,X.gL,X.gL,X.gL,X.gL,aJ]
   rw[e1] at hlim ⊢;refine nK aX1 lo hi p [a,b,c] sc bv hv (fun j e hj=>?_) ((Fg p v1 v2 v3 a b c _ lo hi hc q1 q2 q3).mono (fun e w' h=>h)) h hM hI hbk hlim
   match j with
   | 0=>simp at hj;subst hj;exact ha
   | 1=>simp at hj;subst hj;exact hb'
   | 2=>simp at hj;subst hj;exact hc'
   | j+3=>simp at hj
 | .fn ns e,hB=>fun M us w v bv sc h hM hI hE hbk hlim=>by
  rw[X.tX] at hB;cases hE with
  | fn b pb _ v1 _ hb hc hp q1=>exact O9 lo hi b pb ns v1 e sc bv hv (mV hf hv e hB.2) hB.1 hb hc hp q1 h hM hI hbk hlim
 | .bin l x r,hB=>fun M us w v bv sc h hM hI hE hbk hlim=>by
  rw[X.tX] at hB;have ha:=mV hf hv l hB.1;have hb':=mV hf hv r hB.2;cases hE with
  | bin p v1 v2 _ _ _ hb hc q1 q2 =>
   have e1:X.exU L.tf (X.gT fs L.tf) sc (.bin l x r)=X.gL L.tf (X.gT fs L.tf) sc [l,r]:=by rw[X.exU,X.gL,X.gL,X.gL,aJ]
   rw[e1] at hlim ⊢;refine nK O0 lo hi p [l,r] sc bv hv (fun j e hj=>?_) ((yH p x v1 v2 l r _ lo hi hc q1 q2).mono (fun e w' h=>h)) h hM hI hbk hlim
   match j with
   | 0=>simp at hj;subst hj;exact ha
   | 1=>simp at hj;subst hj;exact hb'
   | j+2=>simp at hj
 | .call g gs,hB=>fun M us w v bv sc h hM hI hE hbk hlim=>by
  rw[X.tX] at hB;have ha:=mV hf hv g hB.1;have hs:=Dv hf hv gs hB.2.2;cases hE with
  | call p v1 _ ao cap vs _ hb hc hcap q1 hr hp =>
   have e1:X.exU L.tf (X.gT fs L.tf) sc (.call g gs)=X.gL L.tf (X.gT fs L.tf) sc (g::gs):=by rw[X.exU,X.gL]
   rw[e1] at hlim ⊢;refine nK XC lo hi p (g::gs) sc bv hv (fun j e hj=>?_) ((Bb p v1 g ao cap vs gs _ lo hi hc q1 hr hp hB.2.1).mono (fun e w' h=>h)) h hM hI hbk hlim
   match j with
   | 0=>simp at hj;subst hj;exact ha
   | j+1=>exact hs j e (by simpa using hj)
 | .list l,hB=>fun M us w v bv sc h hM hI hE hbk hlim=>by
  rw[X.tX] at hB;have hs:=Dv hf hv l hB.2;cases hE with
  | list p ao cap vs _ hb hc hcap hr hp =>
   have e1:X.exU L.tf (X.gT fs L.tf) sc (.list l)=X.gL L.tf (X.gT fs L.tf) sc l:=by rw[X.exU]
   rw[e1] at hlim ⊢;exact nK XD lo hi p l sc bv hv hs ((Bc p ao cap vs l _ lo hi hc hr hp hB.1).mono (fun e w' h=>h)) h hM hI hbk hlim
 | .group e0,hB=>fun M us w v bv sc h hM hI hE hbk hlim=>by
  rw[X.tX] at hB;have ha:=mV hf hv e0 hB;cases hE with
  | group p v1 _ hb hc q1 =>
   have e1:X.exU L.tf (X.gT fs L.tf) sc (.group e0)=X.gL L.tf (X.gT fs L.tf) sc [e0]:=by rw[X.exU,X.gL,X.gL,aJ]
   rw[e1] at hlim ⊢;refine nK Uq lo hi p [e0] sc bv hv (fun j e hj=>?_) ((zI p v1 e0 _ lo hi hc q1).mono (fun e w' h=>h)) h hM hI hbk hlim
   match j with
   | 0=>simp at hj;subst hj;exact ha
   | j+1=>simp at hj
theorem Dv(hf:L.tf<fs.length)(hv:Av L fs.length w0.heap.size lo hi):∀ es:List X.Ex,X.w_ 268435456 es→∀(j:Nat) (e:X.Ex),es[j]?=some e→xV w0 L fs lo hi e
 | [],_=>fun j e hj=>by simp at hj
 | a::es,hB=>fun j e hj=>by
  rw[X.w_] at hB;have ha:=mV hf hv a hB.1;have hs:=Dv hf hv es hB.2
  match j with
  | 0=>simp at hj;subst hj;exact ha
  | j+1=>exact hs j e (by simpa using hj)
end
end
section
open Tryz
variable{w0:World}{L:Lay}{fs:List X.Fl}{M:Mem}{us:List X.U}{w:World}
theorem Dw(pa:Option Addr)(w:World)(tv:Value) :
  Calls prog 135 #[tv,.pointer none,.pointer pa] w fun e w'=>e=.returned (.pointer pa)∧Below w.heap.size w w':=by
 go_enter func135,ntmps135;go_wp2_with fail
 go_ret;exact⟨rfl,ay _ w⟩
def XP(pub:Bool)(n:X.Nm)(pv v:Value)(fr tt:Int):Obj:=.cells #[.bool pub,.string (ba n.1),.int .i64 n.2,pv,v,.int .i64 fr,.int .i64 tt] 74 (0,0)
theorem BZ(lo hi db:Nat)(pub:Bool)(n:X.Nm)(pa:Option Addr)(y g:Nat)(fr tt:Int)(e1:X.Ex)(sc:List (List X.Nm))(pu eu:List X.U)(hv:Av L fs.length w0.heap.size lo hi)(hb:lo≤db∧db<hi)(hub:w0.heap[db]?=some (XP pub n (.pointer pa) (.iface y (.pointer (some ⟨g,0,none⟩))) fr tt))(hE:gJ w0 lo hi (.iface y (.pointer (some ⟨g,0,none⟩))) e1)(h:Run w0 L fs M us w)
  (hC2:∀ w:World,Run w0 L fs M us w→Calls prog 135 #[.pointer (some ⟨L.tb,0,none⟩),.pointer pa,.pointer none] w fun e w'=>∃ b,e=.returned (.pointer b)∧Hid (Run w0 L fs M (us++pu) w'∧Kx L fs.length w0.heap.size w w'∧iL w' w0.heap.size (.pointer b) sc))
  (hC3:∀(w:World) (b:Option Addr),Run w0 L fs M (us++pu) w→gJ w lo hi (.iface y (.pointer (some ⟨g,0,none⟩))) e1→iL w w0.heap.size (.pointer b) sc→Calls prog 134 #[.pointer (some ⟨L.tb,0,none⟩),.iface y (.pointer (some ⟨g,0,none⟩)),.pointer b] w fun en w'=>en=.returned (.tuple #[])∧Hid (qX w0 L fs ((us++pu)++eu) w w')) :
  Calls prog 108 #[.pointer (some ⟨L.tb,0,none⟩),.pointer (some ⟨db,0,none⟩)] w fun e w'=>e=.returned (.tuple #[])∧Hid (qX w0 L fs (us++(pu++eu)) w w'):=by
 have AP:=hv.av db hb.1 hb.2;have hu1:=h.kp.heap hub AP;have u3:w.cell? ⟨db,3,none⟩=some (.pointer pa):=ai _ _ 3 _ _ _ hu1;have u4:w.cell? ⟨db,4,none⟩=some (.iface y (.pointer (some ⟨g,0,none⟩))):=ai _ _ 4 _ _ _ hu1;have HCP:=au (hC2 w.drew (h.below ((ay _ w).drew)));have wX:=au hC3;have HV:=au hv;have HU:=au hub;have HE:=au hE;have TB:=au AP;clear h hC2 hC3 hu1 hv hub hE AP;go_enter func108,ntmps108;go_wp2_with fail
 refine bH (S:=fun w'=>w'.cell? ⟨db,3,none⟩=some (.pointer pa)∧w'.cell? ⟨db,4,none⟩=some (.iface y (.pointer (some ⟨g,0,none⟩)))) (z:=12) (by kernel_rfl) ?_;have hS:w.drew.cell? ⟨db,3,none⟩=some (.pointer pa)∧w.drew.cell? ⟨db,4,none⟩=some (.iface y (.pointer (some ⟨g,0,none⟩))):=⟨u3,u4⟩;iterate 10(refine ou hS ?_;simp only[Act.put,ax,aD,aF])
 refine bD 10 fun K hK=>?_;go_simp;refine(HCP.o).mono ?_;rintro e w4 ⟨pb4,rfl,X4⟩;have r4:=(X4.o).1;have x4:=(X4.o).2.1;have hu4:=r4.kp.heap HU.o TB.o;have HX:=au ((wX.o) w4 pb4 r4 ((HE.o).keep r4.kp (HV.o).av) (X4.o).2.2);dsimp only;refine hK.o _ _ (fun _=>⟨cell_of_row w4 _ 3 _ _ _ hu4,cell_of_row w4 _ 4 _ _ _ hu4⟩) (fun hS2=>?_);clear hS hK K;have hS:=hS2 (by decide);clear hS2;refine bD 11 fun K hK=>?_;go_simp;refine(HX.o).mono ?_;rintro e w5 ⟨rfl,X5⟩;obtain⟨M5,r5,m5,i5,x5⟩:=X5.o;have ZX:=r5.kp.heap HU.o TB.o;have HF:Hid (qX w0 L fs (us++(pu++eu)) w w5):=by
  refine⟨M5,?_,m5,i5,(((Kx.refl _ _ _ w).drew).trans x4).trans x5⟩
  simpa using r5
 dsimp only;refine hK.o _ _ (fun _=>⟨cell_of_row w5 _ 3 _ _ _ ZX,cell_of_row w5 _ 4 _ _ _ ZX⟩) (fun _=>fB ?_);clear hK K hS X4 X5 r4 x4 hu4 r5 m5 i5 x5 ZX HX wX HCP;go_wp2_with fail
 go_end0;exact⟨rfl,HF⟩
theorem Kz(k db:Nat)(n:X.Nm)(tw:Nat)(iu:List X.U)(AP:¬ L.S fs.length db)(hub:∃ pub pv v fr tt,w0.heap[db]?=some (XP pub n pv v fr tt))(h:Run w0 L fs M us w)
  (WL:∀ w:World,Run w0 L fs M us w→Calls prog 105 #[.pointer (some ⟨L.tb,0,none⟩),.int .i64 k] w fun e w'=>e=.returned (.int .i64 tw)∧Below w.heap.size w w')
  (hC2:∀ w:World,Run w0 L fs M (us++X.qg L.tf n 0 tw) w→Calls prog 108 #[.pointer (some ⟨L.tb,0,none⟩),.pointer (some ⟨db,0,none⟩)] w fun en w'=>en=.returned (.tuple #[])∧Hid (qX w0 L fs ((us++X.qg L.tf n 0 tw)++iu) w w'))
  (hlim:us.length+(X.qg L.tf n 0 tw).length≤1073741824) :
  Calls prog 81 #[.pointer (some ⟨L.tb,0,none⟩),.int .i64 k,.pointer (some ⟨db,0,none⟩)] w fun e w'=>e=.returned (.tuple #[])∧Hid (qX w0 L fs (us++(X.qg L.tf n 0 tw++iu)) w w'):=by
 obtain⟨pub,pv,v,fr,tt,hub⟩:=hub;have hu1:=h.kp.heap hub AP;have u1:w.cell? ⟨db,1,none⟩=some (.string (ba n.1)):=ai _ _ 1 _ _ _ hu1;have u2:w.cell? ⟨db,2,none⟩=some (.int .i64 n.2):=ai _ _ 2 _ _ _ hu1;have ZY:=au (WL w.drew (h.below ((ay _ w).drew)));have tV:=au hC2;have HU:=au hub;have TB:=au AP;have HR:=au h;clear h WL hC2 hu1 hub AP;go_enter func81,ntmps81;go_wp2_with fail
 refine bH (S:=fun w'=>w'.cell? ⟨db,1,none⟩=some (.string (ba n.1))∧w'.cell? ⟨db,2,none⟩=some (.int .i64 n.2)) (z:=9) (by kernel_rfl) ?_;have hS:w.drew.cell? ⟨db,1,none⟩=some (.string (ba n.1))∧w.drew.cell? ⟨db,2,none⟩=some (.int .i64 n.2):=⟨u1,u2⟩;iterate 7(refine ou hS ?_;simp only[Act.put,ax,aD,aF])
 refine bD 7 fun K hK=>?_;go_simp;refine(ZY.o).mono ?_;rintro e w2 ⟨rfl,B2⟩;have hR2:=(HR.o).below (((Below.refl _ w).drew).trans B2);have hu2:=hR2.kp.heap HU.o TB.o;have HO:=au (vg n 0 tw hR2 hlim);dsimp only;refine hK.o _ _ (fun _=>⟨cell_of_row w2 _ 1 _ _ _ hu2,cell_of_row w2 _ 2 _ _ _ hu2⟩) (fun hS2=>?_);clear hS hK K;have hS:=hS2 (by decide);clear hS2;refine bD 8 fun K hK=>?_;go_simp;refine(HO.o).mono ?_;rintro e w3 ⟨rfl,X3⟩;have hu3:=(X3.o).1.kp.heap HU.o TB.o;have KX3:Hid (Kx L fs.length w0.heap.size w w3):=(Kx.aI (((Below.refl _ w).drew).trans B2)).trans (X3.o).2;have HI:=au ((tV.o) w3 (X3.o).1);dsimp only;refine hK.o _ _ (fun _=>⟨cell_of_row w3 _ 1 _ _ _ hu3,cell_of_row w3 _ 2 _ _ _ hu3⟩) (fun _=>fB ?_);clear hK K hS X3 hu3 hu2 hR2 B2 HO tV ZY HR u1 u2;go_wp2_with fail
 refine(HI.o).mono ?_;rintro e w5 ⟨rfl,X5⟩;have HF:Hid (qX w0 L fs (us++(X.qg L.tf n 0 tw++iu)) w w5):=by
  obtain⟨M5,r5,m5,i5,x5⟩:=X5.o;refine⟨M5,?_,m5,i5,(KX3.o).trans x5⟩
  simpa using r5
 clear X5 HI KX3;go_wp2_with fail
 go_end0;exact⟨rfl,HF⟩
theorem Pf(k lo hi db:Nat)(pub:Bool)(n:X.Nm)(pv v:Value)(fr tt:Int)(ps:Option (List X.Nm))(e1:X.Ex)(hk:(X.aM fs L.tf)[k]?=some (.dfn pub n ps e1))(hv:Av L fs.length w0.heap.size lo hi)(hb:lo≤db∧db<hi)(hub:w0.heap[db]?=some (XP pub n pv v fr tt))(hp:o7 w0 lo hi pv ps)(hE:gJ w0 lo hi v e1)(h:Run w0 L fs M us w)(hM:p9 fs M)(wU:Idle M)(hlim:us.length+(X.xW fs L.tf k (.dfn pub n ps e1)).length≤1073741824) :
  Calls prog 81 #[.pointer (some ⟨L.tb,0,none⟩),.int .i64 k,.pointer (some ⟨db,0,none⟩)] w fun e w'=>e=.returned (.tuple #[])∧Hid (qX w0 L fs (us++X.xW fs L.tf k (.dfn pub n ps e1)) w w'):=by
 obtain⟨Dq,hpB,heB⟩:=h.NW hk;obtain⟨y,g,rfl⟩:=hE.iface;have hf:=(lC hk).1;have WL:=fun(w:World) (h:Run w0 L fs M us w)=>zw k _ hk h
 rcases hp with ⟨rfl,rfl⟩|⟨ns,pb,rfl,rfl,hpar⟩
 ·have NY:X.xW fs L.tf k (.dfn pub n none e1)=X.qg L.tf n 0 (X.lH (X.aM fs L.tf) k n.1)++([]++X.exU L.tf (X.gT fs L.tf) [] e1):=rfl
  rw[NY] at hlim ⊢;rw[ak,ak] at hlim;refine Kz k db n _ _ (hv.av db hb.1 hb.2) ⟨_,_,_,_,_,hub⟩ h WL (fun w h=>BZ lo hi db pub n none y g fr tt e1 [] [] _ hv hb hub hE h (fun w h=>(Dw none w _).mono ?_) (fun w b hr he hbk=>?_)) (by omega)
  ·rintro e w' ⟨rfl,hB⟩
   exact⟨none,rfl,by rw[aJ];exact h.below hB,Kx.aI hB,.nil⟩
  ·rw[aJ] at hr ⊢
   exact mV hf hv e1 heB M _ w _ _ [] hr hM wU he hbk (by rw[ak];omega)
 ·have NY:X.xW fs L.tf k (.dfn pub n (some ns) e1)=X.qg L.tf n 0 (X.lH (X.aM fs L.tf) k n.1)++(X.jy L.tf [] ns++X.exU L.tf (X.gT fs L.tf) [ns] e1):=rfl
  rw[NY] at hlim ⊢;rw[ak,ak] at hlim;refine Kz k db n _ _ (hv.av db hb.1 hb.2) ⟨_,_,_,_,_,hub⟩ h WL (fun w h=>BZ lo hi db pub n (some ⟨pb,0,none⟩) y g fr tt e1 [ns] _ _ hv hb hub hE h (fun w h=>(xU lo hi pb ns (.pointer none) [] hv (hpar.keep h.kp hv.av) hpB h .nil (by rw[ak];omega)).mono ?_) (fun w b hr he hbk=>?_)) (by omega)
  ·rintro e w' ⟨b,rfl,H⟩
   exact⟨_,rfl,H⟩
  ·exact mV hf hv e1 heB M _ w _ _ [ns] hr hM wU he hbk (by rw[ak,ak];omega)
theorem Run.one(h:Run w0 L fs M us w){w':World}{b:Nat}{o:Obj}(hk:Kp (fun q=>q=b) w w')(hb:w0.heap.size≤b)(ho:w.heap[b]?=some o)(hn:∀ cs d,o≠.cells cs 55 d):Run w0 L fs M us w':=by
 refine⟨h.st,h.kp.trans hk (fun i hi e=>by omega),?_,fun i hi=>?_,h.lim⟩
 ·obtain⟨nv,h1,h2⟩:=h.tl
  refine⟨nv,hk.heap h1 (fun e=>by have:=h.st.wl;omega),hk.owns h2 (fun q hq e=>?_)⟩;rcases h2.2 with ⟨rfl,-⟩|⟨g',cap',cur,rfl,hge,hgg,-⟩
  ·cases hq
  ·cases hq
   have e':g'=b:=e;rw[e',ho] at hgg;exact hn _ _ (bK hgg)
 ·obtain⟨arr,x1,x2⟩:=h.fd i hi
  exact⟨arr,hk.heap x1 (fun e=>by have:=(h.st.gl i hi).1;omega),x2⟩
theorem O_{P:Program}{ops:Array Oper}{Q:Exit→Act→World→Prop}{S:World→Prop}{z i k:Nat}{o u:Oper}{n:Nat}{d:Array Bool}{a:Act}{w:World}(hr:Region.ready .any ops d=[i,k])(ho:ops[i]?=some o)(hu:ops[k]?=some u)
  (h:∀ K:Act→World→Prop,Hid (∀ a' w',(i≠z→S w')→((i≠z→S w')→iQ P ops Q S z n (d.setIfInBounds i true) a' w')→K a' w')→if Region.wanted o (yielded ops a.tmps)=true then Oper.wp P o a w K Q else K (a.put o.dst undef) w)
  (h':∀ K:Act→World→Prop,Hid (∀ a' w',(k≠z→S w')→((k≠z→S w')→iQ P ops Q S z n (d.setIfInBounds k true) a' w')→K a' w')→if Region.wanted u (yielded ops a.tmps)=true then Oper.wp P u a w K Q else K (a.put u.dst undef) w):iQ P ops Q S z (n+1) d a w:=by
 refine⟨fun h0=>(by rw[hr] at h0;cases h0),fun j hj=>?_⟩;rw[hr] at hj;rcases cK.1 hj with rfl|hj
 ·exact wpOp_step ho (fun K' hK=>h K' (fun a' w' h1 h2=>hK a' w' ⟨h1,h2 h1⟩))
 ·obtain rfl:j=k:=by simpa using hj
  exact wpOp_step hu (fun K' hK=>h' K' (fun a' w' h1 h2=>hK a' w' ⟨h1,h2 h1⟩))
theorem Ur(k lo hi ub:Nat)(pub gs:Bool)(m n a:X.Nm)(tm:List X.U)(tf tt:Int)(er tw IE:Nat)(hv:Av L fs.length w0.heap.size lo hi)(hb:lo≤ub∧ub<hi)(hub:w0.heap[ub]?=some (L8 pub gs m n a))(h:Run w0 L fs M us w)
  (WL:∀ w:World,Run w0 L fs M us w→Calls prog 103 #[.pointer (some ⟨L.tb,0,none⟩),.agg #[.string (ba m.1),.int .i64 m.2]] w fun e w'=>e=.returned (.tuple #[])∧Hid (Run w0 L fs M (us++tm) w'∧Kx L fs.length w0.heap.size w w'))
  (hC2:∀ w:World,Run w0 L fs M (us++tm) w→Calls prog 104 #[.pointer (some ⟨L.wb,0,none⟩),.int .i64 L.tf,.int .i64 k,.pointer (some ⟨ub,0,none⟩)] w fun e w'=>e=.returned (.agg #[.int .i64 2,.int .i64 tf,.int .i64 tt,.int .i64 er])∧Hid (∃ M',Run w0 L fs M' (us++tm) w'∧p9 fs M'∧Idle M'∧Kx L fs.length w0.heap.size w w'))
  (hC3:∀(M:Mem) (w:World),Run w0 L fs M (us++tm) w→Calls prog 105 #[.pointer (some ⟨L.tb,0,none⟩),.int .i64 k] w fun e w'=>e=.returned (.int .i64 tw)∧Below w.heap.size w w')
  (he:IE=if er=0∧gs=false then tw else er)
  (hlim:us.length+tm.length+(X.gZ L.tf n 4 (tf,tt,IE)).length+(X.gZ L.tf a 5 (tf,tt,tw)).length≤1073741824) :
  Calls prog 80 #[.pointer (some ⟨L.tb,0,none⟩),.int .i64 k,.pointer (some ⟨ub,0,none⟩)] w fun e w'=>e=.returned (.tuple #[])∧Hid (qX w0 L fs (us++(tm++(X.gZ L.tf n 4 (tf,tt,IE)++X.gZ L.tf a 5 (tf,tt,tw)))) w w'):=by
 have h0:=h.size;have hSl:=h.st.lt;have hu1:=h.kp.heap hub (hv.av ub hb.1 hb.2);have u1:w.cell? ⟨ub,1,none⟩=some (.string (ba m.1)):=ai _ _ 1 _ _ _ hu1;have u2:w.cell? ⟨ub,2,none⟩=some (.int .i64 m.2):=ai _ _ 2 _ _ _ hu1;have yG:=au (WL w h);have tV:=au hC2;have wX:=au hC3;have HU:=au hub;have TB:=au ((hv.av ub hb.1 hb.2));clear h WL hC2 hC3 hu1 hv hub;go_enter func80,ntmps80;go_wp2_with fail
 refine(yG.o).mono ?_;rintro e w2 ⟨rfl,X2⟩;have HR2:=au (X2.o).1;have WJ:=au (X2.o).2;obtain⟨nv2,t0,t1,-⟩:=(HR2.o).cells;clear X2 u1 u2 yG
 go_upto_region 1 with fail
 go_cut [6] (fun v wx=>∃(b:Nat) (M3:Mem),v=.pointer (some ⟨b,0,none⟩)∧Hid (w0.heap.size≤b∧w.heap.size≤b∧wx.heap[b]?=some (.cells #[.int .i64 2,.int .i64 tf,.int .i64 tt,.int .i64 er] 263 (0,0))∧Run w0 L fs M3 (us++tm) wx∧p9 fs M3∧Idle M3∧Kx L fs.length w0.heap.size w wx))
 case first =>
  have k2:=(HR2.o).size;have kw2:w.heap.size≤w2.heap.size:=Kp.size WJ.o;have XK:Hid (∀(Wa:World) (b:Nat) (M3:Mem),w0.heap.size≤b→w.heap.size≤b→Wa.heap[b]?=some (.cells #[.int .i64 0,.int .i64 0,.int .i64 0,.int .i64 0] 263 (0,0))→Run w0 L fs M3 (us++tm) Wa→p9 fs M3→Idle M3→Kx L fs.length w0.heap.size w Wa→w0.heap.size≤b∧w.heap.size≤b∧((((Wa.setCell ⟨b,0,none⟩ (.int .i64 2)).setCell ⟨b,1,none⟩ (.int .i64 tf)).setCell ⟨b,2,none⟩ (.int .i64 tt)).setCell ⟨b,3,none⟩ (.int .i64 er)).heap[b]?=some (.cells #[.int .i64 2,.int .i64 tf,.int .i64 tt,.int .i64 er] 263 (0,0))∧Run w0 L fs M3 (us++tm) ((((Wa.setCell ⟨b,0,none⟩ (.int .i64 2)).setCell ⟨b,1,none⟩ (.int .i64 tf)).setCell ⟨b,2,none⟩ (.int .i64 tt)).setCell ⟨b,3,none⟩ (.int .i64 er))∧p9 fs M3∧Idle M3∧Kx L fs.length w0.heap.size w ((((Wa.setCell ⟨b,0,none⟩ (.int .i64 2)).setCell ⟨b,1,none⟩ (.int .i64 tf)).setCell ⟨b,2,none⟩ (.int .i64 tt)).setCell ⟨b,3,none⟩ (.int .i64 er))):=fun Wa b M3 hb0 hbw hz hr hm hi hk=>by
   have k4:Kp (fun q=>q=b) Wa ((((Wa.setCell ⟨b,0,none⟩ (.int .i64 2)).setCell ⟨b,1,none⟩ (.int .i64 tf)).setCell ⟨b,2,none⟩ (.int .i64 tt)).setCell ⟨b,3,none⟩ (.int .i64 er)):=On.set (On.set (On.set (On.set (Kp.refl _ Wa) 0 _) 1 _) 2 _) 3 _;exact⟨hb0,hbw,iI hz,hr.one k4 hb0 hz (fun cs d e=>by cases e),hm,hi,Kp.trans hk k4 (fun i hi e=>by omega)⟩
  go_wp2_with fail
  refine bH (S:=fun w'=>w'.cell? ⟨L.tb,0,none⟩=some (.pointer (some ⟨L.wb,0,none⟩))∧w'.cell? ⟨L.tb,1,none⟩=some (.int .i64 L.tf)) (z:=12) (by kernel_rfl) ?_;have hS:w2.drew.cell? ⟨L.tb,0,none⟩=some (.pointer (some ⟨L.wb,0,none⟩))∧w2.drew.cell? ⟨L.tb,1,none⟩=some (.int .i64 L.tf):=⟨t0,t1⟩;iterate 10(refine qD hS ?_;simp only[Act.put,ax,aD,aF])
  refine O_ (i:=10) (k:=11) (by kernel_rfl) rfl rfl (fun K hK=>?_) (fun K hK=>?_)
  ·go_simp
   refine((tV.o) w2.drew ((HR2.o).below (Below.refl _ w2).drew)).mono ?_;rintro e w3 ⟨rfl,X3⟩;obtain⟨M3,r3,m3,i3,x3⟩:=X3.o;obtain⟨nv3,v0,v1,-⟩:=r3.cells;dsimp only;refine hK.o _ _ (fun _=>⟨v0,v1⟩) (fun hS2=>?_);clear hS hK K;have hS:=hS2 (by decide);clear hS2;refine bD 11 fun K hK=>?_;go_simp;have hZ:=heap_alloc_new w3 (.cells #[.int .i64 0,.int .i64 0,.int .i64 0,.int .i64 0] 263);have hRa:=r3.alloc (.cells #[.int .i64 0,.int .i64 0,.int .i64 0,.int .i64 0] 263);have hKa:Kx L fs.length w0.heap.size w (w3.alloc (.cells #[.int .i64 0,.int .i64 0,.int .i64 0,.int .i64 0] 263)):=((((WJ.o).drew).trans x3).alloc _);have hw3:w.heap.size≤w3.heap.size:=Kp.size (((WJ.o).drew).trans x3);have h03:=r3.size;refine hK.o _ _ (fun _=>⟨Lib.cell?_alloc_some _ v0,Lib.cell?_alloc_some _ v1⟩) (fun hS2=>?_);clear hS hK K;have hS:=hS2 (by decide);clear hS2;generalize w3.alloc (.cells #[.int .i64 0,.int .i64 0,.int .i64 0,.int .i64 0] 263)=Wa at *;generalize w3.heap.size=b at *;have e0:=cell_of_row Wa _ 0 _ _ _ hZ;have e1:=cell_of_row Wa _ 1 _ _ _ hZ;have e2:=cell_of_row Wa _ 2 _ _ _ hZ;have e3:=cell_of_row Wa _ 3 _ _ _ hZ;have q0:=mW hZ 0;have q1:=mW hZ 1;have q2:=mW hZ 2;have q3:=mW hZ 3;have HG:=au ((XK.o) Wa _ M3 (by omega) (by omega) hZ hRa m3 i3 hKa);have HM:Hid (p9 fs M3∧Idle M3):=⟨m3,i3⟩;clear hZ hRa hKa X3 r3 m3 i3 x3 XK;refine bD 12 fun K hK=>?_;go_simp;refine hK.o _ _ (fun h=>absurd rfl h) (fun _=>fB ?_);clear hK K hS e0 e1 e2 e3 q0 q1 q2 q3;go_wp2_with fail
   go_meet
   exact⟨_,M3,rfl,HG⟩
  ·go_simp
   refine hK.o _ _ (fun _=>⟨Lib.cell?_alloc_some _ t0,Lib.cell?_alloc_some _ t1⟩) (fun hS2=>?_);clear hS hK K;have hS:=hS2 (by decide);clear hS2;have hZ0:=heap_alloc_new w2 (.cells #[.int .i64 0,.int .i64 0,.int .i64 0,.int .i64 0] 263);have hRz:Run w0 L fs M (us++tm) (w2.alloc (.cells #[.int .i64 0,.int .i64 0,.int .i64 0,.int .i64 0] 263)).drew:=(HR2.o).below (((Below.refl _ w2).alloc (Nat.le_refl _) _).drew);refine bD 10 fun K hK=>?_;go_simp;refine((tV.o) _ hRz).mono ?_;rintro e w3 ⟨rfl,X3⟩;obtain⟨M3,r3,m3,i3,x3⟩:=X3.o;obtain⟨nv3,v0,v1,-⟩:=r3.cells;have hZ:=x3.made (b:=w2.heap.size) hSl hZ0 k2 (fun cs d e=>by cases e);have hRa:=r3;have hKa:Kx L fs.length w0.heap.size w w3:=(((WJ.o).alloc _).drew).trans x3;dsimp only;refine hK.o _ _ (fun _=>⟨v0,v1⟩) (fun hS2=>?_);clear hS hK K hZ0 hRz;have hS:=hS2 (by decide);clear hS2;have e0:=cell_of_row w3 _ 0 _ _ _ hZ;have e1:=cell_of_row w3 _ 1 _ _ _ hZ;have e2:=cell_of_row w3 _ 2 _ _ _ hZ;have e3:=cell_of_row w3 _ 3 _ _ _ hZ;have q0:=mW hZ 0;have q1:=mW hZ 1;have q2:=mW hZ 2;have q3:=mW hZ 3;have HG:=au ((XK.o) w3 _ M3 (by omega) (by omega) hZ hRa m3 i3 hKa);have HM:Hid (p9 fs M3∧Idle M3):=⟨m3,i3⟩;clear hZ hRa hKa X3 r3 m3 i3 x3 XK;refine bD 12 fun K hK=>?_;go_simp;refine hK.o _ _ (fun h=>absurd rfl h) (fun _=>fB ?_);clear hK K hS e0 e1 e2 e3 q0 q1 q2 q3;go_wp2_with fail
   go_meet
   exact⟨_,M3,rfl,HG⟩
 case rest =>
  obtain⟨b,M3,rfl,HX⟩:=hcut;have h0b:=(HX.o).1;have hwb:=au (HX.o).2.1;have HA4:=au (HX.o).2.2.1;have HR4:=au (HX.o).2.2.2.1;have N_:=au (HX.o).2.2.2.2.1;have HI4:=au (HX.o).2.2.2.2.2.1;have KX4:=au (HX.o).2.2.2.2.2.2;have Fh:=au ((wX.o) M3 _ HR4.o);clear HX wX WJ HR2 tV t0 t1;go_wp2_with fail
  refine(Fh.o).mono ?_;rintro e w5 ⟨rfl,B5⟩;have Mi:=au ((Kp.aI B5 (fun _=>False)).heap HA4.o id);have XL:=au ((HR4.o).below B5);have ZW:Hid (Kx L fs.length w0.heap.size w w5):=(KX4.o).trans (Kx.aI B5);have ZX:=(XL.o).kp.heap HU.o TB.o;have u55:w5.cell? ⟨ub,5,none⟩=some (.bool gs):=ai w5 _ 5 _ _ _ ZX;have a35:=ai w5 _ 3 _ _ _ Mi.o;have za:=bB w5 _ 3 _ _ Mi.o;clear B5 HA4 HR4 KX4 Fh ZX;have aX4:(er=0∧gs=false∧IE=tw)∨(IE=er∧(er≠0∨(er=0∧gs=true))):=by
   by_cases hq:er=0
   ·cases gs with
    | false=>exact .inl ⟨hq,rfl,by rw[he,aL ⟨hq,rfl⟩]⟩
    | true=>exact .inr ⟨by rw[he,aG (by simp)],.inr ⟨hq,rfl⟩⟩
   ·exact .inr ⟨by rw[he,aG (fun e=>hq e.1)],.inl hq⟩
  clear he;rcases aX4 with ⟨rfl,rfl,he2⟩|⟨he2,hq|⟨rfl,rfl⟩⟩
  all_goals first
   | have q1:((er:Int)==0)=false:=by simp;omega
     have TD:Hid (w5.heap[b]?=some (.cells #[.int .i64 2,.int .i64 tf,.int .i64 tt,.int .i64 IE] 263 (0,0))):=by rw[he2];exact Mi.o
     have HR6:=XL;have KX6:=ZW;clear Mi XL ZW he2 za hwb
     go_upto_region 5 with fail
     clear a35 u55 q1 hq;generalize w5=W6 at *
   | have he3:IE=tw:=he2
     clear he2;have XM:w5.cell? ⟨b,3,none⟩=some (.int .i64 0):=a35;clear a35;have Tq:Kp (fun q=>q=b) w5 (w5.setCell ⟨b,3,none⟩ (.int .i64 tw)):=On.set (Kp.refl _ w5) 3 _;have TD:Hid ((w5.setCell ⟨b,3,none⟩ (.int .i64 tw)).heap[b]?=some (.cells #[.int .i64 2,.int .i64 tf,.int .i64 tt,.int .i64 IE] 263 (0,0))):=by rw[he3];exact iU Mi.o 3 _
     have HR6:Hid (Run w0 L fs M3 (us++tm) (w5.setCell ⟨b,3,none⟩ (.int .i64 tw))):=(XL.o).one Tq h0b Mi.o (fun cs d e=>by cases e);have KX6:Hid (Kx L fs.length w0.heap.size w (w5.setCell ⟨b,3,none⟩ (.int .i64 tw))):=Kp.trans ZW.o Tq (fun i hi e=>by have:=hwb.o;omega);clear Tq Mi XL ZW
     go_upto_region 5 with fail
     generalize w5.setCell ⟨b,3,none⟩ (.int .i64 tw)=W6 at *;clear XM za u55 he3 hwb
   | have XM:w5.cell? ⟨b,3,none⟩=some (.int .i64 0):=a35
     have TD:Hid (w5.heap[b]?=some (.cells #[.int .i64 2,.int .i64 tf,.int .i64 tt,.int .i64 IE] 263 (0,0))):=by rw[he2];exact Mi.o
     have HR6:=XL;have KX6:=ZW;clear Mi XL ZW he2 za hwb a35
     go_upto_region 5 with fail
     clear XM u55;generalize w5=W6 at *
  all_goals
   have hu6:=(HR6.o).kp.heap HU.o TB.o;have u36:W6.cell? ⟨ub,3,none⟩=some (.string (ba n.1)):=ai W6 _ 3 _ _ _ hu6;have u46:W6.cell? ⟨ub,4,none⟩=some (.int .i64 n.2):=ai W6 _ 4 _ _ _ hu6;have a16:W6.cell? ⟨b,1,none⟩=some (.int .i64 tf):=ai W6 _ 1 _ _ _ TD.o;have a26:W6.cell? ⟨b,2,none⟩=some (.int .i64 tt):=ai W6 _ 2 _ _ _ TD.o;have a36:W6.cell? ⟨b,3,none⟩=some (.int .i64 IE):=ai W6 _ 3 _ _ _ TD.o;have Mj:=au (nI n 4 tf tt IE ((HR6.o).below ((ay _ W6).drew)) (by rw[ak];omega));clear hu6;go_wp2_with fail
   refine bH (S:=fun w'=>w'.cell? ⟨ub,3,none⟩=some (.string (ba n.1))∧w'.cell? ⟨ub,4,none⟩=some (.int .i64 n.2)∧w'.cell? ⟨b,1,none⟩=some (.int .i64 tf)∧w'.cell? ⟨b,2,none⟩=some (.int .i64 tt)∧w'.cell? ⟨b,3,none⟩=some (.int .i64 IE)) (z:=10) (by kernel_rfl) ?_;have hS:W6.drew.cell? ⟨ub,3,none⟩=some (.string (ba n.1))∧W6.drew.cell? ⟨ub,4,none⟩=some (.int .i64 n.2)∧W6.drew.cell? ⟨b,1,none⟩=some (.int .i64 tf)∧W6.drew.cell? ⟨b,2,none⟩=some (.int .i64 tt)∧W6.drew.cell? ⟨b,3,none⟩=some (.int .i64 IE):=⟨u36,u46,a16,a26,a36⟩;iterate 9(refine ou hS ?_;simp only[Act.put,ax,aD,aF])
   refine bD 9 fun K hK=>?_;go_simp;refine(Mj.o).mono ?_;rintro e w7 ⟨rfl,X7⟩;have r7:=(X7.o).1;have x7:=(X7.o).2;have hA7:=x7.made (b:=b) hSl TD.o h0b (fun cs d e=>by cases e);have hu7:=r7.kp.heap HU.o TB.o;have u37:w7.cell? ⟨ub,3,none⟩=some (.string (ba n.1)):=cell_of_row w7 _ 3 _ _ _ hu7;have u47:w7.cell? ⟨ub,4,none⟩=some (.int .i64 n.2):=cell_of_row w7 _ 4 _ _ _ hu7;have u67:w7.cell? ⟨ub,6,none⟩=some (.string (ba a.1)):=cell_of_row w7 _ 6 _ _ _ hu7;have u77:w7.cell? ⟨ub,7,none⟩=some (.int .i64 a.2):=cell_of_row w7 _ 7 _ _ _ hu7;have a17:w7.cell? ⟨b,1,none⟩=some (.int .i64 tf):=cell_of_row w7 _ 1 _ _ _ hA7;have a27:w7.cell? ⟨b,2,none⟩=some (.int .i64 tt):=cell_of_row w7 _ 2 _ _ _ hA7;have a37:w7.cell? ⟨b,3,none⟩=some (.int .i64 IE):=cell_of_row w7 _ 3 _ _ _ hA7;dsimp only;refine hK.o _ _ (fun _=>⟨u37,u47,a17,a27,a37⟩) (fun _=>fB ?_);clear hK K hS;have HA7:=au hA7;have KX7:Hid (Kx L fs.length w0.heap.size w w7):=((KX6.o).drew).trans x7;have Ky:=au (nI a 5 tf tt tw (r7.below ((Below.refl _ w7).drew)) (by rw[List.length_append,List.length_append];omega));clear X7 r7 x7 hA7 hu7 TD HR6 KX6 u36 u46 a16 a26 a36 u37 u47 a37 Mj;go_wp2_with fail
   refine bH (S:=fun w'=>w'.cell? ⟨ub,6,none⟩=some (.string (ba a.1))∧w'.cell? ⟨ub,7,none⟩=some (.int .i64 a.2)∧w'.cell? ⟨b,1,none⟩=some (.int .i64 tf)∧w'.cell? ⟨b,2,none⟩=some (.int .i64 tt)) (z:=9) (by kernel_rfl) ?_;have hS:w7.drew.cell? ⟨ub,6,none⟩=some (.string (ba a.1))∧w7.drew.cell? ⟨ub,7,none⟩=some (.int .i64 a.2)∧w7.drew.cell? ⟨b,1,none⟩=some (.int .i64 tf)∧w7.drew.cell? ⟨b,2,none⟩=some (.int .i64 tt):=⟨u67,u77,a17,a27⟩;iterate 8(refine ou hS ?_;simp only[Act.put,ax,aD,aF])
   refine bD 8 fun K hK=>?_;go_simp;refine(Ky.o).mono ?_;rintro e w8 ⟨rfl,X8⟩;have hA8:=(X8.o).2.made (b:=b) hSl HA7.o h0b (fun cs d e=>by cases e);have hu8:=(X8.o).1.kp.heap HU.o TB.o;have HF:Hid (qX w0 L fs (us++(tm++(X.gZ L.tf n 4 (tf,tt,IE)++X.gZ L.tf a 5 (tf,tt,tw)))) w w8):=by
    refine⟨M3,?_,N_.o,HI4.o,((KX7.o).drew).trans (X8.o).2⟩;have:=(X8.o).1
    simpa using this
   dsimp only;refine hK.o _ _ (fun _=>⟨cell_of_row w8 _ 6 _ _ _ hu8,cell_of_row w8 _ 7 _ _ _ hu8,cell_of_row w8 _ 1 _ _ _ hA8,cell_of_row w8 _ 2 _ _ _ hA8⟩) (fun _=>fB ?_);clear hK K hS X8 hA8 hu8 HA7 KX7 u67 u77 a17 a27 Ky;go_wp2_with fail
   go_end0;exact⟨rfl,HF⟩
theorem Pb(k lo hi ub:Nat)(pub gs:Bool)(m n a:X.Nm)(hk:(X.aM fs L.tf)[k]?=some (.use pub m n gs a))(hv:Av L fs.length w0.heap.size lo hi)(hb:lo≤ub∧ub<hi)(hub:w0.heap[ub]?=some (L8 pub gs m n a))(h:Run w0 L fs M us w)(hM:p9 fs M)(wU:Idle M)(hlim:us.length+(X.xW fs L.tf k (.use pub m n gs a)).length≤1073741824) :
  Calls prog 80 #[.pointer (some ⟨L.tb,0,none⟩),.int .i64 k,.pointer (some ⟨ub,0,none⟩)] w fun e w'=>e=.returned (.tuple #[])∧Hid (qX w0 L fs (us++X.xW fs L.tf k (.use pub m n gs a)) w w'):=by
 obtain⟨hmB,Dq,haB⟩:=h.NW hk;have NY:X.xW fs L.tf k (.use pub m n gs a)=X.gZ L.tf m 3 (match X.qC fs m.1 with|some f'=>(f',-1,0)|none=>(-1,-1,4))++(X.gZ L.tf n 4 ((X.jM fs (X.ji fs) L.tf k).1,(X.jM fs (X.ji fs) L.tf k).2.1,if (X.jM fs (X.ji fs) L.tf k).2.2=0∧gs=false then X.lH (X.aM fs L.tf) k (if gs then a else n).1 else(X.jM fs (X.ji fs) L.tf k).2.2)++X.gZ L.tf a 5 ((X.jM fs (X.ji fs) L.tf k).1,(X.jM fs (X.ji fs) L.tf k).2.1,X.lH (X.aM fs L.tf) k (if gs then a else n).1)):=rfl;have XO:=fun(w:World) (h:Run w0 L fs M us w)=>E9 m hmB h
 generalize hX:X.xW fs L.tf k (.use pub m n gs a)=Xu at *;generalize htm:X.gZ L.tf m 3 (match X.qC fs m.1 with|some f'=>(f',-1,0)|none=>(-1,-1,4))=tm at *;rw[NY] at hlim ⊢;rw[ak,ak] at hlim;exact Ur k lo hi ub pub gs m n a tm _ _ _ _ _ hv hb hub h (fun w h=>XO w h (by omega)) (fun w h=>OX L.tf k pub gs m n a ub h hM wU hk hub (hv.av ub hb.1 hb.2)) (fun M w h=>zw k _ hk h) rfl (by omega)
end
section
open Tryz
namespace X
theorem zJ(fs:List Fl)(f:Nat)(r:List It):∀(l:List It) (k:Nat),iB fs f k (l++r)=iB fs f k l++iB fs f (k+l.length) r
 | [],k=>by rw[bT,iB,bT];rfl
 | a::l,k=>by rw[dx,iB,iB,zJ fs f r l,aA,aW,show k+1+l.length=k+(l.length+1) by omega]
theorem B_{fs:List Fl}{f:Nat}{l:List It}{j:Nat}{it:It}(h:l[j]?=some it):iB fs f 0 (l.take (j+1))=iB fs f 0 (l.take j)++xW fs f j it:=by
 have hj:j<l.length:=by
  rcases bE j l.length with g|g
  ·exact g
  ·rw[aO g] at h;cases h
 rw[jH h,zJ,iB,iB,aJ,bL,show 0+min j l.length=j by omega]
theorem Ml(fs:List Fl)(f:Nat)(l:List It)(j:Nat):(iB fs f 0 (l.take j)).length≤(iB fs f 0 l).length:=by
 have:=zJ fs f (l.drop j) (l.take j) 0;rw[dA] at this;rw[this,ak];omega
end X
theorem Pg(b:Nat)(w:World):(Instr.typeAssert (.iface 121 (.pointer (some ⟨b,0,none⟩))) 64 68 true).run prog w=.ok (.tuple #[.pointer none,.bool false]) w:=by kernel_rfl
theorem Ph(b:Nat)(w:World):(Instr.typeAssert (.iface 68 (.pointer (some ⟨b,0,none⟩))) 64 68 true).run prog w=.ok (.tuple #[.pointer (some ⟨b,0,none⟩),.bool true]) w:=by kernel_rfl
variable{w0:World}{L:Lay}{fs:List X.Fl}{M:Mem}{us:List X.U}{w:World}
theorem Run.XQ(h:Run w0 L fs M us w)(f:Nat):Run w0 { L with tf:=f } fs M us (w.setCell ⟨L.tb,1,none⟩ (.int .i64 f))∧Kx L fs.length w0.heap.size w (w.setCell ⟨L.tb,1,none⟩ (.int .i64 f)):=by
 have k1:Kp (fun q=>q=L.tb) w (w.setCell ⟨L.tb,1,none⟩ (.int .i64 f)):=On.set (Kp.refl _ w) 1 _;have kx:Kx L fs.length w0.heap.size w (w.setCell ⟨L.tb,1,none⟩ (.int .i64 f)):=Kp.trans (Kp.refl _ w) k1 (fun i hi e=>.inl (.inl e));refine⟨⟨⟨h.st.n,h.st.ws,h.st.mp,h.st.ms,h.st.fl,h.st.fi,h.st.nm,h.st.its,h.st.bd,h.st.il,h.st.wl,h.st.gl⟩,kx.st h.kp,?_,fun i hi=>?_,h.lim⟩,kx⟩
 ·obtain⟨nv,h1,h2⟩:=h.tl
  refine⟨nv,iU h1 1 _,k1.owns h2 (fun q hq e=>?_)⟩;have:=(dV h2 q hq).1;have:=h.st.wl;omega
 ·obtain⟨arr,x1,x2⟩:=h.fd i hi
  exact⟨arr,k1.heap x1 (h.st.gl i hi).2.1,x2⟩
theorem qX.step{a:World}{j:Nat}{wr w2:World}(h:qX w0 L fs (us++X.iB fs L.tf 0 ((X.aM fs L.tf).take j)) a wr){it:X.It}(he:(X.aM fs L.tf)[j]?=some it)(ht:qX w0 L fs ((us++X.iB fs L.tf 0 ((X.aM fs L.tf).take j))++X.xW fs L.tf j it) wr w2):qX w0 L fs (us++X.iB fs L.tf 0 ((X.aM fs L.tf).take (j+1))) a w2:=by
 obtain⟨M2,r2,m2,i2,x2⟩:=ht;obtain⟨M1,r1,m1,i1,x1⟩:=h;exact⟨M2,by rw[X.B_ he,← aA];exact r2,m2,i2,x1.trans x2⟩
theorem Us(hf:L.tf<fs.length)(x:Value)(hx:w.cell? ⟨L.tb,1,none⟩=some x)(hz:w.frozen? ⟨L.tb,1,none⟩=false)(h:Run w0 L fs M us (w.setCell ⟨L.tb,1,none⟩ (.int .i64 L.tf)))(hM:p9 fs M)(wU:Idle M)(hlim:us.length+(X.iB fs L.tf 0 (X.aM fs L.tf)).length≤1073741824) :
  Calls prog 47 #[.pointer (some ⟨L.tb,0,none⟩),.int .i64 L.tf] w fun e w'=>e=.returned (.tuple #[])∧Hid (qX w0 L fs (us++X.iB fs L.tf 0 (X.aM fs L.tf)) (w.setCell ⟨L.tb,1,none⟩ (.int .i64 L.tf)) w'):=by
 go_enter func47,ntmps47
 go_upto_region 1 with fail
 clear hx hz;generalize hW:w.setCell ⟨L.tb,1,none⟩ (.int .i64 L.tf)=W at *;have HW:=au hW;clear hW;have hn16:=h.st.n;have Xv:=h.st.il L.tf;obtain⟨nv,t0,-,-⟩:=h.cells;obtain⟨-,c1⟩:=h.Uh;obtain⟨fg,vk,d1,d2,d3,d4⟩:=h.files hf;rw[d1] at c1;obtain⟨lo,hi,hits,hit2,hit3⟩:=h.st.its L.tf hf;obtain⟨ao,cap,vs,e1,e2,e3,e4,e5⟩:=hits.ex;have wO:=h.file hf;rw[e1] at wO;have g0:=ai _ _ 0 _ _ _ wO;have hi1:(L.tf:Int)<(fs.length:Int):=by omega
 have HI0:Hid (qX w0 L fs (us++X.iB fs L.tf 0 ((X.aM fs L.tf).take 0)) W W):=⟨M,by rw[nT,X.iB,aJ];exact h,hM,wU,Kx.refl _ _ _ _⟩;have HV:Hid (Av L fs.length w0.heap.size lo hi):=⟨hit2,hit3⟩;have H4:=au e4;have H5:=au e5;generalize WM:X.aM fs L.tf=its at *;have HIT:=au WM;clear h hM wU hits wO d1 e1 e4 e5 WM hit2 hit3;go_wp2_with fail
 go_loopw [28] (fun v wr=>∃ j:Nat,v=.int .i64 j∧j≤its.length∧Hid (qX w0 L fs (us++X.iB fs L.tf 0 (its.take j)) W wr)) (fun v _=>its.length - (intOf v).toNat)
 case atStart=>exact⟨0,rfl,aX _,HI0⟩
 case round =>
  obtain⟨j,rfl,hj,HI⟩:=hrel;clear HI0 t0 c1 d4 g0;by_cases hjl:j<its.length
  ·obtain⟨it,he⟩:∃ it,its[j]?=some it:=⟨its[j],aC hjl⟩
   have he':(X.aM fs L.tf)[j]?=some it:=by rw[HIT.o];exact he
   obtain⟨g,hao,y1,y2,y3,-⟩:=(H4.o) j hjl;subst hao;have hi2:(j:Int)<(its.length:Int):=by omega
   obtain⟨M1,r1,m1,i1,x1⟩:=HI.o;have y4:=r1.kp.dY y3 ((HV.o).av g y1 y2);have hl2:(us++X.iB fs L.tf 0 (its.take j)).length+(X.xW fs L.tf j it).length≤1073741824:=by
    have q1:=X.Ml fs L.tf its (j+1);rw[X.B_ he,ak] at q1;rw[ak];omega
   have HS:Hid (∀ w2,qX w0 L fs ((us++X.iB fs L.tf 0 (its.take j))++X.xW fs L.tf j it) wr w2→qX w0 L fs (us++X.iB fs L.tf 0 (its.take (j+1))) W w2):=fun w2 ht=>by
    have:=HI.o;rw[← HIT.o] at this ht ⊢;exact this.step he' ht
   have hIs:=(H5.o) j it he;generalize vs j=vj at *;cases hIs with
   | use ub pub gs m n a hb hub =>
    have HC:=au (Pb j lo hi ub pub gs m n a he' HV.o hb hub r1 m1 i1 hl2);have q1:=Ko ub;have q2:=Pg ub;clear r1 m1 i1 x1 y3 hub hl2 HI;go_wp2_with fail
    refine(HC.o).mono ?_;rintro en w3 ⟨rfl,X3⟩;have HI3:=au ((HS.o) w3 X3.o);clear HC X3 HS y4;go_wp2_with fail
    exact⟨⟨j+1,by simp,by omega,HI3⟩,by simp[intOf];omega⟩
   | dfn db pub n pv ps v e hb hd hp hE =>
    have HC:=au (Pf j lo hi db pub n pv v _ _ ps e he' HV.o hb hd hp hE r1 m1 i1 hl2);have q1:=Kr db;have q2:=Ph db;clear r1 m1 i1 x1 y3 hd hl2 hp hE HI;go_wp2_with fail
    refine(HC.o).mono ?_;rintro en w3 ⟨rfl,X3⟩;have HI3:=au ((HS.o) w3 X3.o);clear HC X3 HS y4;go_wp2_with fail
    exact⟨⟨j+1,by simp,by omega,HI3⟩,by simp[intOf];omega⟩
  ·obtain rfl:j=its.length:=by omega
   have hd1:¬(its.length:Int)<(its.length:Int):=by omega
   have HF:Hid (qX w0 L fs (us++X.iB fs L.tf 0 its) W wr):=by
    have:=HI.o;rw[kY] at this;exact this
   clear HI;go_wp2_with fail
   go_end0;exact⟨rfl,by rw[HW.o,HIT.o];exact HF⟩
theorem Pj(f:Nat)(hf:f<fs.length)(h:Run w0 L fs M us w)(hM:p9 fs M)(wU:Idle M)(hlim:us.length+(X.iB fs f 0 (X.aM fs f)).length≤1073741824) :
  Calls prog 47 #[.pointer (some ⟨L.tb,0,none⟩),.int .i64 f] w fun e w'=>e=.returned (.tuple #[])∧Hid (∃ M',Run w0 { L with tf:=f } fs M' (us++X.iB fs f 0 (X.aM fs f)) w'∧p9 fs M'∧Idle M'∧Kx L fs.length w0.heap.size w w'):=by
 obtain⟨h1,k1⟩:=h.XQ f;obtain⟨nv,g1,-⟩:=h.tl;refine(Us (L:={ L with tf:=f }) hf _ (ai w _ 1 _ _ _ g1) (bB w _ 1 _ _ g1) h1 hM wU hlim).mono ?_;rintro e w' ⟨rfl,X⟩;obtain⟨M5,r5,m5,i5,x5⟩:=X.o;exact⟨rfl,M5,r5,m5,i5,k1.trans x5⟩
end
end Go.Proofs.YtdkpkpgpphkljaaGreatDoor
