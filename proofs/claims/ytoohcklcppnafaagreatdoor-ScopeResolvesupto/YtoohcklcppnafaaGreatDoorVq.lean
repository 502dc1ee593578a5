import Derived.Test.YtoohcklcppnafaaGreatDoorVl
namespace Go.Proofs.YtoohcklcppnafaaGreatDoor
set_option maxRecDepth 100000
set_option maxHeartbeats 4000000
open Go.RowKit
open M
open X
section
open Tryz
theorem MR{ps:List Part}{i:Nat}{ns:List Nm}(h:nU ps i ns):ns.length≤ps.length:=by
 induction h with
 | nil i=>exact ax _
 | name x ps i ns h ih=>rw[aY,aY];omega
 | leaf k x ps i ns hk h ih=>rw[aY];omega
 | lack ps i ns h ih=>rw[aY,aY];omega
 | miss m ps i ns hm h ih=>rw[aY];omega
theorem lX:∀(ps:List Part) {i:Nat} {es:List Ex},nA ps i es→es.length≤ps.length
 | [],i,es,h=>by cases h;exact ax _
 | p::ps,i,es,h=>by
  cases h with
  | leaf _ _ _ _ _ h=>have:=lX ps h;rw[aY];omega
  | miss _ _ _ _ _ h=>have:=lX ps h;rw[aY];omega
  | cons _ _ _ e es _ h=>have:=lX ps h;rw[aY,aY];omega
structure Ent(w:aG)(D:Nat→Prop)(ab:Nat)(qs:List Part)(i:Nat)(kv:Value):Prop where
 inn:dR (w.alloc (.cells #[aH ab,kv] 119)) D w.heap.size ab qs i
 o:∀(w3:aG) (l:List Part) (k:Nat),dR w3 D w.heap.size ab l k→Kq D w.heap.size ab (w.alloc (.cells #[aH ab,kv] 119)) w3→oq w3 D ab k∧Kq D ab ab w w3
 dl:∀ q,D q→q<(w.alloc (.cells #[aH ab,kv] 119)).heap.size
 sz:(w.alloc (.cells #[aH ab,kv] 119)).heap.size=w.heap.size+1
 lt:ab<w.heap.size
theorem qh{w:aG}{D:Nat→Prop}{ab:Nat}{qs:List Part}{i:Nat}{kv:Value}(hp:oq w D ab i)(hk:qL w D kv qs)(hg:Gd qs)(hd:¬ D ab)(hDl:∀ q,D q→q<w.heap.size):Ent w D ab qs i kv:=by
 have kB:Below w.heap.size w (w.alloc (.cells #[aH ab,kv] 119)):=(aB _ w).alloc (ax _) _;exact⟨Ig hp hk hg hd hDl,fun w3 l k x y=>⟨x.Bj,(Kq.aN kB hp.lt).inner y (ax _)⟩,fun q hq=>by have:=hDl q hq;simp;omega,aT,hp.lt⟩
theorem S_(D:Nat→Prop)(ab:Nat)(a4:Option Addr)(a5 a6:Nat)(t1 n t2 t3:List Part)(p1 p2:Part)(nm:Nm)(e1 e2:Ex)(i:Nat)(w:aG)(hp:oq w D ab i)(hk:qL w D (.slice a4 a5 a6) (t1++(n++(t2++([p1]++(t3++[p2]))))))(hg:Gd (t1++(n++(t2++([p1]++(t3++[p2]))))))(hd:¬ D ab)(h1:sj t1)(hn:zG n (i+pz t1) nm)(h2:sj t2)(hv:Rd p1 (i+pz t1+pz n+pz t2) e1)(h3:sj t3)(hb:Rd p2 (i+pz t1+pz n+pz t2+pz [p1]+pz t3) e2)(H1:pI p1)(H2:pI p2)(hpl:(t1++(n++(t2++([p1]++(t3++[p2]))))).length≤268435456)(hi:i+pz (t1++(n++(t2++([p1]++(t3++[p2])))))≤1073741824)(hDl:∀ q,D q→q<w.heap.size) :
  bB 109 #[.agg #[aH ab,.slice a4 a5 a6],ak 7] w fun en w'=>∃ v,en=.returned v∧Hid (je w' w.heap.size w'.heap.size v (.kH nm e1 e2)∧oq w' D ab (i+pz (t1++(n++(t2++([p1]++(t3++[p2]))))))∧Kq D ab ab w w'):=by
 have HT:=aA (qh hp hk hg hd hDl);have hsz:=(HT.o).sz;have hal:=(HT.o).lt;have HC:=aA (SS D w.heap.size ab t1 n t2 t3 p1 p2 nm e1 e2 i _ (HT.o).inn h1 hn h2 hv h3 hb H1 H2 hi au (HT.o).dl);clear h1 hn h2 hv h3 hb;clear hp hk hg hd hDl;go_enter func109,ntmps109;go_wp2_with fail
 refine(HC.o).mono ?_;rintro en w4 ⟨b,rfl,X4⟩;have HFin:Hid (je w4 w.heap.size w4.heap.size (.iface 255 (aH b)) (.kH nm e1 e2)∧oq w4 D ab (i+pz (t1++(n++(t2++([p1]++(t3++[p2]))))))∧Kq D ab ab w w4):=by
  obtain⟨z1,z2⟩:=(HT.o).o w4 [] _ (X4.o).2.1 (X4.o).2.2;exact⟨(X4.o).1.wide au (ax _),z1,z2⟩
 clear HC X4 HT;go_wp2_with fail
 go_ret;exact⟨_,rfl,HFin⟩
theorem Ta(D:Nat→Prop)(ab:Nat)(a4:Option Addr)(a5 a6:Nat)(t1 qs t2:List Part)(p:Part)(ns:List Nm)(e:Ex)(i:Nat)(w:aG)(hp:oq w D ab i)(hk:qL w D (.slice a4 a5 a6) (t1++([Part.br 6 qs]++(t2++[p]))))(hg:Gd (t1++([Part.br 6 qs]++(t2++[p]))))(hd:¬ D ab)(h1:sj t1)(hn:nU qs (i+pz t1) ns)(h2:sj t2)(hb:Rd p (i+pz t1+pz qs+pz t2) e)(H1:pI p)(hpl:(t1++([Part.br 6 qs]++(t2++[p]))).length≤268435456)(sP:qs.length≤268435456)(hi:i+pz (t1++([Part.br 6 qs]++(t2++[p])))≤1073741824)(hDl:∀ q,D q→q<w.heap.size) :
  bB 109 #[.agg #[aH ab,.slice a4 a5 a6],ak 9] w fun en w'=>∃ v,en=.returned v∧Hid (je w' w.heap.size w'.heap.size v (.fn ns e)∧oq w' D ab (i+pz (t1++([Part.br 6 qs]++(t2++[p]))))∧Kq D ab ab w w'):=by
 have HT:=aA (qh hp hk hg hd hDl);have hsz:=(HT.o).sz;have hal:=(HT.o).lt;have hnl:=MR hn;have HC:=aA (SY D w.heap.size ab t1 qs t2 p ns e i _ (HT.o).inn h1 hn h2 hb H1 hi au sP au (HT.o).dl);clear h1 hn h2 hb;clear hp hk hg hd hDl;go_enter func109,ntmps109;go_wp2_with fail
 refine(HC.o).mono ?_;rintro en w4 ⟨b,rfl,X4⟩;have HFin:Hid (je w4 w.heap.size w4.heap.size (.iface 262 (aH b)) (.fn ns e)∧oq w4 D ab (i+pz (t1++([Part.br 6 qs]++(t2++[p]))))∧Kq D ab ab w w4):=by
  obtain⟨z1,z2⟩:=(HT.o).o w4 [] _ (X4.o).2.1 (X4.o).2.2;exact⟨(X4.o).1.wide au (ax _),z1,z2⟩
 clear HC X4 HT;go_wp2_with fail
 go_ret;exact⟨_,rfl,HFin⟩
theorem Tc(D:Nat→Prop)(ab:Nat)(a4:Option Addr)(a5 a6:Nat)(p1 p2:Part)(t qs:List Part)(k:Nat)(x:ah)(e1 e2:Ex)(i:Nat)(w:aG)(hp:oq w D ab i)(hk:qL w D (.slice a4 a5 a6) ([p1]++(t++[p2])))(hg:Gd ([p1]++(t++[p2])))(hd:¬ D ab)(hl:Rd p1 i e1)(ht:vH t k x qs)(hr2:Rd p2 (i+pz [p1]+pz t) e2)(H1:pI p1)(H2:pI p2)(hpl:([p1]++(t++[p2])).length≤268435456)(hi:i+pz ([p1]++(t++[p2]))≤1073741824)(hDl:∀ q,D q→q<w.heap.size) :
  bB 109 #[.agg #[aH ab,.slice a4 a5 a6],ak 10] w fun en w'=>∃ v,en=.returned v∧Hid (je w' w.heap.size w'.heap.size v (.bin e1 x e2)∧oq w' D ab (i+pz ([p1]++(t++[p2])))∧Kq D ab ab w w'):=by
 have HT:=aA (qh hp hk hg hd hDl);have hsz:=(HT.o).sz;have hal:=(HT.o).lt;have HC:=aA (Ij D w.heap.size ab p1 p2 t qs k x e1 e2 i _ (HT.o).inn hl ht hr2 H1 H2 hi au (HT.o).dl);clear hl ht hr2;clear hp hk hg hd hDl;go_enter func109,ntmps109;go_wp2_with fail
 refine(HC.o).mono ?_;rintro en w4 ⟨b,rfl,X4⟩;have HFin:Hid (je w4 w.heap.size w4.heap.size (.iface 264 (aH b)) (.bin e1 x e2)∧oq w4 D ab (i+pz ([p1]++(t++[p2])))∧Kq D ab ab w w4):=by
  obtain⟨z1,z2⟩:=(HT.o).o w4 [] _ (X4.o).2.1 (X4.o).2.2;exact⟨(X4.o).1.wide au (ax _),z1,z2⟩
 clear HC X4 HT;go_wp2_with fail
 go_ret;exact⟨_,rfl,HFin⟩
theorem OV(D:Nat→Prop)(ab:Nat)(a4:Option Addr)(a5 a6:Nat)(p:Part)(gs:List Part)(e:Ex)(es:List Ex)(i:Nat)(w:aG)(hp:oq w D ab i)(hk:qL w D (.slice a4 a5 a6) ([p]++[Part.br 12 gs]))(hg:Gd ([p]++[Part.br 12 gs]))(hd:¬ D ab)(hc:Rd p i e)(hgs:nA gs (i+pz [p]) es)(H1:pI p)(HE:∀ q∈gs,pI q)(sP:gs.length≤268435456)(hi:i+pz ([p]++[Part.br 12 gs])≤1073741824)(hDl:∀ q,D q→q<w.heap.size) :
  bB 109 #[.agg #[aH ab,.slice a4 a5 a6],ak 11] w fun en w'=>∃ v,en=.returned v∧Hid (je w' w.heap.size w'.heap.size v (.call e es)∧oq w' D ab (i+pz ([p]++[Part.br 12 gs]))∧Kq D ab ab w w'):=by
 have HT:=aA (qh hp hk hg hd hDl);have hsz:=(HT.o).sz;have hal:=(HT.o).lt;have hel:=lX gs hgs;have HC:=aA (OU D w.heap.size ab p gs e es i _ (HT.o).inn hc hgs H1 HE hi sP au (HT.o).dl);clear hc hgs HE;clear hp hk hg hd hDl;go_enter func109,ntmps109;go_wp2_with fail
 refine(HC.o).mono ?_;rintro en w4 ⟨b,rfl,X4⟩;have HFin:Hid (je w4 w.heap.size w4.heap.size (.iface 266 (aH b)) (.call e es)∧oq w4 D ab (i+pz ([p]++[Part.br 12 gs]))∧Kq D ab ab w w4):=by
  obtain⟨z1,z2⟩:=(HT.o).o w4 [] _ (X4.o).2.1 (X4.o).2.2;exact⟨(X4.o).1.wide au (ax _),z1,z2⟩
 clear HC X4 HT;go_wp2_with fail
 go_ret;exact⟨_,rfl,HFin⟩
theorem OW(D:Nat→Prop)(ab:Nat)(a4:Option Addr)(a5 a6:Nat)(t qs:List Part)(k:Nat)(x:ah)(j:Nat)(i:Nat)(w:aG)(hp:oq w D ab i)(hk:qL w D (.slice a4 a5 a6) t)(hg:Gd t)(hd:¬ D ab)(ht:vH t k x qs)(hpl:t.length≤268435456)(hi:i+pz t≤1073741824)(hDl:∀ q,D q→q<w.heap.size) :
  bB 109 #[.agg #[aH ab,.slice a4 a5 a6],ak 19] w fun en w'=>∃ v,en=.returned v∧Hid (je w' w.heap.size w'.heap.size v (.hole j)∧oq w' D ab (i+pz t)∧Kq D ab ab w w'):=by
 have HT:=aA (qh hp hk hg hd hDl);have hsz:=(HT.o).sz;have hal:=(HT.o).lt;have hin:=(HT.o).inn;rw[← aL t] at hin;have HC:=aA (iN D w.heap.size ab t qs _ [] i _ hin ht.BN (by rw[aL];exact hi) (by rw[aL];omega) (HT.o).dl);clear ht hin;clear hp hk hg hd hDl;go_enter func109,ntmps109;go_wp2_with fail
 refine(HC.o).mono ?_;rintro en w4 ⟨f4,f5,f6,rfl,X4⟩;have K4:=aA <| (HT.o).o w4 [] _ (X4.o).1 (X4.o).2;have hs4:=(K4.o).2.size;have kB:Below w4.heap.size w4 (w4.alloc (.cells #[ak 0,ak 0,.bool false] 278)):=(aB _ w4).alloc (ax _) _;have HFin:Hid (je (w4.alloc (.cells #[ak 0,ak 0,.bool false] 278)) w.heap.size (w4.alloc (.cells #[ak 0,ak 0,.bool false] 278)).heap.size (.iface 277 (aH w4.heap.size)) (.hole j)∧oq (w4.alloc (.cells #[ak 0,ak 0,.bool false] 278)) D ab (i+pz t)∧Kq D ab ab w (w4.alloc (.cells #[ak 0,ak 0,.bool false] 278))):=⟨.hole _ j ⟨hs4,aT⟩ (aI w4 _),(K4.o).1.below kB,(K4.o).2.more kB hal⟩;clear HC X4 HT K4 kB;go_wp2_with fail
 go_ret;exact⟨_,rfl,HFin⟩
theorem Td(D:Nat→Prop)(ab:Nat)(a4:Option Addr)(a5 a6:Nat)(t qs:List Part)(x:ah)(i:Nat)(w:aG)(hp:oq w D ab i)(hk:qL w D (.slice a4 a5 a6) t)(hg:Gd t)(hd:¬ D ab)(ht:vH t 3 x qs)(hpl:t.length≤268435456)(hi:i+pz t≤1073741824)(hDl:∀ q,D q→q<w.heap.size) :
  bB 109 #[.agg #[aH ab,.slice a4 a5 a6],ak 18] w fun en w'=>∃ v,en=.returned v∧Hid (je w' w.heap.size w'.heap.size v (.var (x,i+pz qs))∧oq w' D ab (i+pz t)∧Kq D ab ab w w'):=by
 have HT:=aA (qh hp hk hg hd hDl);have hsz:=(HT.o).sz;have hal:=(HT.o).lt;have hnm:=zG.name t x qs i ht;have hin:=(HT.o).inn;rw[← aL t] at hin;have HC:=aA (ow D w.heap.size ab t (x,i+pz qs) [] i _ hin hnm (by rw[aL];exact hi) (by rw[aL];omega) (HT.o).dl);clear ht hin hnm;clear hp hk hg hd hDl;go_enter func109,ntmps109;go_wp2_with fail
 refine(HC.o).aX fun w4 X4=>?_;have K4:=aA <| (HT.o).o w4 [] _ (X4.o).1 (X4.o).2;have hs4:=(K4.o).2.size;have kB:Below w4.heap.size w4 (w4.alloc (.cells #[ak 0,ak 0,.bool false,.string (ba x),ak ((i:Int)+(pz qs:Int))] 276)):=(aB _ w4).alloc (ax _) _;have HFin:Hid (je (w4.alloc (.cells #[ak 0,ak 0,.bool false,.string (ba x),ak ((i:Int)+(pz qs:Int))] 276)) w.heap.size (w4.alloc (.cells #[ak 0,ak 0,.bool false,.string (ba x),ak ((i:Int)+(pz qs:Int))] 276)).heap.size (.iface 274 (aH w4.heap.size)) (.var (x,i+pz qs))∧oq (w4.alloc (.cells #[ak 0,ak 0,.bool false,.string (ba x),ak ((i:Int)+(pz qs:Int))] 276)) D ab (i+pz t)∧Kq D ab ab w (w4.alloc (.cells #[ak 0,ak 0,.bool false,.string (ba x),ak ((i:Int)+(pz qs:Int))] 276))):=⟨.var _ _ ⟨hs4,aT⟩ (by rw[j_];exact aI w4 _),(K4.o).1.below kB,(K4.o).2.more kB hal⟩;clear HC X4 HT K4 kB;go_wp2_with fail
 go_ret;exact⟨_,rfl,HFin⟩
theorem Te(D:Nat→Prop)(ab:Nat)(a4:Option Addr)(a5 a6:Nat)(t qs:List Part)(k u:Nat)(x:ah)(i:Nat)(w:aG)(hp:oq w D ab i)(hk:qL w D (.slice a4 a5 a6) t)(hg:Gd t)(hd:¬ D ab)(hk2:15≤k∧k≤17)(ht:vH t u x qs)(hpl:t.length≤268435456)(hi:i+pz t≤1073741824)(hDl:∀ q,D q→q<w.heap.size) :
  bB 109 #[.agg #[aH ab,.slice a4 a5 a6],ak k] w fun en w'=>∃ v,en=.returned v∧Hid (je w' w.heap.size w'.heap.size v (.lit k x)∧oq w' D ab (i+pz t)∧Kq D ab ab w w'):=by
 have HT:=aA (qh hp hk hg hd hDl);have hsz:=(HT.o).sz;have hal:=(HT.o).lt;have hin:=(HT.o).inn;rw[← aL t] at hin;have HC:=aA (iN D w.heap.size ab t qs _ [] i _ hin ht.BN (by rw[aL];exact hi) (by rw[aL];omega) (HT.o).dl);have hfl:=Ii;clear ht hin;have n1:((k:Int)==1)=false:=aQ
 have n7:((k:Int)==7)=false:=aQ
 have n8:((k:Int)==8)=false:=aQ
 have n9:((k:Int)==9)=false:=aQ
 have n10:((k:Int)==10)=false:=aQ
 have n11:((k:Int)==11)=false:=aQ
 have n13:((k:Int)==13)=false:=aQ
 have n14:((k:Int)==14)=false:=aQ
 have n18:((k:Int)==18)=false:=aQ
 have n19:((k:Int)==19)=false:=aQ
 clear hp hk hg hd hDl;go_enter func109,ntmps109;go_wp2_with fail
 refine(HC.o).mono ?_;rintro en w4 ⟨f4,f5,f6,rfl,X4⟩;have hnt:BM (.leaf u x)=x:=rfl;rw[hnt];have K4:=aA <| (HT.o).o w4 [] _ (X4.o).1 (X4.o).2;have hs4:=(K4.o).2.size;have kB:Below w4.heap.size w4 (w4.alloc (.cells #[ak 0,ak 0,.bool false,ak k,.string (ba x)] 281)):=(aB _ w4).alloc (ax _) _;have HFin:Hid (je (w4.alloc (.cells #[ak 0,ak 0,.bool false,ak k,.string (ba x)] 281)) w.heap.size (w4.alloc (.cells #[ak 0,ak 0,.bool false,ak k,.string (ba x)] 281)).heap.size (.iface 279 (aH w4.heap.size)) (.lit k x)∧oq (w4.alloc (.cells #[ak 0,ak 0,.bool false,ak k,.string (ba x)] 281)) D ab (i+pz t)∧Kq D ab ab w (w4.alloc (.cells #[ak 0,ak 0,.bool false,ak k,.string (ba x)] 281))):=⟨.lit _ k x ⟨hs4,aT⟩ (aI w4 _),(K4.o).1.below kB,(K4.o).2.more kB hal⟩;clear HC X4 HT K4 kB;go_wp2_with fail
 go_ret;exact⟨_,rfl,HFin⟩
theorem OX(D:Nat→Prop)(ab:Nat)(a4:Option Addr)(a5 a6:Nat)(qs:List Part)(es:List Ex)(i:Nat)(w:aG)(hp:oq w D ab i)(hk:qL w D (.slice a4 a5 a6) qs)(hg:Gd qs)(hd:¬ D ab)(hr0:nA qs i es)(HE:∀ p∈qs,pI p)(sP:qs.length≤268435456)(hi:i+pz qs≤1073741824)(hDl:∀ q,D q→q<w.heap.size) :
  bB 109 #[.agg #[aH ab,.slice a4 a5 a6],ak 13] w fun en w'=>∃ v,en=.returned v∧Hid (je w' w.heap.size w'.heap.size v (.list es)∧oq w' D ab (i+pz qs)∧Kq D ab ab w w'):=by
 have HT:=aA (qh hp hk hg hd hDl);have hsz:=(HT.o).sz;have hal:=(HT.o).lt;have hel:=lX qs hr0;have HC:=aA (lZ D w.heap.size ab qs es i _ (HT.o).inn hr0 HE hi sP au (HT.o).dl);clear hr0 HE;clear hp hk hg hd hDl;go_enter func109,ntmps109;go_wp2_with fail
 refine(HC.o).mono ?_;rintro en w4 ⟨rv,rfl,X4⟩;obtain⟨ao,cp,vs,VZ,hq1,hq2,hrr,hpp⟩:=(X4.o).1.ex;subst VZ;have K4:=aA <| (HT.o).o w4 [] _ (X4.o).2.1 (X4.o).2.2;have hs4:=(K4.o).2.size;have kB:Below w4.heap.size w4 (w4.alloc (.cells #[ak 0,ak 0,.bool false,.slice ao es.length cp] 270)):=(aB _ w4).alloc (ax _) _;have HFin:Hid (je (w4.alloc (.cells #[ak 0,ak 0,.bool false,.slice ao es.length cp] 270)) w.heap.size (w4.alloc (.cells #[ak 0,ak 0,.bool false,.slice ao es.length cp] 270)).heap.size (.iface 268 (aH w4.heap.size)) (.list es)∧oq (w4.alloc (.cells #[ak 0,ak 0,.bool false,.slice ao es.length cp] 270)) D ab (i+pz qs)∧Kq D ab ab w (w4.alloc (.cells #[ak 0,ak 0,.bool false,.slice ao es.length cp] 270))):=⟨.list _ ao cp vs es ⟨hs4,aT⟩ (aI w4 _) ⟨hq1,hq2⟩ (fun j hj=>by obtain⟨q,e1,e2,e3,e4,c,f,e5⟩:=hrr j hj;exact⟨q,e1,au,aQ,(Kp.aN kB (fun _=>False)).dD e4 id,c,f,(Kp.aN kB (fun _=>False)).heap e5 id⟩) (fun j e' hj=>((hpp j e' hj).keep (Kp.aN kB (fun _=>False)) (fun _ _ _=>id)).wide au aT),(K4.o).1.below kB,(K4.o).2.more kB hal⟩;clear HC X4 HT K4 kB hrr hpp;go_wp2_with fail
 go_ret;exact⟨_,rfl,HFin⟩
theorem KY(D:Nat→Prop)(ab:Nat)(a4:Option Addr)(a5 a6:Nat)(qs:List Part)(e:Ex)(i:Nat)(w:aG)(hp:oq w D ab i)(hk:qL w D (.slice a4 a5 a6) qs)(hg:Gd qs)(hd:¬ D ab)(hr0:nA qs i [e])(HE:∀ p∈qs,pI p)(sP:qs.length≤268435456)(hi:i+pz qs≤1073741824)(hDl:∀ q,D q→q<w.heap.size) :
  bB 109 #[.agg #[aH ab,.slice a4 a5 a6],ak 14] w fun en w'=>∃ v,en=.returned v∧Hid (je w' w.heap.size w'.heap.size v (.group e)∧oq w' D ab (i+pz qs)∧Kq D ab ab w w'):=by
 have HT:=aA (qh hp hk hg hd hDl);have hsz:=(HT.o).sz;have hal:=(HT.o).lt;have hel:=lX qs hr0;have HC:=aA (lZ D w.heap.size ab qs [e] i _ (HT.o).inn hr0 HE hi sP au (HT.o).dl);clear hr0 HE;clear hp hk hg hd hDl;go_enter func109,ntmps109;go_wp2_with fail
 refine(HC.o).mono ?_;rintro en w4 ⟨rv,rfl,X4⟩;obtain⟨ao,cp,vs,VZ,hq1,hq2,hrr,hpp⟩:=(X4.o).1.ex;subst VZ;obtain⟨q,rfl,e2,e3,e4,-⟩:=hrr 0 aT;have hx:=hpp 0 e rfl;obtain⟨y1,g1,hv1⟩:=hx.iface;rw[hv1] at hx e4;have K4:=aA <| (HT.o).o w4 [] _ (X4.o).2.1 (X4.o).2.2;have hs4:=(K4.o).2.size;have kB:Below w4.heap.size w4 (w4.alloc (.cells #[ak 0,ak 0,.bool false,.iface y1 (aH g1)] 273)):=(aB _ w4).alloc (ax _) _;have HFin:Hid (je (w4.alloc (.cells #[ak 0,ak 0,.bool false,.iface y1 (aH g1)] 273)) w.heap.size (w4.alloc (.cells #[ak 0,ak 0,.bool false,.iface y1 (aH g1)] 273)).heap.size (.iface 271 (aH w4.heap.size)) (.group e)∧oq (w4.alloc (.cells #[ak 0,ak 0,.bool false,.iface y1 (aH g1)] 273)) D ab (i+pz qs)∧Kq D ab ab w (w4.alloc (.cells #[ak 0,ak 0,.bool false,.iface y1 (aH g1)] 273))):=⟨.group _ _ e ⟨hs4,aT⟩ (aI w4 _) ((hx.keep (Kp.aN kB (fun _=>False)) (fun _ _ _=>id)).wide au aT),(K4.o).1.below kB,(K4.o).2.more kB hal⟩;clear HC X4 HT K4 kB hrr hpp hx;go_wp2_with fail
 go_ret;exact⟨_,rfl,HFin⟩
theorem Tf(D:Nat→Prop)(ab:Nat)(a4:Option Addr)(a5 a6:Nat)(qs:List Part)(e1 e2 e3:Ex)(i:Nat)(w:aG)(hp:oq w D ab i)(hk:qL w D (.slice a4 a5 a6) qs)(hg:Gd qs)(hd:¬ D ab)(hr0:nA qs i [e1,e2,e3])(HE:∀ p∈qs,pI p)(sP:qs.length≤268435456)(hi:i+pz qs≤1073741824)(hDl:∀ q,D q→q<w.heap.size) :
  bB 109 #[.agg #[aH ab,.slice a4 a5 a6],ak 8] w fun en w'=>∃ v,en=.returned v∧Hid (je w' w.heap.size w'.heap.size v (.ite e1 e2 e3)∧oq w' D ab (i+pz qs)∧Kq D ab ab w w'):=by
 have HT:=aA (qh hp hk hg hd hDl);have hsz:=(HT.o).sz;have hal:=(HT.o).lt;have hel:=lX qs hr0;have HC:=aA (lZ D w.heap.size ab qs [e1,e2,e3] i _ (HT.o).inn hr0 HE hi sP au (HT.o).dl);clear hr0 HE;clear hp hk hg hd hDl;go_enter func109,ntmps109;go_wp2_with fail
 refine(HC.o).mono ?_;rintro en w4 ⟨rv,rfl,X4⟩;obtain⟨ao,cp,vs,VZ,hq1,hq2,hrr,hpp⟩:=(X4.o).1.ex;subst VZ;obtain⟨q,rfl,b2,b3,b4,-⟩:=hrr 0 aT;obtain⟨q',hq',-,-,b5,-⟩:=hrr 1 aT;obtain⟨q'',bP2,-,-,b6,-⟩:=hrr 2 aT;cases hq'
 cases bP2
 have hx:=hpp 0 e1 rfl;have hx2:=hpp 1 e2 rfl;have hx3:=hpp 2 e3 rfl;obtain⟨y1,g1,hv1⟩:=hx.iface;obtain⟨y2,g2,hv2⟩:=hx2.iface;obtain⟨y3,g3,hv3⟩:=hx3.iface;rw[hv1] at hx b4;rw[hv2] at hx2 b5;rw[hv3] at hx3 b6;have K4:=aA <| (HT.o).o w4 [] _ (X4.o).2.1 (X4.o).2.2;have hs4:=(K4.o).2.size;have kB:Below w4.heap.size w4 (w4.alloc (.cells #[ak 0,ak 0,.bool false,.iface y1 (aH g1),.iface y2 (aH g2),.iface y3 (aH g3)] 261)):=(aB _ w4).alloc (ax _) _;have HFin:Hid (je (w4.alloc (.cells #[ak 0,ak 0,.bool false,.iface y1 (aH g1),.iface y2 (aH g2),.iface y3 (aH g3)] 261)) w.heap.size (w4.alloc (.cells #[ak 0,ak 0,.bool false,.iface y1 (aH g1),.iface y2 (aH g2),.iface y3 (aH g3)] 261)).heap.size (.iface 259 (aH w4.heap.size)) (.ite e1 e2 e3)∧oq (w4.alloc (.cells #[ak 0,ak 0,.bool false,.iface y1 (aH g1),.iface y2 (aH g2),.iface y3 (aH g3)] 261)) D ab (i+pz qs)∧Kq D ab ab w (w4.alloc (.cells #[ak 0,ak 0,.bool false,.iface y1 (aH g1),.iface y2 (aH g2),.iface y3 (aH g3)] 261))):=⟨.ite _ _ _ _ e1 e2 e3 ⟨hs4,aT⟩ (aI w4 _) ((hx.keep (Kp.aN kB (fun _=>False)) (fun _ _ _=>id)).wide au aT) ((hx2.keep (Kp.aN kB (fun _=>False)) (fun _ _ _=>id)).wide au aT) ((hx3.keep (Kp.aN kB (fun _=>False)) (fun _ _ _=>id)).wide au aT),(K4.o).1.below kB,(K4.o).2.more kB hal⟩;clear HC X4 HT K4 hrr hpp hx hx2 hx3;have b4':=b4;have b5':=b5;have b6':=b6;have hq4:q<w4.heap.size:=dU _ _ b4';clear b4 b5 b6;go_wp2_with fail
 go_region_held3 (fun w'=>w'.cell? (aC q 0)=some (.iface y1 (aH g1))∧w'.cell? (aC q 1)=some (.iface y2 (aH g2))∧w'.cell? (aC q 2)=some (.iface y3 (aH g3)))
  (first|(with_reducible exact⟨b4',b5',b6'⟩)|(with_reducible exact⟨Lib.cell?_alloc_some _ b4',Lib.cell?_alloc_some _ b5',Lib.cell?_alloc_some _ b6'⟩)|go_keep)
  (fail)
 go_wp2_with fail
 go_ret;have kD:=(aB (w4.alloc (.cells #[ak 0,ak 0,.bool false,.iface y1 (aH g1),.iface y2 (aH g2),.iface y3 (aH g3)] 261)).heap.size (w4.alloc (.cells #[ak 0,ak 0,.bool false,.iface y1 (aH g1),.iface y2 (aH g2),.iface y3 (aH g3)] 261))).drew;exact⟨_,rfl,((HFin.o).1.keep (Kp.aN kD (fun _=>False)) (fun _ _ _=>id)),(HFin.o).2.1.below kD,(HFin.o).2.2.more kD hal⟩
theorem Fe(D:Nat→Prop)(ab:Nat)(a4:Option Addr)(a5 a6:Nat)  (i:Nat)(w:aG)(hp:oq w D ab i)(hk:qL w D (.slice a4 a5 a6) [])(hg:Gd [])(hd:¬ D ab)  (_hi:i+pz []≤1073741824)(hDl:∀ q,D q→q<w.heap.size) :
  bB 109 #[.agg #[aH ab,.slice a4 a5 a6],ak 1] w fun en w'=>∃ v,en=.returned v∧Hid (je w' w.heap.size w'.heap.size v .missing∧oq w' D ab (i+pz [])∧Kq D ab ab w w'):=by
 have HT:=aA (qh hp hk hg hd hDl);have hsz:=(HT.o).sz;have hal:=(HT.o).lt;clear hp hk hg hd hDl;go_enter func109,ntmps109;have HFin:Hid (∀ W b,W.heap.size=b→oq W D ab i∧Kq D ab ab w W→je (W.alloc (.cells #[ak 0,ak 0,.bool false] 254)) w.heap.size (W.alloc (.cells #[ak 0,ak 0,.bool false] 254)).heap.size (.iface 252 (aH b)) .missing∧oq (W.alloc (.cells #[ak 0,ak 0,.bool false] 254)) D ab (i+pz [])∧Kq D ab ab w (W.alloc (.cells #[ak 0,ak 0,.bool false] 254))):=fun W b hb hK=>by
  subst hb;have hs4:=hK.2.size;have kB:Below W.heap.size W (W.alloc (.cells #[ak 0,ak 0,.bool false] 254)):=(aB _ W).alloc (ax _) _;exact⟨.missing _ ⟨hs4,aT⟩ (aI W _),hK.1.below kB,hK.2.more kB hal⟩
 have K4:=aA ((HT.o).o _ [] i (HT.o).inn (Kq.refl _ _ _ _));clear HT;go_wp2_with fail
 go_ret;exact⟨_,rfl,aA ((HFin.o) _ _ aT K4.o)⟩
end
section
open Tryz
variable{b:Nat}{W w:aG}{e:Ex}{p:Part}
theorem MS{fn:Func}{t:Tmp}(h:fn.results=#[.cell t 235])(tmps:Array Value)(W:aG){a1 a2:Int}{a3:Bool}(ht:tmps[t]?.getD undef=aH b)(hb:W.heap[b]?=some (.cells #[ak a1,ak a2,.bool a3] 235 (0,0))) :
  (results fn tmps).run prog W=.ok (.agg #[ak a1,ak a2,.bool a3]) W:=by
 have m0:=aj W _ 0 _ _ _ hb;have m1:=aj W _ 1 _ _ _ hb;have m2:=aj W _ 2 _ _ _ hb;simp[results,h,go_sem,ht,m0,m1,m2]
theorem Il{x0 x1 x2 y0 y1 y2:Value}{t:TypeId}(h:W.heap[b]?=some (.cells #[y0,y1,y2] t (0,0))):(((W.setCell (aC b 0) x0).setCell (aC b 1) x1).setCell (aC b 2) x2).heap[b]?=some (.cells #[x0,x1,x2] t (0,0)):=by
 simp[World.setCell,aZ,h]
theorem Bn(h:Below w.heap.size w W)(hb:w.heap.size≤b)(x0 x1 x2:Value):Below w.heap.size w (((W.setCell (aC b 0) x0).setCell (aC b 1) x1).setCell (aC b 2) x2):=by
 have hk:Kp (fun q=>q=b) W (((W.setCell (aC b 0) x0).setCell (aC b 1) x1).setCell (aC b 2) x2):=On.set (On.set (On.set (Kp.refl _ W) 0 _) 1 _) 2 _;exact h.trans (hk.below h.size (fun k e=>au))
theorem KZ(D:Nat→Prop)(ab i t:Nat)(gz:Int)(w:aG)(h:oq w D ab i)(ht:t≤SA ab w) :
  bB 110 #[aH ab,ak t,ak gz] w fun e w'=>∃(a1 a2:Int) (a3:Bool),e=.returned (.agg #[ak a1,ak a2,.bool a3])∧Below w.heap.size w w':=by
 obtain⟨bv,bl,en,gp,hp,ho,hl,-⟩:=h.ex;obtain⟨bo,bc,rfl,hbm⟩:=rP ho;rw[vk hp] at ht;have hal:=bN hp;have kA:Below w.heap.size w (w.alloc (.cells #[ak 0,ak 0,.bool false] 235)):=(aB _ w).alloc (ax _) _;have hZ:=aI w (.cells #[ak 0,ak 0,.bool false] 235);have lV:=aA kA;have hp1:=(Kp.aN kA (fun _=>False)).heap hp id;have ho1:=(Kp.aN kA (fun _=>False)).owns ho (fun _ _=>id);clear h hp ho kA;go_enter func110,ntmps110
 go_upto_region 1 with fail
 generalize w.alloc (.cells #[ak 0,ak 0,.bool false] 235)=W at *;have c1:=aj W _ 1 _ _ _ hp1;have c2:=aj W _ 2 _ _ _ hp1;have c3:=aj W _ 3 _ _ _ hp1;have e0:W.cell? (aC w.heap.size 0)=some (ak 0):=aj W _ 0 _ _ _ hZ;have e1:W.cell? (aC w.heap.size 1)=some (ak 0):=aj W _ 1 _ _ _ hZ;have e2:W.cell? (aC w.heap.size 2)=some (.bool false):=aj W _ 2 _ _ _ hZ;have q0:=oo hZ 0;have q1:=oo hZ 1;have q2:=oo hZ 2;have HZ:=aA hZ;clear hp1 hZ;by_cases he:bl.length=t
 ·subst he
  clear ho1 ht;go_wp2_with fail
  exact aW (MS rfl _ _ (b:=w.heap.size) rfl (Il HZ.o)) rfl ⟨_,_,_,rfl,Bn lV.o (ax _) _ _ _⟩
 ·have i1:((bl.length:Int)==(t:Int))=false:=by simp;omega
  have hlt:t<bl.length:=au
  have hlt2:(t:Int)<(bl.length:Int):=au
  obtain⟨b,hb⟩:∃ b,bl[t]?=some b:=⟨_,aF hlt⟩;have UU:∃ g,bo=some ⟨g,0,none⟩∧W.cell? (aC g t)=some (ak b):=by
   have hc:=fun g hg=>ho1.cells (g:=g) hg
   rcases ho1.2 with ⟨e,h0⟩|⟨g,cap,cur,e,-⟩
   ·omega
   ·injection e with e1 e2 e3
    subst e1;refine⟨g,rfl,?_⟩;have:=hc g rfl t (ak b) (by rw[iI,hb];rfl)
    rwa[dQ,bS] at this
  obtain⟨g,rfl,hcg⟩:=UU;clear ho1 hb;go_wp2_with fail
  go_region
  go_wp2_with fail
  have kD:=(lV.o).trans ((aB _ W).drew.mono (lV.o).size);exact aW (MS rfl _ _ (b:=w.heap.size) rfl (Il (show W.drew.heap[w.heap.size]?=_ from HZ.o))) rfl ⟨_,_,_,rfl,Bn kD (ax _) _ _ _⟩
theorem K8(b:Nat)(m n m' n':Int)(z z':Bool)(r:List Value)(T:TypeId)(w:aG)(hb:w.heap[b]?=some (.cells (List.toArray (ak m::ak n::.bool z::r)) T (0,0))) :
  bB 227 #[aH b,.agg #[ak m',ak n',.bool z']] w (cK (.tuple #[]) fun w'=>Below (((w.setCell (aC b 0) (ak m')).setCell (aC b 1) (ak n')).setCell (aC b 2) (.bool z')).heap.size (((w.setCell (aC b 0) (ak m')).setCell (aC b 1) (ak n')).setCell (aC b 2) (.bool z')) w'):=by
 have c0:w.cell? (aC b 0)=some (ak m):=aj w _ 0 _ _ _ hb;have c1:w.cell? (aC b 1)=some (ak n):=aj w _ 1 _ _ _ hb;have c2:w.cell? (aC b 2)=some (.bool z):=aj w _ 2 _ _ _ hb;have f0:=oo hb 0;have f1:=oo hb 1;have f2:=oo hb 2;have hl:=bN hb;have hn:¬ b=w.heap.size:=au
 clear hb;go_enter func227,ntmps227;go_wp2_with fail
 go_end0;exact⟨rfl,(aB _ _).alloc (ax _) _⟩
def bP4(p:Part):Prop:=∀(e:Ex) (i:Nat) (D:Nat→Prop) (ab:Nat) (a4:Option Addr) (a5 a6:Nat) (w:aG),Rd p i e→oq w D ab i→qL w D (.slice a4 a5 a6) (X.kids p)→Gd (X.kids p)→¬ D ab→i+pz [p]≤1073741824→(∀ q,D q→q<w.heap.size) →
 bB 109 #[.agg #[aH ab,.slice a4 a5 a6],ak (nk p)] w fun en w'=>∃ v,en=.returned v∧Hid (je w' w.heap.size w'.heap.size v e∧oq w' D ab (i+pz [p])∧Kq D ab ab w w')
theorem je.top{lo hi:Nat}{v:Value}(h:je w lo hi v e):∃ ty b T m n z r,v=.iface ty (aH b)∧lo≤b∧b<hi∧w.heap[b]?=some (.cells (List.toArray (ak m::ak n::.bool z::r)) T (0,0))∧(T≠179∧T≠163∧T≠231)∧T≠3 ∧
  (ty=279∨ty=277∨ty=252∨ty=274∨ty=255∨ty=259∨ty=262∨ty=264∨ty=266∨ty=268∨ty=271):=by
 cases h with
 | lit b k x hb h=>exact⟨_,b,_,_,_,_,_,rfl,hb.1,hb.2,h,aS,aS,aT⟩
 | hole b i hb h=>exact⟨_,b,_,_,_,_,_,rfl,hb.1,hb.2,h,aS,aS,aT⟩
 | missing b hb h=>exact⟨_,b,_,_,_,_,_,rfl,hb.1,hb.2,h,aS,aS,aT⟩
 | var b n hb h=>exact⟨_,b,_,_,_,_,_,rfl,hb.1,hb.2,h,aS,aS,aT⟩
 | kH b n v1 v2 e1 e2 hb h h1 h2=>exact⟨_,b,_,_,_,_,_,rfl,hb.1,hb.2,h,aS,aS,aT⟩
 | ite b v1 v2 v3 e1 e2 e3 hb h h1 h2 h3=>exact⟨_,b,_,_,_,_,_,rfl,hb.1,hb.2,h,aS,aS,aT⟩
 | fn b pb ns v e hb h hp h1=>exact⟨_,b,_,_,_,_,_,rfl,hb.1,hb.2,h,aS,aS,aT⟩
 | bin b v1 v2 x e1 e2 hb h h1 h2=>exact⟨_,b,_,_,_,_,_,rfl,hb.1,hb.2,h,aS,aS,aT⟩
 | call b v e ao cap vs es hb h hc h1 hr hp=>exact⟨_,b,_,_,_,_,_,rfl,hb.1,hb.2,h,aS,aS,aT⟩
 | list b ao cap vs es hb h hc hr hp=>exact⟨_,b,_,_,_,_,_,rfl,hb.1,hb.2,h,aS,aS,aT⟩
 | group b v e hb h h1=>exact⟨_,b,_,_,_,_,_,rfl,hb.1,hb.2,h,aS,aS,aT⟩
theorem aA9{i:Nat}(h:Rd p i e):JH p=0:=by cases h<;>rfl
theorem Tg:Gd []:=by
 constructor
 ·intro t ht
  rw[sK] at ht;cases ht
 ·rw[ja]
  trivial
theorem WB{ps:List Part}(h:Gd (p::ps)):Gd (X.kids p):=by
 cases p with
 | leaf k x=>exact Tg
 | miss m=>exact Tg
 | br k qs=>exact h.br.2
theorem WC(p:Part)(H:bP4 p):pI p:=by
 intro e i D rb ab ps w hrd hw hi hDl;obtain⟨v0,hb0,hn0⟩:=hw.blk;have r0:=aj w _ 0 _ _ _ hb0;have r1:=aj w _ 1 _ _ _ hb0;obtain⟨g,o,cap,kv,rfl,hD,y0,y1,y2,y3,hkk,-,hc1,hc2,-,-⟩:=hn0.head;obtain⟨bv,bl,en,gp,hps,hos,-⟩:=hw.Bj.ex;obtain⟨bo,bc,rfl,hbm⟩:=rP hos;have c1:=aj w _ 1 _ _ _ hps;have c3:=aj w _ 3 _ _ _ hps;have hnb:=aA (vk hps);obtain⟨hrl,hal⟩:=hw.lt;have hsep:=hw.sep;have hgk:=aA (WB hw.JI);have hln:=aA9 hrd;have hi1:(0:Int)<((ps.length+1:Nat):Int):=au
 have hi2:0<ps.length+1:=au
 have HW:=aA hw;have nP:=aA hDl;clear hb0 hn0 hkk hps hos hDl y1 y2 y3 hw;go_enter func80,ntmps80;go_wp2_with fail
 go_quiet (fail)
 have kN:Below w.heap.size w (w.drewN nq):=iQ (aB _ w) nq;have kp:=Kp.aN kN (fun _=>False)
 replace r0:=kp.dD (p:=⟨rb,0,none⟩) r0 id
 replace r1:=kp.dD (p:=⟨rb,1,none⟩) r1 id
 replace y0:=kp.dD (p:=⟨g,o,none⟩) y0 id
 have HN:=aA <| kN;have pF:=aA (ou D rb ab p ps i (w.drewN nq) ((HW.o).below kN) au (fun q hq=>aJ ((nP.o) q hq) kN.size));clear kN kp c1 c3;generalize w.drewN nq=W1 at *;go_wp2_with fail
 refine(pF.o).mono ?_;rintro XL w2 ⟨a4,a5,a6,rfl,X2⟩;have hK2:=aA <| (Kq.aN HN.o hal).trans (X2.o).2.2;have hl2:=(hK2.o).size;have HC:=aA (H e i D ab a4 a5 a6 w2 hrd (by have:=(X2.o).2.1.Bj;rw[hln] at this;exact this) (X2.o).1 hgk.o hsep.2.2 hi (fun q hq=>aJ ((nP.o) q hq) hl2));have HR2:=aA (X2.o).2.1;clear pF X2 r0 r1 y0 HN;go_wp2_with fail
 refine(HC.o).mono ?_;rintro en3 w3 ⟨v,rfl,X3⟩;obtain⟨ty,b,T,m,n,z,r,rfl,hb1,hb2,hbb,hT1,zm,hty⟩:=(X3.o).1.top;have hK3:=aA <| (hK2.o).trans (X3.o).2.2.wide;have hR3:=(HR2.o).counted (X3.o).2.1 (X3.o).2.2;obtain⟨v3,hb3,-⟩:=hR3.blk;have r0:=aj w3 _ 0 _ _ _ hb3;have HR3:=aA hR3;have HB:=aA hbb;have hl3:=(hK3.o).size;have aB0:Hid (oq w3 D ab (i+pz [p])∧bl.length≤SA ab w3):=⟨(X3.o).2.1,by have:=(hK3.o).le;rw[hnb.o] at this;exact this⟩;have HE3:=aA (X3.o).1;clear HC HR2 hbb hR3 hb3 X3;go_wp2_with fail
 refine dB (S:=fun w'=>w'.cell? ⟨rb,0,none⟩=some (.pointer (some ⟨ab,0,none⟩))) (z:=12) (by kernel_rfl) ?_;have hS:w3.drew.cell? ⟨rb,0,none⟩=some (.pointer (some ⟨ab,0,none⟩)):=r0;have hna : ∀ wx, (nilAhead 460 ty (.pointer (some ⟨b, 0, none⟩)) "amanuensis/syntax.stand").run Tryz.prog wx = .ok (some false) wx := by
  intro wx;rcases hty with rfl|rfl|rfl|rfl|rfl|rfl|rfl|rfl|rfl|rfl|rfl<;>kernel_rfl
 have hmt : ∀ wx, (method 460 ty (.pointer (some ⟨b, 0, none⟩)) "amanuensis/syntax.stand").run Tryz.prog wx = .ok (227, .pointer (some ⟨b, 0, none⟩)) wx := by
  intro wx;rcases hty with rfl|rfl|rfl|rfl|rfl|rfl|rfl|rfl|rfl|rfl|rfl<;>kernel_rfl
 iterate 7(refine oQ hS ?_;simp only[Act.put,aD,aO,aP])
 (refine Fg 8 hS ?_;simp only[Act.put,aD,aO,aP])
 (refine Fg 9 hS ?_;simp only[Act.put,aD,aO,aP])
 (refine Fg 10 hS ?_;simp only[Act.put,aD,aO,aP])
 refine fw 7 fun K hK=>?_;go_simp;refine(KZ D ab (i+pz [p]) bl.length gp w3.drew ((aB0.o).1.below (Below.refl _ w3).drew) (aB0.o).2).mono ?_;rintro en4 w4 ⟨s1,s2,s3,rfl,k4⟩;have PW:Below w3.heap.size w3 w4:=(Below.refl _ w3).drew.trans k4;have kp4:=Kp.aN PW (fun _=>False);have r4:=kp4.dD (p:=⟨rb,0,none⟩) r0 id;dsimp only;refine hK.o _ _ (fun _=>r4) (fun hS2=>?_);clear hK K hS hS2 r0
 try simp only[Act.put,aD,aO,aP]
 refine fw 11 fun K hK=>?_;have hB4:=kp4.heap HB.o id;have Nn:=aA (K8 b m n s1 s2 z s3 r T w4 hB4);go_simp;refine(Nn.o).mono ?_;rintro en5 w5 ⟨rfl,k5⟩;have hbw:=dI hl2 hb1;have hs4:=PW.size;have UL:=(HR3.o).below PW;have hK4:=(hK3.o).more PW hal;have hE4:=((HE3.o).keep kp4 (fun _ _ _=>id)).stood hB4 hT1 s1 s2 s3;have hkS:Kp (fun q=>q=b) w4 (((w4.setCell (aC b 0) (ak s1)).setCell (aC b 1) (ak s2)).setCell (aC b 2) (.bool s3)):=On.set (On.set (On.set (Kp.refl _ w4) 0 _) 1 _) 2 _;have hss:=k5.size;have hzz:(((w4.setCell (aC b 0) (ak s1)).setCell (aC b 1) (ak s2)).setCell (aC b 2) (.bool s3)).heap.size=w4.heap.size:=by simp[World.setCell]
 have hRS:=UL.on hkS hB4 zm au au (fun hd=>by have:=(nP.o) _ hd;omega);have hKS:=((hK4.set hal hbw 0 (ak s1)).set hal hbw 1 (ak s2)).set hal hbw 2 (.bool s3);have HFin:Hid (je w5 w.heap.size w5.heap.size (.iface ty (aH b)) e∧dR w5 D rb ab ps (i+pz [p])∧Kq D rb ab w w5):=⟨((hE4.keep (Kp.aN k5 (fun _=>False)) (fun _ _ _=>id)).wide hl2 au),hRS.below k5,hKS.more k5 hal⟩;obtain⟨v5,hb5,-⟩:=(HFin.o).2.1.blk;have r5:=cell_of_row w5 _ 0 _ _ _ hb5;dsimp only;refine hK.o _ _ (fun _=>r5) (fun _=>iF ?_);clear hK K hb5 r5 hKS hRS hkS hE4 hK4 UL k5 PW kp4 r4 Nn hB4 hss hzz hna hmt HB HE3 HR3 aB0 hK3;go_wp2_with fail
 go_ret;exact⟨_,rfl,HFin⟩
end
theorem iH(l:List Part):l.length≤eT l:=by
 induction l with
 | nil=>exact ax _
 | cons p l ih=>show l.length+1≤jh p+eT l;have:=jA p;omega
theorem gX(l:List Part)(p:Part)(h:p∈l):jh p≤eT l:=by
 induction l with
 | nil=>cases h
 | cons q l ih =>
  show _≤jh q+eT l;rcases fJ.1 h with e|e
  ·rw[e];omega
  ·have:=ih e;omega
theorem mq(k:Nat)(l:List Part):jh (.br k l)=1+eT l:=rfl
theorem nK:∀(n:Nat) (p:Part),jh p≤n→jh p≤268435456→pI p
 | 0,p,h,_=>by have:=jA p;omega
 | n+1,p,h,hM=>WC p (by
  intro e i D ab a4 a5 a6 w hr hp hk hg hd hi hD;cases hr with
  | missing=>exact Fe D ab a4 a5 a6 i w hp hk hg hd hi hD
  | lit k t x l qs _ hk2 ht =>
   rw[mq] at h hM;have:=iH l;rw[iw] at hi ⊢;exact Te D ab a4 a5 a6 l qs k t x i w hp hk hg hd hk2 ht au hi hD
  | var x l qs _ ht =>
   rw[mq] at h hM;have:=iH l;rw[iw] at hi ⊢;exact Td D ab a4 a5 a6 l qs x i w hp hk hg hd ht au hi hD
  | hole t x l qs _ ht =>
   rw[mq] at h hM;have:=iH l;rw[iw] at hi ⊢;exact OW D ab a4 a5 a6 l qs t x _ i w hp hk hg hd ht au hi hD
  | kH t1 m t2 t3 p1 p2 _ nm e1 e2 h1 hn h2 hv h3 hb =>
   rw[mq] at h hM;have hl:=iH (t1++(m++(t2++([p1]++(t3++[p2])))));have q1:=gX (t1++(m++(t2++([p1]++(t3++[p2]))))) p1 aT;have q2:=gX (t1++(m++(t2++([p1]++(t3++[p2]))))) p2 aT;rw[iw] at hi ⊢;exact S_ D ab a4 a5 a6 t1 m t2 t3 p1 p2 nm e1 e2 i w hp hk hg hd h1 hn h2 hv h3 hb (nK n p1 au au) (nK n p2 au au) au hi hD
  | ite l _ a b c hx =>
   rw[mq] at h hM;have hl:=iH l;rw[iw] at hi ⊢;exact Tf D ab a4 a5 a6 l a b c i w hp hk hg hd hx (fun q hq=>nK n q (by have:=gX l q hq;omega) (by have:=gX l q hq;omega)) au hi hD
  | fn t1 qs t2 p _ ns e h1 hn h2 hb =>
   rw[mq] at h hM;have hl:=iH (t1++([Part.br 6 qs]++(t2++[p])));have q1:=gX (t1++([Part.br 6 qs]++(t2++[p]))) p aT;have q2:=gX (t1++([Part.br 6 qs]++(t2++[p]))) (.br 6 qs) aT;rw[mq] at q2;have hq:=iH qs;rw[iw] at hi ⊢;exact Ta D ab a4 a5 a6 t1 qs t2 p ns e i w hp hk hg hd h1 hn h2 hb (nK n p au au) au au hi hD
  | bin p1 p2 t qs k x _ e1 e2 hl' ht hr2 =>
   rw[mq] at h hM;have hl:=iH ([p1]++(t++[p2]));have q1:=gX ([p1]++(t++[p2])) p1 aT;have q2:=gX ([p1]++(t++[p2])) p2 aT;rw[iw] at hi ⊢;exact Tc D ab a4 a5 a6 p1 p2 t qs k x e1 e2 i w hp hk hg hd hl' ht hr2 (nK n p1 au au) (nK n p2 au au) au hi hD
  | call p gs _ e es hc ha =>
   rw[mq] at h hM;have q1:=gX ([p]++[Part.br 12 gs]) p aT;have q2:=gX ([p]++[Part.br 12 gs]) (.br 12 gs) aT;rw[mq] at q2;have hq:=iH gs;rw[iw] at hi ⊢;exact OV D ab a4 a5 a6 p gs e es i w hp hk hg hd hc ha (nK n p au au) (fun q hq=>nK n q (by have:=gX gs q hq;omega) (by have:=gX gs q hq;omega)) au hi hD
  | list l _ es hx =>
   rw[mq] at h hM;have hl:=iH l;rw[iw] at hi ⊢;exact OX D ab a4 a5 a6 l es i w hp hk hg hd hx (fun q hq=>nK n q (by have:=gX l q hq;omega) (by have:=gX l q hq;omega)) au hi hD
  | group l _ e hx =>
   rw[mq] at h hM;have hl:=iH l;rw[iw] at hi ⊢;exact KY D ab a4 a5 a6 l e i w hp hk hg hd hx (fun q hq=>nK n q (by have:=gX l q hq;omega) (by have:=gX l q hq;omega)) au hi hD)
section
open Tryz
variable{D:Nat→Prop}{rb ab:Nat}
namespace X
theorem MU{t qs:List Part}{p:Part}(h:OO t qs p):OO [p] [] p:=⟨rfl,fun q hq=>(by cases hq),h.ne,h.ln⟩
theorem Fh{t qs:List Part}{p:Part}(h:OO t qs p):pz t=pz qs+pz [p]:=by rw[h.eq,bZ]
theorem WE{s:ah}{t:List Part}(h:Gg s t):∃ qs p,OO t qs p∧((∃ k y,p=.leaf k y∧y≠s)∨nk p≠0)∧¬(∃ k,p=.leaf k s):=by
 rcases h with ⟨k,x,qs,h1,h2⟩|⟨m,rfl⟩
 ·exact⟨qs,_,h1.BN,.inl ⟨k,x,rfl,h2⟩,fun⟨k',e⟩=>by cases e;exact h2 rfl⟩
 ·exact⟨[],.miss m,⟨rfl,fun q hq=>(by cases hq),rfl,rfl⟩,.inr (by show(1:Nat)≠0;omega),fun⟨k',e⟩=>by cases e⟩
end X
structure Lf(w w':aG)(D:Nat→Prop)(rb ab:Nat)(t:List Part)(ps:List Part)(j:Nat):Prop where
 ex:∃ t' q' p' i',OO t' q' p'∧dR w' D rb ab (t'++ps) i'∧i'+pz t'=j∧t'.length≤t.length
 kp:Kq D rb ab w w'
theorem MV(D:Nat→Prop)(rb ab:Nat)(s:ah)(t ps:List Part)(i:Nat)(w:aG)(h:dR w D rb ab (t++ps) i)(ht:Gg s t)(hi:i+pz (t++ps)≤1073741824)(hpl:(t++ps).length≤1073741824)(hDl:∀ q,D q→q<w.heap.size) :
  bB 76 #[aH rb,.string (ba s)] w (cK (.bool false) fun w'=>Hid (Lf w w' D rb ab t ps (i+pz t))):=by
 obtain⟨qs,p,h1,h2,h3⟩:=WE ht;refine(Ie D rb ab t qs p ps i s w h h1 (.inr h2) hi hpl hDl).mono ?_;rintro e w' ⟨-,H⟩;obtain⟨rfl,X1⟩:=H h3;refine⟨rfl,⟨[p],[],p,i+pz qs,MU h1,(X1.o).1,by rw[Fh h1];omega,?_⟩,(X1.o).2⟩;rw[h1.eq,ay];exact Nat.le_add_left _ _
theorem Im(D:Nat→Prop)(rb ab:Nat)(k:Nat)(s:ah)(t qs ps:List Part)(i:Nat)(w:aG)(h:dR w D rb ab (t++ps) i)(ht:vH t k s qs)(hi:i+pz (t++ps)≤1073741824)(hpl:(t++ps).length≤1073741824)(hDl:∀ q,D q→q<w.heap.size) :
  bB 76 #[aH rb,.string (ba s)] w (cK (.bool true) fun w'=>Hid (dR w' D rb ab ps (i+pz t)∧Kq D rb ab w w')):=by
 refine(Ie D rb ab t qs _ ps i s w h ht.BN (.inl ⟨k,rfl⟩) hi hpl hDl).mono ?_;rintro e w' ⟨H,-⟩;exact H ⟨k,rfl⟩
theorem Io(D:Nat→Prop)(rb ab:Nat)(pb t ps:List Part)(pub:Bool)(i:Nat)(w:aG)(h:dR w D rb ab (pb++(t++ps)) i)(hp:PS pb pub)(ht:Gg jY t)(hi:i+pz (pb++(t++ps))≤1073741824)(hpl:(pb++(t++ps)).length≤1073741824)(hDl:∀ q,D q→q<w.heap.size) :
  bB 76 #[aH rb,.string (ba jY)] w (cK (.bool pub) fun w'=>Hid (Lf w w' D rb ab t ps (i+pz pb+pz t))):=by
 cases hp with
 | yes _ k qs h1 =>
  refine(Im D rb ab k jY pb qs (t++ps) i w h h1 hi hpl hDl).aX fun w' X1=>?_;obtain⟨qs',p',h2⟩:=ht.y_.BN;exact⟨rfl,⟨t,qs',p',i+pz pb,h2,(X1.o).1,rfl,ax _⟩,(X1.o).2⟩
 | no =>
  exact MV D rb ab jY t ps i w h ht hi hpl hDl
theorem Lf.pass{w w':aG}{t ps:List Part}{j:Nat}(h:Lf w w' D rb ab t ps j)(hj:j+pz ps≤1073741824)(hpl:(t++ps).length≤1073741824)(hDl:∀ q,D q→q<w'.heap.size) :
  bB 77 #[aH rb] w' fun e w''=>∃ a1 a2 a3 a4 a5 a6,e=.returned (.agg #[ak a1,ak a2,.string a3,.slice a4 a5 a6])∧Hid (dR w'' D rb ab ps j∧Kq D rb ab w' w''):=by
 obtain⟨t',q',p',i',x1,x2,x3,x4⟩:=h.ex;refine(iN D rb ab t' q' p' ps i' w' x2 x1 (by rw[bZ];omega) (by rw[ay] at *;omega) hDl).mono ?_;rintro e w'' ⟨a4,a5,a6,rfl,X1⟩;rw[x3] at X1;exact⟨_,_,_,a4,a5,a6,rfl,X1⟩
structure aB1(w:aG)(D:Nat→Prop)(rb ab:Nat)(ps qs:List Part)(i:Nat)(w2:aG)(kv:Value):Prop where
 inn:dR (w2.alloc (.cells #[aH ab,kv] 119)) D w2.heap.size ab qs i
 o:∀(w3:aG) (l:List Part) (k:Nat),dR w3 D w2.heap.size ab l k→Kq D w2.heap.size ab (w2.alloc (.cells #[aH ab,kv] 119)) w3→dR w3 D rb ab ps k∧Kq D rb ab w w3
 le:w.heap.size≤w2.heap.size
 dl:∀ q,D q→q<(w2.alloc (.cells #[aH ab,kv] 119)).heap.size
 sz:(w2.alloc (.cells #[aH ab,kv] 119)).heap.size=w2.heap.size+1
 BQ:Below w2.heap.size w2 (w2.alloc (.cells #[aH ab,kv] 119))
theorem MW{w w2:aG}{ps qs:List Part}{i:Nat}{kv:Value}(h:qL w2 D kv qs∧dR w2 D rb ab ps i∧Kq D rb ab w w2)(hq:Gd qs)(hDl:∀ q,D q→q<w.heap.size):aB1 w D rb ab ps qs i w2 kv:=by
 obtain⟨h1,h2,h3⟩:=h;have hd:∀ q,D q→q<w2.heap.size:=fun q hq=>aJ (hDl q hq) h3.size
 obtain⟨a,b⟩:=MQ h2 h1 hq hd;refine⟨a,fun w3 l k x y=>?_,h3.size,fun q hq=>by have:=hd q hq;simp;omega,aT,(aB _ w2).alloc (ax _) _⟩;obtain⟨c,d⟩:=b w3 l k x y;exact⟨c,h3.trans d⟩
end
end Go.Proofs.YtoohcklcppnafaaGreatDoor
