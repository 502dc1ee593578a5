/- Package syntax: a use. -/
import Derived.Test.YtbmebfgapjhchaaGreatDoorVq
namespace Go.Proofs.YtbmebfgapjhchaaGreatDoor
open Go.RowKit
open M
structure Bx (W0 W:World) (D:Nat→Prop) (kb ab:Nat) (ps:List X.Part) (i b:Nat) (vs:Array Value) (ty:TypeId):Prop where
 rw:IsRw W D kb ab ps i
 kp:Kq D kb ab W0 W
 bl:W.heap[b]?=some (.cells vs ty (0,0))
 nb:W0.heap.size≤b
 l1:kb<W0.heap.size
 l2:ab<W0.heap.size
 dl:∀ q,D q→q<W0.heap.size
 tn:ty≠3
theorem Bx.go {W0 W W':World} {D:Nat→Prop} {kb ab:Nat} {ps ps':List X.Part} {i i' b:Nat} {vs:Array Value} {ty:TypeId} (h:Bx W0 W D kb ab ps i b vs ty) (hr:IsRw W' D kb ab ps' i') (hk:Kq D kb ab W W'):Bx W0 W' D kb ab ps' i' b vs ty :=
 ⟨hr,h.kp.trans hk,hk.made h.l1 h.l2 h.nb h.bl h.tn,h.nb,h.l1,h.l2,h.dl,h.tn⟩
theorem set_cells {W:World} {b:Nat} {vs:Array Value} {ty:TypeId} (h:W.heap[b]?=some (.cells vs ty (0,0))) (k:Nat) (v:Value):(W.setCell ⟨b,k,none⟩ v).heap[b]?=some (.cells (vs.setIfInBounds k v) ty (0,0)):=by simp [World.setCell,Array.getElem?_modify,h]
theorem Bx.put {W0 W:World} {D:Nat→Prop} {kb ab:Nat} {ps:List X.Part} {i b:Nat} {vs:Array Value} {ty:TypeId} (h:Bx W0 W D kb ab ps i b vs ty) (k:Nat) (v:Value):Bx W0 (W.setCell ⟨b,k,none⟩ v) D kb ab ps i b (vs.setIfInBounds k v) ty:=by
 have hk:Kp (fun q=>q=b) W (W.setCell ⟨b,k,none⟩ v):=On.set (Kp.refl _ W) k _
 have h1:=h.l1
 have h2:=h.l2
 have h3:=h.nb
 exact ⟨h.rw.on hk h.bl h.tn (by omega) (by omega) (fun hd=>by have:=h.dl _ hd;omega),h.kp.set h2 h3 k v,set_cells h.bl k v,h3,h1,h2,h.dl,h.tn⟩
theorem Bx.dn {W0 W:World} {D:Nat→Prop} {kb ab:Nat} {ps:List X.Part} {i b:Nat} {vs:Array Value} {ty:TypeId} (h:Bx W0 W D kb ab ps i b vs ty):∀ q,D q→q<W.heap.size:=fun q hq=>Nat.lt_of_lt_of_le (h.dl q hq) h.kp.size
theorem asp_or {ap:List X.Part} {i:Nat} {gs:Bool} {a:X.Nm} (h:X.Asp ap i gs a):(∃ t n k qs,ap=t++n∧gs=true∧X.Tk1 t k X.sAs qs∧X.Nmp n (i+X.pz t) a)∨(ap=[]∧gs=false∧a=([],0)):=by
 cases h with
 | yes t n k qs _ _ h1 h2=>exact .inl ⟨t,n,k,qs,rfl,rfl,h1,h2⟩
 | no=>exact .inr ⟨rfl,rfl,rfl⟩
inductive IsIt (w:World) (lo hi:Nat):Value→X.It→Prop
 | use (b:Nat) (pub gs:Bool) (m n a:X.Nm) (hb:lo≤b∧b<hi) (h:w.heap[b]?=some (.cells #[.bool pub,.string (ba m.1),.int .i64 m.2,.string (ba n.1),.int .i64 n.2,.bool gs,.string (ba a.1),.int .i64 a.2] 177 (0,0))):IsIt w lo hi (.iface 124 (.pointer (some ⟨b,0,none⟩))) (.use pub m n gs a)
 | dfn {fr tt:Int} (b:Nat) (pub:Bool) (n:X.Nm) (pv:Value) (ps:Option (List X.Nm)) (v:Value) (e:X.Ex) (hb:lo≤b∧b<hi) (h:w.heap[b]?=some (.cells #[.bool pub,.string (ba n.1),.int .i64 n.2,pv,v,.int .i64 fr,.int .i64 tt] 182 (0,0)))
   (hp:(ps=none∧pv=.pointer none)∨∃ ns pb,ps=some ns∧pv=.pointer (some ⟨pb,0,none⟩)∧IsPar w lo hi pb ns) (he:IsE w lo hi v e):IsIt w lo hi (.iface 126 (.pointer (some ⟨b,0,none⟩))) (.dfn pub n ps e)
set_option maxRecDepth 100000 in
set_option maxHeartbeats 4000000 in
theorem wuse_any (D:Nat→Prop) (rb ab:Nat) (pb t1 n1 t2 n2 ap t3:List X.Part) (pub gs:Bool) (m n a:X.Nm) (ps:List X.Part) (i:Nat) (w:World) (h:IsRw w D rb ab (.br 3 (pb++(t1++(n1++(t2++(n2++(ap++t3))))))::ps) i)
  (hp:X.Pbp pb pub) (h1:X.Tkn X.sPub t1) (hm:X.Nmp n1 (i+X.pz pb+X.pz t1) m) (h2:X.Tkp t2) (hn:X.Nmp n2 (i+X.pz pb+X.pz t1+X.pz n1+X.pz t2) n) (ha:X.Asp ap (i+X.pz pb+X.pz t1+X.pz n1+X.pz t2+X.pz n2) gs a) (h3:X.Tkn X.sAs t3)
  (hi:i+X.pz (pb++(t1++(n1++(t2++(n2++(ap++t3))))))≤1073741824) (hpl:(pb++(t1++(n1++(t2++(n2++(ap++t3)))))).length≤1073741824) (hDl:∀ q,D q→q<w.heap.size) :
  Calls Tryz.prog 46 #[.pointer (some ⟨rb,0,none⟩)] w fun e w'=>∃ b,e=.returned (.pointer (some ⟨b,0,none⟩))∧Hid (IsIt w' w.heap.size w'.heap.size (.iface 124 (.pointer (some ⟨b,0,none⟩))) (.use pub m n gs a)∧IsRw w' D rb ab ps (i+X.pz (pb++(t1++(n1++(t2++(n2++(ap++t3)))))))∧Kq D rb ab w w'):=by
 have hgq:=hide h.byt.br.2
 obtain ⟨q2,r2,hT2⟩:=h2.tk0
 have hz:X.pz (pb++(t1++(n1++(t2++(n2++(ap++t3))))))=X.pz pb+(X.pz t1+(X.pz n1+(X.pz t2+(X.pz n2+(X.pz ap+X.pz t3))))):=by rw [X.pz_app,X.pz_app,X.pz_app,X.pz_app,X.pz_app,X.pz_app]
 have HEn:=hide (wenter_any D rb ab _ ps i w h (by show i+0≤_;omega) hDl)
 have HDl:=hide hDl
 have HP:=hide hp
 have HM:=hide hm
 have HN:=hide hn
 have HA:=hide ha
 have H1:=hide h1
 have H3:=hide h3
 have hi':=hi
 have hpl':=hpl
 rw [hz] at hi
 simp only [List.length_append] at hpl
 clear h h1 h2 h3 hDl hn hm hp ha
 go_enter Tryz.func46,Tryz.ntmps46
 go_wp2_with fail
 refine (HEn.out).mono ?_
 rintro en w2 ⟨a4,a5,a6,rfl,X2⟩
 have HT:Hid (EntO w D rb ab ps _ i w2 (.slice a4 a5 a6)):=ento_of (X2.out) hgq.out HDl.out
 clear HEn X2
 have HC1:=hide (wpub_any D w2.heap.size ab pb t1 _ pub i _ (HT.out).inn HP.out H1.out hi' hpl' (HT.out).dl)
 clear hi' hpl'
 go_wp2_with fail
 refine (HC1.out).mono ?_
 rintro en w3 ⟨rfl,X3⟩
 have kA:Below w3.heap.size w3 (w3.alloc (.cells #[.bool pub,.string ⟨#[]⟩,.int .i64 0,.string ⟨#[]⟩,.int .i64 0,.bool false,.string ⟨#[]⟩,.int .i64 0] 177)):=(Below.refl _ w3).alloc (Nat.le_refl _) _
 have kA':Kq D w2.heap.size ab w3 (w3.alloc (.cells #[.bool pub,.string ⟨#[]⟩,.int .i64 0,.string ⟨#[]⟩,.int .i64 0,.bool false,.string ⟨#[]⟩,.int .i64 0] 177)):=Kq.ofBelow kA (Nat.lt_of_lt_of_le (HT.out).inn.lt.2 (X3.out).kp.size)
 have hL:Lf (w2.alloc (.cells #[.pointer (some ⟨ab,0,none⟩),.slice a4 a5 a6] 123)) (w3.alloc (.cells #[.bool pub,.string ⟨#[]⟩,.int .i64 0,.string ⟨#[]⟩,.int .i64 0,.bool false,.string ⟨#[]⟩,.int .i64 0] 177)) D w2.heap.size ab t1 (n1++(t2++(n2++(ap++t3)))) (i+X.pz pb+X.pz t1):=by
  obtain ⟨t',q',p',i',x1,x2,x3,x4⟩:=(X3.out).ex
  exact ⟨⟨t',q',p',i',x1,x2.below kA,x3,x4⟩,(X3.out).kp.trans kA'⟩
 have hnw:=(HT.out).inn.lt
 have hs3:=(X3.out).kp.size
 have HC4:=hide (hL.pass (by simp only [X.pz_app];omega) (by simp only [List.length_append];omega) (fun q hq=>Nat.lt_of_lt_of_le ((HT.out).dl q hq) hL.kp.size))
 have HBx:Hid (∀ W' ps' i',IsRw W' D w2.heap.size ab ps' i'→Kq D w2.heap.size ab (w3.alloc (.cells #[.bool pub,.string ⟨#[]⟩,.int .i64 0,.string ⟨#[]⟩,.int .i64 0,.bool false,.string ⟨#[]⟩,.int .i64 0] 177)) W'→Bx (w2.alloc (.cells #[.pointer (some ⟨ab,0,none⟩),.slice a4 a5 a6] 123)) W' D w2.heap.size ab ps' i' w3.heap.size #[.bool pub,.string ⟨#[]⟩,.int .i64 0,.string ⟨#[]⟩,.int .i64 0,.bool false,.string ⟨#[]⟩,.int .i64 0] 177):=fun W' ps' i' hr' hk' =>
  ⟨hr',hL.kp.trans hk',hk'.made hnw.1 hnw.2 hs3 (heap_alloc_new w3 _) (by decide),hs3,hnw.1,hnw.2,(HT.out).dl,by decide⟩
 clear HC1 kA kA' hL X3
 go_wp2_with fail
 generalize w3.alloc (.cells #[.bool pub,.string ⟨#[]⟩,.int .i64 0,.string ⟨#[]⟩,.int .i64 0,.bool false,.string ⟨#[]⟩,.int .i64 0] 177)=W3 at *
 generalize w3.heap.size=b at *
 refine (HC4.out).mono ?_
 rintro en w4 ⟨_,_,_,_,_,_,rfl,X4⟩
 have B4:=hide ((HBx.out) _ _ _ (X4.out).1 (X4.out).2)
 clear HC4 HBx X4
 have HC5:=hide (wname_any D w2.heap.size ab n1 m _ _ w4 (B4.out).rw HM.out (by simp only [X.pz_app];omega) (by simp only [List.length_append];omega) (B4.out).dn)
 go_wp2_with fail
 refine (HC5.out).mono ?_
 rintro en w5 ⟨rfl,X5⟩
 have B5:=hide ((B4.out).go (X5.out).1 (X5.out).2)
 clear HC5 X5 B4
 have hb5:=(B5.out).bl
 have c5:=cell_of_row w5 _ 1 _ _ _ hb5
 have d5:=cell_of_row w5 _ 2 _ _ _ hb5
 have f5:w5.frozen? ⟨b,1,none⟩=false:=by simp [World.frozen?,hb5]
 have g5:w5.frozen? ⟨b,2,none⟩=false:=by simp [World.frozen?,hb5]
 have N5:Hid (Bx (w2.alloc (.cells #[.pointer (some ⟨ab,0,none⟩),.slice a4 a5 a6] 123)) ((w5.setCell ⟨b,1,none⟩ (.string (ba m.1))).setCell ⟨b,2,none⟩ (.int .i64 m.2)) D w2.heap.size ab _ _ b #[.bool pub,.string (ba m.1),.int .i64 m.2,.string ⟨#[]⟩,.int .i64 0,.bool false,.string ⟨#[]⟩,.int .i64 0] 177):=((B5.out).put 1 (.string (ba m.1))).put 2 (.int .i64 m.2)
 clear hb5 B5
 go_wp2_with fail
 clear c5 d5 f5 g5
 generalize (w5.setCell ⟨b,1,none⟩ (.string (ba m.1))).setCell ⟨b,2,none⟩ (.int .i64 m.2)=W5 at *
 have HC6:=hide (wpass_any D w2.heap.size ab t2 q2 r2 _ _ W5 (N5.out).rw hT2 (by simp only [X.pz_app];omega) (by simp only [List.length_append];omega) (N5.out).dn)
 refine (HC6.out).mono ?_
 rintro en w6 ⟨_,_,_,rfl,X6⟩
 have B6:=hide ((N5.out).go (X6.out).1 (X6.out).2)
 clear HC6 X6 N5
 have HC7:=hide (wname_any D w2.heap.size ab n2 n _ _ w6 (B6.out).rw HN.out (by simp only [X.pz_app];omega) (by simp only [List.length_append];omega) (B6.out).dn)
 go_wp2_with fail
 refine (HC7.out).mono ?_
 rintro en w7 ⟨rfl,X7⟩
 have B7:=hide ((B6.out).go (X7.out).1 (X7.out).2)
 clear HC7 X7 B6
 have hb7:=(B7.out).bl
 have c7:=cell_of_row w7 _ 3 _ _ _ hb7
 have d7:=cell_of_row w7 _ 4 _ _ _ hb7
 have f7:w7.frozen? ⟨b,3,none⟩=false:=by simp [World.frozen?,hb7]
 have g7:w7.frozen? ⟨b,4,none⟩=false:=by simp [World.frozen?,hb7]
 have N7:Hid (Bx (w2.alloc (.cells #[.pointer (some ⟨ab,0,none⟩),.slice a4 a5 a6] 123)) ((w7.setCell ⟨b,3,none⟩ (.string (ba n.1))).setCell ⟨b,4,none⟩ (.int .i64 n.2)) D w2.heap.size ab _ _ b #[.bool pub,.string (ba m.1),.int .i64 m.2,.string (ba n.1),.int .i64 n.2,.bool false,.string ⟨#[]⟩,.int .i64 0] 177):=((B7.out).put 3 (.string (ba n.1))).put 4 (.int .i64 n.2)
 clear hb7 B7
 go_wp2_with fail
 clear c7 d7 f7 g7
 generalize (w7.setCell ⟨b,3,none⟩ (.string (ba n.1))).setCell ⟨b,4,none⟩ (.int .i64 n.2)=W7 at *
 have ha:=asp_or HA.out
 clear HA
 rcases ha with ⟨t,n',k,qs',eap,egs,hT,hn'⟩|⟨eap,egs,ea⟩
 ·obtain ⟨q3,r3,hT3⟩:=(H3.out).tkp.tk0
  have hr7:=(N7.out).rw
  have hpa:X.pz ap=X.pz t+X.pz n':=by rw [eap,X.pz_app]
  have hla:ap.length=t.length+n'.length:=by rw [eap,List.length_append]
  rw [eap,List.append_assoc] at hr7
  have HC8:=hide (whas_yes D w2.heap.size ab k X.sAs t qs' (n'++t3) _ W7 hr7 hT (by simp only [X.pz_app];omega) (by simp only [List.length_append];omega) (N7.out).dn)
  have HN':=hide hn'
  clear hr7 hn'
  refine (HC8.out).mono ?_
  rintro en w8 ⟨rfl,X8⟩
  have B8:=hide ((N7.out).go (X8.out).1 (X8.out).2)
  clear HC8 X8 N7
  have hb8:=(B8.out).bl
  have c8:=cell_of_row w8 _ 5 _ _ _ hb8
  have f8:w8.frozen? ⟨b,5,none⟩=false:=by simp [World.frozen?,hb8]
  have N8:Hid (Bx (w2.alloc (.cells #[.pointer (some ⟨ab,0,none⟩),.slice a4 a5 a6] 123)) (w8.setCell ⟨b,5,none⟩ (.bool true)) D w2.heap.size ab _ _ b #[.bool pub,.string (ba m.1),.int .i64 m.2,.string (ba n.1),.int .i64 n.2,.bool true,.string ⟨#[]⟩,.int .i64 0] 177):=(B8.out).put 5 (.bool true)
  have k8:(w8.setCell ⟨b,5,none⟩ (.bool true)).cell? ⟨b,5,none⟩=some (.bool true):=cell_of_row _ _ 5 _ _ _ (N8.out).bl
  clear hb8 B8
  have HC9:=hide (wname_any D w2.heap.size ab n' a _ _ _ (N8.out).rw HN'.out (by simp only [X.pz_app];omega) (by simp only [List.length_append];omega) (N8.out).dn)
  go_wp2_with fail
  clear c8 f8 k8
  generalize w8.setCell ⟨b,5,none⟩ (.bool true)=W8 at *
  refine (HC9.out).mono ?_
  rintro en w9 ⟨rfl,X9⟩
  have B9:=hide ((N8.out).go (X9.out).1 (X9.out).2)
  clear HC9 X9 N8
  have hb9:=(B9.out).bl
  have c9:=cell_of_row w9 _ 6 _ _ _ hb9
  have d9:=cell_of_row w9 _ 7 _ _ _ hb9
  have f9:w9.frozen? ⟨b,6,none⟩=false:=by simp [World.frozen?,hb9]
  have g9:w9.frozen? ⟨b,7,none⟩=false:=by simp [World.frozen?,hb9]
  have N9:Hid (Bx (w2.alloc (.cells #[.pointer (some ⟨ab,0,none⟩),.slice a4 a5 a6] 123)) ((w9.setCell ⟨b,6,none⟩ (.string (ba a.1))).setCell ⟨b,7,none⟩ (.int .i64 a.2)) D w2.heap.size ab _ _ b #[.bool pub,.string (ba m.1),.int .i64 m.2,.string (ba n.1),.int .i64 n.2,.bool true,.string (ba a.1),.int .i64 a.2] 177):=((B9.out).put 6 (.string (ba a.1))).put 7 (.int .i64 a.2)
  clear hb9 B9
  go_wp2_with fail
  clear c9 d9 f9 g9
  generalize (w9.setCell ⟨b,6,none⟩ (.string (ba a.1))).setCell ⟨b,7,none⟩ (.int .i64 a.2)=W9 at *
  have hr9:=(N9.out).rw
  rw [← List.append_nil t3] at hr9
  have HC10:=hide (wpass_any D w2.heap.size ab t3 q3 r3 [] _ W9 hr9 hT3 (by rw [List.append_nil];omega) (by rw [List.append_nil];omega) (N9.out).dn)
  clear hr9
  refine (HC10.out).mono ?_
  rintro en w10 ⟨_,_,_,rfl,X10⟩
  have B10:=hide ((N9.out).go (X10.out).1 (X10.out).2)
  clear HC10 X10 N9
  have HFin:Hid (IsIt w10 w.heap.size w10.heap.size (.iface 124 (.pointer (some ⟨b,0,none⟩))) (.use pub m n gs a)∧IsRw w10 D rb ab ps (i+X.pz (pb++(t1++(n1++(t2++(n2++(ap++t3)))))))∧Kq D rb ab w w10):=by
   obtain ⟨z1,z2⟩:=(HT.out).out w10 [] _ (B10.out).rw (B10.out).kp
   have hle:=(HT.out).le
   have hsz:=(HT.out).sz
   have hnb:=(B10.out).nb
   rw [hz]
   rw [egs]
   refine ⟨.use b pub _ m n _ ⟨by omega,heap_lt (B10.out).bl⟩ (B10.out).bl,?_,z2⟩
   rw [show i+(X.pz pb+(X.pz t1+(X.pz n1+(X.pz t2+(X.pz n2+(X.pz ap+X.pz t3))))))=i+X.pz pb+X.pz t1+X.pz n1+X.pz t2+X.pz n2+X.pz t+X.pz n'+X.pz t3 by omega]
   exact z1
  go_wp2_with fail
  go_ret
  exact ⟨b,rfl,HFin⟩
 ·have hr7:=(N7.out).rw
  have hpa:X.pz ap=0:=by rw [eap];rfl
  have hla:ap.length=0:=by rw [eap];rfl
  rw [eap,List.nil_append,← List.append_nil t3] at hr7
  have HC8:=hide (whas_no D w2.heap.size ab X.sAs t3 [] _ W7 hr7 H3.out (by rw [List.append_nil];omega) (by rw [List.append_nil];omega) (N7.out).dn)
  clear hr7
  refine (HC8.out).mono ?_
  rintro en w8 ⟨rfl,X8⟩
  obtain ⟨t',q',p',i',x1,x2,x3,x4⟩:=(X8.out).ex
  have B8:=hide ((N7.out).go x2 (X8.out).kp)
  clear HC8 X8 N7 x2
  have hb8:=(B8.out).bl
  have c8:=cell_of_row w8 _ 5 _ _ _ hb8
  have f8:w8.frozen? ⟨b,5,none⟩=false:=by simp [World.frozen?,hb8]
  have N8:Hid (Bx (w2.alloc (.cells #[.pointer (some ⟨ab,0,none⟩),.slice a4 a5 a6] 123)) (w8.setCell ⟨b,5,none⟩ (.bool false)) D w2.heap.size ab _ _ b #[.bool pub,.string (ba m.1),.int .i64 m.2,.string (ba n.1),.int .i64 n.2,.bool false,.string ⟨#[]⟩,.int .i64 0] 177):=(B8.out).put 5 (.bool false)
  have k8:(w8.setCell ⟨b,5,none⟩ (.bool false)).cell? ⟨b,5,none⟩=some (.bool false):=cell_of_row _ _ 5 _ _ _ (N8.out).bl
  clear hb8 B8
  have HC9:=hide (wpass_any D w2.heap.size ab t' q' p' [] _ _ (N8.out).rw x1 (by rw [List.append_nil];omega) (by rw [List.append_nil];omega) (N8.out).dn)
  clear x1
  go_wp2_with fail
  clear c8 f8 k8
  generalize w8.setCell ⟨b,5,none⟩ (.bool false)=W8 at *
  refine (HC9.out).mono ?_
  rintro en w9 ⟨_,_,_,rfl,X9⟩
  have B9:=hide ((N8.out).go (X9.out).1 (X9.out).2)
  clear HC9 X9 N8
  have HFin:Hid (IsIt w9 w.heap.size w9.heap.size (.iface 124 (.pointer (some ⟨b,0,none⟩))) (.use pub m n gs a)∧IsRw w9 D rb ab ps (i+X.pz (pb++(t1++(n1++(t2++(n2++(ap++t3)))))))∧Kq D rb ab w w9):=by
   obtain ⟨z1,z2⟩:=(HT.out).out w9 [] _ (B9.out).rw (B9.out).kp
   have hle:=(HT.out).le
   have hsz:=(HT.out).sz
   have hnb:=(B9.out).nb
   rw [hz]
   rw [egs,ea]
   refine ⟨.use b pub _ m n _ ⟨by omega,heap_lt (B9.out).bl⟩ (B9.out).bl,?_,z2⟩
   rw [show i+(X.pz pb+(X.pz t1+(X.pz n1+(X.pz t2+(X.pz n2+(X.pz ap+X.pz t3))))))=i'+X.pz t' by omega]
   exact z1
  go_wp2_with fail
  go_ret
  exact ⟨b,rfl,HFin⟩
end Go.Proofs.YtbmebfgapjhchaaGreatDoor
/- Package syntax: a def. -/
namespace Go.Proofs.YtbmebfgapjhchaaGreatDoor
open Go.RowKit
open M
def IsPv (w:World) (lo hi:Nat) (pv:Value) (ps:Option (List X.Nm)):Prop:=(ps=none∧pv=.pointer none)∨∃ ns pb,ps=some ns∧pv=.pointer (some ⟨pb,0,none⟩)∧IsPar w lo hi pb ns
theorem IsPv.keep {S:Nat→Prop} {w w':World} {lo hi:Nat} {pv:Value} {ps:Option (List X.Nm)} (h:IsPv w lo hi pv ps) (hk:Kp S w w') (hS:∀ i,lo≤i→i<hi→¬ S i):IsPv w' lo hi pv ps:=by
 rcases h with h|⟨ns,pb,h1,h2,h3⟩
 ·exact .inl h
 ·exact .inr ⟨ns,pb,h1,h2,h3.keep hk hS⟩
theorem IsPv.keepq {D:Nat→Prop} {rb ab:Nat} {w w':World} {lo hi:Nat} {pv:Value} {ps:Option (List X.Nm)} (h:IsPv w lo hi pv ps) (hk:Kq D rb ab w w') (h1:rb<lo) (h2:ab<lo):IsPv w' lo hi pv ps:=by
 rcases h with h|⟨ns,pb,a,b,c⟩
 ·exact .inl h
 ·exact .inr ⟨ns,pb,a,b,c.keepq hk h1 h2⟩
theorem IsPv.wide {w:World} {lo hi lo' hi':Nat} {pv:Value} {ps:Option (List X.Nm)} (h:IsPv w lo hi pv ps) (h1:lo'≤lo) (h2:hi≤hi'):IsPv w lo' hi' pv ps:=by
 rcases h with h|⟨ns,pb,a,b,c⟩
 ·exact .inl h
 ·exact .inr ⟨ns,pb,a,b,c.wide h1 h2⟩
theorem prp_or {pr:List X.Part} {i:Nat} {ps:Option (List X.Nm)} (h:X.Prp pr i ps):(∃ qs ns,pr=[.br 6 qs]∧ps=some ns∧X.Nms qs i ns)∨(pr=[]∧ps=none):=by
 cases h with
 | yes qs _ ns h=>exact .inl ⟨qs,ns,rfl,rfl,h⟩
 | no=>exact .inr ⟨rfl,rfl⟩
theorem tkp_kind {t:List X.Part} (h:X.Tkp t):∃ qs p,X.Tk0 t qs p∧((X.nk p:Int)==6)=false:=by
 rcases h with ⟨k,x,qs,h⟩|⟨m,rfl⟩
 ·exact ⟨qs,_,h.tk0,rfl⟩
 ·exact ⟨[],.miss m,⟨rfl,fun q hq=>(by cases hq),rfl,rfl⟩,rfl⟩
theorem pub_more {pb t:List X.Part} {pub:Bool} (hp:X.Pbp pb pub) (ht:X.Tkn X.sPub t) (ps:List X.Part):∃ pb' t',X.Pbp pb' pub∧X.Tkn X.sPub t'∧(pb++(t++ps)).dropWhile X.lq=pb'++(t'++ps)∧X.pz ((pb++(t++ps)).takeWhile X.lq)+X.pz pb'+X.pz t'=X.pz pb+X.pz t∧pb'.length≤pb.length∧t'.length≤t.length:=by
 cases hp with
 | yes _ k qs h1 =>
  have hd:=h1.tk0.drop (t++ps)
  have hl:pb.length=qs.length+1:=by rw [h1.eq,List.length_append];rfl
  exact ⟨[.leaf k X.sPub],t,.yes _ k [] ⟨rfl,fun q hq=>(by cases hq),h1.ne⟩,ht,hd.1,by rw [hd.2,X.tk0_pz h1.tk0],by rw [hl];show 1≤_;omega,Nat.le_refl _⟩
 | no =>
  rcases ht with ⟨k,x,qs,h1,h2⟩|⟨m,rfl⟩
  ·have hd:=h1.tk0.drop ps
   have hl:t.length=qs.length+1:=by rw [h1.eq,List.length_append];rfl
   exact ⟨[],[.leaf k x],.no,.inl ⟨k,x,[],⟨rfl,fun q hq=>(by cases hq),h1.ne⟩,h2⟩,hd.1,by rw [List.nil_append,hd.2,X.tk0_pz h1.tk0];show _+0+_=0+_;omega,Nat.le_refl _,by rw [hl];show 1≤_;omega⟩
  ·exact ⟨[],[.miss m],.no,.inr ⟨m,rfl⟩,rfl,rfl,Nat.le_refl _,Nat.le_refl _⟩
set_option maxRecDepth 100000 in
set_option maxHeartbeats 4000000 in
theorem wdef_any (D:Nat→Prop) (rb ab:Nat) (pb t1 n1 pr t2 t3:List X.Part) (p:X.Part) (pub:Bool) (n:X.Nm) (pso:Option (List X.Nm)) (e:X.Ex) (ps:List X.Part) (i:Nat) (w:World) (h:IsRw w D rb ab (.br 4 (pb++(t1++(n1++(pr++(t2++([p]++t3))))))::ps) i)
  (hp:X.Pbp pb pub) (h1:X.Tkn X.sPub t1) (hn:X.Nmp n1 (i+X.pz pb+X.pz t1) n) (hr:X.Prp pr (i+X.pz pb+X.pz t1+X.pz n1) pso) (h2:X.Tkp t2) (he:X.Rd p (i+X.pz pb+X.pz t1+X.pz n1+X.pz pr+X.pz t2) e) (h3:X.Tkp t3) (HEx:ExOk p) (hql:∀ qs,pr=[.br 6 qs]→qs.length≤268435456)
  (hi:i+X.pz (pb++(t1++(n1++(pr++(t2++([p]++t3))))))≤1073741824) (hpl:(pb++(t1++(n1++(pr++(t2++([p]++t3)))))).length≤1073741824) (hDl:∀ q,D q→q<w.heap.size) :
  Calls Tryz.prog 47 #[.pointer (some ⟨rb,0,none⟩)] w fun en w'=>∃ b,en=.returned (.pointer (some ⟨b,0,none⟩))∧Hid (IsIt w' w.heap.size w'.heap.size (.iface 126 (.pointer (some ⟨b,0,none⟩))) (.dfn pub n pso e)∧IsRw w' D rb ab ps (i+X.pz (pb++(t1++(n1++(pr++(t2++([p]++t3)))))))∧Kq D rb ab w w'):=by
 obtain ⟨q2,r2,hT2,hk2⟩:=tkp_kind h2
 obtain ⟨q3,r3,hT3⟩:=h3.tk0
 have hz:X.pz (pb++(t1++(n1++(pr++(t2++([p]++t3))))))=X.pz pb+(X.pz t1+(X.pz n1+(X.pz pr+(X.pz t2+(X.pz [p]+X.pz t3))))):=by rw [X.pz_app,X.pz_app,X.pz_app,X.pz_app,X.pz_app,X.pz_app]
 have hl1:[p].length=1:=rfl
 have HEn:=hide (wenter_any D rb ab _ ps i w h (by show i+0≤_;omega) hDl)
 have HDl:=hide hDl
 have hgq:=hide h.byt.br.2
 have hlw:=h.lt
 have HP:=hide hp
 have HN:=hide hn
 have HR:=hide hr
 have HV:=hide he
 have H1:=hide h1
 have hi':=hi
 have hpl':=hpl
 rw [hz] at hi
 simp only [List.length_append] at hpl
 clear h h1 h2 h3 hDl hn hp hr he
 go_enter Tryz.func47,Tryz.ntmps47
 go_wp2_with fail
 refine (HEn.out).mono ?_
 rintro en w2 ⟨a4,a5,a6,rfl,X2⟩
 have HT:Hid (EntO w D rb ab ps (pb++(t1++(n1++(pr++(t2++([p]++t3)))))) i w2 (.slice a4 a5 a6)):=ento_of (X2.out) hgq.out HDl.out
 clear HEn X2
 have HM0:=hide (wmore_any D w2.heap.size ab _ i _ (HT.out).inn hi' hpl' (HT.out).dl)
 clear hi' hpl'
 obtain ⟨pb2,t1b,hP2,hT1b,hdrop,hpz2,hlp2,hlt2⟩:=pub_more HP.out H1.out (n1++(pr++(t2++([p]++t3))))
 rw [hdrop] at HM0
 have HP2:=hide hP2
 have HT1:=hide hT1b
 have hnw:=(HT.out).inn.lt
 clear hP2 hT1b HP H1 hdrop
 generalize hj0:i+X.pz ((pb++(t1++(n1++(pr++(t2++([p]++t3)))))).takeWhile X.lq)=j0 at HM0
 have hjs:j0+X.pz pb2+X.pz t1b=i+X.pz pb+X.pz t1:=by omega
 clear hj0 hpz2
 go_wp2_with fail
 refine (HM0.out).mono ?_
 rintro en w25 ⟨rfl,X25⟩
 have hro:=(HT.out).out w25 _ _ (X25.out).1 (X25.out).2
 obtain ⟨vo,hbo,-⟩:=hro.1.blk
 have ro:=cell_of_row w25 _ 0 _ _ _ hbo
 obtain ⟨bv2,bl2,en2,gp2,hps2,-⟩:=hro.1.psd.ex
 have po:=cell_of_row w25 _ 0 _ _ _ hps2
 have hs25:=(X25.out).2.size
 have kA:Below w25.heap.size w25 (w25.alloc (.cells #[.bool false,.string ⟨#[]⟩,.int .i64 0,.pointer none,.nilIface,.int .i64 j0,.int .i64 0] 182)):=(Below.refl _ w25).alloc (Nat.le_refl _) _
 have B25:Hid (Bx (w2.alloc (.cells #[.pointer (some ⟨ab,0,none⟩),.slice a4 a5 a6] 123)) (w25.alloc (.cells #[.bool false,.string ⟨#[]⟩,.int .i64 0,.pointer none,.nilIface,.int .i64 j0,.int .i64 0] 182)) D w2.heap.size ab (pb2++(t1b++(n1++(pr++(t2++([p]++t3)))))) j0 w25.heap.size #[.bool false,.string ⟨#[]⟩,.int .i64 0,.pointer none,.nilIface,.int .i64 j0,.int .i64 0] 182):=⟨(X25.out).1.below kA,(X25.out).2.more kA hnw.2,heap_alloc_new w25 _,hs25,hnw.1,hnw.2,(HT.out).dl,by decide⟩
 have HC1:=hide (wpub_any D w2.heap.size ab pb2 t1b _ pub j0 _ (B25.out).rw HP2.out HT1.out (by simp only [X.pz_app];omega) (by simp only [List.length_append];omega) (B25.out).dn)
 clear hro hbo hps2 kA X25 HM0
 go_wp2_with fail
 clear ro po
 generalize w25.alloc (.cells #[.bool false,.string ⟨#[]⟩,.int .i64 0,.pointer none,.nilIface,.int .i64 j0,.int .i64 0] 182)=W25 at *
 generalize w25.heap.size=b at *
 refine (HC1.out).mono ?_
 rintro en w3 ⟨rfl,X3⟩
 obtain ⟨t',q',p',i',x1,x2,x3,x4⟩:=(X3.out).ex
 have B3:=hide ((B25.out).go x2 (X3.out).kp)
 have hb3:=(B3.out).bl
 have c3:=cell_of_row w3 _ 0 _ _ _ hb3
 have f3:w3.frozen? ⟨b,0,none⟩=false:=by simp [World.frozen?,hb3]
 have N3:Hid (Bx (w2.alloc (.cells #[.pointer (some ⟨ab,0,none⟩),.slice a4 a5 a6] 123)) (w3.setCell ⟨b,0,none⟩ (.bool pub)) D w2.heap.size ab _ _ b #[.bool pub,.string ⟨#[]⟩,.int .i64 0,.pointer none,.nilIface,.int .i64 j0,.int .i64 0] 182):=(B3.out).put 0 (.bool pub)
 have HC4:=hide (wpass_any D w2.heap.size ab t' q' p' (n1++(pr++(t2++([p]++t3)))) i' _ (N3.out).rw x1 (by simp only [X.pz_app];omega) (by simp only [List.length_append];omega) (N3.out).dn)
 rw [x3,hjs] at HC4
 clear hb3 B3 x2 X3 HC1 B25
 go_wp2_with fail
 clear c3 f3
 generalize w3.setCell ⟨b,0,none⟩ (.bool pub)=W3 at *
 refine (HC4.out).mono ?_
 rintro en w4 ⟨_,_,_,rfl,X4⟩
 have B4:=hide ((N3.out).go (X4.out).1 (X4.out).2)
 clear HC4 X4 N3
 have HC5:=hide (wname_any D w2.heap.size ab n1 n _ _ w4 (B4.out).rw HN.out (by simp only [X.pz_app];omega) (by simp only [List.length_append];omega) (B4.out).dn)
 go_wp2_with fail
 refine (HC5.out).mono ?_
 rintro en w5 ⟨rfl,X5⟩
 have B5:=hide ((B4.out).go (X5.out).1 (X5.out).2)
 clear HC5 X5 B4
 have hb5:=(B5.out).bl
 have c5:=cell_of_row w5 _ 1 _ _ _ hb5
 have d5:=cell_of_row w5 _ 2 _ _ _ hb5
 have f5:w5.frozen? ⟨b,1,none⟩=false:=by simp [World.frozen?,hb5]
 have g5:w5.frozen? ⟨b,2,none⟩=false:=by simp [World.frozen?,hb5]
 have N5:Hid (Bx (w2.alloc (.cells #[.pointer (some ⟨ab,0,none⟩),.slice a4 a5 a6] 123)) ((w5.setCell ⟨b,1,none⟩ (.string (ba n.1))).setCell ⟨b,2,none⟩ (.int .i64 n.2)) D w2.heap.size ab _ _ b #[.bool pub,.string (ba n.1),.int .i64 n.2,.pointer none,.nilIface,.int .i64 j0,.int .i64 0] 182):=((B5.out).put 1 (.string (ba n.1))).put 2 (.int .i64 n.2)
 clear hb5 B5
 go_wp2_with fail
 clear c5 d5 f5 g5
 generalize (w5.setCell ⟨b,1,none⟩ (.string (ba n.1))).setCell ⟨b,2,none⟩ (.int .i64 n.2)=W5 at *
 have HC6:=hide (wmore_any D w2.heap.size ab _ _ W5 (N5.out).rw (by simp only [X.pz_app];omega) (by simp only [List.length_append];omega) (N5.out).dn)
 have hpr:=prp_or HR.out
 clear HR
 rcases hpr with ⟨qs,ns,epr,eso,hns⟩|⟨epr,eso⟩
 ·refine (HC6.out).mono ?_
  rintro en w6 ⟨hen,X6⟩
  have hdw:(pr++(t2++([p]++t3))).dropWhile X.lq=X.Part.br 6 qs::(t2++([p]++t3))∧(pr++(t2++([p]++t3))).takeWhile X.lq=[]:=by rw [epr];exact X.drop_quiet (qs:=[]) (fun q hq=>(by cases hq)) rfl
  rw [hdw.1,hdw.2] at X6
  rw [hdw.1,show decide (X.Part.br 6 qs::(t2++([p]++t3))≠[])=true by simp] at hen
  subst hen
  have B6:=hide ((N5.out).go (X6.out).1 (X6.out).2)
  obtain ⟨v0,hb0,hn0⟩:=(X6.out).1.blk
  have c1:=cell_of_row w6 _ 1 _ _ _ hb0
  obtain ⟨g,o,cap,kv,rfl,hD,y0,y1,y2,y3,hkk,-,hc1,hc2,-,-⟩:=hn0.head
  have y0':w6.cell? ⟨g,o,none⟩=some (.int .i64 6):=y0
  have hi1:(0:Int)<((((t2++([p]++t3))).length+1:Nat):Int):=by omega
  have hi2:0<((t2++([p]++t3))).length+1:=by omega
  clear HC6 X6 N5 hb0 hn0 hkk y0 y1 y2 y3 hdw
  have hns':X.Nms qs (i+X.pz pb+X.pz t1+X.pz n1+X.pz []) ns:=by rw [X.pz_nil,Nat.add_zero];exact hns
  have hzq:X.pz pr=X.pz qs:=by rw [epr,X.pz_br]
  have hz0:X.pz []=0:=rfl
  have hq0:=hql qs epr
  have hq1:=nms_len hns
  have HC7:=hide (wparams_any D w2.heap.size ab qs ns _ _ w6 (B6.out).rw hns' (by omega) hq0 (by omega) (B6.out).dn)
  clear hns hns'
  have hb6:=heap_lt (B6.out).bl
  go_wp2_with fail
  refine (HC7.out).mono ?_
  rintro en w7 ⟨qb,rfl,X7⟩
  have B7:=hide ((B6.out).go (X7.out).2.1 (X7.out).2.2)
  have hs7:=(X7.out).2.2.size
  have hb7:=(B7.out).bl
  have c7:=cell_of_row w7 _ 3 _ _ _ hb7
  have f7:w7.frozen? ⟨b,3,none⟩=false:=by simp [World.frozen?,hb7]
  have B9:Hid (Bx (w2.alloc (.cells #[.pointer (some ⟨ab,0,none⟩),.slice a4 a5 a6] 123)) (w7.setCell ⟨b,3,none⟩ (.pointer (some ⟨qb,0,none⟩))) D w2.heap.size ab _ _ b #[.bool pub,.string (ba n.1),.int .i64 n.2,.pointer (some ⟨qb,0,none⟩),.nilIface,.int .i64 j0,.int .i64 0] 182):=(B7.out).put 3 (.pointer (some ⟨qb,0,none⟩))
  have hk7:Kp (fun q=>q=b) w7 (w7.setCell ⟨b,3,none⟩ (.pointer (some ⟨qb,0,none⟩))):=On.set (Kp.refl _ w7) 3 _
  have P9:Hid (IsPv (w7.setCell ⟨b,3,none⟩ (.pointer (some ⟨qb,0,none⟩))) w6.heap.size w7.heap.size (.pointer (some ⟨qb,0,none⟩)) pso):=.inr ⟨ns,qb,eso,rfl,(X7.out).1.keep hk7 (fun q l1 l2 e=>by omega)⟩
  have hs9:=hk7.size
  have hj:i+X.pz pb+X.pz t1+X.pz n1+X.pz []+X.pz qs+X.pz t2=(i+X.pz pb+X.pz t1+X.pz n1+X.pz pr+X.pz t2):=by omega
  clear HC7 X7 B6 B7 hb7 hk7 c1 y0' hD hi1 hi2
  have hbW:=heap_lt (B9.out).bl
  have HC10:=hide (wpass_any D w2.heap.size ab t2 q2 r2 ([p]++t3) _ _ (B9.out).rw hT2 (by simp only [X.pz_app];omega) (by simp only [List.length_append];omega) (B9.out).dn)
  go_wp2_with fail
  clear c7 f7
  generalize w7.setCell ⟨b,3,none⟩ (.pointer (some ⟨qb,0,none⟩))=W7 at *
  refine (HC10.out).mono ?_
  rintro en w10 ⟨_,_,_,rfl,X10⟩
  rw [hj] at X10
  have B10:=hide ((B9.out).go (X10.out).1 (X10.out).2)
  have P10:=hide ((P9.out).keepq (X10.out).2 (by omega) (by omega))
  have hs10:=(X10.out).2.size
  clear HC10 X10 B9 P9
  have HC11:=hide (HEx e (i+X.pz pb+X.pz t1+X.pz n1+X.pz pr+X.pz t2) D w2.heap.size ab t3 w10 HV.out (B10.out).rw (by omega) (B10.out).dn)
  go_wp2_with fail
  refine (HC11.out).mono ?_
  rintro en w11 ⟨v,rfl,X11⟩
  obtain ⟨y1,g1,hv1⟩:=(X11.out).1.iface
  subst hv1
  have B11:=hide ((B10.out).go (X11.out).2.1 (X11.out).2.2)
  have hs11:=(X11.out).2.2.size
  have hb11:=(B11.out).bl
  have c11:=cell_of_row w11 _ 4 _ _ _ hb11
  have f11:w11.frozen? ⟨b,4,none⟩=false:=by simp [World.frozen?,hb11]
  have N11:Hid (Bx (w2.alloc (.cells #[.pointer (some ⟨ab,0,none⟩),.slice a4 a5 a6] 123)) (w11.setCell ⟨b,4,none⟩ (.iface y1 (.pointer (some ⟨g1,0,none⟩)))) D w2.heap.size ab _ _ b #[.bool pub,.string (ba n.1),.int .i64 n.2,.pointer (some ⟨qb,0,none⟩),.iface y1 (.pointer (some ⟨g1,0,none⟩)),.int .i64 j0,.int .i64 0] 182):=(B11.out).put 4 (.iface y1 (.pointer (some ⟨g1,0,none⟩)))
  have hk11:Kp (fun q=>q=b) w11 (w11.setCell ⟨b,4,none⟩ (.iface y1 (.pointer (some ⟨g1,0,none⟩)))):=On.set (Kp.refl _ w11) 4 _
  have E11:=hide ((X11.out).1.keep hk11 (fun q l1 l2 e=>by omega))
  have P11:=hide (((P10.out).keepq (X11.out).2.2 (by omega) (by omega)).keep hk11 (fun q l1 l2 e=>by omega))
  have hs12:=hk11.size
  clear HC11 X11 B10 B11 hb11 hk11 P10
  go_wp2_with fail
  clear c11 f11
  generalize w11.setCell ⟨b,4,none⟩ (.iface y1 (.pointer (some ⟨g1,0,none⟩)))=W11 at *
  have hr11:=(N11.out).rw
  rw [← List.append_nil t3] at hr11
  have HC12:=hide (wpass_any D w2.heap.size ab t3 q3 r3 [] _ W11 hr11 hT3 (by rw [List.append_nil];omega) (by rw [List.append_nil];omega) (N11.out).dn)
  clear hr11
  refine (HC12.out).mono ?_
  rintro en w12 ⟨_,_,_,rfl,X12⟩
  have B12:=hide ((N11.out).go (X12.out).1 (X12.out).2)
  have hro:=(HT.out).out w12 [] _ (B12.out).rw (B12.out).kp
  obtain ⟨vo,hbo,-⟩:=hro.1.blk
  have ro:=cell_of_row w12 _ 0 _ _ _ hbo
  obtain ⟨bv2,bl2,en2,gp2,hps2,-⟩:=hro.1.psd.ex
  have po:=cell_of_row w12 _ 0 _ _ _ hps2
  have hb12:=(B12.out).bl
  have c12:=cell_of_row w12 _ 6 _ _ _ hb12
  have f12:w12.frozen? ⟨b,6,none⟩=false:=by simp [World.frozen?,hb12]
  have HFin:Hid (∀ zz:Int,IsIt (w12.setCell ⟨b,6,none⟩ (.int .i64 zz)) w.heap.size (w12.setCell ⟨b,6,none⟩ (.int .i64 zz)).heap.size (.iface 126 (.pointer (some ⟨b,0,none⟩))) (.dfn pub n pso e)∧IsRw (w12.setCell ⟨b,6,none⟩ (.int .i64 zz)) D rb ab ps (i+X.pz (pb++(t1++(n1++(pr++(t2++([p]++t3)))))))∧Kq D rb ab w (w12.setCell ⟨b,6,none⟩ (.int .i64 zz))):=fun zz=>by
   have hle:=(HT.out).le
   have hsz:=(HT.out).sz
   have hnb:=(B12.out).nb
   have hs13:=(X12.out).2.size
   have E12:=(E11.out).keepq (X12.out).2 (by omega) (by omega)
   have P12:=(P11.out).keepq (X12.out).2 (by omega) (by omega)
   have hk13:Kp (fun q=>q=b) w12 (w12.setCell ⟨b,6,none⟩ (.int .i64 zz)):=On.set (Kp.refl _ w12) 6 _
   have hb13:=set_cells hb12 6 (.int .i64 zz)
   have hz13:(w12.setCell ⟨b,6,none⟩ (.int .i64 zz)).heap.size=w12.heap.size:=by simp [World.setCell]
   have hbl:=heap_lt hb12
   have hal:=hlw.2
   rw [hz,hz13]
   refine ⟨.dfn b pub n _ pso _ e ⟨by omega,hbl⟩ hb13 ((P12.keep hk13 (fun q l1 l2 e=>by omega)).wide (by omega) (by omega)) ((E12.keep hk13 (fun q l1 l2 e=>by omega)).wide (by omega) (by omega)),?_,hro.2.set hal (by omega) 6 _⟩
   rw [show i+(X.pz pb+(X.pz t1+(X.pz n1+(X.pz pr+(X.pz t2+(X.pz [p]+X.pz t3))))))=(i+X.pz pb+X.pz t1+X.pz n1+X.pz pr+X.pz t2)+X.pz [p]+X.pz t3 by omega]
   exact hro.1.on hk13 hb12 (by decide) (by omega) (by omega) (fun hd=>by have:=(HDl.out) _ hd;omega)
  clear HC12 X12 N11 E11 P11 B12 hro hbo hps2 hb12
  go_wp2_with fail
  go_ret
  exact ⟨b,rfl,(HFin.out) _⟩
 ·refine (HC6.out).mono ?_
  rintro en w6 ⟨hen,X6⟩
  have hdw:(pr++(t2++([p]++t3))).dropWhile X.lq=r2::([p]++t3)∧(pr++(t2++([p]++t3))).takeWhile X.lq=q2:=by rw [epr];exact hT2.drop _
  rw [hdw.1,hdw.2] at X6
  rw [hdw.1,show decide (r2::([p]++t3)≠[])=true by simp] at hen
  subst hen
  have B6:=hide ((N5.out).go (X6.out).1 (X6.out).2)
  obtain ⟨v0,hb0,hn0⟩:=(X6.out).1.blk
  have c1:=cell_of_row w6 _ 1 _ _ _ hb0
  obtain ⟨g,o,cap,kv,rfl,hD,y0,y1,y2,y3,hkk,-,hc1,hc2,-,-⟩:=hn0.head
  have y0':w6.cell? ⟨g,o,none⟩=some (.int .i64 (X.nk r2:Int)):=y0
  have hi1:(0:Int)<(((([p]++t3)).length+1:Nat):Int):=by omega
  have hi2:0<(([p]++t3)).length+1:=by omega
  clear HC6 X6 N5 hb0 hn0 hkk y0 y1 y2 y3 hdw
  have hzq:X.pz pr=0:=by rw [epr];rfl
  have hz2:=X.tk0_pz hT2
  have hl2:t2.length=q2.length+1:=by rw [hT2.eq,List.length_append];rfl
  have hl3:[r2].length=1:=rfl
  have hj:i+X.pz pb+X.pz t1+X.pz n1+X.pz q2+X.pz [r2]=(i+X.pz pb+X.pz t1+X.pz n1+X.pz pr+X.pz t2):=by omega
  have B9:Hid (Bx (w2.alloc (.cells #[.pointer (some ⟨ab,0,none⟩),.slice a4 a5 a6] 123)) w6 D w2.heap.size ab ([r2]++([p]++t3)) _ b #[.bool pub,.string (ba n.1),.int .i64 n.2,.pointer none,.nilIface,.int .i64 j0,.int .i64 0] 182):=B6.out
  have P9:Hid (IsPv w6 (b+1) (b+1) (.pointer none) pso):=.inl ⟨eso,rfl⟩
  have hTr:=X.tk0_one hT2
  clear B6
  have hbW:=heap_lt (B9.out).bl
  have HC10:=hide (wpass_any D w2.heap.size ab [r2] [] r2 ([p]++t3) _ _ (B9.out).rw hTr (by simp only [X.pz_app];omega) (by simp only [List.length_append];omega) (B9.out).dn)
  go_wp2_with fail
  clear c1 y0' hD hi1 hi2
  refine (HC10.out).mono ?_
  rintro en w10 ⟨_,_,_,rfl,X10⟩
  rw [hj] at X10
  have B10:=hide ((B9.out).go (X10.out).1 (X10.out).2)
  have P10:=hide ((P9.out).keepq (X10.out).2 (by omega) (by omega))
  have hs10:=(X10.out).2.size
  clear HC10 X10 B9 P9
  have HC11:=hide (HEx e (i+X.pz pb+X.pz t1+X.pz n1+X.pz pr+X.pz t2) D w2.heap.size ab t3 w10 HV.out (B10.out).rw (by omega) (B10.out).dn)
  go_wp2_with fail
  refine (HC11.out).mono ?_
  rintro en w11 ⟨v,rfl,X11⟩
  obtain ⟨y1,g1,hv1⟩:=(X11.out).1.iface
  subst hv1
  have B11:=hide ((B10.out).go (X11.out).2.1 (X11.out).2.2)
  have hs11:=(X11.out).2.2.size
  have hb11:=(B11.out).bl
  have c11:=cell_of_row w11 _ 4 _ _ _ hb11
  have f11:w11.frozen? ⟨b,4,none⟩=false:=by simp [World.frozen?,hb11]
  have N11:Hid (Bx (w2.alloc (.cells #[.pointer (some ⟨ab,0,none⟩),.slice a4 a5 a6] 123)) (w11.setCell ⟨b,4,none⟩ (.iface y1 (.pointer (some ⟨g1,0,none⟩)))) D w2.heap.size ab _ _ b #[.bool pub,.string (ba n.1),.int .i64 n.2,.pointer none,.iface y1 (.pointer (some ⟨g1,0,none⟩)),.int .i64 j0,.int .i64 0] 182):=(B11.out).put 4 (.iface y1 (.pointer (some ⟨g1,0,none⟩)))
  have hk11:Kp (fun q=>q=b) w11 (w11.setCell ⟨b,4,none⟩ (.iface y1 (.pointer (some ⟨g1,0,none⟩)))):=On.set (Kp.refl _ w11) 4 _
  have E11:=hide ((X11.out).1.keep hk11 (fun q l1 l2 e=>by omega))
  have P11:=hide (((P10.out).keepq (X11.out).2.2 (by omega) (by omega)).keep hk11 (fun q l1 l2 e=>by omega))
  have hs12:=hk11.size
  clear HC11 X11 B10 B11 hb11 hk11 P10
  go_wp2_with fail
  clear c11 f11
  generalize w11.setCell ⟨b,4,none⟩ (.iface y1 (.pointer (some ⟨g1,0,none⟩)))=W11 at *
  have hr11:=(N11.out).rw
  rw [← List.append_nil t3] at hr11
  have HC12:=hide (wpass_any D w2.heap.size ab t3 q3 r3 [] _ W11 hr11 hT3 (by rw [List.append_nil];omega) (by rw [List.append_nil];omega) (N11.out).dn)
  clear hr11
  refine (HC12.out).mono ?_
  rintro en w12 ⟨_,_,_,rfl,X12⟩
  have B12:=hide ((N11.out).go (X12.out).1 (X12.out).2)
  have hro:=(HT.out).out w12 [] _ (B12.out).rw (B12.out).kp
  obtain ⟨vo,hbo,-⟩:=hro.1.blk
  have ro:=cell_of_row w12 _ 0 _ _ _ hbo
  obtain ⟨bv2,bl2,en2,gp2,hps2,-⟩:=hro.1.psd.ex
  have po:=cell_of_row w12 _ 0 _ _ _ hps2
  have hb12:=(B12.out).bl
  have c12:=cell_of_row w12 _ 6 _ _ _ hb12
  have f12:w12.frozen? ⟨b,6,none⟩=false:=by simp [World.frozen?,hb12]
  have HFin:Hid (∀ zz:Int,IsIt (w12.setCell ⟨b,6,none⟩ (.int .i64 zz)) w.heap.size (w12.setCell ⟨b,6,none⟩ (.int .i64 zz)).heap.size (.iface 126 (.pointer (some ⟨b,0,none⟩))) (.dfn pub n pso e)∧IsRw (w12.setCell ⟨b,6,none⟩ (.int .i64 zz)) D rb ab ps (i+X.pz (pb++(t1++(n1++(pr++(t2++([p]++t3)))))))∧Kq D rb ab w (w12.setCell ⟨b,6,none⟩ (.int .i64 zz))):=fun zz=>by
   have hle:=(HT.out).le
   have hsz:=(HT.out).sz
   have hnb:=(B12.out).nb
   have hs13:=(X12.out).2.size
   have E12:=(E11.out).keepq (X12.out).2 (by omega) (by omega)
   have P12:=(P11.out).keepq (X12.out).2 (by omega) (by omega)
   have hk13:Kp (fun q=>q=b) w12 (w12.setCell ⟨b,6,none⟩ (.int .i64 zz)):=On.set (Kp.refl _ w12) 6 _
   have hb13:=set_cells hb12 6 (.int .i64 zz)
   have hz13:(w12.setCell ⟨b,6,none⟩ (.int .i64 zz)).heap.size=w12.heap.size:=by simp [World.setCell]
   have hbl:=heap_lt hb12
   have hal:=hlw.2
   rw [hz,hz13]
   refine ⟨.dfn b pub n _ pso _ e ⟨by omega,hbl⟩ hb13 ((P12.keep hk13 (fun q l1 l2 e=>by omega)).wide (by omega) (by omega)) ((E12.keep hk13 (fun q l1 l2 e=>by omega)).wide (by omega) (by omega)),?_,hro.2.set hal (by omega) 6 _⟩
   rw [show i+(X.pz pb+(X.pz t1+(X.pz n1+(X.pz pr+(X.pz t2+(X.pz [p]+X.pz t3))))))=(i+X.pz pb+X.pz t1+X.pz n1+X.pz pr+X.pz t2)+X.pz [p]+X.pz t3 by omega]
   exact hro.1.on hk13 hb12 (by decide) (by omega) (by omega) (fun hd=>by have:=(HDl.out) _ hd;omega)
  clear HC12 X12 N11 E11 P11 B12 hro hbo hps2 hb12
  go_wp2_with fail
  go_ret
  exact ⟨b,rfl,(HFin.out) _⟩
end Go.Proofs.YtbmebfgapjhchaaGreatDoor
