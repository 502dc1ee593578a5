/- Package syntax: a let. -/
import Derived.Test.YtbmebfgapjhchaaGreatDoorVg
namespace Go.Proofs.YtbmebfgapjhchaaGreatDoor
open Go.RowKit
open M
set_option maxRecDepth 100000 in
set_option maxHeartbeats 4000000 in
theorem wlet_any (D:Nat→Prop) (kb ab:Nat) (t1 n t2 t3:List X.Part) (p1 p2:X.Part) (nm:X.Nm) (e1 e2:X.Ex) (i:Nat) (w:World) (h:IsRw w D kb ab (t1++(n++(t2++([p1]++(t3++[p2]))))) i) (h1:X.Tkp t1) (hn:X.Nmp n (i+X.pz t1) nm) (h2:X.Tkp t2) (hv:X.Rd p1 (i+X.pz t1+X.pz n+X.pz t2) e1) (h3:X.Tkp t3) (hb:X.Rd p2 (i+X.pz t1+X.pz n+X.pz t2+X.pz [p1]+X.pz t3) e2) (H1:ExOk p1) (H2:ExOk p2)
  (hi:i+X.pz (t1++(n++(t2++([p1]++(t3++[p2])))))≤1073741824) (hpl:(t1++(n++(t2++([p1]++(t3++[p2]))))).length≤1073741824) (hDl:∀ q,D q→q<w.heap.size) :
  Calls Tryz.prog 123 #[.pointer (some ⟨kb,0,none⟩)] w fun e w'=>∃ b,e=.returned (.pointer (some ⟨b,0,none⟩))∧Hid (IsE w' w.heap.size w'.heap.size (.iface 243 (.pointer (some ⟨b,0,none⟩))) (.lett nm e1 e2)∧IsRw w' D kb ab [] (i+X.pz (t1++(n++(t2++([p1]++(t3++[p2]))))))∧Kq D kb ab w w'):=by
 obtain ⟨hr,ha⟩:=h.lt
 obtain ⟨q1,r1,hT1⟩:=h1.tk0
 obtain ⟨q2,r2,hT2⟩:=h2.tk0
 obtain ⟨q3,r3,hT3⟩:=h3.tk0
 have hz:X.pz (t1++(n++(t2++([p1]++(t3++[p2])))))=X.pz t1+(X.pz n+(X.pz t2+(X.pz [p1]+(X.pz t3+X.pz [p2])))):=by rw [X.pz_app,X.pz_app,X.pz_app,X.pz_app,X.pz_app]
 have HC1:=hide (wpass_any D kb ab t1 q1 r1 _ i w h hT1 hi hpl hDl)
 have HDl:Hid (∀ W:World,w.heap.size≤W.heap.size→∀ q,D q→q<W.heap.size):=fun W hW q hq=>Nat.lt_of_lt_of_le (hDl q hq) hW
 have HN:=hide hn
 have HV:=hide hv
 have HB:=hide hb
 rw [hz] at hi
 simp only [List.length_append] at hpl
 clear h h1 h2 h3 hDl hn hv hb
 go_enter Tryz.func123,Tryz.ntmps123
 go_wp2_with fail
 refine (HC1.out).mono ?_
 rintro e w1 ⟨_,_,_,rfl,X1⟩
 have HC2:=hide (wname_any D kb ab n nm _ (i+X.pz t1) w1 (X1.out).1 HN.out (by simp only [X.pz_app];omega) (by simp only [List.length_append];omega) ((HDl.out) w1 (X1.out).2.size))
 clear HC1
 go_wp2_with fail
 refine (HC2.out).mono ?_
 rintro e w2 ⟨rfl,X2⟩
 have K2:Hid (Kq D kb ab w w2):=(X1.out).2.trans (X2.out).2
 have hs2:=(K2.out).size
 have kA:Below w2.heap.size w2 (w2.alloc (.cells #[.int .i64 0,.int .i64 0,.bool false,.string (ba nm.1),.int .i64 nm.2,.nilIface,.nilIface] 285)):=(Below.refl _ w2).alloc (Nat.le_refl _) _
 have hB3:Hid ((w2.alloc (.cells #[.int .i64 0,.int .i64 0,.bool false,.string (ba nm.1),.int .i64 nm.2,.nilIface,.nilIface] 285)).heap[w2.heap.size]?=some (.cells #[.int .i64 0,.int .i64 0,.bool false,.string (ba nm.1),.int .i64 nm.2,.nilIface,.nilIface] 285 (0,0))):=heap_alloc_new w2 _
 have K3:Hid (Kq D kb ab w (w2.alloc (.cells #[.int .i64 0,.int .i64 0,.bool false,.string (ba nm.1),.int .i64 nm.2,.nilIface,.nilIface] 285))):=(K2.out).more kA ha
 have HC3:=hide (wpass_any D kb ab t2 q2 r2 _ (i+X.pz t1+X.pz n) _ ((X2.out).1.below kA) hT2 (by simp only [X.pz_app];omega) (by simp only [List.length_append];omega) ((HDl.out) _ (K3.out).size))
 clear HC2 kA X1 X2 K2
 go_wp2_with fail
 generalize w2.alloc (.cells #[.int .i64 0,.int .i64 0,.bool false,.string (ba nm.1),.int .i64 nm.2,.nilIface,.nilIface] 285)=W3 at *
 generalize w2.heap.size=b at *
 refine (HC3.out).mono ?_
 rintro e w4 ⟨_,_,_,rfl,X4⟩
 have K4:Hid (Kq D kb ab w w4):=(K3.out).trans (X4.out).2
 have hB4:=hide ((X4.out).2.made hr ha hs2 hB3.out (by decide))
 have HC4:=hide (H1 e1 (i+X.pz t1+X.pz n+X.pz t2) D kb ab (t3++[p2]) w4 HV.out (X4.out).1 (by omega) ((HDl.out) _ (K4.out).size))
 clear HC3 X4 K3 hB3
 go_wp2_with fail
 refine (HC4.out).mono ?_
 rintro e w5 ⟨v1,rfl,X5⟩
 obtain ⟨y1,g1,hv1⟩:=(X5.out).1.iface
 subst hv1
 have K5:Hid (Kq D kb ab w w5):=(K4.out).trans (X5.out).2.2
 have hB5:=(X5.out).2.2.made hr ha hs2 hB4.out (by decide)
 have c2:=cell_of_row w5 _ 5 _ _ _ hB5
 have f2:w5.frozen? ⟨b,5,none⟩=false:=by simp [World.frozen?,hB5]
 have hbl4:b<w4.heap.size:=heap_lt hB4.out
 have HX5:Hid (IsE (w5.setCell ⟨b,5,none⟩ (.iface y1 (.pointer (some ⟨g1,0,none⟩)))) w4.heap.size w5.heap.size (.iface y1 (.pointer (some ⟨g1,0,none⟩))) e1∧IsRw (w5.setCell ⟨b,5,none⟩ (.iface y1 (.pointer (some ⟨g1,0,none⟩)))) D kb ab (t3++[p2]) (i+X.pz t1+X.pz n+X.pz t2+X.pz [p1])∧(w5.setCell ⟨b,5,none⟩ (.iface y1 (.pointer (some ⟨g1,0,none⟩)))).heap[b]?=some (.cells #[.int .i64 0,.int .i64 0,.bool false,.string (ba nm.1),.int .i64 nm.2,.iface y1 (.pointer (some ⟨g1,0,none⟩)),.nilIface] 285 (0,0))∧Kq D kb ab w (w5.setCell ⟨b,5,none⟩ (.iface y1 (.pointer (some ⟨g1,0,none⟩))))∧(w5.setCell ⟨b,5,none⟩ (.iface y1 (.pointer (some ⟨g1,0,none⟩)))).heap.size=w5.heap.size):=by
  have hk:Kp (fun q=>q=b) w5 (w5.setCell ⟨b,5,none⟩ (.iface y1 (.pointer (some ⟨g1,0,none⟩)))):=On.set (Kp.refl _ w5) 5 _
  refine ⟨(X5.out).1.keep hk (fun i h1 h2 e=>by omega),(X5.out).2.1.on hk hB5 (by decide) (by omega) (by omega) (fun hd=>?_),by simp [World.setCell,Array.getElem?_modify,hB5],(K5.out).set ha hs2 _ _,by simp [World.setCell]⟩
  have:=(HDl.out) w (Nat.le_refl _) _ hd
  omega
 have hs45:=(X5.out).2.2.size
 clear HC4 X5 K4 hB4 K5
 go_wp2_with fail
 generalize w5.setCell ⟨b,5,none⟩ (.iface y1 (.pointer (some ⟨g1,0,none⟩)))=W5 at *
 clear hB5 c2 f2
 have HC6:=hide (wpass_any D kb ab t3 q3 r3 [p2] (i+X.pz t1+X.pz n+X.pz t2+X.pz [p1]) W5 (HX5.out).2.1 hT3 (by simp only [X.pz_app];omega) (by simp only [List.length_append];omega) ((HDl.out) _ (HX5.out).2.2.2.1.size))
 refine (HC6.out).mono ?_
 rintro e w6 ⟨_,_,_,rfl,X6⟩
 have K6:Hid (Kq D kb ab w w6):=(HX5.out).2.2.2.1.trans (X6.out).2
 have hs46:w4.heap.size≤w5.heap.size:=hs45
 have hE6:=hide ((HX5.out).1.keepq (X6.out).2 (Nat.lt_of_lt_of_le hr (by have:=(HX5.out).2.2.2.1.size;omega)) (Nat.lt_of_lt_of_le ha (by have:=(HX5.out).2.2.2.1.size;omega)))
 have hB6:=hide ((X6.out).2.made hr ha hs2 (HX5.out).2.2.1 (by decide))
 have hs56:w5.heap.size≤w6.heap.size:=by have:=(X6.out).2.size;have:=(HX5.out).2.2.2.2;omega
 have HC7:=hide (H2 e2 (i+X.pz t1+X.pz n+X.pz t2+X.pz [p1]+X.pz t3) D kb ab [] w6 HB.out (X6.out).1 (by omega) ((HDl.out) _ (K6.out).size))
 clear HC6 X6 HX5
 go_wp2_with fail
 refine (HC7.out).mono ?_
 rintro e w7 ⟨v2,rfl,X7⟩
 obtain ⟨y2,g2,hv2⟩:=(X7.out).1.iface
 subst hv2
 have K7:Hid (Kq D kb ab w w7):=(K6.out).trans (X7.out).2.2
 have hB7:=(X7.out).2.2.made hr ha hs2 hB6.out (by decide)
 have c3:=cell_of_row w7 _ 6 _ _ _ hB7
 have f3:w7.frozen? ⟨b,6,none⟩=false:=by simp [World.frozen?,hB7]
 have HFin:Hid (IsE (w7.setCell ⟨b,6,none⟩ (.iface y2 (.pointer (some ⟨g2,0,none⟩)))) w.heap.size (w7.setCell ⟨b,6,none⟩ (.iface y2 (.pointer (some ⟨g2,0,none⟩)))).heap.size (.iface 243 (.pointer (some ⟨b,0,none⟩))) (.lett nm e1 e2)∧IsRw (w7.setCell ⟨b,6,none⟩ (.iface y2 (.pointer (some ⟨g2,0,none⟩)))) D kb ab [] (i+X.pz (t1++(n++(t2++([p1]++(t3++[p2]))))))∧Kq D kb ab w (w7.setCell ⟨b,6,none⟩ (.iface y2 (.pointer (some ⟨g2,0,none⟩))))):=by
  have hk:Kp (fun q=>q=b) w7 (w7.setCell ⟨b,6,none⟩ (.iface y2 (.pointer (some ⟨g2,0,none⟩)))):=On.set (Kp.refl _ w7) 6 _
  have hsz:(w7.setCell ⟨b,6,none⟩ (.iface y2 (.pointer (some ⟨g2,0,none⟩)))).heap.size=w7.heap.size:=by simp [World.setCell]
  have hs67:=(X7.out).2.2.size
  have hw4:w.heap.size≤w4.heap.size:=by omega
  have hE7:=(hE6.out).keepq (X7.out).2.2 (Nat.lt_of_lt_of_le hr hw4) (Nat.lt_of_lt_of_le ha hw4)
  rw [hsz,hz]
  refine ⟨.lett (m:=0) (n:=0) (z:=false) b nm _ _ e1 e2 ⟨hs2,by omega⟩ (by simp [World.setCell,Array.getElem?_modify,hB7]) ((hE7.keep hk (fun i h1 h2 e=>by omega)).wide hw4 (by omega)) (((X7.out).1.keep hk (fun i h1 h2 e=>by omega)).wide (by omega) (Nat.le_refl _)),?_,(K7.out).set ha hs2 _ _⟩
  have hR:=(X7.out).2.1.on hk hB7 (by decide) (by omega) (by omega) (fun hd=>by have:=(HDl.out) w (Nat.le_refl _) _ hd;omega)
  rw [show i+(X.pz t1+(X.pz n+(X.pz t2+(X.pz [p1]+(X.pz t3+X.pz [p2])))))=i+X.pz t1+X.pz n+X.pz t2+X.pz [p1]+X.pz t3+X.pz [p2] by omega]
  exact hR
 clear HC7 X7 K7 hB7 hE6 hB6 K6
 go_wp2_with fail
 go_ret
 exact ⟨b,rfl,HFin.out⟩
end Go.Proofs.YtbmebfgapjhchaaGreatDoor
/- Package syntax: a function,two with a sign between them. -/
namespace Go.Proofs.YtbmebfgapjhchaaGreatDoor
open Go.RowKit
open M
set_option maxRecDepth 100000 in
set_option maxHeartbeats 4000000 in
theorem wfun_any (D:Nat→Prop) (kb ab:Nat) (t1 qs t2:List X.Part) (p:X.Part) (ns:List X.Nm) (e:X.Ex) (i:Nat) (w:World) (h:IsRw w D kb ab (t1++([X.Part.br 6 qs]++(t2++[p]))) i) (h1:X.Tkp t1) (hn:X.Nms qs (i+X.pz t1) ns) (h2:X.Tkp t2) (hb:X.Rd p (i+X.pz t1+X.pz qs+X.pz t2) e) (H1:ExOk p)
  (hi:i+X.pz (t1++([X.Part.br 6 qs]++(t2++[p])))≤1073741824) (hpl:(t1++([X.Part.br 6 qs]++(t2++[p]))).length≤1073741824) (hql:qs.length≤268435456) (hnl:ns.length≤268435456) (hDl:∀ q,D q→q<w.heap.size) :
  Calls Tryz.prog 125 #[.pointer (some ⟨kb,0,none⟩)] w fun en w'=>∃ b,en=.returned (.pointer (some ⟨b,0,none⟩))∧Hid (IsE w' w.heap.size w'.heap.size (.iface 250 (.pointer (some ⟨b,0,none⟩))) (.fn ns e)∧IsRw w' D kb ab [] (i+X.pz (t1++([X.Part.br 6 qs]++(t2++[p]))))∧Kq D kb ab w w'):=by
 obtain ⟨hr,ha⟩:=h.lt
 obtain ⟨q1,r1,hT1⟩:=h1.tk0
 obtain ⟨q2,r2,hT2⟩:=h2.tk0
 have hz:X.pz (t1++([X.Part.br 6 qs]++(t2++[p])))=X.pz t1+(X.pz qs+(X.pz t2+X.pz [p])):=by rw [X.pz_app,X.pz_app,X.pz_app,X.pz_br]
 have HC1:=hide (wpass_any D kb ab t1 q1 r1 _ i w h hT1 hi hpl hDl)
 have HDl:Hid (∀ W:World,w.heap.size≤W.heap.size→∀ q,D q→q<W.heap.size):=fun W hW q hq=>Nat.lt_of_lt_of_le (hDl q hq) hW
 have HN:=hide hn
 have HB:=hide hb
 rw [hz] at hi
 simp only [List.length_append,List.length_singleton] at hpl
 clear h h1 h2 hDl hn hb
 go_enter Tryz.func125,Tryz.ntmps125
 go_wp2_with fail
 refine (HC1.out).mono ?_
 rintro en w1 ⟨_,_,_,rfl,X1⟩
 have HC2:=hide (wparams_any D kb ab qs ns (t2++[p]) (i+X.pz t1) w1 (X1.out).1 HN.out (by omega) hql hnl ((HDl.out) w1 (X1.out).2.size))
 clear HC1
 go_wp2_with fail
 refine (HC2.out).mono ?_
 rintro en w2 ⟨pb,rfl,X2⟩
 have K2:Hid (Kq D kb ab w w2):=(X1.out).2.trans (X2.out).2.2
 have hs2:=(K2.out).size
 have hs1:=(X1.out).2.size
 have kA:Below w2.heap.size w2 (w2.alloc (.cells #[.int .i64 0,.int .i64 0,.bool false,.pointer (some ⟨pb,0,none⟩),.nilIface] 281)):=(Below.refl _ w2).alloc (Nat.le_refl _) _
 have hB3:Hid ((w2.alloc (.cells #[.int .i64 0,.int .i64 0,.bool false,.pointer (some ⟨pb,0,none⟩),.nilIface] 281)).heap[w2.heap.size]?=some (.cells #[.int .i64 0,.int .i64 0,.bool false,.pointer (some ⟨pb,0,none⟩),.nilIface] 281 (0,0))):=heap_alloc_new w2 _
 have K3:Hid (Kq D kb ab w (w2.alloc (.cells #[.int .i64 0,.int .i64 0,.bool false,.pointer (some ⟨pb,0,none⟩),.nilIface] 281))):=(K2.out).more kA ha
 have hP3:Hid (IsPar (w2.alloc (.cells #[.int .i64 0,.int .i64 0,.bool false,.pointer (some ⟨pb,0,none⟩),.nilIface] 281)) w.heap.size w2.heap.size pb ns):=((X2.out).1.wide hs1 (Nat.le_refl _)).keep (Kp.ofBelow kA (fun _=>False)) (fun _ _ _=>id)
 have HC3:=hide (wpass_any D kb ab t2 q2 r2 [p] (i+X.pz t1+X.pz qs) _ ((X2.out).2.1.below kA) hT2 (by simp only [X.pz_app];omega) (by simp only [List.length_append,List.length_singleton];omega) ((HDl.out) _ (K3.out).size))
 clear HC2 kA X1 X2 K2
 go_wp2_with fail
 generalize w2.alloc (.cells #[.int .i64 0,.int .i64 0,.bool false,.pointer (some ⟨pb,0,none⟩),.nilIface] 281)=W3 at *
 generalize w2.heap.size=b at *
 refine (HC3.out).mono ?_
 rintro en w4 ⟨_,_,_,rfl,X4⟩
 have K4:Hid (Kq D kb ab w w4):=(K3.out).trans (X4.out).2
 have hB4:=hide ((X4.out).2.made hr ha hs2 hB3.out (by decide))
 have hP4:=hide ((hP3.out).keepq (X4.out).2 (Nat.lt_of_lt_of_le hr (Nat.le_refl _)) (Nat.lt_of_lt_of_le ha (Nat.le_refl _)))
 have HC4:=hide (H1 e (i+X.pz t1+X.pz qs+X.pz t2) D kb ab [] w4 HB.out (X4.out).1 (by omega) ((HDl.out) _ (K4.out).size))
 clear HC3 X4 K3 hB3 hP3
 go_wp2_with fail
 refine (HC4.out).mono ?_
 rintro en w5 ⟨v1,rfl,X5⟩
 obtain ⟨y1,g1,hv1⟩:=(X5.out).1.iface
 subst hv1
 have K5:Hid (Kq D kb ab w w5):=(K4.out).trans (X5.out).2.2
 have hB5:=(X5.out).2.2.made hr ha hs2 hB4.out (by decide)
 have c1:=cell_of_row w5 _ 4 _ _ _ hB5
 have f1:w5.frozen? ⟨b,4,none⟩=false:=by simp [World.frozen?,hB5]
 have hbl4:b<w4.heap.size:=heap_lt hB4.out
 have HFin:Hid (IsE (w5.setCell ⟨b,4,none⟩ (.iface y1 (.pointer (some ⟨g1,0,none⟩)))) w.heap.size (w5.setCell ⟨b,4,none⟩ (.iface y1 (.pointer (some ⟨g1,0,none⟩)))).heap.size (.iface 250 (.pointer (some ⟨b,0,none⟩))) (.fn ns e)∧IsRw (w5.setCell ⟨b,4,none⟩ (.iface y1 (.pointer (some ⟨g1,0,none⟩)))) D kb ab [] (i+X.pz (t1++([X.Part.br 6 qs]++(t2++[p]))))∧Kq D kb ab w (w5.setCell ⟨b,4,none⟩ (.iface y1 (.pointer (some ⟨g1,0,none⟩))))):=by
  have hk:Kp (fun q=>q=b) w5 (w5.setCell ⟨b,4,none⟩ (.iface y1 (.pointer (some ⟨g1,0,none⟩)))):=On.set (Kp.refl _ w5) 4 _
  have hsz:(w5.setCell ⟨b,4,none⟩ (.iface y1 (.pointer (some ⟨g1,0,none⟩)))).heap.size=w5.heap.size:=by simp [World.setCell]
  have hs45:=(X5.out).2.2.size
  have hP5:=(hP4.out).keepq (X5.out).2.2 (Nat.lt_of_lt_of_le hr (Nat.le_refl _)) (Nat.lt_of_lt_of_le ha (Nat.le_refl _))
  rw [hsz,hz]
  refine ⟨.fn (m:=0) (n:=0) (z:=false) b pb ns _ e ⟨hs2,by omega⟩ (by simp [World.setCell,Array.getElem?_modify,hB5]) ((hP5.keep hk (fun i h1 h2 e=>by omega)).wide (Nat.le_refl _) (by omega)) (((X5.out).1.keep hk (fun i h1 h2 e=>by omega)).wide (by omega) (Nat.le_refl _)),?_,(K5.out).set ha hs2 _ _⟩
  have hR:=(X5.out).2.1.on hk hB5 (by decide) (by omega) (by omega) (fun hd=>by have:=(HDl.out) w (Nat.le_refl _) _ hd;omega)
  rw [show i+(X.pz t1+(X.pz qs+(X.pz t2+X.pz [p])))=i+X.pz t1+X.pz qs+X.pz t2+X.pz [p] by omega]
  exact hR
 clear HC4 X5 K4 hB4 K5 hP4 hB5
 go_wp2_with fail
 go_ret
 exact ⟨b,rfl,HFin.out⟩
theorem fld_text (a b:Int) (c:ByteArray) (a4:Option Addr) (a5 a6:Nat) (w:World):(Instr.field 120 (.agg #[.int .i64 a,.int .i64 b,.string c,.slice a4 a5 a6]) 2).run Tryz.prog w=.ok (.string c) w:=by kernel_rfl
set_option maxRecDepth 100000 in
set_option maxHeartbeats 4000000 in
theorem wbinary_any (D:Nat→Prop) (kb ab:Nat) (p1 p2:X.Part) (t qs:List X.Part) (k:Nat) (x:List UInt8) (e1 e2:X.Ex) (i:Nat) (w:World) (h:IsRw w D kb ab ([p1]++(t++[p2])) i) (hl:X.Rd p1 i e1) (ht:X.Tk1 t k x qs) (hr2:X.Rd p2 (i+X.pz [p1]+X.pz t) e2) (H1:ExOk p1) (H2:ExOk p2)
  (hi:i+X.pz ([p1]++(t++[p2]))≤1073741824) (hpl:([p1]++(t++[p2])).length≤1073741824) (hDl:∀ q,D q→q<w.heap.size) :
  Calls Tryz.prog 126 #[.pointer (some ⟨kb,0,none⟩)] w fun en w'=>∃ b,en=.returned (.pointer (some ⟨b,0,none⟩))∧Hid (IsE w' w.heap.size w'.heap.size (.iface 252 (.pointer (some ⟨b,0,none⟩))) (.bin e1 x e2)∧IsRw w' D kb ab [] (i+X.pz ([p1]++(t++[p2])))∧Kq D kb ab w w'):=by
 obtain ⟨hr,ha⟩:=h.lt
 have hT:=ht.tk0
 have hz:X.pz ([p1]++(t++[p2]))=X.pz [p1]+(X.pz t+X.pz [p2]):=by rw [X.pz_app,X.pz_app]
 rw [hz] at hi
 simp only [List.length_append,List.length_singleton] at hpl
 have HC1:=hide (H1 e1 i D kb ab (t++[p2]) w hl h (by omega) hDl)
 have HDl:Hid (∀ W:World,w.heap.size≤W.heap.size→∀ q,D q→q<W.heap.size):=fun W hW q hq=>Nat.lt_of_lt_of_le (hDl q hq) hW
 have HB:=hide hr2
 have hfl:=fld_text
 clear h hDl hl hr2 ht
 go_enter Tryz.func126,Tryz.ntmps126
 go_wp2_with fail
 refine (HC1.out).mono ?_
 rintro en w2 ⟨v1,rfl,X2⟩
 obtain ⟨y1,g1,hv1⟩:=(X2.out).1.iface
 subst hv1
 have hs2:=(X2.out).2.2.size
 have kA:Below w2.heap.size w2 (w2.alloc (.cells #[.int .i64 0,.int .i64 0,.bool false,.iface y1 (.pointer (some ⟨g1,0,none⟩)),.string ⟨#[]⟩,.nilIface] 287)):=(Below.refl _ w2).alloc (Nat.le_refl _) _
 have hB3:Hid ((w2.alloc (.cells #[.int .i64 0,.int .i64 0,.bool false,.iface y1 (.pointer (some ⟨g1,0,none⟩)),.string ⟨#[]⟩,.nilIface] 287)).heap[w2.heap.size]?=some (.cells #[.int .i64 0,.int .i64 0,.bool false,.iface y1 (.pointer (some ⟨g1,0,none⟩)),.string ⟨#[]⟩,.nilIface] 287 (0,0))):=heap_alloc_new w2 _
 have K3:Hid (Kq D kb ab w (w2.alloc (.cells #[.int .i64 0,.int .i64 0,.bool false,.iface y1 (.pointer (some ⟨g1,0,none⟩)),.string ⟨#[]⟩,.nilIface] 287))):=(X2.out).2.2.more kA ha
 have hE3:Hid (IsE (w2.alloc (.cells #[.int .i64 0,.int .i64 0,.bool false,.iface y1 (.pointer (some ⟨g1,0,none⟩)),.string ⟨#[]⟩,.nilIface] 287)) w.heap.size w2.heap.size (.iface y1 (.pointer (some ⟨g1,0,none⟩))) e1):=(X2.out).1.keep (Kp.ofBelow kA (fun _=>False)) (fun _ _ _=>id)
 have HC3:=hide (wpass_any D kb ab t qs _ [p2] (i+X.pz [p1]) _ ((X2.out).2.1.below kA) hT (by simp only [X.pz_app];omega) (by simp only [List.length_append,List.length_singleton];omega) ((HDl.out) _ (K3.out).size))
 clear HC1 kA X2
 go_wp2_with fail
 generalize w2.alloc (.cells #[.int .i64 0,.int .i64 0,.bool false,.iface y1 (.pointer (some ⟨g1,0,none⟩)),.string ⟨#[]⟩,.nilIface] 287)=W3 at *
 generalize w2.heap.size=b at *
 refine (HC3.out).mono ?_
 rintro en w4 ⟨a4,a5,a6,rfl,X4⟩
 have hB4:=(X4.out).2.made hr ha hs2 hB3.out (by decide)
 have c1:=cell_of_row w4 _ 4 _ _ _ hB4
 have f1:w4.frozen? ⟨b,4,none⟩=false:=by simp [World.frozen?,hB4]
 have hnt:X.ntx (.leaf k x)=x:=rfl
 rw [hnt]
 have hbl3:b<w4.heap.size:=heap_lt hB4
 have HX5:Hid (IsE (w4.setCell ⟨b,4,none⟩ (.string (ba x))) w.heap.size b (.iface y1 (.pointer (some ⟨g1,0,none⟩))) e1∧IsRw (w4.setCell ⟨b,4,none⟩ (.string (ba x))) D kb ab [p2] (i+X.pz [p1]+X.pz t)∧(w4.setCell ⟨b,4,none⟩ (.string (ba x))).heap[b]?=some (.cells #[.int .i64 0,.int .i64 0,.bool false,.iface y1 (.pointer (some ⟨g1,0,none⟩)),.string (ba x),.nilIface] 287 (0,0))∧Kq D kb ab w (w4.setCell ⟨b,4,none⟩ (.string (ba x)))∧(w4.setCell ⟨b,4,none⟩ (.string (ba x))).heap.size=w4.heap.size):=by
  have hk:Kp (fun q=>q=b) w4 (w4.setCell ⟨b,4,none⟩ (.string (ba x))):=On.set (Kp.refl _ w4) 4 _
  refine ⟨((hE3.out).keepq (X4.out).2 (Nat.lt_of_lt_of_le hr (Nat.le_refl _)) (Nat.lt_of_lt_of_le ha (Nat.le_refl _))).keep hk (fun i h1 h2 e=>by omega),(X4.out).1.on hk hB4 (by decide) (by omega) (by omega) (fun hd=>?_),by simp [World.setCell,Array.getElem?_modify,hB4],((K3.out).trans (X4.out).2).set ha hs2 _ _,by simp [World.setCell]⟩
  have:=(HDl.out) w (Nat.le_refl _) _ hd
  omega
 clear HC3 X4 K3 hB3 hE3
 go_wp2_with fail
 generalize w4.setCell ⟨b,4,none⟩ (.string (ba x))=W5 at *
 clear hB4 c1 f1
 have HC7:=hide (H2 e2 (i+X.pz [p1]+X.pz t) D kb ab [] W5 HB.out (HX5.out).2.1 (by omega) ((HDl.out) _ (HX5.out).2.2.2.1.size))
 refine (HC7.out).mono ?_
 rintro en w7 ⟨v2,rfl,X7⟩
 obtain ⟨y2,g2,hv2⟩:=(X7.out).1.iface
 subst hv2
 have hB7:=(X7.out).2.2.made hr ha hs2 (HX5.out).2.2.1 (by decide)
 have c2:=cell_of_row w7 _ 5 _ _ _ hB7
 have f2:w7.frozen? ⟨b,5,none⟩=false:=by simp [World.frozen?,hB7]
 have HFin:Hid (IsE (w7.setCell ⟨b,5,none⟩ (.iface y2 (.pointer (some ⟨g2,0,none⟩)))) w.heap.size (w7.setCell ⟨b,5,none⟩ (.iface y2 (.pointer (some ⟨g2,0,none⟩)))).heap.size (.iface 252 (.pointer (some ⟨b,0,none⟩))) (.bin e1 x e2)∧IsRw (w7.setCell ⟨b,5,none⟩ (.iface y2 (.pointer (some ⟨g2,0,none⟩)))) D kb ab [] (i+X.pz ([p1]++(t++[p2])))∧Kq D kb ab w (w7.setCell ⟨b,5,none⟩ (.iface y2 (.pointer (some ⟨g2,0,none⟩))))):=by
  have hk:Kp (fun q=>q=b) w7 (w7.setCell ⟨b,5,none⟩ (.iface y2 (.pointer (some ⟨g2,0,none⟩)))):=On.set (Kp.refl _ w7) 5 _
  have hsz:(w7.setCell ⟨b,5,none⟩ (.iface y2 (.pointer (some ⟨g2,0,none⟩)))).heap.size=w7.heap.size:=by simp [World.setCell]
  have hs57:=(X7.out).2.2.size
  have hs5:=(HX5.out).2.2.2.2
  have hE7:=(HX5.out).1.keepq (X7.out).2.2 (Nat.lt_of_lt_of_le hr (Nat.le_refl _)) (Nat.lt_of_lt_of_le ha (Nat.le_refl _))
  rw [hsz,hz]
  refine ⟨.bin (m:=0) (n:=0) (z:=false) b _ _ x e1 e2 ⟨hs2,by omega⟩ (by simp [World.setCell,Array.getElem?_modify,hB7]) ((hE7.keep hk (fun i h1 h2 e=>by omega)).wide (Nat.le_refl _) (by omega)) (((X7.out).1.keep hk (fun i h1 h2 e=>by omega)).wide (by omega) (Nat.le_refl _)),?_,((HX5.out).2.2.2.1.trans (X7.out).2.2).set ha hs2 _ _⟩
  have hR:=(X7.out).2.1.on hk hB7 (by decide) (by omega) (by omega) (fun hd=>by have:=(HDl.out) w (Nat.le_refl _) _ hd;omega)
  rw [show i+(X.pz [p1]+(X.pz t+X.pz [p2]))=i+X.pz [p1]+X.pz t+X.pz [p2] by omega]
  exact hR
 clear HC7 X7 hB7 HX5
 go_wp2_with fail
 go_ret
 exact ⟨b,rfl,HFin.out⟩
end Go.Proofs.YtbmebfgapjhchaaGreatDoor
/- Package syntax: the expressions among some nodes. -/
namespace Go.Proofs.YtbmebfgapjhchaaGreatDoor
open Go.RowKit
open M
def X.exq:X.Part→Bool
 | .leaf _ _=>false
 | .miss m=>m==X.sExpr
 | .br k _=>k !=0&&k !=1
set_option maxRecDepth 100000 in
set_option maxHeartbeats 1000000 in
theorem syExpr_any (p:X.Part) (a4:Option Addr) (a5 a6:Nat) (w:World) :
  Calls Tryz.prog 138 #[.agg #[.int .i64 (X.nk p),.int .i64 (X.ntk p),.string (ba (X.ntx p)),.slice a4 a5 a6]] w fun e w'=>e=.returned (.bool (X.exq p))∧Below w.heap.size w w':=by
 have HKA:∀ a b c,Hid (Below w.heap.size w (w.alloc (.cells #[.int .i64 a,.int .i64 b,.string c,.slice a4 a5 a6] 120))):=fun a b c=>(Below.refl _ w).alloc (Nat.le_refl _) _
 have HKA':=hide HKA
 clear HKA
 cases p with
 | leaf k x =>
  show Calls Tryz.prog 138 #[.agg #[.int .i64 0,.int .i64 k,.string (ba x),.slice a4 a5 a6]] w fun e w'=>e=.returned (.bool false)∧Below w.heap.size w w'
  go_enter Tryz.func138,Tryz.ntmps138
  go_wp2_with fail
  go_ret
  exact ⟨rfl,((HKA'.out) _ _ _).out⟩
 | miss m =>
  by_cases hm:m=X.sExpr
  ·subst hm
   show Calls Tryz.prog 138 #[.agg #[.int .i64 1,.int .i64 0,.string (ba X.sExpr),.slice a4 a5 a6]] w fun e w'=>e=.returned (.bool true)∧Below w.heap.size w w'
   have e1:((ba X.sExpr).toList==[101,120,112,114,101,115,115,105,111,110])=true:=by rw [ba_list];rfl
   go_enter Tryz.func138,Tryz.ntmps138
   go_wp2_with fail
   go_ret
   exact ⟨rfl,((HKA'.out) _ _ _).out⟩
  ·have k3:X.exq (.miss m)=false:=by show (m==X.sExpr)=false;simpa using hm
   have i4':((ba m).toList==[101,120,112,114,101,115,115,105,111,110])=false:=by rw [ba_list];exact k3
   rw [k3]
   show Calls Tryz.prog 138 #[.agg #[.int .i64 1,.int .i64 0,.string (ba m),.slice a4 a5 a6]] w fun e w'=>e=.returned (.bool false)∧Below w.heap.size w w'
   go_enter Tryz.func138,Tryz.ntmps138
   go_wp2_with fail
   go_ret
   exact ⟨rfl,((HKA'.out) _ _ _).out⟩
 | br k ps =>
  by_cases h0:k=0
  ·subst h0
   show Calls Tryz.prog 138 #[.agg #[.int .i64 0,.int .i64 0,.string (ba []),.slice a4 a5 a6]] w fun e w'=>e=.returned (.bool false)∧Below w.heap.size w w'
   go_enter Tryz.func138,Tryz.ntmps138
   go_wp2_with fail
   go_ret
   exact ⟨rfl,((HKA'.out) _ _ _).out⟩
  ·by_cases h1:k=1
   ·subst h1
    have e1:((ba []).toList==[101,120,112,114,101,115,115,105,111,110])=false:=by rw [ba_list];rfl
    show Calls Tryz.prog 138 #[.agg #[.int .i64 1,.int .i64 0,.string (ba []),.slice a4 a5 a6]] w fun e w'=>e=.returned (.bool false)∧Below w.heap.size w w'
    go_enter Tryz.func138,Tryz.ntmps138
    go_wp2_with fail
    go_ret
    exact ⟨rfl,((HKA'.out) _ _ _).out⟩
   ·have j0:((k:Int) !=0)=true:=by simp;omega
    have j1:((k:Int) !=1)=true:=by simp;omega
    have j0':((k:Int)==0)=false:=by simp;omega
    have j1':((k:Int)==1)=false:=by simp;omega
    have k3:X.exq (.br k ps)=true:=by show (k !=0&&k !=1)=true;simp;omega
    rw [k3]
    show Calls Tryz.prog 138 #[.agg #[.int .i64 k,.int .i64 0,.string (ba []),.slice a4 a5 a6]] w fun e w'=>e=.returned (.bool true)∧Below w.heap.size w w'
    go_enter Tryz.func138,Tryz.ntmps138
    go_wp2_with fail
    go_ret
    exact ⟨rfl,((HKA'.out) _ _ _).out⟩
theorem rd_exq {p:X.Part} {i:Nat} {e:X.Ex} (h:X.Rd p i e):X.exq p=true∧X.lq p=false:=by
 cases h with
 | lit k t x ps qs _ hk h=>exact ⟨by show (k !=0&&k !=1)=true;simp;omega,rfl⟩
 | _=>exact ⟨rfl,rfl⟩
theorem rds_quiet:∀ (l:List X.Part) {k:Nat} {es:List X.Ex},X.Rds l k es→X.Rds (l.dropWhile X.lq) (k+X.pz (l.takeWhile X.lq)) es
 | [],k,es,h=>h
 | p::l,k,es,h=>by
  cases hq:X.lq p with
  | true =>
   obtain ⟨t,x,rfl,-⟩:=X.lq_leaf hq
   rw [List.dropWhile_cons_of_pos hq,List.takeWhile_cons_of_pos hq,X.pz_cons,X.pz_leaf,← Nat.add_assoc]
   cases h with
   | leaf _ _ _ _ _ h=>exact rds_quiet l h
   | cons _ _ _ e es hp h=>cases hp
  | false =>
   rw [List.dropWhile_cons_of_neg (by rw [hq];simp),List.takeWhile_cons_of_neg (by rw [hq];simp)]
   exact h
theorem rds_head {p:X.Part} {l:List X.Part} {k:Nat} {es:List X.Ex} (h:X.Rds (p::l) k es):(X.exq p=true∧∃ e es',es=e::es'∧X.Rd p k e∧X.Rds l (k+X.pz [p]) es')∨(X.exq p=false∧X.nln p=X.pz [p]∧X.Rds l (k+X.pz [p]) es):=by
 cases h with
 | leaf t x _ _ _ h=>exact .inr ⟨rfl,(X.pz_leaf t x).symm,by rw [X.pz_leaf];exact h⟩
 | miss m _ _ _ hm h=>exact .inr ⟨by show (m==X.sExpr)=false;simpa using hm,rfl,h⟩
 | cons _ _ _ e es hp h=>exact .inl ⟨(rd_exq hp).1,e,es,rfl,hp,h⟩
structure IsEs (w:World) (lo hi:Nat) (rv:Value) (es:List X.Ex):Prop where
 ex:∃ (ao:Option Addr) (cap:Nat) (vs:Nat→Value),rv=.slice ao es.length cap∧es.length≤cap∧cap≤maxLen∧(∀ j,j<es.length→∃ g,ao=some ⟨g,0,none⟩∧lo≤g∧g<hi∧w.cell? ⟨g,j,none⟩=some (vs j)∧∃ c f,w.heap[g]?=some (.cells c 180 f))∧(∀ (j:Nat) (e:X.Ex),es[j]?=some e→IsE w lo hi (vs j) e)
theorem infoE:(Tryz.prog.info? 180).map (fun i=>(i.zero,i.size,i.bytes))=some (some .nilIface,1,16):=by kernel_rfl
structure InXs (w:World) (D:Nat→Prop) (kb ab:Nat) (es:List X.Ex) (tot:Nat) (l:List X.Part) (k:Nat) (acc:List X.Ex) (rv:Value) (vs:List Value) (wr:World):Prop where
 rw:IsRw wr D kb ab l k
 rds:∃ es',X.Rds l k es'∧es=acc++es'
 own:wr.ownsRow w.heap.size 180 1 rv acc.length vs
 len:vs.length=acc.length
 each:∀ (j:Nat) (e:X.Ex),acc[j]?=some e→∃ v L H,vs[j]?=some v∧w.heap.size≤L∧H≤wr.heap.size∧(∀ g,rv.ownBlock=some g→¬(L≤g∧g<H))∧IsE wr L H v e
 kp:Kq D kb ab w wr
 pos:k+X.pz l=tot
theorem InXs.step {w:World} {D:Nat→Prop} {kb ab:Nat} {es:List X.Ex} {tot:Nat} {l:List X.Part} {k:Nat} {acc:List X.Ex} {rv:Value} {vs:List Value} {wr:World} (h:InXs w D kb ab es tot l k acc rv vs wr) {w2:World} {l2:List X.Part} {k2:Nat} (hr:kb<w.heap.size) (ha:ab<w.heap.size) (hk:Kq D kb ab wr w2) (hw:IsRw w2 D kb ab l2 k2) (hn:∃ es',X.Rds l2 k2 es'∧es=acc++es') (hp:k2+X.pz l2=tot):InXs w D kb ab es tot l2 k2 acc rv vs w2:=by
 refine ⟨hw,hn,hk.owns h.own (by decide) (fun g hg=>by have:=(owns_ge h.own g hg).1;exact ⟨by omega,by omega⟩),h.len,fun j e hj=>?_,h.kp.trans hk,hp⟩
 obtain ⟨v,L,H,x1,x2,x3,x4,x5⟩:=h.each j e hj
 exact ⟨v,L,H,x1,x2,Nat.le_trans x3 hk.size,x4,x5.keepq hk (Nat.lt_of_lt_of_le hr x2) (Nat.lt_of_lt_of_le ha x2)⟩
theorem InXs.more {w:World} {D:Nat→Prop} {kb ab:Nat} {es:List X.Ex} {tot:Nat} {l:List X.Part} {k:Nat} {acc:List X.Ex} {rv:Value} {vs:List Value} {wr:World} (h:InXs w D kb ab es tot l k acc rv vs wr) {w5 w6:World} {l2:List X.Part} {k2:Nat} (hr:kb<w.heap.size) (ha:ab<w.heap.size) (hD:∀ q,D q→q<w.heap.size) (hk:Kq D kb ab wr w5) (hw:IsRw w5 D kb ab l2 k2) {e:X.Ex} {v:Value} (hE:IsE w5 wr.heap.size w5.heap.size v e) (hn:∃ es',X.Rds l2 k2 es'∧es=(acc++[e])++es') (hp:k2+X.pz l2=tot) (o:Obj) {g cap:Nat}
  (hown:w6.ownsRow w.heap.size 180 1 (.slice (some ⟨g,0,none⟩) (acc.length+1) cap) (acc.length+1) (vs++[v])) (hgrow:(w5.alloc o).grownBy w6 rv.ownBlock) (hat:rv.ownBlock=some g∨g=w5.heap.size+1) :
  InXs w D kb ab es tot l2 k2 (acc++[e]) (.slice (some ⟨g,0,none⟩) (acc.length+1) cap) (vs++[v]) w6:=by
 have hs5:=hk.size
 have hge:=fun q hq=>(owns_ge h.own q hq)
 have hown5:=hk.owns h.own (by decide) (fun g hg=>by have:=(hge g hg).1;exact ⟨by omega,by omega⟩)
 have hA:Kp (fun q=>rv.ownBlock=some q) w5 w6:=Kp.grown (Kp.alloc (Kp.refl _ w5) o) hgrow (fun k e _=>e)
 have hs6:=hA.size
 have hws:=h.kp.size
 have hgo:∀ L H,H≤w5.heap.size→(∀ g',rv.ownBlock=some g'→¬(L≤g'∧g'<H))→∀ q,(Value.slice (some ⟨g,0,none⟩) (acc.length+1) cap).ownBlock=some q→¬(L≤q∧q<H):=fun L H hH h0 q hq=>by
  simp only [Value.ownBlock,Option.some.injEq] at hq
  subst hq
  rcases hat with e|e
  ·exact h0 g e
  ·omega
 refine ⟨hw.keep hA (fun e=>by have:=(hge _ e).1;omega) (fun e=>by have:=(hge _ e).1;omega) (fun q hq e=>by have:=(hge _ e).1;have:=hD q hq;omega) (fun q c f _ hc e=>by obtain ⟨-,c',f',hc'⟩:=owns_typed hown5 e;exact not_int hc' (by decide) ⟨c,f,hc⟩),hn,by rw [List.length_append];exact hown,by rw [List.length_append,List.length_append,h.len];rfl,fun j e' hj=>?_,(h.kp.trans hk).over hA ha (fun i hi e=>by have:=(hge _ e).1;omega),hp⟩
 by_cases hjl:j<acc.length
 ·rw [List.getElem?_append_left hjl] at hj
  obtain ⟨v',L,H,x1,x2,x3,x4,x5⟩:=h.each j e' hj
  exact ⟨v',L,H,by rw [List.getElem?_append_left (by rw [h.len];exact hjl)];exact x1,x2,by omega,hgo L H (by omega) x4,(x5.keepq hk (Nat.lt_of_lt_of_le hr x2) (Nat.lt_of_lt_of_le ha x2)).keep hA (fun q h1 h2 e=>x4 q e ⟨h1,h2⟩)⟩
 ·rw [List.getElem?_append_right (by omega)] at hj
  have h0:j - acc.length=0:=by
   rcases Nat.eq_zero_or_pos (j - acc.length) with q|q
   ·exact q
   ·rw [List.getElem?_eq_none (by simp;omega)] at hj;cases hj
  rw [h0] at hj
  obtain rfl:e=e':=by simpa using hj
  have hno:∀ q,rv.ownBlock=some q→¬(wr.heap.size≤q∧q<w5.heap.size):=fun q hq=>by have:=(hge q hq).2;omega
  exact ⟨v,wr.heap.size,w5.heap.size,by rw [List.getElem?_append_right (by rw [h.len];omega),h.len,h0];rfl,hws,hs6,hgo _ _ (Nat.le_refl _) hno,hE.keep hA (fun q h1 h2 e=>hno q e ⟨h1,h2⟩)⟩
theorem InXs.done {w:World} {D:Nat→Prop} {kb ab:Nat} {es:List X.Ex} {tot:Nat} {k:Nat} {acc:List X.Ex} {rv:Value} {vs:List Value} {wr:World} (h:InXs w D kb ab es tot [] k acc rv vs wr):IsEs wr w.heap.size wr.heap.size rv es∧IsRw wr D kb ab [] tot∧Kq D kb ab w wr:=by
 obtain ⟨es',h1,h2⟩:=h.rds
 cases h1
 rw [List.append_nil] at h2
 subst h2
 have hp:k=tot:=h.pos
 have hge:=fun q hq=>(owns_ge h.own q hq)
 have hl:=h.len
 refine ⟨?_,by rw [← hp];exact h.rw,h.kp⟩
 have hc:=fun g hg=>h.own.cells (g:=g) hg
 have hown:=h.own
 rcases hown.2 with ⟨rfl,h0⟩|⟨g,cap,cur,rfl,-,-,hn,hm,-,-⟩
 ·have he:es=[]:=List.length_eq_zero_iff.1 h0
  subst he
  exact ⟨none,0,fun _=>undef,rfl,Nat.le_refl _,by unfold maxLen;omega,fun j hj=>absurd hj (Nat.not_lt_zero _),fun j e hj=>by simp at hj⟩
 ·refine ⟨_,cap,fun j=>vs.getD j undef,rfl,hn,hm,fun j hj=>⟨g,rfl,(hge g rfl).1,(hge g rfl).2,?_,(owns_typed hown rfl).2⟩,fun j e hj=>?_⟩
  ·have hv:vs[j]?=some (vs.getD j undef):=by
    rw [List.getD_eq_getElem?_getD,List.getElem?_eq_getElem (by omega)];rfl
   have:=hc g rfl j _ hv
   rwa [Addr.add_lit,Nat.zero_add] at this
  ·obtain ⟨v,L,H,x1,x2,x3,-,x5⟩:=h.each j e hj
   have:vs.getD j undef=v:=by rw [List.getD_eq_getElem?_getD,x1];rfl
   show IsE _ _ _ (vs.getD j undef) e
   rw [this]
   exact x5.wide x2 x3
end Go.Proofs.YtbmebfgapjhchaaGreatDoor
/- Package syntax: the expressions among some nodes,and a call: the walks. -/
namespace Go.Proofs.YtbmebfgapjhchaaGreatDoor
open Go.RowKit
open M
set_option maxRecDepth 100000 in
set_option maxHeartbeats 4000000 in
theorem wexpressions_any (D:Nat→Prop) (kb ab:Nat) (qs:List X.Part) (es:List X.Ex) (i:Nat) (w:World) (h:IsRw w D kb ab qs i) (hr0:X.Rds qs i es) (hE:∀ p∈qs,ExOk p) (hi:i+X.pz qs≤1073741824) (hql:qs.length≤268435456) (hel:es.length≤268435456) (hDl:∀ q,D q→q<w.heap.size) :
  Calls Tryz.prog 124 #[.pointer (some ⟨kb,0,none⟩)] w fun en w'=>∃ rv,en=.returned rv∧Hid (IsEs w' w.heap.size w'.heap.size rv es∧IsRw w' D kb ab [] (i+X.pz qs)∧Kq D kb ab w w'):=by
 obtain ⟨i0,hi0,hz0,hz1,hz2⟩:=info_parts infoE
 obtain ⟨hr,ha⟩:=h.lt
 have HI0:Hid (InXs w D kb ab es (i+X.pz qs) qs i [] (.slice none 0 0) [] w):=⟨h,⟨es,hr0,rfl⟩,World.ownsRow_nil _ _ _ _,rfl,fun j e hj=>by simp at hj,Kq.refl _ _ _ _,rfl⟩
 have HE:=hide hE
 have HDl:=hide hDl
 clear h hr0 hE hDl
 go_enter Tryz.func124,Tryz.ntmps124
 go_wp2_with fail
 go_loopw [3] (fun av wr=>∃ (l:List X.Part) (k:Nat) (acc:List X.Ex) (rv:Value) (vs:List Value),rv=av∧l.length≤268435456∧Hid (∀ p∈l,ExOk p)∧Hid (InXs w D kb ab es (i+X.pz qs) l k acc rv vs wr)) (fun _ wr=>lenR kb wr)
 case atStart=>exact ⟨qs,i,[],_,[],rfl,hql,HE,HI0⟩
 case round =>
  obtain ⟨l,k,acc,rv,vs,rfl,hll,HEl,HI⟩:=hrel
  clear HI0 HE
  have hlen:lenR kb wr=l.length:=(HI.out).rw.len
  have hpos:=(HI.out).pos
  have HM:=hide (wmore_any D kb ab l k wr (HI.out).rw (by omega) (by omega) (fun q hq=>Nat.lt_of_lt_of_le ((HDl.out) q hq) (HI.out).kp.size))
  go_wp2_with fail
  refine (HM.out).mono ?_
  rintro e w3 ⟨rfl,H3⟩
  have hpz:X.pz l=X.pz (l.takeWhile X.lq)+X.pz (l.dropWhile X.lq):=by rw [← X.pz_app,List.takeWhile_append_dropWhile]
  have hdl:(l.dropWhile X.lq).length≤l.length:=(List.dropWhile_sublist _).length_le
  have HI3:Hid (InXs w D kb ab es (i+X.pz qs) (l.dropWhile X.lq) (k+X.pz (l.takeWhile X.lq)) acc rv vs w3):=by
   obtain ⟨es',g1,g2⟩:=(HI.out).rds
   exact (HI.out).step hr ha (H3.out).2 (H3.out).1 ⟨es',rds_quiet l g1,g2⟩ (by omega)
  have HEd:Hid (∀ p∈l.dropWhile X.lq,ExOk p):=fun p hp=>(HEl.out) p ((List.dropWhile_sublist _).mem hp)
  clear HM H3 HI HEl
  generalize l.dropWhile X.lq=l3 at *
  generalize k+X.pz (l.takeWhile X.lq)=k3 at *
  cases l3 with
  | nil =>
   have HF:=hide ((HI3.out).done)
   have hdf:decide (([]:List X.Part)≠[])=false:=by simp
   rw [hdf]
   clear HI3
   go_wp2_with fail
   go_ret
   exact ⟨rv,rfl,HF.out⟩
  | cons p l4 =>
   have hdt:decide (p::l4≠[])=true:=by simp
   rw [hdt]
   clear hdt
   obtain ⟨v,hb,hnn⟩:=(HI3.out).rw.blk
   have c1:=cell_of_row w3 _ 1 _ _ _ hb
   obtain ⟨g,o,cap,kv,rfl,hD,y0,y1,y2,y3,hkk,-,hc1,hc2,-,-⟩:=hnn.head
   obtain ⟨b4,b6,_,_,_,_,rfl,-⟩:=hkk.ex
   have hi1:(0:Int)<((l4.length+1:Nat):Int):=by omega
   have hi2:0<l4.length+1:=by omega
   have hpos3:=(HI3.out).pos
   rw [X.pz_cons] at hpos3
   rw [List.length_cons] at hdl
   have HEp:=hide ((HEd.out) p (by simp))
   have HE4:Hid (∀ q∈l4,ExOk q):=fun q hq=>(HEd.out) q (List.mem_cons_of_mem _ hq)
   clear hb hnn hkk HEd
   go_wp2_with fail
   refine (syExpr_any p _ _ _ w3).mono ?_
   rintro e w4 ⟨rfl,k4⟩
   have HI4:Hid (InXs w D kb ab es (i+X.pz qs) (p::l4) k3 acc rv vs w4):=(HI3.out).step hr ha (Kq.ofBelow k4 (Nat.lt_of_lt_of_le ha (HI3.out).kp.size)) ((HI3.out).rw.below k4) (HI3.out).rds (HI3.out).pos
   clear k4 HI3 c1 y0 y1 y2 y3
   have HD4:∀ q,D q→q<w4.heap.size:=fun q hq=>Nat.lt_of_lt_of_le ((HDl.out) q hq) (HI4.out).kp.size
   cases hnq:X.exq p with
   | false =>
    have HN:Hid (X.nln p=X.pz [p]∧∃ es',X.Rds l4 (k3+X.pz [p]) es'∧es=acc++es'):=by
     obtain ⟨es',g1,g2⟩:=(HI4.out).rds
     rcases rds_head g1 with ⟨e,-⟩|⟨-,e2,e3⟩
     ·rw [hnq] at e;cases e
     ·exact ⟨e2,es',e3,g2⟩
    have hln:=(HN.out).1
    have HLv:=hide (wleave_any D kb ab p l4 k3 w4 (HI4.out).rw (by omega) HD4)
    clear HD4
    go_wp2_with fail
    refine (HLv.out).mono ?_
    rintro e w5 ⟨d4,d5,d6,rfl,H5⟩
    have HI5:Hid (InXs w D kb ab es (i+X.pz qs) l4 (k3+X.pz [p]) acc rv vs w5):=by
     obtain ⟨-,z2,z3⟩:=H5.out
     rw [hln] at z2
     exact (HI4.out).step hr ha z3 z2 (HN.out).2 (by omega)
    clear H5 HLv HI4
    have hl5:lenR kb w5=l4.length:=(HI5.out).rw.len
    go_wp2_with fail
    exact ⟨⟨l4,k3+X.pz [p],acc,rv,vs,rfl,by omega,HE4,HI5⟩,by rw [hlen,hl5];omega⟩
   | true =>
    have HN:Hid (∃ e,X.Rd p k3 e∧∃ es',X.Rds l4 (k3+X.pz [p]) es'∧es=(acc++[e])++es'):=by
     obtain ⟨es',g1,g2⟩:=(HI4.out).rds
     rcases rds_head g1 with ⟨-,e,es2,e1,e2,e3⟩|⟨e,-⟩
     ·exact ⟨e,e2,es2,e3,by rw [g2,e1,List.append_assoc];rfl⟩
     ·rw [hnq] at e;cases e
    obtain ⟨e0,hrd,hes'⟩:=HN.out
    have HNs:=hide hes'
    have hacc:acc.length≤268435456:=by
     have:=congrArg List.length hes'.choose_spec.2
     simp at this;omega
    have HC:=hide ((HEp.out) e0 k3 D kb ab l4 w4 hrd (HI4.out).rw (by omega) HD4)
    clear HD4 hes' HN hrd
    go_wp2_with fail
    refine (HC.out).mono ?_
    rintro e w5 ⟨v5,rfl,X5⟩
    obtain ⟨y1,g1,hv1⟩:=(X5.out).1.iface
    subst hv1
    have hvl:vs.length=acc.length:=(HI4.out).len
    have HO5:Hid (w5.ownsRow w.heap.size 180 1 rv acc.length vs):=(X5.out).2.2.owns (HI4.out).own (by decide) (fun g hg=>by
     have:=(owns_ge (HI4.out).own g hg).1
     exact ⟨by omega,by omega⟩)
    have hs5:w.heap.size≤w5.heap.size:=by have:=(X5.out).2.2.size;have:=(HI4.out).kp.size;omega
    go_wp2_with (at_builtin;refine wpList_append_lies _ rfl _ _ 245 rfl w.heap.size 180 i0 _ 1 16 Tryz.underlying245 hi0 hz0 hz1 hz2 rfl (by decide) rv acc.length _ rfl ((HO5.out).alloc _) ⟨w5.heap.size,0,none⟩ 1 1 [.iface y1 (.pointer (some ⟨g1,0,none⟩))] rfl rfl (World.news_of_block (cs:=#[.iface y1 (.pointer (some ⟨g1,0,none⟩))]) (heap_alloc_new w5 _)) (by simp [Value.oneCell']) (by omega) (by unfold maxLen;omega) (by omega) (by simp;omega) (w5.heap.size+1) (by simp) ?_;intro g7 cap7 w7 hown7 hgrow7 hat7 hlt7;have HI7:=hide ((HI4.out).more hr ha HDl.out (X5.out).2.2 (X5.out).2.1 (X5.out).1 HNs.out (by omega) _ hown7 hgrow7 hat7);clear hown7 hgrow7)
    have hl7:lenR kb w7=l4.length:=(HI7.out).rw.len
    exact ⟨⟨l4,k3+X.pz [p],acc++[e0],_,_,rfl,by omega,HE4,HI7⟩,by rw [hlen,hl7];omega⟩
end Go.Proofs.YtbmebfgapjhchaaGreatDoor
/- Package syntax: a call. -/
namespace Go.Proofs.YtbmebfgapjhchaaGreatDoor
open Go.RowKit
open M
set_option maxRecDepth 100000 in
set_option maxHeartbeats 4000000 in
theorem wcall_any (D:Nat→Prop) (kb ab:Nat) (p:X.Part) (gs:List X.Part) (e:X.Ex) (es:List X.Ex) (i:Nat) (w:World) (h:IsRw w D kb ab ([p]++[X.Part.br 12 gs]) i) (hc:X.Rd p i e) (hg:X.Rds gs (i+X.pz [p]) es) (H1:ExOk p) (HE:∀ q∈gs,ExOk q)
  (hi:i+X.pz ([p]++[X.Part.br 12 gs])≤1073741824) (hql:gs.length≤268435456) (hel:es.length≤268435456) (hDl:∀ q,D q→q<w.heap.size) :
  Calls Tryz.prog 127 #[.pointer (some ⟨kb,0,none⟩)] w fun en w'=>∃ b,en=.returned (.pointer (some ⟨b,0,none⟩))∧Hid (IsE w' w.heap.size w'.heap.size (.iface 254 (.pointer (some ⟨b,0,none⟩))) (.call e es)∧IsRw w' D kb ab [] (i+X.pz ([p]++[X.Part.br 12 gs]))∧Kq D kb ab w w'):=by
 obtain ⟨hr,ha⟩:=h.lt
 have hgg:=h.byt.app.br.2
 have hz:X.pz ([p]++[X.Part.br 12 gs])=X.pz [p]+X.pz gs:=by rw [X.pz_app,X.pz_br]
 rw [hz] at hi
 have HC1:=hide (H1 e i D kb ab [X.Part.br 12 gs] w hc h (by omega) hDl)
 have HDl:Hid (∀ W:World,w.heap.size≤W.heap.size→∀ q,D q→q<W.heap.size):=fun W hW q hq=>Nat.lt_of_lt_of_le (hDl q hq) hW
 have HG:=hide hg
 have HEs:=hide HE
 clear h hDl hc hg HE
 go_enter Tryz.func127,Tryz.ntmps127
 go_wp2_with fail
 refine (HC1.out).mono ?_
 rintro en w2 ⟨v1,rfl,X2⟩
 obtain ⟨y1,g1,hv1⟩:=(X2.out).1.iface
 subst hv1
 have hs2:=(X2.out).2.2.size
 have kA:Below w2.heap.size w2 (w2.alloc (.cells #[.int .i64 0,.int .i64 0,.bool false,.iface y1 (.pointer (some ⟨g1,0,none⟩)),.slice none 0 0] 289)):=(Below.refl _ w2).alloc (Nat.le_refl _) _
 have hB3:Hid ((w2.alloc (.cells #[.int .i64 0,.int .i64 0,.bool false,.iface y1 (.pointer (some ⟨g1,0,none⟩)),.slice none 0 0] 289)).heap[w2.heap.size]?=some (.cells #[.int .i64 0,.int .i64 0,.bool false,.iface y1 (.pointer (some ⟨g1,0,none⟩)),.slice none 0 0] 289 (0,0))):=heap_alloc_new w2 _
 have K3:Hid (Kq D kb ab w (w2.alloc (.cells #[.int .i64 0,.int .i64 0,.bool false,.iface y1 (.pointer (some ⟨g1,0,none⟩)),.slice none 0 0] 289))):=(X2.out).2.2.more kA ha
 have hE3:Hid (IsE (w2.alloc (.cells #[.int .i64 0,.int .i64 0,.bool false,.iface y1 (.pointer (some ⟨g1,0,none⟩)),.slice none 0 0] 289)) w.heap.size w2.heap.size (.iface y1 (.pointer (some ⟨g1,0,none⟩))) e):=(X2.out).1.keep (Kp.ofBelow kA (fun _=>False)) (fun _ _ _=>id)
 have HC3:=hide (wenter_any D kb ab (.br 12 gs) [] (i+X.pz [p]) _ ((X2.out).2.1.below kA) (by show i+X.pz [p]+0≤_;omega) ((HDl.out) _ (K3.out).size))
 clear HC1 kA X2
 go_wp2_with fail
 generalize w2.alloc (.cells #[.int .i64 0,.int .i64 0,.bool false,.iface y1 (.pointer (some ⟨g1,0,none⟩)),.slice none 0 0] 289)=W3 at *
 generalize w2.heap.size=b at *
 refine (HC3.out).mono ?_
 rintro en w4 ⟨a4,a5,a6,rfl,X4⟩
 have K4:Hid (Kq D kb ab w w4):=(K3.out).trans (X4.out).2.2
 have hB4:=hide ((X4.out).2.2.made hr ha hs2 hB3.out (by decide))
 have hE4:=hide ((hE3.out).keepq (X4.out).2.2 (Nat.lt_of_lt_of_le hr (Nat.le_refl _)) (Nat.lt_of_lt_of_le ha (Nat.le_refl _)))
 have HIn:Hid (IsRw (w4.alloc (.cells #[.pointer (some ⟨ab,0,none⟩),.slice a4 a5 a6] 123)) D w4.heap.size ab gs (i+X.pz [p])∧∀ (w5:World) (l:List X.Part) (k:Nat),IsRw w5 D w4.heap.size ab l k→Kq D w4.heap.size ab (w4.alloc (.cells #[.pointer (some ⟨ab,0,none⟩),.slice a4 a5 a6] 123)) w5→IsRw w5 D kb ab [] k∧Kq D kb ab w4 w5):=rw_both (X4.out).2.1 (X4.out).1 hgg ((HDl.out) _ (K4.out).size)
 have hbl:b<w4.heap.size:=heap_lt hB4.out
 have hsz4:(w4.alloc (.cells #[.pointer (some ⟨ab,0,none⟩),.slice a4 a5 a6] 123)).heap.size=w4.heap.size+1:=by simp
 have hws4:=(K4.out).size
 have HC5:=hide (wexpressions_any D w4.heap.size ab gs es (i+X.pz [p]) _ (HIn.out).1 HG.out HEs.out (by omega) hql hel (fun q hq=>by have:=(HDl.out) _ (K4.out).size q hq;omega))
 clear HC3 X4 K3 hB3 hE3
 go_wp2_with fail
 have hkB:Below w4.heap.size w4 (w4.alloc (.cells #[.pointer (some ⟨ab,0,none⟩),.slice a4 a5 a6] 123)):=(Below.refl _ w4).alloc (Nat.le_refl _) _
 refine (HC5.out).mono ?_
 rintro en w6 ⟨rv,rfl,X6⟩
 obtain ⟨ao,cap,vs,hrv,hc1,hc2,hrr,hpp⟩:=(X6.out).1.ex
 subst hrv
 obtain ⟨z1,z2⟩:=(HIn.out).2 w6 [] _ (X6.out).2.1 (X6.out).2.2
 have hB6:=z2.made hr ha hs2 hB4.out (by decide)
 have c1:=cell_of_row w6 _ 4 _ _ _ hB6
 have f1:w6.frozen? ⟨b,4,none⟩=false:=by simp [World.frozen?,hB6]
 have HFin:Hid (IsE (w6.setCell ⟨b,4,none⟩ (.slice ao es.length cap)) w.heap.size (w6.setCell ⟨b,4,none⟩ (.slice ao es.length cap)).heap.size (.iface 254 (.pointer (some ⟨b,0,none⟩))) (.call e es)∧IsRw (w6.setCell ⟨b,4,none⟩ (.slice ao es.length cap)) D kb ab [] (i+X.pz ([p]++[X.Part.br 12 gs]))∧Kq D kb ab w (w6.setCell ⟨b,4,none⟩ (.slice ao es.length cap))):=by
  have hk:Kp (fun q=>q=b) w6 (w6.setCell ⟨b,4,none⟩ (.slice ao es.length cap)):=On.set (Kp.refl _ w6) 4 _
  have hsz:(w6.setCell ⟨b,4,none⟩ (.slice ao es.length cap)).heap.size=w6.heap.size:=by simp [World.setCell]
  have hs46:=z2.size
  have hE6:=(hE4.out).keepq z2 (Nat.lt_of_lt_of_le hr (Nat.le_refl _)) (Nat.lt_of_lt_of_le ha (Nat.le_refl _))
  rw [hsz4] at hrr hpp
  rw [hsz,hz]
  refine ⟨.call (m:=0) (n:=0) (z:=false) b _ e ao cap vs es ⟨hs2,by omega⟩ (by simp [World.setCell,Array.getElem?_modify,hB6]) ⟨hc1,hc2⟩ ((hE6.keep hk (fun i h1 h2 e=>by omega)).wide (Nat.le_refl _) (by omega)) (fun j hj=>?_) (fun j e' hj=>?_),?_,((K4.out).trans z2).set ha hs2 _ _⟩
  ·obtain ⟨g,e1,e2,e3,e4,c,f,e5⟩:=hrr j hj
   exact ⟨g,e1,by omega,e3,hk.cellv e4 (by simp;omega),c,f,hk.heap e5 (by omega)⟩
  ·exact ((hpp j e' hj).keep hk (fun q h1 h2 e=>by omega)).wide (by omega) (Nat.le_refl _)
  ·have hR:=z1.on hk hB6 (by decide) (by omega) (by omega) (fun hd=>by have:=(HDl.out) w (Nat.le_refl _) _ hd;omega)
   rw [show i+(X.pz [p]+X.pz gs)=i+X.pz [p]+X.pz gs by omega]
   exact hR
 clear HC5 X6 hB4 hE4 K4 hB6 z1 z2 HIn hrr hpp
 go_wp2_with fail
 go_ret
 exact ⟨b,rfl,HFin.out⟩
end Go.Proofs.YtbmebfgapjhchaaGreatDoor
