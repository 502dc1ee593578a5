/- Package syntax: all kids of an expression,kind by kind. -/
import Derived.Test.YtbmebfgapjhchaaGreatDoorVl
import Derived.Test.YtbmebfgapjhchaaGreatDoorVa
namespace Go.Proofs.YtbmebfgapjhchaaGreatDoor
open Go.RowKit
open M
theorem nms_len {ps:List X.Part} {i:Nat} {ns:List X.Nm} (h:X.Nms ps i ns):ns.length≤ps.length:=by
 induction h with
 | nil i=>exact Nat.le_refl _
 | name x ps i ns h ih=>rw [List.length_cons,List.length_cons];omega
 | leaf k x ps i ns hk h ih=>rw [List.length_cons];omega
 | lack ps i ns h ih=>rw [List.length_cons,List.length_cons];omega
 | miss m ps i ns hm h ih=>rw [List.length_cons];omega
theorem rds_len:∀ (ps:List X.Part) {i:Nat} {es:List X.Ex},X.Rds ps i es→es.length≤ps.length
 | [],i,es,h=>by cases h;exact Nat.le_refl _
 | p::ps,i,es,h=>by
  cases h with
  | leaf _ _ _ _ _ h=>have:=rds_len ps h;rw [List.length_cons];omega
  | miss _ _ _ _ _ h=>have:=rds_len ps h;rw [List.length_cons];omega
  | cons _ _ _ e es _ h=>have:=rds_len ps h;rw [List.length_cons,List.length_cons];omega
structure Ent (w:World) (D:Nat→Prop) (ab:Nat) (qs:List X.Part) (i:Nat) (kv:Value):Prop where
 inn:IsRw (w.alloc (.cells #[.pointer (some ⟨ab,0,none⟩),kv] 123)) D w.heap.size ab qs i
 out:∀ (w3:World) (l:List X.Part) (k:Nat),IsRw w3 D w.heap.size ab l k→Kq D w.heap.size ab (w.alloc (.cells #[.pointer (some ⟨ab,0,none⟩),kv] 123)) w3→Psd w3 D ab k∧Kq D ab ab w w3
 dl:∀ q,D q→q<(w.alloc (.cells #[.pointer (some ⟨ab,0,none⟩),kv] 123)).heap.size
 sz:(w.alloc (.cells #[.pointer (some ⟨ab,0,none⟩),kv] 123)).heap.size=w.heap.size+1
 lt:ab<w.heap.size
theorem ent_of {w:World} {D:Nat→Prop} {ab:Nat} {qs:List X.Part} {i:Nat} {kv:Value} (hp:Psd w D ab i) (hk:NdS w D kv qs) (hg:X.Gd qs) (hd:¬ D ab) (hDl:∀ q,D q→q<w.heap.size):Ent w D ab qs i kv:=by
 have kB:Below w.heap.size w (w.alloc (.cells #[.pointer (some ⟨ab,0,none⟩),kv] 123)):=(Below.refl _ w).alloc (Nat.le_refl _) _
 exact ⟨rw_inner hp hk hg hd hDl,fun w3 l k x y=>⟨x.psd,(Kq.ofBelow kB hp.lt).inner y (Nat.le_refl _)⟩,fun q hq=>by have:=hDl q hq;simp;omega,by simp,hp.lt⟩
set_option maxRecDepth 100000 in
set_option maxHeartbeats 4000000 in
theorem hlet_any (D:Nat→Prop) (ab:Nat) (a4:Option Addr) (a5 a6:Nat) (t1 n t2 t3:List X.Part) (p1 p2:X.Part) (nm:X.Nm) (e1 e2:X.Ex) (i:Nat) (w:World) (hp:Psd w D ab i) (hk:NdS w D (.slice a4 a5 a6) (t1++(n++(t2++([p1]++(t3++[p2])))))) (hg:X.Gd (t1++(n++(t2++([p1]++(t3++[p2])))))) (hd:¬ D ab) (h1:X.Tkp t1) (hn:X.Nmp n (i+X.pz t1) nm) (h2:X.Tkp t2) (hv:X.Rd p1 (i+X.pz t1+X.pz n+X.pz t2) e1) (h3:X.Tkp t3) (hb:X.Rd p2 (i+X.pz t1+X.pz n+X.pz t2+X.pz [p1]+X.pz t3) e2) (H1:ExOk p1) (H2:ExOk p2) (hpl:(t1++(n++(t2++([p1]++(t3++[p2]))))).length≤268435456) (hi:i+X.pz (t1++(n++(t2++([p1]++(t3++[p2])))))≤1073741824) (hDl:∀ q,D q→q<w.heap.size) :
  Calls Tryz.prog 97 #[.agg #[.pointer (some ⟨ab,0,none⟩),.slice a4 a5 a6],.int .i64 7] w fun en w'=>∃ v,en=.returned v∧Hid (IsE w' w.heap.size w'.heap.size v (.lett nm e1 e2)∧Psd w' D ab (i+X.pz (t1++(n++(t2++([p1]++(t3++[p2]))))))∧Kq D ab ab w w'):=by
 have HT:=hide (ent_of hp hk hg hd hDl)
 have hsz:=(HT.out).sz
 have hal:=(HT.out).lt
 have HC:=hide (wlet_any D w.heap.size ab t1 n t2 t3 p1 p2 nm e1 e2 i _ (HT.out).inn h1 hn h2 hv h3 hb H1 H2 hi (by omega) (HT.out).dl)
 clear h1 hn h2 hv h3 hb
 clear hp hk hg hd hDl
 go_enter Tryz.func97,Tryz.ntmps97
 go_wp2_with fail
 refine (HC.out).mono ?_
 rintro en w4 ⟨b,rfl,X4⟩
 have HFin:Hid (IsE w4 w.heap.size w4.heap.size (.iface 243 (.pointer (some ⟨b,0,none⟩))) (.lett nm e1 e2)∧Psd w4 D ab (i+X.pz (t1++(n++(t2++([p1]++(t3++[p2]))))))∧Kq D ab ab w w4):=by
  obtain ⟨z1,z2⟩:=(HT.out).out w4 [] _ (X4.out).2.1 (X4.out).2.2
  exact ⟨(X4.out).1.wide (by omega) (Nat.le_refl _),z1,z2⟩
 clear HC X4 HT
 go_wp2_with fail
 go_ret
 exact ⟨_,rfl,HFin⟩
set_option maxRecDepth 100000 in
set_option maxHeartbeats 4000000 in
theorem hfun_any (D:Nat→Prop) (ab:Nat) (a4:Option Addr) (a5 a6:Nat) (t1 qs t2:List X.Part) (p:X.Part) (ns:List X.Nm) (e:X.Ex) (i:Nat) (w:World) (hp:Psd w D ab i) (hk:NdS w D (.slice a4 a5 a6) (t1++([X.Part.br 6 qs]++(t2++[p])))) (hg:X.Gd (t1++([X.Part.br 6 qs]++(t2++[p])))) (hd:¬ D ab) (h1:X.Tkp t1) (hn:X.Nms qs (i+X.pz t1) ns) (h2:X.Tkp t2) (hb:X.Rd p (i+X.pz t1+X.pz qs+X.pz t2) e) (H1:ExOk p) (hpl:(t1++([X.Part.br 6 qs]++(t2++[p]))).length≤268435456) (hql:qs.length≤268435456) (hi:i+X.pz (t1++([X.Part.br 6 qs]++(t2++[p])))≤1073741824) (hDl:∀ q,D q→q<w.heap.size) :
  Calls Tryz.prog 97 #[.agg #[.pointer (some ⟨ab,0,none⟩),.slice a4 a5 a6],.int .i64 9] w fun en w'=>∃ v,en=.returned v∧Hid (IsE w' w.heap.size w'.heap.size v (.fn ns e)∧Psd w' D ab (i+X.pz (t1++([X.Part.br 6 qs]++(t2++[p]))))∧Kq D ab ab w w'):=by
 have HT:=hide (ent_of hp hk hg hd hDl)
 have hsz:=(HT.out).sz
 have hal:=(HT.out).lt
 have hnl:=nms_len hn
 have HC:=hide (wfun_any D w.heap.size ab t1 qs t2 p ns e i _ (HT.out).inn h1 hn h2 hb H1 hi (by omega) hql (by omega) (HT.out).dl)
 clear h1 hn h2 hb
 clear hp hk hg hd hDl
 go_enter Tryz.func97,Tryz.ntmps97
 go_wp2_with fail
 refine (HC.out).mono ?_
 rintro en w4 ⟨b,rfl,X4⟩
 have HFin:Hid (IsE w4 w.heap.size w4.heap.size (.iface 250 (.pointer (some ⟨b,0,none⟩))) (.fn ns e)∧Psd w4 D ab (i+X.pz (t1++([X.Part.br 6 qs]++(t2++[p]))))∧Kq D ab ab w w4):=by
  obtain ⟨z1,z2⟩:=(HT.out).out w4 [] _ (X4.out).2.1 (X4.out).2.2
  exact ⟨(X4.out).1.wide (by omega) (Nat.le_refl _),z1,z2⟩
 clear HC X4 HT
 go_wp2_with fail
 go_ret
 exact ⟨_,rfl,HFin⟩
set_option maxRecDepth 100000 in
set_option maxHeartbeats 4000000 in
theorem hbin_any (D:Nat→Prop) (ab:Nat) (a4:Option Addr) (a5 a6:Nat) (p1 p2:X.Part) (t qs:List X.Part) (k:Nat) (x:List UInt8) (e1 e2:X.Ex) (i:Nat) (w:World) (hp:Psd w D ab i) (hk:NdS w D (.slice a4 a5 a6) ([p1]++(t++[p2]))) (hg:X.Gd ([p1]++(t++[p2]))) (hd:¬ D ab) (hl:X.Rd p1 i e1) (ht:X.Tk1 t k x qs) (hr2:X.Rd p2 (i+X.pz [p1]+X.pz t) e2) (H1:ExOk p1) (H2:ExOk p2) (hpl:([p1]++(t++[p2])).length≤268435456) (hi:i+X.pz ([p1]++(t++[p2]))≤1073741824) (hDl:∀ q,D q→q<w.heap.size) :
  Calls Tryz.prog 97 #[.agg #[.pointer (some ⟨ab,0,none⟩),.slice a4 a5 a6],.int .i64 10] w fun en w'=>∃ v,en=.returned v∧Hid (IsE w' w.heap.size w'.heap.size v (.bin e1 x e2)∧Psd w' D ab (i+X.pz ([p1]++(t++[p2])))∧Kq D ab ab w w'):=by
 have HT:=hide (ent_of hp hk hg hd hDl)
 have hsz:=(HT.out).sz
 have hal:=(HT.out).lt
 have HC:=hide (wbinary_any D w.heap.size ab p1 p2 t qs k x e1 e2 i _ (HT.out).inn hl ht hr2 H1 H2 hi (by omega) (HT.out).dl)
 clear hl ht hr2
 clear hp hk hg hd hDl
 go_enter Tryz.func97,Tryz.ntmps97
 go_wp2_with fail
 refine (HC.out).mono ?_
 rintro en w4 ⟨b,rfl,X4⟩
 have HFin:Hid (IsE w4 w.heap.size w4.heap.size (.iface 252 (.pointer (some ⟨b,0,none⟩))) (.bin e1 x e2)∧Psd w4 D ab (i+X.pz ([p1]++(t++[p2])))∧Kq D ab ab w w4):=by
  obtain ⟨z1,z2⟩:=(HT.out).out w4 [] _ (X4.out).2.1 (X4.out).2.2
  exact ⟨(X4.out).1.wide (by omega) (Nat.le_refl _),z1,z2⟩
 clear HC X4 HT
 go_wp2_with fail
 go_ret
 exact ⟨_,rfl,HFin⟩
set_option maxRecDepth 100000 in
set_option maxHeartbeats 4000000 in
theorem hcall_any (D:Nat→Prop) (ab:Nat) (a4:Option Addr) (a5 a6:Nat) (p:X.Part) (gs:List X.Part) (e:X.Ex) (es:List X.Ex) (i:Nat) (w:World) (hp:Psd w D ab i) (hk:NdS w D (.slice a4 a5 a6) ([p]++[X.Part.br 12 gs])) (hg:X.Gd ([p]++[X.Part.br 12 gs])) (hd:¬ D ab) (hc:X.Rd p i e) (hgs:X.Rds gs (i+X.pz [p]) es) (H1:ExOk p) (HE:∀ q∈gs,ExOk q) (hql:gs.length≤268435456) (hi:i+X.pz ([p]++[X.Part.br 12 gs])≤1073741824) (hDl:∀ q,D q→q<w.heap.size) :
  Calls Tryz.prog 97 #[.agg #[.pointer (some ⟨ab,0,none⟩),.slice a4 a5 a6],.int .i64 11] w fun en w'=>∃ v,en=.returned v∧Hid (IsE w' w.heap.size w'.heap.size v (.call e es)∧Psd w' D ab (i+X.pz ([p]++[X.Part.br 12 gs]))∧Kq D ab ab w w'):=by
 have HT:=hide (ent_of hp hk hg hd hDl)
 have hsz:=(HT.out).sz
 have hal:=(HT.out).lt
 have hel:=rds_len gs hgs
 have HC:=hide (wcall_any D w.heap.size ab p gs e es i _ (HT.out).inn hc hgs H1 HE hi hql (by omega) (HT.out).dl)
 clear hc hgs HE
 clear hp hk hg hd hDl
 go_enter Tryz.func97,Tryz.ntmps97
 go_wp2_with fail
 refine (HC.out).mono ?_
 rintro en w4 ⟨b,rfl,X4⟩
 have HFin:Hid (IsE w4 w.heap.size w4.heap.size (.iface 254 (.pointer (some ⟨b,0,none⟩))) (.call e es)∧Psd w4 D ab (i+X.pz ([p]++[X.Part.br 12 gs]))∧Kq D ab ab w w4):=by
  obtain ⟨z1,z2⟩:=(HT.out).out w4 [] _ (X4.out).2.1 (X4.out).2.2
  exact ⟨(X4.out).1.wide (by omega) (Nat.le_refl _),z1,z2⟩
 clear HC X4 HT
 go_wp2_with fail
 go_ret
 exact ⟨_,rfl,HFin⟩
set_option maxRecDepth 100000 in
set_option maxHeartbeats 4000000 in
theorem hhole_any (D:Nat→Prop) (ab:Nat) (a4:Option Addr) (a5 a6:Nat) (t qs:List X.Part) (k:Nat) (x:List UInt8) (j:Nat) (i:Nat) (w:World) (hp:Psd w D ab i) (hk:NdS w D (.slice a4 a5 a6) t) (hg:X.Gd t) (hd:¬ D ab) (ht:X.Tk1 t k x qs) (hpl:t.length≤268435456) (hi:i+X.pz t≤1073741824) (hDl:∀ q,D q→q<w.heap.size) :
  Calls Tryz.prog 97 #[.agg #[.pointer (some ⟨ab,0,none⟩),.slice a4 a5 a6],.int .i64 19] w fun en w'=>∃ v,en=.returned v∧Hid (IsE w' w.heap.size w'.heap.size v (.hole j)∧Psd w' D ab (i+X.pz t)∧Kq D ab ab w w'):=by
 have HT:=hide (ent_of hp hk hg hd hDl)
 have hsz:=(HT.out).sz
 have hal:=(HT.out).lt
 have hin:=(HT.out).inn
 rw [← List.append_nil t] at hin
 have HC:=hide (wpass_any D w.heap.size ab t qs _ [] i _ hin ht.tk0 (by rw [List.append_nil];exact hi) (by rw [List.append_nil];omega) (HT.out).dl)
 clear ht hin
 clear hp hk hg hd hDl
 go_enter Tryz.func97,Tryz.ntmps97
 go_wp2_with fail
 refine (HC.out).mono ?_
 rintro en w4 ⟨f4,f5,f6,rfl,X4⟩
 have K4:Hid (Psd w4 D ab (i+X.pz t)∧Kq D ab ab w w4):=(HT.out).out w4 [] _ (X4.out).1 (X4.out).2
 have hs4:=(K4.out).2.size
 have kB:Below w4.heap.size w4 (w4.alloc (.cells #[.int .i64 0,.int .i64 0,.bool false] 266)):=(Below.refl _ w4).alloc (Nat.le_refl _) _
 have HFin:Hid (IsE (w4.alloc (.cells #[.int .i64 0,.int .i64 0,.bool false] 266)) w.heap.size (w4.alloc (.cells #[.int .i64 0,.int .i64 0,.bool false] 266)).heap.size (.iface 265 (.pointer (some ⟨w4.heap.size,0,none⟩))) (.hole j)∧Psd (w4.alloc (.cells #[.int .i64 0,.int .i64 0,.bool false] 266)) D ab (i+X.pz t)∧Kq D ab ab w (w4.alloc (.cells #[.int .i64 0,.int .i64 0,.bool false] 266))):=⟨.hole _ j ⟨hs4,by simp⟩ (heap_alloc_new w4 _),(K4.out).1.below kB,(K4.out).2.more kB hal⟩
 clear HC X4 HT K4 kB
 go_wp2_with fail
 go_ret
 exact ⟨_,rfl,HFin⟩
set_option maxRecDepth 100000 in
set_option maxHeartbeats 4000000 in
theorem hvar_any (D:Nat→Prop) (ab:Nat) (a4:Option Addr) (a5 a6:Nat) (t qs:List X.Part) (x:List UInt8) (i:Nat) (w:World) (hp:Psd w D ab i) (hk:NdS w D (.slice a4 a5 a6) t) (hg:X.Gd t) (hd:¬ D ab) (ht:X.Tk1 t 3 x qs) (hpl:t.length≤268435456) (hi:i+X.pz t≤1073741824) (hDl:∀ q,D q→q<w.heap.size) :
  Calls Tryz.prog 97 #[.agg #[.pointer (some ⟨ab,0,none⟩),.slice a4 a5 a6],.int .i64 18] w fun en w'=>∃ v,en=.returned v∧Hid (IsE w' w.heap.size w'.heap.size v (.var (x,i+X.pz qs))∧Psd w' D ab (i+X.pz t)∧Kq D ab ab w w'):=by
 have HT:=hide (ent_of hp hk hg hd hDl)
 have hsz:=(HT.out).sz
 have hal:=(HT.out).lt
 have hnm:=X.Nmp.name t x qs i ht
 have hin:=(HT.out).inn
 rw [← List.append_nil t] at hin
 have HC:=hide (wname_any D w.heap.size ab t (x,i+X.pz qs) [] i _ hin hnm (by rw [List.append_nil];exact hi) (by rw [List.append_nil];omega) (HT.out).dl)
 clear ht hin hnm
 clear hp hk hg hd hDl
 go_enter Tryz.func97,Tryz.ntmps97
 go_wp2_with fail
 refine (HC.out).mono ?_
 rintro en w4 ⟨rfl,X4⟩
 have K4:Hid (Psd w4 D ab (i+X.pz t)∧Kq D ab ab w w4):=(HT.out).out w4 [] _ (X4.out).1 (X4.out).2
 have hs4:=(K4.out).2.size
 have kB:Below w4.heap.size w4 (w4.alloc (.cells #[.int .i64 0,.int .i64 0,.bool false,.string (ba x),.int .i64 ((i:Int)+(X.pz qs:Int))] 264)):=(Below.refl _ w4).alloc (Nat.le_refl _) _
 have HFin:Hid (IsE (w4.alloc (.cells #[.int .i64 0,.int .i64 0,.bool false,.string (ba x),.int .i64 ((i:Int)+(X.pz qs:Int))] 264)) w.heap.size (w4.alloc (.cells #[.int .i64 0,.int .i64 0,.bool false,.string (ba x),.int .i64 ((i:Int)+(X.pz qs:Int))] 264)).heap.size (.iface 262 (.pointer (some ⟨w4.heap.size,0,none⟩))) (.var (x,i+X.pz qs))∧Psd (w4.alloc (.cells #[.int .i64 0,.int .i64 0,.bool false,.string (ba x),.int .i64 ((i:Int)+(X.pz qs:Int))] 264)) D ab (i+X.pz t)∧Kq D ab ab w (w4.alloc (.cells #[.int .i64 0,.int .i64 0,.bool false,.string (ba x),.int .i64 ((i:Int)+(X.pz qs:Int))] 264))):=⟨.var _ _ ⟨hs4,by simp⟩ (by rw [Int.natCast_add];exact heap_alloc_new w4 _),(K4.out).1.below kB,(K4.out).2.more kB hal⟩
 clear HC X4 HT K4 kB
 go_wp2_with fail
 go_ret
 exact ⟨_,rfl,HFin⟩
set_option maxRecDepth 100000 in
set_option maxHeartbeats 4000000 in
theorem hlit_any (D:Nat→Prop) (ab:Nat) (a4:Option Addr) (a5 a6:Nat) (t qs:List X.Part) (k u:Nat) (x:List UInt8) (i:Nat) (w:World) (hp:Psd w D ab i) (hk:NdS w D (.slice a4 a5 a6) t) (hg:X.Gd t) (hd:¬ D ab) (hk2:15≤k∧k≤17) (ht:X.Tk1 t u x qs) (hpl:t.length≤268435456) (hi:i+X.pz t≤1073741824) (hDl:∀ q,D q→q<w.heap.size) :
  Calls Tryz.prog 97 #[.agg #[.pointer (some ⟨ab,0,none⟩),.slice a4 a5 a6],.int .i64 k] w fun en w'=>∃ v,en=.returned v∧Hid (IsE w' w.heap.size w'.heap.size v (.lit k x)∧Psd w' D ab (i+X.pz t)∧Kq D ab ab w w'):=by
 have HT:=hide (ent_of hp hk hg hd hDl)
 have hsz:=(HT.out).sz
 have hal:=(HT.out).lt
 have hin:=(HT.out).inn
 rw [← List.append_nil t] at hin
 have HC:=hide (wpass_any D w.heap.size ab t qs _ [] i _ hin ht.tk0 (by rw [List.append_nil];exact hi) (by rw [List.append_nil];omega) (HT.out).dl)
 have hfl:=fld_text
 clear ht hin
 have n1:((k:Int)==1)=false:=by simp;omega
 have n7:((k:Int)==7)=false:=by simp;omega
 have n8:((k:Int)==8)=false:=by simp;omega
 have n9:((k:Int)==9)=false:=by simp;omega
 have n10:((k:Int)==10)=false:=by simp;omega
 have n11:((k:Int)==11)=false:=by simp;omega
 have n13:((k:Int)==13)=false:=by simp;omega
 have n14:((k:Int)==14)=false:=by simp;omega
 have n18:((k:Int)==18)=false:=by simp;omega
 have n19:((k:Int)==19)=false:=by simp;omega
 clear hp hk hg hd hDl
 go_enter Tryz.func97,Tryz.ntmps97
 go_wp2_with fail
 refine (HC.out).mono ?_
 rintro en w4 ⟨f4,f5,f6,rfl,X4⟩
 have hnt:X.ntx (.leaf u x)=x:=rfl
 rw [hnt]
 have K4:Hid (Psd w4 D ab (i+X.pz t)∧Kq D ab ab w w4):=(HT.out).out w4 [] _ (X4.out).1 (X4.out).2
 have hs4:=(K4.out).2.size
 have kB:Below w4.heap.size w4 (w4.alloc (.cells #[.int .i64 0,.int .i64 0,.bool false,.int .i64 k,.string (ba x)] 269)):=(Below.refl _ w4).alloc (Nat.le_refl _) _
 have HFin:Hid (IsE (w4.alloc (.cells #[.int .i64 0,.int .i64 0,.bool false,.int .i64 k,.string (ba x)] 269)) w.heap.size (w4.alloc (.cells #[.int .i64 0,.int .i64 0,.bool false,.int .i64 k,.string (ba x)] 269)).heap.size (.iface 267 (.pointer (some ⟨w4.heap.size,0,none⟩))) (.lit k x)∧Psd (w4.alloc (.cells #[.int .i64 0,.int .i64 0,.bool false,.int .i64 k,.string (ba x)] 269)) D ab (i+X.pz t)∧Kq D ab ab w (w4.alloc (.cells #[.int .i64 0,.int .i64 0,.bool false,.int .i64 k,.string (ba x)] 269))):=⟨.lit _ k x ⟨hs4,by simp⟩ (heap_alloc_new w4 _),(K4.out).1.below kB,(K4.out).2.more kB hal⟩
 clear HC X4 HT K4 kB
 go_wp2_with fail
 go_ret
 exact ⟨_,rfl,HFin⟩
set_option maxRecDepth 100000 in
set_option maxHeartbeats 4000000 in
theorem hlist_any (D:Nat→Prop) (ab:Nat) (a4:Option Addr) (a5 a6:Nat) (qs:List X.Part) (es:List X.Ex) (i:Nat) (w:World) (hp:Psd w D ab i) (hk:NdS w D (.slice a4 a5 a6) qs) (hg:X.Gd qs) (hd:¬ D ab) (hr0:X.Rds qs i es) (HE:∀ p∈qs,ExOk p) (hql:qs.length≤268435456) (hi:i+X.pz qs≤1073741824) (hDl:∀ q,D q→q<w.heap.size) :
  Calls Tryz.prog 97 #[.agg #[.pointer (some ⟨ab,0,none⟩),.slice a4 a5 a6],.int .i64 13] w fun en w'=>∃ v,en=.returned v∧Hid (IsE w' w.heap.size w'.heap.size v (.list es)∧Psd w' D ab (i+X.pz qs)∧Kq D ab ab w w'):=by
 have HT:=hide (ent_of hp hk hg hd hDl)
 have hsz:=(HT.out).sz
 have hal:=(HT.out).lt
 have hel:=rds_len qs hr0
 have HC:=hide (wexpressions_any D w.heap.size ab qs es i _ (HT.out).inn hr0 HE hi hql (by omega) (HT.out).dl)
 clear hr0 HE
 clear hp hk hg hd hDl
 go_enter Tryz.func97,Tryz.ntmps97
 go_wp2_with fail
 refine (HC.out).mono ?_
 rintro en w4 ⟨rv,rfl,X4⟩
 obtain ⟨ao,cp,vs,hrv,hq1,hq2,hrr,hpp⟩:=(X4.out).1.ex
 subst hrv
 have K4:Hid (Psd w4 D ab (i+X.pz qs)∧Kq D ab ab w w4):=(HT.out).out w4 [] _ (X4.out).2.1 (X4.out).2.2
 have hs4:=(K4.out).2.size
 have kB:Below w4.heap.size w4 (w4.alloc (.cells #[.int .i64 0,.int .i64 0,.bool false,.slice ao es.length cp] 258)):=(Below.refl _ w4).alloc (Nat.le_refl _) _
 have HFin:Hid (IsE (w4.alloc (.cells #[.int .i64 0,.int .i64 0,.bool false,.slice ao es.length cp] 258)) w.heap.size (w4.alloc (.cells #[.int .i64 0,.int .i64 0,.bool false,.slice ao es.length cp] 258)).heap.size (.iface 256 (.pointer (some ⟨w4.heap.size,0,none⟩))) (.list es)∧Psd (w4.alloc (.cells #[.int .i64 0,.int .i64 0,.bool false,.slice ao es.length cp] 258)) D ab (i+X.pz qs)∧Kq D ab ab w (w4.alloc (.cells #[.int .i64 0,.int .i64 0,.bool false,.slice ao es.length cp] 258))):=⟨.list _ ao cp vs es ⟨hs4,by simp⟩ (heap_alloc_new w4 _) ⟨hq1,hq2⟩ (fun j hj=>by obtain ⟨q,e1,e2,e3,e4,c,f,e5⟩:=hrr j hj;exact ⟨q,e1,by omega,by simp;omega,(Kp.ofBelow kB (fun _=>False)).cellv e4 id,c,f,(Kp.ofBelow kB (fun _=>False)).heap e5 id⟩) (fun j e' hj=>((hpp j e' hj).keep (Kp.ofBelow kB (fun _=>False)) (fun _ _ _=>id)).wide (by omega) (by simp)),(K4.out).1.below kB,(K4.out).2.more kB hal⟩
 clear HC X4 HT K4 kB hrr hpp
 go_wp2_with fail
 go_ret
 exact ⟨_,rfl,HFin⟩
set_option maxRecDepth 100000 in
set_option maxHeartbeats 4000000 in
theorem hgroup_any (D:Nat→Prop) (ab:Nat) (a4:Option Addr) (a5 a6:Nat) (qs:List X.Part) (e:X.Ex) (i:Nat) (w:World) (hp:Psd w D ab i) (hk:NdS w D (.slice a4 a5 a6) qs) (hg:X.Gd qs) (hd:¬ D ab) (hr0:X.Rds qs i [e]) (HE:∀ p∈qs,ExOk p) (hql:qs.length≤268435456) (hi:i+X.pz qs≤1073741824) (hDl:∀ q,D q→q<w.heap.size) :
  Calls Tryz.prog 97 #[.agg #[.pointer (some ⟨ab,0,none⟩),.slice a4 a5 a6],.int .i64 14] w fun en w'=>∃ v,en=.returned v∧Hid (IsE w' w.heap.size w'.heap.size v (.group e)∧Psd w' D ab (i+X.pz qs)∧Kq D ab ab w w'):=by
 have HT:=hide (ent_of hp hk hg hd hDl)
 have hsz:=(HT.out).sz
 have hal:=(HT.out).lt
 have hel:=rds_len qs hr0
 have HC:=hide (wexpressions_any D w.heap.size ab qs [e] i _ (HT.out).inn hr0 HE hi hql (by omega) (HT.out).dl)
 clear hr0 HE
 clear hp hk hg hd hDl
 go_enter Tryz.func97,Tryz.ntmps97
 go_wp2_with fail
 refine (HC.out).mono ?_
 rintro en w4 ⟨rv,rfl,X4⟩
 obtain ⟨ao,cp,vs,hrv,hq1,hq2,hrr,hpp⟩:=(X4.out).1.ex
 subst hrv
 obtain ⟨q,rfl,e2,e3,e4,-⟩:=hrr 0 (by simp)
 have hx:=hpp 0 e rfl
 obtain ⟨y1,g1,hv1⟩:=hx.iface
 rw [hv1] at hx e4
 have K4:Hid (Psd w4 D ab (i+X.pz qs)∧Kq D ab ab w w4):=(HT.out).out w4 [] _ (X4.out).2.1 (X4.out).2.2
 have hs4:=(K4.out).2.size
 have kB:Below w4.heap.size w4 (w4.alloc (.cells #[.int .i64 0,.int .i64 0,.bool false,.iface y1 (.pointer (some ⟨g1,0,none⟩))] 261)):=(Below.refl _ w4).alloc (Nat.le_refl _) _
 have HFin:Hid (IsE (w4.alloc (.cells #[.int .i64 0,.int .i64 0,.bool false,.iface y1 (.pointer (some ⟨g1,0,none⟩))] 261)) w.heap.size (w4.alloc (.cells #[.int .i64 0,.int .i64 0,.bool false,.iface y1 (.pointer (some ⟨g1,0,none⟩))] 261)).heap.size (.iface 259 (.pointer (some ⟨w4.heap.size,0,none⟩))) (.group e)∧Psd (w4.alloc (.cells #[.int .i64 0,.int .i64 0,.bool false,.iface y1 (.pointer (some ⟨g1,0,none⟩))] 261)) D ab (i+X.pz qs)∧Kq D ab ab w (w4.alloc (.cells #[.int .i64 0,.int .i64 0,.bool false,.iface y1 (.pointer (some ⟨g1,0,none⟩))] 261))):=⟨.group _ _ e ⟨hs4,by simp⟩ (heap_alloc_new w4 _) ((hx.keep (Kp.ofBelow kB (fun _=>False)) (fun _ _ _=>id)).wide (by omega) (by simp)),(K4.out).1.below kB,(K4.out).2.more kB hal⟩
 clear HC X4 HT K4 kB hrr hpp hx
 go_wp2_with fail
 go_ret
 exact ⟨_,rfl,HFin⟩
set_option maxRecDepth 100000 in
set_option maxHeartbeats 4000000 in
theorem hite_any (D:Nat→Prop) (ab:Nat) (a4:Option Addr) (a5 a6:Nat) (qs:List X.Part) (e1 e2 e3:X.Ex) (i:Nat) (w:World) (hp:Psd w D ab i) (hk:NdS w D (.slice a4 a5 a6) qs) (hg:X.Gd qs) (hd:¬ D ab) (hr0:X.Rds qs i [e1,e2,e3]) (HE:∀ p∈qs,ExOk p) (hql:qs.length≤268435456) (hi:i+X.pz qs≤1073741824) (hDl:∀ q,D q→q<w.heap.size) :
  Calls Tryz.prog 97 #[.agg #[.pointer (some ⟨ab,0,none⟩),.slice a4 a5 a6],.int .i64 8] w fun en w'=>∃ v,en=.returned v∧Hid (IsE w' w.heap.size w'.heap.size v (.ite e1 e2 e3)∧Psd w' D ab (i+X.pz qs)∧Kq D ab ab w w'):=by
 have HT:=hide (ent_of hp hk hg hd hDl)
 have hsz:=(HT.out).sz
 have hal:=(HT.out).lt
 have hel:=rds_len qs hr0
 have HC:=hide (wexpressions_any D w.heap.size ab qs [e1,e2,e3] i _ (HT.out).inn hr0 HE hi hql (by omega) (HT.out).dl)
 clear hr0 HE
 clear hp hk hg hd hDl
 go_enter Tryz.func97,Tryz.ntmps97
 go_wp2_with fail
 refine (HC.out).mono ?_
 rintro en w4 ⟨rv,rfl,X4⟩
 obtain ⟨ao,cp,vs,hrv,hq1,hq2,hrr,hpp⟩:=(X4.out).1.ex
 subst hrv
 obtain ⟨q,rfl,b2,b3,b4,-⟩:=hrr 0 (by simp)
 obtain ⟨q',hq',-,-,b5,-⟩:=hrr 1 (by simp)
 obtain ⟨q'',hq'',-,-,b6,-⟩:=hrr 2 (by simp)
 cases hq'
 cases hq''
 have hx:=hpp 0 e1 rfl
 have hx2:=hpp 1 e2 rfl
 have hx3:=hpp 2 e3 rfl
 obtain ⟨y1,g1,hv1⟩:=hx.iface
 obtain ⟨y2,g2,hv2⟩:=hx2.iface
 obtain ⟨y3,g3,hv3⟩:=hx3.iface
 rw [hv1] at hx b4
 rw [hv2] at hx2 b5
 rw [hv3] at hx3 b6
 have K4:Hid (Psd w4 D ab (i+X.pz qs)∧Kq D ab ab w w4):=(HT.out).out w4 [] _ (X4.out).2.1 (X4.out).2.2
 have hs4:=(K4.out).2.size
 have kB:Below w4.heap.size w4 (w4.alloc (.cells #[.int .i64 0,.int .i64 0,.bool false,.iface y1 (.pointer (some ⟨g1,0,none⟩)),.iface y2 (.pointer (some ⟨g2,0,none⟩)),.iface y3 (.pointer (some ⟨g3,0,none⟩))] 249)):=(Below.refl _ w4).alloc (Nat.le_refl _) _
 have HFin:Hid (IsE (w4.alloc (.cells #[.int .i64 0,.int .i64 0,.bool false,.iface y1 (.pointer (some ⟨g1,0,none⟩)),.iface y2 (.pointer (some ⟨g2,0,none⟩)),.iface y3 (.pointer (some ⟨g3,0,none⟩))] 249)) w.heap.size (w4.alloc (.cells #[.int .i64 0,.int .i64 0,.bool false,.iface y1 (.pointer (some ⟨g1,0,none⟩)),.iface y2 (.pointer (some ⟨g2,0,none⟩)),.iface y3 (.pointer (some ⟨g3,0,none⟩))] 249)).heap.size (.iface 247 (.pointer (some ⟨w4.heap.size,0,none⟩))) (.ite e1 e2 e3)∧Psd (w4.alloc (.cells #[.int .i64 0,.int .i64 0,.bool false,.iface y1 (.pointer (some ⟨g1,0,none⟩)),.iface y2 (.pointer (some ⟨g2,0,none⟩)),.iface y3 (.pointer (some ⟨g3,0,none⟩))] 249)) D ab (i+X.pz qs)∧Kq D ab ab w (w4.alloc (.cells #[.int .i64 0,.int .i64 0,.bool false,.iface y1 (.pointer (some ⟨g1,0,none⟩)),.iface y2 (.pointer (some ⟨g2,0,none⟩)),.iface y3 (.pointer (some ⟨g3,0,none⟩))] 249))):=⟨.ite _ _ _ _ e1 e2 e3 ⟨hs4,by simp⟩ (heap_alloc_new w4 _) ((hx.keep (Kp.ofBelow kB (fun _=>False)) (fun _ _ _=>id)).wide (by omega) (by simp)) ((hx2.keep (Kp.ofBelow kB (fun _=>False)) (fun _ _ _=>id)).wide (by omega) (by simp)) ((hx3.keep (Kp.ofBelow kB (fun _=>False)) (fun _ _ _=>id)).wide (by omega) (by simp)),(K4.out).1.below kB,(K4.out).2.more kB hal⟩
 clear HC X4 HT K4 hrr hpp hx hx2 hx3
 have b4':w4.cell? ⟨q,0,none⟩=some (.iface y1 (.pointer (some ⟨g1,0,none⟩))):=b4
 have b5':w4.cell? ⟨q,1,none⟩=some (.iface y2 (.pointer (some ⟨g2,0,none⟩))):=b5
 have b6':w4.cell? ⟨q,2,none⟩=some (.iface y3 (.pointer (some ⟨g3,0,none⟩))):=b6
 have hq4:q<w4.heap.size:=World.block_lt_of_cell? _ _ b4'
 clear b4 b5 b6
 go_wp2_with fail
 go_region_held3 (fun w'=>w'.cell? ⟨q,0,none⟩=some (.iface y1 (.pointer (some ⟨g1,0,none⟩)))∧w'.cell? ⟨q,1,none⟩=some (.iface y2 (.pointer (some ⟨g2,0,none⟩)))∧w'.cell? ⟨q,2,none⟩=some (.iface y3 (.pointer (some ⟨g3,0,none⟩))))
  (first|(with_reducible exact ⟨b4',b5',b6'⟩)|(with_reducible exact ⟨Lib.cell?_alloc_some _ b4',Lib.cell?_alloc_some _ b5',Lib.cell?_alloc_some _ b6'⟩)|go_keep)
  (fail)
 go_wp2_with fail
 go_ret
 have kD:=(Below.refl (w4.alloc (.cells #[.int .i64 0,.int .i64 0,.bool false,.iface y1 (.pointer (some ⟨g1,0,none⟩)),.iface y2 (.pointer (some ⟨g2,0,none⟩)),.iface y3 (.pointer (some ⟨g3,0,none⟩))] 249)).heap.size (w4.alloc (.cells #[.int .i64 0,.int .i64 0,.bool false,.iface y1 (.pointer (some ⟨g1,0,none⟩)),.iface y2 (.pointer (some ⟨g2,0,none⟩)),.iface y3 (.pointer (some ⟨g3,0,none⟩))] 249))).drew
 exact ⟨_,rfl,((HFin.out).1.keep (Kp.ofBelow kD (fun _=>False)) (fun _ _ _=>id)),(HFin.out).2.1.below kD,(HFin.out).2.2.more kD hal⟩
set_option maxRecDepth 100000 in
set_option maxHeartbeats 4000000 in
theorem hmissing_any (D:Nat→Prop) (ab:Nat) (a4:Option Addr) (a5 a6:Nat)  (i:Nat) (w:World) (hp:Psd w D ab i) (hk:NdS w D (.slice a4 a5 a6) []) (hg:X.Gd []) (hd:¬ D ab)  (_hi:i+X.pz []≤1073741824) (hDl:∀ q,D q→q<w.heap.size) :
  Calls Tryz.prog 97 #[.agg #[.pointer (some ⟨ab,0,none⟩),.slice a4 a5 a6],.int .i64 1] w fun en w'=>∃ v,en=.returned v∧Hid (IsE w' w.heap.size w'.heap.size v .missing∧Psd w' D ab (i+X.pz [])∧Kq D ab ab w w'):=by
 have HT:=hide (ent_of hp hk hg hd hDl)
 have hsz:=(HT.out).sz
 have hal:=(HT.out).lt
 clear hp hk hg hd hDl
 go_enter Tryz.func97,Tryz.ntmps97
 have HFin:Hid (∀ W b,W.heap.size=b→Psd W D ab i∧Kq D ab ab w W→IsE (W.alloc (.cells #[.int .i64 0,.int .i64 0,.bool false] 242)) w.heap.size (W.alloc (.cells #[.int .i64 0,.int .i64 0,.bool false] 242)).heap.size (.iface 240 (.pointer (some ⟨b,0,none⟩))) .missing∧Psd (W.alloc (.cells #[.int .i64 0,.int .i64 0,.bool false] 242)) D ab (i+X.pz [])∧Kq D ab ab w (W.alloc (.cells #[.int .i64 0,.int .i64 0,.bool false] 242))):=fun W b hb hK=>by
  subst hb
  have hs4:=hK.2.size
  have kB:Below W.heap.size W (W.alloc (.cells #[.int .i64 0,.int .i64 0,.bool false] 242)):=(Below.refl _ W).alloc (Nat.le_refl _) _
  exact ⟨.missing _ ⟨hs4,by simp⟩ (heap_alloc_new W _),hK.1.below kB,hK.2.more kB hal⟩
 have K4:=hide ((HT.out).out _ [] i (HT.out).inn (Kq.refl _ _ _ _))
 clear HT
 go_wp2_with fail
 go_ret
 exact ⟨_,rfl,hide ((HFin.out) _ _ (by simp) K4.out)⟩
end Go.Proofs.YtbmebfgapjhchaaGreatDoor
/- Package syntax: where an expression stands;an expression,of whatever kind. -/
namespace Go.Proofs.YtbmebfgapjhchaaGreatDoor
open Go.RowKit
open M
theorem res_ext {fn:Func} {t:Tmp} (h:fn.results=#[.cell t 218]) (tmps:Array Value) (W:World) {b:Nat} {a1 a2:Int} {a3:Bool} (ht:tmps[t]?.getD undef=.pointer (some ⟨b,0,none⟩)) (hb:W.heap[b]?=some (.cells #[.int .i64 a1,.int .i64 a2,.bool a3] 218 (0,0))) :
  (results fn tmps).run Tryz.prog W=.ok (.agg #[.int .i64 a1,.int .i64 a2,.bool a3]) W:=by
 have m0:=cell_of_row W _ 0 _ _ _ hb
 have m1:=cell_of_row W _ 1 _ _ _ hb
 have m2:=cell_of_row W _ 2 _ _ _ hb
 simp [results,h,go_sem,ht,m0,m1,m2]
theorem set3_own {W:World} {b:Nat} {x0 x1 x2 y0 y1 y2:Value} {t:TypeId} (h:W.heap[b]?=some (.cells #[y0,y1,y2] t (0,0))):(((W.setCell ⟨b,0,none⟩ x0).setCell ⟨b,1,none⟩ x1).setCell ⟨b,2,none⟩ x2).heap[b]?=some (.cells #[x0,x1,x2] t (0,0)):=by
 simp [World.setCell,Array.getElem?_modify,h]
theorem below_set3 {w W:World} (h:Below w.heap.size w W) {b:Nat} (hb:w.heap.size≤b) (x0 x1 x2:Value):Below w.heap.size w (((W.setCell ⟨b,0,none⟩ x0).setCell ⟨b,1,none⟩ x1).setCell ⟨b,2,none⟩ x2):=by
 have hk:Kp (fun q=>q=b) W (((W.setCell ⟨b,0,none⟩ x0).setCell ⟨b,1,none⟩ x1).setCell ⟨b,2,none⟩ x2):=On.set (On.set (On.set (Kp.refl _ W) 0 _) 1 _) 2 _
 exact h.trans (hk.below h.size (fun k e=>by omega))
set_option maxRecDepth 100000 in
set_option maxHeartbeats 2000000 in
theorem psince_any (D:Nat→Prop) (ab i t:Nat) (gz:Int) (w:World) (h:Psd w D ab i) (ht:t≤nbg ab w) :
  Calls Tryz.prog 98 #[.pointer (some ⟨ab,0,none⟩),.int .i64 t,.int .i64 gz] w fun e w'=>∃ (a1 a2:Int) (a3:Bool),e=.returned (.agg #[.int .i64 a1,.int .i64 a2,.bool a3])∧Below w.heap.size w w':=by
 obtain ⟨bv,bl,en,gp,hp,ho,hl,-⟩:=h.ex
 obtain ⟨bo,bc,rfl,hbm⟩:=owns_slice ho
 rw [nbg_of hp] at ht
 have hal:=heap_lt hp
 have kA:Below w.heap.size w (w.alloc (.cells #[.int .i64 0,.int .i64 0,.bool false] 218)):=(Below.refl _ w).alloc (Nat.le_refl _) _
 have hZ:=heap_alloc_new w (.cells #[.int .i64 0,.int .i64 0,.bool false] 218)
 have HKA:=hide kA
 have hp1:=(Kp.ofBelow kA (fun _=>False)).heap hp id
 have ho1:=(Kp.ofBelow kA (fun _=>False)).owns ho (fun _ _=>id)
 clear h hp ho kA
 go_enter Tryz.func98,Tryz.ntmps98
 go_upto_region 1 with fail
 generalize w.alloc (.cells #[.int .i64 0,.int .i64 0,.bool false] 218)=W at *
 have c1:=cell_of_row W _ 1 _ _ _ hp1
 have c2:=cell_of_row W _ 2 _ _ _ hp1
 have c3:=cell_of_row W _ 3 _ _ _ hp1
 have e0:W.cell? ⟨w.heap.size,0,none⟩=some (.int .i64 0):=cell_of_row W _ 0 _ _ _ hZ
 have e1:W.cell? ⟨w.heap.size,1,none⟩=some (.int .i64 0):=cell_of_row W _ 1 _ _ _ hZ
 have e2:W.cell? ⟨w.heap.size,2,none⟩=some (.bool false):=cell_of_row W _ 2 _ _ _ hZ
 have q0:=frzB hZ 0
 have q1:=frzB hZ 1
 have q2:=frzB hZ 2
 have HZ:=hide hZ
 clear hp1 hZ
 by_cases he:bl.length=t
 ·subst he
  clear ho1 ht
  go_wp2_with fail
  exact bodyPost_ret (res_ext rfl _ _ (b:=w.heap.size) rfl (set3_own HZ.out)) rfl ⟨_,_,_,rfl,below_set3 HKA.out (Nat.le_refl _) _ _ _⟩
 ·have i1:((bl.length:Int)==(t:Int))=false:=by simp;omega
  have hlt:t<bl.length:=by omega
  have hlt2:(t:Int)<(bl.length:Int):=by omega
  obtain ⟨b,hb⟩:∃ b,bl[t]?=some b:=⟨_,List.getElem?_eq_getElem hlt⟩
  have hbo:∃ g,bo=some ⟨g,0,none⟩∧W.cell? ⟨g,t,none⟩=some (.int .i64 b):=by
   have hc:=fun g hg=>ho1.cells (g:=g) hg
   rcases ho1.2 with ⟨e,h0⟩|⟨g,cap,cur,e,-⟩
   ·omega
   ·injection e with e1 e2 e3
    subst e1
    refine ⟨g,rfl,?_⟩
    have:=hc g rfl t (.int .i64 b) (by rw [List.getElem?_map,hb];rfl)
    rwa [Addr.add_lit,Nat.zero_add] at this
  obtain ⟨g,rfl,hcg⟩:=hbo
  clear ho1 hb
  go_wp2_with fail
  go_region
  go_wp2_with fail
  have kD:Below w.heap.size w W.drew:=(HKA.out).trans ((Below.refl _ W).drew.mono (HKA.out).size)
  exact bodyPost_ret (res_ext rfl _ _ (b:=w.heap.size) rfl (set3_own (show W.drew.heap[w.heap.size]?=_ from HZ.out))) rfl ⟨_,_,_,rfl,below_set3 kD (Nat.le_refl _) _ _ _⟩
set_option maxRecDepth 100000 in
set_option maxHeartbeats 2000000 in
theorem xstand_any (b:Nat) (m n m' n':Int) (z z':Bool) (r:List Value) (T:TypeId) (w:World) (hb:w.heap[b]?=some (.cells (List.toArray (.int .i64 m::.int .i64 n::.bool z::r)) T (0,0))) :
  Calls Tryz.prog 196 #[.pointer (some ⟨b,0,none⟩),.agg #[.int .i64 m',.int .i64 n',.bool z']] w fun e w'=>e=.returned (.tuple #[])∧Below (((w.setCell ⟨b,0,none⟩ (.int .i64 m')).setCell ⟨b,1,none⟩ (.int .i64 n')).setCell ⟨b,2,none⟩ (.bool z')).heap.size (((w.setCell ⟨b,0,none⟩ (.int .i64 m')).setCell ⟨b,1,none⟩ (.int .i64 n')).setCell ⟨b,2,none⟩ (.bool z')) w':=by
 have c0:w.cell? ⟨b,0,none⟩=some (.int .i64 m):=cell_of_row w _ 0 _ _ _ hb
 have c1:w.cell? ⟨b,1,none⟩=some (.int .i64 n):=cell_of_row w _ 1 _ _ _ hb
 have c2:w.cell? ⟨b,2,none⟩=some (.bool z):=cell_of_row w _ 2 _ _ _ hb
 have f0:=frzB hb 0
 have f1:=frzB hb 1
 have f2:=frzB hb 2
 have hl:=heap_lt hb
 have hn:¬ b=w.heap.size:=by omega
 clear hb
 go_enter Tryz.func196,Tryz.ntmps196
 go_wp2_with fail
 go_end0
 exact ⟨rfl,(Below.refl _ _).alloc (Nat.le_refl _) _⟩
def WhOk (p:X.Part):Prop:=∀ (e:X.Ex) (i:Nat) (D:Nat→Prop) (ab:Nat) (a4:Option Addr) (a5 a6:Nat) (w:World),X.Rd p i e→Psd w D ab i→NdS w D (.slice a4 a5 a6) (X.kids p)→X.Gd (X.kids p)→¬ D ab→i+X.pz [p]≤1073741824→(∀ q,D q→q<w.heap.size) →
 Calls Tryz.prog 97 #[.agg #[.pointer (some ⟨ab,0,none⟩),.slice a4 a5 a6],.int .i64 (X.nk p)] w fun en w'=>∃ v,en=.returned v∧Hid (IsE w' w.heap.size w'.heap.size v e∧Psd w' D ab (i+X.pz [p])∧Kq D ab ab w w')
theorem IsE.top {w:World} {lo hi:Nat} {v:Value} {e:X.Ex} (h:IsE w lo hi v e):∃ ty b T m n z r,v=.iface ty (.pointer (some ⟨b,0,none⟩))∧lo≤b∧b<hi∧w.heap[b]?=some (.cells (List.toArray (.int .i64 m::.int .i64 n::.bool z::r)) T (0,0))∧(T≠180∧T≠165∧T≠214)∧T≠3 ∧
  (ty=267∨ty=265∨ty=240∨ty=262∨ty=243∨ty=247∨ty=250∨ty=252∨ty=254∨ty=256∨ty=259):=by
 cases h with
 | lit b k x hb h=>exact ⟨_,b,_,_,_,_,_,rfl,hb.1,hb.2,h,by decide,by decide,by simp⟩
 | hole b i hb h=>exact ⟨_,b,_,_,_,_,_,rfl,hb.1,hb.2,h,by decide,by decide,by simp⟩
 | missing b hb h=>exact ⟨_,b,_,_,_,_,_,rfl,hb.1,hb.2,h,by decide,by decide,by simp⟩
 | var b n hb h=>exact ⟨_,b,_,_,_,_,_,rfl,hb.1,hb.2,h,by decide,by decide,by simp⟩
 | lett b n v1 v2 e1 e2 hb h h1 h2=>exact ⟨_,b,_,_,_,_,_,rfl,hb.1,hb.2,h,by decide,by decide,by simp⟩
 | ite b v1 v2 v3 e1 e2 e3 hb h h1 h2 h3=>exact ⟨_,b,_,_,_,_,_,rfl,hb.1,hb.2,h,by decide,by decide,by simp⟩
 | fn b pb ns v e hb h hp h1=>exact ⟨_,b,_,_,_,_,_,rfl,hb.1,hb.2,h,by decide,by decide,by simp⟩
 | bin b v1 v2 x e1 e2 hb h h1 h2=>exact ⟨_,b,_,_,_,_,_,rfl,hb.1,hb.2,h,by decide,by decide,by simp⟩
 | call b v e ao cap vs es hb h hc h1 hr hp=>exact ⟨_,b,_,_,_,_,_,rfl,hb.1,hb.2,h,by decide,by decide,by simp⟩
 | list b ao cap vs es hb h hc hr hp=>exact ⟨_,b,_,_,_,_,_,rfl,hb.1,hb.2,h,by decide,by decide,by simp⟩
 | group b v e hb h h1=>exact ⟨_,b,_,_,_,_,_,rfl,hb.1,hb.2,h,by decide,by decide,by simp⟩
theorem rd_nln {p:X.Part} {i:Nat} {e:X.Ex} (h:X.Rd p i e):X.nln p=0:=by cases h<;>rfl
theorem gd_nil:X.Gd []:=by
 constructor
 ·intro t ht
  rw [X.pls] at ht
  cases ht
 ·rw [X.koks]
  trivial
theorem gd_kids {p:X.Part} {ps:List X.Part} (h:X.Gd (p::ps)):X.Gd (X.kids p):=by
 cases p with
 | leaf k x=>exact gd_nil
 | miss m=>exact gd_nil
 | br k qs=>exact h.br.2
set_option maxRecDepth 100000 in
set_option maxHeartbeats 4000000 in
theorem expr_of (p:X.Part) (H:WhOk p):ExOk p:=by
 intro e i D rb ab ps w hrd hw hi hDl
 obtain ⟨v0,hb0,hn0⟩:=hw.blk
 have r0:=cell_of_row w _ 0 _ _ _ hb0
 have r1:=cell_of_row w _ 1 _ _ _ hb0
 obtain ⟨g,o,cap,kv,rfl,hD,y0,y1,y2,y3,hkk,-,hc1,hc2,-,-⟩:=hn0.head
 obtain ⟨bv,bl,en,gp,hps,hos,-⟩:=hw.psd.ex
 obtain ⟨bo,bc,rfl,hbm⟩:=owns_slice hos
 have c1:=cell_of_row w _ 1 _ _ _ hps
 have c3:=cell_of_row w _ 3 _ _ _ hps
 have hnb:=hide (nbg_of hps)
 obtain ⟨hrl,hal⟩:=hw.lt
 have hsep:=hw.sep
 have hgk:=hide (gd_kids hw.byt)
 have hln:=rd_nln hrd
 have hi1:(0:Int)<((ps.length+1:Nat):Int):=by omega
 have hi2:0<ps.length+1:=by omega
 have HW:=hide hw
 have HDl:=hide hDl
 clear hb0 hn0 hkk hps hos hDl y1 y2 y3 hw
 go_enter Tryz.func75,Tryz.ntmps75
 go_wp2_with fail
 go_quiet (fail)
 have kN:Below w.heap.size w (w.drewN nq):=belowN (Below.refl _ w) nq
 have kp:=Kp.ofBelow kN (fun _=>False)
 replace r0:=kp.cellv (p:=⟨rb,0,none⟩) r0 id
 replace r1:=kp.cellv (p:=⟨rb,1,none⟩) r1 id
 replace y0:=kp.cellv (p:=⟨g,o,none⟩) y0 id
 have HN:Hid (Below w.heap.size w (w.drewN nq)):=kN
 have HEn:=hide (wenter_any D rb ab p ps i (w.drewN nq) ((HW.out).below kN) (by omega) (fun q hq=>Nat.lt_of_lt_of_le ((HDl.out) q hq) kN.size))
 clear kN kp c1 c3
 generalize w.drewN nq=W1 at *
 go_wp2_with fail
 refine (HEn.out).mono ?_
 rintro en2 w2 ⟨a4,a5,a6,rfl,X2⟩
 have hK2:Hid (Kq D rb ab w w2):=(Kq.ofBelow HN.out hal).trans (X2.out).2.2
 have hl2:=(hK2.out).size
 have HC:=hide (H e i D ab a4 a5 a6 w2 hrd (by have:=(X2.out).2.1.psd;rw [hln] at this;exact this) (X2.out).1 hgk.out hsep.2.2 hi (fun q hq=>Nat.lt_of_lt_of_le ((HDl.out) q hq) hl2))
 have HR2:=hide (X2.out).2.1
 clear HEn X2 r0 r1 y0 HN
 go_wp2_with fail
 refine (HC.out).mono ?_
 rintro en3 w3 ⟨v,rfl,X3⟩
 obtain ⟨ty,b,T,m,n,z,r,rfl,hb1,hb2,hbb,hT1,hT2,hty⟩:=(X3.out).1.top
 have hK3:Hid (Kq D rb ab w w3):=(hK2.out).trans (X3.out).2.2.wide
 have hR3:IsRw w3 D rb ab ps (i+X.pz [p]):=(HR2.out).counted (X3.out).2.1 (X3.out).2.2
 obtain ⟨v3,hb3,-⟩:=hR3.blk
 have r0:=cell_of_row w3 _ 0 _ _ _ hb3
 have HR3:=hide hR3
 have HB:=hide hbb
 have hl3:=(hK3.out).size
 have hpl3:Hid (Psd w3 D ab (i+X.pz [p])∧bl.length≤nbg ab w3):=⟨(X3.out).2.1,by have:=(hK3.out).le;rw [hnb.out] at this;exact this⟩
 have HE3:=hide (X3.out).1
 clear HC HR2 hbb hR3 hb3 X3
 go_wp2_with fail
 refine wpTo_start (S:=fun w'=>w'.cell? ⟨rb,0,none⟩=some (.pointer (some ⟨ab,0,none⟩))) (z:=12) (by kernel_rfl) ?_
 have hS:w3.drew.cell? ⟨rb,0,none⟩=some (.pointer (some ⟨ab,0,none⟩)):=r0
 have hna : ∀ wx, (nilAhead 427 ty (.pointer (some ⟨b, 0, none⟩)) "amanuensis/syntax.stand").run Tryz.prog wx = .ok (some false) wx := by
  intro wx
  rcases hty with rfl|rfl|rfl|rfl|rfl|rfl|rfl|rfl|rfl|rfl|rfl<;>kernel_rfl
 have hmt : ∀ wx, (method 427 ty (.pointer (some ⟨b, 0, none⟩)) "amanuensis/syntax.stand").run Tryz.prog wx = .ok (196, .pointer (some ⟨b, 0, none⟩)) wx := by
  intro wx
  rcases hty with rfl|rfl|rfl|rfl|rfl|rfl|rfl|rfl|rfl|rfl|rfl<;>kernel_rfl
 iterate 7 (refine wpTo_nx (v:=?_) rfl rfl (by kernel_rfl) (by decide) (by kernel_rfl) (by kernel_rfl) (fun _ _ _ h=>h) (Or.inl ⟨by rfl,?_⟩) hS ?_;rotate_left;(· (intro wx hSw;(try dsimp only at hSw);go_simp;try (with_reducible rfl)));simp only [Act.put,List.setIfInBounds_toArray,List.set_cons_zero,List.set_cons_succ])
 (refine wpTo_takeA (i:=8) (dn:=41) (v:=?_) rfl rfl (by kernel_rfl) (by decide) (by kernel_rfl) (by kernel_rfl) (fun _ _ _ h=>h) (Or.inl ⟨by rfl,?_⟩) hS ?_;rotate_left;(· (intro wx hSw;(try dsimp only at hSw);go_simp;try (with_reducible rfl)));simp only [Act.put,List.setIfInBounds_toArray,List.set_cons_zero,List.set_cons_succ])
 (refine wpTo_takeA (i:=9) (dn:=42) (v:=?_) rfl rfl (by kernel_rfl) (by decide) (by kernel_rfl) (by kernel_rfl) (fun _ _ _ h=>h) (Or.inl ⟨by rfl,?_⟩) hS ?_;rotate_left;(· (intro wx hSw;(try dsimp only at hSw);go_simp;try (with_reducible rfl)));simp only [Act.put,List.setIfInBounds_toArray,List.set_cons_zero,List.set_cons_succ])
 (refine wpTo_takeA (i:=10) (dn:=43) (v:=?_) rfl rfl (by kernel_rfl) (by decide) (by kernel_rfl) (by kernel_rfl) (fun _ _ _ h=>h) (Or.inl ⟨by rfl,?_⟩) hS ?_;rotate_left;(· (intro wx hSw;(try dsimp only at hSw);go_simp;try (with_reducible rfl)));simp only [Act.put,List.setIfInBounds_toArray,List.set_cons_zero,List.set_cons_succ])
 refine wpTo_one (i:=7) (by kernel_rfl) rfl (fun K hK=>?_)
 go_simp
 refine (psince_any D ab (i+X.pz [p]) bl.length gp w3.drew ((hpl3.out).1.below (Below.refl _ w3).drew) (hpl3.out).2).mono ?_
 rintro en4 w4 ⟨s1,s2,s3,rfl,k4⟩
 have k34:Below w3.heap.size w3 w4:=(Below.refl _ w3).drew.trans k4
 have kp4:=Kp.ofBelow k34 (fun _=>False)
 have r4:=kp4.cellv (p:=⟨rb,0,none⟩) r0 id
 dsimp only
 refine hK.out _ _ (fun _=>r4) (fun hS2=>?_)
 clear hK K hS hS2 r0
 try simp only [Act.put,List.setIfInBounds_toArray,List.set_cons_zero,List.set_cons_succ]
 refine wpTo_one (i:=11) (by kernel_rfl) rfl (fun K hK=>?_)
 have hB4:=kp4.heap HB.out id
 have HSt:=hide (xstand_any b m n s1 s2 z s3 r T w4 hB4)
 go_simp
 refine (HSt.out).mono ?_
 rintro en5 w5 ⟨rfl,k5⟩
 have hbw:w.heap.size≤b:=Nat.le_trans hl2 hb1
 have hs4:=k34.size
 have hR4:=(HR3.out).below k34
 have hK4:=(hK3.out).more k34 hal
 have hE4:=((HE3.out).keep kp4 (fun _ _ _=>id)).stood hB4 hT1 s1 s2 s3
 have hkS:Kp (fun q=>q=b) w4 (((w4.setCell ⟨b,0,none⟩ (.int .i64 s1)).setCell ⟨b,1,none⟩ (.int .i64 s2)).setCell ⟨b,2,none⟩ (.bool s3)):=On.set (On.set (On.set (Kp.refl _ w4) 0 _) 1 _) 2 _
 have hss:=k5.size
 have hzz:(((w4.setCell ⟨b,0,none⟩ (.int .i64 s1)).setCell ⟨b,1,none⟩ (.int .i64 s2)).setCell ⟨b,2,none⟩ (.bool s3)).heap.size=w4.heap.size:=by simp [World.setCell]
 have hRS:=hR4.on hkS hB4 hT2 (by omega) (by omega) (fun hd=>by have:=(HDl.out) _ hd;omega)
 have hKS:Kq D rb ab w (((w4.setCell ⟨b,0,none⟩ (.int .i64 s1)).setCell ⟨b,1,none⟩ (.int .i64 s2)).setCell ⟨b,2,none⟩ (.bool s3)):=((hK4.set hal hbw 0 (.int .i64 s1)).set hal hbw 1 (.int .i64 s2)).set hal hbw 2 (.bool s3)
 have HFin:Hid (IsE w5 w.heap.size w5.heap.size (.iface ty (.pointer (some ⟨b,0,none⟩))) e∧IsRw w5 D rb ab ps (i+X.pz [p])∧Kq D rb ab w w5):=⟨((hE4.keep (Kp.ofBelow k5 (fun _=>False)) (fun _ _ _=>id)).wide hl2 (by omega)),hRS.below k5,hKS.more k5 hal⟩
 obtain ⟨v5,hb5,-⟩:=(HFin.out).2.1.blk
 have r5:=cell_of_row w5 _ 0 _ _ _ hb5
 dsimp only
 refine hK.out _ _ (fun _=>r5) (fun _=>wpTo_end (by kernel_rfl) ?_)
 clear hK K hb5 r5 hKS hRS hkS hE4 hK4 hR4 k5 k34 kp4 r4 HSt hB4 hss hzz hna hmt HB HE3 HR3 hpl3 hK3
 go_wp2_with fail
 go_ret
 exact ⟨_,rfl,HFin⟩
end Go.Proofs.YtbmebfgapjhchaaGreatDoor
/- Package syntax: every expression is read. -/
namespace Go.Proofs.YtbmebfgapjhchaaGreatDoor
open Go.RowKit
open M
theorem pssz_len (l:List X.Part):l.length≤X.pssz l:=by
 induction l with
 | nil=>exact Nat.le_refl _
 | cons p l ih=>show l.length+1≤X.psz p+X.pssz l;have:=X.psz_pos p;omega
theorem pssz_mem (l:List X.Part) (p:X.Part) (h:p∈l):X.psz p≤X.pssz l:=by
 induction l with
 | nil=>cases h
 | cons q l ih =>
  show _≤X.psz q+X.pssz l
  rcases List.mem_cons.1 h with e|e
  ·rw [e];omega
  ·have:=ih e;omega
theorem psz_br (k:Nat) (l:List X.Part):X.psz (.br k l)=1+X.pssz l:=rfl
theorem expr_ok:∀ (n:Nat) (p:X.Part),X.psz p≤n→X.psz p≤268435456→ExOk p
 | 0,p,h,_=>by have:=X.psz_pos p;omega
 | n+1,p,h,hM=>expr_of p (by
  intro e i D ab a4 a5 a6 w hr hp hk hg hd hi hD
  cases hr with
  | missing=>exact hmissing_any D ab a4 a5 a6 i w hp hk hg hd hi hD
  | lit k t x l qs _ hk2 ht =>
   rw [psz_br] at h hM
   have:=pssz_len l
   rw [X.pz_br] at hi ⊢
   exact hlit_any D ab a4 a5 a6 l qs k t x i w hp hk hg hd hk2 ht (by omega) hi hD
  | var x l qs _ ht =>
   rw [psz_br] at h hM
   have:=pssz_len l
   rw [X.pz_br] at hi ⊢
   exact hvar_any D ab a4 a5 a6 l qs x i w hp hk hg hd ht (by omega) hi hD
  | hole t x l qs _ ht =>
   rw [psz_br] at h hM
   have:=pssz_len l
   rw [X.pz_br] at hi ⊢
   exact hhole_any D ab a4 a5 a6 l qs t x _ i w hp hk hg hd ht (by omega) hi hD
  | lett t1 m t2 t3 p1 p2 _ nm e1 e2 h1 hn h2 hv h3 hb =>
   rw [psz_br] at h hM
   have hl:=pssz_len (t1++(m++(t2++([p1]++(t3++[p2])))))
   have q1:=pssz_mem (t1++(m++(t2++([p1]++(t3++[p2]))))) p1 (by simp)
   have q2:=pssz_mem (t1++(m++(t2++([p1]++(t3++[p2]))))) p2 (by simp)
   rw [X.pz_br] at hi ⊢
   exact hlet_any D ab a4 a5 a6 t1 m t2 t3 p1 p2 nm e1 e2 i w hp hk hg hd h1 hn h2 hv h3 hb (expr_ok n p1 (by omega) (by omega)) (expr_ok n p2 (by omega) (by omega)) (by omega) hi hD
  | ite l _ a b c hx =>
   rw [psz_br] at h hM
   have hl:=pssz_len l
   rw [X.pz_br] at hi ⊢
   exact hite_any D ab a4 a5 a6 l a b c i w hp hk hg hd hx (fun q hq=>expr_ok n q (by have:=pssz_mem l q hq;omega) (by have:=pssz_mem l q hq;omega)) (by omega) hi hD
  | fn t1 qs t2 p _ ns e h1 hn h2 hb =>
   rw [psz_br] at h hM
   have hl:=pssz_len (t1++([X.Part.br 6 qs]++(t2++[p])))
   have q1:=pssz_mem (t1++([X.Part.br 6 qs]++(t2++[p]))) p (by simp)
   have q2:=pssz_mem (t1++([X.Part.br 6 qs]++(t2++[p]))) (.br 6 qs) (by simp)
   rw [psz_br] at q2
   have hq:=pssz_len qs
   rw [X.pz_br] at hi ⊢
   exact hfun_any D ab a4 a5 a6 t1 qs t2 p ns e i w hp hk hg hd h1 hn h2 hb (expr_ok n p (by omega) (by omega)) (by omega) (by omega) hi hD
  | bin p1 p2 t qs k x _ e1 e2 hl' ht hr2 =>
   rw [psz_br] at h hM
   have hl:=pssz_len ([p1]++(t++[p2]))
   have q1:=pssz_mem ([p1]++(t++[p2])) p1 (by simp)
   have q2:=pssz_mem ([p1]++(t++[p2])) p2 (by simp)
   rw [X.pz_br] at hi ⊢
   exact hbin_any D ab a4 a5 a6 p1 p2 t qs k x e1 e2 i w hp hk hg hd hl' ht hr2 (expr_ok n p1 (by omega) (by omega)) (expr_ok n p2 (by omega) (by omega)) (by omega) hi hD
  | call p gs _ e es hc ha =>
   rw [psz_br] at h hM
   have q1:=pssz_mem ([p]++[X.Part.br 12 gs]) p (by simp)
   have q2:=pssz_mem ([p]++[X.Part.br 12 gs]) (.br 12 gs) (by simp)
   rw [psz_br] at q2
   have hq:=pssz_len gs
   rw [X.pz_br] at hi ⊢
   exact hcall_any D ab a4 a5 a6 p gs e es i w hp hk hg hd hc ha (expr_ok n p (by omega) (by omega)) (fun q hq=>expr_ok n q (by have:=pssz_mem gs q hq;omega) (by have:=pssz_mem gs q hq;omega)) (by omega) hi hD
  | list l _ es hx =>
   rw [psz_br] at h hM
   have hl:=pssz_len l
   rw [X.pz_br] at hi ⊢
   exact hlist_any D ab a4 a5 a6 l es i w hp hk hg hd hx (fun q hq=>expr_ok n q (by have:=pssz_mem l q hq;omega) (by have:=pssz_mem l q hq;omega)) (by omega) hi hD
  | group l _ e hx =>
   rw [psz_br] at h hM
   have hl:=pssz_len l
   rw [X.pz_br] at hi ⊢
   exact hgroup_any D ab a4 a5 a6 l e i w hp hk hg hd hx (fun q hq=>expr_ok n q (by have:=pssz_mem l q hq;omega) (by have:=pssz_mem l q hq;omega)) (by omega) hi hD)
end Go.Proofs.YtbmebfgapjhchaaGreatDoor
/- Package syntax: a `pub` and an `as`,which may be there. -/
namespace Go.Proofs.YtbmebfgapjhchaaGreatDoor
open Go.RowKit
open M
namespace X
theorem tk0_one {t qs:List Part} {p:Part} (h:Tk0 t qs p):Tk0 [p] [] p:=⟨rfl,fun q hq=>(by cases hq),h.ne,h.ln⟩
theorem tk0_pz {t qs:List Part} {p:Part} (h:Tk0 t qs p):pz t=pz qs+pz [p]:=by rw [h.eq,pz_app]
theorem tkn_not {s:List UInt8} {t:List Part} (h:Tkn s t):∃ qs p,Tk0 t qs p∧((∃ k y,p=.leaf k y∧y≠s)∨nk p≠0)∧¬(∃ k,p=.leaf k s):=by
 rcases h with ⟨k,x,qs,h1,h2⟩|⟨m,rfl⟩
 ·exact ⟨qs,_,h1.tk0,.inl ⟨k,x,rfl,h2⟩,fun ⟨k',e⟩=>by cases e;exact h2 rfl⟩
 ·exact ⟨[],.miss m,⟨rfl,fun q hq=>(by cases hq),rfl,rfl⟩,.inr (by show (1:Nat)≠0;omega),fun ⟨k',e⟩=>by cases e⟩
end X
structure Lf (w w':World) (D:Nat→Prop) (rb ab:Nat) (t:List X.Part) (ps:List X.Part) (j:Nat):Prop where
 ex:∃ t' q' p' i',X.Tk0 t' q' p'∧IsRw w' D rb ab (t'++ps) i'∧i'+X.pz t'=j∧t'.length≤t.length
 kp:Kq D rb ab w w'
theorem whas_no (D:Nat→Prop) (rb ab:Nat) (s:List UInt8) (t ps:List X.Part) (i:Nat) (w:World) (h:IsRw w D rb ab (t++ps) i) (ht:X.Tkn s t) (hi:i+X.pz (t++ps)≤1073741824) (hpl:(t++ps).length≤1073741824) (hDl:∀ q,D q→q<w.heap.size) :
  Calls Tryz.prog 71 #[.pointer (some ⟨rb,0,none⟩),.string (ba s)] w fun e w'=>e=.returned (.bool false)∧Hid (Lf w w' D rb ab t ps (i+X.pz t)):=by
 obtain ⟨qs,p,h1,h2,h3⟩:=X.tkn_not ht
 refine (whas_any D rb ab t qs p ps i s w h h1 (.inr h2) hi hpl hDl).mono ?_
 rintro e w' ⟨-,H⟩
 obtain ⟨rfl,X1⟩:=H h3
 refine ⟨rfl,⟨[p],[],p,i+X.pz qs,X.tk0_one h1,(X1.out).1,by rw [X.tk0_pz h1];omega,?_⟩,(X1.out).2⟩
 rw [h1.eq,List.length_append]
 exact Nat.le_add_left _ _
theorem whas_yes (D:Nat→Prop) (rb ab:Nat) (k:Nat) (s:List UInt8) (t qs ps:List X.Part) (i:Nat) (w:World) (h:IsRw w D rb ab (t++ps) i) (ht:X.Tk1 t k s qs) (hi:i+X.pz (t++ps)≤1073741824) (hpl:(t++ps).length≤1073741824) (hDl:∀ q,D q→q<w.heap.size) :
  Calls Tryz.prog 71 #[.pointer (some ⟨rb,0,none⟩),.string (ba s)] w fun e w'=>e=.returned (.bool true)∧Hid (IsRw w' D rb ab ps (i+X.pz t)∧Kq D rb ab w w'):=by
 refine (whas_any D rb ab t qs _ ps i s w h ht.tk0 (.inl ⟨k,rfl⟩) hi hpl hDl).mono ?_
 rintro e w' ⟨H,-⟩
 exact H ⟨k,rfl⟩
theorem wpub_any (D:Nat→Prop) (rb ab:Nat) (pb t ps:List X.Part) (pub:Bool) (i:Nat) (w:World) (h:IsRw w D rb ab (pb++(t++ps)) i) (hp:X.Pbp pb pub) (ht:X.Tkn X.sPub t) (hi:i+X.pz (pb++(t++ps))≤1073741824) (hpl:(pb++(t++ps)).length≤1073741824) (hDl:∀ q,D q→q<w.heap.size) :
  Calls Tryz.prog 71 #[.pointer (some ⟨rb,0,none⟩),.string (ba X.sPub)] w fun e w'=>e=.returned (.bool pub)∧Hid (Lf w w' D rb ab t ps (i+X.pz pb+X.pz t)):=by
 cases hp with
 | yes _ k qs h1 =>
  refine (whas_yes D rb ab k X.sPub pb qs (t++ps) i w h h1 hi hpl hDl).mono ?_
  rintro e w' ⟨rfl,X1⟩
  obtain ⟨qs',p',h2⟩:=ht.tkp.tk0
  exact ⟨rfl,⟨t,qs',p',i+X.pz pb,h2,(X1.out).1,rfl,Nat.le_refl _⟩,(X1.out).2⟩
 | no =>
  exact whas_no D rb ab X.sPub t ps i w h ht hi hpl hDl
theorem Lf.pass {w w':World} {D:Nat→Prop} {rb ab:Nat} {t ps:List X.Part} {j:Nat} (h:Lf w w' D rb ab t ps j) (hj:j+X.pz ps≤1073741824) (hpl:(t++ps).length≤1073741824) (hDl:∀ q,D q→q<w'.heap.size) :
  Calls Tryz.prog 72 #[.pointer (some ⟨rb,0,none⟩)] w' fun e w''=>∃ a1 a2 a3 a4 a5 a6,e=.returned (.agg #[.int .i64 a1,.int .i64 a2,.string a3,.slice a4 a5 a6])∧Hid (IsRw w'' D rb ab ps j∧Kq D rb ab w' w''):=by
 obtain ⟨t',q',p',i',x1,x2,x3,x4⟩:=h.ex
 refine (wpass_any D rb ab t' q' p' ps i' w' x2 x1 (by rw [X.pz_app];omega) (by rw [List.length_append] at *;omega) hDl).mono ?_
 rintro e w'' ⟨a4,a5,a6,rfl,X1⟩
 rw [x3] at X1
 exact ⟨_,_,_,a4,a5,a6,rfl,X1⟩
structure EntO (w:World) (D:Nat→Prop) (rb ab:Nat) (ps qs:List X.Part) (i:Nat) (w2:World) (kv:Value):Prop where
 inn:IsRw (w2.alloc (.cells #[.pointer (some ⟨ab,0,none⟩),kv] 123)) D w2.heap.size ab qs i
 out:∀ (w3:World) (l:List X.Part) (k:Nat),IsRw w3 D w2.heap.size ab l k→Kq D w2.heap.size ab (w2.alloc (.cells #[.pointer (some ⟨ab,0,none⟩),kv] 123)) w3→IsRw w3 D rb ab ps k∧Kq D rb ab w w3
 le:w.heap.size≤w2.heap.size
 dl:∀ q,D q→q<(w2.alloc (.cells #[.pointer (some ⟨ab,0,none⟩),kv] 123)).heap.size
 sz:(w2.alloc (.cells #[.pointer (some ⟨ab,0,none⟩),kv] 123)).heap.size=w2.heap.size+1
 bel:Below w2.heap.size w2 (w2.alloc (.cells #[.pointer (some ⟨ab,0,none⟩),kv] 123))
theorem ento_of {w w2:World} {D:Nat→Prop} {rb ab:Nat} {ps qs:List X.Part} {i:Nat} {kv:Value} (h:NdS w2 D kv qs∧IsRw w2 D rb ab ps i∧Kq D rb ab w w2) (hq:X.Gd qs) (hDl:∀ q,D q→q<w.heap.size):EntO w D rb ab ps qs i w2 kv:=by
 obtain ⟨h1,h2,h3⟩:=h
 have hd:∀ q,D q→q<w2.heap.size:=fun q hq=>Nat.lt_of_lt_of_le (hDl q hq) h3.size
 obtain ⟨a,b⟩:=rw_both h2 h1 hq hd
 refine ⟨a,fun w3 l k x y=>?_,h3.size,fun q hq=>by have:=hd q hq;simp;omega,by simp,(Below.refl _ w2).alloc (Nat.le_refl _) _⟩
 obtain ⟨c,d⟩:=b w3 l k x y
 exact ⟨c,h3.trans d⟩
end Go.Proofs.YtbmebfgapjhchaaGreatDoor
