/- The reader of a text in memory: it looks,it passes on,it gives its bytes. -/
import Derived.Test.YtdkpkpgpphkljaaGreatDoorRa
import Derived.Test.YtdkpkpgpphkljaaGreatDoorSh
import Derived.Deep.RegionHeld3
import Derived.BigQuiet
import Derived.Deep.DeepCutAuto
namespace Go.Proofs.YtdkpkpgpphkljaaGreatDoor
set_option maxHeartbeats 1000000
open Tryz
open Go.RowKit
open M
variable{S:Nat→Prop}{w w' a:World}{b:Nat}{s:ByteArray}{p c z:Int}
def kP(w:World):Prop:=Lib.Utf8Tabs 2 3 w∧4≤w.heap.size
theorem kP.keep(h:kP w)(hk:Kp S w w')(hn:∀ k,k<4→¬ S k):kP w':=by
 obtain⟨⟨h1,h2⟩,h3⟩:=h;refine⟨⟨fun c hcc=>?_,fun i hi=>?_⟩,?_⟩
 ·rw[hk.cell (p:=⟨2,c,none⟩) (by show 2<_;omega) (hn 2 (by omega))];exact h1 c hcc
 ·rw[hk.cell (p:=⟨3,_,none⟩) (by show 3<_;omega) (hn 3 (by omega)),hk.cell (p:=⟨3,_,none⟩) (by show 3<_;omega) (hn 3 (by omega))];exact h2 i hi
 ·have:=hk.size;omega
theorem kP.below(h:kP w)(hb:Below w.heap.size w w'):kP w':=h.keep (Kp.aI hb (fun _=>False)) (fun _ _=>id)
theorem kP.alloc{w:World}(h:kP w)(o:Obj):kP (w.alloc o):=h.below ((ay _ _).alloc (aj _) _)
theorem Vo(s:ByteArray)(k:Nat):s.get! k=(bs s).getD k 0:=by
 cases s with
 | mk a =>
  show a[k]! = _;simp only[bs,bF,Array.getElem?_toList];rw[getElem!_def];cases a[k]?<;>rfl
theorem Gq(s:ByteArray):Lib.decodeGo s=dec (bs s):=by
 unfold Lib.decodeGo dec;rw[eZ];by_cases h:s.size=0
 ·rw[aL h,aL h]
 ·rw[aG h,aG h,Lib.decode_at]
  simp only[Vo,Nat.sub_zero,cu]
theorem JB(s:ByteArray)(w:World)(hT:kP w) :
  Calls prog 128 #[.string s] w fun e w'=>e=.returned (.tuple #[.int .i32 (ch (bs s)),.int .i64 (sz (bs s))])∧Below w.heap.size w w':=by
 have:=utf8_DecodeRuneInString s w hT.1;rw[Gq] at this;exact this
def Raw(w:World)(b:Nat)(s:ByteArray)(p c z:Int):Prop:=w.heap[b]?=some (.cells #[.string s,.int .i64 p,.int .i32 c,.int .i64 z] 197 (0,0))
theorem Raw.facts(h:Raw w b s p c z) :
  (w.cell? ⟨b,0,none⟩=some (.string s)∧w.cell? ⟨b,1,none⟩=some (.int .i64 p)∧w.cell? ⟨b,2,none⟩=some (.int .i32 c)∧w.cell? ⟨b,3,none⟩=some (.int .i64 z)) ∧
  (w.frozen? ⟨b,0,none⟩=false∧w.frozen? ⟨b,1,none⟩=false∧w.frozen? ⟨b,2,none⟩=false∧w.frozen? ⟨b,3,none⟩=false):=by
 unfold Raw at h;refine⟨⟨?_,?_,?_,?_⟩,?_,?_,?_,?_⟩<;>simp[World.cell?,World.frozen?,h]
theorem Raw.lt(h:Raw w b s p c z):b<w.heap.size:=aP h
theorem Raw.keep(h:Raw w b s p c z)(hk:Kp S w w')(hn:¬ S b):Raw w' b s p c z:=hk.heap h hn
theorem Raw.below(h:Raw w b s p c z)(hk:Below w.heap.size w w'):Raw w' b s p c z:=h.keep (Kp.aI hk (fun _=>False)) id
theorem Raw.set1(h:Raw w b s p c z)(y:Int):Raw (w.setCell ⟨b,1,none⟩ (.int .i64 y)) b s y c z:=by
 unfold Raw at h ⊢;simp[World.setCell,aK,h]
theorem Raw.set2(h:Raw w b s p c z)(x:Int):Raw (w.setCell ⟨b,2,none⟩ (.int .i32 x)) b s p x z:=by
 unfold Raw at h ⊢;simp[World.setCell,aK,h]
theorem Raw.JC(h:Raw w b s p c z)(y:Int):Raw (w.setCell ⟨b,3,none⟩ (.int .i64 y)) b s p c y:=by
 unfold Raw at h ⊢;simp[World.setCell,aK,h]
structure lu(w:World)(b:Nat)(s:ByteArray)(p:Nat):Prop where
 raw:Raw w b s p (cc ((bs s).drop p)) (sz ((bs s).drop p))
 tabs:kP w
 old:4≤b
 le:p≤s.size
 big:s.size≤1125899906842624
theorem lu.drewN{w:World}{b:Nat}{s:ByteArray}{p:Nat}(h:lu w b s p)(n:Nat):lu (w.drewN n) b s p:=⟨h.raw,h.tabs,h.old,h.le,h.big⟩
abbrev On(b:Nat)(w w':World):Prop:=Kp (fun k=>k=b) w w'
theorem On.set(h:On b a w)(i:Nat)(v:Value):On b a (w.setCell ⟨b,i,none⟩ v):=Kp.setCell h (p:=⟨b,i,none⟩) (fun _=>rfl) v
theorem On.drewN(b:Nat)(w:World)(n:Nat):On b w (w.drewN n):=⟨rfl,rfl,rfl,aj _,fun _ _ _=>rfl⟩
theorem On.to(h:On b a w)(k:On b w w'):On b a w':=Kp.trans h k (fun _ _ e=>e)
theorem On.aI(b:Nat){w w':World}(h:Below w.heap.size w w'):On b w w':=Kp.aI h _
theorem On.below{b:Nat}{w w':World}(h:On b w w'){B:Nat}(hB:B≤w.heap.size)(hb:B≤b):Below B w w':=Kp.below h hB (fun k e=>by omega)
theorem Gr(b:Nat)(s:ByteArray)(p:Nat)(c z:Int)(w:World)(h:Raw w b s p c z)(hT:kP w)(hb:4≤b)(hp:p≤s.size)(hs:s.size≤1125899906842624) :
  Calls prog 101 #[.pointer (some ⟨b,0,none⟩)] w fun e w'=>e=.returned (.tuple #[])∧lu w' b s p∧On b w w':=by
 obtain⟨⟨c0,c1,c2,c3⟩,f0,f1,f2,f3⟩:=h.facts;by_cases he:p=s.size
 ·have HE:Hid ((bs s).drop p=[]):=by show _=_;rw[he,← eZ];simp
  have h1:((p:Int)==(s.size:Int))=true:=by simp[he]
  clear he;go_enter func101,ntmps101;go_wp2_with fail
  go_quiet (fail)
  go_wp2_with fail
  refine bI (results_none rfl _ _ _) rfl ⟨rfl,⟨?_,?_,hb,hp,hs⟩,?_⟩
  ·rw[HE.o,mU,Xn]
   exact Raw.JC (Raw.set2 (by exact h) _) _
  ·exact hT.keep (((On.drewN b w nq).set 2 _).set 3 _) (fun k hk e=>by omega)
  ·exact((On.drewN b w nq).set 2 _).set 3 _
 ·have h1:((p:Int)==(s.size:Int))=false:=by simp;omega
  have h2:p<s.size:=by omega
  clear he;go_enter func101,ntmps101;go_wp2_with fail
  go_quiet (fail)
  go_wp2_with fail
  go_region_held3 (fun w'=>w'.cell? ⟨b,0,none⟩=some (.string s)∧w'.cell? ⟨b,1,none⟩=some (.int .i64 p))
   (first|go_keep|exact⟨(Raw.facts (by exact R1.o)).1.1,(Raw.facts (by exact R1.o)).1.2.1⟩|exact⟨((R1.o).set2 _).facts.1.1,((R1.o).set2 _).facts.1.2.1⟩|exact⟨(((R1.o).set2 _).JC _).facts.1.1,(((R1.o).set2 _).JC _).facts.1.2.1⟩)
   (first
    | ((go_at_call 128;refine(JB _ _ (by exact hT)).mono ?_;rintro e w1 ⟨rfl,hb1⟩;have r1:Raw w1 b s p c z:=Raw.below (by exact h) hb1;obtain⟨⟨x0,x1,x2,x3⟩,y0,y1,y2,y3⟩:=r1.facts;have R1:=au r1;have HB1:=au hb1;clear r1 hb1)))
  go_wp2_with fail
  have hne:(bs s).drop p≠[]:=by
   intro e;have:=congrArg List.length e;simp[eZ] at this;omega
  have e1:(ch (bs (s.extract p s.size)):Int)=cc ((bs s).drop p):=by rw[yO,oo hne]
  have e2:(sz (bs (s.extract p s.size)):Int)=sz ((bs s).drop p):=by rw[yO]
  have hk1:On b w w1:=⟨(HB1.o).os,(HB1.o).tape,(HB1.o).output,(HB1.o).size,fun k hk _=>(HB1.o).block k hk⟩;have hk2:On b w ((w1.setCell ⟨b,2,none⟩ (.int .i32 (ch (bs (s.extract p s.size))))).setCell ⟨b,3,none⟩ (.int .i64 (sz (bs (s.extract p s.size))))):=(hk1.set 2 _).set 3 _;have hr2:Raw ((w1.setCell ⟨b,2,none⟩ (.int .i32 (ch (bs (s.extract p s.size))))).setCell ⟨b,3,none⟩ (.int .i64 (sz (bs (s.extract p s.size))))) b s p (cc ((bs s).drop p)) (sz ((bs s).drop p)):=by
   rw[← e1,← e2];exact((R1.o).set2 _).JC _
  go_end0;exact⟨rfl,⟨hr2,hT.keep hk2 (fun k hk e=>by omega),hb,hp,hs⟩,hk2⟩
theorem jg{p:Nat}(h:p<s.size):(bs s).drop p≠[]:=by
 intro e;have:=congrArg List.length e;simp[eZ] at this;omega
theorem fG(l:ah)(p:Nat):nx (l.drop p)=l.drop (p+sz (l.drop p)):=by unfold nx;rw[dB]
theorem ja{p:Nat}(h:p≤s.size):p+sz ((bs s).drop p)≤s.size:=by
 have:=zl ((bs s).drop p);simp[eZ] at this;omega
theorem dJ(b:Nat)(s:ByteArray)(p:Nat)(w:World)(h:lu w b s p) :
  Calls prog 73 #[.pointer (some ⟨b,0,none⟩)] w fun e w'=>e=.returned (.tuple #[])∧lu w' b s (p+sz ((bs s).drop p))∧On b w w':=by
 obtain⟨hr,hT,hb,hp,hs⟩:=h;obtain⟨⟨c0,c1,c2,c3⟩,f0,f1,f2,f3⟩:=hr.facts;have h4:=zk ((bs s).drop p);have HZ:=au (ja hp);go_enter func73,ntmps73;go_wp2_with fail
 go_cut [] (fun wx=>Raw wx b s (p+sz ((bs s).drop p):Nat) (cc ((bs s).drop p)) (sz ((bs s).drop p))∧On b w wx)
 case first =>
  go_region
  all_goals (go_wp2_with fail;go_meet)
  all_goals (case rel=>exact⟨by rw[mr];exact Raw.set1 (by exact hr) _,Kp.drew (On.set (Kp.refl _ w) 1 _)⟩)
 case rest =>
  obtain⟨g1,g2⟩:=hcut;have G2:=au g2;go_wp2_with fail
  refine(Gr b s _ _ _ _ g1 (hT.keep g2 (fun k hk e=>by omega)) hb (HZ.o) hs).mono ?_;rintro e w2 ⟨rfl,r2,k2⟩;go_wp2_with fail
  go_end0;exact⟨rfl,r2,(G2.o).to k2⟩
theorem uf(b:Nat)(s:ByteArray)(p:Nat)(w:World)(h:lu w b s p) :
  Calls prog 74 #[.pointer (some ⟨b,0,none⟩)] w fun e w'=>e=.returned (.string (s.extract p (p+sz ((bs s).drop p))))∧∃ n,w'=w.drewN n:=by
 obtain⟨hr,hT,hb,hp,hs⟩:=h;obtain⟨⟨c0,c1,c2,c3⟩,f0,f1,f2,f3⟩:=hr.facts;have h4:=zk ((bs s).drop p);have HZ:=ja hp;go_enter func74,ntmps74;go_wp2_with fail
 go_quiet (fail)
 go_wp2_with fail
 go_ret;exact⟨rfl,_,rfl⟩
theorem oG(s:ByteArray)(p:Nat)(w:World)(hT:kP w)(hp:p≤s.size)(hs:s.size≤1125899906842624) :
  Calls prog 72 #[.string s,.int .i64 p] w fun e w'=>e=.returned (.pointer (some ⟨w.heap.size,0,none⟩))∧lu w' w.heap.size s p∧Below w.heap.size w w':=by
 have h7:=hT.2;go_enter func72,ntmps72;go_wp2_with fail
 have hr:Raw (w.alloc (.cells #[.string s,.int .i64 p,.int .i32 0,.int .i64 0] 197)) w.heap.size s p 0 0:=by
  show(w.heap.push _)[w.heap.size]?=_;simp
 refine(Gr w.heap.size s p 0 0 _ hr (hT.alloc _) h7 hp hs).mono ?_;rintro e w2 ⟨rfl,r2,k2⟩;go_wp2_with fail
 go_ret;exact⟨rfl,r2,((ay _ _).alloc (aj _) _).trans (k2.below (by simp) (aj _))⟩
end Go.Proofs.YtdkpkpgpphkljaaGreatDoor
namespace Go.Proofs
open Tryz
open Go.Shelf
open Go.RowKit
def yc:Go.Shelf.Ren:=⟨fun|166=>68|240=>99|276=>123|n=>n,fun|0=>0|3=>3|4=>4|5=>5|9=>9|20=>20|37=>96|70=>95|72=>98|75=>25|80=>102|164=>305|n=>n,fun|n=>n⟩
theorem Vp:Go.Proofs.Lays.n166 prog yc:={
 mixed:=by kernel_rfl
 f166:=func68.trans (congrArg some (by kernel_rfl))
 f240:=func99.trans (congrArg some (by kernel_rfl))
 f276:=func123.trans (congrArg some (by kernel_rfl))
 t0:=underlying0
 a0:=isAgg0
 z0:=sizeOf0
 v0:=zeroValue0
 t3:=underlying3
 a3:=isAgg3
 z3:=sizeOf3
 v3:=zeroValue3
 t4:=underlying4
 a4:=isAgg4
 z4:=sizeOf4
 v4:=zeroValue4
 t9:=underlying9
 a9:=isAgg9
 z9:=sizeOf9
 v9:=zeroValue9
 t20:=underlying20
 a20:=isAgg20
 z20:=sizeOf20
 v20:=zeroValue20
 t37:=underlying96
 a37:=isAgg96
 z37:=sizeOf96
 v37:=zeroValue96
 t70:=underlying95
 a70:=isAgg95
 z70:=sizeOf95
 v70:=zeroValue95
 t72:=underlying98
 a72:=isAgg98
 z72:=sizeOf98
 v72:=zeroValue98
 t75:=underlying25
 a75:=isAgg25
 z75:=sizeOf25
 v75:=zeroValue25
 t164:=underlying305
 a164:=isAgg305
 z164:=sizeOf305
 v164:=zeroValue305 }
def yg:Go.Shelf.Ren:=⟨fun|167=>71|240=>99|276=>123|n=>n,fun|0=>0|4=>4|5=>5|9=>9|20=>20|37=>96|70=>95|72=>98|75=>25|80=>102|164=>305|n=>n,fun|n=>n⟩
theorem Vq:Go.Proofs.Lays.n167 prog yg:={
 mixed:=by kernel_rfl
 f167:=func71.trans (congrArg some (by kernel_rfl))
 f240:=func99.trans (congrArg some (by kernel_rfl))
 f276:=func123.trans (congrArg some (by kernel_rfl))
 t0:=underlying0
 a0:=isAgg0
 z0:=sizeOf0
 v0:=zeroValue0
 t4:=underlying4
 a4:=isAgg4
 z4:=sizeOf4
 v4:=zeroValue4
 t5:=underlying5
 a5:=isAgg5
 z5:=sizeOf5
 v5:=zeroValue5
 t9:=underlying9
 a9:=isAgg9
 z9:=sizeOf9
 v9:=zeroValue9
 t20:=underlying20
 a20:=isAgg20
 z20:=sizeOf20
 v20:=zeroValue20
 t37:=underlying96
 a37:=isAgg96
 z37:=sizeOf96
 v37:=zeroValue96
 t70:=underlying95
 a70:=isAgg95
 z70:=sizeOf95
 v70:=zeroValue95
 t72:=underlying98
 a72:=isAgg98
 z72:=sizeOf98
 v72:=zeroValue98
 t75:=underlying25
 a75:=isAgg25
 z75:=sizeOf25
 v75:=zeroValue25
 t164:=underlying305
 a164:=isAgg305
 z164:=sizeOf305
 v164:=zeroValue305 }
def yh:Go.Shelf.Ren:=⟨fun|168=>156|240=>99|242=>175|276=>123|278=>190|n=>n,fun|0=>0|3=>3|4=>4|5=>5|9=>9|20=>20|21=>21|37=>96|46=>338|51=>336|70=>95|72=>98|75=>25|80=>102|164=>305|n=>n,fun|n=>n⟩
theorem Vr:Go.Proofs.Lays.n168 prog yh:={
 mixed:=by kernel_rfl
 f168:=func156.trans (congrArg some (by kernel_rfl))
 f240:=func99.trans (congrArg some (by kernel_rfl))
 f242:=func175.trans (congrArg some (by kernel_rfl))
 f276:=func123.trans (congrArg some (by kernel_rfl))
 f278:=func190.trans (congrArg some (by kernel_rfl))
 t0:=underlying0
 a0:=isAgg0
 z0:=sizeOf0
 v0:=zeroValue0
 t3:=underlying3
 a3:=isAgg3
 z3:=sizeOf3
 v3:=zeroValue3
 t4:=underlying4
 a4:=isAgg4
 z4:=sizeOf4
 v4:=zeroValue4
 t5:=underlying5
 a5:=isAgg5
 z5:=sizeOf5
 v5:=zeroValue5
 t9:=underlying9
 a9:=isAgg9
 z9:=sizeOf9
 v9:=zeroValue9
 t20:=underlying20
 a20:=isAgg20
 z20:=sizeOf20
 v20:=zeroValue20
 t21:=underlying21
 a21:=isAgg21
 z21:=sizeOf21
 v21:=zeroValue21
 t37:=underlying96
 a37:=isAgg96
 z37:=sizeOf96
 v37:=zeroValue96
 t46:=underlying338
 a46:=isAgg338
 z46:=sizeOf338
 v46:=zeroValue338
 t51:=underlying336
 a51:=isAgg336
 z51:=sizeOf336
 v51:=zeroValue336
 t70:=underlying95
 a70:=isAgg95
 z70:=sizeOf95
 v70:=zeroValue95
 t72:=underlying98
 a72:=isAgg98
 z72:=sizeOf98
 v72:=zeroValue98
 t75:=underlying25
 a75:=isAgg25
 z75:=sizeOf25
 v75:=zeroValue25
 t164:=underlying305
 a164:=isAgg305
 z164:=sizeOf305
 v164:=zeroValue305 }
theorem Tryz.vO:Builder.Extra prog yc:={
 sizeBuilder:=by kernel_rfl
 liesBuilder:=by kernel_rfl
 t5:=underlying5
 a5:=isAgg5
 z5:=sizeOf5
 v5:=zeroValue5
 infoByte:=by kernel_rfl
 cellsByte:=by kernel_rfl
 sizeByte:=by kernel_rfl
 neB5:=by decide }
theorem Tryz.vP:Builder.Extra prog yg:={
 sizeBuilder:=by kernel_rfl
 liesBuilder:=by kernel_rfl
 t5:=underlying5
 a5:=isAgg5
 z5:=sizeOf5
 v5:=zeroValue5
 infoByte:=by kernel_rfl
 cellsByte:=by kernel_rfl
 sizeByte:=by kernel_rfl
 neB5:=by decide }
theorem Tryz.vQ:Builder.Extra prog yh:={
 sizeBuilder:=by kernel_rfl
 liesBuilder:=by kernel_rfl
 t5:=underlying5
 a5:=isAgg5
 z5:=sizeOf5
 v5:=zeroValue5
 infoByte:=by kernel_rfl
 cellsByte:=by kernel_rfl
 sizeByte:=by kernel_rfl
 neB5:=by decide }
theorem Tryz.Builder_WriteString_k(B b:Nat)(bs:List Value)(s:ByteArray)(w:World)(h:Lib.IsBuilderF 98 5 B b bs w)(hlen:bs.length+s.size≤140737488355328)(hBw:B≤w.heap.size) :
  Calls prog 68 #[.pointer (some ⟨b,0,none⟩),.string s] w fun e w'=>e=.returned (.tuple #[.int .i64 s.size,.nilIface])∧(Lib.BuilderAtF 98 5 B b (.pointer (some ⟨b,0,none⟩)) (bs++Lib.strCells s) w'∧Below B w w'∧Lib.OthersKept 5 (some b) w w'):=Any.Builder_WriteString_k Vp Tryz.vO B b bs s w h hlen hBw
theorem Tryz.Builder_WriteByte_k(B b:Nat)(bs:List Value)(c:Int)(w:World)(h:Lib.IsBuilderF 98 5 B b bs w)(hlen:bs.length+1≤140737488355328)(hBw:B≤w.heap.size) :
  Calls prog 71 #[.pointer (some ⟨b,0,none⟩),.int .u8 c] w fun e w'=>e=.returned .nilIface∧(Lib.BuilderAtF 98 5 B b (.pointer (some ⟨b,0,none⟩)) (bs++[.int .u8 c]) w'∧Below B w w'∧Lib.OthersKept 5 (some b) w w'):=Any.Builder_WriteByte_k Vq Tryz.vP B b bs c w h hlen hBw
theorem Tryz.Builder_WriteRune_k(B b:Nat)(bs:List Value)(r:Int)(hr0:-2147483648≤r)(hr1:r≤2147483647)(w:World)(h:Lib.IsBuilderF 98 5 B b bs w)(hlen:bs.length+4≤140737488355328)(hBw:B≤w.heap.size) :
  Calls prog 156 #[.pointer (some ⟨b,0,none⟩),.int .i32 r] w fun e w'=>e=.returned (.tuple #[.int .i64 (Lib.runeCells r).length,.nilIface])∧(Lib.BuilderAtF 98 5 B b (.pointer (some ⟨b,0,none⟩)) (bs++Lib.runeCells r) w'∧Below B w w'∧Lib.OthersKept 5 (some b) w w'):=Any.Builder_WriteRune_k Vr Tryz.vQ B b bs r hr0 hr1 w h hlen hBw
end Go.Proofs
namespace Go.Proofs.YtdkpkpgpphkljaaGreatDoor
open Tryz
open Go.RowKit
open M
variable{B b:Nat}{xs:List Value}{S:Nat→Prop}{w w':World}
theorem rD{p:Value}(h:Lib.BuilderAtF 98 5 B b p xs w)(hk:Kp S w w')(hb:¬ S b)(hS:∀ k c fz,S k→w.heap[k]?≠some (.cells c 5 fz)):Lib.BuilderAtF 98 5 B b p xs w':=by
 obtain⟨hB,v,h1,h2,h3⟩:=h;refine⟨hB,v,hk.heap h1 hb,?_,h3⟩;refine⟨h2.1,?_⟩;rcases h2.2 with h'|⟨g,cap,cur,fz,rfl,hg,hc,rest⟩
 ·exact .inl h'
 ·exact .inr ⟨g,cap,cur,fz,rfl,hg,hk.heap hc (fun hs=>hS g cur fz hs hc),rest⟩
theorem mg(h:Lib.IsBuilderF 98 5 B b xs w)(hk:Kp S w w')(hb:¬ S b)(hS:∀ k c fz,S k→w.heap[k]?≠some (.cells c 5 fz)):Lib.IsBuilderF 98 5 B b xs w' :=
 h.elim (fun x=>.inl (rD x hk hb hS)) (fun x=>.inr (rD x hk hb hS))
theorem x_(w:World):Lib.IsBuilderF 98 5 w.heap.size w.heap.size [] (w.alloc (.cells #[.pointer none,.slice none 0 0] 98)):=by
 refine .inl ⟨aj _,.slice none 0 0,?_,⟨by simp,.inl ⟨rfl,rfl⟩⟩,by simp[Value.ownBlock]⟩;show(w.heap.push _)[w.heap.size]?=_;simp
theorem lu.others{r:Nat}{s:ByteArray}{p:Nat}(h:lu w r s p)(hb:Below B w w')(ho:Lib.OthersKept 5 (some b) w w')(hr:r≠b)(hB:4≤B):lu w' r s p:=by
 refine⟨ho r _ h.raw (by intro e;exact hr (bK e)) (fun c fz e=>by cases e),?_,h.old,h.le,h.big⟩;refine h.tabs.keep (S:=fun k=>B≤k) (Kp.Pt hb (fun k h1 _=>h1)) (fun k hk e=>by omega)
end Go.Proofs.YtdkpkpgpphkljaaGreatDoor
