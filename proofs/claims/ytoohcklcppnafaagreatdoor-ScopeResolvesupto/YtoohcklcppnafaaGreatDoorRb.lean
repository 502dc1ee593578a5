import Derived.Test.YtoohcklcppnafaaGreatDoorRa
import Derived.Test.YtoohcklcppnafaaGreatDoorSh
import Derived.Deep.RegionHeld3
import Derived.BigQuiet
import Derived.Deep.DeepCutAuto
namespace Go.Proofs.YtoohcklcppnafaaGreatDoor
set_option maxHeartbeats 1000000
open Tryz
open Go.RowKit
open M
variable{S:Nat→Prop}{w w' a:aG}{b:Nat}{s:ByteArray}{p c z:Int}
def nE(w:aG):Prop:=Lib.Utf8Tabs 1 2 w∧3≤w.heap.size
theorem nE.keep(h:nE w)(hk:Kp S w w')(hn:∀ k,k<3→¬ S k):nE w':=by
 obtain⟨⟨h1,h2⟩,h3⟩:=h;refine⟨⟨fun c hcc=>?_,fun i hi=>?_⟩,?_⟩
 ·rw[hk.cell (p:=⟨1,c,none⟩) (by show 1<_;omega) (hn 1 au)];exact h1 c hcc
 ·rw[hk.cell (p:=⟨2,_,none⟩) (by show 2<_;omega) (hn 2 au),hk.cell (p:=⟨2,_,none⟩) (by show 2<_;omega) (hn 2 au)];exact h2 i hi
 ·have:=hk.size;omega
theorem nE.below(h:nE w)(hb:Below w.heap.size w w'):nE w':=h.keep (Kp.aN hb (fun _=>False)) (fun _ _=>id)
theorem nE.alloc{w:aG}(h:nE w)(o:Obj):nE (w.alloc o):=h.below ((aB _ _).alloc (ax _) _)
theorem Wl(s:ByteArray)(k:Nat):s.get! k=(bs s).getD k 0:=by
 cases s with
 | mk a =>
  show a[k]! = _;simp only[bs,bG,Array.getElem?_toList];rw[getElem!_def];cases a[k]?<;>rfl
theorem Hw(s:ByteArray):Lib.decodeGo s=dec (bs s):=by
 unfold Lib.decodeGo dec;rw[eY];by_cases h:s.size=0
 ·rw[aU h,aU h]
 ·rw[aM h,aM h,Lib.decode_at]
  simp only[Wl,Nat.sub_zero,bS]
theorem KP(s:ByteArray)(w:aG)(hT:nE w) :
  bB 140 #[.string s] w (cK (.tuple #[.int .i32 (ch (bs s)),ak (sz (bs s))]) fun w'=>Below w.heap.size w w'):=by
 have:=utf8_DecodeRuneInString s w hT.1;rw[Hw] at this;exact this
def Raw(w:aG)(b:Nat)(s:ByteArray)(p c z:Int):Prop:=w.heap[b]?=some (.cells #[.string s,ak p,.int .i32 c,ak z] 238 (0,0))
theorem Raw.facts(h:Raw w b s p c z) :
  (w.cell? (aC b 0)=some (.string s)∧w.cell? (aC b 1)=some (ak p)∧w.cell? (aC b 2)=some (.int .i32 c)∧w.cell? (aC b 3)=some (ak z)) ∧
  (w.frozen? (aC b 0)=false∧w.frozen? (aC b 1)=false∧w.frozen? (aC b 2)=false∧w.frozen? (aC b 3)=false):=by
 unfold Raw at h;refine⟨⟨?_,?_,?_,?_⟩,?_,?_,?_,?_⟩<;>simp[World.cell?,World.frozen?,h]
theorem Raw.lt(h:Raw w b s p c z):b<w.heap.size:=bN h
theorem Raw.keep(h:Raw w b s p c z)(hk:Kp S w w')(hn:¬ S b):Raw w' b s p c z:=hk.heap h hn
theorem Raw.below(h:Raw w b s p c z)(hk:Below w.heap.size w w'):Raw w' b s p c z:=h.keep (Kp.aN hk (fun _=>False)) id
theorem Raw.set1(h:Raw w b s p c z)(y:Int):Raw (w.setCell (aC b 1) (ak y)) b s y c z:=by
 unfold Raw at h ⊢;simp[World.setCell,aZ,h]
theorem Raw.set2(h:Raw w b s p c z)(x:Int):Raw (w.setCell (aC b 2) (.int .i32 x)) b s p x z:=by
 unfold Raw at h ⊢;simp[World.setCell,aZ,h]
theorem Raw.EZ(h:Raw w b s p c z)(y:Int):Raw (w.setCell (aC b 3) (ak y)) b s p c y:=by
 unfold Raw at h ⊢;simp[World.setCell,aZ,h]
structure nW(w:aG)(b:Nat)(s:ByteArray)(p:Nat):Prop where
 raw:Raw w b s p (cc ((bs s).drop p)) (sz ((bs s).drop p))
 tabs:nE w
 old:3≤b
 le:p≤s.size
 big:s.size≤1125899906842624
theorem nW.drewN{w:aG}{b:Nat}{s:ByteArray}{p:Nat}(h:nW w b s p)(n:Nat):nW (w.drewN n) b s p:=⟨h.raw,h.tabs,h.old,h.le,h.big⟩
abbrev On(b:Nat)(w w':aG):Prop:=Kp (fun k=>k=b) w w'
theorem On.set(h:On b a w)(i:Nat)(v:Value):On b a (w.setCell (aC b i) v):=Kp.setCell h (p:=⟨b,i,none⟩) (fun _=>rfl) v
theorem On.drewN(b:Nat)(w:aG)(n:Nat):On b w (w.drewN n):=⟨rfl,rfl,rfl,ax _,fun _ _ _=>rfl⟩
theorem On.to(h:On b a w)(k:On b w w'):On b a w':=Kp.trans h k (fun _ _ e=>e)
theorem On.aN(b:Nat){w w':aG}(h:Below w.heap.size w w'):On b w w':=Kp.aN h _
theorem On.below{b:Nat}{w w':aG}(h:On b w w'){B:Nat}(hB:B≤w.heap.size)(hb:B≤b):Below B w w':=Kp.below h hB (fun k e=>au)
theorem Hy(b:Nat)(s:ByteArray)(p:Nat)(c z:Int)(w:aG)(h:Raw w b s p c z)(hT:nE w)(hb:3≤b)(hp:p≤s.size)(hs:s.size≤1125899906842624) :
  bB 120 #[aH b] w (cK (.tuple #[]) fun w'=>nW w' b s p∧On b w w'):=by
 obtain⟨⟨c0,c1,c2,c3⟩,f0,f1,f2,f3⟩:=h.facts;by_cases he:p=s.size
 ·have HE:Hid ((bs s).drop p=[]):=by show _=_;rw[he,← eY];simp
  have h1:((p:Int)==(s.size:Int))=true:=by simp[he]
  clear he;go_enter func120,ntmps120;go_wp2_with fail
  go_quiet (fail)
  go_wp2_with fail
  refine aW (results_none rfl _ _ _) rfl ⟨rfl,⟨?_,?_,hb,hp,hs⟩,?_⟩
  ·rw[HE.o,lC,Zi]
   exact Raw.EZ (Raw.set2 (by exact h) _) _
  ·exact hT.keep (((On.drewN b w nq).set 2 _).set 3 _) (fun k hk e=>au)
  ·exact((On.drewN b w nq).set 2 _).set 3 _
 ·have h1:((p:Int)==(s.size:Int))=false:=by simp;omega
  have h2:p<s.size:=au
  clear he;go_enter func120,ntmps120;go_wp2_with fail
  go_quiet (fail)
  go_wp2_with fail
  go_region_held3 (fun w'=>w'.cell? (aC b 0)=some (.string s)∧w'.cell? (aC b 1)=some (ak p))
   (first|go_keep|exact⟨(Raw.facts (by exact R1.o)).1.1,(Raw.facts (by exact R1.o)).1.2.1⟩|exact⟨((R1.o).set2 _).facts.1.1,((R1.o).set2 _).facts.1.2.1⟩|exact⟨(((R1.o).set2 _).EZ _).facts.1.1,(((R1.o).set2 _).EZ _).facts.1.2.1⟩)
   (first
    | ((go_at_call 140;refine(KP _ _ (by exact hT)).aX fun w1 hb1=>?_;have r1:Raw w1 b s p c z:=Raw.below (by exact h) hb1;obtain⟨⟨x0,x1,x2,x3⟩,y0,y1,y2,y3⟩:=r1.facts;have R1:=aA r1;have HB1:=aA hb1;clear r1 hb1)))
  go_wp2_with fail
  have hne:(bs s).drop p≠[]:=by
   intro e;have:=congrArg List.length e;simp[eY] at this;omega
  have e1:(ch (bs (s.extract p s.size)):Int)=cc ((bs s).drop p):=by rw[uo,rH hne]
  have e2:(sz (bs (s.extract p s.size)):Int)=sz ((bs s).drop p):=by rw[uo]
  have hk1:On b w w1:=⟨(HB1.o).os,(HB1.o).tape,(HB1.o).output,(HB1.o).size,fun k hk _=>(HB1.o).block k hk⟩;have hk2:On b w ((w1.setCell (aC b 2) (.int .i32 (ch (bs (s.extract p s.size))))).setCell (aC b 3) (ak (sz (bs (s.extract p s.size))))):=(hk1.set 2 _).set 3 _;have hr2:Raw ((w1.setCell (aC b 2) (.int .i32 (ch (bs (s.extract p s.size))))).setCell (aC b 3) (ak (sz (bs (s.extract p s.size))))) b s p (cc ((bs s).drop p)) (sz ((bs s).drop p)):=by
   rw[← e1,← e2];exact((R1.o).set2 _).EZ _
  go_end0;exact⟨rfl,⟨hr2,hT.keep hk2 (fun k hk e=>au),hb,hp,hs⟩,hk2⟩
theorem iJ{p:Nat}(h:p<s.size):(bs s).drop p≠[]:=by
 intro e;have:=congrArg List.length e;simp[eY] at this;omega
theorem gK(l:ah)(p:Nat):nx (l.drop p)=l.drop (p+sz (l.drop p)):=by unfold nx;rw[cZ]
theorem jV{p:Nat}(h:p≤s.size):p+sz ((bs s).drop p)≤s.size:=by
 have:=Ak ((bs s).drop p);simp[eY] at this;omega
theorem fQ(b:Nat)(s:ByteArray)(p:Nat)(w:aG)(h:nW w b s p) :
  bB 141 #[aH b] w (cK (.tuple #[]) fun w'=>nW w' b s (p+sz ((bs s).drop p))∧On b w w'):=by
 obtain⟨hr,hT,hb,hp,hs⟩:=h;obtain⟨⟨c0,c1,c2,c3⟩,f0,f1,f2,f3⟩:=hr.facts;have h4:=uY ((bs s).drop p);have HZ:=aA (jV hp);go_enter func141,ntmps141;go_wp2_with fail
 go_cut [] (fun wx=>Raw wx b s (p+sz ((bs s).drop p):Nat) (cc ((bs s).drop p)) (sz ((bs s).drop p))∧On b w wx)
 case first =>
  go_region
  all_goals (go_wp2_with fail;go_meet)
  all_goals (case rel=>exact⟨by rw[j_];exact Raw.set1 (by exact hr) _,Kp.drew (On.set (Kp.refl _ w) 1 _)⟩)
 case rest =>
  obtain⟨g1,g2⟩:=hcut;have G2:=aA g2;go_wp2_with fail
  refine(Hy b s _ _ _ _ g1 (hT.keep g2 (fun k hk e=>au)) hb (HZ.o) hs).aX ?_;rintro w2 ⟨r2,k2⟩;go_wp2_with fail
  go_end0;exact⟨rfl,r2,(G2.o).to k2⟩
theorem v_(s:ByteArray)(p:Nat)(w:aG)(hT:nE w)(hp:p≤s.size)(hs:s.size≤1125899906842624) :
  bB 99 #[.string s,ak p] w (cK (aH w.heap.size) fun w'=>nW w' w.heap.size s p∧Below w.heap.size w w'):=by
 have h7:=hT.2;go_enter func99,ntmps99;go_wp2_with fail
 have hr:Raw (w.alloc (.cells #[.string s,ak p,.int .i32 0,ak 0] 238)) w.heap.size s p 0 0:=by
  show(w.heap.push _)[w.heap.size]?=_;simp
 refine(Hy w.heap.size s p 0 0 _ hr (hT.alloc _) h7 hp hs).aX ?_;rintro w2 ⟨r2,k2⟩;go_wp2_with fail
 go_ret;exact⟨rfl,r2,((aB _ _).alloc (ax _) _).trans (k2.below aT (ax _))⟩
end Go.Proofs.YtoohcklcppnafaaGreatDoor
