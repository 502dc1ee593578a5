/- The reader of a text in memory: it looks,it passes on,it gives its bytes. -/
import Derived.Test.YtbmebfgapjhchaaGreatDoorRa
import Derived.Test.YtbmebfgapjhchaaGreatDoorSh
import Derived.Deep.RegionHeld3
import Derived.Deep.DeepFit
import Derived.BigQuiet
import Derived.Deep.DeepCutAuto
import Derived.Deep.QuietTactic
namespace Go.Proofs.YtbmebfgapjhchaaGreatDoor
open Go.RowKit
open M
def Tabs (w:World):Prop:=Lib.Utf8Tabs 1 2 w∧3≤w.heap.size
theorem Tabs.keep {S:Nat→Prop} {w w':World} (h:Tabs w) (hk:Kp S w w') (hn:∀ k,k<3→¬ S k):Tabs w':=by
 obtain ⟨⟨h1,h2⟩,h3⟩:=h
 refine ⟨⟨fun c hcc=>?_,fun i hi=>?_⟩,?_⟩
 ·rw [hk.cell (p:=⟨1,c,none⟩) (by show 1<_;omega) (hn 1 (by omega))];exact h1 c hcc
 ·rw [hk.cell (p:=⟨2,_,none⟩) (by show 2<_;omega) (hn 2 (by omega)),hk.cell (p:=⟨2,_,none⟩) (by show 2<_;omega) (hn 2 (by omega))];exact h2 i hi
 ·have:=hk.size;omega
theorem Tabs.below {w w':World} (h:Tabs w) (hb:Below w.heap.size w w'):Tabs w':=h.keep (Kp.ofBelow hb (fun _=>False)) (fun _ _=>id)
theorem Tabs.alloc {w:World} (h:Tabs w) (o:Obj):Tabs (w.alloc o):=h.below ((Below.refl _ _).alloc (Nat.le_refl _) _)
theorem get!_bs (s:ByteArray) (k:Nat):s.get! k=(bs s).getD k 0:=by
 cases s with
 | mk a =>
  show a[k]! = _
  simp only [bs,List.getD_eq_getElem?_getD,Array.getElem?_toList]
  rw [getElem!_def]
  cases a[k]?<;>rfl
theorem decodeGo_bs (s:ByteArray):Lib.decodeGo s=dec (bs s):=by
 unfold Lib.decodeGo dec
 rw [bs_len]
 by_cases h:s.size=0
 ·rw [if_pos h,if_pos h]
 ·rw [if_neg h,if_neg h,Lib.decode_at]
  simp only [get!_bs,Nat.sub_zero,Nat.zero_add]
theorem decode_any (s:ByteArray) (w:World) (hT:Tabs w) :
  Calls Tryz.prog 105 #[.string s] w fun e w'=>e=.returned (.tuple #[.int .i32 (ch (bs s)),.int .i64 (sz (bs s))])∧Below w.heap.size w w':=by
 have:=Tryz.utf8_DecodeRuneInString s w hT.1
 rw [decodeGo_bs] at this
 exact this
def Raw (w:World) (b:Nat) (s:ByteArray) (p c z:Int):Prop:=w.heap[b]?=some (.cells #[.string s,.int .i64 p,.int .i32 c,.int .i64 z] 196 (0,0))
theorem Raw.facts {w:World} {b:Nat} {s:ByteArray} {p c z:Int} (h:Raw w b s p c z) :
  (w.cell? ⟨b,0,none⟩=some (.string s)∧w.cell? ⟨b,1,none⟩=some (.int .i64 p)∧w.cell? ⟨b,2,none⟩=some (.int .i32 c)∧w.cell? ⟨b,3,none⟩=some (.int .i64 z)) ∧
  (w.frozen? ⟨b,0,none⟩=false∧w.frozen? ⟨b,1,none⟩=false∧w.frozen? ⟨b,2,none⟩=false∧w.frozen? ⟨b,3,none⟩=false):=by
 unfold Raw at h
 refine ⟨⟨?_,?_,?_,?_⟩,?_,?_,?_,?_⟩<;>simp [World.cell?,World.frozen?,h]
theorem Raw.lt {w:World} {b:Nat} {s:ByteArray} {p c z:Int} (h:Raw w b s p c z):b<w.heap.size:=heap_lt h
theorem Raw.keep {S:Nat→Prop} {w w':World} {b:Nat} {s:ByteArray} {p c z:Int} (h:Raw w b s p c z) (hk:Kp S w w') (hn:¬ S b):Raw w' b s p c z:=hk.heap h hn
theorem Raw.below {w w':World} {b:Nat} {s:ByteArray} {p c z:Int} (h:Raw w b s p c z) (hk:Below w.heap.size w w'):Raw w' b s p c z:=h.keep (Kp.ofBelow hk (fun _=>False)) id
theorem Raw.set1 {w:World} {b:Nat} {s:ByteArray} {p c z:Int} (h:Raw w b s p c z) (y:Int):Raw (w.setCell ⟨b,1,none⟩ (.int .i64 y)) b s y c z:=by
 unfold Raw at h ⊢
 simp [World.setCell,Array.getElem?_modify,h]
theorem Raw.set2 {w:World} {b:Nat} {s:ByteArray} {p c z:Int} (h:Raw w b s p c z) (x:Int):Raw (w.setCell ⟨b,2,none⟩ (.int .i32 x)) b s p x z:=by
 unfold Raw at h ⊢
 simp [World.setCell,Array.getElem?_modify,h]
theorem Raw.set3 {w:World} {b:Nat} {s:ByteArray} {p c z:Int} (h:Raw w b s p c z) (y:Int):Raw (w.setCell ⟨b,3,none⟩ (.int .i64 y)) b s p c y:=by
 unfold Raw at h ⊢
 simp [World.setCell,Array.getElem?_modify,h]
structure Rdr (w:World) (b:Nat) (s:ByteArray) (p:Nat):Prop where
 raw:Raw w b s p (cc ((bs s).drop p)) (sz ((bs s).drop p))
 tabs:Tabs w
 old:3≤b
 le:p≤s.size
 big:s.size≤1125899906842624
theorem Rdr.drewN {w:World} {b:Nat} {s:ByteArray} {p:Nat} (h:Rdr w b s p) (n:Nat):Rdr (w.drewN n) b s p:=⟨h.raw,h.tabs,h.old,h.le,h.big⟩
abbrev On (b:Nat) (w w':World):Prop:=Kp (fun k=>k=b) w w'
theorem On.set {b:Nat} {a w:World} (h:On b a w) (i:Nat) (v:Value):On b a (w.setCell ⟨b,i,none⟩ v):=Kp.setCell h (p:=⟨b,i,none⟩) (fun _=>rfl) v
theorem On.drewN (b:Nat) (w:World) (n:Nat):On b w (w.drewN n):=⟨rfl,rfl,rfl,Nat.le_refl _,fun _ _ _=>rfl⟩
theorem On.to {b:Nat} {a w w':World} (h:On b a w) (k:On b w w'):On b a w':=Kp.trans h k (fun _ _ e=>e)
theorem On.ofBelow (b:Nat) {w w':World} (h:Below w.heap.size w w'):On b w w':=Kp.ofBelow h _
theorem On.below {b:Nat} {w w':World} (h:On b w w') {B:Nat} (hB:B≤w.heap.size) (hb:B≤b):Below B w w':=Kp.below h hB (fun k e=>by omega)
set_option maxHeartbeats 1000000 in
theorem look_any (b:Nat) (s:ByteArray) (p:Nat) (c z:Int) (w:World) (h:Raw w b s p c z) (hT:Tabs w) (hb:3≤b) (hp:p≤s.size) (hs:s.size≤1125899906842624) :
  Calls Tryz.prog 83 #[.pointer (some ⟨b,0,none⟩)] w fun e w'=>e=.returned (.tuple #[])∧Rdr w' b s p∧On b w w':=by
 obtain ⟨⟨c0,c1,c2,c3⟩,f0,f1,f2,f3⟩:=h.facts
 by_cases he:p=s.size
 ·have HE:Hid ((bs s).drop p=[]):=by show _=_;rw [he,← bs_len];simp
  have h1:((p:Int)==(s.size:Int))=true:=by simp [he]
  clear he
  go_enter Tryz.func83,Tryz.ntmps83
  go_wp2_with fail
  go_quiet (fail)
  go_wp2_with fail
  refine bodyPost_ret (results_none rfl _ _ _) rfl ⟨rfl,⟨?_,?_,hb,hp,hs⟩,?_⟩
  ·rw [HE.out,cc_nil,sz_nil]
   exact Raw.set3 (Raw.set2 (by exact h) _) _
  ·exact hT.keep (((On.drewN b w nq).set 2 _).set 3 _) (fun k hk e=>by omega)
  ·exact ((On.drewN b w nq).set 2 _).set 3 _
 ·have h1:((p:Int)==(s.size:Int))=false:=by simp;omega
  have h2:p<s.size:=by omega
  clear he
  go_enter Tryz.func83,Tryz.ntmps83
  go_wp2_with fail
  go_quiet (fail)
  go_wp2_with fail
  go_region_held3 (fun w'=>w'.cell? ⟨b,0,none⟩=some (.string s)∧w'.cell? ⟨b,1,none⟩=some (.int .i64 p))
   (first|go_keep|exact ⟨(Raw.facts (by exact R1.out)).1.1,(Raw.facts (by exact R1.out)).1.2.1⟩|exact ⟨((R1.out).set2 _).facts.1.1,((R1.out).set2 _).facts.1.2.1⟩|exact ⟨(((R1.out).set2 _).set3 _).facts.1.1,(((R1.out).set2 _).set3 _).facts.1.2.1⟩)
   (first
    | ((go_at_call 105;refine (decode_any _ _ (by exact hT)).mono ?_;rintro e w1 ⟨rfl,hb1⟩;have r1:Raw w1 b s p c z:=Raw.below (by exact h) hb1;obtain ⟨⟨x0,x1,x2,x3⟩,y0,y1,y2,y3⟩:=r1.facts;have R1:=hide r1;have HB1:=hide hb1;clear r1 hb1)))
  go_wp2_with fail
  have hne:(bs s).drop p≠[]:=by
   intro e;have:=congrArg List.length e;simp [bs_len] at this;omega
  have e1:(ch (bs (s.extract p s.size)):Int)=cc ((bs s).drop p):=by rw [bs_drop,cc_some hne]
  have e2:(sz (bs (s.extract p s.size)):Int)=sz ((bs s).drop p):=by rw [bs_drop]
  have hk1:On b w w1:=⟨(HB1.out).os,(HB1.out).tape,(HB1.out).output,(HB1.out).size,fun k hk _=>(HB1.out).block k hk⟩
  have hk2:On b w ((w1.setCell ⟨b,2,none⟩ (.int .i32 (ch (bs (s.extract p s.size))))).setCell ⟨b,3,none⟩ (.int .i64 (sz (bs (s.extract p s.size))))):=(hk1.set 2 _).set 3 _
  have hr2:Raw ((w1.setCell ⟨b,2,none⟩ (.int .i32 (ch (bs (s.extract p s.size))))).setCell ⟨b,3,none⟩ (.int .i64 (sz (bs (s.extract p s.size))))) b s p (cc ((bs s).drop p)) (sz ((bs s).drop p)):=by
   rw [← e1,← e2];exact ((R1.out).set2 _).set3 _
  go_end0
  exact ⟨rfl,⟨hr2,hT.keep hk2 (fun k hk e=>by omega),hb,hp,hs⟩,hk2⟩
theorem drop_ne {s:ByteArray} {p:Nat} (h:p<s.size):(bs s).drop p≠[]:=by
 intro e;have:=congrArg List.length e;simp [bs_len] at this;omega
theorem nx_drop (l:List UInt8) (p:Nat):nx (l.drop p)=l.drop (p+sz (l.drop p)):=by unfold nx;rw [List.drop_drop]
theorem sz_drop_le {s:ByteArray} {p:Nat} (h:p≤s.size):p+sz ((bs s).drop p)≤s.size:=by
 have:=sz_le ((bs s).drop p);simp [bs_len] at this;omega
set_option maxHeartbeats 1000000 in
theorem pass_any (b:Nat) (s:ByteArray) (p:Nat) (w:World) (h:Rdr w b s p) :
  Calls Tryz.prog 106 #[.pointer (some ⟨b,0,none⟩)] w fun e w'=>e=.returned (.tuple #[])∧Rdr w' b s (p+sz ((bs s).drop p))∧On b w w':=by
 obtain ⟨hr,hT,hb,hp,hs⟩:=h
 obtain ⟨⟨c0,c1,c2,c3⟩,f0,f1,f2,f3⟩:=hr.facts
 have h4:=sz_le4 ((bs s).drop p)
 have HZ:=hide (sz_drop_le hp)
 go_enter Tryz.func106,Tryz.ntmps106
 go_wp2_with fail
 go_cut [] (fun wx=>Raw wx b s (p+sz ((bs s).drop p):Nat) (cc ((bs s).drop p)) (sz ((bs s).drop p))∧On b w wx)
 case first =>
  go_region
  all_goals (go_wp2_with fail;go_meet)
  all_goals (case rel=>exact ⟨by rw [Int.natCast_add];exact Raw.set1 (by exact hr) _,Kp.drew (On.set (Kp.refl _ w) 1 _)⟩)
 case rest =>
  obtain ⟨g1,g2⟩:=hcut
  have G2:=hide g2
  go_wp2_with fail
  refine (look_any b s _ _ _ _ g1 (hT.keep g2 (fun k hk e=>by omega)) hb (HZ.out) hs).mono ?_
  rintro e w2 ⟨rfl,r2,k2⟩
  go_wp2_with fail
  go_end0
  exact ⟨rfl,r2,(G2.out).to k2⟩
set_option maxHeartbeats 1000000 in
theorem readFrom_any (s:ByteArray) (p:Nat) (w:World) (hT:Tabs w) (hp:p≤s.size) (hs:s.size≤1125899906842624) :
  Calls Tryz.prog 56 #[.string s,.int .i64 p] w fun e w'=>e=.returned (.pointer (some ⟨w.heap.size,0,none⟩))∧Rdr w' w.heap.size s p∧Below w.heap.size w w':=by
 have h7:=hT.2
 go_enter Tryz.func56,Tryz.ntmps56
 go_wp2_with fail
 have hr:Raw (w.alloc (.cells #[.string s,.int .i64 p,.int .i32 0,.int .i64 0] 196)) w.heap.size s p 0 0:=by
  show (w.heap.push _)[w.heap.size]?=_
  simp
 refine (look_any w.heap.size s p 0 0 _ hr (hT.alloc _) h7 hp hs).mono ?_
 rintro e w2 ⟨rfl,r2,k2⟩
 go_wp2_with fail
 go_ret
 exact ⟨rfl,r2,((Below.refl _ _).alloc (Nat.le_refl _) _).trans (k2.below (by simp) (Nat.le_refl _))⟩
end Go.Proofs.YtbmebfgapjhchaaGreatDoor
