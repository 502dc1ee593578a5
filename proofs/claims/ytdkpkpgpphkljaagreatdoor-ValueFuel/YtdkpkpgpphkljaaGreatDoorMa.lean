/- A small number in digits of sixteen. -/
import Derived.Test.YtdkpkpgpphkljaaGreatDoorRb
import Derived.Handy
namespace Go.Proofs.YtdkpkpgpphkljaaGreatDoor
set_option maxRecDepth 100000
set_option maxHeartbeats 80000000
open Tryz
open Go.RowKit
open M
def Tz(w:World):Prop:=w.cell? ⟨7,15,none⟩=some (.int .u8 4)
theorem aI8(w:World)(h:Tz w):Calls prog 177 #[.int .u64 16] w fun e w'=>e=.returned (.int .i64 4)∧w'=w:=by
 unfold Tz at h;have hA:bits .and .u64 16 (IntKind.u64.wrap (-16))=16:=by kernel_rfl
 have hB:IntKind.u64.wrap (16*285870213051353865) / 288230376151711744=15:=by kernel_rfl
 go_enter func177,ntmps177;go_wp2
 go_ret;exact⟨rfl,rfl⟩
theorem Pw(w:World)(h:Tz w):Calls prog 161 #[.int .u64 16] w fun e w'=>e=.returned (.int .i64 4)∧w'=w:=by
 go_enter func161,ntmps161;go_wp2_with ((go_at_call 177;refine(aI8 _ (by exact h)).mono ?_;rintro e w' ⟨rfl,rfl⟩))
 go_ret;exact⟨rfl,rfl⟩
theorem pow2(w:World):Calls prog 160 #[.int .i64 16] w fun e w'=>e=.returned (.bool true)∧w'=w:=by
 have hA:bits .and .i64 16 15=0:=by kernel_rfl
 go_enter func160,ntmps160;go_wp2
 go_ret;exact⟨rfl,rfl⟩
theorem Tz.alloc{w:World}(h:Tz w)(o:Obj):Tz (w.alloc o):=Lib.cell?_alloc_some _ h
theorem zP(w:World)(A:Array Value)(t:TypeId)(i:Nat)(v:Value)(h:A[i]?=some v):(w.alloc (.cells A t)).cell? ⟨w.heap.size,i,none⟩=some v:=by
 have e:(w.alloc (.cells A t)).heap[w.heap.size]?=some (.cells A t):=by
  show(w.heap.push _)[w.heap.size]?=_;simp
 unfold World.cell?;simp only;rw[e];exact h
theorem Px{a a':ByteArray}(h:a=a'):Ending.returned (.tuple #[.slice none 0 0,.string a])=.returned (.tuple #[.slice none 0 0,.string a']):=by rw[h]
theorem Py(w:World)(h:Tz w)(n:Int)(x:UInt8)(H:(n,x)∈[((0:Int),(48:UInt8)),(1,49),(2,50),(3,51),(4,52),(5,53),(6,54),(7,55),(8,56),(11,98),(12,99),(13,100),(14,101),(15,102)]):Calls prog 127 #[.slice none 0 0,.int .u64 n,.int .i64 16,.bool false,.bool false] w fun e w'=>e=.returned (.tuple #[.slice none 0 0,.string ⟨#[x]⟩])∧Below w.heap.size w w':=by
 simp only[cK,dG,kZ,or_false] at H;rcases H with ⟨rfl,HX⟩|⟨rfl,HX⟩|⟨rfl,HX⟩|⟨rfl,HX⟩|⟨rfl,HX⟩|⟨rfl,HX⟩|⟨rfl,HX⟩|⟨rfl,HX⟩|⟨rfl,HX⟩|⟨rfl,HX⟩|⟨rfl,HX⟩|⟨rfl,HX⟩|⟨rfl,HX⟩|⟨rfl,HX⟩
 all_goals
  replace HX:=au HX
  go_enter func127,ntmps127;go_wp2_with (first|(go_at_call 160;refine(pow2 _).mono ?_;rintro e w' ⟨rfl,rfl⟩)|(go_at_call 161;refine(Pw _ (h.alloc _)).mono ?_;rintro e w' ⟨rfl,rfl⟩))
  go_rounds 1
  rw[run_convert_bytes_arg (P:=prog) _ 96 5 underlying96 underlying5 w.heap.size 64 1 1 [(x.toNat:Int)] rfl ?hcell 9 underlying9]
  case hcell =>
   intro i hi;obtain rfl:i=0:=by omega
   rw[HX.o];exact zP _ _ _ _ _ (by kernel_rfl)
  go_wp2
  go_ret2;exact⟨Px (by rw[HX.o];kernel_rfl),(ay _ _).alloc (aj _) _⟩
theorem Pz(w:World)(h:Tz w)(n b:Int)(x y:UInt8)(hb:bits .and .u64 n 15=b)(H:(n,b,x,y)∈[((16:Int),(0:Int),(49:UInt8),(48:UInt8)),(17,1,49,49),(18,2,49,50),(19,3,49,51),(20,4,49,52),(21,5,49,53),(22,6,49,54),(23,7,49,55),(24,8,49,56),(25,9,49,57),(26,10,49,97),(27,11,49,98),(28,12,49,99),(29,13,49,100),(30,14,49,101),(31,15,49,102),(127,15,55,102)]):Calls prog 127 #[.slice none 0 0,.int .u64 n,.int .i64 16,.bool false,.bool false] w fun e w'=>e=.returned (.tuple #[.slice none 0 0,.string ⟨#[x,y]⟩])∧Below w.heap.size w w':=by
 simp only[cK,dG,kZ,or_false] at H;rcases H with ⟨rfl,rfl,HX⟩|⟨rfl,rfl,HX⟩|⟨rfl,rfl,HX⟩|⟨rfl,rfl,HX⟩|⟨rfl,rfl,HX⟩|⟨rfl,rfl,HX⟩|⟨rfl,rfl,HX⟩|⟨rfl,rfl,HX⟩|⟨rfl,rfl,HX⟩|⟨rfl,rfl,HX⟩|⟨rfl,rfl,HX⟩|⟨rfl,rfl,HX⟩|⟨rfl,rfl,HX⟩|⟨rfl,rfl,HX⟩|⟨rfl,rfl,HX⟩|⟨rfl,rfl,HX⟩|⟨rfl,rfl,HX⟩
 all_goals
  replace HX:=au HX
  go_enter func127,ntmps127;go_wp2_with (first|(go_at_call 160;refine(pow2 _).mono ?_;rintro e w' ⟨rfl,rfl⟩)|(go_at_call 161;refine(Pw _ (h.alloc _)).mono ?_;rintro e w' ⟨rfl,rfl⟩))
  go_rounds 2
  rw[run_convert_bytes_arg (P:=prog) _ 96 5 underlying96 underlying5 w.heap.size 63 2 2 [(x.toNat:Int),(y.toNat:Int)] rfl ?hcell 9 underlying9]
  case hcell =>
   intro i hi;rw[HX.o.1,HX.o.2];rcases(by omega:i=0∨i=1) with rfl|rfl
   ·exact zP _ _ _ _ _ (by kernel_rfl)
   ·exact zP _ _ _ _ _ (by kernel_rfl)
  go_wp2
  go_ret2;exact⟨Px (by rw[HX.o.1,HX.o.2];kernel_rfl),(ay _ _).alloc (aj _) _⟩
def hxd(n:Nat):UInt8:=if n<10 then UInt8.ofNat (48+n) else UInt8.ofNat (87+n)
def hx(c:Nat):ah:=if c<16 then [hxd c] else [hxd (c / 16),hxd (c % 16)]
def Odd(c:Nat):Prop:=(c<32∧c≠9∧c≠10)∨c=127
theorem PD(c:Nat)(hc:Odd c)(w:World)(h:Tz w):Calls prog 127 #[.slice none 0 0,.int .u64 c,.int .i64 16,.bool false,.bool false] w fun e w'=>e=.returned (.tuple #[.slice none 0 0,.string (ba (hx c))])∧Below w.heap.size w w':=by
 unfold Odd at hc;rcases(by omega:c=0∨c=1∨c=2∨c=3∨c=4∨c=5∨c=6∨c=7∨c=8∨c=11∨c=12∨c=13∨c=14∨c=15∨c=16∨c=17∨c=18∨c=19∨c=20∨c=21∨c=22∨c=23∨c=24∨c=25∨c=26∨c=27∨c=28∨c=29∨c=30∨c=31∨c=127) with rfl|rfl|rfl|rfl|rfl|rfl|rfl|rfl|rfl|rfl|rfl|rfl|rfl|rfl|rfl|rfl|rfl|rfl|rfl|rfl|rfl|rfl|rfl|rfl|rfl|rfl|rfl|rfl|rfl|rfl|rfl
 all_goals first|exact Py w h _ _ (by decide)|exact Pz w h _ _ _ _ rfl (by decide)
theorem zQ(c:Nat)(hc:Odd c)(w:World)(h:Tz w):Calls prog 75 #[.int .i64 c,.int .i64 16] w fun e w'=>e=.returned (.string (ba (hx c)))∧Below w.heap.size w w':=by
 have WS:c<128:=by unfold Odd at hc;omega
 have hi:(c:Int)<128:=by omega
 go_enter func75,ntmps75;go_wp2_with (first|(go_at_call 127;refine(PD c hc _ (by exact h)).mono ?_;rintro e w1 ⟨rfl,k1⟩)|go_in)
 go_ret;exact⟨rfl,k1⟩
end Go.Proofs.YtdkpkpgpphkljaaGreatDoor
