/- Package value: values as texts;a piece is written. -/
import Derived.Test.YtdkpkpgpphkljaaGreatDoorMvv
import Derived.Test.YtdkpkpgpphkljaaGreatDoorQb
import Derived.Test.YtdkpkpgpphkljaaGreatDoorWma0
import Derived.Test.YtdkpkpgpphkljaaGreatDoorWmf
namespace Go.Proofs.YtdkpkpgpphkljaaGreatDoor
set_option maxRecDepth 100000
set_option maxHeartbeats 1000000
open Tryz
open Go.RowKit
open M
open E (V)
variable{w w' w0:World}{B:Nat}
def Tb (w : World) : Prop := Lib.TabIs Tryz.prog w "internal/strconv.uint64pow10" .u64 Lib.pow10Tab
theorem Tb.below(h:Tb w)(hb:Below w.heap.size w w'):Tb w':=by
 unfold Tb Lib.TabIs World.var? at *;revert h;cases hg : Tryz.prog.globalNamed "internal/strconv.uint64pow10" with
 | none=>intro h;exact h
 | some g =>
  intro h;simp only[Option.bind_some] at h ⊢;have hl:g<w.heap.size:=by
   rcases bE g w.heap.size with q|q
   ·exact q
   ·rw[qW q] at h;simp at h
  rw[hb.block g hl];exact h
theorem ML(n:Int)(h0:-9223372036854775808≤n)(h1:n≤9223372036854775807)(w:World)(ht:Tb w) :
  Calls prog 40 #[.int .i64 n] w fun e w'=>e=.returned (.string (ba (Lib.itoa n)))∧Below w.heap.size w w':=by
 refine(Any.strconv_Itoa U0 n h0 h1 w ht).mono ?_;rintro e w' ⟨rfl,k,os,rfl⟩;refine⟨rfl,rfl,rfl,rfl,by simp[Go.«Sort».grow],fun q hq=>?_⟩;simp[Go.«Sort».grow,Array.getElem?_append,hq]
def U1(b:Bool):ah:=if b then [116,114,117,101] else [102,97,108,115,101]
theorem Jh(b:Bool)(w:World):Calls prog 41 #[.bool b] w fun e w'=>e=.returned (.string (ba (U1 b)))∧w'=w:=by
 cases b
 ·go_enter func41,ntmps41
  go_wp2
  go_ret;exact⟨rfl,rfl⟩
 ·go_enter func41,ntmps41
  go_wp2
  go_ret;exact⟨rfl,rfl⟩
def z_(o x:ah):Option (ah):=if 20000<o.length+x.length then none else some (o++x)
mutual
def wV:V→ah→Option (ah)
 | .int n,o=>z_ o (Lib.itoa n)
 | .mH b,o=>z_ o (U1 b)
 | .txt x,o=>z_ o (34::qt x++[34])
 | .list l,o=>match z_ o [91] with
  | none=>none
  | some o=>match KW true l o with
   | none=>none
   | some o=>z_ o [93]
 | .fn _ _,o=>z_ o [102,117,110]
def KW:Bool→List V→ah→Option (ah)
 | _,[],o=>some o
 | fst,v::l,o=>match (if fst then some o else z_ o [44,32]) with
  | none=>none
  | some o=>match wV v o with
   | none=>none
   | some o=>KW false l o
end
def wrF(p v:Value):Array Value:=#[p,v]
theorem Ji:Host wrF 100 0 2:=⟨fun _ _=>rfl,fun _ _=>rfl,fun _ _ _=>rfl,fun _ _ _=>rfl,fun _ _=>rfl,by decide,by kernel_rfl,by decide⟩
def yI(w0 w:World)(B:Nat)(l:ah):Prop:=(∃ p bv,Ef wrF 100 0 w B l p bv)∧w0.heap.size≤B∧Below w0.heap.size w0 w∧l.length≤20000
theorem yI.below{w0 w w':World}{B:Nat}{l:ah}(h:yI w0 w B l)(hb:Below w.heap.size w w'):yI w0 w' B l:=by
 obtain⟨⟨p,bv,h1⟩,h2,h3,h4⟩:=h;exact⟨⟨p,bv,h1.below hb⟩,h2,h3.trans (hb.mono h3.size),h4⟩
def WrR(w0:World)(B:Nat)(r:Option (ah))(e:Ending)(w':World):Prop:=match r with
 | some o=>e=.returned (.bool true)∧yI w0 w' B o
 | none=>e=.returned (.bool false)∧Below w0.heap.size w0 w'
theorem WrR.or{r:Option (ah)}{e:Ending}(h:WrR w0 B r e w'):(∃ o,r=some o∧e=.returned (.bool true)∧Hid (yI w0 w' B o))∨(r=none∧e=.returned (.bool false)∧Hid (Below w0.heap.size w0 w')):=by
 cases r with
 | some o=>exact .inl ⟨o,rfl,h.1,h.2⟩
 | none=>exact .inr ⟨rfl,h.1,h.2⟩
theorem pF{l:ah}(x:ah)(h:yI w0 w B l)(hx:x.length≤1073741824) :
  Calls prog 39 #[.pointer (some ⟨B,0,none⟩),.string (ba x)] w fun e w'=>Hid (WrR w0 B (z_ l x) e w'):=by
 obtain⟨⟨p,bv,h1⟩,h2,h3,h4⟩:=h;have HL:=au (Qj Ji B l p bv w h1);have HS:=au (Qk Ji x B l p bv w h1 (by omega));have hsz:(ba x).size=x.length:=iW _;have HH:=au h1;have HB:=au h3;have HB2:=au h2;have HXS:=au hsz;clear h1 h3 h2 hsz;by_cases hlt:20000<l.length+x.length
 ·have q1:decide ((20000:Int)<(l.length:Int)+(x.length:Int))=true:=by simp;omega
  have HA:Hid (z_ l x=none):=aL hlt;have hxs:((ba x).size:Int)=(x.length:Int):=by rw[HXS.o]
  generalize ba x=X at *;clear hlt;go_enter func39,ntmps39;go_wp2_with fail
  refine(HL.o).mono ?_;rintro e w1 ⟨rfl,rfl⟩;go_wp2_with fail
  go_ret;rw[HA.o];exact⟨rfl,HB.o⟩
 ·have q1:decide ((20000:Int)<(l.length:Int)+(x.length:Int))=false:=by simp;omega
  have HA:Hid (z_ l x=some (l++x)):=aG hlt;have hxs:((ba x).size:Int)=(x.length:Int):=by rw[HXS.o]
  have Od:=au hlt;generalize ba x=X at *;clear hlt;go_enter func39,ntmps39;go_wp2_with fail
  refine(HL.o).mono ?_;rintro e w1 ⟨rfl,rfl⟩;go_wp2_with fail
  refine(HS.o).mono ?_;rintro e w2 ⟨⟨v,rfl⟩,H2⟩;go_wp2_with fail
  go_ret;rw[HA.o];obtain⟨p',Oh,k1,k2,k3⟩:=H2.o;have hlt:=Od.o;refine⟨rfl,⟨p',Oh,k1⟩,HB2.o,(HB.o).trans (k3.below (HB.o).size (fun k hk=>?_)),by rw[ak];omega⟩;rcases hk with rfl|hk
  ·exact HB2.o
  ·exact bS HB2.o (yY (HH.o).row hk).1
end Go.Proofs.YtdkpkpgpphkljaaGreatDoor
