/- How many characters a text has,as the document counts. -/
import Derived.Test.YtgpcpbmacdhlkaaGreatDoorXy
import Derived.Test.YtgpcpbmacdhlkaaGreatDoorDa
namespace Go.Proofs.YtgpcpbmacdhlkaaGreatDoor
open Go.RowKit
open M
theorem X.chars_cons {t:List UInt8} (h:t≠[]):X.chars t=1+X.chars (nx t):=by
 conv=>lhs;rw [X.chars]
 simp [h]
theorem X.chars_nil:X.chars []=0:=by rw [X.chars];simp
theorem X.chars_le (n:Nat):∀ t:List UInt8,t.length≤n→X.chars t≤t.length:=by
 induction n with
 | zero=>intro t h;have:t=[]:=List.eq_nil_of_length_eq_zero (by omega);subst this;rw [X.chars_nil];exact Nat.le_refl _
 | succ n ih =>
  intro t h
  by_cases h0:t=[]
  ·subst h0;rw [X.chars_nil];exact Nat.le_refl _
  ·rw [X.chars_cons h0]
   have h1:=nx_lt h0
   have:=ih (nx t) (by omega)
   omega
set_option maxRecDepth 100000 in
set_option maxHeartbeats 4000000 in
theorem ychars_any (s:ByteArray) (w:World) (hs:s.size≤1073741823) :
  Calls Tryz.prog 23 #[.string s] w fun e w'=>e=.returned (.int .i64 (X.chars (bs s)))∧w'=w:=by
 have hbl:=bs_len s
 go_enter Tryz.func23,Tryz.ntmps23
 go_wp2_with fail
 go_loopw [3,4] (fun a v wr=>∃ k i:Nat,i≤s.size∧k≤i∧Hid (X.chars (bs s)=k+X.chars ((bs s).drop i))∧a=.int .i64 k∧v=.int .i64 i∧wr=w) (fun _ v _=>s.size - (intOf v).toNat)
 case atStart=>exact ⟨0,0,Nat.zero_le _,Nat.le_refl _,by show _=_;rw [List.drop_zero,Nat.zero_add],rfl,rfl,rfl⟩
 case round =>
  obtain ⟨k,i,hi,hk,HC,rfl,rfl,rfl⟩:=hrel
  by_cases hlt:i<s.size
  ·have i2:(i:Int)<(s.size:Int):=by omega
   have i3:decide ((i:Int)<(s.size:Int))=true:=by simp;omega
   have i4:(0:Int)≤(i:Int):=Int.natCast_nonneg _
   have i5:(i:Int)≤(s.size:Int):=by omega
   have hD:bs (s.extract i s.size)=(bs s).drop i:=bs_drop s i
   have hne:(bs s).drop i≠[]:=fun e=>by have:=congrArg List.length e;rw [List.length_drop,List.length_nil] at this;omega
   have hsz:0<(s.extract i s.size).size:=by rw [← bs_len,hD,List.length_drop];omega
   have hst:=X.chars_cons hne
   have hsp:=sz_pos hne
   have hsl:=sz_le ((bs s).drop i)
   rw [List.length_drop] at hsl
   have hnx:nx ((bs s).drop i)=(bs s).drop (i+sz ((bs s).drop i)):=by unfold nx;rw [List.drop_drop]
   have HR:=hide (refRune_any (s.extract i s.size) wr hsz)
   rw [hD] at HR
   have HN:Hid (X.chars (bs s)=(k+1)+X.chars ((bs s).drop (i+sz ((bs s).drop i)))):=by show _=_;rw [HC.out,hst,hnx];omega
   generalize sz ((bs s).drop i)=z at *
   clear hD hne hst hnx HC hsz
   go_wp2_with fail
   refine (HR.out).mono ?_
   rintro e w' ⟨rfl,rfl⟩
   go_wp2_with fail
   exact ⟨⟨k+1,i+z,by omega,by omega,HN,by go_num,by go_num,trivial⟩,by simp only [intOf];omega⟩
  ·obtain rfl:i=s.size:=by omega
   have i3:decide ((s.size:Int)<(s.size:Int))=false:=by simp
   have hE:X.chars (bs s)=k:=by
    have:=HC.out
    rw [List.drop_of_length_le (by omega),X.chars_nil] at this
    exact this
   have HE:=hide hE
   clear hE HC
   go_wp2_with fail
   go_ret
   exact ⟨by rw [HE.out];rfl,rfl⟩
end Go.Proofs.YtgpcpbmacdhlkaaGreatDoor
