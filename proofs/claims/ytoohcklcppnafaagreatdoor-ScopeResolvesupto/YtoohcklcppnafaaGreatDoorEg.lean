import Derived.Test.YtoohcklcppnafaaGreatDoorHa
import Derived.Handy
namespace Go.Proofs.YtoohcklcppnafaaGreatDoor
set_option maxRecDepth 100000
set_option maxHeartbeats 8000000
open Tryz
open Go.RowKit
open M
theorem mP{s:ByteArray}{l:ah}(h:¬ s=⟨l.toArray⟩):(l==s.toList)=false:=by
 rw[jw,eO];exact fun e=>h (iD (by rw[show bs s=l from e.symm];simp[bs]))
theorem tu(s:ByteArray)(w:aG):bB 92 #[.string s] w (cK (.bool (mh (bs s))) fun w'=>Below w.heap.size w w'):=by
 by_cases h0:s=⟨#[117,115,101]⟩
 ·subst h0
  rw[gP aS];go_enter func92,ntmps92;go_wp2
  go_rounds 1
  go_ret;exact⟨rfl,(aB _ _).alloc (ax _) _⟩
 by_cases h1:s=⟨#[97,115]⟩
 ·subst h1
  rw[gP aS];go_enter func92,ntmps92;go_wp2
  go_rounds 2
  go_ret;exact⟨rfl,(aB _ _).alloc (ax _) _⟩
 by_cases h2:s=⟨#[112,117,98]⟩
 ·subst h2
  rw[gP aS];go_enter func92,ntmps92;go_wp2
  go_rounds 3
  go_ret;exact⟨rfl,(aB _ _).alloc (ax _) _⟩
 by_cases h3:s=⟨#[100,101,102]⟩
 ·subst h3
  rw[gP aS];go_enter func92,ntmps92;go_wp2
  go_rounds 4
  go_ret;exact⟨rfl,(aB _ _).alloc (ax _) _⟩
 by_cases h4:s=⟨#[108,101,116]⟩
 ·subst h4
  rw[gP aS];go_enter func92,ntmps92;go_wp2
  go_rounds 5
  go_ret;exact⟨rfl,(aB _ _).alloc (ax _) _⟩
 by_cases h5:s=⟨#[105,110]⟩
 ·subst h5
  rw[gP aS];go_enter func92,ntmps92;go_wp2
  go_rounds 6
  go_ret;exact⟨rfl,(aB _ _).alloc (ax _) _⟩
 by_cases h6:s=⟨#[105,102]⟩
 ·subst h6
  rw[gP aS];go_enter func92,ntmps92;go_wp2
  go_rounds 7
  go_ret;exact⟨rfl,(aB _ _).alloc (ax _) _⟩
 by_cases h7:s=⟨#[116,104,101,110]⟩
 ·subst h7
  rw[gP aS];go_enter func92,ntmps92;go_wp2
  go_rounds 8
  go_ret;exact⟨rfl,(aB _ _).alloc (ax _) _⟩
 by_cases h8:s=⟨#[101,108,115,101]⟩
 ·subst h8
  rw[gP aS];go_enter func92,ntmps92;go_wp2
  go_rounds 9
  go_ret;exact⟨rfl,(aB _ _).alloc (ax _) _⟩
 by_cases h9:s=⟨#[102,117,110]⟩
 ·subst h9
  rw[gP aS];go_enter func92,ntmps92;go_wp2
  go_rounds 10
  go_ret;exact⟨rfl,(aB _ _).alloc (ax _) _⟩
 by_cases h10:s=⟨#[116,114,117,101]⟩
 ·subst h10
  rw[gP aS];go_enter func92,ntmps92;go_wp2
  go_rounds 11
  go_ret;exact⟨rfl,(aB _ _).alloc (ax _) _⟩
 by_cases h11:s=⟨#[102,97,108,115,101]⟩
 ·subst h11
  rw[gP aS];go_enter func92,ntmps92;go_wp2
  go_rounds 12
  go_ret;exact⟨rfl,(aB _ _).alloc (ax _) _⟩
 have HN:Hid (mh (bs s)=false):=by
  refine Mq (fun h=>?_);simp only[words,fJ,o7,or_false] at h;rcases h with h|h|h|h|h|h|h|h|h|h|h|h
  ·exact h0 (iD h)
  ·exact h1 (iD h)
  ·exact h2 (iD h)
  ·exact h3 (iD h)
  ·exact h4 (iD h)
  ·exact h5 (iD h)
  ·exact h6 (iD h)
  ·exact h7 (iD h)
  ·exact h8 (iD h)
  ·exact h9 (iD h)
  ·exact h10 (iD h)
  ·exact h11 (iD h)
 have b0:=mP h0;have b1:=mP h1;have b2:=mP h2;have b3:=mP h3;have b4:=mP h4;have b5:=mP h5;have b6:=mP h6;have b7:=mP h7;have b8:=mP h8;have b9:=mP h9;have b10:=mP h10;have b11:=mP h11;clear h0 h1 h2 h3 h4 h5 h6 h7 h8 h9 h10 h11;go_enter func92,ntmps92;go_wp2
 go_rounds 13
 go_ret;exact⟨jQ HN.o.symm,(aB _ _).alloc (ax _) _⟩
end Go.Proofs.YtoohcklcppnafaaGreatDoor
