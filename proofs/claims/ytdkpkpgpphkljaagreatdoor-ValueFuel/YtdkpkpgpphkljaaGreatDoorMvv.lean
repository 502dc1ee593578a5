/- Package value: a text is written out. -/
import Derived.Test.YtdkpkpgpphkljaaGreatDoorMvp
import Derived.Test.YtdkpkpgpphkljaaGreatDoorEdSa
namespace Go.Proofs.YtdkpkpgpphkljaaGreatDoor
set_option maxRecDepth 100000
set_option maxHeartbeats 4000000
open Go.RowKit
section
open Tryz
variable{b:Nat}{x:ah}
variable{β:Nat}
section
variable{w:World}
theorem aJ9(t:ah):(!(ba t).toList.isEmpty)=!t.isEmpty:=by rw[gN];simp[ba]
theorem zZ(b:Nat)(n:Int)(s:ByteArray)(r:Value)(h:w.heap[b]?=some (.cells #[.int .i64 n,.string s,.pointer none,r] 200 (0,0))) :
  Calls prog 76 #[.pointer (some ⟨b,0,none⟩)] w fun e w'=>e=.returned (.bool true)∧w'=w:=by
 have c2:=ai w b 2 _ _ _ h;clear h;go_enter func76,ntmps76;go_wp2
 go_ret;exact⟨rfl,rfl⟩
theorem qK(b l:Nat)(n:Int)(t:ah)(r:Value)(h:w.heap[b]?=some (.cells #[.int .i64 n,.string (ba t),.pointer (some ⟨l,0,none⟩),r] 200 (0,0))) :
  Calls prog 76 #[.pointer (some ⟨b,0,none⟩)] w fun e w'=>e=.returned (.bool (!t.isEmpty))∧w'=w:=by
 have c2:=ai w b 2 _ _ _ h;have c1:=ai w b 1 _ _ _ h;have HD:=au (aJ9 t);clear h;generalize ba t=s at *;go_enter func76,ntmps76;go_wp2
 go_ret;rw[← HD.o];exact⟨rfl,rfl⟩
theorem x9(B ob b:Nat)(l:List Value)(x:ah)(h:w.cell? ⟨b,1,none⟩=some (.string (ba x)))(hi:Calls prog 76 #[.pointer (some ⟨b,0,none⟩)] w fun e w'=>e=.returned (.bool true)∧w'=w)(hb:Lib.IsBuilder 98 5 B ob l w)(hl:l.length+x.length≤1000000)(hB:B≤w.heap.size) :
  Calls prog 78 #[.pointer (some ⟨b,0,none⟩),.pointer (some ⟨ob,0,none⟩)] w fun e w'=>e=.returned (.tuple #[])∧Lib.IsBuilder 98 5 B ob (l++Lib.byteCells x) w'∧Below B w w':=by
 have HW:=au (Tryz.Builder_WriteString B ob l (ba x) w hb (by rw[iW];omega) hB);have HI:=au hi;have HSC:Hid (Lib.strCells (ba x)=Lib.byteCells x):=by show _=_;unfold Lib.strCells Lib.byteCells;simp[ba]
 clear hb hi hl hB;generalize ba x=s at *;go_enter func78,ntmps78;go_wp2_with fail
 refine(HI.o).mono ?_;rintro e w1 ⟨rfl,rfl⟩;go_wp2_with fail
 refine(HW.o).mono ?_;rintro e w2 ⟨rfl,h1,h2⟩;have H1:=au h1;have H2:=au h2;clear h1 h2 HW;go_wp2_with fail
 refine bI (results_none rfl _ _ _) rfl ?_;rw[← HSC.o];exact⟨rfl,.inr H1.o,H2.o⟩
theorem MH{w0:World}(h:ku β w0 b x):∀(ob:Nat) (l:List Value) (w:World),Below w0.heap.size w0 w→Lib.IsBuilder 98 5 w0.heap.size ob l w→l.length+x.length≤1000000 →
  Calls prog 78 #[.pointer (some ⟨b,0,none⟩),.pointer (some ⟨ob,0,none⟩)] w fun e w'=>e=.returned (.tuple #[])∧Lib.IsBuilder 98 5 w0.heap.size ob (l++Lib.byteCells x) w'∧Below w0.heap.size w w':=by
 induction h with
 | leaf b x h hz =>
  intro ob l w hk hb hl;have h':=(hk.block b (aP h)).trans h;exact x9 _ ob b l x (ai w b 1 _ _ _ h') (zZ b _ _ _ h') hb hl hk.size
 | node b p q x y t h ht hx hy nx ny hz hB ih1 ih2 =>
  intro ob l w hk hb hl;have h':=(hk.block b (aP h)).trans h;by_cases e:t=[]
  ·subst e
   have c2:=ai w b 2 _ _ _ h';have HI:=au (qK b p _ [] _ h');have H1:=au (ih1 ob l w hk hb (by rw[ak] at hl;omega));have HK:=au hk;have HB:Hid (w.heap[b]?=_):=h';have hsz:=hk.size;have hlt:=aP h;clear ih1 hb h' h hk;go_enter func78,ntmps78;go_wp2_with fail
   refine(HI.o).mono ?_;rintro e w1 ⟨rfl,rfl⟩;go_wp2_with fail
   refine(H1.o).mono ?_;rintro e w2 ⟨rfl,h1,h2⟩;have H2:=au (ih2 ob _ w2 ((HK.o).trans h2) h1 (by rw[ak,Lib.byteCells_length];rw[ak] at hl;omega));have H3:=au h2;have h'':=(h2.block b hlt).trans HB.o;have c3:=ai w2 b 3 _ _ _ h'';clear h1 h2 h'' H1 ih2 c2;go_wp2_with fail
   refine(H2.o).mono ?_;rintro e w3 ⟨rfl,h1,h2⟩;have H4:=au h1;have H5:=au h2;clear h1 h2 H2 c3;go_wp2_with fail
   go_end0;rw[Lib.byteCells_append,← aA];exact⟨rfl,H4.o,(H3.o).trans H5.o⟩
  ·have e2:t=x++y:=ht.resolve_left e
   subst e2;refine x9 _ ob b l (x++y) (ai w b 1 _ _ _ h') ((qK b p _ _ _ h').mono fun e w' h=>?_) hb hl hk.size;rw[show(!(x++y).isEmpty)=true by cases x;exact absurd rfl nx;rfl] at h;exact h
theorem Ym(l:ah):(⟨l.toArray⟩:ByteArray)=ba l:=rfl
theorem uF(b:Nat)(x:ah)(h:w.cell? ⟨b,1,none⟩=some (.string (ba x)))(hi:Calls prog 76 #[.pointer (some ⟨b,0,none⟩)] w fun e w'=>e=.returned (.bool true)∧w'=w) :
  Calls prog 43 #[.pointer (some ⟨b,0,none⟩)] w fun e w'=>e=.returned (.string (ba x))∧Below w.heap.size w w':=by
 have HI:=au hi;clear hi;generalize ba x=s at *;go_enter func43,ntmps43;go_wp2_with fail
 refine(HI.o).mono ?_;rintro e w1 ⟨rfl,rfl⟩;go_wp2_with fail
 go_ret;exact⟨rfl,ay _ _⟩
theorem FN(b p q:Nat)(x y:ah)(h:w.heap[b]?=some (.cells #[.int .i64 ((x++y).length:Nat),.string (ba []),.pointer (some ⟨p,0,none⟩),.pointer (some ⟨q,0,none⟩)] 200 (0,0)))(hw:ku β w b (x++y)) :
  Calls prog 43 #[.pointer (some ⟨b,0,none⟩)] w fun e w'=>e=.returned (.string (ba (x++y)))∧Below w.heap.size w w':=by
 have hlt:=aP h;have HI:=au (qK b p _ [] _ h);have hba:=bQ w (.cells #[.pointer none,.slice none 0 0] 98);have hbk:(w.alloc (.cells #[.pointer none,.slice none 0 0] 98)).heap[w.heap.size]?=some (.cells #[.pointer none,.slice none 0 0] 98 (0,0)):=aB w _;have hle:=hw.le;have HG:=au (Tryz.Builder_Grow_fresh w.heap.size w.heap.size (x++y).length (w.alloc (.cells #[.pointer none,.slice none 0 0] 98)) (aj _) hbk hba.size (by omega));have c0:=ai _ b 0 _ _ _ ((hba.block b hlt).trans h);have Yn:=au hw;have HA:=au hba;clear h hbk hba hw;generalize x++y=z at *;go_enter func43,ntmps43;go_wp2_with fail
 refine(HI.o).mono ?_;rintro e w1 ⟨rfl,rfl⟩;go_wp2_with fail
 refine(HG.o).mono ?_;rintro e w2 ⟨rfl,h1,h2⟩;have H3:=au (MH Yn.o w1.heap.size [] w2 ((HA.o).trans h2) (.inr h1) (by simp;omega));have HB2:=au ((HA.o).trans h2);clear h1 h2 HG c0;go_wp2_with fail
 refine(H3.o).mono ?_;rintro e w3 ⟨rfl,h1,h2⟩;have H4:=au (Tryz.Builder_String_any w1.heap.size w1.heap.size z w3 h1 ((HB2.o).trans h2).size);have HB3:=au ((HB2.o).trans h2);clear h1 h2 H3;go_wp2_with fail
 refine(H4.o).mono ?_;rintro e w4 ⟨rfl,h2⟩;have I_:=au ((HB3.o).trans h2);clear h2 H4;rw[Ym];obtain⟨s,hs⟩:∃ s,ba z=s:=⟨_,rfl⟩;rw[hs];have HS:=au hs;clear hs;go_wp2_with fail
 go_ret;exact⟨by rw[HS.o];rfl,I_.o⟩
theorem sU(h:ku β w b x) :
  Calls prog 43 #[.pointer (some ⟨b,0,none⟩)] w fun e w'=>e=.returned (.string (ba x))∧Below w.heap.size w w':=by
 cases h with
 | leaf _ _ h hz=>exact uF b x (ai w b 1 _ _ _ h) (zZ b _ _ _ h)
 | node _ p q x y t h ht hx hy nx ny hz hB =>
  by_cases e:t=[]
  ·subst e
   exact FN b p q x y h (.node b p q x y _ h ht hx hy nx ny hz hB)
  ·have e2:t=x++y:=ht.resolve_left e
   subst e2;refine uF b (x++y) (ai w b 1 _ _ _ h) ((qK b p _ _ _ h).mono fun e w' h=>?_);rw[show(!(x++y).isEmpty)=true by cases x;exact absurd rfl nx;rfl] at h;exact h
theorem Ck(x:ah)(hx:x.length≤20000)(hβ:β≤w.heap.size) :
  Calls prog 121 #[.string (ba x)] w fun e w'=>∃ b,e=.returned (.pointer (some ⟨b,0,none⟩))∧w.heap.size≤b∧ku β w' b x∧Below w.heap.size w w':=by
 have HS:Hid ((ba x).size=x.length):=iW _;have HW:Hid (ku β (w.alloc (.cells #[.int .i64 (ba x).size,.string (ba x),.pointer none,.pointer none] 200)) w.heap.size x):=.leaf _ _ (by rw[iW];exact aB w _) hx hβ;generalize ba x=s at *;go_enter func121,ntmps121;go_wp2
 go_ret;exact⟨_,rfl,aj _,HW.o,bQ w _⟩
end
end
section
open Tryz
variable{b:Nat}{x:ah}
variable{β:Nat}
section
variable{w:World}
theorem ku.c0(h:ku β w b x):w.cell? ⟨b,0,none⟩=some (.int .i64 x.length):=by
 cases h with
 | leaf _ _ h=>exact ai w b 0 _ _ _ h
 | node _ _ _ x y _ h=>exact ai w b 0 _ _ _ h
theorem ku.lJ{w':World}(hk:Below w.heap.size w w')(h:ku β w b x):ku β w' b x:=h.keep (fun b _ hb=>(hk.block b (aP hb)).trans hb)
theorem P6(a b:Nat)(x y:ah)(h:ku β w a x)(k:ku β w b y)(hz:(x++y).length≤20000) :
  Calls prog 246 #[.pointer (some ⟨a,0,none⟩),.pointer (some ⟨b,0,none⟩)] w fun e w'=>∃ c,e=.returned (.pointer (some ⟨c,0,none⟩))∧ku β w' c (x++y)∧Below w.heap.size w w':=by
 have c0:=h.c0;have d0:=k.c0;by_cases e1:x=[]
 ·subst e1
  have HK:=au k;have c1:w.cell? ⟨a,0,none⟩=some (.int .i64 0):=c0;clear c0 h k d0;go_enter func246,ntmps246;go_wp2_with fail
  go_ret;exact⟨b,rfl,HK.o,ay _ _⟩
 have hx:(x.length:Int)≠0:=by have:=gM.2 e1;omega
 by_cases e2:y=[]
 ·subst e2
  have HK:=au h;have d1:w.cell? ⟨b,0,none⟩=some (.int .i64 0):=d0;clear d0 h k;go_enter func246,ntmps246;go_wp2_with fail
  go_ret;exact⟨a,rfl,by rw[aJ];exact HK.o,ay _ _⟩
 have hy:(y.length:Int)≠0:=by have:=gM.2 e2;omega
 have hlen:x.length+y.length≤20000:=by rw[ak] at hz;exact hz
 have hB2:Below w.heap.size w (w.alloc (.cells #[.int .i64 ((x.length:Int)+(y.length:Int)),.string ⟨#[]⟩,.pointer (some ⟨a,0,none⟩),.pointer (some ⟨b,0,none⟩)] 200)).drew:=((ay _ w).alloc (aj _) _).drew;have hn:(w.alloc (.cells #[.int .i64 ((x.length:Int)+(y.length:Int)),.string ⟨#[]⟩,.pointer (some ⟨a,0,none⟩),.pointer (some ⟨b,0,none⟩)] 200)).drew.heap[w.heap.size]?=some (.cells #[.int .i64 ((x.length:Int)+(y.length:Int)),.string ⟨#[]⟩,.pointer (some ⟨a,0,none⟩),.pointer (some ⟨b,0,none⟩)] 200 (0,0)):=aB w _;have hW:ku β (w.alloc (.cells #[.int .i64 ((x.length:Int)+(y.length:Int)),.string ⟨#[]⟩,.pointer (some ⟨a,0,none⟩),.pointer (some ⟨b,0,none⟩)] 200)).drew w.heap.size (x++y):=.node _ a b x y [] (by rw[ak];push_cast;exact hn) (.inl rfl) (h.lJ hB2) (k.lJ hB2) e1 e2 hz (Nat.le_of_lt (Nat.lt_of_le_of_lt h.base h.lt));have s0:=ai _ w.heap.size 0 _ _ _ hn;have HW:=au hW;have HB:=au hB2;have Yn:=au (sU hW);have HBs:Hid (β≤w.heap.size):=Nat.le_of_lt (Nat.lt_of_le_of_lt h.base h.lt);have HZ:=au hz;clear hW hB2 hn h k hz e1 e2;go_enter func246,ntmps246;go_wp2_with fail
 refine bH (S:=fun w'=>w'.cell? ⟨a,0,none⟩=some (.int .i64 x.length)∧w'.cell? ⟨b,0,none⟩=some (.int .i64 y.length)) (z:=13) (by kernel_rfl) ?_;have hS:w.drew.cell? ⟨a,0,none⟩=some (.int .i64 x.length)∧w.drew.cell? ⟨b,0,none⟩=some (.int .i64 y.length):=⟨c0,d0⟩;iterate 12(refine lS hS ?_;simp only[Act.put,ax,aD,aF])
 refine bD 12 fun K hK=>?_;go_simp;refine hK.o _ _ (fun _=>by first|go_keep|(dsimp only;go_keep)) (fun hS2=>?_);clear hS hK K hS2;refine bD 13 fun K hK=>?_;go_simp;refine hK.o _ _ (fun h=>absurd rfl h) (fun _=>fB ?_);clear hK K c0 d0;by_cases hs:(x.length:Int)+(y.length:Int)≤64
 ·go_wp2_with fail
  refine(Yn.o).mono ?_;rintro e w3 ⟨rfl,hb3⟩;have HB3:=au (((HB.o).trans (hb3.mono (HB.o).size)));have HP:=au (Ck (β:=β) (w:=w3) (x++y) HZ.o (bS HBs.o (HB3.o).size));clear hb3 Yn s0 HW;go_wp2_with fail
  refine(HP.o).mono ?_;rintro e w4 ⟨c,rfl,-,h1,h2⟩;have H1:=au h1;have H2:=au ((HB3.o).trans (h2.mono (HB3.o).size));clear h1 h2 HP;go_wp2_with fail
  go_ret;exact⟨c,rfl,H1.o,H2.o⟩
 ·go_wp2_with fail
  go_ret;exact⟨_,rfl,HW.o,HB.o⟩
end
end
section
open Tryz
section
variable{w:World}
theorem UG(mb b k:Nat)(hk:k<16)(c0:w.cell? ⟨mb,6+k,none⟩=some (.pointer none))(c1:w.cell? ⟨mb,22,none⟩=some (.int .i64 k))(f0:w.frozen? ⟨mb,6+k,none⟩=false)(f1:w.frozen? ⟨mb,22,none⟩=false) :
  Calls prog 248 #[.pointer (some ⟨mb,6,none⟩),.pointer (some ⟨b,0,none⟩)] w fun e w'=>e=.returned (.tuple #[])∧w'.heap=((w.setCell ⟨mb,6+k,none⟩ (.pointer (some ⟨b,0,none⟩))).setCell ⟨mb,22,none⟩ (.int .i64 (((k+1) % 16:Nat):Int))).heap∧Kp (fun q=>q=mb) w w':=by
 have HR:Hid (((k:Int)+1) % 16=(((k+1) % 16:Nat):Int)):=by show _=_;omega
 have hk2:(k:Int)<16:=by omega
 go_enter func248,ntmps248;go_wp2_with fail
 go_region
 go_wp2_with fail
 have c2:(w.setCell ⟨mb,6+k,none⟩ (.pointer (some ⟨b,0,none⟩))).cell? ⟨mb,22,none⟩=some (.int .i64 k):=by
  rw[iH _ _ _ _ (by first|(simp;done)|(simp;omega))];exact c1
 go_region
 go_wp2_with fail
 go_end0;rw[HR.o];refine⟨rfl,rfl,?_⟩;exact Kp.drew (Kp.drew (Kp.setCell (Kp.setCell (Kp.refl (fun q=>q=mb) w) (p:=⟨mb,6+k,none⟩) (fun _=>rfl) _) (p:=⟨mb,22,none⟩) (fun _=>rfl) _))
theorem UH(mb b k ob:Nat)(hk:k<16)(c0:w.cell? ⟨mb,6+k,none⟩=some (.pointer (some ⟨ob,0,none⟩)))(dv:Value)(d1:w.cell? ⟨ob,1,none⟩=some dv)(f2:w.frozen? ⟨ob,1,none⟩=false)(c1:w.cell? ⟨mb,22,none⟩=some (.int .i64 k))(f0:w.frozen? ⟨mb,6+k,none⟩=false)(f1:w.frozen? ⟨mb,22,none⟩=false) :
  Calls prog 248 #[.pointer (some ⟨mb,6,none⟩),.pointer (some ⟨b,0,none⟩)] w fun e w'=>e=.returned (.tuple #[])∧w'.heap=(((w.setCell ⟨ob,1,none⟩ (.string ⟨#[]⟩)).setCell ⟨mb,6+k,none⟩ (.pointer (some ⟨b,0,none⟩))).setCell ⟨mb,22,none⟩ (.int .i64 (((k+1) % 16:Nat):Int))).heap∧Kp (fun q=>q=mb∨q=ob) w w':=by
 have HR:Hid (((k:Int)+1) % 16=(((k+1) % 16:Nat):Int)):=by show _=_;omega
 have hk2:(k:Int)<16:=by omega
 go_enter func248,ntmps248;go_wp2_with fail
 go_region
 have e2:(w.setCell ⟨ob,1,none⟩ (.string ⟨#[]⟩)).cell? ⟨mb,22,none⟩=some (.int .i64 k):=by
  rw[iH _ _ _ _ (by first|(simp;done)|(simp;omega))];exact c1
 have e3:(w.setCell ⟨ob,1,none⟩ (.string ⟨#[]⟩)).cell? ⟨mb,6+k,none⟩=some (.pointer (some ⟨ob,0,none⟩)):=by
  rw[iH _ _ _ _ (by first|(simp;done)|(simp;omega))];exact c0
 go_wp2_with fail
 have c2:((w.setCell ⟨ob,1,none⟩ (.string ⟨#[]⟩)).setCell ⟨mb,6+k,none⟩ (.pointer (some ⟨b,0,none⟩))).cell? ⟨mb,22,none⟩=some (.int .i64 k):=by
  rw[iH _ _ _ _ (by first|(simp;done)|(simp;omega))];exact e2
 go_region
 go_wp2_with fail
 go_end0;rw[HR.o];refine⟨rfl,rfl,?_⟩;exact Kp.drew (Kp.drew (Kp.setCell (Kp.setCell (Kp.setCell (Kp.refl (fun q=>q=mb∨q=ob) w) (p:=⟨ob,1,none⟩) (fun _=>.inr rfl) _) (p:=⟨mb,6+k,none⟩) (fun _=>.inl rfl) _) (p:=⟨mb,22,none⟩) (fun _=>.inl rfl) _))
end
end
section
open E (St Bo V Fr Ms Rs)
variable{β:Nat}
section
variable{w w':World}{O:Nat→Prop}{T:Int × Int→Nat}{mb:Nat}{m:Ms}{cs:Array Value}{sv nv ev vv bv:Value}{bc:List Value}{ro:Nat→Value}
theorem Mx.shelf(h:Mx β w O T mb m cs sv nv ev vv bv bc ro){cs':Array Value}(hk:Kp (fun q=>q=mb∨(β≤q∧∃ c f,w.heap[q]?=some (.cells c 200 f))) w w')(hw:∀ b x,ku β w b x→ku β w' b x)(hb:w'.heap[mb]?=some (.cells cs' 89 (0,0)))(hs:cs'.size=23)(e6:∀ i,i<6→cs'[i]?=cs[i]?)(hsh:∀ i,i<16→∃ p,cs'[6+i]?=some p∧Ob β w' p)(hsn:∃ k:Nat,cs'[22]?=some (.int .i64 k)∧k<16∧ShD cs'):Kv β O O w w'∧Mx β w' O T mb m cs' sv nv ev vv bv bc ro:=by
 have kv:Kv β O O w w':=⟨hk.mono (fun q _ e=>e.elim (fun e=>.inl (e ▸ h.mo)) .inr),hw,fun _ _ h=>h⟩;have hS:∀ {g:Nat} {c:Array Value} {t:TypeId},w.heap[g]?=some (.cells c t (0,0))→t≠89→t≠200→¬(g=mb∨(β≤g∧∃ c f,w.heap[g]?=some (.cells c 200 f))):=by
  intro g c t hg h1 h2 e;rcases e with rfl|⟨-,c',f,e⟩
  ·exact d_ hg h.blk h1
  ·exact d_ hg e h2
 have hv:∀ {v:Value} {l:List V},sS β w O T v l→∀ g,v.ownBlock=some g→¬(g=mb∨(β≤g∧∃ c f,w.heap[g]?=some (.cells c 200 f))):=fun hv g hg=>by
  obtain⟨c,h1,-⟩:=hv.ex;obtain⟨c2,h2⟩:=eX h1 hg;exact hS h2 (by decide) (by decide)
 refine⟨kv,⟨hb,hs,by rw[e6 _ (by omega)];exact h.c0,by rw[e6 _ (by omega)];exact h.c1,by rw[e6 _ (by omega)];exact h.c2,by rw[e6 _ (by omega)];exact h.c3,by rw[e6 _ (by omega)];exact h.c4,by rw[e6 _ (by omega)];exact h.c5,hsh,hsn,h.fr.stay hk kv (hv h.fr.vs) h.fr.vs.ow,hk.owns h.row (fun g hg=>?_),fun j f hf=>?_,h.mo,h.bo,fun q hq=>?_,h.d1,h.d2,h.fl,h.bl⟩⟩
 ·obtain⟨c,hc⟩:=eX h.row hg
  exact hS hc (by decide) (by decide)
 ·obtain⟨s,n,e,h1,h2,h3,h4,h5⟩:=h.WT j f hf
  exact⟨s,n,e,h1,h2,h3,h4,h5.stay hk kv (hv h5.vs) h5.vs.ow⟩
 ·by_cases hm:q=mb
  ·subst hm
   exact⟨cs',_,_,hb,.inl rfl⟩
  ·obtain⟨c,t,f,h1,h2⟩:=h.on q hq
   exact⟨c,t,f,hk.heap h1 (fun e=>e.elim hm (fun⟨_,c',f',e⟩=>h.wds hq ⟨c',f',e⟩)),h2⟩
theorem Ob.of(h:∀ b x,ku β w b x→ku β w' b x){p:Value}(hp:Ob β w p)(hn:∀(b:Nat) (c:Array Value),p=.pointer (some ⟨b,0,none⟩)→w.heap[b]?=some (.cells c 200 (0,0))→w'.heap[b]?=some (.cells c 200 (0,0))):Ob β w' p:=by
 rcases hp with hp|⟨b,l,r,n,x,h1,h2,h3⟩
 ·exact .inl hp
 ·exact .inr ⟨b,l,r,n,x,h1,hn b _ h1 h2,h b x h3⟩
theorem Mx.aK0(h:Mx β w O T mb m cs sv nv ev vv bv bc ro){k b:Nat}(cB5:k<16)(hk:Kp (fun q=>q=mb∨(β≤q∧∃ c f,w.heap[q]?=some (.cells c 200 f))) w w')(hw:∀ b x,ku β w b x→ku β w' b x)(hb:w'.heap[mb]?=some (.cells ((cs.setIfInBounds (6+k) (.pointer (some ⟨b,0,none⟩))).setIfInBounds 22 (.int .i64 (((k+1) % 16:Nat):Int))) 89 (0,0)))
  (hp:Ob β w' (.pointer (some ⟨b,0,none⟩))) (hnb:∀ i,i<16→cs[6+i]?≠some (.pointer (some ⟨b,0,none⟩))) (hn:∀ i,i<16→i≠k→∀ p,cs[6+i]?=some p→Ob β w' p) (hd:ShD cs):Kv β O O w w'∧fE β w' O T mb m:=by
 have hz:=h.sz;have e1:∀ i,i<16→i≠k→((cs.setIfInBounds (6+k) (.pointer (some ⟨b,0,none⟩))).setIfInBounds 22 (.int .i64 (((k+1) % 16:Nat):Int)))[6+i]?=cs[6+i]?:=fun i hi hne=>by
  rw[aS (by omega),aS (by omega)]
 have e2:((cs.setIfInBounds (6+k) (.pointer (some ⟨b,0,none⟩))).setIfInBounds 22 (.int .i64 (((k+1) % 16:Nat):Int)))[6+k]?=some (.pointer (some ⟨b,0,none⟩)):=by
  rw[aS (by omega),b_ (by omega)]
 obtain⟨kv,hx⟩:=h.shelf hk hw hb (by simp only[dM];exact hz) (fun i hi=>by rw[aS (by omega),aS (by omega)])
  (fun i hi=>by
   by_cases e:i=k
   ·subst e
    exact⟨_,e2,hp⟩
   ·obtain⟨p,h1,-⟩:=h.sh i hi
    exact⟨p,by rw[e1 i hi e];exact h1,hn i hi e p h1⟩)
  ⟨(k+1) % 16,by rw[b_ (by simp only[dM];omega)],Nat.mod_lt _ (by omega),fun i j hij hj e=>by
   by_cases ei:i=k
   ·subst ei
    rw[e2,e1 j hj (by omega)] at e;exact absurd e.symm (hnb j hj)
   ·rw[e1 i (by omega) ei] at e ⊢
    by_cases ej:j=k
    ·subst ej
     rw[e2] at e;exact absurd e (hnb i (by omega))
    ·rw[e1 j hj ej] at e
     exact hd i j hij hj e⟩
 exact⟨kv,_,_,_,_,_,_,_,_,hx⟩
end
end
section
open Tryz
open E (St Bo V Fr Ms Rs)
variable{b a i:Nat}{W:World}
variable{β:Nat}
section
variable{w w':World}{O:Nat→Prop}{T:Int × Int→Nat}{mb:Nat}{m:Ms}
theorem ku.two{l r:Nat}{n:Int}{t x:ah}(h:w.heap[b]?=some (.cells #[.int .i64 n,.string (ba t),.pointer (some ⟨l,0,none⟩),.pointer (some ⟨r,0,none⟩)] 200 (0,0)))(hw:ku β w b x):x≠[]∧(t=[]∨t=x):=by
 cases hw with
 | leaf _ _ h2=>exact absurd (h.symm.trans h2) (by simp)
 | node _ l' r' x y t' h2 ht hx hy nx ny =>
  have e:=h.symm.trans h2;injection e with e;injection e with e;injection e with e;injection e with _ e;injection e with e _;injection e with e;have e2:=congrArg bs e;rw[kQ,kQ] at e2;exact⟨by simp[nx],e2 ▸ ht⟩
theorem Yo{c:Nat}{j:Nat}{u v:Value}(h1:b≠a)(h2:b≠c):((W.setCell ⟨a,i,none⟩ u).setCell ⟨c,j,none⟩ v).heap[b]?=W.heap[b]?:=by
 simp[World.setCell,aK,h1.symm,h2.symm]
theorem P7{u:Value}(h1:b≠a):(W.setCell ⟨a,i,none⟩ u).heap[b]?=W.heap[b]?:=by
 simp[World.setCell,aK,h1.symm]
theorem UI(b l r:Nat)(n:Int)(x:ah)(h:fE β w O T mb m)(hb:w.heap[b]?=some (.cells #[.int .i64 n,.string (ba x),.pointer (some ⟨l,0,none⟩),.pointer (some ⟨r,0,none⟩)] 200 (0,0)))(hx:ku β w b x)(hnb:∀ cs:Array Value,w.heap[mb]?=some (.cells cs 89 (0,0))→∀ i,i<16→cs[6+i]?≠some (.pointer (some ⟨b,0,none⟩))) :
  Calls prog 248 #[.pointer (some ⟨mb,6,none⟩),.pointer (some ⟨b,0,none⟩)] w fun e w'=>e=.returned (.tuple #[])∧Kv β O O w w'∧fE β w' O T mb m∧w'.heap[b]?=w.heap[b]?:=by
 obtain⟨cs,sv,nv,ev,vv,bv,bc,ro,hm⟩:=h;obtain⟨k,hk1,hk2,hd⟩:=hm.sn;obtain⟨p,hp1,hp2⟩:=hm.sh k hk2;have hnb:=hnb cs hm.blk;have XV:∀ {q:Nat} {c:Array Value},w.heap[q]?=some (.cells c 200 (0,0))→q≠mb:=fun hq e=>by
  subst e;exact d_ hq hm.blk (by decide)
 rcases hp2 with rfl|⟨ob,l0,r0,n0,x0,rfl,o2,o3⟩
 ·refine(UG mb b k hk2 (hm.cell hp1) (hm.cell hk1) (hm.vB _) (hm.vB _)).mono ?_
  rintro e w' ⟨rfl,hh,kp⟩;have hf:∀ {q:Nat} {c:Array Value},w.heap[q]?=some (.cells c 200 (0,0))→w'.heap[q]?=some (.cells c 200 (0,0)):=fun hq=>by
   rw[hh,Yo (XV hq) (XV hq)];exact hq
  have hw:∀ q y,ku β w q y→ku β w' q y:=fun q y hy=>hy.keep (fun _ _ hq=>hf hq)
  have H:=hm.aK0 hk2 (kp.mono (fun _ _ e=>.inl e)) hw (by rw[hh];exact vC (vC hm.blk (6+k) _) 22 _) (.inr ⟨b,l,r,n,x,rfl,hf hb,hw _ _ hx⟩) hnb (fun i hi _ q hq=>by
   obtain⟨q',h1,h2⟩:=hm.sh i hi;rw[hq] at h1;cases h1
   exact h2.of hw (fun _ _ _ hb=>hf hb)) hd
  exact⟨rfl,H.1,H.2,(hf hb).trans hb.symm⟩
 ·have Ii:b≠ob:=fun e=>by
   subst e;exact hnb k hk2 hp1
  refine(UH mb b k ob hk2 (hm.cell hp1) _ (ai w ob 1 _ _ _ o2) (by simp[World.frozen?,o2]) (hm.cell hk1) (hm.vB _) (hm.vB _)).mono ?_;rintro e w' ⟨rfl,hh,kp⟩;have hf:∀ {q:Nat} {c:Array Value},q≠ob→w.heap[q]?=some (.cells c 200 (0,0))→w'.heap[q]?=some (.cells c 200 (0,0)):=fun hne hq=>by
   rw[hh,Yo (XV hq) (XV hq),P7 hne];exact hq
  have hw:∀ q y,ku β w q y→ku β w' q y:=fun q y hy=>by
   have h1:=ku.turn o2 o3 [] (.inl rfl) hy;refine h1.keep (fun b' c' hb'=>?_);have hne:b'≠mb:=fun e=>by
    subst e;rw[P7 (XV o2).symm] at hb';exact d_ hb' hm.blk (by decide)
   rw[hh,Yo hne hne];exact hb'
  have hmo:mb≠ob:=(XV o2).symm;have H:=hm.aK0 hk2 (kp.mono (fun q _ e=>e.elim .inl (fun e=>.inr ⟨e ▸ o3.base,_,_,e ▸ o2⟩))) hw (by rw[hh];exact vC (vC ((P7 hmo).trans hm.blk) (6+k) _) 22 _) (.inr ⟨b,l,r,n,x,rfl,hf Ii hb,hw _ _ hx⟩) hnb (fun i hi hik q hq=>by
   obtain⟨q',h1,h2⟩:=hm.sh i hi;rw[hq] at h1;cases h1
   refine h2.of hw (fun b' c' e hb'=>hf (fun e2=>?_) hb');subst e e2;rcases Nat.lt_or_gt_of_ne hik with g|g
   ·have:=hd i k g hk2 (hq.trans hp1.symm)
    rw[hq] at this;cases this
   ·have:=hd k i g hi (hp1.trans hq.symm)
    rw[hp1] at this;cases this) hd
  exact⟨rfl,H.1,H.2,(hf Ii hb).trans hb.symm⟩
theorem Cm(b:Nat)(x:ah)(h:w.cell? ⟨b,1,none⟩=some (.string (ba x)))(hi:Calls prog 76 #[.pointer (some ⟨b,0,none⟩)] w fun e w'=>e=.returned (.bool true)∧w'=w) :
  Calls prog 244 #[.pointer (some ⟨mb,6,none⟩),.pointer (some ⟨b,0,none⟩)] w fun e w'=>e=.returned (.string (ba x))∧w'=w:=by
 have HI:=au hi;clear hi;generalize ba x=s at *;go_enter func244,ntmps244;go_wp2_with fail
 refine(HI.o).mono ?_;rintro e w1 ⟨rfl,rfl⟩;go_wp2_with fail
 go_ret;exact⟨rfl,rfl⟩
theorem UJ(b p q:Nat)(x:ah)(h:fE β w O T mb m)(hb:w.heap[b]?=some (.cells #[.int .i64 (x.length:Nat),.string (ba []),.pointer (some ⟨p,0,none⟩),.pointer (some ⟨q,0,none⟩)] 200 (0,0)))(hw:ku β w b x) :
  Calls prog 244 #[.pointer (some ⟨mb,6,none⟩),.pointer (some ⟨b,0,none⟩)] w fun e w'=>e=.returned (.string (ba x))∧Kv β O O w w'∧fE β w' O T mb m:=by
 have HI:=au (qK b p _ [] _ hb);have Yn:=au (sU hw);have HM:=au h;have HB:=au hb;have HW:=au hw;have hlt:=aP hb;clear h hb hw;go_enter func244,ntmps244;go_wp2_with fail
 refine(HI.o).mono ?_;rintro e w1 ⟨rfl,rfl⟩;go_wp2_with fail
 refine(Yn.o).mono ?_;rintro e w2 ⟨rfl,k2⟩;have b2:=(k2.block b hlt).trans HB.o;have hm2:=(HM.o).below k2;have hw2:=(HW.o).lJ k2;have cb:=ai w2 b 1 _ _ _ b2;have fb:w2.frozen? ⟨b,1,none⟩=false:=by simp[World.frozen?,b2]
 have HX:Hid (Kv β O O w1 (w2.setCell ⟨b,1,none⟩ (.string (ba x)))∧fE β (w2.setCell ⟨b,1,none⟩ (.string (ba x))) O T mb m∧(w2.setCell ⟨b,1,none⟩ (.string (ba x))).heap[b]?=some (.cells #[.int .i64 (x.length:Nat),.string (ba x),.pointer (some ⟨p,0,none⟩),.pointer (some ⟨q,0,none⟩)] 200 (0,0))∧ku β (w2.setCell ⟨b,1,none⟩ (.string (ba x))) b x∧∀ cs:Array Value,(w2.setCell ⟨b,1,none⟩ (.string (ba x))).heap[mb]?=some (.cells cs 89 (0,0))→∀ i,i<16→cs[6+i]?≠some (.pointer (some ⟨b,0,none⟩))):=by
  obtain⟨cs,sv,nv,ev,vv,bv,bc,ro,hx⟩:=hm2;have TG:mb≠b:=fun e=>by
   subst e;exact d_ hx.blk b2 (by decide)
  have hno:∀ i,i<16→cs[6+i]?≠some (.pointer (some ⟨b,0,none⟩)):=fun i hi e=>by
   obtain⟨p',h1,h2⟩:=hx.sh i hi;rw[e] at h1;cases h1
   rcases h2 with h2|⟨b',l,r,n,x',h1,h2,h3⟩
   ·cases h2
   ·cases h1
    have e1:=(ku.two h2 h3).1;rw[b2] at h2;injection h2 with h2;injection h2 with h2;injection h2 with h2;injection h2 with _ h2;injection h2 with h2 _;injection h2 with h2;have h4:=congrArg bs h2;rw[kQ,kQ] at h4;exact e1 h4.symm
  have Z9:∀ q y,ku β w2 q y→ku β (w2.setCell ⟨b,1,none⟩ (.string (ba x))) q y:=fun q y hy=>ku.turn b2 hw2 x (.inr rfl) hy
  have kp:Kp (fun q=>q=mb∨(β≤q∧∃ c f,w2.heap[q]?=some (.cells c 200 f))) w2 (w2.setCell ⟨b,1,none⟩ (.string (ba x))):=Kp.setCell (Kp.refl (fun q=>q=mb∨(β≤q∧∃ c f,w2.heap[q]?=some (.cells c 200 f))) w2) (p:=⟨b,1,none⟩) (fun _=>.inr ⟨hw2.base,_,_,b2⟩) _;obtain⟨kv,hx2⟩:=hx.shelf kp Z9 ((P7 TG).trans hx.blk) hx.sz (fun _ _=>rfl) (fun i hi=>by
   obtain⟨p',h1,h2⟩:=hx.sh i hi;refine⟨p',h1,h2.of Z9 (fun b' c' e hb'=>?_)⟩;rw[P7]
   ·exact hb'
   ·intro e2
    subst e2 e;exact hno i hi h1) hx.sn
  exact⟨(Kv.aI k2).trans kv,⟨_,_,_,_,_,_,_,_,hx2⟩,by simp[World.setCell,aK,b2],Z9 _ _ hw2,fun cs' hc'=>by
   rw[hx2.blk] at hc';cases hc'
   exact hno⟩
 clear b2 hm2 hw2 Yn HI HM HB HW k2;obtain⟨s,hs⟩:∃ s,ba x=s:=⟨_,rfl⟩;have HS:=au hs;rw[hs] at HX ⊢;clear hs;go_wp2_with fail
 clear cb fb;generalize w2.setCell ⟨b,1,none⟩ (.string s)=W3 at *;obtain⟨k3,h3,b3,w3,n3⟩:=HX.o;rw[← HS.o] at b3;have HPU:=au (UI b p q _ x (HX.o).2.1 b3 w3 n3);have HB3:=au b3;have qi:=au k3;clear k3 h3 b3 w3 n3 HX;refine(HPU.o).mono ?_;rintro e w4 ⟨rfl,k4,h4,b4⟩;have c4:=ai w4 b 1 _ _ _ (b4.trans HB3.o);have rY:=au ((qi.o).trans k4);have N_:=au h4;clear k4 h4 b4 HPU HB3 qi;rw[HS.o] at c4;go_wp2_with fail
 go_ret;exact⟨by rw[HS.o];rfl,rY.o,N_.o⟩
theorem vG{x:ah}(h:fE β w O T mb m)(hw:ku β w b x) :
  Calls prog 244 #[.pointer (some ⟨mb,6,none⟩),.pointer (some ⟨b,0,none⟩)] w fun e w'=>e=.returned (.string (ba x))∧Kv β O O w w'∧fE β w' O T mb m:=by
 cases hw with
 | leaf _ _ h1 hz =>
  refine(Cm b x (ai w b 1 _ _ _ h1) (zZ b _ _ _ h1)).mono ?_;rintro e w' ⟨rfl,rfl⟩;exact⟨rfl,Kv.refl _ _,h⟩
 | node _ p q x y t h1 ht hx hy nx ny hz hB =>
  by_cases e:t=[]
  ·subst e
   exact UJ b p q (x++y) h h1 (.node b p q x y _ h1 ht hx hy nx ny hz hB)
  ·have e2:t=x++y:=ht.resolve_left e
   subst e2;refine(Cm b (x++y) (ai w b 1 _ _ _ h1) ((qK b p _ _ _ h1).mono fun e w' h=>?_)).mono ?_
   ·rw[show(!(x++y).isEmpty)=true by cases x;exact absurd rfl nx;rfl] at h
    exact h
   ·rintro e w' ⟨rfl,rfl⟩
    exact⟨rfl,Kv.refl _ _,h⟩
end
end
section
open Tryz
open E (St Bo V Fr Ms Rs)
variable{β:Nat}
section
variable{w w':World}{O:Nat→Prop}{T:Int × Int→Nat}{u v:Value}{l r:V}
theorem mP.asW(h:mP β w O T u l):(∃ b x,l=.txt x∧u=.iface 84 (.pointer (some ⟨b,0,none⟩))∧ku β w b x)∨((∀ w,(Instr.typeAssert u 40 84 true).run prog w=.ok (.tuple #[.pointer none,.bool false]) w)∧∀ x,l≠.txt x):=by
 cases h with
 | int n hn=>exact .inr ⟨Yc n,fun _ e=>by cases e⟩
 | mH b=>exact .inr ⟨Yf b,fun _ e=>by cases e⟩
 | txt b x h=>exact .inl ⟨b,x,rfl,rfl,h⟩
 | list ao cap l vs hc hr hp=>exact .inr ⟨I5 ao _ cap,fun _ e=>by cases e⟩
 | fn fb bb a b env h ho hb he=>exact .inr ⟨PU fb,fun _ e=>by cases e⟩
theorem mP.asI(h:mP β w O T u l):(∃ n,l=.int n∧u=.iface 3 (.int .i64 n)∧-9223372036854775808≤n∧n≤9223372036854775807)∨((∀ w,(Instr.typeAssert u 40 3 true).run prog w=.ok (.tuple #[.int .i64 0,.bool false]) w)∧∀ x,l≠.int x):=by
 cases h with
 | int n hn=>exact .inl ⟨n,rfl,rfl,hn⟩
 | mH b=>exact .inr ⟨IZ b,fun _ e=>by cases e⟩
 | txt b x h=>exact .inr ⟨zV b,fun _ e=>by cases e⟩
 | list ao cap l vs hc hr hp=>exact .inr ⟨I4 ao _ cap,fun _ e=>by cases e⟩
 | fn fb bb a b env h ho hb he=>exact .inr ⟨PS fb,fun _ e=>by cases e⟩
def P8(β:Nat)(w':World)(O:Nat→Prop)(T:Int × Int→Nat)(r:Except Nat V)(e:Ending):Prop:=match r with
 | .ok x=>∃ y,e=.returned (.tuple #[y,.int .i64 0])∧mP β w' O T y x
 | .error k=>e=.returned (.tuple #[.nilIface,.int .i64 k])
def vH:V→V→Except Nat V
 | .txt a,.txt b=>if 20000<a.length+b.length then .error 12 else .ok (.txt (a++b))
 | _,_=>.error 10
theorem UK(h:∀ x,l≠.txt x):vH l r=.error 10:=by
 cases l<;>first|rfl|exact absurd rfl (h _)
theorem UL(x:ah)(h:∀ x,r≠.txt x):vH (.txt x) r=.error 10:=by
 cases r<;>first|rfl|exact absurd rfl (h _)
theorem Ja(hl:mP β w O T u l)(hr:mP β w O T v r) :
  Calls prog 242 #[u,v] w fun e w'=>Below w.heap.size w w'∧P8 β w' O T (vH l r) e:=by
 rcases hl.asW with ⟨a,x,rfl,rfl,ha⟩|⟨hA,hn⟩
 ·have hA:=rz a
  rcases hr.asW with ⟨b,y,rfl,rfl,hb⟩|⟨hB,hn⟩
  ·have hB:=rz b
   have c0:=ha.c0;have d0:=hb.c0;have ha9:=ha.le;have hb9:=hb.le;have HA:=au ha;have HB:=au hb;clear hl hr ha hb;by_cases hs:(20000:Int)<(x.length:Int)+(y.length:Int)
   ·have HE:Hid (vH (.txt x) (.txt y)=.error 12):=aL (by omega)
    go_enter func242,ntmps242;go_wp2_with fail
    go_region
    go_wp2_with fail
    go_ret2;rw[HE.o];exact⟨(ay _ w).drew,rfl⟩
   ·have HE:Hid (vH (.txt x) (.txt y)=.ok (.txt (x++y))):=aG (by omega)
    have HJ:=au (P6 (w:=w.drew) a b x y ((HA.o).lJ (ay _ w).drew) ((HB.o).lJ (ay _ w).drew) (by rw[ak];omega));go_enter func242,ntmps242;go_wp2_with fail
    go_region
    go_wp2_with fail
    refine(HJ.o).mono ?_;rintro e w2 ⟨c,rfl,h1,h2⟩;have H1:=au h1;have H2:=au h2;clear h1 h2 HJ;go_wp2_with fail
    go_ret2;rw[HE.o];exact⟨((ay _ w).drew).trans H2.o,_,rfl,.txt c _ H1.o⟩
  ·have HE:=au (UL (r:=r) x hn)
   clear hl hr ha hn;go_enter func242,ntmps242;go_wp2_with fail
   go_ret2;rw[HE.o];exact⟨ay _ _,rfl⟩
 ·have HE:=au (UK (r:=r) hn)
  rcases hr.asW with ⟨b,y,rfl,rfl,hb⟩|⟨hB,-⟩
  ·have hB:=rz b
   clear hl hr hn hb;go_enter func242,ntmps242;go_wp2_with fail
   go_ret2;rw[HE.o];exact⟨ay _ _,rfl⟩
  ·clear hl hr hn
   go_enter func242,ntmps242;go_wp2_with fail
   go_ret2;rw[HE.o];exact⟨ay _ _,rfl⟩
end
end
end Go.Proofs.YtdkpkpgpphkljaaGreatDoor
