/- Package value: where a name stands around an expression. -/
import Derived.Test.YtdkpkpgpphkljaaGreatDoorMwq
import Derived.Test.YtdkpkpgpphkljaaGreatDoorMvi
namespace Go.Proofs.YtdkpkpgpphkljaaGreatDoor
set_option maxRecDepth 100000
set_option maxHeartbeats 2000000
open Tryz
open Go.RowKit
open E (om mM)
open X (Nm)
variable{n:Nm}{l:List Nm}{a:Int}{w w':World}{ns:List (List Nm)}
theorem KX{fn:Func}{t:Tmp}(h:fn.results=#[.cell t 293])(tmps:Array Value)(W:World){b:Nat}{m n:Int}(ht:tmps[t]?.getD undef=.pointer (some ⟨b,0,none⟩))(hb:W.heap[b]?=some (.cells #[.int .i64 m,.int .i64 n] 293 (0,0))) :
  (results fn tmps).run prog W=.ok (.agg #[.int .i64 m,.int .i64 n]) W:=by
 have m0:=ai W _ 0 _ _ _ hb;have m1:=ai W _ 1 _ _ _ hb;simp[results,h,go_sem,ht,m0,m1]
def Aa(ns:List (List Nm))(a:Int):Nat × Nat:=(mM ns a).getD (0,0)
theorem U5(h:(n.2:Int)=a):om (n::l) a=some 0:=by
 unfold om;rw[lX];simp[h]
theorem Qv(h:(n.2:Int)≠a):om (n::l) a=(om l a).map (·+1):=by
 unfold om;rw[lX];simp[h]
structure FdO(w:World)(a:Int)(ns:List (List Nm))(nv:Value)(up:Nat)(ms:List (List Nm))(wr:World):Prop where
 aro:kz wr nv ms
 blk:wr.heap[w.heap.size]?=some (.cells #[.int .i64 0,.int .i64 0] 293 (0,0))
 lJ:Below w.heap.size w wr
 eq:mM ns a=(mM ms a).map (fun p=>(p.1+up,p.2))
structure FdI(w:World)(a:Int)(nb:Nat)(ao:Option Addr)(ns:List (List Nm))(l:List Nm)(ms:List (List Nm))(up i:Nat)(wr:World):Prop where
 aro:kz wr (.pointer (some ⟨nb,0,none⟩)) (l::ms)
 blk:wr.heap[w.heap.size]?=some (.cells #[.int .i64 0,.int .i64 0] 293 (0,0))
 lJ:Below w.heap.size w wr
 eq:mM ns a=(mM (l::ms) a).map (fun p=>(p.1+up,p.2))
 ix:om l a=(om (l.drop i) a).map (·+i)
 row:∀(j:Nat) (nm:Nm),l[j]?=some nm→∃ g c f,ao=some ⟨g,0,none⟩∧wr.heap[g]?=some (.cells c 66 f)∧wr.cell? ⟨g,j*2,none⟩=some (.string (ba nm.1))∧wr.cell? ⟨g,j*2+1,none⟩=some (.int .i64 nm.2)
theorem FdI.go{nb:Nat}{ao:Option Addr}{ms:List (List Nm)}{up i i':Nat}{wr:World}(h:FdI w a nb ao ns l ms up i wr)(hb:Below wr.heap.size wr w')(hix:om l a=(om (l.drop i') a).map (·+i')):FdI w a nb ao ns l ms up i' w':=by
 refine⟨h.aro.keep (fun b _ _ _ _ hq=>(hb.block b (aP hq)).trans hq),(hb.block _ (aP h.blk)).trans h.blk,h.lJ.trans (hb.mono h.lJ.size),h.eq,hix,fun j nm hj=>?_⟩;obtain⟨g,c,f,e,h1,h2,h3⟩:=h.row j nm hj;have h4:=(hb.block g (aP h1)).trans h1;exact⟨g,c,f,e,h4,(aN (a:=⟨g,j*2,none⟩) (h4.trans h1.symm)).trans h2,(aN (a:=⟨g,j*2+1,none⟩) (h4.trans h1.symm)).trans h3⟩
theorem kz.grown(hb:Below w.heap.size w w'){v:Value}(h:kz w v ns):kz w' v ns:=h.keep (fun b _ _ _ _ hq=>(hb.block b (aP hq)).trans hq)
theorem MS(nv:Value)(ns:List (List Nm))(a:Int)(h:kz w nv ns)(hl:ns.length≤1073741824) :
  Calls prog 122 #[nv,.int .i64 a] w fun e w'=>e=.returned (.agg #[.int .i64 ((Aa ns a).1:Nat),.int .i64 ((Aa ns a).2:Nat)])∧Below w.heap.size w w':=by
 have hba:=bQ w (.cells #[.int .i64 0,.int .i64 0] 293);have HI:Hid (FdO w a ns nv 0 ns (w.alloc (.cells #[.int .i64 0,.int .i64 0] 293))):=⟨h.grown hba,aB w _,hba,by simp⟩;obtain⟨p,rfl⟩:=h.ptr;clear h hba;generalize hN:ns.length=N at *;have HN:=au hN;clear hN;go_enter func122,ntmps122;go_wp2_with fail
 go_loopw [0,5] (fun pv uv wr=>∃(up:Nat) (ms:List (List Nm)) (q:Option Addr),pv=.pointer q∧uv=.int .i64 up∧up+ms.length=N∧Hid (FdO w a ns (.pointer q) up ms wr)) (fun _ uv _=>N - (intOf uv).toNat)
 case atStart=>exact⟨0,ns,p,rfl,rfl,by rw[cu];exact HN.o,HI.o⟩
 case round =>
  obtain⟨up,ms,q,rfl,rfl,hup,H1⟩:=hrel;clear HI;have hA:=(H1.o).aro;cases hA with
  | nil =>
   have hB:=(H1.o).blk;have c0:=ai wr _ 0 _ _ _ hB;have c1:=ai wr _ 1 _ _ _ hB;have hbl:=(H1.o).lJ;have hE:Aa ns a=(0,0):=by unfold Aa;rw[(H1.o).eq];rfl
   have HE:=au hE;have HBL:=au hbl;have hwl:=aP hB;have f0:∀ i,wr.frozen? ⟨w.heap.size,i,none⟩=false:=fun i=>by simp[World.frozen?,hB]
   have HBB:=au hB;clear hB hbl hE;go_wp2_with fail
   refine bI (KX rfl _ _ (b:=w.heap.size) rfl (nM HBB.o)) rfl ⟨by rw[HE.o];rfl,((HBL.o).setCell (p:=⟨w.heap.size,0,none⟩) (aj _) _).setCell (p:=⟨w.heap.size,1,none⟩) (aj _) _⟩
  | cons nb ao cap l nx ms h hc hr hn =>
   have HI:Hid (FdI w a nb ao ns l ms up 0 wr):=⟨(H1.o).aro,(H1.o).blk,(H1.o).lJ,(H1.o).eq,by simp,hr⟩;have c0:=ai wr _ 0 _ _ _ h;obtain⟨hc1,hc2⟩:=hc;unfold maxLen at hc2;have HL:Hid (up+(ms.length+1)=N):=hup;clear h hr hn H1 hup;generalize hn:l.length=n at *;have Yz:=au hn;clear hn;go_wp2_with fail
   go_loopw [17] (fun iv wr=>∃ i:Nat,iv=.int .i64 i∧i≤n∧Hid (FdI w a nb ao ns l ms up i wr)) (fun iv _=>n - (intOf iv).toNat)
   case atStart=>exact⟨0,rfl,aX _,HI.o⟩
   case round =>
    obtain⟨i,rfl,hi,H2⟩:=hrel;clear HI c0;by_cases hlt:i<n
    case pos =>
     have i1:decide (i<n)=true:=by simp;omega
     have i2:decide ((i:Int)<(n:Int))=true:=by simp;omega
     have j0:(0:Int)≤(i:Int):=bU _;have j1:(i:Int)<(n:Int):=by omega
     have hlen:=Yz.o;have hgv:l[i]?=some (l[i]'(by omega)):=aC (by omega);have hix:=(H2.o).ix;rw[bP (by omega:i<l.length)] at hix;generalize l[i]'(by omega)=nm at hgv hix;obtain⟨g,gc,gf,rfl,g1,g2,g3⟩:=(H2.o).row i nm hgv;have hgl:=aP g1;have hbw:=bQ wr (.cells #[.string (ba nm.1),.int .i64 nm.2] 66);clear hlen hgv;by_cases hat:(nm.2:Int)=a
     ·have p1:((nm.2:Int)==a)=true:=by simp[hat]
      have hB:=(H2.o).blk;have HE:Hid (Aa ns a=(up,i)):=by
       show _=_;unfold Aa;rw[(H2.o).eq,mM,hix,U5 hat];simp
      have HBB:=au hB;have HBL:=au (H2.o).lJ;have hrl:=aP (H2.o).blk;have d0:=ai _ _ 0 _ _ _ hB;have d1:=ai _ _ 1 _ _ _ hB;have f0:∀ i,wr.frozen? ⟨w.heap.size,i,none⟩=false:=fun i=>by simp only[World.frozen?,hB];rfl
      clear hB hix H2 hbw;generalize hA:(nm.2:Int)=A at *;clear hA hat
      go_wp2_with fail
      have hs2:=nM (x0:=.int .i64 (up:Int)) (x1:=.int .i64 (i:Int)) HBB.o;refine bI (KX rfl _ _ (b:=w.heap.size) rfl ((dN _ _ (aP hs2)).trans hs2)) rfl ⟨by rw[HE.o],?_⟩;refine fZ (((HBL.o).setCell (p:=⟨w.heap.size,0,none⟩) (aj _) _).setCell (p:=⟨w.heap.size,1,none⟩) (aj _) _) ?_ _;exact(((HBL.o).setCell (p:=⟨w.heap.size,0,none⟩) (aj _) _).setCell (p:=⟨w.heap.size,1,none⟩) (aj _) _).size
     ·have p1:((nm.2:Int)==a)=false:=by simp[hat]
      have HF:Hid (FdI w a nb (some ⟨g,0,none⟩) ns l ms up (i+1) (wr.alloc (.cells #[.string (ba nm.1),.int .i64 nm.2] 66))):=(H2.o).go hbw (by
       rw[hix,Qv hat,Option.map_map];congr 1;funext x;simp;omega)
      clear hix H2 hbw;generalize hA:(nm.2:Int)=A at *;clear hA hat
      go_wp2_with fail
      exact⟨⟨i+1,by simp,by omega,HF.o⟩,by simp[intOf];omega⟩
    case neg =>
     have i1:decide (i<n)=false:=by simp;omega
     have i2:decide ((i:Int)<(n:Int))=false:=by simp;omega
     have hA:=(H2.o).aro;cases hA with
     | cons _ KU cap2 _ nx2 _ h2 hc2 hr2 hn2 =>
      have c1:=ai wr _ 1 _ _ _ h2;obtain⟨q2,rfl⟩:=hn2.ptr;have hlen:=Yz.o;have hix:=(H2.o).ix;rw[iw (by omega)] at hix;have hI0:om l a=none:=by rw[hix];rfl
      have HF:Hid (FdO w a ns (.pointer q2) (up+1) ms wr):=by
       refine⟨hn2,(H2.o).blk,(H2.o).lJ,?_⟩;rw[(H2.o).eq,mM,hI0];simp only[Option.map_map];congr 1;funext p;simp;omega
      have HL2:up+1+ms.length=N:=by have:=HL.o;omega
      clear h2 hr2 hn2 hix hI0 hlen H2;go_wp2_with fail
      exact⟨⟨up+1,ms,q2,rfl,by simp,HL2,HF.o⟩,by simp[intOf];omega⟩
end Go.Proofs.YtdkpkpgpphkljaaGreatDoor
