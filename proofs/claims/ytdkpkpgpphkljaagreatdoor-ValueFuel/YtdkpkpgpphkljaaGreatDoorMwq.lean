/- Package value: a maker,the names around it,the steps that it has;a step is added. -/
import Derived.Test.YtdkpkpgpphkljaaGreatDoorMvg
import Derived.Test.YtdkpkpgpphkljaaGreatDoorVg
namespace Go.Proofs.YtdkpkpgpphkljaaGreatDoor
set_option maxRecDepth 100000
set_option maxHeartbeats 4000000
open Tryz
open Go.RowKit
open E (St)
open X (Nm Ex)
variable{v:Value}
variable{β:Nat}
theorem jP.less{w:World}{O O':Nat→Prop}(hO:∀ q,O' q→O q){T:Int × Int→Nat}{s:St}(h:jP β w O T v s):jP β w O' T v s:=by
 induction h with
 | int n hn=>exact .int n hn
 | mH b=>exact .mH b
 | txt b x h=>exact .txt b x h
 | Ih d b h ho hd=>exact .Ih d b h (fun e=>ho (hO _ e)) hd
 | loc up ix hu=>exact .loc up ix hu
 | stk=>exact .stk
 | vis d hd=>exact .vis d hd
 | enc n b c ao cap vs h ho hn hc hr hp ih=>exact .enc n b c ao cap vs h (fun e=>ho (hO _ e)) hn hc (fun j hj=>by obtain⟨g,cc,f,e,h1,h2⟩:=hr j hj;exact⟨g,cc,f,e,fun e'=>h1 (hO _ e'),h2⟩) ih
 | EK n hn=>exact .EK n hn
 | DL x=>exact .DL x
 | DR n hn=>exact .DR n hn
 | bnd=>exact .bnd
 | DT=>exact .DT
 | wQ t ht=>exact .wQ t ht
 | Bh t ht=>exact .Bh t ht
inductive kz(w:World):Value→List (List Nm)→Prop
 | nil:kz w (.pointer none) []
 | cons (b:Nat) (ao:Option Addr) (cap:Nat) (l:List Nm) (nx:Value) (ns:List (List Nm)) (h:w.heap[b]?=some (.cells #[.slice ao l.length cap,nx] 187 (0,0))) (hc:l.length≤cap∧cap≤maxLen)
   (hr:∀(j:Nat) (nm:Nm),l[j]?=some nm→∃ g c f,ao=some ⟨g,0,none⟩∧w.heap[g]?=some (.cells c 66 f)∧w.cell? ⟨g,j*2,none⟩=some (.string (ba nm.1))∧w.cell? ⟨g,j*2+1,none⟩=some (.int .i64 nm.2)) (hn:kz w nx ns):kz w (.pointer (some ⟨b,0,none⟩)) (l::ns)
theorem kz.ptr{w:World}{ns:List (List Nm)}(h:kz w v ns):∃ p,v=.pointer p:=by cases h<;>exact⟨_,rfl⟩
theorem kz.keep{w w':World}(hk:∀(b:Nat) (c:Array Value) (t:TypeId) (f:Nat × Nat),t=187∨t=66→w.heap[b]?=some (.cells c t f)→w'.heap[b]?=some (.cells c t f)){ns:List (List Nm)}(h:kz w v ns):kz w' v ns:=by
 induction h with
 | nil=>exact .nil
 | cons b ao cap l nx ns h hc hr hn ih =>
  refine .cons b ao cap l nx ns (hk _ _ _ _ (.inl rfl) h) hc (fun j nm hj=>?_) ih;obtain⟨g,c,f,e,h1,h2,h3⟩:=hr j nm hj;have h4:=hk _ _ _ _ (.inr rfl) h1;exact⟨g,c,f,e,h4,(aN (a:=⟨g,j*2,none⟩) (h4.trans h1.symm)).trans h2,(aN (a:=⟨g,j*2+1,none⟩) (h4.trans h1.symm)).trans h3⟩
def Jk(β:Nat)(w:World)(O:Nat→Prop)(T:Int × Int→Nat)(v:Value):Option St→Prop
 | some s=>jP β w O T v s
 | none=>v=.nilIface
structure Mk(β:Nat)(w0 w:World)(Oe:Nat→Prop)(T:Int × Int→Nat)(kb pb f:Nat)(ns:List (List Nm))(c:List (Option St))(nv sv:Value)(cs:List Value):Prop where
 blk:w.heap[kb]?=some (.cells #[.pointer (some ⟨pb,0,none⟩),.int .i64 f,nv,sv] 182 (0,0))
 nss:kz w nv ns
 row:w.ownsRow w0.heap.size 143 1 sv c.length cs
 st:∀(j:Nat) (s:Option St),c[j]?=some s→∃ u,cs[j]?=some u∧Jk β w (fun q=>Oe q∨q=kb∨sv.ownBlock=some q) T u s
 lJ:Below w0.heap.size w0 w
 kl:w0.heap.size≤kb
 oe:∀ q,Oe q→q<w0.heap.size
 nl:ns.length≤1073741824
def oF(β:Nat)(w0 w:World)(Oe:Nat→Prop)(T:Int × Int→Nat)(kb pb f:Nat)(ns:List (List Nm))(c:List (Option St)):Prop:=∃ nv sv cs,Mk β w0 w Oe T kb pb f ns c nv sv cs
section
variable{w0 w w':World}{Oe:Nat→Prop}{T:Int × Int→Nat}{kb pb f:Nat}{ns:List (List Nm)}{c:List (Option St)}{nv sv:Value}{cs:List Value}
theorem Mk.cell(h:Mk β w0 w Oe T kb pb f ns c nv sv cs):w.cell? ⟨kb,0,none⟩=some (.pointer (some ⟨pb,0,none⟩))∧w.cell? ⟨kb,1,none⟩=some (.int .i64 f)∧w.cell? ⟨kb,2,none⟩=some nv∧w.cell? ⟨kb,3,none⟩=some sv:=by
 refine⟨?_,?_,?_,?_⟩<;>simp[World.cell?,h.blk]
theorem Mk.vB(h:Mk β w0 w Oe T kb pb f ns c nv sv cs)(i:Nat):w.frozen? ⟨kb,i,none⟩=false:=by simp[World.frozen?,h.blk]
theorem Mk.rne(h:Mk β w0 w Oe T kb pb f ns c nv sv cs):sv.ownBlock≠some kb:=fun e=>by
 obtain⟨c2,h2⟩:=eX h.row e;exact d_ h2 h.blk (by decide)
theorem Mk.turn(h:Mk β w0 w Oe T kb pb f ns c nv sv cs)(hk:Kp (fun q=>q=kb∨sv.ownBlock=some q) w w'){EY EL:Value}{cs':List Value}{c':List (Option St)}{ns':List (List Nm)}
  (hb:w'.heap[kb]?=some (.cells #[.pointer (some ⟨pb,0,none⟩),.int .i64 f,EY,EL] 182 (0,0))) (hn:kz w nv ns→kz w' nv ns→kz w' EY ns') (hnl:ns'.length≤1073741824)
  (hrow:w'.ownsRow w0.heap.size 143 1 EL c'.length cs') (hat:∀ g,EL.ownBlock=some g→sv.ownBlock=some g∨w.heap.size≤g)
  (hst:Kv β (fun q=>Oe q∨q=kb∨sv.ownBlock=some q) (fun q=>Oe q∨q=kb∨EL.ownBlock=some q) w w'→∀(j:Nat) (s:Option St),c'[j]?=some s→∃ u,cs'[j]?=some u∧Jk β w' (fun q=>Oe q∨q=kb∨EL.ownBlock=some q) T u s):Mk β w0 w' Oe T kb pb f ns' c' EY EL cs':=by
 have hS:∀ q,(q=kb∨sv.ownBlock=some q)→∃ cc t,w.heap[q]?=some (.cells cc t (0,0))∧(t=182∨t=143):=fun q e=>by
  rcases e with rfl|e
  ·exact⟨_,_,h.blk,.inl rfl⟩
  ·obtain⟨c2,h2⟩:=eX h.row e
   exact⟨_,_,h2,.inr rfl⟩
 have hno:∀ {q:Nat} {cc:Array Value} {t:TypeId} {ff:Nat × Nat},w.heap[q]?=some (.cells cc t ff)→t≠182→t≠143→¬(q=kb∨sv.ownBlock=some q):=fun hq h1 h2 e=>by
  obtain⟨c2,t2,h3,h4⟩:=hS _ e;rcases h4 with rfl|rfl
  ·exact d_ hq h3 h1
  ·exact d_ hq h3 h2
 have kv:Kv β (fun q=>Oe q∨q=kb∨sv.ownBlock=some q) (fun q=>Oe q∨q=kb∨EL.ownBlock=some q) w w':=by
  refine⟨hk.mono (fun q _ e=>.inl (.inr e)),fun b x hx=>hx.keep (fun b c hb=>hk.heap hb (hno hb (by decide) (by decide))),fun q hq e=>?_⟩;rcases e with e|e|e
  ·exact .inl e
  ·exact .inr (.inl e)
  ·rcases hat q e with g|g
   ·exact .inr (.inr g)
   ·omega
 refine⟨hb,hn h.nss (h.nss.keep (fun b cc t ff ht hbb=>hk.heap hbb (hno hbb (by rcases ht with rfl|rfl<;>decide) (by rcases ht with rfl|rfl<;>decide)))),hrow,hst kv,h.lJ.trans (hk.below h.lJ.size (fun q e=>?_)),h.kl,h.oe,hnl⟩;rcases e with rfl|e
 ·exact h.kl
 ·rcases h.row.2 with ⟨e1,-⟩|⟨g',cap,cur,e1,hg,-⟩
  ·rw[e1] at e;cases e
  ·rw[e1] at e;cases e;exact hg
theorem Jk.keep{O O':Nat→Prop}(kv:Kv β O O' w w'){v:Value}{s:Option St}(h:Jk β w O T v s):Jk β w' O' T v s:=by
 cases s with
 | some s=>exact jP.keep kv h
 | none=>exact h
theorem Mk.below(h:Mk β w0 w Oe T kb pb f ns c nv sv cs)(hb:Below w.heap.size w w'):Mk β w0 w' Oe T kb pb f ns c nv sv cs :=
 h.turn (Kp.aI hb _) ((hb.block kb (aP h.blk)).trans h.blk) (fun _ h=>h) h.nl ((Kp.aI hb (fun _=>False)).owns h.row (fun _ _ e=>e)) (fun g hg=>.inl hg) (fun kv j s hj=>by obtain⟨u,h1,h2⟩:=h.st j s hj;exact⟨u,h1,h2.keep kv⟩)
theorem oF.below(h:oF β w0 w Oe T kb pb f ns c)(hb:Below w.heap.size w w'):oF β w0 w' Oe T kb pb f ns c:=by
 obtain⟨nv,sv,cs,h⟩:=h;exact⟨nv,sv,cs,h.below hb⟩
theorem Qn:(prog.info? 143).map (fun i=>(i.zero,i.size,i.bytes))=some (some .nilIface,1,16):=by kernel_rfl
theorem Mk.added(h:Mk β w0 w Oe T kb pb f ns c nv sv cs){u:Value}{s:Option St}(hu:Jk β w (fun q=>Oe q∨q=kb∨sv.ownBlock=some q) T u s){n g cap5:Nat}{w5:World}{o:Obj}(hn:c.length=n)(hW:w5.ownsRow w0.heap.size 143 1 (.slice (some ⟨g,0,none⟩) (n+1) cap5) (n+1) (cs++[u]))(hG:(w.alloc o).grownBy w5 sv.ownBlock)(hat:sv.ownBlock=some g∨g=w.heap.size+1) :
  Mk β w0 (w5.setCell ⟨kb,3,none⟩ (.slice (some ⟨g,0,none⟩) (n+1) cap5)) Oe T kb pb f ns (c++[s]) nv (.slice (some ⟨g,0,none⟩) (n+1) cap5) (cs++[u]):=by
 have hml:=aP h.blk;have hne:=h.rne;have hk1:Kp (fun q=>q=kb∨sv.ownBlock=some q) w w5:=Kp.grown (Kp.alloc (Kp.refl _ w) _) hG (fun k e _=>.inr e);have hk:Kp (fun q=>q=kb∨sv.ownBlock=some q) w (w5.setCell ⟨kb,3,none⟩ (.slice (some ⟨g,0,none⟩) (n+1) cap5)):=Kp.setCell hk1 (p:=⟨kb,3,none⟩) (fun _=>.inl rfl) _;have h5:w5.heap[kb]?=some (.cells #[.pointer (some ⟨pb,0,none⟩),.int .i64 f,nv,sv] 182 (0,0)):=hG.block kb (by simp;omega) (fun e=>hne e.symm) |>.trans ((dN w _ hml).trans h.blk);have hgk:g≠kb:=by
  rcases hat with e|e
  ·exact fun e'=>hne (e' ▸ e)
  ·omega
 have hcl:cs.length=c.length:=by have:=h.row.1;omega
 refine h.turn hk (by simp[World.setCell,aK,h5]) (fun _ h=>h) h.nl ?_ (fun q hq=>?_) (fun kv j x hj=>?_)
 ·rw[ak,hn]
  exact bV hW (by simp[Value.ownBlock];omega) _
 ·simp only[Value.ownBlock,eH] at hq
  subst hq;rcases hat with e|e
  ·exact .inl e
  ·exact .inr (by omega)
 ·by_cases hjl:j<c.length
  ·rw[aU hjl] at hj
   obtain⟨z,h1,h2⟩:=h.st j x hj;exact⟨z,by rw[aU (by omega)];exact h1,h2.keep kv⟩
  ·rw[aQ (by omega)] at hj
   have h0:j - c.length=0:=by
    rcases gF (j - c.length) with g|g
    ·exact g
    ·rw[aO (by simp;omega)] at hj;cases hj
   rw[h0] at hj;obtain rfl:s=x:=by simpa using hj
   exact⟨u,by rw[aQ (by omega),hcl,h0];rfl,hu.keep kv⟩
theorem FR(u:Value)(s:Option St)(h:Mk β w0 w Oe T kb pb f ns c nv sv cs)(hi:(∃ ty y,u=.iface ty y)∨u=.nilIface)(hu:Jk β w (fun q=>Oe q∨q=kb∨sv.ownBlock=some q) T u s)(hl:c.length<1073741823) :
  Calls prog 93 #[.pointer (some ⟨kb,0,none⟩),u] w fun e w'=>e=.returned (.int .i64 (c.length:Int))∧Hid (∃ EL cs',Mk β w0 w' Oe T kb pb f ns (c++[s]) nv EL cs'):=by
 obtain⟨i0,hi0,hz0,hz1,hz2⟩:=gB Qn;obtain⟨-,-,-,c3⟩:=h.cell;have f3:=h.vB 3;have hml:=aP h.blk;have hne:=h.rne;obtain⟨pn,rfl⟩:=h.nss.ptr;have H:=au h;have HU:=au hu;have HR:=au h.row;have HB:=au h.lJ;generalize hn:c.length=n at *;have HN:=au hn;have hbase:w0.heap.size≤w.heap.size:=h.lJ.size;clear h hu hn;rcases hi with ⟨ty,y,rfl⟩|rfl
 ·go_enter func93,ntmps93
  go_wp2_with (at_builtin;refine wpList_append_lies _ rfl _ _ 78 rfl w0.heap.size 143 i0 _ 1 16 underlying78 hi0 hz0 hz1 hz2 rfl (by decide) sv n _ rfl ((HR.o).alloc _) ⟨w.heap.size,0,none⟩ 1 1 [.iface ty y] rfl rfl (World.news_of_block (cs:=#[.iface ty y]) (aB w _)) (by simp[Value.oneCell']) (by omega) (by unfold maxLen;omega) (by omega) (by simp;omega) (w.heap.size+1) (by simp) ?_;intro g cap5 w5 hown5 cB nW A9;have x1:w5.cell? ⟨kb,3,none⟩=some sv:=(cB.cell_far ⟨kb,3,none⟩ (by simp;omega) (fun e=>hne e.symm)).trans (Lib.cell?_alloc_some _ c3);have x2:w5.frozen? ⟨kb,3,none⟩=false:=(cB.frozen_far ⟨kb,3,none⟩ (by simp;omega) (fun e=>hne e.symm)).trans ((bN _ _ ⟨kb,3,none⟩ (uS hml)).trans f3);have Bp:=au hown5;have tZ:=au cB;clear hown5 cB)
  go_ret;exact⟨rfl,_,_,(H.o).added HU.o HN.o Bp.o tZ.o nW⟩
 ·go_enter func93,ntmps93
  go_wp2_with (at_builtin;refine wpList_append_lies _ rfl _ _ 78 rfl w0.heap.size 143 i0 _ 1 16 underlying78 hi0 hz0 hz1 hz2 rfl (by decide) sv n _ rfl ((HR.o).alloc _) ⟨w.heap.size,0,none⟩ 1 1 [.nilIface] rfl rfl (World.news_of_block (cs:=#[.nilIface]) (aB w _)) (by simp[Value.oneCell']) (by omega) (by unfold maxLen;omega) (by omega) (by simp;omega) (w.heap.size+1) (by simp) ?_;intro g cap5 w5 hown5 cB nW A9;have x1:w5.cell? ⟨kb,3,none⟩=some sv:=(cB.cell_far ⟨kb,3,none⟩ (by simp;omega) (fun e=>hne e.symm)).trans (Lib.cell?_alloc_some _ c3);have x2:w5.frozen? ⟨kb,3,none⟩=false:=(cB.frozen_far ⟨kb,3,none⟩ (by simp;omega) (fun e=>hne e.symm)).trans ((bN _ _ ⟨kb,3,none⟩ (uS hml)).trans f3);have Bp:=au hown5;have tZ:=au cB;clear hown5 cB)
  go_ret;exact⟨rfl,_,_,(H.o).added HU.o HN.o Bp.o tZ.o nW⟩
end
end Go.Proofs.YtdkpkpgpphkljaaGreatDoor
