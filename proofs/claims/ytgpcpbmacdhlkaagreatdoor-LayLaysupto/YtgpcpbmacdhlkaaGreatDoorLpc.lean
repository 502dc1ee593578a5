/- Package lay: what is read of an item,in memory;what a call may turn. -/
import Derived.Test.YtgpcpbmacdhlkaaGreatDoorXb
import Derived.Test.YtgpcpbmacdhlkaaGreatDoorZw
import Derived.Deep.AppendLies
import Derived.Shelf.Strings.Builder1
import Derived.Lib.Builder
namespace Go.Proofs.YtgpcpbmacdhlkaaGreatDoor
open Go.RowKit
open M
theorem ba_tl (l:List UInt8):(ba l).toList=l:=by rw [ByteArray.toList_eq];exact bs_ba l
def Tq (P:TypeId→Prop) (R:Nat) (w:World) (q:Nat):Prop:=R≤q∧∃ c t fz,w.heap[q]?=some (.cells c t fz)∧P t
def FK (P:TypeId→Prop) (R:Nat) (w w':World):Prop:=Kp (Tq P R w) w w'
theorem FK.refl (P:TypeId→Prop) (R:Nat) (w:World):FK P R w w:=Kp.refl _ w
theorem FK.trans {P:TypeId→Prop} {R:Nat} {a b c:World} (h1:FK P R a b) (h2:FK P R b c):FK P R a c :=
 Kp.trans h1 h2 (fun i hi h=>by
  by_cases hs:Tq P R a i
  ·exact hs
  ·obtain ⟨h0,cs,t,fz,e,ht⟩:=h
   exact ⟨h0,cs,t,fz,(h1.block i hi hs).symm.trans e,ht⟩)
theorem FK.below {P:TypeId→Prop} {R:Nat} {w w':World} (h:Below w.heap.size w w'):FK P R w w':=Kp.ofBelow h _
theorem FK.heap {P:TypeId→Prop} {R:Nat} {w w':World} (h:FK P R w w') {b:Nat} {c:Array Value} {t:TypeId} {fz:Nat × Nat} (hb:w.heap[b]?=some (.cells c t fz)) (hn:¬ P t):w'.heap[b]?=some (.cells c t fz) :=
 Kp.heap h hb (fun ⟨_,c2,t2,fz2,e,ht⟩=>by
  rw [hb] at e
  injection e with e
  injection e with e1 e2 e3
  exact hn (e2 ▸ ht))
theorem own_ty {w:World} {base:Nat} {e:TypeId} {size:Nat} {v:Value} {n:Nat} {xs:List Value} (h:w.ownsRow base e size v n xs) {q:Nat} (hq:v.ownBlock=some q):base≤q∧∃ c,w.heap[q]?=some (.cells c e (0,0)):=by
 rcases h.2 with ⟨rfl,-⟩|⟨g,cap,cur,rfl,hb,hg,-⟩
 ·cases hq
 ·cases hq
  exact ⟨hb,cur,hg⟩
theorem FK.owns {P:TypeId→Prop} {R:Nat} {w w':World} (h:FK P R w w') {base:Nat} {e:TypeId} {size:Nat} {v:Value} {n:Nat} {xs:List Value} (ho:w.ownsRow base e size v n xs) (hn:¬ P e):w'.ownsRow base e size v n xs :=
 Kp.owns h ho (fun q hq ⟨_,c2,t2,fz2,e2,ht⟩=>by
  obtain ⟨_,c,hc⟩:=own_ty ho hq
  rw [hc] at e2
  injection e2 with e2
  injection e2 with e1 e2 e3
  exact hn (e2 ▸ ht))
theorem cells_ty {w:World} {q:Nat} {c c2:Array Value} {t t2:TypeId} {fz fz2:Nat × Nat} (h:w.heap[q]?=some (.cells c t fz)) (h2:w.heap[q]?=some (.cells c2 t2 fz2)):t=t2:=by
 rw [h] at h2
 injection h2 with e
 injection e with e1 e2 e3
theorem set_blk {W:World} {b:Nat} {vs:Array Value} {ty:TypeId} (h:W.heap[b]?=some (.cells vs ty (0,0))) (k:Nat) (v:Value):(W.setCell ⟨b,k,none⟩ v).heap[b]?=some (.cells (vs.setIfInBounds k v) ty (0,0)):=by simp [World.setCell,Array.getElem?_modify,h]
theorem row_put {P:TypeId→Prop} {T:TypeId} {w w3 w5:World} {R j:Nat} {cs:Array Value} {e:TypeId} {size n n':Nat} {v v':Value} {xs xs':List Value} (hblk:w.heap[R]?=some (.cells cs T (0,0))) (ho:w.ownsRow R e size v n xs) (hPT:P T) (hPe:P e) (hne:e≠T) (hb:Below w.heap.size w w3) (hown:w5.ownsRow R e size v' n' xs') (hg:w3.grownBy w5 v.ownBlock) :
  (w5.setCell ⟨R,j,none⟩ v').heap[R]?=some (.cells (cs.setIfInBounds j v') T (0,0))∧(w5.setCell ⟨R,j,none⟩ v').ownsRow R e size v' n' xs'∧FK P R w (w5.setCell ⟨R,j,none⟩ v')∧∀ (e2:TypeId) (size2:Nat) (v2:Value) (n2:Nat) (xs2:List Value),e2≠e→e2≠T→w.ownsRow R e2 size2 v2 n2 xs2→(w5.setCell ⟨R,j,none⟩ v').ownsRow R e2 size2 v2 n2 xs2:=by
 have k35:Kp (fun q=>v.ownBlock=some q) w3 w5:=(Kp.refl _ w3).grown hg (fun q e _=>e)
 have k03:=Kp.ofBelow hb (fun _=>False)
 have hR:v.ownBlock≠some R:=fun e1=>by
  obtain ⟨-,c,hc⟩:=own_ty ho e1
  exact hne (cells_ty hc hblk)
 have hR5:=k35.heap (k03.heap hblk id) hR
 have k56:Kp (fun q=>q=R) w5 (w5.setCell ⟨R,j,none⟩ v'):=Kp.setCell (S:=fun q=>q=R) (p:=⟨R,j,none⟩) (Kp.refl _ w5) (fun _=>rfl) _
 refine ⟨set_blk hR5 j v',k56.owns hown (fun q hq e1=>?_),?_,fun e2 size2 v2 n2 xs2 h1 h2 h3=>?_⟩
 ·obtain ⟨-,c,hc⟩:=own_ty hown hq
  rw [e1] at hc
  exact hne (cells_ty hc hR5)
 ·refine Kp.trans (Kp.trans (Kp.ofBelow hb _) k35 (fun i hi e1=>?_)) k56 (fun i hi e1=>?_)
  ·obtain ⟨h0,c,hc⟩:=own_ty ho e1
   exact ⟨h0,c,_,_,hc,hPe⟩
  ·exact ⟨Nat.le_of_eq e1.symm,cs,T,_,e1 ▸ hblk,hPT⟩
 ·refine k56.owns (k35.owns (k03.owns h3 (fun _ _=>id)) (fun q hq e1=>?_)) (fun q hq e1=>?_)
  ·obtain ⟨-,c,hc⟩:=own_ty h3 hq
   obtain ⟨-,c',hc'⟩:=own_ty ho e1
   exact h1 (cells_ty hc hc')
  ·obtain ⟨-,c,hc⟩:=own_ty h3 hq
   rw [e1] at hc
   exact h2 (cells_ty hc hblk)
def RT (t:TypeId):Prop:=t=92∨t=9∨t=5∨t=146
def strv (rm:List (List UInt8)):List Value:=rm.map (fun x=>.string (ba x))
def exv (E:List (Nat × Nat)):List Value:=E.flatMap (fun e=>[.int .i64 e.1,.int .i64 e.2])
structure RawR (w:World) (R:Nat) (rm:List (List UInt8)) (F:List UInt8) (E:List (Nat × Nat)) (la:List UInt8) (rv fv tv:Value):Prop where
 blk:w.heap[R]?=some (.cells #[rv,fv,tv,.string (ba la)] 92 (0,0))
 orm:w.ownsRow R 9 1 rv rm.length (strv rm)
 ofl:w.ownsRow R 5 1 fv F.length (Lib.byteCells F)
 oex:w.ownsRow R 146 2 tv E.length (exv E)
theorem RawR.keep {P:TypeId→Prop} {R':Nat} {w w':World} {R:Nat} {rm:List (List UInt8)} {F:List UInt8} {E:List (Nat × Nat)} {la:List UInt8} {rv fv tv:Value} (h:RawR w R rm F E la rv fv tv) (hk:FK P R' w w') (hP:∀ t,P t→¬ RT t):RawR w' R rm F E la rv fv tv :=
 ⟨hk.heap h.blk (fun e=>hP _ e (.inl rfl)),hk.owns h.orm (fun e=>hP _ e (.inr (.inl rfl))),hk.owns h.ofl (fun e=>hP _ e (.inr (.inr (.inl rfl)))),hk.owns h.oex (fun e=>hP _ e (.inr (.inr (.inr rfl))))⟩
theorem RawR.below {w w':World} {R:Nat} {rm:List (List UInt8)} {F:List UInt8} {E:List (Nat × Nat)} {la:List UInt8} {rv fv tv:Value} (h:RawR w R rm F E la rv fv tv) (hk:Below w.heap.size w w'):RawR w' R rm F E la rv fv tv :=
 h.keep (P:=fun _=>False) (R':=0) (FK.below hk) (fun _ h=>h.elim)
theorem RawR.putF {w w3 w5:World} {R:Nat} {rm:List (List UInt8)} {F F':List UInt8} {E:List (Nat × Nat)} {la:List UInt8} {rv fv tv fv':Value} (h:RawR w R rm F E la rv fv tv) (hb:Below w.heap.size w w3) (hown:w5.ownsRow R 5 1 fv' F'.length (Lib.byteCells F')) (hg:w3.grownBy w5 fv.ownBlock) :
  RawR (w5.setCell ⟨R,1,none⟩ fv') R rm F' E la rv fv' tv∧FK RT R w (w5.setCell ⟨R,1,none⟩ fv'):=by
 obtain ⟨h1,h2,h3,h4⟩:=row_put (P:=RT) (j:=1) h.blk h.ofl (.inl rfl) (.inr (.inr (.inl rfl))) (by decide) hb hown hg
 exact ⟨⟨h1,h4 _ _ _ _ _ (by decide) (by decide) h.orm,h2,h4 _ _ _ _ _ (by decide) (by decide) h.oex⟩,h3⟩
theorem RawR.putE {w w3 w5:World} {R:Nat} {rm:List (List UInt8)} {F:List UInt8} {E E':List (Nat × Nat)} {la:List UInt8} {rv fv tv tv':Value} (h:RawR w R rm F E la rv fv tv) (hb:Below w.heap.size w w3) (hown:w5.ownsRow R 146 2 tv' E'.length (exv E')) (hg:w3.grownBy w5 tv.ownBlock) :
  RawR (w5.setCell ⟨R,2,none⟩ tv') R rm F E' la rv fv tv'∧FK RT R w (w5.setCell ⟨R,2,none⟩ tv'):=by
 obtain ⟨h1,h2,h3,h4⟩:=row_put (P:=RT) (j:=2) h.blk h.oex (.inl rfl) (.inr (.inr (.inr rfl))) (by decide) hb hown hg
 exact ⟨⟨h1,h4 _ _ _ _ _ (by decide) (by decide) h.orm,h4 _ _ _ _ _ (by decide) (by decide) h.ofl,h2⟩,h3⟩
theorem RawR.putR {w w3 w5:World} {R:Nat} {rm rm':List (List UInt8)} {F:List UInt8} {E:List (Nat × Nat)} {la:List UInt8} {rv fv tv rv':Value} (h:RawR w R rm F E la rv fv tv) (hb:Below w.heap.size w w3) (hown:w5.ownsRow R 9 1 rv' rm'.length (strv rm')) (hg:w3.grownBy w5 rv.ownBlock) :
  RawR (w5.setCell ⟨R,0,none⟩ rv') R rm' F E la rv' fv tv∧FK RT R w (w5.setCell ⟨R,0,none⟩ rv'):=by
 obtain ⟨h1,h2,h3,h4⟩:=row_put (P:=RT) (j:=0) h.blk h.orm (.inl rfl) (.inr (.inl rfl)) (by decide) hb hown hg
 exact ⟨⟨h1,h2,h4 _ _ _ _ _ (by decide) (by decide) h.ofl,h4 _ _ _ _ _ (by decide) (by decide) h.oex⟩,h3⟩
theorem RawR.putL {w:World} {R:Nat} {rm:List (List UInt8)} {F:List UInt8} {E:List (Nat × Nat)} {la la':List UInt8} {rv fv tv:Value} (h:RawR w R rm F E la rv fv tv) :
  RawR (w.setCell ⟨R,3,none⟩ (.string (ba la'))) R rm F E la' rv fv tv∧FK RT R w (w.setCell ⟨R,3,none⟩ (.string (ba la'))):=by
 have k:Kp (fun q=>q=R) w (w.setCell ⟨R,3,none⟩ (.string (ba la'))):=Kp.setCell (S:=fun q=>q=R) (p:=⟨R,3,none⟩) (Kp.refl _ w) (fun _=>rfl) _
 have hn:∀ {e:TypeId} {size:Nat} {v:Value} {n:Nat} {xs:List Value},w.ownsRow R e size v n xs→e≠92→∀ q,v.ownBlock=some q→¬ q=R:=fun ho he q hq e1=>by
  obtain ⟨-,c,hc⟩:=own_ty ho hq
  rw [e1] at hc
  exact he (cells_ty hc h.blk)
 refine ⟨⟨set_blk h.blk 3 _,k.owns h.orm (hn h.orm (by decide)),k.owns h.ofl (hn h.ofl (by decide)),k.owns h.oex (hn h.oex (by decide))⟩,Kp.mono k (fun i hi e=>?_)⟩
 exact ⟨Nat.le_of_eq e.symm,_,_,_,e ▸ h.blk,.inl rfl⟩
theorem RawR.cells {w:World} {R:Nat} {rm:List (List UInt8)} {F:List UInt8} {E:List (Nat × Nat)} {la:List UInt8} {rv fv tv:Value} (h:RawR w R rm F E la rv fv tv) :
  (w.cell? ⟨R,0,none⟩=some rv∧w.cell? ⟨R,1,none⟩=some fv∧w.cell? ⟨R,2,none⟩=some tv∧w.cell? ⟨R,3,none⟩=some (.string (ba la)))∧(∀ j,w.frozen? ⟨R,j,none⟩=false)∧R<w.heap.size :=
 ⟨⟨cell_of_row w _ 0 _ _ _ h.blk,cell_of_row w _ 1 _ _ _ h.blk,cell_of_row w _ 2 _ _ _ h.blk,cell_of_row w _ 3 _ _ _ h.blk⟩,fun j=>by simp [World.frozen?,h.blk],heap_lt h.blk⟩
namespace X
def lastT (L:List Lf):List UInt8:=match L.getLast? with
 | none=>[]
 | some b=>b.1.2
theorem lastT_snoc (L:List Lf) (a:Lf):lastT (L++[a])=a.1.2:=by unfold lastT;rw [List.getLast?_append];rfl
def apt (l x:List UInt8) (g:Bool):Bool :=
 if l==[] then false else if l==[40] then false else if l==[91] then false else if l==[46] then false
 else if x==[41] then false else if x==[93] then false else if x==[44] then false else if x==[59] then false else if x==[46] then false
 else if x==[40] then g else true
theorem gap_apt {L:List Lf} (hL:∀ b∈L,b.1.2≠[]) (a:Lf) (g:Bool) (ha:a.2=(g&&a.1.2==[40])):gap L a=if apt (lastT L) a.1.2 g then [32] else []:=by
 unfold gap lastT
 cases h:L.getLast? with
 | none=>rfl
 | some b =>
  have hb:b.1.2≠[]:=hL b (List.mem_of_getLast? h)
  show sep b a=if apt b.1.2 a.1.2 g then [32] else []
  unfold sep tight apt
  rw [ha,beq_false_of_ne hb]
  cases h1:(b.1.2==[40]) with
  | true=>simp
  | false =>
  cases h2:(b.1.2==[91]) with
  | true=>simp
  | false =>
  cases h3:(b.1.2==[46]) with
  | true=>simp
  | false =>
  cases h4:(a.1.2==[41]) with
  | true=>simp
  | false =>
  cases h5:(a.1.2==[93]) with
  | true=>simp
  | false =>
  cases h6:(a.1.2==[44]) with
  | true=>simp
  | false =>
  cases h7:(a.1.2==[59]) with
  | true=>simp
  | false =>
  cases h8:(a.1.2==[46]) with
  | true=>simp
  | false =>
  cases h9:(a.1.2==[40]) with
  | true=>cases g<;>simp
  | false=>simp
end X
end Go.Proofs.YtgpcpbmacdhlkaaGreatDoor
/- Package lay: apart,token,leaf. -/
namespace Go.Proofs.YtgpcpbmacdhlkaaGreatDoor
open Go.RowKit
open M
set_option maxRecDepth 100000 in
set_option maxHeartbeats 4000000 in
theorem apart_any (l x:List UInt8) (k:Nat) (w:World):Calls Tryz.prog 115 #[.string (ba l),.string (ba x),.int .i64 k] w fun e w'=>e=.returned (.bool (X.apt l x (k==14)))∧w'=w:=by
 have hk:((k:Int)==14)=(k==14):=by
  by_cases h2:k=14
  ·rw [h2];rfl
  ·have h3:¬((k:Int)=14):=by omega
   rw [beq_false_of_ne h2,beq_false_of_ne h3]
 have HR:Hid (X.apt l x (k==14)=X.apt l x ((k:Int)==14)):=by show _=_;rw [hk]
 rw [HR.out]
 clear hk HR
 have HA:Hid (∀ a:List UInt8,((ba l).toList==a)=(l==a)):=fun a=>by rw [ba_tl]
 have HX:Hid (∀ a:List UInt8,((ba x).toList==a)=(x==a)):=fun a=>by rw [ba_tl]
 generalize hl:ba l=S at *
 generalize hx:ba x=T at *
 clear hl hx
 cases c0:(l==[]) with
 | true =>
  have g0:(S.toList==[])=true:=(HA.out []).trans c0
  have HE:Hid (X.apt l x ((k:Int)==14)=false):=by show _=_;unfold X.apt;simp [c0]
  clear c0
  go_enter Tryz.func115,Tryz.ntmps115
  go_wp2_with fail
  go_ret
  exact ⟨by rw [HE.out];rfl,rfl⟩
 | false =>
 have g0:(S.toList==[])=false:=(HA.out []).trans c0
 cases c1:(l==[40]) with
 | true =>
  have g1:(S.toList==[40])=true:=(HA.out [40]).trans c1
  have HE:Hid (X.apt l x ((k:Int)==14)=false):=by show _=_;unfold X.apt;simp [c0,c1]
  clear c0 c1
  go_enter Tryz.func115,Tryz.ntmps115
  go_wp2_with fail
  go_ret
  exact ⟨by rw [HE.out];rfl,rfl⟩
 | false =>
 have g1:(S.toList==[40])=false:=(HA.out [40]).trans c1
 cases c2:(l==[91]) with
 | true =>
  have g2:(S.toList==[91])=true:=(HA.out [91]).trans c2
  have HE:Hid (X.apt l x ((k:Int)==14)=false):=by show _=_;unfold X.apt;simp [c0,c1,c2]
  clear c0 c1 c2
  go_enter Tryz.func115,Tryz.ntmps115
  go_wp2_with fail
  go_ret
  exact ⟨by rw [HE.out];rfl,rfl⟩
 | false =>
 have g2:(S.toList==[91])=false:=(HA.out [91]).trans c2
 cases c3:(l==[46]) with
 | true =>
  have g3:(S.toList==[46])=true:=(HA.out [46]).trans c3
  have HE:Hid (X.apt l x ((k:Int)==14)=false):=by show _=_;unfold X.apt;simp [c0,c1,c2,c3]
  clear c0 c1 c2 c3
  go_enter Tryz.func115,Tryz.ntmps115
  go_wp2_with fail
  go_ret
  exact ⟨by rw [HE.out];rfl,rfl⟩
 | false =>
 have g3:(S.toList==[46])=false:=(HA.out [46]).trans c3
 cases c4:(x==[41]) with
 | true =>
  have g4:(T.toList==[41])=true:=(HX.out [41]).trans c4
  have HE:Hid (X.apt l x ((k:Int)==14)=false):=by show _=_;unfold X.apt;simp [c0,c1,c2,c3,c4]
  clear c0 c1 c2 c3 c4
  go_enter Tryz.func115,Tryz.ntmps115
  go_wp2_with fail
  go_ret
  exact ⟨by rw [HE.out];rfl,rfl⟩
 | false =>
 have g4:(T.toList==[41])=false:=(HX.out [41]).trans c4
 cases c5:(x==[93]) with
 | true =>
  have g5:(T.toList==[93])=true:=(HX.out [93]).trans c5
  have HE:Hid (X.apt l x ((k:Int)==14)=false):=by show _=_;unfold X.apt;simp [c0,c1,c2,c3,c4,c5]
  clear c0 c1 c2 c3 c4 c5
  go_enter Tryz.func115,Tryz.ntmps115
  go_wp2_with fail
  go_ret
  exact ⟨by rw [HE.out];rfl,rfl⟩
 | false =>
 have g5:(T.toList==[93])=false:=(HX.out [93]).trans c5
 cases c6:(x==[44]) with
 | true =>
  have g6:(T.toList==[44])=true:=(HX.out [44]).trans c6
  have HE:Hid (X.apt l x ((k:Int)==14)=false):=by show _=_;unfold X.apt;simp [c0,c1,c2,c3,c4,c5,c6]
  clear c0 c1 c2 c3 c4 c5 c6
  go_enter Tryz.func115,Tryz.ntmps115
  go_wp2_with fail
  go_ret
  exact ⟨by rw [HE.out];rfl,rfl⟩
 | false =>
 have g6:(T.toList==[44])=false:=(HX.out [44]).trans c6
 cases c7:(x==[59]) with
 | true =>
  have g7:(T.toList==[59])=true:=(HX.out [59]).trans c7
  have HE:Hid (X.apt l x ((k:Int)==14)=false):=by show _=_;unfold X.apt;simp [c0,c1,c2,c3,c4,c5,c6,c7]
  clear c0 c1 c2 c3 c4 c5 c6 c7
  go_enter Tryz.func115,Tryz.ntmps115
  go_wp2_with fail
  go_ret
  exact ⟨by rw [HE.out];rfl,rfl⟩
 | false =>
 have g7:(T.toList==[59])=false:=(HX.out [59]).trans c7
 cases c8:(x==[46]) with
 | true =>
  have g8:(T.toList==[46])=true:=(HX.out [46]).trans c8
  have HE:Hid (X.apt l x ((k:Int)==14)=false):=by show _=_;unfold X.apt;simp [c0,c1,c2,c3,c4,c5,c6,c7,c8]
  clear c0 c1 c2 c3 c4 c5 c6 c7 c8
  go_enter Tryz.func115,Tryz.ntmps115
  go_wp2_with fail
  go_ret
  exact ⟨by rw [HE.out];rfl,rfl⟩
 | false =>
 have g8:(T.toList==[46])=false:=(HX.out [46]).trans c8
 cases c9:(x==[40]) with
 | true =>
  have g9:(T.toList==[40])=true:=(HX.out [40]).trans c9
  have HE:Hid (X.apt l x ((k:Int)==14)=((k:Int)==14)):=by show _=_;unfold X.apt;simp [c0,c1,c2,c3,c4,c5,c6,c7,c8,c9]
  clear c0 c1 c2 c3 c4 c5 c6 c7 c8 c9
  go_enter Tryz.func115,Tryz.ntmps115
  go_wp2_with fail
  go_ret
  exact ⟨by rw [HE.out];rfl,rfl⟩
 | false =>
 have g9:(T.toList==[40])=false:=(HX.out [40]).trans c9
 have HE:Hid (X.apt l x ((k:Int)==14)=true):=by show _=_;unfold X.apt;simp [c0,c1,c2,c3,c4,c5,c6,c7,c8,c9]
 clear c0 c1 c2 c3 c4 c5 c6 c7 c8 c9
 go_enter Tryz.func115,Tryz.ntmps115
 go_wp2_with fail
 go_ret
 exact ⟨by rw [HE.out];rfl,rfl⟩
end Go.Proofs.YtgpcpbmacdhlkaaGreatDoor
/- Package lay: token. -/
namespace Go.Proofs.YtgpcpbmacdhlkaaGreatDoor
open Go.RowKit
open M
theorem append_str_at (w:World) (base:Nat) (t u ty e:TypeId) (i:TypeInfo) (ht:Tryz.prog.underlying t=some (.slice e)) (hu:Tryz.prog.underlying u=some .string) (hi:Tryz.prog.info? e=some i) (hz:i.zero=some (.int .u8 0))
  (hsize:i.size=1) (hby:i.bytes=1) (v:Value) (n:Nat) (xs:List Value) (hown:w.ownsRow base e 1 v n xs) (s:ByteArray) (h0:0<s.size)
  (hbytes:n+s.size≤140737488355328) (hbase:base≤w.heap.size) :
  ∃ v' w',(Builtin.append_ #[t,u] ty #[v,.string s]).run Tryz.prog w=.ok v' w'∧w'.ownsRow base e 1 v' (n+s.size) (xs++Lib.strCells s)∧w.grownBy w' v.ownBlock∧(∃ g cap,v'=.slice (some ⟨g,0,none⟩) (n+s.size) cap∧(v.ownBlock=some g∨g=w.heap.size)):=by
 have h63:n+s.size≤maxLen:=by unfold maxLen;omega
 obtain ⟨v',w',hr,h2,h3,_⟩:=Lib.run_append_own_string (P:=Tryz.prog) w base t u ty e i ht hu hi hz hsize hby v n xs hown s h63 hbytes hbase
 refine ⟨v',w',hr,h2,h3,?_⟩
 have hxl:xs.length=n:=by simpa using hown.1
 rcases hown.2 with ⟨rfl,rfl⟩|⟨g,cap,cur,rfl,hbg,hg,hnc,hcm,hcs,htake⟩
 ·have hr2:=run_append_nil_string (P:=Tryz.prog) w t u ty e i (.int .u8 0) ht hu hi hz s h0 (by omega) (by rw [hby];omega)
  rw [hr2] at hr
  injection hr with h1 _
  exact ⟨_,_,by rw [← h1,Nat.zero_add],.inr rfl⟩
 ·by_cases hroom:n+s.size≤cap
  ·have hr2:=Lib.run_append_room_string (P:=Tryz.prog) w t u ty e i ht hu hi hsize g n cap cur hg s hroom (by rw [hcs];omega)
   rw [hr2] at hr
   injection hr with h1 _
   exact ⟨_,_,h1.symm,.inl rfl⟩
  ·have holds:∀ j u,xs[j]?=some u→w.cell? ((⟨g,0,none⟩:Addr).add j)=some u:=hown.cells (g:=g) rfl
   have hr2:=Lib.run_append_grow_string (P:=Tryz.prog) w t u ty e i (.int .u8 0) ht hu hi hz ⟨g,0,none⟩ n cap xs (by rw [hsize];simpa using hxl) holds s (by omega) (by omega) (by rw [hby];exact growslice_fits (by omega) (by omega))
   rw [hr2] at hr
   injection hr with h1 _
   exact ⟨_,_,h1.symm,.inr rfl⟩
theorem wpList_append_str_at (w:World) {ops:Array Oper} {rest:List Oper} {o:Oper} {a:Act} {Q:Exit→Act→World→Prop} (hgd:o.guard=none) (sl x:Operand) (t u:TypeId)
  (ho:o.op=.call { callee:=.builtin .append,args:=#[sl,x],argTypes:=#[t,u] })
  (base:Nat) (e:TypeId) (i:TypeInfo) (ht:Tryz.prog.underlying t=some (.slice e)) (hu:Tryz.prog.underlying u=some .string) (hi:Tryz.prog.info? e=some i) (hz:i.zero=some (.int .u8 0))
  (hsize:i.size=1) (hby:i.bytes=1) (v:Value) (n:Nat) (xs:List Value) (hs:a.eval sl=v) (hown:w.ownsRow base e 1 v n xs) (s:ByteArray) (hx:a.eval x=.string s) (h0:0<s.size)
  (hbytes:n+s.size≤140737488355328) (hbase:base≤w.heap.size)
  (h:∀ g cap w',w'.ownsRow base e 1 (.slice (some ⟨g,0,none⟩) (n+s.size) cap) (n+s.size) (xs++Lib.strCells s)→w.grownBy w' v.ownBlock→(v.ownBlock=some g∨g=w.heap.size)→wpList Tryz.prog ops Q rest (a.put o.dst (.slice (some ⟨g,0,none⟩) (n+s.size) cap)) w'):wpList Tryz.prog ops Q (o::rest) a w:=by
 refine wpList_plain hgd fun K hK=>?_
 obtain ⟨v',w',hr,h2,h3,g,cap,rfl,h4⟩:=append_str_at w base t u o.type e i ht hu hi hz hsize hby v n xs hown s h0 hbytes hbase
 unfold Oper.wp execOp
 simp only [ho,resolve,invoke,builtin,Sem.run_bind,Sem.run_pure,Result.andThen_ok,List.map_toArray,List.map_cons,List.map_nil,hs,hx,hr]
 exact hK _ _ (h g cap w' h2 h3 h4)
theorem infoBy:(Tryz.prog.info? 5).map (fun i=>(i.zero,i.size,i.bytes))=some (some (.int .u8 0),1,1):=by kernel_rfl
theorem infoEx:(Tryz.prog.info? 146).map (fun i=>(i.zero,i.size,i.bytes))=some (some (.agg #[.int .i64 0,.int .i64 0]),2,16):=by kernel_rfl
theorem exv_snoc (E:List (Nat × Nat)) (e:Nat × Nat):exv (E++[e])=exv E++[.int .i64 e.1,.int .i64 e.2]:=by unfold exv;rw [List.flatMap_append];simp
def RowTo (w:World) (R:Nat) (rm:List (List UInt8)) (F:List UInt8) (E:List (Nat × Nat)) (la:List UInt8) (w':World):Prop:=∃ rv fv tv,RawR w' R rm F E la rv fv tv∧FK RT R w w'
theorem raw_far {w:World} {R:Nat} {cs:Array Value} {e:TypeId} {size n:Nat} {v:Value} {xs:List Value} (hblk:w.heap[R]?=some (.cells cs 92 (0,0))) (ho:w.ownsRow R e size v n xs) (he:e≠92):some R≠v.ownBlock:=fun e1=>by
 obtain ⟨-,c,hc⟩:=own_ty ho e1.symm
 exact he (cells_ty hc hblk)
set_option maxRecDepth 100000 in
set_option maxHeartbeats 8000000 in
theorem atoken_any (L:List X.Lf) (a:X.Lf) (k:Nat) (R:Nat) (rm:List (List UInt8)) (rv fv tv:Value) (w:World) (hx:a.1.2≠[]) (ha:a.2=((k==14)&&a.1.2==[40])) (hL:∀ b∈L,b.1.2≠[]) (h:RawR w R rm (X.flt L) (X.exts L) (X.lastT L) rv fv tv) (hlen:(X.flt (L++[a])).length≤8589934592) (hll:L.length≤268435456) :
  Calls Tryz.prog 87 #[.pointer (some ⟨R,0,none⟩),.string (ba a.1.2),.int .i64 k] w fun e w'=>e=.returned (.tuple #[])∧Hid (RowTo w R rm (X.flt (L++[a])) (X.exts (L++[a])) (X.lastT (L++[a])) w'):=by
 obtain ⟨ib,hib,hb0,hb1,hb2⟩:=info_parts infoBy
 obtain ⟨ie,hie,he0,he1,he2⟩:=info_parts infoEx
 have hg:=X.gap_apt hL a (k==14) ha
 have hfs:=X.flt_snoc L a
 have hes:=X.exts_snoc L a
 have hel:=X.exts_len L
 rw [X.lastT_snoc]
 rw [hfs] at hlen hes
 rw [hfs,hes]
 have HAP:=hide (fun W=>apart_any (X.lastT L) a.1.2 k W)
 rw [List.length_append,List.length_append] at hlen
 have hxl:0<(ba a.1.2).size:=by rw [ba_size];exact List.length_pos_iff.2 hx
 have hxs:(ba a.1.2).size=a.1.2.length:=ba_size _
 have HSC:Hid (Lib.strCells (ba a.1.2)=Lib.byteCells a.1.2):=by show _=_;unfold Lib.strCells Lib.byteCells;simp [ba]
 have HH:=hide h
 obtain ⟨⟨r0,r1,r2,r3⟩,rf,hRl⟩:=h.cells
 have rf1:=rf 1
 clear h hfs hes hL ha hx rf
 generalize hl0:X.lastT L=la at *
 generalize X.flt L=F at *
 generalize X.exts L=E at *
 have hEl:E.length≤268435456:=by rw [hel];exact hll
 clear hel
 generalize a.1.2=x at *
 generalize X.gap L a=gp at *
 go_enter Tryz.func87,Tryz.ntmps87
 go_wp2_with fail
 refine ((HAP.out) w).mono ?_
 rintro e w1 ⟨rfl,rfl⟩
 clear HAP
 go_upto_if 13 with fail
 go_cut [] (fun wx=>Hid (∃ fvA,RawR wx R rm (F++gp) E la rv fvA tv∧FK RT R w1 wx))
 case first =>
  cases hap:X.apt la x (k==14) with
  | false =>
   have hgp:gp=[]:=by rw [hg,hap];rfl
   clear hg
   have HF:Hid (∃ fvA,RawR w1 R rm (F++gp) E la rv fvA tv∧FK RT R w1 w1):=⟨fv,by rw [hgp,List.append_nil];exact HH.out,FK.refl _ _ _⟩
   go_wp2_with fail
   go_meet
   case rel=>exact HF
  | true =>
   have hgp:gp=[32]:=by rw [hg,hap];rfl
   clear hg
   go_wp2_with (at_builtin;refine wpList_append_lies _ rfl _ _ 47 rfl R 5 ib _ 1 1 Tryz.underlying47 hib hb0 hb1 hb2 rfl (by decide) fv F.length _ rfl (((HH.out).ofl:w1.ownsRow _ _ _ _ _ _).alloc _) ⟨w1.heap.size,0,none⟩ 1 1 [.int .u8 32] rfl rfl (World.news_of_block (cs:=#[.int .u8 32]) (heap_alloc_new w1 _)) (by simp [Value.oneCell']) (by omega) (by unfold maxLen;omega) (by omega) (by simp;omega) (w1.heap.size+1) (by simp) ?_;intro g5 cap5 w5 hown5 hgrow5 hat5 hlt5;have HO5:=hide hown5;have HG5:=hide hgrow5;have hc5:w5.frozen? ⟨R,1,none⟩=false:=(hgrow5.frozen_far ⟨R,1,none⟩ (by simp;omega) (raw_far (HH.out).blk (HH.out).ofl (by decide))).trans ((World.frozen?_alloc_old _ _ ⟨R,1,none⟩ (by simp;omega)).trans rf1);have hd5:w5.cell? ⟨R,1,none⟩=some fv:=(hgrow5.cell_far ⟨R,1,none⟩ (by simp;omega) (raw_far (HH.out).blk (HH.out).ofl (by decide))).trans ((World.cell?_alloc_old _ _ ⟨R,1,none⟩ (by simp;omega)).trans r1);clear hown5 hgrow5 hat5 hlt5)
   have HF:Hid (∃ fvA,RawR (w5.setCell ⟨R,1,none⟩ (.slice (some ⟨g5,0,none⟩) (F.length+1) cap5)) R rm (F++gp) E la rv fvA tv∧FK RT R w1 (w5.setCell ⟨R,1,none⟩ (.slice (some ⟨g5,0,none⟩) (F.length+1) cap5))):=by
    have:=(HH.out).putF (F':=F++[32]) (fv':=.slice (some ⟨g5,0,none⟩) (F.length+1) cap5) ((Below.refl _ w1).alloc (Nat.le_refl _) _) (by rw [List.length_append,Lib.byteCells_append];exact HO5.out) HG5.out
    rw [hgp]
    exact ⟨_,this⟩
   go_meet
   case rel=>exact HF
 case rest =>
  obtain ⟨fvA,h1,k1⟩:=hcut.out
  have hgl:gp.length≤1:=by rw [hg];split<;>simp
  clear hg HH r0 r1 r2 r3 rf1 hcut
  have HR1:=hide h1
  have HK1:=hide k1
  obtain ⟨⟨r0,r1,r2,r3⟩,rf,hRx⟩:=h1.cells
  have rf1:=rf 1
  have hfl:=owns_len h1.ofl
  have hfar:=raw_far h1.blk h1.ofl (by decide)
  have hR2:R<wc.heap.size:=hRx
  clear h1 k1 rf
  obtain ⟨ao,an,ac,rfl⟩:∃ ao an ac,fvA=.slice ao an ac:=by
   rcases (HR1.out).ofl.2 with ⟨rfl,-⟩|⟨g,cap,cur,rfl,-⟩
   ·exact ⟨_,_,_,rfl⟩
   ·exact ⟨_,_,_,rfl⟩
  have hfl':an=(F++gp).length:=hfl
  clear hfl
  subst hfl'
  generalize hG:F++gp=G at *
  have HGl:Hid (G.length=F.length+gp.length):=by show _=_;rw [← hG,List.length_append]
  have hGb:G.length+x.length≤8589934592:=by have:G.length=F.length+gp.length:=HGl.out;omega
  have HGE:=hide hG
  clear hG
  go_wp2_with (at_builtin;refine wpList_append_str_at _ rfl _ _ 47 9 rfl R 5 ib Tryz.underlying47 Tryz.underlying9 hib hb0 hb1 hb2 _ _ _ rfl (HR1.out).ofl (ba x) rfl hxl (by omega) (by omega) ?_;intro g6 cap6 w6 hown6 hgrow6 hat6;have HO6:=hide hown6;have HG6:=hide hgrow6;have hc6:w6.frozen? ⟨R,1,none⟩=false:=(hgrow6.frozen_far ⟨R,1,none⟩ hR2 hfar).trans rf1;have hd6:w6.cell? ⟨R,1,none⟩=some (.slice ao G.length ac):=(hgrow6.cell_far ⟨R,1,none⟩ hR2 hfar).trans r1;clear hown6 hgrow6 hat6)
  have hp2:=(HR1.out).putF (F':=G++x) (fv':=.slice (some ⟨g6,0,none⟩) (G.length+x.length) cap6) (Below.refl _ wc) (by rw [List.length_append,Lib.byteCells_append,← HSC.out,← hxs];exact HO6.out) HG6.out
  generalize w6.setCell ⟨R,1,none⟩ (.slice (some ⟨g6,0,none⟩) (G.length+x.length) cap6)=w7 at *
  have HR2:=hide hp2.1
  have HK2:=hide ((HK1.out).trans hp2.2)
  obtain ⟨⟨s0,s1,s2,s3⟩,sf,hRx2⟩:=hp2.1.cells
  have sf2:=sf 2
  have hfar2:=raw_far hp2.1.blk hp2.1.oex (by decide)
  clear hp2 HO6 HG6 hc6 hd6 HR1 HK1 r0 r1 r2 r3 rf1 hfar sf
  have HGX:Hid (G++x=F++(gp++x)):=by show _=_;rw [← HGE.out,List.append_assoc]
  refine wp_region_noPanic ?_
  refine wpTo_start (S:=fun w'=>w'.cell? ⟨R,1,none⟩=some (.slice (some ⟨g6,0,none⟩) (G.length+x.length) cap6)∧w'.cell? ⟨R,2,none⟩=some tv) (z:=16) (by kernel_rfl) ?_
  have hS:w7.drew.cell? ⟨R,1,none⟩=some (.slice (some ⟨g6,0,none⟩) (G.length+x.length) cap6)∧w7.drew.cell? ⟨R,2,none⟩=some tv:=⟨s1,s2⟩
  iterate 12 (refine wpTo_nx0 (v:=?_) rfl rfl (by kernel_rfl) (by kernel_rfl) (by kernel_rfl) (by kernel_rfl) (fun _ _ _ h=>h) (Or.inl ⟨by rfl,?_⟩) hS ?_;rotate_left;(· (intro wx hSw;(try dsimp only at hSw);go_simp;try (with_reducible rfl)));simp only [Act.put,List.setIfInBounds_toArray,List.set_cons_zero,List.set_cons_succ])
  refine wpTo_one (i:=12) (by kernel_rfl) rfl (fun K hK=>?_)
  go_simp
  refine hK.out _ _ (fun _=>by first|go_keep|(dsimp only;go_keep)) (fun hS2=>?_)
  clear hS hK K
  have hS:=hS2 (by decide)
  clear hS2
  refine wpTo_one (i:=13) (by kernel_rfl) rfl (fun K hK=>?_)
  refine step_append_lies _ (by rfl) _ _ _ (by rfl) R 146 ie _ 2 16 Tryz.underlying90 hie he0 he1 he2 rfl (by omega) tv E.length _ (by rfl) ((((HR2.out).oex:w7.ownsRow _ _ _ _ _ _).drew).alloc _)
   ⟨w7.heap.size,0,none⟩ 1 1 [.int .i64 G.length,.int .i64 ((G.length+x.length:Nat):Int)] (by rfl) (by rfl) (World.news_of_block (cs:=#[.int .i64 G.length,.int .i64 ((G.length+x.length:Nat):Int)]) (t:=146) (fr:=(0,0)) (heap_alloc_new w7.drew _)) (by simp [Value.oneCell'])
   (by omega) (by unfold maxLen;omega) (by omega) (by simp;omega) (w7.heap.size+1) (by simp) ?_
  intro g8 cap8 w8 hown8 hgrow8 hat8 hlt8
  have y0:=(hgrow8.cell_far ⟨R,1,none⟩ (by simp;omega) hfar2).trans hS.1
  have y1:=(hgrow8.cell_far ⟨R,2,none⟩ (by simp;omega) hfar2).trans hS.2
  have x2:w8.frozen? ⟨R,2,none⟩=false:=(hgrow8.frozen_far ⟨R,2,none⟩ (by simp;omega) hfar2).trans ((World.frozen?_alloc_old _ _ ⟨R,2,none⟩ (by simp;omega)).trans sf2)
  show K (Act.put _ (some 50) _) w8
  refine hK.out _ _ (fun _=>⟨y0,y1⟩) (fun hS2=>?_)
  clear hS hK K
  have hS:=hS2 (by decide)
  clear hS2
  simp only [Act.put,List.setIfInBounds_toArray,List.set_cons_zero,List.set_cons_succ]
  refine wpTo_one (i:=14) (by kernel_rfl) rfl (fun K hK=>?_)
  go_simp
  refine hK.out _ _ (fun _=>hS) (fun _=>?_)
  clear hK K
  refine wpTo_one (i:=15) (by kernel_rfl) rfl (fun K hK=>?_)
  go_simp
  refine hK.out _ _ (fun _=>hS) (fun _=>?_)
  clear hK K
  refine wpTo_one (i:=16) (by kernel_rfl) rfl (fun K hK=>?_)
  go_simp
  refine hK.out _ _ (fun h=>absurd rfl h) (fun _=>wpTo_end (by kernel_rfl) ?_)
  clear hK K
  refine NoPanic.normal ?_
  have hp3:=(HR2.out).putE (E':=E++[(G.length,G.length+x.length)]) (tv':=.slice (some ⟨g8,0,none⟩) (E.length+1) cap8) (((Below.refl _ w7).drew).alloc (by simp) _) (by rw [List.length_append,exv_snoc];exact hown8) hgrow8
  clear y0 y1 x2 hS hown8 hgrow8 hat8 hlt8
  generalize w8.setCell ⟨R,2,none⟩ (.slice (some ⟨g8,0,none⟩) (E.length+1) cap8)=w9 at *
  obtain ⟨⟨z0,z1,z2,z3⟩,zf,hRx3⟩:=hp3.1.cells
  have zf3:=zf 3
  have hp4:=hp3.1.putL (la':=x)
  have HF:Hid (RowTo w1 R rm (G++x) (E++[(F.length+gp.length,(G++x).length)]) x (w9.setCell ⟨R,3,none⟩ (.string (ba x)))):=by
   have h4:=hp4.1
   have e1:(G.length,G.length+x.length)=(F.length+gp.length,(G++x).length):=by rw [List.length_append,HGl.out]
   rw [e1] at h4
   exact ⟨_,_,_,h4,((HK2.out).trans hp3.2).trans hp4.2⟩
  clear hp3 hp4 HK2 HR2 zf
  go_wp2_with fail
  go_end0
  rw [HGX.out] at HF
  exact ⟨rfl,HF⟩
end Go.Proofs.YtgpcpbmacdhlkaaGreatDoor
