import Derived.Test.YtoohcklcppnafaaGreatDoorOb
import Derived.Stop.Asserts
namespace Go.Proofs.YtoohcklcppnafaaGreatDoor
set_option maxRecDepth 100000
set_option maxHeartbeats 4000000
open Tryz
open Go.RowKit Go.Extern.Stop Go.Stop Go.Extern
def NQ(k:Int):Value:=if k=0 then .nilIface else .iface 49 (ak k)
theorem NU(t:Addr)(w:aG):(ReflectliteValue.unpack (.iface 89 (.pointer (some t)))).run prog w
  = .ok (.agg #[.pointer (some ⟨4,89,none⟩),aH w.heap.size,.int .u64 150]) (w.alloc (.cells #[.pointer (some t)] 89)):=bC
theorem type84 (a : Addr) (w : World) : (ReflectliteValue.methodAny (ReflectliteValue.valueError "reflectlite.Value.Type" 0) (fun t _ _ _ => ReflectliteType.toType t) #[.agg #[.pointer (some ⟨4, 89, none⟩), .pointer (some a), .int .u64 150]]).run Tryz.prog w
  = .ok (.iface 201 (.agg #[.pointer (some ⟨4,89,none⟩)])) w:=bC
theorem Zl(w:aG):((ReflectliteType.abiMethod fun t=>(fun a:Nat=>Value.int IntKind.u8 (a:Int)) <$> Rtype.kind t) #[.pointer (some ⟨4,89,none⟩)]).run prog w=.ok (.int .u8 22) w:=bC
theorem Zm(w:aG):((ReflectliteType.abiMethod fun t=>(fun a:Nat=>Value.int IntKind.u8 (a:Int)) <$> Rtype.kind t) #[.pointer (some ⟨4,49,none⟩)]).run prog w=.ok (.int .u8 2) w:=bC
theorem Mr(a:Addr)(w:aG):(ReflectliteValue.parts (.agg #[.pointer (some ⟨4,89,none⟩),.pointer (some a),.int .u64 150])).run prog w=.ok (some (89,a,150)) w:=bC
theorem VK(a p:Addr)(W:aG)(ha:W.cell? a=some (.pointer (some p))) :
  (ReflectliteValue.method (ReflectliteValue.valueError "reflectlite.Value.IsNil" 0) ReflectliteValue.isNil #[.agg #[.pointer (some ⟨4, 89, none⟩), .pointer (some a), .int .u64 150]]).run Tryz.prog W = .ok (.bool false) W := by
 change Sem.run prog (bind (ReflectliteValue.parts (Value.agg #[.pointer (some ⟨4,89,none⟩),.pointer (some a),.int .u64 150])) _) W=_;simp only[Sem.run_bind,Mr,Result.andThen];simp[ReflectliteValue.isNil,loadVar,isAgg,underlying,underlying89,ha,Result.andThen]
theorem Zn(w:aG):(ReflectliteType.method ReflectliteType.elem #[.agg #[.pointer (some ⟨4,89,none⟩)]]).run prog w=.ok (.iface 201 (.agg #[.pointer (some ⟨4,49,none⟩)])) w:=bC
theorem EB (w : World) : (ReflectliteType.relation "Implements" ReflectliteType.implements_ #[.agg #[.pointer (some ⟨4, 49, none⟩)], .iface 201 (.agg #[.pointer (some ⟨4, 25, none⟩)])]).run Tryz.prog w = .ok (.bool true) w := by kernel_rfl
theorem Q_(v:Value)(w:aG):(ReflectliteType.typeOf #[.iface 49 v]).run prog w=.ok (.iface 201 (.agg #[.pointer (some ⟨4,49,none⟩)])) w:=bC
theorem EC (w : World) : (ReflectliteType.relation "AssignableTo" ReflectliteType.assignableTo #[.agg #[.pointer (some ⟨4, 49, none⟩)], .iface 201 (.agg #[.pointer (some ⟨4, 49, none⟩)])]).run Tryz.prog w = .ok (.bool true) w := by kernel_rfl
theorem NV(x:Int)(w:aG):(ReflectliteValue.unpack (.iface 49 (ak x))).run prog w
  = .ok (.agg #[.pointer (some ⟨4,49,none⟩),aH w.heap.size,.int .u64 130]) (w.alloc (.cells #[ak x] 49)):=bC
theorem Ra(w:aG):(Rtype.elem? 89).run prog w=.ok (some 49) w:=bC
theorem bJ0(p:Addr)(w:aG):(ReflectliteValue.mk 49 p ReflectliteValue.flagAddr).run prog w=.ok (.agg #[.pointer (some ⟨4,49,none⟩),.pointer (some p),.int .u64 386]) w:=bC
theorem VL(a p:Addr)(W:aG)(ha:W.cell? a=some (.pointer (some p))) :
  (ReflectliteValue.method (ReflectliteValue.valueError "reflectlite.Value.Elem" 0) ReflectliteValue.elem #[.agg #[.pointer (some ⟨4, 89, none⟩), .pointer (some a), .int .u64 150]]).run Tryz.prog W
   = .ok (.agg #[.pointer (some ⟨4,49,none⟩),.pointer (some p),.int .u64 386]) W:=by
 change Sem.run prog (bind (ReflectliteValue.parts (Value.agg #[.pointer (some ⟨4,89,none⟩),.pointer (some a),.int .u64 150])) _) W=_;simp only[Sem.run_bind,Mr,Result.andThen];simp[ReflectliteValue.elem,loadVar,isAgg,underlying,underlying89,ha,Result.andThen,Ra,bJ0]
theorem Rb(a:Addr)(w:aG):(ReflectliteValue.parts (.agg #[.pointer (some ⟨4,49,none⟩),.pointer (some a),.int .u64 386])).run prog w=.ok (some (49,a,386)) w:=bC
theorem VN(a:Addr)(w:aG):(ReflectliteValue.parts (.agg #[.pointer (some ⟨4,49,none⟩),.pointer (some a),.int .u64 130])).run prog w=.ok (some (49,a,130)) w:=bC
theorem Rc(w:aG):(Rtype.directlyAssignable 49 49).run prog w=.ok true w:=bC
theorem aO3(ta b:Addr)(x:Int)(old:Value)(W:aG)(hb:W.cell? b=some (ak x))(ht:W.cell? ta=some old)(hf:W.frozen? ta=false) :
  (ReflectliteValue.set #[.agg #[.pointer (some ⟨4,49,none⟩),.pointer (some ta),.int .u64 386],.agg #[.pointer (some ⟨4,49,none⟩),.pointer (some b),.int .u64 130]]).run prog W
   = .ok (.tuple #[]) (W.setCell ta (ak x)):=by
 change Sem.run prog (bind (ReflectliteValue.parts (Value.agg #[.pointer (some ⟨4,49,none⟩),.pointer (some ta),.int .u64 386])) fun _=>bind (ReflectliteValue.parts (Value.agg #[.pointer (some ⟨4,49,none⟩),.pointer (some b),.int .u64 130])) _) W=_;simp only[Sem.run_bind,Rb,VN,Result.andThen];simp[ReflectliteValue.flagAddr,loadVar,isAgg,underlying,underlying49,hb,Result.andThen,Rc,storeVar,Value.cells,storeCells,Addr.add];rw[run_store prog W ta _ _ (by rfl)];simp[ht,hf]
theorem Ki (h : Value) (w : World) : (Go.method 460 201 (.agg #[h]) "Kind").run Tryz.prog w = .ok (198, h) w := by kernel_rfl
theorem Kj (h : Value) (w : World) : (Go.method 460 201 (.agg #[h]) "Elem").run Tryz.prog w = .ok (215, .agg #[h]) w := by kernel_rfl
theorem xG (h : Value) (w : World) : (Go.method 460 201 (.agg #[h]) "Implements").run Tryz.prog w = .ok (216, .agg #[h]) w := by kernel_rfl
theorem ve (h : Value) (w : World) : (Go.method 460 201 (.agg #[h]) "AssignableTo").run Tryz.prog w = .ok (213, .agg #[h]) w := by kernel_rfl
theorem Zo(x:Int)(t:Nat)(w:aG)(hg:w.cell? (aC 0 0)=some (.iface 201 (.agg #[.pointer (some ⟨4,25,none⟩)])))(ht0:w.cell? (aC t 0)=some (ak 0))(hf0:w.frozen? (aC t 0)=false)(htl:t<w.heap.size) :
  bB 29 #[.iface 49 (ak x),.iface 89 (aH t)] w fun ev w'=>ev=.returned (.bool true)∧w'=((((w.alloc (.cells #[aH t] 89)).alloc (.cells #[.pointer (some ⟨4,89,none⟩),aH w.heap.size,.int .u64 150] 144)).alloc (.cells #[.pointer (some ⟨4,89,none⟩),aH w.heap.size,.int .u64 150] 144)).alloc (.cells #[ak x] 49)).setCell (aC t 0) (ak x):=by
 have h6:=@run_callFunc_extern prog 55 _ (fun args=>ReflectliteValue.unpack (args.getD 0 (.tuple #[]))) func55 (by kernel_rfl) (by kernel_rfl) (by kernel_rfl) (by kernel_rfl);have h7 := @run_callFunc_extern Tryz.prog 56 _ (ReflectliteValue.methodAny (ReflectliteValue.valueError "reflectlite.Value.Type" 0) (fun t _ _ _ => ReflectliteType.toType t)) Tryz.func56 (by kernel_rfl) (by kernel_rfl) (by kernel_rfl) (by kernel_rfl)
 have h8 := @run_callFunc_extern Tryz.prog 57 _ (ReflectliteValue.method (ReflectliteValue.valueError "reflectlite.Value.IsNil" 0) ReflectliteValue.isNil) Tryz.func57 (by kernel_rfl) (by kernel_rfl) (by kernel_rfl) (by kernel_rfl)
 have h27:=@run_callFunc_extern prog 198 _ (ReflectliteType.abiMethod fun t=>do pure (.int .u8 (← Rtype.kind t))) func198 (by kernel_rfl) (by kernel_rfl) (by kernel_rfl) (by kernel_rfl);have h37:=@run_callFunc_extern prog 215 _ (ReflectliteType.method ReflectliteType.elem) func215 (by kernel_rfl) (by kernel_rfl) (by kernel_rfl) (by kernel_rfl);have h38 := @run_callFunc_extern Tryz.prog 216 _ (ReflectliteType.relation "Implements" ReflectliteType.implements_) Tryz.func216 (by kernel_rfl) (by kernel_rfl) (by kernel_rfl) (by kernel_rfl)
 have h10:=@run_callFunc_extern prog 94 _ ReflectliteType.typeOf func94 (by kernel_rfl) (by kernel_rfl) (by kernel_rfl) (by kernel_rfl);have h35 := @run_callFunc_extern Tryz.prog 213 _ (ReflectliteType.relation "AssignableTo" ReflectliteType.assignableTo) Tryz.func213 (by kernel_rfl) (by kernel_rfl) (by kernel_rfl) (by kernel_rfl)
 have h11 := @run_callFunc_extern Tryz.prog 95 _ (ReflectliteValue.method (ReflectliteValue.valueError "reflectlite.Value.Elem" 0) ReflectliteValue.elem) Tryz.func95 (by kernel_rfl) (by kernel_rfl) (by kernel_rfl) (by kernel_rfl)
 have h12:=@run_callFunc_extern prog 96 _ ReflectliteValue.set func96 bC bC bC bC;have tO:=Q_;have a25:=EC;have v25:=NV;have f6:=NU;have f7:=type84;have k27:=Zl;have k25:=Zm;have e27:=Zn;have i25:=EB;have hlt:0<w.heap.size:=au
 have mK:=Ki;have mE:=Kj;have mI:=xG;have mA:=ve;have n8:=VK ⟨w.heap.size,0,none⟩ ⟨t,0,none⟩ ((w.alloc (.cells #[aH t] 89)).alloc (.cells #[.pointer (some ⟨4,89,none⟩),aH w.heap.size,.int .u64 150] 144)) aT;have hg2:((w.alloc (.cells #[aH t] 89)).alloc (.cells #[.pointer (some ⟨4,89,none⟩),aH w.heap.size,.int .u64 150] 144)).cell? (aC 0 0)=some (.iface 201 (.agg #[.pointer (some ⟨4,25,none⟩)])):=by
  rw[World.cell?_alloc_lt _ _ ⟨0,0,none⟩ aT,World.cell?_alloc_lt _ _ ⟨0,0,none⟩ hlt];exact hg
 have el:=VL ⟨w.heap.size,0,none⟩ ⟨t,0,none⟩ (((w.alloc (.cells #[aH t] 89)).alloc (.cells #[.pointer (some ⟨4,89,none⟩),aH w.heap.size,.int .u64 150] 144)).alloc (.cells #[.pointer (some ⟨4,89,none⟩),aH w.heap.size,.int .u64 150] 144)) (by rw[World.cell?_alloc_lt _ _ ⟨w.heap.size,0,none⟩ aQ];simp);have st:=aO3 ⟨t,0,none⟩ ⟨w.heap.size+1+1+1,0,none⟩ x (ak 0) ((((w.alloc (.cells #[aH t] 89)).alloc (.cells #[.pointer (some ⟨4,89,none⟩),aH w.heap.size,.int .u64 150] 144)).alloc (.cells #[.pointer (some ⟨4,89,none⟩),aH w.heap.size,.int .u64 150] 144)).alloc (.cells #[ak x] 49))
  (by rw[World.cell?_alloc_at _ _ _ _ aT];rfl)
  (by rw[World.cell?_alloc_lt _ _ ⟨t,0,none⟩ aQ,World.cell?_alloc_lt _ _ ⟨t,0,none⟩ aQ,World.cell?_alloc_lt _ _ ⟨t,0,none⟩ aQ,World.cell?_alloc_lt _ _ ⟨t,0,none⟩ htl];exact ht0)
  (by rw[bD _ _ ⟨t,0,none⟩ aQ,bD _ _ ⟨t,0,none⟩ aQ,bD _ _ ⟨t,0,none⟩ aQ,bD _ _ ⟨t,0,none⟩ (Nat.ne_of_lt htl)];exact hf0)
 go_enter func29,ntmps29;go_wp2
 refine wp_loop_rounds 1 ?_;rw[rounds_succ];go_wp2
 go_ret;exact⟨rfl,rfl⟩
def Em(w:aG):Prop:=w.cell? (aC 0 0)=some (.iface 201 (.agg #[.pointer (some ⟨4,25,none⟩)]))∧0<w.heap.size
theorem Em.below{w w':aG}(h:Em w)(hb:Below w.heap.size w w'):Em w' :=
 ⟨(hb.cell (p:=⟨0,0,none⟩) h.2).trans h.1,aJ h.2 hb.size⟩
theorem Rf(w:aG):bB 14 #[.nilIface] w (cK (ak 0) fun w'=>Below w.heap.size w w'):=by
 go_enter func14,ntmps14;go_wp2_with fail
 go_ret;exact⟨rfl,aB _ _⟩
theorem Rh(x:Int)(w:aG)(hE:Em w):bB 14 #[.iface 49 (ak x)] w (cK (ak x) fun w'=>Below w.heap.size w w'):=by
 obtain⟨hg,hz⟩:=hE;have hgA:(w.alloc (.cells #[ak 0] 49)).cell? (aC 0 0)=some (.iface 201 (.agg #[.pointer (some ⟨4,25,none⟩)])):=by
  rw[World.cell?_alloc_lt _ _ ⟨0,0,none⟩ hz];exact hg
 have htA:(w.alloc (.cells #[ak 0] 49)).cell? (aC w.heap.size 0)=some (ak 0):=aT
 have hfA:(w.alloc (.cells #[ak 0] 49)).frozen? (aC w.heap.size 0)=false:=aT
 have Hc:=Zo x w.heap.size (w.alloc (.cells #[ak 0] 49)) hgA htA hfA aT;have HC:Hid (bB 29 #[.iface 49 (ak x),.iface 89 (aH w.heap.size)] (w.alloc (.cells #[ak 0] 49)) fun ev w'=>ev=.returned (.bool true)∧w'.cell? (aC w.heap.size 0)=some (ak x)∧Below w.heap.size w w'):=by
  refine Hc.mono ?_;rintro e w' ⟨rfl,rfl⟩;refine⟨rfl,?_,?_⟩
  ·refine World.cell?_setCell_same _ _ _ (u:=ak 0) ?_
   rw[World.cell?_alloc_lt _ _ ⟨w.heap.size,0,none⟩ aQ,World.cell?_alloc_lt _ _ ⟨w.heap.size,0,none⟩ aQ,World.cell?_alloc_lt _ _ ⟨w.heap.size,0,none⟩ aQ,World.cell?_alloc_lt _ _ ⟨w.heap.size,0,none⟩ aT];exact htA
  exact Below.setCell (((((((aB _ w).alloc (ax _) _).alloc aT _).alloc aQ _).alloc aQ _).alloc aQ _)) (ax _) _
 clear Hc hgA htA hfA;go_enter func14,ntmps14;go_wp2_with fail
 refine(HC.o).aX ?_;rintro w1 ⟨hc,hb⟩;go_wp2_with fail
 go_ret;exact⟨rfl,hb⟩
theorem Aj(k:Int)(w:aG)(hE:Em w):bB 7 #[NQ k,ak k] w (cK (.bool true) fun w'=>Below w.heap.size w w'):=by
 by_cases hk:k=0
 ·subst hk
  rw[show NQ 0=.nilIface from rfl];go_enter func7,ntmps7;go_wp2_with fail
  refine(Rf w).aX fun w1 hb=>?_;go_wp2_with fail
  go_ret;exact⟨rfl,hb⟩
 ·rw[show NQ k=.iface 49 (ak k) from aM hk]
  go_enter func7,ntmps7;go_wp2_with fail
  refine(Rh k w hE).aX fun w1 hb=>?_;go_wp2_with fail
  go_ret;exact⟨aT,hb⟩
end Go.Proofs.YtoohcklcppnafaaGreatDoor
