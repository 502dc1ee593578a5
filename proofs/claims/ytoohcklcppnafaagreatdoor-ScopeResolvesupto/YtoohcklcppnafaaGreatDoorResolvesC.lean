/- The law ScopeResolves,at every input of bulk at most 1048576,is true,and leaves its arguments as they were: the card of the second form. -/
import Derived.Test.YtoohcklcppnafaaGreatDoorCards
import Derived.Test.YtoohcklcppnafaaGreatDoorTie
import Derived.Test.YtoohcklcppnafaaGreatDoorBzc
import Derived.Test.YtoohcklcppnafaaGreatDoorBzd
import Derived.Lib.SmallJoins
import Derived.Deep.DeepHandedRow
import Derived.Lib.LaidU8T
import Derived.PinnedBridge
namespace Go.Proofs.YtoohcklcppnafaaGreatDoor.scopeResolves
set_option maxRecDepth 100000
open Go.ChangeShapes Go.WideShapes Go.ChangeAt Go.RowKit
open Go.ChangeMaps (open_string shut_string)
theorem own:ownKnob Tryz.prog.godebug=none:=bC
theorem laidOut:laidOutB Tryz.prog=true:=bC
theorem OI:Tryz.prog.readableRec 22=true:=bC
theorem bN2:22<Tryz.prog.types.size:=by rw[show Tryz.prog.types.size=360 by kernel_rfl];decide
theorem types:U8Types Tryz.prog tH:={ t5:=wh.t5,t119:=wh.t119,t138:=wh.t138,t139:=wh.t139 }
theorem extra:U8Extra Tryz.prog tH:={ n3:=bC,n4:=bC,y3:=bC,y4:=bC,c5:=bC,c119:=bC,c138:=by kernel_rfl }
theorem OJ:(Rows.laid_unicode_utf8_acceptRanges:DataW Unit)=Lib.acceptData:=bC
theorem Sj:Rows.laid_unicode_utf8_first=Lib.firstData:=by
 unfold Rows.laid_unicode_utf8_first;exact Pinned.utf8First_eq
theorem et : Tryz.prog.globalNamed "errors.errorType" = some 0 := by kernel_rfl
theorem rt : (Tryz.prog.cutTypes.find? (·.1 == "internal/reflectlite.rtype")).map (·.2) = some 201 := by kernel_rfl
theorem aU6:Tryz.prog.types.size=360:=bC
theorem aA0:((List.range 360).filter fun t=>Tryz.prog.rowNamed t [101,114,114,111,114])=[25]:=bC
theorem parts {W : World} (h : laidMetH Tryz.prog Rows.scopeResolvesUptoRow.laid W) : laidMet Tryz.prog [("unicode/utf8.acceptRanges", Rows.laid_unicode_utf8_acceptRanges), ("unicode/utf8.first", Rows.laid_unicode_utf8_first)] W ∧ handlesMet Tryz.prog [("errors.errorType", Rows.laid_errors_errorType)] W := h
theorem bN3{W:aG}(h:laidMetH Tryz.prog Rows.scopeResolvesUptoRow.laid W):Em W:=by
 obtain⟨name,u,ty,e1,e2,e3,e4,e5⟩:=(parts h).2 _ (jP.2 rfl);have en:=(bQ e1).symm;subst en;obtain rfl:=bQ (rt.symm.trans e2);have hm:ty∈(List.range 360).filter fun t=>Tryz.prog.rowNamed t [101,114,114,111,114]:=List.mem_filter.2 ⟨jq.2 (by rw[← aU6];exact e3),e4⟩
 rw[aA0] at hm;obtain rfl:=jP.1 hm;have hh:typeHandle Tryz.prog 25=.pointer (some ⟨4,25,none⟩):=bC
 rw[hh] at e5;have hc:W.cell? (aC 0 0)=some (.iface 201 (.agg #[.pointer (some ⟨4,25,none⟩)])):=by simpa using World.var?_cell et e5 0
 refine⟨hc,?_⟩;by_cases hz:0<W.heap.size
 ·exact hz
 ·exfalso
  simp[World.cell?,ni (au:W.heap.size≤0)] at hc
theorem tabs {W : World} (h : laidMet Tryz.prog [("unicode/utf8.acceptRanges", Rows.laid_unicode_utf8_acceptRanges), ("unicode/utf8.first", Rows.laid_unicode_utf8_first)] W) : nE W := by
 have h1 : Lib.VarReads Tryz.prog W "unicode/utf8.first" Lib.firstData := by
  have := Lib.laidMet.reads h (n := "unicode/utf8.first") (d := Rows.laid_unicode_utf8_first) (by simp)
  rwa[Sj] at this
 have h2 : Lib.VarReads Tryz.prog W "unicode/utf8.acceptRanges" Lib.acceptData := by
  have := Lib.laidMet.reads h (n := "unicode/utf8.acceptRanges") (d := Rows.laid_unicode_utf8_acceptRanges) (by simp)
  rwa[OJ] at this
 have h3:Lib.Utf8Tabs 1 2 W:=utf8Tabs_of_readsT types extra h1 h2;refine⟨h3,?_⟩;have h4:=(h3.2 0 au).1;by_cases hz:2<W.heap.size
 ·omega
 ·exfalso
  simp[World.cell?,ni (au:W.heap.size≤2)] at h4
theorem contract(H:Type)(enc:TypeId × Value→H)(W:aG)(base:Nat)(args:Array Value)(ds gs:List (DataW H))(before:List MemPlace)
  (hval:∀(j:Nat) t v,Tryz.f3.params[j]?=some t→args[j]?=some v→Value.okWide Tryz.prog W .any base t v)
  (hW:DataW.Whole enc Tryz.prog Tryz.f3.params.toList Rows.scopeResolvesSpec.vars false W args.toList ds gs before) (hk:Rows.uptoSmall H (ds++gs)=true) (hL:laidMetH Tryz.prog Rows.scopeResolvesUptoRow.laid W) :
  Calls Tryz.prog 3 args W fun e W'=>∃ v,e=.returned v∧Rows.scopeResolvesSpec.post enc Tryz.prog Tryz.f3 false true false false W args v W':=by
 have hW':=hW;obtain⟨p,q,hA0,hV,rfl,hfz,hnd⟩:=hW;have hA:=hA0;rw[Tryz.params3] at hA hval;obtain⟨v0,Sk,d0,ds0,p0,q0,hargs,rfl,rfl,h0,r0⟩:=trodAll_cons hA;obtain⟨rfl,rfl,rfl⟩:=trodAll_nil r0;obtain rfl:args=#[v0]:=by cases args;simp_all
 obtain⟨rfl,rfl⟩:=trodVars_none hV;have z:Rows.uptoBulk d0≤1048576:=by
  have:=of_decide_eq_true hk;simp only[aL,Rows.uptoBulkAll] at this;omega
 obtain⟨aa,ln,cp,hsl⟩:=Go.WideShapes.okWide_slice Tryz.underlying22 (hval 0 22 v0 rfl rfl);obtain⟨ao,cap,l,rfl,z1,z2,z3,z4,z5⟩:=Gs (by rw[hsl];rfl) h0 z;clear hA0 hsl;simp only[aL] at hW';have hT:=tabs (parts hL).1;have hE:=bN3 hL;have bN4:∀ x∈p0,x.block<W.heap.size:=by obtain⟨fu,hfu⟩:=h0;exact DataW.trod_lt fu _ _ _ hfu
 refine(Eo ao cap l W hT hE z3 z1 z2 au (fun a ha=>by have:=z5 a ha;omega)).mono fun e W' ⟨he,hg⟩=>?_
 subst he;exact⟨_,rfl,_,_,_,[],_,[],hW',(trodAll_cons_mk (shut_bool Tryz.underlying4 _) trodAll_mk0),(trodAll_cons_mk (Below.trod laidOut OI bN2 h0 hg bN4) trodAll_mk0),rfl,hg.frame _,fun h=>by cases h⟩
def A8(h:Array Obj):Array Obj :=
 ((h.modify 1 fun|.cells _ t fz=>.cells ((List.range 256).map fun c=>Value.int .u8 (Lib.firstT c)).toArray t fz|o=>o).modify 2
  fun|.cells _ t fz=>.cells ((List.range 32).map fun c=>Value.int .u8 (if c % 2=0 then Lib.accLo (c / 2) else Lib.accHi (c / 2))).toArray t fz|o=>o).modify 0
  fun|.cells _ t fz=>.cells #[.iface 201 (.agg #[.pointer (some ⟨4,25,none⟩)])] t fz|o=>o
theorem Sl(os:Os):laidMetH Tryz.prog Rows.scopeResolvesUptoRow.laid (({ World.holding Tryz.prog os ⟨#[],#[],[]⟩ with heap:=A8 (World.holding Tryz.prog os ⟨#[],#[],[]⟩).heap }:aG).forCall (fun _ _=>0) ⟨#[],#[.slice none 0 0],[]⟩).memory :=
 laidMetH_of_parts (laidMet_of_run' 8 bC bC) bC
theorem reads(os:Os){H:Type}(enc:TypeId × Value→H):∃ places,DataW.whole enc Tryz.prog (({ World.holding Tryz.prog os ⟨#[],#[],[]⟩ with heap:=A8 (World.holding Tryz.prog os ⟨#[],#[],[]⟩).heap }:aG).forCall (fun _ _=>0) ⟨#[],#[.slice none 0 0],[]⟩).memory Tryz.f3.params.toList Rows.scopeResolvesSpec.vars false #[Value.slice none 0 0].toList 8=some ([.nil],[],places) :=
 ⟨[],bC⟩
theorem lifted(os:Os)(started:os.Started)(H:Type)(enc:TypeId × Value→H)(F:Stop.Interp) :
  ReturnsInHanded {} Tryz.checked os 3 .any ((Rows.OpenSpec.upto Rows.scopeResolvesSpec).preRow enc Tryz.prog Tryz.f3 Rows.scopeResolvesUptoRow.domain false Rows.scopeResolvesUptoRow.laid) (((Rows.OpenSpec.upto Rows.scopeResolvesSpec).at F).post enc Tryz.prog Tryz.f3 false true false false):=by
 obtain⟨places,hx⟩:=reads os enc;refine returnsInHanded_of_row (C:=Tryz.checked) (s:=Rows.OpenSpec.upto Rows.scopeResolvesSpec) own started bC Tryz.func3
  (witness_row_at (enc:=enc) (C:=Tryz.checked) false ({ World.holding Tryz.prog os ⟨#[],#[],[]⟩ with heap:=A8 (World.holding Tryz.prog os ⟨#[],#[],[]⟩).heap }:aG) #[.slice none 0 0] rfl bC bC bC
   (OpenSpec.preRow_of_cond 8 hx bC (fun k hk=>by cases hk;kernel_rfl) bC (Sl os))) ?_
 intro W base args ds gs before hval hW ug nC _ hL _ _;exact contract H enc W base args ds gs before hval hW (nC _ rfl) hL
theorem said:Rows.ScopeResolvesUptoSaid :=
 OpenClaim.holds_of_cond 3 Tryz.f3 rfl rfl rfl rfl rfl rfl rfl ⟨rfl,rfl,rfl,rfl,rfl⟩ rfl rfl rfl rfl rfl bC Tryz.func3 bC
  (of_decide_eq_true bC) (by unfold Func.isWrapper;first|(rw[aU (by decide +kernel)];kernel_rfl)|(rw[aM (by decide +kernel)];exact⟨rfl,rfl⟩))
  (fun os started H enc _ F=>by rw[OpenClaim.pre_eq_preRow];exact lifted os started H enc F)
theorem plain (f : FuncId) (fn : Func) (hf : Tryz.pinned.checked.prog.funcNamed "amanuensis/amanuensislaw3.ScopeResolves" = some f) (hfn : Tryz.pinned.checked.prog.funcs[f]? = some fn) :
  true=Tryz.pinned.checked.prog.looks []∧∀(j:Nat) t,fn.params[j]?=some t→Tryz.pinned.checked.prog.wantsStandIn t=false:=by
 obtain rfl : f = 3 := bQ ((show Tryz.prog.funcNamed "amanuensis/amanuensislaw3.ScopeResolves" = some 3 by kernel_rfl).symm.trans hf) |>.symm
 obtain rfl:fn=Tryz.f3:=(bQ (Tryz.func3.symm.trans hfn)).symm;refine⟨bC,fun j t ht=>?_⟩;rw[Tryz.params3] at ht;have kF:Tryz.prog.wantsStandIn 22=false:=bC
 have hm:t=22:=by simpa using Array.mem_of_getElem? ht
 subst hm;exact kF
theorem card:Rows.ScopeResolvesUptoCardSaid :=
 Claim7.holds_tied_plain_at .later [] _ _ _ _ said (fun _ h=>by cases h) bC (fun _ h=>by cases h) scopeResolvesUpto_row_tie rfl ⟨rfl,rfl⟩ bC rfl plain bC
end Go.Proofs.YtoohcklcppnafaaGreatDoor.scopeResolves
namespace Go.Proofs.YtoohcklcppnafaaGreatDoor
set_option maxRecDepth 100000
theorem scopeResolves_card:Rows.ScopeResolvesUptoCardSaid:=scopeResolves.card
end Go.Proofs.YtoohcklcppnafaaGreatDoor
