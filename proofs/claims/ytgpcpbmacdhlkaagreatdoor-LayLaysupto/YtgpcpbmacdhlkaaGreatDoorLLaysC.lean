/- The law LayLays,at every input of bulk at most 1048576,is true,and leaves its arguments as they were: the card of the second form. -/
import Derived.Test.YtgpcpbmacdhlkaaGreatDoorCards
import Derived.Test.YtgpcpbmacdhlkaaGreatDoorTie
import Derived.Test.YtgpcpbmacdhlkaaGreatDoorLye
import Derived.Test.YtgpcpbmacdhlkaaGreatDoorLrb
import Derived.ProofKit
import Derived.OpenShut
import Derived.ShutString
import Derived.Deep.DeepHandedRow
import Derived.Lib.LaidU8T
import Derived.PinnedBridge
import Derived.LaidHandle
namespace Go.Proofs.YtgpcpbmacdhlkaaGreatDoor.layLays
open Go.ChangeShapes Go.WideShapes Go.ChangeAt Go.RowKit
open Go.ChangeMaps (open_string shut_string)
theorem own:ownKnob Tryz.prog.godebug=none:=by kernel_rfl
theorem types:U8Types Tryz.prog Tryz.lays197_ren:={ t5:=Tryz.lays197.t5,t119:=Tryz.lays197.t119,t138:=Tryz.lays197.t138,t139:=Tryz.lays197.t139 }
theorem extra:U8Extra Tryz.prog Tryz.lays197_ren:={ n3:=by kernel_rfl,n4:=by kernel_rfl,y3:=by kernel_rfl,y4:=by kernel_rfl,c5:=by kernel_rfl,c119:=by kernel_rfl,c138:=by kernel_rfl }
theorem accept_eq:(Rows.laid_unicode_utf8_acceptRanges:DataW Unit)=Lib.acceptData:=by kernel_rfl
theorem first_eq:Rows.laid_unicode_utf8_first=Lib.firstData:=by
 unfold Rows.laid_unicode_utf8_first
 exact Pinned.utf8First_eq
theorem et : Tryz.prog.globalNamed "errors.errorType" = some 0 := by kernel_rfl
theorem rt : (Tryz.prog.cutTypes.find? (·.1 == "internal/reflectlite.rtype")).map (·.2) = some 180 := by kernel_rfl
theorem tsize:Tryz.prog.types.size=249:=by kernel_rfl
theorem oneRow:((List.range 249).filter fun t=>Tryz.prog.rowNamed t [101,114,114,111,114])=[23]:=by kernel_rfl
theorem parts {W : World} (h : laidMetH Tryz.prog Rows.layLaysUptoRow.laid W) : laidMet Tryz.prog [("unicode/utf8.acceptRanges", Rows.laid_unicode_utf8_acceptRanges), ("unicode/utf8.first", Rows.laid_unicode_utf8_first)] W ∧ handlesMet Tryz.prog [("errors.errorType", Rows.laid_errors_errorType)] W := h
theorem errT {W:World} (h:laidMetH Tryz.prog Rows.layLaysUptoRow.laid W):ErrT W:=by
 obtain ⟨name,u,ty,e1,e2,e3,e4,e5⟩:=(parts h).2 _ (List.mem_singleton.2 rfl)
 have en:name=[101,114,114,111,114]:=(Option.some.inj e1).symm
 subst en
 obtain rfl:=Option.some.inj (rt.symm.trans e2)
 have hm:ty∈(List.range 249).filter fun t=>Tryz.prog.rowNamed t [101,114,114,111,114]:=List.mem_filter.2 ⟨List.mem_range.2 (by rw [← tsize];exact e3),e4⟩
 rw [oneRow] at hm
 obtain rfl:=List.mem_singleton.1 hm
 have hh:typeHandle Tryz.prog 23=.pointer (some ⟨4,23,none⟩):=by kernel_rfl
 rw [hh] at e5
 have hc:W.cell? ⟨0,0,none⟩=some (.iface 180 (.agg #[.pointer (some ⟨4,23,none⟩)])):=by simpa using World.var?_cell et e5 0
 refine ⟨hc,?_⟩
 by_cases hz:0<W.heap.size
 ·exact hz
 ·exfalso
  simp [World.cell?,Array.getElem?_eq_none (by omega:W.heap.size≤0)] at hc
theorem tabs {W : World} (h : laidMet Tryz.prog [("unicode/utf8.acceptRanges", Rows.laid_unicode_utf8_acceptRanges), ("unicode/utf8.first", Rows.laid_unicode_utf8_first)] W) : Tabs W := by
 have h1 : Lib.VarReads Tryz.prog W "unicode/utf8.first" Lib.firstData := by
  have := Lib.laidMet.reads h (n := "unicode/utf8.first") (d := Rows.laid_unicode_utf8_first) (by simp)
  rwa [first_eq] at this
 have h2 : Lib.VarReads Tryz.prog W "unicode/utf8.acceptRanges" Lib.acceptData := by
  have := Lib.laidMet.reads h (n := "unicode/utf8.acceptRanges") (d := Rows.laid_unicode_utf8_acceptRanges) (by simp)
  rwa [accept_eq] at this
 have h3:Lib.Utf8Tabs 1 2 W:=utf8Tabs_of_readsT types extra h1 h2
 refine ⟨h3,?_⟩
 have h4:=(h3.2 0 (by omega)).1
 by_cases hz:2<W.heap.size
 ·omega
 ·exfalso
  simp [World.cell?,Array.getElem?_eq_none (by omega:W.heap.size≤2)] at h4
set_option maxRecDepth 100000 in
theorem contract (H:Type) (enc:TypeId × Value→H) (W:World) (base:Nat) (args:Array Value) (ds gs:List (DataW H)) (before:List MemPlace)
  (hval:∀ (j:Nat) t v,Tryz.f3.params[j]?=some t→args[j]?=some v→Value.okWide Tryz.prog W .any base t v)
  (hW:DataW.Whole enc Tryz.prog Tryz.f3.params.toList Rows.layLaysSpec.vars false W args.toList ds gs before) (hk:Rows.uptoSmall H (ds++gs)=true) (hL:laidMetH Tryz.prog Rows.layLaysUptoRow.laid W) :
  Calls Tryz.prog 3 args W fun e W'=>∃ v,e=.returned v∧Rows.layLaysSpec.post enc Tryz.prog Tryz.f3 false true false false W args v W':=by
 have hW':=hW
 obtain ⟨p,q,hA0,hV,rfl,hfz,hnd⟩:=hW
 have hA:DataW.TrodAll enc Tryz.prog W 0 (fun _=>true) true Tryz.f3.params.toList args.toList ds p:=hA0
 rw [Tryz.params3] at hA hval
 obtain ⟨v0,vs0,d0,ds0,p0,q0,hargs,rfl,rfl,h0,r0⟩:=trodAll_cons hA
 obtain ⟨rfl,rfl,rfl⟩:=trodAll_nil r0
 obtain rfl:args=#[v0]:=by cases args;simp_all
 obtain ⟨rfl,rfl⟩:=trodVars_none hV
 obtain ⟨a0,rfl,rfl,rfl,w0⟩:=open_string Tryz.underlying9 (hval 0 9 v0 rfl rfl) h0
 clear hA0
 simp only [List.append_nil] at hW'
 have hT:Tabs W:=tabs (parts hL).1
 have hE:ErrT W:=errT hL
 have z:a0.data.toList.length+1≤1048576:=by
  have:=of_decide_eq_true hk
  simp only [List.append_nil,Rows.uptoBulkAll,Rows.uptoBulk] at this
  omega
 have s0:a0.data.toList.length=a0.size:=bs_len a0
 refine (layLays_any layC_any a0 W hT hE (by omega)).mono fun e W' ⟨he,hg⟩=>?_
 subst he
 exact ⟨_,rfl,_,_,_,[],_,[],hW',(trodAll_cons_mk (shut_bool Tryz.underlying4 _) trodAll_mk0),(trodAll_cons_mk (shut_string Tryz.underlying9 w0) trodAll_mk0),rfl,hg.frame _,fun h=>by cases h⟩
def laidHeap (h:Array Obj):Array Obj :=
 ((h.modify 1 fun|.cells _ t fz=>.cells ((List.range 256).map fun c=>Value.int .u8 (Lib.firstT c)).toArray t fz|o=>o).modify 2
  fun|.cells _ t fz=>.cells ((List.range 32).map fun c=>Value.int .u8 (if c % 2=0 then Lib.accLo (c / 2) else Lib.accHi (c / 2))).toArray t fz|o=>o).modify 0
  fun|.cells _ t fz=>.cells #[.iface 180 (.agg #[.pointer (some ⟨4,23,none⟩)])] t fz|o=>o
theorem laid_met (os:Os):laidMetH Tryz.prog Rows.layLaysUptoRow.laid (({ World.holding Tryz.prog os ⟨#[],#[],[]⟩ with heap:=laidHeap (World.holding Tryz.prog os ⟨#[],#[],[]⟩).heap }:World).forCall (fun _ _=>0) ⟨#[],#[.string ByteArray.empty],[]⟩).memory :=
 laidMetH_of_parts (laidMet_of_run' 8 (by kernel_rfl) (by kernel_rfl)) (by kernel_rfl)
theorem reads (os:Os) {H:Type} (enc:TypeId × Value→H):∃ places,DataW.whole enc Tryz.prog (({ World.holding Tryz.prog os ⟨#[],#[],[]⟩ with heap:=laidHeap (World.holding Tryz.prog os ⟨#[],#[],[]⟩).heap }:World).forCall (fun _ _=>0) ⟨#[],#[.string ByteArray.empty],[]⟩).memory Tryz.f3.params.toList Rows.layLaysSpec.vars false #[Value.string ByteArray.empty].toList 8=some ([.lit (.string [])],[],places) :=
 ⟨[],by kernel_rfl⟩
set_option maxRecDepth 100000 in
theorem lifted (os:Os) (started:os.Started) (H:Type) (enc:TypeId × Value→H) (F:Stop.Interp) :
  ReturnsInHanded {} Tryz.checked os 3 .any ((Rows.OpenSpec.upto Rows.layLaysSpec).preRow enc Tryz.prog Tryz.f3 Rows.layLaysUptoRow.domain false Rows.layLaysUptoRow.laid) (((Rows.OpenSpec.upto Rows.layLaysSpec).at F).post enc Tryz.prog Tryz.f3 false true false false):=by
 obtain ⟨places,hx⟩:=reads os enc
 refine returnsInHanded_of_row (C:=Tryz.checked) (s:=Rows.OpenSpec.upto Rows.layLaysSpec) own started (by kernel_rfl) Tryz.func3
  (witness_row_at (enc:=enc) (C:=Tryz.checked) false ({ World.holding Tryz.prog os ⟨#[],#[],[]⟩ with heap:=laidHeap (World.holding Tryz.prog os ⟨#[],#[],[]⟩).heap }:World) #[.string ByteArray.empty] rfl (by kernel_rfl) (by kernel_rfl) (by kernel_rfl)
   (OpenSpec.preRow_of_cond 8 hx (by kernel_rfl) (fun k hk=>by cases hk;kernel_rfl) (by kernel_rfl) (laid_met os))) ?_
 intro W base args ds gs before hval hW HC1 HC2 _ hL _ _
 exact contract H enc W base args ds gs before hval hW (HC2 _ rfl) hL
theorem said:Rows.LayLaysUptoSaid :=
 OpenClaim.holds_of_cond 3 Tryz.f3 rfl rfl rfl rfl rfl rfl rfl ⟨rfl,rfl,rfl,rfl,rfl⟩ rfl rfl rfl rfl rfl (by kernel_rfl) Tryz.func3 (by kernel_rfl)
  (of_decide_eq_true (by kernel_rfl)) (by unfold Func.isWrapper;first|(rw [if_pos (by decide +kernel)];kernel_rfl)|(rw [if_neg (by decide +kernel)];exact ⟨rfl,rfl⟩))
  (fun os started H enc _ F=>by rw [OpenClaim.pre_eq_preRow];exact lifted os started H enc F)
theorem plain (f : FuncId) (fn : Func) (hf : Tryz.pinned.checked.prog.funcNamed "amanuensis/amanuensislaw6.LayLays" = some f) (hfn : Tryz.pinned.checked.prog.funcs[f]? = some fn) :
  true=Tryz.pinned.checked.prog.looks []∧∀ (j:Nat) t,fn.params[j]?=some t→Tryz.pinned.checked.prog.wantsStandIn t=false:=by
 obtain rfl : f = 3 := Option.some.inj ((show Tryz.prog.funcNamed "amanuensis/amanuensislaw6.LayLays" = some 3 by kernel_rfl).symm.trans hf) |>.symm
 obtain rfl:fn=Tryz.f3:=(Option.some.inj (Tryz.func3.symm.trans hfn)).symm
 refine ⟨by kernel_rfl,fun j t ht=>?_⟩
 rw [Tryz.params3] at ht
 have k9:Tryz.prog.wantsStandIn 9=false:=by kernel_rfl
 have hm:t=9:=by simpa using Array.mem_of_getElem? ht
 subst hm
 exact k9
theorem card:Rows.LayLaysUptoCardSaid :=
 Claim7.holds_tied_plain_at .later [] _ _ _ _ said (fun _ h=>by cases h) (by kernel_rfl) (fun _ h=>by cases h) layLaysUpto_row_tie rfl ⟨rfl,rfl⟩ (by kernel_rfl) rfl plain (by kernel_rfl)
end Go.Proofs.YtgpcpbmacdhlkaaGreatDoor.layLays
namespace Go.Proofs.YtgpcpbmacdhlkaaGreatDoor
theorem layLays_card:Rows.LayLaysUptoCardSaid:=layLays.card
end Go.Proofs.YtgpcpbmacdhlkaaGreatDoor
