/- The law ValueFuel,at every input,is true,and leaves its arguments as they were: the card of the first form. -/
import Derived.Test.YtdkpkpgpphkljaaGreatDoorCards
import Derived.Test.YtdkpkpgpphkljaaGreatDoorTie
import Derived.Test.YtdkpkpgpphkljaaGreatDoorJza
import Derived.Test.YtdkpkpgpphkljaaGreatDoorMxh
import Derived.ShutString
import Derived.Deep.DeepHandedRow
import Derived.Lib.LaidU8T
import Derived.PinnedBridge
import Derived.Stop.LaidErr
namespace Go.Proofs.YtdkpkpgpphkljaaGreatDoor.valueFuel
set_option maxRecDepth 100000
open Go.ChangeShapes Go.WideShapes Go.ChangeAt Go.RowKit
open Go.ChangeMaps (open_string shut_string)
theorem own:ownKnob Tryz.prog.godebug=none:=by kernel_rfl
theorem laidOut:laidOutB Tryz.prog=true:=by kernel_rfl
theorem Nc:Tryz.prog.readableRec 22=true:=by kernel_rfl
theorem bD5:22<Tryz.prog.types.size:=by rw[show Tryz.prog.types.size=417 by kernel_rfl];decide
theorem types:U8Types Tryz.prog tu:={ t5:=vR.t5,t119:=vR.t119,t138:=vR.t138,t139:=vR.t139 }
theorem extra:U8Extra Tryz.prog tu:={ n3:=by kernel_rfl,n4:=by kernel_rfl,y3:=by kernel_rfl,y4:=by kernel_rfl,c5:=by kernel_rfl,c119:=by kernel_rfl,c138:=by kernel_rfl }
theorem Nf:(Rows.laid_unicode_utf8_acceptRanges:DataW Unit)=Lib.acceptData:=by kernel_rfl
theorem Q_:Rows.laid_unicode_utf8_first=Lib.firstData:=by
 unfold Rows.laid_unicode_utf8_first;exact Pinned.utf8First_eq
def Ld (W : World) : Prop := laidMet Tryz.prog [("math/bits.deBruijn32tab", Rows.laid_math_bits_deBruijn32tab), ("math/bits.deBruijn64tab", Rows.laid_math_bits_deBruijn64tab), ("internal/strconv.uint64pow10", Rows.laid_internal_strconv_uint64pow10), ("unicode/utf8.acceptRanges", Rows.laid_unicode_utf8_acceptRanges), ("strconv.ErrRange", Rows.laid_strconv_ErrRange), ("strconv.ErrSyntax", Rows.laid_strconv_ErrSyntax), ("unicode/utf8.first", Rows.laid_unicode_utf8_first)] W
theorem tabs{W:World}(h:Ld W):kP W:=by
 have h1 : Lib.VarReads Tryz.prog W "unicode/utf8.first" Lib.firstData := by
  have := Lib.laidMet.reads h (n := "unicode/utf8.first") (d := Rows.laid_unicode_utf8_first) (by simp)
  rwa[Q_] at this
 have h2 : Lib.VarReads Tryz.prog W "unicode/utf8.acceptRanges" Lib.acceptData := by
  have := Lib.laidMet.reads h (n := "unicode/utf8.acceptRanges") (d := Rows.laid_unicode_utf8_acceptRanges) (by simp)
  rwa[Nf] at this
 have h3:Lib.Utf8Tabs 2 3 W:=utf8Tabs_of_readsT types extra h1 h2;refine⟨h3,?_⟩;have h4:=(h3.2 0 (by omega)).1;by_cases hz:3<W.heap.size
 ·omega
 ·exfalso
  simp[World.cell?,qW (by omega:W.heap.size≤3)] at h4
def t64:List Int:=[0,1,56,2,57,49,28,3,61,58,42,50,38,29,17,4,62,47,59,36,45,43,51,22,53,39,33,30,24,18,12,5,63,55,48,27,60,41,37,16,46,35,44,21,52,32,23,11,54,26,40,15,34,20,31,10,25,14,19,9,13,8,7,6]
def t32:List Int:=[0,1,28,2,29,14,24,3,30,22,20,15,25,17,4,8,31,27,13,23,21,19,16,7,26,12,18,6,11,5,10,9]
theorem Zc:(Rows.laid_math_bits_deBruijn64tab:DataW Unit)=Lib.tabData .u8 t64:=by kernel_rfl
theorem tz{W:World}(h:Ld W):Tz W:=by
 have h1 := Lib.laidMet.reads h (n := "math/bits.deBruijn64tab") (d := Rows.laid_math_bits_deBruijn64tab) (by simp)
 rw[Zc] at h1;obtain⟨g,t,cs,fuel,p,hg,ht,hvar,hd⟩:=h1;have hg6 : Tryz.prog.globalNamed "math/bits.deBruijn64tab" = some 7 := by kernel_rfl
 obtain rfl:=bK (hg6.symm.trans hg);obtain rfl:=bK ((show(Tryz.prog.globals[7]?).map (·.type)=some 373 by kernel_rfl).symm.trans ht);have hcs:=Lib.cells_of_tab Tryz.underlying373 Tryz.underlying5 (by kernel_rfl) (by kernel_rfl) hd;have hT : Lib.TabIs Tryz.prog W "math/bits.deBruijn64tab" .u8 t64 := by unfold Lib.TabIs; rw [hvar, ← hcs]
 exact hT.cell hg6 15 (by decide)
theorem pow_eq:(Rows.laid_internal_strconv_uint64pow10:DataW Unit)=Lib.tabData .u64 Lib.pow10Tab:=by kernel_rfl
theorem tb{W:World}(h:Ld W):Tb W:=by
 have h1 := Lib.laidMet.reads h (n := "internal/strconv.uint64pow10") (d := Rows.laid_internal_strconv_uint64pow10) (by simp)
 rw[pow_eq] at h1;obtain⟨g,t,cs,fuel,p,hg,ht,hvar,hd⟩:=h1;obtain rfl := bK ((show Tryz.prog.globalNamed "internal/strconv.uint64pow10" = some 0 by kernel_rfl).symm.trans hg)
 obtain rfl:=bK ((show(Tryz.prog.globals[0]?).map (·.type)=some 335 by kernel_rfl).symm.trans ht);unfold Tb Lib.TabIs;rw[hvar,← Lib.cells_of_tab Tryz.underlying335 Tryz.underlying308 (by kernel_rfl) (by kernel_rfl) hd]
theorem star : "*" ++ "errors.errorString" = "*errors.errorString" := by decide
theorem Xb (u : TypeId) (h : Tryz.prog.typeName? 3 u = some "*errors.errorString") : u = 375 :=
 typeName_ptr_named (nm := "errors.errorString") (by rw [star]; kernel_rfl) (by kernel_rfl) (by decide) u (by rw [star]; exact h)
theorem es{W:World}(h:Ld W):Ev W 4:=by
 have h1:=h.tail.tail.tail.tail.tail;obtain⟨a,s,hv,-⟩:=laid_sentinel (g:=4) (ti:=25) (tp:=375) (te:=377) (ts:=9) h1 (by kernel_rfl) (by kernel_rfl) Tryz.underlying25 Xb Tryz.underlying375 Tryz.underlying377 rfl rfl Tryz.underlying9 (by kernel_rfl) (by kernel_rfl);exact ⟨_, by simpa using World.var?_cell (show Tryz.prog.globalNamed "strconv.ErrSyntax" = some 4 by kernel_rfl) hv 0, .inr ⟨_, _, rfl⟩⟩
theorem er{W:World}(h:Ld W):Ev W 5:=by
 have h1:=h.tail.tail.tail.tail;obtain⟨a,s,hv,-⟩:=laid_sentinel (g:=5) (ti:=25) (tp:=375) (te:=377) (ts:=9) h1 (by kernel_rfl) (by kernel_rfl) Tryz.underlying25 Xb Tryz.underlying375 Tryz.underlying377 rfl rfl Tryz.underlying9 (by kernel_rfl) (by kernel_rfl);exact ⟨_, by simpa using World.var?_cell (show Tryz.prog.globalNamed "strconv.ErrRange" = some 5 by kernel_rfl) hv 0, .inr ⟨_, _, rfl⟩⟩
theorem contract(H:Type)(enc:TypeId × Value→H)(W:World)(base:Nat)(args:Array Value)(ds gs:List (DataW H))(before:List MemPlace)
  (hval:∀(j:Nat) t v,Tryz.f3.params[j]?=some t→args[j]?=some v→Value.okWide Tryz.prog W .any base t v)
  (hW:DataW.Whole enc Tryz.prog Tryz.f3.params.toList Rows.valueFuelSpec.vars false W args.toList ds gs before) (hL:laidMetH Tryz.prog Rows.valueFuelRow.laid W) :
  Calls Tryz.prog 3 args W fun e W'=>∃ v,e=.returned v∧Rows.valueFuelSpec.post enc Tryz.prog Tryz.f3 false true false false W args v W':=by
 have hW':=hW;obtain⟨p,q,hA0,hV,rfl,hfz,hnd⟩:=hW;have hA:DataW.TrodAll enc Tryz.prog W 0 (fun _=>true) true Tryz.f3.params.toList args.toList ds p:=hA0;rw[Tryz.params3] at hA hval;obtain⟨v0,Ra,d0,ds0,p0,q0,hargs,rfl,rfl,h0,r0⟩:=trodAll_cons hA;obtain⟨v1,vs1,d1,ds1,p1,q1,rfl,rfl,rfl,h1,r1⟩:=trodAll_cons r0;obtain⟨v2,vs2,d2,ds2,p2,q2,rfl,rfl,rfl,h2,r2⟩:=trodAll_cons r1;obtain⟨v3,vs3,d3,ds3,p3,q3,rfl,rfl,rfl,h3,r3⟩:=trodAll_cons r2;obtain⟨v4,vs4,d4,ds4,p4,q4,rfl,rfl,rfl,h4,r4⟩:=trodAll_cons r3;obtain⟨rfl,rfl,rfl⟩:=trodAll_nil r4;obtain rfl:args=#[v0,v1,v2,v3,v4]:=by cases args;simp_all
 obtain⟨rfl,rfl⟩:=trodVars_none hV;obtain⟨aa,ln,cp,hsl⟩:=Go.WideShapes.okWide_slice Tryz.underlying22 (hval 0 22 v0 rfl rfl);obtain⟨ao,cap,l,rfl,z1,z2,z3⟩:=IQ (by rw[hsl];rfl) h0;obtain⟨a1,rfl,rfl,rfl,w1⟩:=open_int Tryz.underlying3 (hval 1 3 v1 rfl rfl) h1;obtain⟨a2,rfl,rfl,rfl,w2⟩:=open_string Tryz.underlying9 (hval 2 9 v2 rfl rfl) h2;obtain⟨a3,rfl,rfl,rfl,w3⟩:=open_int Tryz.underlying3 (hval 3 3 v3 rfl rfl) h3;obtain⟨a4,rfl,rfl,rfl,w4⟩:=open_int Tryz.underlying3 (hval 4 3 v4 rfl rfl) h4;clear hA0 hsl;simp only[aJ] at hW';have hG:Gm W:=⟨⟨tabs hL,tz hL,tb hL⟩,es hL,er hL⟩;have bD6:∀ x∈p0,x.block<W.heap.size:=by obtain⟨fu,hfu⟩:=h0;exact DataW.trod_lt fu _ _ _ hfu
 have hC:=QV ao cap l (bs a2) a1 a3 a4 W hG z3 z1 z2;rw[Fp] at hC;refine hC.mono fun e W' ⟨he,hg⟩=>?_
 subst he;exact⟨_,rfl,_,_,_,[],_,[],hW',(trodAll_cons_mk (shut_bool Tryz.underlying4 _) trodAll_mk0),(trodAll_cons_mk (Below.trod laidOut Nc bD5 h0 hg bD6) (trodAll_cons_mk (shut_int Tryz.underlying3 w1) (trodAll_cons_mk (shut_string Tryz.underlying9 w2) (trodAll_cons_mk (shut_int Tryz.underlying3 w3) (trodAll_cons_mk (shut_int Tryz.underlying3 w4) trodAll_mk0))))),rfl,hg.frame _,fun h=>by cases h⟩
def Ai(h:Array Obj):Array Obj :=
 ((((((h.modify 2 fun|.cells _ t fz=>.cells ((List.range 256).map fun c=>Value.int .u8 (Lib.firstT c)).toArray t fz|o=>o).modify 3
  fun|.cells _ t fz=>.cells ((List.range 32).map fun c=>Value.int .u8 (if c % 2=0 then Lib.accLo (c / 2) else Lib.accHi (c / 2))).toArray t fz|o=>o).modify 6
  fun|.cells _ t fz=>.cells (t32.map fun z=>Value.int .u8 z).toArray t fz|o=>o).modify 7
  fun|.cells _ t fz=>.cells (t64.map fun z=>Value.int .u8 z).toArray t fz|o=>o).modify 0
  fun|.cells _ t fz=>.cells (Lib.pow10Tab.map fun z=>Value.int .u64 z).toArray t fz|o=>o).modify 5
  fun|.cells _ t fz=>.cells #[.iface 375 (.pointer (some ⟨8+5,0,none⟩))] t fz|o=>o).modify 4
  fun|.cells _ t fz=>.cells #[.iface 375 (.pointer (some ⟨8+6,0,none⟩))] t fz|o=>o
theorem Rb(os:Os):laidMetH Tryz.prog Rows.valueFuelRow.laid (({ World.holding Tryz.prog os ⟨#[.cells #[.string ⟨#[118,97,108,117,101,32,111,117,116,32,111,102,32,114,97,110,103,101]⟩] 377,.cells #[.string ⟨#[105,110,118,97,108,105,100,32,115,121,110,116,97,120]⟩] 377],#[],[]⟩ with heap:=Ai (World.holding Tryz.prog os ⟨#[.cells #[.string ⟨#[118,97,108,117,101,32,111,117,116,32,111,102,32,114,97,110,103,101]⟩] 377,.cells #[.string ⟨#[105,110,118,97,108,105,100,32,115,121,110,116,97,120]⟩] 377],#[],[]⟩).heap }:World).forCall (fun _ _=>0) ⟨#[],#[.slice none 0 0,.int .i64 0,.string ⟨#[]⟩,.int .i64 0,.int .i64 0],[]⟩).memory :=
 laidMet_of_run' 32 (by kernel_rfl) (by kernel_rfl)
theorem reads(os:Os){H:Type}(enc:TypeId × Value→H):∃ places,DataW.whole enc Tryz.prog (({ World.holding Tryz.prog os ⟨#[.cells #[.string ⟨#[118,97,108,117,101,32,111,117,116,32,111,102,32,114,97,110,103,101]⟩] 377,.cells #[.string ⟨#[105,110,118,97,108,105,100,32,115,121,110,116,97,120]⟩] 377],#[],[]⟩ with heap:=Ai (World.holding Tryz.prog os ⟨#[.cells #[.string ⟨#[118,97,108,117,101,32,111,117,116,32,111,102,32,114,97,110,103,101]⟩] 377,.cells #[.string ⟨#[105,110,118,97,108,105,100,32,115,121,110,116,97,120]⟩] 377],#[],[]⟩).heap }:World).forCall (fun _ _=>0) ⟨#[],#[.slice none 0 0,.int .i64 0,.string ⟨#[]⟩,.int .i64 0,.int .i64 0],[]⟩).memory Tryz.f3.params.toList Rows.valueFuelSpec.vars false (#[.slice none 0 0,.int .i64 0,.string ⟨#[]⟩,.int .i64 0,.int .i64 0]:Array Value).toList 8=some ([.nil,.lit (.int .i64 0),.lit (.string []),.lit (.int .i64 0),.lit (.int .i64 0)],[],places) :=
 ⟨[],by kernel_rfl⟩
theorem lifted(os:Os)(started:os.Started)(H:Type)(enc:TypeId × Value→H)(F:Stop.Interp) :
  ReturnsInHanded {} Tryz.checked os 3 .any ((OpenSpec.ofChange Rows.valueFuelSpec).preRow enc Tryz.prog Tryz.f3 Rows.valueFuelRow.domain false Rows.valueFuelRow.laid) (((OpenSpec.ofChange Rows.valueFuelSpec).at F).post enc Tryz.prog Tryz.f3 false true false false):=by
 obtain⟨places,hx⟩:=reads os enc;refine returnsInHanded_of_row (C:=Tryz.checked) (s:=OpenSpec.ofChange Rows.valueFuelSpec) own started (by kernel_rfl) Tryz.func3
  (witness_row_at (enc:=enc) (C:=Tryz.checked) false ({ World.holding Tryz.prog os ⟨#[.cells #[.string ⟨#[118,97,108,117,101,32,111,117,116,32,111,102,32,114,97,110,103,101]⟩] 377,.cells #[.string ⟨#[105,110,118,97,108,105,100,32,115,121,110,116,97,120]⟩] 377],#[],[]⟩ with heap:=Ai (World.holding Tryz.prog os ⟨#[.cells #[.string ⟨#[118,97,108,117,101,32,111,117,116,32,111,102,32,114,97,110,103,101]⟩] 377,.cells #[.string ⟨#[105,110,118,97,108,105,100,32,115,121,110,116,97,120]⟩] 377],#[],[]⟩).heap }:World) #[.slice none 0 0,.int .i64 0,.string ⟨#[]⟩,.int .i64 0,.int .i64 0] rfl (by kernel_rfl) (by kernel_rfl) (by kernel_rfl)
   (OpenSpec.preRow_of_cond 8 hx (by kernel_rfl) (fun k hk=>by cases hk) (by kernel_rfl) (Rb os))) ?_
 intro W base args ds gs before hval hW _ _ _ hL _ _;exact contract H enc W base args ds gs before hval hW hL
theorem said:Rows.ValueFuelSaid :=
 OpenClaim.holds_of_cond 3 Tryz.f3 rfl rfl rfl rfl rfl rfl rfl ⟨rfl,rfl,rfl,rfl,rfl⟩ rfl rfl rfl rfl rfl (by kernel_rfl) Tryz.func3 (by kernel_rfl)
  (of_decide_eq_true (by kernel_rfl)) (by unfold Func.isWrapper;first|(rw[aL (by decide +kernel)];kernel_rfl)|(rw[aG (by decide +kernel)];exact⟨rfl,rfl⟩))
  (fun os started H enc _ F=>by rw[OpenClaim.pre_eq_preRow];exact lifted os started H enc F)
theorem plain (f : FuncId) (fn : Func) (hf : Tryz.pinned.checked.prog.funcNamed "amanuensis/amanuensislaw3.ValueFuel" = some f) (hfn : Tryz.pinned.checked.prog.funcs[f]? = some fn) :
  true=Tryz.pinned.checked.prog.looks []∧∀(j:Nat) t,fn.params[j]?=some t→Tryz.pinned.checked.prog.wantsStandIn t=false:=by
 obtain rfl : f = 3 := bK ((show Tryz.prog.funcNamed "amanuensis/amanuensislaw3.ValueFuel" = some 3 by kernel_rfl).symm.trans hf) |>.symm
 obtain rfl:fn=Tryz.f3:=(bK (Tryz.func3.symm.trans hfn)).symm;refine⟨by kernel_rfl,fun j t ht=>?_⟩;rw[Tryz.params3] at ht;have kF:Tryz.prog.wantsStandIn 22=false:=by kernel_rfl
 have kI:Tryz.prog.wantsStandIn 3=false:=by kernel_rfl
 have kS:Tryz.prog.wantsStandIn 9=false:=by kernel_rfl
 have hm:t=22∨t=3∨t=9:=by
  have:=Array.mem_of_getElem? ht;simp at this;rcases this with h|h|h|h
  ·exact .inl h
  ·exact .inr (.inl h)
  ·exact .inr (.inr h)
  ·exact .inr (.inl h)
 rcases hm with rfl|rfl|rfl
 ·exact kF
 ·exact kI
 ·exact kS
theorem card:Rows.ValueFuelCardSaid :=
 Claim7.holds_tied_plain_at .later [] _ _ _ _ said (fun _ h=>by cases h) (by kernel_rfl) (fun _ h=>by cases h) valueFuel_row_tie rfl ⟨rfl,rfl⟩ (by kernel_rfl) rfl plain (by kernel_rfl)
end Go.Proofs.YtdkpkpgpphkljaaGreatDoor.valueFuel
namespace Go.Proofs.YtdkpkpgpphkljaaGreatDoor
theorem valueFuel_card:Rows.ValueFuelCardSaid:=valueFuel.card
end Go.Proofs.YtdkpkpgpphkljaaGreatDoor
