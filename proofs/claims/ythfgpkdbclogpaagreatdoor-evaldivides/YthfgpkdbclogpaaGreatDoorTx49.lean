/- 49. -/
import Derived.Test.YthfgpkdbclogpaaGreatDoorTie
import Derived.Test.YthfgpkdbclogpaaGreatDoorCards
import Derived.ProofKit
import Derived.OpenShut
import Derived.ShutString
import Derived.ChangeOld
import Derived.Below
import Derived.Lay
import Derived.HandedShaped
import Derived.SevenTiedAt
import Derived.Stop.Joined
import Derived.Shelf.Vars
import Derived.Stop.LaidErr
import Derived.Deep.DeepHandedRow
import Derived.Lib.LaidTab
import Derived.Test.YthfgpkdbclogpaaGreatDoorTx48
set_option maxHeartbeats 40000000
set_option maxRecDepth 100000
namespace Go.Proofs.YthfgpkdbclogpaaGreatDoor
open Go.ChangeShapes Go.WideShapes Go.ChangeAt Go.RowKit Go.Shelf
def Meets {H:Type}(enc:TypeId×Value→H)(f:FuncId)(fn:Func)(s:ChangeSpec)(laid:List (String×DataW Unit)):Prop:=
 ∀ (W:World) (base:Nat) (args:Array Value) (ds gs:List (DataW H)) (before:List MemPlace),
  (∀ (j:Nat) t v,fn.params[j]? =some t→args[j]? =some v→Value.okWide Tryz.prog W .any base t v)→
  DataW.Whole enc Tryz.prog fn.params.toList s.vars false W args.toList ds gs before→
  (DataW.weightsEach Tryz.prog (fn.params.toList++s.plain.varTypes Tryz.prog) (ds++gs)).all (·≤reachBytes)=true→
  laidMetH Tryz.prog laid W→W.ShapedOpen Tryz.prog→
  Calls Tryz.prog f args W fun e W'=>∃ v,e= .returned v∧s.post enc Tryz.prog fn false true false false W args v W'
theorem returns_laid {H:Type}{enc:TypeId×Value→H}{os:Os}{f:FuncId}{fn:Func}{s:ChangeSpec}{conds:List PathCond}{laid:List (String×DataW Unit)}
  (own:ownKnob Tryz.prog.godebug=none) (started:os.Started) (noInit:Tryz.checked.prog.inits.idxOf? f=none) (hfn:Tryz.checked.prog.funcs[f]? =some fn)
  (start:∃ (w:World) (tape:Tape) (i:Input),w.os=os∧(w.forCall tape i).Shaped Tryz.checked.prog∧i.vars=[]∧Input.okWide Tryz.checked.prog (w.forCall tape i) .any w.heap.size f i∧
   ((s.pre enc Tryz.checked.prog fn conds false (w.forCall tape i).memory i.args∧laidMetH Tryz.prog laid (w.forCall tape i).memory)∧sizedMet enc Tryz.checked.prog fn (OpenSpec.ofChange s) false (w.forCall tape i).memory i.args)∧Assume.holds {} Tryz.checked.prog (lone (Frame.enter Tryz.checked.prog f i.args .normal) [] (w.forCall tape i)))
  (meets:Meets enc f fn s laid):
  ReturnsInHanded {} Tryz.checked os f .any (fun w args=>(s.pre enc Tryz.prog fn conds false w args∧laidMetH Tryz.prog laid w)∧sizedMet enc Tryz.prog fn (OpenSpec.ofChange s) false w args) (s.post enc Tryz.prog fn false true false false):=by
 refine returnsInHanded_of_calls own started noInit start fun w tape i _ shape _ wide met _=>?_
 obtain⟨_,_,_,fn',h,_,_,_,_,vals⟩:=wide
 cases Option.some.inj (h.symm.trans hfn)
 obtain⟨⟨⟨ds,gs,before,whole,_⟩,lies⟩,sized⟩:=met
 refine(meets (w.forCall tape i) w.heap.size i.args ds gs before vals (DataW.Whole.of_heap (w':=w.forCall tape i) (by rfl) whole) (sized.weights whole) (laidMetH.of_heap (by rfl) lies) shape).mono ?_
 rintro e W' ⟨v,rfl,post⟩
 exact ChangeSpec.post_blind post
theorem max_of_shaped {W:World}(h:W.ShapedOpen Tryz.prog):MaxIs W:=
 cell_of_shapedOpen_int (t:=3) (zero:=#[.int .i64 0]) h (by decide +kernel) (by kernel_rfl) rfl (by kernel_rfl) (by kernel_rfl) Tryz.underlying3
theorem own:ownKnob Tryz.prog.godebug=none:=by kernel_rfl
theorem starE: "*" ++ "errors.errorString" = "*errors.errorString" :=by decide +kernel
theorem rowE (u:TypeId)(h:Tryz.prog.typeName? 3 u=some "*errors.errorString"):u=313:=
 typeName_ptr_named (nm:= "errors.errorString") (by rw[starE];kernel_rfl) (by kernel_rfl) (by decide) u (by rw[starE];exact h)
theorem tab_laid {W:World}{rest:List (String×DataW Unit)}{ps:List MemPlace}(h:DataW.LaidVars Tryz.prog W (("internal/strconv.uint64pow10",Rows.laid_internal_strconv_uint64pow10)::rest) ps):Lib.TabIs Tryz.prog W "internal/strconv.uint64pow10" .u64 Lib.pow10Tab:=by
 rw[show Rows.laid_internal_strconv_uint64pow10=Lib.tabData .u64 Lib.pow10Tab by kernel_rfl]at h
 obtain⟨g,t,cs,fuel,p,q,hg,ht,hvar,hd,_,_⟩:=h
 have hg0:Tryz.prog.globalNamed "internal/strconv.uint64pow10" =some 1:=by kernel_rfl
 obtain rfl:=Option.some.inj (hg0.symm.trans hg)
 have ht0:(Tryz.prog.globals[1]?).map (·.type)=some 281:=by kernel_rfl
 obtain rfl:=Option.some.inj (ht0.symm.trans ht)
 unfold Lib.TabIs
 rw[hvar,←Lib.cells_of_tab Tryz.underlying281 Tryz.underlying208 (by kernel_rfl) (by kernel_rfl) hd]
theorem int_wf {n:Int}(h:(Lit.int .i64 n).wf=true):-9223372036854775808≤n∧n≤9223372036854775807:=by simpa[Lit.wf,IntKind.min,IntKind.max,IntKind.signed,IntKind.bits]using h
theorem err_evalDivides {W:World}(h:laidMetH Tryz.prog Rows.evalDividesRow.laid W):ErrR W:=by
 rw[MakeChecks.laidMetH_plain _ _ _ (by kernel_rfl)]at h
 have h3:laidMet Tryz.prog (Rows.evalDividesRow.laid.drop 4) W:=h.tail.tail.tail.tail
 obtain⟨a,s,hv,_⟩:=laid_sentinel (P:=Tryz.prog) (n:= "strconv.ErrRange") (nm:= "*errors.errorString") (g:=7) (ti:=182) (tp:=313) (te:=315) (ts:=9) h3 (by kernel_rfl) (by kernel_rfl) Tryz.underlying182 rowE Tryz.underlying313 Tryz.underlying315 rfl rfl Tryz.underlying9 (by kernel_rfl) (by kernel_rfl)
 exact⟨_,World.var?_cell (by kernel_rfl) hv 0,.inr ⟨_,_,rfl⟩⟩
theorem tab_evalDivides {W:World}(h:laidMetH Tryz.prog Rows.evalDividesRow.laid W):TabE W:=by
 rw[MakeChecks.laidMetH_plain _ _ _ (by kernel_rfl)]at h
 have h3:laidMet Tryz.prog (Rows.evalDividesRow.laid.drop 2) W:=h.tail.tail
 obtain⟨ps,hv,_,_⟩:=h3
 exact tab_laid hv
theorem div_lifted (os:Os)(started:os.Started)(H:Type)(enc:TypeId×Value→H):
  ReturnsInHanded {} Tryz.checked os 3 .any (fun w args=>(Rows.evalDividesSpec.pre enc Tryz.prog Tryz.f3 Rows.evalDividesRow.domain false w args∧laidMetH Tryz.prog Rows.evalDividesRow.laid w)∧sizedMet enc Tryz.prog Tryz.f3 (OpenSpec.ofChange Rows.evalDividesSpec) false w args)
   (Rows.evalDividesSpec.post enc Tryz.prog Tryz.f3 false true false false):=by
 refine returns_laid own started (by kernel_rfl) Tryz.func3
  (ChangeSpec.witness_shaped (enc:=enc) (C:=Tryz.checked) (os:=os) (X:=fun w _=>laidMetH Tryz.prog Rows.evalDividesRow.laid w) false (World.laidAll Tryz.prog os Rows.evalDividesRow.laid) #[.int .i64 0,.int .i64 0] 8 (World.laidAll_os _ _ _)
   (World.shaped_of_ZipB (by kernel_rfl) (by kernel_rfl)) (by kernel_rfl) (by kernel_rfl) (by kernel_rfl)
   (by rw[MakeChecks.laidMetH_plain _ _ _ (by kernel_rfl)];exact laidMet_laidAll _ (by kernel_rfl) (by kernel_rfl))) ?_
 intro W base args ds gs before hval0 hW _ lies shape
 have hval:∀ (j:Nat) t v,Tryz.f3.params[j]? =some t→args[j]? =some v→Value.okWide Tryz.prog W .any base t v:=hval0
 have hW':=hW
 obtain⟨p,q,hA0,hV,rfl,hfz,hnd⟩:=hW
 have hA:DataW.TrodAll enc Tryz.prog W 0 (fun _=>true) true Tryz.f3.params.toList args.toList ds p:=hA0
 rw[Tryz.params3]at hA hval
 obtain⟨v0,v1,d0,d1,p0,p1,rfl,rfl,rfl,h0,h1⟩:=trodAll_two hA
 obtain⟨rfl,rfl⟩:=trodVars_none hV
 obtain⟨a0,rfl,rfl,rfl,w0⟩:=open_int Tryz.underlying3 (hval 0 3 v0 rfl rfl) h0
 obtain⟨a1,rfl,rfl,rfl,w1⟩:=open_int Tryz.underlying3 (hval 1 3 v1 rfl rfl) h1
 have r0:=int_wf w0
 have r1:=int_wf w1
 clear hA0 hval0
 refine(div_walk a0 a1 W r0.1 r0.2 r1.1 r1.2 (err_evalDivides lies) (tab_evalDivides lies) (max_of_shaped shape)).mono fun e W' ⟨he,bel⟩=>?_
 subst he
 exact⟨_,rfl,_,_,_,[],_,[],hW',trodAll_mk1 (shut_bool Tryz.underlying4 _),trodAll_mk2 (shut_int Tryz.underlying3 w0) (shut_int Tryz.underlying3 w1),rfl,bel.frame _,fun h=>by cases h⟩
end Go.Proofs.YthfgpkdbclogpaaGreatDoor
