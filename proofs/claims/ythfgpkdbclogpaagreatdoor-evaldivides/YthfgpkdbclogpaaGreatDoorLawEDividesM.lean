/- EvalDivides holds, its seven listed variables tied to the program's text: whatever two ints it is handed, the law returns true: what is divided is so many times the other one, and the rest, which is between 0 and that; by 0 it is an error. -/
import Derived.Test.YthfgpkdbclogpaaGreatDoorTx49
import Derived.Test.YthfgpkdbclogpaaGreatDoorTx50
set_option maxHeartbeats 40000000
set_option maxRecDepth 100000
namespace Go.Proofs.YthfgpkdbclogpaaGreatDoor
open Go.ChangeShapes Go.WideShapes Go.ChangeAt Go.RowKit Go.Shelf
theorem evalDivides_row:Rows.EvalDividesSaid:=
 OpenClaim.holds_of_wide 3 Tryz.f3 rfl rfl rfl rfl rfl rfl rfl ⟨rfl,rfl,rfl,rfl,rfl⟩ rfl rfl rfl rfl rfl (by kernel_rfl) Tryz.func3 div_closed
  (of_decide_eq_true (by kernel_rfl)) (by unfold Func.isWrapper;first|(rw[if_pos (by decide +kernel)];kernel_rfl)|(rw[if_neg (by decide +kernel)];exact⟨rfl,rfl⟩))
  (fun os started H enc _=>div_lifted os started H enc)
theorem evalDivides_holds:Rows.EvalDividesCardSaid:=
 Claim7.holds_tied_plain_at .later [] Rows.evalDividesCard.laidKinds true Rows.evalDividesCard.stood.harness true
  evalDivides_row (fun _ h=>by cases h) (by kernel_rfl) (fun _ h=>by cases h) evalDivides_row_tie rfl ⟨rfl,rfl⟩ (by kernel_rfl) rfl
  (fun f fn hf hfn=>by
   obtain rfl:f=3:=Option.some.inj ((show Tryz.prog.funcNamed Rows.evalDividesRow.func=some 3 by kernel_rfl).symm.trans hf) |>.symm
   obtain rfl:fn=Tryz.f3:=(Option.some.inj (Tryz.func3.symm.trans hfn)).symm
   exact⟨by kernel_rfl,fun j t ht=>by
    rw[Tryz.params3]at ht
    have hm:t∈[3]:=by simpa using Array.mem_of_getElem? ht
    have hall:([3].all fun u=>!Tryz.prog.wantsStandIn u)=true:=by kernel_rfl
    exact(show Tryz.prog.wantsStandIn t=false by simpa using List.all_eq_true.1 hall t hm)⟩)
  (by kernel_rfl)
#print axioms evalDivides_holds
end Go.Proofs.YthfgpkdbclogpaaGreatDoor
