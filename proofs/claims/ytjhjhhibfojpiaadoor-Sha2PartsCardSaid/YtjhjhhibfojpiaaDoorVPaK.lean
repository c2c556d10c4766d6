/- The reference's Sum of a kind that there is not: its contract. Own work. -/
import Derived.Test.YtjhjhhibfojpiaaDoorVShaH
import Derived.Test.YtjhjhhibfojpiaaDoorVShaF
import Derived.Test.YtjhjhhibfojpiaaDoorVShaM
set_option linter.unusedSimpArgs false
set_option linter.unusedVariables false
set_option linter.unusedSectionVars false
namespace Go.Proofs.YtjhjhhibfojpiaaDoor
variable [Go.Ev.RowTab]
open Go.Ev Go.Sh
set_option maxRecDepth 100000
def refO : List V → E (AV × Mem)
  | [.pl (.int true .i64 k), _] => some ([!decide (k = 256), !decide (k = 384), !decide (k = 512)], (.nilslice, []))
  | _ => none
def andM (a b : Bool) : Bool := match a with | true => b | false => false
def refOd (a b c : Bool) : List Bool := [!a || a, !a || a, !andM a b || andM a b, !andM a b || andM a b, andM (andM a b) c]
theorem refO_eval (k : Int) (x : V) : ((funcL Tryd.prog qS hR3 (fun _ _ => none) 200 14 (cArgs 0 [.pl (.int true .i64 k), x]) (cMem [.pl (.int true .i64 k), x])).go [true]).flat =
    some (refOd (k != 256) (k != 384) (k != 512), (.nilslice, cMem [.pl (.int true .i64 k), x])) := by kernel_rfl
theorem refO_ok {xs : List V} {o : List Bool} {v : AV} {bs : Mem} (h : refO xs = some (o, (v, bs))) (ho : Paid o) : ViewCall Tryd.prog 14 xs v bs := by
  unfold refO at h
  split at h
  · rename_i k x
    cases h
    have o1 := ho _ (List.mem_cons_self ..)
    have o2 := ho _ (List.mem_cons_of_mem _ (List.mem_cons_self ..))
    have o3 := ho _ (List.mem_cons_of_mem _ (List.mem_cons_of_mem _ (List.mem_cons_self ..)))
    have e1 : (k != 256) = true := by simpa using o1
    have e2 : (k != 384) = true := by simpa using o2
    have e3 : (k != 512) = true := by simpa using o3
    have ev := refO_eval k x
    rw [e1, e2, e3] at ev
    exact @viewN_of_go _ _ _ _ _ mixed noCount hR3_ok _ _ _ (fun fn c hf hb => LOkN.none) _ _ _ _ _ [true] ev (all1_paid rfl) rfl rfl rfl
  · cases h
def hs10 : CallH := withV 14 refO hs9
theorem hs10_ok : HOk Tryd.prog hs10 := hs9_ok.withV fun _ _ _ _ h ho => refO_ok h ho
noncomputable def hS10 : CallH := deep Tryd.prog qS hs10 100 3
theorem hS10_ok : HOk Tryd.prog hS10 := hs10_ok.deep mixed noCount 100 3
end Go.Proofs.YtjhjhhibfojpiaaDoor
namespace Go.Proofs.YtjhjhhibfojpiaaDoor
variable [Go.Ev.RowTab]
open Go.Ev Go.Sh
open Go.ChangeShapes Go.WideShapes Go.ChangeAt Go.RowKit
set_option maxRecDepth 100000
def qZ (f : FuncId) : Bool := Nat.beq f 1000000000 || qS f
theorem stW_two (w N B : Nat) (ws op : List Int) (c : Int) (l q : List Int) : stW w N B (stW w N B ws op c l).1 (stW w N B ws op c l).2.1 (stW w N B ws op c l).2.2 q = stW w N B ws op c (l ++ q) := by
  unfold stW; rw [List.foldl_append]
end Go.Proofs.YtjhjhhibfojpiaaDoor
