/- The law of nonces, evaluated. Own work. -/
import Derived.Test.YtfmgodgakndjcaaSSuOr
set_option linter.unusedSimpArgs false
set_option linter.unusedVariables false
set_option linter.unusedSectionVars false
namespace Go.Proofs.Ytfmgodgakndjcaa
open Go.Ev Go.Sh Go.Su
set_option maxRecDepth 100000
theorem so_eeEN (s : S3) (k iv : List Int) (N a b : Int) : snE true 9 (sV s) (sKey s k) (.buf false .u8 12 iv) (.empty) (.pl .nilslice) N a b [] = some ([true == true] ++ (sdS s false false 0 0 ++ (sdS s false false 0 0 ++ ([] ++ List.replicate 12 (decide ((utS s k (nonC iv a) [] 0) = (utS s k (nonC iv a) [] 0)))))), .bool true (decide (nonC iv a = nonC iv b) == (a == b))) := by cases s <;> kernel_rfl
theorem so_eeEE (s : S3) (k iv : List Int) (N a b : Int) : snE true 9 (sV s) (sKey s k) (.buf false .u8 12 iv) (.empty) (.empty) N a b [] = some ([true == true] ++ (sdS s false false 0 0 ++ (sdS s false false 0 0 ++ ([] ++ List.replicate 12 (decide ((utS s k (nonC iv a) [] 0) = (utS s k (nonC iv a) [] 0)))))), .bool true (decide (nonC iv a = nonC iv b) == (a == b))) := by cases s <;> kernel_rfl
end Go.Proofs.Ytfmgodgakndjcaa
