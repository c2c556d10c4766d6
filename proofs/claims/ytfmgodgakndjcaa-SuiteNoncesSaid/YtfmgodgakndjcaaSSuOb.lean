/- The law of nonces, evaluated. Own work. -/
import Derived.Test.YtfmgodgakndjcaaSSuOr
set_option linter.unusedSimpArgs false
set_option linter.unusedVariables false
set_option linter.unusedSectionVars false
namespace Go.Proofs.Ytfmgodgakndjcaa
open Go.Ev Go.Sh Go.Su
set_option maxRecDepth 100000
theorem so_ebN (s : S3) (k iv : List Int) (n : Nat) (p : List Int) (N a b : Int) : snE true 9 (sV s) (sKey s k) (.buf false .u8 12 iv) (.pl .nilslice) (.buf true .u8 n p) N a b [] = some ([decide (n < 9223372036854775808), decide ((n : Int) ≤ 300) == true] ++ (sdS s false true 0 n ++ (sdS s false true 0 n ++ ([decide (0 + (n + 16) ≤ (ulS s k (nonC iv a) [] 0 ((p.drop 0).take n) n).length), decide (0 + (n + 16) ≤ (ulS s k (nonC iv a) [] 0 ((p.drop 0).take n) n).length)] ++ List.replicate 12 (decide ((((ulS s k (nonC iv a) [] 0 ((p.drop 0).take n) n).drop 0).take (n + 16)) = (((ulS s k (nonC iv a) [] 0 ((p.drop 0).take n) n).drop 0).take (n + 16))))))), .bool true (decide (nonC iv a = nonC iv b) == (a == b))) := by cases s <;> kernel_rfl
theorem so_ebE (s : S3) (k iv : List Int) (n : Nat) (p : List Int) (N a b : Int) : snE true 9 (sV s) (sKey s k) (.buf false .u8 12 iv) (.empty) (.buf true .u8 n p) N a b [] = some ([decide (n < 9223372036854775808), decide ((n : Int) ≤ 300) == true] ++ (sdS s false true 0 n ++ (sdS s false true 0 n ++ ([decide (0 + (n + 16) ≤ (ulS s k (nonC iv a) [] 0 ((p.drop 0).take n) n).length), decide (0 + (n + 16) ≤ (ulS s k (nonC iv a) [] 0 ((p.drop 0).take n) n).length)] ++ List.replicate 12 (decide ((((ulS s k (nonC iv a) [] 0 ((p.drop 0).take n) n).drop 0).take (n + 16)) = (((ulS s k (nonC iv a) [] 0 ((p.drop 0).take n) n).drop 0).take (n + 16))))))), .bool true (decide (nonC iv a = nonC iv b) == (a == b))) := by cases s <;> kernel_rfl
end Go.Proofs.Ytfmgodgakndjcaa
