/- The program's block cipher: a round key laid upon a block, and the whole: contracts. Own work. -/
import Derived.Test.YtfmgodgakndjcaaQAesA
set_option linter.unusedSimpArgs false
set_option linter.unusedVariables false
set_option linter.unusedSectionVars false
namespace Go.As
open Go.Ev Go.Sh
def rndB (W : List Int) : Nat → List Int → List Int
  | 0, b => addB W 0 b
  | n + 1, b => addB W (n + 1) (mixB (subB (rndB W n b)))
def encB (W : List Int) (r : Nat) (b : List Int) : List Int := addB W r (subB (rndB W (r - 1) b))
theorem addB_len (W : List Int) (n : Nat) (b : List Int) : (addB W n b).length = 16 := by simp [addB]
end Go.As
namespace Go.Proofs.Ytfmgodgakndjcaa
open Go.Ev Go.Sh Go.As
set_option maxRecDepth 100000
theorem add0_eval (s : Bool) (W : List Int) (r a0 a1 a2 a3 a4 a5 a6 a7 a8 a9 a10 a11 a12 a13 a14 a15 : Int) : res (funcA Try.prog qP (deep Try.prog qP ha3 100 3) 100 83 (cArgs 0 [.pt (.wide [.int s .i64 r, .ints .u8 240 W]), .pl (.ints .u8 16 [a0, a1, a2, a3, a4, a5, a6, a7, a8, a9, a10, a11, a12, a13, a14, a15]), .pl (.int false .i64 0)]) (cMem [.pt (.wide [.int s .i64 r, .ints .u8 240 W]), .pl (.ints .u8 16 [a0, a1, a2, a3, a4, a5, a6, a7, a8, a9, a10, a11, a12, a13, a14, a15]), .pl (.int false .i64 0)])) = some ([], .ints .u8 16 (addB W 0 [a0, a1, a2, a3, a4, a5, a6, a7, a8, a9, a10, a11, a12, a13, a14, a15])) := by kernel_rfl
theorem add1_eval (s : Bool) (W : List Int) (r a0 a1 a2 a3 a4 a5 a6 a7 a8 a9 a10 a11 a12 a13 a14 a15 : Int) : res (funcA Try.prog qP (deep Try.prog qP ha3 100 3) 100 83 (cArgs 0 [.pt (.wide [.int s .i64 r, .ints .u8 240 W]), .pl (.ints .u8 16 [a0, a1, a2, a3, a4, a5, a6, a7, a8, a9, a10, a11, a12, a13, a14, a15]), .pl (.int false .i64 1)]) (cMem [.pt (.wide [.int s .i64 r, .ints .u8 240 W]), .pl (.ints .u8 16 [a0, a1, a2, a3, a4, a5, a6, a7, a8, a9, a10, a11, a12, a13, a14, a15]), .pl (.int false .i64 1)])) = some ([], .ints .u8 16 (addB W 1 [a0, a1, a2, a3, a4, a5, a6, a7, a8, a9, a10, a11, a12, a13, a14, a15])) := by kernel_rfl
theorem add2_eval (s : Bool) (W : List Int) (r a0 a1 a2 a3 a4 a5 a6 a7 a8 a9 a10 a11 a12 a13 a14 a15 : Int) : res (funcA Try.prog qP (deep Try.prog qP ha3 100 3) 100 83 (cArgs 0 [.pt (.wide [.int s .i64 r, .ints .u8 240 W]), .pl (.ints .u8 16 [a0, a1, a2, a3, a4, a5, a6, a7, a8, a9, a10, a11, a12, a13, a14, a15]), .pl (.int false .i64 2)]) (cMem [.pt (.wide [.int s .i64 r, .ints .u8 240 W]), .pl (.ints .u8 16 [a0, a1, a2, a3, a4, a5, a6, a7, a8, a9, a10, a11, a12, a13, a14, a15]), .pl (.int false .i64 2)])) = some ([], .ints .u8 16 (addB W 2 [a0, a1, a2, a3, a4, a5, a6, a7, a8, a9, a10, a11, a12, a13, a14, a15])) := by kernel_rfl
theorem add3_eval (s : Bool) (W : List Int) (r a0 a1 a2 a3 a4 a5 a6 a7 a8 a9 a10 a11 a12 a13 a14 a15 : Int) : res (funcA Try.prog qP (deep Try.prog qP ha3 100 3) 100 83 (cArgs 0 [.pt (.wide [.int s .i64 r, .ints .u8 240 W]), .pl (.ints .u8 16 [a0, a1, a2, a3, a4, a5, a6, a7, a8, a9, a10, a11, a12, a13, a14, a15]), .pl (.int false .i64 3)]) (cMem [.pt (.wide [.int s .i64 r, .ints .u8 240 W]), .pl (.ints .u8 16 [a0, a1, a2, a3, a4, a5, a6, a7, a8, a9, a10, a11, a12, a13, a14, a15]), .pl (.int false .i64 3)])) = some ([], .ints .u8 16 (addB W 3 [a0, a1, a2, a3, a4, a5, a6, a7, a8, a9, a10, a11, a12, a13, a14, a15])) := by kernel_rfl
theorem add4_eval (s : Bool) (W : List Int) (r a0 a1 a2 a3 a4 a5 a6 a7 a8 a9 a10 a11 a12 a13 a14 a15 : Int) : res (funcA Try.prog qP (deep Try.prog qP ha3 100 3) 100 83 (cArgs 0 [.pt (.wide [.int s .i64 r, .ints .u8 240 W]), .pl (.ints .u8 16 [a0, a1, a2, a3, a4, a5, a6, a7, a8, a9, a10, a11, a12, a13, a14, a15]), .pl (.int false .i64 4)]) (cMem [.pt (.wide [.int s .i64 r, .ints .u8 240 W]), .pl (.ints .u8 16 [a0, a1, a2, a3, a4, a5, a6, a7, a8, a9, a10, a11, a12, a13, a14, a15]), .pl (.int false .i64 4)])) = some ([], .ints .u8 16 (addB W 4 [a0, a1, a2, a3, a4, a5, a6, a7, a8, a9, a10, a11, a12, a13, a14, a15])) := by kernel_rfl
theorem add5_eval (s : Bool) (W : List Int) (r a0 a1 a2 a3 a4 a5 a6 a7 a8 a9 a10 a11 a12 a13 a14 a15 : Int) : res (funcA Try.prog qP (deep Try.prog qP ha3 100 3) 100 83 (cArgs 0 [.pt (.wide [.int s .i64 r, .ints .u8 240 W]), .pl (.ints .u8 16 [a0, a1, a2, a3, a4, a5, a6, a7, a8, a9, a10, a11, a12, a13, a14, a15]), .pl (.int false .i64 5)]) (cMem [.pt (.wide [.int s .i64 r, .ints .u8 240 W]), .pl (.ints .u8 16 [a0, a1, a2, a3, a4, a5, a6, a7, a8, a9, a10, a11, a12, a13, a14, a15]), .pl (.int false .i64 5)])) = some ([], .ints .u8 16 (addB W 5 [a0, a1, a2, a3, a4, a5, a6, a7, a8, a9, a10, a11, a12, a13, a14, a15])) := by kernel_rfl
theorem add6_eval (s : Bool) (W : List Int) (r a0 a1 a2 a3 a4 a5 a6 a7 a8 a9 a10 a11 a12 a13 a14 a15 : Int) : res (funcA Try.prog qP (deep Try.prog qP ha3 100 3) 100 83 (cArgs 0 [.pt (.wide [.int s .i64 r, .ints .u8 240 W]), .pl (.ints .u8 16 [a0, a1, a2, a3, a4, a5, a6, a7, a8, a9, a10, a11, a12, a13, a14, a15]), .pl (.int false .i64 6)]) (cMem [.pt (.wide [.int s .i64 r, .ints .u8 240 W]), .pl (.ints .u8 16 [a0, a1, a2, a3, a4, a5, a6, a7, a8, a9, a10, a11, a12, a13, a14, a15]), .pl (.int false .i64 6)])) = some ([], .ints .u8 16 (addB W 6 [a0, a1, a2, a3, a4, a5, a6, a7, a8, a9, a10, a11, a12, a13, a14, a15])) := by kernel_rfl
theorem add7_eval (s : Bool) (W : List Int) (r a0 a1 a2 a3 a4 a5 a6 a7 a8 a9 a10 a11 a12 a13 a14 a15 : Int) : res (funcA Try.prog qP (deep Try.prog qP ha3 100 3) 100 83 (cArgs 0 [.pt (.wide [.int s .i64 r, .ints .u8 240 W]), .pl (.ints .u8 16 [a0, a1, a2, a3, a4, a5, a6, a7, a8, a9, a10, a11, a12, a13, a14, a15]), .pl (.int false .i64 7)]) (cMem [.pt (.wide [.int s .i64 r, .ints .u8 240 W]), .pl (.ints .u8 16 [a0, a1, a2, a3, a4, a5, a6, a7, a8, a9, a10, a11, a12, a13, a14, a15]), .pl (.int false .i64 7)])) = some ([], .ints .u8 16 (addB W 7 [a0, a1, a2, a3, a4, a5, a6, a7, a8, a9, a10, a11, a12, a13, a14, a15])) := by kernel_rfl
theorem add8_eval (s : Bool) (W : List Int) (r a0 a1 a2 a3 a4 a5 a6 a7 a8 a9 a10 a11 a12 a13 a14 a15 : Int) : res (funcA Try.prog qP (deep Try.prog qP ha3 100 3) 100 83 (cArgs 0 [.pt (.wide [.int s .i64 r, .ints .u8 240 W]), .pl (.ints .u8 16 [a0, a1, a2, a3, a4, a5, a6, a7, a8, a9, a10, a11, a12, a13, a14, a15]), .pl (.int false .i64 8)]) (cMem [.pt (.wide [.int s .i64 r, .ints .u8 240 W]), .pl (.ints .u8 16 [a0, a1, a2, a3, a4, a5, a6, a7, a8, a9, a10, a11, a12, a13, a14, a15]), .pl (.int false .i64 8)])) = some ([], .ints .u8 16 (addB W 8 [a0, a1, a2, a3, a4, a5, a6, a7, a8, a9, a10, a11, a12, a13, a14, a15])) := by kernel_rfl
theorem add9_eval (s : Bool) (W : List Int) (r a0 a1 a2 a3 a4 a5 a6 a7 a8 a9 a10 a11 a12 a13 a14 a15 : Int) : res (funcA Try.prog qP (deep Try.prog qP ha3 100 3) 100 83 (cArgs 0 [.pt (.wide [.int s .i64 r, .ints .u8 240 W]), .pl (.ints .u8 16 [a0, a1, a2, a3, a4, a5, a6, a7, a8, a9, a10, a11, a12, a13, a14, a15]), .pl (.int false .i64 9)]) (cMem [.pt (.wide [.int s .i64 r, .ints .u8 240 W]), .pl (.ints .u8 16 [a0, a1, a2, a3, a4, a5, a6, a7, a8, a9, a10, a11, a12, a13, a14, a15]), .pl (.int false .i64 9)])) = some ([], .ints .u8 16 (addB W 9 [a0, a1, a2, a3, a4, a5, a6, a7, a8, a9, a10, a11, a12, a13, a14, a15])) := by kernel_rfl
theorem add10_eval (s : Bool) (W : List Int) (r a0 a1 a2 a3 a4 a5 a6 a7 a8 a9 a10 a11 a12 a13 a14 a15 : Int) : res (funcA Try.prog qP (deep Try.prog qP ha3 100 3) 100 83 (cArgs 0 [.pt (.wide [.int s .i64 r, .ints .u8 240 W]), .pl (.ints .u8 16 [a0, a1, a2, a3, a4, a5, a6, a7, a8, a9, a10, a11, a12, a13, a14, a15]), .pl (.int false .i64 10)]) (cMem [.pt (.wide [.int s .i64 r, .ints .u8 240 W]), .pl (.ints .u8 16 [a0, a1, a2, a3, a4, a5, a6, a7, a8, a9, a10, a11, a12, a13, a14, a15]), .pl (.int false .i64 10)])) = some ([], .ints .u8 16 (addB W 10 [a0, a1, a2, a3, a4, a5, a6, a7, a8, a9, a10, a11, a12, a13, a14, a15])) := by kernel_rfl
theorem add11_eval (s : Bool) (W : List Int) (r a0 a1 a2 a3 a4 a5 a6 a7 a8 a9 a10 a11 a12 a13 a14 a15 : Int) : res (funcA Try.prog qP (deep Try.prog qP ha3 100 3) 100 83 (cArgs 0 [.pt (.wide [.int s .i64 r, .ints .u8 240 W]), .pl (.ints .u8 16 [a0, a1, a2, a3, a4, a5, a6, a7, a8, a9, a10, a11, a12, a13, a14, a15]), .pl (.int false .i64 11)]) (cMem [.pt (.wide [.int s .i64 r, .ints .u8 240 W]), .pl (.ints .u8 16 [a0, a1, a2, a3, a4, a5, a6, a7, a8, a9, a10, a11, a12, a13, a14, a15]), .pl (.int false .i64 11)])) = some ([], .ints .u8 16 (addB W 11 [a0, a1, a2, a3, a4, a5, a6, a7, a8, a9, a10, a11, a12, a13, a14, a15])) := by kernel_rfl
theorem add12_eval (s : Bool) (W : List Int) (r a0 a1 a2 a3 a4 a5 a6 a7 a8 a9 a10 a11 a12 a13 a14 a15 : Int) : res (funcA Try.prog qP (deep Try.prog qP ha3 100 3) 100 83 (cArgs 0 [.pt (.wide [.int s .i64 r, .ints .u8 240 W]), .pl (.ints .u8 16 [a0, a1, a2, a3, a4, a5, a6, a7, a8, a9, a10, a11, a12, a13, a14, a15]), .pl (.int false .i64 12)]) (cMem [.pt (.wide [.int s .i64 r, .ints .u8 240 W]), .pl (.ints .u8 16 [a0, a1, a2, a3, a4, a5, a6, a7, a8, a9, a10, a11, a12, a13, a14, a15]), .pl (.int false .i64 12)])) = some ([], .ints .u8 16 (addB W 12 [a0, a1, a2, a3, a4, a5, a6, a7, a8, a9, a10, a11, a12, a13, a14, a15])) := by kernel_rfl
theorem add13_eval (s : Bool) (W : List Int) (r a0 a1 a2 a3 a4 a5 a6 a7 a8 a9 a10 a11 a12 a13 a14 a15 : Int) : res (funcA Try.prog qP (deep Try.prog qP ha3 100 3) 100 83 (cArgs 0 [.pt (.wide [.int s .i64 r, .ints .u8 240 W]), .pl (.ints .u8 16 [a0, a1, a2, a3, a4, a5, a6, a7, a8, a9, a10, a11, a12, a13, a14, a15]), .pl (.int false .i64 13)]) (cMem [.pt (.wide [.int s .i64 r, .ints .u8 240 W]), .pl (.ints .u8 16 [a0, a1, a2, a3, a4, a5, a6, a7, a8, a9, a10, a11, a12, a13, a14, a15]), .pl (.int false .i64 13)])) = some ([], .ints .u8 16 (addB W 13 [a0, a1, a2, a3, a4, a5, a6, a7, a8, a9, a10, a11, a12, a13, a14, a15])) := by kernel_rfl
theorem add14_eval (s : Bool) (W : List Int) (r a0 a1 a2 a3 a4 a5 a6 a7 a8 a9 a10 a11 a12 a13 a14 a15 : Int) : res (funcA Try.prog qP (deep Try.prog qP ha3 100 3) 100 83 (cArgs 0 [.pt (.wide [.int s .i64 r, .ints .u8 240 W]), .pl (.ints .u8 16 [a0, a1, a2, a3, a4, a5, a6, a7, a8, a9, a10, a11, a12, a13, a14, a15]), .pl (.int false .i64 14)]) (cMem [.pt (.wide [.int s .i64 r, .ints .u8 240 W]), .pl (.ints .u8 16 [a0, a1, a2, a3, a4, a5, a6, a7, a8, a9, a10, a11, a12, a13, a14, a15]), .pl (.int false .i64 14)])) = some ([], .ints .u8 16 (addB W 14 [a0, a1, a2, a3, a4, a5, a6, a7, a8, a9, a10, a11, a12, a13, a14, a15])) := by kernel_rfl
def addS : List V → E (AV × Mem)
  | [.pt (.wide [.int _ .i64 _, .ints .u8 240 W]), .pl (.ints .u8 16 b), .pl (.int false .i64 n)] => match decide (0 ≤ n) && decide (n < 15) with
    | true => some ([], (.ints .u8 16 (addB W n.toNat b), []))
    | false => none
  | _ => none
theorem pl_arg {ρ : Nat → Loc3} {N : Nat → Prop} {xs : List V} {vs : List Value} (ha : Reps ρ N (cArgs 0 xs) vs) (i : Nat) {k : IntKind} {n : Nat} {l : List Int} (hx : (cArgs 0 xs)[i]? = some (.ints k n l)) : l.length = n ∧ ∀ x ∈ l, inR k x = true := by
  obtain ⟨v, h1, h2⟩ := Reps.get i _ ha hx
  cases h2 with
  | ints _ _ _ h3 h4 => exact ⟨h3, h4⟩
theorem add_ok {xs : List V} {o : List Bool} {v : AV} {bs : Mem} (h : addS xs = some (o, (v, bs))) : ViewCall Try.prog 83 xs v bs := by
  unfold addS at h
  split at h
  · rename_i s r W b n
    split at h
    · rename_i hn
      simp only [Bool.and_eq_true, decide_eq_true_eq] at hn
      cases h
      intro ρ vs w ha hi
      obtain ⟨hl, _⟩ := pl_arg ha 1 rfl
      obtain ⟨a0, a1, a2, a3, a4, a5, a6, a7, a8, a9, a10, a11, a12, a13, a14, a15, rfl⟩ := len16 hl
      obtain ⟨m, rfl⟩ := Int.eq_ofNat_of_zero_le hn.1
      have hm : m < 15 := by omega
      have e : m = 0 ∨ m = 1 ∨ m = 2 ∨ m = 3 ∨ m = 4 ∨ m = 5 ∨ m = 6 ∨ m = 7 ∨ m = 8 ∨ m = 9 ∨ m = 10 ∨ m = 11 ∨ m = 12 ∨ m = 13 ∨ m = 14 := by omega
      rcases e with rfl | rfl | rfl | rfl | rfl | rfl | rfl | rfl | rfl | rfl | rfl | rfl | rfl | rfl | rfl
      · exact view_of_res mixed noCount (ha3_ok.deep mixed noCount 100 3) (add0_eval s W r a0 a1 a2 a3 a4 a5 a6 a7 a8 a9 a10 a11 a12 a13 a14 a15) Paid.nil rfl (by rfl) ha hi
      · exact view_of_res mixed noCount (ha3_ok.deep mixed noCount 100 3) (add1_eval s W r a0 a1 a2 a3 a4 a5 a6 a7 a8 a9 a10 a11 a12 a13 a14 a15) Paid.nil rfl (by rfl) ha hi
      · exact view_of_res mixed noCount (ha3_ok.deep mixed noCount 100 3) (add2_eval s W r a0 a1 a2 a3 a4 a5 a6 a7 a8 a9 a10 a11 a12 a13 a14 a15) Paid.nil rfl (by rfl) ha hi
      · exact view_of_res mixed noCount (ha3_ok.deep mixed noCount 100 3) (add3_eval s W r a0 a1 a2 a3 a4 a5 a6 a7 a8 a9 a10 a11 a12 a13 a14 a15) Paid.nil rfl (by rfl) ha hi
      · exact view_of_res mixed noCount (ha3_ok.deep mixed noCount 100 3) (add4_eval s W r a0 a1 a2 a3 a4 a5 a6 a7 a8 a9 a10 a11 a12 a13 a14 a15) Paid.nil rfl (by rfl) ha hi
      · exact view_of_res mixed noCount (ha3_ok.deep mixed noCount 100 3) (add5_eval s W r a0 a1 a2 a3 a4 a5 a6 a7 a8 a9 a10 a11 a12 a13 a14 a15) Paid.nil rfl (by rfl) ha hi
      · exact view_of_res mixed noCount (ha3_ok.deep mixed noCount 100 3) (add6_eval s W r a0 a1 a2 a3 a4 a5 a6 a7 a8 a9 a10 a11 a12 a13 a14 a15) Paid.nil rfl (by rfl) ha hi
      · exact view_of_res mixed noCount (ha3_ok.deep mixed noCount 100 3) (add7_eval s W r a0 a1 a2 a3 a4 a5 a6 a7 a8 a9 a10 a11 a12 a13 a14 a15) Paid.nil rfl (by rfl) ha hi
      · exact view_of_res mixed noCount (ha3_ok.deep mixed noCount 100 3) (add8_eval s W r a0 a1 a2 a3 a4 a5 a6 a7 a8 a9 a10 a11 a12 a13 a14 a15) Paid.nil rfl (by rfl) ha hi
      · exact view_of_res mixed noCount (ha3_ok.deep mixed noCount 100 3) (add9_eval s W r a0 a1 a2 a3 a4 a5 a6 a7 a8 a9 a10 a11 a12 a13 a14 a15) Paid.nil rfl (by rfl) ha hi
      · exact view_of_res mixed noCount (ha3_ok.deep mixed noCount 100 3) (add10_eval s W r a0 a1 a2 a3 a4 a5 a6 a7 a8 a9 a10 a11 a12 a13 a14 a15) Paid.nil rfl (by rfl) ha hi
      · exact view_of_res mixed noCount (ha3_ok.deep mixed noCount 100 3) (add11_eval s W r a0 a1 a2 a3 a4 a5 a6 a7 a8 a9 a10 a11 a12 a13 a14 a15) Paid.nil rfl (by rfl) ha hi
      · exact view_of_res mixed noCount (ha3_ok.deep mixed noCount 100 3) (add12_eval s W r a0 a1 a2 a3 a4 a5 a6 a7 a8 a9 a10 a11 a12 a13 a14 a15) Paid.nil rfl (by rfl) ha hi
      · exact view_of_res mixed noCount (ha3_ok.deep mixed noCount 100 3) (add13_eval s W r a0 a1 a2 a3 a4 a5 a6 a7 a8 a9 a10 a11 a12 a13 a14 a15) Paid.nil rfl (by rfl) ha hi
      · exact view_of_res mixed noCount (ha3_ok.deep mixed noCount 100 3) (add14_eval s W r a0 a1 a2 a3 a4 a5 a6 a7 a8 a9 a10 a11 a12 a13 a14 a15) Paid.nil rfl (by rfl) ha hi
    · cases h
  · cases h
def ha4 : CallH := withV 83 addS ha3
theorem ha4_ok : HOk Try.prog ha4 := ha3_ok.withV fun _ _ _ _ h _ => add_ok h
theorem blk10_eval (W b : List Int) : res (funcA Try.prog qP (deep Try.prog qP ha4 100 3) 100 62 (cArgs 0 [.pt (.wide [.int false .i64 10, .ints .u8 240 W]), .pl (.ints .u8 16 b)]) (cMem [.pt (.wide [.int false .i64 10, .ints .u8 240 W]), .pl (.ints .u8 16 b)])) = some ([], .ints .u8 16 (encB W 10 b)) := by kernel_rfl
theorem blk14_eval (W b : List Int) : res (funcA Try.prog qP (deep Try.prog qP ha4 100 3) 100 62 (cArgs 0 [.pt (.wide [.int false .i64 14, .ints .u8 240 W]), .pl (.ints .u8 16 b)]) (cMem [.pt (.wide [.int false .i64 14, .ints .u8 240 W]), .pl (.ints .u8 16 b)])) = some ([], .ints .u8 16 (encB W 14 b)) := by kernel_rfl
theorem blkn_eval (b : List Int) : res (funcA Try.prog qP (deep Try.prog qP ha4 100 3) 100 62 (cArgs 0 [.pl .nilptr, .pl (.ints .u8 16 b)]) (cMem [.pl .nilptr, .pl (.ints .u8 16 b)])) = some ([], .ints .u8 16 (List.replicate 16 0)) := by kernel_rfl
def blkS : List V → E (AV × Mem)
  | [.pt (.wide [.int false .i64 10, .ints .u8 240 W]), .pl (.ints .u8 16 b)] => some ([], (.ints .u8 16 (encB W 10 b), []))
  | [.pt (.wide [.int false .i64 14, .ints .u8 240 W]), .pl (.ints .u8 16 b)] => some ([], (.ints .u8 16 (encB W 14 b), []))
  | [.pl .nilptr, .pl (.ints .u8 16 _)] => some ([], (.ints .u8 16 (List.replicate 16 0), []))
  | _ => none
theorem blk_ok {xs : List V} {o : List Bool} {v : AV} {bs : Mem} (h : blkS xs = some (o, (v, bs))) : ViewCall Try.prog 62 xs v bs := by
  unfold blkS at h
  split at h
  · rename_i W b
    cases h
    intro ρ vs w ha hi
    exact view_of_res mixed noCount (ha4_ok.deep mixed noCount 100 3) (blk10_eval W b) Paid.nil rfl (by rfl) ha hi
  · rename_i W b
    cases h
    intro ρ vs w ha hi
    exact view_of_res mixed noCount (ha4_ok.deep mixed noCount 100 3) (blk14_eval W b) Paid.nil rfl (by rfl) ha hi
  · rename_i b
    cases h
    intro ρ vs w ha hi
    exact view_of_res mixed noCount (ha4_ok.deep mixed noCount 100 3) (blkn_eval b) Paid.nil rfl (by rfl) ha hi
  · cases h
def ha5 : CallH := withV 62 blkS ha4
theorem ha5_ok : HOk Try.prog ha5 := ha4_ok.withV fun _ _ _ _ h _ => blk_ok h
end Go.Proofs.Ytfmgodgakndjcaa
namespace Go.As
open Go.Ev Go.Sh
def pK (i d : Int) : Nat := (IntKind.i64.wrap (i - d)).toNat
/-- Word j of a key's words. -/
def wd4 (W : List Int) (j : Nat) : List Int := (W.drop (j * 4)).take 4
def turnW (v : List Int) : List Int := [v.getD 1 0, v.getD 2 0, v.getD 3 0, v.getD 0 0]
def headW (v : List Int) (p : Int) : List Int := (subW (turnW v)).set 0 (ixor .u8 ((subW (turnW v)).getD 0 0) p)
def moreW (N : Nat) (v : List Int) (i : Nat) (p : Int) : List Int := if i % N = 0 then headW v p else if i % N = 4 then subW v else v
def putW4 (W : List Int) (i : Nat) (x : List Int) : List Int := W.take (i * 4) ++ x ++ W.drop (i * 4 + 4)
def stepW (N : Nat) (W : List Int) (i : Nat) (p : Int) : List Int := putW4 W i (sumW (wd4 W (i - N)) (moreW N (wd4 W (i - 1)) i p))
def keyG (N : Nat) (l : List Int) : Nat → List Int × Int
  | 0 => ((List.range (4 * N)).map (fun i => l.getD i 0) ++ List.replicate (240 - 4 * N) 0, 1)
  | k + 1 => (stepW N (keyG N l k).1 (N + k) (keyG N l k).2, if (N + k) % N = 0 then dP (keyG N l k).2 else (keyG N l k).2)
def keyL (N : Nat) (l : List Int) : List Int := (keyG N l (3 * N + 28)).1
def keyC (N : Nat) (W : List Int) : Cells := .wide [.int false .i64 ((N : Int) + 6), .ints .u8 240 W]
end Go.As
