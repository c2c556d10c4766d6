/- A key that is longer than a block counts as its hash, one that is shorter as if zeros stood behind it: for every kind, key and message the law answers true. No condition. -/
import Derived.Test.YtljndahfackolaaDoorQMacJb
import Derived.Test.YtljndahfackolaaDoorQMacJc
import Derived.Test.YtljndahfackolaaDoorQMacK
import Derived.Test.YtljndahfackolaaDoorQMacPd
import Derived.Test.YtljndahfackolaaDoorQShaL
set_option linter.unusedSimpArgs false
set_option linter.unusedVariables false
set_option linter.unusedSectionVars false
namespace Go.Proofs.YtljndahfackolaaDoor
open Go.Ev Go.Sh
open Go.ChangeShapes Go.WideShapes Go.ChangeAt Go.RowKit
set_option maxRecDepth 100000
theorem zm {a : Prop} [Decidable a] (h : a) : (!!decide a) = true := by rw [decide_eq_true h]; rfl
theorem zn {a : Prop} [Decidable a] (h : ¬ a) : (!decide a) = true := by rw [decide_eq_false h]; rfl
theorem macKeys_256 {v v2 : Value} (W : World) (hT : TRep W) (hv : (v = .slice none 0 0 ∨ ∃ (a : Addr) (len cap : Nat) (zs : List Int), v = .slice (some a) len cap ∧ len ≤ cap ∧ cap ≤ maxLen ∧ zs.length = cap ∧ (∀ i, i < zs.length → W.cell? (a.add i) = some (.int .u8 (zs.getD i 0))) ∧ ∀ n ∈ zs, inR .u8 n = true)) (hv2 : (v2 = .slice none 0 0 ∨ ∃ (a : Addr) (len cap : Nat) (zs : List Int), v2 = .slice (some a) len cap ∧ len ≤ cap ∧ cap ≤ maxLen ∧ zs.length = cap ∧ (∀ i, i < zs.length → W.cell? (a.add i) = some (.int .u8 (zs.getD i 0))) ∧ ∀ n ∈ zs, inR .u8 n = true)) :
    Calls Tryd.prog 8 #[.int .i64 256, v, v2] W (fun e w' => e = .returned (.bool true) ∧ Below W.heap.size W w') := by
  have h0 : ∃ L, VOk W 0 L (.pl (.int false .i64 256)) (.int .i64 256) := VOk.plain fun ρ N => .int false .i64 256 (by decide)
  rcases VOk.bytes (W := W) 1 hv with h | h | ⟨n, l, hn, hm, hl, hr, h⟩ <;> rcases VOk.bytes (W := W) 2 hv2 with h2 | h2 | ⟨m, q, hn2, hm2, hl2, hr2, h2⟩
  · exact law_of_go mixed hHf_ok [] keys256_nilnil (paid_append.2 ⟨hmZ256_paid Paid.nil, hmZ256_paid (paid_cons rfl (paid_cons rfl Paid.nil))⟩) (decide_eq_true key0256N) (.cons _ _ _ _ _ h0 (.cons _ _ _ _ _ h (.cons _ _ _ _ _ h2 (.nil _))))
  · exact law_of_go mixed hHf_ok [] keys256_nilemp (paid_append.2 ⟨hmZ256_paid Paid.nil, hmZ256_paid (paid_cons rfl (paid_cons rfl Paid.nil))⟩) (decide_eq_true key0256N) (.cons _ _ _ _ _ h0 (.cons _ _ _ _ _ h (.cons _ _ _ _ _ h2 (.nil _))))
  · have hm' : m < 9223372036854775808 := by unfold maxLen at hm2; omega
    have dm : decide (m < 9223372036854775808) = true := decide_eq_true hm'
    by_cases hs : shK (0 : Int) (m : Int) ≤ 2000
    · have hb9 := sh_le (by omega) (by omega) hs
      exact law_of_go mixed hHf_ok [false] (keys256_nilbuf m q) (paid_append.2 ⟨paid_append.2 ⟨(paid_cons dm (paid_cons (zm hs) Paid.nil)), hmK256_paid Paid.nil hm'⟩, hmK256_paid (paid_cons rfl (paid_cons rfl Paid.nil)) hm'⟩) (decide_eq_true (key0256 m q)) (.cons _ _ _ _ _ h0 (.cons _ _ _ _ _ h (.cons _ _ _ _ _ h2 (.nil _))))
    · exact law_of_go mixed hM3_ok [true] (keys256_nilbufL m q) (paid_cons dm (paid_cons (zn hs) Paid.nil)) rfl (.cons _ _ _ _ _ h0 (.cons _ _ _ _ _ h (.cons _ _ _ _ _ h2 (.nil _))))
  · exact law_of_go mixed hHf_ok [] keys256_empnil (paid_append.2 ⟨hmZ256_paid Paid.nil, hmZ256_paid (paid_cons rfl (paid_cons rfl Paid.nil))⟩) (decide_eq_true key0256N) (.cons _ _ _ _ _ h0 (.cons _ _ _ _ _ h (.cons _ _ _ _ _ h2 (.nil _))))
  · exact law_of_go mixed hHf_ok [] keys256_empemp (paid_append.2 ⟨hmZ256_paid Paid.nil, hmZ256_paid (paid_cons rfl (paid_cons rfl Paid.nil))⟩) (decide_eq_true key0256N) (.cons _ _ _ _ _ h0 (.cons _ _ _ _ _ h (.cons _ _ _ _ _ h2 (.nil _))))
  · have hm' : m < 9223372036854775808 := by unfold maxLen at hm2; omega
    have dm : decide (m < 9223372036854775808) = true := decide_eq_true hm'
    by_cases hs : shK ((0 : Nat) : Int) (m : Int) ≤ 2000
    · have hb9 := sh_le (by omega) (by omega) hs
      exact law_of_go mixed hHf_ok [false] (keys256_empbuf m q) (paid_append.2 ⟨paid_append.2 ⟨(paid_cons dm (paid_cons (zm hs) Paid.nil)), hmK256_paid Paid.nil hm'⟩, hmK256_paid (paid_cons rfl (paid_cons rfl Paid.nil)) hm'⟩) (decide_eq_true (key0256 m q)) (.cons _ _ _ _ _ h0 (.cons _ _ _ _ _ h (.cons _ _ _ _ _ h2 (.nil _))))
    · exact law_of_go mixed hM3_ok [true] (keys256_empbufL m q) (paid_cons dm (paid_cons (zn hs) Paid.nil)) rfl (.cons _ _ _ _ _ h0 (.cons _ _ _ _ _ h (.cons _ _ _ _ _ h2 (.nil _))))
  · have hn' : n < 9223372036854775808 := by unfold maxLen at hm; omega
    have dn : decide (n < 9223372036854775808) = true := decide_eq_true hn'
    have ez : decide (0 + n ≤ n) = true := decide_eq_true (by omega)
    by_cases hs : shK (n : Int) (0 : Int) ≤ 2000
    · have hb9 := sh_le (by omega) (by omega) hs
      by_cases hg : (n : Int) > 64
      · exact law_of_go mixed hHt_ok [false, true] (keys256_bufnilK n l) (paid_append.2 ⟨paid_append.2 ⟨paid_append.2 ⟨(paid_cons dn (paid_cons (zm hs) (paid_cons dn (paid_cons (decide_eq_true hg) (paid_cons ez (paid_cons (decide_eq_true (by omega)) Paid.nil)))))), hmV256_paid rfl (told_len ..)⟩, (paid_cons dn (paid_cons (decide_eq_true hg) (paid_cons ez (paid_cons (decide_eq_true hn) (paid_cons (decide_eq_true (by omega)) Paid.nil)))))⟩, hmV256_paid rfl (by rw [hr256_eq]; exact told_len ..)⟩) (decide_eq_true (by rw [hr256_eq])) (.cons _ _ _ _ _ h0 (.cons _ _ _ _ _ h (.cons _ _ _ _ _ h2 (.nil _))))
      · exact law_of_go mixed hHf_ok [false, false] (keys256_bufnil n l) (paid_append.2 ⟨paid_append.2 ⟨paid_append.2 ⟨(paid_cons dn (paid_cons (zm hs) Paid.nil)), hmN256_paid hl (by omega) (Nat.le_refl _)⟩, (paid_cons dn (paid_cons (zn hg) (paid_cons ez (paid_cons (by rw [decide_eq_true hn, decide_eq_true (show n ≤ 1000000000 by omega)]; rfl) (paid_cons dn (paid_cons (by rw [w64 (by omega), decide_eq_true (show (0 : Int) ≤ 64 - (n : Int) by omega), decide_eq_true (show (64 : Int) - (n : Int) ≤ 1000000000 by omega)]; rfl) (paid_cons (decide_eq_true (by rw [take_all hl]; omega)) (paid_cons (decide_eq_true (by rw [wI_eq (by omega) (by decide)]; omega)) Paid.nil))))))))⟩, hmN256_paid (key2256_len hl (by omega)) (by rw [wI_eq (by omega) (by decide)]; omega) (Nat.le_of_eq (key2256_len hl (by omega)).symm)⟩) (decide_eq_true (key2256_codeN hl (by omega))) (.cons _ _ _ _ _ h0 (.cons _ _ _ _ _ h (.cons _ _ _ _ _ h2 (.nil _))))
    · exact law_of_go mixed hM3_ok [true] (keys256_bufnilL n l) (paid_cons dn (paid_cons (zn hs) Paid.nil)) rfl (.cons _ _ _ _ _ h0 (.cons _ _ _ _ _ h (.cons _ _ _ _ _ h2 (.nil _))))
  · have hn' : n < 9223372036854775808 := by unfold maxLen at hm; omega
    have dn : decide (n < 9223372036854775808) = true := decide_eq_true hn'
    have ez : decide (0 + n ≤ n) = true := decide_eq_true (by omega)
    by_cases hs : shK (n : Int) ((0 : Nat) : Int) ≤ 2000
    · have hb9 := sh_le (by omega) (by omega) hs
      by_cases hg : (n : Int) > 64
      · exact law_of_go mixed hHt_ok [false, true] (keys256_bufempK n l) (paid_append.2 ⟨paid_append.2 ⟨paid_append.2 ⟨(paid_cons dn (paid_cons (zm hs) (paid_cons dn (paid_cons (decide_eq_true hg) (paid_cons ez (paid_cons (decide_eq_true (by omega)) Paid.nil)))))), hmV256_paid rfl (told_len ..)⟩, (paid_cons dn (paid_cons (decide_eq_true hg) (paid_cons ez (paid_cons (decide_eq_true hn) (paid_cons (decide_eq_true (by omega)) Paid.nil)))))⟩, hmV256_paid rfl (by rw [hr256_eq]; exact told_len ..)⟩) (decide_eq_true (by rw [hr256_eq])) (.cons _ _ _ _ _ h0 (.cons _ _ _ _ _ h (.cons _ _ _ _ _ h2 (.nil _))))
      · exact law_of_go mixed hHf_ok [false, false] (keys256_bufemp n l) (paid_append.2 ⟨paid_append.2 ⟨paid_append.2 ⟨(paid_cons dn (paid_cons (zm hs) Paid.nil)), hmN256_paid hl (by omega) (Nat.le_refl _)⟩, (paid_cons dn (paid_cons (zn hg) (paid_cons ez (paid_cons (by rw [decide_eq_true hn, decide_eq_true (show n ≤ 1000000000 by omega)]; rfl) (paid_cons dn (paid_cons (by rw [w64 (by omega), decide_eq_true (show (0 : Int) ≤ 64 - (n : Int) by omega), decide_eq_true (show (64 : Int) - (n : Int) ≤ 1000000000 by omega)]; rfl) (paid_cons (decide_eq_true (by rw [take_all hl]; omega)) (paid_cons (decide_eq_true (by rw [wI_eq (by omega) (by decide)]; omega)) Paid.nil))))))))⟩, hmN256_paid (key2256_len hl (by omega)) (by rw [wI_eq (by omega) (by decide)]; omega) (Nat.le_of_eq (key2256_len hl (by omega)).symm)⟩) (decide_eq_true (key2256_codeN hl (by omega))) (.cons _ _ _ _ _ h0 (.cons _ _ _ _ _ h (.cons _ _ _ _ _ h2 (.nil _))))
    · exact law_of_go mixed hM3_ok [true] (keys256_bufempL n l) (paid_cons dn (paid_cons (zn hs) Paid.nil)) rfl (.cons _ _ _ _ _ h0 (.cons _ _ _ _ _ h (.cons _ _ _ _ _ h2 (.nil _))))
  · have hn' : n < 9223372036854775808 := by unfold maxLen at hm; omega
    have dn : decide (n < 9223372036854775808) = true := decide_eq_true hn'
    have ez : decide (0 + n ≤ n) = true := decide_eq_true (by omega)
    have hm' : m < 9223372036854775808 := by unfold maxLen at hm2; omega
    have dm : decide (m < 9223372036854775808) = true := decide_eq_true hm'
    by_cases hs : shK (n : Int) (m : Int) ≤ 2000
    · have hb9 := sh_le (by omega) (by omega) hs
      by_cases hg : (n : Int) > 64
      · exact law_of_go mixed hHt_ok [false, true] (keys256_bufbufK n l m q) (paid_append.2 ⟨paid_append.2 ⟨paid_append.2 ⟨(paid_cons dn (paid_cons dm (paid_cons (zm hs) (paid_cons dn (paid_cons (decide_eq_true hg) (paid_cons ez (paid_cons (decide_eq_true (by omega)) Paid.nil))))))), hmU256_paid rfl (told_len ..) hm'⟩, (paid_cons dn (paid_cons (decide_eq_true hg) (paid_cons ez (paid_cons (decide_eq_true hn) (paid_cons (decide_eq_true (by omega)) Paid.nil)))))⟩, hmU256_paid rfl (by rw [hr256_eq]; exact told_len ..) hm'⟩) (decide_eq_true (by rw [hr256_eq])) (.cons _ _ _ _ _ h0 (.cons _ _ _ _ _ h (.cons _ _ _ _ _ h2 (.nil _))))
      · exact law_of_go mixed hHf_ok [false, false] (keys256_bufbuf n m l q) (paid_append.2 ⟨paid_append.2 ⟨paid_append.2 ⟨(paid_cons dn (paid_cons dm (paid_cons (zm hs) Paid.nil))), hmO256_paid hl (by omega) (Nat.le_refl _) hm'⟩, (paid_cons dn (paid_cons (zn hg) (paid_cons ez (paid_cons (by rw [decide_eq_true hn, decide_eq_true (show n ≤ 1000000000 by omega)]; rfl) (paid_cons dn (paid_cons (by rw [w64 (by omega), decide_eq_true (show (0 : Int) ≤ 64 - (n : Int) by omega), decide_eq_true (show (64 : Int) - (n : Int) ≤ 1000000000 by omega)]; rfl) (paid_cons (decide_eq_true (by rw [take_all hl]; omega)) (paid_cons (decide_eq_true (by rw [wI_eq (by omega) (by decide)]; omega)) Paid.nil))))))))⟩, hmO256_paid (key2256_len hl (by omega)) (by rw [wI_eq (by omega) (by decide)]; omega) (Nat.le_of_eq (key2256_len hl (by omega)).symm) hm'⟩) (decide_eq_true (key2256_code hl (by omega))) (.cons _ _ _ _ _ h0 (.cons _ _ _ _ _ h (.cons _ _ _ _ _ h2 (.nil _))))
    · exact law_of_go mixed hM3_ok [true] (keys256_bufbufL n l m q) (paid_cons dn (paid_cons dm (paid_cons (zn hs) Paid.nil))) rfl (.cons _ _ _ _ _ h0 (.cons _ _ _ _ _ h (.cons _ _ _ _ _ h2 (.nil _))))
theorem macKeys_384 {v v2 : Value} (W : World) (hT : TRep W) (hv : (v = .slice none 0 0 ∨ ∃ (a : Addr) (len cap : Nat) (zs : List Int), v = .slice (some a) len cap ∧ len ≤ cap ∧ cap ≤ maxLen ∧ zs.length = cap ∧ (∀ i, i < zs.length → W.cell? (a.add i) = some (.int .u8 (zs.getD i 0))) ∧ ∀ n ∈ zs, inR .u8 n = true)) (hv2 : (v2 = .slice none 0 0 ∨ ∃ (a : Addr) (len cap : Nat) (zs : List Int), v2 = .slice (some a) len cap ∧ len ≤ cap ∧ cap ≤ maxLen ∧ zs.length = cap ∧ (∀ i, i < zs.length → W.cell? (a.add i) = some (.int .u8 (zs.getD i 0))) ∧ ∀ n ∈ zs, inR .u8 n = true)) :
    Calls Tryd.prog 8 #[.int .i64 384, v, v2] W (fun e w' => e = .returned (.bool true) ∧ Below W.heap.size W w') := by
  have h0 : ∃ L, VOk W 0 L (.pl (.int false .i64 384)) (.int .i64 384) := VOk.plain fun ρ N => .int false .i64 384 (by decide)
  rcases VOk.bytes (W := W) 1 hv with h | h | ⟨n, l, hn, hm, hl, hr, h⟩ <;> rcases VOk.bytes (W := W) 2 hv2 with h2 | h2 | ⟨m, q, hn2, hm2, hl2, hr2, h2⟩
  · exact law_of_go mixed hHf_ok [] keys384_nilnil (paid_append.2 ⟨hmZ384_paid Paid.nil, hmZ384_paid (paid_cons rfl (paid_cons rfl Paid.nil))⟩) (decide_eq_true key0384N) (.cons _ _ _ _ _ h0 (.cons _ _ _ _ _ h (.cons _ _ _ _ _ h2 (.nil _))))
  · exact law_of_go mixed hHf_ok [] keys384_nilemp (paid_append.2 ⟨hmZ384_paid Paid.nil, hmZ384_paid (paid_cons rfl (paid_cons rfl Paid.nil))⟩) (decide_eq_true key0384N) (.cons _ _ _ _ _ h0 (.cons _ _ _ _ _ h (.cons _ _ _ _ _ h2 (.nil _))))
  · have hm' : m < 9223372036854775808 := by unfold maxLen at hm2; omega
    have dm : decide (m < 9223372036854775808) = true := decide_eq_true hm'
    by_cases hs : shK (0 : Int) (m : Int) ≤ 2000
    · have hb9 := sh_le (by omega) (by omega) hs
      exact law_of_go mixed hHf_ok [false] (keys384_nilbuf m q) (paid_append.2 ⟨paid_append.2 ⟨(paid_cons dm (paid_cons (zm hs) Paid.nil)), hmK384_paid Paid.nil hm'⟩, hmK384_paid (paid_cons rfl (paid_cons rfl Paid.nil)) hm'⟩) (decide_eq_true (key0384 m q)) (.cons _ _ _ _ _ h0 (.cons _ _ _ _ _ h (.cons _ _ _ _ _ h2 (.nil _))))
    · exact law_of_go mixed hM3_ok [true] (keys384_nilbufL m q) (paid_cons dm (paid_cons (zn hs) Paid.nil)) rfl (.cons _ _ _ _ _ h0 (.cons _ _ _ _ _ h (.cons _ _ _ _ _ h2 (.nil _))))
  · exact law_of_go mixed hHf_ok [] keys384_empnil (paid_append.2 ⟨hmZ384_paid Paid.nil, hmZ384_paid (paid_cons rfl (paid_cons rfl Paid.nil))⟩) (decide_eq_true key0384N) (.cons _ _ _ _ _ h0 (.cons _ _ _ _ _ h (.cons _ _ _ _ _ h2 (.nil _))))
  · exact law_of_go mixed hHf_ok [] keys384_empemp (paid_append.2 ⟨hmZ384_paid Paid.nil, hmZ384_paid (paid_cons rfl (paid_cons rfl Paid.nil))⟩) (decide_eq_true key0384N) (.cons _ _ _ _ _ h0 (.cons _ _ _ _ _ h (.cons _ _ _ _ _ h2 (.nil _))))
  · have hm' : m < 9223372036854775808 := by unfold maxLen at hm2; omega
    have dm : decide (m < 9223372036854775808) = true := decide_eq_true hm'
    by_cases hs : shK ((0 : Nat) : Int) (m : Int) ≤ 2000
    · have hb9 := sh_le (by omega) (by omega) hs
      exact law_of_go mixed hHf_ok [false] (keys384_empbuf m q) (paid_append.2 ⟨paid_append.2 ⟨(paid_cons dm (paid_cons (zm hs) Paid.nil)), hmK384_paid Paid.nil hm'⟩, hmK384_paid (paid_cons rfl (paid_cons rfl Paid.nil)) hm'⟩) (decide_eq_true (key0384 m q)) (.cons _ _ _ _ _ h0 (.cons _ _ _ _ _ h (.cons _ _ _ _ _ h2 (.nil _))))
    · exact law_of_go mixed hM3_ok [true] (keys384_empbufL m q) (paid_cons dm (paid_cons (zn hs) Paid.nil)) rfl (.cons _ _ _ _ _ h0 (.cons _ _ _ _ _ h (.cons _ _ _ _ _ h2 (.nil _))))
  · have hn' : n < 9223372036854775808 := by unfold maxLen at hm; omega
    have dn : decide (n < 9223372036854775808) = true := decide_eq_true hn'
    have ez : decide (0 + n ≤ n) = true := decide_eq_true (by omega)
    by_cases hs : shK (n : Int) (0 : Int) ≤ 2000
    · have hb9 := sh_le (by omega) (by omega) hs
      by_cases hg : (n : Int) > 128
      · exact law_of_go mixed hHt_ok [false, true] (keys384_bufnilK n l) (paid_append.2 ⟨paid_append.2 ⟨paid_append.2 ⟨(paid_cons dn (paid_cons (zm hs) (paid_cons dn (paid_cons (decide_eq_true hg) (paid_cons ez (paid_cons (decide_eq_true (by omega)) Paid.nil)))))), hmV384_paid rfl (told_len ..)⟩, (paid_cons dn (paid_cons (decide_eq_true hg) (paid_cons ez (paid_cons (decide_eq_true hn) (paid_cons (decide_eq_true (by omega)) Paid.nil)))))⟩, hmV384_paid rfl (by rw [hr384_eq]; exact told_len ..)⟩) (decide_eq_true (by rw [hr384_eq])) (.cons _ _ _ _ _ h0 (.cons _ _ _ _ _ h (.cons _ _ _ _ _ h2 (.nil _))))
      · exact law_of_go mixed hHf_ok [false, false] (keys384_bufnil n l) (paid_append.2 ⟨paid_append.2 ⟨paid_append.2 ⟨(paid_cons dn (paid_cons (zm hs) Paid.nil)), hmN384_paid hl (by omega) (Nat.le_refl _)⟩, (paid_cons dn (paid_cons (zn hg) (paid_cons ez (paid_cons (by rw [decide_eq_true hn, decide_eq_true (show n ≤ 1000000000 by omega)]; rfl) (paid_cons dn (paid_cons (by rw [w64 (by omega), decide_eq_true (show (0 : Int) ≤ 128 - (n : Int) by omega), decide_eq_true (show (128 : Int) - (n : Int) ≤ 1000000000 by omega)]; rfl) (paid_cons (decide_eq_true (by rw [take_all hl]; omega)) (paid_cons (decide_eq_true (by rw [wI_eq (by omega) (by decide)]; omega)) Paid.nil))))))))⟩, hmN384_paid (key2384_len hl (by omega)) (by rw [wI_eq (by omega) (by decide)]; omega) (Nat.le_of_eq (key2384_len hl (by omega)).symm)⟩) (decide_eq_true (key2384_codeN hl (by omega))) (.cons _ _ _ _ _ h0 (.cons _ _ _ _ _ h (.cons _ _ _ _ _ h2 (.nil _))))
    · exact law_of_go mixed hM3_ok [true] (keys384_bufnilL n l) (paid_cons dn (paid_cons (zn hs) Paid.nil)) rfl (.cons _ _ _ _ _ h0 (.cons _ _ _ _ _ h (.cons _ _ _ _ _ h2 (.nil _))))
  · have hn' : n < 9223372036854775808 := by unfold maxLen at hm; omega
    have dn : decide (n < 9223372036854775808) = true := decide_eq_true hn'
    have ez : decide (0 + n ≤ n) = true := decide_eq_true (by omega)
    by_cases hs : shK (n : Int) ((0 : Nat) : Int) ≤ 2000
    · have hb9 := sh_le (by omega) (by omega) hs
      by_cases hg : (n : Int) > 128
      · exact law_of_go mixed hHt_ok [false, true] (keys384_bufempK n l) (paid_append.2 ⟨paid_append.2 ⟨paid_append.2 ⟨(paid_cons dn (paid_cons (zm hs) (paid_cons dn (paid_cons (decide_eq_true hg) (paid_cons ez (paid_cons (decide_eq_true (by omega)) Paid.nil)))))), hmV384_paid rfl (told_len ..)⟩, (paid_cons dn (paid_cons (decide_eq_true hg) (paid_cons ez (paid_cons (decide_eq_true hn) (paid_cons (decide_eq_true (by omega)) Paid.nil)))))⟩, hmV384_paid rfl (by rw [hr384_eq]; exact told_len ..)⟩) (decide_eq_true (by rw [hr384_eq])) (.cons _ _ _ _ _ h0 (.cons _ _ _ _ _ h (.cons _ _ _ _ _ h2 (.nil _))))
      · exact law_of_go mixed hHf_ok [false, false] (keys384_bufemp n l) (paid_append.2 ⟨paid_append.2 ⟨paid_append.2 ⟨(paid_cons dn (paid_cons (zm hs) Paid.nil)), hmN384_paid hl (by omega) (Nat.le_refl _)⟩, (paid_cons dn (paid_cons (zn hg) (paid_cons ez (paid_cons (by rw [decide_eq_true hn, decide_eq_true (show n ≤ 1000000000 by omega)]; rfl) (paid_cons dn (paid_cons (by rw [w64 (by omega), decide_eq_true (show (0 : Int) ≤ 128 - (n : Int) by omega), decide_eq_true (show (128 : Int) - (n : Int) ≤ 1000000000 by omega)]; rfl) (paid_cons (decide_eq_true (by rw [take_all hl]; omega)) (paid_cons (decide_eq_true (by rw [wI_eq (by omega) (by decide)]; omega)) Paid.nil))))))))⟩, hmN384_paid (key2384_len hl (by omega)) (by rw [wI_eq (by omega) (by decide)]; omega) (Nat.le_of_eq (key2384_len hl (by omega)).symm)⟩) (decide_eq_true (key2384_codeN hl (by omega))) (.cons _ _ _ _ _ h0 (.cons _ _ _ _ _ h (.cons _ _ _ _ _ h2 (.nil _))))
    · exact law_of_go mixed hM3_ok [true] (keys384_bufempL n l) (paid_cons dn (paid_cons (zn hs) Paid.nil)) rfl (.cons _ _ _ _ _ h0 (.cons _ _ _ _ _ h (.cons _ _ _ _ _ h2 (.nil _))))
  · have hn' : n < 9223372036854775808 := by unfold maxLen at hm; omega
    have dn : decide (n < 9223372036854775808) = true := decide_eq_true hn'
    have ez : decide (0 + n ≤ n) = true := decide_eq_true (by omega)
    have hm' : m < 9223372036854775808 := by unfold maxLen at hm2; omega
    have dm : decide (m < 9223372036854775808) = true := decide_eq_true hm'
    by_cases hs : shK (n : Int) (m : Int) ≤ 2000
    · have hb9 := sh_le (by omega) (by omega) hs
      by_cases hg : (n : Int) > 128
      · exact law_of_go mixed hHt_ok [false, true] (keys384_bufbufK n l m q) (paid_append.2 ⟨paid_append.2 ⟨paid_append.2 ⟨(paid_cons dn (paid_cons dm (paid_cons (zm hs) (paid_cons dn (paid_cons (decide_eq_true hg) (paid_cons ez (paid_cons (decide_eq_true (by omega)) Paid.nil))))))), hmU384_paid rfl (told_len ..) hm'⟩, (paid_cons dn (paid_cons (decide_eq_true hg) (paid_cons ez (paid_cons (decide_eq_true hn) (paid_cons (decide_eq_true (by omega)) Paid.nil)))))⟩, hmU384_paid rfl (by rw [hr384_eq]; exact told_len ..) hm'⟩) (decide_eq_true (by rw [hr384_eq])) (.cons _ _ _ _ _ h0 (.cons _ _ _ _ _ h (.cons _ _ _ _ _ h2 (.nil _))))
      · exact law_of_go mixed hHf_ok [false, false] (keys384_bufbuf n m l q) (paid_append.2 ⟨paid_append.2 ⟨paid_append.2 ⟨(paid_cons dn (paid_cons dm (paid_cons (zm hs) Paid.nil))), hmO384_paid hl (by omega) (Nat.le_refl _) hm'⟩, (paid_cons dn (paid_cons (zn hg) (paid_cons ez (paid_cons (by rw [decide_eq_true hn, decide_eq_true (show n ≤ 1000000000 by omega)]; rfl) (paid_cons dn (paid_cons (by rw [w64 (by omega), decide_eq_true (show (0 : Int) ≤ 128 - (n : Int) by omega), decide_eq_true (show (128 : Int) - (n : Int) ≤ 1000000000 by omega)]; rfl) (paid_cons (decide_eq_true (by rw [take_all hl]; omega)) (paid_cons (decide_eq_true (by rw [wI_eq (by omega) (by decide)]; omega)) Paid.nil))))))))⟩, hmO384_paid (key2384_len hl (by omega)) (by rw [wI_eq (by omega) (by decide)]; omega) (Nat.le_of_eq (key2384_len hl (by omega)).symm) hm'⟩) (decide_eq_true (key2384_code hl (by omega))) (.cons _ _ _ _ _ h0 (.cons _ _ _ _ _ h (.cons _ _ _ _ _ h2 (.nil _))))
    · exact law_of_go mixed hM3_ok [true] (keys384_bufbufL n l m q) (paid_cons dn (paid_cons dm (paid_cons (zn hs) Paid.nil))) rfl (.cons _ _ _ _ _ h0 (.cons _ _ _ _ _ h (.cons _ _ _ _ _ h2 (.nil _))))
theorem macKeys_512 {v v2 : Value} (W : World) (hT : TRep W) (hv : (v = .slice none 0 0 ∨ ∃ (a : Addr) (len cap : Nat) (zs : List Int), v = .slice (some a) len cap ∧ len ≤ cap ∧ cap ≤ maxLen ∧ zs.length = cap ∧ (∀ i, i < zs.length → W.cell? (a.add i) = some (.int .u8 (zs.getD i 0))) ∧ ∀ n ∈ zs, inR .u8 n = true)) (hv2 : (v2 = .slice none 0 0 ∨ ∃ (a : Addr) (len cap : Nat) (zs : List Int), v2 = .slice (some a) len cap ∧ len ≤ cap ∧ cap ≤ maxLen ∧ zs.length = cap ∧ (∀ i, i < zs.length → W.cell? (a.add i) = some (.int .u8 (zs.getD i 0))) ∧ ∀ n ∈ zs, inR .u8 n = true)) :
    Calls Tryd.prog 8 #[.int .i64 512, v, v2] W (fun e w' => e = .returned (.bool true) ∧ Below W.heap.size W w') := by
  have h0 : ∃ L, VOk W 0 L (.pl (.int false .i64 512)) (.int .i64 512) := VOk.plain fun ρ N => .int false .i64 512 (by decide)
  rcases VOk.bytes (W := W) 1 hv with h | h | ⟨n, l, hn, hm, hl, hr, h⟩ <;> rcases VOk.bytes (W := W) 2 hv2 with h2 | h2 | ⟨m, q, hn2, hm2, hl2, hr2, h2⟩
  · exact law_of_go mixed hHf_ok [] keys512_nilnil (paid_append.2 ⟨hmZ512_paid Paid.nil, hmZ512_paid (paid_cons rfl (paid_cons rfl Paid.nil))⟩) (decide_eq_true key0512N) (.cons _ _ _ _ _ h0 (.cons _ _ _ _ _ h (.cons _ _ _ _ _ h2 (.nil _))))
  · exact law_of_go mixed hHf_ok [] keys512_nilemp (paid_append.2 ⟨hmZ512_paid Paid.nil, hmZ512_paid (paid_cons rfl (paid_cons rfl Paid.nil))⟩) (decide_eq_true key0512N) (.cons _ _ _ _ _ h0 (.cons _ _ _ _ _ h (.cons _ _ _ _ _ h2 (.nil _))))
  · have hm' : m < 9223372036854775808 := by unfold maxLen at hm2; omega
    have dm : decide (m < 9223372036854775808) = true := decide_eq_true hm'
    by_cases hs : shK (0 : Int) (m : Int) ≤ 2000
    · have hb9 := sh_le (by omega) (by omega) hs
      exact law_of_go mixed hHf_ok [false] (keys512_nilbuf m q) (paid_append.2 ⟨paid_append.2 ⟨(paid_cons dm (paid_cons (zm hs) Paid.nil)), hmK512_paid Paid.nil hm'⟩, hmK512_paid (paid_cons rfl (paid_cons rfl Paid.nil)) hm'⟩) (decide_eq_true (key0512 m q)) (.cons _ _ _ _ _ h0 (.cons _ _ _ _ _ h (.cons _ _ _ _ _ h2 (.nil _))))
    · exact law_of_go mixed hM3_ok [true] (keys512_nilbufL m q) (paid_cons dm (paid_cons (zn hs) Paid.nil)) rfl (.cons _ _ _ _ _ h0 (.cons _ _ _ _ _ h (.cons _ _ _ _ _ h2 (.nil _))))
  · exact law_of_go mixed hHf_ok [] keys512_empnil (paid_append.2 ⟨hmZ512_paid Paid.nil, hmZ512_paid (paid_cons rfl (paid_cons rfl Paid.nil))⟩) (decide_eq_true key0512N) (.cons _ _ _ _ _ h0 (.cons _ _ _ _ _ h (.cons _ _ _ _ _ h2 (.nil _))))
  · exact law_of_go mixed hHf_ok [] keys512_empemp (paid_append.2 ⟨hmZ512_paid Paid.nil, hmZ512_paid (paid_cons rfl (paid_cons rfl Paid.nil))⟩) (decide_eq_true key0512N) (.cons _ _ _ _ _ h0 (.cons _ _ _ _ _ h (.cons _ _ _ _ _ h2 (.nil _))))
  · have hm' : m < 9223372036854775808 := by unfold maxLen at hm2; omega
    have dm : decide (m < 9223372036854775808) = true := decide_eq_true hm'
    by_cases hs : shK ((0 : Nat) : Int) (m : Int) ≤ 2000
    · have hb9 := sh_le (by omega) (by omega) hs
      exact law_of_go mixed hHf_ok [false] (keys512_empbuf m q) (paid_append.2 ⟨paid_append.2 ⟨(paid_cons dm (paid_cons (zm hs) Paid.nil)), hmK512_paid Paid.nil hm'⟩, hmK512_paid (paid_cons rfl (paid_cons rfl Paid.nil)) hm'⟩) (decide_eq_true (key0512 m q)) (.cons _ _ _ _ _ h0 (.cons _ _ _ _ _ h (.cons _ _ _ _ _ h2 (.nil _))))
    · exact law_of_go mixed hM3_ok [true] (keys512_empbufL m q) (paid_cons dm (paid_cons (zn hs) Paid.nil)) rfl (.cons _ _ _ _ _ h0 (.cons _ _ _ _ _ h (.cons _ _ _ _ _ h2 (.nil _))))
  · have hn' : n < 9223372036854775808 := by unfold maxLen at hm; omega
    have dn : decide (n < 9223372036854775808) = true := decide_eq_true hn'
    have ez : decide (0 + n ≤ n) = true := decide_eq_true (by omega)
    by_cases hs : shK (n : Int) (0 : Int) ≤ 2000
    · have hb9 := sh_le (by omega) (by omega) hs
      by_cases hg : (n : Int) > 128
      · exact law_of_go mixed hHt_ok [false, true] (keys512_bufnilK n l) (paid_append.2 ⟨paid_append.2 ⟨paid_append.2 ⟨(paid_cons dn (paid_cons (zm hs) (paid_cons dn (paid_cons (decide_eq_true hg) (paid_cons ez (paid_cons (decide_eq_true (by omega)) Paid.nil)))))), hmV512_paid rfl (told_len ..)⟩, (paid_cons dn (paid_cons (decide_eq_true hg) (paid_cons ez (paid_cons (decide_eq_true hn) (paid_cons (decide_eq_true (by omega)) Paid.nil)))))⟩, hmV512_paid rfl (by rw [hr512_eq]; exact told_len ..)⟩) (decide_eq_true (by rw [hr512_eq])) (.cons _ _ _ _ _ h0 (.cons _ _ _ _ _ h (.cons _ _ _ _ _ h2 (.nil _))))
      · exact law_of_go mixed hHf_ok [false, false] (keys512_bufnil n l) (paid_append.2 ⟨paid_append.2 ⟨paid_append.2 ⟨(paid_cons dn (paid_cons (zm hs) Paid.nil)), hmN512_paid hl (by omega) (Nat.le_refl _)⟩, (paid_cons dn (paid_cons (zn hg) (paid_cons ez (paid_cons (by rw [decide_eq_true hn, decide_eq_true (show n ≤ 1000000000 by omega)]; rfl) (paid_cons dn (paid_cons (by rw [w64 (by omega), decide_eq_true (show (0 : Int) ≤ 128 - (n : Int) by omega), decide_eq_true (show (128 : Int) - (n : Int) ≤ 1000000000 by omega)]; rfl) (paid_cons (decide_eq_true (by rw [take_all hl]; omega)) (paid_cons (decide_eq_true (by rw [wI_eq (by omega) (by decide)]; omega)) Paid.nil))))))))⟩, hmN512_paid (key2512_len hl (by omega)) (by rw [wI_eq (by omega) (by decide)]; omega) (Nat.le_of_eq (key2512_len hl (by omega)).symm)⟩) (decide_eq_true (key2512_codeN hl (by omega))) (.cons _ _ _ _ _ h0 (.cons _ _ _ _ _ h (.cons _ _ _ _ _ h2 (.nil _))))
    · exact law_of_go mixed hM3_ok [true] (keys512_bufnilL n l) (paid_cons dn (paid_cons (zn hs) Paid.nil)) rfl (.cons _ _ _ _ _ h0 (.cons _ _ _ _ _ h (.cons _ _ _ _ _ h2 (.nil _))))
  · have hn' : n < 9223372036854775808 := by unfold maxLen at hm; omega
    have dn : decide (n < 9223372036854775808) = true := decide_eq_true hn'
    have ez : decide (0 + n ≤ n) = true := decide_eq_true (by omega)
    by_cases hs : shK (n : Int) ((0 : Nat) : Int) ≤ 2000
    · have hb9 := sh_le (by omega) (by omega) hs
      by_cases hg : (n : Int) > 128
      · exact law_of_go mixed hHt_ok [false, true] (keys512_bufempK n l) (paid_append.2 ⟨paid_append.2 ⟨paid_append.2 ⟨(paid_cons dn (paid_cons (zm hs) (paid_cons dn (paid_cons (decide_eq_true hg) (paid_cons ez (paid_cons (decide_eq_true (by omega)) Paid.nil)))))), hmV512_paid rfl (told_len ..)⟩, (paid_cons dn (paid_cons (decide_eq_true hg) (paid_cons ez (paid_cons (decide_eq_true hn) (paid_cons (decide_eq_true (by omega)) Paid.nil)))))⟩, hmV512_paid rfl (by rw [hr512_eq]; exact told_len ..)⟩) (decide_eq_true (by rw [hr512_eq])) (.cons _ _ _ _ _ h0 (.cons _ _ _ _ _ h (.cons _ _ _ _ _ h2 (.nil _))))
      · exact law_of_go mixed hHf_ok [false, false] (keys512_bufemp n l) (paid_append.2 ⟨paid_append.2 ⟨paid_append.2 ⟨(paid_cons dn (paid_cons (zm hs) Paid.nil)), hmN512_paid hl (by omega) (Nat.le_refl _)⟩, (paid_cons dn (paid_cons (zn hg) (paid_cons ez (paid_cons (by rw [decide_eq_true hn, decide_eq_true (show n ≤ 1000000000 by omega)]; rfl) (paid_cons dn (paid_cons (by rw [w64 (by omega), decide_eq_true (show (0 : Int) ≤ 128 - (n : Int) by omega), decide_eq_true (show (128 : Int) - (n : Int) ≤ 1000000000 by omega)]; rfl) (paid_cons (decide_eq_true (by rw [take_all hl]; omega)) (paid_cons (decide_eq_true (by rw [wI_eq (by omega) (by decide)]; omega)) Paid.nil))))))))⟩, hmN512_paid (key2512_len hl (by omega)) (by rw [wI_eq (by omega) (by decide)]; omega) (Nat.le_of_eq (key2512_len hl (by omega)).symm)⟩) (decide_eq_true (key2512_codeN hl (by omega))) (.cons _ _ _ _ _ h0 (.cons _ _ _ _ _ h (.cons _ _ _ _ _ h2 (.nil _))))
    · exact law_of_go mixed hM3_ok [true] (keys512_bufempL n l) (paid_cons dn (paid_cons (zn hs) Paid.nil)) rfl (.cons _ _ _ _ _ h0 (.cons _ _ _ _ _ h (.cons _ _ _ _ _ h2 (.nil _))))
  · have hn' : n < 9223372036854775808 := by unfold maxLen at hm; omega
    have dn : decide (n < 9223372036854775808) = true := decide_eq_true hn'
    have ez : decide (0 + n ≤ n) = true := decide_eq_true (by omega)
    have hm' : m < 9223372036854775808 := by unfold maxLen at hm2; omega
    have dm : decide (m < 9223372036854775808) = true := decide_eq_true hm'
    by_cases hs : shK (n : Int) (m : Int) ≤ 2000
    · have hb9 := sh_le (by omega) (by omega) hs
      by_cases hg : (n : Int) > 128
      · exact law_of_go mixed hHt_ok [false, true] (keys512_bufbufK n l m q) (paid_append.2 ⟨paid_append.2 ⟨paid_append.2 ⟨(paid_cons dn (paid_cons dm (paid_cons (zm hs) (paid_cons dn (paid_cons (decide_eq_true hg) (paid_cons ez (paid_cons (decide_eq_true (by omega)) Paid.nil))))))), hmU512_paid rfl (told_len ..) hm'⟩, (paid_cons dn (paid_cons (decide_eq_true hg) (paid_cons ez (paid_cons (decide_eq_true hn) (paid_cons (decide_eq_true (by omega)) Paid.nil)))))⟩, hmU512_paid rfl (by rw [hr512_eq]; exact told_len ..) hm'⟩) (decide_eq_true (by rw [hr512_eq])) (.cons _ _ _ _ _ h0 (.cons _ _ _ _ _ h (.cons _ _ _ _ _ h2 (.nil _))))
      · exact law_of_go mixed hHf_ok [false, false] (keys512_bufbuf n m l q) (paid_append.2 ⟨paid_append.2 ⟨paid_append.2 ⟨(paid_cons dn (paid_cons dm (paid_cons (zm hs) Paid.nil))), hmO512_paid hl (by omega) (Nat.le_refl _) hm'⟩, (paid_cons dn (paid_cons (zn hg) (paid_cons ez (paid_cons (by rw [decide_eq_true hn, decide_eq_true (show n ≤ 1000000000 by omega)]; rfl) (paid_cons dn (paid_cons (by rw [w64 (by omega), decide_eq_true (show (0 : Int) ≤ 128 - (n : Int) by omega), decide_eq_true (show (128 : Int) - (n : Int) ≤ 1000000000 by omega)]; rfl) (paid_cons (decide_eq_true (by rw [take_all hl]; omega)) (paid_cons (decide_eq_true (by rw [wI_eq (by omega) (by decide)]; omega)) Paid.nil))))))))⟩, hmO512_paid (key2512_len hl (by omega)) (by rw [wI_eq (by omega) (by decide)]; omega) (Nat.le_of_eq (key2512_len hl (by omega)).symm) hm'⟩) (decide_eq_true (key2512_code hl (by omega))) (.cons _ _ _ _ _ h0 (.cons _ _ _ _ _ h (.cons _ _ _ _ _ h2 (.nil _))))
    · exact law_of_go mixed hM3_ok [true] (keys512_bufbufL n l m q) (paid_cons dn (paid_cons dm (paid_cons (zn hs) Paid.nil))) rfl (.cons _ _ _ _ _ h0 (.cons _ _ _ _ _ h (.cons _ _ _ _ _ h2 (.nil _))))
theorem macKeys_o {k : Int} (rk : inR .i64 k = true) (n1 : k ≠ 256) (n2 : k ≠ 384) (n3 : k ≠ 512) {v v2 : Value} (W : World) (hT : TRep W) (hv : (v = .slice none 0 0 ∨ ∃ (a : Addr) (len cap : Nat) (zs : List Int), v = .slice (some a) len cap ∧ len ≤ cap ∧ cap ≤ maxLen ∧ zs.length = cap ∧ (∀ i, i < zs.length → W.cell? (a.add i) = some (.int .u8 (zs.getD i 0))) ∧ ∀ n ∈ zs, inR .u8 n = true)) (hv2 : (v2 = .slice none 0 0 ∨ ∃ (a : Addr) (len cap : Nat) (zs : List Int), v2 = .slice (some a) len cap ∧ len ≤ cap ∧ cap ≤ maxLen ∧ zs.length = cap ∧ (∀ i, i < zs.length → W.cell? (a.add i) = some (.int .u8 (zs.getD i 0))) ∧ ∀ n ∈ zs, inR .u8 n = true)) :
    Calls Tryd.prog 8 #[.int .i64 k, v, v2] W (fun e w' => e = .returned (.bool true) ∧ Below W.heap.size W w') := by
  have h0 : ∃ L, VOk W 0 L (.pl (.int true .i64 k)) (.int .i64 k) := VOk.plain fun ρ N => .int true .i64 k rk
  have k0 : (!(k == 256)) = true := by simp [n1]
  have k1 := zn n1
  have k2 := zn n2
  have k3 := zn n3
  rcases VOk.bytes (W := W) 1 hv with h | h | ⟨n, l, hn, hm, hl, hr, h⟩ <;> rcases VOk.bytes (W := W) 2 hv2 with h2 | h2 | ⟨m, q, hn2, hm2, hl2, hr2, h2⟩
  · exact law_of_go mixed hM3_ok [false] (keyso_nilnil k) (paid_cons k0 (paid_cons k1 (paid_cons k2 (paid_cons k3 (paid_cons k1 (paid_cons k2 (paid_cons k3 Paid.nil))))))) rfl (.cons _ _ _ _ _ h0 (.cons _ _ _ _ _ h (.cons _ _ _ _ _ h2 (.nil _))))
  · exact law_of_go mixed hM3_ok [false] (keyso_nilemp k) (paid_cons k0 (paid_cons k1 (paid_cons k2 (paid_cons k3 (paid_cons k1 (paid_cons k2 (paid_cons k3 Paid.nil))))))) rfl (.cons _ _ _ _ _ h0 (.cons _ _ _ _ _ h (.cons _ _ _ _ _ h2 (.nil _))))
  · have hm' : m < 9223372036854775808 := by unfold maxLen at hm2; omega
    have dm : decide (m < 9223372036854775808) = true := decide_eq_true hm'
    by_cases hs : shK (0 : Int) (m : Int) ≤ 2000
    · have hb9 := sh_le (by omega) (by omega) hs
      exact law_of_go mixed hM3_ok [false, false] (keyso_nilbuf k m q) (paid_cons dm (paid_cons (zm hs) (paid_cons k0 (paid_cons k1 (paid_cons k2 (paid_cons k3 (paid_cons k1 (paid_cons k2 (paid_cons k3 Paid.nil))))))))) rfl (.cons _ _ _ _ _ h0 (.cons _ _ _ _ _ h (.cons _ _ _ _ _ h2 (.nil _))))
    · exact law_of_go mixed hM3_ok [true] (keyso_nilbufL k m q) (paid_cons dm (paid_cons (zn hs) Paid.nil)) rfl (.cons _ _ _ _ _ h0 (.cons _ _ _ _ _ h (.cons _ _ _ _ _ h2 (.nil _))))
  · exact law_of_go mixed hM3_ok [false] (keyso_empnil k) (paid_cons k0 (paid_cons k1 (paid_cons k2 (paid_cons k3 (paid_cons k1 (paid_cons k2 (paid_cons k3 Paid.nil))))))) rfl (.cons _ _ _ _ _ h0 (.cons _ _ _ _ _ h (.cons _ _ _ _ _ h2 (.nil _))))
  · exact law_of_go mixed hM3_ok [false] (keyso_empemp k) (paid_cons k0 (paid_cons k1 (paid_cons k2 (paid_cons k3 (paid_cons k1 (paid_cons k2 (paid_cons k3 Paid.nil))))))) rfl (.cons _ _ _ _ _ h0 (.cons _ _ _ _ _ h (.cons _ _ _ _ _ h2 (.nil _))))
  · have hm' : m < 9223372036854775808 := by unfold maxLen at hm2; omega
    have dm : decide (m < 9223372036854775808) = true := decide_eq_true hm'
    by_cases hs : shK ((0 : Nat) : Int) (m : Int) ≤ 2000
    · have hb9 := sh_le (by omega) (by omega) hs
      exact law_of_go mixed hM3_ok [false, false] (keyso_empbuf k m q) (paid_cons dm (paid_cons (zm hs) (paid_cons k0 (paid_cons k1 (paid_cons k2 (paid_cons k3 (paid_cons k1 (paid_cons k2 (paid_cons k3 Paid.nil))))))))) rfl (.cons _ _ _ _ _ h0 (.cons _ _ _ _ _ h (.cons _ _ _ _ _ h2 (.nil _))))
    · exact law_of_go mixed hM3_ok [true] (keyso_empbufL k m q) (paid_cons dm (paid_cons (zn hs) Paid.nil)) rfl (.cons _ _ _ _ _ h0 (.cons _ _ _ _ _ h (.cons _ _ _ _ _ h2 (.nil _))))
  · have hn' : n < 9223372036854775808 := by unfold maxLen at hm; omega
    have dn : decide (n < 9223372036854775808) = true := decide_eq_true hn'
    have ez : decide (0 + n ≤ n) = true := decide_eq_true (by omega)
    by_cases hs : shK (n : Int) (0 : Int) ≤ 2000
    · have hb9 := sh_le (by omega) (by omega) hs
      by_cases hg : (n : Int) > 128
      · exact law_of_go mixed hM3_ok [false, false, true] (keyso_bufnilK k n l) (paid_cons dn (paid_cons (zm hs) (paid_cons k0 (paid_cons k1 (paid_cons k2 (paid_cons k3 (paid_cons dn (paid_cons (decide_eq_true hg) (paid_cons ez (paid_cons k1 (paid_cons k2 (paid_cons k3 (paid_cons k1 (paid_cons k2 (paid_cons k3 Paid.nil))))))))))))))) rfl (.cons _ _ _ _ _ h0 (.cons _ _ _ _ _ h (.cons _ _ _ _ _ h2 (.nil _))))
      · exact law_of_go mixed hM3_ok [false, false, false] (keyso_bufnil k n l) (paid_cons dn (paid_cons (zm hs) (paid_cons k0 (paid_cons k1 (paid_cons k2 (paid_cons k3 (paid_cons dn (paid_cons (zn hg) (paid_cons ez (paid_cons (by rw [decide_eq_true hn, decide_eq_true (show n ≤ 1000000000 by omega)]; rfl) (paid_cons dn (paid_cons (by rw [w64 (by omega), decide_eq_true (show (0 : Int) ≤ 128 - (n : Int) by omega), decide_eq_true (show (128 : Int) - (n : Int) ≤ 1000000000 by omega)]; rfl) (paid_cons (decide_eq_true (by rw [take_all hl]; omega)) (paid_cons (decide_eq_true (by rw [wI_eq (by omega) (by decide)]; omega)) (paid_cons k1 (paid_cons k2 (paid_cons k3 Paid.nil))))))))))))))))) rfl (.cons _ _ _ _ _ h0 (.cons _ _ _ _ _ h (.cons _ _ _ _ _ h2 (.nil _))))
    · exact law_of_go mixed hM3_ok [true] (keyso_bufnilL k n l) (paid_cons dn (paid_cons (zn hs) Paid.nil)) rfl (.cons _ _ _ _ _ h0 (.cons _ _ _ _ _ h (.cons _ _ _ _ _ h2 (.nil _))))
  · have hn' : n < 9223372036854775808 := by unfold maxLen at hm; omega
    have dn : decide (n < 9223372036854775808) = true := decide_eq_true hn'
    have ez : decide (0 + n ≤ n) = true := decide_eq_true (by omega)
    by_cases hs : shK (n : Int) ((0 : Nat) : Int) ≤ 2000
    · have hb9 := sh_le (by omega) (by omega) hs
      by_cases hg : (n : Int) > 128
      · exact law_of_go mixed hM3_ok [false, false, true] (keyso_bufempK k n l) (paid_cons dn (paid_cons (zm hs) (paid_cons k0 (paid_cons k1 (paid_cons k2 (paid_cons k3 (paid_cons dn (paid_cons (decide_eq_true hg) (paid_cons ez (paid_cons k1 (paid_cons k2 (paid_cons k3 (paid_cons k1 (paid_cons k2 (paid_cons k3 Paid.nil))))))))))))))) rfl (.cons _ _ _ _ _ h0 (.cons _ _ _ _ _ h (.cons _ _ _ _ _ h2 (.nil _))))
      · exact law_of_go mixed hM3_ok [false, false, false] (keyso_bufemp k n l) (paid_cons dn (paid_cons (zm hs) (paid_cons k0 (paid_cons k1 (paid_cons k2 (paid_cons k3 (paid_cons dn (paid_cons (zn hg) (paid_cons ez (paid_cons (by rw [decide_eq_true hn, decide_eq_true (show n ≤ 1000000000 by omega)]; rfl) (paid_cons dn (paid_cons (by rw [w64 (by omega), decide_eq_true (show (0 : Int) ≤ 128 - (n : Int) by omega), decide_eq_true (show (128 : Int) - (n : Int) ≤ 1000000000 by omega)]; rfl) (paid_cons (decide_eq_true (by rw [take_all hl]; omega)) (paid_cons (decide_eq_true (by rw [wI_eq (by omega) (by decide)]; omega)) (paid_cons k1 (paid_cons k2 (paid_cons k3 Paid.nil))))))))))))))))) rfl (.cons _ _ _ _ _ h0 (.cons _ _ _ _ _ h (.cons _ _ _ _ _ h2 (.nil _))))
    · exact law_of_go mixed hM3_ok [true] (keyso_bufempL k n l) (paid_cons dn (paid_cons (zn hs) Paid.nil)) rfl (.cons _ _ _ _ _ h0 (.cons _ _ _ _ _ h (.cons _ _ _ _ _ h2 (.nil _))))
  · have hn' : n < 9223372036854775808 := by unfold maxLen at hm; omega
    have dn : decide (n < 9223372036854775808) = true := decide_eq_true hn'
    have ez : decide (0 + n ≤ n) = true := decide_eq_true (by omega)
    have hm' : m < 9223372036854775808 := by unfold maxLen at hm2; omega
    have dm : decide (m < 9223372036854775808) = true := decide_eq_true hm'
    by_cases hs : shK (n : Int) (m : Int) ≤ 2000
    · have hb9 := sh_le (by omega) (by omega) hs
      by_cases hg : (n : Int) > 128
      · exact law_of_go mixed hM3_ok [false, false, true] (keyso_bufbufK k n l m q) (paid_cons dn (paid_cons dm (paid_cons (zm hs) (paid_cons k0 (paid_cons k1 (paid_cons k2 (paid_cons k3 (paid_cons dn (paid_cons (decide_eq_true hg) (paid_cons ez (paid_cons k1 (paid_cons k2 (paid_cons k3 (paid_cons k1 (paid_cons k2 (paid_cons k3 Paid.nil)))))))))))))))) rfl (.cons _ _ _ _ _ h0 (.cons _ _ _ _ _ h (.cons _ _ _ _ _ h2 (.nil _))))
      · exact law_of_go mixed hM3_ok [false, false, false] (keyso_bufbuf k n l m q) (paid_cons dn (paid_cons dm (paid_cons (zm hs) (paid_cons k0 (paid_cons k1 (paid_cons k2 (paid_cons k3 (paid_cons dn (paid_cons (zn hg) (paid_cons ez (paid_cons (by rw [decide_eq_true hn, decide_eq_true (show n ≤ 1000000000 by omega)]; rfl) (paid_cons dn (paid_cons (by rw [w64 (by omega), decide_eq_true (show (0 : Int) ≤ 128 - (n : Int) by omega), decide_eq_true (show (128 : Int) - (n : Int) ≤ 1000000000 by omega)]; rfl) (paid_cons (decide_eq_true (by rw [take_all hl]; omega)) (paid_cons (decide_eq_true (by rw [wI_eq (by omega) (by decide)]; omega)) (paid_cons k1 (paid_cons k2 (paid_cons k3 Paid.nil)))))))))))))))))) rfl (.cons _ _ _ _ _ h0 (.cons _ _ _ _ _ h (.cons _ _ _ _ _ h2 (.nil _))))
    · exact law_of_go mixed hM3_ok [true] (keyso_bufbufL k n l m q) (paid_cons dn (paid_cons dm (paid_cons (zn hs) Paid.nil))) rfl (.cons _ _ _ _ _ h0 (.cons _ _ _ _ _ h (.cons _ _ _ _ _ h2 (.nil _))))
theorem macKeys_calls {k : Int} (rk : inR .i64 k = true) {v v2 : Value} (W : World) (hT : TRep W) (hv : (v = .slice none 0 0 ∨ ∃ (a : Addr) (len cap : Nat) (zs : List Int), v = .slice (some a) len cap ∧ len ≤ cap ∧ cap ≤ maxLen ∧ zs.length = cap ∧ (∀ i, i < zs.length → W.cell? (a.add i) = some (.int .u8 (zs.getD i 0))) ∧ ∀ n ∈ zs, inR .u8 n = true)) (hv2 : (v2 = .slice none 0 0 ∨ ∃ (a : Addr) (len cap : Nat) (zs : List Int), v2 = .slice (some a) len cap ∧ len ≤ cap ∧ cap ≤ maxLen ∧ zs.length = cap ∧ (∀ i, i < zs.length → W.cell? (a.add i) = some (.int .u8 (zs.getD i 0))) ∧ ∀ n ∈ zs, inR .u8 n = true)) :
    Calls Tryd.prog 8 #[.int .i64 k, v, v2] W (fun e w' => e = .returned (.bool true) ∧ Below W.heap.size W w') := by
  by_cases n1 : k = 256
  · subst n1; exact macKeys_256 W hT hv hv2
  · by_cases n2 : k = 384
    · subst n2; exact macKeys_384 W hT hv hv2
    · by_cases n3 : k = 512
      · subst n3; exact macKeys_512 W hT hv hv2
      · exact macKeys_o rk n1 n2 n3 W hT hv hv2

theorem macKeys_lifted (os : Os) (started : os.Started) (H : Type) (enc : TypeId × Value → H) :
    ReturnsInHanded {} Tryd.checked os 8 .any (fun w args => (Rows.macKeysSpec.pre enc Tryd.prog Tryd.f8 Rows.macKeysRow.domain false w args ∧ laidMetH Tryd.prog Rows.macKeysRow.laid w) ∧ sizedMet enc Tryd.prog Tryd.f8 (OpenSpec.ofChange Rows.macKeysSpec) false w args)
      (Rows.macKeysSpec.post enc Tryd.prog Tryd.f8 false true false false) := by
  refine returnsInHanded_of_change_and (C := Tryd.checked) (X := fun w _ => laidMetH Tryd.prog Rows.macKeysRow.laid w) (fun _ _ _ hh h => h.of_heap hh) own started (by kernel_rfl) Tryd.func8
    (ChangeSpec.witness_shaped (enc := enc) (C := Tryd.checked) (os := os) (X := fun w _ => laidMetH Tryd.prog Rows.macKeysRow.laid w) false (World.laidAll Tryd.prog os Rows.macKeysRow.laid) #[.int .i64 0, .slice none 0 0, .slice none 0 0] 8 (World.laidAll_os _ _ _)
      (World.shaped_of_ZipB (by kernel_rfl) (by kernel_rfl)) (by kernel_rfl) (by kernel_rfl) (by kernel_rfl)
      (by rw [MakeChecks.laidMetH_plain _ _ _ (by kernel_rfl)]; exact laidMet_laidAll _ (by kernel_rfl) (by kernel_rfl))) ?_
  intro W base args ds gs before hval0 hW _ hsz hL _
  have hT : TRep W := trep_of hL
  have hval : ∀ (j : Nat) t v, Tryd.f8.params[j]? = some t → args[j]? = some v → Value.okWide Tryd.prog W .any base t v := hval0
  have hW' := hW
  obtain ⟨p, q, hA0, hV, rfl, hfz, hnd⟩ := hW
  have hA : DataW.TrodAll enc Tryd.prog W 0 (fun _ => true) true Tryd.f8.params.toList args.toList ds p := hA0
  rw [Tryd.params8] at hA hval
  obtain ⟨v0, v1, v2, d0, d1, d2, p0, p1, p2, hargs, rfl, rfl, g0, g1, g2⟩ := trodAll_three hA
  have hargs' : args = #[v0, v1, v2] := by simpa using hargs
  subst hargs'
  obtain ⟨rfl, rfl⟩ := trodVars_none hV
  obtain ⟨x0, rfl, rfl, rfl, w0⟩ := open_int Tryd.underlying3 (hval 0 _ v0 rfl rfl) g0
  have hv1 := nums_open Tryd.underlying24 Tryd.underlying5 (by kernel_rfl) (hval 1 _ v1 rfl rfl) g1
  have hv2 := nums_open Tryd.underlying24 Tryd.underlying5 (by kernel_rfl) (hval 2 _ v2 rfl rfl) g2
  refine (macKeys_calls (wf_inR' w0) W hT hv1 hv2).mono fun e W' ⟨he, hb⟩ => ?_
  exact ⟨_, he, post_of_law laidOut (by rw [Tryd.params8]; decide +kernel) hW' rfl rfl Tryd.underlying4 rfl rfl rfl hb⟩

theorem macKeys_holds : Rows.MacKeysSaid :=
  OpenClaim.holds_of_wide 8 Tryd.f8 rfl rfl rfl rfl rfl rfl rfl ⟨rfl, rfl, rfl, rfl, rfl⟩ rfl rfl rfl rfl rfl (by kernel_rfl) Tryd.func8 (by kernel_rfl)
    (of_decide_eq_true (by kernel_rfl)) (by unfold Func.isWrapper; first | (rw [if_pos (by decide +kernel)]; kernel_rfl) | (rw [if_neg (by decide +kernel)]; exact ⟨rfl, rfl⟩))
    (fun os started H enc _ => macKeys_lifted os started H enc)
theorem macKeys_card_holds : Rows.MacKeysCardSaid :=
  Claim7.holds_tied_plain_at .later [] [.data, .data] true (true, "7d20f4ce6b7e1bf02bc0506ec776e8f2c2a086040d425b9cb2c45952e1d0c282") false macKeys_holds (fun _ h => by cases h) (by kernel_rfl) (fun _ h => by cases h) macKeys_row_tie rfl ⟨rfl, rfl⟩ (by kernel_rfl) rfl
    (fun f fn hf hfn => by
      obtain rfl : f = 8 := Option.some.inj (hf.symm.trans (by kernel_rfl))
      obtain rfl : fn = Tryd.f8 := (Option.some.inj (Tryd.func8.symm.trans hfn)).symm
      exact ⟨by kernel_rfl, fun j t ht => by
        rw [Tryd.params8] at ht
        have hm : t ∈ [3, 24, 24] := by simpa using Array.mem_of_getElem? ht
        have hall : ([3, 24, 24].all fun u => !Tryd.prog.wantsStandIn u) = true := by kernel_rfl
        exact (show Tryd.prog.wantsStandIn t = false by simpa using List.all_eq_true.1 hall t hm)⟩)
    (by kernel_rfl)
end Go.Proofs.YtljndahfackolaaDoor
