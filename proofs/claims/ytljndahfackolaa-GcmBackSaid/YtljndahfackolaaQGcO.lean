/- Blocks as coefficients, and back. Own work. -/
import Derived.Test.YtljndahfackolaaQGcN
set_option linter.unusedSimpArgs false
set_option linter.unusedVariables false
set_option linter.unusedSectionVars false
namespace Go.Gc
open Go.Ev Go.Sh
set_option maxRecDepth 100000
theorem rd_bits (L : List (BitVec 8)) (o : Nat) : ∀ n, ∀ j, j < 64 → ((List.range n).foldl (fun (a : BitVec 64) (i : Nat) => (a <<< 8) ||| (L.getD (o + i) 0#8).setWidth 64) 0#64).getLsbD j = (decide (j < 8 * n) && (L.getD (o + (n - 1 - j / 8)) 0#8).getLsbD (j % 8))
  | 0, j, _ => by simp
  | n + 1, j, hj => by
    rw [List.range_succ, List.foldl_append, List.foldl_cons, List.foldl_nil, BitVec.getLsbD_or, BitVec.getLsbD_shiftLeft, BitVec.getLsbD_setWidth, decide_eq_true hj]
    by_cases h8 : j < 8
    · have e1 : j / 8 = 0 := by omega
      have e2 : j % 8 = j := by omega
      rw [decide_eq_true h8, decide_eq_true (show j < 8 * (n + 1) by omega), e1, e2]
      simp
    · rw [decide_eq_false h8, rd_bits L o n (j - 8) (by omega), BitVec.getLsbD_of_ge (L.getD (o + n) 0#8) j (by omega)]
      simp only [Bool.not_false, Bool.and_true, Bool.true_and, Bool.and_false, Bool.or_false]
      by_cases hn : j < 8 * (n + 1)
      · rw [decide_eq_true hn, decide_eq_true (show j - 8 < 8 * n by omega), show n - 1 - (j - 8) / 8 = n + 1 - 1 - j / 8 by omega, show (j - 8) % 8 = j % 8 by omega]
      · rw [decide_eq_false hn, decide_eq_false (show ¬ j - 8 < 8 * n by omega)]; rfl
theorem cf_bytes (L : List (BitVec 8)) (m : Nat) (hm : m < 128) : cf (rdB L 0) (rdB L 8) m = (L.getD (m / 8) 0#8).getLsbD (7 - m % 8) := by
  unfold cf rdB
  split
  · rename_i h
    rw [rd_bits L 0 8 (63 - m) (by omega), decide_eq_true (show 63 - m < 8 * 8 by omega), Bool.true_and]
    congr 2 <;> omega
  · rename_i h
    rw [rd_bits L 8 8 (127 - m) (by omega), decide_eq_true (show 127 - m < 8 * 8 by omega), Bool.true_and]
    congr 2 <;> omega
theorem cf_out (h t : BitVec 64) (m : Nat) (hm : ¬ m < 128) : cf h t m = false := by
  unfold cf; rw [if_neg (by omega), if_neg hm]
theorem shrE8 (a : BitVec 8) (k : Nat) (hk : k ≤ 8) : ishr .u8 (E8 a) (k : Int) = E8 (a >>> k) := by
  unfold ishr
  rw [show min ((k : Int).toNat) IntKind.u8.bits = k by show min _ 8 = k; omega]
  unfold E8
  rw [BitVec.toNat_ushiftRight, Nat.shiftRight_eq_div_pow, Int.fdiv_eq_ediv_of_nonneg _ (Int.pow_nonneg (by omega))]
  rw [Int.natCast_ediv, Int.natCast_pow]
  rfl
theorem odd_e (x : BitVec 8) : ((E8 x).tmod 2 == 1) = x.getLsbD 0 := by
  unfold E8
  rw [Int.tmod_eq_emod_of_nonneg (by omega), BitVec.getLsbD, Nat.testBit_zero]
  rw [Bool.eq_iff_iff]
  simp only [beq_iff_eq, decide_eq_true_eq]
  omega
theorem div8 (m : Nat) : (m : Int).tdiv 8 = ((m / 8 : Nat) : Int) := by rw [Int.tdiv_eq_ediv_of_nonneg (by omega)]; omega
theorem mod8 (m : Nat) : (m : Int).tmod 8 = ((m % 8 : Nat) : Int) := by rw [Int.tmod_eq_emod_of_nonneg (by omega)]; omega
theorem ix8 (m : Nat) (hm : m < 128) : 0 + (IntKind.i64.wrap ((m : Int).tdiv 8)).toNat * 1 = m / 8 := by
  rw [div8, w64 (by omega)]; omega
theorem sh8 (m : Nat) : IntKind.i64.wrap (7 - (m : Int).tmod 8) = ((7 - m % 8 : Nat) : Int) := by
  rw [mod8, show (7 : Int) - ((m % 8 : Nat) : Int) = ((7 - m % 8 : Nat) : Int) by omega, w64 (by omega)]
theorem bitI_e (D : List (BitVec 8)) (m : Nat) (hm : m < 128) : bitI (D.map E8) (m : Int) = (D.getD (m / 8) 0#8).getLsbD (7 - m % 8) := by
  unfold bitI
  rw [ix8 m hm, sh8, getD_map8, shrE8 _ _ (by omega), odd_e, BitVec.getLsbD_ushiftRight, Nat.add_zero]
theorem ofN_len (l : List Int) (p : List Bool) : ∀ n, (ofN l p n).length = p.length
  | 0 => rfl
  | n + 1 => by unfold ofN; rw [List.length_set]; exact ofN_len l p n
theorem ofN_get (l : List Int) (p : List Bool) (hp : p.length = 128) : ∀ n, n ≤ 128 → ∀ m, gt (ofN l p n) m = if m < n then bitI l (m : Int) else gt p m
  | 0, _, m => by rw [if_neg (by omega)]; rfl
  | n + 1, h, m => by
    unfold ofN
    rw [show 0 + ((n : Int)).toNat * 1 = n by omega, gt_set _ _ _ (by rw [ofN_len]; omega)]
    by_cases h1 : m = n
    · subst h1; rw [if_pos rfl, if_pos (by omega)]
    · rw [if_neg h1, ofN_get l p hp n (by omega)]
      by_cases h2 : m < n
      · rw [if_pos h2, if_pos (by omega)]
      · rw [if_neg h2, if_neg (by omega)]
/-- A block's coefficients: the bytes that are left out are zeros. -/
theorem Rl.of (D D' : List (BitVec 8)) (e : Nat) (he : e ≤ 16) (h : ∀ i, i < 16 → D'.getD i 0#8 = if i < e then D.getD i 0#8 else 0#8) : Rl (ofL (D.map E8) e) (rdB D' 0) (rdB D' 8) := by
  refine ⟨by unfold ofL; rw [ofN_len]; rfl, ?_⟩
  funext m
  by_cases hm : m < 128
  · rw [decide_eq_true hm, Bool.true_and, cf_bytes _ _ hm, h _ (by omega)]
    unfold ofL
    rw [ofN_get _ _ rfl _ (by omega)]
    by_cases h1 : m < 8 * e
    · rw [if_pos h1, if_pos (by omega), bitI_e _ _ hm]
    · rw [if_neg h1, if_neg (by omega)]
      unfold gt no128
      rw [List.getD_eq_getElem?_getD, List.getElem?_replicate]
      split <;> simp
  · rw [decide_eq_false hm, cf_out _ _ _ hm]; rfl
-- handed out
def wS (f : Nat → Bool) : Nat → Int
  | 0 => 0
  | c + 1 => wS f c + cond (f c) ((2 : Int) ^ (7 - c)) 0
theorem wS_congr {f g : Nat → Bool} : ∀ n, (∀ i, i < n → f i = g i) → wS f n = wS g n
  | 0, _ => rfl
  | n + 1, h => by
    simp only [wS]
    rw [wS_congr n fun i hi => h i (by omega), h n (by omega)]
theorem wS_bound (f : Nat → Bool) : ∀ n, n ≤ 8 → 0 ≤ wS f n ∧ wS f n ≤ 256 - (2 : Int) ^ (8 - n)
  | 0, _ => ⟨Int.le_refl _, by show (0 : Int) ≤ 256 - 2 ^ (8 - 0); decide⟩
  | n + 1, h => by
    obtain ⟨h1, h2⟩ := wS_bound f n (by omega)
    have hn : n = 0 ∨ n = 1 ∨ n = 2 ∨ n = 3 ∨ n = 4 ∨ n = 5 ∨ n = 6 ∨ n = 7 := by omega
    simp only [wS]
    rcases hn with rfl | rfl | rfl | rfl | rfl | rfl | rfl | rfl <;> simp at h2 ⊢ <;> (cases f _) <;> simp only [cond_true, cond_false] <;> omega
theorem wS_byte : ∀ x : BitVec 8, wS (fun b => x.getLsbD (7 - b)) 8 = (x.toNat : Int) := by decide +kernel
theorem sh_one : ∀ r, r < 8 → ishl .u8 1 ((7 - r : Nat) : Int) = (2 : Int) ^ (7 - r) := by decide
theorem ouN_len (y : List Bool) (o : List Int) : ∀ n, (ouN y o n).length = o.length
  | 0 => rfl
  | n + 1 => by
    unfold ouN
    split
    · unfold ouA; rw [List.length_set]; exact ouN_len y o n
    · exact ouN_len y o n
theorem ouN_get (y : List Bool) : ∀ n, n ≤ 128 → ∀ k, k < 16 → (ouN y Z16 n).getD k 0 = wS (fun b => gt y (8 * k + b)) (min 8 (n - 8 * k))
  | 0, _, k, hk => by
    have : min 8 (0 - 8 * k) = 0 := by omega
    rw [this]
    show Z16.getD k 0 = 0
    unfold Z16
    rw [List.getD_eq_getElem?_getD, List.getElem?_replicate]; split <;> rfl
  | n + 1, h, k, hk => by
    have ih := ouN_get y n (by omega) k hk
    have hA : atI y (n : Int) = gt y n := by unfold atI gt; rw [show 0 + ((n : Int)).toNat * 1 = n by omega]
    unfold ouN
    rw [hA]
    by_cases hq : n / 8 = k
    · have e1 : min 8 (n - 8 * k) = n % 8 := by omega
      have e2 : min 8 (n + 1 - 8 * k) = n % 8 + 1 := by omega
      rw [e1] at ih
      rw [e2]
      simp only [wS]
      rw [show 8 * k + n % 8 = n by omega]
      cases hy : gt y n with
      | false => simp only [cond_false, Int.add_zero]; exact ih
      | true =>
        simp only [cond_true]
        unfold ouA
        rw [ix8 n (by omega), sh8, sh_one _ (by omega), hq, List.getD_eq_getElem?_getD, List.getElem?_set, if_pos rfl, if_pos (by rw [ouN_len]; exact hk), Option.getD_some, ih]
        obtain ⟨b1, b2⟩ := wS_bound (fun b => gt y (8 * k + b)) (n % 8) (by omega)
        rw [wrap8]
        have hn : n % 8 = 0 ∨ n % 8 = 1 ∨ n % 8 = 2 ∨ n % 8 = 3 ∨ n % 8 = 4 ∨ n % 8 = 5 ∨ n % 8 = 6 ∨ n % 8 = 7 := by omega
        rcases hn with e | e | e | e | e | e | e | e <;> rw [e] at b1 b2 ⊢ <;> simp at b2 ⊢ <;> omega
    · have e2 : min 8 (n + 1 - 8 * k) = min 8 (n - 8 * k) := by omega
      rw [e2]
      cases hy : gt y n with
      | false => exact ih
      | true =>
        simp only
        unfold ouA
        rw [ix8 n (by omega), List.getD_eq_getElem?_getD, List.getElem?_set, if_neg hq, ← List.getD_eq_getElem?_getD]
        exact ih
theorem blkB_bits (h t : BitVec 64) (k b : Nat) (hk : k < 16) (hb : b < 8) : ((blkB h t).getD k 0#8).getLsbD (7 - b) = cf h t (8 * k + b) := by
  rw [blk_get h t k hk]
  unfold cf
  split
  · rw [if_pos (by omega), BitVec.getLsbD_setWidth, BitVec.getLsbD_ushiftRight, decide_eq_true (by omega), Bool.true_and]
    congr 1; omega
  · rw [if_neg (by omega), if_pos (by omega), BitVec.getLsbD_setWidth, BitVec.getLsbD_ushiftRight, decide_eq_true (by omega), Bool.true_and]
    congr 1; omega
theorem Rl.out {y : List Bool} {h t : BitVec 64} (hy : Rl y h t) : ouN y Z16 128 = (blkB h t).map E8 := by
  apply List.ext_getElem?
  intro k
  have hl : ((blkB h t).map E8).length = 16 := by simp [blkB]
  by_cases hk : k < 16
  · have h1 := ouN_get y 128 (by omega) k hk
    have e : min 8 (128 - 8 * k) = 8 := by omega
    rw [e] at h1
    have h2 : wS (fun b => gt y (8 * k + b)) 8 = ((blkB h t).map E8).getD k 0 := by
      rw [getD_map8]
      unfold E8
      rw [← wS_byte]
      refine wS_congr 8 fun b hb => ?_
      rw [blkB_bits h t k b hk hb, ← hy.eq]
      simp only [decide_eq_true (show 8 * k + b < 128 by omega), Bool.true_and]
    rw [h2] at h1
    rw [List.getD_eq_getElem?_getD, List.getD_eq_getElem?_getD] at h1
    have l1 : k < (ouN y Z16 128).length := by rw [ouN_len]; exact hk
    rw [List.getElem?_eq_getElem l1, List.getElem?_eq_getElem (by omega)] at h1 ⊢
    simp only [Option.getD_some] at h1
    rw [h1]
  · rw [List.getElem?_eq_none (by rw [ouN_len]; show 16 ≤ k; omega), List.getElem?_eq_none (by omega)]
end Go.Gc
