/- Blocks as coefficients, and back. Own work. -/
import Derived.Test.YtfmgodgakndjcaaSKGcN
set_option linter.unusedSimpArgs false
set_option linter.unusedVariables false
set_option linter.unusedSectionVars false
namespace Go.Gc
open Go.Ev Go.Sh
set_option maxRecDepth 100000
theorem rd_bits (L : List (BitVec 8)) (o : Nat) : ∀ n, ∀ j, j < 64 → ((List.range n).foldl (fun (a : BitVec 64) (i : Nat) => (a <<< 8) ||| (L.getD (o + i) 0#8).setWidth 64) 0#64).getLsbD j = (decide (j < 8 * n) && (L.getD (o + (n - 1 - j / 8)) 0#8).getLsbD (j % 8))
  | 0, j, _ => by simp
  | n + 1, j, hj => by
    rw [List.range_succ, List.foldl_append, List.foldl_cons, List.foldl_nil, BitVec.getLsbD_or, BitVec.getLsbD_shiftLeft, BitVec.getLsbD_setWidth, decide_eq_true hj]
    by_cases h8 : j < 8
    · have e1 : j / 8 = 0 := by omega
      have e2 : j % 8 = j := by omega
      rw [decide_eq_true h8, decide_eq_true (show j < 8 * (n + 1) by omega), e1, e2]
      simp
    · rw [decide_eq_false h8, rd_bits L o n (j - 8) (by omega), BitVec.getLsbD_of_ge (L.getD (o + n) 0#8) j (by omega)]
      simp only [Bool.not_false, Bool.and_true, Bool.true_and, Bool.and_false, Bool.or_false]
      by_cases hn : j < 8 * (n + 1)
      · rw [decide_eq_true hn, decide_eq_true (show j - 8 < 8 * n by omega), show n - 1 - (j - 8) / 8 = n + 1 - 1 - j / 8 by omega, show (j - 8) % 8 = j % 8 by omega]
      · rw [decide_eq_false hn, decide_eq_false (show ¬ j - 8 < 8 * n by omega)]; rfl
theorem cf_bytes (L : List (BitVec 8)) (m : Nat) (hm : m < 128) : cf (rdB L 0) (rdB L 8) m = (L.getD (m / 8) 0#8).getLsbD (7 - m % 8) := by
  unfold cf rdB
  split
  · rename_i h
    rw [rd_bits L 0 8 (63 - m) (by omega), decide_eq_true (show 63 - m < 8 * 8 by omega), Bool.true_and]
    congr 2 <;> omega
  · rename_i h
    rw [rd_bits L 8 8 (127 - m) (by omega), decide_eq_true (show 127 - m < 8 * 8 by omega), Bool.true_and]
    congr 2 <;> omega
theorem cf_out (h t : BitVec 64) (m : Nat) (hm : ¬ m < 128) : cf h t m = false := by
  unfold cf; rw [if_neg (by omega), if_neg hm]
theorem shrE8 (a : BitVec 8) (k : Nat) (hk : k ≤ 8) : ishr .u8 (E8 a) (k : Int) = E8 (a >>> k) := by
  unfold ishr
  rw [show min ((k : Int).toNat) IntKind.u8.bits = k by show min _ 8 = k; omega]
  unfold E8
  rw [BitVec.toNat_ushiftRight, Nat.shiftRight_eq_div_pow, Int.fdiv_eq_ediv_of_nonneg _ (Int.pow_nonneg (by omega))]
  rw [Int.natCast_ediv, Int.natCast_pow]
  rfl
theorem odd_e (x : BitVec 8) : ((E8 x).tmod 2 == 1) = x.getLsbD 0 := by
  unfold E8
  rw [Int.tmod_eq_emod_of_nonneg (by omega), BitVec.getLsbD, Nat.testBit_zero]
  rw [Bool.eq_iff_iff]
  simp only [beq_iff_eq, decide_eq_true_eq]
  omega
theorem div8 (m : Nat) : (m : Int).tdiv 8 = ((m / 8 : Nat) : Int) := by rw [Int.tdiv_eq_ediv_of_nonneg (by omega)]; omega
theorem mod8 (m : Nat) : (m : Int).tmod 8 = ((m % 8 : Nat) : Int) := by rw [Int.tmod_eq_emod_of_nonneg (by omega)]; omega
theorem ix8 (m : Nat) (hm : m < 128) : 0 + (IntKind.i64.wrap ((m : Int).tdiv 8)).toNat * 1 = m / 8 := by
  rw [div8, w64 (by omega)]; omega
theorem sh8 (m : Nat) : IntKind.i64.wrap (7 - (m : Int).tmod 8) = ((7 - m % 8 : Nat) : Int) := by
  rw [mod8, show (7 : Int) - ((m % 8 : Nat) : Int) = ((7 - m % 8 : Nat) : Int) by omega, w64 (by omega)]
theorem bitI_e (D : List (BitVec 8)) (m : Nat) (hm : m < 128) : bitI (D.map E8) (m : Int) = (D.getD (m / 8) 0#8).getLsbD (7 - m % 8) := by
  unfold bitI
  rw [ix8 m hm, sh8, getD_map8, shrE8 _ _ (by omega), odd_e, BitVec.getLsbD_ushiftRight, Nat.add_zero]
theorem ofN_len (l : List Int) (p : List Bool) : ∀ n, (ofN l p n).length = p.length
  | 0 => rfl
  | n + 1 => by unfold ofN; rw [List.length_set]; exact ofN_len l p n
theorem ofN_get (l : List Int) (p : List Bool) (hp : p.length = 128) : ∀ n, n ≤ 128 → ∀ m, gt (ofN l p n) m = if m < n then bitI l (m : Int) else gt p m
  | 0, _, m => by rw [if_neg (by omega)]; rfl
  | n + 1, h, m => by
    unfold ofN
    rw [show 0 + ((n : Int)).toNat * 1 = n by omega, gt_set _ _ _ (by rw [ofN_len]; omega)]
    by_cases h1 : m = n
    · subst h1; rw [if_pos rfl, if_pos (by omega)]
    · rw [if_neg h1, ofN_get l p hp n (by omega)]
      by_cases h2 : m < n
      · rw [if_pos h2, if_pos (by omega)]
      · rw [if_neg h2, if_neg (by omega)]
/-- A block's coefficients: the bytes that are left out are zeros. -/
theorem Rl.of (D D' : List (BitVec 8)) (e : Nat) (he : e ≤ 16) (h : ∀ i, i < 16 → D'.getD i 0#8 = if i < e then D.getD i 0#8 else 0#8) : Rl (ofL (D.map E8) e) (rdB D' 0) (rdB D' 8) := by
  refine ⟨by unfold ofL; rw [ofN_len]; rfl, ?_⟩
  funext m
  by_cases hm : m < 128
  · rw [decide_eq_true hm, Bool.true_and, cf_bytes _ _ hm, h _ (by omega)]
    unfold ofL
    rw [ofN_get _ _ rfl _ (by omega)]
    by_cases h1 : m < 8 * e
    · rw [if_pos h1, if_pos (by omega), bitI_e _ _ hm]
    · rw [if_neg h1, if_neg (by omega)]
      unfold gt no128
      rw [List.getD_eq_getElem?_getD, List.getElem?_replicate]
      split <;> simp
  · rw [decide_eq_false hm, cf_out _ _ _ hm]; rfl
-- handed out
def wS (f : Nat → Bool) : Nat → Int
  | 0 => 0
  | c + 1 => wS f c + cond (f c) ((2 : Int) ^ (7 - c)) 0
theorem wS_congr {f g : Nat → Bool} : ∀ n, (∀ i, i < n → f i = g i) → wS f n = wS g n
  | 0, _ => rfl
  | n + 1, h => by
    simp only [wS]
    rw [wS_congr n fun i hi => h i (by omega), h n (by omega)]
theorem wS_bound (f : Nat → Bool) : ∀ n, n ≤ 8 → 0 ≤ wS f n ∧ wS f n ≤ 256 - (2 : Int) ^ (8 - n)
  | 0, _ => ⟨Int.le_refl _, by show (0 : Int) ≤ 256 - 2 ^ (8 - 0); decide⟩
  | n + 1, h => by
    obtain ⟨h1, h2⟩ := wS_bound f n (by omega)
    have hn : n = 0 ∨ n = 1 ∨ n = 2 ∨ n = 3 ∨ n = 4 ∨ n = 5 ∨ n = 6 ∨ n = 7 := by omega
    simp only [wS]
    rcases hn with rfl | rfl | rfl | rfl | rfl | rfl | rfl | rfl <;> simp at h2 ⊢ <;> (cases f _) <;> simp only [cond_true, cond_false] <;> omega
theorem wS_byte : ∀ x : BitVec 8, wS (fun b => x.getLsbD (7 - b)) 8 = (x.toNat : Int) := by decide +kernel
theorem sh_one : ∀ r, r < 8 → ishl .u8 1 ((7 - r : Nat) : Int) = (2 : Int) ^ (7 - r) := by decide
theorem ouN_len (y : List Bool) (o : List Int) : ∀ n, (ouN y o n).length = o.length
  | 0 => rfl
  | n + 1 => by
    unfold ouN
    split
    · unfold ouA; rw [List.length_set]; exact ouN_len y o n
    · exact ouN_len y o n
theorem ouN_get (y : List Bool) : ∀ n, n ≤ 128 → ∀ k, k < 16 → (ouN y Z16 n).getD k 0 = wS (fun b => gt y (8 * k + b)) (min 8 (n - 8 * k))
  | 0, _, k, hk => by
    have : min 8 (0 - 8 * k) = 0 := by omega
    rw [this]
    show Z16.getD k 0 = 0
    unfold Z16
    rw [List.getD_eq_getElem?_getD, List.getElem?_replicate]; split <;> rfl
  | n + 1, h, k, hk => by
    have ih := ouN_get y n (by omega) k hk
    have hA : atI y (n : Int) = gt y n := by unfold atI gt; rw [show 0 + ((n : Int)).toNat * 1 = n by omega]
    unfold ouN
    rw [hA]
    by_cases hq : n / 8 = k
    · have e1 : min 8 (n - 8 * k) = n % 8 := by omega
      have e2 : min 8 (n + 1 - 8 * k) = n % 8 + 1 := by omega
      rw [e1] at ih
      rw [e2]
      simp only [wS]
      rw [show 8 * k + n % 8 = n by omega]
      cases hy : gt y n with
      | false => simp only [cond_false, Int.add_zero]; exact ih
      | true =>
        simp only [cond_true]
        unfold ouA
        rw [ix8 n (by omega), sh8, sh_one _ (by omega), hq, List.getD_eq_getElem?_getD, List.getElem?_set, if_pos rfl, if_pos (by rw [ouN_len]; exact hk), Option.getD_some, ih]
        obtain ⟨b1, b2⟩ := wS_bound (fun b => gt y (8 * k + b)) (n % 8) (by omega)
        rw [wrap8]
        have hn : n % 8 = 0 ∨ n % 8 = 1 ∨ n % 8 = 2 ∨ n % 8 = 3 ∨ n % 8 = 4 ∨ n % 8 = 5 ∨ n % 8 = 6 ∨ n % 8 = 7 := by omega
        rcases hn with e | e | e | e | e | e | e | e <;> rw [e] at b1 b2 ⊢ <;> simp at b2 ⊢ <;> omega
    · have e2 : min 8 (n + 1 - 8 * k) = min 8 (n - 8 * k) := by omega
      rw [e2]
      cases hy : gt y n with
      | false => exact ih
      | true =>
        simp only
        unfold ouA
        rw [ix8 n (by omega), List.getD_eq_getElem?_getD, List.getElem?_set, if_neg hq, ← List.getD_eq_getElem?_getD]
        exact ih
theorem blkB_bits (h t : BitVec 64) (k b : Nat) (hk : k < 16) (hb : b < 8) : ((blkB h t).getD k 0#8).getLsbD (7 - b) = cf h t (8 * k + b) := by
  rw [blk_get h t k hk]
  unfold cf
  split
  · rw [if_pos (by omega), BitVec.getLsbD_setWidth, BitVec.getLsbD_ushiftRight, decide_eq_true (by omega), Bool.true_and]
    congr 1; omega
  · rw [if_neg (by omega), if_pos (by omega), BitVec.getLsbD_setWidth, BitVec.getLsbD_ushiftRight, decide_eq_true (by omega), Bool.true_and]
    congr 1; omega
theorem Rl.out {y : List Bool} {h t : BitVec 64} (hy : Rl y h t) : ouN y Z16 128 = (blkB h t).map E8 := by
  apply List.ext_getElem?
  intro k
  have hl : ((blkB h t).map E8).length = 16 := by simp [blkB]
  by_cases hk : k < 16
  · have h1 := ouN_get y 128 (by omega) k hk
    have e : min 8 (128 - 8 * k) = 8 := by omega
    rw [e] at h1
    have h2 : wS (fun b => gt y (8 * k + b)) 8 = ((blkB h t).map E8).getD k 0 := by
      rw [getD_map8]
      unfold E8
      rw [← wS_byte]
      refine wS_congr 8 fun b hb => ?_
      rw [blkB_bits h t k b hk hb, ← hy.eq]
      simp only [decide_eq_true (show 8 * k + b < 128 by omega), Bool.true_and]
    rw [h2] at h1
    rw [List.getD_eq_getElem?_getD, List.getD_eq_getElem?_getD] at h1
    have l1 : k < (ouN y Z16 128).length := by rw [ouN_len]; exact hk
    rw [List.getElem?_eq_getElem l1, List.getElem?_eq_getElem (by omega)] at h1 ⊢
    simp only [Option.getD_some] at h1
    rw [h1]
  · rw [List.getElem?_eq_none (by rw [ouN_len]; show 16 ≤ k; omega), List.getElem?_eq_none (by omega)]
end Go.Gc
namespace Go.Gc
open Go.Ev Go.Sh Go.As
set_option maxRecDepth 100000
def lenR (n : Nat) : Int := IntKind.u64.wrap (IntKind.u64.wrap (n : Int) * 8)
/-- The reference's hash, as a value. -/
def hashR (h : List Int) (l : List Int) (n : Nat) (q : List Int) (m : Nat) : List Int :=
  ouN (timesB (xoN (ofL (blkP (lenR n) (lenR m)) 16) (absRW q m (ofL h 16) (absRW l n (ofL h 16) no128)) 128) (ofL h 16)) Z16 128
theorem bytesE {l : List Int} (h : ∀ x ∈ l, inR .u8 x = true) : ∃ L : List (BitVec 8), l = L.map E8 := by
  refine ⟨l.map (BitVec.ofInt 8), ?_⟩
  rw [List.map_map]
  have e : l.map (E8 ∘ BitVec.ofInt 8) = l.map id := List.map_congr_left fun x hx => by
    have h8 : 0 ≤ x ∧ x < 256 := by have := h x hx; rw [inR_iff] at this; simp only [lo, hi] at this; omega
    simp only [Function.comp, E8, BitVec.toNat_ofInt, id]
    omega
  rw [e, List.map_id]
theorem eT_eq (n j : Nat) (hn : n < 1000000000) (hj : 16 * j < n) : eT n ((16 * j : Nat) : Int) = min 16 (n - 16 * j) := by
  have hw : IntKind.i64.wrap (((16 * j : Nat) : Int) + 16) = ((16 * j : Nat) : Int) + 16 := by unfold IntKind.wrap; simp [IntKind.bits, IntKind.signed]; omega
  unfold eT hiT
  rw [hw]
  split <;> omega
theorem getD_take_drop (L : List (BitVec 8)) (o e i : Nat) : ((L.drop o).take e).getD i 0#8 = if i < e then L.getD (o + i) 0#8 else 0#8 := by
  rw [List.getD_eq_getElem?_getD, List.getD_eq_getElem?_getD]
  split
  · rename_i h; rw [List.getElem?_take_of_lt h, List.getElem?_drop]
  · rename_i h; rw [List.getElem?_eq_none (by rw [List.length_take]; omega)]; rfl
theorem abs_rel {L : List (BitVec 8)} {n : Nat} (hL : L.length = n) (hn : n < 1000000000) {k : List Bool} {kh kt : BitVec 64} (hk : Rl k kh kt) {y0 : List Bool} {ph pt : BitVec 64} (h0 : Rl y0 ph pt) :
    ∀ j, j ≤ (n + 15) / 16 → ∃ a b, absN (L.map E8) n (E kh, E kt) (E ph, E pt) j = (E a, E b) ∧ Rl (absR (L.map E8) n k y0 j) a b
  | 0, _ => ⟨ph, pt, rfl, h0⟩
  | j + 1, hj => by
    obtain ⟨a, b, e1, e2⟩ := abs_rel hL hn hk h0 j (by omega)
    have hlt : 16 * j < n := by omega
    have he := eT_eq n j hn hlt
    refine ⟨(mulB (a ^^^ rdB (blkTB L (16 * j) (n - 16 * j)) 0) (b ^^^ rdB (blkTB L (16 * j) (n - 16 * j)) 8) kh kt).sh, (mulB (a ^^^ rdB (blkTB L (16 * j) (n - 16 * j)) 0) (b ^^^ rdB (blkTB L (16 * j) (n - 16 * j)) 8) kh kt).st, ?_, ?_⟩
    · simp only [absN, e1, mulX, blkT_e, rd_e, xorE, mul_e]
      rfl
    · simp only [absR, haY, he]
      rw [show 0 + (((16 * j : Nat) : Int)).toNat * 1 = 16 * j by omega, ← List.map_drop, ← List.map_take]
      refine Rl.times (Rl.xo e2 (Rl.of _ _ _ (by omega) fun i hi => ?_)) hk
      rw [blkTB_get L n _ hL, if_pos hi, getD_take_drop]
      split
      · rfl
      · have : L.getD (16 * j + i) 0#8 = 0#8 := by rw [List.getD_eq_getElem?_getD, List.getElem?_eq_none (by omega)]; rfl
        exact this
theorem Rl.zero : Rl no128 0#64 0#64 := by
  refine ⟨rfl, ?_⟩
  funext m
  have : gt no128 m = false := by
    unfold gt no128
    rw [List.getD_eq_getElem?_getD, List.getElem?_replicate]
    split <;> rfl
  show (decide (m < 128) && gt no128 m) = _
  rw [this, Bool.and_false]
  unfold cf
  simp
theorem lenW_E (n : Nat) : lenW n = E (BitVec.ofNat 64 (8 * n)) := by
  unfold lenW E
  rw [wrap64, wrap64, BitVec.toNat_ofNat]
  omega
theorem lenR_W (n : Nat) : lenR n = lenW n := by unfold lenR lenW; rw [Int.mul_comm]
theorem cf_blkB (a b : BitVec 64) : cf (rdB (blkB a b) 0) (rdB (blkB a b) 8) = cf a b := by
  funext m
  by_cases hm : m < 128
  · rw [cf_bytes _ _ hm, show 7 - m % 8 = 7 - (m % 8) from rfl, blkB_bits a b (m / 8) (m % 8) (by omega) (by omega)]
    congr 1
    omega
  · rw [cf_out _ _ _ hm, cf_out _ _ _ hm]
theorem hash_same {h l q : List Int} {n m : Nat} (kh : h.length = 16) (rh : ∀ x ∈ h, inR .u8 x = true) (rl : ∀ x ∈ l, inR .u8 x = true) (rq : ∀ x ∈ q, inR .u8 x = true) (hl : l.length = n) (hq : q.length = m) (hn : n < 1000000000) (hm : m < 1000000000) :
    hashR h l n q m = hashG h l n q m := by
  obtain ⟨H, rfl⟩ := bytesE rh
  obtain ⟨L, rfl⟩ := bytesE rl
  obtain ⟨Q, rfl⟩ := bytesE rq
  rw [List.length_map] at kh hl hq
  have hK : Rl (ofL (H.map E8) 16) (rdB H 0) (rdB H 8) := Rl.of H H 16 (by omega) fun i hi => by rw [if_pos hi]
  obtain ⟨a, b, e1, e2⟩ := abs_rel hl hn hK Rl.zero _ (Nat.le_refl _)
  obtain ⟨c, d, e3, e4⟩ := abs_rel hq hm hK e2 _ (Nat.le_refl _)
  have hLn : Rl (ofL (blkP (lenR n) (lenR m)) 16) (BitVec.ofNat 64 (8 * n)) (BitVec.ofNat 64 (8 * m)) := by
    rw [lenR_W, lenR_W, lenW_E, lenW_E, blk_e]
    have := Rl.of (blkB (BitVec.ofNat 64 (8 * n)) (BitVec.ofNat 64 (8 * m))) (blkB (BitVec.ofNat 64 (8 * n)) (BitVec.ofNat 64 (8 * m))) 16 (by omega) fun i hi => by rw [if_pos hi]
    exact ⟨this.len, this.eq.trans (cf_blkB _ _)⟩
  have ho := (Rl.times (Rl.xo e4 hLn) hK).out
  unfold hashR absRW
  rw [ho]
  unfold hashG keyG mulX0 absW
  rw [rd_e, rd_e]
  have z : ((0 : Int), (0 : Int)) = (E 0#64, E 0#64) := rfl
  rw [z, e1, e3, lenW_E, lenW_E]
  simp only [xorE, mul_e]
  exact (blk_e _ _).symm
end Go.Gc
namespace Go.Proofs.Ytfmgodgakndjcaa
open Go.Ev Go.Sh Go.As Go.Gc
set_option maxRecDepth 100000
def haΛ : LoopH := haΛ1 (haΛ2 (ouΛ fun _ _ => none))
theorem ha_lok : LOk Try.prog (bodyOf Try.prog 44) haΛ := ha1_lok (ha2_lok (ou_lok LOk.none))
theorem hashR_nilnil (h : List Int) : res (funcL Try.prog qP (deep Try.prog qP hr0 100 3) haΛ 100 44 (cArgs 0 [.pl (.ints .u8 16 h), .pl .nilslice, .pl .nilslice]) (cMem [.pl (.ints .u8 16 h), .pl .nilslice, .pl .nilslice])) = some ([true, true, true], .ints .u8 16 (hashR h [] 0 [] 0)) := by kernel_rfl
theorem hashR_nilemp (h : List Int) : res (funcL Try.prog qP (deep Try.prog qP hr0 100 3) haΛ 100 44 (cArgs 0 [.pl (.ints .u8 16 h), .pl .nilslice, .empty]) (cMem [.pl (.ints .u8 16 h), .pl .nilslice, .empty])) = some ([true, true, true, true], .ints .u8 16 (hashR h [] 0 [] 0)) := by kernel_rfl
theorem hashR_nilbuf (h : List Int) (m : Nat) (q : List Int) : res (funcL Try.prog qP (deep Try.prog qP hr0 100 3) haΛ 100 44 (cArgs 0 [.pl (.ints .u8 16 h), .pl .nilslice, .buf true .u8 m q]) (cMem [.pl (.ints .u8 16 h), .pl .nilslice, .buf true .u8 m q])) = some ([true, decide (m < 1000000000), true, decide (m = m), decide (m = m), decide (TX.nil = TX.nil), decide (m < 9223372036854775808), decide (m < 9223372036854775808), decide (m < 9223372036854775808), decide (m < 9223372036854775808), decide (m < 9223372036854775808), decide (m < 9223372036854775808), decide (m < 9223372036854775808), decide (m < 9223372036854775808), true, true, true, decide (m = m)], .ints .u8 16 (hashR h [] 0 q m)) := by kernel_rfl
theorem hashR_empnil (h : List Int) : res (funcL Try.prog qP (deep Try.prog qP hr0 100 3) haΛ 100 44 (cArgs 0 [.pl (.ints .u8 16 h), .empty, .pl .nilslice]) (cMem [.pl (.ints .u8 16 h), .empty, .pl .nilslice])) = some ([true, true, true, true], .ints .u8 16 (hashR h [] 0 [] 0)) := by kernel_rfl
theorem hashR_empemp (h : List Int) : res (funcL Try.prog qP (deep Try.prog qP hr0 100 3) haΛ 100 44 (cArgs 0 [.pl (.ints .u8 16 h), .empty, .empty]) (cMem [.pl (.ints .u8 16 h), .empty, .empty])) = some ([true, true, true, true, true], .ints .u8 16 (hashR h [] 0 [] 0)) := by kernel_rfl
theorem hashR_empbuf (h : List Int) (m : Nat) (q : List Int) : res (funcL Try.prog qP (deep Try.prog qP hr0 100 3) haΛ 100 44 (cArgs 0 [.pl (.ints .u8 16 h), .empty, .buf true .u8 m q]) (cMem [.pl (.ints .u8 16 h), .empty, .buf true .u8 m q])) = some ([true, decide (m < 1000000000), true, decide (m = m), decide (m = m), decide (TX.emp = TX.emp), true, true, decide (m < 9223372036854775808), decide (m < 9223372036854775808), decide (m < 9223372036854775808), decide (m < 9223372036854775808), decide (m < 9223372036854775808), decide (m < 9223372036854775808), decide (m < 9223372036854775808), decide (m < 9223372036854775808), true, true, true, true, decide (m = m)], .ints .u8 16 (hashR h [] 0 q m)) := by kernel_rfl
theorem hashR_bufnil (h : List Int) (n : Nat) (l : List Int) : res (funcL Try.prog qP (deep Try.prog qP hr0 100 3) haΛ 100 44 (cArgs 0 [.pl (.ints .u8 16 h), .buf true .u8 n l, .pl .nilslice]) (cMem [.pl (.ints .u8 16 h), .buf true .u8 n l, .pl .nilslice])) = some ([true, decide (n < 1000000000), true, decide (n = n), decide (n = n), decide (TX.nil = TX.nil), decide (n < 9223372036854775808), decide (n < 9223372036854775808), decide (n < 9223372036854775808), decide (n < 9223372036854775808), decide (n < 9223372036854775808), decide (n < 9223372036854775808), decide (n < 9223372036854775808), decide (n < 9223372036854775808), true, true, true, decide (n = n)], .ints .u8 16 (hashR h l n [] 0)) := by kernel_rfl
theorem hashR_bufemp (h : List Int) (n : Nat) (l : List Int) : res (funcL Try.prog qP (deep Try.prog qP hr0 100 3) haΛ 100 44 (cArgs 0 [.pl (.ints .u8 16 h), .buf true .u8 n l, .empty]) (cMem [.pl (.ints .u8 16 h), .buf true .u8 n l, .empty])) = some ([true, decide (n < 1000000000), true, decide (n = n), decide (n = n), decide (TX.emp = TX.emp), true, true, decide (n < 9223372036854775808), decide (n < 9223372036854775808), decide (n < 9223372036854775808), decide (n < 9223372036854775808), decide (n < 9223372036854775808), decide (n < 9223372036854775808), decide (n < 9223372036854775808), decide (n < 9223372036854775808), true, true, true, decide (n = n), true], .ints .u8 16 (hashR h l n [] 0)) := by kernel_rfl
theorem hashR_bufbuf (h : List Int) (n : Nat) (l : List Int) (m : Nat) (q : List Int) : res (funcL Try.prog qP (deep Try.prog qP hr0 100 3) haΛ 100 44 (cArgs 0 [.pl (.ints .u8 16 h), .buf true .u8 n l, .buf true .u8 m q]) (cMem [.pl (.ints .u8 16 h), .buf true .u8 n l, .buf true .u8 m q])) = some ([true, decide (n < 1000000000), true, decide (n = n), decide (n = n), decide ((TX.buf m q) = (TX.buf m q)), true, decide (m = m), true, decide (m = m), decide (m < 1000000000), true, decide (m = m), decide (m = m), decide ((TX.buf n l) = (TX.buf n l)), true, decide (n = n), true, decide (n = n), decide (n < 9223372036854775808), decide (m < 9223372036854775808), decide (n < 9223372036854775808), decide (m < 9223372036854775808), decide (n < 9223372036854775808), decide (m < 9223372036854775808), decide (n < 9223372036854775808), decide (m < 9223372036854775808), decide (n < 9223372036854775808), decide (m < 9223372036854775808), decide (n < 9223372036854775808), decide (m < 9223372036854775808), decide (n < 9223372036854775808), decide (m < 9223372036854775808), decide (n < 9223372036854775808), decide (m < 9223372036854775808), true, true, true, decide (n = n), true, decide (m = m)], .ints .u8 16 (hashR h l n q m)) := by kernel_rfl
def txt9 : V → Option (List Bool × Nat × List Int)
  | .buf _ .u8 n l => some ([decide (n < 1000000000)], n, l)
  | .pl .nilslice => some ([], 0, [])
  | .empty => some ([], 0, [])
  | _ => none
/-- The reference's hash answers the program's. -/
def hashRS : List V → E (AV × Mem)
  | [.pl (.ints .u8 16 h), x, y] => match txt9 x, txt9 y with
    | some (o1, n, l), some (o2, m, q) => some (o1 ++ o2, (.ints .u8 16 (hashG h l n q m), []))
    | _, _ => none
  | _ => none
theorem hashR_ok {xs : List V} {o : List Bool} {v : AV} {bs : Mem} (h : hashRS xs = some (o, (v, bs))) (ho : Paid o) : ViewCall Try.prog 44 xs v bs := by
  unfold hashRS at h
  split at h
  · rename_i h0 x y
    split at h
    · rename_i o1 n l o2 m q h1 h2
      cases h
      obtain ⟨p1, p2⟩ := paid_append.1 ho
      intro ρ vs w ha hi
      cases ha with
      | cons _ _ u us a1 hs =>
      cases hs with
      | cons _ _ u2 us2 a2 hs =>
      cases hs with
      | cons _ _ u3 us3 a3 hn =>
      cases hn
      have hh : h0.length = 16 ∧ ∀ x ∈ h0, inR .u8 x = true := by cases a1 with | ints _ _ _ hn hl => exact ⟨hn, hl⟩
      have LO : ∀ (fn : Func) (c : Code), Try.prog.funcs[44]? = some fn → fn.body = some c → LOk Try.prog c haΛ := fun fn c hf hb => by rw [bodyOf_eq hf hb]; exact ha_lok
      have none9 : ∀ x ∈ ([] : List Int), inR .u8 x = true := fun x hx => by cases hx
      unfold txt9 at h1 h2
      split at h1 <;> cases h1 <;> split at h2 <;> cases h2
      · have hn := of_decide_eq_true (p1 _ (List.mem_cons_self ..))
        obtain ⟨l1, l2⟩ := buf_arg hi 1 rfl
        have hm := of_decide_eq_true (p2 _ (List.mem_cons_self ..))
        obtain ⟨m1, m2⟩ := buf_arg hi 2 rfl
        have ev := hashR_bufbuf h0 n l m q
        rw [hash_same hh.1 hh.2 l2 m2 l1 m1 hn hm] at ev
        exact view_of_resL mixed noCount (hr0_ok.deep mixed noCount 100 3) LO ev (paid_cons rfl (paid_cons (decide_eq_true hn) (paid_cons rfl (paid_cons (decide_eq_true rfl) (paid_cons (decide_eq_true rfl) (paid_cons (decide_eq_true rfl) (paid_cons rfl (paid_cons (decide_eq_true rfl) (paid_cons rfl (paid_cons (decide_eq_true rfl) (paid_cons (decide_eq_true hm) (paid_cons rfl (paid_cons (decide_eq_true rfl) (paid_cons (decide_eq_true rfl) (paid_cons (decide_eq_true rfl) (paid_cons rfl (paid_cons (decide_eq_true rfl) (paid_cons rfl (paid_cons (decide_eq_true rfl) (paid_cons (decide_eq_true (by omega)) (paid_cons (decide_eq_true (by omega)) (paid_cons (decide_eq_true (by omega)) (paid_cons (decide_eq_true (by omega)) (paid_cons (decide_eq_true (by omega)) (paid_cons (decide_eq_true (by omega)) (paid_cons (decide_eq_true (by omega)) (paid_cons (decide_eq_true (by omega)) (paid_cons (decide_eq_true (by omega)) (paid_cons (decide_eq_true (by omega)) (paid_cons (decide_eq_true (by omega)) (paid_cons (decide_eq_true (by omega)) (paid_cons (decide_eq_true (by omega)) (paid_cons (decide_eq_true (by omega)) (paid_cons (decide_eq_true (by omega)) (paid_cons (decide_eq_true (by omega)) (paid_cons rfl (paid_cons rfl (paid_cons rfl (paid_cons (decide_eq_true rfl) (paid_cons rfl (paid_cons (decide_eq_true rfl) Paid.nil))))))))))))))))))))))))))))))))))))))))) rfl rfl (.cons _ _ _ _ a1 (.cons _ _ _ _ (marked true a2) (.cons _ _ _ _ (marked true a3) .nil))) hi
      · have hn := of_decide_eq_true (p1 _ (List.mem_cons_self ..))
        obtain ⟨l1, l2⟩ := buf_arg hi 1 rfl
        have ev := hashR_bufnil h0 n l
        rw [hash_same hh.1 hh.2 l2 none9 l1 (show ([] : List Int).length = 0 from rfl) hn (by decide)] at ev
        exact view_of_resL mixed noCount (hr0_ok.deep mixed noCount 100 3) LO ev (paid_cons rfl (paid_cons (decide_eq_true hn) (paid_cons rfl (paid_cons (decide_eq_true rfl) (paid_cons (decide_eq_true rfl) (paid_cons (decide_eq_true rfl) (paid_cons (decide_eq_true (by omega)) (paid_cons (decide_eq_true (by omega)) (paid_cons (decide_eq_true (by omega)) (paid_cons (decide_eq_true (by omega)) (paid_cons (decide_eq_true (by omega)) (paid_cons (decide_eq_true (by omega)) (paid_cons (decide_eq_true (by omega)) (paid_cons (decide_eq_true (by omega)) (paid_cons rfl (paid_cons rfl (paid_cons rfl (paid_cons (decide_eq_true rfl) Paid.nil)))))))))))))))))) rfl rfl (.cons _ _ _ _ a1 (.cons _ _ _ _ (marked true a2) (.cons _ _ _ _ a3 .nil))) hi
      · have hn := of_decide_eq_true (p1 _ (List.mem_cons_self ..))
        obtain ⟨l1, l2⟩ := buf_arg hi 1 rfl
        have ev := hashR_bufemp h0 n l
        rw [hash_same hh.1 hh.2 l2 none9 l1 (show ([] : List Int).length = 0 from rfl) hn (by decide)] at ev
        exact view_of_resL mixed noCount (hr0_ok.deep mixed noCount 100 3) LO ev (paid_cons rfl (paid_cons (decide_eq_true hn) (paid_cons rfl (paid_cons (decide_eq_true rfl) (paid_cons (decide_eq_true rfl) (paid_cons (decide_eq_true rfl) (paid_cons rfl (paid_cons rfl (paid_cons (decide_eq_true (by omega)) (paid_cons (decide_eq_true (by omega)) (paid_cons (decide_eq_true (by omega)) (paid_cons (decide_eq_true (by omega)) (paid_cons (decide_eq_true (by omega)) (paid_cons (decide_eq_true (by omega)) (paid_cons (decide_eq_true (by omega)) (paid_cons (decide_eq_true (by omega)) (paid_cons rfl (paid_cons rfl (paid_cons rfl (paid_cons (decide_eq_true rfl) (paid_cons rfl Paid.nil))))))))))))))))))))) rfl rfl (.cons _ _ _ _ a1 (.cons _ _ _ _ (marked true a2) (.cons _ _ _ _ a3 .nil))) hi
      · have hm := of_decide_eq_true (p2 _ (List.mem_cons_self ..))
        obtain ⟨m1, m2⟩ := buf_arg hi 2 rfl
        have ev := hashR_nilbuf h0 m q
        rw [hash_same hh.1 hh.2 none9 m2 (show ([] : List Int).length = 0 from rfl) m1 (by decide) hm] at ev
        exact view_of_resL mixed noCount (hr0_ok.deep mixed noCount 100 3) LO ev (paid_cons rfl (paid_cons (decide_eq_true hm) (paid_cons rfl (paid_cons (decide_eq_true rfl) (paid_cons (decide_eq_true rfl) (paid_cons (decide_eq_true rfl) (paid_cons (decide_eq_true (by omega)) (paid_cons (decide_eq_true (by omega)) (paid_cons (decide_eq_true (by omega)) (paid_cons (decide_eq_true (by omega)) (paid_cons (decide_eq_true (by omega)) (paid_cons (decide_eq_true (by omega)) (paid_cons (decide_eq_true (by omega)) (paid_cons (decide_eq_true (by omega)) (paid_cons rfl (paid_cons rfl (paid_cons rfl (paid_cons (decide_eq_true rfl) Paid.nil)))))))))))))))))) rfl rfl (.cons _ _ _ _ a1 (.cons _ _ _ _ a2 (.cons _ _ _ _ (marked true a3) .nil))) hi
      · have ev := hashR_nilnil h0
        rw [hash_same hh.1 hh.2 none9 none9 (show ([] : List Int).length = 0 from rfl) (show ([] : List Int).length = 0 from rfl) (by decide) (by decide)] at ev
        exact view_of_resL mixed noCount (hr0_ok.deep mixed noCount 100 3) LO ev (paid_cons rfl (paid_cons rfl (paid_cons rfl Paid.nil))) rfl rfl (.cons _ _ _ _ a1 (.cons _ _ _ _ a2 (.cons _ _ _ _ a3 .nil))) hi
      · have ev := hashR_nilemp h0
        rw [hash_same hh.1 hh.2 none9 none9 (show ([] : List Int).length = 0 from rfl) (show ([] : List Int).length = 0 from rfl) (by decide) (by decide)] at ev
        exact view_of_resL mixed noCount (hr0_ok.deep mixed noCount 100 3) LO ev (paid_cons rfl (paid_cons rfl (paid_cons rfl (paid_cons rfl Paid.nil)))) rfl rfl (.cons _ _ _ _ a1 (.cons _ _ _ _ a2 (.cons _ _ _ _ a3 .nil))) hi
      · have hm := of_decide_eq_true (p2 _ (List.mem_cons_self ..))
        obtain ⟨m1, m2⟩ := buf_arg hi 2 rfl
        have ev := hashR_empbuf h0 m q
        rw [hash_same hh.1 hh.2 none9 m2 (show ([] : List Int).length = 0 from rfl) m1 (by decide) hm] at ev
        exact view_of_resL mixed noCount (hr0_ok.deep mixed noCount 100 3) LO ev (paid_cons rfl (paid_cons (decide_eq_true hm) (paid_cons rfl (paid_cons (decide_eq_true rfl) (paid_cons (decide_eq_true rfl) (paid_cons (decide_eq_true rfl) (paid_cons rfl (paid_cons rfl (paid_cons (decide_eq_true (by omega)) (paid_cons (decide_eq_true (by omega)) (paid_cons (decide_eq_true (by omega)) (paid_cons (decide_eq_true (by omega)) (paid_cons (decide_eq_true (by omega)) (paid_cons (decide_eq_true (by omega)) (paid_cons (decide_eq_true (by omega)) (paid_cons (decide_eq_true (by omega)) (paid_cons rfl (paid_cons rfl (paid_cons rfl (paid_cons rfl (paid_cons (decide_eq_true rfl) Paid.nil))))))))))))))))))))) rfl rfl (.cons _ _ _ _ a1 (.cons _ _ _ _ a2 (.cons _ _ _ _ (marked true a3) .nil))) hi
      · have ev := hashR_empnil h0
        rw [hash_same hh.1 hh.2 none9 none9 (show ([] : List Int).length = 0 from rfl) (show ([] : List Int).length = 0 from rfl) (by decide) (by decide)] at ev
        exact view_of_resL mixed noCount (hr0_ok.deep mixed noCount 100 3) LO ev (paid_cons rfl (paid_cons rfl (paid_cons rfl (paid_cons rfl Paid.nil)))) rfl rfl (.cons _ _ _ _ a1 (.cons _ _ _ _ a2 (.cons _ _ _ _ a3 .nil))) hi
      · have ev := hashR_empemp h0
        rw [hash_same hh.1 hh.2 none9 none9 (show ([] : List Int).length = 0 from rfl) (show ([] : List Int).length = 0 from rfl) (by decide) (by decide)] at ev
        exact view_of_resL mixed noCount (hr0_ok.deep mixed noCount 100 3) LO ev (paid_cons rfl (paid_cons rfl (paid_cons rfl (paid_cons rfl (paid_cons rfl Paid.nil))))) rfl rfl (.cons _ _ _ _ a1 (.cons _ _ _ _ a2 (.cons _ _ _ _ a3 .nil))) hi
    · cases h
  · cases h
def hu1 : CallH := withV 44 hashRS hr0
theorem hu1_ok : HOk Try.prog hu1 := hr0_ok.withV fun _ _ _ _ h ho => hashR_ok h ho
end Go.Proofs.Ytfmgodgakndjcaa
