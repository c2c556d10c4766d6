/- Hashes of gcm are linear. Own work. -/
import Derived.Test.YtpbemjifhampcaaQGcC
set_option linter.unusedSimpArgs false
set_option linter.unusedVariables false
set_option linter.unusedSectionVars false
namespace Go.Gc
open Go.Ev Go.Sh
set_option maxRecDepth 100000
def E (b : BitVec 64) : Int := (b.toNat : Int)
def E8 (b : BitVec 8) : Int := (b.toNat : Int)
theorem wrap64 (x : Int) : IntKind.u64.wrap x = x % 18446744073709551616 := by unfold IntKind.wrap; simp [IntKind.bits, IntKind.signed]
theorem wrap8 (x : Int) : IntKind.u8.wrap x = x % 256 := by unfold IntKind.wrap; simp [IntKind.bits, IntKind.signed]
theorem ofE (b : BitVec 64) : BitVec.ofInt IntKind.u64.bits (E b) = b := by
  show BitVec.ofInt 64 (b.toNat : Int) = b
  rw [BitVec.ofInt_natCast, BitVec.ofNat_toNat, BitVec.setWidth_eq]
theorem ofE8 (b : BitVec 8) : BitVec.ofInt IntKind.u8.bits (E8 b) = b := by
  show BitVec.ofInt 8 (b.toNat : Int) = b
  rw [BitVec.ofInt_natCast, BitVec.ofNat_toNat, BitVec.setWidth_eq]
theorem wrE (b : BitVec 64) : IntKind.u64.wrap ((b.toNat : Nat) : Int) = E b := by
  rw [wrap64]; unfold E; have := b.isLt; omega
theorem wrE8 (b : BitVec 8) : IntKind.u8.wrap ((b.toNat : Nat) : Int) = E8 b := by
  rw [wrap8]; unfold E8; have := b.isLt; omega
theorem xorE (a b : BitVec 64) : ixor .u64 (E a) (E b) = E (a ^^^ b) := by unfold ixor; rw [ofE, ofE]; exact wrE _
theorem andE (a b : BitVec 64) : iand .u64 (E a) (E b) = E (a &&& b) := by unfold iand; rw [ofE, ofE]; exact wrE _
theorem orE (a b : BitVec 64) : ior .u64 (E a) (E b) = E (a ||| b) := by unfold ior; rw [ofE, ofE]; exact wrE _
theorem xorE8 (a b : BitVec 8) : ixor .u8 (E8 a) (E8 b) = E8 (a ^^^ b) := by unfold ixor; rw [ofE8, ofE8]; exact wrE8 _
theorem shlE (a : BitVec 64) (k : Nat) (hk : k ≤ 64) : ishl .u64 (E a) (k : Int) = E (a <<< k) := by
  unfold ishl
  rw [wrap64, show min ((k : Int).toNat) IntKind.u64.bits = k by show min _ 64 = k; omega]
  unfold E
  rw [BitVec.toNat_shiftLeft, Nat.shiftLeft_eq, show (2 ^ 64 : Nat) = 18446744073709551616 by decide, Int.natCast_emod, Int.natCast_mul, Int.natCast_pow]
  rfl
theorem shrE (a : BitVec 64) (k : Nat) (hk : k ≤ 64) : ishr .u64 (E a) (k : Int) = E (a >>> k) := by
  unfold ishr
  rw [show min ((k : Int).toNat) IntKind.u64.bits = k by show min _ 64 = k; omega]
  unfold E
  rw [BitVec.toNat_ushiftRight, Nat.shiftRight_eq_div_pow, Int.fdiv_eq_ediv_of_nonneg _ (Int.pow_nonneg (by omega))]
  rw [Int.natCast_ediv, Int.natCast_pow]
  rfl
theorem negE (a : BitVec 64) : IntKind.u64.wrap (0 - E a) = E (-a) := by
  rw [wrap64]
  unfold E
  rw [BitVec.toNat_neg]
  have := a.isLt
  omega
theorem E_lit (n : Nat) (h : n < 2 ^ 64) : (n : Int) = E (BitVec.ofNat 64 n) := by
  unfold E
  rw [BitVec.toNat_ofNat, Nat.mod_eq_of_lt h]
structure MuB where
  bits : BitVec 64
  qh : BitVec 64
  qt : BitVec 64
  sh : BitVec 64
  st : BitVec 64
def MuB.e (s : MuB) : MuS := ⟨E s.bits, E s.qh, E s.qt, E s.sh, E s.st⟩
def muB1 (s : MuB) : MuB :=
  ⟨s.bits <<< 1, (s.qh >>> 1) ^^^ (16212958658533785600#64 &&& -(s.qt &&& 1#64)), (s.qh <<< 63) ||| (s.qt >>> 1), s.sh ^^^ (s.qh &&& -(s.bits >>> 63)), s.st ^^^ (s.qt &&& -(s.bits >>> 63))⟩
theorem mu1_e (s : MuB) : mu1 s.e = (muB1 s).e := by
  obtain ⟨b, h, t, x, y⟩ := s
  have l1 := shlE b 1 (by omega)
  have l2 := shrE h 1 (by omega)
  have l3 := shlE h 63 (by omega)
  have l4 := shrE t 1 (by omega)
  have l5 := shrE b 63 (by omega)
  have c1 : (1 : Int) = E 1#64 := E_lit 1 (by decide)
  have c2 : (16212958658533785600 : Int) = E 16212958658533785600#64 := E_lit 16212958658533785600 (by decide)
  unfold mu1 MuB.e muB1
  simp only [Int.cast_ofNat_Int] at l1 l2 l3 l4 l5
  simp only [l1, l2, l3, l4, l5, orE, negE, andE, xorE]
  rw [c2, show iand .u64 (E t) 1 = E (t &&& 1#64) by rw [c1, andE], negE, andE, xorE]
def muNB : Nat → MuB → MuB
  | 0, s => s
  | n + 1, s => muB1 (muNB n s)
theorem muN_e (s : MuB) : ∀ n, muN n s.e = (muNB n s).e
  | 0 => rfl
  | n + 1 => by show mu1 (muN n s.e) = (muB1 (muNB n s)).e; rw [muN_e s n, mu1_e]
def mulB (ph pt qh qt : BitVec 64) : MuB :=
  let a := muNB 64 ⟨ph, qh, qt, 0#64, 0#64⟩
  muNB 64 ⟨pt, a.qh, a.qt, a.sh, a.st⟩
theorem mul_e (ph pt qh qt : BitVec 64) : mulW (E ph) (E pt) (E qh) (E qt) = (mulB ph pt qh qt).e := by
  unfold mulW mul2
  have h0 : (⟨E ph, E qh, E qt, 0, 0⟩ : MuS) = (⟨ph, qh, qt, 0#64, 0#64⟩ : MuB).e := rfl
  rw [h0, muN_e]
  exact muN_e ⟨pt, (muNB 64 ⟨ph, qh, qt, 0#64, 0#64⟩).qh, (muNB 64 ⟨ph, qh, qt, 0#64, 0#64⟩).qt, (muNB 64 ⟨ph, qh, qt, 0#64, 0#64⟩).sh, (muNB 64 ⟨ph, qh, qt, 0#64, 0#64⟩).st⟩ 64
-- linear
theorem top63 (b : BitVec 64) : b >>> 63 = if b.msb then 1#64 else 0#64 := by
  apply BitVec.eq_of_toNat_eq
  rw [BitVec.toNat_ushiftRight, Nat.shiftRight_eq_div_pow, BitVec.msb_eq_decide]
  have := b.isLt
  by_cases h : 2 ^ 63 ≤ b.toNat
  · simp [h]; omega
  · simp [h]; omega
theorem msk_xor (a b : BitVec 64) : -((a ^^^ b) >>> 63) = -(a >>> 63) ^^^ -(b >>> 63) := by
  rw [top63, top63, top63, BitVec.msb_xor]
  cases a.msb <;> cases b.msb <;> decide
structure Lin (a b c : MuB) : Prop where
  h1 : c.bits = a.bits ^^^ b.bits
  h2 : b.qh = a.qh ∧ c.qh = a.qh
  h3 : b.qt = a.qt ∧ c.qt = a.qt
  h4 : c.sh = a.sh ^^^ b.sh
  h5 : c.st = a.st ^^^ b.st
theorem and_xor_l (x a b : BitVec 64) : x &&& (a ^^^ b) = (x &&& a) ^^^ (x &&& b) := by
  apply BitVec.eq_of_getLsbD_eq
  intro i _
  simp only [BitVec.getLsbD_and, BitVec.getLsbD_xor]
  cases x.getLsbD i <;> cases a.getLsbD i <;> cases b.getLsbD i <;> rfl
theorem xor4 (a b c d : BitVec 64) : (a ^^^ b) ^^^ (c ^^^ d) = (a ^^^ c) ^^^ (b ^^^ d) := by
  apply BitVec.eq_of_getLsbD_eq
  intro i _
  simp only [BitVec.getLsbD_xor]
  cases a.getLsbD i <;> cases b.getLsbD i <;> cases c.getLsbD i <;> cases d.getLsbD i <;> rfl
theorem Lin.step {a b c : MuB} (h : Lin a b c) : Lin (muB1 a) (muB1 b) (muB1 c) := by
  obtain ⟨h1, ⟨h2, h2'⟩, ⟨h3, h3'⟩, h4, h5⟩ := h
  refine ⟨?_, ⟨?_, ?_⟩, ⟨?_, ?_⟩, ?_, ?_⟩ <;> simp only [muB1, h1, h2, h2', h3, h3', h4, h5]
  · rw [BitVec.shiftLeft_xor_distrib]
  · rw [msk_xor, and_xor_l, xor4]
  · rw [msk_xor, and_xor_l, xor4]
theorem Lin.steps {a b c : MuB} (h : Lin a b c) : ∀ n, Lin (muNB n a) (muNB n b) (muNB n c)
  | 0 => h
  | n + 1 => (h.steps n).step
theorem mul_lin (a a' b b' qh qt : BitVec 64) : (mulB (a ^^^ b) (a' ^^^ b') qh qt).sh = (mulB a a' qh qt).sh ^^^ (mulB b b' qh qt).sh ∧ (mulB (a ^^^ b) (a' ^^^ b') qh qt).st = (mulB a a' qh qt).st ^^^ (mulB b b' qh qt).st := by
  have h : Lin ⟨a, qh, qt, 0#64, 0#64⟩ ⟨b, qh, qt, 0#64, 0#64⟩ ⟨a ^^^ b, qh, qt, 0#64, 0#64⟩ := ⟨rfl, ⟨rfl, rfl⟩, ⟨rfl, rfl⟩, by simp, by simp⟩
  have h' := h.steps 64
  have k : Lin ⟨a', (muNB 64 ⟨a, qh, qt, 0#64, 0#64⟩).qh, (muNB 64 ⟨a, qh, qt, 0#64, 0#64⟩).qt, (muNB 64 ⟨a, qh, qt, 0#64, 0#64⟩).sh, (muNB 64 ⟨a, qh, qt, 0#64, 0#64⟩).st⟩
    ⟨b', (muNB 64 ⟨b, qh, qt, 0#64, 0#64⟩).qh, (muNB 64 ⟨b, qh, qt, 0#64, 0#64⟩).qt, (muNB 64 ⟨b, qh, qt, 0#64, 0#64⟩).sh, (muNB 64 ⟨b, qh, qt, 0#64, 0#64⟩).st⟩
    ⟨a' ^^^ b', (muNB 64 ⟨a ^^^ b, qh, qt, 0#64, 0#64⟩).qh, (muNB 64 ⟨a ^^^ b, qh, qt, 0#64, 0#64⟩).qt, (muNB 64 ⟨a ^^^ b, qh, qt, 0#64, 0#64⟩).sh, (muNB 64 ⟨a ^^^ b, qh, qt, 0#64, 0#64⟩).st⟩ := ⟨rfl, h'.h2, h'.h3, h'.h4, h'.h5⟩
  have k' := k.steps 64
  exact ⟨k'.h4, k'.h5⟩
-- bytes
theorem getD_map8 (L : List (BitVec 8)) (i : Nat) : (L.map E8).getD i 0 = E8 (L.getD i 0#8) := by
  rw [List.getD_eq_getElem?_getD, List.getD_eq_getElem?_getD, List.getElem?_map]
  cases L[i]? <;> rfl
def rdB (L : List (BitVec 8)) (o : Nat) : BitVec 64 := (List.range 8).foldl (fun (a : BitVec 64) (i : Nat) => (a <<< 8) ||| (L.getD (o + i) 0#8).setWidth 64) 0#64
theorem wr8E (b : BitVec 8) : IntKind.u64.wrap (E8 b) = E (b.setWidth 64) := by
  rw [wrap64]
  unfold E E8
  rw [BitVec.toNat_setWidth]
  have := b.isLt
  omega
theorem rd_e (L : List (BitVec 8)) (o : Nat) : rd8 (L.map E8) o = E (rdB L o) := by
  unfold rd8 rdB
  have key : ∀ (r : List Nat) (a : BitVec 64), r.foldl (fun (a : Int) (i : Nat) => ior .u64 (ishl .u64 a 8) (IntKind.u64.wrap ((L.map E8).getD (o + i) 0))) (E a) = E (r.foldl (fun (a : BitVec 64) (i : Nat) => (a <<< 8) ||| (L.getD (o + i) 0#8).setWidth 64) a) := by
    intro r
    induction r with
    | nil => intro a; rfl
    | cons i r ih =>
      intro a
      simp only [List.foldl_cons]
      have l := shlE a 8 (by omega)
      simp only [Int.cast_ofNat_Int] at l
      rw [l, getD_map8, wr8E, orE]
      exact ih _
  exact key _ 0#64
theorem byte_step (a b : BitVec 64) (x y : BitVec 8) : ((a ^^^ b) <<< 8) ||| (x ^^^ y).setWidth 64 = ((a <<< 8) ||| x.setWidth 64) ^^^ ((b <<< 8) ||| y.setWidth 64) := by
  apply BitVec.eq_of_getLsbD_eq
  intro i hi
  simp only [BitVec.getLsbD_or, BitVec.getLsbD_xor, BitVec.getLsbD_shiftLeft, BitVec.getLsbD_setWidth]
  by_cases h8 : i < 8
  · simp only [h8, hi, decide_true, Bool.not_true, Bool.false_and, Bool.false_or, Bool.true_and, Bool.and_false]
    try (cases x.getLsbD i <;> cases y.getLsbD i <;> first | rfl | simp)
  · have hx : x.getLsbD i = false := BitVec.getLsbD_of_ge _ _ (by omega)
    have hy : y.getLsbD i = false := BitVec.getLsbD_of_ge _ _ (by omega)
    simp [h8, hx, hy, hi]
theorem rd_lin {A B C : List (BitVec 8)} (h : ∀ i, C.getD i 0#8 = A.getD i 0#8 ^^^ B.getD i 0#8) (o : Nat) : rdB C o = rdB A o ^^^ rdB B o := by
  unfold rdB
  have key : ∀ (r : List Nat) (a b : BitVec 64), r.foldl (fun (a : BitVec 64) (i : Nat) => (a <<< 8) ||| (C.getD (o + i) 0#8).setWidth 64) (a ^^^ b) = r.foldl (fun (a : BitVec 64) (i : Nat) => (a <<< 8) ||| (A.getD (o + i) 0#8).setWidth 64) a ^^^ r.foldl (fun (a : BitVec 64) (i : Nat) => (a <<< 8) ||| (B.getD (o + i) 0#8).setWidth 64) b := by
    intro r
    induction r with
    | nil => intro a b; rfl
    | cons i r ih =>
      intro a b
      simp only [List.foldl_cons]
      rw [h, byte_step]
      exact ih _ _
  have := key (List.range 8) 0#64 0#64
  rw [BitVec.xor_self] at this
  exact this
def blkB (h t : BitVec 64) : List (BitVec 8) := (List.range 8).map (fun i => (h >>> (56 - 8 * i)).setWidth 8) ++ (List.range 8).map (fun i => (t >>> (56 - 8 * i)).setWidth 8)
theorem w8E (a : BitVec 64) : IntKind.u8.wrap (E a) = E8 (a.setWidth 8) := by
  rw [wrap8]
  unfold E E8
  rw [BitVec.toNat_setWidth]
  omega
theorem blk_e (h t : BitVec 64) : blkP (E h) (E t) = (blkB h t).map E8 := by
  unfold blkP blkB
  rw [List.map_append, List.map_map, List.map_map]
  congr 1 <;> refine List.map_congr_left fun i hi => ?_
  · simp only [Function.comp]
    rw [shrE _ _ (by omega), w8E]
  · simp only [Function.comp]
    rw [shrE _ _ (by omega), w8E]
theorem shr8_xor (a b : BitVec 64) (k : Nat) : ((a ^^^ b) >>> k).setWidth 8 = (a >>> k).setWidth 8 ^^^ (b >>> k).setWidth 8 := by
  apply BitVec.eq_of_getLsbD_eq
  intro i hi
  simp [BitVec.getLsbD_setWidth, BitVec.getLsbD_ushiftRight, BitVec.getLsbD_xor, hi]
theorem blk_get (h t : BitVec 64) (i : Nat) (hi : i < 16) : (blkB h t).getD i 0#8 = if i < 8 then (h >>> (56 - 8 * i)).setWidth 8 else (t >>> (56 - 8 * (i - 8))).setWidth 8 := by
  unfold blkB
  rw [List.getD_eq_getElem?_getD]
  by_cases h8 : i < 8
  · rw [List.getElem?_append_left (by simp; omega), if_pos h8]
    simp [h8]
  · rw [List.getElem?_append_right (by simp; omega), if_neg h8]
    simp [show i - 8 < 8 by omega]
theorem blk_lin (a a' b b' : BitVec 64) (i : Nat) (hi : i < 16) : (blkB (a ^^^ b) (a' ^^^ b')).getD i 0#8 = (blkB a a').getD i 0#8 ^^^ (blkB b b').getD i 0#8 := by
  rw [blk_get _ _ i hi, blk_get _ _ i hi, blk_get _ _ i hi]
  split <;> exact shr8_xor _ _ _
-- texts
def blkTB (L : List (BitVec 8)) (o k : Nat) : List (BitVec 8) := ((L.drop o).take k).take (Nat.min k 16) ++ (List.replicate 16 0#8).drop (Nat.min k 16)
theorem blkT_e (L : List (BitVec 8)) (o k : Nat) : blkT (L.map E8) o k = (blkTB L o k).map E8 := by
  unfold blkT blkTB Z16
  rw [List.take_zero, List.nil_append, Nat.zero_add, List.map_append, List.map_take, List.map_take, List.map_drop, List.map_drop]
  congr 2
theorem blkTB_get (L : List (BitVec 8)) (n o : Nat) (hL : L.length = n) (i : Nat) : (blkTB L o (n - o)).getD i 0#8 = if i < 16 then L.getD (o + i) 0#8 else 0#8 := by
  unfold blkTB
  have h1 : Nat.min (n - o) 16 = if n - o ≤ 16 then n - o else 16 := Nat.min_def ..
  have hlen : (((L.drop o).take (n - o)).take (Nat.min (n - o) 16)).length = Nat.min (n - o) 16 := by
    rw [List.length_take, List.length_take, List.length_drop, hL, h1]
    split <;> omega
  rw [List.getD_eq_getElem?_getD]
  by_cases h : i < Nat.min (n - o) 16
  · have hi : i < n - o ∧ i < 16 := by rw [h1] at h; split at h <;> omega
    rw [List.getElem?_append_left (by omega), List.getElem?_take_of_lt h, List.getElem?_take_of_lt hi.1, List.getElem?_drop, if_pos hi.2, List.getD_eq_getElem?_getD]
  · rw [List.getElem?_append_right (by omega), hlen, List.getElem?_drop]
    have z : ((List.replicate 16 0#8)[Nat.min (n - o) 16 + (i - Nat.min (n - o) 16)]?).getD 0#8 = 0#8 := by
      rw [List.getElem?_replicate]
      split <;> rfl
    rw [z]
    split
    · have : n ≤ o + i := by rw [h1] at h; split at h <;> omega
      rw [List.getD_eq_getElem?_getD, List.getElem?_eq_none (by omega)]
      rfl
    · rfl
def absNB (L : List (BitVec 8)) (n : Nat) (h : BitVec 64 × BitVec 64) : Nat → BitVec 64 × BitVec 64
  | 0 => (0#64, 0#64)
  | j + 1 => let p := absNB L n h j; let b := blkTB L (16 * j) (n - 16 * j); ((mulB (p.1 ^^^ rdB b 0) (p.2 ^^^ rdB b 8) h.1 h.2).sh, (mulB (p.1 ^^^ rdB b 0) (p.2 ^^^ rdB b 8) h.1 h.2).st)
theorem abs_e (L : List (BitVec 8)) (n : Nat) (h : BitVec 64 × BitVec 64) : ∀ j, absN (L.map E8) n (E h.1, E h.2) (0, 0) j = (E (absNB L n h j).1, E (absNB L n h j).2)
  | 0 => rfl
  | j + 1 => by
    simp only [absN, absNB, abs_e L n h j, mulX, blkT_e, rd_e, xorE, mul_e]
    rfl
theorem abs_lin {A B C : List (BitVec 8)} {n : Nat} (h : BitVec 64 × BitVec 64) (hA : A.length = n) (hB : B.length = n) (hC : C.length = n) (hx : ∀ i, C.getD i 0#8 = A.getD i 0#8 ^^^ B.getD i 0#8) : ∀ j, (absNB C n h j).1 = (absNB A n h j).1 ^^^ (absNB B n h j).1 ∧ (absNB C n h j).2 = (absNB A n h j).2 ^^^ (absNB B n h j).2
  | 0 => ⟨by show 0#64 = 0#64 ^^^ 0#64; decide, by show 0#64 = 0#64 ^^^ 0#64; decide⟩
  | j + 1 => by
    obtain ⟨i1, i2⟩ := abs_lin h hA hB hC hx j
    have hb : ∀ i, (blkTB C (16 * j) (n - 16 * j)).getD i 0#8 = (blkTB A (16 * j) (n - 16 * j)).getD i 0#8 ^^^ (blkTB B (16 * j) (n - 16 * j)).getD i 0#8 := fun i => by
      rw [blkTB_get C n _ hC, blkTB_get A n _ hA, blkTB_get B n _ hB]
      split
      · exact hx _
      · decide
    simp only [absNB]
    rw [i1, i2, rd_lin hb 0, rd_lin hb 8, xor4, xor4 (absNB A n h j).2]
    exact mul_lin _ _ _ _ _ _
/-- A text's hash, nothing along. -/
def hashB (H L : List (BitVec 8)) (n : Nat) (len : BitVec 64) : List (BitVec 8) :=
  let h := (rdB H 0, rdB H 8)
  let y := absNB L n h ((n + 15) / 16)
  let z := mulB (y.1 ^^^ 0#64) (y.2 ^^^ len) h.1 h.2
  blkB z.sh z.st
theorem hash_e (H L : List (BitVec 8)) (n : Nat) (len : BitVec 64) (hl : lenW n = E len) : hashG (H.map E8) [] 0 (L.map E8) n = (hashB H L n len).map E8 := by
  have h0 : lenW 0 = E 0#64 := by decide
  unfold hashG keyG hashB mulX0
  rw [rd_e, rd_e]
  have a0 : absW [] 0 (E (rdB H 0), E (rdB H 8)) (0, 0) = (0, 0) := rfl
  rw [a0]
  unfold absW
  rw [abs_e L n (rdB H 0, rdB H 8), h0, hl]
  simp only [xorE, mul_e]
  exact blk_e _ _
theorem xor3 (x y z l : BitVec 64) : x ^^^ y ^^^ z ^^^ l = (x ^^^ l) ^^^ (y ^^^ l) ^^^ (z ^^^ l) := by
  apply BitVec.eq_of_getLsbD_eq
  intro i _
  simp only [BitVec.getLsbD_xor]
  cases x.getLsbD i <;> cases y.getLsbD i <;> cases z.getLsbD i <;> cases l.getLsbD i <;> rfl
theorem hash_lin (H : List (BitVec 8)) {A B C D Z : List (BitVec 8)} {n : Nat} (len : BitVec 64) (hA : A.length = n) (hB : B.length = n) (hC : C.length = n) (hD : D.length = n) (hZ : Z.length = n)
    (hx : ∀ i, D.getD i 0#8 = A.getD i 0#8 ^^^ B.getD i 0#8) (hc : ∀ i, C.getD i 0#8 = D.getD i 0#8 ^^^ Z.getD i 0#8) (i : Nat) (hi : i < 16) :
    (hashB H C n len).getD i 0#8 = (hashB H A n len).getD i 0#8 ^^^ (hashB H B n len).getD i 0#8 ^^^ (hashB H Z n len).getD i 0#8 := by
  obtain ⟨d1, d2⟩ := abs_lin (rdB H 0, rdB H 8) hA hB hD hx ((n + 15) / 16)
  obtain ⟨c1, c2⟩ := abs_lin (rdB H 0, rdB H 8) hD hZ hC hc ((n + 15) / 16)
  unfold hashB
  simp only [c1, c2, d1, d2]
  rw [xor3 _ _ _ 0#64, xor3 _ _ _ len]
  obtain ⟨m1, m2⟩ := mul_lin ((absNB A n (rdB H 0, rdB H 8) ((n + 15) / 16)).1 ^^^ 0#64 ^^^ ((absNB B n (rdB H 0, rdB H 8) ((n + 15) / 16)).1 ^^^ 0#64)) ((absNB A n (rdB H 0, rdB H 8) ((n + 15) / 16)).2 ^^^ len ^^^ ((absNB B n (rdB H 0, rdB H 8) ((n + 15) / 16)).2 ^^^ len)) ((absNB Z n (rdB H 0, rdB H 8) ((n + 15) / 16)).1 ^^^ 0#64) ((absNB Z n (rdB H 0, rdB H 8) ((n + 15) / 16)).2 ^^^ len) (rdB H 0) (rdB H 8)
  obtain ⟨k1, k2⟩ := mul_lin ((absNB A n (rdB H 0, rdB H 8) ((n + 15) / 16)).1 ^^^ 0#64) ((absNB A n (rdB H 0, rdB H 8) ((n + 15) / 16)).2 ^^^ len) ((absNB B n (rdB H 0, rdB H 8) ((n + 15) / 16)).1 ^^^ 0#64) ((absNB B n (rdB H 0, rdB H 8) ((n + 15) / 16)).2 ^^^ len) (rdB H 0) (rdB H 8)
  rw [m1, m2, k1, k2, blk_lin _ _ _ _ i hi, blk_lin _ _ _ _ i hi]
end Go.Gc
