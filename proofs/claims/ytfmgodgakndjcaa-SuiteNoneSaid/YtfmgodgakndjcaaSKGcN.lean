/- Hashes of gcm are linear. Own work. -/
import Derived.Test.YtfmgodgakndjcaaSKGcC
import Derived.Test.YtfmgodgakndjcaaSKGcH
set_option linter.unusedSimpArgs false
set_option linter.unusedVariables false
set_option linter.unusedSectionVars false
namespace Go.Gc
open Go.Ev Go.Sh
set_option maxRecDepth 100000
def E (b : BitVec 64) : Int := (b.toNat : Int)
def E8 (b : BitVec 8) : Int := (b.toNat : Int)
theorem wrap64 (x : Int) : IntKind.u64.wrap x = x % 18446744073709551616 := by unfold IntKind.wrap; simp [IntKind.bits, IntKind.signed]
theorem wrap8 (x : Int) : IntKind.u8.wrap x = x % 256 := by unfold IntKind.wrap; simp [IntKind.bits, IntKind.signed]
theorem ofE (b : BitVec 64) : BitVec.ofInt IntKind.u64.bits (E b) = b := by
  show BitVec.ofInt 64 (b.toNat : Int) = b
  rw [BitVec.ofInt_natCast, BitVec.ofNat_toNat, BitVec.setWidth_eq]
theorem wrE (b : BitVec 64) : IntKind.u64.wrap ((b.toNat : Nat) : Int) = E b := by
  rw [wrap64]; unfold E; have := b.isLt; omega
theorem xorE (a b : BitVec 64) : ixor .u64 (E a) (E b) = E (a ^^^ b) := by unfold ixor; rw [ofE, ofE]; exact wrE _
theorem andE (a b : BitVec 64) : iand .u64 (E a) (E b) = E (a &&& b) := by unfold iand; rw [ofE, ofE]; exact wrE _
theorem orE (a b : BitVec 64) : ior .u64 (E a) (E b) = E (a ||| b) := by unfold ior; rw [ofE, ofE]; exact wrE _
theorem shlE (a : BitVec 64) (k : Nat) (hk : k ≤ 64) : ishl .u64 (E a) (k : Int) = E (a <<< k) := by
  unfold ishl
  rw [wrap64, show min ((k : Int).toNat) IntKind.u64.bits = k by show min _ 64 = k; omega]
  unfold E
  rw [BitVec.toNat_shiftLeft, Nat.shiftLeft_eq, show (2 ^ 64 : Nat) = 18446744073709551616 by decide, Int.natCast_emod, Int.natCast_mul, Int.natCast_pow]
  rfl
theorem shrE (a : BitVec 64) (k : Nat) (hk : k ≤ 64) : ishr .u64 (E a) (k : Int) = E (a >>> k) := by
  unfold ishr
  rw [show min ((k : Int).toNat) IntKind.u64.bits = k by show min _ 64 = k; omega]
  unfold E
  rw [BitVec.toNat_ushiftRight, Nat.shiftRight_eq_div_pow, Int.fdiv_eq_ediv_of_nonneg _ (Int.pow_nonneg (by omega))]
  rw [Int.natCast_ediv, Int.natCast_pow]
  rfl
theorem negE (a : BitVec 64) : IntKind.u64.wrap (0 - E a) = E (-a) := by
  rw [wrap64]
  unfold E
  rw [BitVec.toNat_neg]
  have := a.isLt
  omega
theorem E_lit (n : Nat) (h : n < 2 ^ 64) : (n : Int) = E (BitVec.ofNat 64 n) := by
  unfold E
  rw [BitVec.toNat_ofNat, Nat.mod_eq_of_lt h]
structure MuB where
  bits : BitVec 64
  qh : BitVec 64
  qt : BitVec 64
  sh : BitVec 64
  st : BitVec 64
def MuB.e (s : MuB) : MuS := ⟨E s.bits, E s.qh, E s.qt, E s.sh, E s.st⟩
def muB1 (s : MuB) : MuB :=
  ⟨s.bits <<< 1, (s.qh >>> 1) ^^^ (16212958658533785600#64 &&& -(s.qt &&& 1#64)), (s.qh <<< 63) ||| (s.qt >>> 1), s.sh ^^^ (s.qh &&& -(s.bits >>> 63)), s.st ^^^ (s.qt &&& -(s.bits >>> 63))⟩
theorem mu1_e (s : MuB) : mu1 s.e = (muB1 s).e := by
  obtain ⟨b, h, t, x, y⟩ := s
  have l1 := shlE b 1 (by omega)
  have l2 := shrE h 1 (by omega)
  have l3 := shlE h 63 (by omega)
  have l4 := shrE t 1 (by omega)
  have l5 := shrE b 63 (by omega)
  have c1 : (1 : Int) = E 1#64 := E_lit 1 (by decide)
  have c2 : (16212958658533785600 : Int) = E 16212958658533785600#64 := E_lit 16212958658533785600 (by decide)
  unfold mu1 MuB.e muB1
  simp only [Int.cast_ofNat_Int] at l1 l2 l3 l4 l5
  simp only [l1, l2, l3, l4, l5, orE, negE, andE, xorE]
  rw [c2, show iand .u64 (E t) 1 = E (t &&& 1#64) by rw [c1, andE], negE, andE, xorE]
def muNB : Nat → MuB → MuB
  | 0, s => s
  | n + 1, s => muB1 (muNB n s)
theorem muN_e (s : MuB) : ∀ n, muN n s.e = (muNB n s).e
  | 0 => rfl
  | n + 1 => by show mu1 (muN n s.e) = (muB1 (muNB n s)).e; rw [muN_e s n, mu1_e]
def mulB (ph pt qh qt : BitVec 64) : MuB :=
  let a := muNB 64 ⟨ph, qh, qt, 0#64, 0#64⟩
  muNB 64 ⟨pt, a.qh, a.qt, a.sh, a.st⟩
theorem mul_e (ph pt qh qt : BitVec 64) : mulW (E ph) (E pt) (E qh) (E qt) = (mulB ph pt qh qt).e := by
  unfold mulW mul2
  have h0 : (⟨E ph, E qh, E qt, 0, 0⟩ : MuS) = (⟨ph, qh, qt, 0#64, 0#64⟩ : MuB).e := rfl
  rw [h0, muN_e]
  exact muN_e ⟨pt, (muNB 64 ⟨ph, qh, qt, 0#64, 0#64⟩).qh, (muNB 64 ⟨ph, qh, qt, 0#64, 0#64⟩).qt, (muNB 64 ⟨ph, qh, qt, 0#64, 0#64⟩).sh, (muNB 64 ⟨ph, qh, qt, 0#64, 0#64⟩).st⟩ 64
-- linear
theorem top63 (b : BitVec 64) : b >>> 63 = if b.msb then 1#64 else 0#64 := by
  apply BitVec.eq_of_toNat_eq
  rw [BitVec.toNat_ushiftRight, Nat.shiftRight_eq_div_pow, BitVec.msb_eq_decide]
  have := b.isLt
  by_cases h : 2 ^ 63 ≤ b.toNat
  · simp [h]; omega
  · simp [h]; omega
theorem msk_xor (a b : BitVec 64) : -((a ^^^ b) >>> 63) = -(a >>> 63) ^^^ -(b >>> 63) := by
  rw [top63, top63, top63, BitVec.msb_xor]
  cases a.msb <;> cases b.msb <;> decide
structure Lin (a b c : MuB) : Prop where
  h1 : c.bits = a.bits ^^^ b.bits
  h2 : b.qh = a.qh ∧ c.qh = a.qh
  h3 : b.qt = a.qt ∧ c.qt = a.qt
  h4 : c.sh = a.sh ^^^ b.sh
  h5 : c.st = a.st ^^^ b.st
theorem and_xor_l (x a b : BitVec 64) : x &&& (a ^^^ b) = (x &&& a) ^^^ (x &&& b) := by
  apply BitVec.eq_of_getLsbD_eq
  intro i _
  simp only [BitVec.getLsbD_and, BitVec.getLsbD_xor]
  cases x.getLsbD i <;> cases a.getLsbD i <;> cases b.getLsbD i <;> rfl
theorem xor4 (a b c d : BitVec 64) : (a ^^^ b) ^^^ (c ^^^ d) = (a ^^^ c) ^^^ (b ^^^ d) := by
  apply BitVec.eq_of_getLsbD_eq
  intro i _
  simp only [BitVec.getLsbD_xor]
  cases a.getLsbD i <;> cases b.getLsbD i <;> cases c.getLsbD i <;> cases d.getLsbD i <;> rfl
theorem Lin.step {a b c : MuB} (h : Lin a b c) : Lin (muB1 a) (muB1 b) (muB1 c) := by
  obtain ⟨h1, ⟨h2, h2'⟩, ⟨h3, h3'⟩, h4, h5⟩ := h
  refine ⟨?_, ⟨?_, ?_⟩, ⟨?_, ?_⟩, ?_, ?_⟩ <;> simp only [muB1, h1, h2, h2', h3, h3', h4, h5]
  · rw [BitVec.shiftLeft_xor_distrib]
  · rw [msk_xor, and_xor_l, xor4]
  · rw [msk_xor, and_xor_l, xor4]
-- bytes
theorem getD_map8 (L : List (BitVec 8)) (i : Nat) : (L.map E8).getD i 0 = E8 (L.getD i 0#8) := by
  rw [List.getD_eq_getElem?_getD, List.getD_eq_getElem?_getD, List.getElem?_map]
  cases L[i]? <;> rfl
def rdB (L : List (BitVec 8)) (o : Nat) : BitVec 64 := (List.range 8).foldl (fun (a : BitVec 64) (i : Nat) => (a <<< 8) ||| (L.getD (o + i) 0#8).setWidth 64) 0#64
theorem wr8E (b : BitVec 8) : IntKind.u64.wrap (E8 b) = E (b.setWidth 64) := by
  rw [wrap64]
  unfold E E8
  rw [BitVec.toNat_setWidth]
  have := b.isLt
  omega
theorem rd_e (L : List (BitVec 8)) (o : Nat) : rd8 (L.map E8) o = E (rdB L o) := by
  unfold rd8 rdB
  have key : ∀ (r : List Nat) (a : BitVec 64), r.foldl (fun (a : Int) (i : Nat) => ior .u64 (ishl .u64 a 8) (IntKind.u64.wrap ((L.map E8).getD (o + i) 0))) (E a) = E (r.foldl (fun (a : BitVec 64) (i : Nat) => (a <<< 8) ||| (L.getD (o + i) 0#8).setWidth 64) a) := by
    intro r
    induction r with
    | nil => intro a; rfl
    | cons i r ih =>
      intro a
      simp only [List.foldl_cons]
      have l := shlE a 8 (by omega)
      simp only [Int.cast_ofNat_Int] at l
      rw [l, getD_map8, wr8E, orE]
      exact ih _
  exact key _ 0#64
def blkB (h t : BitVec 64) : List (BitVec 8) := (List.range 8).map (fun i => (h >>> (56 - 8 * i)).setWidth 8) ++ (List.range 8).map (fun i => (t >>> (56 - 8 * i)).setWidth 8)
theorem w8E (a : BitVec 64) : IntKind.u8.wrap (E a) = E8 (a.setWidth 8) := by
  rw [wrap8]
  unfold E E8
  rw [BitVec.toNat_setWidth]
  omega
theorem blk_e (h t : BitVec 64) : blkP (E h) (E t) = (blkB h t).map E8 := by
  unfold blkP blkB
  rw [List.map_append, List.map_map, List.map_map]
  congr 1 <;> refine List.map_congr_left fun i hi => ?_
  · simp only [Function.comp]
    rw [shrE _ _ (by omega), w8E]
  · simp only [Function.comp]
    rw [shrE _ _ (by omega), w8E]
theorem blk_get (h t : BitVec 64) (i : Nat) (hi : i < 16) : (blkB h t).getD i 0#8 = if i < 8 then (h >>> (56 - 8 * i)).setWidth 8 else (t >>> (56 - 8 * (i - 8))).setWidth 8 := by
  unfold blkB
  rw [List.getD_eq_getElem?_getD]
  by_cases h8 : i < 8
  · rw [List.getElem?_append_left (by simp; omega), if_pos h8]
    simp [h8]
  · rw [List.getElem?_append_right (by simp; omega), if_neg h8]
    simp [show i - 8 < 8 by omega]
-- texts
def blkTB (L : List (BitVec 8)) (o k : Nat) : List (BitVec 8) := ((L.drop o).take k).take (Nat.min k 16) ++ (List.replicate 16 0#8).drop (Nat.min k 16)
theorem blkT_e (L : List (BitVec 8)) (o k : Nat) : blkT (L.map E8) o k = (blkTB L o k).map E8 := by
  unfold blkT blkTB Z16
  rw [List.take_zero, List.nil_append, Nat.zero_add, List.map_append, List.map_take, List.map_take, List.map_drop, List.map_drop]
  congr 2
theorem blkTB_get (L : List (BitVec 8)) (n o : Nat) (hL : L.length = n) (i : Nat) : (blkTB L o (n - o)).getD i 0#8 = if i < 16 then L.getD (o + i) 0#8 else 0#8 := by
  unfold blkTB
  have h1 : Nat.min (n - o) 16 = if n - o ≤ 16 then n - o else 16 := Nat.min_def ..
  have hlen : (((L.drop o).take (n - o)).take (Nat.min (n - o) 16)).length = Nat.min (n - o) 16 := by
    rw [List.length_take, List.length_take, List.length_drop, hL, h1]
    split <;> omega
  rw [List.getD_eq_getElem?_getD]
  by_cases h : i < Nat.min (n - o) 16
  · have hi : i < n - o ∧ i < 16 := by rw [h1] at h; split at h <;> omega
    rw [List.getElem?_append_left (by omega), List.getElem?_take_of_lt h, List.getElem?_take_of_lt hi.1, List.getElem?_drop, if_pos hi.2, List.getD_eq_getElem?_getD]
  · rw [List.getElem?_append_right (by omega), hlen, List.getElem?_drop]
    have z : ((List.replicate 16 0#8)[Nat.min (n - o) 16 + (i - Nat.min (n - o) 16)]?).getD 0#8 = 0#8 := by
      rw [List.getElem?_replicate]
      split <;> rfl
    rw [z]
    split
    · have : n ≤ o + i := by rw [h1] at h; split at h <;> omega
      rw [List.getD_eq_getElem?_getD, List.getElem?_eq_none (by omega)]
      rfl
    · rfl
end Go.Gc
namespace Go.Gc
open Go.Ev Go.Sh
set_option maxRecDepth 100000
/-- Coefficients. -/
abbrev Pl := Nat → Bool
def px (f g : Pl) : Pl := fun m => (f m ^^ g m)
def p0 : Pl := fun _ => false
def pe (i : Nat) : Pl := fun m => m == i
def pk (b : Bool) (f : Pl) : Pl := fun m => b && f m
def pX (f : Pl) : Pl := fun m => match m with
  | 0 => f 127
  | m + 1 => ((f m && decide (m < 127)) ^^ (f 127 && (m == 0 || m == 1 || m == 6)))
def pXn : Nat → Pl → Pl
  | 0, f => f
  | n + 1, f => pX (pXn n f)
theorem px_0 (f : Pl) : px f p0 = f := by funext m; simp [px, p0]
theorem px_0l (f : Pl) : px p0 f = f := by funext m; simp [px, p0]
theorem px_assoc (f g h : Pl) : px (px f g) h = px f (px g h) := by funext m; simp [px]
theorem pk_t (f : Pl) : pk true f = f := by funext m; simp [pk]
theorem pk_f (f : Pl) : pk false f = p0 := by funext m; simp [pk, p0]
theorem pX_px (f g : Pl) : pX (px f g) = px (pX f) (pX g) := by
  funext m
  cases m with
  | zero => rfl
  | succ m =>
    simp only [pX, px]
    cases f m <;> cases g m <;> cases f 127 <;> cases g 127 <;> cases decide (m < 127) <;> cases (m == 0 || m == 1 || m == 6) <;> rfl
theorem pX_0 : pX p0 = p0 := by
  funext m
  cases m with
  | zero => rfl
  | succ m => simp [pX, p0]
theorem pXn_px (f g : Pl) : ∀ n, pXn n (px f g) = px (pXn n f) (pXn n g)
  | 0 => rfl
  | n + 1 => by simp only [pXn]; rw [pXn_px f g n, pX_px]
theorem pXn_0 : ∀ n, pXn n p0 = p0
  | 0 => rfl
  | n + 1 => by simp only [pXn]; rw [pXn_0 n, pX_0]
theorem pXn_pk (b : Bool) (f : Pl) (n : Nat) : pXn n (pk b f) = pk b (pXn n f) := by
  cases b
  · rw [pk_f, pk_f, pXn_0]
  · rw [pk_t, pk_t]
theorem pXn_add (f : Pl) (b : Nat) : ∀ a, pXn (a + b) f = pXn a (pXn b f)
  | 0 => by rw [Nat.zero_add]; rfl
  | a + 1 => by rw [show a + 1 + b = (a + b) + 1 by omega]; simp only [pXn]; rw [pXn_add f b a]
theorem pX_pe (i : Nat) (h : i < 127) : pX (pe i) = pe (i + 1) := by
  funext m
  have h1 : ((127 : Nat) == i) = false := by simp; omega
  cases m with
  | zero => simp [pX, pe]; omega
  | succ m =>
    simp only [pX, pe, h1, Bool.false_and, Bool.xor_false]
    by_cases hm : m = i
    · subst hm; simp [h]
    · have e1 : (m == i) = false := by simp [hm]
      have e2 : (m + 1 == i + 1) = false := by simp [hm]
      rw [e1, e2]; rfl
theorem pX_127 : pX (pe 127) = px (px (px (pe 0) (pe 1)) (pe 2)) (pe 7) := by
  funext m
  cases m with
  | zero => rfl
  | succ m =>
    simp only [pX, pe, px]
    by_cases h : m < 8
    · have : ∀ m, m < 8 → (((m == 127) && decide (m < 127)) ^^ ((127 == 127) && (m == 0 || m == 1 || m == 6))) = ((((m + 1 == 0) ^^ (m + 1 == 1)) ^^ (m + 1 == 2)) ^^ (m + 1 == 7)) := by decide
      exact this m h
    · have e0 : (m == 0) = false := by simp; omega
      have e1 : (m == 1) = false := by simp; omega
      have e6 : (m == 6) = false := by simp; omega
      have f0 : (m + 1 == 0) = false := by simp
      have f1 : (m + 1 == 1) = false := by simp; omega
      have f2 : (m + 1 == 2) = false := by simp; omega
      have f7 : (m + 1 == 7) = false := by simp; omega
      have g : ((m == 127) && decide (m < 127)) = false := by
        by_cases hm : m = 127
        · subst hm; rfl
        · have : (m == 127) = false := by simp [hm]
          rw [this]; rfl
      rw [e0, e1, e6, f0, f1, f2, f7, g]; rfl
/-- The powers. -/
def pw (n : Nat) : Pl := pXn n (pe 0)
theorem pw_pe : ∀ n, n ≤ 127 → pw n = pe n
  | 0, _ => rfl
  | n + 1, h => by
    show pX (pw n) = _
    rw [pw_pe n (by omega), pX_pe n (by omega)]
theorem pw_add (d j : Nat) : pXn d (pw j) = pw (d + j) := (pXn_add (pe 0) j d).symm
theorem pw_red (d : Nat) : pw (d + 128) = px (px (px (pw d) (pw (d + 1))) (pw (d + 2))) (pw (d + 7)) := by
  have e : pw 128 = px (px (px (pw 0) (pw 1)) (pw 2)) (pw 7) := by
    show pX (pw 127) = _
    rw [pw_pe 127 (by omega), pw_pe 0 (by omega), pw_pe 1 (by omega), pw_pe 2 (by omega), pw_pe 7 (by omega), pX_127]
  rw [← pw_add d 128, e, pXn_px, pXn_px, pXn_px, pw_add, pw_add, pw_add, pw_add]
  rfl
/-- Sums of a vector times powers. -/
def pS (a : Nat → Bool) (v : Pl) : Nat → Pl
  | 0 => p0
  | n + 1 => px (pS a v n) (pk (a n) (pXn n v))
theorem pS_succ (a : Nat → Bool) (v : Pl) (n : Nat) : pS a v (n + 1) = px (pS a v n) (pk (a n) (pXn n v)) := rfl
theorem pS_congr {a b : Nat → Bool} (v : Pl) : ∀ n, (∀ i, i < n → a i = b i) → pS a v n = pS b v n
  | 0, _ => rfl
  | n + 1, h => by
    rw [pS_succ a v n, pS_succ b v n, pS_congr v n fun i hi => h i (by omega), h n (by omega)]
theorem pS_false (v : Pl) : ∀ n, pS (fun _ => false) v n = p0
  | 0 => rfl
  | n + 1 => by rw [pS_succ, pS_false v n, pk_f, px_0]
theorem pS_add (a : Nat → Bool) (v : Pl) (n : Nat) : ∀ k, pS a v (n + k) = px (pS a v n) (pS (fun i => a (n + i)) (pXn n v) k)
  | 0 => by rw [Nat.add_zero]; exact (px_0 _).symm
  | k + 1 => by
    rw [← Nat.add_assoc, pS_succ, pS_succ, pS_add a v n k, px_assoc, ← pXn_add v n k, Nat.add_comm k n]
def gt (t : List Bool) : Nat → Bool := fun i => t.getD i false
theorem gt_set (t : List Bool) (p : Nat) (y : Bool) (h : p < t.length) (i : Nat) : gt (t.set p y) i = if i = p then y else gt t i := by
  unfold gt
  rw [List.getD_eq_getElem?_getD, List.getD_eq_getElem?_getD, List.getElem?_set]
  by_cases hi : i = p
  · subst hi; simp [h]
  · rw [if_neg (fun e => hi e.symm), if_neg hi]
theorem pS_tog (t : List Bool) (p : Nat) (x : Bool) (v : Pl) (h : p < t.length) : ∀ n, p < n → pS (gt (t.set p (gt t p ^^ x))) v n = px (pS (gt t) v n) (pk x (pXn p v))
  | 0, h0 => by omega
  | n + 1, h0 => by
    rw [pS_succ, pS_succ]
    by_cases hn : p = n
    · subst hn
      rw [gt_set t p _ h p, if_pos rfl, pS_congr (b := gt t) v p fun i hi => by rw [gt_set t p _ h i, if_neg (by omega)], px_assoc]
      congr 1
      funext m
      simp only [pk, px]
      cases gt t p <;> cases x <;> cases pXn p v m <;> rfl
    · rw [pS_tog t p x v h n (by omega), gt_set t p _ h n, if_neg (fun e => hn e.symm)]
      funext m
      simp only [px]
      cases pS (gt t) v n m <;> cases pk x (pXn p v) m <;> cases pk (gt t n) (pXn n v) m <;> rfl
theorem pS_pe (t : List Bool) : ∀ n, n ≤ 128 → pS (gt t) (pe 0) n = fun m => decide (m < n) && gt t m
  | 0, _ => by funext m; simp [pS, p0]
  | n + 1, h => by
    rw [pS_succ, pS_pe t n (by omega), show pXn n (pe 0) = pe n from pw_pe n (by omega)]
    funext m
    simp only [px, pk, pe]
    by_cases h1 : m < n
    · have e1 : decide (m < n) = true := decide_eq_true h1
      have e2 : decide (m < n + 1) = true := decide_eq_true (by omega)
      have e3 : (m == n) = false := by simp; omega
      rw [e1, e2, e3]; simp
    · have e1 : decide (m < n) = false := decide_eq_false h1
      rw [e1]
      by_cases h2 : m = n
      · subst h2; simp
      · have e2 : decide (m < n + 1) = false := decide_eq_false (by omega)
        have e3 : (m == n) = false := by simp [h2]
        rw [e2, e3]; simp
theorem nb (x y : Bool) : (!(x == y)) = (x ^^ y) := by cases x <;> cases y <;> rfl
theorem nt (x : Bool) : (!x) = (x ^^ true) := by cases x <;> rfl
theorem w64 {n : Nat} (h : n < 1000) : (IntKind.i64.wrap (n : Int)) = (n : Int) := by unfold IntKind.wrap; simp [IntKind.bits, IntKind.signed]; omega
theorem addI_S (b t : List Bool) (v : Pl) (i : Nat) (hi : i < 128) (ht : t.length = 255) : ∀ k, k ≤ 128 → pS (gt (addI b (i : Int) t k)) v 255 = px (pS (gt t) v 255) (pXn i (pS (gt b) v k))
  | 0, _ => by
    show pS (gt t) v 255 = px _ (pXn i p0)
    rw [pXn_0, px_0]
  | k + 1, h => by
    have e1 : (0 + (IntKind.i64.wrap ((i : Int) + (k : Int))).toNat * 1) = i + k := by
      rw [show (i : Int) + (k : Int) = ((i + k : Nat) : Int) by omega, w64 (by omega)]; omega
    have e2 : 0 + ((k : Int)).toNat * 1 = k := by omega
    have hl : i + k < (addI b (i : Int) t k).length := by rw [addI_len]; omega
    unfold addI
    rw [e1, e2, nb]
    have := pS_tog (addI b (i : Int) t k) (i + k) (gt b k) v hl 255 (by omega)
    rw [show (addI b (i : Int) t k).getD (i + k) false = gt (addI b (i : Int) t k) (i + k) from rfl, show b.getD k false = gt b k from rfl, this, addI_S b t v i hi ht k (by omega), px_assoc, pS_succ (gt b) v k, pXn_px, pXn_pk, pXn_add]
theorem rowI_len (a b : List Bool) (i : Int) (t : List Bool) : (rowI a b i t).length = t.length := by
  unfold rowI; split
  · exact addI_len ..
  · rfl
theorem prodB_len (a b t : List Bool) : ∀ n, (prodB a b t n).length = t.length
  | 0 => rfl
  | n + 1 => by unfold prodB; rw [rowI_len]; exact prodB_len a b t n
theorem prodB_S (a b t : List Bool) (v : Pl) (ht : t.length = 255) : ∀ n, n ≤ 128 → pS (gt (prodB a b t n)) v 255 = px (pS (gt t) v 255) (pS (gt a) (pS (gt b) v 128) n)
  | 0, _ => (px_0 _).symm
  | n + 1, h => by
    have hA : atI a (n : Int) = gt a n := by unfold atI gt; rw [show 0 + ((n : Int)).toNat * 1 = n by omega]
    unfold prodB rowI
    rw [pS_succ (gt a) (pS (gt b) v 128) n, ← px_assoc, ← prodB_S a b t v ht n (by omega), hA]
    cases gt a n with
    | false => rw [pk_f, px_0]
    | true => rw [pk_t, addI_S b _ v n (by omega) (by rw [prodB_len]; exact ht) 128 (by omega)]
theorem flip_len (t : List Bool) (i : Nat) : (flip t i).length = t.length := by unfold flip; rw [List.length_set]
theorem flip_S (t : List Bool) (i : Nat) (v : Pl) (h : i < t.length) (n : Nat) (hn : i < n) : pS (gt (flip t i)) v n = px (pS (gt t) v n) (pXn i v) := by
  unfold flip
  rw [show 0 + i * 1 = i by omega, nt]
  have := pS_tog t i true v h n hn
  rw [pk_t] at this
  exact this
theorem redI_len (t : List Bool) (i : Int) : (redI t i).length = t.length := by
  unfold redI flips; split
  · simp only [flip_len]
  · rfl
theorem redB_len (t : List Bool) : ∀ j, (redB t j).length = t.length
  | 0 => rfl
  | j + 1 => by unfold redB; rw [redI_len]; exact redB_len t j
theorem redB_S (t : List Bool) (ht : t.length = 255) : ∀ j, j ≤ 127 → pS (gt (redB t j)) (pe 0) (255 - j) = pS (gt t) (pe 0) 255
  | 0, _ => rfl
  | j + 1, h => by
    rw [← redB_S t ht j (by omega)]
    have hl := redB_len t j
    rw [ht] at hl
    generalize hu : redB t j = u at hl
    have e0 : 255 - j = (254 - j) + 1 := by omega
    have hA : atI u (254 - (j : Int)) = gt u (254 - j) := by unfold atI gt; rw [show 0 + (254 - (j : Int)).toNat * 1 = 254 - j by omega]
    rw [e0, show 255 - (j + 1) = 254 - j by omega]
    unfold redB redI
    rw [hu, hA, pS_succ (gt u) (pe 0) (254 - j)]
    cases gt u (254 - j) with
    | false => rw [pk_f, px_0]
    | true =>
      have i1 : (IntKind.i64.wrap (254 - (j : Int) - 128)).toNat = 126 - j := by rw [show 254 - (j : Int) - 128 = ((126 - j : Nat) : Int) by omega, w64 (by omega)]; omega
      have i2 : (IntKind.i64.wrap (254 - (j : Int) - 127)).toNat = 126 - j + 1 := by rw [show 254 - (j : Int) - 127 = ((126 - j + 1 : Nat) : Int) by omega, w64 (by omega)]; omega
      have i3 : (IntKind.i64.wrap (254 - (j : Int) - 126)).toNat = 126 - j + 2 := by rw [show 254 - (j : Int) - 126 = ((126 - j + 2 : Nat) : Int) by omega, w64 (by omega)]; omega
      have i4 : (IntKind.i64.wrap (254 - (j : Int) - 121)).toNat = 126 - j + 7 := by rw [show 254 - (j : Int) - 121 = ((126 - j + 7 : Nat) : Int) by omega, w64 (by omega)]; omega
      rw [pk_t]
      unfold flips
      rw [i1, i2, i3, i4]
      have d : 254 - j = (126 - j) + 128 := by omega
      rw [flip_S _ _ _ (by simp only [flip_len, hl]; omega) _ (by omega), flip_S _ _ _ (by simp only [flip_len, hl]; omega) _ (by omega), flip_S _ _ _ (by simp only [flip_len, hl]; omega) _ (by omega), flip_S _ _ _ (by rw [hl]; omega) _ (by omega)]
      rw [show pXn (254 - j) (pe 0) = pw (126 - j + 128) by rw [← d]; rfl, pw_red]
      simp only [px_assoc]
      rfl
theorem timesB_len (a b : List Bool) : (timesB a b).length = 128 := by
  unfold timesB
  rw [List.length_take, List.length_drop, redB_len, prodB_len]
  rfl
/-- The reference's product, as a sum. -/
theorem timesB_S (a b : List Bool) {N M : Nat} (hN : N = 128) (hM : M = 255) : (fun m => decide (m < N) && gt (timesB a b) m) = pS (gt a) (fun m => decide (m < N) && gt b m) N := by
  have h0 : pS (gt no255) (pe 0) M = p0 := by
    rw [pS_congr (b := fun _ => false) (pe 0) M fun i hi => ?_, pS_false]
    unfold gt no255
    rw [List.getD_eq_getElem?_getD, List.getElem?_replicate]
    split <;> rfl
  have hp : pS (gt (prodB a b no255 128)) (pe 0) M = px (pS (gt no255) (pe 0) M) (pS (gt a) (pS (gt b) (pe 0) N) N) := by
    subst hN hM
    exact prodB_S a b no255 (pe 0) rfl 128 (Nat.le_refl _)
  have hb : pS (gt b) (pe 0) N = fun m => decide (m < N) && gt b m := pS_pe b N (by omega)
  have hX : (prodB a b no255 128).length = 255 := by rw [prodB_len]; rfl
  have hT : timesB a b = ((redB (prodB a b no255 128) 127).drop 0).take 128 := rfl
  generalize prodB a b no255 128 = X at hp hX hT
  have hr : pS (gt (redB X 127)) (pe 0) N = pS (gt X) (pe 0) M := by
    subst hN hM
    exact redB_S X hX 127 (Nat.le_refl _)
  have hd : pS (gt (redB X 127)) (pe 0) N = fun m => decide (m < N) && gt (redB X 127) m := pS_pe _ N (by omega)
  rw [h0, px_0l, hb] at hp
  rw [← hp, ← hr, hd]
  funext m
  by_cases hm : m < N
  · rw [decide_eq_true hm, Bool.true_and, Bool.true_and, hT]
    generalize redB X 127 = Y
    unfold gt
    rw [List.drop_zero, List.getD_eq_getElem?_getD, List.getD_eq_getElem?_getD, List.getElem?_take_of_lt (by omega)]
  · rw [decide_eq_false hm, Bool.false_and, Bool.false_and]
-- the program's
def cf (h t : BitVec 64) : Pl := fun m => if m < 64 then h.getLsbD (63 - m) else if m < 128 then t.getLsbD (127 - m) else false
theorem mask1 (b : BitVec 64) : -(b >>> 63) = if b.msb then BitVec.allOnes 64 else 0#64 := by
  rw [top63]; cases b.msb <;> rfl
theorem low1 (b : BitVec 64) : -(b &&& 1#64) = if b.getLsbD 0 then BitVec.allOnes 64 else 0#64 := by
  have : b &&& 1#64 = if b.getLsbD 0 then 1#64 else 0#64 := by
    apply BitVec.eq_of_getLsbD_eq
    intro i hi
    rw [BitVec.getLsbD_and]
    by_cases h : i = 0
    · subst h; cases b.getLsbD 0 <;> rfl
    · have e : (1#64).getLsbD i = false := by rw [BitVec.getLsbD_one]; simp [h]
      rw [e, Bool.and_false]
      cases b.getLsbD 0
      · simp
      · rw [if_pos rfl, e]
  rw [this]; cases b.getLsbD 0 <;> rfl
theorem red_bits : ∀ m, m < 64 → (16212958658533785600#64).getLsbD (63 - m) = (m == 0 || m == 1 || m == 2 || m == 7) := by decide
theorem cf_X (s : MuB) : cf (muB1 s).qh (muB1 s).qt = pX (cf s.qh s.qt) := by
  obtain ⟨b, h, t, x, y⟩ := s
  have hA : ∀ i, i < 64 → (16212958658533785600#64 &&& -(t &&& 1#64)).getLsbD i = (t.getLsbD 0 && (16212958658533785600#64).getLsbD i) := fun i hi => by
    rw [low1, BitVec.getLsbD_and]
    cases t.getLsbD 0
    · simp
    · rw [if_pos rfl, BitVec.getLsbD_allOnes, decide_eq_true hi, Bool.and_true, Bool.true_and]
  funext m
  have h127 : cf h t 127 = t.getLsbD 0 := rfl
  cases m with
  | zero =>
    show ((h >>> 1) ^^^ (16212958658533785600#64 &&& -(t &&& 1#64))).getLsbD 63 = cf h t 127
    rw [BitVec.getLsbD_xor, hA 63 (by omega), BitVec.getLsbD_ushiftRight, h127]
    have : (16212958658533785600#64).getLsbD 63 = true := by decide
    rw [this, BitVec.getLsbD_of_ge h (1 + 63) (by omega)]
    simp
  | succ m =>
    show (if m + 1 < 64 then ((h >>> 1) ^^^ (16212958658533785600#64 &&& -(t &&& 1#64))).getLsbD (63 - (m + 1)) else if m + 1 < 128 then ((h <<< 63) ||| (t >>> 1)).getLsbD (127 - (m + 1)) else false) = ((cf h t m && decide (m < 127)) ^^ (cf h t 127 && (m == 0 || m == 1 || m == 6)))
    rw [h127]
    by_cases h1 : m + 1 < 64
    · rw [if_pos h1, BitVec.getLsbD_xor, hA _ (by omega), BitVec.getLsbD_ushiftRight, red_bits (m + 1) h1]
      have e1 : cf h t m = h.getLsbD (1 + (63 - (m + 1))) := by unfold cf; rw [if_pos (by omega)]; congr 1; omega
      have e2 : decide (m < 127) = true := decide_eq_true (by omega)
      have e3 : (m + 1 == 0 || m + 1 == 1 || m + 1 == 2 || m + 1 == 7) = (m == 0 || m == 1 || m == 6) := by
        have : (m + 1 == 0) = false := by simp
        rw [this, Bool.false_or]
        have a1 : (m + 1 == 1) = (m == 0) := by simp [Bool.eq_iff_iff]
        have a2 : (m + 1 == 2) = (m == 1) := by simp [Bool.eq_iff_iff]
        have a3 : (m + 1 == 7) = (m == 6) := by simp [Bool.eq_iff_iff]
        rw [a1, a2, a3]
      rw [e1, e2, e3, Bool.and_true]
    · rw [if_neg h1]
      have z0 : (m == 0) = false := by simp; omega
      have z1 : (m == 1) = false := by simp; omega
      have z6 : (m == 6) = false := by simp; omega
      rw [z0, z1, z6, Bool.false_or, Bool.false_or, Bool.and_false, Bool.xor_false]
      by_cases h2 : m + 1 < 128
      · rw [if_pos h2, decide_eq_true (show m < 127 by omega), Bool.and_true, BitVec.getLsbD_or, BitVec.getLsbD_shiftLeft, BitVec.getLsbD_ushiftRight]
        by_cases h3 : m = 63
        · subst h3
          show ((decide (63 < 64) && !decide (63 < 63) && h.getLsbD (63 - 63)) || t.getLsbD (1 + 63)) = h.getLsbD 0
          rw [BitVec.getLsbD_of_ge t (1 + 63) (by omega)]
          simp
        · have e1 : cf h t m = t.getLsbD (127 - m) := by unfold cf; rw [if_neg (by omega), if_pos (by omega)]
          have e2 : decide (127 - (m + 1) < 63) = true := decide_eq_true (by omega)
          rw [e1, e2, show 1 + (127 - (m + 1)) = 127 - m by omega]
          simp
      · rw [if_neg h2, decide_eq_false (show ¬ m < 127 by omega), Bool.and_false]
theorem cf_xor (a b c d : BitVec 64) : cf (a ^^^ b) (c ^^^ d) = px (cf a c) (cf b d) := by
  funext m
  show (if m < 64 then (a ^^^ b).getLsbD (63 - m) else if m < 128 then (c ^^^ d).getLsbD (127 - m) else false) = ((if m < 64 then a.getLsbD (63 - m) else if m < 128 then c.getLsbD (127 - m) else false) ^^ (if m < 64 then b.getLsbD (63 - m) else if m < 128 then d.getLsbD (127 - m) else false))
  by_cases h1 : m < 64
  · rw [if_pos h1, if_pos h1, if_pos h1, BitVec.getLsbD_xor]
  · rw [if_neg h1, if_neg h1, if_neg h1]
    by_cases h2 : m < 128
    · rw [if_pos h2, if_pos h2, if_pos h2, BitVec.getLsbD_xor]
    · rw [if_neg h2, if_neg h2, if_neg h2]; rfl
theorem cf_mask (a c b : BitVec 64) : cf (a &&& -(b >>> 63)) (c &&& -(b >>> 63)) = pk b.msb (cf a c) := by
  rw [mask1]
  cases b.msb
  · rw [pk_f]
    funext m
    unfold cf p0
    split
    · simp
    · split
      · simp
      · rfl
  · rw [pk_t]
    rw [if_pos rfl, BitVec.and_allOnes, BitVec.and_allOnes]
theorem cf_sum (s : MuB) : cf (muB1 s).sh (muB1 s).st = px (cf s.sh s.st) (pk s.bits.msb (cf s.qh s.qt)) := by
  show cf (s.sh ^^^ (s.qh &&& -(s.bits >>> 63))) (s.st ^^^ (s.qt &&& -(s.bits >>> 63))) = _
  rw [cf_xor, cf_mask]
theorem muNB_bits (s : MuB) : ∀ n, (muNB n s).bits = s.bits <<< n
  | 0 => by show s.bits = s.bits <<< 0; rw [BitVec.shiftLeft_zero]
  | n + 1 => by
    show (muNB n s).bits <<< 1 = _
    rw [muNB_bits s n, ← BitVec.shiftLeft_add]
theorem muNB_S (s : MuB) : ∀ n, n ≤ 64 → cf (muNB n s).qh (muNB n s).qt = pXn n (cf s.qh s.qt) ∧ cf (muNB n s).sh (muNB n s).st = px (cf s.sh s.st) (pS (fun i => s.bits.getLsbD (63 - i)) (cf s.qh s.qt) n)
  | 0, _ => ⟨rfl, (px_0 _).symm⟩
  | n + 1, h => by
    obtain ⟨h1, h2⟩ := muNB_S s n (by omega)
    refine ⟨?_, ?_⟩
    · show cf (muB1 (muNB n s)).qh (muB1 (muNB n s)).qt = pX _
      rw [cf_X, h1]
    · show cf (muB1 (muNB n s)).sh (muB1 (muNB n s)).st = _
      rw [cf_sum, h1, h2, px_assoc]
      have e : (muNB n s).bits.msb = s.bits.getLsbD (63 - n) := by
        rw [muNB_bits, BitVec.msb_eq_getLsbD_last, BitVec.getLsbD_shiftLeft]
        have : decide (64 - 1 < n) = false := decide_eq_false (by omega)
        rw [this]
        simp
      rw [e]
      rfl
theorem mul_S (ph pt qh qt : BitVec 64) {N : Nat} (hN : N = 128) : cf (mulB ph pt qh qt).sh (mulB ph pt qh qt).st = pS (cf ph pt) (cf qh qt) N := by
  have z : cf 0#64 0#64 = p0 := by funext m; unfold cf p0; simp
  obtain ⟨a1, a2⟩ := muNB_S ⟨ph, qh, qt, 0#64, 0#64⟩ 64 (by omega)
  obtain ⟨b1, b2⟩ := muNB_S ⟨pt, (muNB 64 ⟨ph, qh, qt, 0#64, 0#64⟩).qh, (muNB 64 ⟨ph, qh, qt, 0#64, 0#64⟩).qt, (muNB 64 ⟨ph, qh, qt, 0#64, 0#64⟩).sh, (muNB 64 ⟨ph, qh, qt, 0#64, 0#64⟩).st⟩ 64 (by omega)
  show cf (muNB 64 ⟨pt, (muNB 64 ⟨ph, qh, qt, 0#64, 0#64⟩).qh, (muNB 64 ⟨ph, qh, qt, 0#64, 0#64⟩).qt, (muNB 64 ⟨ph, qh, qt, 0#64, 0#64⟩).sh, (muNB 64 ⟨ph, qh, qt, 0#64, 0#64⟩).st⟩).sh (muNB 64 ⟨pt, (muNB 64 ⟨ph, qh, qt, 0#64, 0#64⟩).qh, (muNB 64 ⟨ph, qh, qt, 0#64, 0#64⟩).qt, (muNB 64 ⟨ph, qh, qt, 0#64, 0#64⟩).sh, (muNB 64 ⟨ph, qh, qt, 0#64, 0#64⟩).st⟩).st = _
  rw [b2]
  simp only
  rw [a1, a2]
  simp only
  have hs : pS (cf ph pt) (cf qh qt) N = px (pS (cf ph pt) (cf qh qt) 64) (pS (fun i => cf ph pt (64 + i)) (pXn 64 (cf qh qt)) 64) := by
    subst hN
    exact pS_add (cf ph pt) (cf qh qt) 64 64
  have h1 : pS (cf ph pt) (cf qh qt) 64 = pS (fun i => ph.getLsbD (63 - i)) (cf qh qt) 64 := pS_congr _ 64 fun i hi => by unfold cf; rw [if_pos hi]
  have h2 : pS (fun i => cf ph pt (64 + i)) (pXn 64 (cf qh qt)) 64 = pS (fun i => pt.getLsbD (63 - i)) (pXn 64 (cf qh qt)) 64 := pS_congr _ 64 fun i hi => by
    unfold cf
    rw [if_neg (by omega), if_pos (by omega)]
    congr 1
    omega
  rw [z, px_0l, hs, h1, h2]
/-- A row of coefficients is the program's two numbers. -/
structure Rl (y : List Bool) (h t : BitVec 64) : Prop where
  len : y.length = 128
  eq : (fun m => decide (m < 128) && gt y m) = cf h t
theorem Rl.times {a b : List Bool} {ph pt qh qt : BitVec 64} (h : Rl a ph pt) (k : Rl b qh qt) : Rl (timesB a b) (mulB ph pt qh qt).sh (mulB ph pt qh qt).st := by
  refine ⟨timesB_len a b, ?_⟩
  have e1 := timesB_S a b (N := 128) rfl rfl
  have e2 := mul_S ph pt qh qt (N := 128) rfl
  have e3 : pS (gt a) (cf qh qt) 128 = pS (cf ph pt) (cf qh qt) 128 := pS_congr _ 128 fun i hi => by rw [← h.eq]; simp only [decide_eq_true hi, Bool.true_and]
  rw [k.eq] at e1
  exact e1.trans (e3.trans e2.symm)
theorem xoN_len (b a : List Bool) : ∀ n, (xoN b a n).length = a.length
  | 0 => rfl
  | n + 1 => by unfold xoN; rw [List.length_set]; exact xoN_len b a n
theorem xoN_get (b a : List Bool) (ha : a.length = 128) : ∀ n, n ≤ 128 → ∀ m, gt (xoN b a n) m = if m < n then (gt a m ^^ gt b m) else gt a m
  | 0, _, m => by rw [if_neg (by omega)]; rfl
  | n + 1, h, m => by
    unfold xoN
    rw [show 0 + ((n : Int)).toNat * 1 = n by omega, nb, gt_set _ _ _ (by rw [xoN_len]; omega)]
    by_cases h1 : m = n
    · subst h1
      rw [if_pos rfl, if_pos (by omega)]
      show (gt (xoN b a m) m ^^ gt b m) = _
      rw [xoN_get b a ha m (by omega), if_neg (by omega)]
    · rw [if_neg h1, xoN_get b a ha n (by omega)]
      by_cases h2 : m < n
      · rw [if_pos h2, if_pos (by omega)]
      · rw [if_neg h2, if_neg (by omega)]
theorem Rl.xo {a b : List Bool} {ph pt qh qt : BitVec 64} (h : Rl a ph pt) (k : Rl b qh qt) : Rl (xoN b a 128) (ph ^^^ qh) (pt ^^^ qt) := by
  refine ⟨by rw [xoN_len]; exact h.len, ?_⟩
  rw [cf_xor, ← h.eq, ← k.eq]
  funext m
  simp only [px]
  by_cases hm : m < 128
  · rw [xoN_get b a h.len 128 (by omega), if_pos hm, decide_eq_true hm]; rfl
  · rw [decide_eq_false hm]; rfl
end Go.Gc
