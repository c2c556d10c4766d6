/- Long division by words: plain arithmetic. Own work. -/
import Derived.Test.YtfmgodgakndjcaaSCzLenC
import Derived.Test.YtfmgodgakndjcaaSCzDivE
set_option linter.unusedSimpArgs false
set_option linter.unusedVariables false
set_option linter.unusedSectionVars false
namespace Go.Wn
open Go.Ev
/-- The number of n words. -/
def sg (f : Nat → Int) : Nat → Int
  | 0 => 0
  | n + 1 => sg f n + f n * 18446744073709551616 ^ n
theorem sg_congr {f g : Nat → Int} : ∀ {n : Nat}, (∀ t, t < n → f t = g t) → sg f n = sg g n
  | 0, _ => rfl
  | n + 1, h => by
    unfold sg
    rw [sg_congr (n := n) fun t ht => h t (by omega), h n (by omega)]
theorem bp (n : Nat) : (0 : Int) < 18446744073709551616 ^ n := Int.pow_pos (by omega)
theorem sg_range {f : Nat → Int} (h : ∀ t, W (f t)) : ∀ n : Nat, 0 ≤ sg f n ∧ sg f n < 18446744073709551616 ^ n
  | 0 => by simp [sg]
  | n + 1 => by
    obtain ⟨h1, h2⟩ := sg_range h n
    obtain ⟨g1, g2⟩ := h n
    have hp := bp n
    unfold sg
    rw [Int.pow_succ]
    have a1 : 0 ≤ f n * 18446744073709551616 ^ n := Int.mul_nonneg g1 (by omega)
    have a2 : f n * 18446744073709551616 ^ n ≤ 18446744073709551615 * 18446744073709551616 ^ n := Int.mul_le_mul_of_nonneg_right (by omega) (by omega)
    generalize (18446744073709551616 : Int) ^ n = p at *
    generalize f n * p = y at *
    omega
theorem getD_set_int {l : List Int} {k t : Nat} {v : Int} (hk : k < l.length) : (l.set k v).getD t 0 = if k = t then v else l.getD t 0 := by
  simp only [List.getD, List.getElem?_set]
  by_cases h : k = t
  · subst h; simp [hk]
  · simp [h]
theorem W_set {l : List Int} (hl : ∀ t, W (l.getD t 0)) {k : Nat} {v : Int} (hv : W v) : ∀ t, W ((l.set k v).getD t 0) := fun t => by
  by_cases hk : k < l.length
  · rw [getD_set_int hk]
    split
    · exact hv
    · exact hl t
  · rw [List.set_eq_of_length_le (by omega)]; exact hl t

/- multiply and subtract -/
abbrev S3 := List Int × Int × Int
def ms1 (q : Int) (b : List Int) (ix : Nat → Nat) (i : Nat) (s : S3) : S3 :=
  (s.1.set (ix i) ((s.1.getD (ix i) 0 - (q * b.getD i 0 % 18446744073709551616 + s.2.2 + 0) % 18446744073709551616 - s.2.1) % 18446744073709551616),
    if s.1.getD (ix i) 0 < (q * b.getD i 0 % 18446744073709551616 + s.2.2 + 0) % 18446744073709551616 + s.2.1 then 1 else 0,
    IntKind.u64.wrap (q * b.getD i 0 / 18446744073709551616 + (q * b.getD i 0 % 18446744073709551616 + s.2.2 + 0) / 18446744073709551616))
def msN (q : Int) (b : List Int) (ix : Nat → Nat) (al : List Int) : Nat → S3
  | 0 => (al, 0, 0)
  | i + 1 => ms1 q b ix i (msN q b ix al i)
theorem ms_word {q b x bo ca : Int} (hq : W q) (hb : W b) (hx : W x) (hbo : 0 ≤ bo ∧ bo ≤ 1) (hca : W ca) :
    W ((x - (q * b % 18446744073709551616 + ca + 0) % 18446744073709551616 - bo) % 18446744073709551616) ∧
    (0 ≤ (if x < (q * b % 18446744073709551616 + ca + 0) % 18446744073709551616 + bo then (1 : Int) else 0) ∧ (if x < (q * b % 18446744073709551616 + ca + 0) % 18446744073709551616 + bo then (1 : Int) else 0) ≤ 1) ∧
    W (IntKind.u64.wrap (q * b / 18446744073709551616 + (q * b % 18446744073709551616 + ca + 0) / 18446744073709551616)) ∧
    x - q * b - bo - ca = (x - (q * b % 18446744073709551616 + ca + 0) % 18446744073709551616 - bo) % 18446744073709551616 -
      ((if x < (q * b % 18446744073709551616 + ca + 0) % 18446744073709551616 + bo then (1 : Int) else 0) + IntKind.u64.wrap (q * b / 18446744073709551616 + (q * b % 18446744073709551616 + ca + 0) / 18446744073709551616)) * 18446744073709551616 := by
  have h := mul_W hq hb
  rw [wrap_eq]
  unfold W at *
  generalize q * b = P at *
  split <;> omega
theorem ms_spec {q : Int} {b al : List Int} {ix : Nat → Nat} {J n : Nat} (hl : al.length = 10) (hw : ∀ t, W (al.getD t 0)) (hb : ∀ t, W (b.getD t 0)) (hq : W q) (hix : ∀ i, i ≤ n → ix i = J + i) (hJ : J + n ≤ 9) :
    ∀ i, i ≤ n → (msN q b ix al i).1.length = 10 ∧ (∀ t, W ((msN q b ix al i).1.getD t 0)) ∧ (∀ t, t < J ∨ J + i ≤ t → (msN q b ix al i).1.getD t 0 = al.getD t 0) ∧
      (0 ≤ (msN q b ix al i).2.1 ∧ (msN q b ix al i).2.1 ≤ 1) ∧ W (msN q b ix al i).2.2 ∧
      sg (fun t => al.getD (J + t) 0) i - q * sg (fun t => b.getD t 0) i = sg (fun t => (msN q b ix al i).1.getD (J + t) 0) i - ((msN q b ix al i).2.1 + (msN q b ix al i).2.2) * 18446744073709551616 ^ i
  | 0, _ => by
    refine ⟨hl, hw, fun _ _ => rfl, ⟨by simp [msN], by simp [msN]⟩, by simp [msN, W], by simp [msN, sg]⟩
  | i + 1, hi => by
    obtain ⟨e1, e2, e3, e4, e5, e6⟩ := ms_spec hl hw hb hq hix hJ i (by omega)
    unfold msN
    generalize msN q b ix al i = s at *
    have hx := hix i (by omega)
    unfold ms1
    rw [hx]
    have hk : J + i < s.1.length := by omega
    obtain ⟨g1, g2, g3, g4⟩ := ms_word hq (hb i) (e2 (J + i)) e4 e5
    refine ⟨by simp [e1], W_set e2 g1, fun t ht => ?_, g2, g3, ?_⟩
    · rw [getD_set_int hk, if_neg (by omega)]
      exact e3 t (by omega)
    · have c1 : sg (fun t => (s.1.set (J + i) ((s.1.getD (J + i) 0 - (q * b.getD i 0 % 18446744073709551616 + s.2.2 + 0) % 18446744073709551616 - s.2.1) % 18446744073709551616)).getD (J + t) 0) i = sg (fun t => s.1.getD (J + t) 0) i :=
        sg_congr fun t ht => by rw [getD_set_int hk, if_neg (by omega)]
      have c2 : s.1.getD (J + i) 0 = al.getD (J + i) 0 := e3 _ (by omega)
      simp only [sg]
      rw [c1, getD_set_int hk, if_pos rfl, Int.pow_succ]
      rw [c2] at g4 ⊢
      generalize (al.getD (J + i) 0 - (q * b.getD i 0 % 18446744073709551616 + s.2.2 + 0) % 18446744073709551616 - s.2.1) % 18446744073709551616 = x' at *
      generalize (if al.getD (J + i) 0 < (q * b.getD i 0 % 18446744073709551616 + s.2.2 + 0) % 18446744073709551616 + s.2.1 then (1 : Int) else 0) = bo' at *
      generalize IntKind.u64.wrap (q * b.getD i 0 / 18446744073709551616 + (q * b.getD i 0 % 18446744073709551616 + s.2.2 + 0) / 18446744073709551616) = ca' at *
      generalize al.getD (J + i) 0 = x at *
      generalize b.getD i 0 = bi at *
      generalize (18446744073709551616 : Int) ^ i = p at *
      generalize sg (fun t => al.getD (J + t) 0) i = A at *
      generalize sg (fun t => b.getD t 0) i = Bs at *
      generalize sg (fun t => s.1.getD (J + t) 0) i = A' at *
      grind

/- add back -/
abbrev S2 := List Int × Int
def ab1 (b : List Int) (ix : Nat → Nat) (i : Nat) (s : S2) : S2 :=
  (s.1.set (ix i) ((s.1.getD (ix i) 0 + b.getD i 0 + s.2) % 18446744073709551616), (s.1.getD (ix i) 0 + b.getD i 0 + s.2) / 18446744073709551616)
def abN (b : List Int) (ix : Nat → Nat) (al : List Int) : Nat → S2
  | 0 => (al, 0)
  | i + 1 => ab1 b ix i (abN b ix al i)
theorem ab_spec {b al : List Int} {ix : Nat → Nat} {J n : Nat} (hl : al.length = 10) (hw : ∀ t, W (al.getD t 0)) (hb : ∀ t, W (b.getD t 0)) (hix : ∀ i, i ≤ n → ix i = J + i) (hJ : J + n ≤ 9) :
    ∀ i, i ≤ n → (abN b ix al i).1.length = 10 ∧ (∀ t, W ((abN b ix al i).1.getD t 0)) ∧ (∀ t, t < J ∨ J + i ≤ t → (abN b ix al i).1.getD t 0 = al.getD t 0) ∧
      (0 ≤ (abN b ix al i).2 ∧ (abN b ix al i).2 ≤ 1) ∧
      sg (fun t => al.getD (J + t) 0) i + sg (fun t => b.getD t 0) i = sg (fun t => (abN b ix al i).1.getD (J + t) 0) i + (abN b ix al i).2 * 18446744073709551616 ^ i
  | 0, _ => by
    refine ⟨hl, hw, fun _ _ => rfl, ⟨by simp [abN], by simp [abN]⟩, by simp [abN, sg]⟩
  | i + 1, hi => by
    obtain ⟨e1, e2, e3, e4, e6⟩ := ab_spec hl hw hb hix hJ i (by omega)
    unfold abN
    generalize abN b ix al i = s at *
    have hx := hix i (by omega)
    unfold ab1
    rw [hx]
    have hk : J + i < s.1.length := by omega
    have w1 := e2 (J + i)
    have w2 := hb i
    have g : W ((s.1.getD (J + i) 0 + b.getD i 0 + s.2) % 18446744073709551616) ∧ (0 ≤ (s.1.getD (J + i) 0 + b.getD i 0 + s.2) / 18446744073709551616 ∧ (s.1.getD (J + i) 0 + b.getD i 0 + s.2) / 18446744073709551616 ≤ 1) ∧
        s.1.getD (J + i) 0 + b.getD i 0 + s.2 = (s.1.getD (J + i) 0 + b.getD i 0 + s.2) % 18446744073709551616 + (s.1.getD (J + i) 0 + b.getD i 0 + s.2) / 18446744073709551616 * 18446744073709551616 := by
      unfold W at *; omega
    obtain ⟨g1, g2, g4⟩ := g
    refine ⟨by simp [e1], W_set e2 g1, fun t ht => ?_, g2, ?_⟩
    · rw [getD_set_int hk, if_neg (by omega)]
      exact e3 t (by omega)
    · have c1 : sg (fun t => (s.1.set (J + i) ((s.1.getD (J + i) 0 + b.getD i 0 + s.2) % 18446744073709551616)).getD (J + t) 0) i = sg (fun t => s.1.getD (J + t) 0) i :=
        sg_congr fun t ht => by rw [getD_set_int hk, if_neg (by omega)]
      have c2 : s.1.getD (J + i) 0 = al.getD (J + i) 0 := e3 _ (by omega)
      simp only [sg]
      rw [c1, getD_set_int hk, if_pos rfl, Int.pow_succ]
      rw [c2] at g4 ⊢
      generalize (al.getD (J + i) 0 + b.getD i 0 + s.2) % 18446744073709551616 = x' at *
      generalize (al.getD (J + i) 0 + b.getD i 0 + s.2) / 18446744073709551616 = c' at *
      generalize al.getD (J + i) 0 = x at *
      generalize b.getD i 0 = bi at *
      generalize (18446744073709551616 : Int) ^ i = p at *
      generalize sg (fun t => al.getD (J + t) 0) i = A at *
      generalize sg (fun t => b.getD t 0) i = Bs at *
      generalize sg (fun t => s.1.getD (J + t) 0) i = A' at *
      grind
/-- The guess of a digit is none too small. -/
theorem guess_ge {V B hi lo y p : Int} (hp : 0 < p) (hy : 0 < y) (hB : y * p ≤ B) (hV : V < ((hi * 18446744073709551616 + lo) + 1) * p) (hV0 : 0 ≤ V) : V / B ≤ (hi * 18446744073709551616 + lo) / y := by
  have hB0 : 0 < B := by
    have := Int.mul_pos hy hp
    omega
  apply Int.le_ediv_of_mul_le hy
  have h1 := Int.ediv_mul_le V (Int.ne_of_gt hB0)
  have h0 := Int.ediv_nonneg hV0 (Int.le_of_lt hB0)
  generalize V / B = Q at *
  have h2 : Q * (y * p) ≤ Q * B := Int.mul_le_mul_of_nonneg_left hB h0
  have h3 : (Q * y) * p < ((hi * 18446744073709551616 + lo) + 1) * p := by rw [Int.mul_assoc]; omega
  have h4 := Int.lt_of_mul_lt_mul_right h3 (Int.le_of_lt hp)
  omega

theorem sg_digit {f : Nat → Int} (h : ∀ t, W (f t)) : ∀ {n k : Nat}, k < n → sg f n / 18446744073709551616 ^ k % 18446744073709551616 = f k
  | 0, k, hk => by omega
  | n + 1, k, hk => by
    unfold sg
    have hp := bp k
    rcases Nat.lt_or_ge k n with hlt | hge
    · have e : (18446744073709551616 : Int) ^ n = 18446744073709551616 ^ k * (18446744073709551616 * 18446744073709551616 ^ (n - k - 1)) := by
        rw [← Int.mul_assoc, ← Int.pow_succ, ← Int.pow_add]; congr 1; omega
      rw [e, show f n * (18446744073709551616 ^ k * (18446744073709551616 * 18446744073709551616 ^ (n - k - 1))) = 18446744073709551616 ^ k * (18446744073709551616 * (f n * 18446744073709551616 ^ (n - k - 1))) by grind,
        Int.add_mul_ediv_left _ _ (Int.ne_of_gt hp), Int.add_mul_emod_self_left]
      exact sg_digit h hlt
    · have hk' : k = n := by omega
      subst hk'
      obtain ⟨h1, h2⟩ := sg_range h k
      obtain ⟨g1, g2⟩ := h k
      rw [Int.add_mul_ediv_right _ _ (Int.ne_of_gt hp), Int.ediv_eq_zero_of_lt h1 h2, Int.zero_add]
      exact Int.emod_eq_of_lt g1 g2
def putSeg (a : List Int) (J : Nat) (X : Int) : Nat → List Int
  | 0 => a
  | k + 1 => (putSeg a J X k).set (J + k) (X / 18446744073709551616 ^ k % 18446744073709551616)
theorem putSeg_len {a : List Int} {J : Nat} {X : Int} : ∀ k : Nat, (putSeg a J X k).length = a.length
  | 0 => rfl
  | k + 1 => by unfold putSeg; rw [List.length_set, putSeg_len k]
theorem putSeg_get {a : List Int} {J : Nat} {X : Int} : ∀ {k t : Nat}, J + k ≤ a.length → (putSeg a J X k).getD t 0 = if J ≤ t ∧ t < J + k then X / 18446744073709551616 ^ (t - J) % 18446744073709551616 else a.getD t 0
  | 0, t, _ => by unfold putSeg; rw [if_neg (by omega)]
  | k + 1, t, h => by
    unfold putSeg
    rw [getD_set_int (by rw [putSeg_len]; omega), putSeg_get (k := k) (by omega)]
    by_cases h1 : J + k = t
    · rw [if_pos h1, if_pos (by omega), show t - J = k by omega]
    · rw [if_neg h1]
      by_cases h2 : J ≤ t ∧ t < J + k
      · rw [if_pos h2, if_pos (by omega)]
      · rw [if_neg h2, if_neg (by omega)]
theorem list_ext_int {l m : List Int} (hl : l.length = m.length) (h : ∀ t, t < l.length → l.getD t 0 = m.getD t 0) : l = m := by
  apply List.ext_getElem hl
  intro i h1 h2
  have := h i h1
  simpa [List.getD, List.getElem?_eq_getElem h1, List.getElem?_eq_getElem h2] using this
/-- A segment's words, off its number. -/
theorem put_self {a al : List Int} {J n : Nat} (hl : al.length = a.length) (hJ : J + n ≤ a.length) (hw : ∀ t, W (al.getD t 0)) (ho : ∀ t, t < J ∨ J + n ≤ t → al.getD t 0 = a.getD t 0) : al = putSeg a J (sg (fun t => al.getD (J + t) 0) n) n := by
  apply list_ext_int (by rw [putSeg_len, hl])
  intro t ht
  rw [putSeg_get hJ]
  split
  · rename_i h
    rw [sg_digit (fun t => hw (J + t)) (k := t - J) (by omega), show J + (t - J) = t by omega]
  · exact ho t (by omega)
end Go.Wn
namespace Go.Ev
def exN : Ex → Nat
  | .normal => 0
  | .ret => 1
  | .exit id => id + 2
/-- What is seen of a way's end: the debts, how it ends, some slots, how many there are, the memory. -/
def obs (ts : List Nat) (T : Tree (Ex × St)) : Option (List Bool × Nat × List AV × Nat × Mem) :=
  match T.flat with
  | some (o, (e, st)) => some (o, exN e, ts.map (fun t => st.tm.getD t .top), st.tm.length, st.mem)
  | none => none
theorem obs_sat {ts : List Nat} {T : Tree (Ex × St)} {ds : List Bool} {o : List Bool} {k n : Nat} {avs : List AV} {m : Mem} {K : Ex × St → Prop} (h : obs ts (T.go ds) = some (o, k, avs, n, m)) (ho : Paid o)
    (hk : ∀ e st, exN e = k → ts.map (fun t => st.tm.getD t .top) = avs → st.tm.length = n → st.mem = m → K (e, st)) : T.Sat K := by
  unfold obs at h
  split at h
  · rename_i o' e st hf
    simp only [Option.some.injEq, Prod.mk.injEq] at h
    obtain ⟨h1, h2, h3, h4, h5⟩ := h
    rw [← h1] at ho
    exact go_sound (sat_mono (fun p hp => by rw [hp]; exact hk e st h2 h3 h4 h5) (flat_sound hf ho))
  · cases h
end Go.Ev
namespace Go.Proofs.Ytfmgodgakndjcaa
open Go.Ev Go.Wn
set_option maxRecDepth 100000
def hr3 : CallH := withV 101 divS (withC 100 lzS hr1)
theorem hr3_ok : HOk Try.prog hr3 := (hr1_ok.withC fun _ _ _ h ho => lz_ok h ho).withV fun _ _ _ _ h ho => div_ok h ho
def remM (u m r b a : List Int) : Mem := [none, none, some ⟨true, .ints .u64 (some 9) u⟩, some ⟨true, .ints .u64 (some 4) m⟩, some ⟨true, .ints .u64 (some 4) r⟩, some ⟨true, .ints .u64 (some 5) b⟩, some ⟨true, .ints .u64 (some 10) a⟩]
def r10U (n : Nat) (j bo : Int) : List (Nat × AV) := [(5, .int false .i64 n), (7, .ptr false 5 0), (8, .ptr false 6 0), (11, .int true .i64 j), (13, .int true .u64 bo)]
def dIx (j : Int) (i : Nat) : Bool := decide (0 ≤ IntKind.i64.wrap (j + (i : Int))) && decide (IntKind.i64.wrap (j + (i : Int)) < ((10 : Nat) : Int))
def jx (j : Int) (i : Nat) : Nat := 0 + (IntKind.i64.wrap (j + (i : Int))).toNat * 1
def dJ (j : Int) (i : Nat) (p : Bool) : List Bool := [dIx j i, decide (jx j i + 1 ≤ 10), p, dIx j i, decide (jx j i + 1 ≤ 10)]
def dAB (b a : List Int) (j : Int) : Nat → List Bool
  | 0 => []
  | i + 1 => dAB b a j i ++ dJ j i (decide ((abN b (jx j) a i).2 ≤ 1))
def topC (b a : List Int) (j : Int) (n : Nat) : Int := (abN b (jx j) a n).1.getD (jx j n) 0 + 0 + (abN b (jx j) a n).2
def topA (b a : List Int) (j : Int) (n : Nat) : List Int := (abN b (jx j) a n).1.set (jx j n) (topC b a j n % 18446744073709551616)
def R10 (n : Nat) : Prop := ∀ (x : Nat → AV) (j bo : Int) (u m r b a : List Int),
  obs [4, 5, 6, 7, 8, 11, 13] ((codeL Try.prog qAll hr3 (fun _ _ => none) 100 (lp (blk 10 (bodyOf Try.prog 95))) ⟨tmOf (ups x (r10U n j bo)) 239, remM u m r b a⟩).go [true]) =
    some (decide (bo > 0) :: (dAB b a j n ++ dJ j n (decide ((abN b (jx j) a n).2 ≤ 1))), 0, [x 4, .int false .i64 n, x 6, .ptr false 5 0, .ptr false 6 0, .int true .i64 j, .int true .u64 (IntKind.u64.wrap (bo - topC b a j n / 18446744073709551616))], 239, remM u m r b (topA b a j n)) ∧
  obs [4, 5, 6, 7, 8, 11, 13] ((codeL Try.prog qAll hr3 (fun _ _ => none) 100 (lp (blk 10 (bodyOf Try.prog 95))) ⟨tmOf (ups x (r10U n j bo)) 239, remM u m r b a⟩).go [false]) =
    some ([!decide (bo > 0)], 12, [x 4, .int false .i64 n, x 6, .ptr false 5 0, .ptr false 6 0, .int true .i64 j, .int true .u64 bo], 239, remM u m r b a)
theorem R10_1 : R10 1 := fun x j bo u m r b a => ⟨by kernel_rfl, by kernel_rfl⟩
theorem R10_2 : R10 2 := fun x j bo u m r b a => ⟨by kernel_rfl, by kernel_rfl⟩
theorem R10_3 : R10 3 := fun x j bo u m r b a => ⟨by kernel_rfl, by kernel_rfl⟩
theorem R10_4 : R10 4 := fun x j bo u m r b a => ⟨by kernel_rfl, by kernel_rfl⟩

def allW (l : List Int) : Bool := l.all fun x => decide (0 ≤ x) && decide (x < 18446744073709551616)
theorem allW_get {l : List Int} (h : allW l = true) (t : Nat) : W (l.getD t 0) := by
  rw [allW, List.all_eq_true] at h
  by_cases ht : t < l.length
  · have := h l[t] (List.getElem_mem ht)
    simp only [Bool.and_eq_true, decide_eq_true_eq] at this
    rw [List.getD, List.getElem?_eq_getElem ht]
    exact this
  · rw [List.getD, List.getElem?_eq_none (by omega)]
    exact ⟨by decide, by decide⟩
def natOf : AV → Option Nat
  | .int false .i64 (.ofNat n) => some n
  | _ => none
theorem natOf_eq {a : AV} {n : Nat} (h : natOf a = some n) : a = .int false .i64 (n : Int) := by
  unfold natOf at h
  split at h
  · cases h; rfl
  · cases h
def i64Of : AV → Option Int
  | .int true .i64 n => some n
  | _ => none
theorem i64Of_eq {a : AV} {n : Int} (h : i64Of a = some n) : a = .int true .i64 n := by
  unfold i64Of at h
  split at h
  · cases h; rfl
  · cases h
def isP (k : Nat) : AV → Bool
  | .ptr false n 0 => Nat.beq n k
  | _ => false
theorem isP_eq {k : Nat} {a : AV} (h : isP k a = true) : a = .ptr false k 0 := by
  unfold isP at h
  split at h
  · rw [Nat.eq_of_beq_eq_true h]
  · cases h
structure RemS where
  u : List Int
  m : List Int
  r : List Int
  b : List Int
  a : List Int
def memOf : Mem → Option RemS
  | [none, none, some ⟨true, .ints .u64 (some 9) u⟩, some ⟨true, .ints .u64 (some 4) m⟩, some ⟨true, .ints .u64 (some 4) r⟩, some ⟨true, .ints .u64 (some 5) b⟩, some ⟨true, .ints .u64 (some 10) a⟩] => some ⟨u, m, r, b, a⟩
  | _ => none
theorem memOf_eq {m : Mem} {s : RemS} (h : memOf m = some s) : m = remM s.u s.m s.r s.b s.a := by
  unfold memOf at h
  split at h
  · cases h; rfl
  · cases h
def segV (a : List Int) (j bo : Int) (n : Nat) : Int := sg (fun t => a.getD (j.toNat + t) 0) (n + 1) - bo * 18446744073709551616 ^ (n + 1)
def bigB (b : List Int) (n : Nat) : Int := sg (fun t => b.getD t 0) n
def rem10 (n : Nat) (j bo : Int) (b a : List Int) : List Int := putSeg a j.toNat (segV a j bo n % bigB b n) (n + 1)
def o10 (n : Nat) (j bo : Int) (b a : List Int) : List Bool := [decide (1 ≤ n ∧ n ≤ 4), decide (0 ≤ j ∧ j + n ≤ 9), decide (0 ≤ bo ∧ bo ≤ 1), decide (a.length = 10), allW a, allW b, decide (0 < bigB b n), decide (segV a j bo n < bigB b n)]
def remΛ1 : LoopH := fun id st => match id with
  | 10 => match natOf (st.tm.getD 5 .top), i64Of (st.tm.getD 11 .top), intOf (st.tm.getD 13 .top), memOf st.mem, isP 5 (st.tm.getD 7 .top) && isP 6 (st.tm.getD 8 .top) && Nat.beq st.tm.length 239 with
    | some n, some j, some bo, some s, true => some (o10 n j bo s.b s.a, ⟨tmOf (ups (fun _ => .top) [(4, st.tm.getD 4 .top), (5, .int false .i64 n), (6, st.tm.getD 6 .top), (7, .ptr false 5 0), (8, .ptr false 6 0), (11, .int true .i64 j)]) 239, remM s.u s.m s.r s.b (rem10 n j bo s.b s.a)⟩)
    | _, _, _, _, _ => none
  | _ => none
theorem jx_eq {j : Int} {n : Nat} (h : 0 ≤ j ∧ j + n ≤ 9) : ∀ i, i ≤ n → jx j i = j.toNat + i := fun i hi => by
  unfold jx
  have hw : IntKind.i64.wrap (j + (i : Int)) = j + (i : Int) := w64_id (by omega)
  rw [hw]
  omega
theorem dIx_true {j : Int} {n : Nat} (h : 0 ≤ j ∧ j + n ≤ 9) {i : Nat} (hi : i ≤ n) : dIx j i = true := by
  have hw : IntKind.i64.wrap (j + (i : Int)) = j + (i : Int) := w64_id (by omega)
  unfold dIx
  rw [hw, decide_eq_true (by omega : 0 ≤ j + (i : Int)), decide_eq_true (by omega : j + (i : Int) < ((10 : Nat) : Int))]
  rfl
theorem dJ_paid {j : Int} {n : Nat} (h : 0 ≤ j ∧ j + n ≤ 9) {i : Nat} (hi : i ≤ n) {p : Bool} (hp : p = true) : Paid (dJ j i p) := by
  have e := dIx_true h hi
  have g : decide (jx j i + 1 ≤ 10) = true := decide_eq_true (by rw [jx_eq h i hi]; omega)
  exact paid_cons e (paid_cons g (paid_cons hp (paid_cons e (paid_cons g Paid.nil))))
theorem dAB_paid {b a : List Int} {j : Int} {n : Nat} (h : 0 ≤ j ∧ j + n ≤ 9) (hc : ∀ i, i ≤ n → (abN b (jx j) a i).2 ≤ 1) : ∀ i, i ≤ n → Paid (dAB b a j i)
  | 0, _ => Paid.nil
  | i + 1, hi => paid_append.2 ⟨dAB_paid h hc i (by omega), dJ_paid h (by omega) (decide_eq_true (hc i (by omega)))⟩
/-- One adding back, as numbers. -/
theorem add_back {n : Nat} {j bo : Int} {b al : List Int} (h : 0 ≤ j ∧ j + n ≤ 9) (hl : al.length = 10) (hw : ∀ t, W (al.getD t 0)) (hb : ∀ t, W (b.getD t 0)) :
    (topA b al j n).length = 10 ∧ (∀ t, W ((topA b al j n).getD t 0)) ∧ (∀ t, t < j.toNat ∨ j.toNat + (n + 1) ≤ t → (topA b al j n).getD t 0 = al.getD t 0) ∧ (0 ≤ topC b al j n / 18446744073709551616 ∧ topC b al j n / 18446744073709551616 ≤ 1) ∧
      segV (topA b al j n) j (bo - topC b al j n / 18446744073709551616) n = segV al j bo n + bigB b n ∧ ∀ i, i ≤ n → (abN b (jx j) al i).2 ≤ 1 := by
  have hs := ab_spec hl hw hb (jx_eq h) (J := j.toNat) (by omega)
  obtain ⟨e1, e2, e3, e4, e6⟩ := hs n (Nat.le_refl _)
  have hx := jx_eq h n (Nat.le_refl _)
  have hk : j.toNat + n < (abN b (jx j) al n).1.length := by omega
  have c2 : (abN b (jx j) al n).1.getD (j.toNat + n) 0 = al.getD (j.toNat + n) 0 := e3 _ (by omega)
  have w1 := hw (j.toNat + n)
  have hT : topC b al j n = al.getD (j.toNat + n) 0 + (abN b (jx j) al n).2 := by unfold topC; rw [hx, c2]; omega
  have g : W (topC b al j n % 18446744073709551616) ∧ (0 ≤ topC b al j n / 18446744073709551616 ∧ topC b al j n / 18446744073709551616 ≤ 1) ∧
      al.getD (j.toNat + n) 0 + (abN b (jx j) al n).2 = topC b al j n % 18446744073709551616 + topC b al j n / 18446744073709551616 * 18446744073709551616 := by
    rw [hT]; unfold W at *; omega
  obtain ⟨g1, g2, g3⟩ := g
  refine ⟨by unfold topA; simp [e1], by unfold topA; exact W_set e2 g1, fun t ht => ?_, g2, ?_, fun i hi => (hs i hi).2.2.2.1.2⟩
  · unfold topA
    rw [hx, getD_set_int hk, if_neg (by omega)]
    exact e3 t (by omega)
  · have c1 : sg (fun t => (topA b al j n).getD (j.toNat + t) 0) n = sg (fun t => (abN b (jx j) al n).1.getD (j.toNat + t) 0) n :=
      sg_congr fun t ht => by unfold topA; rw [hx, getD_set_int hk, if_neg (by omega)]
    have c3 : (topA b al j n).getD (j.toNat + n) 0 = topC b al j n % 18446744073709551616 := by unfold topA; rw [hx, getD_set_int hk, if_pos rfl]
    unfold segV bigB
    simp only [sg]
    rw [c1, c3, Int.pow_succ]
    generalize topC b al j n % 18446744073709551616 = X at *
    generalize topC b al j n / 18446744073709551616 = c' at *
    generalize al.getD (j.toNat + n) 0 = x at *
    generalize (18446744073709551616 : Int) ^ n = p at *
    generalize sg (fun t => al.getD (j.toNat + t) 0) n = A at *
    generalize sg (fun t => b.getD t 0) n = Bs at *
    generalize sg (fun t => (abN b (jx j) al n).1.getD (j.toNat + t) 0) n = A' at *
    generalize (abN b (jx j) al n).2 = cc at *
    grind
theorem R10_all {n : Nat} (h : 1 ≤ n ∧ n ≤ 4) : R10 n := by
  match n, h with
  | 1, _ => exact R10_1
  | 2, _ => exact R10_2
  | 3, _ => exact R10_3
  | 4, _ => exact R10_4
  | 0, h => exact absurd h.1 (by decide)
  | k + 5, h => exact absurd h.2 (by omega)
end Go.Proofs.Ytfmgodgakndjcaa
