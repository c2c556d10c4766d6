/- Long division by words: plain arithmetic. Own work. -/
import Derived.Test.YtdpaedcgbhlibaaModC
namespace Go.Wn
open Go.Ev
/-- The number of n words. -/
def sg (f : Nat → Int) : Nat → Int
  | 0 => 0
  | n + 1 => sg f n + f n * 18446744073709551616 ^ n
theorem sg_congr {f g : Nat → Int} : ∀ {n : Nat}, (∀ t, t < n → f t = g t) → sg f n = sg g n
  | 0, _ => rfl
  | n + 1, h => by
    unfold sg
    rw [sg_congr (n := n) fun t ht => h t (by omega), h n (by omega)]
theorem bp (n : Nat) : (0 : Int) < 18446744073709551616 ^ n := Int.pow_pos (by omega)
theorem sg_range {f : Nat → Int} (h : ∀ t, W (f t)) : ∀ n : Nat, 0 ≤ sg f n ∧ sg f n < 18446744073709551616 ^ n
  | 0 => by simp [sg]
  | n + 1 => by
    obtain ⟨h1, h2⟩ := sg_range h n
    obtain ⟨g1, g2⟩ := h n
    have hp := bp n
    unfold sg
    rw [Int.pow_succ]
    have a1 : 0 ≤ f n * 18446744073709551616 ^ n := Int.mul_nonneg g1 (by omega)
    have a2 : f n * 18446744073709551616 ^ n ≤ 18446744073709551615 * 18446744073709551616 ^ n := Int.mul_le_mul_of_nonneg_right (by omega) (by omega)
    generalize (18446744073709551616 : Int) ^ n = p at *
    generalize f n * p = y at *
    omega
theorem getD_set_int {l : List Int} {k t : Nat} {v : Int} (hk : k < l.length) : (l.set k v).getD t 0 = if k = t then v else l.getD t 0 := by
  simp only [List.getD, List.getElem?_set]
  by_cases h : k = t
  · subst h; simp [hk]
  · simp [h]
theorem W_set {l : List Int} (hl : ∀ t, W (l.getD t 0)) {k : Nat} {v : Int} (hv : W v) : ∀ t, W ((l.set k v).getD t 0) := fun t => by
  by_cases hk : k < l.length
  · rw [getD_set_int hk]
    split
    · exact hv
    · exact hl t
  · rw [List.set_eq_of_length_le (by omega)]; exact hl t

/- multiply and subtract -/
abbrev S3 := List Int × Int × Int
def ms1 (q : Int) (b : List Int) (ix : Nat → Nat) (i : Nat) (s : S3) : S3 :=
  (s.1.set (ix i) ((s.1.getD (ix i) 0 - (q * b.getD i 0 % 18446744073709551616 + s.2.2 + 0) % 18446744073709551616 - s.2.1) % 18446744073709551616),
    if s.1.getD (ix i) 0 < (q * b.getD i 0 % 18446744073709551616 + s.2.2 + 0) % 18446744073709551616 + s.2.1 then 1 else 0,
    IntKind.u64.wrap (q * b.getD i 0 / 18446744073709551616 + (q * b.getD i 0 % 18446744073709551616 + s.2.2 + 0) / 18446744073709551616))
def msN (q : Int) (b : List Int) (ix : Nat → Nat) (al : List Int) : Nat → S3
  | 0 => (al, 0, 0)
  | i + 1 => ms1 q b ix i (msN q b ix al i)
theorem ms_word {q b x bo ca : Int} (hq : W q) (hb : W b) (hx : W x) (hbo : 0 ≤ bo ∧ bo ≤ 1) (hca : W ca) :
    W ((x - (q * b % 18446744073709551616 + ca + 0) % 18446744073709551616 - bo) % 18446744073709551616) ∧
    (0 ≤ (if x < (q * b % 18446744073709551616 + ca + 0) % 18446744073709551616 + bo then (1 : Int) else 0) ∧ (if x < (q * b % 18446744073709551616 + ca + 0) % 18446744073709551616 + bo then (1 : Int) else 0) ≤ 1) ∧
    W (IntKind.u64.wrap (q * b / 18446744073709551616 + (q * b % 18446744073709551616 + ca + 0) / 18446744073709551616)) ∧
    x - q * b - bo - ca = (x - (q * b % 18446744073709551616 + ca + 0) % 18446744073709551616 - bo) % 18446744073709551616 -
      ((if x < (q * b % 18446744073709551616 + ca + 0) % 18446744073709551616 + bo then (1 : Int) else 0) + IntKind.u64.wrap (q * b / 18446744073709551616 + (q * b % 18446744073709551616 + ca + 0) / 18446744073709551616)) * 18446744073709551616 := by
  have h := mul_W hq hb
  rw [wrap_eq]
  unfold W at *
  generalize q * b = P at *
  split <;> omega
theorem ms_spec {q : Int} {b al : List Int} {ix : Nat → Nat} {J n : Nat} (hl : al.length = 10) (hw : ∀ t, W (al.getD t 0)) (hb : ∀ t, W (b.getD t 0)) (hq : W q) (hix : ∀ i, i ≤ n → ix i = J + i) (hJ : J + n ≤ 9) :
    ∀ i, i ≤ n → (msN q b ix al i).1.length = 10 ∧ (∀ t, W ((msN q b ix al i).1.getD t 0)) ∧ (∀ t, t < J ∨ J + i ≤ t → (msN q b ix al i).1.getD t 0 = al.getD t 0) ∧
      (0 ≤ (msN q b ix al i).2.1 ∧ (msN q b ix al i).2.1 ≤ 1) ∧ W (msN q b ix al i).2.2 ∧
      sg (fun t => al.getD (J + t) 0) i - q * sg (fun t => b.getD t 0) i = sg (fun t => (msN q b ix al i).1.getD (J + t) 0) i - ((msN q b ix al i).2.1 + (msN q b ix al i).2.2) * 18446744073709551616 ^ i
  | 0, _ => by
    refine ⟨hl, hw, fun _ _ => rfl, ⟨by simp [msN], by simp [msN]⟩, by simp [msN, W], by simp [msN, sg]⟩
  | i + 1, hi => by
    obtain ⟨e1, e2, e3, e4, e5, e6⟩ := ms_spec hl hw hb hq hix hJ i (by omega)
    unfold msN
    generalize msN q b ix al i = s at *
    have hx := hix i (by omega)
    unfold ms1
    rw [hx]
    have hk : J + i < s.1.length := by omega
    obtain ⟨g1, g2, g3, g4⟩ := ms_word hq (hb i) (e2 (J + i)) e4 e5
    refine ⟨by simp [e1], W_set e2 g1, fun t ht => ?_, g2, g3, ?_⟩
    · rw [getD_set_int hk, if_neg (by omega)]
      exact e3 t (by omega)
    · have c1 : sg (fun t => (s.1.set (J + i) ((s.1.getD (J + i) 0 - (q * b.getD i 0 % 18446744073709551616 + s.2.2 + 0) % 18446744073709551616 - s.2.1) % 18446744073709551616)).getD (J + t) 0) i = sg (fun t => s.1.getD (J + t) 0) i :=
        sg_congr fun t ht => by rw [getD_set_int hk, if_neg (by omega)]
      have c2 : s.1.getD (J + i) 0 = al.getD (J + i) 0 := e3 _ (by omega)
      simp only [sg]
      rw [c1, getD_set_int hk, if_pos rfl, Int.pow_succ]
      rw [c2] at g4 ⊢
      generalize (al.getD (J + i) 0 - (q * b.getD i 0 % 18446744073709551616 + s.2.2 + 0) % 18446744073709551616 - s.2.1) % 18446744073709551616 = x' at *
      generalize (if al.getD (J + i) 0 < (q * b.getD i 0 % 18446744073709551616 + s.2.2 + 0) % 18446744073709551616 + s.2.1 then (1 : Int) else 0) = bo' at *
      generalize IntKind.u64.wrap (q * b.getD i 0 / 18446744073709551616 + (q * b.getD i 0 % 18446744073709551616 + s.2.2 + 0) / 18446744073709551616) = ca' at *
      generalize al.getD (J + i) 0 = x at *
      generalize b.getD i 0 = bi at *
      generalize (18446744073709551616 : Int) ^ i = p at *
      generalize sg (fun t => al.getD (J + t) 0) i = A at *
      generalize sg (fun t => b.getD t 0) i = Bs at *
      generalize sg (fun t => s.1.getD (J + t) 0) i = A' at *
      grind

/- add back -/
abbrev S2 := List Int × Int
def ab1 (b : List Int) (ix : Nat → Nat) (i : Nat) (s : S2) : S2 :=
  (s.1.set (ix i) ((s.1.getD (ix i) 0 + b.getD i 0 + s.2) % 18446744073709551616), (s.1.getD (ix i) 0 + b.getD i 0 + s.2) / 18446744073709551616)
def abN (b : List Int) (ix : Nat → Nat) (al : List Int) : Nat → S2
  | 0 => (al, 0)
  | i + 1 => ab1 b ix i (abN b ix al i)
theorem ab_spec {b al : List Int} {ix : Nat → Nat} {J n : Nat} (hl : al.length = 10) (hw : ∀ t, W (al.getD t 0)) (hb : ∀ t, W (b.getD t 0)) (hix : ∀ i, i ≤ n → ix i = J + i) (hJ : J + n ≤ 9) :
    ∀ i, i ≤ n → (abN b ix al i).1.length = 10 ∧ (∀ t, W ((abN b ix al i).1.getD t 0)) ∧ (∀ t, t < J ∨ J + i ≤ t → (abN b ix al i).1.getD t 0 = al.getD t 0) ∧
      (0 ≤ (abN b ix al i).2 ∧ (abN b ix al i).2 ≤ 1) ∧
      sg (fun t => al.getD (J + t) 0) i + sg (fun t => b.getD t 0) i = sg (fun t => (abN b ix al i).1.getD (J + t) 0) i + (abN b ix al i).2 * 18446744073709551616 ^ i
  | 0, _ => by
    refine ⟨hl, hw, fun _ _ => rfl, ⟨by simp [abN], by simp [abN]⟩, by simp [abN, sg]⟩
  | i + 1, hi => by
    obtain ⟨e1, e2, e3, e4, e6⟩ := ab_spec hl hw hb hix hJ i (by omega)
    unfold abN
    generalize abN b ix al i = s at *
    have hx := hix i (by omega)
    unfold ab1
    rw [hx]
    have hk : J + i < s.1.length := by omega
    have w1 := e2 (J + i)
    have w2 := hb i
    have g : W ((s.1.getD (J + i) 0 + b.getD i 0 + s.2) % 18446744073709551616) ∧ (0 ≤ (s.1.getD (J + i) 0 + b.getD i 0 + s.2) / 18446744073709551616 ∧ (s.1.getD (J + i) 0 + b.getD i 0 + s.2) / 18446744073709551616 ≤ 1) ∧
        s.1.getD (J + i) 0 + b.getD i 0 + s.2 = (s.1.getD (J + i) 0 + b.getD i 0 + s.2) % 18446744073709551616 + (s.1.getD (J + i) 0 + b.getD i 0 + s.2) / 18446744073709551616 * 18446744073709551616 := by
      unfold W at *; omega
    obtain ⟨g1, g2, g4⟩ := g
    refine ⟨by simp [e1], W_set e2 g1, fun t ht => ?_, g2, ?_⟩
    · rw [getD_set_int hk, if_neg (by omega)]
      exact e3 t (by omega)
    · have c1 : sg (fun t => (s.1.set (J + i) ((s.1.getD (J + i) 0 + b.getD i 0 + s.2) % 18446744073709551616)).getD (J + t) 0) i = sg (fun t => s.1.getD (J + t) 0) i :=
        sg_congr fun t ht => by rw [getD_set_int hk, if_neg (by omega)]
      have c2 : s.1.getD (J + i) 0 = al.getD (J + i) 0 := e3 _ (by omega)
      simp only [sg]
      rw [c1, getD_set_int hk, if_pos rfl, Int.pow_succ]
      rw [c2] at g4 ⊢
      generalize (al.getD (J + i) 0 + b.getD i 0 + s.2) % 18446744073709551616 = x' at *
      generalize (al.getD (J + i) 0 + b.getD i 0 + s.2) / 18446744073709551616 = c' at *
      generalize al.getD (J + i) 0 = x at *
      generalize b.getD i 0 = bi at *
      generalize (18446744073709551616 : Int) ^ i = p at *
      generalize sg (fun t => al.getD (J + t) 0) i = A at *
      generalize sg (fun t => b.getD t 0) i = Bs at *
      generalize sg (fun t => s.1.getD (J + t) 0) i = A' at *
      grind
/-- The guess of a digit is none too small. -/
theorem guess_ge {V B hi lo y p : Int} (hp : 0 < p) (hy : 0 < y) (hB : y * p ≤ B) (hV : V < ((hi * 18446744073709551616 + lo) + 1) * p) (hV0 : 0 ≤ V) : V / B ≤ (hi * 18446744073709551616 + lo) / y := by
  have hB0 : 0 < B := by
    have := Int.mul_pos hy hp
    omega
  apply Int.le_ediv_of_mul_le hy
  have h1 := Int.ediv_mul_le V (Int.ne_of_gt hB0)
  have h0 := Int.ediv_nonneg hV0 (Int.le_of_lt hB0)
  generalize V / B = Q at *
  have h2 : Q * (y * p) ≤ Q * B := Int.mul_le_mul_of_nonneg_left hB h0
  have h3 : (Q * y) * p < ((hi * 18446744073709551616 + lo) + 1) * p := by rw [Int.mul_assoc]; omega
  have h4 := Int.lt_of_mul_lt_mul_right h3 (Int.le_of_lt hp)
  omega

theorem sg_digit {f : Nat → Int} (h : ∀ t, W (f t)) : ∀ {n k : Nat}, k < n → sg f n / 18446744073709551616 ^ k % 18446744073709551616 = f k
  | 0, k, hk => by omega
  | n + 1, k, hk => by
    unfold sg
    have hp := bp k
    rcases Nat.lt_or_ge k n with hlt | hge
    · have e : (18446744073709551616 : Int) ^ n = 18446744073709551616 ^ k * (18446744073709551616 * 18446744073709551616 ^ (n - k - 1)) := by
        rw [← Int.mul_assoc, ← Int.pow_succ, ← Int.pow_add]; congr 1; omega
      rw [e, show f n * (18446744073709551616 ^ k * (18446744073709551616 * 18446744073709551616 ^ (n - k - 1))) = 18446744073709551616 ^ k * (18446744073709551616 * (f n * 18446744073709551616 ^ (n - k - 1))) by grind,
        Int.add_mul_ediv_left _ _ (Int.ne_of_gt hp), Int.add_mul_emod_self_left]
      exact sg_digit h hlt
    · have hk' : k = n := by omega
      subst hk'
      obtain ⟨h1, h2⟩ := sg_range h k
      obtain ⟨g1, g2⟩ := h k
      rw [Int.add_mul_ediv_right _ _ (Int.ne_of_gt hp), Int.ediv_eq_zero_of_lt h1 h2, Int.zero_add]
      exact Int.emod_eq_of_lt g1 g2
def putSeg (a : List Int) (J : Nat) (X : Int) : Nat → List Int
  | 0 => a
  | k + 1 => (putSeg a J X k).set (J + k) (X / 18446744073709551616 ^ k % 18446744073709551616)
theorem putSeg_len {a : List Int} {J : Nat} {X : Int} : ∀ k : Nat, (putSeg a J X k).length = a.length
  | 0 => rfl
  | k + 1 => by unfold putSeg; rw [List.length_set, putSeg_len k]
theorem putSeg_get {a : List Int} {J : Nat} {X : Int} : ∀ {k t : Nat}, J + k ≤ a.length → (putSeg a J X k).getD t 0 = if J ≤ t ∧ t < J + k then X / 18446744073709551616 ^ (t - J) % 18446744073709551616 else a.getD t 0
  | 0, t, _ => by unfold putSeg; rw [if_neg (by omega)]
  | k + 1, t, h => by
    unfold putSeg
    rw [getD_set_int (by rw [putSeg_len]; omega), putSeg_get (k := k) (by omega)]
    by_cases h1 : J + k = t
    · rw [if_pos h1, if_pos (by omega), show t - J = k by omega]
    · rw [if_neg h1]
      by_cases h2 : J ≤ t ∧ t < J + k
      · rw [if_pos h2, if_pos (by omega)]
      · rw [if_neg h2, if_neg (by omega)]
theorem list_ext_int {l m : List Int} (hl : l.length = m.length) (h : ∀ t, t < l.length → l.getD t 0 = m.getD t 0) : l = m := by
  apply List.ext_getElem hl
  intro i h1 h2
  have := h i h1
  simpa [List.getD, List.getElem?_eq_getElem h1, List.getElem?_eq_getElem h2] using this
/-- A segment's words, off its number. -/
theorem put_self {a al : List Int} {J n : Nat} (hl : al.length = a.length) (hJ : J + n ≤ a.length) (hw : ∀ t, W (al.getD t 0)) (ho : ∀ t, t < J ∨ J + n ≤ t → al.getD t 0 = a.getD t 0) : al = putSeg a J (sg (fun t => al.getD (J + t) 0) n) n := by
  apply list_ext_int (by rw [putSeg_len, hl])
  intro t ht
  rw [putSeg_get hJ]
  split
  · rename_i h
    rw [sg_digit (fun t => hw (J + t)) (k := t - J) (by omega), show J + (t - J) = t by omega]
  · exact ho t (by omega)
end Go.Wn
