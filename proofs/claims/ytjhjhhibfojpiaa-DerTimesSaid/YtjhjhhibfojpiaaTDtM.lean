/- Years, months and days. Own work. -/

set_option linter.unusedSimpArgs false
set_option linter.unusedVariables false
set_option linter.unusedSectionVars false
namespace Go.Dt
set_option maxRecDepth 10000
/-- Leap years up to one. -/
def lpY (p : Nat) : Nat := p / 4 - p / 100 + p / 400
def leapB (y : Nat) : Bool := decide (y % 4 = 0) && (decide (y % 100 ≠ 0) || decide (y % 400 = 0))
def lenM (y m : Nat) : Nat := if m = 2 then (if leapB y then 29 else 28) else if m = 4 ∨ m = 6 ∨ m = 9 ∨ m = 11 then 30 else 31
def ahdY (y : Nat) : Nat := 365 * (y - 1970) + lpY (y - 1) - 477
def cumM (y : Nat) : Nat → Nat
  | 0 => 0
  | j + 1 => cumM y j + lenM y (j + 1)
def cnt : Nat → Nat
  | 0 => 0
  | j + 1 => cnt j + (if leapB (1972 + 4 * j) then 1 else 0)
def jOf (y : Nat) : Nat := (y - 1972 + 3) / 4
theorem leapB_true {y : Nat} : leapB y = true ↔ y % 4 = 0 ∧ (y % 100 ≠ 0 ∨ y % 400 = 0) := by
  unfold leapB; simp
theorem lp_mono {a b : Nat} (h : a ≤ b) : lpY a ≤ lpY b := by unfold lpY; omega
theorem lp_step {p : Nat} : lpY (p + 1) = lpY p + (if (p + 1) % 4 = 0 ∧ ((p + 1) % 100 ≠ 0 ∨ (p + 1) % 400 = 0) then 1 else 0) := by
  have h4 : (p + 1) / 4 = p / 4 + (if (p + 1) % 4 = 0 then 1 else 0) := by split <;> omega
  have h100 : (p + 1) / 100 = p / 100 + (if (p + 1) % 100 = 0 then 1 else 0) := by split <;> omega
  have h400 : (p + 1) / 400 = p / 400 + (if (p + 1) % 400 = 0 then 1 else 0) := by split <;> omega
  have hle : p / 100 ≤ p / 4 := by omega
  unfold lpY
  rw [h4, h100, h400]
  by_cases c1 : (p + 1) % 4 = 0
  · by_cases c2 : (p + 1) % 100 = 0
    · by_cases c3 : (p + 1) % 400 = 0
      · rw [if_pos c1, if_pos c2, if_pos c3, if_pos ⟨c1, Or.inr c3⟩]; omega
      · rw [if_pos c1, if_pos c2, if_neg c3, if_neg (fun h => h.2.elim (fun h => h c2) c3)]; omega
    · have c3 : ¬ (p + 1) % 400 = 0 := by omega
      rw [if_pos c1, if_neg c2, if_neg c3, if_pos ⟨c1, Or.inl c2⟩]; omega
  · have c2 : ¬ (p + 1) % 100 = 0 := by omega
    have c3 : ¬ (p + 1) % 400 = 0 := by omega
    rw [if_neg c1, if_neg c2, if_neg c3, if_neg (fun h => c1 h.1)]; omega
theorem ahead_succ {y : Nat} (h : 1970 ≤ y) : ahdY (y + 1) = ahdY y + 365 + (if leapB y then 1 else 0) := by
  have h477 : 477 ≤ lpY (y - 1) := lp_mono (a := 1969) (by omega)
  unfold ahdY
  by_cases hl : leapB y = true
  · rw [if_pos hl]
    rw [leapB_true] at hl
    have := lp_step (p := y - 1)
    rw [show y - 1 + 1 = y by omega] at this
    rw [Nat.add_sub_cancel, this, if_pos hl]
    omega
  · rw [if_neg hl]
    have hl : ¬ (y % 4 = 0 ∧ (y % 100 ≠ 0 ∨ y % 400 = 0)) := fun h => hl (leapB_true.2 h)
    have := lp_step (p := y - 1)
    rw [show y - 1 + 1 = y by omega] at this
    rw [Nat.add_sub_cancel, this, if_neg hl]
    omega
theorem ahead_lt {a b : Nat} (h0 : 1970 ≤ a) (h : a < b) : ahdY a < ahdY b := by
  have : lpY (a - 1) ≤ lpY (b - 1) := lp_mono (by omega)
  have h477 : 477 ≤ lpY (a - 1) := lp_mono (a := 1969) (by omega)
  unfold ahdY; omega
theorem ahead_le {a b : Nat} (h0 : 1970 ≤ a) (h : a ≤ b) : ahdY a ≤ ahdY b := by
  rcases Nat.lt_or_eq_of_le h with h | rfl
  · exact Nat.le_of_lt (ahead_lt h0 h)
  · exact Nat.le_refl _
theorem ahead_366 : ∀ k, ahdY (1970 + k) ≤ 366 * k
  | 0 => by decide
  | k + 1 => by
    have := ahead_366 k
    have e := ahead_succ (y := 1970 + k) (by omega)
    rw [show 1970 + (k + 1) = 1970 + k + 1 by omega, e]
    split <;> omega
theorem ahead_365 (k : Nat) : 365 * k ≤ ahdY (1970 + k) := by
  have h477 : 477 ≤ lpY (1970 + k - 1) := lp_mono (a := 1969) (by omega)
  unfold ahdY; omega
theorem cnt_lp : ∀ j, cnt j + 477 = lpY (1968 + 4 * j)
  | 0 => by decide
  | j + 1 => by
    have ih := cnt_lp j
    unfold cnt
    by_cases hl : leapB (1972 + 4 * j) = true
    · rw [if_pos hl]
      rw [leapB_true] at hl
      have : lpY (1968 + 4 * (j + 1)) = lpY (1968 + 4 * j) + 1 := by unfold lpY; omega
      omega
    · rw [if_neg hl]
      have hl : ¬ ((1972 + 4 * j) % 4 = 0 ∧ ((1972 + 4 * j) % 100 ≠ 0 ∨ (1972 + 4 * j) % 400 = 0)) := fun h => hl (leapB_true.2 h)
      have : lpY (1968 + 4 * (j + 1)) = lpY (1968 + 4 * j) := by unfold lpY; omega
      omega
theorem cnt_ahead {y : Nat} (h : 1970 ≤ y) : (y - 1970) * 365 + cnt (jOf y) = ahdY y := by
  have e := cnt_lp (jOf y)
  have : lpY (1968 + 4 * jOf y) = lpY (y - 1) := by unfold lpY jOf; omega
  unfold ahdY; omega
theorem cum12 (y : Nat) : cumM y 12 = 365 + (if leapB y then 1 else 0) := by
  simp only [cumM, lenM]
  cases leapB y <;> rfl
theorem cum_le (y : Nat) {i j : Nat} (h : i ≤ j) : cumM y i ≤ cumM y j := by
  induction j with
  | zero => cases Nat.le_zero.1 h; exact Nat.le_refl _
  | succ j ih =>
    by_cases e : i = j + 1
    · subst e; exact Nat.le_refl _
    · have := ih (by omega)
      show _ ≤ cumM y j + _
      omega
theorem lenM_range (y m : Nat) : 28 ≤ lenM y m ∧ lenM y m ≤ 31 := by
  unfold lenM; split
  · split <;> omega
  · split <;> omega
/-- The year of a day, searched from one on. -/
def yrUp (d : Nat) : Nat → Nat → Nat
  | 0, y => y
  | f + 1, y => if ahdY (y + 1) ≤ d then yrUp d f (y + 1) else y
def yearOf (d : Nat) : Nat := yrUp d d 1970
theorem yrUp_ok (d : Nat) (f : Nat) : ∀ y, 1970 ≤ y → ahdY y ≤ d → d < ahdY (y + f + 1) → ahdY (yrUp d f y) ≤ d ∧ d < ahdY (yrUp d f y + 1) ∧ y ≤ yrUp d f y := by
  induction f with
  | zero => intro y h0 h1 h2; exact ⟨h1, h2, Nat.le_refl _⟩
  | succ f ih =>
    intro y h0 h1 h2
    unfold yrUp
    split
    · rename_i h
      obtain ⟨a, b, c⟩ := ih (y + 1) (by omega) h (by rw [show y + 1 + f + 1 = y + (f + 1) + 1 by omega]; exact h2)
      exact ⟨a, b, by omega⟩
    · exact ⟨h1, by omega, Nat.le_refl _⟩
theorem yearOf_ok (d : Nat) : ahdY (yearOf d) ≤ d ∧ d < ahdY (yearOf d + 1) ∧ 1970 ≤ yearOf d :=
  yrUp_ok d d 1970 (Nat.le_refl _) (by show ahdY 1970 ≤ d; rw [show ahdY 1970 = 0 by decide]; exact Nat.zero_le _) (by have := ahead_365 (d + 1); rw [show 1970 + d + 1 = 1970 + (d + 1) by omega]; omega)
theorem year_lt {d y : Nat} (h0 : 1970 ≤ y) : ahdY (y + 1) ≤ d ↔ y < yearOf d := by
  obtain ⟨h1, h2, h3⟩ := yearOf_ok d
  constructor
  · intro h
    by_cases hlt : y < yearOf d
    · exact hlt
    · have := ahead_le (a := yearOf d + 1) (b := y + 1) (by omega) (by omega)
      omega
  · intro h
    have := ahead_le (a := y + 1) (b := yearOf d) (by omega) (by omega)
    omega
theorem year_first (d : Nat) : 1970 + d / 366 ≤ yearOf d := by
  by_cases h : d / 366 = 0
  · rw [h]; exact (yearOf_ok d).2.2
  · have h1 := ahead_366 (d / 366)
    have : 1970 + (d / 366 - 1) < yearOf d := (year_lt (by omega)).1 (by rw [show 1970 + (d / 366 - 1) + 1 = 1970 + d / 366 by omega]; omega)
    omega
theorem year_9999 {d : Nat} (h : d < 2932897) : yearOf d ≤ 9999 := by
  have h1 := (yearOf_ok d).1
  by_cases hy : yearOf d ≤ 9999
  · exact hy
  · have := ahead_le (a := 10000) (b := yearOf d) (by omega) (by omega)
    rw [show ahdY 10000 = 2932897 by decide +kernel] at this
    omega
/-- The month of a year's day. -/
def mUp (y r : Nat) : Nat → Nat → Nat
  | 0, m => m
  | f + 1, m => if cumM y m ≤ r then mUp y r f (m + 1) else m
def monthOf (y r : Nat) : Nat := mUp y r 11 1
theorem mUp_ok (y r : Nat) : ∀ f m, 1 ≤ m → cumM y (m - 1) ≤ r → r < cumM y (m + f) → cumM y (mUp y r f m - 1) ≤ r ∧ r < cumM y (mUp y r f m) ∧ 1 ≤ mUp y r f m ∧ mUp y r f m ≤ m + f
  | 0, m, h0, h1, h2 => ⟨h1, h2, h0, Nat.le_refl _⟩
  | f + 1, m, h0, h1, h2 => by
    unfold mUp
    split
    · rename_i h
      obtain ⟨a, b, c, d⟩ := mUp_ok y r f (m + 1) (by omega) (by rw [Nat.add_sub_cancel]; exact h) (by rw [show m + 1 + f = m + (f + 1) by omega]; exact h2)
      exact ⟨a, b, c, by omega⟩
    · exact ⟨h1, by omega, h0, by omega⟩
theorem monthOf_ok {y r : Nat} (h : r < cumM y 12) : cumM y (monthOf y r - 1) ≤ r ∧ r < cumM y (monthOf y r) ∧ 1 ≤ monthOf y r ∧ monthOf y r ≤ 12 :=
  mUp_ok y r 11 1 (Nat.le_refl _) (Nat.zero_le _) h
theorem month_lt {y r m : Nat} (h : r < cumM y 12) : cumM y m ≤ r ↔ m < monthOf y r := by
  obtain ⟨h1, h2, h3, h4⟩ := monthOf_ok h
  constructor
  · intro hm
    by_cases hlt : m < monthOf y r
    · exact hlt
    · have := cum_le y (i := monthOf y r) (j := m) (by omega)
      omega
  · intro hm
    have := cum_le y (i := m) (j := monthOf y r - 1) (by omega)
    omega
theorem rest_lt (d : Nat) : d - ahdY (yearOf d) < cumM (yearOf d) 12 := by
  obtain ⟨h1, h2, h3⟩ := yearOf_ok d
  have e := ahead_succ h3
  rw [cum12]
  omega
end Go.Dt
namespace Go.Dt
/-- The seconds of a moment. -/
def secs (y m d h mi s : Nat) : Nat := (((ahdY y + d - 1 + cumM y (m - 1)) * 24 + h) * 60 + mi) * 60 + s
def there (y m d h mi s : Nat) : Bool := decide (1970 ≤ y) && decide (1 ≤ m) && decide (m ≤ 12) && decide (1 ≤ d) && decide (d ≤ lenM y m) && decide (h < 24) && decide (mi < 60) && decide (s < 60)
def restOf (d : Nat) : Nat := d - ahdY (yearOf d)
def monOf (d : Nat) : Nat := monthOf (yearOf d) (restOf d)
def dayOf (d : Nat) : Nat := restOf d - cumM (yearOf d) (monOf d - 1) + 1
theorem mon_range (d : Nat) : 1 ≤ monOf d ∧ monOf d ≤ 12 := ⟨(monthOf_ok (rest_lt d)).2.2.1, (monthOf_ok (rest_lt d)).2.2.2⟩
theorem cum_last {y m : Nat} (h : 1 ≤ m) : cumM y m = cumM y (m - 1) + lenM y m := by
  obtain ⟨k, rfl⟩ := Nat.exists_eq_add_of_le h
  rw [Nat.add_comm 1 k]
  rfl
theorem day_range (d : Nat) : 1 ≤ dayOf d ∧ dayOf d ≤ lenM (yearOf d) (monOf d) := by
  obtain ⟨h1, h2, h3, h4⟩ := monthOf_ok (rest_lt d)
  have := cum_last (y := yearOf d) h3
  unfold dayOf monOf restOf
  omega
theorem secs_back (t : Nat) : secs (yearOf (t / 86400)) (monOf (t / 86400)) (dayOf (t / 86400)) (t / 3600 % 24) (t / 60 % 60) (t % 60) = t := by
  obtain ⟨h1, h2, h3, h4⟩ := monthOf_ok (rest_lt (t / 86400))
  have h5 := (yearOf_ok (t / 86400)).1
  have e : ahdY (yearOf (t / 86400)) + dayOf (t / 86400) - 1 + cumM (yearOf (t / 86400)) (monOf (t / 86400) - 1) = t / 86400 := by
    unfold dayOf monOf restOf
    omega
  unfold secs
  rw [e]
  omega
theorem there_back (t : Nat) : there (yearOf (t / 86400)) (monOf (t / 86400)) (dayOf (t / 86400)) (t / 3600 % 24) (t / 60 % 60) (t % 60) = true := by
  have h1 := (yearOf_ok (t / 86400)).2.2
  have h2 := mon_range (t / 86400)
  have h3 := day_range (t / 86400)
  unfold there
  simp only [Bool.and_eq_true, decide_eq_true_eq]
  omega
/-- A year's last day ahead of a month: the reference's way. -/
def dayR (y m d : Nat) : Nat := (y - 1970) * 365 + d - 1 + cnt (jOf y) + cumM y (m - 1)
theorem dayR_ahead {y m d : Nat} (h : 1970 ≤ y) (hd : 1 ≤ d) : dayR y m d = ahdY y + d - 1 + cumM y (m - 1) := by
  have := cnt_ahead h
  unfold dayR
  omega
/-- Two digits. -/
def dg (n : Nat) : List Int := [48 + ((n / 10 : Nat) : Int), 48 + ((n % 10 : Nat) : Int)]
def isD (x : Int) : Bool := decide (48 ≤ x ∧ x ≤ 57)
def digs (l : List Int) : Bool := l.all isD
def tw (a b : Int) : Nat := (10 * (a - 48) + (b - 48)).toNat
theorem tw_dg {n : Nat} : tw (48 + ((n / 10 : Nat) : Int)) (48 + ((n % 10 : Nat) : Int)) = n := by unfold tw; omega
theorem dg_ok {n : Nat} (h : n < 100) : isD (48 + ((n / 10 : Nat) : Int)) = true ∧ isD (48 + ((n % 10 : Nat) : Int)) = true := by
  unfold isD; simp only [decide_eq_true_eq]; omega
end Go.Dt
