/- What is put is got, on lists. Own work. -/
import Derived.Test.YthpafpifpdeikaaSDeU
set_option linter.unusedSimpArgs false
set_option linter.unusedVariables false
set_option linter.unusedSectionVars false
namespace Go.De
theorem zer_cons {x : Int} {r : List Int} (h : x ≠ 0) : zer (x :: r) = 0 := by unfold zer; rw [if_neg h]
theorem zer_tz (l : List Int) : zer (tz l) = 0 := by
  by_cases h : zer l < l.length
  · rw [tz_head h]
    exact zer_cons (zer_end l h)
  · have := zer_le l
    rw [tz_nil (by omega)]; rfl
theorem tz_tz (l : List Int) : tz (tz l) = tz l := by
  show List.drop (zer (tz l)) (tz l) = tz l
  rw [zer_tz]; rfl
theorem natB_or (l : List Int) : natB l = 0 :: tz l ∨ natB l = tz l ∧ 1 ≤ (tz l).length ∧ (tz l).getD 0 0 < 128 ∧ (tz l).getD 0 0 ≠ 0 := by
  have hle := zer_le l
  by_cases h0 : zer l < l.length
  · by_cases hb : l.getD (zer l) 0 < 128
    · refine Or.inr ⟨natB_t h0 hb, by rw [tz_len]; omega, ?_, ?_⟩
      · rw [tz_head h0]; exact hb
      · rw [tz_head h0]; exact zer_end l h0
    · exact Or.inl (natB_0 (Or.inr (by omega)))
  · exact Or.inl (natB_0 (Or.inl (by omega)))
theorem tz_natB (l : List Int) : tz (natB l) = tz l := by
  rcases natB_or l with h | ⟨h, _⟩
  · rw [h]
    show List.drop (zer (0 :: tz l)) (0 :: tz l) = tz l
    have : zer (0 :: tz l) = 0 + 1 := by
      conv => lhs; unfold zer
      rw [if_pos rfl, zer_tz]
    rw [this]
    rfl
  · rw [h]; exact tz_tz l
theorem natB_zer (l : List Int) : (natB l).length - zer (natB l) = (tz l).length := by
  have := tz_len (natB l)
  rw [tz_natB] at this
  exact this.symm
theorem natB_int (l : List Int) (hr : ∀ x ∈ l, 0 ≤ x) : isInt (natB l).length (natB l) = true := by
  have hz := zer_end l
  have hle := zer_le l
  unfold isInt
  by_cases h0 : zer l < l.length
  · have hh := tz_head h0
    by_cases hb : l.getD (zer l) 0 < 128
    · rw [natB_t h0 hb, hh]
      have hne := hz h0
      generalize l.getD (zer l) 0 = x at hb hne
      simp [hne, hb]
    · rw [natB_0 (Or.inr (by omega)), hh]
      generalize l.getD (zer l) 0 = x at hb
      simp
      omega
  · rw [natB_0 (Or.inl (by omega)), tz_nil (by omega)]
    decide
end Go.De
namespace Go.Proofs.Ythpafpifpdeikaa
open Go.Ev Go.De
variable [Tab]
theorem put_get {t : Int} {s r : List Int} (ht : ¬ t % 32 = 31) (hs : s.length ≤ 65535) : gd (jOf (putB t s ++ r).length (putB t s ++ r)) (putB t s ++ r).length (putB t s ++ r) = true ∧
    nOf (jOf (putB t s ++ r).length (putB t s ++ r)) (putB t s ++ r) = s.length ∧ gIn (jOf (putB t s ++ r).length (putB t s ++ r)) (putB t s ++ r) = s ∧ gTo (jOf (putB t s ++ r).length (putB t s ++ r)) (putB t s ++ r) = r ∧ (putB t s ++ r).getD 0 0 = t := by
  unfold putB
  by_cases h1 : s.length < 128
  · rw [lenB_1 h1]
    have hj : jOf (t :: ([(s.length : Int)] ++ s) ++ r).length (t :: ([(s.length : Int)] ++ s) ++ r) = 1 := by
      unfold jOf
      rw [if_pos]
      simp only [frm, List.cons_append, List.nil_append, List.length_cons, List.getD_cons_succ, List.getD_cons_zero, Bool.and_eq_true, decide_eq_true_eq]
      omega
    rw [hj]
    have hn : nOf 1 (t :: ([(s.length : Int)] ++ s) ++ r) = s.length := by simp [nOf]
    refine ⟨?_, hn, ?_, ?_, by simp⟩
    · unfold gd
      rw [hn]
      simp only [frm, List.cons_append, List.nil_append, List.length_cons, List.length_append, List.getD_cons_succ, List.getD_cons_zero, Bool.and_eq_true, decide_eq_true_eq, Bool.not_eq_true', beq_eq_false_iff_ne, ne_eq]
      omega
    · unfold gIn
      rw [hn]
      simp
    · unfold gTo
      rw [hn]
      simp [Nat.add_comm, Nat.add_left_comm]
  · by_cases h2 : s.length < 256
    · rw [lenB_2 h1 h2]
      have hj : jOf (t :: ([129, (s.length : Int)] ++ s) ++ r).length (t :: ([129, (s.length : Int)] ++ s) ++ r) = 2 := by
        unfold jOf
        rw [if_neg, if_pos]
        · simp [frm]
          omega
        · simp [frm]
      rw [hj]
      have hn : nOf 2 (t :: ([129, (s.length : Int)] ++ s) ++ r) = s.length := by simp [nOf]
      refine ⟨?_, hn, ?_, ?_, by simp⟩
      · unfold gd
        rw [hn]
        simp [frm, ht]
        omega
      · unfold gIn
        rw [hn]
        simp
      · unfold gTo
        rw [hn]
        simp [Nat.add_comm, Nat.add_left_comm]
    · rw [lenB_3 h2]
      have hj : jOf (t :: ([130, (s.length : Int) / 256, (s.length : Int) % 256] ++ s) ++ r).length (t :: ([130, (s.length : Int) / 256, (s.length : Int) % 256] ++ s) ++ r) = 3 := by
        unfold jOf
        rw [if_neg, if_neg]
        · simp [frm]
        · simp [frm]
      rw [hj]
      have hn : nOf 3 (t :: ([130, (s.length : Int) / 256, (s.length : Int) % 256] ++ s) ++ r) = s.length := by
        simp only [nOf, List.cons_append, List.nil_append, List.getD_cons_succ, List.getD_cons_zero]
        omega
      refine ⟨?_, hn, ?_, ?_, by simp⟩
      · unfold gd
        rw [hn]
        simp [frm, ht]
        omega
      · unfold gIn
        rw [hn]
        simp
      · unfold gTo
        rw [hn]
        simp [Nat.add_comm, Nat.add_left_comm]
end Go.Proofs.Ythpafpifpdeikaa
