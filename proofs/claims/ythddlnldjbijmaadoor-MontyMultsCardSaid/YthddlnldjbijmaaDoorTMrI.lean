/- The reference of layer 9: its ladder reckons the same. Own work. -/
import Derived.Test.YthddlnldjbijmaaDoorTMrH
set_option linter.unusedSimpArgs false
set_option linter.unusedVariables false
set_option linter.unusedSectionVars false
namespace Go.Mo
open Go.Ev Go.Wn Go.Ed
theorem pN_eq : pN = (P25 : Int) := by decide +kernel
theorem ok_n (x : Int) : ok (x % pN) := ⟨Int.emod_nonneg _ (by decide), Int.lt_trans (Int.emod_lt_of_pos _ pN_pos) (by decide)⟩
theorem ph_nM {x y : Int} (hx : ok x) (hy : ok y) : ph (nM x y) = ph x * ph y := by unfold nM; rw [pN_eq, ph_mod, vl_ok hx, vl_ok hy, ph_mul]
theorem ph_nP {x y : Int} (hx : ok x) (hy : ok y) : ph (nP x y) = ph x + ph y := by unfold nP; rw [pN_eq, ph_mod, vl_ok hx, vl_ok hy, ph_add]
theorem ph_nS {x y : Int} (hx : ok x) (hy : ok y) : ph (nS x y) = ph x - ph y := by unfold nS; rw [pN_eq, ph_mod, vl_ok hx, vl_ok hy, ph_sub]
theorem nM_ok (x y : Int) : ok (nM x y) := ok_n _
theorem nP_ok (x y : Int) : ok (nP x y) := ok_n _
theorem nS_ok (x y : Int) : ok (nS x y) := ok_n _
theorem ph_wX {a b c d : Int} (ha : ok a) (hb : ok b) (hc : ok c) (hd : ok d) : ph (wX a b c d) = (ph a * ph c - ph b * ph d) * (ph a * ph c - ph b * ph d) := by
  unfold wX
  have h : ok (wS a b c d) := nS_ok _ _
  have e : ph (wS a b c d) = ph a * ph c - ph b * ph d := by unfold wS; rw [ph_nS (nM_ok _ _) (nM_ok _ _), ph_nM ha hc, ph_nM hb hd]
  rw [ph_nM h h, e]
theorem ph_wZ {x a b c d : Int} (hx : ok x) (ha : ok a) (hb : ok b) (hc : ok c) (hd : ok d) : ph (wZ x a b c d) = ph x * ((ph a * ph d - ph b * ph c) * (ph a * ph d - ph b * ph c)) := by
  unfold wZ
  have h : ok (wD a b c d) := nS_ok _ _
  have e : ph (wD a b c d) = ph a * ph d - ph b * ph c := by unfold wD; rw [ph_nS (nM_ok _ _) (nM_ok _ _), ph_nM ha hd, ph_nM hb hc]
  rw [ph_nM hx (nM_ok _ _), ph_nM h h, e]
theorem ph_vX {x z : Int} (hx : ok x) (hz : ok z) : ph (vX x z) = (ph x * ph x - ph z * ph z) * (ph x * ph x - ph z * ph z) := by
  unfold vX
  have h : ok (vD x z) := nS_ok _ _
  have e : ph (vD x z) = ph x * ph x - ph z * ph z := by unfold vD; rw [ph_nS (nM_ok _ _) (nM_ok _ _), ph_nM hx hx, ph_nM hz hz]
  rw [ph_nM h h, e]
theorem ok_4 : ok 4 := ⟨by decide, by decide⟩
theorem ok_A : ok 486662 := ⟨by decide, by decide⟩
theorem ph_4 : ph 4 = 4 := by decide +kernel
theorem ph_A : ph 486662 = A25 := by decide +kernel
theorem ph_vZ {x z : Int} (hx : ok x) (hz : ok z) : ph (vZ x z) = 4 * ((ph x * ph z) * ((ph x * ph x + ph z * ph z) + A25 * (ph x * ph z))) := by
  unfold vZ
  rw [ph_nM ok_4 (nM_ok _ _), ph_nM (nM_ok _ _) (nP_ok _ _), ph_nP (nP_ok _ _) (nM_ok _ _), ph_nP (nM_ok _ _) (nM_ok _ _), ph_nM ok_A (nM_ok _ _), ph_nM hx hx, ph_nM hz hz, ph_nM hx hz, ph_4, ph_A]
theorem rstp_ok (x b : Int) (s : Int × Int × Int × Int) : oks (rstp x b s) := by
  unfold rstp
  split
  · exact ⟨nM_ok _ _, nM_ok _ _, nM_ok _ _, nM_ok _ _⟩
  · exact ⟨nM_ok _ _, nM_ok _ _, nM_ok _ _, nM_ok _ _⟩
theorem rl_ok (N : Int) {x : Int} (hx : ok x) : ∀ t, oks (rl N x t)
  | 0 => ⟨ok_1, ok_0, hx, ok_1⟩
  | _ + 1 => rstp_ok _ _ _
theorem rX {n : Nat} [NeZero n] (a b c d : Fin n) : (a * c - b * d) * (a * c - b * d) = (c * a - d * b) * (c * a - d * b) := by grind
theorem rZ {n : Nat} [NeZero n] (u a b c d : Fin n) : u * ((a * d - b * c) * (a * d - b * c)) = u * ((c * b - d * a) * (c * b - d * a)) := by grind
theorem rV {n : Nat} [NeZero n] (A x z : Fin n) : 4 * ((x * z) * ((x * x + z * z) + A * (x * z))) = 4 * (x * z) * (x * x + z * z + A * (x * z)) := by grind
theorem rstep_R {m : Ed.M P25} (hm : m.A = A25) {P L H : Pt P25} (hP : m.on P) (hL : m.on L) (hH : H = m.add L P) {u b : Int} (hu : ok u) (hu0 : ph u ≠ 0) (hup : ph u * (m.e * (1 - P.y)) = 1 + P.y) {s : Int × Int × Int × Int} (hs : oks s)
    (h1 : m.R (ph s.1) (ph s.2.1) L) (h2 : m.R (ph s.2.2.1) (ph s.2.2.2) H) :
    m.R (ph (rstp u b s).1) (ph (rstp u b s).2.1) (if b = 1 then m.add L H else m.add L L) ∧ m.R (ph (rstp u b s).2.2.1) (ph (rstp u b s).2.2.2) (if b = 1 then m.add H H else m.add L H) := by
  obtain ⟨k1, k2, k3, k4⟩ := hs
  have hHo : m.on H := by rw [hH]; exact m.on_add hL hP
  have hS : m.R (ph (wX s.2.2.1 s.2.2.2 s.1 s.2.1)) (ph (wZ u s.2.2.1 s.2.2.2 s.1 s.2.1)) (m.add L H) := by
    rw [ph_wX k3 k4 k1 k2, ph_wZ hu k3 k4 k1 k2, rX, rZ]
    exact m.dadd hL hP hH hu0 hup h1 h2
  have hD : ∀ {x z : Int} {Q : Pt P25}, ok x → ok z → m.on Q → m.R (ph x) (ph z) Q → m.R (ph (vX x z)) (ph (vZ x z)) (m.add Q Q) := fun hx hz hQ h => by
    rw [ph_vX hx hz, ph_vZ hx hz, ← hm, rV]
    exact m.dbl hQ h
  unfold rstp
  by_cases hb : b = 1
  · rw [if_pos hb, if_pos hb, if_pos hb]
    exact ⟨hS, hD k3 k4 hHo h2⟩
  · rw [if_neg hb, if_neg hb, if_neg hb]
    exact ⟨hD k1 k2 hL h1, hS⟩
theorem rl_R {m : Ed.M P25} (hm : m.A = A25) {P : Pt P25} (hP : m.on P) {N : Nat} (hN : N < 2 ^ 256) {u : Int} (hu : ok u) (hu0 : ph u ≠ 0) (hup : ph u * (m.e * (1 - P.y)) = 1 + P.y) : ∀ j, j ≤ 256 →
    m.R (ph (rl N u j).1) (ph (rl N u j).2.1) (m.mul (N / 2 ^ (256 - j)) P) ∧ m.R (ph (rl N u j).2.2.1) (ph (rl N u j).2.2.2) (m.mul (N / 2 ^ (256 - j) + 1) P)
  | 0, _ => by
    have e0 : N / 2 ^ (256 - 0) = 0 := Nat.div_eq_of_lt hN
    rw [e0]
    have h1 : ph 1 = 1 := by decide +kernel
    have h0 : ph 0 = 0 := by decide +kernel
    refine ⟨?_, ?_⟩
    · show m.R (ph 1) (ph 0) m.O
      rw [h1, h0]
      refine m.R_of ?_ (.inl (by decide +kernel))
      unfold C.O
      simp only
      grind
    · show m.R (ph u) (ph 1) (m.mul 1 P)
      rw [h1, m.mul_one]
      exact m.R_of (by rw [hup]; grind) (.inl hu0)
  | j + 1, hj => by
    obtain ⟨i1, i2⟩ := rl_R hm hP hN hu hu0 hup j (by omega)
    have hL := m.on_mul hP (N / 2 ^ (256 - j))
    have hb : ((N : Int) / 2 ^ (255 - j) % 2 = 0 ∨ (N : Int) / 2 ^ (255 - j) % 2 = 1) := by omega
    have e1 : N / 2 ^ (256 - j) = N / 2 ^ (256 - (j + 1)) / 2 := by
      rw [show 256 - j = (256 - (j + 1)) + 1 by omega, Nat.pow_succ, Nat.div_div_eq_div_mul]
    have e2 : (N : Int) / 2 ^ (255 - j) = ((N / 2 ^ (256 - (j + 1)) : Nat) : Int) := by
      rw [show 255 - j = 256 - (j + 1) by omega, Int.natCast_ediv, Int.natCast_pow]
      rfl
    obtain ⟨s1, s2⟩ := rstep_R hm hP hL (H := m.mul (N / 2 ^ (256 - j) + 1) P) rfl hu hu0 hup (b := (N : Int) / 2 ^ (255 - j) % 2) (rl_ok N hu j) i1 i2
    have hl : rl N u (j + 1) = rstp u ((N : Int) / 2 ^ (255 - j) % 2) (rl N u j) := rfl
    rw [hl]
    rw [e2] at hb s1 s2 ⊢
    rw [e1] at s1 s2
    clear e1 e2 i1 i2 hL hl
    generalize N / 2 ^ (256 - (j + 1)) = q at *
    have a1 := m.add_mul hP (q / 2) (q / 2)
    have a2 := m.add_mul hP (q / 2) (q / 2 + 1)
    have a3 := m.add_mul hP (q / 2 + 1) (q / 2 + 1)
    rcases hb with h | h
    · rw [h] at s1 s2 ⊢
      rw [if_neg (by decide)] at s1 s2
      have q1 : q / 2 + q / 2 = q := by omega
      have q2 : q / 2 + (q / 2 + 1) = q + 1 := by omega
      rw [q1] at a1
      rw [q2] at a2
      rw [a1, a2]
      exact ⟨s1, s2⟩
    · rw [h] at s1 s2 ⊢
      rw [if_pos rfl] at s1 s2
      have q1 : q / 2 + (q / 2 + 1) = q := by omega
      have q2 : (q / 2 + 1) + (q / 2 + 1) = q + 1 := by omega
      rw [q1] at a2
      rw [q2] at a3
      rw [a2, a3]
      exact ⟨s1, s2⟩
theorem rl_zero (N : Int) {u : Int} (hu : ok u) (h0 : ph u = 0) : ∀ j, ph (rl N u j).2.1 = 0 ∧ (ph (rl N u j).2.2.1 = 0 ∨ ph (rl N u j).2.2.2 = 0)
  | 0 => ⟨show ph 0 = 0 by decide +kernel, .inl h0⟩
  | j + 1 => by
    obtain ⟨i1, i2⟩ := rl_zero N hu h0 j
    obtain ⟨k1, k2, k3, k4⟩ := rl_ok N hu j
    have hl : rl N u (j + 1) = rstp u (N / 2 ^ (255 - j) % 2) (rl N u j) := rfl
    rw [hl]
    unfold rstp
    split
    · simp only
      refine ⟨by rw [ph_wZ hu k3 k4 k1 k2, h0]; grind, .inr ?_⟩
      rw [ph_vZ k3 k4]
      rcases i2 with h | h <;> rw [h] <;> grind
    · simp only
      refine ⟨by rw [ph_vZ k1 k2, i1]; grind, .inr ?_⟩
      rw [ph_wZ hu k3 k4 k1 k2, h0]
      grind
/-- What the reference answers, as a number. -/
def refN (N U : Int) : Int := nM (rl N (vl (U % pN)) 256).1 (fP (vl (rl N (vl (U % pN)) 256).2.1) pE)
theorem ph_fP {z : Int} (hz : ok z) : ph (fP (vl z) pE) = fp (ph z) pE := by
  unfold fP
  rw [pN_eq, ph_mod, vl_ok hz, ph_pow]
theorem refN_same {N : Nat} (hN : N < 2 ^ 255) {U : Int} (hU : ok U) : refN N U = resI N U := by
  have hx : ok (U % pN) := ok_n _
  have hv : vl (U % pN) = U % pN := vl_ok hx
  have hph : ph (U % pN) = ph U := by rw [pN_eq, ph_mod]
  unfold refN
  rw [hv]
  obtain ⟨k1, k2, _, _⟩ := rl_ok (N : Int) hx 256
  have hf : ok (fP (vl (rl N (U % pN) 256).2.1) pE) := ok_n _
  have hr : 0 ≤ nM (rl N (U % pN) 256).1 (fP (vl (rl N (U % pN) 256).2.1) pE) ∧ nM (rl N (U % pN) 256).1 (fP (vl (rl N (U % pN) 256).2.1) pE) < (P25 : Int) := by
    rw [← pN_eq]; exact nM_range _ _
  have key : ph (nM (rl N (U % pN) 256).1 (fP (vl (rl N (U % pN) 256).2.1) pE)) = ph (resI N U) := by
    rw [ph_nM k1 hf, ph_fP k2]
    by_cases h0 : ph U = 0
    · rw [res_zero N hU h0, (rl_zero N hx (by rw [hph]; exact h0) 256).1, fp_zero, show ph 0 = 0 by decide +kernel]
      grind
    · obtain ⟨m, hm, P, hP, hup⟩ := exP h0
      rw [res_uc hm hP hN hU h0 hup]
      obtain ⟨h1, _⟩ := rl_R (A_m hm) hP (N := N) (Nat.lt_trans hN (by decide +kernel)) hx (by rw [hph]; exact h0) (by rw [hph]; exact hup) 256 (Nat.le_refl _)
      rw [Nat.sub_self, Nat.pow_zero, Nat.div_one] at h1
      obtain ⟨u1, u2⟩ := m.uc_R h1
      by_cases hz : ph (rl N (U % pN) 256).2.1 = 0
      · rw [u1 hz, hz, fp_zero]
        grind
      · rw [← u2 hz, inv_m hm]
  have a1 := ph_val (nM (rl N (U % pN) 256).1 (fP (vl (rl N (U % pN) 256).2.1) pE)); have a2 := ph_val (resI N U)
  have a3 := res_range N U
  rw [Int.emod_eq_of_lt hr.1 hr.2] at a1
  rw [Int.emod_eq_of_lt a3.1 a3.2] at a2
  rw [← a1, ← a2, key]
end Go.Mo
