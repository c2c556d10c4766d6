/- What the ladder reckons: so many times a point. Own work. -/
import Derived.Test.YthddlnldjbijmaaDoorTMoG
set_option linter.unusedSimpArgs false
set_option linter.unusedVariables false
set_option linter.unusedSectionVars false
namespace Go.Mo
open Go.Ev Go.Wn Go.Ed
def ok (x : Int) : Prop := 0 ≤ x ∧ x < 115792089237316195423570985008687907853269984665640564039457584007913129639936
def ph (x : Int) : Fin P25 := ⟨(x % (P25 : Int)).toNat, by
  have h1 : (0 : Int) < (P25 : Int) := by have := p25_pos; omega
  have h2 := Int.emod_nonneg x (by omega : (P25 : Int) ≠ 0)
  have h3 := Int.emod_lt_of_pos x h1
  omega⟩
theorem vl_ok {x : Int} (h : ok x) : vl x = x := by
  unfold vl ok at *
  rw [val_limbs]
  exact Int.emod_eq_of_lt h.1 h.2
theorem pl_eq : val PL = (P25 : Int) := vPL
theorem p_pos : (0 : Int) < (P25 : Int) := by have := p25_pos; omega
theorem ok_mod (x : Int) : ok (x % val PL) := by
  have h2 := Int.emod_nonneg x (by rw [vPL]; decide : val PL ≠ 0)
  have h3 := Int.emod_lt_of_pos x (by rw [vPL]; decide : 0 < val PL)
  have h4 : val PL < 115792089237316195423570985008687907853269984665640564039457584007913129639936 := by rw [vPL]; decide
  exact ⟨h2, by omega⟩
theorem ph_val (x : Int) : ((ph x).val : Int) = x % (P25 : Int) := by
  have h2 := Int.emod_nonneg x (by have := p_pos; omega : (P25 : Int) ≠ 0)
  show (((x % (P25 : Int)).toNat : Nat) : Int) = _
  omega
theorem ph_ext {x y : Int} (h : x % (P25 : Int) = y % (P25 : Int)) : ph x = ph y := by
  apply Fin.ext
  have := ph_val x; have := ph_val y
  omega
theorem ph_mod (x : Int) : ph (x % (P25 : Int)) = ph x := ph_ext (Int.emod_emod_of_dvd _ (Int.dvd_refl _))
theorem ph_add (x y : Int) : ph (x + y) = ph x + ph y := by
  apply Fin.ext
  have h1 : ((ph x + ph y).val : Int) = ((ph x).val + (ph y).val : Int) % (P25 : Int) := by rw [Fin.val_add]; simp
  have h2 := ph_val (x + y)
  rw [ph_val, ph_val, ← Int.add_emod, ← h2] at h1
  exact_mod_cast h1.symm
theorem ph_mul (x y : Int) : ph (x * y) = ph x * ph y := by
  apply Fin.ext
  have h1 : ((ph x * ph y).val : Int) = ((ph x).val * (ph y).val : Int) % (P25 : Int) := by rw [Fin.val_mul]; simp
  have h2 := ph_val (x * y)
  rw [ph_val, ph_val, ← Int.mul_emod, ← h2] at h1
  exact_mod_cast h1.symm
theorem ph_sub (x y : Int) : ph (x - y) = ph x - ph y := by
  have h : ph (x - y) + ph y = ph x := by rw [← ph_add, Int.sub_add_cancel]
  rw [← h]
  grind
theorem aI_ok (x y : Int) : ok (aI x y) := ok_mod _
theorem sI_ok (x y : Int) : ok (sI x y) := ok_mod _
theorem mI_ok (x y : Int) : ok (mI x y) := ok_mod _
theorem ph_a {x y : Int} (hx : ok x) (hy : ok y) : ph (aI x y) = ph x + ph y := by unfold aI; rw [pl_eq, ph_mod, vl_ok hx, vl_ok hy, ph_add]
theorem ph_s {x y : Int} (hx : ok x) (hy : ok y) : ph (sI x y) = ph x - ph y := by unfold sI; rw [pl_eq, ph_mod, vl_ok hx, vl_ok hy, ph_sub]
theorem ph_m {x y : Int} (hx : ok x) (hy : ok y) : ph (mI x y) = ph x * ph y := by unfold mI; rw [pl_eq, ph_mod, vl_ok hx, vl_ok hy, ph_mul]
theorem ph_dP {x z : Int} (hx : ok x) (hz : ok z) : ph (dP x z) = (ph x + ph z) * (ph x + ph z) - (ph x - ph z) * (ph x - ph z) := by
  unfold dP
  rw [ph_s (mI_ok _ _) (mI_ok _ _), ph_m (aI_ok _ _) (aI_ok _ _), ph_m (sI_ok _ _) (sI_ok _ _), ph_a hx hz, ph_s hx hz]
theorem ph_dX {x z : Int} (hx : ok x) (hz : ok z) : ph (dX x z) = ((ph x + ph z) * (ph x + ph z)) * ((ph x - ph z) * (ph x - ph z)) := by
  unfold dX
  rw [ph_m (mI_ok _ _) (mI_ok _ _), ph_m (aI_ok _ _) (aI_ok _ _), ph_m (sI_ok _ _) (sI_ok _ _), ph_a hx hz, ph_s hx hz]
def c25 : Fin P25 := ⟨121666, by decide +kernel⟩
theorem ph_c : ph 121666 = c25 := by decide +kernel
theorem ok_1 : ok 1 := ⟨by decide, by decide⟩
theorem ok_0 : ok 0 := ⟨by decide, by decide⟩
theorem ok_c : ok 121666 := ⟨by decide, by decide⟩
theorem ph_dZ {x z : Int} (hx : ok x) (hz : ok z) : ph (dZ x z) = ((ph x + ph z) * (ph x + ph z) - (ph x - ph z) * (ph x - ph z)) * ((ph x - ph z) * (ph x - ph z) + c25 * ((ph x + ph z) * (ph x + ph z) - (ph x - ph z) * (ph x - ph z))) := by
  unfold dZ
  have hd : ok (dP x z) := sI_ok _ _
  rw [ph_m hd (aI_ok _ _), ph_a (mI_ok _ _) (mI_ok _ _), ph_m ok_c hd, ph_m (sI_ok _ _) (sI_ok _ _), ph_s hx hz, ph_dP hx hz, ph_c]
theorem ph_uA {a b x y : Int} (ha : ok a) (hb : ok b) (hx : ok x) (hy : ok y) : ph (uA a b x y) = (ph a - ph b) * (ph x + ph y) := by
  unfold uA
  rw [ph_m (sI_ok _ _) (aI_ok _ _), ph_s ha hb, ph_a hx hy]
theorem ph_uB {a b x y : Int} (ha : ok a) (hb : ok b) (hx : ok x) (hy : ok y) : ph (uB a b x y) = (ph a + ph b) * (ph x - ph y) := by
  unfold uB
  rw [ph_m (aI_ok _ _) (sI_ok _ _), ph_a ha hb, ph_s hx hy]
theorem ph_uX {a b x y : Int} (ha : ok a) (hb : ok b) (hx : ok x) (hy : ok y) : ph (uX a b x y) = ((ph a - ph b) * (ph x + ph y) + (ph a + ph b) * (ph x - ph y)) * ((ph a - ph b) * (ph x + ph y) + (ph a + ph b) * (ph x - ph y)) := by
  unfold uX
  have h1 : ok (uA a b x y) := mI_ok _ _
  have h2 : ok (uB a b x y) := mI_ok _ _
  rw [ph_m (aI_ok _ _) (aI_ok _ _), ph_a h1 h2, ph_uA ha hb hx hy, ph_uB ha hb hx hy]
theorem ph_uZ {u a b x y : Int} (hu : ok u) (ha : ok a) (hb : ok b) (hx : ok x) (hy : ok y) : ph (uZ u a b x y) = ph u * (((ph a - ph b) * (ph x + ph y) - (ph a + ph b) * (ph x - ph y)) * ((ph a - ph b) * (ph x + ph y) - (ph a + ph b) * (ph x - ph y))) := by
  unfold uZ
  have h1 : ok (uA a b x y) := mI_ok _ _
  have h2 : ok (uB a b x y) := mI_ok _ _
  rw [ph_m hu (mI_ok _ _), ph_m (sI_ok _ _) (sI_ok _ _), ph_s h1 h2, ph_uA ha hb hx hy, ph_uB ha hb hx hy]
def oks (s : Int × Int × Int × Int) : Prop := ok s.1 ∧ ok s.2.1 ∧ ok s.2.2.1 ∧ ok s.2.2.2
theorem stp_ok (u b : Int) (s : Int × Int × Int × Int) : oks (stp u b s) := by
  unfold stp
  split
  · exact ⟨mI_ok _ _, mI_ok _ _, mI_ok _ _, mI_ok _ _⟩
  · exact ⟨mI_ok _ _, mI_ok _ _, mI_ok _ _, mI_ok _ _⟩
theorem lad_ok (N : Int) {u : Int} (hu : ok u) : ∀ j, oks (lad N u j)
  | 0 => ⟨ok_1, ok_0, hu, ok_1⟩
  | _ + 1 => stp_ok _ _ _
/-- A step on two points that lie P apart. -/
theorem step_R {m : Ed.M P25} (hm : m.A = A25) {P L H : Pt P25} (hP : m.on P) (hL : m.on L) (hH : H = m.add L P) {u b : Int} (hu : ok u) (hu0 : ph u ≠ 0) (hup : ph u * (m.e * (1 - P.y)) = 1 + P.y) (hb : b = 0 ∨ b = 1) {s : Int × Int × Int × Int} (hs : oks s)
    (h1 : m.R (ph s.1) (ph s.2.1) L) (h2 : m.R (ph s.2.2.1) (ph s.2.2.2) H) :
    m.R (ph (stp u b s).1) (ph (stp u b s).2.1) (if b = 1 then m.add L H else m.add L L) ∧ m.R (ph (stp u b s).2.2.1) (ph (stp u b s).2.2.2) (if b = 1 then m.add H H else m.add L H) := by
  obtain ⟨k1, k2, k3, k4⟩ := hs
  have hHo : m.on H := by rw [hH]; exact m.on_add hL hP
  have hc : 4 * c25 = m.A + 2 := by rw [hm]; decide +kernel
  rcases hb with rfl | rfl
  · unfold stp
    rw [if_neg (by decide), if_neg (by decide), if_neg (by decide)]
    simp only
    refine ⟨?_, ?_⟩
    · rw [ph_dX k1 k2, ph_dZ k1 k2, (dblp (ph s.1) (ph s.2.1) m.A c25 hc).1, (dblp (ph s.1) (ph s.2.1) m.A c25 hc).2]
      exact m.dbl hL h1
    · rw [ph_uX k1 k2 k3 k4, ph_uZ hu k1 k2 k3 k4, (sump (ph s.1) (ph s.2.1) (ph s.2.2.1) (ph s.2.2.2) (ph u)).1, (sump (ph s.1) (ph s.2.1) (ph s.2.2.1) (ph s.2.2.2) (ph u)).2]
      exact m.R_scale m.four (m.dadd hL hP hH hu0 hup h1 h2)
  · unfold stp
    rw [if_pos rfl, if_pos rfl, if_pos rfl]
    simp only
    refine ⟨?_, ?_⟩
    · rw [ph_uX k3 k4 k1 k2, ph_uZ hu k3 k4 k1 k2, (sumq (ph s.1) (ph s.2.1) (ph s.2.2.1) (ph s.2.2.2) (ph u)).1, (sumq (ph s.1) (ph s.2.1) (ph s.2.2.1) (ph s.2.2.2) (ph u)).2]
      exact m.R_scale m.four (m.dadd hL hP hH hu0 hup h1 h2)
    · rw [ph_dX k3 k4, ph_dZ k3 k4, (dblp (ph s.2.2.1) (ph s.2.2.2) m.A c25 hc).1, (dblp (ph s.2.2.1) (ph s.2.2.2) m.A c25 hc).2]
      exact m.dbl hHo h2
/-- After j steps: so many times P as the highest j bits say, and once more. -/
theorem lad_R {m : Ed.M P25} (hm : m.A = A25) {P : Pt P25} (hP : m.on P) {N : Nat} (hN : N < 2 ^ 255) {u : Int} (hu : ok u) (hu0 : ph u ≠ 0) (hup : ph u * (m.e * (1 - P.y)) = 1 + P.y) : ∀ j, j ≤ 255 →
    m.R (ph (lad N u j).1) (ph (lad N u j).2.1) (m.mul (N / 2 ^ (255 - j)) P) ∧ m.R (ph (lad N u j).2.2.1) (ph (lad N u j).2.2.2) (m.mul (N / 2 ^ (255 - j) + 1) P)
  | 0, _ => by
    have e0 : N / 2 ^ (255 - 0) = 0 := Nat.div_eq_of_lt hN
    rw [e0]
    have h1 : ph 1 = 1 := by decide +kernel
    have h0 : ph 0 = 0 := by decide +kernel
    refine ⟨?_, ?_⟩
    · show m.R (ph 1) (ph 0) m.O
      rw [h1, h0]
      refine m.R_of ?_ (.inl (by decide +kernel))
      unfold C.O
      simp only
      grind
    · show m.R (ph u) (ph 1) (m.mul 1 P)
      rw [h1, m.mul_one]
      exact m.R_of (by rw [hup]; grind) (.inl hu0)
  | j + 1, hj => by
    obtain ⟨i1, i2⟩ := lad_R hm hP hN hu hu0 hup j (by omega)
    have hL := m.on_mul hP (N / 2 ^ (255 - j))
    have hb : ((N : Int) / 2 ^ (254 - j) % 2 = 0 ∨ (N : Int) / 2 ^ (254 - j) % 2 = 1) := by omega
    have e1 : N / 2 ^ (255 - j) = N / 2 ^ (255 - (j + 1)) / 2 := by
      rw [show 255 - j = (255 - (j + 1)) + 1 by omega, Nat.pow_succ, Nat.div_div_eq_div_mul]
    have e2 : (N : Int) / 2 ^ (254 - j) = ((N / 2 ^ (255 - (j + 1)) : Nat) : Int) := by
      rw [show 254 - j = 255 - (j + 1) by omega, Int.natCast_ediv, Int.natCast_pow]
      rfl
    obtain ⟨s1, s2⟩ := step_R hm hP hL (H := m.mul (N / 2 ^ (255 - j) + 1) P) rfl hu hu0 hup hb (lad_ok N hu j) i1 i2
    have hl : lad N u (j + 1) = stp u ((N : Int) / 2 ^ (254 - j) % 2) (lad N u j) := rfl
    rw [hl]
    rw [e2] at hb s1 s2 ⊢
    rw [e1] at s1 s2
    clear e1 e2 i1 i2 hL hl
    generalize N / 2 ^ (255 - (j + 1)) = q at *
    have a1 := m.add_mul hP (q / 2) (q / 2)
    have a2 := m.add_mul hP (q / 2) (q / 2 + 1)
    have a3 := m.add_mul hP (q / 2 + 1) (q / 2 + 1)
    rcases hb with h | h
    · rw [h] at s1 s2 ⊢
      rw [if_neg (by decide)] at s1 s2
      have q1 : q / 2 + q / 2 = q := by omega
      have q2 : q / 2 + (q / 2 + 1) = q + 1 := by omega
      rw [q1] at a1
      rw [q2] at a2
      rw [a1, a2]
      exact ⟨s1, s2⟩
    · rw [h] at s1 s2 ⊢
      rw [if_pos rfl] at s1 s2
      have q1 : q / 2 + (q / 2 + 1) = q := by omega
      have q2 : (q / 2 + 1) + (q / 2 + 1) = q + 1 := by omega
      rw [q1] at a2
      rw [q2] at a3
      rw [a2, a3]
      exact ⟨s1, s2⟩
end Go.Mo
