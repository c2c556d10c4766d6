/- What the laws of layer 2 share. Own work. -/
import Derived.Test.YtdpaedcgbhlibaaModJ
namespace Go.Wn
theorem am_l (x y M : Int) : (x % M + y) % M = (x + y) % M := by rw [Int.add_emod, Int.emod_emod_of_dvd _ (Int.dvd_refl _), ← Int.add_emod]
theorem am_r (x y M : Int) : (x + y % M) % M = (x + y) % M := by rw [Int.add_emod, Int.emod_emod_of_dvd _ (Int.dvd_refl _), ← Int.add_emod]
theorem sm_l (x y M : Int) : (x % M - y) % M = (x - y) % M := by rw [Int.sub_emod, Int.emod_emod_of_dvd _ (Int.dvd_refl _), ← Int.sub_emod]
theorem sm_r (x y M : Int) : (x - y % M) % M = (x - y) % M := by rw [Int.sub_emod, Int.emod_emod_of_dvd _ (Int.dvd_refl _), ← Int.sub_emod]
theorem mm_l (x y M : Int) : (x % M * y) % M = (x * y) % M := by rw [Int.mul_emod, Int.emod_emod_of_dvd _ (Int.dvd_refl _), ← Int.mul_emod]
end Go.Wn
namespace Go.Ev
def runs : List (Nat × Bool) → List Bool
  | [] => []
  | (n, p) :: r => rep n p (runs r)
theorem runs_paid : ∀ {l : List (Nat × Bool)}, (∀ p ∈ l, p.2 = true) → Paid (runs l)
  | [], _ => Paid.nil
  | (n, _) :: _, h => paid_rep (h _ (List.mem_cons_self ..)) (runs_paid fun q hq => h q (List.mem_cons_of_mem _ hq)) n
end Go.Ev
namespace Go.Proofs.Ytdpaedcgbhlibaa
open Go.Ev Go.Wn
set_option maxRecDepth 100000
def badV (a b c d : Int) : Bool := match a.tmod 2 == 0 with | true => true | false => decide ([a, b, c, d] = [1, 0, 0, 0])
def badO (m : List Int) : List Bool := [decide (val m % 2 = 0 ∨ val m = 1), !(!((m.getD 0 0).tmod 2 == 0)) || !((m.getD 0 0).tmod 2 == 0), !(!((m.getD 0 0).tmod 2 == 0)) || !((m.getD 0 0).tmod 2 == 0), ((m.getD 0 0).tmod 2 == 0) || !((m.getD 0 0).tmod 2 == 0)]
theorem bad_paid {m : List Int} (h : val m % 2 = 0 ∨ val m = 1) : Paid (badO m) := paid_cons (decide_eq_true h) (guard3 _)
theorem badV_true {a b c d : Int} (ha : W a) (hb : W b) (hc : W c) (hd : W d) (h : val [a, b, c, d] % 2 = 0 ∨ val [a, b, c, d] = 1) : badV a b c d = true := by
  unfold badV
  unfold W at *
  rw [Int.tmod_eq_emod_of_nonneg ha.1]
  cases h2 : (a % 2 == 0) with
  | true => rfl
  | false =>
    have : ¬ a % 2 = 0 := by simpa using h2
    simp only [decide_eq_true_eq, List.cons.injEq, and_true]
    simp [val] at h
    omega
theorem good_case {m0 m1 m2 m3 : Int} (h0 : W m0) (h1 : W m1) (h2 : W m2) (h3 : W m3) (h : ¬ (val [m0, m1, m2, m3] % 2 = 0 ∨ val [m0, m1, m2, m3] = 1)) :
    val [m0, m1, m2, m3] % 2 = 1 ∧ 1 < val [m0, m1, m2, m3] ∧ good (newL [m0, m1, m2, m3]) = true ∧ (0 < val (newL [m0, m1, m2, m3]) ∧ val (newL [m0, m1, m2, m3]) < W4) := by
  have hr := val_range h0 h1 h2 h3
  have a1 : val [m0, m1, m2, m3] % 2 = 1 := by omega
  have a2 : 1 < val [m0, m1, m2, m3] := by omega
  have e : val (newL [m0, m1, m2, m3]) = val [m0, m1, m2, m3] := rfl
  exact ⟨a1, a2, newL_good h0 h1 h2 h3 a1 a2, by rw [e]; exact ⟨by omega, hr.2⟩⟩
theorem twelve {l : List Int} (h : l.length = 12) : ∃ a b c d e f g i j k m n, l = [a, b, c, d, e, f, g, i, j, k, m, n] := by
  match l, h with
  | [a, b, c, d, e, f, g, i, j, k, m, n], _ => exact ⟨a, b, c, d, e, f, g, i, j, k, m, n, rfl⟩
end Go.Proofs.Ytdpaedcgbhlibaa
