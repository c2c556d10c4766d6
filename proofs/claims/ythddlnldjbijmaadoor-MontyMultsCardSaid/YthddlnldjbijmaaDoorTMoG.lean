/- The numbers modulo 2^255 - 19; the two curves of a u; the ladder reckons multiples. Own work. -/
import Derived.Test.YthddlnldjbijmaaDoorTMoT9
import Derived.Test.YthddlnldjbijmaaDoorTMoE
set_option linter.unusedSimpArgs false
set_option linter.unusedVariables false
set_option linter.unusedSectionVars false
namespace Go.Mo
open Go.Ev Go.Wn Go.Ed
def P25 : Nat := 57896044618658097711785492504343953926634992332820282019728792003956564819949
instance nz25 : NeZero P25 := ⟨by decide +kernel⟩
theorem p25_pos : 0 < P25 := by decide +kernel
def fp (w : Fin P25) (e : Nat) : Fin P25 := ⟨w.val ^ e % P25, Nat.mod_lt _ p25_pos⟩
theorem fp_add (w : Fin P25) (a b : Nat) : fp w (a + b) = fp w a * fp w b := by
  apply Fin.ext
  show w.val ^ (a + b) % P25 = (w.val ^ a % P25) * (w.val ^ b % P25) % P25
  rw [Nat.pow_add, Nat.mul_mod]
theorem fp_mul (v w : Fin P25) (a : Nat) : fp (v * w) a = fp v a * fp w a := by
  apply Fin.ext
  show (v.val * w.val % P25) ^ a % P25 = (v.val ^ a % P25) * (w.val ^ a % P25) % P25
  rw [← Nat.pow_mod, Nat.mul_pow, Nat.mul_mod]
theorem fp_one (w : Fin P25) : fp w 1 = w := by
  apply Fin.ext
  show w.val ^ 1 % P25 = w.val
  rw [Nat.pow_one, Nat.mod_eq_of_lt w.isLt]
def pM : Nat := 57896044618658097711785492504343953926634992332820282019728792003956564819948
def pH : Nat := 28948022309329048855892746252171976963317496166410141009864396001978282409974
def pQ : Nat := 14474011154664524427946373126085988481658748083205070504932198000989141204987
def p8 : Nat := 7237005577332262213973186563042994240829374041602535252466099000494570602494
theorem pM_eq : pM = P25 - 1 := by decide +kernel
theorem pH_eq : pM = pH + pH := by decide +kernel
theorem pQ_eq : pH = pQ + pQ := by decide +kernel
theorem p8_eq : p8 + p8 = pQ + 1 := by decide +kernel
theorem pE_eq : pM = pE + 1 := by decide +kernel
theorem good25 : Go.Wn.Good P25 := prime0
theorem fermat25 {w : Fin P25} (h : w ≠ 0) : fp w pM = 1 := by
  apply Fin.ext
  have h0 : w.val % P25 ≠ 0 := by
    rw [Nat.mod_eq_of_lt w.isLt]
    intro e
    exact h (Fin.ext e)
  have := good25.2 w.val h0
  show w.val ^ pM % P25 = 1 % P25
  rw [pM_eq]
  exact this
theorem fp_lit (d e r : Nat) (hd : d < P25) (hr : r < P25) (he : e < 2 ^ 256) (h : pw P25 256 d e 1 = r) : fp ⟨d, hd⟩ e = ⟨r, hr⟩ := by
  apply Fin.ext
  show d ^ e % P25 = r
  rw [← h, pw_eq he, Nat.one_mul]
def i25 : Fin P25 := ⟨19681161376707505956807079304988542015446066515923890162744021073123829784752, by decide +kernel⟩
theorem i25_sq : i25 * i25 = -1 := by decide +kernel
theorem two25 : (2 : Fin P25) ≠ 0 := by decide +kernel
def k25 : K P25 where
  inv w := fp w pE
  hinv w h := by
    have := fermat25 h
    rw [pE_eq, fp_add, fp_one] at this
    rw [Fin.mul_comm]
    exact this
  i := i25
  hi := i25_sq
  two := two25
theorem nsq_of {d : Nat} (hd : d < P25) (h : pw P25 256 d pH 1 = P25 - 1) (z : Fin P25) : z * z ≠ ⟨d, hd⟩ := fun e => by
  have e1 := fp_lit d pH (P25 - 1) hd (by decide +kernel) (by decide +kernel) h
  rw [← e, fp_mul, ← fp_add, ← pH_eq] at e1
  by_cases hz : z = 0
  · subst hz
    have e2 : d = 0 := by
      have := congrArg Fin.val e
      have e3 : ((0 : Fin P25) * 0).val = 0 := by decide +kernel
      rw [e3] at this
      exact this.symm
    subst e2
    revert h
    decide +kernel
  · rw [fermat25 hz] at e1
    revert e1
    decide +kernel
/-- A square, or its power by half is -1. -/
theorem sq_or {w : Fin P25} (h : w ≠ 0) : (∃ s, s * s = w) ∨ fp w pH = -1 := by
  have h1 := fermat25 h
  rw [pH_eq, fp_add] at h1
  have hk := k25.hi
  have h2 : (fp w pH - 1) * (fp w pH + 1) = 0 := by grind
  rcases k25.zero_of h2 with h3 | h3
  · left
    have h4 : fp w pH = 1 := by grind
    rw [pQ_eq, fp_add] at h4
    have h5 := fp_add w p8 p8
    rw [p8_eq, fp_add, fp_one] at h5
    have h6 : (fp w pQ - 1) * (fp w pQ + 1) = 0 := by grind
    rcases k25.zero_of h6 with h7 | h7
    · exact ⟨fp w p8, by grind⟩
    · exact ⟨i25 * fp w p8, by have := i25_sq; grind⟩
  · right
    grind
def dA : Fin P25 := ⟨37095705934669439343138083508754565189542113879843219016388785533085940283555, by decide +kernel⟩
def dB : Fin P25 := ⟨29203323570479832313932222820853031755424015489030106335172286495629888845891, by decide +kernel⟩
def A25 : Fin P25 := ⟨486662, by decide +kernel⟩
def cA : Ed.M P25 := { k25 with D := dA, nsq := nsq_of _ (by decide +kernel), D1 := by decide +kernel, e := 1, he := by decide +kernel, A := A25, hA := by decide +kernel }
def cB : Ed.M P25 := { k25 with D := dB, nsq := nsq_of _ (by decide +kernel), D1 := by decide +kernel, e := -1, he := by decide +kernel, A := A25, hA := by decide +kernel }
def nA : Fin P25 := ⟨121666, by decide +kernel⟩
def nB : Fin P25 := ⟨121665, by decide +kernel⟩
theorem nA_eq : nA * (1 + dA) = 1 := by decide +kernel
theorem nB_eq : nB * (1 + dB) = -1 := by decide +kernel
theorem nAB : fp (nA * nB) pH = -1 := by
  have e : nA * nB = ⟨14802493890, by decide +kernel⟩ := by decide +kernel
  rw [e, fp_lit 14802493890 pH (P25 - 1) (by decide +kernel) (by decide +kernel) (by decide +kernel) (by decide +kernel)]
  decide +kernel
theorem hAB : A25 * (1 + dB) = 2 * -1 * (1 - dB) := by decide +kernel
/-- Each u is one of the two curves'. -/
theorem exP {u : Fin P25} (hu : u ≠ 0) : ∃ m : Ed.M P25, (m = cA ∨ m = cB) ∧ ∃ P, m.on P ∧ u * (m.e * (1 - P.y)) = 1 + P.y := by
  have inA : (∃ s, s * s = -(nA * (u * (u * u + A25 * u + 1)))) → ∃ m : Ed.M P25, (m = cA ∨ m = cB) ∧ ∃ P, m.on P ∧ u * (m.e * (1 - P.y)) = 1 + P.y := fun ⟨s, hs⟩ => by
    obtain ⟨P, h1, h2⟩ := cA.point (u := u) (s := s) (A := A25) (by have := cA.hA; have e : cA.e = 1 := rfl; rw [e] at this; rw [show cA.A = A25 from rfl] at this; grind) hu (by rw [hs]; have := nA_eq; rw [show cA.D = dA from rfl]; grind)
    exact ⟨cA, .inl rfl, P, h1, by rw [show cA.e = 1 from rfl]; grind⟩
  have inB : (∃ s, s * s = -(nB * (u * (u * u + A25 * u + 1)))) → ∃ m : Ed.M P25, (m = cA ∨ m = cB) ∧ ∃ P, m.on P ∧ u * (m.e * (1 - P.y)) = 1 + P.y := fun ⟨s, hs⟩ => by
    obtain ⟨P, h1, h2⟩ := cB.point (u := -u) (s := s) (A := -A25) (by have := hAB; rw [show cB.D = dB from rfl]; grind) (fun h => hu (by grind)) (by rw [hs]; have := nB_eq; rw [show cB.D = dB from rfl]; grind)
    exact ⟨cB, .inr rfl, P, h1, by rw [show cB.e = -1 from rfl]; grind⟩
  by_cases hg : u * (u * u + A25 * u + 1) = 0
  · exact inA ⟨0, by rw [hg]; grind⟩
  have nA0 : nA ≠ 0 := by decide +kernel
  have nB0 : nB ≠ 0 := by decide +kernel
  have ne1 : -(nA * (u * (u * u + A25 * u + 1))) ≠ 0 := fun h => k25.mul_ne nA0 hg (by grind)
  have ne2 : -(nB * (u * (u * u + A25 * u + 1))) ≠ 0 := fun h => k25.mul_ne nB0 hg (by grind)
  rcases sq_or ne1 with h | h1
  · exact inA h
  · rcases sq_or ne2 with h | h2
    · exact inB h
    · exfalso
      generalize u * (u * u + A25 * u + 1) = g at *
      have e1 : fp (-(nA * g) * -(nB * g)) pH = 1 := by rw [fp_mul, h1, h2]; grind
      have e2 : -(nA * g) * -(nB * g) = (nA * nB) * (g * g) := by grind
      rw [e2, fp_mul, nAB, fp_mul, ← fp_add, ← pH_eq, fermat25 hg] at e1
      revert e1
      decide +kernel
end Go.Mo
