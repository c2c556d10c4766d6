/- What is shared: two secrets make the same of any point; of the base, never nothing. Own work. -/
import Derived.Test.YthddlnldjbijmaaDoorSMoH
import Derived.Test.YthddlnldjbijmaaDoorCards
import Derived.Test.YthddlnldjbijmaaDoorTie
import Derived.Test.YthddlnldjbijmaaDoorSMyC
import Derived.Test.YthddlnldjbijmaaDoorSEvLawV
import Derived.ProofKit
import Derived.OpenShut
import Derived.LaidMore
import Derived.Lay
import Derived.SevenTiedAt
import Derived.SizedLaws
import Derived.ChangeSlices
set_option linter.unusedSimpArgs false
set_option linter.unusedVariables false
set_option linter.unusedSectionVars false
namespace Go.Mo
open Go.Ev Go.Wn Go.Ed
set_option maxRecDepth 100000
theorem ph_pow (x : Int) : ∀ e : Nat, ph (x ^ e) = fp (ph x) e
  | 0 => by rw [Int.pow_zero]; apply Fin.ext; show ((1 : Int) % (P25 : Int)).toNat = (ph x).val ^ 0 % P25; rw [Nat.pow_zero]; decide +kernel
  | e + 1 => by rw [Int.pow_succ, ph_mul, ph_pow x e, fp_add, fp_one]
theorem ph_p {z : Int} (hz : ok z) : ph (pI z) = fp (ph z) pE := by
  unfold pI
  rw [pl_eq, ph_mod, vl_ok hz, ph_pow, show ((P25 : Int) - 2).toNat = pE by decide +kernel]
theorem fp_zero' {e : Nat} (he : 0 < e) : fp 0 e = 0 := by
  apply Fin.ext
  show (0 : Fin P25).val ^ e % P25 = 0
  rw [show (0 : Fin P25).val = 0 by decide +kernel, Nat.zero_pow he, Nat.zero_mod]
theorem pE_pos : 0 < pE := by decide +kernel
theorem fp_zero : fp 0 pE = 0 := fp_zero' pE_pos
theorem res_range (N U : Int) : 0 ≤ resI N U ∧ resI N U < (P25 : Int) := by
  unfold resI mI
  rw [pl_eq]
  exact ⟨Int.emod_nonneg _ (by have := p_pos; omega), Int.emod_lt_of_pos _ p_pos⟩
theorem res_ok (N U : Int) : ok (resI N U) := mI_ok _ _
theorem res_ph {N M U V : Int} (h : ph (resI N U) = ph (resI M V)) : resI N U = resI M V := by
  have h1 := ph_val (resI N U); have h2 := ph_val (resI M V)
  have h3 := res_range N U; have h4 := res_range M V
  rw [Int.emod_eq_of_lt h3.1 h3.2] at h1
  rw [Int.emod_eq_of_lt h4.1 h4.2] at h2
  rw [← h1, ← h2, h]
theorem inv_m {m : Ed.M P25} (hm : m = cA ∨ m = cB) (z : Fin P25) : m.inv z = fp z pE := by rcases hm with rfl | rfl <;> rfl
theorem A_m {m : Ed.M P25} (hm : m = cA ∨ m = cB) : m.A = A25 := by rcases hm with rfl | rfl <;> rfl
/-- So many times a point. -/
theorem res_uc {m : Ed.M P25} (hm : m = cA ∨ m = cB) {P : Pt P25} (hP : m.on P) {N : Nat} (hN : N < 2 ^ 255) {u : Int} (hu : ok u) (hu0 : ph u ≠ 0) (hup : ph u * (m.e * (1 - P.y)) = 1 + P.y) : ph (resI N u) = m.uc (m.mul N P) := by
  obtain ⟨h1, _⟩ := lad_R (A_m hm) hP hN hu hu0 hup 255 (by omega)
  rw [show N / 2 ^ (255 - 255) = N by rw [Nat.sub_self, Nat.pow_zero, Nat.div_one]] at h1
  obtain ⟨k1, k2, k3, k4⟩ := lad_ok (N : Int) hu 255
  have ho : ok (pI (lad N u 255).2.1) := ok_mod _
  unfold resI
  rw [ph_m k1 ho, ph_p k2]
  obtain ⟨u1, u2⟩ := m.uc_R h1
  by_cases hz : ph (lad N u 255).2.1 = 0
  · rw [u1 hz, hz, fp_zero]
    grind
  · rw [← u2 hz, inv_m hm]
/-- Of 0 nothing comes. -/
theorem lad_zero (N : Int) {u : Int} (hu : ok u) (h0 : ph u = 0) : ∀ j, ph (lad N u j).2.1 = 0 ∧ (ph (lad N u j).2.2.1 = 0 ∨ ph (lad N u j).2.2.2 = 0)
  | 0 => ⟨show ph 0 = 0 by decide +kernel, .inl h0⟩
  | j + 1 => by
    obtain ⟨i1, i2⟩ := lad_zero N hu h0 j
    obtain ⟨k1, k2, k3, k4⟩ := lad_ok N hu j
    have hl : lad N u (j + 1) = stp u (N / 2 ^ (254 - j) % 2) (lad N u j) := rfl
    rw [hl]
    unfold stp
    split
    · simp only
      refine ⟨by rw [ph_uZ hu k3 k4 k1 k2, h0]; grind, .inr ?_⟩
      rw [ph_dZ k3 k4]
      rcases i2 with h | h <;> rw [h] <;> grind
    · simp only
      refine ⟨by rw [ph_dZ k1 k2, i1]; grind, .inr ?_⟩
      rw [ph_uZ hu k1 k2 k3 k4, h0]
      grind
theorem res_zero (N : Int) {u : Int} (hu : ok u) (h0 : ph u = 0) : resI N u = 0 := by
  have h1 := (lad_zero N hu h0 255).1
  obtain ⟨k1, k2, k3, k4⟩ := lad_ok N hu 255
  have ho : ok (pI (lad N u 255).2.1) := ok_mod _
  have h2 : ph (resI N u) = 0 := by
    unfold resI
    rw [ph_m k1 ho, ph_p k2, h1, fp_zero]
    grind
  have h3 := ph_val (resI N u)
  rw [h2, Int.emod_eq_of_lt (res_range N u).1 (res_range N u).2, show ((0 : Fin P25).val : Int) = 0 by decide +kernel] at h3
  exact h3.symm
/-- Numbers that are alike modulo the prime are one point. -/
theorem res_alike {N : Nat} (hN : N < 2 ^ 255) {u v : Int} (hu : ok u) (hv : ok v) (h : ph u = ph v) : resI N u = resI N v := by
  by_cases h0 : ph u = 0
  · rw [res_zero N hu h0, res_zero N hv (by rw [← h]; exact h0)]
  · obtain ⟨m, hm, P, hP, hup⟩ := exP h0
    refine res_ph ?_
    rw [res_uc hm hP hN hu h0 hup, res_uc hm hP hN hv (by rw [← h]; exact h0) (by rw [← h]; exact hup)]
theorem uc_u {m : Ed.M P25} {Q : Pt P25} (h : m.uc Q ≠ 0) : m.uc Q * (m.e * (1 - Q.y)) = 1 + Q.y := by
  unfold M.uc at *
  split at h
  · exact absurd rfl h
  · rename_i h1
    rw [if_neg h1]
    have := m.hinv _ h1
    grind
/-- One after the other. -/
theorem res_two {m : Ed.M P25} (hm : m = cA ∨ m = cB) {P : Pt P25} (hP : m.on P) {N K : Nat} (hN : N < 2 ^ 255) (hK : K < 2 ^ 255) (he : N % 2 = 0) {u : Int} (hu : ok u) (hu0 : ph u ≠ 0) (hup : ph u * (m.e * (1 - P.y)) = 1 + P.y) : ph (resI N (resI K u)) = m.uc (m.mul (N * K) P) := by
  have h1 := res_uc hm hP hK hu hu0 hup
  have hQ := m.on_mul hP K
  rw [← m.mul_mul hP]
  by_cases h0 : m.uc (m.mul K P) = 0
  · rw [h0] at h1
    rw [res_zero N (res_ok _ _) h1]
    have h2 := m.uc_zero hQ h0
    obtain ⟨j, rfl⟩ : ∃ j, N = j * 2 := ⟨N / 2, by omega⟩
    rw [← m.mul_mul hQ, show m.mul 2 (m.mul K P) = m.add (m.mul K P) (m.mul K P) by
      show m.add (m.mul 1 (m.mul K P)) (m.mul K P) = _
      rw [m.mul_one], h2, m.mul_O]
    unfold M.uc C.O
    simp only
    rw [if_pos (by grind)]
    decide +kernel
  · have h3 := uc_u h0
    rw [← h1] at h3 h0
    exact res_uc hm hQ hN (res_ok _ _) h0 h3
theorem res_comm {N K : Nat} (hN : N < 2 ^ 255) (hK : K < 2 ^ 255) (hn : N % 2 = 0) (hk : K % 2 = 0) {u : Int} (hu : ok u) : resI N (resI K u) = resI K (resI N u) := by
  refine res_ph ?_
  by_cases h0 : ph u = 0
  · rw [res_zero K hu h0, res_zero N hu h0, res_zero N ok_0 (by decide +kernel), res_zero K ok_0 (by decide +kernel)]
  · obtain ⟨m, hm, P, hP, hup⟩ := exP h0
    rw [res_two hm hP hN hK hn hu h0 hup, res_two hm hP hK hN hk hu h0 hup, Nat.mul_comm]
end Go.Mo
namespace Go.Proofs.YthddlnldjbijmaaDoor
open Go.Ev
open Go.ChangeShapes Go.WideShapes Go.ChangeAt Go.RowKit
set_option maxRecDepth 100000
theorem own : ownKnob Tryd.prog.godebug = none := by kernel_rfl
theorem laidOut : laidOutB Tryd.prog = true := by kernel_rfl
theorem tab_one {P : Program} {w : World} {n : String} {g t e fuel N : Nat} {cs : Array Value} {L : List Int} {p : List MemPlace} (hu : P.underlying t = some (.array N e)) (he : P.underlying e = some (.int .u64)) (c1 : P.cellsOf e = 1) (ct : P.cellsOf t = N)
    (hN : L.length = N) (hr : ∀ x ∈ L, inR .u64 x = true) (hg : P.globalNamed n = some g) (hv : w.var? P n = some cs)
    (hd : DataW.trod (fun _ => ()) P w 0 (fun _ => true) false fuel t cs.toList = some (.agg (L.map fun z => .lit (.int .u64 z)), p)) :
    ∃ (cs : Array Value) (t : TypeId) (fr : Nat × Nat), w.heap[g]? = some (.cells cs t fr) ∧ N ≤ cs.size ∧ CRep (fun _ => ⟨0, 0, 0⟩) (fun _ => False) (.ints .u64 (some N) L) (fun i => cs[i]?) := by
  obtain ⟨xs, m, _, ex, hcl, hl, hel⟩ := DataW.trod_array hu hd
  have hh : ∃ t' fr, w.heap[g]? = some (.cells cs t' fr) := by
    simp only [World.var?, hg, Option.bind_some] at hv
    split at hv
    · rename_i cs' t' fr' hc
      cases hv
      exact ⟨t', fr', hc⟩
    · cases hv
  obtain ⟨t', fr, hh⟩ := hh
  refine ⟨cs, t', fr, hh, by rw [ct] at hcl; simpa using Nat.le_of_eq hcl.symm, fun m' hm' => by cases hm'; exact hN, fun i x hx => ?_⟩
  obtain ⟨hi, hix⟩ := List.getElem?_eq_some_iff.1 hx
  have hE := hel i (by omega)
  rw [c1, Nat.mul_one, List.getElem?_eq_getElem (by omega)] at hE
  obtain ⟨z, e1, e2, _⟩ := DataW.trod_int he hE
  have e3 : (xs.map (·.1)) = L.map fun z => .lit (.int .u64 z) := (DataW.agg.inj (Prod.mk.inj ex).1).symm
  have e4 : (xs.map (·.1))[i]? = (L.map fun z => (DataW.lit (.int .u64 z) : DataW Unit))[i]? := by rw [e3]
  rw [List.getElem?_map, List.getElem?_map, List.getElem?_eq_getElem (by omega : i < xs.length), List.getElem?_eq_getElem hi, e2] at e4
  have hz : z = x := by
    simp only [Option.map_some, Option.some.injEq, DataW.lit.injEq, Lit.int.injEq, true_and] at e4
    rw [e4, hix]
  subst hz
  refine ⟨?_, hr z (by rw [← hix]; exact List.getElem_mem hi)⟩
  have : cs.toList[i]? = some (.int .u64 z) := by
    have h0 : ((cs.toList.drop i).take 1)[0]? = some (.int .u64 z) := by rw [e1]; rfl
    simpa using h0
  simpa using this
theorem prime_eq : (Rows.laid_cartouche_monty_prime : DataW Unit) = .agg (primeL.map fun z => .lit (.int .u64 z)) := by kernel_rfl
theorem trep_of {W : World} (h : laidMetH Tryd.prog Rows.montyEdgesRow.laid W) : TRep W := by
  rw [MakeChecks.laidMetH_plain _ _ _ (by kernel_rfl)] at h
  obtain ⟨ps, ⟨g0, t0, cs0, f0, p0, q0, hg0, ht0, hv0, hd0, _, _⟩, _, _⟩ := h
  have hT0 : (Tryd.prog.globals[0]?).map (·.type) = some 34 := by kernel_rfl
  obtain rfl : g0 = 0 := Option.some.inj (hg0.symm.trans (by kernel_rfl))
  obtain rfl := Option.some.inj (hT0.symm.trans ht0)
  rw [prime_eq] at hd0
  have k0 := tab_one (L := primeL) Tryd.underlying34 Tryd.underlying32 (by kernel_rfl) (by kernel_rfl) (by kernel_rfl) (List.all_eq_true.1 (by kernel_rfl : (primeL.all fun x => inR .u64 x) = true)) hg0 hv0 hd0
  intro G c hG
  have hG' : (match Nat.beq G 0 with
    | true => some (Cells.ints .u64 (some 4) primeL)
    | false => none) = some c := hG
  split at hG'
  · rename_i hb
    obtain rfl := Nat.eq_of_beq_eq_true hb
    cases hG'
    exact k0
  · cases hG'
end Go.Proofs.YthddlnldjbijmaaDoor
