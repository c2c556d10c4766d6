/- What is shared: two secrets make the same of any point; of the base, never nothing. Own work. -/
import Derived.Test.YthddlnldjbijmaaDoorTMoH
import Derived.Test.YthddlnldjbijmaaDoorCards
import Derived.Test.YthddlnldjbijmaaDoorTie
import Derived.Test.YthddlnldjbijmaaDoorTMyC
import Derived.Test.YthddlnldjbijmaaDoorTEvWr
import Derived.ProofKit
import Derived.OpenShut
import Derived.LaidMore
import Derived.Lay
import Derived.SevenTiedAt
import Derived.SizedLaws
import Derived.ChangeSlices
set_option linter.unusedSimpArgs false
set_option linter.unusedVariables false
set_option linter.unusedSectionVars false
namespace Go.Mo
open Go.Ev Go.Wn Go.Ed
set_option maxRecDepth 100000
theorem ph_pow (x : Int) : ∀ e : Nat, ph (x ^ e) = fp (ph x) e
  | 0 => by rw [Int.pow_zero]; apply Fin.ext; show ((1 : Int) % (P25 : Int)).toNat = (ph x).val ^ 0 % P25; rw [Nat.pow_zero]; decide +kernel
  | e + 1 => by rw [Int.pow_succ, ph_mul, ph_pow x e, fp_add, fp_one]
theorem ph_p {z : Int} (hz : ok z) : ph (pI z) = fp (ph z) pE := by
  unfold pI
  rw [pl_eq, ph_mod, vl_ok hz, ph_pow, show ((P25 : Int) - 2).toNat = pE by decide +kernel]
theorem fp_zero' {e : Nat} (he : 0 < e) : fp 0 e = 0 := by
  apply Fin.ext
  show (0 : Fin P25).val ^ e % P25 = 0
  rw [show (0 : Fin P25).val = 0 by decide +kernel, Nat.zero_pow he, Nat.zero_mod]
theorem pE_pos : 0 < pE := by decide +kernel
theorem fp_zero : fp 0 pE = 0 := fp_zero' pE_pos
theorem res_range (N U : Int) : 0 ≤ resI N U ∧ resI N U < (P25 : Int) := by
  unfold resI mI
  rw [pl_eq]
  exact ⟨Int.emod_nonneg _ (by have := p_pos; omega), Int.emod_lt_of_pos _ p_pos⟩
theorem res_ok (N U : Int) : ok (resI N U) := mI_ok _ _
theorem res_ph {N M U V : Int} (h : ph (resI N U) = ph (resI M V)) : resI N U = resI M V := by
  have h1 := ph_val (resI N U); have h2 := ph_val (resI M V)
  have h3 := res_range N U; have h4 := res_range M V
  rw [Int.emod_eq_of_lt h3.1 h3.2] at h1
  rw [Int.emod_eq_of_lt h4.1 h4.2] at h2
  rw [← h1, ← h2, h]
theorem inv_m {m : Ed.M P25} (hm : m = cA ∨ m = cB) (z : Fin P25) : m.inv z = fp z pE := by rcases hm with rfl | rfl <;> rfl
theorem A_m {m : Ed.M P25} (hm : m = cA ∨ m = cB) : m.A = A25 := by rcases hm with rfl | rfl <;> rfl
/-- So many times a point. -/
theorem res_uc {m : Ed.M P25} (hm : m = cA ∨ m = cB) {P : Pt P25} (hP : m.on P) {N : Nat} (hN : N < 2 ^ 255) {u : Int} (hu : ok u) (hu0 : ph u ≠ 0) (hup : ph u * (m.e * (1 - P.y)) = 1 + P.y) : ph (resI N u) = m.uc (m.mul N P) := by
  obtain ⟨h1, _⟩ := lad_R (A_m hm) hP hN hu hu0 hup 255 (by omega)
  rw [show N / 2 ^ (255 - 255) = N by rw [Nat.sub_self, Nat.pow_zero, Nat.div_one]] at h1
  obtain ⟨k1, k2, k3, k4⟩ := lad_ok (N : Int) hu 255
  have ho : ok (pI (lad N u 255).2.1) := ok_mod _
  unfold resI
  rw [ph_m k1 ho, ph_p k2]
  obtain ⟨u1, u2⟩ := m.uc_R h1
  by_cases hz : ph (lad N u 255).2.1 = 0
  · rw [u1 hz, hz, fp_zero]
    grind
  · rw [← u2 hz, inv_m hm]
/-- Of 0 nothing comes. -/
theorem lad_zero (N : Int) {u : Int} (hu : ok u) (h0 : ph u = 0) : ∀ j, ph (lad N u j).2.1 = 0 ∧ (ph (lad N u j).2.2.1 = 0 ∨ ph (lad N u j).2.2.2 = 0)
  | 0 => ⟨show ph 0 = 0 by decide +kernel, .inl h0⟩
  | j + 1 => by
    obtain ⟨i1, i2⟩ := lad_zero N hu h0 j
    obtain ⟨k1, k2, k3, k4⟩ := lad_ok N hu j
    have hl : lad N u (j + 1) = stp u (N / 2 ^ (254 - j) % 2) (lad N u j) := rfl
    rw [hl]
    unfold stp
    split
    · simp only
      refine ⟨by rw [ph_uZ hu k3 k4 k1 k2, h0]; grind, .inr ?_⟩
      rw [ph_dZ k3 k4]
      rcases i2 with h | h <;> rw [h] <;> grind
    · simp only
      refine ⟨by rw [ph_dZ k1 k2, i1]; grind, .inr ?_⟩
      rw [ph_uZ hu k1 k2 k3 k4, h0]
      grind
theorem res_zero (N : Int) {u : Int} (hu : ok u) (h0 : ph u = 0) : resI N u = 0 := by
  have h1 := (lad_zero N hu h0 255).1
  obtain ⟨k1, k2, k3, k4⟩ := lad_ok N hu 255
  have ho : ok (pI (lad N u 255).2.1) := ok_mod _
  have h2 : ph (resI N u) = 0 := by
    unfold resI
    rw [ph_m k1 ho, ph_p k2, h1, fp_zero]
    grind
  have h3 := ph_val (resI N u)
  rw [h2, Int.emod_eq_of_lt (res_range N u).1 (res_range N u).2, show ((0 : Fin P25).val : Int) = 0 by decide +kernel] at h3
  exact h3.symm
theorem uc_u {m : Ed.M P25} {Q : Pt P25} (h : m.uc Q ≠ 0) : m.uc Q * (m.e * (1 - Q.y)) = 1 + Q.y := by
  unfold M.uc at *
  split at h
  · exact absurd rfl h
  · rename_i h1
    rw [if_neg h1]
    have := m.hinv _ h1
    grind
/-- One after the other. -/
theorem res_two {m : Ed.M P25} (hm : m = cA ∨ m = cB) {P : Pt P25} (hP : m.on P) {N K : Nat} (hN : N < 2 ^ 255) (hK : K < 2 ^ 255) (he : N % 2 = 0) {u : Int} (hu : ok u) (hu0 : ph u ≠ 0) (hup : ph u * (m.e * (1 - P.y)) = 1 + P.y) : ph (resI N (resI K u)) = m.uc (m.mul (N * K) P) := by
  have h1 := res_uc hm hP hK hu hu0 hup
  have hQ := m.on_mul hP K
  rw [← m.mul_mul hP]
  by_cases h0 : m.uc (m.mul K P) = 0
  · rw [h0] at h1
    rw [res_zero N (res_ok _ _) h1]
    have h2 := m.uc_zero hQ h0
    obtain ⟨j, rfl⟩ : ∃ j, N = j * 2 := ⟨N / 2, by omega⟩
    rw [← m.mul_mul hQ, show m.mul 2 (m.mul K P) = m.add (m.mul K P) (m.mul K P) by
      show m.add (m.mul 1 (m.mul K P)) (m.mul K P) = _
      rw [m.mul_one], h2, m.mul_O]
    unfold M.uc C.O
    simp only
    rw [if_pos (by grind)]
    decide +kernel
  · have h3 := uc_u h0
    rw [← h1] at h3 h0
    exact res_uc hm hQ hN (res_ok _ _) h0 h3
theorem res_comm {N K : Nat} (hN : N < 2 ^ 255) (hK : K < 2 ^ 255) (hn : N % 2 = 0) (hk : K % 2 = 0) {u : Int} (hu : ok u) : resI N (resI K u) = resI K (resI N u) := by
  refine res_ph ?_
  by_cases h0 : ph u = 0
  · rw [res_zero K hu h0, res_zero N hu h0, res_zero N ok_0 (by decide +kernel), res_zero K ok_0 (by decide +kernel)]
  · obtain ⟨m, hm, P, hP, hup⟩ := exP h0
    rw [res_two hm hP hN hK hn hu h0 hup, res_two hm hP hK hN hk hu h0 hup, Nat.mul_comm]
def L25 : Nat := 7237005577332262213973186563042994240857116359379907606001950938285454250989
theorem base_ord : ph (lad (L25 : Int) 9 255).2.1 = 0 := by decide +kernel
theorem ok_9 : ok 9 := ⟨by decide, by decide⟩
theorem Ed_gcd {n : Nat} [NeZero n] (c : C n) {P : Pt n} (hP : c.on P) : ∀ k a b : Nat, a + b ≤ k → c.mul a P = c.O → c.mul b P = c.O → c.mul (Nat.gcd a b) P = c.O := by
  have hsub : ∀ a b : Nat, b ≤ a → c.mul a P = c.O → c.mul b P = c.O → c.mul (a - b) P = c.O := fun a b hab ha hb => by
    have e := c.add_mul hP (a - b) b
    rw [Nat.sub_add_cancel hab, ha, hb, c.add_O] at e
    exact e.symm
  intro k
  induction k with
  | zero =>
    intro a b hk ha _
    have e1 : a = 0 := by omega
    have e2 : b = 0 := by omega
    subst e1 e2
    exact ha
  | succ k ih =>
    intro a b hk ha hb
    by_cases h0 : a = 0
    · subst h0; rw [Nat.gcd_zero_left]; exact hb
    by_cases h1 : b = 0
    · subst h1; rw [Nat.gcd_zero_right]; exact ha
    by_cases hab : b ≤ a
    · have := ih (a - b) b (by omega) (hsub a b hab ha hb) hb
      rwa [Nat.gcd_sub_self_left hab] at this
    · have := ih a (b - a) (by omega) ha (hsub b a (by omega) hb ha)
      rwa [Nat.gcd_sub_self_right (by omega)] at this
theorem big_8 : 2 ^ 255 ≤ L25 * 8 := by decide +kernel
theorem small_8 : ∀ c : Nat, c < 8 → L25 * c % 8 = 0 → c = 0 := by decide +kernel
theorem big_L (x : Nat) (h1 : x < 2 ^ 255) (h2 : x % 8 = 0) (h3 : 0 < x) : ¬ L25 ∣ x := fun ⟨c, hc⟩ => by
  have hc8 : c < 8 := Nat.lt_of_not_le fun h => by
    have h4 := Nat.mul_le_mul_left L25 h
    rw [← hc] at h4
    exact absurd (Nat.lt_of_lt_of_le h1 (Nat.le_trans big_8 h4)) (Nat.lt_irrefl _)
  have h5 := small_8 c hc8 (by rw [← hc]; exact h2)
  rw [h5, Nat.mul_zero] at hc
  rw [hc] at h3
  exact Nat.lt_irrefl _ h3
theorem two_L (h : L25 ∣ 2) : False := by
  obtain ⟨c, hc⟩ := h
  unfold L25 at hc
  omega
theorem O_of {n : Nat} [NeZero n] (m : Ed.M n) {P : Pt n} (hP : m.on P) {X Z : Fin n} (h : m.R X Z P) (hz : Z = 0) : P = m.O := by
  obtain ⟨l, hl, _, h2⟩ := h
  rw [hz] at h2
  have h3 := (m.zero_of h2.symm).resolve_left hl
  have h4 := (m.zero_of h3).resolve_left m.e_ne
  have hy : P.y = 1 := by clear h2 h3 hP; grind
  unfold C.on at hP
  rw [hy] at hP
  have h5 : P.x * P.x * (1 + m.D) = 0 := by clear h2 h3 h4 hy; grind
  have h6 := (m.zero_of h5).resolve_right m.D1
  refine Pt.ext' ?_ hy
  show P.x = 0
  rcases m.zero_of h6 with h | h <;> exact h
theorem not_O {n : Nat} [NeZero n] (m : Ed.M n) {P : Pt n} {u : Fin n} (hup : u * (m.e * (1 - P.y)) = 1 + P.y) : P ≠ m.O := fun e => by
  rw [e] at hup
  unfold C.O at hup
  simp only at hup
  have two := m.two
  clear e
  grind
theorem base_O {m : Ed.M P25} (hm : m = cA ∨ m = cB) {P : Pt P25} (hP : m.on P) (hup : ph 9 * (m.e * (1 - P.y)) = 1 + P.y) : m.mul L25 P = m.O := by
  have h9 : ph 9 ≠ 0 := by decide +kernel
  obtain ⟨hL, _⟩ := lad_R (A_m hm) hP (N := L25) (by decide +kernel) ok_9 h9 hup 255 (by omega)
  rw [Nat.sub_self, Nat.pow_zero, Nat.div_one] at hL
  exact O_of m (m.on_mul hP L25) hL base_ord
theorem dvd_of {m : Ed.M P25} {P : Pt P25} (hP : m.on P) (hP0 : P ≠ m.O) {L T : Nat} (hpr : IsPrime L) (hLO : m.mul L P = m.O) (hT : m.mul T P = m.O) : L ∣ T := by
  have hg := Ed_gcd m.toC hP _ _ _ (Nat.le_refl _) hLO hT
  rcases hpr.2 _ (Nat.gcd_dvd_left L T) with h | h
  · rw [h, m.mul_one] at hg
    exact absurd hg hP0
  · rw [← h]
    exact Nat.gcd_dvd_right _ _
theorem L_prime : IsPrime L25 := prime1.1
/-- Of the base something comes. -/
theorem res_base {N K : Nat} (hN : N < 2 ^ 255) (hK : K < 2 ^ 255) (hn : N % 8 = 0) (hk : K % 8 = 0) (n0 : 0 < N) (k0 : 0 < K) : resI N (resI K 9) ≠ 0 := fun hz => by
  have h9 : ph 9 ≠ 0 := by decide +kernel
  obtain ⟨m, hm, P, hP, hup⟩ := exP h9
  have h1 := res_two hm hP hN hK (by omega) ok_9 h9 hup
  rw [hz, show ph 0 = 0 by decide +kernel] at h1
  have hT := m.uc_zero (m.on_mul hP (N * K)) h1.symm
  rw [← m.add_mul hP] at hT
  have hdvd := dvd_of hP (not_O m hup) L_prime (base_O hm hP hup) hT
  have h2 : N * K + N * K = 2 * (N * K) := (Nat.two_mul _).symm
  rw [h2] at hdvd
  rcases L_prime.euclid hdvd with h | h
  · exact two_L h
  · rcases L_prime.euclid h with h | h
    · exact big_L N hN hn n0 h
    · exact big_L K hK hk k0 h
end Go.Mo
namespace Go.Proofs.YthddlnldjbijmaaDoor
open Go.Ev
open Go.ChangeShapes Go.WideShapes Go.ChangeAt Go.RowKit
set_option maxRecDepth 100000
theorem own : ownKnob Tryd.prog.godebug = none := by kernel_rfl
theorem laidOut : laidOutB Tryd.prog = true := by kernel_rfl
theorem tab_one {P : Program} {w : World} {n : String} {g t e fuel N : Nat} {cs : Array Value} {L : List Int} {p : List MemPlace} (hu : P.underlying t = some (.array N e)) (he : P.underlying e = some (.int .u64)) (c1 : P.cellsOf e = 1) (ct : P.cellsOf t = N)
    (hN : L.length = N) (hr : ∀ x ∈ L, inR .u64 x = true) (hg : P.globalNamed n = some g) (hv : w.var? P n = some cs)
    (hd : DataW.trod (fun _ => ()) P w 0 (fun _ => true) false fuel t cs.toList = some (.agg (L.map fun z => .lit (.int .u64 z)), p)) :
    ∃ (cs : Array Value) (t : TypeId) (fr : Nat × Nat), w.heap[g]? = some (.cells cs t fr) ∧ N ≤ cs.size ∧ CRep (fun _ => ⟨0, 0, 0⟩) (fun _ => False) (.ints .u64 (some N) L) (fun i => cs[i]?) := by
  obtain ⟨xs, m, _, ex, hcl, hl, hel⟩ := DataW.trod_array hu hd
  have hh : ∃ t' fr, w.heap[g]? = some (.cells cs t' fr) := by
    simp only [World.var?, hg, Option.bind_some] at hv
    split at hv
    · rename_i cs' t' fr' hc
      cases hv
      exact ⟨t', fr', hc⟩
    · cases hv
  obtain ⟨t', fr, hh⟩ := hh
  refine ⟨cs, t', fr, hh, by rw [ct] at hcl; simpa using Nat.le_of_eq hcl.symm, fun m' hm' => by cases hm'; exact hN, fun i x hx => ?_⟩
  obtain ⟨hi, hix⟩ := List.getElem?_eq_some_iff.1 hx
  have hE := hel i (by omega)
  rw [c1, Nat.mul_one, List.getElem?_eq_getElem (by omega)] at hE
  obtain ⟨z, e1, e2, _⟩ := DataW.trod_int he hE
  have e3 : (xs.map (·.1)) = L.map fun z => .lit (.int .u64 z) := (DataW.agg.inj (Prod.mk.inj ex).1).symm
  have e4 : (xs.map (·.1))[i]? = (L.map fun z => (DataW.lit (.int .u64 z) : DataW Unit))[i]? := by rw [e3]
  rw [List.getElem?_map, List.getElem?_map, List.getElem?_eq_getElem (by omega : i < xs.length), List.getElem?_eq_getElem hi, e2] at e4
  have hz : z = x := by
    simp only [Option.map_some, Option.some.injEq, DataW.lit.injEq, Lit.int.injEq, true_and] at e4
    rw [e4, hix]
  subst hz
  refine ⟨?_, hr z (by rw [← hix]; exact List.getElem_mem hi)⟩
  have : cs.toList[i]? = some (.int .u64 z) := by
    have h0 : ((cs.toList.drop i).take 1)[0]? = some (.int .u64 z) := by rw [e1]; rfl
    simpa using h0
  simpa using this
theorem prime_eq : (Rows.laid_cartouche_monty_prime : DataW Unit) = .agg (primeL.map fun z => .lit (.int .u64 z)) := by kernel_rfl
theorem trep_of {W : World} (h : laidMetH Tryd.prog Rows.montyEdgesRow.laid W) : TRep W := by
  rw [MakeChecks.laidMetH_plain _ _ _ (by kernel_rfl)] at h
  obtain ⟨ps, ⟨g0, t0, cs0, f0, p0, q0, hg0, ht0, hv0, hd0, _, _⟩, _, _⟩ := h
  have hT0 : (Tryd.prog.globals[0]?).map (·.type) = some 34 := by kernel_rfl
  obtain rfl : g0 = 0 := Option.some.inj (hg0.symm.trans (by kernel_rfl))
  obtain rfl := Option.some.inj (hT0.symm.trans ht0)
  rw [prime_eq] at hd0
  have k0 := tab_one (L := primeL) Tryd.underlying34 Tryd.underlying32 (by kernel_rfl) (by kernel_rfl) (by kernel_rfl) (List.all_eq_true.1 (by kernel_rfl : (primeL.all fun x => inR .u64 x) = true)) hg0 hv0 hd0
  intro G c hG
  have hG' : (match Nat.beq G 0 with
    | true => some (Cells.ints .u64 (some 4) primeL)
    | false => none) = some c := hG
  split at hG'
  · rename_i hb
    obtain rfl := Nat.eq_of_beq_eq_true hb
    cases hG'
    exact k0
  · cases hG'
end Go.Proofs.YthddlnldjbijmaaDoor
