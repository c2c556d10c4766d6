/- Primes by Pratt's certificates, and Fermat's little theorem for what they certify. Own work. -/
import Derived.Test.YtapficdphhfpnaaDoorTMyRM
set_option linter.unusedSimpArgs false
set_option linter.unusedVariables false
set_option linter.unusedSectionVars false
namespace Go.Wn
/-- What maps the numbers below n to numbers below n, no two to one, reaches each. -/
theorem pigeon : ∀ (n : Nat) (f : Nat → Nat), (∀ i, i < n → f i < n) → (∀ i j, i < n → j < n → f i = f j → i = j) → ∀ y, y < n → ∃ i, i < n ∧ f i = y
  | 0, _, _, _, y, hy => by omega
  | n + 1, f, hf, hi, y, hy => by
    have ih := pigeon n (fun i => if f i = n then f n else f i)
      (fun i h => by
        have h1 := hf i (by omega)
        have h2 := hf n (by omega)
        by_cases e : f i = n
        · have : f n ≠ n := fun e2 => by have := hi i n (by omega) (by omega) (by omega); omega
          simp only [e, if_true]; omega
        · simp only [e, if_false]; omega)
      (fun i j h k e => by
        by_cases e1 : f i = n
        · by_cases e2 : f j = n
          · exact hi i j (by omega) (by omega) (by omega)
          · simp only [e1, e2, if_true, if_false] at e
            have := hi n j (by omega) (by omega) e; omega
        · by_cases e2 : f j = n
          · simp only [e1, e2, if_true, if_false] at e
            have := hi i n (by omega) (by omega) e; omega
          · simp only [e1, e2, if_false] at e
            exact hi i j (by omega) (by omega) e)
    by_cases hn : y = n
    · by_cases e : f n = n
      · exact ⟨n, by omega, by omega⟩
      · have h2 := hf n (by omega)
        obtain ⟨i, h, k⟩ := ih (f n) (by omega)
        by_cases e1 : f i = n
        · exact ⟨i, by omega, by omega⟩
        · simp only [e1, if_false] at k
          have := hi i n (by omega) (by omega) k; omega
    · obtain ⟨i, h, k⟩ := ih y (by omega)
      by_cases e1 : f i = n
      · simp only [e1, if_true] at k
        exact ⟨n, by omega, k⟩
      · simp only [e1, if_false] at k
        exact ⟨i, by omega, k⟩
def IsPrime (p : Nat) : Prop := 1 < p ∧ ∀ d, d ∣ p → d = 1 ∨ d = p
theorem IsPrime.euclid {p a b : Nat} (hp : IsPrime p) (h : p ∣ a * b) : p ∣ a ∨ p ∣ b := by
  rcases hp.2 _ (Nat.gcd_dvd_left p a) with e | e
  · exact .inr (Nat.Coprime.dvd_of_dvd_mul_left e h)
  · exact .inl (e ▸ Nat.gcd_dvd_right p a)
theorem prime_factor : ∀ n : Nat, 1 < n → ∃ p, IsPrime p ∧ p ∣ n := fun n => by
  induction n using Nat.strongRecOn with
  | _ n ih =>
    intro hn
    by_cases hp : IsPrime n
    · exact ⟨n, hp, Nat.dvd_refl n⟩
    · have : ∃ d, d ∣ n ∧ d ≠ 1 ∧ d ≠ n := by
        apply Classical.byContradiction
        intro h
        exact hp ⟨hn, fun d hd => Classical.byContradiction fun hc => h ⟨d, hd, fun e => hc (.inl e), fun e => hc (.inr e)⟩⟩
      obtain ⟨d, hd, h1, h2⟩ := this
      have h3 := Nat.le_of_dvd (by omega) hd
      have h0 : d ≠ 0 := fun e => by subst e; have := Nat.eq_zero_of_zero_dvd hd; omega
      obtain ⟨p, hp1, hp2⟩ := ih d (by omega) (by omega)
      exact ⟨p, hp1, Nat.dvd_trans hp2 hd⟩
def prodL : List Nat → Nat
  | [] => 1
  | q :: l => q * prodL l
theorem prime_mem {p : Nat} (hp : IsPrime p) : ∀ {l : List Nat}, (∀ q ∈ l, IsPrime q) → p ∣ prodL l → p ∈ l
  | [], _, h => by have := Nat.le_of_dvd (by decide) h; have := hp.1; simp only [prodL] at *; omega
  | q :: l, hl, h => by
    rcases hp.euclid (show p ∣ q * prodL l from h) with h | h
    · rcases (hl q (List.mem_cons_self ..)).2 p h with e | e
      · have := hp.1; omega
      · exact e ▸ List.mem_cons_self ..
    · exact List.mem_cons_of_mem _ (prime_mem hp (fun q hq => hl q (List.mem_cons_of_mem _ hq)) h)
/-- The least power that is one divides every power that is one. -/
theorem order_dvd {N g d k : Nat} (hd : 0 < d) (h1 : g ^ d % N = 1 % N) (hl : ∀ i, 0 < i → i < d → g ^ i % N ≠ 1 % N) (hk : g ^ k % N = 1 % N) : d ∣ k := by
  have e : k = d * (k / d) + k % d := (Nat.div_add_mod k d).symm
  have hp : ∀ j, g ^ (d * j) % N = 1 % N := fun j => by
    rw [Nat.pow_mul, Nat.pow_mod, h1, ← Nat.pow_mod, Nat.one_pow]
  have hr : g ^ (k % d) % N = 1 % N := by
    rw [← hk]
    conv => rhs; rw [e, Nat.pow_add, Nat.mul_mod, hp, ← Nat.mul_mod, Nat.one_mul]
  by_cases h0 : k % d = 0
  · exact Nat.dvd_of_mod_eq_zero h0
  · exact absurd hr (hl _ (by omega) (Nat.mod_lt _ hd))
theorem least {P : Nat → Prop} : ∀ n : Nat, P n → ∃ m, P m ∧ ∀ i, i < m → ¬ P i := fun n => by
  induction n using Nat.strongRecOn with
  | _ n ih =>
    intro h
    by_cases hs : ∃ i, i < n ∧ P i
    · obtain ⟨i, h1, h2⟩ := hs
      exact ih i h1 h2
    · exact ⟨n, h, fun i h1 h2 => hs ⟨i, h1, h2⟩⟩
theorem pow_one_mod {N g k : Nat} (h : g ^ k % N = 1 % N) (j : Nat) : g ^ (k * j) % N = 1 % N := by
  rw [Nat.pow_mul, Nat.pow_mod, h, ← Nat.pow_mod, Nat.one_pow]
/-- The certificate: the order of g is N - 1. -/
theorem full_order {N g : Nat} {qs : List Nat} (hN : 1 < N) (hq : ∀ q ∈ qs, IsPrime q) (hp : prodL qs = N - 1) (h1 : g ^ (N - 1) % N = 1 % N) (hne : ∀ q ∈ qs, g ^ ((N - 1) / q) % N ≠ 1 % N) :
    ∀ i, 0 < i → i < N - 1 → g ^ i % N ≠ 1 % N := by
  obtain ⟨d, ⟨hd0, hd1⟩, hl⟩ := least (P := fun i => 0 < i ∧ g ^ i % N = 1 % N) (N - 1) ⟨by omega, h1⟩
  have hl' : ∀ i, 0 < i → i < d → g ^ i % N ≠ 1 % N := fun i a b c => hl i b ⟨a, c⟩
  obtain ⟨c, hc⟩ := order_dvd hd0 hd1 hl' h1
  by_cases hc1 : c = 1
  · intro i a b
    exact hl' i a (by rw [hc1, Nat.mul_one] at hc; omega)
  · have hc0 : c ≠ 0 := fun e => by subst e; omega
    obtain ⟨r, hr, e, he⟩ := prime_factor c (by omega)
    have hm : r ∈ qs := prime_mem hr hq (hp ▸ ⟨d * e, by rw [hc, he, Nat.mul_left_comm]⟩)
    refine absurd ?_ (hne r hm)
    have : (N - 1) / r = d * e := by
      rw [hc, he, Nat.mul_left_comm, Nat.mul_div_cancel_left _ (Nat.lt_trans Nat.zero_lt_one hr.1)]
    rw [this]
    exact pow_one_mod hd1 e
/-- What is not nothing is a power of g. -/
theorem all_powers {N g : Nat} (hN : 1 < N) (h1 : g ^ (N - 1) % N = 1 % N) (ho : ∀ i, 0 < i → i < N - 1 → g ^ i % N ≠ 1 % N) : ∀ y, 0 < y → y < N → ∃ i, g ^ i % N = y := by
  have hz : ∀ i, i < N - 1 → g ^ i % N ≠ 0 := fun i hi e => by
    have e2 : g ^ (N - 1) = g ^ i * g ^ (N - 1 - i) := by rw [← Nat.pow_add, show i + (N - 1 - i) = N - 1 by omega]
    rw [e2, Nat.mul_mod, e, Nat.zero_mul, Nat.zero_mod, Nat.mod_eq_of_lt hN] at h1
    omega
  have key : ∀ i j, i < j → j < N - 1 → g ^ i % N = g ^ j % N → False := fun i j hij hj e => by
    refine ho (N - 1 - (j - i)) (by omega) (by omega) ?_
    rw [show N - 1 - (j - i) = i + (N - 1 - j) by omega, Nat.pow_add, Nat.mul_mod, e, ← Nat.mul_mod, ← Nat.pow_add, show j + (N - 1 - j) = N - 1 by omega, h1]
  intro y h0 hy
  obtain ⟨i, _, k⟩ := pigeon (N - 1) (fun i => g ^ i % N - 1)
    (fun i hi => by
      have := Nat.mod_lt (g ^ i) (show 0 < N by omega)
      have := hz i hi
      show g ^ i % N - 1 < N - 1
      omega)
    (fun i j hi hj e => by
      have a := hz i hi
      have b := hz j hj
      have e' : g ^ i % N = g ^ j % N := by
        have : g ^ i % N - 1 = g ^ j % N - 1 := e
        omega
      rcases Nat.lt_trichotomy i j with h | h | h
      · exact (key i j h hj e').elim
      · exact h
      · exact (key j i h hi e'.symm).elim) (y - 1) (by omega)
  have k' : g ^ i % N - 1 = y - 1 := k
  refine ⟨i, ?_⟩
  have := hz i ‹_›
  omega
theorem fermat_of {N g : Nat} (hN : 1 < N) (h1 : g ^ (N - 1) % N = 1 % N) (ha : ∀ y, 0 < y → y < N → ∃ i, g ^ i % N = y) (a : Nat) (h0 : a % N ≠ 0) : a ^ (N - 1) % N = 1 % N := by
  obtain ⟨i, e⟩ := ha (a % N) (by omega) (Nat.mod_lt _ (by omega))
  rw [Nat.pow_mod, ← e, ← Nat.pow_mod, ← Nat.pow_mul, Nat.mul_comm]
  exact pow_one_mod h1 i
theorem prime_of {N : Nat} (hN : 1 < N) (hf : ∀ a, a % N ≠ 0 → a ^ (N - 1) % N = 1 % N) : IsPrime N := by
  refine ⟨hN, fun d hd => ?_⟩
  by_cases h : d = N
  · exact .inr h
  · have hle := Nat.le_of_dvd (by omega) hd
    have h0 : d ≠ 0 := fun e => by subst e; have := Nat.eq_zero_of_zero_dvd hd; omega
    have h2 := hf d (by rw [Nat.mod_eq_of_lt (by omega)]; exact h0)
    have h3 : d ∣ d ^ (N - 1) % N := (Nat.dvd_mod_iff hd).2 ⟨d ^ (N - 2), by rw [show N - 1 = (N - 2) + 1 by omega, Nat.pow_succ, Nat.mul_comm]⟩
    rw [h2, Nat.mod_eq_of_lt hN] at h3
    exact .inl (Nat.dvd_one.1 h3)
/-- Powers by squaring. -/
def pw (N : Nat) : Nat → Nat → Nat → Nat → Nat
  | 0, _, _, r => r % N
  | f + 1, g, e, r => pw N f (g * g % N) (e / 2) (match Nat.beq (e % 2) 1 with | true => r * g % N | false => r)
theorem pw_eq {N : Nat} : ∀ {f g e r : Nat}, e < 2 ^ f → pw N f g e r = r * g ^ e % N
  | 0, g, e, r, h => by
    have : e = 0 := by simpa using h
    subst this
    simp [pw]
  | f + 1, g, e, r, h => by
    have ih : ∀ r', pw N f (g * g % N) (e / 2) r' = r' * (g * g % N) ^ (e / 2) % N := fun r' => pw_eq (by rw [Nat.pow_succ] at h; omega)
    have sq : ∀ r', r' * (g * g % N) ^ (e / 2) % N = r' * (g * g) ^ (e / 2) % N := fun r' => by
      rw [Nat.mul_mod, ← Nat.pow_mod, ← Nat.mul_mod]
    have e2 : g ^ e = (g * g) ^ (e / 2) * g ^ (e % 2) := by
      rw [← Nat.pow_two, ← Nat.pow_mul, ← Nat.pow_add, Nat.div_add_mod]
    unfold pw
    rw [ih, sq, e2]
    by_cases hb : e % 2 = 1
    · rw [hb]
      simp only [Nat.pow_one]
      rw [Nat.mul_mod, Nat.mod_mod, ← Nat.mul_mod, Nat.mul_right_comm, Nat.mul_assoc]
    · have : e % 2 = 0 := by omega
      rw [this]
      simp only [Nat.pow_zero, Nat.mul_one]
def chk1 (N g : Nat) : List Nat → Bool
  | [] => true
  | q :: l => !Nat.beq (pw N 256 g ((N - 1) / q) 1) (1 % N) && chk1 N g l
def chk : List (Nat × Nat × List Nat) → List Nat → Bool
  | [], _ => true
  | (N, g, qs) :: l, known => Nat.blt 1 N && (Nat.blt (N - 1) (2 ^ 256) && (qs.all (fun q => known.any (Nat.beq q)) && (Nat.beq (prodL qs) (N - 1) && (Nat.beq (pw N 256 g (N - 1) 1) (1 % N) && (chk1 N g qs && chk l (N :: known))))))
def Good (N : Nat) : Prop := IsPrime N ∧ ∀ a, a % N ≠ 0 → a ^ (N - 1) % N = 1 % N
theorem chk1_ok {N g : Nat} (hs : N - 1 < 2 ^ 256) : ∀ {l : List Nat}, chk1 N g l = true → ∀ q ∈ l, g ^ ((N - 1) / q) % N ≠ 1 % N
  | [], _, q, hq => by cases hq
  | p :: l, h, q, hq => by
    unfold chk1 at h
    rw [Bool.and_eq_true] at h
    rcases List.mem_cons.1 hq with e | e
    · subst e
      have h1 := h.1
      rw [pw_eq (Nat.lt_of_le_of_lt (Nat.div_le_self ..) hs), Nat.one_mul] at h1
      intro e
      rw [e, Nat.beq_refl] at h1
      cases h1
    · exact chk1_ok hs h.2 q e
theorem chk_ok : ∀ {l : List (Nat × Nat × List Nat)} {known : List Nat}, (∀ p ∈ known, Good p) → chk l known = true → ∀ c ∈ l, Good c.1
  | [], _, _, _, c, hc => by cases hc
  | (N, g, qs) :: l, known, hk, h, c, hc => by
    unfold chk at h
    simp only [Bool.and_eq_true] at h
    obtain ⟨h1, h2, h3, h4, h5, h6, h7⟩ := h
    have hN : 1 < N := by
      have : 2 ≤ N := by simpa [Nat.blt] using h1
      omega
    have hs : N - 1 < 2 ^ 256 := of_decide_eq_true (by rw [← h2]; exact (Bool.eq_iff_iff.2 (by rw [decide_eq_true_iff]; unfold Nat.blt; rw [Nat.ble_eq]; rfl)))
    have hq : ∀ q ∈ qs, IsPrime q := fun q hm => by
      have := List.all_eq_true.1 h3 q hm
      obtain ⟨p, hp, e⟩ := List.any_eq_true.1 this
      rw [Nat.eq_of_beq_eq_true e]
      exact (hk p hp).1
    have g1 : g ^ (N - 1) % N = 1 % N := by
      have := Nat.eq_of_beq_eq_true h5
      rw [pw_eq hs, Nat.one_mul] at this
      exact this
    have ho := full_order hN hq (Nat.eq_of_beq_eq_true h4) g1 (chk1_ok hs h6)
    have hf := fermat_of hN g1 (all_powers hN g1 ho)
    have hG : Good N := ⟨prime_of hN hf, hf⟩
    rcases List.mem_cons.1 hc with e | e
    · subst e; exact hG
    · refine chk_ok (fun p hp => ?_) h7 c e
      rcases List.mem_cons.1 hp with e | e
      · subst e; exact hG
      · exact hk p e
theorem two_good : Good 2 := by
  have hf : ∀ a, a % 2 ≠ 0 → a ^ (2 - 1) % 2 = 1 % 2 := fun a h => by
    rw [Nat.pow_one]; omega
  exact ⟨prime_of (by decide) hf, hf⟩
def certs : List (Nat × Nat × List Nat) := [
  (3, 2, [2]),
  (5, 2, [2, 2]),
  (11, 2, [2, 5]),
  (353, 3, [2, 2, 2, 2, 2, 11]),
  (13, 2, [2, 2, 3]),
  (97, 5, [2, 2, 2, 2, 2, 3]),
  (19, 2, [2, 3, 3]),
  (419, 2, [2, 11, 19]),
  (7, 3, [2, 3]),
  (569003, 2, [2, 7, 97, 419]),
  (29, 2, [2, 2, 7]),
  (2437, 2, [2, 2, 3, 7, 29]),
  (2773320623, 5, [2, 2437, 569003]),
  (72106336199, 7, [2, 13, 2773320623]),
  (23, 5, [2, 11]),
  (47, 5, [2, 23]),
  (17, 3, [2, 2, 2, 2]),
  (103, 5, [2, 3, 17]),
  (991, 6, [2, 3, 3, 5, 11]),
  (8574133, 2, [2, 2, 3, 7, 103, 991]),
  (127, 3, [2, 3, 3, 7]),
  (1919519569386763, 2, [2, 3, 7, 19, 47, 47, 127, 8574133]),
  (41, 6, [2, 2, 2, 5]),
  (83, 2, [2, 41]),
  (9463, 3, [2, 3, 19, 83]),
  (37853, 2, [2, 2, 9463]),
  (75707, 2, [2, 37853]),
  (75445702479781427272750846543864801, 7, [2, 2, 2, 2, 2, 3, 3, 5, 5, 75707, 72106336199, 1919519569386763]),
  (131, 2, [2, 5, 13]),
  (132049, 26, [2, 2, 2, 2, 3, 3, 7, 131]),
  (53, 2, [2, 2, 13]),
  (107, 2, [2, 53]),
  (1723, 3, [2, 3, 7, 41]),
  (430751, 17, [2, 5, 5, 5, 1723]),
  (43, 3, [2, 3, 7]),
  (173, 2, [2, 2, 43]),
  (4153, 5, [2, 2, 2, 3, 173]),
  (31, 3, [2, 3, 5]),
  (37, 2, [2, 2, 3, 3]),
  (223, 3, [2, 3, 37]),
  (31757755568855353, 10, [2, 2, 2, 3, 31, 107, 223, 4153, 430751]),
  (59, 2, [2, 29]),
  (487, 3, [2, 3, 3, 3, 3, 3]),
  (57467, 2, [2, 59, 487]),
  (3727, 3, [2, 3, 3, 3, 3, 23]),
  (1923133, 2, [2, 2, 3, 43, 3727]),
  (74058212732561358302231226437062788676166966415465897661863160754340907, 2, [2, 3, 353, 57467, 132049, 1923133, 31757755568855353, 75445702479781427272750846543864801]),
  (239, 7, [2, 7, 17]),
  (479, 13, [2, 239]),
  (32573, 2, [2, 2, 17, 479]),
  (65147, 2, [2, 32573]),
  (57896044618658097711785492504343953926634992332820282019728792003956564819949, 2, [2, 2, 3, 65147, 74058212732561358302231226437062788676166966415465897661863160754340907]),
  (2851, 2, [2, 3, 5, 5, 19]),
  (2551, 6, [2, 3, 5, 5, 17]),
  (1224481, 13, [2, 2, 2, 2, 2, 3, 5, 2551]),
  (73, 5, [2, 2, 2, 3, 3]),
  (3797, 2, [2, 2, 13, 73]),
  (531581, 2, [2, 2, 5, 7, 3797]),
  (1257559732178653, 2, [2, 2, 3, 7, 23, 531581, 1224481]),
  (4434155615661930479, 17, [2, 41, 43, 1257559732178653]),
  (1361, 3, [2, 2, 2, 2, 5, 17]),
  (172054593956031949258510691, 2, [2, 5, 1361, 2851, 4434155615661930479]),
  (67, 2, [2, 3, 11]),
  (269, 2, [2, 2, 67]),
  (307, 5, [2, 3, 3, 17]),
  (113, 3, [2, 2, 2, 2, 7]),
  (2939, 2, [2, 13, 113]),
  (5879, 11, [2, 2939]),
  (292386187, 2, [2, 3, 3, 3, 3, 307, 5879]),
  (213441916511, 13, [2, 5, 73, 292386187]),
  (19757330305831588566944191468367130476339, 2, [2, 269, 213441916511, 172054593956031949258510691]),
  (276602624281642239937218680557139826668747, 2, [2, 7, 19757330305831588566944191468367130476339]),
  (34123, 2, [2, 3, 11, 11, 47]),
  (409477, 2, [2, 2, 3, 34123]),
  (14741173, 2, [2, 2, 3, 3, 409477]),
  (58964693, 2, [2, 2, 14741173]),
  (30703, 3, [2, 3, 7, 17, 43]),
  (79, 3, [2, 3, 13]),
  (41081, 3, [2, 2, 2, 5, 13, 79]),
  (82163, 2, [2, 41081]),
  (17231, 13, [2, 5, 1723]),
  (137849, 3, [2, 2, 2, 17231]),
  (22111, 6, [2, 3, 5, 11, 67]),
  (132667, 5, [2, 3, 22111]),
  (3044861653679985063343, 5, [2, 3, 11, 30703, 82163, 132667, 137849]),
  (198211423230930754013084525763697, 5, [2, 2, 2, 2, 3, 23, 58964693, 3044861653679985063343]),
  (7237005577332262213973186563042994240857116359379907606001950938285454250989, 2, [2, 2, 3, 11, 198211423230930754013084525763697, 276602624281642239937218680557139826668747]),
  (257, 3, [2, 2, 2, 2, 2, 2, 2, 2]),
  (641, 3, [2, 2, 2, 2, 2, 2, 2, 5]),
  (65537, 3, [2, 2, 2, 2, 2, 2, 2, 2, 2, 2, 2, 2, 2, 2, 2, 2]),
  (727, 5, [2, 3, 11, 11]),
  (17449, 14, [2, 2, 2, 3, 727]),
  (6700417, 5, [2, 2, 2, 2, 2, 2, 2, 3, 17449]),
  (241, 7, [2, 2, 2, 2, 3, 5]),
  (2411, 6, [2, 5, 241]),
  (197, 2, [2, 2, 7, 7]),
  (919, 7, [2, 3, 3, 3, 17]),
  (3677, 2, [2, 2, 919]),
  (66417393611, 6, [2, 5, 53, 173, 197, 3677]),
  (11290956913871, 13, [2, 5, 17, 66417393611]),
  (181, 2, [2, 2, 3, 3, 5]),
  (1087, 3, [2, 3, 181]),
  (4349, 2, [2, 2, 1087]),
  (78283, 3, [2, 3, 3, 4349]),
  (757, 2, [2, 2, 3, 3, 3, 7]),
  (18169, 11, [2, 2, 2, 3, 757]),
  (313, 10, [2, 2, 2, 3, 13]),
  (704251, 2, [2, 3, 3, 5, 5, 5, 313]),
  (46076956964474543, 5, [2, 23, 18169, 78283, 704251]),
  (157, 5, [2, 2, 3, 13]),
  (3769, 7, [2, 2, 2, 3, 157]),
  (204061199, 11, [2, 11, 23, 107, 3769]),
  (34282281433, 17, [2, 2, 2, 3, 7, 204061199]),
  (774023187263532362759620327192479577272145303, 3, [2, 3, 3, 2411, 34282281433, 11290956913871, 46076956964474543]),
  (835945042244614951780389953367877943453916927241, 11, [2, 2, 2, 3, 3, 3, 5, 774023187263532362759620327192479577272145303]),
  (1531, 2, [2, 3, 3, 5, 17]),
  (661, 2, [2, 2, 3, 5, 11]),
  (490463, 14, [2, 7, 53, 661]),
  (115792089210356248762697446949407573530086143415290314195533631308867097853951, 6, [2, 3, 5, 5, 17, 257, 641, 1531, 65537, 490463, 6700417, 835945042244614951780389953367877943453916927241]),
  (71, 7, [2, 5, 7]),
  (9547, 2, [2, 3, 37, 43]),
  (38189, 2, [2, 2, 9547]),
  (3407, 5, [2, 13, 131]),
  (263, 5, [2, 131]),
  (126241, 7, [2, 2, 2, 2, 2, 3, 5, 263]),
  (337, 10, [2, 2, 2, 2, 3, 7]),
  (104471, 11, [2, 5, 31, 337]),
  (3969899, 2, [2, 19, 104471]),
  (1002328039319, 19, [2, 126241, 3969899]),
  (16879, 3, [2, 3, 29, 97]),
  (1297, 10, [2, 2, 2, 2, 3, 3, 3, 3]),
  (155317, 5, [2, 2, 3, 7, 43, 43]),
  (191039911, 3, [2, 3, 5, 41, 155317]),
  (151, 6, [2, 3, 5, 5]),
  (1511, 11, [2, 5, 151]),
  (3023, 5, [2, 1511]),
  (208150935158385979, 2, [2, 3, 11, 43, 127, 3023, 191039911]),
  (2624747550333869278416773953, 7, [2, 2, 2, 2, 2, 2, 3, 3, 1297, 16879, 208150935158385979]),
  (373, 2, [2, 2, 3, 31]),
  (311, 17, [2, 5, 31]),
  (311245691, 2, [2, 5, 7, 17, 29, 29, 311]),
  (622491383, 5, [2, 311245691]),
  (1201, 11, [2, 2, 2, 2, 3, 5, 5]),
  (229, 6, [2, 2, 3, 19]),
  (9350987, 2, [2, 17, 229, 1201]),
  (187019741, 2, [2, 2, 5, 9350987]),
  (115792089210356248762697446949407573529996955224135760342422259061068512044369, 7, [2, 2, 2, 2, 3, 71, 131, 373, 3407, 17449, 38189, 187019741, 622491383, 1002328039319, 2624747550333869278416773953])]
theorem certs_ok : chk certs [2] = true := by decide +kernel
theorem certs_good : ∀ c ∈ certs, Good c.1 := chk_ok (fun p hp => by rcases List.mem_cons.1 hp with e | e; subst e; exact two_good; cases e) certs_ok
theorem good_at (i : Nat) {N g : Nat} {qs : List Nat} (h : certs[i]? = some (N, g, qs)) : Good N := certs_good _ (List.mem_of_getElem? h)
theorem prime2 : Good 115792089210356248762697446949407573530086143415290314195533631308867097853951 := good_at 118 (g := 6) (qs := [2, 3, 5, 5, 17, 257, 641, 1531, 65537, 490463, 6700417, 835945042244614951780389953367877943453916927241]) (by decide +kernel)
theorem prime3 : Good 115792089210356248762697446949407573529996955224135760342422259061068512044369 := good_at 146 (g := 7) (qs := [2, 2, 2, 2, 3, 71, 131, 373, 3407, 17449, 38189, 187019741, 622491383, 1002328039319, 2624747550333869278416773953]) (by decide +kernel)
end Go.Wn
