/- What the program's functions of layer 2 answer, given a modulus: once, sum, shrunk, grown, rest. Own work. -/
import Derived.Test.YtapficdphhfpnaaDoorTMyMC
set_option linter.unusedSimpArgs false
set_option linter.unusedVariables false
set_option linter.unusedSectionVars false
namespace Go.Wn
open Go.Ev
def W4 : Int := 115792089237316195423570985008687907853269984665640564039457584007913129639936
/-- What a Mod holds: its modulus is odd and above 1, what its lowest word times is -1, the square. -/
def good (L : List Int) : Bool :=
  decide (val L % 2 = 1) && decide (1 < val L) && decide ((L.getD 0 0 * L.getD 4 0 + 1) % 18446744073709551616 = 0) && decide (val (L.drop 5) = (2 ^ 256 * 2 ^ 256) % val L)
theorem good_iff {L : List Int} : good L = true ↔ val L % 2 = 1 ∧ 1 < val L ∧ (L.getD 0 0 * L.getD 4 0 + 1) % 18446744073709551616 = 0 ∧ val (L.drop 5) = (2 ^ 256 * 2 ^ 256) % val L := by
  simp [good, and_assoc]
theorem iandn_bit {c : Int} (hc : c = 0 ∨ c = 1) (p : Bool) : iandn .u64 (match p with | true => 1 | false => 0) c = (match p with | true => 1 - c | false => 0) := by
  rcases hc with rfl | rfl <;> cases p <;> decide
theorem limbs_mod (x : Int) : limbs (x % W4) = limbs x := by
  unfold limbs W4
  congr 1
  · omega
  congr 1
  · omega
  congr 1
  · omega
  congr 1
  omega
theorem limbs_congr {x y : Int} (h : x % W4 = y % W4) : limbs x = limbs y := by
  rw [← limbs_mod x, h, limbs_mod]
theorem once_eq {n : List Int} {c M : Int} (hn : ∃ a b e d, n = [a, b, e, d] ∧ W a ∧ W b ∧ W e ∧ W d) (hc : W c) (hM : 0 < M ∧ M < W4) (h : val n + W4 * c < 2 * M) :
    (if iandn .u64 (if val n < M then 1 else 0) c % 2 = 1 then n else limbs (val n - M)) = limbs ((val n + W4 * c) % M) := by
  obtain ⟨a0, a1, a2, a3, rfl, h0, h1, h2, h3⟩ := hn
  have hr := val_range h0 h1 h2 h3
  have hl := limbs_val h0 h1 h2 h3
  generalize val [a0, a1, a2, a3] = N at *
  unfold W at hc
  simp only [W4] at *
  have hc' : c = 0 ∨ c = 1 := by omega
  have hi := iandn_bit hc' (decide (N < M))
  by_cases hlt : N < M
  · rw [decide_eq_true hlt] at hi
    simp only at hi
    rw [if_pos hlt, hi]
    rcases hc' with rfl | rfl
    · rw [if_pos (by decide), ← hl, Int.mul_zero, Int.add_zero, Int.emod_eq_of_lt hr.1 hlt]
    · rw [if_neg (by decide)]
      apply limbs_congr
      have e : (N + 115792089237316195423570985008687907853269984665640564039457584007913129639936 * 1) % M = N + 115792089237316195423570985008687907853269984665640564039457584007913129639936 * 1 - M := by
        rw [← Int.sub_emod_right, Int.emod_eq_of_lt (by omega) (by omega)]
      rw [e]
      simp only [W4]
      omega
  · rw [decide_eq_false hlt] at hi
    simp only at hi
    rw [if_neg hlt, hi, if_neg (by decide)]
    rcases hc' with rfl | rfl
    · rw [Int.mul_zero, Int.add_zero, ← Int.sub_emod_right N M, Int.emod_eq_of_lt (by omega) (by omega)]
    · exfalso; omega
end Go.Wn
namespace Go.Proofs.YtapficdphhfpnaaDoor
open Go.Ev Go.Wn
set_option maxRecDepth 100000
theorem nine {L : List Int} (h : L.length = 9) : ∃ a b c d e f g i j, L = [a, b, c, d, e, f, g, i, j] := by
  match L, h with
  | [a, b, c, d, e, f, g, i, j], _ => exact ⟨a, b, c, d, e, f, g, i, j, rfl⟩
theorem mod_arg {ρ : Nat → Loc3} {N : Nat → Prop} {w : World} {xs : List V} (hi : Inv w (fun _ => False) N ρ (getName (cMem xs)) w) {L : List Int} {r : List V} (hx : xs = .pt (.ints .u64 (some 9) L) :: r) :
    ∃ m0 m1 m2 m3 ni s0 s1 s2 s3, L = [m0, m1, m2, m3, ni, s0, s1, s2, s3] ∧ W m0 ∧ W m1 ∧ W m2 ∧ W m3 ∧ W ni ∧ W s0 ∧ W s1 ∧ W s2 ∧ W s3 := by
  obtain ⟨h1, h2⟩ := pt_arg hi 0 (by rw [hx]; rfl)
  obtain ⟨a, b, c, d, e, f, g, i, j, rfl⟩ := nine (h1 9 rfl)
  exact ⟨a, b, c, d, e, f, g, i, j, rfl, inR_W (h2 _ (by simp)), inR_W (h2 _ (by simp)), inR_W (h2 _ (by simp)), inR_W (h2 _ (by simp)), inR_W (h2 _ (by simp)), inR_W (h2 _ (by simp)), inR_W (h2 _ (by simp)), inR_W (h2 _ (by simp)), inR_W (h2 _ (by simp))⟩
theorem val_take (m0 m1 m2 m3 : Int) (r : List Int) : val (m0 :: m1 :: m2 :: m3 :: r) = val [m0, m1, m2, m3] := rfl

def oncS : List V → E (AV × Mem)
  | [.pt (.ints .u64 (some 9) L), .pl (.ints .u64 4 n), .pl (.int _ .u64 c)] => some ([decide (0 < val L), decide (val n + W4 * c < 2 * val L)], (.ints .u64 4 (limbs ((val n + W4 * c) % val L)), []))
  | _ => none
theorem onc_eval (m0 m1 m2 m3 ni s0 s1 s2 s3 : Int) (n : List Int) (s : Bool) (c : Int) : res (funcA Tryd.prog qAll hm2 100 86 (cArgs 0 [.pt (.ints .u64 (some 9) [m0, m1, m2, m3, ni, s0, s1, s2, s3]), .pl (.ints .u64 4 n), .pl (.int s .u64 c)]) (cMem [.pt (.ints .u64 (some 9) [m0, m1, m2, m3, ni, s0, s1, s2, s3]), .pl (.ints .u64 4 n), .pl (.int s .u64 c)])) =
    some ([], .ints .u64 4 (pickL (iandn .u64 (if val n < val [m0, m1, m2, m3] then 1 else 0) c) n (limbs (val n - val [m0, m1, m2, m3])))) := by kernel_rfl
theorem onc_ok {xs : List V} {o : List Bool} {v : AV} {bs : Mem} (h : oncS xs = some (o, (v, bs))) (ho : Paid o) : ViewCall Tryd.prog 86 xs v bs := by
  unfold oncS at h
  split at h
  · rename_i L n s c
    cases h
    have hp := ho _ (List.mem_cons_self ..)
    have hd := ho _ (List.mem_cons_of_mem _ (List.mem_cons_self ..))
    rw [decide_eq_true_eq] at hd hp
    intro ρ vs w ha hi
    obtain ⟨m0, m1, m2, m3, ni, s0, s1, s2, s3, rfl, w0, w1, w2, w3, _⟩ := mod_arg hi rfl
    have hb := ha
    cases hb with
    | cons _ _ _ _ r0 hb => cases hb with
      | cons _ _ _ _ r1 hb => cases hb with
        | cons _ _ _ _ r2 hb =>
          have hM := val_range w0 w1 w2 w3
          have e := once_eq (num_arg r1) (int_arg r2) (M := val [m0, m1, m2, m3]) ⟨hp, hM.2⟩ hd
          exact view_of_res mixed noCount hm2_ok (onc_eval m0 m1 m2 m3 ni s0 s1 s2 s3 n s c) Paid.nil (by rw [val_take m0 m1 m2 m3 [ni, s0, s1, s2, s3]]; unfold pickL; rw [e]) (by kernel_rfl) ha hi
  · cases h
def hm3 : CallH := withV 86 oncS hm2
theorem hm3_ok : HOk Tryd.prog hm3 := hm2_ok.withV fun _ _ _ _ h ho => onc_ok h ho

-- shrunk
def shrS : List V → E (AV × Mem)
  | [.pt (.ints .u64 (some 9) L), .pl (.ints .u64 4 a), .pl (.ints .u64 4 b)] => some ([decide (val L % 2 = 1), decide ((L.getD 0 0 * L.getD 4 0 + 1) % 18446744073709551616 = 0), decide (val b < val L)], (.ints .u64 4 (limbs (mont (val a) (val b) (val L))), []))
  | _ => none
theorem shr_eval (m0 m1 m2 m3 ni s0 s1 s2 s3 a0 a1 a2 a3 b0 b1 b2 b3 : Int) : res (funcA Tryd.prog qAll hm3 100 76 (cArgs 0 [.pt (.ints .u64 (some 9) [m0, m1, m2, m3, ni, s0, s1, s2, s3]), .pl (.ints .u64 4 [a0, a1, a2, a3]), .pl (.ints .u64 4 [b0, b1, b2, b3])])
      (cMem [.pt (.ints .u64 (some 9) [m0, m1, m2, m3, ni, s0, s1, s2, s3]), .pl (.ints .u64 4 [a0, a1, a2, a3]), .pl (.ints .u64 4 [b0, b1, b2, b3])])) =
    some ([true, true, true, true, true, true, true, true, decide (0 < val [m0, m1, m2, m3]), decide (v5 (turns [m0, m1, m2, m3] [b0, b1, b2, b3] ni a0 a1 a2 a3) < 2 * val [m0, m1, m2, m3])],
      .ints .u64 4 (limbs (v5 (turns [m0, m1, m2, m3] [b0, b1, b2, b3] ni a0 a1 a2 a3) % val [m0, m1, m2, m3]))) := by kernel_rfl
theorem shr_ok {xs : List V} {o : List Bool} {v : AV} {bs : Mem} (h : shrS xs = some (o, (v, bs))) (ho : Paid o) : ViewCall Tryd.prog 76 xs v bs := by
  unfold shrS at h
  split at h
  · rename_i L a b
    cases h
    have h1 := ho _ (List.mem_cons_self ..)
    have h2 := ho _ (List.mem_cons_of_mem _ (List.mem_cons_self ..))
    have h3 := ho _ (List.mem_cons_of_mem _ (List.mem_cons_of_mem _ (List.mem_cons_self ..)))
    rw [decide_eq_true_eq] at h1 h2 h3
    intro ρ vs w ha hi
    obtain ⟨m0, m1, m2, m3, ni, s0, s1, s2, s3, rfl, w0, w1, w2, w3, wi, _⟩ := mod_arg hi rfl
    have hb := ha
    cases hb with
    | cons _ _ _ _ r0 hb => cases hb with
      | cons _ _ _ _ r1 hb => cases hb with
        | cons _ _ _ _ r2 hb =>
          obtain ⟨a0, a1, a2, a3, rfl, u0, u1, u2, u3⟩ := num_arg r1
          obtain ⟨b0, b1, b2, b3, rfl, x0, x1, x2, x3⟩ := num_arg r2
          rw [val_take m0 m1 m2 m3 [ni, s0, s1, s2, s3]] at h1 h3
          rw [val_take m0 m1 m2 m3 [ni, s0, s1, s2, s3]]
          have hB := val_range x0 x1 x2 x3
          obtain ⟨t1, t2, t3⟩ := turns_spec (ni := ni) w0 w1 w2 w3 x0 x1 x2 x3 u0 u1 u2 u3 h2 h3
          have e := mont_of h1 t3
          exact view_of_res mixed noCount hm3_ok (shr_eval m0 m1 m2 m3 ni s0 s1 s2 s3 a0 a1 a2 a3 b0 b1 b2 b3)
            (paid_rep rfl (paid_cons (decide_eq_true (by omega)) (paid_cons (decide_eq_true (by omega)) Paid.nil)) 8) (by rw [e]) (by kernel_rfl) ha hi
  · cases h
def hm4 : CallH := withV 76 shrS hm3
theorem hm4_ok : HOk Tryd.prog hm4 := hm3_ok.withV fun _ _ _ _ h ho => shr_ok h ho

-- sum
def sumS : List V → E (AV × Mem)
  | [.pt (.ints .u64 (some 9) L), .pl (.ints .u64 4 a), .pl (.ints .u64 4 b)] => some ([decide (0 < val L), decide (val a + val b < 2 * val L)], (.ints .u64 4 (limbs ((val a + val b) % val L)), []))
  | _ => none
theorem sum_eval (m0 m1 m2 m3 ni s0 s1 s2 s3 : Int) (a b : List Int) : res (funcA Tryd.prog qAll hm4 100 80 (cArgs 0 [.pt (.ints .u64 (some 9) [m0, m1, m2, m3, ni, s0, s1, s2, s3]), .pl (.ints .u64 4 a), .pl (.ints .u64 4 b)]) (cMem [.pt (.ints .u64 (some 9) [m0, m1, m2, m3, ni, s0, s1, s2, s3]), .pl (.ints .u64 4 a), .pl (.ints .u64 4 b)])) =
    some ([decide (0 < val [m0, m1, m2, m3]), decide (val (limbs (val a + val b)) + W4 * ((val a + val b) / W4) < 2 * val [m0, m1, m2, m3])], .ints .u64 4 (limbs ((val (limbs (val a + val b)) + W4 * ((val a + val b) / W4)) % val [m0, m1, m2, m3]))) := by kernel_rfl
theorem sum_ok {xs : List V} {o : List Bool} {v : AV} {bs : Mem} (h : sumS xs = some (o, (v, bs))) (ho : Paid o) : ViewCall Tryd.prog 80 xs v bs := by
  unfold sumS at h
  split at h
  · rename_i L a b
    cases h
    have h1 := ho _ (List.mem_cons_self ..)
    have h2 := ho _ (List.mem_cons_of_mem _ (List.mem_cons_self ..))
    rw [decide_eq_true_eq] at h1 h2
    intro ρ vs w ha hi
    obtain ⟨m0, m1, m2, m3, ni, s0, s1, s2, s3, rfl, w0, w1, w2, w3, wi, _⟩ := mod_arg hi rfl
    rw [val_take m0 m1 m2 m3 [ni, s0, s1, s2, s3]] at h1 h2
    rw [val_take m0 m1 m2 m3 [ni, s0, s1, s2, s3]]
    have e : val (limbs (val a + val b)) + W4 * ((val a + val b) / W4) = val a + val b := by rw [val_limbs]; unfold W4; omega
    exact view_of_res mixed noCount hm4_ok (sum_eval m0 m1 m2 m3 ni s0 s1 s2 s3 a b) (paid_cons (decide_eq_true h1) (paid_cons (decide_eq_true (by rw [e]; exact h2)) Paid.nil)) (by rw [e]) (by kernel_rfl) ha hi
  · cases h

-- grown
def groS : List V → E (AV × Mem)
  | [.pt (.ints .u64 (some 9) L), .pl (.ints .u64 4 a)] => some ([good L], (.ints .u64 4 (limbs ((val a * 2 ^ 256) % val L)), []))
  | _ => none
theorem gro_eval (m0 m1 m2 m3 ni s0 s1 s2 s3 : Int) (a : List Int) : res (funcA Tryd.prog qAll hm4 100 77 (cArgs 0 [.pt (.ints .u64 (some 9) [m0, m1, m2, m3, ni, s0, s1, s2, s3]), .pl (.ints .u64 4 a)]) (cMem [.pt (.ints .u64 (some 9) [m0, m1, m2, m3, ni, s0, s1, s2, s3]), .pl (.ints .u64 4 a)])) =
    some ([decide (val [m0, m1, m2, m3, ni, s0, s1, s2, s3] % 2 = 1), decide ((m0 * ni + 1) % 18446744073709551616 = 0), decide (val [s0, s1, s2, s3] < val [m0, m1, m2, m3, ni, s0, s1, s2, s3])], .ints .u64 4 (limbs (mont (val a) (val [s0, s1, s2, s3]) (val [m0, m1, m2, m3, ni, s0, s1, s2, s3])))) := by kernel_rfl
theorem gro_ok {xs : List V} {o : List Bool} {v : AV} {bs : Mem} (h : groS xs = some (o, (v, bs))) (ho : Paid o) : ViewCall Tryd.prog 77 xs v bs := by
  unfold groS at h
  split at h
  · rename_i L a
    cases h
    obtain ⟨h1, h2, h3, h4⟩ := good_iff.1 (ho _ (List.mem_cons_self ..))
    intro ρ vs w ha hi
    obtain ⟨m0, m1, m2, m3, ni, s0, s1, s2, s3, rfl, w0, w1, w2, w3, wi, _⟩ := mod_arg hi rfl
    have h4' : val [s0, s1, s2, s3] = (2 ^ 256 * 2 ^ 256) % val [m0, m1, m2, m3, ni, s0, s1, s2, s3] := h4
    have hs : val [s0, s1, s2, s3] < val [m0, m1, m2, m3, ni, s0, s1, s2, s3] := by rw [h4']; exact Int.emod_lt_of_pos _ (by omega)
    have e := mont_square (a := val a) (b := val [s0, s1, s2, s3]) h1 (by rw [h4', Int.emod_emod_of_dvd _ (Int.dvd_refl _)])
    exact view_of_res mixed noCount hm4_ok (gro_eval m0 m1 m2 m3 ni s0 s1 s2 s3 a) (paid_cons (decide_eq_true h1) (paid_cons (decide_eq_true h3) (paid_cons (decide_eq_true hs) Paid.nil))) (by rw [e]) (by kernel_rfl) ha hi
  · cases h
def hm5 : CallH := withV 77 groS (withV 80 sumS hm4)
theorem hm5_ok : HOk Tryd.prog hm5 := (hm4_ok.withV fun _ _ _ _ h ho => sum_ok h ho).withV fun _ _ _ _ h ho => gro_ok h ho

-- rest
def rstS : List V → E (AV × Mem)
  | [.pt (.ints .u64 (some 9) L), .pl (.ints .u64 4 a)] => some ([good L], (.ints .u64 4 (limbs (val a % val L)), []))
  | _ => none
def rst1 (M : Int) (a : List Int) : List Int := limbs (mont (val [1, 0, 0, 0]) (val (limbs ((val a * 2 ^ 256) % M))) M)
theorem rst_eval (m0 m1 m2 m3 ni s0 s1 s2 s3 : Int) (a : List Int) : ((funcA Tryd.prog qAll hm5 100 81 (cArgs 0 [.pt (.ints .u64 (some 9) [m0, m1, m2, m3, ni, s0, s1, s2, s3]), .pl (.ints .u64 4 a)]) (cMem [.pt (.ints .u64 (some 9) [m0, m1, m2, m3, ni, s0, s1, s2, s3]), .pl (.ints .u64 4 a)]))).mix =
    some ([decide (val a < val [m0, m1, m2, m3, ni, s0, s1, s2, s3]) || good [m0, m1, m2, m3, ni, s0, s1, s2, s3], decide (val a < val [m0, m1, m2, m3, ni, s0, s1, s2, s3]) || decide (val [m0, m1, m2, m3, ni, s0, s1, s2, s3] % 2 = 1), decide (val a < val [m0, m1, m2, m3, ni, s0, s1, s2, s3]) || decide ((m0 * ni + 1) % 18446744073709551616 = 0), decide (val a < val [m0, m1, m2, m3, ni, s0, s1, s2, s3]) || decide (val (limbs ((val a * 2 ^ 256) % val [m0, m1, m2, m3, ni, s0, s1, s2, s3])) < val [m0, m1, m2, m3, ni, s0, s1, s2, s3])],
      .ints .u64 4 (match decide (val a < val [m0, m1, m2, m3]) with | true => a | false => rst1 (val [m0, m1, m2, m3, ni, s0, s1, s2, s3]) a)) := by kernel_rfl
theorem rst_ok {xs : List V} {o : List Bool} {v : AV} {bs : Mem} (h : rstS xs = some (o, (v, bs))) (ho : Paid o) : ViewCall Tryd.prog 81 xs v bs := by
  unfold rstS at h
  split at h
  · rename_i L a
    cases h
    have hg := ho _ (List.mem_cons_self ..)
    obtain ⟨h1, h2, h3, h4⟩ := good_iff.1 hg
    intro ρ vs w ha hi
    obtain ⟨m0, m1, m2, m3, ni, s0, s1, s2, s3, rfl, w0, w1, w2, w3, wi, _⟩ := mod_arg hi rfl
    have hb := ha
    cases hb with
    | cons _ _ _ _ r0 hb => cases hb with
      | cons _ _ _ _ r1 hb =>
        obtain ⟨a0, a1, a2, a3, rfl, u0, u1, u2, u3⟩ := num_arg r1
        have hM : 0 < val [m0, m1, m2, m3, ni, s0, s1, s2, s3] ∧ val [m0, m1, m2, m3, ni, s0, s1, s2, s3] < W4 := ⟨by omega, (val_range w0 w1 w2 w3).2⟩
        have hA := val_range u0 u1 u2 u3
        have hgr : val (limbs ((val [a0, a1, a2, a3] * 2 ^ 256) % val [m0, m1, m2, m3, ni, s0, s1, s2, s3])) = (val [a0, a1, a2, a3] * 2 ^ 256) % val [m0, m1, m2, m3, ni, s0, s1, s2, s3] := by
          rw [val_limbs]
          exact Int.emod_eq_of_lt (Int.emod_nonneg _ (by omega)) (Int.lt_trans (Int.emod_lt_of_pos _ hM.1) hM.2)
        refine view_of_mix mixed noCount hm5_ok (rst_eval m0 m1 m2 m3 ni s0 s1 s2 s3 [a0, a1, a2, a3]) (paid_cons (by rw [hg]; simp) (paid_cons (by rw [decide_eq_true h1]; simp) (paid_cons ?_ (paid_cons ?_ Paid.nil)))) ?_ (by kernel_rfl) ha hi
        · rw [decide_eq_true (show (m0 * ni + 1) % 18446744073709551616 = 0 from h3)]; simp
        · rw [hgr, decide_eq_true (Int.emod_lt_of_pos _ hM.1)]; simp
        · by_cases hlt : val [a0, a1, a2, a3] < val [m0, m1, m2, m3, ni, s0, s1, s2, s3]
          · rw [decide_eq_true (show val [a0, a1, a2, a3] < val [m0, m1, m2, m3] from hlt), Int.emod_eq_of_lt hA.1 hlt, limbs_val u0 u1 u2 u3]
          · rw [decide_eq_false (show ¬ val [a0, a1, a2, a3] < val [m0, m1, m2, m3] from hlt)]
            unfold rst1
            rw [hgr, mont_grown h1, show val [1, 0, 0, 0] = 1 from rfl, Int.one_mul]
  · cases h
def hm6 : CallH := withV 81 rstS hm5
theorem hm6_ok : HOk Tryd.prog hm6 := hm5_ok.withV fun _ _ _ _ h ho => rst_ok h ho
end Go.Proofs.YtapficdphhfpnaaDoor
namespace Go.Ev
section
variable {P : Program} {q : FuncId → Bool} {H : CallH}
end
end Go.Ev
namespace Go.Wn
open Go.Ev
/- the inverse of a word -/
def stepI (n v : Int) : Int := IntKind.u64.wrap (v * IntKind.u64.wrap (2 - IntKind.u64.wrap (n * v)))
def invF (n : Int) : Int := stepI n (stepI n (stepI n (stepI n (stepI n n))))
theorem stepI_eq (n v : Int) : stepI n v = (v * (2 - n * v)) % 18446744073709551616 := by
  unfold stepI
  simp only [wrap_eq]
  rw [mul_mod_right]
  have e : (2 - n * v % 18446744073709551616) % 18446744073709551616 = (2 - n * v) % 18446744073709551616 := by omega
  rw [← mul_mod_right v (2 - n * v % 18446744073709551616), e, mul_mod_right]
theorem stepI_spec {n v d : Int} (e : Int) (hd : d ∣ n * v - 1) (he : d * d = e ∨ (∃ c, d * d = c * e)) (hb : e ∣ 18446744073709551616) : e ∣ n * stepI n v - 1 := by
  rw [stepI_eq]
  obtain ⟨x, hx⟩ := hd
  obtain ⟨y, hy⟩ := hb
  have e1 : v * (2 - n * v) % 18446744073709551616 = v * (2 - n * v) - 18446744073709551616 * (v * (2 - n * v) / 18446744073709551616) := by
    have := Int.emod_add_mul_ediv (v * (2 - n * v)) 18446744073709551616
    omega
  rw [e1, hy]
  generalize v * (2 - n * v) / (e * y) = k
  have hv : n * v = d * x + 1 := by omega
  have e2 : n * (v * (2 - n * v) - e * y * k) - 1 = -(d * d) * (x * x) - e * (n * y * k) := by
    have : n * (v * (2 - n * v) - e * y * k) = (n * v) * (2 - n * v) - e * (n * y * k) := by grind
    rw [this, hv]
    grind
  rw [e2]
  have hdd : e ∣ d * d := by
    rcases he with h | ⟨c, h⟩
    · exact ⟨1, by rw [h, Int.mul_one]⟩
    · exact ⟨c, by rw [h, Int.mul_comm]⟩
  exact Int.dvd_sub (Int.dvd_mul_of_dvd_left (Int.dvd_neg.2 hdd)) (Int.dvd_mul_right _ _)
theorem invF_spec {n : Int} (h : n % 2 = 1) : (n * invF n - 1) % 18446744073709551616 = 0 := by
  have h0 : (8 : Int) ∣ n * n - 1 := by
    obtain ⟨k, rfl⟩ : ∃ k, n = 2 * k + 1 := ⟨n / 2, by omega⟩
    have e : (2 * k + 1) * (2 * k + 1) - 1 = 4 * (k * (k + 1)) := by grind
    rw [e]
    have : k % 2 = 0 ∨ k % 2 = 1 := by omega
    rcases this with hk | hk
    · obtain ⟨j, rfl⟩ : ∃ j, k = 2 * j := ⟨k / 2, by omega⟩
      exact ⟨j * (2 * j + 1), by grind⟩
    · obtain ⟨j, rfl⟩ : ∃ j, k = 2 * j + 1 := ⟨k / 2, by omega⟩
      exact ⟨(2 * j + 1) * (j + 1), by grind⟩
  have h1 := stepI_spec 64 h0 (Or.inl rfl) ⟨288230376151711744, by decide⟩
  have h2 := stepI_spec 4096 h1 (Or.inl rfl) ⟨4503599627370496, by decide⟩
  have h3 := stepI_spec 16777216 h2 (Or.inl rfl) ⟨1099511627776, by decide⟩
  have h4 := stepI_spec 281474976710656 h3 (Or.inl rfl) ⟨65536, by decide⟩
  have h5 := stepI_spec 18446744073709551616 h4 (Or.inr ⟨4294967296, by decide⟩) ⟨1, by decide⟩
  exact Int.emod_eq_zero_of_dvd h5

/- the highest bit -/
def hiF (b : Int → Int) : Nat → Int
  | 0 => 0
  | k + 1 => match b (k + 1) == 0 with | true => hiF b k | false => k + 1
theorem hiF_spec {M : Int} (h0 : 0 ≤ M) (b : Int → Int) (hb : ∀ k : Nat, k ≤ 255 → b k = M / 2 ^ k % 2) : ∀ k : Nat, k ≤ 255 → M < 2 ^ (k + 1) →
    ∃ i : Nat, hiF b k = i ∧ i ≤ k ∧ M < 2 ^ (i + 1) ∧ (i = 0 ∨ 2 ^ i ≤ M)
  | 0, _, hM => ⟨0, rfl, Nat.le_refl _, hM, Or.inl rfl⟩
  | k + 1, hk, hM => by
    have e := hb (k + 1) hk
    have hp : (0 : Int) < 2 ^ (k + 1) := Int.pow_pos (by omega)
    unfold hiF
    cases hc : b ((k : Int) + 1) == 0 with
    | true =>
      simp only
      have hz : M / 2 ^ (k + 1) % 2 = 0 := by
        rw [← e]; simpa using hc
      have hlt : M / 2 ^ (k + 1) < 2 := by
        apply Int.ediv_lt_of_lt_mul hp
        rw [Int.pow_succ] at hM
        omega
      have hge : 0 ≤ M / 2 ^ (k + 1) := Int.ediv_nonneg h0 (by omega)
      have hq : M / 2 ^ (k + 1) = 0 := by omega
      have hM' : M < 2 ^ (k + 1) := by
        have := Int.lt_ediv_add_one_mul_self M hp
        rw [hq] at this
        omega
      obtain ⟨i, h1, h2, h3, h4⟩ := hiF_spec h0 b hb k (by omega) hM'
      exact ⟨i, h1, by omega, h3, h4⟩
    | false =>
      simp only
      have hz : M / 2 ^ (k + 1) % 2 ≠ 0 := by
        rw [← e]; simpa using hc
      refine ⟨k + 1, rfl, Nat.le_refl _, hM, Or.inr ?_⟩
      rcases Int.lt_or_le M (2 ^ (k + 1)) with hlt | hge
      · rw [Int.ediv_eq_zero_of_lt h0 hlt] at hz
        exact absurd rfl hz
      · exact hge
/-- A bit of a number is one of its word. -/
theorem up_bit {a y : Int} {r : Nat} (hr : r < 64) : (a + 18446744073709551616 * y) / 2 ^ r % 2 = a / 2 ^ r % 2 := by
  have e : (18446744073709551616 : Int) = 2 ^ r * (2 * 2 ^ (63 - r)) := by
    rw [← Int.mul_assoc, Int.mul_comm (2 ^ r) 2, Int.mul_assoc, ← Int.pow_add, show r + (63 - r) = 63 by omega]
    rfl
  rw [e, Int.mul_assoc, Int.add_mul_ediv_left _ _ (Int.ne_of_gt (Int.pow_pos (by omega))), Int.mul_assoc, Int.add_mul_emod_self_left]
theorem bit_word {a0 a1 a2 a3 : Int} (h0 : W a0) (h1 : W a1) (h2 : W a2) (h3 : W a3) {k : Nat} (hk : k ≤ 255) : bitP [a0, a1, a2, a3] k = val [a0, a1, a2, a3] / 2 ^ k % 2 := by
  unfold bitP
  have e1 : ((k : Int)).tdiv 64 = ((k / 64 : Nat) : Int) := by rw [Int.tdiv_eq_ediv_of_nonneg (by omega)]; omega
  have e2 : ((k : Int)).tmod 64 = ((k % 64 : Nat) : Int) := by rw [Int.tmod_eq_emod_of_nonneg (by omega)]; omega
  rw [e1, e2, w64_id (by omega), Int.toNat_natCast, Nat.mul_one, Nat.zero_add]
  have hq : k / 64 = 0 ∨ k / 64 = 1 ∨ k / 64 = 2 ∨ k / 64 = 3 := by omega
  have key : ∀ {x : Int} (_ : W x) (P : Int) (y : Int), (2 : Int) ^ (64 * (k / 64)) = P → val [a0, a1, a2, a3] / P = x + 18446744073709551616 * y → iand .u64 (ishr .u64 x ((k % 64 : Nat) : Int)) 1 = val [a0, a1, a2, a3] / 2 ^ k % 2 := by
    intro x hx P y hP hd
    have hr : k % 64 < 64 := by omega
    rw [word_bit hx hr, show (2 : Int) ^ k = P * 2 ^ (k % 64) by rw [← hP, ← Int.pow_add]; congr 1; omega,
      ← Int.ediv_ediv_of_nonneg (by rw [← hP]; exact Int.le_of_lt (Int.pow_pos (by omega))), hd, up_bit hr]
  unfold W at h0 h1 h2 h3
  rcases hq with h | h | h | h
  · rw [h]; exact key h0 1 (a1 + 18446744073709551616 * a2 + 340282366920938463463374607431768211456 * a3) (by rw [h]; rfl) (by simp [val]; omega)
  · rw [h]; exact key h1 18446744073709551616 (a2 + 18446744073709551616 * a3) (by rw [h]; rfl) (by simp [val]; omega)
  · rw [h]; exact key h2 340282366920938463463374607431768211456 a3 (by rw [h]; rfl) (by simp [val]; omega)
  · rw [h]; exact key h3 6277101735386680763835789423207666416102355444464034512896 0 (by rw [h]; rfl) (by simp [val]; omega)
end Go.Wn
namespace Go.Proofs.YtapficdphhfpnaaDoor
open Go.Ev Go.Wn
set_option maxRecDepth 100000
def invS : List AV → E AV
  | [.int _ .u64 n] => some ([], .int true .u64 (invF n))
  | _ => none
theorem inv_eval (n : Int) : res (funcA Tryd.prog qAll hm6 100 73 [.int true .u64 n] []) = some ([], .int true .u64 (invF n)) := by kernel_rfl
theorem inv_ok {args : List AV} {o : List Bool} {v : AV} (h : invS args = some (o, v)) : PureCall Tryd.prog 73 args v := by
  unfold invS at h
  split at h
  · rename_i s n
    cases h
    intro ρ N vs ha
    cases ha with
    | cons _ _ _ _ r0 hb =>
      cases hb
      exact pure_of_res mixed noCount hm6_ok (by kernel_rfl) (inv_eval n) Paid.nil rfl (by kernel_rfl) (.cons _ _ _ _ (remark r0) .nil)
  · cases h
def higS : List AV → E AV
  | [.ints .u64 4 a] => some ([], .int true .i64 (hiF (bitV a) 255))
  | _ => none
theorem hig_eval (a : List Int) : (funcA Tryd.prog qAll hm6 400 84 [.ints .u64 4 a] []).mix = some ([], .int true .i64 (hiF (bitV a) 255)) := by kernel_rfl
theorem hig_ok {args : List AV} {o : List Bool} {v : AV} (h : higS args = some (o, v)) : PureCall Tryd.prog 84 args v := by
  unfold higS at h
  split at h
  · rename_i a
    cases h
    exact pure_of_mix mixed noCount hm6_ok (by kernel_rfl) (hig_eval a) Paid.nil rfl
  · cases h
def hm7 : CallH := withC 84 higS (withC 73 invS hm6)
theorem hm7_ok : HOk Tryd.prog hm7 := (hm6_ok.withC fun _ _ _ h _ => inv_ok h).withC fun _ _ _ h _ => hig_ok h
end Go.Proofs.YtapficdphhfpnaaDoor
