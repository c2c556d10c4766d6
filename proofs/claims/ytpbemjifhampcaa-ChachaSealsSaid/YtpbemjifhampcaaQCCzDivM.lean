/- External functions on words; the base of what follows. Own work. -/
import Derived.Test.YtpbemjifhampcaaQCWordsN
import Derived.Test.YtpbemjifhampcaaQCEvLaw
import Derived.Test.YtpbemjifhampcaaQCModM
import Derived.Test.YtpbemjifhampcaaQCEvView
set_option linter.unusedSimpArgs false
set_option linter.unusedVariables false
set_option linter.unusedSectionVars false
namespace Go.Proofs.Ytpbemjifhampcaa
open Go.Ev

def addX : List AV → E AV
  | [.int _ .u64 x, .int _ .u64 y, .int _ .u64 c] => some ([decide (c ≤ 1)], .tuple [.int true .u64 ((x + y + c) % 18446744073709551616), .int true .u64 ((x + y + c) / 18446744073709551616)])
  | _ => none
def subX : List AV → E AV
  | [.int _ .u64 x, .int _ .u64 y, .int _ .u64 c] => some ([decide (c ≤ 1)], .tuple [.int true .u64 ((x - y - c) % 18446744073709551616), .int true .u64 (if x < y + c then 1 else 0)])
  | _ => none

def subEntry : Array Value → Sem Value := fun args => do
    let (x, y, b) ← Extern.MathBitsCarry.three "Sub64" args
    pure (Extern.MathBitsCarry.pair ((x + Extern.MathBitsCarry.m64 - y - b) % Extern.MathBitsCarry.m64) (if x < y + b then 1 else 0))

theorem run_sub {P : Program} (x y c : Int) (hx : 0 ≤ x ∧ x ≤ 18446744073709551615) (hy : 0 ≤ y ∧ y ≤ 18446744073709551615) (hc0 : 0 ≤ c) (hc : c ≤ 1) (w : World) :
    (subEntry #[.int .u64 x, .int .u64 y, .int .u64 c]).run P w =
      .ok (.tuple #[.int .u64 ((x - y - c) % 18446744073709551616), .int .u64 (if x < y + c then 1 else 0)]) w := by
  have key : ∀ k : Nat, k ≤ 1 → (subEntry #[.int .u64 x, .int .u64 y, .int .u64 (k : Int)]).run P w =
      .ok (Extern.MathBitsCarry.pair ((x.toNat + Extern.MathBitsCarry.m64 - y.toNat - k) % Extern.MathBitsCarry.m64) (if x.toNat < y.toNat + k then 1 else 0)) w := by
    intro k hk
    have : k = 0 ∨ k = 1 := by omega
    rcases this with rfl | rfl <;> rfl
  obtain ⟨k, rfl⟩ := Int.eq_ofNat_of_zero_le hc0
  rw [key k (by omega)]
  obtain ⟨X, rfl⟩ := Int.eq_ofNat_of_zero_le hx.1
  obtain ⟨Y, rfl⟩ := Int.eq_ofNat_of_zero_le hy.1
  simp only [Extern.MathBitsCarry.pair, Extern.MathBitsCarry.m64, Int.toNat_natCast]
  have e1 : Int.ofNat ((X + 2 ^ 64 - Y - k) % 2 ^ 64) = ((X : Int) - Y - k) % 18446744073709551616 := by
    show (((X + 2 ^ 64 - Y - k) % 2 ^ 64 : Nat) : Int) = _
    omega
  have e2 : Int.ofNat (if X < Y + k then 1 else 0) = (if (X : Int) < Y + k then 1 else 0) := by
    by_cases h : X < Y + k
    · rw [if_pos h, if_pos (by omega)]; rfl
    · rw [if_neg h, if_neg (by omega)]; rfl
  rw [e1, e2]

theorem add64_ok {args : List AV} {o : List Bool} {v : AV} (h : addX args = some (o, v)) (ho : Paid o) : PureCall Try.prog 72 args v := by
  unfold addX at h
  split at h
  · rename_i s1 x s2 y s3 c
    cases h
    have hc := ho _ (List.mem_cons_self ..)
    simp only [decide_eq_true_eq] at hc
    intro ρ N vs ha w hT
    cases ha with
    | cons _ _ v1 _ r1 ha => cases ha with
      | cons _ _ v2 _ r2 ha => cases ha with
        | cons _ _ v3 _ r3 ha => cases ha with
          | nil => cases r1 with
            | int _ _ _ h1 => cases r2 with
              | int _ _ _ h2 => cases r3 with
                | int _ _ _ h3 =>
                  rw [inR_iff] at h1 h2 h3
                  simp only [lo, hi] at h1 h2 h3
                  refine callRun_extern (fn := Try.f72) (e := add64Entry) (by kernel_rfl) (by kernel_rfl) (by kernel_rfl) (by kernel_rfl) (by kernel_rfl) (run_add64 x y c h1.1 h2.1 h3.1 hc w) ⟨fun ρ N => ?_, Inv.same w hT⟩
                  exact .tuple _ [_, _] (.cons _ _ _ _ (.int _ _ _ (by rw [inR_iff]; simp only [lo, hi]; omega)) (.cons _ _ _ _ (.int _ _ _ (by rw [inR_iff]; simp only [lo, hi]; omega)) .nil))
  · cases h

theorem sub64_ok {args : List AV} {o : List Bool} {v : AV} (h : subX args = some (o, v)) (ho : Paid o) : PureCall Try.prog 90 args v := by
  unfold subX at h
  split at h
  · rename_i s1 x s2 y s3 c
    cases h
    have hc := ho _ (List.mem_cons_self ..)
    simp only [decide_eq_true_eq] at hc
    intro ρ N vs ha w hT
    cases ha with
    | cons _ _ v1 _ r1 ha => cases ha with
      | cons _ _ v2 _ r2 ha => cases ha with
        | cons _ _ v3 _ r3 ha => cases ha with
          | nil => cases r1 with
            | int _ _ _ h1 => cases r2 with
              | int _ _ _ h2 => cases r3 with
                | int _ _ _ h3 =>
                  rw [inR_iff] at h1 h2 h3
                  simp only [lo, hi] at h1 h2 h3
                  refine callRun_extern (fn := Try.f90) (e := subEntry) (by kernel_rfl) (by kernel_rfl) (by kernel_rfl) (by kernel_rfl) (by kernel_rfl) (run_sub x y c h1 h2 h3.1 hc w) ⟨fun ρ N => ?_, Inv.same w hT⟩
                  exact .tuple _ [_, _] (.cons _ _ _ _ (.int _ _ _ (by rw [inR_iff]; simp only [lo, hi]; omega)) (.cons _ _ _ _ (.int _ _ _ (by rw [inR_iff]; simp only [lo, hi]; split <;> omega)) .nil))
  · cases h

def h0 : CallH := withC 90 subX (withC 72 addX (fun _ _ _ => none))
theorem h0_ok : HOk Try.prog h0 := (HOk.none.withC fun _ _ _ h ho => add64_ok h ho).withC fun _ _ _ h ho => sub64_ok h ho
end Go.Proofs.Ytpbemjifhampcaa

namespace Go.Proofs.Ytpbemjifhampcaa
open Go.Ev Go.Wn
set_option maxRecDepth 100000

theorem inR_W {x : Int} (h : inR .u64 x = true) : W x := by rw [inR_iff] at h; simp only [lo, hi] at h; unfold W; omega
theorem W_inR {x : Int} (h : W x) : inR .u64 x = true := by rw [inR_iff]; simp only [lo, hi]; unfold W at h; omega
theorem four {l : List Int} (h : l.length = 4) : ∃ a b c d, l = [a, b, c, d] := by
  match l, h with
  | [a, b, c, d], _ => exact ⟨a, b, c, d, rfl⟩
/-- An argument that is a number of four words. -/
theorem num_arg {ρ : Nat → Loc3} {N : Nat → Prop} {l : List Int} {v : Value} (h : Rep ρ N (.ints .u64 4 l) v) : ∃ a b c d, l = [a, b, c, d] ∧ W a ∧ W b ∧ W c ∧ W d := by
  cases h with
  | ints _ _ _ hn hl =>
    obtain ⟨a, b, c, d, rfl⟩ := four hn
    exact ⟨a, b, c, d, rfl, inR_W (hl a (by simp)), inR_W (hl b (by simp)), inR_W (hl c (by simp)), inR_W (hl d (by simp))⟩

def qAll : FuncId → Bool := fun f => !Nat.beq f 1000000000
def qAsm : FuncId → Bool := fun _ => true
theorem paidL {o : List Bool} (h : ∀ p ∈ o, p = true) : Paid o := h

end Go.Proofs.Ytpbemjifhampcaa
namespace Go.Wn
open Go.Ev
theorem iand_low {x : Int} (h : W x) : iand .u64 x 4294967295 = x % 4294967296 := by
  rw [iand_eq, BitVec.toNat_and]
  have h1 : (bv 4294967295).toNat = 2 ^ 32 - 1 := by decide
  rw [h1, Nat.and_two_pow_sub_one_eq_mod]
  have := bv_W h
  omega
theorem ishr32 {x : Int} : ishr .u64 x 32 = x / 4294967296 := by
  have := ishr_eq (k := .u64) (x := x) (r := 32) (by simp [IntKind.bits])
  simpa using this
def mulH (a b : Int) : Int :=
  IntKind.u64.wrap (IntKind.u64.wrap (IntKind.u64.wrap (ishr .u64 a 32 * ishr .u64 b 32) + ishr .u64 (IntKind.u64.wrap (IntKind.u64.wrap (ishr .u64 a 32 * iand .u64 b 4294967295) + ishr .u64 (IntKind.u64.wrap (iand .u64 a 4294967295 * iand .u64 b 4294967295)) 32)) 32) +
    ishr .u64 (IntKind.u64.wrap (iand .u64 (IntKind.u64.wrap (IntKind.u64.wrap (ishr .u64 a 32 * iand .u64 b 4294967295) + ishr .u64 (IntKind.u64.wrap (iand .u64 a 4294967295 * iand .u64 b 4294967295)) 32)) 4294967295 + IntKind.u64.wrap (iand .u64 a 4294967295 * ishr .u64 b 32))) 32)
theorem half_mul {x y : Int} (hx : 0 ≤ x ∧ x < 4294967296) (hy : 0 ≤ y ∧ y < 4294967296) : 0 ≤ x * y ∧ x * y ≤ 18446744065119617025 := by
  refine ⟨Int.mul_nonneg hx.1 hy.1, ?_⟩
  have h1 : x * y ≤ 4294967295 * y := Int.mul_le_mul_of_nonneg_right (by omega) hy.1
  omega
theorem mulH_eq {a b : Int} (ha : W a) (hb : W b) : mulH a b = a * b / 18446744073709551616 := by
  unfold mulH
  rw [iand_low ha, iand_low hb, ishr32 (x := a), ishr32 (x := b), ishr32, iand_low (wrap_W _), ishr32, ishr32]
  have e : a * b = (a / 4294967296) * (b / 4294967296) * 18446744073709551616 + ((a / 4294967296) * (b % 4294967296) + (a % 4294967296) * (b / 4294967296)) * 4294967296 + (a % 4294967296) * (b % 4294967296) := by
    have e1 : a = 4294967296 * (a / 4294967296) + a % 4294967296 := by omega
    have e2 : b = 4294967296 * (b / 4294967296) + b % 4294967296 := by omega
    generalize a / 4294967296 = a1 at *
    generalize a % 4294967296 = a0 at *
    generalize b / 4294967296 = b1 at *
    generalize b % 4294967296 = b0 at *
    rw [e1, e2]
    grind
  rw [e]
  unfold W at ha hb
  have h1 := half_mul (x := a / 4294967296) (y := b / 4294967296) (by omega) (by omega)
  have h2 := half_mul (x := a / 4294967296) (y := b % 4294967296) (by omega) (by omega)
  have h3 := half_mul (x := a % 4294967296) (y := b / 4294967296) (by omega) (by omega)
  have h4 := half_mul (x := a % 4294967296) (y := b % 4294967296) (by omega) (by omega)
  generalize a / 4294967296 * (b / 4294967296) = p at *
  generalize a / 4294967296 * (b % 4294967296) = q at *
  generalize a % 4294967296 * (b / 4294967296) = r at *
  generalize a % 4294967296 * (b % 4294967296) = s at *
  simp only [wrap_eq]
  omega
theorem prod_eq {a b c d : Int} (ha : W a) (hb : W b) (hc : W c) (hd : W d) :
    (a * b % 18446744073709551616 + c + 0) % 18446744073709551616 + d + 0 = (a * b % 18446744073709551616 + c + 0) % 18446744073709551616 + d ∧
    IntKind.u64.wrap (IntKind.u64.wrap (a * b / 18446744073709551616 + (a * b % 18446744073709551616 + c + 0) / 18446744073709551616) + ((a * b % 18446744073709551616 + c + 0) % 18446744073709551616 + d + 0) / 18446744073709551616) = pH a b c d ∧
    ((a * b % 18446744073709551616 + c + 0) % 18446744073709551616 + d + 0) % 18446744073709551616 = pL a b c d := by
  have h := mul_W ha hb
  unfold W pH pL at *
  generalize a * b = P at *
  simp only [wrap_eq]
  omega
end Go.Wn
namespace Go.Proofs.Ytpbemjifhampcaa
open Go.Ev Go.Wn
set_option maxRecDepth 100000
theorem int_arg {ρ : Nat → Loc3} {N : Nat → Prop} {s : Bool} {x : Int} {v : Value} (h : Rep ρ N (.int s .u64 x) v) : W x := by
  cases h with | int _ _ _ h => exact inR_W h

def mulS : List AV → E AV
  | [.int _ .u64 a, .int _ .u64 b] => some ([], .tuple [.int true .u64 (a * b / 18446744073709551616), .int true .u64 (a * b % 18446744073709551616)])
  | _ => none
theorem mul_eval (a b : Int) : res (funcA Try.prog qAll h0 100 71 [.int true .u64 a, .int true .u64 b] []) = some ([], .tuple [.int true .u64 (mulH a b), .int true .u64 (IntKind.u64.wrap (a * b))]) := by kernel_rfl
theorem remark {ρ : Nat → Loc3} {N : Nat → Prop} {s : Bool} {k : IntKind} {x : Int} {v : Value} (h : Rep ρ N (.int s k x) v) : Rep ρ N (.int true k x) v := by
  cases h with | int _ _ _ h => exact .int _ _ _ h
theorem mul_ok {args : List AV} {o : List Bool} {v : AV} (h : mulS args = some (o, v)) : PureCall Try.prog 71 args v := by
  unfold mulS at h
  split at h
  · rename_i s a s' b
    cases h
    intro ρ N vs ha
    cases ha with
    | cons _ _ _ _ r0 hb => cases hb with
      | cons _ _ _ _ r1 hb =>
        cases hb
        exact pure_of_res mixed noCount h0_ok (by kernel_rfl) (mul_eval a b) Paid.nil (by rw [mulH_eq (int_arg r0) (int_arg r1), wrap_eq]) (by kernel_rfl) (.cons _ _ _ _ (remark r0) (.cons _ _ _ _ (remark r1) .nil))
  · cases h
def hm1 : CallH := withC 71 mulS h0
theorem hm1_ok : HOk Try.prog hm1 := h0_ok.withC fun _ _ _ h _ => mul_ok h

end Go.Proofs.Ytpbemjifhampcaa
namespace Go.Wn
open Go.Ev
def blen (x : Int) : Int := if x ≤ 0 then 0 else (Nat.log2 x.toNat : Int) + 1
theorem blen_of {x : Int} {n : Nat} (h1 : 2 ^ n ≤ x) (h2 : x < 2 ^ (n + 1)) : blen x = n + 1 := by
  have hp : (0 : Int) < 2 ^ n := Int.pow_pos (by omega)
  unfold blen
  rw [if_neg (by omega)]
  obtain ⟨X, rfl⟩ := Int.eq_ofNat_of_zero_le (show 0 ≤ x by omega)
  have h1' : 2 ^ n ≤ X := by exact_mod_cast h1
  have h2' : X < 2 ^ (n + 1) := by exact_mod_cast h2
  rw [Int.toNat_natCast]
  have : X.log2 = n := (Nat.log2_eq_iff (by have := Nat.pow_pos (n := n) (show 0 < 2 by omega); omega)).2 ⟨h1', h2'⟩
  rw [this]
theorem blen_spec {x : Int} (h : 0 < x) : ∃ n : Nat, blen x = n + 1 ∧ 2 ^ n ≤ x ∧ x < 2 ^ (n + 1) := by
  obtain ⟨X, rfl⟩ := Int.eq_ofNat_of_zero_le (show 0 ≤ x by omega)
  have hX : X ≠ 0 := by omega
  obtain ⟨h1, h2⟩ := (Nat.log2_eq_iff hX).1 rfl
  refine ⟨X.log2, ?_, by exact_mod_cast h1, by exact_mod_cast h2⟩
  unfold blen
  rw [if_neg (by omega), Int.toNat_natCast]
def tab8 : List Int := (List.range 256).map fun (b : Nat) => blen b
theorem tab8_get {b : Nat} (h : b < 256) : tab8.getD b 0 = blen b := by
  unfold tab8
  simp [List.getD, h]
/-- A word that is shifted down by k, to a byte that isn't 0: its length is k more. -/
theorem blen_shift {x : Int} {k : Nat} (h : 0 < x / 2 ^ k) : blen x = k + blen (x / 2 ^ k) := by
  have hp : (0 : Int) < 2 ^ k := Int.pow_pos (by omega)
  obtain ⟨n, e, h1, h2⟩ := blen_spec h
  rw [e]
  have a1 : 2 ^ (k + n) ≤ x := by
    rw [Int.pow_add]
    have := Int.mul_le_mul_of_nonneg_left h1 (Int.le_of_lt hp)
    have := Int.mul_ediv_self_le (x := x) (k := 2 ^ k) (Int.ne_of_gt hp)
    omega
  have a2 : x < 2 ^ (k + n + 1) := by
    rw [Nat.add_assoc, Int.pow_add, Int.mul_comm]
    exact Int.lt_mul_of_ediv_lt hp h2
  rw [blen_of a1 a2]
  omega

/- a digit of a quotient -/
theorem digit_end {H c q r y1 y0 : Int} (hy : 0 < y1 * 4294967296 + y0) (hr : r = H - q * y1) (h : q * y0 ≤ 4294967296 * r + c) : q ≤ (H * 4294967296 + c) / (y1 * 4294967296 + y0) := by
  apply Int.le_ediv_of_mul_le hy
  have e : q * (y1 * 4294967296 + y0) = 4294967296 * (q * y1) + q * y0 := by grind
  rw [e]
  generalize q * y1 = A at *
  generalize q * y0 = B at *
  omega
theorem digit_more {H c q r y1 y0 : Int} (hy : 0 < y1 * 4294967296 + y0) (hr : r = H - q * y1) (h : 4294967296 * r + c < q * y0) : (H * 4294967296 + c) / (y1 * 4294967296 + y0) < q := by
  apply Int.ediv_lt_of_lt_mul hy
  have e : q * (y1 * 4294967296 + y0) = 4294967296 * (q * y1) + q * y0 := by grind
  rw [e]
  generalize q * y1 = A at *
  generalize q * y0 = B at *
  omega
theorem digit_first {H c y1 y0 : Int} (h1 : 2147483648 ≤ y1 ∧ y1 < 4294967296) (h0 : 0 ≤ y0 ∧ y0 < 4294967296) (hc : 0 ≤ c ∧ c < 4294967296) (hH : 0 ≤ H ∧ H < y1 * 4294967296 + y0) :
    (H * 4294967296 + c) / (y1 * 4294967296 + y0) ≤ H / y1 ∧ 0 ≤ H / y1 ∧ H / y1 ≤ 4294967297 ∧ 0 ≤ H - H / y1 * y1 ∧ H - H / y1 * y1 < y1 ∧ 0 ≤ (H * 4294967296 + c) / (y1 * 4294967296 + y0) ∧ (H * 4294967296 + c) / (y1 * 4294967296 + y0) < 4294967296 := by
  have hy : 0 < y1 * 4294967296 + y0 := by omega
  have e1 := Int.emod_add_mul_ediv H y1
  have e2 := Int.emod_nonneg H (show y1 ≠ 0 by omega)
  have e3 := Int.emod_lt_of_pos H (show 0 < y1 by omega)
  have e4 : H / y1 * y1 = y1 * (H / y1) := Int.mul_comm _ _
  refine ⟨?_, Int.ediv_nonneg hH.1 (by omega), ?_, by omega, by omega, Int.ediv_nonneg (by omega) (by omega), ?_⟩
  · apply Int.le_ediv_of_mul_le (by omega)
    have hq := Int.ediv_mul_le (H * 4294967296 + c) (Int.ne_of_gt hy)
    have hq0 := Int.ediv_nonneg (show 0 ≤ H * 4294967296 + c by omega) (Int.le_of_lt hy)
    generalize (H * 4294967296 + c) / (y1 * 4294967296 + y0) = Q at *
    have e : Q * (y1 * 4294967296 + y0) = 4294967296 * (Q * y1) + Q * y0 := by grind
    have hz := Int.mul_nonneg hq0 h0.1
    rw [e] at hq
    generalize Q * y1 = A at *
    generalize Q * y0 = B at *
    omega
  · have : H / y1 < 4294967298 := by
      apply Int.ediv_lt_of_lt_mul (by omega)
      omega
    omega
  · apply Int.ediv_lt_of_lt_mul hy
    generalize y1 * 4294967296 + y0 = y at *
    omega
theorem digit_break {q r c y0 : Int} (h0 : 0 ≤ y0 ∧ y0 < 4294967296) (hc : 0 ≤ c) (hq : 0 ≤ q ∧ q ≤ 4294967296) (hr : 4294967296 ≤ r) : q * y0 ≤ 4294967296 * r + c := by
  have : q * y0 ≤ 4294967296 * y0 := Int.mul_le_mul_of_nonneg_right hq.2 h0.1
  omega
/-- Two digits, and what is left. -/
theorem two_digits {hi lo y : Int} (hy : 0 < y) (un1 un0 : Int) (hl : lo = un1 * 4294967296 + un0) :
    (hi * 18446744073709551616 + lo) / y = (hi * 4294967296 + un1) / y * 4294967296 + (((hi * 4294967296 + un1) % y) * 4294967296 + un0) / y ∧
    (hi * 18446744073709551616 + lo) % y = (((hi * 4294967296 + un1) % y) * 4294967296 + un0) % y := by
  have e1 := Int.emod_add_mul_ediv (hi * 4294967296 + un1) y
  generalize (hi * 4294967296 + un1) % y = r at *
  generalize (hi * 4294967296 + un1) / y = q at *
  have e : hi * 18446744073709551616 + lo = (r * 4294967296 + un0) + y * (q * 4294967296) := by
    have : y * (q * 4294967296) = (y * q) * 4294967296 := by rw [Int.mul_assoc]
    rw [this]
    generalize y * q = A at *
    omega
  rw [e, Int.add_mul_ediv_left _ _ (Int.ne_of_gt hy), Int.add_mul_emod_self_left]
  exact ⟨by omega, rfl⟩
end Go.Wn
