/- Numbers digit by digit of 16 bits: plain arithmetic. Own work. -/
import Derived.Test.YtfmgodgakndjcaaSWordsN
import Derived.Test.YtfmgodgakndjcaaSEv
import Derived.Test.YtfmgodgakndjcaaSEvLaw
import Derived.Test.YtfmgodgakndjcaaSEvView
import Derived.Test.YtfmgodgakndjcaaSEvLoop
set_option linter.unusedSimpArgs false
set_option linter.unusedVariables false
set_option linter.unusedSectionVars false
namespace Go.Wn
open Go.Ev

def nb : List Int → Int
  | [] => 0
  | x :: r => x + 65536 * nb r
def D (x : Int) : Prop := 0 ≤ x ∧ x < 65536
def w64 (x : Int) : Int := IntKind.i64.wrap x
theorem w64_id {x : Int} (h : -9223372036854775808 ≤ x ∧ x < 9223372036854775808) : w64 x = x := by
  unfold w64 IntKind.wrap
  simp [IntKind.bits, IntKind.signed]
  split <;> omega

def sb (x y c : Int) : Int := w64 (w64 (w64 (65536 + x) - y) - c)
/-- A digit put to its place. -/
def pl (x k : Int) : Int := ishl .u64 (IntKind.u64.wrap x) k
def u64w (x : Int) : Int := IntKind.u64.wrap x
def w4 (a b c d : Int) : Int := u64w (u64w (u64w (u64w (0 + pl a 0) + pl b 16) + pl c 32) + pl d 48)
end Go.Wn
namespace Go.Wn
open Go.Ev

theorem uw64 {y : Int} (h : 0 ≤ y ∧ y < 18446744073709551616) : IntKind.u64.wrap y = y := by
  unfold IntKind.wrap; simp [IntKind.bits, IntKind.signed]; omega
def bv (x : Int) : BitVec 64 := BitVec.ofInt 64 x
theorem bv_W {x : Int} (h : W x) : ((bv x).toNat : Int) = x := by
  unfold bv W at *
  rw [BitVec.toNat_ofInt]
  have : ((2 ^ 64 : Nat) : Int) = 18446744073709551616 := by rfl
  rw [this]
  omega
theorem bv_range (b : BitVec 64) : W (b.toNat : Int) := by
  have := b.isLt
  unfold W
  omega
theorem iand_eq (x y : Int) : iand .u64 x y = ((bv x &&& bv y).toNat : Int) := by
  have h := bv_range (bv x &&& bv y)
  unfold W at h
  exact uw64 h
def mask (x : Int) : Int := IntKind.u64.wrap (0 - iand .u64 x 1)
theorem ishr_eq {k : IntKind} {x : Int} {r : Nat} (hr : r ≤ k.bits) : ishr k x (r : Int) = x / 2 ^ r := by
  unfold ishr
  rw [Int.toNat_natCast, show min r k.bits = r by omega]
  exact Int.fdiv_eq_ediv_of_nonneg _ (Int.le_of_lt (Int.pow_pos (by omega)))
end Go.Wn
namespace Go.Wn
open Go.Ev

/- products of words -/
theorem mul_W {a b : Int} (ha : W a) (hb : W b) : 0 ≤ a * b ∧ a * b ≤ 340282366920938463426481119284349108225 := by
  unfold W at *
  refine ⟨Int.mul_nonneg ha.1 hb.1, ?_⟩
  have h1 : a * b ≤ 18446744073709551615 * b := Int.mul_le_mul_of_nonneg_right (by omega) hb.1
  omega
/-- a b + c + d: its high word, its low word. -/
def pH (a b c d : Int) : Int := (a * b + c + d) / 18446744073709551616
def pL (a b c d : Int) : Int := (a * b + c + d) % 18446744073709551616
theorem p_spec {a b c d : Int} (ha : W a) (hb : W b) (hc : W c) (hd : W d) : W (pH a b c d) ∧ W (pL a b c d) ∧ a * b + c + d = 18446744073709551616 * pH a b c d + pL a b c d := by
  have h := mul_W ha hb
  unfold W pH pL at *
  generalize a * b = P at *
  omega

/-- Of a word times a number of four words and a number of four words: the words, and what goes beyond them. -/
theorem row_spec {w b0 b1 b2 b3 t0 t1 t2 t3 : Int} (hw : W w) (h0 : W b0) (h1 : W b1) (h2 : W b2) (h3 : W b3) (k0 : W t0) (k1 : W t1) (k2 : W t2) (k3 : W t3) :
    ∃ c0 c1 c2 c3 r0 r1 r2 r3, c0 = pH w b0 t0 0 ∧ r0 = pL w b0 t0 0 ∧ c1 = pH w b1 t1 c0 ∧ r1 = pL w b1 t1 c0 ∧ c2 = pH w b2 t2 c1 ∧ r2 = pL w b2 t2 c1 ∧ c3 = pH w b3 t3 c2 ∧ r3 = pL w b3 t3 c2 ∧
      W c0 ∧ W c1 ∧ W c2 ∧ W c3 ∧ W r0 ∧ W r1 ∧ W r2 ∧ W r3 ∧
      w * val [b0, b1, b2, b3] + val [t0, t1, t2, t3] = val [r0, r1, r2, r3] + 115792089237316195423570985008687907853269984665640564039457584007913129639936 * c3 := by
  have z : W 0 := by unfold W; omega
  obtain ⟨a1, a2, a3⟩ := p_spec hw h0 k0 z
  obtain ⟨a4, a5, a6⟩ := p_spec hw h1 k1 a1
  obtain ⟨a7, a8, a9⟩ := p_spec hw h2 k2 a4
  obtain ⟨b4, b5, b6⟩ := p_spec hw h3 k3 a7
  refine ⟨_, _, _, _, _, _, _, _, rfl, rfl, rfl, rfl, rfl, rfl, rfl, rfl, a1, a4, a7, b4, a2, a5, a8, b5, ?_⟩
  generalize pH w b3 t3 (pH w b2 t2 (pH w b1 t1 (pH w b0 t0 0))) = c3 at *
  generalize pL w b3 t3 (pH w b2 t2 (pH w b1 t1 (pH w b0 t0 0))) = r3 at *
  generalize pH w b2 t2 (pH w b1 t1 (pH w b0 t0 0)) = c2 at *
  generalize pL w b2 t2 (pH w b1 t1 (pH w b0 t0 0)) = r2 at *
  generalize pH w b1 t1 (pH w b0 t0 0) = c1 at *
  generalize pL w b1 t1 (pH w b0 t0 0) = r1 at *
  generalize pH w b0 t0 0 = c0 at *
  generalize pL w b0 t0 0 = r0 at *
  have e : w * val [b0, b1, b2, b3] = w * b0 + 18446744073709551616 * (w * b1) + 340282366920938463463374607431768211456 * (w * b2) + 6277101735386680763835789423207666416102355444464034512896 * (w * b3) := by
    simp [val, Int.mul_add, Int.mul_left_comm]
  rw [e]
  simp only [val, List.getD_cons_zero, List.getD_cons_succ]
  generalize w * b0 = P0 at *
  generalize w * b1 = P1 at *
  generalize w * b2 = P2 at *
  generalize w * b3 = P3 at *
  omega

theorem wrap_W (x : Int) : W (IntKind.u64.wrap x) := by
  unfold IntKind.wrap W; simp [IntKind.bits, IntKind.signed]; omega
theorem wrap_eq (x : Int) : IntKind.u64.wrap x = x % 18446744073709551616 := by
  unfold IntKind.wrap; simp [IntKind.bits, IntKind.signed]
/- half: what twice is 1 -/
theorem mul_mod_right (a X M : Int) : (a * (X % M)) % M = (a * X) % M := by
  rw [Int.mul_emod, Int.emod_emod_of_dvd _ (Int.dvd_refl _), ← Int.mul_emod]
end Go.Wn
namespace Go.Proofs.Ytfmgodgakndjcaa
open Go.Ev

def addX : List AV → E AV
  | [.int _ .u64 x, .int _ .u64 y, .int _ .u64 c] => some ([decide (c ≤ 1)], .tuple [.int true .u64 ((x + y + c) % 18446744073709551616), .int true .u64 ((x + y + c) / 18446744073709551616)])
  | _ => none
def subX : List AV → E AV
  | [.int _ .u64 x, .int _ .u64 y, .int _ .u64 c] => some ([decide (c ≤ 1)], .tuple [.int true .u64 ((x - y - c) % 18446744073709551616), .int true .u64 (if x < y + c then 1 else 0)])
  | _ => none

def subEntry : Array Value → Sem Value := fun args => do
    let (x, y, b) ← Extern.MathBitsCarry.three "Sub64" args
    pure (Extern.MathBitsCarry.pair ((x + Extern.MathBitsCarry.m64 - y - b) % Extern.MathBitsCarry.m64) (if x < y + b then 1 else 0))

theorem run_sub {P : Program} (x y c : Int) (hx : 0 ≤ x ∧ x ≤ 18446744073709551615) (hy : 0 ≤ y ∧ y ≤ 18446744073709551615) (hc0 : 0 ≤ c) (hc : c ≤ 1) (w : World) :
    (subEntry #[.int .u64 x, .int .u64 y, .int .u64 c]).run P w =
      .ok (.tuple #[.int .u64 ((x - y - c) % 18446744073709551616), .int .u64 (if x < y + c then 1 else 0)]) w := by
  have key : ∀ k : Nat, k ≤ 1 → (subEntry #[.int .u64 x, .int .u64 y, .int .u64 (k : Int)]).run P w =
      .ok (Extern.MathBitsCarry.pair ((x.toNat + Extern.MathBitsCarry.m64 - y.toNat - k) % Extern.MathBitsCarry.m64) (if x.toNat < y.toNat + k then 1 else 0)) w := by
    intro k hk
    have : k = 0 ∨ k = 1 := by omega
    rcases this with rfl | rfl <;> rfl
  obtain ⟨k, rfl⟩ := Int.eq_ofNat_of_zero_le hc0
  rw [key k (by omega)]
  obtain ⟨X, rfl⟩ := Int.eq_ofNat_of_zero_le hx.1
  obtain ⟨Y, rfl⟩ := Int.eq_ofNat_of_zero_le hy.1
  simp only [Extern.MathBitsCarry.pair, Extern.MathBitsCarry.m64, Int.toNat_natCast]
  have e1 : Int.ofNat ((X + 2 ^ 64 - Y - k) % 2 ^ 64) = ((X : Int) - Y - k) % 18446744073709551616 := by
    show (((X + 2 ^ 64 - Y - k) % 2 ^ 64 : Nat) : Int) = _
    omega
  have e2 : Int.ofNat (if X < Y + k then 1 else 0) = (if (X : Int) < Y + k then 1 else 0) := by
    by_cases h : X < Y + k
    · rw [if_pos h, if_pos (by omega)]; rfl
    · rw [if_neg h, if_neg (by omega)]; rfl
  rw [e1, e2]

set_option maxRecDepth 100000
theorem add64_ok {args : List AV} {o : List Bool} {v : AV} (h : addX args = some (o, v)) (ho : Paid o) : PureCall Try.prog 94 args v := by
  unfold addX at h
  split at h
  · rename_i s1 x s2 y s3 c
    cases h
    have hc := ho _ (List.mem_cons_self ..)
    simp only [decide_eq_true_eq] at hc
    intro ρ N vs ha w hT
    cases ha with
    | cons _ _ v1 _ r1 ha => cases ha with
      | cons _ _ v2 _ r2 ha => cases ha with
        | cons _ _ v3 _ r3 ha => cases ha with
          | nil => cases r1 with
            | int _ _ _ h1 => cases r2 with
              | int _ _ _ h2 => cases r3 with
                | int _ _ _ h3 =>
                  rw [inR_iff] at h1 h2 h3
                  simp only [lo, hi] at h1 h2 h3
                  refine callRun_extern (fn := Try.f94) (e := add64Entry) (by kernel_rfl) (by kernel_rfl) (by kernel_rfl) (by kernel_rfl) (by kernel_rfl) (run_add64 x y c h1.1 h2.1 h3.1 hc w) ⟨fun ρ N => ?_, Inv.same w hT⟩
                  exact .tuple _ [_, _] (.cons _ _ _ _ (.int _ _ _ (by rw [inR_iff]; simp only [lo, hi]; omega)) (.cons _ _ _ _ (.int _ _ _ (by rw [inR_iff]; simp only [lo, hi]; omega)) .nil))
  · cases h

theorem sub64_ok {args : List AV} {o : List Bool} {v : AV} (h : subX args = some (o, v)) (ho : Paid o) : PureCall Try.prog 102 args v := by
  unfold subX at h
  split at h
  · rename_i s1 x s2 y s3 c
    cases h
    have hc := ho _ (List.mem_cons_self ..)
    simp only [decide_eq_true_eq] at hc
    intro ρ N vs ha w hT
    cases ha with
    | cons _ _ v1 _ r1 ha => cases ha with
      | cons _ _ v2 _ r2 ha => cases ha with
        | cons _ _ v3 _ r3 ha => cases ha with
          | nil => cases r1 with
            | int _ _ _ h1 => cases r2 with
              | int _ _ _ h2 => cases r3 with
                | int _ _ _ h3 =>
                  rw [inR_iff] at h1 h2 h3
                  simp only [lo, hi] at h1 h2 h3
                  refine callRun_extern (fn := Try.f102) (e := subEntry) (by kernel_rfl) (by kernel_rfl) (by kernel_rfl) (by kernel_rfl) (by kernel_rfl) (run_sub x y c h1 h2 h3.1 hc w) ⟨fun ρ N => ?_, Inv.same w hT⟩
                  exact .tuple _ [_, _] (.cons _ _ _ _ (.int _ _ _ (by rw [inR_iff]; simp only [lo, hi]; omega)) (.cons _ _ _ _ (.int _ _ _ (by rw [inR_iff]; simp only [lo, hi]; split <;> omega)) .nil))
  · cases h

def h0 : CallH := withC 102 subX (withC 94 addX (fun _ _ _ => none))
theorem h0_ok : HOk Try.prog h0 := (HOk.none.withC fun _ _ _ h ho => add64_ok h ho).withC fun _ _ _ h ho => sub64_ok h ho
end Go.Proofs.Ytfmgodgakndjcaa

namespace Go.Proofs.Ytfmgodgakndjcaa
open Go.Ev Go.Wn
set_option maxRecDepth 100000

theorem inR_W {x : Int} (h : inR .u64 x = true) : W x := by rw [inR_iff] at h; simp only [lo, hi] at h; unfold W; omega
theorem four {l : List Int} (h : l.length = 4) : ∃ a b c d, l = [a, b, c, d] := by
  match l, h with
  | [a, b, c, d], _ => exact ⟨a, b, c, d, rfl⟩
/-- An argument that is a number of four words. -/
theorem num_arg {ρ : Nat → Loc3} {N : Nat → Prop} {l : List Int} {v : Value} (h : Rep ρ N (.ints .u64 4 l) v) : ∃ a b c d, l = [a, b, c, d] ∧ W a ∧ W b ∧ W c ∧ W d := by
  cases h with
  | ints _ _ _ hn hl =>
    obtain ⟨a, b, c, d, rfl⟩ := four hn
    exact ⟨a, b, c, d, rfl, inR_W (hl a (by simp)), inR_W (hl b (by simp)), inR_W (hl c (by simp)), inR_W (hl d (by simp))⟩

def qAll : FuncId → Bool := fun f => !Nat.beq f 1000000000
end Go.Proofs.Ytfmgodgakndjcaa
namespace Go.Wn
open Go.Ev
theorem iand_low {x : Int} (h : W x) : iand .u64 x 4294967295 = x % 4294967296 := by
  rw [iand_eq, BitVec.toNat_and]
  have h1 : (bv 4294967295).toNat = 2 ^ 32 - 1 := by decide
  rw [h1, Nat.and_two_pow_sub_one_eq_mod]
  have := bv_W h
  omega
theorem ishr32 {x : Int} : ishr .u64 x 32 = x / 4294967296 := by
  have := ishr_eq (k := .u64) (x := x) (r := 32) (by simp [IntKind.bits])
  simpa using this
def mulH (a b : Int) : Int :=
  IntKind.u64.wrap (IntKind.u64.wrap (IntKind.u64.wrap (ishr .u64 a 32 * ishr .u64 b 32) + ishr .u64 (IntKind.u64.wrap (IntKind.u64.wrap (ishr .u64 a 32 * iand .u64 b 4294967295) + ishr .u64 (IntKind.u64.wrap (iand .u64 a 4294967295 * iand .u64 b 4294967295)) 32)) 32) +
    ishr .u64 (IntKind.u64.wrap (iand .u64 (IntKind.u64.wrap (IntKind.u64.wrap (ishr .u64 a 32 * iand .u64 b 4294967295) + ishr .u64 (IntKind.u64.wrap (iand .u64 a 4294967295 * iand .u64 b 4294967295)) 32)) 4294967295 + IntKind.u64.wrap (iand .u64 a 4294967295 * ishr .u64 b 32))) 32)
theorem half_mul {x y : Int} (hx : 0 ≤ x ∧ x < 4294967296) (hy : 0 ≤ y ∧ y < 4294967296) : 0 ≤ x * y ∧ x * y ≤ 18446744065119617025 := by
  refine ⟨Int.mul_nonneg hx.1 hy.1, ?_⟩
  have h1 : x * y ≤ 4294967295 * y := Int.mul_le_mul_of_nonneg_right (by omega) hy.1
  omega
theorem mulH_eq {a b : Int} (ha : W a) (hb : W b) : mulH a b = a * b / 18446744073709551616 := by
  unfold mulH
  rw [iand_low ha, iand_low hb, ishr32 (x := a), ishr32 (x := b), ishr32, iand_low (wrap_W _), ishr32, ishr32]
  have e : a * b = (a / 4294967296) * (b / 4294967296) * 18446744073709551616 + ((a / 4294967296) * (b % 4294967296) + (a % 4294967296) * (b / 4294967296)) * 4294967296 + (a % 4294967296) * (b % 4294967296) := by
    have e1 : a = 4294967296 * (a / 4294967296) + a % 4294967296 := by omega
    have e2 : b = 4294967296 * (b / 4294967296) + b % 4294967296 := by omega
    generalize a / 4294967296 = a1 at *
    generalize a % 4294967296 = a0 at *
    generalize b / 4294967296 = b1 at *
    generalize b % 4294967296 = b0 at *
    rw [e1, e2]
    grind
  rw [e]
  unfold W at ha hb
  have h1 := half_mul (x := a / 4294967296) (y := b / 4294967296) (by omega) (by omega)
  have h2 := half_mul (x := a / 4294967296) (y := b % 4294967296) (by omega) (by omega)
  have h3 := half_mul (x := a % 4294967296) (y := b / 4294967296) (by omega) (by omega)
  have h4 := half_mul (x := a % 4294967296) (y := b % 4294967296) (by omega) (by omega)
  generalize a / 4294967296 * (b / 4294967296) = p at *
  generalize a / 4294967296 * (b % 4294967296) = q at *
  generalize a % 4294967296 * (b / 4294967296) = r at *
  generalize a % 4294967296 * (b % 4294967296) = s at *
  simp only [wrap_eq]
  omega
theorem prod_eq {a b c d : Int} (ha : W a) (hb : W b) (hc : W c) (hd : W d) :
    (a * b % 18446744073709551616 + c + 0) % 18446744073709551616 + d + 0 = (a * b % 18446744073709551616 + c + 0) % 18446744073709551616 + d ∧
    IntKind.u64.wrap (IntKind.u64.wrap (a * b / 18446744073709551616 + (a * b % 18446744073709551616 + c + 0) / 18446744073709551616) + ((a * b % 18446744073709551616 + c + 0) % 18446744073709551616 + d + 0) / 18446744073709551616) = pH a b c d ∧
    ((a * b % 18446744073709551616 + c + 0) % 18446744073709551616 + d + 0) % 18446744073709551616 = pL a b c d := by
  have h := mul_W ha hb
  unfold W pH pL at *
  generalize a * b = P at *
  simp only [wrap_eq]
  omega
end Go.Wn
namespace Go.Proofs.Ytfmgodgakndjcaa
open Go.Ev Go.Wn
set_option maxRecDepth 100000
theorem int_arg {ρ : Nat → Loc3} {N : Nat → Prop} {s : Bool} {x : Int} {v : Value} (h : Rep ρ N (.int s .u64 x) v) : W x := by
  cases h with | int _ _ _ h => exact inR_W h

def mulS : List AV → E AV
  | [.int _ .u64 a, .int _ .u64 b] => some ([], .tuple [.int true .u64 (a * b / 18446744073709551616), .int true .u64 (a * b % 18446744073709551616)])
  | _ => none
theorem mul_eval (a b : Int) : res (funcA Try.prog qAll h0 100 93 [.int true .u64 a, .int true .u64 b] []) = some ([], .tuple [.int true .u64 (mulH a b), .int true .u64 (IntKind.u64.wrap (a * b))]) := by kernel_rfl
theorem remark {ρ : Nat → Loc3} {N : Nat → Prop} {s : Bool} {k : IntKind} {x : Int} {v : Value} (h : Rep ρ N (.int s k x) v) : Rep ρ N (.int true k x) v := by
  cases h with | int _ _ _ h => exact .int _ _ _ h
theorem mul_ok {args : List AV} {o : List Bool} {v : AV} (h : mulS args = some (o, v)) : PureCall Try.prog 93 args v := by
  unfold mulS at h
  split at h
  · rename_i s a s' b
    cases h
    intro ρ N vs ha
    cases ha with
    | cons _ _ _ _ r0 hb => cases hb with
      | cons _ _ _ _ r1 hb =>
        cases hb
        exact pure_of_res mixed noCount h0_ok (by kernel_rfl) (mul_eval a b) Paid.nil (by rw [mulH_eq (int_arg r0) (int_arg r1), wrap_eq]) (by kernel_rfl) (.cons _ _ _ _ (remark r0) (.cons _ _ _ _ (remark r1) .nil))
  · cases h
def hm1 : CallH := withC 93 mulS h0
theorem hm1_ok : HOk Try.prog hm1 := h0_ok.withC fun _ _ _ h _ => mul_ok h

end Go.Proofs.Ytfmgodgakndjcaa
namespace Go.Wn
open Go.Ev
def blen (x : Int) : Int := if x ≤ 0 then 0 else (Nat.log2 x.toNat : Int) + 1
theorem blen_of {x : Int} {n : Nat} (h1 : 2 ^ n ≤ x) (h2 : x < 2 ^ (n + 1)) : blen x = n + 1 := by
  have hp : (0 : Int) < 2 ^ n := Int.pow_pos (by omega)
  unfold blen
  rw [if_neg (by omega)]
  obtain ⟨X, rfl⟩ := Int.eq_ofNat_of_zero_le (show 0 ≤ x by omega)
  have h1' : 2 ^ n ≤ X := by exact_mod_cast h1
  have h2' : X < 2 ^ (n + 1) := by exact_mod_cast h2
  rw [Int.toNat_natCast]
  have : X.log2 = n := (Nat.log2_eq_iff (by have := Nat.pow_pos (n := n) (show 0 < 2 by omega); omega)).2 ⟨h1', h2'⟩
  rw [this]
theorem blen_spec {x : Int} (h : 0 < x) : ∃ n : Nat, blen x = n + 1 ∧ 2 ^ n ≤ x ∧ x < 2 ^ (n + 1) := by
  obtain ⟨X, rfl⟩ := Int.eq_ofNat_of_zero_le (show 0 ≤ x by omega)
  have hX : X ≠ 0 := by omega
  obtain ⟨h1, h2⟩ := (Nat.log2_eq_iff hX).1 rfl
  refine ⟨X.log2, ?_, by exact_mod_cast h1, by exact_mod_cast h2⟩
  unfold blen
  rw [if_neg (by omega), Int.toNat_natCast]
def tab8 : List Int := (List.range 256).map fun (b : Nat) => blen b
theorem tab8_get {b : Nat} (h : b < 256) : tab8.getD b 0 = blen b := by
  unfold tab8
  simp [List.getD, h]
/-- A word that is shifted down by k, to a byte that isn't 0: its length is k more. -/
theorem blen_shift {x : Int} {k : Nat} (h : 0 < x / 2 ^ k) : blen x = k + blen (x / 2 ^ k) := by
  have hp : (0 : Int) < 2 ^ k := Int.pow_pos (by omega)
  obtain ⟨n, e, h1, h2⟩ := blen_spec h
  rw [e]
  have a1 : 2 ^ (k + n) ≤ x := by
    rw [Int.pow_add]
    have := Int.mul_le_mul_of_nonneg_left h1 (Int.le_of_lt hp)
    have := Int.mul_ediv_self_le (x := x) (k := 2 ^ k) (Int.ne_of_gt hp)
    omega
  have a2 : x < 2 ^ (k + n + 1) := by
    rw [Nat.add_assoc, Int.pow_add, Int.mul_comm]
    exact Int.lt_mul_of_ediv_lt hp h2
  rw [blen_of a1 a2]
  omega

/- a digit of a quotient -/
theorem digit_end {H c q r y1 y0 : Int} (hy : 0 < y1 * 4294967296 + y0) (hr : r = H - q * y1) (h : q * y0 ≤ 4294967296 * r + c) : q ≤ (H * 4294967296 + c) / (y1 * 4294967296 + y0) := by
  apply Int.le_ediv_of_mul_le hy
  have e : q * (y1 * 4294967296 + y0) = 4294967296 * (q * y1) + q * y0 := by grind
  rw [e]
  generalize q * y1 = A at *
  generalize q * y0 = B at *
  omega
theorem digit_more {H c q r y1 y0 : Int} (hy : 0 < y1 * 4294967296 + y0) (hr : r = H - q * y1) (h : 4294967296 * r + c < q * y0) : (H * 4294967296 + c) / (y1 * 4294967296 + y0) < q := by
  apply Int.ediv_lt_of_lt_mul hy
  have e : q * (y1 * 4294967296 + y0) = 4294967296 * (q * y1) + q * y0 := by grind
  rw [e]
  generalize q * y1 = A at *
  generalize q * y0 = B at *
  omega
theorem digit_first {H c y1 y0 : Int} (h1 : 2147483648 ≤ y1 ∧ y1 < 4294967296) (h0 : 0 ≤ y0 ∧ y0 < 4294967296) (hc : 0 ≤ c ∧ c < 4294967296) (hH : 0 ≤ H ∧ H < y1 * 4294967296 + y0) :
    (H * 4294967296 + c) / (y1 * 4294967296 + y0) ≤ H / y1 ∧ 0 ≤ H / y1 ∧ H / y1 ≤ 4294967297 ∧ 0 ≤ H - H / y1 * y1 ∧ H - H / y1 * y1 < y1 ∧ 0 ≤ (H * 4294967296 + c) / (y1 * 4294967296 + y0) ∧ (H * 4294967296 + c) / (y1 * 4294967296 + y0) < 4294967296 := by
  have hy : 0 < y1 * 4294967296 + y0 := by omega
  have e1 := Int.emod_add_mul_ediv H y1
  have e2 := Int.emod_nonneg H (show y1 ≠ 0 by omega)
  have e3 := Int.emod_lt_of_pos H (show 0 < y1 by omega)
  have e4 : H / y1 * y1 = y1 * (H / y1) := Int.mul_comm _ _
  refine ⟨?_, Int.ediv_nonneg hH.1 (by omega), ?_, by omega, by omega, Int.ediv_nonneg (by omega) (by omega), ?_⟩
  · apply Int.le_ediv_of_mul_le (by omega)
    have hq := Int.ediv_mul_le (H * 4294967296 + c) (Int.ne_of_gt hy)
    have hq0 := Int.ediv_nonneg (show 0 ≤ H * 4294967296 + c by omega) (Int.le_of_lt hy)
    generalize (H * 4294967296 + c) / (y1 * 4294967296 + y0) = Q at *
    have e : Q * (y1 * 4294967296 + y0) = 4294967296 * (Q * y1) + Q * y0 := by grind
    have hz := Int.mul_nonneg hq0 h0.1
    rw [e] at hq
    generalize Q * y1 = A at *
    generalize Q * y0 = B at *
    omega
  · have : H / y1 < 4294967298 := by
      apply Int.ediv_lt_of_lt_mul (by omega)
      omega
    omega
  · apply Int.ediv_lt_of_lt_mul hy
    generalize y1 * 4294967296 + y0 = y at *
    omega
theorem digit_break {q r c y0 : Int} (h0 : 0 ≤ y0 ∧ y0 < 4294967296) (hc : 0 ≤ c) (hq : 0 ≤ q ∧ q ≤ 4294967296) (hr : 4294967296 ≤ r) : q * y0 ≤ 4294967296 * r + c := by
  have : q * y0 ≤ 4294967296 * y0 := Int.mul_le_mul_of_nonneg_right hq.2 h0.1
  omega
/-- Two digits, and what is left. -/
theorem two_digits {hi lo y : Int} (hy : 0 < y) (un1 un0 : Int) (hl : lo = un1 * 4294967296 + un0) :
    (hi * 18446744073709551616 + lo) / y = (hi * 4294967296 + un1) / y * 4294967296 + (((hi * 4294967296 + un1) % y) * 4294967296 + un0) / y ∧
    (hi * 18446744073709551616 + lo) % y = (((hi * 4294967296 + un1) % y) * 4294967296 + un0) % y := by
  have e1 := Int.emod_add_mul_ediv (hi * 4294967296 + un1) y
  generalize (hi * 4294967296 + un1) % y = r at *
  generalize (hi * 4294967296 + un1) / y = q at *
  have e : hi * 18446744073709551616 + lo = (r * 4294967296 + un0) + y * (q * 4294967296) := by
    have : y * (q * 4294967296) = (y * q) * 4294967296 := by rw [Int.mul_assoc]
    rw [this]
    generalize y * q = A at *
    omega
  rw [e, Int.add_mul_ediv_left _ _ (Int.ne_of_gt hy), Int.add_mul_emod_self_left]
  exact ⟨by omega, rfl⟩
end Go.Wn
namespace Go.Ev
theorem pure_of_resX {P : Program} {q : FuncId → Bool} {H : CallH} (hm : P.follows .mixedOrders = true) (hng : noCount P = true) (hH : HOk P H) {n : Nat} {g : FuncId} {args : List AV} {o : List Bool} {v v' : AV} (hp : args.all plainA = true)
    (h : res (funcA P q H n g args []) = some (o, v)) (ho : Paid o) (hv : ∀ {ρ ρ' : Nat → Loc3} {N N' : Nat → Prop} {u : Value}, Rep ρ N v u → Rep ρ' N' v' u) : PureCall P g args v' :=
  pure_of_eval hm hng hH hp (sat_plain h ho hv)
end Go.Ev
namespace Go.Proofs.Ytfmgodgakndjcaa
open Go.Ev Go.Wn
set_option maxRecDepth 100000
theorem tab_leaf {x : Int} {k : Nat} (hk : k ≤ 56) (h0 : 0 ≤ x / 2 ^ k) (h1 : x / 2 ^ k < 256) (h2 : k = 0 ∨ 0 < x / 2 ^ k) :
    (decide (0 ≤ IntKind.u8.wrap (x / 2 ^ k)) && decide (IntKind.u8.wrap (x / 2 ^ k) < (tab8.length : Int))) = true ∧
    IntKind.i64.wrap ((k : Int) + IntKind.i64.wrap (tab8.getD (IntKind.u8.wrap (x / 2 ^ k)).toNat 0)) = blen x := by
  have hl : tab8.length = 256 := by simp [tab8]
  have hw : IntKind.u8.wrap (x / 2 ^ k) = x / 2 ^ k := by
    generalize x / 2 ^ k = b at *
    unfold IntKind.wrap; simp [IntKind.bits, IntKind.signed]; omega
  have hb : 0 ≤ blen (x / 2 ^ k) ∧ blen (x / 2 ^ k) ≤ 8 := by
    rcases Int.le_iff_lt_or_eq.1 h0 with h | h
    · obtain ⟨n, e, g1, g2⟩ := blen_spec h
      rw [e]
      have : n < 8 := by
        rcases Nat.lt_or_ge n 8 with h8 | h8
        · exact h8
        · have : (2 : Int) ^ 8 ≤ 2 ^ n := by exact_mod_cast Nat.pow_le_pow_right (by omega : 0 < 2) h8
          have h256 : (2 : Int) ^ 8 = 256 := rfl
          omega
      omega
    · rw [← h]; decide
  have hx : blen x = k + blen (x / 2 ^ k) := by
    rcases h2 with rfl | h2
    · rw [Int.pow_zero, Int.ediv_one]; simp
    · exact blen_shift h2
  rw [hw, hl, decide_eq_true h0, decide_eq_true (by omega : x / 2 ^ k < ((256 : Nat) : Int))]
  refine ⟨rfl, ?_⟩
  have ht : tab8.getD (x / 2 ^ k).toNat 0 = blen (x / 2 ^ k) := by
    rw [tab8_get (by omega), Int.toNat_of_nonneg h0]
  rw [ht, hx]
  generalize blen (x / 2 ^ k) = t at *
  have w : ∀ {z : Int}, -9223372036854775808 ≤ z ∧ z < 9223372036854775808 → IntKind.i64.wrap z = z := by
    intro z hz; unfold IntKind.wrap; simp [IntKind.bits, IntKind.signed]; omega
  rw [w (z := t) (by omega), w (by omega)]
theorem shr_shr {x : Int} (a b : Nat) (ha : a ≤ 64) (hb : b ≤ 64) : ishr .u64 (ishr .u64 x (a : Int)) (b : Int) = x / 2 ^ (a + b) := by
  rw [ishr_eq (by simp [IntKind.bits]; omega), ishr_eq (by simp [IntKind.bits]; omega), Int.ediv_ediv_of_nonneg (Int.le_of_lt (Int.pow_pos (by omega))), ← Int.pow_add]
theorem len_ttt (x : Int) : res ((funcA Try.prog qAll h0 100 104 [.int true .u64 x] []).go [true, true, true]) =
    some ([decide (x ≥ 4294967296), decide ((ishr .u64 x 32) ≥ 65536), decide ((ishr .u64 (ishr .u64 x 32) 16) ≥ 256), decide (0 ≤ IntKind.u8.wrap (ishr .u64 (ishr .u64 (ishr .u64 x 32) 16) 8)) && decide (IntKind.u8.wrap (ishr .u64 (ishr .u64 (ishr .u64 x 32) 16) 8) < (tab8.length : Int))], .int true .i64 (IntKind.i64.wrap (((56 : Nat) : Int) + IntKind.i64.wrap (tab8.getD (IntKind.u8.wrap (ishr .u64 (ishr .u64 (ishr .u64 x 32) 16) 8)).toNat 0)))) := by kernel_rfl
theorem len_ttf (x : Int) : res ((funcA Try.prog qAll h0 100 104 [.int true .u64 x] []).go [true, true, false]) =
    some ([decide (x ≥ 4294967296), decide ((ishr .u64 x 32) ≥ 65536), !decide ((ishr .u64 (ishr .u64 x 32) 16) ≥ 256), decide (0 ≤ IntKind.u8.wrap (ishr .u64 (ishr .u64 x 32) 16)) && decide (IntKind.u8.wrap (ishr .u64 (ishr .u64 x 32) 16) < (tab8.length : Int))], .int true .i64 (IntKind.i64.wrap (((48 : Nat) : Int) + IntKind.i64.wrap (tab8.getD (IntKind.u8.wrap (ishr .u64 (ishr .u64 x 32) 16)).toNat 0)))) := by kernel_rfl
theorem len_tft (x : Int) : res ((funcA Try.prog qAll h0 100 104 [.int true .u64 x] []).go [true, false, true]) =
    some ([decide (x ≥ 4294967296), !decide ((ishr .u64 x 32) ≥ 65536), decide ((ishr .u64 x 32) ≥ 256), decide (0 ≤ IntKind.u8.wrap (ishr .u64 (ishr .u64 x 32) 8)) && decide (IntKind.u8.wrap (ishr .u64 (ishr .u64 x 32) 8) < (tab8.length : Int))], .int true .i64 (IntKind.i64.wrap (((40 : Nat) : Int) + IntKind.i64.wrap (tab8.getD (IntKind.u8.wrap (ishr .u64 (ishr .u64 x 32) 8)).toNat 0)))) := by kernel_rfl
theorem len_tff (x : Int) : res ((funcA Try.prog qAll h0 100 104 [.int true .u64 x] []).go [true, false, false]) =
    some ([decide (x ≥ 4294967296), !decide ((ishr .u64 x 32) ≥ 65536), !decide ((ishr .u64 x 32) ≥ 256), decide (0 ≤ IntKind.u8.wrap (ishr .u64 x 32)) && decide (IntKind.u8.wrap (ishr .u64 x 32) < (tab8.length : Int))], .int true .i64 (IntKind.i64.wrap (((32 : Nat) : Int) + IntKind.i64.wrap (tab8.getD (IntKind.u8.wrap (ishr .u64 x 32)).toNat 0)))) := by kernel_rfl
theorem len_ftt (x : Int) : res ((funcA Try.prog qAll h0 100 104 [.int true .u64 x] []).go [false, true, true]) =
    some ([!decide (x ≥ 4294967296), decide (x ≥ 65536), decide ((ishr .u64 x 16) ≥ 256), decide (0 ≤ IntKind.u8.wrap (ishr .u64 (ishr .u64 x 16) 8)) && decide (IntKind.u8.wrap (ishr .u64 (ishr .u64 x 16) 8) < (tab8.length : Int))], .int true .i64 (IntKind.i64.wrap (((24 : Nat) : Int) + IntKind.i64.wrap (tab8.getD (IntKind.u8.wrap (ishr .u64 (ishr .u64 x 16) 8)).toNat 0)))) := by kernel_rfl
theorem len_ftf (x : Int) : res ((funcA Try.prog qAll h0 100 104 [.int true .u64 x] []).go [false, true, false]) =
    some ([!decide (x ≥ 4294967296), decide (x ≥ 65536), !decide ((ishr .u64 x 16) ≥ 256), decide (0 ≤ IntKind.u8.wrap (ishr .u64 x 16)) && decide (IntKind.u8.wrap (ishr .u64 x 16) < (tab8.length : Int))], .int true .i64 (IntKind.i64.wrap (((16 : Nat) : Int) + IntKind.i64.wrap (tab8.getD (IntKind.u8.wrap (ishr .u64 x 16)).toNat 0)))) := by kernel_rfl
theorem len_fft (x : Int) : res ((funcA Try.prog qAll h0 100 104 [.int true .u64 x] []).go [false, false, true]) =
    some ([!decide (x ≥ 4294967296), !decide (x ≥ 65536), decide (x ≥ 256), decide (0 ≤ IntKind.u8.wrap (ishr .u64 x 8)) && decide (IntKind.u8.wrap (ishr .u64 x 8) < (tab8.length : Int))], .int true .i64 (IntKind.i64.wrap (((8 : Nat) : Int) + IntKind.i64.wrap (tab8.getD (IntKind.u8.wrap (ishr .u64 x 8)).toNat 0)))) := by kernel_rfl
theorem len_fff (x : Int) : res ((funcA Try.prog qAll h0 100 104 [.int true .u64 x] []).go [false, false, false]) =
    some ([!decide (x ≥ 4294967296), !decide (x ≥ 65536), !decide (x ≥ 256), decide (0 ≤ IntKind.u8.wrap x) && decide (IntKind.u8.wrap x < (tab8.length : Int))], .int true .i64 (IntKind.i64.wrap (((0 : Nat) : Int) + IntKind.i64.wrap (tab8.getD (IntKind.u8.wrap x).toNat 0)))) := by kernel_rfl
def lenS : List AV → E AV
  | [.int _ .u64 x] => some ([], .int true .i64 (blen x))
  | _ => none
theorem ge_true {x y : Int} (h : x ≥ y) : decide (x ≥ y) = true := decide_eq_true h
theorem ge_false {x y : Int} (h : ¬ x ≥ y) : (!decide (x ≥ y)) = true := by rw [decide_eq_false h]; rfl
theorem len_ok {args : List AV} {o : List Bool} {v : AV} (h : lenS args = some (o, v)) : PureCall Try.prog 104 args v := by
  unfold lenS at h
  split at h
  · rename_i s x
    cases h
    intro ρ N vs ha
    cases ha with
    | cons _ _ _ _ r0 hb =>
      cases hb
      have wx := int_arg r0
      obtain ⟨x0, x1⟩ := wx
      have ha' := Reps.cons _ _ _ _ (remark r0) (.nil (ρ := ρ) (N := N))
      have s32 : ishr .u64 x 32 = x / 2 ^ 32 := ishr_eq (r := 32) (by simp [IntKind.bits])
      have s16 : ishr .u64 x 16 = x / 2 ^ 16 := ishr_eq (r := 16) (by simp [IntKind.bits])
      have s8 : ishr .u64 x 8 = x / 2 ^ 8 := ishr_eq (r := 8) (by simp [IntKind.bits])
      have s3216 : ishr .u64 (ishr .u64 x 32) 16 = x / 2 ^ 48 := shr_shr 32 16 (by omega) (by omega)
      have s328 : ishr .u64 (ishr .u64 x 32) 8 = x / 2 ^ 40 := shr_shr 32 8 (by omega) (by omega)
      have s168 : ishr .u64 (ishr .u64 x 16) 8 = x / 2 ^ 24 := shr_shr 16 8 (by omega) (by omega)
      have s32168 : ishr .u64 (ishr .u64 (ishr .u64 x 32) 16) 8 = x / 2 ^ 56 := by
        rw [s3216]
        have : ishr .u64 (x / 2 ^ 48) 8 = x / 2 ^ 48 / 2 ^ 8 := ishr_eq (r := 8) (by simp [IntKind.bits])
        rw [this, Int.ediv_ediv_of_nonneg (Int.le_of_lt (Int.pow_pos (by omega))), ← Int.pow_add]
      have s0 : x = x / 2 ^ 0 := by rw [Int.pow_zero, Int.ediv_one]
      by_cases h32 : x ≥ 4294967296
      · by_cases h16 : x / 2 ^ 32 ≥ 65536
        · by_cases h8 : x / 2 ^ 48 ≥ 256
          · have ev := len_ttt x
            rw [s32168, s3216, s32] at ev
            obtain ⟨t1, t2⟩ := tab_leaf (x := x) (k := 56) (by omega) (by omega) (by omega) (Or.inr (by omega))
            exact pure_of_go mixed noCount h0_ok [true, true, true] (by kernel_rfl) ev (paid_cons (ge_true h32) (paid_cons (ge_true h16) (paid_cons (ge_true h8) (paid_cons t1 Paid.nil)))) (by rw [t2]) (by kernel_rfl) ha'
          · have ev := len_ttf x
            rw [s3216, s32] at ev
            obtain ⟨t1, t2⟩ := tab_leaf (x := x) (k := 48) (by omega) (by omega) (by omega) (Or.inr (by omega))
            exact pure_of_go mixed noCount h0_ok [true, true, false] (by kernel_rfl) ev (paid_cons (ge_true h32) (paid_cons (ge_true h16) (paid_cons (ge_false h8) (paid_cons t1 Paid.nil)))) (by rw [t2]) (by kernel_rfl) ha'
        · by_cases h8 : x / 2 ^ 32 ≥ 256
          · have ev := len_tft x
            rw [s328, s32] at ev
            obtain ⟨t1, t2⟩ := tab_leaf (x := x) (k := 40) (by omega) (by omega) (by omega) (Or.inr (by omega))
            exact pure_of_go mixed noCount h0_ok [true, false, true] (by kernel_rfl) ev (paid_cons (ge_true h32) (paid_cons (ge_false h16) (paid_cons (ge_true h8) (paid_cons t1 Paid.nil)))) (by rw [t2]) (by kernel_rfl) ha'
          · have ev := len_tff x
            rw [s32] at ev
            obtain ⟨t1, t2⟩ := tab_leaf (x := x) (k := 32) (by omega) (by omega) (by omega) (Or.inr (by omega))
            exact pure_of_go mixed noCount h0_ok [true, false, false] (by kernel_rfl) ev (paid_cons (ge_true h32) (paid_cons (ge_false h16) (paid_cons (ge_false h8) (paid_cons t1 Paid.nil)))) (by rw [t2]) (by kernel_rfl) ha'
      · by_cases h16 : x ≥ 65536
        · by_cases h8 : x / 2 ^ 16 ≥ 256
          · have ev := len_ftt x
            rw [s168, s16] at ev
            obtain ⟨t1, t2⟩ := tab_leaf (x := x) (k := 24) (by omega) (by omega) (by omega) (Or.inr (by omega))
            exact pure_of_go mixed noCount h0_ok [false, true, true] (by kernel_rfl) ev (paid_cons (ge_false h32) (paid_cons (ge_true h16) (paid_cons (ge_true h8) (paid_cons t1 Paid.nil)))) (by rw [t2]) (by kernel_rfl) ha'
          · have ev := len_ftf x
            rw [s16] at ev
            obtain ⟨t1, t2⟩ := tab_leaf (x := x) (k := 16) (by omega) (by omega) (by omega) (Or.inr (by omega))
            exact pure_of_go mixed noCount h0_ok [false, true, false] (by kernel_rfl) ev (paid_cons (ge_false h32) (paid_cons (ge_true h16) (paid_cons (ge_false h8) (paid_cons t1 Paid.nil)))) (by rw [t2]) (by kernel_rfl) ha'
        · by_cases h8 : x ≥ 256
          · have ev := len_fft x
            rw [s8] at ev
            obtain ⟨t1, t2⟩ := tab_leaf (x := x) (k := 8) (by omega) (by omega) (by omega) (Or.inr (by omega))
            exact pure_of_go mixed noCount h0_ok [false, false, true] (by kernel_rfl) ev (paid_cons (ge_false h32) (paid_cons (ge_false h16) (paid_cons (ge_true h8) (paid_cons t1 Paid.nil)))) (by rw [t2]) (by kernel_rfl) ha'
          · have ev := len_fff x
            obtain ⟨t1, t2⟩ := tab_leaf (x := x) (k := 0) (by omega) (by rw [← s0]; exact x0) (by rw [← s0]; omega) (Or.inl rfl)
            rw [← s0] at t1 t2
            exact pure_of_go mixed noCount h0_ok [false, false, false] (by kernel_rfl) ev (paid_cons (ge_false h32) (paid_cons (ge_false h16) (paid_cons (ge_false h8) (paid_cons t1 Paid.nil)))) (by rw [t2]) (by kernel_rfl) ha'
  · cases h
def hr1 : CallH := withC 104 lenS hm1
theorem hr1_ok : HOk Try.prog hr1 := hm1_ok.withC fun _ _ _ h _ => len_ok h
def lzS : List AV → E AV
  | [.int _ .u64 x] => some ([decide (0 < x)], .int true .i64 (64 - blen x))
  | _ => none
def lz0 : List AV → E AV
  | [.int _ .u64 x] => some ([decide (9223372036854775808 ≤ x)], .int false .i64 0)
  | _ => none
theorem lz_eval (x : Int) : res (funcA Try.prog qAll hr1 100 100 [.int true .u64 x] []) = some ([], .int true .i64 (IntKind.i64.wrap (64 - blen x))) := by kernel_rfl
theorem blen_word {x : Int} (h : W x) (h0 : 0 < x) : 1 ≤ blen x ∧ blen x ≤ 64 := by
  obtain ⟨n, e, h1, h2⟩ := blen_spec h0
  obtain ⟨g1, g2⟩ := h
  have : n < 64 := by
    rcases Nat.lt_or_ge n 64 with h8 | h8
    · exact h8
    · have : (2 : Int) ^ 64 ≤ 2 ^ n := by exact_mod_cast Nat.pow_le_pow_right (by omega : 0 < 2) h8
      have h256 : (2 : Int) ^ 64 = 18446744073709551616 := rfl
      omega
  omega
theorem lz_ok {args : List AV} {o : List Bool} {v : AV} (h : lzS args = some (o, v)) (ho : Paid o) : PureCall Try.prog 100 args v := by
  unfold lzS at h
  split at h
  · rename_i s x
    cases h
    have h1 := ho _ (List.mem_cons_self ..)
    rw [decide_eq_true_eq] at h1
    intro ρ N vs ha
    cases ha with
    | cons _ _ _ _ r0 hb =>
      cases hb
      have hb := blen_word (int_arg r0) h1
      have hw : IntKind.i64.wrap (64 - blen x) = 64 - blen x := w64_id (by omega)
      exact pure_of_res mixed noCount hr1_ok (by kernel_rfl) (lz_eval x) Paid.nil (by rw [hw]) (by kernel_rfl) (.cons _ _ _ _ (remark r0) .nil)
  · cases h
theorem unmarkI {k : IntKind} {n m : Int} (hnm : n = m) {ρ ρ' : Nat → Loc3} {N N' : Nat → Prop} {u : Value} (h : Rep ρ N (.int true k n) u) : Rep ρ' N' (.int false k m) u := by
  subst hnm; cases h with | int _ _ _ h => exact .int _ _ _ h
theorem lz0_ok {args : List AV} {o : List Bool} {v : AV} (h : lz0 args = some (o, v)) (ho : Paid o) : PureCall Try.prog 100 args v := by
  unfold lz0 at h
  split at h
  · rename_i s x
    cases h
    have h1 := ho _ (List.mem_cons_self ..)
    rw [decide_eq_true_eq] at h1
    intro ρ N vs ha
    cases ha with
    | cons _ _ _ _ r0 hb =>
      cases hb
      have hx := int_arg r0
      obtain ⟨x0, x1⟩ := hx
      have hb : blen x = (63 : Nat) + 1 := blen_of (by simpa using h1) (by simpa using x1)
      have hw : IntKind.i64.wrap (64 - blen x) = 0 := by rw [hb]; decide
      exact pure_of_resX mixed noCount hr1_ok (by kernel_rfl) (lz_eval x) Paid.nil (unmarkI hw) (.cons _ _ _ _ (remark r0) .nil)
  · cases h
end Go.Proofs.Ytfmgodgakndjcaa
