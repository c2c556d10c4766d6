/- The two external functions that layer 1 calls. Own work. -/
import Derived.Test.YtdpaedcgbhlibaaEvLaw
import Derived.Test.YtdpaedcgbhlibaaTab0
import Derived.Test.YtdpaedcgbhlibaaChecked
namespace Go.Proofs.Ytdpaedcgbhlibaa
open Go.Ev

def addX : List AV → E AV
  | [.int _ .u64 x, .int _ .u64 y, .int _ .u64 c] => some ([decide (c ≤ 1)], .tuple [.int true .u64 ((x + y + c) % 18446744073709551616), .int true .u64 ((x + y + c) / 18446744073709551616)])
  | _ => none
def subX : List AV → E AV
  | [.int _ .u64 x, .int _ .u64 y, .int _ .u64 c] => some ([decide (c ≤ 1)], .tuple [.int true .u64 ((x - y - c) % 18446744073709551616), .int true .u64 (if x < y + c then 1 else 0)])
  | _ => none

def subEntry : Array Value → Sem Value := fun args => do
    let (x, y, b) ← Extern.MathBitsCarry.three "Sub64" args
    pure (Extern.MathBitsCarry.pair ((x + Extern.MathBitsCarry.m64 - y - b) % Extern.MathBitsCarry.m64) (if x < y + b then 1 else 0))

theorem run_sub {P : Program} (x y c : Int) (hx : 0 ≤ x ∧ x ≤ 18446744073709551615) (hy : 0 ≤ y ∧ y ≤ 18446744073709551615) (hc0 : 0 ≤ c) (hc : c ≤ 1) (w : World) :
    (subEntry #[.int .u64 x, .int .u64 y, .int .u64 c]).run P w =
      .ok (.tuple #[.int .u64 ((x - y - c) % 18446744073709551616), .int .u64 (if x < y + c then 1 else 0)]) w := by
  have key : ∀ k : Nat, k ≤ 1 → (subEntry #[.int .u64 x, .int .u64 y, .int .u64 (k : Int)]).run P w =
      .ok (Extern.MathBitsCarry.pair ((x.toNat + Extern.MathBitsCarry.m64 - y.toNat - k) % Extern.MathBitsCarry.m64) (if x.toNat < y.toNat + k then 1 else 0)) w := by
    intro k hk
    have : k = 0 ∨ k = 1 := by omega
    rcases this with rfl | rfl <;> rfl
  obtain ⟨k, rfl⟩ := Int.eq_ofNat_of_zero_le hc0
  rw [key k (by omega)]
  obtain ⟨X, rfl⟩ := Int.eq_ofNat_of_zero_le hx.1
  obtain ⟨Y, rfl⟩ := Int.eq_ofNat_of_zero_le hy.1
  simp only [Extern.MathBitsCarry.pair, Extern.MathBitsCarry.m64, Int.toNat_natCast]
  have e1 : Int.ofNat ((X + 2 ^ 64 - Y - k) % 2 ^ 64) = ((X : Int) - Y - k) % 18446744073709551616 := by
    show (((X + 2 ^ 64 - Y - k) % 2 ^ 64 : Nat) : Int) = _
    omega
  have e2 : Int.ofNat (if X < Y + k then 1 else 0) = (if (X : Int) < Y + k then 1 else 0) := by
    by_cases h : X < Y + k
    · rw [if_pos h, if_pos (by omega)]; rfl
    · rw [if_neg h, if_neg (by omega)]; rfl
  rw [e1, e2]

theorem add64_ok {args : List AV} {o : List Bool} {v : AV} (h : addX args = some (o, v)) (ho : Paid o) : PureCall Try.prog 49 args v := by
  unfold addX at h
  split at h
  · rename_i s1 x s2 y s3 c
    cases h
    have hc := ho _ (List.mem_cons_self ..)
    simp only [decide_eq_true_eq] at hc
    intro ρ N vs ha w hT
    cases ha with
    | cons _ _ v1 _ r1 ha => cases ha with
      | cons _ _ v2 _ r2 ha => cases ha with
        | cons _ _ v3 _ r3 ha => cases ha with
          | nil => cases r1 with
            | int _ _ _ h1 => cases r2 with
              | int _ _ _ h2 => cases r3 with
                | int _ _ _ h3 =>
                  rw [inR_iff] at h1 h2 h3
                  simp only [lo, hi] at h1 h2 h3
                  refine callRun_extern (fn := Try.f49) (e := add64Entry) (by kernel_rfl) (by kernel_rfl) (by kernel_rfl) (by kernel_rfl) (by kernel_rfl) (run_add64 x y c h1.1 h2.1 h3.1 hc w) ⟨fun ρ N => ?_, Inv.same w hT⟩
                  exact .tuple _ [_, _] (.cons _ _ _ _ (.int _ _ _ (by rw [inR_iff]; simp only [lo, hi]; omega)) (.cons _ _ _ _ (.int _ _ _ (by rw [inR_iff]; simp only [lo, hi]; omega)) .nil))
  · cases h

theorem sub64_ok {args : List AV} {o : List Bool} {v : AV} (h : subX args = some (o, v)) (ho : Paid o) : PureCall Try.prog 51 args v := by
  unfold subX at h
  split at h
  · rename_i s1 x s2 y s3 c
    cases h
    have hc := ho _ (List.mem_cons_self ..)
    simp only [decide_eq_true_eq] at hc
    intro ρ N vs ha w hT
    cases ha with
    | cons _ _ v1 _ r1 ha => cases ha with
      | cons _ _ v2 _ r2 ha => cases ha with
        | cons _ _ v3 _ r3 ha => cases ha with
          | nil => cases r1 with
            | int _ _ _ h1 => cases r2 with
              | int _ _ _ h2 => cases r3 with
                | int _ _ _ h3 =>
                  rw [inR_iff] at h1 h2 h3
                  simp only [lo, hi] at h1 h2 h3
                  refine callRun_extern (fn := Try.f51) (e := subEntry) (by kernel_rfl) (by kernel_rfl) (by kernel_rfl) (by kernel_rfl) (by kernel_rfl) (run_sub x y c h1 h2 h3.1 hc w) ⟨fun ρ N => ?_, Inv.same w hT⟩
                  exact .tuple _ [_, _] (.cons _ _ _ _ (.int _ _ _ (by rw [inR_iff]; simp only [lo, hi]; omega)) (.cons _ _ _ _ (.int _ _ _ (by rw [inR_iff]; simp only [lo, hi]; split <;> omega)) .nil))
  · cases h

theorem mixed : Try.prog.follows .mixedOrders = true := by kernel_rfl
theorem noCount : Go.Ev.noCount Try.prog = true := by kernel_rfl
def h0 : CallH := withC 51 subX (withC 49 addX (fun _ _ _ => none))
theorem h0_ok : HOk Try.prog h0 := (HOk.none.withC fun _ _ _ h ho => add64_ok h ho).withC fun _ _ _ h ho => sub64_ok h ho
end Go.Proofs.Ytdpaedcgbhlibaa
