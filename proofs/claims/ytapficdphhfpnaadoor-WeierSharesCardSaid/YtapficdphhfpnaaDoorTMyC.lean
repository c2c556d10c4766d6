/- What weier's package variables hold. Own work. -/
import Derived.Test.YtapficdphhfpnaaDoorTEvLoop
import Derived.Test.YtapficdphhfpnaaDoorTEvLaw
import Derived.Test.YtapficdphhfpnaaDoorRows
import Derived.Test.YtapficdphhfpnaaDoorTWordsN
set_option linter.unusedSimpArgs false
set_option linter.unusedVariables false
set_option linter.unusedSectionVars false
namespace Go.Ev
def primeL : List Int := [18446744073709551615, 4294967295, 0, 18446744069414584321]
def orderL : List Int := [17562291160714782033, 13611842547513532036, 18446744073709551615, 18446744069414584320]
def curveL : List Int := [4309448131093880907, 7285987128567378166, 12964664127075681980, 6540974713487397863]
def baseX : List Int := [17627433388654248598, 8575836109218198432, 17923454489921339634, 7716867327612699207]
def baseY : List Int := [14678990851816772085, 3156516839386865358, 10297457778147434006, 5756518291402817435]
def baseC : List AV := (baseX.map fun z => AV.int true .u64 z) ++ (baseY.map fun z => AV.int true .u64 z) ++ [.bool true false]
instance tabM : Tab := ⟨fun g => match Nat.beq g 1 with
  | true => some (.ints .u64 (some 4) primeL)
  | false => match Nat.beq g 2 with
    | true => some (.ints .u64 (some 4) orderL)
    | false => match Nat.beq g 3 with
      | true => some (.ints .u64 (some 4) curveL)
      | false => match Nat.beq g 0 with
        | true => some (.vals baseC)
        | false => none⟩
end Go.Ev
namespace Go.Proofs.YtapficdphhfpnaaDoor
open Go.Ev
set_option maxRecDepth 100000

def addX : List AV → E AV
  | [.int _ .u64 x, .int _ .u64 y, .int _ .u64 c] => some ([decide (c ≤ 1)], .tuple [.int true .u64 ((x + y + c) % 18446744073709551616), .int true .u64 ((x + y + c) / 18446744073709551616)])
  | _ => none
def subX : List AV → E AV
  | [.int _ .u64 x, .int _ .u64 y, .int _ .u64 c] => some ([decide (c ≤ 1)], .tuple [.int true .u64 ((x - y - c) % 18446744073709551616), .int true .u64 (if x < y + c then 1 else 0)])
  | _ => none

def subEntry : Array Value → Sem Value := fun args => do
    let (x, y, b) ← Extern.MathBitsCarry.three "Sub64" args
    pure (Extern.MathBitsCarry.pair ((x + Extern.MathBitsCarry.m64 - y - b) % Extern.MathBitsCarry.m64) (if x < y + b then 1 else 0))

theorem run_sub {P : Program} (x y c : Int) (hx : 0 ≤ x ∧ x ≤ 18446744073709551615) (hy : 0 ≤ y ∧ y ≤ 18446744073709551615) (hc0 : 0 ≤ c) (hc : c ≤ 1) (w : World) :
    (subEntry #[.int .u64 x, .int .u64 y, .int .u64 c]).run P w =
      .ok (.tuple #[.int .u64 ((x - y - c) % 18446744073709551616), .int .u64 (if x < y + c then 1 else 0)]) w := by
  have key : ∀ k : Nat, k ≤ 1 → (subEntry #[.int .u64 x, .int .u64 y, .int .u64 (k : Int)]).run P w =
      .ok (Extern.MathBitsCarry.pair ((x.toNat + Extern.MathBitsCarry.m64 - y.toNat - k) % Extern.MathBitsCarry.m64) (if x.toNat < y.toNat + k then 1 else 0)) w := by
    intro k hk
    have : k = 0 ∨ k = 1 := by omega
    rcases this with rfl | rfl <;> rfl
  obtain ⟨k, rfl⟩ := Int.eq_ofNat_of_zero_le hc0
  rw [key k (by omega)]
  obtain ⟨X, rfl⟩ := Int.eq_ofNat_of_zero_le hx.1
  obtain ⟨Y, rfl⟩ := Int.eq_ofNat_of_zero_le hy.1
  simp only [Extern.MathBitsCarry.pair, Extern.MathBitsCarry.m64, Int.toNat_natCast]
  have e1 : Int.ofNat ((X + 2 ^ 64 - Y - k) % 2 ^ 64) = ((X : Int) - Y - k) % 18446744073709551616 := by
    show (((X + 2 ^ 64 - Y - k) % 2 ^ 64 : Nat) : Int) = _
    omega
  have e2 : Int.ofNat (if X < Y + k then 1 else 0) = (if (X : Int) < Y + k then 1 else 0) := by
    by_cases h : X < Y + k
    · rw [if_pos h, if_pos (by omega)]; rfl
    · rw [if_neg h, if_neg (by omega)]; rfl
  rw [e1, e2]

theorem add64_ok {args : List AV} {o : List Bool} {v : AV} (h : addX args = some (o, v)) (ho : Paid o) : PureCall Tryd.prog 67 args v := by
  unfold addX at h
  split at h
  · rename_i s1 x s2 y s3 c
    cases h
    have hc := ho _ (List.mem_cons_self ..)
    simp only [decide_eq_true_eq] at hc
    intro ρ N vs ha w hT
    cases ha with
    | cons _ _ v1 _ r1 ha => cases ha with
      | cons _ _ v2 _ r2 ha => cases ha with
        | cons _ _ v3 _ r3 ha => cases ha with
          | nil => cases r1 with
            | int _ _ _ h1 => cases r2 with
              | int _ _ _ h2 => cases r3 with
                | int _ _ _ h3 =>
                  rw [inR_iff] at h1 h2 h3
                  simp only [lo, hi] at h1 h2 h3
                  refine callRun_extern (fn := Tryd.f67) (e := add64Entry) (by kernel_rfl) (by kernel_rfl) (by kernel_rfl) (by kernel_rfl) (by kernel_rfl) (run_add64 x y c h1.1 h2.1 h3.1 hc w) ⟨fun ρ N => ?_, Inv.same w hT⟩
                  exact .tuple _ [_, _] (.cons _ _ _ _ (.int _ _ _ (by rw [inR_iff]; simp only [lo, hi]; omega)) (.cons _ _ _ _ (.int _ _ _ (by rw [inR_iff]; simp only [lo, hi]; omega)) .nil))
  · cases h

theorem sub64_ok {args : List AV} {o : List Bool} {v : AV} (h : subX args = some (o, v)) (ho : Paid o) : PureCall Tryd.prog 83 args v := by
  unfold subX at h
  split at h
  · rename_i s1 x s2 y s3 c
    cases h
    have hc := ho _ (List.mem_cons_self ..)
    simp only [decide_eq_true_eq] at hc
    intro ρ N vs ha w hT
    cases ha with
    | cons _ _ v1 _ r1 ha => cases ha with
      | cons _ _ v2 _ r2 ha => cases ha with
        | cons _ _ v3 _ r3 ha => cases ha with
          | nil => cases r1 with
            | int _ _ _ h1 => cases r2 with
              | int _ _ _ h2 => cases r3 with
                | int _ _ _ h3 =>
                  rw [inR_iff] at h1 h2 h3
                  simp only [lo, hi] at h1 h2 h3
                  refine callRun_extern (fn := Tryd.f83) (e := subEntry) (by kernel_rfl) (by kernel_rfl) (by kernel_rfl) (by kernel_rfl) (by kernel_rfl) (run_sub x y c h1 h2 h3.1 hc w) ⟨fun ρ N => ?_, Inv.same w hT⟩
                  exact .tuple _ [_, _] (.cons _ _ _ _ (.int _ _ _ (by rw [inR_iff]; simp only [lo, hi]; omega)) (.cons _ _ _ _ (.int _ _ _ (by rw [inR_iff]; simp only [lo, hi]; split <;> omega)) .nil))
  · cases h

theorem mixed : Tryd.prog.follows .mixedOrders = true := by kernel_rfl
theorem noCount : Go.Ev.noCount Tryd.prog = true := by kernel_rfl
def h0 : CallH := withC 83 subX (withC 67 addX (fun _ _ _ => none))
theorem h0_ok : HOk Tryd.prog h0 := (HOk.none.withC fun _ _ _ h ho => add64_ok h ho).withC fun _ _ _ h ho => sub64_ok h ho
end Go.Proofs.YtapficdphhfpnaaDoor
namespace Go.Proofs.YtapficdphhfpnaaDoor
open Go.Ev Go.Wn
set_option maxRecDepth 100000

theorem inR_W {x : Int} (h : inR .u64 x = true) : W x := by rw [inR_iff] at h; simp only [lo, hi] at h; unfold W; omega
theorem four {l : List Int} (h : l.length = 4) : ∃ a b c d, l = [a, b, c, d] := by
  match l, h with
  | [a, b, c, d], _ => exact ⟨a, b, c, d, rfl⟩
/-- An argument that is a number of four words. -/
theorem num_arg {ρ : Nat → Loc3} {N : Nat → Prop} {l : List Int} {v : Value} (h : Rep ρ N (.ints .u64 4 l) v) : ∃ a b c d, l = [a, b, c, d] ∧ W a ∧ W b ∧ W c ∧ W d := by
  cases h with
  | ints _ _ _ hn hl =>
    obtain ⟨a, b, c, d, rfl⟩ := four hn
    exact ⟨a, b, c, d, rfl, inR_W (hl a (by simp)), inR_W (hl b (by simp)), inR_W (hl c (by simp)), inR_W (hl d (by simp))⟩

def qAll : FuncId → Bool := fun f => !Nat.beq f 1000000000
-- words.Add
def addS : List AV → E AV
  | [.ints .u64 4 a, .ints .u64 4 b] => some ([], .tuple [.ints .u64 4 (limbs (val a + val b)), .int true .u64 ((val a + val b) / 115792089237316195423570985008687907853269984665640564039457584007913129639936)])
  | _ => none
theorem add_eval (a0 a1 a2 a3 b0 b1 b2 b3 : Int) : res (funcA Tryd.prog qAll h0 100 82 [.ints .u64 4 [a0, a1, a2, a3], .ints .u64 4 [b0, b1, b2, b3]] []) =
    some ([decide ((0 : Int) ≤ 1), decide (cy a0 b0 0 ≤ 1), decide (cy a1 b1 (cy a0 b0 0) ≤ 1), decide (cy a2 b2 (cy a1 b1 (cy a0 b0 0)) ≤ 1)],
      .tuple [.ints .u64 4 [sm a0 b0 0, sm a1 b1 (cy a0 b0 0), sm a2 b2 (cy a1 b1 (cy a0 b0 0)), sm a3 b3 (cy a2 b2 (cy a1 b1 (cy a0 b0 0)))], .int true .u64 (cy a3 b3 (cy a2 b2 (cy a1 b1 (cy a0 b0 0))))]) := by kernel_rfl
theorem add_ok {args : List AV} {o : List Bool} {v : AV} (h : addS args = some (o, v)) : PureCall Tryd.prog 82 args v := by
  unfold addS at h
  split at h
  · rename_i a b
    cases h
    intro ρ N vs ha
    have hb := ha
    cases hb with
    | cons _ _ _ _ r1 hb => cases hb with
      | cons _ _ _ _ r2 hb =>
        obtain ⟨a0, a1, a2, a3, rfl, wa0, wa1, wa2, wa3⟩ := num_arg r1
        obtain ⟨b0, b1, b2, b3, rfl, wb0, wb1, wb2, wb3⟩ := num_arg r2
        obtain ⟨k1, k2, k3, k4, k5⟩ := add_chain wa0 wa1 wa2 wa3 wb0 wb1 wb2 wb3
        exact pure_of_res mixed noCount h0_ok (by kernel_rfl) (add_eval a0 a1 a2 a3 b0 b1 b2 b3)
          (paid_cons (by kernel_rfl) (paid_cons (decide_eq_true k3) (paid_cons (decide_eq_true k4) (paid_cons (decide_eq_true k5) Paid.nil)))) (by rw [k1, k2]) (by kernel_rfl) ha
  · cases h

-- words.Sub
def subS : List AV → E AV
  | [.ints .u64 4 a, .ints .u64 4 b] => some ([], .tuple [.ints .u64 4 (limbs (val a - val b)), .int true .u64 (if val a < val b then 1 else 0)])
  | _ => none
theorem sub_eval (a0 a1 a2 a3 b0 b1 b2 b3 : Int) : res (funcA Tryd.prog qAll h0 100 70 [.ints .u64 4 [a0, a1, a2, a3], .ints .u64 4 [b0, b1, b2, b3]] []) =
    some ([decide ((0 : Int) ≤ 1), decide (bw a0 b0 0 ≤ 1), decide (bw a1 b1 (bw a0 b0 0) ≤ 1), decide (bw a2 b2 (bw a1 b1 (bw a0 b0 0)) ≤ 1)],
      .tuple [.ints .u64 4 [df a0 b0 0, df a1 b1 (bw a0 b0 0), df a2 b2 (bw a1 b1 (bw a0 b0 0)), df a3 b3 (bw a2 b2 (bw a1 b1 (bw a0 b0 0)))], .int true .u64 (bw a3 b3 (bw a2 b2 (bw a1 b1 (bw a0 b0 0))))]) := by kernel_rfl
theorem sub_ok {args : List AV} {o : List Bool} {v : AV} (h : subS args = some (o, v)) : PureCall Tryd.prog 70 args v := by
  unfold subS at h
  split at h
  · rename_i a b
    cases h
    intro ρ N vs ha
    have hb := ha
    cases hb with
    | cons _ _ _ _ r1 hb => cases hb with
      | cons _ _ _ _ r2 hb =>
        obtain ⟨a0, a1, a2, a3, rfl, wa0, wa1, wa2, wa3⟩ := num_arg r1
        obtain ⟨b0, b1, b2, b3, rfl, wb0, wb1, wb2, wb3⟩ := num_arg r2
        obtain ⟨k1, k2, k3, k4, k5⟩ := sub_chain wa0 wa1 wa2 wa3 wb0 wb1 wb2 wb3
        exact pure_of_res mixed noCount h0_ok (by kernel_rfl) (sub_eval a0 a1 a2 a3 b0 b1 b2 b3)
          (paid_cons (by kernel_rfl) (paid_cons (decide_eq_true k3) (paid_cons (decide_eq_true k4) (paid_cons (decide_eq_true k5) Paid.nil)))) (by rw [k1, k2]) (by kernel_rfl) ha
  · cases h

def h1 : CallH := withC 70 subS (withC 82 addS h0)
theorem h1_ok : HOk Tryd.prog h1 := (h0_ok.withC fun _ _ _ h _ => add_ok h).withC fun _ _ _ h _ => sub_ok h

-- words.Less
def lessS : List AV → E AV
  | [.ints .u64 4 a, .ints .u64 4 b] => some ([], .bool true (decide (val a < val b)))
  | _ => none
theorem less_eval (a b : List Int) : res (funcA Tryd.prog qAll h1 100 45 [.ints .u64 4 a, .ints .u64 4 b] []) =
    some ([], .bool true ((if val a < val b then (1 : Int) else 0) == 1)) := by kernel_rfl
theorem less_ok {args : List AV} {o : List Bool} {v : AV} (h : lessS args = some (o, v)) : PureCall Tryd.prog 45 args v := by
  unfold lessS at h
  split at h
  · rename_i a b
    cases h
    exact pure_of_res mixed noCount h1_ok (by kernel_rfl) (less_eval a b) Paid.nil (by rw [show ((if val a < val b then (1 : Int) else 0) == 1) = decide (val a < val b) by split <;> simp [*]]) (by kernel_rfl)
  · cases h

def h2 : CallH := withC 45 lessS h1
theorem h2_ok : HOk Tryd.prog h2 := h1_ok.withC fun _ _ _ h _ => less_ok h
end Go.Proofs.YtapficdphhfpnaaDoor
