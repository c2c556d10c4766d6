/- What the functions of layer 1 answer: sums, differences, which is less, the anchor. Own work. -/
import Derived.Test.YtdpaedcgbhlibaaWordsX
import Derived.Test.YtdpaedcgbhlibaaWordsN
namespace Go.Proofs.Ytdpaedcgbhlibaa
open Go.Ev Go.Wn
set_option maxRecDepth 100000

theorem inR_W {x : Int} (h : inR .u64 x = true) : W x := by rw [inR_iff] at h; simp only [lo, hi] at h; unfold W; omega
theorem W_inR {x : Int} (h : W x) : inR .u64 x = true := by rw [inR_iff]; simp only [lo, hi]; unfold W at h; omega
theorem four {l : List Int} (h : l.length = 4) : ∃ a b c d, l = [a, b, c, d] := by
  match l, h with
  | [a, b, c, d], _ => exact ⟨a, b, c, d, rfl⟩
/-- An argument that is a number of four words. -/
theorem num_arg {ρ : Nat → Loc3} {N : Nat → Prop} {l : List Int} {v : Value} (h : Rep ρ N (.ints .u64 4 l) v) : ∃ a b c d, l = [a, b, c, d] ∧ W a ∧ W b ∧ W c ∧ W d := by
  cases h with
  | ints _ _ _ hn hl =>
    obtain ⟨a, b, c, d, rfl⟩ := four hn
    exact ⟨a, b, c, d, rfl, inR_W (hl a (by simp)), inR_W (hl b (by simp)), inR_W (hl c (by simp)), inR_W (hl d (by simp))⟩

def qAll : FuncId → Bool := fun f => !Nat.beq f 1000000000
def qAsm : FuncId → Bool := fun _ => true
theorem paidL {o : List Bool} (h : ∀ p ∈ o, p = true) : Paid o := h

-- words.Add
def addS : List AV → E AV
  | [.ints .u64 4 a, .ints .u64 4 b] => some ([], .tuple [.ints .u64 4 (limbs (val a + val b)), .int true .u64 ((val a + val b) / 115792089237316195423570985008687907853269984665640564039457584007913129639936)])
  | _ => none
theorem add_eval (a0 a1 a2 a3 b0 b1 b2 b3 : Int) : res (funcA Try.prog qAll h0 100 16 [.ints .u64 4 [a0, a1, a2, a3], .ints .u64 4 [b0, b1, b2, b3]] []) =
    some ([decide ((0 : Int) ≤ 1), decide (cy a0 b0 0 ≤ 1), decide (cy a1 b1 (cy a0 b0 0) ≤ 1), decide (cy a2 b2 (cy a1 b1 (cy a0 b0 0)) ≤ 1)],
      .tuple [.ints .u64 4 [sm a0 b0 0, sm a1 b1 (cy a0 b0 0), sm a2 b2 (cy a1 b1 (cy a0 b0 0)), sm a3 b3 (cy a2 b2 (cy a1 b1 (cy a0 b0 0)))], .int true .u64 (cy a3 b3 (cy a2 b2 (cy a1 b1 (cy a0 b0 0))))]) := by kernel_rfl
theorem add_ok {args : List AV} {o : List Bool} {v : AV} (h : addS args = some (o, v)) : PureCall Try.prog 16 args v := by
  unfold addS at h
  split at h
  · rename_i a b
    cases h
    intro ρ N vs ha
    have hb := ha
    cases hb with
    | cons _ _ _ _ r1 hb => cases hb with
      | cons _ _ _ _ r2 hb =>
        obtain ⟨a0, a1, a2, a3, rfl, wa0, wa1, wa2, wa3⟩ := num_arg r1
        obtain ⟨b0, b1, b2, b3, rfl, wb0, wb1, wb2, wb3⟩ := num_arg r2
        obtain ⟨k1, k2, k3, k4, k5⟩ := add_chain wa0 wa1 wa2 wa3 wb0 wb1 wb2 wb3
        exact pure_of_res mixed noCount h0_ok (by kernel_rfl) (add_eval a0 a1 a2 a3 b0 b1 b2 b3)
          (paid_cons (by kernel_rfl) (paid_cons (decide_eq_true k3) (paid_cons (decide_eq_true k4) (paid_cons (decide_eq_true k5) Paid.nil)))) (by rw [k1, k2]) (by kernel_rfl) ha
  · cases h

-- words.Sub
def subS : List AV → E AV
  | [.ints .u64 4 a, .ints .u64 4 b] => some ([], .tuple [.ints .u64 4 (limbs (val a - val b)), .int true .u64 (if val a < val b then 1 else 0)])
  | _ => none
theorem sub_eval (a0 a1 a2 a3 b0 b1 b2 b3 : Int) : res (funcA Try.prog qAll h0 100 18 [.ints .u64 4 [a0, a1, a2, a3], .ints .u64 4 [b0, b1, b2, b3]] []) =
    some ([decide ((0 : Int) ≤ 1), decide (bw a0 b0 0 ≤ 1), decide (bw a1 b1 (bw a0 b0 0) ≤ 1), decide (bw a2 b2 (bw a1 b1 (bw a0 b0 0)) ≤ 1)],
      .tuple [.ints .u64 4 [df a0 b0 0, df a1 b1 (bw a0 b0 0), df a2 b2 (bw a1 b1 (bw a0 b0 0)), df a3 b3 (bw a2 b2 (bw a1 b1 (bw a0 b0 0)))], .int true .u64 (bw a3 b3 (bw a2 b2 (bw a1 b1 (bw a0 b0 0))))]) := by kernel_rfl
theorem sub_ok {args : List AV} {o : List Bool} {v : AV} (h : subS args = some (o, v)) : PureCall Try.prog 18 args v := by
  unfold subS at h
  split at h
  · rename_i a b
    cases h
    intro ρ N vs ha
    have hb := ha
    cases hb with
    | cons _ _ _ _ r1 hb => cases hb with
      | cons _ _ _ _ r2 hb =>
        obtain ⟨a0, a1, a2, a3, rfl, wa0, wa1, wa2, wa3⟩ := num_arg r1
        obtain ⟨b0, b1, b2, b3, rfl, wb0, wb1, wb2, wb3⟩ := num_arg r2
        obtain ⟨k1, k2, k3, k4, k5⟩ := sub_chain wa0 wa1 wa2 wa3 wb0 wb1 wb2 wb3
        exact pure_of_res mixed noCount h0_ok (by kernel_rfl) (sub_eval a0 a1 a2 a3 b0 b1 b2 b3)
          (paid_cons (by kernel_rfl) (paid_cons (decide_eq_true k3) (paid_cons (decide_eq_true k4) (paid_cons (decide_eq_true k5) Paid.nil)))) (by rw [k1, k2]) (by kernel_rfl) ha
  · cases h

def h1 : CallH := withC 18 subS (withC 16 addS h0)
theorem h1_ok : HOk Try.prog h1 := (h0_ok.withC fun _ _ _ h _ => add_ok h).withC fun _ _ _ h _ => sub_ok h

-- words.Less
def lessS : List AV → E AV
  | [.ints .u64 4 a, .ints .u64 4 b] => some ([], .bool true (decide (val a < val b)))
  | _ => none
theorem less_eval (a b : List Int) : res (funcA Try.prog qAll h1 100 20 [.ints .u64 4 a, .ints .u64 4 b] []) =
    some ([], .bool true ((if val a < val b then (1 : Int) else 0) == 1)) := by kernel_rfl
theorem less_ok {args : List AV} {o : List Bool} {v : AV} (h : lessS args = some (o, v)) : PureCall Try.prog 20 args v := by
  unfold lessS at h
  split at h
  · rename_i a b
    cases h
    exact pure_of_res mixed noCount h1_ok (by kernel_rfl) (less_eval a b) Paid.nil (by rw [show ((if val a < val b then (1 : Int) else 0) == 1) = decide (val a < val b) by split <;> simp [*]]) (by kernel_rfl)
  · cases h

-- the anchor
theorem sound_eval : resAll (funcA Try.prog qAll (deep Try.prog qAll h0 100 5) 100 15 [] []) = some (true, .bool true true) := by kernel_rfl
def soundS : List AV → E AV
  | [] => some ([], .bool false true)
  | _ => none
theorem sound_ok {args : List AV} {o : List Bool} {v : AV} (h : soundS args = some (o, v)) : PureCall Try.prog 15 args v := by
  unfold soundS at h
  split at h
  · cases h
    exact pure_of_all mixed noCount (h0_ok.deep mixed noCount 100 5) (by kernel_rfl) sound_eval unmark
  · cases h
def h2 : CallH := withC 15 soundS (withC 20 lessS h1)
theorem h2_ok : HOk Try.prog h2 := (h1_ok.withC fun _ _ _ h _ => less_ok h).withC fun _ _ _ h _ => sound_ok h
end Go.Proofs.Ytdpaedcgbhlibaa
