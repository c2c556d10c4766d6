/- What the program's functions on bits answer. Own work. -/
import Derived.Test.YtdpaedcgbhlibaaWordsD
import Derived.Test.YtdpaedcgbhlibaaWordsQ
namespace Go.Proofs.Ytdpaedcgbhlibaa
open Go.Ev Go.Wn
set_option maxRecDepth 100000

def pickL (x : Int) (a b : List Int) : List Int := if x % 2 = 1 then a else b
def pickS : List AV → E AV
  | [.int _ .u64 x, .ints .u64 4 a, .ints .u64 4 b] => some ([], .ints .u64 4 (pickL x a b))
  | _ => none
theorem pick_eval (s : Bool) (x a b c d e f g h : Int) : res (funcA Try.prog qAll h0 100 30 [.int s .u64 x, .ints .u64 4 [a, b, c, d], .ints .u64 4 [e, f, g, h]] []) =
    some ([], .ints .u64 4 [pickW x a e, pickW x b f, pickW x c g, pickW x d h]) := by kernel_rfl
theorem pick_ok {args : List AV} {o : List Bool} {v : AV} (h : pickS args = some (o, v)) : PureCall Try.prog 30 args v := by
  unfold pickS at h
  split at h
  · rename_i s x a b
    cases h
    intro ρ N vs ha
    have hb := ha
    cases hb with
    | cons _ _ _ _ r0 hb => cases hb with
      | cons _ _ _ _ r1 hb => cases hb with
        | cons _ _ _ _ r2 hb =>
          have wx : W x := by cases r0 with | int _ _ _ h => exact inR_W h
          obtain ⟨a0, a1, a2, a3, rfl, wa0, wa1, wa2, wa3⟩ := num_arg r1
          obtain ⟨b0, b1, b2, b3, rfl, wb0, wb1, wb2, wb3⟩ := num_arg r2
          exact pure_of_res mixed noCount h0_ok (by kernel_rfl) (pick_eval s x a0 a1 a2 a3 b0 b1 b2 b3) Paid.nil
            (by rw [pickW_spec wx wa0 wb0, pickW_spec wx wa1 wb1, pickW_spec wx wa2 wb2, pickW_spec wx wa3 wb3]; unfold pickL; split <;> rfl) (by kernel_rfl) ha
  · cases h

def bitC (i : Int) : Bool := match decide (i < 0) with | true => true | false => decide (i > 255)
def bitV (l : List Int) (i : Int) : Int := match bitC i with | true => 0 | false => bitP l i
def bitS : List AV → E AV
  | [.ints .u64 4 a, .int _ .i64 i] => some ([], .int true .u64 (bitV a i))
  | _ => none
theorem bit_eval (a b c d i : Int) : (funcA Try.prog qAll h0 100 31 [.ints .u64 4 [a, b, c, d], .int true .i64 i] []).mix =
    some ([!(!decide (i < 0)) || !decide (i < 0), decide (i < 0) || !decide (i < 0), bitC i || (decide (0 ≤ w64 (i.tdiv 64)) && decide (w64 (i.tdiv 64) < ((4 : Nat) : Int))), bitC i || decide (0 + (w64 (i.tdiv 64)).toNat * 1 + 1 ≤ 4), bitC i || !decide (i.tmod 64 < 0)],
      .int true .u64 (bitV [a, b, c, d] i)) := by kernel_rfl
theorem bit_owed (i : Int) : Paid [!(!decide (i < 0)) || !decide (i < 0), decide (i < 0) || !decide (i < 0), bitC i || (decide (0 ≤ w64 (i.tdiv 64)) && decide (w64 (i.tdiv 64) < ((4 : Nat) : Int))), bitC i || decide (0 + (w64 (i.tdiv 64)).toNat * 1 + 1 ≤ 4), bitC i || !decide (i.tmod 64 < 0)] := by
  refine paid_cons (by cases decide (i < 0) <;> rfl) (paid_cons (by cases decide (i < 0) <;> rfl) ?_)
  cases hc : bitC i with
  | true => exact paid_cons rfl (paid_cons rfl (paid_cons rfl Paid.nil))
  | false =>
    have hi : 0 ≤ i ∧ i ≤ 255 := by
      unfold bitC at hc
      by_cases h : i < 0
      · rw [decide_eq_true h] at hc; cases hc
      · rw [decide_eq_false h] at hc
        simp at hc
        omega
    have e1 : i.tdiv 64 = i / 64 := Int.tdiv_eq_ediv_of_nonneg hi.1
    have e2 : i.tmod 64 = i % 64 := Int.tmod_eq_emod_of_nonneg hi.1
    rw [e1, e2, w64_id (x := i / 64) (by omega)]
    refine paid_cons ?_ (paid_cons ?_ (paid_cons ?_ Paid.nil))
    · rw [decide_eq_true (by omega : 0 ≤ i / 64), decide_eq_true (by omega : i / 64 < ((4 : Nat) : Int))]; rfl
    · rw [decide_eq_true (by omega : 0 + (i / 64).toNat * 1 + 1 ≤ 4)]; rfl
    · rw [decide_eq_false (by omega : ¬ i % 64 < 0)]; rfl
theorem bit_ok {args : List AV} {o : List Bool} {v : AV} (h : bitS args = some (o, v)) : PureCall Try.prog 31 args v := by
  unfold bitS at h
  split at h
  · rename_i a s i
    cases h
    intro ρ N vs ha
    have hb := ha
    cases hb with
    | cons _ _ _ _ r1 hb => cases hb with
      | cons _ _ v2 _ r2 hb => cases hb with
        | nil =>
          obtain ⟨a0, a1, a2, a3, rfl, wa0, wa1, wa2, wa3⟩ := num_arg r1
          have r2' : Rep ρ N (.int true .i64 i) v2 := by cases r2 with | int _ _ _ h => exact .int true _ _ h
          exact pure_of_mix mixed noCount h0_ok (by kernel_rfl) (bit_eval a0 a1 a2 a3 i) (bit_owed i) rfl (.cons _ _ _ _ r1 (.cons _ _ _ _ r2' .nil))
  · cases h
def h5 : CallH := withC 31 bitS (withC 30 pickS h4)
theorem h5_ok : HOk Try.prog h5 := (h4_ok.withC fun _ _ _ h _ => pick_ok h).withC fun _ _ _ h _ => bit_ok h
end Go.Proofs.Ytdpaedcgbhlibaa
