/- Of two numbers one is less, or they are the same; of three less is handed on: for every three numbers the law answers true. No condition. -/
import Derived.Test.YtdpaedcgbhlibaaWordsC
import Derived.Test.YtdpaedcgbhlibaaWordsR
namespace Go.Proofs.Ytdpaedcgbhlibaa
open Go.Ev Go.Wn
open Go.ChangeShapes Go.WideShapes Go.ChangeAt Go.RowKit
set_option maxRecDepth 100000

def oM (x y : Bool) : Bool := match !x with | true => !y | false => false
def oT (e x y : Bool) : Bool := !(e == oM x y)
def oZ (x p : Bool) : Bool := match x with | true => p | false => false
def oG (e x y : Bool) : Bool := match oT e x y with | true => true | false => oZ x y
def oOwed (e x y p : Bool) : List Bool :=
  rep 4 (!(!x) || !x) (rep 3 (!(!oT e x y) || !oT e x y) (rep 2 (!(!oT e x y && x) || (!oT e x y && x)) (rep 1 (!(!oT e x y) || (!x || (!oT e x y && x))) (rep 1 (!(!oT e x y) || !oT e x y) (rep 1 (oT e x y || !oT e x y)
    (rep 3 (oG e x y || (!x || x)) (rep 2 (oG e x y || (!(!(!oZ x p)) || !(!oZ x p))) (rep 1 (oG e x y || (!oZ x p || !(!oZ x p))) []))))))))
def oV (e x y p r : Bool) : Bool := match oG e x y with | true => false | false => match !oZ x p with | true => true | false => r
theorem oOwed_paid (e x y p : Bool) : Paid (oOwed e x y p) := all1_paid (by cases e <;> cases x <;> cases y <;> cases p <;> rfl)

theorem order_eval (a b c : List Int) : (funcA Try.prog qAll h2 100 7 [.ints .u64 4 a, .ints .u64 4 b, .ints .u64 4 c] []).mix =
    some (oOwed (decide (a = b)) (decide (val a < val b)) (decide (val b < val a)) (decide (val b < val c)),
      .bool true (oV (decide (a = b)) (decide (val a < val b)) (decide (val b < val a)) (decide (val b < val c)) (decide (val a < val c)))) := by kernel_rfl
theorem val_inj {a b : List Int} (h : ∃ a0 a1 a2 a3, a = [a0, a1, a2, a3] ∧ W a0 ∧ W a1 ∧ W a2 ∧ W a3) (k : ∃ a0 a1 a2 a3, b = [a0, a1, a2, a3] ∧ W a0 ∧ W a1 ∧ W a2 ∧ W a3) (e : val a = val b) : a = b := by
  obtain ⟨a0, a1, a2, a3, rfl, h0, h1, h2, h3⟩ := h
  obtain ⟨b0, b1, b2, b3, rfl, k0, k1, k2, k3⟩ := k
  have := limbs_val h0 h1 h2 h3
  rw [e, limbs_val k0 k1 k2 k3] at this
  exact this.symm
theorem oV_true {a b c : List Int} (h : a ≠ b → val a ≠ val b) : oV (decide (a = b)) (decide (val a < val b)) (decide (val b < val a)) (decide (val b < val c)) (decide (val a < val c)) = true := by
  rcases Int.lt_trichotomy (val a) (val b) with g | g | g
  · have e : ¬ a = b := fun e => by rw [e] at g; omega
    rw [decide_eq_false e, decide_eq_true g, decide_eq_false (by omega : ¬ val b < val a)]
    by_cases k : val b < val c
    · rw [decide_eq_true k, decide_eq_true (by omega : val a < val c)]; rfl
    · rw [decide_eq_false k]; rfl
  · have e : a = b := Classical.byContradiction fun e => h e g
    rw [decide_eq_true e, decide_eq_false (by omega : ¬ val a < val b), decide_eq_false (by omega : ¬ val b < val a)]; rfl
  · have e : ¬ a = b := fun e => by rw [e] at g; omega
    rw [decide_eq_false e, decide_eq_false (by omega : ¬ val a < val b), decide_eq_true g]; rfl

theorem order_calls {a b c : List Int} (ha : a.length = 4) (hb : b.length = 4) (hc : c.length = 4) (ra : ∀ x ∈ a, inR .u64 x = true) (rb : ∀ x ∈ b, inR .u64 x = true) (rc : ∀ x ∈ c, inR .u64 x = true) (w : World) :
    Calls Try.prog 7 #[.agg (a.map (Value.int .u64)).toArray, .agg (b.map (Value.int .u64)).toArray, .agg (c.map (Value.int .u64)).toArray] w (fun e w' => e = .returned (.bool true) ∧ Below w.heap.size w w') :=
  law_of_mix (vs := [_, _, _]) mixed h2_ok (by kernel_rfl) (order_eval a b c) (oOwed_paid _ _ _ _) (oV_true fun hne he => hne (val_inj (numOf ha ra) (numOf hb rb) he))
    (ρ := fun _ => ⟨0, 0, 0⟩) (N := fun _ => False) (.cons _ _ _ _ (.ints .u64 4 a ha ra) (.cons _ _ _ _ (.ints .u64 4 b hb rb) (.cons _ _ _ _ (.ints .u64 4 c hc rc) .nil))) w

theorem order_lifted (os : Os) (started : os.Started) (H : Type) (enc : TypeId × Value → H) :
    ReturnsInHanded {} Try.checked os 7 .any (Rows.wordsOrderSpec.pre6 enc Try.prog Try.f7 Rows.wordsOrderRow.domain false) (Rows.wordsOrderSpec.post enc Try.prog Try.f7 false true false false) := by
  refine returnsInHanded_of_change (C := Try.checked) own started (by kernel_rfl) Try.func7
    (ChangeSpec.witness6 (enc := enc) (C := Try.checked) false ⟨#[], #[.agg #[.int .u64 0, .int .u64 0, .int .u64 0, .int .u64 0], .agg #[.int .u64 0, .int .u64 0, .int .u64 0, .int .u64 0], .agg #[.int .u64 0, .int .u64 0, .int .u64 0, .int .u64 0]], []⟩ 8 (by kernel_rfl) (by kernel_rfl) (by kernel_rfl) (by kernel_rfl)) ?_
  intro W base args ds gs before hval0 hW hcnd _
  have hval : ∀ (j : Nat) t v, Try.f7.params[j]? = some t → args[j]? = some v → Value.okWide Try.prog W .any base t v := hval0
  have hW' := hW
  obtain ⟨p, q, hA0, hV, rfl, hfz, hnd⟩ := hW
  have hA : DataW.TrodAll enc Try.prog W 0 (fun _ => true) true Try.f7.params.toList args.toList ds p := hA0
  rw [Try.params7] at hA hval
  obtain ⟨v0, v1, v2, d0, d1, d2, p0, p1, p2, hargs, rfl, rfl, h0, h1, h2⟩ := trodAll_three hA
  have hargs' : args = #[v0, v1, v2] := by simpa using hargs
  subst hargs'
  obtain ⟨rfl, rfl⟩ := trodVars_none hV
  obtain ⟨a, la, rfl, ra⟩ := num_open (hval 0 _ v0 rfl rfl)
  obtain ⟨b, lb, rfl, rb⟩ := num_open (hval 1 _ v1 rfl rfl)
  obtain ⟨c, lc, rfl, rc⟩ := num_open (hval 2 _ v2 rfl rfl)
  refine (order_calls la lb lc ra rb rc W).mono fun e W' ⟨he, hb⟩ => ?_
  exact ⟨_, he, post_of_law laidOut (by rw [Try.params7]; decide +kernel) hW' rfl rfl Try.underlying4 rfl rfl rfl hb⟩

theorem wordsOrder_holds : Rows.WordsOrderSaid :=
  OpenClaim.holds_of_wide 7 Try.f7 rfl rfl rfl rfl rfl rfl rfl ⟨rfl, rfl, rfl, rfl, rfl⟩ rfl rfl rfl rfl rfl (by kernel_rfl) Try.func7 (by kernel_rfl)
    (of_decide_eq_true (by kernel_rfl)) (by unfold Func.isWrapper; first | (rw [if_pos (by decide +kernel)]; kernel_rfl) | (rw [if_neg (by decide +kernel)]; exact ⟨rfl, rfl⟩))
    (fun os started H enc _ => order_lifted os started H enc)
end Go.Proofs.Ytdpaedcgbhlibaa
