/- What is added is taken away again, and a number less itself is nothing: for every two numbers the law answers true. No condition. -/
import Derived.Test.YtdpaedcgbhlibaaWordsC
import Derived.Test.YtdpaedcgbhlibaaWordsR
namespace Go.Proofs.Ytdpaedcgbhlibaa
open Go.Ev Go.Wn
open Go.ChangeShapes Go.WideShapes Go.ChangeAt Go.RowKit
set_option maxRecDepth 100000

theorem back_eval (a b : List Int) : res (funcA Try.prog qAsm h2 100 4 [.ints .u64 4 a, .ints .u64 4 b] []) =
    some (rep 4 (decide (limbs (val (limbs (val a + val b)) - val b) = a)) (rep 4 ((val a + val b) / 115792089237316195423570985008687907853269984665640564039457584007913129639936 == if val (limbs (val a + val b)) < val b then 1 else 0)
      (rep 3 (decide (limbs (val a - val a) = [0, 0, 0, 0])) (rep 5 ((if val a < val a then (1 : Int) else 0) == 0) []))), .bool true (!decide (val a < val a))) := by kernel_rfl


theorem wordsBack_calls {a b : List Int} (ha : a.length = 4) (hb : b.length = 4) (ra : ∀ x ∈ a, inR .u64 x = true) (rb : ∀ x ∈ b, inR .u64 x = true) (w : World) :
    Calls Try.prog 4 #[.agg (a.map (Value.int .u64)).toArray, .agg (b.map (Value.int .u64)).toArray] w (fun e w' => e = .returned (.bool true) ∧ Below w.heap.size w w') := by
  have k := back a b (numOf ha ra) (numOf hb rb)
  have z : limbs (val a - val a) = [0, 0, 0, 0] := by rw [Int.sub_self]; rfl
  have n : ¬ val a < val a := by omega
  exact law_of_res (vs := [_, _]) mixed h2_ok (by kernel_rfl) (back_eval a b)
    (paid_rep (decide_eq_true k.1) (paid_rep (by rw [k.2]; exact beq_self_eq_true _) (paid_rep (decide_eq_true z) (paid_rep (by rw [if_neg n]; rfl) Paid.nil _) _) _) _) (by rw [decide_eq_false n]; rfl)
    (ρ := fun _ => ⟨0, 0, 0⟩) (N := fun _ => False) (.cons _ _ _ _ (.ints .u64 4 a ha ra) (.cons _ _ _ _ (.ints .u64 4 b hb rb) .nil)) w

theorem wordsBack_lifted (os : Os) (started : os.Started) (H : Type) (enc : TypeId × Value → H) :
    ReturnsInHanded {} Try.checked os 4 .any (Rows.wordsBackSpec.pre6 enc Try.prog Try.f4 Rows.wordsBackRow.domain false) (Rows.wordsBackSpec.post enc Try.prog Try.f4 false true false false) := by
  refine returnsInHanded_of_change (C := Try.checked) own started (by kernel_rfl) Try.func4
    (ChangeSpec.witness6 (enc := enc) (C := Try.checked) false ⟨#[], #[.agg #[.int .u64 0, .int .u64 0, .int .u64 0, .int .u64 0], .agg #[.int .u64 0, .int .u64 0, .int .u64 0, .int .u64 0]], []⟩ 8 (by kernel_rfl) (by kernel_rfl) (by kernel_rfl) (by kernel_rfl)) ?_
  intro W base args ds gs before hval0 hW hcnd _
  have hval : ∀ (j : Nat) t v, Try.f4.params[j]? = some t → args[j]? = some v → Value.okWide Try.prog W .any base t v := hval0
  have hW' := hW
  obtain ⟨p, q, hA0, hV, rfl, hfz, hnd⟩ := hW
  have hA : DataW.TrodAll enc Try.prog W 0 (fun _ => true) true Try.f4.params.toList args.toList ds p := hA0
  rw [Try.params4] at hA hval
  obtain ⟨v0, v1, d0, d1, p0, p1, hargs, rfl, rfl, h0, h1⟩ := trodAll_two hA
  have hargs' : args = #[v0, v1] := by simpa using hargs
  subst hargs'
  obtain ⟨rfl, rfl⟩ := trodVars_none hV
  obtain ⟨a, la, rfl, ra⟩ := num_open (hval 0 _ v0 rfl rfl)
  obtain ⟨b, lb, rfl, rb⟩ := num_open (hval 1 _ v1 rfl rfl)
  refine (wordsBack_calls la lb ra rb W).mono fun e W' ⟨he, hb⟩ => ?_
  exact ⟨_, he, post_of_law laidOut (by rw [Try.params4]; decide +kernel) hW' rfl rfl Try.underlying4 rfl rfl rfl hb⟩

theorem wordsBack_holds : Rows.WordsBackSaid :=
  OpenClaim.holds_of_wide 4 Try.f4 rfl rfl rfl rfl rfl rfl rfl ⟨rfl, rfl, rfl, rfl, rfl⟩ rfl rfl rfl rfl rfl (by kernel_rfl) Try.func4 (by kernel_rfl)
    (of_decide_eq_true (by kernel_rfl)) (by unfold Func.isWrapper; first | (rw [if_pos (by decide +kernel)]; kernel_rfl) | (rw [if_neg (by decide +kernel)]; exact ⟨rfl, rfl⟩))
    (fun os started H enc _ => wordsBack_lifted os started H enc)
end Go.Proofs.Ytdpaedcgbhlibaa
