/- A word's bits and the branchless choice are the reference's: for every pair of numbers, every word and every place the law answers true. No condition. -/
import Derived.Test.YtdpaedcgbhlibaaWordsP
import Derived.Test.YtdpaedcgbhlibaaWordsR
namespace Go.Proofs.Ytdpaedcgbhlibaa
open Go.Ev Go.Wn
open Go.ChangeShapes Go.WideShapes Go.ChangeAt Go.RowKit
set_option maxRecDepth 100000

def oM1 (m p : Bool) : Bool := match m with | true => p | false => false
def oBits (g A m1 m0 M1 : Bool) (r : List Bool) : List Bool :=
  rep 3 (g || (!A || A)) (rep 2 (g || (!(A && m1) || (A && m1))) (rep 1 (g || (!A || (!m1 || (A && m1)))) (rep 2 (g || (!A || A)) (rep 3 (g || (!(A && !M1) || (A && !M1)))
    (rep 2 (g || (!((A && !M1) && m0) || ((A && !M1) && m0))) (rep 1 (g || (!(A && !M1) || (!m0 || ((A && !M1) && m0)))) (rep 1 (g || (!(A && !M1) || (A && !M1))) (rep 1 (g || (!A || (M1 || (A && !M1)))) (rep 2 (g || (!A || A)) r)))))))))
def oOwes (R A A0 m1 m0 M1 : Bool) : List Bool := oBits (!R) A m1 m0 M1 (oBits R A0 m1 m0 M1 [])
def oRest (A M1 M0 : Bool) : Bool := match A with | true => (match M1 with | true => true | false => M0) | false => false
def oTrue (R A A0 M1 M0 : Bool) : Bool := match R with | true => oRest A M1 M0 | false => oRest A0 M1 M0
theorem oOwes_all1 : ∀ R A A0 m1 m0 M1 : Bool, all1 (oOwes R A A0 m1 m0 M1) = true := by decide +kernel

def inB (i : Int) : Bool := oM1 (decide (i ≥ 0)) (decide (i < 256))
def oIdx (i : Int) (r : List Bool) : List Bool :=
  (!decide (i ≥ 0) || decide (i ≥ 0)) :: (!decide (i ≥ 0) || decide (i ≥ 0)) :: (!inB i || (decide (0 ≤ w64 (i.tdiv 16)) && decide (w64 (i.tdiv 16) < ((16 : Nat) : Int)))) ::
    (!inB i || decide (0 + (w64 (i.tdiv 16)).toNat * 1 + 1 ≤ 16)) :: (!inB i || !decide (i.tmod 16 < 0)) :: r
theorem bits_eval (a b c d e f g h x i : Int) : (funcA Try.prog qAll h5 100 6 [.ints .u64 8 [a, b, c, d, e, f, g, h], .int true .u64 x, .int true .i64 i] []).mix =
    some (oIdx i (oOwes (inB i) (bitV [a, b, c, d] i == bitR (digs [a, b, c, d]) i) (bitV [a, b, c, d] i == 0) (x.tmod 2 == 1) (x.tmod 2 == 0) (oM1 (x.tmod 2 == 1) (decide (pickL x [a, b, c, d] [e, f, g, h] = [a, b, c, d])))),
      .bool true (oTrue (inB i) (bitV [a, b, c, d] i == bitR (digs [a, b, c, d]) i) (bitV [a, b, c, d] i == 0) (oM1 (x.tmod 2 == 1) (decide (pickL x [a, b, c, d] [e, f, g, h] = [a, b, c, d]))) (oM1 (x.tmod 2 == 0) (decide (pickL x [a, b, c, d] [e, f, g, h] = [e, f, g, h]))))) := by kernel_rfl
theorem inB_iff (i : Int) : inB i = true ↔ 0 ≤ i ∧ i ≤ 255 := by
  unfold inB oM1
  by_cases h : i ≥ 0
  · rw [decide_eq_true h]
    show decide (i < 256) = true ↔ _
    rw [decide_eq_true_eq]; omega
  · rw [decide_eq_false h]
    show false = true ↔ _
    constructor
    · intro h; cases h
    · intro h; omega
theorem idx_paid {i : Int} {r : List Bool} (h : Paid r) : Paid (oIdx i r) := by
  unfold oIdx
  refine paid_cons (by cases decide (i ≥ 0) <;> rfl) (paid_cons (by cases decide (i ≥ 0) <;> rfl) ?_)
  cases hb : inB i with
  | false => exact paid_cons rfl (paid_cons rfl (paid_cons rfl h))
  | true =>
    have hi := (inB_iff i).1 hb
    have e1 : i.tdiv 16 = i / 16 := Int.tdiv_eq_ediv_of_nonneg hi.1
    have e2 : i.tmod 16 = i % 16 := Int.tmod_eq_emod_of_nonneg hi.1
    rw [e1, e2, w64_id (x := i / 16) (by omega)]
    refine paid_cons ?_ (paid_cons ?_ (paid_cons ?_ h))
    · rw [decide_eq_true (by omega : 0 ≤ i / 16), decide_eq_true (by omega : i / 16 < ((16 : Nat) : Int))]; rfl
    · rw [decide_eq_true (by omega : 0 + (i / 16).toNat * 1 + 1 ≤ 16)]; rfl
    · rw [decide_eq_false (by omega : ¬ i % 16 < 0)]; rfl
theorem rest_true {x : Int} (hx : W x) (a b : List Int) : oRest true (oM1 (x.tmod 2 == 1) (decide (pickL x a b = a))) (oM1 (x.tmod 2 == 0) (decide (pickL x a b = b))) = true := by
  unfold W at hx
  rw [Int.tmod_eq_emod_of_nonneg hx.1]
  unfold pickL
  rcases Int.emod_two_eq x with h | h
  · rw [h, if_neg (by omega), decide_eq_true (rfl : b = b)]; rfl
  · rw [h, if_pos rfl, decide_eq_true (rfl : a = a)]; rfl
theorem true_all {a b c d x i : Int} (q : List Int) (wa : W a) (wb : W b) (wc : W c) (wd : W d) (hx : W x) :
    oTrue (inB i) (bitV [a, b, c, d] i == bitR (digs [a, b, c, d]) i) (bitV [a, b, c, d] i == 0) (oM1 (x.tmod 2 == 1) (decide (pickL x [a, b, c, d] q = [a, b, c, d]))) (oM1 (x.tmod 2 == 0) (decide (pickL x [a, b, c, d] q = q))) = true := by
  cases hb : inB i with
  | true =>
    have hi := (inB_iff i).1 hb
    have hc : bitC i = false := by unfold bitC; rw [decide_eq_false (by omega : ¬ i < 0), decide_eq_false (by omega : ¬ i > 255)]
    have e : bitV [a, b, c, d] i = bitR (digs [a, b, c, d]) i := by
      rw [← bits_same wa wb wc wd hi]; unfold bitV; rw [hc]
    rw [e, beq_self_eq_true]
    exact rest_true hx _ _
  | false =>
    have hn : ¬ (0 ≤ i ∧ i ≤ 255) := fun h => by rw [(inB_iff i).2 h] at hb; cases hb
    have hc : bitC i = true := by
      unfold bitC
      by_cases h : i < 0
      · rw [decide_eq_true h]
      · rw [decide_eq_false h, decide_eq_true (by omega : i > 255)]
    have e : bitV [a, b, c, d] i = 0 := by unfold bitV; rw [hc]
    rw [e, beq_self_eq_true]
    exact rest_true hx _ _

theorem eight {l : List Int} (h : l.length = 8) : ∃ a b c d e f g k, l = [a, b, c, d, e, f, g, k] := by
  rcases l with _ | ⟨a, _ | ⟨b, _ | ⟨c, _ | ⟨d, _ | ⟨e, _ | ⟨f, _ | ⟨g, _ | ⟨k, _ | ⟨m, r⟩⟩⟩⟩⟩⟩⟩⟩⟩ <;> simp at h
  exact ⟨a, b, c, d, e, f, g, k, rfl⟩
theorem wf_inR {k : IntKind} {n : Int} (h : (Lit.int k n).wf = true) : inR k n = true := by
  have h' : (decide (k.min ≤ n) && decide (n ≤ k.max)) = true := h
  rw [loP, hiP] at h'
  exact h'

theorem bits_calls {l : List Int} {x i : Int} (hl : l.length = 8) (rl : ∀ x ∈ l, inR .u64 x = true) (rx : inR .u64 x = true) (ri : inR .i64 i = true) (w : World) :
    Calls Try.prog 6 #[.agg (l.map (Value.int .u64)).toArray, .int .u64 x, .int .i64 i] w (fun e w' => e = .returned (.bool true) ∧ Below w.heap.size w w') := by
  obtain ⟨a, b, c, d, e, f, g, k, rfl⟩ := eight hl
  exact law_of_mix (vs := [_, _, _]) mixed h5_ok (by kernel_rfl) (bits_eval a b c d e f g k x i) (idx_paid (all1_paid (oOwes_all1 _ _ _ _ _ _)))
    (true_all _ (inR_W (rl a (by simp))) (inR_W (rl b (by simp))) (inR_W (rl c (by simp))) (inR_W (rl d (by simp))) (inR_W rx))
    (ρ := fun _ => ⟨0, 0, 0⟩) (N := fun _ => False) (.cons _ _ _ _ (.ints .u64 8 _ hl rl) (.cons _ _ _ _ (.int true .u64 x rx) (.cons _ _ _ _ (.int true .i64 i ri) .nil))) w

theorem cellsTwo : Try.prog.cellsOf 38 = 8 := by kernel_rfl
theorem typesTwo : Try.prog.cellTypes Try.prog.depth 38 = some [22, 22, 22, 22, 22, 22, 22, 22] := by kernel_rfl

theorem bits_lifted (os : Os) (started : os.Started) (H : Type) (enc : TypeId × Value → H) :
    ReturnsInHanded {} Try.checked os 6 .any (Rows.wordsBitsSpec.pre6 enc Try.prog Try.f6 Rows.wordsBitsRow.domain false) (Rows.wordsBitsSpec.post enc Try.prog Try.f6 false true false false) := by
  refine returnsInHanded_of_change (C := Try.checked) own started (by kernel_rfl) Try.func6
    (ChangeSpec.witness6 (enc := enc) (C := Try.checked) false ⟨#[], #[.agg #[.int .u64 0, .int .u64 0, .int .u64 0, .int .u64 0, .int .u64 0, .int .u64 0, .int .u64 0, .int .u64 0], .int .u64 0, .int .i64 0], []⟩ 8 (by kernel_rfl) (by kernel_rfl) (by kernel_rfl) (by kernel_rfl)) ?_
  intro W base args ds gs before hval0 hW hcnd _
  have hval : ∀ (j : Nat) t v, Try.f6.params[j]? = some t → args[j]? = some v → Value.okWide Try.prog W .any base t v := hval0
  have hW' := hW
  obtain ⟨p, q, hA0, hV, rfl, hfz, hnd⟩ := hW
  have hA : DataW.TrodAll enc Try.prog W 0 (fun _ => true) true Try.f6.params.toList args.toList ds p := hA0
  rw [Try.params6] at hA hval
  obtain ⟨v0, v1, v2, d0, d1, d2, p0, p1, p2, hargs, rfl, rfl, h0, h1, h2⟩ := trodAll_three hA
  have hargs' : args = #[v0, v1, v2] := by simpa using hargs
  subst hargs'
  obtain ⟨rfl, rfl⟩ := trodVars_none hV
  obtain ⟨l, ll, rfl, rl⟩ := arr_rep Try.underlying38 cellsTwo typesTwo (e := 22) (by intro x hx; simp at hx; exact hx) Try.underlying22 (hval 0 _ v0 rfl rfl)
  obtain ⟨x, rfl, rfl, rfl, wx⟩ := open_int Try.underlying22 (hval 1 _ v1 rfl rfl) h1
  obtain ⟨i, rfl, rfl, rfl, wi⟩ := open_int Try.underlying3 (hval 2 _ v2 rfl rfl) h2
  refine (bits_calls ll rl (wf_inR wx) (wf_inR wi) W).mono fun e W' ⟨he, hb⟩ => ?_
  exact ⟨_, he, post_of_law laidOut (by rw [Try.params6]; decide +kernel) hW' rfl rfl Try.underlying4 rfl rfl rfl hb⟩

theorem wordsBits_holds : Rows.WordsBitsSaid :=
  OpenClaim.holds_of_wide 6 Try.f6 rfl rfl rfl rfl rfl rfl rfl ⟨rfl, rfl, rfl, rfl, rfl⟩ rfl rfl rfl rfl rfl (by kernel_rfl) Try.func6 (by kernel_rfl)
    (of_decide_eq_true (by kernel_rfl)) (by unfold Func.isWrapper; first | (rw [if_pos (by decide +kernel)]; kernel_rfl) | (rw [if_neg (by decide +kernel)]; exact ⟨rfl, rfl⟩))
    (fun os started H enc _ => bits_lifted os started H enc)
end Go.Proofs.Ytdpaedcgbhlibaa
