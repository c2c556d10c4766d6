/- Any bytes are opened just if their last 16 are the tag that the reference has, and so are sealed ones of which a bit was turned: for every job, bytes and number the law answers true. No condition. -/
import Derived.Test.YtfmgodgakndjcaaQChOa
import Derived.Test.YtfmgodgakndjcaaQChOb
import Derived.Test.YtfmgodgakndjcaaQChOc
import Derived.Test.YtfmgodgakndjcaaQChOd
import Derived.Test.YtfmgodgakndjcaaQChOe
set_option linter.unusedSimpArgs false
set_option linter.unusedVariables false
set_option linter.unusedSectionVars false
namespace Go.Proofs.Ytfmgodgakndjcaa
open Go.Ev Go.Sh Go.Ch
open Go.ChangeShapes Go.WideShapes Go.ChangeAt Go.RowKit
set_option maxRecDepth 100000
theorem co_no_ee (k l : List Int) (e1 : Bool) (e2 : Bool) (e3 : Bool) (bit : Int) (t b : Bool) : coE .no 9 b true 0 (.buf false .u8 32 k) (.buf false .u8 12 l) (eV e1) (eV e2) (eV e3) bit [t] = some ([true == true] ++ ((aV false 0 ++ ([] ++ (aO false 0 ++ ([] ++ ([] ++ stD t 16 bit 16))))) ++ (aV false 0 ++ (it16 b false (ini k l) [] 0 (trB t (tagC (ini k l) [] []) 16 bit)))), .bool false true) := by
  cases e1
  · exact co_no_eeE k l e2 e3 bit t b
  · exact co_no_eeN k l e2 e3 bit t b
theorem co_few_ee (k l : List Int) (e1 : Bool) (e2 : Bool) (u : Nat) (y : List Int) (bit : Int) (t b : Bool) : coE .few 10 b true 0 (.buf false .u8 32 k) (.buf false .u8 12 l) (eV e1) (eV e2) (.buf true .u8 u y) bit [false, t] = some ([true == true] ++ ([decide (u < 9223372036854775808), !decide ((u : Int) > 500)] ++ ((aV false 0 ++ ([] ++ (aO false 0 ++ ([] ++ ([] ++ stD t 16 bit 16))))) ++ (itF false 0 u ++ it16 b false (ini k l) [] 0 (trB t (tagC (ini k l) [] []) 16 bit)))), .bool false true) := by
  cases e1
  · exact co_few_eeE k l e2 u y bit t b
  · exact co_few_eeN k l e2 u y bit t b
theorem co_lo_ee (k l : List Int) (e1 : Bool) (e2 : Bool) (u : Nat) (y : List Int) (g : Bool) (bit : Int) (t b : Bool) : coE (cW g) (match g with | true => 13 | false => 11) b true 0 (.buf false .u8 32 k) (.buf false .u8 12 l) (eV e1) (eV e2) (.buf true .u8 u y) bit [false, t] = some ([true == true] ++ ([decide (u < 9223372036854775808), !decide ((u : Int) > 500)] ++ ((aV false 0 ++ ([] ++ (aO false 0 ++ ([] ++ ([] ++ stD t 16 bit 16))))) ++ (itL g false (ini k l) [] 0 y u u ++ it16 b false (ini k l) [] 0 (trB t (tagC (ini k l) [] []) 16 bit)))), .bool false true) := by
  cases e1
  · exact co_lo_eeE k l e2 u y g bit t b
  · exact co_lo_eeN k l e2 u y g bit t b
theorem co_l6_ee (k l : List Int) (e1 : Bool) (e2 : Bool) (y : List Int) (g : Bool) (bit : Int) (t b : Bool) : coE (cW g) (match g with | true => 12 | false => 11) b true 0 (.buf false .u8 32 k) (.buf false .u8 12 l) (eV e1) (eV e2) (.buf false .u8 16 y) bit [t] = some ([true == true] ++ ((aV false 0 ++ ([] ++ (aO false 0 ++ ([] ++ ([] ++ stD t 16 bit 16))))) ++ (it16 g false (ini k l) [] 0 y ++ it16 b false (ini k l) [] 0 (trB t (tagC (ini k l) [] []) 16 bit))), .bool false true) := by
  cases e1
  · exact co_l6_eeE k l e2 y g bit t b
  · exact co_l6_eeN k l e2 y g bit t b
theorem co_big_ee (k l : List Int) (e1 : Bool) (e2 : Bool) (u : Nat) (y : List Int) (bit : Int) : coE .no 9 true true 0 (.buf false .u8 32 k) (.buf false .u8 12 l) (eV e1) (eV e2) (.buf true .u8 u y) bit [true] = some ([true == true] ++ [decide (u < 9223372036854775808), decide ((u : Int) > 500)], .bool false true) := by
  cases e1
  · exact co_big_eeE k l e2 u y bit
  · exact co_big_eeN k l e2 u y bit
theorem rep_paid {k : Nat} {b : Bool} (h : b = true) : Paid (List.replicate k b) := fun _ hp => by rw [(List.mem_replicate.1 hp).2, h]
theorem aV_paid (e : Bool) (m : Nat) : Paid (aV e m) := by cases e <;> first | exact Paid.nil | exact paid_cons (decide_eq_true (by omega)) Paid.nil
theorem aO_paid {e : Bool} {m : Nat} (h : e = true → 1 ≤ m ∧ m ≤ 300) : Paid (aO e m) := by
  cases e with
  | false => exact Paid.nil
  | true => have := h rfl; exact paid_cons (decide_eq_true (by omega)) Paid.nil
theorem aT_paid {e : Bool} {m : Nat} (h : e = true → 1 ≤ m ∧ m ≤ 300) : Paid (aT e m) := by
  cases e with
  | false => exact Paid.nil
  | true => have := h rfl; exact paid_cons (decide_eq_true (by omega)) (paid_cons (decide_eq_true (by omega)) Paid.nil)
theorem kN_s {N : Nat} (h : 16 ≤ N) (h2 : N ≤ 1000) : (kN N).toNat = N - 16 ∧ decide (kN N ≥ 0) = true ∧ bdN N = true := by
  have e := kN_eq (n := N) (by omega)
  refine ⟨by rw [e]; omega, decide_eq_true (by rw [e]; omega), ?_⟩
  unfold bdN
  rw [e, decide_eq_true (by omega), decide_eq_true (by omega)]; rfl
theorem cvL_take (x : List Int) (c : Int) (q : List Int) (t : Nat) : cvL x c (q.take t) t = cvL x c q t := by
  unfold cvL
  refine List.map_congr_left fun j hj => ?_
  have := List.mem_range.1 hj
  unfold cvx
  rw [List.getD_eq_getElem?_getD, List.getElem?_take, if_pos this, ← List.getD_eq_getElem?_getD]
theorem tq_s {q : List Int} {N : Nat} (h : 16 ≤ N) (h2 : N ≤ 1000) : tqL q N = q.take (N - 16) := by
  unfold tqL
  rw [(kN_s h h2).1, show 0 + 0 * 1 = 0 by omega, List.drop_zero, Nat.sub_zero]
theorem tg_eq (x A : List Int) {q : List Int} {N : Nat} (hq : q.length = N) (h : 16 ≤ N) (h2 : N ≤ 1000) : tgB x A q N = goodC x A q N := by
  unfold tgB goodC
  rw [tq_s h h2, (kN_s h h2).1, show 0 + (N - 16) * 1 = N - 16 by omega, List.take_of_length_le (i := N - (N - 16)) (by rw [List.length_drop]; omega)]
  exact decide_eq_decide.2 eq_comm
theorem r15w_paid {T : Bool} (h : T = false) : Paid (r15w T) := by
  subst h
  exact paid_append.2 ⟨paid_cons rfl (paid_cons rfl Paid.nil), paid_append.2 ⟨rep_paid rfl, paid_append.2 ⟨paid_cons rfl (paid_cons rfl (paid_cons rfl Paid.nil)), rep_paid rfl⟩⟩⟩
theorem r15e_paid {T G C : Bool} (h : T = true) (hG : G = true) (hC : C = true) : Paid (r15e T G C) := by
  subst h hG hC
  intro p hp
  simp [r15e] at hp
  exact hp
theorem r14_paid {e : Bool} {m N Z : Nat} (he : e = true → 1 ≤ m ∧ m ≤ 300) (h : 17 ≤ N) (h2 : N ≤ 1000) (hZ : Z = N) : Paid (r14 e m N Z) := by
  obtain ⟨k1, k2, k3⟩ := kN_s (N := N) (by omega) h2
  unfold r14
  rw [k1, k2, k3]
  exact paid_append.2 ⟨rep_paid rfl, paid_append.2 ⟨paid_cons rfl (paid_cons rfl Paid.nil), paid_append.2 ⟨aV_paid _ _, paid_append.2 ⟨paid_cons (decide_eq_true (by omega)) Paid.nil, paid_append.2 ⟨aT_paid he, paid_append.2 ⟨paid_cons (decide_eq_true (by omega)) (paid_cons (decide_eq_true (by omega)) Paid.nil), paid_append.2 ⟨rep_paid rfl, paid_cons rfl (paid_cons rfl (paid_cons (decide_eq_true (by omega)) (paid_cons rfl (paid_cons rfl Paid.nil))))⟩⟩⟩⟩⟩⟩⟩
theorem r15_paid {b : Bool} {x A q : List Int} {N Z : Nat} (hq : q.length = N) (h : 17 ≤ N) (h2 : N ≤ 1000) (hZ : Z = N) (hg : goodC x A q N = b) : Paid (r15 b x A q N Z) := by
  obtain ⟨k1, k2, k3⟩ := kN_s (N := N) (by omega) h2
  have hT : tgB x A q N = b := by rw [tg_eq x A hq (by omega) h2, hg]
  cases b with
  | false => exact r15w_paid hT
  | true =>
    have hY : (q.drop 0).take N = q := by rw [List.drop_zero, List.take_of_length_le (by omega)]
    unfold r15
    simp only
    rw [hT, k1, k3, tq_s (q := q) (N := N) (by omega) h2, hY, Nat.sub_zero, cvL_take]
    have hl : ∀ z : List Int, (cvL x 1 z (N - 16)).length = N - 16 := fun z => cvL_len _ _ _ _
    exact paid_append.2 ⟨paid_cons rfl (paid_cons rfl (paid_cons rfl (paid_cons rfl (paid_cons (decide_eq_true (by rw [hl]; omega)) Paid.nil)))), paid_append.2 ⟨rep_paid rfl, paid_append.2 ⟨paid_cons rfl (paid_cons rfl (paid_cons (decide_eq_true (by omega)) (paid_cons (decide_eq_true (by omega)) (paid_cons (decide_eq_true (by omega)) (paid_cons rfl (paid_cons (decide_eq_true (by rw [hl]; omega)) (paid_cons rfl Paid.nil))))))), r15e_paid rfl rfl (by rw [decide_eq_true rfl]; rfl)⟩⟩⟩
theorem gD_paid {b g : Bool} (h : g = b) : gD b g = true := by subst h; cases g <;> rfl
theorem itL_paid {b e : Bool} {x A q : List Int} {m N Z : Nat} (hq : q.length = N) (h : 17 ≤ N) (h2 : N ≤ 1000) (hZ : Z = N) (he : e = true → 1 ≤ m ∧ m ≤ 300) (hg : goodC x A q N = b) : Paid (itL b e x A m q N Z) := by
  have hY : (q.drop 0).take N = q := by rw [List.drop_zero, List.take_of_length_le (by omega)]
  unfold itL
  rw [hY]
  exact paid_append.2 ⟨paid_cons (decide_eq_true (by omega)) Paid.nil, paid_append.2 ⟨aV_paid _ _, paid_append.2 ⟨paid_cons (decide_eq_true (by omega)) Paid.nil, paid_append.2 ⟨aO_paid he, paid_append.2 ⟨paid_cons (decide_eq_true (by omega)) (paid_cons (decide_eq_true (by omega)) (paid_cons (gD_paid hg) Paid.nil)), paid_append.2 ⟨r14_paid he h h2 hZ, r15_paid hq h h2 hZ hg⟩⟩⟩⟩⟩⟩
theorem it16_paid {b e : Bool} {x A q : List Int} {m : Nat} (_ : q.length = 16) (he : e = true → 1 ≤ m ∧ m ≤ 300) (hg : goodC x A q 16 = b) : Paid (it16 b e x A m q) := by
  have hT : decide (tagC x A [] = q) = b := by
    rw [← hg]
    unfold goodC
    rw [show 16 - 16 = 0 by omega, List.drop_zero, List.take_zero]
    exact decide_eq_decide.2 eq_comm
  unfold it16
  rw [hT]
  refine paid_append.2 ⟨aV_paid _ _, paid_append.2 ⟨aO_paid he, paid_append.2 ⟨paid_cons rfl (paid_cons rfl (paid_cons (gD_paid hg) Paid.nil)), paid_append.2 ⟨aV_paid _ _, paid_append.2 ⟨aT_paid he, ?_⟩⟩⟩⟩⟩
  cases b with
  | false => exact r15w_paid rfl
  | true => exact paid_append.2 ⟨paid_cons rfl (paid_cons rfl (paid_cons rfl (paid_cons rfl (paid_cons (decide_eq_true (by omega)) Paid.nil)))), paid_append.2 ⟨rep_paid rfl, r15e_paid rfl rfl (by rw [show 16 - 16 = 0 by omega, List.take_zero, decide_eq_true rfl]; rfl)⟩⟩
theorem itF_paid {e : Bool} {m N : Nat} (he : e = true → 1 ≤ m ∧ m ≤ 300) (h : N < 16) : Paid (itF e m N) := by
  have e1 := kN_eq (n := N) (by omega)
  exact paid_append.2 ⟨paid_cons (decide_eq_true (by omega)) Paid.nil, paid_append.2 ⟨aV_paid _ _, paid_append.2 ⟨paid_cons (decide_eq_true (by omega)) Paid.nil, paid_append.2 ⟨aO_paid he, paid_append.2 ⟨paid_cons (by rw [decide_eq_false (by omega)]; rfl) Paid.nil, rep_paid (by rw [e1, decide_eq_false (by omega)]; rfl)⟩⟩⟩⟩⟩
theorem mB_eq {N : Nat} (h2 : N ≤ 1000) : mB N = 8 * (N : Int) + 1 ∧ IntKind.i64.wrap (8 * (N : Int)) = 8 * (N : Int) := by
  unfold mB IntKind.wrap
  simp [IntKind.bits, IntKind.signed]
  omega
theorem btB_s {N : Nat} (h2 : N ≤ 1000) (bit : Int) : 0 ≤ btB N bit ∧ btB N bit ≤ 8 * (N : Int) := by
  obtain ⟨e1, e2⟩ := mB_eq h2
  unfold btB
  rw [e1, e2]
  have hM : (0 : Int) < 8 * (N : Int) + 1 := by omega
  have t1 : bit.tmod (8 * (N : Int) + 1) < 8 * (N : Int) + 1 := Int.tmod_lt_of_pos _ hM
  have t2 : -(8 * (N : Int) + 1) < bit.tmod (8 * (N : Int) + 1) := Int.lt_tmod_of_pos _ hM
  generalize bit.tmod (8 * (N : Int) + 1) = z at t1 t2
  have w1 : IntKind.i64.wrap (z + 8 * (N : Int)) = z + 8 * (N : Int) := by unfold IntKind.wrap; simp [IntKind.bits, IntKind.signed]; omega
  have w2 : IntKind.i64.wrap (z + 8 * (N : Int) + 1) = z + 8 * (N : Int) + 1 := by unfold IntKind.wrap; simp [IntKind.bits, IntKind.signed]; omega
  rw [w1, w2]
  have h0 : 0 ≤ z + 8 * (N : Int) + 1 := by omega
  have u1 : (z + 8 * (N : Int) + 1).tmod (8 * (N : Int) + 1) < 8 * (N : Int) + 1 := Int.tmod_lt_of_pos _ hM
  have u2 : 0 ≤ (z + 8 * (N : Int) + 1).tmod (8 * (N : Int) + 1) := Int.tmod_nonneg _ h0
  omega
theorem bitD_paid {N : Nat} (h : 1 ≤ N) (h2 : N ≤ 1000) : Paid (bitD N) := by
  have e1 := (mB_eq h2).1
  have d : decide (N < 9223372036854775808) = true := decide_eq_true (by omega)
  have z : (!decide (mB N = 0)) = true := by rw [e1, decide_eq_false (by omega)]; rfl
  exact paid_cons d (paid_cons z (paid_cons d (paid_cons d (paid_cons z (paid_cons d Paid.nil)))))
theorem stD_paid {t : Bool} {N : Nat} {bit : Int} {Z : Nat} (h2 : N ≤ 1000) (hZ : Z = N) (ht : ltB N bit = t) : Paid (stD t N bit Z) := by
  obtain ⟨b1, b2⟩ := btB_s h2 bit
  cases t with
  | false => exact paid_cons (by rw [ht]; rfl) Paid.nil
  | true =>
    have hl := of_decide_eq_true ht
    rw [(mB_eq h2).2] at hl
    have ei : ixB N bit = btB N bit / 8 := by
      unfold ixB
      rw [Int.tdiv_eq_ediv_of_nonneg b1]
      unfold IntKind.wrap; simp [IntKind.bits, IntKind.signed]; omega
    have x1 : (decide (0 ≤ ixB N bit) && decide (ixB N bit < (N : Int))) = true := by rw [ei, decide_eq_true (by omega), decide_eq_true (by omega)]; rfl
    have x2 : decide (0 + (ixB N bit).toNat * 1 + 1 ≤ Z) = true := by rw [ei]; exact decide_eq_true (by omega)
    exact paid_cons ht (paid_cons x1 (paid_cons x2 (paid_cons (by have := Int.tmod_nonneg 8 b1; rw [decide_eq_false (by omega)]; rfl) (paid_cons x1 (paid_cons x2 Paid.nil)))))
theorem trB_len (t : Bool) (S : List Int) (N : Nat) (bit : Int) : (trB t S N bit).length = S.length := by
  cases t <;> simp [trB, setB]
theorem bytesE {W : World} (j : Nat) {v : Value} (hv : Nums W .u8 reachBytes v) : (∃ e, ∃ L, VOk W j L (eV e) v) ∨ ∃ (n : Nat) (l : List Int), 1 ≤ n ∧ n ≤ 140737488351232 ∧ l.length = n ∧ ∃ L, VOk W j L (.buf true .u8 n l) v := by
  rcases VOk.bytes (W := W) j hv with g | g | ⟨n, l, h1, h2, h3, _, g⟩
  · exact Or.inl ⟨true, g⟩
  · exact Or.inl ⟨false, g⟩
  · exact Or.inr ⟨n, l, h1, h2, h3, g⟩
def okV : V → Bool
  | .ptw _ => false
  | _ => true
theorem anyV {W : World} (j : Nat) {v : Value} (hv : Nums W .u8 reachBytes v) : ∃ x, (∃ L, VOk W j L x v) ∧ okV x = true := by
  rcases bytesE j hv with ⟨e, g⟩ | ⟨n, l, _, _, _, g⟩
  · exact ⟨_, g, by cases e <;> rfl⟩
  · exact ⟨_, g, rfl⟩
theorem noW_of : ∀ {xs : List V}, xs.all okV = true → noW xs = true
  | [], _ => rfl
  | x :: xs, h => by
    simp only [List.all_cons, Bool.and_eq_true] at h
    have := noW_of h.2
    cases x <;> first | exact this | (exact absurd h.1 Bool.false_ne_true)
theorem eV_ok (e : Bool) : okV (eV e) = true := by cases e <;> rfl
theorem chachaOpens_calls {vs : List Value} {W0 : World} (k0 : vs.length = 4) (r0 : ∀ (i : Nat) (u : Value), vs[i]? = some u → Nums W0 .u8 reachBytes u) {v4 : Value} (r4 : Nums W0 .u8 reachBytes v4) {bit : Int} (hbit : inR .i64 bit = true) (W : World) (hW : W0 = W := by rfl) :
    Calls Try.prog 4 #[.agg vs.toArray, v4, .int .i64 bit] W (fun e w' => e = .returned (.bool true) ∧ Below W.heap.size W w') := by
  subst hW
  obtain ⟨v0, v1, v2, v3, rfl⟩ : ∃ v0 v1 v2 v3, vs = [v0, v1, v2, v3] := by
    match vs, k0 with
    | [a, b, c, d], _ => exact ⟨a, b, c, d, rfl⟩
  have LO : ∀ (k0 : Nat) (fn : Func) (c : Code), Try.prog.funcs[4]? = some fn → fn.body = some c → LOkN k0 Try.prog c (fun _ _ => none) := fun k0 fn c hf hb => LOkN.none
  have fin : ∀ {c : CB} {K : Nat} {b t : Bool} {j : Nat} {ka kn a2 kp B : V} {ds o : List Bool} {s b1 : Bool}, coE c K b t j ka kn a2 kp B bit ds = some (o, .bool s b1) → Paid o → b1 = true → (∃ L, VOk W0 0 L ka v0) → (∃ L, VOk W0 1 L kn v1) → (∃ L, VOk W0 2 L a2 v2) → (∃ L, VOk W0 3 L kp v3) → (∃ L, VOk W0 4 L B v4) → [ka, kn, a2, kp, B].all okV = true → Calls Try.prog 4 #[.agg #[v0, v1, v2, v3], v4, .int .i64 bit] W0 (fun e w' => e = .returned (.bool true) ∧ Below W0.heap.size W0 w') := by
    intro c K b t j ka kn a2 kp B ds o s b1 h ho hb h0 h1 h2 h3 h4 hw
    unfold coE at h
    refine law_of_goP (xs := [ka, kn, a2, kp, B, .pl (.int true .i64 bit)]) (vs := [v0, v1, v2, v3, v4, .int .i64 bit]) (avs := [.agg #[v0, v1, v2, v3], v4, .int .i64 bit]) mixed ((hOp_ok c b t j).deep mixed noCount 100 5) (LO _) ds h ho hb
      (.cons _ _ _ _ _ h0 (.cons _ _ _ _ _ h1 (.cons _ _ _ _ _ h2 (.cons _ _ _ _ _ h3 (.cons _ _ _ _ _ h4 (.cons _ _ _ _ _ (VOk.plain fun ρ N => .int _ _ _ hbit) (.nil _))))))) (fun ρ N hr => ?_) (noW_of ?_)
    · cases hr with
      | cons _ _ _ _ a0 hr => cases hr with
      | cons _ _ _ _ a1 hr => cases hr with
      | cons _ _ _ _ a2 hr => cases hr with
      | cons _ _ _ _ a3 hr => exact .cons _ _ _ _ (.agg _ [_, _, _, _] (.cons _ _ _ _ a0 (.cons _ _ _ _ a1 (.cons _ _ _ _ a2 (.cons _ _ _ _ a3 .nil))))) hr
    · simp only [List.all_cons, List.all_nil, Bool.and_true, Bool.and_eq_true] at hw ⊢
      exact ⟨hw.1, hw.2.1, hw.2.2.1, hw.2.2.2.1, hw.2.2.2.2, rfl⟩
  obtain ⟨x1, y1, z1⟩ := anyV 1 (r0 1 v1 rfl)
  obtain ⟨x2, y2, z2⟩ := anyV 2 (r0 2 v2 rfl)
  obtain ⟨x3, y3, z3⟩ := anyV 3 (r0 3 v3 rfl)
  obtain ⟨x4, y4, z4⟩ := anyV 4 r4
  have al : ∀ {a b c d e : V}, okV a = true → okV b = true → okV c = true → okV d = true → okV e = true → [a, b, c, d, e].all okV = true := fun h1 h2 h3 h4 h5 => by simp [h1, h2, h3, h4, h5]
  rcases bytesE 0 (r0 0 v0 rfl) with ⟨e, g0⟩ | ⟨i, k, hi1, hi2, hi3, g0⟩
  · exact fin (cu_k e x1 x2 x3 x4 bit) (paid_cons rfl Paid.nil) rfl g0 y1 y2 y3 y4 (al (eV_ok e) z1 z2 z3 z4)
  by_cases hk0 : i = 32
  case neg =>
    have h : (!((i : Int) == 32)) = true := by simp; omega
    exact fin (cu_k2 i k x1 x2 x3 x4 bit) (paid_cons (decide_eq_true (by omega)) (paid_cons h (paid_cons h (paid_cons h (paid_cons h (paid_cons h (paid_cons rfl Paid.nil))))))) rfl g0 y1 y2 y3 y4 (al rfl z1 z2 z3 z4)
  subst hk0
  have g0 := unmarkB g0
  rcases bytesE 1 (r0 1 v1 rfl) with ⟨e, g1⟩ | ⟨j, l, hj1, hj2, hj3, g1⟩
  · exact fin (cu_n k e x2 x3 x4 bit) (paid_cons rfl Paid.nil) rfl g0 g1 y2 y3 y4 (al rfl (eV_ok e) z2 z3 z4)
  by_cases hj0 : j = 12
  case neg =>
    have h : (!((j : Int) == 12)) = true := by simp; omega
    exact fin (cu_n2 k j l x2 x3 x4 bit) (paid_cons (decide_eq_true (by omega)) (paid_cons h (paid_cons h (paid_cons h (paid_cons h (paid_cons h (paid_cons rfl Paid.nil))))))) rfl g0 g1 y2 y3 y4 (al rfl rfl z2 z3 z4)
  subst hj0
  have g1 := unmarkB g1
  rcases bytesE 2 (r0 2 v2 rfl) with ⟨e1, g2⟩ | ⟨m, a, hm1, hm2, hm3, g2⟩
  · rcases bytesE 3 (r0 3 v3 rfl) with ⟨e2, g3⟩ | ⟨n, p, hn1, hn2, hn3, g3⟩
    · have pf : Paid [true == true] := paid_cons (rfl) (Paid.nil)
      have hS : (tagC (ini k l) [] []).length = 16 := tagC_len _ _ _
      have hT : (trB (ltB 16 bit) (tagC (ini k l) [] []) 16 bit).length = 16 := by rw [trB_len]; exact hS
      have ps := paid_append.2 ⟨aV_paid false 0, paid_append.2 ⟨(Paid.nil : Paid []), paid_append.2 ⟨aO_paid (e := false) (m := 0) (fun h => absurd h Bool.false_ne_true), paid_append.2 ⟨(Paid.nil : Paid []), paid_append.2 ⟨(Paid.nil : Paid []), stD_paid (bit := bit) (Z := 16) (by omega) rfl rfl⟩⟩⟩⟩⟩
      have p2 := it16_paid (e := false) (x := ini k l) (A := []) (m := 0) hT (fun h => absurd h Bool.false_ne_true) rfl
      rcases bytesE 4 r4 with ⟨e3, g4⟩ | ⟨u, y, hu1, hu2, hu3, g4⟩
      · exact fin (co_no_ee k l e1 e2 e3 bit (ltB 16 bit) _) (paid_append.2 ⟨pf, paid_append.2 ⟨ps, paid_append.2 ⟨aV_paid _ _, p2⟩⟩⟩) rfl g0 g1 g2 g3 g4 (al rfl rfl (eV_ok e1) (eV_ok e2) (eV_ok e3))
      by_cases hb0 : 500 < u
      · exact fin (co_big_ee k l e1 e2 u y bit) (paid_append.2 ⟨pf, paid_cons (decide_eq_true (by omega)) (paid_cons (decide_eq_true (by omega)) Paid.nil)⟩) rfl g0 g1 g2 g3 g4 (al rfl rfl (eV_ok e1) (eV_ok e2) rfl)
      have pu : Paid [decide (u < 9223372036854775808), !decide ((u : Int) > 500)] := paid_cons (decide_eq_true (by omega)) (paid_cons (by rw [decide_eq_false (by omega)]; rfl) Paid.nil)
      by_cases hb1 : u < 16
      · exact fin (co_few_ee k l e1 e2 u y bit (ltB 16 bit) _) (paid_append.2 ⟨pf, paid_append.2 ⟨pu, paid_append.2 ⟨ps, paid_append.2 ⟨itF_paid (fun h => absurd h Bool.false_ne_true) hb1, p2⟩⟩⟩⟩) rfl g0 g1 g2 g3 g4 (al rfl rfl (eV_ok e1) (eV_ok e2) rfl)
      by_cases hb2 : u = 16
      · subst hb2
        exact fin (co_l6_ee k l e1 e2 y _ bit (ltB 16 bit) _) (paid_append.2 ⟨pf, paid_append.2 ⟨ps, paid_append.2 ⟨it16_paid hu3 (fun h => absurd h Bool.false_ne_true) rfl, p2⟩⟩⟩) rfl g0 g1 g2 g3 (unmarkB g4) (al rfl rfl (eV_ok e1) (eV_ok e2) rfl)
      exact fin (co_lo_ee k l e1 e2 u y _ bit (ltB 16 bit) _) (paid_append.2 ⟨pf, paid_append.2 ⟨pu, paid_append.2 ⟨ps, paid_append.2 ⟨itL_paid hu3 (by omega) (by omega) rfl (fun h => absurd h Bool.false_ne_true) rfl, p2⟩⟩⟩⟩) rfl g0 g1 g2 g3 g4 (al rfl rfl (eV_ok e1) (eV_ok e2) rfl)
    · by_cases hnB : n ≤ 500
      case neg => exact fin (cu_p2 k l e1 n p x4 bit) (paid_cons (decide_eq_true (by omega)) (paid_cons (by rw [decide_eq_false (by omega)]; rfl) Paid.nil)) rfl g0 g1 g2 g3 y4 (al rfl rfl (eV_ok e1) rfl z4)
      have pf : Paid [decide (n < 9223372036854775808), decide ((n : Int) ≤ 500) == true] := paid_cons (decide_eq_true (by omega)) (paid_cons (by rw [decide_eq_true (show ((n : Int) ≤ 500) by omega)]; rfl) (Paid.nil))
      have hS : (sealC (ini k l) [] ((p.drop 0).take n)).length = (n + 16) := by rw [sealC_len, List.drop_zero, List.length_take]; omega
      have hT : (trB (ltB (n + 16) bit) (sealC (ini k l) [] ((p.drop 0).take n)) (n + 16) bit).length = (n + 16) := by rw [trB_len]; exact hS
      have ps := paid_append.2 ⟨aV_paid false 0, paid_append.2 ⟨(paid_cons (decide_eq_true (by omega)) Paid.nil : Paid [decide (0 + n ≤ n)]), paid_append.2 ⟨aO_paid (e := false) (m := 0) (fun h => absurd h Bool.false_ne_true), paid_append.2 ⟨(paid_cons (decide_eq_true (by omega)) Paid.nil : Paid [decide (n ≤ 140737488351232)]), paid_append.2 ⟨(bitD_paid (by omega) (by omega) : Paid (bitD (n + 16))), stD_paid (bit := bit) (Z := (sealC (ini k l) [] ((p.drop 0).take n)).length) (by omega) hS rfl⟩⟩⟩⟩⟩
      have p2 := itL_paid (e := false) (x := ini k l) (A := []) (m := 0) (Z := (trB (ltB (n + 16) bit) (sealC (ini k l) [] ((p.drop 0).take n)) (n + 16) bit).length) hT (by omega) (by omega) hT (fun h => absurd h Bool.false_ne_true) rfl
      rcases bytesE 4 r4 with ⟨e3, g4⟩ | ⟨u, y, hu1, hu2, hu3, g4⟩
      · exact fin (co_no_eb k l e1 n p e3 bit (ltB (n + 16) bit) _) (paid_append.2 ⟨pf, paid_append.2 ⟨ps, paid_append.2 ⟨aV_paid _ _, p2⟩⟩⟩) rfl g0 g1 g2 g3 g4 (al rfl rfl (eV_ok e1) rfl (eV_ok e3))
      by_cases hb0 : 500 < u
      · exact fin (co_big_eb k l e1 n p u y bit) (paid_append.2 ⟨pf, paid_cons (decide_eq_true (by omega)) (paid_cons (decide_eq_true (by omega)) Paid.nil)⟩) rfl g0 g1 g2 g3 g4 (al rfl rfl (eV_ok e1) rfl rfl)
      have pu : Paid [decide (u < 9223372036854775808), !decide ((u : Int) > 500)] := paid_cons (decide_eq_true (by omega)) (paid_cons (by rw [decide_eq_false (by omega)]; rfl) Paid.nil)
      by_cases hb1 : u < 16
      · exact fin (co_few_eb k l e1 n p u y bit (ltB (n + 16) bit) _) (paid_append.2 ⟨pf, paid_append.2 ⟨pu, paid_append.2 ⟨ps, paid_append.2 ⟨itF_paid (fun h => absurd h Bool.false_ne_true) hb1, p2⟩⟩⟩⟩) rfl g0 g1 g2 g3 g4 (al rfl rfl (eV_ok e1) rfl rfl)
      by_cases hb2 : u = 16
      · subst hb2
        exact fin (co_l6_eb k l e1 n p y _ bit (ltB (n + 16) bit) _) (paid_append.2 ⟨pf, paid_append.2 ⟨ps, paid_append.2 ⟨it16_paid hu3 (fun h => absurd h Bool.false_ne_true) rfl, p2⟩⟩⟩) rfl g0 g1 g2 g3 (unmarkB g4) (al rfl rfl (eV_ok e1) rfl rfl)
      exact fin (co_lo_eb k l e1 n p u y _ bit (ltB (n + 16) bit) _) (paid_append.2 ⟨pf, paid_append.2 ⟨pu, paid_append.2 ⟨ps, paid_append.2 ⟨itL_paid hu3 (by omega) (by omega) rfl (fun h => absurd h Bool.false_ne_true) rfl, p2⟩⟩⟩⟩) rfl g0 g1 g2 g3 g4 (al rfl rfl (eV_ok e1) rfl rfl)
  · by_cases hmB : m ≤ 300
    case neg =>
      have h : (!decide ((m : Int) ≤ 300)) = true := by rw [decide_eq_false (by omega)]; rfl
      exact fin (cu_a k l m a x3 x4 bit) (paid_cons (decide_eq_true (by omega)) (paid_cons h (paid_cons h (paid_cons h (paid_cons h (paid_cons h (paid_cons rfl Paid.nil))))))) rfl g0 g1 g2 y3 y4 (al rfl rfl rfl z3 z4)
    have hL : decide ((m : Int) ≤ 300) = true := decide_eq_true (by omega)
    rcases bytesE 3 (r0 3 v3 rfl) with ⟨e2, g3⟩ | ⟨n, p, hn1, hn2, hn3, g3⟩
    · have pf : Paid [decide (m < 9223372036854775808), decide ((m : Int) ≤ 300), decide ((m : Int) ≤ 300), decide ((m : Int) ≤ 300), decide ((m : Int) ≤ 300), decide ((m : Int) ≤ 300), true == true] := paid_cons (decide_eq_true (by omega)) (paid_cons (decide_eq_true (show ((m : Int) ≤ 300) by omega)) (paid_cons (decide_eq_true (show ((m : Int) ≤ 300) by omega)) (paid_cons (decide_eq_true (show ((m : Int) ≤ 300) by omega)) (paid_cons (decide_eq_true (show ((m : Int) ≤ 300) by omega)) (paid_cons (decide_eq_true (show ((m : Int) ≤ 300) by omega)) (paid_cons (rfl) (Paid.nil)))))))
      have hS : (tagC (ini k l) (aL true m a) []).length = 16 := tagC_len _ _ _
      have hT : (trB (ltB 16 bit) (tagC (ini k l) (aL true m a) []) 16 bit).length = 16 := by rw [trB_len]; exact hS
      have ps := paid_append.2 ⟨aV_paid true m, paid_append.2 ⟨(Paid.nil : Paid []), paid_append.2 ⟨aO_paid (e := true) (m := m) (fun _ => ⟨hm1, hmB⟩), paid_append.2 ⟨(Paid.nil : Paid []), paid_append.2 ⟨(Paid.nil : Paid []), stD_paid (bit := bit) (Z := 16) (by omega) rfl rfl⟩⟩⟩⟩⟩
      have p2 := it16_paid (e := true) (x := ini k l) (A := (aL true m a)) (m := m) hT (fun _ => ⟨hm1, hmB⟩) rfl
      rcases bytesE 4 r4 with ⟨e3, g4⟩ | ⟨u, y, hu1, hu2, hu3, g4⟩
      · exact fin (co_no_be k l m a e2 e3 bit (ltB 16 bit) _) (paid_append.2 ⟨pf, paid_append.2 ⟨ps, paid_append.2 ⟨aV_paid _ _, p2⟩⟩⟩) rfl g0 g1 g2 g3 g4 (al rfl rfl rfl (eV_ok e2) (eV_ok e3))
      by_cases hb0 : 500 < u
      · exact fin (co_big_be k l m a e2 u y bit) (paid_append.2 ⟨pf, paid_cons (decide_eq_true (by omega)) (paid_cons (decide_eq_true (by omega)) Paid.nil)⟩) rfl g0 g1 g2 g3 g4 (al rfl rfl rfl (eV_ok e2) rfl)
      have pu : Paid [decide (u < 9223372036854775808), !decide ((u : Int) > 500)] := paid_cons (decide_eq_true (by omega)) (paid_cons (by rw [decide_eq_false (by omega)]; rfl) Paid.nil)
      by_cases hb1 : u < 16
      · exact fin (co_few_be k l m a e2 u y bit (ltB 16 bit) _) (paid_append.2 ⟨pf, paid_append.2 ⟨pu, paid_append.2 ⟨ps, paid_append.2 ⟨itF_paid (fun _ => ⟨hm1, hmB⟩) hb1, p2⟩⟩⟩⟩) rfl g0 g1 g2 g3 g4 (al rfl rfl rfl (eV_ok e2) rfl)
      by_cases hb2 : u = 16
      · subst hb2
        exact fin (co_l6_be k l m a e2 y _ bit (ltB 16 bit) _) (paid_append.2 ⟨pf, paid_append.2 ⟨ps, paid_append.2 ⟨it16_paid hu3 (fun _ => ⟨hm1, hmB⟩) rfl, p2⟩⟩⟩) rfl g0 g1 g2 g3 (unmarkB g4) (al rfl rfl rfl (eV_ok e2) rfl)
      exact fin (co_lo_be k l m a e2 u y _ bit (ltB 16 bit) _) (paid_append.2 ⟨pf, paid_append.2 ⟨pu, paid_append.2 ⟨ps, paid_append.2 ⟨itL_paid hu3 (by omega) (by omega) rfl (fun _ => ⟨hm1, hmB⟩) rfl, p2⟩⟩⟩⟩) rfl g0 g1 g2 g3 g4 (al rfl rfl rfl (eV_ok e2) rfl)
    · by_cases hnB : n ≤ 500
      case neg => exact fin (cu_p k l m a n p x4 bit) (paid_cons (decide_eq_true (by omega)) (paid_cons hL (paid_cons hL (paid_cons hL (paid_cons (decide_eq_true (by omega)) (paid_cons hL (paid_cons hL (paid_cons (by rw [decide_eq_false (by omega)]; rfl) Paid.nil)))))))) rfl g0 g1 g2 g3 y4 (al rfl rfl rfl rfl z4)
      have pf : Paid [decide (m < 9223372036854775808), decide ((m : Int) ≤ 300), decide ((m : Int) ≤ 300), decide ((m : Int) ≤ 300), decide (n < 9223372036854775808), decide ((m : Int) ≤ 300), decide ((m : Int) ≤ 300), decide ((n : Int) ≤ 500) == true] := paid_cons (decide_eq_true (by omega)) (paid_cons (decide_eq_true (show ((m : Int) ≤ 300) by omega)) (paid_cons (decide_eq_true (show ((m : Int) ≤ 300) by omega)) (paid_cons (decide_eq_true (show ((m : Int) ≤ 300) by omega)) (paid_cons (decide_eq_true (by omega)) (paid_cons (decide_eq_true (show ((m : Int) ≤ 300) by omega)) (paid_cons (decide_eq_true (show ((m : Int) ≤ 300) by omega)) (paid_cons (by rw [decide_eq_true (show ((n : Int) ≤ 500) by omega)]; rfl) (Paid.nil))))))))
      have hS : (sealC (ini k l) (aL true m a) ((p.drop 0).take n)).length = (n + 16) := by rw [sealC_len, List.drop_zero, List.length_take]; omega
      have hT : (trB (ltB (n + 16) bit) (sealC (ini k l) (aL true m a) ((p.drop 0).take n)) (n + 16) bit).length = (n + 16) := by rw [trB_len]; exact hS
      have ps := paid_append.2 ⟨aV_paid true m, paid_append.2 ⟨(paid_cons (decide_eq_true (by omega)) Paid.nil : Paid [decide (0 + n ≤ n)]), paid_append.2 ⟨aO_paid (e := true) (m := m) (fun _ => ⟨hm1, hmB⟩), paid_append.2 ⟨(paid_cons (decide_eq_true (by omega)) Paid.nil : Paid [decide (n ≤ 140737488351232)]), paid_append.2 ⟨(bitD_paid (by omega) (by omega) : Paid (bitD (n + 16))), stD_paid (bit := bit) (Z := (sealC (ini k l) (aL true m a) ((p.drop 0).take n)).length) (by omega) hS rfl⟩⟩⟩⟩⟩
      have p2 := itL_paid (e := true) (x := ini k l) (A := (aL true m a)) (m := m) (Z := (trB (ltB (n + 16) bit) (sealC (ini k l) (aL true m a) ((p.drop 0).take n)) (n + 16) bit).length) hT (by omega) (by omega) hT (fun _ => ⟨hm1, hmB⟩) rfl
      rcases bytesE 4 r4 with ⟨e3, g4⟩ | ⟨u, y, hu1, hu2, hu3, g4⟩
      · exact fin (co_no_bb k l m a n p e3 bit (ltB (n + 16) bit) _) (paid_append.2 ⟨pf, paid_append.2 ⟨ps, paid_append.2 ⟨aV_paid _ _, p2⟩⟩⟩) rfl g0 g1 g2 g3 g4 (al rfl rfl rfl rfl (eV_ok e3))
      by_cases hb0 : 500 < u
      · exact fin (co_big_bb k l m a n p u y bit) (paid_append.2 ⟨pf, paid_cons (decide_eq_true (by omega)) (paid_cons (decide_eq_true (by omega)) Paid.nil)⟩) rfl g0 g1 g2 g3 g4 (al rfl rfl rfl rfl rfl)
      have pu : Paid [decide (u < 9223372036854775808), !decide ((u : Int) > 500)] := paid_cons (decide_eq_true (by omega)) (paid_cons (by rw [decide_eq_false (by omega)]; rfl) Paid.nil)
      by_cases hb1 : u < 16
      · exact fin (co_few_bb k l m a n p u y bit (ltB (n + 16) bit) _) (paid_append.2 ⟨pf, paid_append.2 ⟨pu, paid_append.2 ⟨ps, paid_append.2 ⟨itF_paid (fun _ => ⟨hm1, hmB⟩) hb1, p2⟩⟩⟩⟩) rfl g0 g1 g2 g3 g4 (al rfl rfl rfl rfl rfl)
      by_cases hb2 : u = 16
      · subst hb2
        exact fin (co_l6_bb k l m a n p y _ bit (ltB (n + 16) bit) _) (paid_append.2 ⟨pf, paid_append.2 ⟨ps, paid_append.2 ⟨it16_paid hu3 (fun _ => ⟨hm1, hmB⟩) rfl, p2⟩⟩⟩) rfl g0 g1 g2 g3 (unmarkB g4) (al rfl rfl rfl rfl rfl)
      exact fin (co_lo_bb k l m a n p u y _ bit (ltB (n + 16) bit) _) (paid_append.2 ⟨pf, paid_append.2 ⟨pu, paid_append.2 ⟨ps, paid_append.2 ⟨itL_paid hu3 (by omega) (by omega) rfl (fun _ => ⟨hm1, hmB⟩) rfl, p2⟩⟩⟩⟩) rfl g0 g1 g2 g3 g4 (al rfl rfl rfl rfl rfl)

theorem chachaOpens_lifted (os : Os) (started : os.Started) (H : Type) (enc : TypeId × Value → H) :
    ReturnsInHanded {} Try.checked os 4 .any (Rows.chachaOpensSpec.pre6 enc Try.prog Try.f4 Rows.chachaOpensRow.domain false) (Rows.chachaOpensSpec.post enc Try.prog Try.f4 false true false false) := by
  refine returnsInHanded_of_change_sized (C := Try.checked) own started (by kernel_rfl) Try.func4
    (ChangeSpec.witness6 (enc := enc) (C := Try.checked) false ⟨#[], #[.agg #[.slice none 0 0, .slice none 0 0, .slice none 0 0, .slice none 0 0], .slice none 0 0, .int .i64 0], []⟩ 8 (by kernel_rfl) (by kernel_rfl) (by kernel_rfl) (by kernel_rfl)) ?_
  intro W base args ds gs before hval0 hW hcnd hsz0 _
  have hval : ∀ (j : Nat) t v, Try.f4.params[j]? = some t → args[j]? = some v → Value.okWide Try.prog W .any base t v := hval0
  have hW' := hW
  obtain ⟨p, q, hA0, hV, rfl, hfz, hnd⟩ := hW
  have hA : DataW.TrodAll enc Try.prog W 0 (fun _ => true) true Try.f4.params.toList args.toList ds p := hA0
  have hsz := hsz0
  rw [Try.params4] at hA hval
  have hsz : (DataW.weightsEach Try.prog (Try.f4.params.toList ++ Rows.chachaOpensSpec.plain.varTypes Try.prog) (ds ++ gs)).all (· ≤ reachBytes) = true := hsz0
  rw [Try.params4] at hsz
  obtain ⟨v0, v1, v2, d0, d1, d2, p0, p1, p2, hargs, rfl, rfl, g0, g1, g2⟩ := trodAll_three hA
  have hargs' : args = #[v0, v1, v2] := by simpa using hargs
  subst hargs'
  obtain ⟨rfl, rfl⟩ := trodVars_none hV
  obtain ⟨vs0, k0, rfl, r0⟩ := struct_open Try.underlying37 (n := 4) (st := 22) rfl (fun i f h => by rcases i with _ | _ | _ | _ | i <;> simp at h <;> (first | (subst h; exact ⟨rfl, rfl⟩) | (cases h))) (by kernel_rfl) Try.underlying22 (by kernel_rfl) Try.underlying5 (by kernel_rfl) (by kernel_rfl) (hval 0 _ v0 rfl rfl) g0 (arg_sized hsz (j := 0) (t := 37) rfl rfl)
  have hv1 := nums_sized Try.underlying22 Try.underlying5 (by kernel_rfl) (by kernel_rfl) (hval 1 _ v1 rfl rfl) g1 (arg_sized hsz (j := 1) (t := 22) rfl rfl)
  obtain ⟨x2, rfl, rfl, rfl, w2⟩ := open_int Try.underlying3 (hval 2 _ v2 rfl rfl) g2
  refine (chachaOpens_calls k0 r0 hv1 (wf_inR' w2) W).mono fun e W' ⟨he, hb⟩ => ?_
  exact ⟨_, he, post_of_law laidOut (by rw [Try.params4]; decide +kernel) hW' rfl rfl Try.underlying4 rfl rfl rfl hb⟩

theorem chachaOpens_holds : Rows.ChachaOpensSaid :=
  OpenClaim.holds_of_wide 4 Try.f4 rfl rfl rfl rfl rfl rfl rfl ⟨rfl, rfl, rfl, rfl, rfl⟩ rfl rfl rfl rfl rfl (by kernel_rfl) Try.func4 (by kernel_rfl)
    (of_decide_eq_true (by kernel_rfl)) (by unfold Func.isWrapper; first | (rw [if_pos (by decide +kernel)]; kernel_rfl) | (rw [if_neg (by decide +kernel)]; exact ⟨rfl, rfl⟩))
    (fun os started H enc _ => chachaOpens_lifted os started H enc)
end Go.Proofs.Ytfmgodgakndjcaa
