/- What the library's long division answers, of a divisor whose highest bit is 1. Own work. -/
import Derived.Test.YthelmpjkkkhopaaDoorPEeLenC
set_option linter.unusedSimpArgs false
set_option linter.unusedVariables false
set_option linter.unusedSectionVars false
namespace Go.Proofs.YthelmpjkkkhopaaDoor
open Go.Ev Go.Wn
set_option maxRecDepth 100000
def divQ (q r y1 y0 c : Int) : Int := ((q * y1 + r) * 4294967296 + c) / (y1 * 4294967296 + y0)
def divI (q r y1 y0 c : Int) : Prop := 2147483648 ≤ y1 ∧ y1 < 4294967296 ∧ 0 ≤ y0 ∧ y0 < 4294967296 ∧ 0 ≤ c ∧ c < 4294967296 ∧ 0 ≤ r ∧ r < 4294967296 ∧ 0 ≤ q ∧ q ≤ 4294967297 ∧ divQ q r y1 y0 c ≤ q ∧ divQ q r y1 y0 c < 4294967296
instance (q r y1 y0 c : Int) : Decidable (divI q r y1 y0 c) := by unfold divI; infer_instance
def divT (q r y0 c : Int) : Bool := match decide (q ≥ 4294967296) with | true => true | false => decide (IntKind.u64.wrap (q * y0) > IntKind.u64.wrap (IntKind.u64.wrap (4294967296 * r) + c))
def divG (p : Bool) : List Bool := rep 7 (!(!p) || !p) [p || !p]
theorem divG_paid (p : Bool) : Paid (divG p) := by cases p <;> exact paid_rep rfl (paid_cons rfl Paid.nil) 7
/-- One round: the test, and what comes of it. -/
theorem div_false {q r y1 y0 c : Int} (h : divI q r y1 y0 c) (ht : divT q r y0 c = false) : q = divQ q r y1 y0 c := by
  obtain ⟨a1, a2, a3, a4, a5, a6, a7, a8, a9, b1, b2, b3⟩ := h
  unfold divT at ht
  split at ht
  · cases ht
  · rename_i hq
    rw [decide_eq_false_iff_not] at hq ht
    have hp : 0 ≤ q * y0 ∧ q * y0 ≤ 18446744065119617025 := half_mul (by omega) (by omega)
    simp only [wrap_eq] at ht
    have := digit_end (H := q * y1 + r) (c := c) (q := q) (r := r) (y1 := y1) (y0 := y0) (by omega) (by omega) (by generalize q * y0 = P at *; omega)
    unfold divQ at *
    omega
theorem div_true {q r y1 y0 c : Int} (h : divI q r y1 y0 c) (ht : divT q r y0 c = true) : divQ q r y1 y0 c < q := by
  obtain ⟨a1, a2, a3, a4, a5, a6, a7, a8, a9, b1, b2, b3⟩ := h
  unfold divT at ht
  split at ht
  · rename_i hq
    rw [decide_eq_true_eq] at hq
    omega
  · rename_i hq
    rw [decide_eq_false_iff_not] at hq
    rw [decide_eq_true_eq] at ht
    have hp : 0 ≤ q * y0 ∧ q * y0 ≤ 18446744065119617025 := half_mul (by omega) (by omega)
    simp only [wrap_eq] at ht
    exact digit_more (r := r) (by omega) (by omega) (by generalize q * y0 = P at *; omega)
theorem div_same (q r y1 y0 c : Int) : divQ (q - 1) (r + y1) y1 y0 c = divQ q r y1 y0 c := by
  unfold divQ
  rw [show (q - 1) * y1 + (r + y1) = q * y1 + r by rw [Int.sub_mul, Int.one_mul]; omega]
theorem div_break {q r y1 y0 c : Int} (h : divI q r y1 y0 c) (ht : divQ q r y1 y0 c < q) (hr : 4294967296 ≤ r + y1) : q - 1 = divQ q r y1 y0 c := by
  obtain ⟨a1, a2, a3, a4, a5, a6, a7, a8, a9, b1, b2, b3⟩ := h
  have e := div_same q r y1 y0 c
  have hQ : 0 ≤ divQ q r y1 y0 c := by
    unfold divQ
    have := Int.mul_nonneg a9 (show 0 ≤ y1 by omega)
    exact Int.ediv_nonneg (by omega) (by omega)
  have := digit_end (H := q * y1 + r) (c := c) (q := q - 1) (r := r + y1) (y1 := y1) (y0 := y0) (by omega) (by rw [Int.sub_mul, Int.one_mul]; omega) (digit_break (by omega) a5 (by omega) hr)
  unfold divQ at *
  omega

def div0U (q r y1 y0 c : Int) : List (Nat × AV) := [(15, .int true .u64 q), (16, .int true .u64 r), (9, .int true .u64 y1), (10, .int true .u64 y0), (13, .int true .u64 c)]
def div00 (q r y0 c : Int) : List (Nat × AV) := [(67, .int true .u64 q), (68, .bool true (decide (q ≥ 4294967296))), (69, .bool true (decide (q ≥ 4294967296))), (70, .grd (!decide (q ≥ 4294967296)) (.int true .u64 q)), (71, .grd (!decide (q ≥ 4294967296)) (.int true .u64 y0)), (72, .grd (!decide (q ≥ 4294967296)) (.int true .u64 (IntKind.u64.wrap (q * y0)))), (73, .grd (!decide (q ≥ 4294967296)) (.int true .u64 r)), (74, .grd (!decide (q ≥ 4294967296)) (.int true .u64 (IntKind.u64.wrap (4294967296 * r)))), (75, .grd (!decide (q ≥ 4294967296)) (.int true .u64 c)), (76, .grd (!decide (q ≥ 4294967296)) (.int true .u64 (IntKind.u64.wrap (IntKind.u64.wrap (4294967296 * r) + c)))), (77, .grd (!decide (q ≥ 4294967296)) (.bool true (decide (IntKind.u64.wrap (q * y0) > IntKind.u64.wrap (IntKind.u64.wrap (4294967296 * r) + c))))), (78, .bool true (divT q r y0 c))]
def div01 (q r y1 y0 c : Int) : List (Nat × AV) := [(67, .int true .u64 q), (68, .bool true (decide (q ≥ 4294967296))), (69, .bool true (decide (q ≥ 4294967296))), (70, .grd (!decide (q ≥ 4294967296)) (.int true .u64 q)), (71, .grd (!decide (q ≥ 4294967296)) (.int true .u64 y0)), (72, .grd (!decide (q ≥ 4294967296)) (.int true .u64 (IntKind.u64.wrap (q * y0)))), (73, .grd (!decide (q ≥ 4294967296)) (.int true .u64 r)), (74, .grd (!decide (q ≥ 4294967296)) (.int true .u64 (IntKind.u64.wrap (4294967296 * r)))), (75, .grd (!decide (q ≥ 4294967296)) (.int true .u64 c)), (76, .grd (!decide (q ≥ 4294967296)) (.int true .u64 (IntKind.u64.wrap (IntKind.u64.wrap (4294967296 * r) + c)))), (77, .grd (!decide (q ≥ 4294967296)) (.bool true (decide (IntKind.u64.wrap (q * y0) > IntKind.u64.wrap (IntKind.u64.wrap (4294967296 * r) + c))))), (78, .bool true (divT q r y0 c)), (79, .int true .u64 q), (80, .int true .u64 (IntKind.u64.wrap (q - 1))), (81, .int true .u64 r), (82, .int true .u64 y1), (83, .int true .u64 (IntKind.u64.wrap (r + y1))), (84, .int true .u64 (IntKind.u64.wrap (r + y1))), (85, .bool true (decide ((IntKind.u64.wrap (r + y1)) ≥ 4294967296)))]
theorem div0_round (x : Nat → AV) (q r y1 y0 c : Int) : codeL Tryd.prog qAll hv1 (fun _ _ => none) 100 (lp (blk 0 (bodyOf Tryd.prog 92))) ⟨tmOf (ups x (div0U q r y1 y0 c)) 135, [none, none, none]⟩ =
    Tree.needs (divG (decide (q ≥ 4294967296))) (.ite (divT q r y0 c) (.ite (decide ((IntKind.u64.wrap (r + y1)) ≥ 4294967296)) (.leaf (.exit 0, ⟨tmOf (ups x (div01 q r y1 y0 c ++ div0U (IntKind.u64.wrap (q - 1)) (IntKind.u64.wrap (r + y1)) y1 y0 c)) 135, [none, none, none]⟩))
        (.leaf (.normal, ⟨tmOf (ups x (div01 q r y1 y0 c ++ div0U (IntKind.u64.wrap (q - 1)) (IntKind.u64.wrap (r + y1)) y1 y0 c)) 135, [none, none, none]⟩)))
      (.leaf (.exit 0, ⟨tmOf (ups x (div00 q r y0 c ++ div0U q r y1 y0 c)) 135, [none, none, none]⟩))) := by kernel_rfl

def div2U (q r y1 y0 c : Int) : List (Nat × AV) := [(18, .int true .u64 q), (16, .int true .u64 r), (9, .int true .u64 y1), (10, .int true .u64 y0), (14, .int true .u64 c)]
def div20 (q r y0 c : Int) : List (Nat × AV) := [(102, .int true .u64 q), (103, .bool true (decide (q ≥ 4294967296))), (104, .bool true (decide (q ≥ 4294967296))), (105, .grd (!decide (q ≥ 4294967296)) (.int true .u64 q)), (106, .grd (!decide (q ≥ 4294967296)) (.int true .u64 y0)), (107, .grd (!decide (q ≥ 4294967296)) (.int true .u64 (IntKind.u64.wrap (q * y0)))), (108, .grd (!decide (q ≥ 4294967296)) (.int true .u64 r)), (109, .grd (!decide (q ≥ 4294967296)) (.int true .u64 (IntKind.u64.wrap (4294967296 * r)))), (110, .grd (!decide (q ≥ 4294967296)) (.int true .u64 c)), (111, .grd (!decide (q ≥ 4294967296)) (.int true .u64 (IntKind.u64.wrap (IntKind.u64.wrap (4294967296 * r) + c)))), (112, .grd (!decide (q ≥ 4294967296)) (.bool true (decide (IntKind.u64.wrap (q * y0) > IntKind.u64.wrap (IntKind.u64.wrap (4294967296 * r) + c))))), (113, .bool true (divT q r y0 c))]
def div21 (q r y1 y0 c : Int) : List (Nat × AV) := [(102, .int true .u64 q), (103, .bool true (decide (q ≥ 4294967296))), (104, .bool true (decide (q ≥ 4294967296))), (105, .grd (!decide (q ≥ 4294967296)) (.int true .u64 q)), (106, .grd (!decide (q ≥ 4294967296)) (.int true .u64 y0)), (107, .grd (!decide (q ≥ 4294967296)) (.int true .u64 (IntKind.u64.wrap (q * y0)))), (108, .grd (!decide (q ≥ 4294967296)) (.int true .u64 r)), (109, .grd (!decide (q ≥ 4294967296)) (.int true .u64 (IntKind.u64.wrap (4294967296 * r)))), (110, .grd (!decide (q ≥ 4294967296)) (.int true .u64 c)), (111, .grd (!decide (q ≥ 4294967296)) (.int true .u64 (IntKind.u64.wrap (IntKind.u64.wrap (4294967296 * r) + c)))), (112, .grd (!decide (q ≥ 4294967296)) (.bool true (decide (IntKind.u64.wrap (q * y0) > IntKind.u64.wrap (IntKind.u64.wrap (4294967296 * r) + c))))), (113, .bool true (divT q r y0 c)), (114, .int true .u64 q), (115, .int true .u64 (IntKind.u64.wrap (q - 1))), (116, .int true .u64 r), (117, .int true .u64 y1), (118, .int true .u64 (IntKind.u64.wrap (r + y1))), (119, .int true .u64 (IntKind.u64.wrap (r + y1))), (120, .bool true (decide ((IntKind.u64.wrap (r + y1)) ≥ 4294967296)))]
theorem div2_round (x : Nat → AV) (q r y1 y0 c : Int) : codeL Tryd.prog qAll hv1 (fun _ _ => none) 100 (lp (blk 2 (bodyOf Tryd.prog 92))) ⟨tmOf (ups x (div2U q r y1 y0 c)) 135, [none, none, none]⟩ =
    Tree.needs (divG (decide (q ≥ 4294967296))) (.ite (divT q r y0 c) (.ite (decide ((IntKind.u64.wrap (r + y1)) ≥ 4294967296)) (.leaf (.exit 2, ⟨tmOf (ups x (div21 q r y1 y0 c ++ div2U (IntKind.u64.wrap (q - 1)) (IntKind.u64.wrap (r + y1)) y1 y0 c)) 135, [none, none, none]⟩))
        (.leaf (.normal, ⟨tmOf (ups x (div21 q r y1 y0 c ++ div2U (IntKind.u64.wrap (q - 1)) (IntKind.u64.wrap (r + y1)) y1 y0 c)) 135, [none, none, none]⟩)))
      (.leaf (.exit 2, ⟨tmOf (ups x (div20 q r y0 c ++ div2U q r y1 y0 c)) 135, [none, none, none]⟩))) := by kernel_rfl
def intOf : AV → Option Int
  | .int _ .u64 x => some x
  | _ => none
theorem intOf_rep {a : AV} {x : Int} (h : intOf a = some x) {ρ : Nat → Loc3} {N : Nat → Prop} {v : Value} (hr : Rep ρ N a v) : Rep ρ N (.int true .u64 x) v := by
  unfold intOf at h
  split at h
  · cases h; exact remark hr
  · cases h
def isN3 : Mem → Bool
  | [none, none, none] => true
  | _ => false
theorem isN3_eq {m : Mem} (h : isN3 m = true) : m = [none, none, none] := by
  unfold isN3 at h
  split at h
  · rfl
  · cases h
def divΛ : LoopH := fun id st => match id with
  | 0 => match intOf (st.tm.getD 15 .top), intOf (st.tm.getD 16 .top), intOf (st.tm.getD 9 .top), intOf (st.tm.getD 10 .top), intOf (st.tm.getD 13 .top), Nat.beq st.tm.length 135 && isN3 st.mem with
    | some q, some r, some y1, some y0, some c, true => some ([decide (divI q r y1 y0 c)], ⟨tmOf (ups (fun _ => .top) [(15, .int true .u64 (divQ q r y1 y0 c)), (9, .int true .u64 y1), (10, .int true .u64 y0), (13, .int true .u64 c), (2, st.tm.getD 2 .top), (8, st.tm.getD 8 .top), (11, st.tm.getD 11 .top), (14, st.tm.getD 14 .top)]) 135, [none, none, none]⟩)
    | _, _, _, _, _, _ => none
  | 2 => match intOf (st.tm.getD 18 .top), intOf (st.tm.getD 16 .top), intOf (st.tm.getD 9 .top), intOf (st.tm.getD 10 .top), intOf (st.tm.getD 14 .top), Nat.beq st.tm.length 135 && isN3 st.mem with
    | some q, some r, some y1, some y0, some c, true => some ([decide (divI q r y1 y0 c)], ⟨tmOf (ups (fun _ => .top) [(18, .int true .u64 (divQ q r y1 y0 c)), (9, .int true .u64 y1), (10, .int true .u64 y0), (14, .int true .u64 c), (2, st.tm.getD 2 .top), (8, st.tm.getD 8 .top), (15, st.tm.getD 15 .top), (17, st.tm.getD 17 .top)]) 135, [none, none, none]⟩)
    | _, _, _, _, _, _ => none
  | _ => none
theorem sat_needs_mk {α : Type} {Q : α → Prop} {t : Tree α} : ∀ {l : List Bool}, Paid l → t.Sat Q → (Tree.needs l t).Sat Q
  | [], _, h => h
  | p :: l, hp, h => ⟨hp p (List.mem_cons_self ..), sat_needs_mk (l := l) (fun q hq => hp q (List.mem_cons_of_mem _ hq)) h⟩
set_option maxHeartbeats 1000000 in
theorem div0_lok {c : Code} {st st' : St} {o : List Bool} (hc : Code.block 0 c ∈ subs (bodyOf Tryd.prog 92)) (hl : divΛ 0 st = some (o, st')) (ho : Paid o) : Ok Tryd.prog (.block 0 c) st (fun p => p = (.normal, st')) := by
  unfold divΛ at hl
  simp only at hl
  split at hl
  case h_2 => cases hl
  rename_i q0 r0 y1 y0 cc hq hr h9 h10 hcc hlen
  cases hl
  rw [Bool.and_eq_true] at hlen
  have hlen' := Nat.eq_of_beq_eq_true hlen.1
  have hmem := isN3_eq hlen.2
  have hI := ho _ (List.mem_cons_self ..)
  rw [decide_eq_true_eq] at hI
  clear ho
  have hU : ∀ (z : Nat → AV) (q r : Int), (∀ p ∈ div0U q r y1 y0 cc, z p.1 = p.2) ↔ z 15 = .int true .u64 q ∧ z 16 = .int true .u64 r ∧ z 9 = .int true .u64 y1 ∧ z 10 = .int true .u64 y0 ∧ z 13 = .int true .u64 cc := fun z q r => by simp [div0U]
  have wI : ∀ q r : Int, divI q r y1 y0 cc → divQ q r y1 y0 cc = divQ q0 r0 y1 y0 cc → True := fun _ _ _ _ => trivial
  refine block_loop (q := qAll) mixed hv1_ok LOk.none (n := 100) (σ := Int × Int) (inv := fun s st1 => divI s.1 s.2 y1 y0 cc ∧ divQ s.1 s.2 y1 y0 cc = divQ q0 r0 y1 y0 cc ∧ st1.tm.length = 135 ∧ (∀ p ∈ div0U s.1 s.2 y1 y0 cc, st1.tm.getD p.1 .top = p.2) ∧ (st1.tm.getD 2 .top = st.tm.getD 2 .top ∧ st1.tm.getD 8 .top = st.tm.getD 8 .top ∧ st1.tm.getD 11 .top = st.tm.getD 11 .top ∧ st1.tm.getD 14 .top = st.tm.getD 14 .top) ∧ st1.mem = [none, none, none]) (μ := fun s => s.1.toNat) hc (by kernel_rfl) (by kernel_rfl)
    (fun s st1 hi => ?_) (q0, r0) st ⟨tmOf (ups (fun t => st.tm.getD t .top) (div0U q0 r0 y1 y0 cc)) 135, [none, none, none]⟩ ?_ (Wk.head hlen' hmem.symm ?_)
  · obtain ⟨q, r⟩ := s
    obtain ⟨i0, iq, i2, i3, i5, i4⟩ := hi
    simp only at i0 iq i3
    have ee : st1 = ⟨tmOf (ups (fun t => st1.tm.getD t .top) (div0U q r y1 y0 cc)) 135, [none, none, none]⟩ := by
      obtain ⟨tm, mem⟩ := st1
      simp only at i2 i3 i4
      rw [i4]
      congr 1
      exact tm_ups i2 i3
    rw [ee]
    have i6 : (fun t => st1.tm.getD t .top) 2 = st.tm.getD 2 .top ∧ (fun t => st1.tm.getD t .top) 8 = st.tm.getD 8 .top ∧ (fun t => st1.tm.getD t .top) 11 = st.tm.getD 11 .top ∧ (fun t => st1.tm.getD t .top) 14 = st.tm.getD 14 .top := i5
    generalize (fun t => st1.tm.getD t .top) = x at i6 ⊢
    have k0 := i6.1; have k1 := i6.2.1; have k2 := i6.2.2.1; have k3 := i6.2.2.2
    rw [div0_round]
    have hi0 := i0
    obtain ⟨a1, a2, a3, a4, a5, a6, a7, a8, a9, b1, b2, b3⟩ := i0
    have w2 : IntKind.u64.wrap (r + y1) = r + y1 := uw64 (by omega)
    refine sat_needs_mk (divG_paid _) ⟨fun ht => ?_, fun ht => ?_⟩
    · have hlt := div_true hi0 ht
      have hQ0 : 0 ≤ divQ q r y1 y0 cc := by
        unfold divQ
        have := Int.mul_nonneg a9 (show 0 ≤ y1 by omega)
        exact Int.ediv_nonneg (by omega) (by omega)
      have w1 : IntKind.u64.wrap (q - 1) = q - 1 := uw64 (by omega)
      rw [w1, w2]
      refine ⟨fun hk => ?_, fun hk => ?_⟩
      · rw [decide_eq_true_eq] at hk
        have e := div_break hi0 hlt hk
        refine ⟨_, rfl, Wk.tail rfl ?_⟩
        intro p hp
        simp only [List.mem_cons, List.not_mem_nil, or_false] at hp
        rcases hp with rfl | rfl | rfl | rfl | rfl | rfl | rfl | rfl
        · show AV.int true .u64 (q - 1) = AV.int true .u64 (divQ q0 r0 y1 y0 cc); rw [e, iq]
        · rfl
        · rfl
        · rfl
        · exact k0
        · exact k1
        · exact k2
        · exact k3
      · rw [decide_eq_false_iff_not] at hk
        refine ⟨(q - 1, r + y1), ⟨?_, ?_, tmOf_len, ?_, ?_, rfl⟩, ?_⟩
        · exact ⟨a1, a2, a3, a4, a5, a6, by show 0 ≤ r + y1; omega, by show r + y1 < 4294967296; omega, by show 0 ≤ q - 1; omega, by show q - 1 ≤ 4294967297; omega, by rw [div_same]; show divQ q r y1 y0 cc ≤ q - 1; omega, by rw [div_same]; exact b3⟩
        · show divQ (q - 1) (r + y1) y1 y0 cc = _
          rw [div_same]; exact iq
        · refine (hU (fun t => (tmOf _ 135).getD t .top) _ _).2 ⟨?_, ?_, ?_, ?_, ?_⟩ <;> simp only [tmOf_get (show 15 < 135 by omega), tmOf_get (show 16 < 135 by omega), tmOf_get (show 9 < 135 by omega), tmOf_get (show 10 < 135 by omega), tmOf_get (show 13 < 135 by omega)] <;> rfl
        · refine ⟨?_, ?_, ?_, ?_⟩ <;> simp only [tmOf_get (show 2 < 135 by omega), tmOf_get (show 8 < 135 by omega), tmOf_get (show 11 < 135 by omega), tmOf_get (show 14 < 135 by omega)]
          · exact k0
          · exact k1
          · exact k2
          · exact k3
        · show (q - 1).toNat < q.toNat
          omega
    · have e := div_false hi0 ht
      refine ⟨_, rfl, Wk.tail rfl ?_⟩
      intro p hp
      simp only [List.mem_cons, List.not_mem_nil, or_false] at hp
      rcases hp with rfl | rfl | rfl | rfl | rfl | rfl | rfl | rfl
      · show AV.int true .u64 q = AV.int true .u64 (divQ q0 r0 y1 y0 cc); rw [← iq, ← e]
      · rfl
      · rfl
      · rfl
      · exact k0
      · exact k1
      · exact k2
      · exact k3
  · refine ⟨hI, rfl, tmOf_len, ?_, ?_, rfl⟩
    · refine (hU (fun t => (tmOf _ 135).getD t .top) _ _).2 ⟨?_, ?_, ?_, ?_, ?_⟩ <;> simp only [tmOf_get (show 15 < 135 by omega), tmOf_get (show 16 < 135 by omega), tmOf_get (show 9 < 135 by omega), tmOf_get (show 10 < 135 by omega), tmOf_get (show 13 < 135 by omega)] <;> rfl
    · refine ⟨?_, ?_, ?_, ?_⟩ <;> simp only [tmOf_get (show 2 < 135 by omega), tmOf_get (show 8 < 135 by omega), tmOf_get (show 11 < 135 by omega), tmOf_get (show 14 < 135 by omega)] <;> rfl
  · intro p hp ρ N v hr'
    simp only [div0U, List.mem_cons, List.not_mem_nil, or_false] at hp
    rcases hp with rfl | rfl | rfl | rfl | rfl
    · exact intOf_rep hq hr'
    · exact intOf_rep hr hr'
    · exact intOf_rep h9 hr'
    · exact intOf_rep h10 hr'
    · exact intOf_rep hcc hr'
set_option maxHeartbeats 1000000 in
theorem div2_lok {c : Code} {st st' : St} {o : List Bool} (hc : Code.block 2 c ∈ subs (bodyOf Tryd.prog 92)) (hl : divΛ 2 st = some (o, st')) (ho : Paid o) : Ok Tryd.prog (.block 2 c) st (fun p => p = (.normal, st')) := by
  unfold divΛ at hl
  simp only at hl
  split at hl
  case h_2 => cases hl
  rename_i q0 r0 y1 y0 cc hq hr h9 h10 hcc hlen
  cases hl
  rw [Bool.and_eq_true] at hlen
  have hlen' := Nat.eq_of_beq_eq_true hlen.1
  have hmem := isN3_eq hlen.2
  have hI := ho _ (List.mem_cons_self ..)
  rw [decide_eq_true_eq] at hI
  clear ho
  have hU : ∀ (z : Nat → AV) (q r : Int), (∀ p ∈ div2U q r y1 y0 cc, z p.1 = p.2) ↔ z 18 = .int true .u64 q ∧ z 16 = .int true .u64 r ∧ z 9 = .int true .u64 y1 ∧ z 10 = .int true .u64 y0 ∧ z 14 = .int true .u64 cc := fun z q r => by simp [div2U]
  have wI : ∀ q r : Int, divI q r y1 y0 cc → divQ q r y1 y0 cc = divQ q0 r0 y1 y0 cc → True := fun _ _ _ _ => trivial
  refine block_loop (q := qAll) mixed hv1_ok LOk.none (n := 100) (σ := Int × Int) (inv := fun s st1 => divI s.1 s.2 y1 y0 cc ∧ divQ s.1 s.2 y1 y0 cc = divQ q0 r0 y1 y0 cc ∧ st1.tm.length = 135 ∧ (∀ p ∈ div2U s.1 s.2 y1 y0 cc, st1.tm.getD p.1 .top = p.2) ∧ (st1.tm.getD 2 .top = st.tm.getD 2 .top ∧ st1.tm.getD 8 .top = st.tm.getD 8 .top ∧ st1.tm.getD 15 .top = st.tm.getD 15 .top ∧ st1.tm.getD 17 .top = st.tm.getD 17 .top) ∧ st1.mem = [none, none, none]) (μ := fun s => s.1.toNat) hc (by kernel_rfl) (by kernel_rfl)
    (fun s st1 hi => ?_) (q0, r0) st ⟨tmOf (ups (fun t => st.tm.getD t .top) (div2U q0 r0 y1 y0 cc)) 135, [none, none, none]⟩ ?_ (Wk.head hlen' hmem.symm ?_)
  · obtain ⟨q, r⟩ := s
    obtain ⟨i0, iq, i2, i3, i5, i4⟩ := hi
    simp only at i0 iq i3
    have ee : st1 = ⟨tmOf (ups (fun t => st1.tm.getD t .top) (div2U q r y1 y0 cc)) 135, [none, none, none]⟩ := by
      obtain ⟨tm, mem⟩ := st1
      simp only at i2 i3 i4
      rw [i4]
      congr 1
      exact tm_ups i2 i3
    rw [ee]
    have i6 : (fun t => st1.tm.getD t .top) 2 = st.tm.getD 2 .top ∧ (fun t => st1.tm.getD t .top) 8 = st.tm.getD 8 .top ∧ (fun t => st1.tm.getD t .top) 15 = st.tm.getD 15 .top ∧ (fun t => st1.tm.getD t .top) 17 = st.tm.getD 17 .top := i5
    generalize (fun t => st1.tm.getD t .top) = x at i6 ⊢
    have k0 := i6.1; have k1 := i6.2.1; have k2 := i6.2.2.1; have k3 := i6.2.2.2
    rw [div2_round]
    have hi0 := i0
    obtain ⟨a1, a2, a3, a4, a5, a6, a7, a8, a9, b1, b2, b3⟩ := i0
    have w2 : IntKind.u64.wrap (r + y1) = r + y1 := uw64 (by omega)
    refine sat_needs_mk (divG_paid _) ⟨fun ht => ?_, fun ht => ?_⟩
    · have hlt := div_true hi0 ht
      have hQ0 : 0 ≤ divQ q r y1 y0 cc := by
        unfold divQ
        have := Int.mul_nonneg a9 (show 0 ≤ y1 by omega)
        exact Int.ediv_nonneg (by omega) (by omega)
      have w1 : IntKind.u64.wrap (q - 1) = q - 1 := uw64 (by omega)
      rw [w1, w2]
      refine ⟨fun hk => ?_, fun hk => ?_⟩
      · rw [decide_eq_true_eq] at hk
        have e := div_break hi0 hlt hk
        refine ⟨_, rfl, Wk.tail rfl ?_⟩
        intro p hp
        simp only [List.mem_cons, List.not_mem_nil, or_false] at hp
        rcases hp with rfl | rfl | rfl | rfl | rfl | rfl | rfl | rfl
        · show AV.int true .u64 (q - 1) = AV.int true .u64 (divQ q0 r0 y1 y0 cc); rw [e, iq]
        · rfl
        · rfl
        · rfl
        · exact k0
        · exact k1
        · exact k2
        · exact k3
      · rw [decide_eq_false_iff_not] at hk
        refine ⟨(q - 1, r + y1), ⟨?_, ?_, tmOf_len, ?_, ?_, rfl⟩, ?_⟩
        · exact ⟨a1, a2, a3, a4, a5, a6, by show 0 ≤ r + y1; omega, by show r + y1 < 4294967296; omega, by show 0 ≤ q - 1; omega, by show q - 1 ≤ 4294967297; omega, by rw [div_same]; show divQ q r y1 y0 cc ≤ q - 1; omega, by rw [div_same]; exact b3⟩
        · show divQ (q - 1) (r + y1) y1 y0 cc = _
          rw [div_same]; exact iq
        · refine (hU (fun t => (tmOf _ 135).getD t .top) _ _).2 ⟨?_, ?_, ?_, ?_, ?_⟩ <;> simp only [tmOf_get (show 18 < 135 by omega), tmOf_get (show 16 < 135 by omega), tmOf_get (show 9 < 135 by omega), tmOf_get (show 10 < 135 by omega), tmOf_get (show 14 < 135 by omega)] <;> rfl
        · refine ⟨?_, ?_, ?_, ?_⟩ <;> simp only [tmOf_get (show 2 < 135 by omega), tmOf_get (show 8 < 135 by omega), tmOf_get (show 15 < 135 by omega), tmOf_get (show 17 < 135 by omega)]
          · exact k0
          · exact k1
          · exact k2
          · exact k3
        · show (q - 1).toNat < q.toNat
          omega
    · have e := div_false hi0 ht
      refine ⟨_, rfl, Wk.tail rfl ?_⟩
      intro p hp
      simp only [List.mem_cons, List.not_mem_nil, or_false] at hp
      rcases hp with rfl | rfl | rfl | rfl | rfl | rfl | rfl | rfl
      · show AV.int true .u64 q = AV.int true .u64 (divQ q0 r0 y1 y0 cc); rw [← iq, ← e]
      · rfl
      · rfl
      · rfl
      · exact k0
      · exact k1
      · exact k2
      · exact k3
  · refine ⟨hI, rfl, tmOf_len, ?_, ?_, rfl⟩
    · refine (hU (fun t => (tmOf _ 135).getD t .top) _ _).2 ⟨?_, ?_, ?_, ?_, ?_⟩ <;> simp only [tmOf_get (show 18 < 135 by omega), tmOf_get (show 16 < 135 by omega), tmOf_get (show 9 < 135 by omega), tmOf_get (show 10 < 135 by omega), tmOf_get (show 14 < 135 by omega)] <;> rfl
    · refine ⟨?_, ?_, ?_, ?_⟩ <;> simp only [tmOf_get (show 2 < 135 by omega), tmOf_get (show 8 < 135 by omega), tmOf_get (show 15 < 135 by omega), tmOf_get (show 17 < 135 by omega)] <;> rfl
  · intro p hp ρ N v hr'
    simp only [div2U, List.mem_cons, List.not_mem_nil, or_false] at hp
    rcases hp with rfl | rfl | rfl | rfl | rfl
    · exact intOf_rep hq hr'
    · exact intOf_rep hr hr'
    · exact intOf_rep h9 hr'
    · exact intOf_rep h10 hr'
    · exact intOf_rep hcc hr'
theorem div_lok : LOk Tryd.prog (bodyOf Tryd.prog 92) divΛ := by
  refine ⟨fun {id c st st' o} hc hl ho => ?_⟩
  match id, hl, hc with
  | 0, hl, hc => exact div0_lok hc hl ho
  | 2, hl, hc => exact div2_lok hc hl ho
  | 1, hl, _ => cases hl
  | n + 3, hl, _ => cases hl
end Go.Proofs.YthelmpjkkkhopaaDoor
