/- What the library's long division answers, of a divisor whose highest bit is 1. Own work. -/
import Derived.Test.YtfmgodgakndjcaaSCzLenC
import Derived.Test.YtfmgodgakndjcaaSEvView
set_option linter.unusedSimpArgs false
set_option linter.unusedVariables false
set_option linter.unusedSectionVars false
namespace Go.Proofs.Ytfmgodgakndjcaa
open Go.Ev Go.Wn
set_option maxRecDepth 100000
def divQ (q r y1 y0 c : Int) : Int := ((q * y1 + r) * 4294967296 + c) / (y1 * 4294967296 + y0)
def divI (q r y1 y0 c : Int) : Prop := 2147483648 ≤ y1 ∧ y1 < 4294967296 ∧ 0 ≤ y0 ∧ y0 < 4294967296 ∧ 0 ≤ c ∧ c < 4294967296 ∧ 0 ≤ r ∧ r < 4294967296 ∧ 0 ≤ q ∧ q ≤ 4294967297 ∧ divQ q r y1 y0 c ≤ q ∧ divQ q r y1 y0 c < 4294967296
instance (q r y1 y0 c : Int) : Decidable (divI q r y1 y0 c) := by unfold divI; infer_instance
def divT (q r y0 c : Int) : Bool := match decide (q ≥ 4294967296) with | true => true | false => decide (IntKind.u64.wrap (q * y0) > IntKind.u64.wrap (IntKind.u64.wrap (4294967296 * r) + c))
def divG (p : Bool) : List Bool := rep 7 (!(!p) || !p) [p || !p]
theorem divG_paid (p : Bool) : Paid (divG p) := by cases p <;> exact paid_rep rfl (paid_cons rfl Paid.nil) 7
/-- One round: the test, and what comes of it. -/
theorem div_false {q r y1 y0 c : Int} (h : divI q r y1 y0 c) (ht : divT q r y0 c = false) : q = divQ q r y1 y0 c := by
  obtain ⟨a1, a2, a3, a4, a5, a6, a7, a8, a9, b1, b2, b3⟩ := h
  unfold divT at ht
  split at ht
  · cases ht
  · rename_i hq
    rw [decide_eq_false_iff_not] at hq ht
    have hp : 0 ≤ q * y0 ∧ q * y0 ≤ 18446744065119617025 := half_mul (by omega) (by omega)
    simp only [wrap_eq] at ht
    have := digit_end (H := q * y1 + r) (c := c) (q := q) (r := r) (y1 := y1) (y0 := y0) (by omega) (by omega) (by generalize q * y0 = P at *; omega)
    unfold divQ at *
    omega
theorem div_true {q r y1 y0 c : Int} (h : divI q r y1 y0 c) (ht : divT q r y0 c = true) : divQ q r y1 y0 c < q := by
  obtain ⟨a1, a2, a3, a4, a5, a6, a7, a8, a9, b1, b2, b3⟩ := h
  unfold divT at ht
  split at ht
  · rename_i hq
    rw [decide_eq_true_eq] at hq
    omega
  · rename_i hq
    rw [decide_eq_false_iff_not] at hq
    rw [decide_eq_true_eq] at ht
    have hp : 0 ≤ q * y0 ∧ q * y0 ≤ 18446744065119617025 := half_mul (by omega) (by omega)
    simp only [wrap_eq] at ht
    exact digit_more (r := r) (by omega) (by omega) (by generalize q * y0 = P at *; omega)
theorem div_same (q r y1 y0 c : Int) : divQ (q - 1) (r + y1) y1 y0 c = divQ q r y1 y0 c := by
  unfold divQ
  rw [show (q - 1) * y1 + (r + y1) = q * y1 + r by rw [Int.sub_mul, Int.one_mul]; omega]
theorem div_break {q r y1 y0 c : Int} (h : divI q r y1 y0 c) (ht : divQ q r y1 y0 c < q) (hr : 4294967296 ≤ r + y1) : q - 1 = divQ q r y1 y0 c := by
  obtain ⟨a1, a2, a3, a4, a5, a6, a7, a8, a9, b1, b2, b3⟩ := h
  have e := div_same q r y1 y0 c
  have hQ : 0 ≤ divQ q r y1 y0 c := by
    unfold divQ
    have := Int.mul_nonneg a9 (show 0 ≤ y1 by omega)
    exact Int.ediv_nonneg (by omega) (by omega)
  have := digit_end (H := q * y1 + r) (c := c) (q := q - 1) (r := r + y1) (y1 := y1) (y0 := y0) (by omega) (by rw [Int.sub_mul, Int.one_mul]; omega) (digit_break (by omega) a5 (by omega) hr)
  unfold divQ at *
  omega

def div0U (q r y1 y0 c : Int) : List (Nat × AV) := [(15, .int true .u64 q), (16, .int true .u64 r), (9, .int true .u64 y1), (10, .int true .u64 y0), (13, .int true .u64 c)]
def div00 (q r y0 c : Int) : List (Nat × AV) := [(67, .int true .u64 q), (68, .bool true (decide (q ≥ 4294967296))), (69, .bool true (decide (q ≥ 4294967296))), (70, .grd (!decide (q ≥ 4294967296)) (.int true .u64 q)), (71, .grd (!decide (q ≥ 4294967296)) (.int true .u64 y0)), (72, .grd (!decide (q ≥ 4294967296)) (.int true .u64 (IntKind.u64.wrap (q * y0)))), (73, .grd (!decide (q ≥ 4294967296)) (.int true .u64 r)), (74, .grd (!decide (q ≥ 4294967296)) (.int true .u64 (IntKind.u64.wrap (4294967296 * r)))), (75, .grd (!decide (q ≥ 4294967296)) (.int true .u64 c)), (76, .grd (!decide (q ≥ 4294967296)) (.int true .u64 (IntKind.u64.wrap (IntKind.u64.wrap (4294967296 * r) + c)))), (77, .grd (!decide (q ≥ 4294967296)) (.bool true (decide (IntKind.u64.wrap (q * y0) > IntKind.u64.wrap (IntKind.u64.wrap (4294967296 * r) + c))))), (78, .bool true (divT q r y0 c))]
def div01 (q r y1 y0 c : Int) : List (Nat × AV) := [(67, .int true .u64 q), (68, .bool true (decide (q ≥ 4294967296))), (69, .bool true (decide (q ≥ 4294967296))), (70, .grd (!decide (q ≥ 4294967296)) (.int true .u64 q)), (71, .grd (!decide (q ≥ 4294967296)) (.int true .u64 y0)), (72, .grd (!decide (q ≥ 4294967296)) (.int true .u64 (IntKind.u64.wrap (q * y0)))), (73, .grd (!decide (q ≥ 4294967296)) (.int true .u64 r)), (74, .grd (!decide (q ≥ 4294967296)) (.int true .u64 (IntKind.u64.wrap (4294967296 * r)))), (75, .grd (!decide (q ≥ 4294967296)) (.int true .u64 c)), (76, .grd (!decide (q ≥ 4294967296)) (.int true .u64 (IntKind.u64.wrap (IntKind.u64.wrap (4294967296 * r) + c)))), (77, .grd (!decide (q ≥ 4294967296)) (.bool true (decide (IntKind.u64.wrap (q * y0) > IntKind.u64.wrap (IntKind.u64.wrap (4294967296 * r) + c))))), (78, .bool true (divT q r y0 c)), (79, .int true .u64 q), (80, .int true .u64 (IntKind.u64.wrap (q - 1))), (81, .int true .u64 r), (82, .int true .u64 y1), (83, .int true .u64 (IntKind.u64.wrap (r + y1))), (84, .int true .u64 (IntKind.u64.wrap (r + y1))), (85, .bool true (decide ((IntKind.u64.wrap (r + y1)) ≥ 4294967296)))]
theorem div0_round (x : Nat → AV) (q r y1 y0 c : Int) : codeL Try.prog qAll hr1 (fun _ _ => none) 100 (lp (blk 0 (bodyOf Try.prog 101))) ⟨tmOf (ups x (div0U q r y1 y0 c)) 135, [none, none, none]⟩ =
    Tree.needs (divG (decide (q ≥ 4294967296))) (.ite (divT q r y0 c) (.ite (decide ((IntKind.u64.wrap (r + y1)) ≥ 4294967296)) (.leaf (.exit 0, ⟨tmOf (ups x (div01 q r y1 y0 c ++ div0U (IntKind.u64.wrap (q - 1)) (IntKind.u64.wrap (r + y1)) y1 y0 c)) 135, [none, none, none]⟩))
        (.leaf (.normal, ⟨tmOf (ups x (div01 q r y1 y0 c ++ div0U (IntKind.u64.wrap (q - 1)) (IntKind.u64.wrap (r + y1)) y1 y0 c)) 135, [none, none, none]⟩)))
      (.leaf (.exit 0, ⟨tmOf (ups x (div00 q r y0 c ++ div0U q r y1 y0 c)) 135, [none, none, none]⟩))) := by kernel_rfl

def div2U (q r y1 y0 c : Int) : List (Nat × AV) := [(18, .int true .u64 q), (16, .int true .u64 r), (9, .int true .u64 y1), (10, .int true .u64 y0), (14, .int true .u64 c)]
def div20 (q r y0 c : Int) : List (Nat × AV) := [(102, .int true .u64 q), (103, .bool true (decide (q ≥ 4294967296))), (104, .bool true (decide (q ≥ 4294967296))), (105, .grd (!decide (q ≥ 4294967296)) (.int true .u64 q)), (106, .grd (!decide (q ≥ 4294967296)) (.int true .u64 y0)), (107, .grd (!decide (q ≥ 4294967296)) (.int true .u64 (IntKind.u64.wrap (q * y0)))), (108, .grd (!decide (q ≥ 4294967296)) (.int true .u64 r)), (109, .grd (!decide (q ≥ 4294967296)) (.int true .u64 (IntKind.u64.wrap (4294967296 * r)))), (110, .grd (!decide (q ≥ 4294967296)) (.int true .u64 c)), (111, .grd (!decide (q ≥ 4294967296)) (.int true .u64 (IntKind.u64.wrap (IntKind.u64.wrap (4294967296 * r) + c)))), (112, .grd (!decide (q ≥ 4294967296)) (.bool true (decide (IntKind.u64.wrap (q * y0) > IntKind.u64.wrap (IntKind.u64.wrap (4294967296 * r) + c))))), (113, .bool true (divT q r y0 c))]
def div21 (q r y1 y0 c : Int) : List (Nat × AV) := [(102, .int true .u64 q), (103, .bool true (decide (q ≥ 4294967296))), (104, .bool true (decide (q ≥ 4294967296))), (105, .grd (!decide (q ≥ 4294967296)) (.int true .u64 q)), (106, .grd (!decide (q ≥ 4294967296)) (.int true .u64 y0)), (107, .grd (!decide (q ≥ 4294967296)) (.int true .u64 (IntKind.u64.wrap (q * y0)))), (108, .grd (!decide (q ≥ 4294967296)) (.int true .u64 r)), (109, .grd (!decide (q ≥ 4294967296)) (.int true .u64 (IntKind.u64.wrap (4294967296 * r)))), (110, .grd (!decide (q ≥ 4294967296)) (.int true .u64 c)), (111, .grd (!decide (q ≥ 4294967296)) (.int true .u64 (IntKind.u64.wrap (IntKind.u64.wrap (4294967296 * r) + c)))), (112, .grd (!decide (q ≥ 4294967296)) (.bool true (decide (IntKind.u64.wrap (q * y0) > IntKind.u64.wrap (IntKind.u64.wrap (4294967296 * r) + c))))), (113, .bool true (divT q r y0 c)), (114, .int true .u64 q), (115, .int true .u64 (IntKind.u64.wrap (q - 1))), (116, .int true .u64 r), (117, .int true .u64 y1), (118, .int true .u64 (IntKind.u64.wrap (r + y1))), (119, .int true .u64 (IntKind.u64.wrap (r + y1))), (120, .bool true (decide ((IntKind.u64.wrap (r + y1)) ≥ 4294967296)))]
theorem div2_round (x : Nat → AV) (q r y1 y0 c : Int) : codeL Try.prog qAll hr1 (fun _ _ => none) 100 (lp (blk 2 (bodyOf Try.prog 101))) ⟨tmOf (ups x (div2U q r y1 y0 c)) 135, [none, none, none]⟩ =
    Tree.needs (divG (decide (q ≥ 4294967296))) (.ite (divT q r y0 c) (.ite (decide ((IntKind.u64.wrap (r + y1)) ≥ 4294967296)) (.leaf (.exit 2, ⟨tmOf (ups x (div21 q r y1 y0 c ++ div2U (IntKind.u64.wrap (q - 1)) (IntKind.u64.wrap (r + y1)) y1 y0 c)) 135, [none, none, none]⟩))
        (.leaf (.normal, ⟨tmOf (ups x (div21 q r y1 y0 c ++ div2U (IntKind.u64.wrap (q - 1)) (IntKind.u64.wrap (r + y1)) y1 y0 c)) 135, [none, none, none]⟩)))
      (.leaf (.exit 2, ⟨tmOf (ups x (div20 q r y0 c ++ div2U q r y1 y0 c)) 135, [none, none, none]⟩))) := by kernel_rfl
def intOf : AV → Option Int
  | .int _ .u64 x => some x
  | _ => none
theorem intOf_rep {a : AV} {x : Int} (h : intOf a = some x) {ρ : Nat → Loc3} {N : Nat → Prop} {v : Value} (hr : Rep ρ N a v) : Rep ρ N (.int true .u64 x) v := by
  unfold intOf at h
  split at h
  · cases h; exact remark hr
  · cases h
def isN3 : Mem → Bool
  | [none, none, none] => true
  | _ => false
theorem isN3_eq {m : Mem} (h : isN3 m = true) : m = [none, none, none] := by
  unfold isN3 at h
  split at h
  · rfl
  · cases h
def divΛ : LoopH := fun id st => match id with
  | 0 => match intOf (st.tm.getD 15 .top), intOf (st.tm.getD 16 .top), intOf (st.tm.getD 9 .top), intOf (st.tm.getD 10 .top), intOf (st.tm.getD 13 .top), Nat.beq st.tm.length 135 && isN3 st.mem with
    | some q, some r, some y1, some y0, some c, true => some ([decide (divI q r y1 y0 c)], ⟨tmOf (ups (fun _ => .top) [(15, .int true .u64 (divQ q r y1 y0 c)), (9, .int true .u64 y1), (10, .int true .u64 y0), (13, .int true .u64 c), (2, st.tm.getD 2 .top), (8, st.tm.getD 8 .top), (11, st.tm.getD 11 .top), (14, st.tm.getD 14 .top)]) 135, [none, none, none]⟩)
    | _, _, _, _, _, _ => none
  | 2 => match intOf (st.tm.getD 18 .top), intOf (st.tm.getD 16 .top), intOf (st.tm.getD 9 .top), intOf (st.tm.getD 10 .top), intOf (st.tm.getD 14 .top), Nat.beq st.tm.length 135 && isN3 st.mem with
    | some q, some r, some y1, some y0, some c, true => some ([decide (divI q r y1 y0 c)], ⟨tmOf (ups (fun _ => .top) [(18, .int true .u64 (divQ q r y1 y0 c)), (9, .int true .u64 y1), (10, .int true .u64 y0), (14, .int true .u64 c), (2, st.tm.getD 2 .top), (8, st.tm.getD 8 .top), (15, st.tm.getD 15 .top), (17, st.tm.getD 17 .top)]) 135, [none, none, none]⟩)
    | _, _, _, _, _, _ => none
  | _ => none
theorem sat_needs_mk {α : Type} {Q : α → Prop} {t : Tree α} : ∀ {l : List Bool}, Paid l → t.Sat Q → (Tree.needs l t).Sat Q
  | [], _, h => h
  | p :: l, hp, h => ⟨hp p (List.mem_cons_self ..), sat_needs_mk (l := l) (fun q hq => hp q (List.mem_cons_of_mem _ hq)) h⟩
set_option maxHeartbeats 1000000 in
theorem div0_lok {c : Code} {st st' : St} {o : List Bool} (hc : Code.block 0 c ∈ subs (bodyOf Try.prog 101)) (hl : divΛ 0 st = some (o, st')) (ho : Paid o) : Ok Try.prog (.block 0 c) st (fun p => p = (.normal, st')) := by
  unfold divΛ at hl
  simp only at hl
  split at hl
  case h_2 => cases hl
  rename_i q0 r0 y1 y0 cc hq hr h9 h10 hcc hlen
  cases hl
  rw [Bool.and_eq_true] at hlen
  have hlen' := Nat.eq_of_beq_eq_true hlen.1
  have hmem := isN3_eq hlen.2
  have hI := ho _ (List.mem_cons_self ..)
  rw [decide_eq_true_eq] at hI
  clear ho
  have hU : ∀ (z : Nat → AV) (q r : Int), (∀ p ∈ div0U q r y1 y0 cc, z p.1 = p.2) ↔ z 15 = .int true .u64 q ∧ z 16 = .int true .u64 r ∧ z 9 = .int true .u64 y1 ∧ z 10 = .int true .u64 y0 ∧ z 13 = .int true .u64 cc := fun z q r => by simp [div0U]
  have wI : ∀ q r : Int, divI q r y1 y0 cc → divQ q r y1 y0 cc = divQ q0 r0 y1 y0 cc → True := fun _ _ _ _ => trivial
  refine block_loop (q := qAll) mixed hr1_ok LOk.none (n := 100) (σ := Int × Int) (inv := fun s st1 => divI s.1 s.2 y1 y0 cc ∧ divQ s.1 s.2 y1 y0 cc = divQ q0 r0 y1 y0 cc ∧ st1.tm.length = 135 ∧ (∀ p ∈ div0U s.1 s.2 y1 y0 cc, st1.tm.getD p.1 .top = p.2) ∧ (st1.tm.getD 2 .top = st.tm.getD 2 .top ∧ st1.tm.getD 8 .top = st.tm.getD 8 .top ∧ st1.tm.getD 11 .top = st.tm.getD 11 .top ∧ st1.tm.getD 14 .top = st.tm.getD 14 .top) ∧ st1.mem = [none, none, none]) (μ := fun s => s.1.toNat) hc (by kernel_rfl) (by kernel_rfl)
    (fun s st1 hi => ?_) (q0, r0) st ⟨tmOf (ups (fun t => st.tm.getD t .top) (div0U q0 r0 y1 y0 cc)) 135, [none, none, none]⟩ ?_ (Wk.head hlen' hmem.symm ?_)
  · obtain ⟨q, r⟩ := s
    obtain ⟨i0, iq, i2, i3, i5, i4⟩ := hi
    simp only at i0 iq i3
    have ee : st1 = ⟨tmOf (ups (fun t => st1.tm.getD t .top) (div0U q r y1 y0 cc)) 135, [none, none, none]⟩ := by
      obtain ⟨tm, mem⟩ := st1
      simp only at i2 i3 i4
      rw [i4]
      congr 1
      exact tm_ups i2 i3
    rw [ee]
    have i6 : (fun t => st1.tm.getD t .top) 2 = st.tm.getD 2 .top ∧ (fun t => st1.tm.getD t .top) 8 = st.tm.getD 8 .top ∧ (fun t => st1.tm.getD t .top) 11 = st.tm.getD 11 .top ∧ (fun t => st1.tm.getD t .top) 14 = st.tm.getD 14 .top := i5
    generalize (fun t => st1.tm.getD t .top) = x at i6 ⊢
    have k0 := i6.1; have k1 := i6.2.1; have k2 := i6.2.2.1; have k3 := i6.2.2.2
    rw [div0_round]
    have hi0 := i0
    obtain ⟨a1, a2, a3, a4, a5, a6, a7, a8, a9, b1, b2, b3⟩ := i0
    have w2 : IntKind.u64.wrap (r + y1) = r + y1 := uw64 (by omega)
    refine sat_needs_mk (divG_paid _) ⟨fun ht => ?_, fun ht => ?_⟩
    · have hlt := div_true hi0 ht
      have hQ0 : 0 ≤ divQ q r y1 y0 cc := by
        unfold divQ
        have := Int.mul_nonneg a9 (show 0 ≤ y1 by omega)
        exact Int.ediv_nonneg (by omega) (by omega)
      have w1 : IntKind.u64.wrap (q - 1) = q - 1 := uw64 (by omega)
      rw [w1, w2]
      refine ⟨fun hk => ?_, fun hk => ?_⟩
      · rw [decide_eq_true_eq] at hk
        have e := div_break hi0 hlt hk
        refine ⟨_, rfl, Wk.tail rfl ?_⟩
        intro p hp
        simp only [List.mem_cons, List.not_mem_nil, or_false] at hp
        rcases hp with rfl | rfl | rfl | rfl | rfl | rfl | rfl | rfl
        · show AV.int true .u64 (q - 1) = AV.int true .u64 (divQ q0 r0 y1 y0 cc); rw [e, iq]
        · rfl
        · rfl
        · rfl
        · exact k0
        · exact k1
        · exact k2
        · exact k3
      · rw [decide_eq_false_iff_not] at hk
        refine ⟨(q - 1, r + y1), ⟨?_, ?_, tmOf_len, ?_, ?_, rfl⟩, ?_⟩
        · exact ⟨a1, a2, a3, a4, a5, a6, by show 0 ≤ r + y1; omega, by show r + y1 < 4294967296; omega, by show 0 ≤ q - 1; omega, by show q - 1 ≤ 4294967297; omega, by rw [div_same]; show divQ q r y1 y0 cc ≤ q - 1; omega, by rw [div_same]; exact b3⟩
        · show divQ (q - 1) (r + y1) y1 y0 cc = _
          rw [div_same]; exact iq
        · refine (hU (fun t => (tmOf _ 135).getD t .top) _ _).2 ⟨?_, ?_, ?_, ?_, ?_⟩ <;> simp only [tmOf_get (show 15 < 135 by omega), tmOf_get (show 16 < 135 by omega), tmOf_get (show 9 < 135 by omega), tmOf_get (show 10 < 135 by omega), tmOf_get (show 13 < 135 by omega)] <;> rfl
        · refine ⟨?_, ?_, ?_, ?_⟩ <;> simp only [tmOf_get (show 2 < 135 by omega), tmOf_get (show 8 < 135 by omega), tmOf_get (show 11 < 135 by omega), tmOf_get (show 14 < 135 by omega)]
          · exact k0
          · exact k1
          · exact k2
          · exact k3
        · show (q - 1).toNat < q.toNat
          omega
    · have e := div_false hi0 ht
      refine ⟨_, rfl, Wk.tail rfl ?_⟩
      intro p hp
      simp only [List.mem_cons, List.not_mem_nil, or_false] at hp
      rcases hp with rfl | rfl | rfl | rfl | rfl | rfl | rfl | rfl
      · show AV.int true .u64 q = AV.int true .u64 (divQ q0 r0 y1 y0 cc); rw [← iq, ← e]
      · rfl
      · rfl
      · rfl
      · exact k0
      · exact k1
      · exact k2
      · exact k3
  · refine ⟨hI, rfl, tmOf_len, ?_, ?_, rfl⟩
    · refine (hU (fun t => (tmOf _ 135).getD t .top) _ _).2 ⟨?_, ?_, ?_, ?_, ?_⟩ <;> simp only [tmOf_get (show 15 < 135 by omega), tmOf_get (show 16 < 135 by omega), tmOf_get (show 9 < 135 by omega), tmOf_get (show 10 < 135 by omega), tmOf_get (show 13 < 135 by omega)] <;> rfl
    · refine ⟨?_, ?_, ?_, ?_⟩ <;> simp only [tmOf_get (show 2 < 135 by omega), tmOf_get (show 8 < 135 by omega), tmOf_get (show 11 < 135 by omega), tmOf_get (show 14 < 135 by omega)] <;> rfl
  · intro p hp ρ N v hr'
    simp only [div0U, List.mem_cons, List.not_mem_nil, or_false] at hp
    rcases hp with rfl | rfl | rfl | rfl | rfl
    · exact intOf_rep hq hr'
    · exact intOf_rep hr hr'
    · exact intOf_rep h9 hr'
    · exact intOf_rep h10 hr'
    · exact intOf_rep hcc hr'
set_option maxHeartbeats 1000000 in
theorem div2_lok {c : Code} {st st' : St} {o : List Bool} (hc : Code.block 2 c ∈ subs (bodyOf Try.prog 101)) (hl : divΛ 2 st = some (o, st')) (ho : Paid o) : Ok Try.prog (.block 2 c) st (fun p => p = (.normal, st')) := by
  unfold divΛ at hl
  simp only at hl
  split at hl
  case h_2 => cases hl
  rename_i q0 r0 y1 y0 cc hq hr h9 h10 hcc hlen
  cases hl
  rw [Bool.and_eq_true] at hlen
  have hlen' := Nat.eq_of_beq_eq_true hlen.1
  have hmem := isN3_eq hlen.2
  have hI := ho _ (List.mem_cons_self ..)
  rw [decide_eq_true_eq] at hI
  clear ho
  have hU : ∀ (z : Nat → AV) (q r : Int), (∀ p ∈ div2U q r y1 y0 cc, z p.1 = p.2) ↔ z 18 = .int true .u64 q ∧ z 16 = .int true .u64 r ∧ z 9 = .int true .u64 y1 ∧ z 10 = .int true .u64 y0 ∧ z 14 = .int true .u64 cc := fun z q r => by simp [div2U]
  have wI : ∀ q r : Int, divI q r y1 y0 cc → divQ q r y1 y0 cc = divQ q0 r0 y1 y0 cc → True := fun _ _ _ _ => trivial
  refine block_loop (q := qAll) mixed hr1_ok LOk.none (n := 100) (σ := Int × Int) (inv := fun s st1 => divI s.1 s.2 y1 y0 cc ∧ divQ s.1 s.2 y1 y0 cc = divQ q0 r0 y1 y0 cc ∧ st1.tm.length = 135 ∧ (∀ p ∈ div2U s.1 s.2 y1 y0 cc, st1.tm.getD p.1 .top = p.2) ∧ (st1.tm.getD 2 .top = st.tm.getD 2 .top ∧ st1.tm.getD 8 .top = st.tm.getD 8 .top ∧ st1.tm.getD 15 .top = st.tm.getD 15 .top ∧ st1.tm.getD 17 .top = st.tm.getD 17 .top) ∧ st1.mem = [none, none, none]) (μ := fun s => s.1.toNat) hc (by kernel_rfl) (by kernel_rfl)
    (fun s st1 hi => ?_) (q0, r0) st ⟨tmOf (ups (fun t => st.tm.getD t .top) (div2U q0 r0 y1 y0 cc)) 135, [none, none, none]⟩ ?_ (Wk.head hlen' hmem.symm ?_)
  · obtain ⟨q, r⟩ := s
    obtain ⟨i0, iq, i2, i3, i5, i4⟩ := hi
    simp only at i0 iq i3
    have ee : st1 = ⟨tmOf (ups (fun t => st1.tm.getD t .top) (div2U q r y1 y0 cc)) 135, [none, none, none]⟩ := by
      obtain ⟨tm, mem⟩ := st1
      simp only at i2 i3 i4
      rw [i4]
      congr 1
      exact tm_ups i2 i3
    rw [ee]
    have i6 : (fun t => st1.tm.getD t .top) 2 = st.tm.getD 2 .top ∧ (fun t => st1.tm.getD t .top) 8 = st.tm.getD 8 .top ∧ (fun t => st1.tm.getD t .top) 15 = st.tm.getD 15 .top ∧ (fun t => st1.tm.getD t .top) 17 = st.tm.getD 17 .top := i5
    generalize (fun t => st1.tm.getD t .top) = x at i6 ⊢
    have k0 := i6.1; have k1 := i6.2.1; have k2 := i6.2.2.1; have k3 := i6.2.2.2
    rw [div2_round]
    have hi0 := i0
    obtain ⟨a1, a2, a3, a4, a5, a6, a7, a8, a9, b1, b2, b3⟩ := i0
    have w2 : IntKind.u64.wrap (r + y1) = r + y1 := uw64 (by omega)
    refine sat_needs_mk (divG_paid _) ⟨fun ht => ?_, fun ht => ?_⟩
    · have hlt := div_true hi0 ht
      have hQ0 : 0 ≤ divQ q r y1 y0 cc := by
        unfold divQ
        have := Int.mul_nonneg a9 (show 0 ≤ y1 by omega)
        exact Int.ediv_nonneg (by omega) (by omega)
      have w1 : IntKind.u64.wrap (q - 1) = q - 1 := uw64 (by omega)
      rw [w1, w2]
      refine ⟨fun hk => ?_, fun hk => ?_⟩
      · rw [decide_eq_true_eq] at hk
        have e := div_break hi0 hlt hk
        refine ⟨_, rfl, Wk.tail rfl ?_⟩
        intro p hp
        simp only [List.mem_cons, List.not_mem_nil, or_false] at hp
        rcases hp with rfl | rfl | rfl | rfl | rfl | rfl | rfl | rfl
        · show AV.int true .u64 (q - 1) = AV.int true .u64 (divQ q0 r0 y1 y0 cc); rw [e, iq]
        · rfl
        · rfl
        · rfl
        · exact k0
        · exact k1
        · exact k2
        · exact k3
      · rw [decide_eq_false_iff_not] at hk
        refine ⟨(q - 1, r + y1), ⟨?_, ?_, tmOf_len, ?_, ?_, rfl⟩, ?_⟩
        · exact ⟨a1, a2, a3, a4, a5, a6, by show 0 ≤ r + y1; omega, by show r + y1 < 4294967296; omega, by show 0 ≤ q - 1; omega, by show q - 1 ≤ 4294967297; omega, by rw [div_same]; show divQ q r y1 y0 cc ≤ q - 1; omega, by rw [div_same]; exact b3⟩
        · show divQ (q - 1) (r + y1) y1 y0 cc = _
          rw [div_same]; exact iq
        · refine (hU (fun t => (tmOf _ 135).getD t .top) _ _).2 ⟨?_, ?_, ?_, ?_, ?_⟩ <;> simp only [tmOf_get (show 18 < 135 by omega), tmOf_get (show 16 < 135 by omega), tmOf_get (show 9 < 135 by omega), tmOf_get (show 10 < 135 by omega), tmOf_get (show 14 < 135 by omega)] <;> rfl
        · refine ⟨?_, ?_, ?_, ?_⟩ <;> simp only [tmOf_get (show 2 < 135 by omega), tmOf_get (show 8 < 135 by omega), tmOf_get (show 15 < 135 by omega), tmOf_get (show 17 < 135 by omega)]
          · exact k0
          · exact k1
          · exact k2
          · exact k3
        · show (q - 1).toNat < q.toNat
          omega
    · have e := div_false hi0 ht
      refine ⟨_, rfl, Wk.tail rfl ?_⟩
      intro p hp
      simp only [List.mem_cons, List.not_mem_nil, or_false] at hp
      rcases hp with rfl | rfl | rfl | rfl | rfl | rfl | rfl | rfl
      · show AV.int true .u64 q = AV.int true .u64 (divQ q0 r0 y1 y0 cc); rw [← iq, ← e]
      · rfl
      · rfl
      · rfl
      · exact k0
      · exact k1
      · exact k2
      · exact k3
  · refine ⟨hI, rfl, tmOf_len, ?_, ?_, rfl⟩
    · refine (hU (fun t => (tmOf _ 135).getD t .top) _ _).2 ⟨?_, ?_, ?_, ?_, ?_⟩ <;> simp only [tmOf_get (show 18 < 135 by omega), tmOf_get (show 16 < 135 by omega), tmOf_get (show 9 < 135 by omega), tmOf_get (show 10 < 135 by omega), tmOf_get (show 14 < 135 by omega)] <;> rfl
    · refine ⟨?_, ?_, ?_, ?_⟩ <;> simp only [tmOf_get (show 2 < 135 by omega), tmOf_get (show 8 < 135 by omega), tmOf_get (show 15 < 135 by omega), tmOf_get (show 17 < 135 by omega)] <;> rfl
  · intro p hp ρ N v hr'
    simp only [div2U, List.mem_cons, List.not_mem_nil, or_false] at hp
    rcases hp with rfl | rfl | rfl | rfl | rfl
    · exact intOf_rep hq hr'
    · exact intOf_rep hr hr'
    · exact intOf_rep h9 hr'
    · exact intOf_rep h10 hr'
    · exact intOf_rep hcc hr'
theorem div_lok : LOk Try.prog (bodyOf Try.prog 101) divΛ := by
  refine ⟨fun {id c st st' o} hc hl ho => ?_⟩
  match id, hl, hc with
  | 0, hl, hc => exact div0_lok hc hl ho
  | 2, hl, hc => exact div2_lok hc hl ho
  | 1, hl, _ => cases hl
  | n + 3, hl, _ => cases hl
end Go.Proofs.Ytfmgodgakndjcaa
namespace Go.Wn
open Go.Ev
def B8 (x : Int) : Prop := 0 ≤ x ∧ x < 256
def sh8 (x s : Int) : Int := ishl .u64 (IntKind.u64.wrap x) s
def orL (a b c d e f g h : Int) : Int := (ior .u64 (ior .u64 (ior .u64 (ior .u64 (ior .u64 (ior .u64 (ior .u64 (ior .u64 0 (sh8 a 0)) (sh8 b 8)) (sh8 c 16)) (sh8 d 24)) (sh8 e 32)) (sh8 f 40)) (sh8 g 48)) (sh8 h 56))
def W8 (a b c d e f g h : Int) : Int := 72057594037927936 * a + 281474976710656 * b + 1099511627776 * c + 4294967296 * d + 16777216 * e + 65536 * f + 256 * g + 1 * h
theorem sh8_eq {x : Int} (h : B8 x) {s : Nat} (hs : s ≤ 56) : sh8 x s = x * 2 ^ s ∧ 0 ≤ x * 2 ^ s ∧ x * 2 ^ s < 18446744073709551616 := by
  unfold B8 at h
  have hp : (0 : Int) < 2 ^ s := Int.pow_pos (by omega)
  have h2 : (2 : Int) ^ s ≤ 2 ^ 56 := by exact_mod_cast Nat.pow_le_pow_right (by omega : 0 < 2) hs
  have h3 : 0 ≤ x * 2 ^ s := Int.mul_nonneg h.1 (by omega)
  have h4 : x * 2 ^ s ≤ 255 * 2 ^ s := Int.mul_le_mul_of_nonneg_right (by omega) (by omega)
  have h5 : x * 2 ^ s < 18446744073709551616 := by
    have : (2 : Int) ^ 56 = 72057594037927936 := by rfl
    omega
  refine ⟨?_, h3, h5⟩
  unfold sh8 ishl
  rw [uw64 (y := x) (by omega), Int.toNat_natCast, show min s IntKind.u64.bits = s by simp [IntKind.bits]; omega]
  exact uw64 ⟨h3, h5⟩
/-- 'or' of numbers whose bits stand apart is their sum. -/
theorem ior_sum {x y : Int} {s : Nat} {A : Int} (hA : 0 ≤ A) (hx : x = A * 2 ^ s) (hy : 0 ≤ y) (hy2 : y < 2 ^ s) (hb : x + y < 18446744073709551616) : ior .u64 x y = x + y ∧ ior .u64 y x = x + y := by
  have hp : (0 : Int) < 2 ^ s := Int.pow_pos (by omega)
  have hx0 : 0 ≤ x := by rw [hx]; exact Int.mul_nonneg hA (by omega)
  obtain ⟨X, rfl⟩ := Int.eq_ofNat_of_zero_le hx0
  obtain ⟨Y, rfl⟩ := Int.eq_ofNat_of_zero_le hy
  obtain ⟨a, rfl⟩ := Int.eq_ofNat_of_zero_le hA
  have hX : X = a <<< s := by rw [Nat.shiftLeft_eq]; exact_mod_cast hx
  have hY : Y < 2 ^ s := by exact_mod_cast hy2
  have key : X ||| Y = X + Y := by rw [hX]; exact (Nat.shiftLeft_add_eq_or_of_lt hY a).symm
  have e : ∀ z : Nat, (z : Int) < 18446744073709551616 → (bv (z : Int)).toNat = z := fun z hz => by
    have := bv_W (x := (z : Int)) ⟨by omega, hz⟩
    omega
  have one : ∀ u v : Nat, (u : Int) < 18446744073709551616 → (v : Int) < 18446744073709551616 → u ||| v = X + Y → ior .u64 u v = (X : Int) + Y := fun u v hu hv huv => by
    have h1 : (BitVec.ofInt IntKind.u64.bits (u : Int) ||| BitVec.ofInt IntKind.u64.bits (v : Int)).toNat = X + Y := by
      show (bv u ||| bv v).toNat = _
      rw [BitVec.toNat_or, e u hu, e v hv]; exact huv
    unfold ior
    rw [h1]
    exact uw64 (by omega)
  exact ⟨one X Y (by omega) (by omega) key, one Y X (by omega) (by omega) (by rw [Nat.or_comm]; exact key)⟩
theorem orL_eq {a b c d e f g h : Int} (ha : B8 a) (hb : B8 b) (hc : B8 c) (hd : B8 d) (he : B8 e) (hf : B8 f) (hg : B8 g) (hh : B8 h) : orL a b c d e f g h = W8 h g f e d c b a := by
  have ka := fun s hs => @sh8_eq a ha s hs
  have kb := fun s hs => @sh8_eq b hb s hs
  have kc := fun s hs => @sh8_eq c hc s hs
  have kd := fun s hs => @sh8_eq d hd s hs
  have ke := fun s hs => @sh8_eq e he s hs
  have kf := fun s hs => @sh8_eq f hf s hs
  have kg := fun s hs => @sh8_eq g hg s hs
  have kh := fun s hs => @sh8_eq h hh s hs
  unfold B8 at *
  unfold orL W8
  rw [show (56 : Int) = ((56 : Nat) : Int) from rfl, show (48 : Int) = ((48 : Nat) : Int) from rfl, show (40 : Int) = ((40 : Nat) : Int) from rfl, show (32 : Int) = ((32 : Nat) : Int) from rfl, show (24 : Int) = ((24 : Nat) : Int) from rfl, show (16 : Int) = ((16 : Nat) : Int) from rfl, show (8 : Int) = ((8 : Nat) : Int) from rfl]
  have z : sh8 a 0 = a * 2 ^ 0 := (ka 0 (by omega)).1
  rw [z, (kb 8 (by omega)).1, (kc 16 (by omega)).1, (kd 24 (by omega)).1, (ke 32 (by omega)).1, (kf 40 (by omega)).1, (kg 48 (by omega)).1, (kh 56 (by omega)).1]
  simp only [Int.reducePow]
  rw [(ior_sum (x := a * 1) (y := 0) (s := 0) (A := a) (by omega) (by simp only [Int.reducePow]) (by omega) (by simp only [Int.reducePow]; omega) (by omega)).2]
  rw [(ior_sum (x := b * 256) (y := (a * 1 + 0)) (s := 8) (A := b) (by omega) (by simp only [Int.reducePow]) (by omega) (by simp only [Int.reducePow]; omega) (by omega)).2]
  rw [(ior_sum (x := c * 65536) (y := (b * 256 + (a * 1 + 0))) (s := 16) (A := c) (by omega) (by simp only [Int.reducePow]) (by omega) (by simp only [Int.reducePow]; omega) (by omega)).2]
  rw [(ior_sum (x := d * 16777216) (y := (c * 65536 + (b * 256 + (a * 1 + 0)))) (s := 24) (A := d) (by omega) (by simp only [Int.reducePow]) (by omega) (by simp only [Int.reducePow]; omega) (by omega)).2]
  rw [(ior_sum (x := e * 4294967296) (y := (d * 16777216 + (c * 65536 + (b * 256 + (a * 1 + 0))))) (s := 32) (A := e) (by omega) (by simp only [Int.reducePow]) (by omega) (by simp only [Int.reducePow]; omega) (by omega)).2]
  rw [(ior_sum (x := f * 1099511627776) (y := (e * 4294967296 + (d * 16777216 + (c * 65536 + (b * 256 + (a * 1 + 0)))))) (s := 40) (A := f) (by omega) (by simp only [Int.reducePow]) (by omega) (by simp only [Int.reducePow]; omega) (by omega)).2]
  rw [(ior_sum (x := g * 281474976710656) (y := (f * 1099511627776 + (e * 4294967296 + (d * 16777216 + (c * 65536 + (b * 256 + (a * 1 + 0))))))) (s := 48) (A := g) (by omega) (by simp only [Int.reducePow]) (by omega) (by simp only [Int.reducePow]; omega) (by omega)).2]
  rw [(ior_sum (x := h * 72057594037927936) (y := (g * 281474976710656 + (f * 1099511627776 + (e * 4294967296 + (d * 16777216 + (c * 65536 + (b * 256 + (a * 1 + 0)))))))) (s := 56) (A := h) (by omega) (by simp only [Int.reducePow]) (by omega) (by simp only [Int.reducePow]; omega) (by omega)).2]
  omega
end Go.Wn
namespace Go.Ev
theorem view_of_goL {P : Program} {q : FuncId → Bool} {H : CallH} {Λ : LoopH} (hm : P.follows .mixedOrders = true) (hng : noCount P = true) (hH : HOk P H) {n : Nat} {g : FuncId} (hΛ : ∀ fn c, P.funcs[g]? = some fn → fn.body = some c → LOk P c Λ) {xs : List V} {o : List Bool} {v v' : AV} (ds : List Bool)
    (h : res ((funcL P q H Λ n g (cArgs 0 xs) (cMem xs)).go ds) = some (o, v)) (ho : Paid o) (hv : v = v') (hpl : plainAs v' = true) : ViewCall P g xs v' [] :=
  view_of_evalL hm hng hH hΛ hpl (go_sound (sat_eq h ho hv hpl))
end Go.Ev
namespace Go.Proofs.Ytfmgodgakndjcaa
open Go.Ev Go.Wn
set_option maxRecDepth 100000
def hr2 : CallH := withC 100 lz0 hr1
theorem hr2_ok : HOk Try.prog hr2 := hr1_ok.withC fun _ _ _ h ho => lz0_ok h ho
def dq (H y1 : Int) : Int := IntKind.u64.wrap (H.tdiv y1)
def dr (H y1 : Int) : Int := IntKind.u64.wrap (H - IntKind.u64.wrap (dq H y1 * y1))
def dQ (H y c : Int) : Int := divQ (dq H (ishr .u64 y 32)) (dr H (ishr .u64 y 32)) (ishr .u64 y 32) (iand .u64 y 4294967295) c
def dU (H y c : Int) : Int := IntKind.u64.wrap (IntKind.u64.wrap (IntKind.u64.wrap (H * 4294967296) + c) - IntKind.u64.wrap (dQ H y c * y))
def dI (H y c : Int) : Bool := decide (divI (dq H (ishr .u64 y 32)) (dr H (ishr .u64 y 32)) (ishr .u64 y 32) (iand .u64 y 4294967295) c)
def divA (H L y : Int) : AV := .tuple [.int true .u64 (IntKind.u64.wrap (IntKind.u64.wrap (dQ H y (ishr .u64 L 32) * 4294967296) + dQ (dU H y (ishr .u64 L 32)) y (iand .u64 L 4294967295))), .int true .u64 (ishr .u64 (dU (dU H y (ishr .u64 L 32)) y (iand .u64 L 4294967295)) 0)]
def divO (H L y : Int) : List Bool := [!decide (ishr .u64 y 32 = 0), dI H y (ishr .u64 L 32), !decide (ishr .u64 y 32 = 0), dI (dU H y (ishr .u64 L 32)) y (iand .u64 L 4294967295)]
theorem div_eval (hi lo y : Int) : res ((funcL Try.prog qAll hr2 divΛ 100 101 (cArgs 0 [.pl (.int true .u64 hi), .pl (.int true .u64 lo), .pl (.int true .u64 y)]) (cMem [.pl (.int true .u64 hi), .pl (.int true .u64 lo), .pl (.int true .u64 y)])).go [false, false, false]) =
    some ([!(y == 0), !decide (y ≤ hi), !(hi == 0), decide (9223372036854775808 ≤ y)] ++ divO (ior .u64 (ishl .u64 hi 0) (ishr .u64 lo 64)) (ishl .u64 lo 0) (ishl .u64 y 0), divA (ior .u64 (ishl .u64 hi 0) (ishr .u64 lo 64)) (ishl .u64 lo 0) (ishl .u64 y 0)) := by kernel_rfl
theorem div_eval0 (hi lo y : Int) : res ((funcL Try.prog qAll hr2 divΛ 100 101 (cArgs 0 [.pl (.int true .u64 hi), .pl (.int true .u64 lo), .pl (.int true .u64 y)]) (cMem [.pl (.int true .u64 hi), .pl (.int true .u64 lo), .pl (.int true .u64 y)])).go [false, false, true]) =
    some ([!(y == 0), !decide (y ≤ hi), hi == 0, !decide (y = 0), !decide (y = 0)], .tuple [.int true .u64 (IntKind.u64.wrap (lo.tdiv y)), .int true .u64 (lo.tmod y)]) := by kernel_rfl
theorem ishl0 {x : Int} (h : W x) : ishl .u64 x 0 = x := by
  unfold ishl
  rw [show (min (Int.toNat 0) IntKind.u64.bits) = 0 from rfl, Int.pow_zero, Int.mul_one]
  exact uw64 h
theorem ishr0 {x : Int} : ishr .u64 x 0 = x := by
  have : ishr .u64 x 0 = x / 2 ^ 0 := ishr_eq (r := 0) (by simp [IntKind.bits])
  rw [this, Int.pow_zero, Int.ediv_one]
theorem ishr64 {x : Int} (h : W x) : ishr .u64 x 64 = 0 := by
  have : ishr .u64 x 64 = x / 2 ^ 64 := ishr_eq (r := 64) (by simp [IntKind.bits])
  rw [this]
  exact Int.ediv_eq_zero_of_lt h.1 (by simpa using h.2)
theorem ior0 {x : Int} (h : W x) : ior .u64 x 0 = x := by
  have h2 := h.2
  have := (ior_sum (x := x) (y := 0) (s := 0) (A := x) h.1 (by rw [Int.pow_zero, Int.mul_one]) (Int.le_refl 0) (by decide) (by omega)).1
  rw [this, Int.add_zero]
/-- One digit of the quotient, and what is left. -/
theorem digit_all {H y c : Int} (hy : 9223372036854775808 ≤ y ∧ y < 18446744073709551616) (hH : 0 ≤ H ∧ H < y) (hc : 0 ≤ c ∧ c < 4294967296) :
    dI H y c = true ∧ dQ H y c = (H * 4294967296 + c) / y ∧ dU H y c = (H * 4294967296 + c) % y ∧ 0 ≤ dQ H y c ∧ dQ H y c < 4294967296 := by
  have wy : W y := ⟨by omega, hy.2⟩
  have e1 : ishr .u64 y 32 = y / 4294967296 := ishr32
  have e0 : iand .u64 y 4294967295 = y % 4294967296 := iand_low wy
  have h1 : 2147483648 ≤ y / 4294967296 ∧ y / 4294967296 < 4294967296 := by omega
  have h0 : 0 ≤ y % 4294967296 ∧ y % 4294967296 < 4294967296 := by omega
  have ey : y / 4294967296 * 4294967296 + y % 4294967296 = y := by omega
  obtain ⟨f1, f2, f3, f4, f5, f6, f7⟩ := digit_first h1 h0 hc (H := H) (by rw [ey]; exact hH)
  have q1 : dq H (y / 4294967296) = H / (y / 4294967296) := by
    unfold dq
    rw [Int.tdiv_eq_ediv_of_nonneg hH.1]
    exact uw64 (by omega)
  have hm : 0 ≤ H / (y / 4294967296) * (y / 4294967296) := Int.mul_nonneg f2 (by omega)
  have r1 : dr H (y / 4294967296) = H - H / (y / 4294967296) * (y / 4294967296) := by
    unfold dr
    rw [q1, uw64 (y := H / (y / 4294967296) * (y / 4294967296)) (by omega)]
    exact uw64 (by omega)
  have eQ : divQ (H / (y / 4294967296)) (H - H / (y / 4294967296) * (y / 4294967296)) (y / 4294967296) (y % 4294967296) c = (H * 4294967296 + c) / y := by
    unfold divQ
    rw [ey, show H / (y / 4294967296) * (y / 4294967296) + (H - H / (y / 4294967296) * (y / 4294967296)) = H by omega]
  rw [ey] at f1 f6 f7
  have hQ : dQ H y c = (H * 4294967296 + c) / y := by
    unfold dQ
    rw [e1, e0, q1, r1, eQ]
  refine ⟨?_, hQ, ?_, by rw [hQ]; exact f6, by rw [hQ]; exact f7⟩
  · unfold dI
    rw [e1, e0, q1, r1]
    exact decide_eq_true ⟨h1.1, h1.2, h0.1, h0.2, hc.1, hc.2, f4, by omega, f2, f3, by rw [eQ]; exact f1, by rw [eQ]; exact f7⟩
  · unfold dU
    rw [hQ]
    have g1 := Int.emod_add_mul_ediv (H * 4294967296 + c) y
    have g2 := Int.emod_nonneg (H * 4294967296 + c) (show y ≠ 0 by omega)
    have g3 := Int.emod_lt_of_pos (H * 4294967296 + c) (show 0 < y by omega)
    have g4 : (H * 4294967296 + c) / y * y = y * ((H * 4294967296 + c) / y) := Int.mul_comm _ _
    simp only [wrap_eq]
    rw [g4]
    generalize y * ((H * 4294967296 + c) / y) = z at *
    omega
def divS : List V → E (AV × Mem)
  | [.pl (.int _ .u64 hi), .pl (.int _ .u64 lo), .pl (.int _ .u64 y)] => some ([decide (hi < y), decide (9223372036854775808 ≤ y)], (.tuple [.int true .u64 ((hi * 18446744073709551616 + lo) / y), .int true .u64 ((hi * 18446744073709551616 + lo) % y)], []))
  | _ => none
theorem divA_eq {H L y q1 q0 u r : Int} (h1 : dQ H y (ishr .u64 L 32) = q1) (h2 : dU H y (ishr .u64 L 32) = u) (h3 : dQ u y (iand .u64 L 4294967295) = q0) (h4 : dU u y (iand .u64 L 4294967295) = r) (g1 : 0 ≤ q1 ∧ q1 < 4294967296) (g0 : 0 ≤ q0 ∧ q0 < 4294967296) :
    divA H L y = .tuple [.int true .u64 (q1 * 4294967296 + q0), .int true .u64 r] := by
  unfold divA
  rw [h2, h1, h3, h4, ishr0, uw64 (y := q1 * 4294967296) (by omega), uw64 (y := q1 * 4294967296 + q0) (by omega)]
theorem div_ok {xs : List V} {o : List Bool} {v : AV} {bs : Mem} (h : divS xs = some (o, (v, bs))) (ho : Paid o) : ViewCall Try.prog 101 xs v bs := by
  unfold divS at h
  split at h
  · rename_i s1 hi s2 lo s3 y
    cases h
    have h1 := ho _ (List.mem_cons_self ..)
    have h2 := ho _ (List.mem_cons_of_mem _ (List.mem_cons_self ..))
    rw [decide_eq_true_eq] at h1 h2
    intro ρ vs w ha hi'
    have hb := ha
    cases hb with
    | cons _ _ _ _ r0 hb => cases hb with
      | cons _ _ _ _ r1 hb => cases hb with
        | cons _ _ _ _ r2 hb =>
          cases hb
          have wh := int_arg r0; have wl := int_arg r1; have wy := int_arg r2
          have ha' : Reps ρ (upto 3) (cArgs 0 [.pl (.int true .u64 hi), .pl (.int true .u64 lo), .pl (.int true .u64 y)]) _ := .cons _ _ _ _ (remark r0) (.cons _ _ _ _ (remark r1) (.cons _ _ _ _ (remark r2) .nil))
          have y0 : (!(y == 0)) = true := by
            have : ¬ y = 0 := by omega
            simpa using this
          have yh : (!decide (y ≤ hi)) = true := by rw [decide_eq_false (by omega)]; rfl
          rcases Classical.em (hi = 0) with hz | hz
          · subst hz
            have yz : (!decide (y = 0)) = true := by rw [decide_eq_false (by omega)]; rfl
            refine view_of_goL mixed noCount hr2_ok (fun fn c hf hb => by rw [bodyOf_eq hf hb]; exact div_lok) [false, false, true] (div_eval0 0 lo y) (paid_cons y0 (paid_cons yh (paid_cons rfl (paid_cons yz (paid_cons yz Paid.nil))))) ?_ (by kernel_rfl) ha' hi'
            have hd : 0 ≤ lo / y ∧ lo / y ≤ lo := ⟨Int.ediv_nonneg wl.1 (by omega), Int.ediv_le_self y wl.1⟩
            have hl2 := wl.2
            rw [Int.tdiv_eq_ediv_of_nonneg wl.1, Int.tmod_eq_emod_of_nonneg wl.1, uw64 (y := lo / y) (by omega), Int.zero_mul, Int.zero_add]
          · have hl1 := wl.1; have hl2 := wl.2; have hh1 := wh.1; have hy2 := wy.2
            have c1 : ishr .u64 lo 32 = lo / 4294967296 := ishr32
            have c0 : iand .u64 lo 4294967295 = lo % 4294967296 := iand_low wl
            obtain ⟨a1, a2, a3, a4, a5⟩ := digit_all (H := hi) (y := y) (c := lo / 4294967296) ⟨h2, hy2⟩ ⟨hh1, h1⟩ (by omega)
            obtain ⟨b1, b2, b3, b4, b5⟩ := digit_all (H := (hi * 4294967296 + lo / 4294967296) % y) (y := y) (c := lo % 4294967296) ⟨h2, hy2⟩ ⟨Int.emod_nonneg _ (by omega), Int.emod_lt_of_pos _ (by omega)⟩ (by omega)
            obtain ⟨t1, t2⟩ := two_digits (hi := hi) (lo := lo) (y := y) (by omega) (lo / 4294967296) (lo % 4294967296) (by omega)
            have a2' : dQ hi y (ishr .u64 lo 32) = (hi * 4294967296 + lo / 4294967296) / y := by rw [c1]; exact a2
            have a3' : dU hi y (ishr .u64 lo 32) = (hi * 4294967296 + lo / 4294967296) % y := by rw [c1]; exact a3
            have b2' : dQ ((hi * 4294967296 + lo / 4294967296) % y) y (iand .u64 lo 4294967295) = ((hi * 4294967296 + lo / 4294967296) % y * 4294967296 + lo % 4294967296) / y := by rw [c0]; exact b2
            have b3' : dU ((hi * 4294967296 + lo / 4294967296) % y) y (iand .u64 lo 4294967295) = ((hi * 4294967296 + lo / 4294967296) % y * 4294967296 + lo % 4294967296) % y := by rw [c0]; exact b3
            rw [a2] at a4 a5
            rw [b2] at b4 b5
            have ev := div_eval hi lo y
            rw [ishl0 wh, ishl0 wl, ishl0 wy, ishr64 wl, ior0 wh] at ev
            have yq : (!decide (ishr .u64 y 32 = 0)) = true := by
              rw [show ishr .u64 y 32 = y / 4294967296 from ishr32, decide_eq_false (by omega)]; rfl
            refine view_of_goL mixed noCount hr2_ok (fun fn c hf hb => by rw [bodyOf_eq hf hb]; exact div_lok) [false, false, false] ev (paid_append.2 ⟨paid_cons y0 (paid_cons yh (paid_cons (by simpa using hz) (paid_cons (decide_eq_true h2) Paid.nil))), ?_⟩) ?_ (by kernel_rfl) ha' hi'
            · unfold divO
              rw [c1, c0, a3]
              exact paid_cons yq (paid_cons a1 (paid_cons yq (paid_cons b1 Paid.nil)))
            · rw [divA_eq a2' a3' b2' b3' ⟨a4, a5⟩ ⟨b4, b5⟩, t1, t2]
  · cases h
end Go.Proofs.Ytfmgodgakndjcaa
