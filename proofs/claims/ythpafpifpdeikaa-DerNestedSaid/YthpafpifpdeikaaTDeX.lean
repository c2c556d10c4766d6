/- Elements one in the other: the loop that puts. Own work. -/
import Derived.Test.YthpafpifpdeikaaTDeW
set_option linter.unusedSimpArgs false
set_option linter.unusedVariables false
set_option linter.unusedSectionVars false
namespace Go.Proofs.Ythpafpifpdeikaa
open Go.Ev Go.De
set_option maxRecDepth 100000
set_option linter.unusedSimpArgs false
set_option linter.unusedVariables false
variable [Tab]
theorem putB_len (t : Int) (s : List Int) : (putB t s).length ≤ s.length + 4 ∧ s.length + 2 ≤ (putB t s).length := by
  unfold putB
  simp only [List.length_cons, List.length_append]
  have h1 : (lenB s.length).length ≤ 3 ∧ 1 ≤ (lenB s.length).length := by unfold lenB; split <;> (try split) <;> simp
  omega
theorem nest_len (c : List Int) : ∀ j, (nest c j).length ≤ c.length + 4 * j
  | 0 => Nat.le_refl _
  | j + 1 => by
    have := nest_len c j
    have h := (putB_len 48 (nest c j)).1
    unfold nest
    omega
structure p1A where
  K : Int
  K2 : Int
  i : Int
  L : Nat
  c : List Int
  ka : AV
  hk : bndA 2 ka = true
def p1ATs : List Nat := [0, 1, 5, 21, 22]
def p1AV (s : p1A) : List AV := [.int true .i64 s.K, s.ka, .slice true 2 0 s.L none 1, .int true .i64 s.K2, .int true .i64 s.i]
def p1AM (s : p1A) : Mem := [none, none, some ⟨true, .ints .u8 none s.c⟩]
def p1AD1 (s : p1A) : List Bool := [decide (((p1A.i s) : Int) < (p1A.K2 s)), decide (((p1A.L s) : Nat) < 9223372036854775808), (!decide (((((p1A.L s) : Nat) : Int) : Int) > 65535)), decide (((p1A.L s) : Nat) < 9223372036854775808), decide (((IntKind.wrap .i64 (0 + (((p1A.L s) : Nat) : Int))) : Int) < 128), decide (((0 + (p1A.L s)) : Nat) ≤ (List.length (p1A.c s))), decide (((2 + (p1A.L s)) : Nat) ≤ 1000000000)]
theorem p1A_t1 (s : p1A) : seesL p1ATs ((codeL Try.prog qA (putH 1 [false] n0) (fun _ _ => none) 100 (lp (blk 0 (bodyOf Try.prog 10))) ⟨tmOf (ups (fun _ => .top) (zipU p1ATs (p1AV s))) 50, p1AM s⟩).go [true]) = some (p1AD1 s, 0, [.int true .i64 s.K, s.ka, .slice true 7 0 (2 + s.L) none 1, .int true .i64 s.K2, .int true .i64 (IntKind.wrap .i64 (s.i + 1))], 50,
    [none, none, some ⟨true, .ints .u8 none s.c⟩, some ⟨true, .vals [.slice true 2 0 s.L none 1]⟩, none, some ⟨true, .vals [.int true .u8 (IntKind.wrap .u8 (IntKind.wrap .i64 (0 + ((s.L : Nat) : Int))))]⟩, none, some ⟨true, .ints .u8 none (([48] ++ [IntKind.wrap .u8 (IntKind.wrap .i64 (0 + ((s.L : Nat) : Int)))]) ++ List.take s.L (List.drop 0 s.c))⟩]) := by kernel_rfl
theorem p1AD1_paid {s : p1A} (h1 : s.c.length = s.L) (h2 : s.L ≤ 60000) (hi : s.i < s.K2) (hk : s.L < 128) : Paid (p1AD1 s) := by
  unfold p1AD1
  have w : IntKind.wrap .i64 (0 + ((s.L : Nat) : Int)) = ((s.L : Nat) : Int) := by rw [wrap64]; omega
  simp only [w]
  refine paid_cons ?_ (paid_cons ?_ (paid_cons ?_ (paid_cons ?_ (paid_cons ?_ (paid_cons ?_ (paid_cons ?_ (fun _ h => by cases h)))))))
  all_goals (try simp only [Bool.and_eq_true, Bool.or_eq_true, Bool.not_eq_true', Bool.not_true, Bool.not_false, Bool.not_eq_eq_eq_not, decide_eq_true_eq, decide_eq_false_iff_not, beq_iff_eq, beq_eq_false_iff_ne, bne_iff_ne, bne_eq_false_iff_eq, ne_eq, Bool.or_eq_false_iff, Bool.and_eq_false_imp, Bool.and_true, Bool.true_and, Bool.or_false, Bool.false_or, Bool.or_true, Bool.true_or, Bool.and_false, Bool.false_and, and_true, true_and, not_true_eq_false, not_false_eq_true]) <;> omega
theorem p1A_b1 {s : p1A} (h1 : s.c.length = s.L) (h2 : s.L ≤ 60000) (hk : s.L < 128) : ([48] ++ [IntKind.wrap .u8 (IntKind.wrap .i64 (0 + ((s.L : Nat) : Int)))]) ++ List.take s.L (List.drop 0 s.c) = putB 48 s.c ∧ 2 + s.L = (putB 48 s.c).length := by
  have w : IntKind.wrap .i64 (0 + ((s.L : Nat) : Int)) = ((s.L : Nat) : Int) := by rw [wrap64]; omega
  have hT : List.take s.L (List.drop 0 s.c) = s.c := by rw [List.drop_zero]; exact List.take_of_length_le (by omega)
  have hC : putB 48 s.c = 48 :: (lenB s.L ++ s.c) := by unfold putB; rw [h1]
  rw [lenB_1 hk] at hC
  rw [hT, w, hC]
  refine ⟨?_, by simp only [List.length_cons, List.length_append, List.length_nil]; omega⟩
  simp only [wrapB, ishr8, List.cons_append, List.nil_append, List.cons.injEq, true_and, and_true]
  omega
def p1AD2 (s : p1A) : List Bool := [decide (((p1A.i s) : Int) < (p1A.K2 s)), decide (((p1A.L s) : Nat) < 9223372036854775808), (!decide (((((p1A.L s) : Nat) : Int) : Int) > 65535)), decide (((p1A.L s) : Nat) < 9223372036854775808), (!decide (((IntKind.wrap .i64 (0 + (((p1A.L s) : Nat) : Int))) : Int) < 128)), decide (((IntKind.wrap .i64 (0 + (((p1A.L s) : Nat) : Int))) : Int) < 256), decide (((0 + (p1A.L s)) : Nat) ≤ (List.length (p1A.c s))), decide (((3 + (p1A.L s)) : Nat) ≤ 1000000000)]
theorem p1A_t2 (s : p1A) : seesL p1ATs ((codeL Try.prog qA (putH 2 [false] n0) (fun _ _ => none) 100 (lp (blk 0 (bodyOf Try.prog 10))) ⟨tmOf (ups (fun _ => .top) (zipU p1ATs (p1AV s))) 50, p1AM s⟩).go [true]) = some (p1AD2 s, 0, [.int true .i64 s.K, s.ka, .slice true 7 0 (3 + s.L) none 1, .int true .i64 s.K2, .int true .i64 (IntKind.wrap .i64 (s.i + 1))], 50,
    [none, none, some ⟨true, .ints .u8 none s.c⟩, some ⟨true, .vals [.slice true 2 0 s.L none 1]⟩, none, some ⟨true, .vals [.int false .u8 129, .int true .u8 (IntKind.wrap .u8 (IntKind.wrap .i64 (0 + ((s.L : Nat) : Int))))]⟩, none, some ⟨true, .ints .u8 none (([48] ++ [129, IntKind.wrap .u8 (IntKind.wrap .i64 (0 + ((s.L : Nat) : Int)))]) ++ List.take s.L (List.drop 0 s.c))⟩]) := by kernel_rfl
theorem p1AD2_paid {s : p1A} (h1 : s.c.length = s.L) (h2 : s.L ≤ 60000) (hi : s.i < s.K2) (hk : ¬ s.L < 128) (hk2 : s.L < 256) : Paid (p1AD2 s) := by
  unfold p1AD2
  have w : IntKind.wrap .i64 (0 + ((s.L : Nat) : Int)) = ((s.L : Nat) : Int) := by rw [wrap64]; omega
  simp only [w]
  refine paid_cons ?_ (paid_cons ?_ (paid_cons ?_ (paid_cons ?_ (paid_cons ?_ (paid_cons ?_ (paid_cons ?_ (paid_cons ?_ (fun _ h => by cases h))))))))
  all_goals (try simp only [Bool.and_eq_true, Bool.or_eq_true, Bool.not_eq_true', Bool.not_true, Bool.not_false, Bool.not_eq_eq_eq_not, decide_eq_true_eq, decide_eq_false_iff_not, beq_iff_eq, beq_eq_false_iff_ne, bne_iff_ne, bne_eq_false_iff_eq, ne_eq, Bool.or_eq_false_iff, Bool.and_eq_false_imp, Bool.and_true, Bool.true_and, Bool.or_false, Bool.false_or, Bool.or_true, Bool.true_or, Bool.and_false, Bool.false_and, and_true, true_and, not_true_eq_false, not_false_eq_true]) <;> omega
theorem p1A_b2 {s : p1A} (h1 : s.c.length = s.L) (h2 : s.L ≤ 60000) (hk : ¬ s.L < 128) (hk2 : s.L < 256) : ([48] ++ [129, IntKind.wrap .u8 (IntKind.wrap .i64 (0 + ((s.L : Nat) : Int)))]) ++ List.take s.L (List.drop 0 s.c) = putB 48 s.c ∧ 3 + s.L = (putB 48 s.c).length := by
  have w : IntKind.wrap .i64 (0 + ((s.L : Nat) : Int)) = ((s.L : Nat) : Int) := by rw [wrap64]; omega
  have hT : List.take s.L (List.drop 0 s.c) = s.c := by rw [List.drop_zero]; exact List.take_of_length_le (by omega)
  have hC : putB 48 s.c = 48 :: (lenB s.L ++ s.c) := by unfold putB; rw [h1]
  rw [lenB_2 hk hk2] at hC
  rw [hT, w, hC]
  refine ⟨?_, by simp only [List.length_cons, List.length_append, List.length_nil]; omega⟩
  simp only [wrapB, ishr8, List.cons_append, List.nil_append, List.cons.injEq, true_and, and_true]
  omega
def p1AD3 (s : p1A) : List Bool := [decide (((p1A.i s) : Int) < (p1A.K2 s)), decide (((p1A.L s) : Nat) < 9223372036854775808), (!decide (((((p1A.L s) : Nat) : Int) : Int) > 65535)), decide (((p1A.L s) : Nat) < 9223372036854775808), (!decide (((IntKind.wrap .i64 (0 + (((p1A.L s) : Nat) : Int))) : Int) < 128)), (!decide (((IntKind.wrap .i64 (0 + (((p1A.L s) : Nat) : Int))) : Int) < 256)), decide (((0 + (p1A.L s)) : Nat) ≤ (List.length (p1A.c s))), decide (((4 + (p1A.L s)) : Nat) ≤ 1000000000)]
theorem p1A_t3 (s : p1A) : seesL p1ATs ((codeL Try.prog qA (putH 3 [false] n0) (fun _ _ => none) 100 (lp (blk 0 (bodyOf Try.prog 10))) ⟨tmOf (ups (fun _ => .top) (zipU p1ATs (p1AV s))) 50, p1AM s⟩).go [true]) = some (p1AD3 s, 0, [.int true .i64 s.K, s.ka, .slice true 7 0 (4 + s.L) none 1, .int true .i64 s.K2, .int true .i64 (IntKind.wrap .i64 (s.i + 1))], 50,
    [none, none, some ⟨true, .ints .u8 none s.c⟩, some ⟨true, .vals [.slice true 2 0 s.L none 1]⟩, none, some ⟨true, .vals [.int false .u8 130, .int true .u8 (IntKind.wrap .u8 (ishr .i64 (IntKind.wrap .i64 (0 + ((s.L : Nat) : Int))) 8)), .int true .u8 (IntKind.wrap .u8 (IntKind.wrap .i64 (0 + ((s.L : Nat) : Int))))]⟩, none, some ⟨true, .ints .u8 none (([48] ++ [130, IntKind.wrap .u8 (ishr .i64 (IntKind.wrap .i64 (0 + ((s.L : Nat) : Int))) 8), IntKind.wrap .u8 (IntKind.wrap .i64 (0 + ((s.L : Nat) : Int)))]) ++ List.take s.L (List.drop 0 s.c))⟩]) := by kernel_rfl
theorem p1AD3_paid {s : p1A} (h1 : s.c.length = s.L) (h2 : s.L ≤ 60000) (hi : s.i < s.K2) (hk : ¬ s.L < 256) : Paid (p1AD3 s) := by
  unfold p1AD3
  have w : IntKind.wrap .i64 (0 + ((s.L : Nat) : Int)) = ((s.L : Nat) : Int) := by rw [wrap64]; omega
  simp only [w]
  refine paid_cons ?_ (paid_cons ?_ (paid_cons ?_ (paid_cons ?_ (paid_cons ?_ (paid_cons ?_ (paid_cons ?_ (paid_cons ?_ (fun _ h => by cases h))))))))
  all_goals (try simp only [Bool.and_eq_true, Bool.or_eq_true, Bool.not_eq_true', Bool.not_true, Bool.not_false, Bool.not_eq_eq_eq_not, decide_eq_true_eq, decide_eq_false_iff_not, beq_iff_eq, beq_eq_false_iff_ne, bne_iff_ne, bne_eq_false_iff_eq, ne_eq, Bool.or_eq_false_iff, Bool.and_eq_false_imp, Bool.and_true, Bool.true_and, Bool.or_false, Bool.false_or, Bool.or_true, Bool.true_or, Bool.and_false, Bool.false_and, and_true, true_and, not_true_eq_false, not_false_eq_true]) <;> omega
theorem p1A_b3 {s : p1A} (h1 : s.c.length = s.L) (h2 : s.L ≤ 60000) (hk : ¬ s.L < 256) : ([48] ++ [130, IntKind.wrap .u8 (ishr .i64 (IntKind.wrap .i64 (0 + ((s.L : Nat) : Int))) 8), IntKind.wrap .u8 (IntKind.wrap .i64 (0 + ((s.L : Nat) : Int)))]) ++ List.take s.L (List.drop 0 s.c) = putB 48 s.c ∧ 4 + s.L = (putB 48 s.c).length := by
  have w : IntKind.wrap .i64 (0 + ((s.L : Nat) : Int)) = ((s.L : Nat) : Int) := by rw [wrap64]; omega
  have hT : List.take s.L (List.drop 0 s.c) = s.c := by rw [List.drop_zero]; exact List.take_of_length_le (by omega)
  have hC : putB 48 s.c = 48 :: (lenB s.L ++ s.c) := by unfold putB; rw [h1]
  rw [lenB_3 hk] at hC
  rw [hT, w, hC]
  refine ⟨?_, by simp only [List.length_cons, List.length_append, List.length_nil]; omega⟩
  simp only [wrapB, ishr8, List.cons_append, List.nil_append, List.cons.injEq, true_and, and_true]
  omega
theorem p1A_f (s : p1A) : seesL p1ATs ((codeL Try.prog qA (putH 1 [false] n0) (fun _ _ => none) 100 (lp (blk 0 (bodyOf Try.prog 10))) ⟨tmOf (ups (fun _ => .top) (zipU p1ATs (p1AV s))) 50, p1AM s⟩).go [false]) = some ([(!decide (((p1A.i s) : Int) < (p1A.K2 s)))], 2, p1AV s, 50, p1AM s) := by kernel_rfl
def p1AO (s : p1A) : List Bool := [decide (s.c.length = s.L), decide (s.L ≤ 210), decide (1 ≤ s.K), decide (s.K ≤ 60), decide (s.K2 = s.K), decide (s.i = 0)]
def p1AE (s : p1A) (j : Nat) : p1A := { s with i := (j : Int), L := (nest s.c j).length, c := nest s.c j }
def p1AF (s : p1A) : List (Nat × AV) × Mem := ([(0, .int true .i64 s.K), (1, s.ka), (5, .slice true 2 0 (nest s.c s.K.toNat).length none 1)], p1AM (p1AE s s.K.toNat))
def p1APat : List AV → Mem → Option p1A
  | [.int true .i64 K, ka, .slice _ 6 0 L none 1, .int true .i64 K2, .int _ .i64 i], [none, none, _, none, _, none, some ⟨true, .ints .u8 _ c⟩] => if hk : bndA 2 ka = true then some ⟨K, K2, i, L, c, ka, hk⟩ else none
  | _, _ => none
def p1AΛ (Λ : LoopH) : LoopH := famH 0 50 p1ATs p1APat p1AO p1AF Λ
theorem p1A_go {s : p1A} {b : Bool} {nb : Nat} {m : Mem} {i : Int} {bi : Bool} {L : Nat} {c : List Int} {sz : Option Nat} (hnb : 2 ≤ nb) (hm1 : m[1]? = some (p1AM s)[1]!) (hmb : m[nb]? = some (some ⟨true, .ints .u8 sz c⟩)) (hc : LeC (.ints .u8 sz c) (.ints .u8 none c)) (hl : L = s.L) (hcc : c = s.c) (hi : i = s.i) :
    Goes 2 (oneR 2 nb) p1ATs [.int true .i64 s.K, s.ka, .slice b nb 0 L none 1, .int true .i64 s.K2, .int bi .i64 i] m (zipU p1ATs (p1AV s)) (p1AM s) := by
  subst hl hcc hi
  have e2 : oneR 2 nb 2 = nb := rfl
  refine Goes.zip ?_ ?_ (oneR_inj hnb) (oneR_fix _ _) (show 2 ≤ 3 by decide) rfl ?_
  · exact .cons (.refl _) (.cons (by rw [renA_fix (k := 2) (fun i hi => by unfold oneR; rw [show Nat.beq i 2 = false by cases h : Nat.beq i 2 with | false => rfl | true => have := Nat.eq_of_beq_eq_true h; omega]) _ s.hk]; exact .refl _) (.cons (.slice b true nb 0 s.L none none 1 (Or.inl rfl)) (.cons (.refl _) (.cons (.int bi true .i64 s.i) .nil))))
  · exact ⟨⟨_, by rw [e2]; exact hmb, hc⟩, trivial⟩
  · simp [p1AM, p1AV, bndL, bndA, bndA_le (show 2 ≤ 3 by decide) _ s.hk]
theorem p1A_lok {Λ : LoopH} (hΛ : LOkN 2 Try.prog (bodyOf Try.prog 10) Λ) : LOkN 2 Try.prog (bodyOf Try.prog 10) (p1AΛ Λ) := by
  refine famR_okx (n := 100) p1AV p1AM (fun s s1 => s.c.length = s.L ∧ s.L ≤ 210 ∧ 1 ≤ s.K ∧ s.K ≤ 60 ∧ s.K2 = s.K ∧ ∃ j : Nat, (j : Int) ≤ s.K ∧ s1 = p1AE s j) (fun s => (s.K - s.i).toNat) mixed hΛ (by kernel_rfl) (by kernel_rfl) (fun avs m s h ho => ?_) (fun s s1 hJ => ?_)
  · unfold p1APat at h
    split at h
    · split at h
      case isFalse => cases h
      cases h
      have o1 := of_decide_eq_true (ho _ (List.mem_cons_self ..))
      have o2 := of_decide_eq_true (ho _ (List.mem_cons_of_mem _ (List.mem_cons_self ..)))
      have o3 := of_decide_eq_true (ho _ (List.mem_cons_of_mem _ (List.mem_cons_of_mem _ (List.mem_cons_self ..))))
      have o4 := of_decide_eq_true (ho _ (List.mem_cons_of_mem _ (List.mem_cons_of_mem _ (List.mem_cons_of_mem _ (List.mem_cons_self ..)))))
      have o5 := of_decide_eq_true (ho _ (List.mem_cons_of_mem _ (List.mem_cons_of_mem _ (List.mem_cons_of_mem _ (List.mem_cons_of_mem _ (List.mem_cons_self ..))))))
      have o6 := of_decide_eq_true (ho _ (List.mem_cons_of_mem _ (List.mem_cons_of_mem _ (List.mem_cons_of_mem _ (List.mem_cons_of_mem _ (List.mem_cons_of_mem _ (List.mem_cons_self ..)))))))
      simp only at o1 o2 o3 o4 o5 o6
      refine ⟨⟨_, _, _, _, _, _, (by assumption)⟩, oneR 2 6, p1A_go (s := ⟨_, _, _, _, _, _, (by assumption)⟩) (nb := 6) (show 2 ≤ 6 by decide) rfl rfl ?_ rfl rfl rfl, o1, o2, o3, o4, o5, 0, Int.le_trans (show ((0 : Nat) : Int) ≤ 1 by decide) o3, ?_⟩
      · rename_i sz _ _
        cases sz with
        | none => exact .refl _
        | some z => exact .free _ _ _
      · subst o6
        show _ = p1AE _ 0
        unfold p1AE
        simp only [nest, o1]
        rfl
    · cases h
  · obtain ⟨h1, h2, h3, h4, h5, j, hj, rfl⟩ := hJ
    have hL := nest_len s.c j
    by_cases hlt : (j : Int) < s.K
    · have hs2 : p1AE s (j + 1) = p1AE s (j + 1) := rfl
      have hlen : (p1AE s j).L ≤ 60000 := by show (nest s.c j).length ≤ 60000; omega
      have hcl : (p1AE s j).c.length = (p1AE s j).L := rfl
      have hii : (p1AE s j).i < (p1AE s j).K2 := by show (j : Int) < s.K2; omega
      have hw : IntKind.wrap .i64 ((p1AE s j).i + 1) = (p1AE s (j + 1)).i := by show IntKind.wrap .i64 ((j : Int) + 1) = ((j + 1 : Nat) : Int); rw [wrap64]; omega
      have hmu : ((p1AE s (j + 1)).K - (p1AE s (j + 1)).i).toNat < ((p1AE s j).K - (p1AE s j).i).toNat := by show (s.K - ((j + 1 : Nat) : Int)).toNat < (s.K - (j : Int)).toNat; omega
      by_cases hk : (p1AE s j).L < 128
      · obtain ⟨e1, e2⟩ := p1A_b1 hcl hlen hk
        exact ⟨qA, putH 1 [false] n0, fun _ _ => none, putH_ok n0_ok 1 _, LOkN.none, RoundR.on (p1A_t1 _) (p1AE s (j + 1)) (oneR 2 7) (p1AD1_paid hcl hlen hii hk)
          (p1A_go (by decide) rfl rfl (.refl _) e2 e1 hw) ⟨h1, h2, h3, h4, h5, j + 1, by omega, rfl⟩ hmu⟩
      by_cases hk2 : (p1AE s j).L < 256
      · obtain ⟨e1, e2⟩ := p1A_b2 hcl hlen hk hk2
        exact ⟨qA, putH 2 [false] n0, fun _ _ => none, putH_ok n0_ok 2 _, LOkN.none, RoundR.on (p1A_t2 _) (p1AE s (j + 1)) (oneR 2 7) (p1AD2_paid hcl hlen hii hk hk2)
          (p1A_go (by decide) rfl rfl (.refl _) e2 e1 hw) ⟨h1, h2, h3, h4, h5, j + 1, by omega, rfl⟩ hmu⟩
      · obtain ⟨e1, e2⟩ := p1A_b3 hcl hlen hk2
        exact ⟨qA, putH 3 [false] n0, fun _ _ => none, putH_ok n0_ok 3 _, LOkN.none, RoundR.on (p1A_t3 _) (p1AE s (j + 1)) (oneR 2 7) (p1AD3_paid hcl hlen hii hk2)
          (p1A_go (by decide) rfl rfl (.refl _) e2 e1 hw) ⟨h1, h2, h3, h4, h5, j + 1, by omega, rfl⟩ hmu⟩
    · have ej : j = s.K.toNat := by omega
      subst ej
      refine ⟨qA, putH 1 [false] n0, fun _ _ => none, putH_ok n0_ok 1 _, LOkN.none, RoundR.out (p1A_f _) rfl (oneR 2 2) (paid_cons (by simp only [Bool.and_eq_true, Bool.or_eq_true, Bool.not_eq_true', Bool.not_true, Bool.not_false, Bool.not_eq_eq_eq_not, decide_eq_true_eq, decide_eq_false_iff_not, beq_iff_eq, beq_eq_false_iff_ne, bne_iff_ne, bne_eq_false_iff_eq, ne_eq, Bool.or_eq_false_iff, Bool.and_eq_false_imp, Bool.and_true, Bool.true_and, Bool.or_false, Bool.false_or, Bool.or_true, Bool.true_or, Bool.and_false, Bool.false_and, and_true, true_and, not_true_eq_false, not_false_eq_true]; show ¬ ((s.K.toNat : Int) < s.K2); omega) fun _ h => by cases h) ?_⟩
      have hg := p1A_go (s := p1AE s s.K.toNat) (b := true) (nb := 2) (m := p1AM (p1AE s s.K.toNat)) (bi := true) (by decide) rfl rfl (.refl _) rfl rfl rfl
      refine ⟨fun p hp => hg.slots p ?_, hg.pulls, hg.inj, hg.fix, hg.le, hg.bm, ?_⟩
      · simp only [p1AF, List.mem_cons, List.not_mem_nil, or_false] at hp
        rcases hp with rfl | rfl | rfl <;> simp [zipU, p1ATs, p1AV, p1AE]
      · simp [p1AF, p1AM, p1AE, bndL, bndA, bndA_le (show 2 ≤ 3 by decide) _ s.hk]
structure p1B where
  K : Int
  K2 : Int
  i : Int
  L : Nat
  c : List Int
  N : Nat
  N2 : Nat
  l : List Int
def p1BTs : List Nat := [0, 1, 5, 21, 22]
def p1BV (s : p1B) : List AV := [.int true .i64 s.K, .slice true 1 0 s.N2 none 1, .slice true 2 0 s.L none 1, .int true .i64 s.K2, .int true .i64 s.i]
def p1BM (s : p1B) : Mem := [none, some ⟨false, .ints .u8 (some s.N) s.l⟩, some ⟨true, .ints .u8 none s.c⟩]
def p1BD1 (s : p1B) : List Bool := [decide (((p1B.i s) : Int) < (p1B.K2 s)), decide (((p1B.L s) : Nat) < 9223372036854775808), (!decide (((((p1B.L s) : Nat) : Int) : Int) > 65535)), decide (((p1B.L s) : Nat) < 9223372036854775808), decide (((IntKind.wrap .i64 (0 + (((p1B.L s) : Nat) : Int))) : Int) < 128), decide (((0 + (p1B.L s)) : Nat) ≤ (List.length (p1B.c s))), decide (((2 + (p1B.L s)) : Nat) ≤ 1000000000)]
theorem p1B_t1 (s : p1B) : seesL p1BTs ((codeL Try.prog qA (putH 1 [false] n0) (fun _ _ => none) 100 (lp (blk 0 (bodyOf Try.prog 10))) ⟨tmOf (ups (fun _ => .top) (zipU p1BTs (p1BV s))) 50, p1BM s⟩).go [true]) = some (p1BD1 s, 0, [.int true .i64 s.K, .slice true 1 0 s.N2 none 1, .slice true 7 0 (2 + s.L) none 1, .int true .i64 s.K2, .int true .i64 (IntKind.wrap .i64 (s.i + 1))], 50,
    [none, some ⟨false, .ints .u8 (some s.N) s.l⟩, some ⟨true, .ints .u8 none s.c⟩, some ⟨true, .vals [.slice true 2 0 s.L none 1]⟩, none, some ⟨true, .vals [.int true .u8 (IntKind.wrap .u8 (IntKind.wrap .i64 (0 + ((s.L : Nat) : Int))))]⟩, none, some ⟨true, .ints .u8 none (([48] ++ [IntKind.wrap .u8 (IntKind.wrap .i64 (0 + ((s.L : Nat) : Int)))]) ++ List.take s.L (List.drop 0 s.c))⟩]) := by kernel_rfl
theorem p1BD1_paid {s : p1B} (h1 : s.c.length = s.L) (h2 : s.L ≤ 60000) (hi : s.i < s.K2) (hk : s.L < 128) : Paid (p1BD1 s) := by
  unfold p1BD1
  have w : IntKind.wrap .i64 (0 + ((s.L : Nat) : Int)) = ((s.L : Nat) : Int) := by rw [wrap64]; omega
  simp only [w]
  refine paid_cons ?_ (paid_cons ?_ (paid_cons ?_ (paid_cons ?_ (paid_cons ?_ (paid_cons ?_ (paid_cons ?_ (fun _ h => by cases h)))))))
  all_goals (try simp only [Bool.and_eq_true, Bool.or_eq_true, Bool.not_eq_true', Bool.not_true, Bool.not_false, Bool.not_eq_eq_eq_not, decide_eq_true_eq, decide_eq_false_iff_not, beq_iff_eq, beq_eq_false_iff_ne, bne_iff_ne, bne_eq_false_iff_eq, ne_eq, Bool.or_eq_false_iff, Bool.and_eq_false_imp, Bool.and_true, Bool.true_and, Bool.or_false, Bool.false_or, Bool.or_true, Bool.true_or, Bool.and_false, Bool.false_and, and_true, true_and, not_true_eq_false, not_false_eq_true]) <;> omega
theorem p1B_b1 {s : p1B} (h1 : s.c.length = s.L) (h2 : s.L ≤ 60000) (hk : s.L < 128) : ([48] ++ [IntKind.wrap .u8 (IntKind.wrap .i64 (0 + ((s.L : Nat) : Int)))]) ++ List.take s.L (List.drop 0 s.c) = putB 48 s.c ∧ 2 + s.L = (putB 48 s.c).length := by
  have w : IntKind.wrap .i64 (0 + ((s.L : Nat) : Int)) = ((s.L : Nat) : Int) := by rw [wrap64]; omega
  have hT : List.take s.L (List.drop 0 s.c) = s.c := by rw [List.drop_zero]; exact List.take_of_length_le (by omega)
  have hC : putB 48 s.c = 48 :: (lenB s.L ++ s.c) := by unfold putB; rw [h1]
  rw [lenB_1 hk] at hC
  rw [hT, w, hC]
  refine ⟨?_, by simp only [List.length_cons, List.length_append, List.length_nil]; omega⟩
  simp only [wrapB, ishr8, List.cons_append, List.nil_append, List.cons.injEq, true_and, and_true]
  omega
def p1BD2 (s : p1B) : List Bool := [decide (((p1B.i s) : Int) < (p1B.K2 s)), decide (((p1B.L s) : Nat) < 9223372036854775808), (!decide (((((p1B.L s) : Nat) : Int) : Int) > 65535)), decide (((p1B.L s) : Nat) < 9223372036854775808), (!decide (((IntKind.wrap .i64 (0 + (((p1B.L s) : Nat) : Int))) : Int) < 128)), decide (((IntKind.wrap .i64 (0 + (((p1B.L s) : Nat) : Int))) : Int) < 256), decide (((0 + (p1B.L s)) : Nat) ≤ (List.length (p1B.c s))), decide (((3 + (p1B.L s)) : Nat) ≤ 1000000000)]
theorem p1B_t2 (s : p1B) : seesL p1BTs ((codeL Try.prog qA (putH 2 [false] n0) (fun _ _ => none) 100 (lp (blk 0 (bodyOf Try.prog 10))) ⟨tmOf (ups (fun _ => .top) (zipU p1BTs (p1BV s))) 50, p1BM s⟩).go [true]) = some (p1BD2 s, 0, [.int true .i64 s.K, .slice true 1 0 s.N2 none 1, .slice true 7 0 (3 + s.L) none 1, .int true .i64 s.K2, .int true .i64 (IntKind.wrap .i64 (s.i + 1))], 50,
    [none, some ⟨false, .ints .u8 (some s.N) s.l⟩, some ⟨true, .ints .u8 none s.c⟩, some ⟨true, .vals [.slice true 2 0 s.L none 1]⟩, none, some ⟨true, .vals [.int false .u8 129, .int true .u8 (IntKind.wrap .u8 (IntKind.wrap .i64 (0 + ((s.L : Nat) : Int))))]⟩, none, some ⟨true, .ints .u8 none (([48] ++ [129, IntKind.wrap .u8 (IntKind.wrap .i64 (0 + ((s.L : Nat) : Int)))]) ++ List.take s.L (List.drop 0 s.c))⟩]) := by kernel_rfl
theorem p1BD2_paid {s : p1B} (h1 : s.c.length = s.L) (h2 : s.L ≤ 60000) (hi : s.i < s.K2) (hk : ¬ s.L < 128) (hk2 : s.L < 256) : Paid (p1BD2 s) := by
  unfold p1BD2
  have w : IntKind.wrap .i64 (0 + ((s.L : Nat) : Int)) = ((s.L : Nat) : Int) := by rw [wrap64]; omega
  simp only [w]
  refine paid_cons ?_ (paid_cons ?_ (paid_cons ?_ (paid_cons ?_ (paid_cons ?_ (paid_cons ?_ (paid_cons ?_ (paid_cons ?_ (fun _ h => by cases h))))))))
  all_goals (try simp only [Bool.and_eq_true, Bool.or_eq_true, Bool.not_eq_true', Bool.not_true, Bool.not_false, Bool.not_eq_eq_eq_not, decide_eq_true_eq, decide_eq_false_iff_not, beq_iff_eq, beq_eq_false_iff_ne, bne_iff_ne, bne_eq_false_iff_eq, ne_eq, Bool.or_eq_false_iff, Bool.and_eq_false_imp, Bool.and_true, Bool.true_and, Bool.or_false, Bool.false_or, Bool.or_true, Bool.true_or, Bool.and_false, Bool.false_and, and_true, true_and, not_true_eq_false, not_false_eq_true]) <;> omega
theorem p1B_b2 {s : p1B} (h1 : s.c.length = s.L) (h2 : s.L ≤ 60000) (hk : ¬ s.L < 128) (hk2 : s.L < 256) : ([48] ++ [129, IntKind.wrap .u8 (IntKind.wrap .i64 (0 + ((s.L : Nat) : Int)))]) ++ List.take s.L (List.drop 0 s.c) = putB 48 s.c ∧ 3 + s.L = (putB 48 s.c).length := by
  have w : IntKind.wrap .i64 (0 + ((s.L : Nat) : Int)) = ((s.L : Nat) : Int) := by rw [wrap64]; omega
  have hT : List.take s.L (List.drop 0 s.c) = s.c := by rw [List.drop_zero]; exact List.take_of_length_le (by omega)
  have hC : putB 48 s.c = 48 :: (lenB s.L ++ s.c) := by unfold putB; rw [h1]
  rw [lenB_2 hk hk2] at hC
  rw [hT, w, hC]
  refine ⟨?_, by simp only [List.length_cons, List.length_append, List.length_nil]; omega⟩
  simp only [wrapB, ishr8, List.cons_append, List.nil_append, List.cons.injEq, true_and, and_true]
  omega
def p1BD3 (s : p1B) : List Bool := [decide (((p1B.i s) : Int) < (p1B.K2 s)), decide (((p1B.L s) : Nat) < 9223372036854775808), (!decide (((((p1B.L s) : Nat) : Int) : Int) > 65535)), decide (((p1B.L s) : Nat) < 9223372036854775808), (!decide (((IntKind.wrap .i64 (0 + (((p1B.L s) : Nat) : Int))) : Int) < 128)), (!decide (((IntKind.wrap .i64 (0 + (((p1B.L s) : Nat) : Int))) : Int) < 256)), decide (((0 + (p1B.L s)) : Nat) ≤ (List.length (p1B.c s))), decide (((4 + (p1B.L s)) : Nat) ≤ 1000000000)]
theorem p1B_t3 (s : p1B) : seesL p1BTs ((codeL Try.prog qA (putH 3 [false] n0) (fun _ _ => none) 100 (lp (blk 0 (bodyOf Try.prog 10))) ⟨tmOf (ups (fun _ => .top) (zipU p1BTs (p1BV s))) 50, p1BM s⟩).go [true]) = some (p1BD3 s, 0, [.int true .i64 s.K, .slice true 1 0 s.N2 none 1, .slice true 7 0 (4 + s.L) none 1, .int true .i64 s.K2, .int true .i64 (IntKind.wrap .i64 (s.i + 1))], 50,
    [none, some ⟨false, .ints .u8 (some s.N) s.l⟩, some ⟨true, .ints .u8 none s.c⟩, some ⟨true, .vals [.slice true 2 0 s.L none 1]⟩, none, some ⟨true, .vals [.int false .u8 130, .int true .u8 (IntKind.wrap .u8 (ishr .i64 (IntKind.wrap .i64 (0 + ((s.L : Nat) : Int))) 8)), .int true .u8 (IntKind.wrap .u8 (IntKind.wrap .i64 (0 + ((s.L : Nat) : Int))))]⟩, none, some ⟨true, .ints .u8 none (([48] ++ [130, IntKind.wrap .u8 (ishr .i64 (IntKind.wrap .i64 (0 + ((s.L : Nat) : Int))) 8), IntKind.wrap .u8 (IntKind.wrap .i64 (0 + ((s.L : Nat) : Int)))]) ++ List.take s.L (List.drop 0 s.c))⟩]) := by kernel_rfl
theorem p1BD3_paid {s : p1B} (h1 : s.c.length = s.L) (h2 : s.L ≤ 60000) (hi : s.i < s.K2) (hk : ¬ s.L < 256) : Paid (p1BD3 s) := by
  unfold p1BD3
  have w : IntKind.wrap .i64 (0 + ((s.L : Nat) : Int)) = ((s.L : Nat) : Int) := by rw [wrap64]; omega
  simp only [w]
  refine paid_cons ?_ (paid_cons ?_ (paid_cons ?_ (paid_cons ?_ (paid_cons ?_ (paid_cons ?_ (paid_cons ?_ (paid_cons ?_ (fun _ h => by cases h))))))))
  all_goals (try simp only [Bool.and_eq_true, Bool.or_eq_true, Bool.not_eq_true', Bool.not_true, Bool.not_false, Bool.not_eq_eq_eq_not, decide_eq_true_eq, decide_eq_false_iff_not, beq_iff_eq, beq_eq_false_iff_ne, bne_iff_ne, bne_eq_false_iff_eq, ne_eq, Bool.or_eq_false_iff, Bool.and_eq_false_imp, Bool.and_true, Bool.true_and, Bool.or_false, Bool.false_or, Bool.or_true, Bool.true_or, Bool.and_false, Bool.false_and, and_true, true_and, not_true_eq_false, not_false_eq_true]) <;> omega
theorem p1B_b3 {s : p1B} (h1 : s.c.length = s.L) (h2 : s.L ≤ 60000) (hk : ¬ s.L < 256) : ([48] ++ [130, IntKind.wrap .u8 (ishr .i64 (IntKind.wrap .i64 (0 + ((s.L : Nat) : Int))) 8), IntKind.wrap .u8 (IntKind.wrap .i64 (0 + ((s.L : Nat) : Int)))]) ++ List.take s.L (List.drop 0 s.c) = putB 48 s.c ∧ 4 + s.L = (putB 48 s.c).length := by
  have w : IntKind.wrap .i64 (0 + ((s.L : Nat) : Int)) = ((s.L : Nat) : Int) := by rw [wrap64]; omega
  have hT : List.take s.L (List.drop 0 s.c) = s.c := by rw [List.drop_zero]; exact List.take_of_length_le (by omega)
  have hC : putB 48 s.c = 48 :: (lenB s.L ++ s.c) := by unfold putB; rw [h1]
  rw [lenB_3 hk] at hC
  rw [hT, w, hC]
  refine ⟨?_, by simp only [List.length_cons, List.length_append, List.length_nil]; omega⟩
  simp only [wrapB, ishr8, List.cons_append, List.nil_append, List.cons.injEq, true_and, and_true]
  omega
theorem p1B_f (s : p1B) : seesL p1BTs ((codeL Try.prog qA (putH 1 [false] n0) (fun _ _ => none) 100 (lp (blk 0 (bodyOf Try.prog 10))) ⟨tmOf (ups (fun _ => .top) (zipU p1BTs (p1BV s))) 50, p1BM s⟩).go [false]) = some ([(!decide (((p1B.i s) : Int) < (p1B.K2 s)))], 2, p1BV s, 50, p1BM s) := by kernel_rfl
def p1BO (s : p1B) : List Bool := [decide (s.c.length = s.L), decide (s.L ≤ 210), decide (1 ≤ s.K), decide (s.K ≤ 60), decide (s.K2 = s.K), decide (s.i = 0)]
def p1BE (s : p1B) (j : Nat) : p1B := { s with i := (j : Int), L := (nest s.c j).length, c := nest s.c j }
def p1BF (s : p1B) : List (Nat × AV) × Mem := ([(0, .int true .i64 s.K), (1, .slice true 1 0 s.N2 none 1), (5, .slice true 2 0 (nest s.c s.K.toNat).length none 1)], p1BM (p1BE s s.K.toNat))
def p1BPat : List AV → Mem → Option p1B
  | [.int true .i64 K, .slice true 1 0 N2 none 1, .slice _ 6 0 L none 1, .int true .i64 K2, .int _ .i64 i], [none, some ⟨false, .ints .u8 (some N) l⟩, _, none, _, none, some ⟨true, .ints .u8 _ c⟩] => some ⟨K, K2, i, L, c, N, N2, l⟩
  | _, _ => none
def p1BΛ (Λ : LoopH) : LoopH := famH 0 50 p1BTs p1BPat p1BO p1BF Λ
theorem p1B_go {s : p1B} {b : Bool} {nb : Nat} {m : Mem} {i : Int} {bi : Bool} {L : Nat} {c : List Int} {sz : Option Nat} (hnb : 2 ≤ nb) (hm1 : m[1]? = some (p1BM s)[1]!) (hmb : m[nb]? = some (some ⟨true, .ints .u8 sz c⟩)) (hc : LeC (.ints .u8 sz c) (.ints .u8 none c)) (hl : L = s.L) (hcc : c = s.c) (hi : i = s.i) :
    Goes 2 (oneR 2 nb) p1BTs [.int true .i64 s.K, .slice true 1 0 s.N2 none 1, .slice b nb 0 L none 1, .int true .i64 s.K2, .int bi .i64 i] m (zipU p1BTs (p1BV s)) (p1BM s) := by
  subst hl hcc hi
  have e2 : oneR 2 nb 2 = nb := rfl
  refine Goes.zip ?_ ?_ (oneR_inj hnb) (oneR_fix _ _) (show 2 ≤ 3 by decide) rfl ?_
  · exact .cons (.refl _) (.cons (.refl _) (.cons (.slice b true nb 0 s.L none none 1 (Or.inl rfl)) (.cons (.refl _) (.cons (.int bi true .i64 s.i) .nil))))
  · exact ⟨⟨_, hm1, .refl _⟩, ⟨_, by rw [e2]; exact hmb, hc⟩, trivial⟩
  · simp [p1BM, p1BV, bndL, bndA]
theorem p1B_lok {Λ : LoopH} (hΛ : LOkN 2 Try.prog (bodyOf Try.prog 10) Λ) : LOkN 2 Try.prog (bodyOf Try.prog 10) (p1BΛ Λ) := by
  refine famR_okx (n := 100) p1BV p1BM (fun s s1 => s.c.length = s.L ∧ s.L ≤ 210 ∧ 1 ≤ s.K ∧ s.K ≤ 60 ∧ s.K2 = s.K ∧ ∃ j : Nat, (j : Int) ≤ s.K ∧ s1 = p1BE s j) (fun s => (s.K - s.i).toNat) mixed hΛ (by kernel_rfl) (by kernel_rfl) (fun avs m s h ho => ?_) (fun s s1 hJ => ?_)
  · unfold p1BPat at h
    split at h
    · cases h
      have o1 := of_decide_eq_true (ho _ (List.mem_cons_self ..))
      have o2 := of_decide_eq_true (ho _ (List.mem_cons_of_mem _ (List.mem_cons_self ..)))
      have o3 := of_decide_eq_true (ho _ (List.mem_cons_of_mem _ (List.mem_cons_of_mem _ (List.mem_cons_self ..))))
      have o4 := of_decide_eq_true (ho _ (List.mem_cons_of_mem _ (List.mem_cons_of_mem _ (List.mem_cons_of_mem _ (List.mem_cons_self ..)))))
      have o5 := of_decide_eq_true (ho _ (List.mem_cons_of_mem _ (List.mem_cons_of_mem _ (List.mem_cons_of_mem _ (List.mem_cons_of_mem _ (List.mem_cons_self ..))))))
      have o6 := of_decide_eq_true (ho _ (List.mem_cons_of_mem _ (List.mem_cons_of_mem _ (List.mem_cons_of_mem _ (List.mem_cons_of_mem _ (List.mem_cons_of_mem _ (List.mem_cons_self ..)))))))
      simp only at o1 o2 o3 o4 o5 o6
      refine ⟨⟨_, _, _, _, _, _, _, _⟩, oneR 2 6, p1B_go (s := ⟨_, _, _, _, _, _, _, _⟩) (nb := 6) (show 2 ≤ 6 by decide) rfl rfl ?_ rfl rfl rfl, o1, o2, o3, o4, o5, 0, Int.le_trans (show ((0 : Nat) : Int) ≤ 1 by decide) o3, ?_⟩
      · rename_i sz _
        cases sz with
        | none => exact .refl _
        | some z => exact .free _ _ _
      · subst o6
        show _ = p1BE _ 0
        unfold p1BE
        simp only [nest, o1]
        rfl
    · cases h
  · obtain ⟨h1, h2, h3, h4, h5, j, hj, rfl⟩ := hJ
    have hL := nest_len s.c j
    by_cases hlt : (j : Int) < s.K
    · have hs2 : p1BE s (j + 1) = p1BE s (j + 1) := rfl
      have hlen : (p1BE s j).L ≤ 60000 := by show (nest s.c j).length ≤ 60000; omega
      have hcl : (p1BE s j).c.length = (p1BE s j).L := rfl
      have hii : (p1BE s j).i < (p1BE s j).K2 := by show (j : Int) < s.K2; omega
      have hw : IntKind.wrap .i64 ((p1BE s j).i + 1) = (p1BE s (j + 1)).i := by show IntKind.wrap .i64 ((j : Int) + 1) = ((j + 1 : Nat) : Int); rw [wrap64]; omega
      have hmu : ((p1BE s (j + 1)).K - (p1BE s (j + 1)).i).toNat < ((p1BE s j).K - (p1BE s j).i).toNat := by show (s.K - ((j + 1 : Nat) : Int)).toNat < (s.K - (j : Int)).toNat; omega
      by_cases hk : (p1BE s j).L < 128
      · obtain ⟨e1, e2⟩ := p1B_b1 hcl hlen hk
        exact ⟨qA, putH 1 [false] n0, fun _ _ => none, putH_ok n0_ok 1 _, LOkN.none, RoundR.on (p1B_t1 _) (p1BE s (j + 1)) (oneR 2 7) (p1BD1_paid hcl hlen hii hk)
          (p1B_go (by decide) rfl rfl (.refl _) e2 e1 hw) ⟨h1, h2, h3, h4, h5, j + 1, by omega, rfl⟩ hmu⟩
      by_cases hk2 : (p1BE s j).L < 256
      · obtain ⟨e1, e2⟩ := p1B_b2 hcl hlen hk hk2
        exact ⟨qA, putH 2 [false] n0, fun _ _ => none, putH_ok n0_ok 2 _, LOkN.none, RoundR.on (p1B_t2 _) (p1BE s (j + 1)) (oneR 2 7) (p1BD2_paid hcl hlen hii hk hk2)
          (p1B_go (by decide) rfl rfl (.refl _) e2 e1 hw) ⟨h1, h2, h3, h4, h5, j + 1, by omega, rfl⟩ hmu⟩
      · obtain ⟨e1, e2⟩ := p1B_b3 hcl hlen hk2
        exact ⟨qA, putH 3 [false] n0, fun _ _ => none, putH_ok n0_ok 3 _, LOkN.none, RoundR.on (p1B_t3 _) (p1BE s (j + 1)) (oneR 2 7) (p1BD3_paid hcl hlen hii hk2)
          (p1B_go (by decide) rfl rfl (.refl _) e2 e1 hw) ⟨h1, h2, h3, h4, h5, j + 1, by omega, rfl⟩ hmu⟩
    · have ej : j = s.K.toNat := by omega
      subst ej
      refine ⟨qA, putH 1 [false] n0, fun _ _ => none, putH_ok n0_ok 1 _, LOkN.none, RoundR.out (p1B_f _) rfl (oneR 2 2) (paid_cons (by simp only [Bool.and_eq_true, Bool.or_eq_true, Bool.not_eq_true', Bool.not_true, Bool.not_false, Bool.not_eq_eq_eq_not, decide_eq_true_eq, decide_eq_false_iff_not, beq_iff_eq, beq_eq_false_iff_ne, bne_iff_ne, bne_eq_false_iff_eq, ne_eq, Bool.or_eq_false_iff, Bool.and_eq_false_imp, Bool.and_true, Bool.true_and, Bool.or_false, Bool.false_or, Bool.or_true, Bool.true_or, Bool.and_false, Bool.false_and, and_true, true_and, not_true_eq_false, not_false_eq_true]; show ¬ ((s.K.toNat : Int) < s.K2); omega) fun _ h => by cases h) ?_⟩
      have hg := p1B_go (s := p1BE s s.K.toNat) (b := true) (nb := 2) (m := p1BM (p1BE s s.K.toNat)) (bi := true) (by decide) rfl rfl (.refl _) rfl rfl rfl
      refine ⟨fun p hp => hg.slots p ?_, hg.pulls, hg.inj, hg.fix, hg.le, hg.bm, ?_⟩
      · simp only [p1BF, List.mem_cons, List.not_mem_nil, or_false] at hp
        rcases hp with rfl | rfl | rfl <;> simp [zipU, p1BTs, p1BV, p1BE]
      · simp [p1BF, p1BM, p1BE, bndL, bndA]
end Go.Proofs.Ythpafpifpdeikaa
