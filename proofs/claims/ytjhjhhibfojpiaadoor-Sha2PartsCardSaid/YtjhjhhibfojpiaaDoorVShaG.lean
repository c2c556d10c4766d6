/- The reference's Sum: its contract. Own work. -/
import Derived.Test.YtjhjhhibfojpiaaDoorVShaG384buf
import Derived.Test.YtjhjhhibfojpiaaDoorVShaG512emp
set_option linter.unusedSimpArgs false
set_option linter.unusedVariables false
set_option linter.unusedSectionVars false
namespace Go.Proofs.YtjhjhhibfojpiaaDoor
variable [Go.Ev.RowTab]
open Go.Ev Go.Sh
set_option maxRecDepth 100000
theorem ref_hash {w N B pz : Nat} (hB : B = 64 ∨ B = 128) (hp : pz = B / 8) (v l m : List Int) (hl : l.length ≤ 400000000) {T : Nat} (hm : m = l ++ [128] ++ List.replicate (padZ B l.length) 0 ++ List.replicate pz 0) (hT : T = l.length + 1 + padZ B l.length + pz) :
    foldB w N B v (rsL T (bitsR l.length) m 8) (T / B) = hashW w N B v l ∧ Paid (rsO T T (bitsR l.length) m 8) ∧ (rsL T (bitsR l.length) m 8).length = T ∧ T % B = 0 ∧ T ≤ 500000000 := by
  obtain ⟨h1, h2⟩ := rs_text hB hp (by omega) hm hT 8 (Nat.le_refl _)
  obtain ⟨h3, h4⟩ := textW_len hB l
  have hz := padZ_fill hB l.length
  have hr := fillN_range (B := B) (by omega) (l.length : Int)
  have e : rsL T (bitsR l.length) m 8 = textW B l := h1
  have hTl : (textW B l).length = T := by omega
  rw [e]
  refine ⟨?_, h2, hTl, by rw [← hTl]; exact h3, by omega⟩
  unfold hashW
  rw [hTl]
def refV (s b : Nat) (l : List Int) : AV × Mem := (.slice false 0 0 s none 1, [some ⟨true, .ints .u8 (some b) l⟩])
def refS : List V → E (AV × Mem)
  | [.pl (.int false .i64 256), .buf true .u8 n l] => some ([decide (1 ≤ n), decide (n ≤ 400000000)], refV 32 32 (toldL 32 4 (hashW 32 64 64 beg256 l)))
  | [.pl (.int false .i64 256), .pl .nilslice] => some ([], refV 32 32 (toldL 32 4 (hashW 32 64 64 beg256 [])))
  | [.pl (.int false .i64 256), .empty] => some ([], refV 32 32 (toldL 32 4 (hashW 32 64 64 beg256 [])))
  | [.pl (.int false .i64 384), .buf true .u8 n l] => some ([decide (1 ≤ n), decide (n ≤ 400000000)], refV 48 64 (toldL 64 8 (hashW 64 80 128 beg384 l)))
  | [.pl (.int false .i64 384), .pl .nilslice] => some ([], refV 48 64 (toldL 64 8 (hashW 64 80 128 beg384 [])))
  | [.pl (.int false .i64 384), .empty] => some ([], refV 48 64 (toldL 64 8 (hashW 64 80 128 beg384 [])))
  | [.pl (.int false .i64 512), .buf true .u8 n l] => some ([decide (1 ≤ n), decide (n ≤ 400000000)], refV 64 64 (toldL 64 8 (hashW 64 80 128 beg512 l)))
  | [.pl (.int false .i64 512), .pl .nilslice] => some ([], refV 64 64 (toldL 64 8 (hashW 64 80 128 beg512 [])))
  | [.pl (.int false .i64 512), .empty] => some ([], refV 64 64 (toldL 64 8 (hashW 64 80 128 beg512 [])))
  | _ => none
theorem ref_ok {xs : List V} {o : List Bool} {v : AV} {bs : Mem} (h : refS xs = some (o, (v, bs))) (ho : Paid o) : ViewCall Tryd.prog 14 xs v bs := by
  unfold refS at h
  split at h
  · rename_i n l
    cases h
    have o1 := of_decide_eq_true (ho _ (List.mem_cons_self ..))
    have o2 := of_decide_eq_true (ho _ (List.mem_cons_of_mem _ (List.mem_cons_self ..)))
    intro ρ vs w ha hi
    obtain ⟨cs2, t2, lo2, hi2, c1, c2, c3, c4, c5⟩ := (hi.sim.blk 1 _ rfl).ex
    have hl : l.length = n := c5.1 _ rfl
    subst hl
    have hX0 : (l.drop 0).take l.length = l := by rw [List.drop_zero, List.take_of_length_le (Nat.le_refl _)]
    have hX : ((((l.drop 0).take l.length).drop 0).take l.length) = l := by rw [hX0, hX0]
    have hY : (((((((l.drop 0).take l.length).drop 0).take l.length ++ [128]) ++ List.replicate (padZ 64 (l.length + 1 - 1)) 0).drop 0).take (l.length + 1 + padZ 64 (l.length + 1 - 1))) = l ++ [128] ++ List.replicate (padZ 64 l.length) 0 := by
      rw [hX, Nat.add_sub_cancel, List.drop_zero, List.take_of_length_le (by simp; omega)]
    obtain ⟨g1, g2, g3, g4, g5⟩ := ref_hash (w := 32) (N := 64) (B := 64) (pz := 8) (by decide) rfl beg256 l ((((((((l.drop 0).take l.length).drop 0).take l.length ++ [128]) ++ List.replicate (padZ 64 (l.length + 1 - 1)) 0).drop 0).take (l.length + 1 + padZ 64 (l.length + 1 - 1))) ++ List.replicate 8 0) o2 (T := l.length + 1 + padZ 64 (l.length + 1 - 1) + 8) (by rw [hY]) (by rw [Nat.add_sub_cancel])
    have hc := @viewN_one _ _ _ _ _ mixed noCount hR3_ok _ _ _ (fun fn c hf hb => by rw [bodyOf_eq hf hb]; exact pd32_lok (bk32_lok LOkN.none)) _ (.slice false 0 0 32 none 1) _ _ _ _ [] 66 (rs256_buf l.length l) ?_ (by simp) rfl rfl
    · rw [g1] at hc
      exact hc ha hi
    · have hYl : ((((l.drop 0).take l.length).drop 0).take l.length ++ [128] ++ List.replicate (padZ 64 (l.length + 1 - 1)) (0 : Int)).length = l.length + 1 + padZ 64 (l.length + 1 - 1) := by rw [hX]; simp; omega
      refine paid_append.2 ⟨paid_append.2 ⟨paid_append.2 ⟨paid_append.2 ⟨paid_append.2 ⟨paid_append.2 ⟨?_, ?_⟩, ?_⟩, ?_⟩, ?_⟩, g2⟩, ?_⟩
      · exact paid_cons (decide_eq_true (by omega)) (paid_cons (by simp; omega) (paid_cons (decide_eq_true (by rw [hX0]; omega)) (paid_cons (decide_eq_true (by omega)) Paid.nil)))
      · exact paid_cons (decide_eq_true (by rw [hX]; simp)) (paid_cons (decide_eq_true (by omega)) (paid_cons (decide_eq_true (by omega)) (paid_cons rfl Paid.nil)))
      · exact paid_cons (decide_eq_true (by rw [hYl]; omega)) (paid_cons (decide_eq_true (by omega)) Paid.nil)
      · exact paid_cons (decide_eq_true (by omega)) Paid.nil
      · exact paid_cons (decide_eq_true (by omega)) Paid.nil
      · exact paid_cons rfl (paid_cons (decide_eq_true rfl) (paid_cons (decide_eq_true g3) (paid_cons (decide_eq_true (by omega)) (paid_cons (decide_eq_true g4) (paid_cons rfl (paid_cons (by kernel_rfl) Paid.nil))))))
  · cases h
    obtain ⟨g1, g2, g3, g4, g5⟩ := ref_hash (w := 32) (N := 64) (B := 64) (pz := 8) (by decide) rfl beg256 [] ((((([128] : List Int) ++ List.replicate (padZ 64 (1 - 1)) 0).drop 0).take (1 + padZ 64 (1 - 1))) ++ List.replicate 8 0) (by decide) (T := 1 + padZ 64 (1 - 1) + 8) (by decide) (by decide)
    have hc := @viewN_one _ _ _ _ _ mixed noCount hR3_ok _ _ _ (fun fn c hf hb => by rw [bodyOf_eq hf hb]; exact pd32_lok (bk32_lok LOkN.none)) _ (.slice false 0 0 32 none 1) _ _ _ _ [] 66 rs256_nil ?_ (by simp) rfl rfl
    · rw [show ((0 : Nat) : Int) = (([] : List Int).length : Int) from rfl, g1] at hc
      exact @hc
    · refine paid_append.2 ⟨paid_append.2 ⟨paid_append.2 ⟨paid_append.2 ⟨?_, ?_⟩, ?_⟩, g2⟩, ?_⟩
      · exact paid_cons (by kernel_rfl) (paid_cons (by kernel_rfl) (paid_cons (by kernel_rfl) (paid_cons rfl Paid.nil)))
      · exact paid_cons (by kernel_rfl) (paid_cons (by kernel_rfl) Paid.nil)
      · exact paid_cons (by kernel_rfl) Paid.nil
      · exact paid_cons rfl (paid_cons (decide_eq_true rfl) (paid_cons (decide_eq_true g3) (paid_cons (by kernel_rfl) (paid_cons (decide_eq_true g4) (paid_cons rfl (paid_cons (by kernel_rfl) Paid.nil))))))
  · cases h
    obtain ⟨g1, g2, g3, g4, g5⟩ := ref_hash (w := 32) (N := 64) (B := 64) (pz := 8) (by decide) rfl beg256 [] ((((([128] : List Int) ++ List.replicate (padZ 64 (1 - 1)) 0).drop 0).take (1 + padZ 64 (1 - 1))) ++ List.replicate 8 0) (by decide) (T := 1 + padZ 64 (1 - 1) + 8) (by decide) (by decide)
    have hc := @viewN_one _ _ _ _ _ mixed noCount hR3_ok _ _ _ (fun fn c hf hb => by rw [bodyOf_eq hf hb]; exact pd32_lok (bk32_lok LOkN.none)) _ (.slice false 0 0 32 none 1) _ _ _ _ [] 66 rs256_emp ?_ (by simp) rfl rfl
    · rw [show ((0 : Nat) : Int) = (([] : List Int).length : Int) from rfl, g1] at hc
      exact @hc
    · refine paid_append.2 ⟨paid_append.2 ⟨paid_append.2 ⟨paid_append.2 ⟨?_, ?_⟩, ?_⟩, g2⟩, ?_⟩
      · exact paid_cons (by kernel_rfl) (paid_cons (by kernel_rfl) (paid_cons (by kernel_rfl) (paid_cons rfl Paid.nil)))
      · exact paid_cons (by kernel_rfl) (paid_cons (by kernel_rfl) Paid.nil)
      · exact paid_cons (by kernel_rfl) Paid.nil
      · exact paid_cons rfl (paid_cons (decide_eq_true rfl) (paid_cons (decide_eq_true g3) (paid_cons (by kernel_rfl) (paid_cons (decide_eq_true g4) (paid_cons rfl (paid_cons (by kernel_rfl) Paid.nil))))))
  · rename_i n l
    cases h
    have o1 := of_decide_eq_true (ho _ (List.mem_cons_self ..))
    have o2 := of_decide_eq_true (ho _ (List.mem_cons_of_mem _ (List.mem_cons_self ..)))
    intro ρ vs w ha hi
    obtain ⟨cs2, t2, lo2, hi2, c1, c2, c3, c4, c5⟩ := (hi.sim.blk 1 _ rfl).ex
    have hl : l.length = n := c5.1 _ rfl
    subst hl
    have hX0 : (l.drop 0).take l.length = l := by rw [List.drop_zero, List.take_of_length_le (Nat.le_refl _)]
    have hX : ((((l.drop 0).take l.length).drop 0).take l.length) = l := by rw [hX0, hX0]
    have hY : (((((((l.drop 0).take l.length).drop 0).take l.length ++ [128]) ++ List.replicate (padZ 128 (l.length + 1 - 1)) 0).drop 0).take (l.length + 1 + padZ 128 (l.length + 1 - 1))) = l ++ [128] ++ List.replicate (padZ 128 l.length) 0 := by
      rw [hX, Nat.add_sub_cancel, List.drop_zero, List.take_of_length_le (by simp; omega)]
    obtain ⟨g1, g2, g3, g4, g5⟩ := ref_hash (w := 64) (N := 80) (B := 128) (pz := 16) (by decide) rfl beg384 l ((((((((l.drop 0).take l.length).drop 0).take l.length ++ [128]) ++ List.replicate (padZ 128 (l.length + 1 - 1)) 0).drop 0).take (l.length + 1 + padZ 128 (l.length + 1 - 1))) ++ List.replicate 16 0) o2 (T := l.length + 1 + padZ 128 (l.length + 1 - 1) + 16) (by rw [hY]) (by rw [Nat.add_sub_cancel])
    have hc := @viewN_one _ _ _ _ _ mixed noCount hR3_ok _ _ _ (fun fn c hf hb => by rw [bodyOf_eq hf hb]; exact pd64_lok (bk64_lok LOkN.none)) _ (.slice false 0 0 48 none 1) _ _ _ _ [] 130 (rs384_buf l.length l) ?_ (by simp) rfl rfl
    · rw [g1] at hc
      exact hc ha hi
    · have hYl : ((((l.drop 0).take l.length).drop 0).take l.length ++ [128] ++ List.replicate (padZ 128 (l.length + 1 - 1)) (0 : Int)).length = l.length + 1 + padZ 128 (l.length + 1 - 1) := by rw [hX]; simp; omega
      refine paid_append.2 ⟨paid_append.2 ⟨paid_append.2 ⟨paid_append.2 ⟨paid_append.2 ⟨paid_append.2 ⟨?_, ?_⟩, ?_⟩, ?_⟩, ?_⟩, g2⟩, ?_⟩
      · exact paid_cons (decide_eq_true (by omega)) (paid_cons (by simp; omega) (paid_cons (decide_eq_true (by rw [hX0]; omega)) (paid_cons (decide_eq_true (by omega)) Paid.nil)))
      · exact paid_cons (decide_eq_true (by rw [hX]; simp)) (paid_cons (decide_eq_true (by omega)) (paid_cons (decide_eq_true (by omega)) (paid_cons rfl Paid.nil)))
      · exact paid_cons (decide_eq_true (by rw [hYl]; omega)) (paid_cons (decide_eq_true (by omega)) Paid.nil)
      · exact paid_cons (decide_eq_true (by omega)) Paid.nil
      · exact paid_cons (decide_eq_true (by omega)) Paid.nil
      · exact paid_cons rfl (paid_cons (decide_eq_true rfl) (paid_cons (decide_eq_true g3) (paid_cons (decide_eq_true (by omega)) (paid_cons (decide_eq_true g4) (paid_cons rfl (paid_cons (by kernel_rfl) Paid.nil))))))
  · cases h
    obtain ⟨g1, g2, g3, g4, g5⟩ := ref_hash (w := 64) (N := 80) (B := 128) (pz := 16) (by decide) rfl beg384 [] ((((([128] : List Int) ++ List.replicate (padZ 128 (1 - 1)) 0).drop 0).take (1 + padZ 128 (1 - 1))) ++ List.replicate 16 0) (by decide) (T := 1 + padZ 128 (1 - 1) + 16) (by decide) (by decide)
    have hc := @viewN_one _ _ _ _ _ mixed noCount hR3_ok _ _ _ (fun fn c hf hb => by rw [bodyOf_eq hf hb]; exact pd64_lok (bk64_lok LOkN.none)) _ (.slice false 0 0 48 none 1) _ _ _ _ [] 130 rs384_nil ?_ (by simp) rfl rfl
    · rw [show ((0 : Nat) : Int) = (([] : List Int).length : Int) from rfl, g1] at hc
      exact @hc
    · refine paid_append.2 ⟨paid_append.2 ⟨paid_append.2 ⟨paid_append.2 ⟨?_, ?_⟩, ?_⟩, g2⟩, ?_⟩
      · exact paid_cons (by kernel_rfl) (paid_cons (by kernel_rfl) (paid_cons (by kernel_rfl) (paid_cons rfl Paid.nil)))
      · exact paid_cons (by kernel_rfl) (paid_cons (by kernel_rfl) Paid.nil)
      · exact paid_cons (by kernel_rfl) Paid.nil
      · exact paid_cons rfl (paid_cons (decide_eq_true rfl) (paid_cons (decide_eq_true g3) (paid_cons (by kernel_rfl) (paid_cons (decide_eq_true g4) (paid_cons rfl (paid_cons (by kernel_rfl) Paid.nil))))))
  · cases h
    obtain ⟨g1, g2, g3, g4, g5⟩ := ref_hash (w := 64) (N := 80) (B := 128) (pz := 16) (by decide) rfl beg384 [] ((((([128] : List Int) ++ List.replicate (padZ 128 (1 - 1)) 0).drop 0).take (1 + padZ 128 (1 - 1))) ++ List.replicate 16 0) (by decide) (T := 1 + padZ 128 (1 - 1) + 16) (by decide) (by decide)
    have hc := @viewN_one _ _ _ _ _ mixed noCount hR3_ok _ _ _ (fun fn c hf hb => by rw [bodyOf_eq hf hb]; exact pd64_lok (bk64_lok LOkN.none)) _ (.slice false 0 0 48 none 1) _ _ _ _ [] 130 rs384_emp ?_ (by simp) rfl rfl
    · rw [show ((0 : Nat) : Int) = (([] : List Int).length : Int) from rfl, g1] at hc
      exact @hc
    · refine paid_append.2 ⟨paid_append.2 ⟨paid_append.2 ⟨paid_append.2 ⟨?_, ?_⟩, ?_⟩, g2⟩, ?_⟩
      · exact paid_cons (by kernel_rfl) (paid_cons (by kernel_rfl) (paid_cons (by kernel_rfl) (paid_cons rfl Paid.nil)))
      · exact paid_cons (by kernel_rfl) (paid_cons (by kernel_rfl) Paid.nil)
      · exact paid_cons (by kernel_rfl) Paid.nil
      · exact paid_cons rfl (paid_cons (decide_eq_true rfl) (paid_cons (decide_eq_true g3) (paid_cons (by kernel_rfl) (paid_cons (decide_eq_true g4) (paid_cons rfl (paid_cons (by kernel_rfl) Paid.nil))))))
  · rename_i n l
    cases h
    have o1 := of_decide_eq_true (ho _ (List.mem_cons_self ..))
    have o2 := of_decide_eq_true (ho _ (List.mem_cons_of_mem _ (List.mem_cons_self ..)))
    intro ρ vs w ha hi
    obtain ⟨cs2, t2, lo2, hi2, c1, c2, c3, c4, c5⟩ := (hi.sim.blk 1 _ rfl).ex
    have hl : l.length = n := c5.1 _ rfl
    subst hl
    have hX0 : (l.drop 0).take l.length = l := by rw [List.drop_zero, List.take_of_length_le (Nat.le_refl _)]
    have hX : ((((l.drop 0).take l.length).drop 0).take l.length) = l := by rw [hX0, hX0]
    have hY : (((((((l.drop 0).take l.length).drop 0).take l.length ++ [128]) ++ List.replicate (padZ 128 (l.length + 1 - 1)) 0).drop 0).take (l.length + 1 + padZ 128 (l.length + 1 - 1))) = l ++ [128] ++ List.replicate (padZ 128 l.length) 0 := by
      rw [hX, Nat.add_sub_cancel, List.drop_zero, List.take_of_length_le (by simp; omega)]
    obtain ⟨g1, g2, g3, g4, g5⟩ := ref_hash (w := 64) (N := 80) (B := 128) (pz := 16) (by decide) rfl beg512 l ((((((((l.drop 0).take l.length).drop 0).take l.length ++ [128]) ++ List.replicate (padZ 128 (l.length + 1 - 1)) 0).drop 0).take (l.length + 1 + padZ 128 (l.length + 1 - 1))) ++ List.replicate 16 0) o2 (T := l.length + 1 + padZ 128 (l.length + 1 - 1) + 16) (by rw [hY]) (by rw [Nat.add_sub_cancel])
    have hc := @viewN_one _ _ _ _ _ mixed noCount hR3_ok _ _ _ (fun fn c hf hb => by rw [bodyOf_eq hf hb]; exact pd64_lok (bk64_lok LOkN.none)) _ (.slice false 0 0 64 none 1) _ _ _ _ [] 130 (rs512_buf l.length l) ?_ (by simp) rfl rfl
    · rw [g1] at hc
      exact hc ha hi
    · have hYl : ((((l.drop 0).take l.length).drop 0).take l.length ++ [128] ++ List.replicate (padZ 128 (l.length + 1 - 1)) (0 : Int)).length = l.length + 1 + padZ 128 (l.length + 1 - 1) := by rw [hX]; simp; omega
      refine paid_append.2 ⟨paid_append.2 ⟨paid_append.2 ⟨paid_append.2 ⟨paid_append.2 ⟨paid_append.2 ⟨?_, ?_⟩, ?_⟩, ?_⟩, ?_⟩, g2⟩, ?_⟩
      · exact paid_cons (decide_eq_true (by omega)) (paid_cons (by simp; omega) (paid_cons (decide_eq_true (by rw [hX0]; omega)) (paid_cons (decide_eq_true (by omega)) Paid.nil)))
      · exact paid_cons (decide_eq_true (by rw [hX]; simp)) (paid_cons (decide_eq_true (by omega)) (paid_cons (decide_eq_true (by omega)) (paid_cons rfl Paid.nil)))
      · exact paid_cons (decide_eq_true (by rw [hYl]; omega)) (paid_cons (decide_eq_true (by omega)) Paid.nil)
      · exact paid_cons (decide_eq_true (by omega)) Paid.nil
      · exact paid_cons (decide_eq_true (by omega)) Paid.nil
      · exact paid_cons rfl (paid_cons (decide_eq_true rfl) (paid_cons (decide_eq_true g3) (paid_cons (decide_eq_true (by omega)) (paid_cons (decide_eq_true g4) (paid_cons rfl (paid_cons (by kernel_rfl) Paid.nil))))))
  · cases h
    obtain ⟨g1, g2, g3, g4, g5⟩ := ref_hash (w := 64) (N := 80) (B := 128) (pz := 16) (by decide) rfl beg512 [] ((((([128] : List Int) ++ List.replicate (padZ 128 (1 - 1)) 0).drop 0).take (1 + padZ 128 (1 - 1))) ++ List.replicate 16 0) (by decide) (T := 1 + padZ 128 (1 - 1) + 16) (by decide) (by decide)
    have hc := @viewN_one _ _ _ _ _ mixed noCount hR3_ok _ _ _ (fun fn c hf hb => by rw [bodyOf_eq hf hb]; exact pd64_lok (bk64_lok LOkN.none)) _ (.slice false 0 0 64 none 1) _ _ _ _ [] 130 rs512_nil ?_ (by simp) rfl rfl
    · rw [show ((0 : Nat) : Int) = (([] : List Int).length : Int) from rfl, g1] at hc
      exact @hc
    · refine paid_append.2 ⟨paid_append.2 ⟨paid_append.2 ⟨paid_append.2 ⟨?_, ?_⟩, ?_⟩, g2⟩, ?_⟩
      · exact paid_cons (by kernel_rfl) (paid_cons (by kernel_rfl) (paid_cons (by kernel_rfl) (paid_cons rfl Paid.nil)))
      · exact paid_cons (by kernel_rfl) (paid_cons (by kernel_rfl) Paid.nil)
      · exact paid_cons (by kernel_rfl) Paid.nil
      · exact paid_cons rfl (paid_cons (decide_eq_true rfl) (paid_cons (decide_eq_true g3) (paid_cons (by kernel_rfl) (paid_cons (decide_eq_true g4) (paid_cons rfl (paid_cons (by kernel_rfl) Paid.nil))))))
  · cases h
    obtain ⟨g1, g2, g3, g4, g5⟩ := ref_hash (w := 64) (N := 80) (B := 128) (pz := 16) (by decide) rfl beg512 [] ((((([128] : List Int) ++ List.replicate (padZ 128 (1 - 1)) 0).drop 0).take (1 + padZ 128 (1 - 1))) ++ List.replicate 16 0) (by decide) (T := 1 + padZ 128 (1 - 1) + 16) (by decide) (by decide)
    have hc := @viewN_one _ _ _ _ _ mixed noCount hR3_ok _ _ _ (fun fn c hf hb => by rw [bodyOf_eq hf hb]; exact pd64_lok (bk64_lok LOkN.none)) _ (.slice false 0 0 64 none 1) _ _ _ _ [] 130 rs512_emp ?_ (by simp) rfl rfl
    · rw [show ((0 : Nat) : Int) = (([] : List Int).length : Int) from rfl, g1] at hc
      exact @hc
    · refine paid_append.2 ⟨paid_append.2 ⟨paid_append.2 ⟨paid_append.2 ⟨?_, ?_⟩, ?_⟩, g2⟩, ?_⟩
      · exact paid_cons (by kernel_rfl) (paid_cons (by kernel_rfl) (paid_cons (by kernel_rfl) (paid_cons rfl Paid.nil)))
      · exact paid_cons (by kernel_rfl) (paid_cons (by kernel_rfl) Paid.nil)
      · exact paid_cons (by kernel_rfl) Paid.nil
      · exact paid_cons rfl (paid_cons (decide_eq_true rfl) (paid_cons (decide_eq_true g3) (paid_cons (by kernel_rfl) (paid_cons (decide_eq_true g4) (paid_cons rfl (paid_cons (by kernel_rfl) Paid.nil))))))
  · cases h
def hs8 : CallH := withV 14 refS hs7
theorem hs8_ok : HOk Tryd.prog hs8 := hs7_ok.withV fun _ _ _ _ h ho => ref_ok h ho
end Go.Proofs.YtjhjhhibfojpiaaDoor
