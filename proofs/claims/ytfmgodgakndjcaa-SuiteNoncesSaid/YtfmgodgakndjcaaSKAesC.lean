/- The program's block cipher: a key's words: contract of New. Own work. -/
import Derived.Test.YtfmgodgakndjcaaSKAesC0
import Derived.Test.YtfmgodgakndjcaaSEvIn
set_option linter.unusedSimpArgs false
set_option linter.unusedVariables false
set_option linter.unusedSectionVars false
namespace Go.As
open Go.Ev Go.Sh
structure KyS where
  l : List Int
  W : List Int
  p : Int
  i : Int
end Go.As
namespace Go.Proofs.Ytfmgodgakndjcaa
open Go.Ev Go.Sh Go.As
set_option maxRecDepth 100000
def kyTs : List Nat := [4, 5, 8, 9]
theorem pK_eq {i : Int} (h : 0 ≤ i ∧ i ≤ 100) {d : Nat} (hd : d ≤ i.toNat) : pK i (d : Int) = i.toNat - d ∧ IntKind.i64.wrap (i - (d : Int)) = i - d := by
  have e : IntKind.i64.wrap (i - (d : Int)) = i - d := by unfold IntKind.wrap; simp [IntKind.bits, IntKind.signed]; omega
  exact ⟨by unfold pK; rw [e]; omega, e⟩
/- 16 bytes -/
def kyV4 (s : KyS) : List AV := [.int false .i64 4, .ptr false 1 0, .int true .u8 s.p, .int true .i64 s.i]
def kyM4 (s : KyS) : Mem := [some ⟨false, .ints .u8 (some 16) s.l⟩, some ⟨true, .wide [.int false .i64 10, .ints .u8 240 s.W]⟩]
def kyP4 : List AV → Mem → Option KyS
  | [.int false .i64 4, .ptr false 1 0, .int _ .u8 p, .int _ .i64 i], [some ⟨false, .ints .u8 (some 16) l⟩, some ⟨true, .wide [.int false .i64 10, .ints .u8 240 W]⟩] => some ⟨l, W, p, i⟩
  | _, _ => none
theorem ky4_a (x : Nat → AV) (s : KyS) : seesL kyTs ((codeL Try.prog qP (deep Try.prog qP ha5 100 3) (fun _ _ => none) 100 (lp (blk 2 (bodyOf Try.prog 11))) ⟨tmOf (ups x (zipU kyTs (kyV4 s))) 102, kyM4 s⟩).go [true, true]) = some ([decide (s.i < IntKind.i64.wrap (4 * IntKind.i64.wrap (4 + 7))), decide (0 ≤ IntKind.i64.wrap (s.i - 1)) && decide (IntKind.i64.wrap (s.i - 1) < ((60 : Nat) : Int)), decide (pK s.i 1 * 4 + 4 ≤ 240), s.i.tmod 4 == 0, decide (0 ≤ IntKind.i64.wrap (s.i - 4)) && decide (IntKind.i64.wrap (s.i - 4) < ((60 : Nat) : Int)), decide (pK s.i 4 * 4 + 4 ≤ 240), decide (0 ≤ s.i) && decide (s.i < ((60 : Nat) : Int)), decide (s.i.toNat * 4 + 4 ≤ 240)], 0, [.int false .i64 4, .ptr false 1 0, .int true .u8 (dP s.p), .int true .i64 (IntKind.i64.wrap (s.i + 1))], 102, kyM4 { s with W := putW4 s.W s.i.toNat (sumW (wd4 s.W (pK s.i 4)) (headW (wd4 s.W (pK s.i 1)) s.p)) } ++ [some ⟨true, .ints .u8 (some 4) (headW (wd4 s.W (pK s.i 1)) s.p)⟩]) := by kernel_rfl
theorem ky4_c (x : Nat → AV) (s : KyS) : seesL kyTs ((codeL Try.prog qP (deep Try.prog qP ha5 100 3) (fun _ _ => none) 100 (lp (blk 2 (bodyOf Try.prog 11))) ⟨tmOf (ups x (zipU kyTs (kyV4 s))) 102, kyM4 s⟩).go [true, false, false]) = some ([decide (s.i < IntKind.i64.wrap (4 * IntKind.i64.wrap (4 + 7))), decide (0 ≤ IntKind.i64.wrap (s.i - 1)) && decide (IntKind.i64.wrap (s.i - 1) < ((60 : Nat) : Int)), decide (pK s.i 1 * 4 + 4 ≤ 240), !(s.i.tmod 4 == 0), !(s.i.tmod 4 == 4), decide (0 ≤ IntKind.i64.wrap (s.i - 4)) && decide (IntKind.i64.wrap (s.i - 4) < ((60 : Nat) : Int)), decide (pK s.i 4 * 4 + 4 ≤ 240), decide (0 ≤ s.i) && decide (s.i < ((60 : Nat) : Int)), decide (s.i.toNat * 4 + 4 ≤ 240)], 0, [.int false .i64 4, .ptr false 1 0, .int true .u8 (s.p), .int true .i64 (IntKind.i64.wrap (s.i + 1))], 102, kyM4 { s with W := putW4 s.W s.i.toNat (sumW (wd4 s.W (pK s.i 4)) (wd4 s.W (pK s.i 1))) } ++ [some ⟨true, .ints .u8 (some 4) (wd4 s.W (pK s.i 1))⟩]) := by kernel_rfl
theorem ky4_f (x : Nat → AV) (s : KyS) : seesL kyTs ((codeL Try.prog qP (deep Try.prog qP ha5 100 3) (fun _ _ => none) 100 (lp (blk 2 (bodyOf Try.prog 11))) ⟨tmOf (ups x (zipU kyTs (kyV4 s))) 102, kyM4 s⟩).go [false]) = some ([!decide (s.i < IntKind.i64.wrap (4 * IntKind.i64.wrap (4 + 7)))], 4, kyV4 s, 102, kyM4 s) := by kernel_rfl
structure KyJ4 (s0 s : KyS) (k : Nat) : Prop where
  hl : s.l = s0.l
  hi : s.i = 4 + k
  hk : k ≤ 40
  hW : s.W = (keyG 4 s0.l k).1
  hp : s.p = (keyG 4 s0.l k).2
def kyO4 (s : KyS) : List Bool := [decide (s.i = 4), decide (s.W = (keyG 4 s.l 0).1), decide (s.p = 1)]
def kyF4 (s : KyS) : List (Nat × AV) × Mem := ([(5, .ptr false 1 0)], kyM4 { s with W := keyL 4 s.l })
def kyΛ4 (Λ : LoopH) : LoopH := famH 2 102 kyTs kyP4 kyO4 kyF4 Λ
theorem ky4_lok {Λ : LoopH} (hΛ : LOk Try.prog (bodyOf Try.prog 11) Λ) : LOk Try.prog (bodyOf Try.prog 11) (kyΛ4 Λ) := by
  refine fam_ok (q := qP) (n := 100) kyV4 kyM4 (fun s0 s => ∃ k, KyJ4 s0 s k) (fun s => 100 - s.i.toNat) mixed (ha5_ok.deep (q := qP) mixed noCount 100 3) hΛ LOk.none (by kernel_rfl) (by kernel_rfl) (fun s => rfl) (fun s => rfl) (fun avs m s h ho => ?_) (fun s0 s hJ x => ?_)
  · unfold kyP4 at h
    split at h
    · cases h
      have o1 := of_decide_eq_true (ho _ (List.mem_cons_self ..))
      have o2 := of_decide_eq_true (ho _ (List.mem_cons_of_mem _ (List.mem_cons_self ..)))
      have o3 := of_decide_eq_true (ho _ (List.mem_cons_of_mem _ (List.mem_cons_of_mem _ (List.mem_cons_self ..))))
      exact ⟨_, .cons (.refl _) (.cons (.refl _) (.cons (.int _ _ _) (.cons (.int _ _ _) .nil))), rfl, 0, ⟨rfl, by rw [o1]; rfl, by omega, o2, o3⟩⟩
    · cases h
  · obtain ⟨k, hl, hi, hk, hW, hp⟩ := hJ
    obtain ⟨l, W, p, i⟩ := s
    obtain ⟨l0, W0, p0, i0⟩ := s0
    simp only at hl hi hW hp
    subst hl hi
    have ewr : IntKind.i64.wrap (4 * IntKind.i64.wrap (4 + 7)) = 44 := by decide
    by_cases hend : k = 40
    · subst hend
      refine Round.out (ky4_f x _) rfl ?_ (paid_cons (by simp only [ewr]; decide) Paid.nil) fun p hp => ?_
      · simp only [kyF4, kyM4, keyL, hW]
      · simp only [kyF4, List.mem_cons, List.not_mem_nil, or_false] at hp
        subst hp
        exact ⟨_, by simp [kyTs, kyV4, zipU], Le1.refl _⟩
    · have hr : 0 ≤ (4 + (k : Int)) ∧ (4 + (k : Int)) ≤ 100 := by omega
      have hn : (4 + (k : Int)).toNat = 4 + k := by omega
      obtain ⟨e1, e2⟩ := pK_eq hr (d := 1) (by omega)
      obtain ⟨e3, e4⟩ := pK_eq hr (d := 4) (by omega)
      rw [hn] at e1 e3
      simp only [Int.cast_ofNat_Int] at e1 e2 e3 e4
      have hw : IntKind.i64.wrap (4 + (k : Int) + 1) = 4 + ((k + 1 : Nat) : Int) := by
        unfold IntKind.wrap; simp [IntKind.bits, IntKind.signed]; omega
      have hm : (4 + (k : Int)).tmod 4 = (((4 + k) % 4 : Nat) : Int) := by
        rw [Int.tmod_eq_emod_of_nonneg (by omega)]; omega
      have hj : ∀ {T : List Int} {q : Int}, T = moreW 4 (wd4 W (4 + k - 1)) (4 + k) p → q = (if (4 + k) % 4 = 0 then dP p else p) → KyJ4 ⟨l, W0, p0, i0⟩ ⟨l, putW4 W (4 + k) (sumW (wd4 W (4 + k - 4)) T), q, 4 + ((k + 1 : Nat) : Int)⟩ (k + 1) := fun {T q} hT hq =>
        ⟨rfl, rfl, by omega, by subst hT; rw [hW, hp]; rfl, by rw [hq, hp]; rfl⟩
      have hd : ∀ (P : Prop) [Decidable P], P → decide P = true := fun P _ h => decide_eq_true h
      by_cases hz : (4 + k) % 4 = 0
      · refine Round.on (ky4_a x _) ⟨l, putW4 W (4 + k) (sumW (wd4 W (4 + k - 4)) (headW (wd4 W (4 + k - 1)) p)), dP p, 4 + ((k + 1 : Nat) : Int)⟩ [some ⟨true, .ints .u8 (some 4) (headW (wd4 W (pK (4 + (k : Int)) 1)) p)⟩] ?_ ?_ (by simp only [hw]; exact LeL.refl _) ⟨k + 1, hj (by unfold moreW; rw [if_pos hz]) (by rw [if_pos hz])⟩ rfl (by simp only; omega)
        · simp only [e1, e3, hn]
          rfl
        · simp only [ewr, e1, e2, e3, e4, hn, hm, hz]
          repeat' first | exact Paid.nil | refine paid_cons ?_ ?_
          all_goals (simp; try omega)
      · by_cases hz4 : (4 + k) % 4 = 4
        · omega
        · have g1 : (((4 + k) % 4 : Nat) : Int) ≠ 0 := by omega
          have g2 : (((4 + k) % 4 : Nat) : Int) ≠ 4 := by omega
          refine Round.on (ky4_c x _) ⟨l, putW4 W (4 + k) (sumW (wd4 W (4 + k - 4)) (wd4 W (4 + k - 1))), p, 4 + ((k + 1 : Nat) : Int)⟩ [some ⟨true, .ints .u8 (some 4) (wd4 W (pK (4 + (k : Int)) 1))⟩] ?_ ?_ (by simp only [hw]; exact LeL.refl _) ⟨k + 1, hj (by unfold moreW; rw [if_neg hz, if_neg hz4]) (by rw [if_neg hz])⟩ rfl (by simp only; omega)
          · simp only [e1, e3, hn]
            rfl
          · simp only [ewr, e1, e2, e3, e4, hn, hm]
            generalize (((4 + k) % 4 : Nat) : Int) = r at g1 g2
            repeat' first | exact Paid.nil | refine paid_cons ?_ ?_
            all_goals (simp; try omega)
/- 32 bytes -/
def kyV8 (s : KyS) : List AV := [.int false .i64 8, .ptr false 1 0, .int true .u8 s.p, .int true .i64 s.i]
def kyM8 (s : KyS) : Mem := [some ⟨false, .ints .u8 (some 32) s.l⟩, some ⟨true, .wide [.int false .i64 14, .ints .u8 240 s.W]⟩]
def kyP8 : List AV → Mem → Option KyS
  | [.int false .i64 8, .ptr false 1 0, .int _ .u8 p, .int _ .i64 i], [some ⟨false, .ints .u8 (some 32) l⟩, some ⟨true, .wide [.int false .i64 14, .ints .u8 240 W]⟩] => some ⟨l, W, p, i⟩
  | _, _ => none
theorem ky8_a (x : Nat → AV) (s : KyS) : seesL kyTs ((codeL Try.prog qP (deep Try.prog qP ha5 100 3) (fun _ _ => none) 100 (lp (blk 2 (bodyOf Try.prog 11))) ⟨tmOf (ups x (zipU kyTs (kyV8 s))) 102, kyM8 s⟩).go [true, true]) = some ([decide (s.i < IntKind.i64.wrap (4 * IntKind.i64.wrap (8 + 7))), decide (0 ≤ IntKind.i64.wrap (s.i - 1)) && decide (IntKind.i64.wrap (s.i - 1) < ((60 : Nat) : Int)), decide (pK s.i 1 * 4 + 4 ≤ 240), s.i.tmod 8 == 0, decide (0 ≤ IntKind.i64.wrap (s.i - 8)) && decide (IntKind.i64.wrap (s.i - 8) < ((60 : Nat) : Int)), decide (pK s.i 8 * 4 + 4 ≤ 240), decide (0 ≤ s.i) && decide (s.i < ((60 : Nat) : Int)), decide (s.i.toNat * 4 + 4 ≤ 240)], 0, [.int false .i64 8, .ptr false 1 0, .int true .u8 (dP s.p), .int true .i64 (IntKind.i64.wrap (s.i + 1))], 102, kyM8 { s with W := putW4 s.W s.i.toNat (sumW (wd4 s.W (pK s.i 8)) (headW (wd4 s.W (pK s.i 1)) s.p)) } ++ [some ⟨true, .ints .u8 (some 4) (headW (wd4 s.W (pK s.i 1)) s.p)⟩]) := by kernel_rfl
theorem ky8_b (x : Nat → AV) (s : KyS) : seesL kyTs ((codeL Try.prog qP (deep Try.prog qP ha5 100 3) (fun _ _ => none) 100 (lp (blk 2 (bodyOf Try.prog 11))) ⟨tmOf (ups x (zipU kyTs (kyV8 s))) 102, kyM8 s⟩).go [true, false, true]) = some ([decide (s.i < IntKind.i64.wrap (4 * IntKind.i64.wrap (8 + 7))), decide (0 ≤ IntKind.i64.wrap (s.i - 1)) && decide (IntKind.i64.wrap (s.i - 1) < ((60 : Nat) : Int)), decide (pK s.i 1 * 4 + 4 ≤ 240), !(s.i.tmod 8 == 0), s.i.tmod 8 == 4, decide (0 ≤ IntKind.i64.wrap (s.i - 8)) && decide (IntKind.i64.wrap (s.i - 8) < ((60 : Nat) : Int)), decide (pK s.i 8 * 4 + 4 ≤ 240), decide (0 ≤ s.i) && decide (s.i < ((60 : Nat) : Int)), decide (s.i.toNat * 4 + 4 ≤ 240)], 0, [.int false .i64 8, .ptr false 1 0, .int true .u8 (s.p), .int true .i64 (IntKind.i64.wrap (s.i + 1))], 102, kyM8 { s with W := putW4 s.W s.i.toNat (sumW (wd4 s.W (pK s.i 8)) (subW (wd4 s.W (pK s.i 1)))) } ++ [some ⟨true, .ints .u8 (some 4) (subW (wd4 s.W (pK s.i 1)))⟩]) := by kernel_rfl
theorem ky8_c (x : Nat → AV) (s : KyS) : seesL kyTs ((codeL Try.prog qP (deep Try.prog qP ha5 100 3) (fun _ _ => none) 100 (lp (blk 2 (bodyOf Try.prog 11))) ⟨tmOf (ups x (zipU kyTs (kyV8 s))) 102, kyM8 s⟩).go [true, false, false]) = some ([decide (s.i < IntKind.i64.wrap (4 * IntKind.i64.wrap (8 + 7))), decide (0 ≤ IntKind.i64.wrap (s.i - 1)) && decide (IntKind.i64.wrap (s.i - 1) < ((60 : Nat) : Int)), decide (pK s.i 1 * 4 + 4 ≤ 240), !(s.i.tmod 8 == 0), !(s.i.tmod 8 == 4), decide (0 ≤ IntKind.i64.wrap (s.i - 8)) && decide (IntKind.i64.wrap (s.i - 8) < ((60 : Nat) : Int)), decide (pK s.i 8 * 4 + 4 ≤ 240), decide (0 ≤ s.i) && decide (s.i < ((60 : Nat) : Int)), decide (s.i.toNat * 4 + 4 ≤ 240)], 0, [.int false .i64 8, .ptr false 1 0, .int true .u8 (s.p), .int true .i64 (IntKind.i64.wrap (s.i + 1))], 102, kyM8 { s with W := putW4 s.W s.i.toNat (sumW (wd4 s.W (pK s.i 8)) (wd4 s.W (pK s.i 1))) } ++ [some ⟨true, .ints .u8 (some 4) (wd4 s.W (pK s.i 1))⟩]) := by kernel_rfl
theorem ky8_f (x : Nat → AV) (s : KyS) : seesL kyTs ((codeL Try.prog qP (deep Try.prog qP ha5 100 3) (fun _ _ => none) 100 (lp (blk 2 (bodyOf Try.prog 11))) ⟨tmOf (ups x (zipU kyTs (kyV8 s))) 102, kyM8 s⟩).go [false]) = some ([!decide (s.i < IntKind.i64.wrap (4 * IntKind.i64.wrap (8 + 7)))], 4, kyV8 s, 102, kyM8 s) := by kernel_rfl
structure KyJ8 (s0 s : KyS) (k : Nat) : Prop where
  hl : s.l = s0.l
  hi : s.i = 8 + k
  hk : k ≤ 52
  hW : s.W = (keyG 8 s0.l k).1
  hp : s.p = (keyG 8 s0.l k).2
def kyO8 (s : KyS) : List Bool := [decide (s.i = 8), decide (s.W = (keyG 8 s.l 0).1), decide (s.p = 1)]
def kyF8 (s : KyS) : List (Nat × AV) × Mem := ([(5, .ptr false 1 0)], kyM8 { s with W := keyL 8 s.l })
def kyΛ8 (Λ : LoopH) : LoopH := famH 2 102 kyTs kyP8 kyO8 kyF8 Λ
theorem ky8_lok {Λ : LoopH} (hΛ : LOk Try.prog (bodyOf Try.prog 11) Λ) : LOk Try.prog (bodyOf Try.prog 11) (kyΛ8 Λ) := by
  refine fam_ok (q := qP) (n := 100) kyV8 kyM8 (fun s0 s => ∃ k, KyJ8 s0 s k) (fun s => 100 - s.i.toNat) mixed (ha5_ok.deep (q := qP) mixed noCount 100 3) hΛ LOk.none (by kernel_rfl) (by kernel_rfl) (fun s => rfl) (fun s => rfl) (fun avs m s h ho => ?_) (fun s0 s hJ x => ?_)
  · unfold kyP8 at h
    split at h
    · cases h
      have o1 := of_decide_eq_true (ho _ (List.mem_cons_self ..))
      have o2 := of_decide_eq_true (ho _ (List.mem_cons_of_mem _ (List.mem_cons_self ..)))
      have o3 := of_decide_eq_true (ho _ (List.mem_cons_of_mem _ (List.mem_cons_of_mem _ (List.mem_cons_self ..))))
      exact ⟨_, .cons (.refl _) (.cons (.refl _) (.cons (.int _ _ _) (.cons (.int _ _ _) .nil))), rfl, 0, ⟨rfl, by rw [o1]; rfl, by omega, o2, o3⟩⟩
    · cases h
  · obtain ⟨k, hl, hi, hk, hW, hp⟩ := hJ
    obtain ⟨l, W, p, i⟩ := s
    obtain ⟨l0, W0, p0, i0⟩ := s0
    simp only at hl hi hW hp
    subst hl hi
    have ewr : IntKind.i64.wrap (4 * IntKind.i64.wrap (8 + 7)) = 60 := by decide
    by_cases hend : k = 52
    · subst hend
      refine Round.out (ky8_f x _) rfl ?_ (paid_cons (by simp only [ewr]; decide) Paid.nil) fun p hp => ?_
      · simp only [kyF8, kyM8, keyL, hW]
      · simp only [kyF8, List.mem_cons, List.not_mem_nil, or_false] at hp
        subst hp
        exact ⟨_, by simp [kyTs, kyV8, zipU], Le1.refl _⟩
    · have hr : 0 ≤ (8 + (k : Int)) ∧ (8 + (k : Int)) ≤ 100 := by omega
      have hn : (8 + (k : Int)).toNat = 8 + k := by omega
      obtain ⟨e1, e2⟩ := pK_eq hr (d := 1) (by omega)
      obtain ⟨e3, e4⟩ := pK_eq hr (d := 8) (by omega)
      rw [hn] at e1 e3
      simp only [Int.cast_ofNat_Int] at e1 e2 e3 e4
      have hw : IntKind.i64.wrap (8 + (k : Int) + 1) = 8 + ((k + 1 : Nat) : Int) := by
        unfold IntKind.wrap; simp [IntKind.bits, IntKind.signed]; omega
      have hm : (8 + (k : Int)).tmod 8 = (((8 + k) % 8 : Nat) : Int) := by
        rw [Int.tmod_eq_emod_of_nonneg (by omega)]; omega
      have hj : ∀ {T : List Int} {q : Int}, T = moreW 8 (wd4 W (8 + k - 1)) (8 + k) p → q = (if (8 + k) % 8 = 0 then dP p else p) → KyJ8 ⟨l, W0, p0, i0⟩ ⟨l, putW4 W (8 + k) (sumW (wd4 W (8 + k - 8)) T), q, 8 + ((k + 1 : Nat) : Int)⟩ (k + 1) := fun {T q} hT hq =>
        ⟨rfl, rfl, by omega, by subst hT; rw [hW, hp]; rfl, by rw [hq, hp]; rfl⟩
      have hd : ∀ (P : Prop) [Decidable P], P → decide P = true := fun P _ h => decide_eq_true h
      by_cases hz : (8 + k) % 8 = 0
      · refine Round.on (ky8_a x _) ⟨l, putW4 W (8 + k) (sumW (wd4 W (8 + k - 8)) (headW (wd4 W (8 + k - 1)) p)), dP p, 8 + ((k + 1 : Nat) : Int)⟩ [some ⟨true, .ints .u8 (some 4) (headW (wd4 W (pK (8 + (k : Int)) 1)) p)⟩] ?_ ?_ (by simp only [hw]; exact LeL.refl _) ⟨k + 1, hj (by unfold moreW; rw [if_pos hz]) (by rw [if_pos hz])⟩ rfl (by simp only; omega)
        · simp only [e1, e3, hn]
          rfl
        · simp only [ewr, e1, e2, e3, e4, hn, hm, hz]
          repeat' first | exact Paid.nil | refine paid_cons ?_ ?_
          all_goals (simp; try omega)
      · by_cases hz4 : (8 + k) % 8 = 4
        · refine Round.on (ky8_b x _) ⟨l, putW4 W (8 + k) (sumW (wd4 W (8 + k - 8)) (subW (wd4 W (8 + k - 1)))), p, 8 + ((k + 1 : Nat) : Int)⟩ [some ⟨true, .ints .u8 (some 4) (subW (wd4 W (pK (8 + (k : Int)) 1)))⟩] ?_ ?_ (by simp only [hw]; exact LeL.refl _) ⟨k + 1, hj (by unfold moreW; rw [if_neg hz, if_pos hz4]) (by rw [if_neg hz])⟩ rfl (by simp only; omega)
          · simp only [e1, e3, hn]
            rfl
          · simp only [ewr, e1, e2, e3, e4, hn, hm, hz4]
            repeat' first | exact Paid.nil | refine paid_cons ?_ ?_
            all_goals (simp; try omega)
        · have g1 : (((8 + k) % 8 : Nat) : Int) ≠ 0 := by omega
          have g2 : (((8 + k) % 8 : Nat) : Int) ≠ 4 := by omega
          refine Round.on (ky8_c x _) ⟨l, putW4 W (8 + k) (sumW (wd4 W (8 + k - 8)) (wd4 W (8 + k - 1))), p, 8 + ((k + 1 : Nat) : Int)⟩ [some ⟨true, .ints .u8 (some 4) (wd4 W (pK (8 + (k : Int)) 1))⟩] ?_ ?_ (by simp only [hw]; exact LeL.refl _) ⟨k + 1, hj (by unfold moreW; rw [if_neg hz, if_neg hz4]) (by rw [if_neg hz])⟩ rfl (by simp only; omega)
          · simp only [e1, e3, hn]
            rfl
          · simp only [ewr, e1, e2, e3, e4, hn, hm]
            generalize (((8 + k) % 8 : Nat) : Int) = r at g1 g2
            repeat' first | exact Paid.nil | refine paid_cons ?_ ?_
            all_goals (simp; try omega)
end Go.Proofs.Ytfmgodgakndjcaa
