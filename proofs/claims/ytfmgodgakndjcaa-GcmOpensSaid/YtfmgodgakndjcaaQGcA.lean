/- The program's block cipher: a key's words: contract of New. Own work. -/
import Derived.Test.YtfmgodgakndjcaaQAesC0
import Derived.Test.YtfmgodgakndjcaaQEvOne
set_option linter.unusedSimpArgs false
set_option linter.unusedVariables false
set_option linter.unusedSectionVars false
namespace Go.As
open Go.Ev Go.Sh
structure KyS where
  l : List Int
  W : List Int
  p : Int
  i : Int
end Go.As
namespace Go.Proofs.Ytfmgodgakndjcaa
open Go.Ev Go.Sh Go.As
set_option maxRecDepth 100000
def kyTs : List Nat := [4, 5, 8, 9]
theorem pK_eq {i : Int} (h : 0 ≤ i ∧ i ≤ 100) {d : Nat} (hd : d ≤ i.toNat) : pK i (d : Int) = i.toNat - d ∧ IntKind.i64.wrap (i - (d : Int)) = i - d := by
  have e : IntKind.i64.wrap (i - (d : Int)) = i - d := by unfold IntKind.wrap; simp [IntKind.bits, IntKind.signed]; omega
  exact ⟨by unfold pK; rw [e]; omega, e⟩
/- 16 bytes -/
def kyV4 (s : KyS) : List AV := [.int false .i64 4, .ptr false 1 0, .int true .u8 s.p, .int true .i64 s.i]
def kyM4 (s : KyS) : Mem := [some ⟨false, .ints .u8 (some 16) s.l⟩, some ⟨true, .wide [.int false .i64 10, .ints .u8 240 s.W]⟩]
def kyP4 : List AV → Mem → Option KyS
  | [.int false .i64 4, .ptr false 1 0, .int _ .u8 p, .int _ .i64 i], [some ⟨false, .ints .u8 (some 16) l⟩, some ⟨true, .wide [.int false .i64 10, .ints .u8 240 W]⟩] => some ⟨l, W, p, i⟩
  | _, _ => none
theorem ky4_a (x : Nat → AV) (s : KyS) : seesL kyTs ((codeL Try.prog qP (deep Try.prog qP ha5 100 3) (fun _ _ => none) 100 (lp (blk 2 (bodyOf Try.prog 11))) ⟨tmOf (ups x (zipU kyTs (kyV4 s))) 102, kyM4 s⟩).go [true, true]) = some ([decide (s.i < IntKind.i64.wrap (4 * IntKind.i64.wrap (4 + 7))), decide (0 ≤ IntKind.i64.wrap (s.i - 1)) && decide (IntKind.i64.wrap (s.i - 1) < ((60 : Nat) : Int)), decide (pK s.i 1 * 4 + 4 ≤ 240), s.i.tmod 4 == 0, decide (0 ≤ IntKind.i64.wrap (s.i - 4)) && decide (IntKind.i64.wrap (s.i - 4) < ((60 : Nat) : Int)), decide (pK s.i 4 * 4 + 4 ≤ 240), decide (0 ≤ s.i) && decide (s.i < ((60 : Nat) : Int)), decide (s.i.toNat * 4 + 4 ≤ 240)], 0, [.int false .i64 4, .ptr false 1 0, .int true .u8 (dP s.p), .int true .i64 (IntKind.i64.wrap (s.i + 1))], 102, kyM4 { s with W := putW4 s.W s.i.toNat (sumW (wd4 s.W (pK s.i 4)) (headW (wd4 s.W (pK s.i 1)) s.p)) } ++ [some ⟨true, .ints .u8 (some 4) (headW (wd4 s.W (pK s.i 1)) s.p)⟩]) := by kernel_rfl
theorem ky4_c (x : Nat → AV) (s : KyS) : seesL kyTs ((codeL Try.prog qP (deep Try.prog qP ha5 100 3) (fun _ _ => none) 100 (lp (blk 2 (bodyOf Try.prog 11))) ⟨tmOf (ups x (zipU kyTs (kyV4 s))) 102, kyM4 s⟩).go [true, false, false]) = some ([decide (s.i < IntKind.i64.wrap (4 * IntKind.i64.wrap (4 + 7))), decide (0 ≤ IntKind.i64.wrap (s.i - 1)) && decide (IntKind.i64.wrap (s.i - 1) < ((60 : Nat) : Int)), decide (pK s.i 1 * 4 + 4 ≤ 240), !(s.i.tmod 4 == 0), !(s.i.tmod 4 == 4), decide (0 ≤ IntKind.i64.wrap (s.i - 4)) && decide (IntKind.i64.wrap (s.i - 4) < ((60 : Nat) : Int)), decide (pK s.i 4 * 4 + 4 ≤ 240), decide (0 ≤ s.i) && decide (s.i < ((60 : Nat) : Int)), decide (s.i.toNat * 4 + 4 ≤ 240)], 0, [.int false .i64 4, .ptr false 1 0, .int true .u8 (s.p), .int true .i64 (IntKind.i64.wrap (s.i + 1))], 102, kyM4 { s with W := putW4 s.W s.i.toNat (sumW (wd4 s.W (pK s.i 4)) (wd4 s.W (pK s.i 1))) } ++ [some ⟨true, .ints .u8 (some 4) (wd4 s.W (pK s.i 1))⟩]) := by kernel_rfl
theorem ky4_f (x : Nat → AV) (s : KyS) : seesL kyTs ((codeL Try.prog qP (deep Try.prog qP ha5 100 3) (fun _ _ => none) 100 (lp (blk 2 (bodyOf Try.prog 11))) ⟨tmOf (ups x (zipU kyTs (kyV4 s))) 102, kyM4 s⟩).go [false]) = some ([!decide (s.i < IntKind.i64.wrap (4 * IntKind.i64.wrap (4 + 7)))], 4, kyV4 s, 102, kyM4 s) := by kernel_rfl
structure KyJ4 (s0 s : KyS) (k : Nat) : Prop where
  hl : s.l = s0.l
  hi : s.i = 4 + k
  hk : k ≤ 40
  hW : s.W = (keyG 4 s0.l k).1
  hp : s.p = (keyG 4 s0.l k).2
def kyO4 (s : KyS) : List Bool := [decide (s.i = 4), decide (s.W = (keyG 4 s.l 0).1), decide (s.p = 1)]
def kyF4 (s : KyS) : List (Nat × AV) × Mem := ([(5, .ptr false 1 0)], kyM4 { s with W := keyL 4 s.l })
def kyΛ4 (Λ : LoopH) : LoopH := famH 2 102 kyTs kyP4 kyO4 kyF4 Λ
theorem ky4_lok {Λ : LoopH} (hΛ : LOk Try.prog (bodyOf Try.prog 11) Λ) : LOk Try.prog (bodyOf Try.prog 11) (kyΛ4 Λ) := by
  refine fam_ok (q := qP) (n := 100) kyV4 kyM4 (fun s0 s => ∃ k, KyJ4 s0 s k) (fun s => 100 - s.i.toNat) mixed (ha5_ok.deep (q := qP) mixed noCount 100 3) hΛ LOk.none (by kernel_rfl) (by kernel_rfl) (fun s => rfl) (fun s => rfl) (fun avs m s h ho => ?_) (fun s0 s hJ x => ?_)
  · unfold kyP4 at h
    split at h
    · cases h
      have o1 := of_decide_eq_true (ho _ (List.mem_cons_self ..))
      have o2 := of_decide_eq_true (ho _ (List.mem_cons_of_mem _ (List.mem_cons_self ..)))
      have o3 := of_decide_eq_true (ho _ (List.mem_cons_of_mem _ (List.mem_cons_of_mem _ (List.mem_cons_self ..))))
      exact ⟨_, .cons (.refl _) (.cons (.refl _) (.cons (.int _ _ _) (.cons (.int _ _ _) .nil))), rfl, 0, ⟨rfl, by rw [o1]; rfl, by omega, o2, o3⟩⟩
    · cases h
  · obtain ⟨k, hl, hi, hk, hW, hp⟩ := hJ
    obtain ⟨l, W, p, i⟩ := s
    obtain ⟨l0, W0, p0, i0⟩ := s0
    simp only at hl hi hW hp
    subst hl hi
    have ewr : IntKind.i64.wrap (4 * IntKind.i64.wrap (4 + 7)) = 44 := by decide
    by_cases hend : k = 40
    · subst hend
      refine Round.out (ky4_f x _) rfl ?_ (paid_cons (by simp only [ewr]; decide) Paid.nil) fun p hp => ?_
      · simp only [kyF4, kyM4, keyL, hW]
      · simp only [kyF4, List.mem_cons, List.not_mem_nil, or_false] at hp
        subst hp
        exact ⟨_, by simp [kyTs, kyV4, zipU], Le1.refl _⟩
    · have hr : 0 ≤ (4 + (k : Int)) ∧ (4 + (k : Int)) ≤ 100 := by omega
      have hn : (4 + (k : Int)).toNat = 4 + k := by omega
      obtain ⟨e1, e2⟩ := pK_eq hr (d := 1) (by omega)
      obtain ⟨e3, e4⟩ := pK_eq hr (d := 4) (by omega)
      rw [hn] at e1 e3
      simp only [Int.cast_ofNat_Int] at e1 e2 e3 e4
      have hw : IntKind.i64.wrap (4 + (k : Int) + 1) = 4 + ((k + 1 : Nat) : Int) := by
        unfold IntKind.wrap; simp [IntKind.bits, IntKind.signed]; omega
      have hm : (4 + (k : Int)).tmod 4 = (((4 + k) % 4 : Nat) : Int) := by
        rw [Int.tmod_eq_emod_of_nonneg (by omega)]; omega
      have hj : ∀ {T : List Int} {q : Int}, T = moreW 4 (wd4 W (4 + k - 1)) (4 + k) p → q = (if (4 + k) % 4 = 0 then dP p else p) → KyJ4 ⟨l, W0, p0, i0⟩ ⟨l, putW4 W (4 + k) (sumW (wd4 W (4 + k - 4)) T), q, 4 + ((k + 1 : Nat) : Int)⟩ (k + 1) := fun {T q} hT hq =>
        ⟨rfl, rfl, by omega, by subst hT; rw [hW, hp]; rfl, by rw [hq, hp]; rfl⟩
      have hd : ∀ (P : Prop) [Decidable P], P → decide P = true := fun P _ h => decide_eq_true h
      by_cases hz : (4 + k) % 4 = 0
      · refine Round.on (ky4_a x _) ⟨l, putW4 W (4 + k) (sumW (wd4 W (4 + k - 4)) (headW (wd4 W (4 + k - 1)) p)), dP p, 4 + ((k + 1 : Nat) : Int)⟩ [some ⟨true, .ints .u8 (some 4) (headW (wd4 W (pK (4 + (k : Int)) 1)) p)⟩] ?_ ?_ (by simp only [hw]; exact LeL.refl _) ⟨k + 1, hj (by unfold moreW; rw [if_pos hz]) (by rw [if_pos hz])⟩ rfl (by simp only; omega)
        · simp only [e1, e3, hn]
          rfl
        · simp only [ewr, e1, e2, e3, e4, hn, hm, hz]
          repeat' first | exact Paid.nil | refine paid_cons ?_ ?_
          all_goals (simp; try omega)
      · by_cases hz4 : (4 + k) % 4 = 4
        · omega
        · have g1 : (((4 + k) % 4 : Nat) : Int) ≠ 0 := by omega
          have g2 : (((4 + k) % 4 : Nat) : Int) ≠ 4 := by omega
          refine Round.on (ky4_c x _) ⟨l, putW4 W (4 + k) (sumW (wd4 W (4 + k - 4)) (wd4 W (4 + k - 1))), p, 4 + ((k + 1 : Nat) : Int)⟩ [some ⟨true, .ints .u8 (some 4) (wd4 W (pK (4 + (k : Int)) 1))⟩] ?_ ?_ (by simp only [hw]; exact LeL.refl _) ⟨k + 1, hj (by unfold moreW; rw [if_neg hz, if_neg hz4]) (by rw [if_neg hz])⟩ rfl (by simp only; omega)
          · simp only [e1, e3, hn]
            rfl
          · simp only [ewr, e1, e2, e3, e4, hn, hm]
            generalize (((4 + k) % 4 : Nat) : Int) = r at g1 g2
            repeat' first | exact Paid.nil | refine paid_cons ?_ ?_
            all_goals (simp; try omega)
/- 32 bytes -/
def kyV8 (s : KyS) : List AV := [.int false .i64 8, .ptr false 1 0, .int true .u8 s.p, .int true .i64 s.i]
def kyM8 (s : KyS) : Mem := [some ⟨false, .ints .u8 (some 32) s.l⟩, some ⟨true, .wide [.int false .i64 14, .ints .u8 240 s.W]⟩]
def kyP8 : List AV → Mem → Option KyS
  | [.int false .i64 8, .ptr false 1 0, .int _ .u8 p, .int _ .i64 i], [some ⟨false, .ints .u8 (some 32) l⟩, some ⟨true, .wide [.int false .i64 14, .ints .u8 240 W]⟩] => some ⟨l, W, p, i⟩
  | _, _ => none
theorem ky8_a (x : Nat → AV) (s : KyS) : seesL kyTs ((codeL Try.prog qP (deep Try.prog qP ha5 100 3) (fun _ _ => none) 100 (lp (blk 2 (bodyOf Try.prog 11))) ⟨tmOf (ups x (zipU kyTs (kyV8 s))) 102, kyM8 s⟩).go [true, true]) = some ([decide (s.i < IntKind.i64.wrap (4 * IntKind.i64.wrap (8 + 7))), decide (0 ≤ IntKind.i64.wrap (s.i - 1)) && decide (IntKind.i64.wrap (s.i - 1) < ((60 : Nat) : Int)), decide (pK s.i 1 * 4 + 4 ≤ 240), s.i.tmod 8 == 0, decide (0 ≤ IntKind.i64.wrap (s.i - 8)) && decide (IntKind.i64.wrap (s.i - 8) < ((60 : Nat) : Int)), decide (pK s.i 8 * 4 + 4 ≤ 240), decide (0 ≤ s.i) && decide (s.i < ((60 : Nat) : Int)), decide (s.i.toNat * 4 + 4 ≤ 240)], 0, [.int false .i64 8, .ptr false 1 0, .int true .u8 (dP s.p), .int true .i64 (IntKind.i64.wrap (s.i + 1))], 102, kyM8 { s with W := putW4 s.W s.i.toNat (sumW (wd4 s.W (pK s.i 8)) (headW (wd4 s.W (pK s.i 1)) s.p)) } ++ [some ⟨true, .ints .u8 (some 4) (headW (wd4 s.W (pK s.i 1)) s.p)⟩]) := by kernel_rfl
theorem ky8_b (x : Nat → AV) (s : KyS) : seesL kyTs ((codeL Try.prog qP (deep Try.prog qP ha5 100 3) (fun _ _ => none) 100 (lp (blk 2 (bodyOf Try.prog 11))) ⟨tmOf (ups x (zipU kyTs (kyV8 s))) 102, kyM8 s⟩).go [true, false, true]) = some ([decide (s.i < IntKind.i64.wrap (4 * IntKind.i64.wrap (8 + 7))), decide (0 ≤ IntKind.i64.wrap (s.i - 1)) && decide (IntKind.i64.wrap (s.i - 1) < ((60 : Nat) : Int)), decide (pK s.i 1 * 4 + 4 ≤ 240), !(s.i.tmod 8 == 0), s.i.tmod 8 == 4, decide (0 ≤ IntKind.i64.wrap (s.i - 8)) && decide (IntKind.i64.wrap (s.i - 8) < ((60 : Nat) : Int)), decide (pK s.i 8 * 4 + 4 ≤ 240), decide (0 ≤ s.i) && decide (s.i < ((60 : Nat) : Int)), decide (s.i.toNat * 4 + 4 ≤ 240)], 0, [.int false .i64 8, .ptr false 1 0, .int true .u8 (s.p), .int true .i64 (IntKind.i64.wrap (s.i + 1))], 102, kyM8 { s with W := putW4 s.W s.i.toNat (sumW (wd4 s.W (pK s.i 8)) (subW (wd4 s.W (pK s.i 1)))) } ++ [some ⟨true, .ints .u8 (some 4) (subW (wd4 s.W (pK s.i 1)))⟩]) := by kernel_rfl
theorem ky8_c (x : Nat → AV) (s : KyS) : seesL kyTs ((codeL Try.prog qP (deep Try.prog qP ha5 100 3) (fun _ _ => none) 100 (lp (blk 2 (bodyOf Try.prog 11))) ⟨tmOf (ups x (zipU kyTs (kyV8 s))) 102, kyM8 s⟩).go [true, false, false]) = some ([decide (s.i < IntKind.i64.wrap (4 * IntKind.i64.wrap (8 + 7))), decide (0 ≤ IntKind.i64.wrap (s.i - 1)) && decide (IntKind.i64.wrap (s.i - 1) < ((60 : Nat) : Int)), decide (pK s.i 1 * 4 + 4 ≤ 240), !(s.i.tmod 8 == 0), !(s.i.tmod 8 == 4), decide (0 ≤ IntKind.i64.wrap (s.i - 8)) && decide (IntKind.i64.wrap (s.i - 8) < ((60 : Nat) : Int)), decide (pK s.i 8 * 4 + 4 ≤ 240), decide (0 ≤ s.i) && decide (s.i < ((60 : Nat) : Int)), decide (s.i.toNat * 4 + 4 ≤ 240)], 0, [.int false .i64 8, .ptr false 1 0, .int true .u8 (s.p), .int true .i64 (IntKind.i64.wrap (s.i + 1))], 102, kyM8 { s with W := putW4 s.W s.i.toNat (sumW (wd4 s.W (pK s.i 8)) (wd4 s.W (pK s.i 1))) } ++ [some ⟨true, .ints .u8 (some 4) (wd4 s.W (pK s.i 1))⟩]) := by kernel_rfl
theorem ky8_f (x : Nat → AV) (s : KyS) : seesL kyTs ((codeL Try.prog qP (deep Try.prog qP ha5 100 3) (fun _ _ => none) 100 (lp (blk 2 (bodyOf Try.prog 11))) ⟨tmOf (ups x (zipU kyTs (kyV8 s))) 102, kyM8 s⟩).go [false]) = some ([!decide (s.i < IntKind.i64.wrap (4 * IntKind.i64.wrap (8 + 7)))], 4, kyV8 s, 102, kyM8 s) := by kernel_rfl
structure KyJ8 (s0 s : KyS) (k : Nat) : Prop where
  hl : s.l = s0.l
  hi : s.i = 8 + k
  hk : k ≤ 52
  hW : s.W = (keyG 8 s0.l k).1
  hp : s.p = (keyG 8 s0.l k).2
def kyO8 (s : KyS) : List Bool := [decide (s.i = 8), decide (s.W = (keyG 8 s.l 0).1), decide (s.p = 1)]
def kyF8 (s : KyS) : List (Nat × AV) × Mem := ([(5, .ptr false 1 0)], kyM8 { s with W := keyL 8 s.l })
def kyΛ8 (Λ : LoopH) : LoopH := famH 2 102 kyTs kyP8 kyO8 kyF8 Λ
theorem ky8_lok {Λ : LoopH} (hΛ : LOk Try.prog (bodyOf Try.prog 11) Λ) : LOk Try.prog (bodyOf Try.prog 11) (kyΛ8 Λ) := by
  refine fam_ok (q := qP) (n := 100) kyV8 kyM8 (fun s0 s => ∃ k, KyJ8 s0 s k) (fun s => 100 - s.i.toNat) mixed (ha5_ok.deep (q := qP) mixed noCount 100 3) hΛ LOk.none (by kernel_rfl) (by kernel_rfl) (fun s => rfl) (fun s => rfl) (fun avs m s h ho => ?_) (fun s0 s hJ x => ?_)
  · unfold kyP8 at h
    split at h
    · cases h
      have o1 := of_decide_eq_true (ho _ (List.mem_cons_self ..))
      have o2 := of_decide_eq_true (ho _ (List.mem_cons_of_mem _ (List.mem_cons_self ..)))
      have o3 := of_decide_eq_true (ho _ (List.mem_cons_of_mem _ (List.mem_cons_of_mem _ (List.mem_cons_self ..))))
      exact ⟨_, .cons (.refl _) (.cons (.refl _) (.cons (.int _ _ _) (.cons (.int _ _ _) .nil))), rfl, 0, ⟨rfl, by rw [o1]; rfl, by omega, o2, o3⟩⟩
    · cases h
  · obtain ⟨k, hl, hi, hk, hW, hp⟩ := hJ
    obtain ⟨l, W, p, i⟩ := s
    obtain ⟨l0, W0, p0, i0⟩ := s0
    simp only at hl hi hW hp
    subst hl hi
    have ewr : IntKind.i64.wrap (4 * IntKind.i64.wrap (8 + 7)) = 60 := by decide
    by_cases hend : k = 52
    · subst hend
      refine Round.out (ky8_f x _) rfl ?_ (paid_cons (by simp only [ewr]; decide) Paid.nil) fun p hp => ?_
      · simp only [kyF8, kyM8, keyL, hW]
      · simp only [kyF8, List.mem_cons, List.not_mem_nil, or_false] at hp
        subst hp
        exact ⟨_, by simp [kyTs, kyV8, zipU], Le1.refl _⟩
    · have hr : 0 ≤ (8 + (k : Int)) ∧ (8 + (k : Int)) ≤ 100 := by omega
      have hn : (8 + (k : Int)).toNat = 8 + k := by omega
      obtain ⟨e1, e2⟩ := pK_eq hr (d := 1) (by omega)
      obtain ⟨e3, e4⟩ := pK_eq hr (d := 8) (by omega)
      rw [hn] at e1 e3
      simp only [Int.cast_ofNat_Int] at e1 e2 e3 e4
      have hw : IntKind.i64.wrap (8 + (k : Int) + 1) = 8 + ((k + 1 : Nat) : Int) := by
        unfold IntKind.wrap; simp [IntKind.bits, IntKind.signed]; omega
      have hm : (8 + (k : Int)).tmod 8 = (((8 + k) % 8 : Nat) : Int) := by
        rw [Int.tmod_eq_emod_of_nonneg (by omega)]; omega
      have hj : ∀ {T : List Int} {q : Int}, T = moreW 8 (wd4 W (8 + k - 1)) (8 + k) p → q = (if (8 + k) % 8 = 0 then dP p else p) → KyJ8 ⟨l, W0, p0, i0⟩ ⟨l, putW4 W (8 + k) (sumW (wd4 W (8 + k - 8)) T), q, 8 + ((k + 1 : Nat) : Int)⟩ (k + 1) := fun {T q} hT hq =>
        ⟨rfl, rfl, by omega, by subst hT; rw [hW, hp]; rfl, by rw [hq, hp]; rfl⟩
      have hd : ∀ (P : Prop) [Decidable P], P → decide P = true := fun P _ h => decide_eq_true h
      by_cases hz : (8 + k) % 8 = 0
      · refine Round.on (ky8_a x _) ⟨l, putW4 W (8 + k) (sumW (wd4 W (8 + k - 8)) (headW (wd4 W (8 + k - 1)) p)), dP p, 8 + ((k + 1 : Nat) : Int)⟩ [some ⟨true, .ints .u8 (some 4) (headW (wd4 W (pK (8 + (k : Int)) 1)) p)⟩] ?_ ?_ (by simp only [hw]; exact LeL.refl _) ⟨k + 1, hj (by unfold moreW; rw [if_pos hz]) (by rw [if_pos hz])⟩ rfl (by simp only; omega)
        · simp only [e1, e3, hn]
          rfl
        · simp only [ewr, e1, e2, e3, e4, hn, hm, hz]
          repeat' first | exact Paid.nil | refine paid_cons ?_ ?_
          all_goals (simp; try omega)
      · by_cases hz4 : (8 + k) % 8 = 4
        · refine Round.on (ky8_b x _) ⟨l, putW4 W (8 + k) (sumW (wd4 W (8 + k - 8)) (subW (wd4 W (8 + k - 1)))), p, 8 + ((k + 1 : Nat) : Int)⟩ [some ⟨true, .ints .u8 (some 4) (subW (wd4 W (pK (8 + (k : Int)) 1)))⟩] ?_ ?_ (by simp only [hw]; exact LeL.refl _) ⟨k + 1, hj (by unfold moreW; rw [if_neg hz, if_pos hz4]) (by rw [if_neg hz])⟩ rfl (by simp only; omega)
          · simp only [e1, e3, hn]
            rfl
          · simp only [ewr, e1, e2, e3, e4, hn, hm, hz4]
            repeat' first | exact Paid.nil | refine paid_cons ?_ ?_
            all_goals (simp; try omega)
        · have g1 : (((8 + k) % 8 : Nat) : Int) ≠ 0 := by omega
          have g2 : (((8 + k) % 8 : Nat) : Int) ≠ 4 := by omega
          refine Round.on (ky8_c x _) ⟨l, putW4 W (8 + k) (sumW (wd4 W (8 + k - 8)) (wd4 W (8 + k - 1))), p, 8 + ((k + 1 : Nat) : Int)⟩ [some ⟨true, .ints .u8 (some 4) (wd4 W (pK (8 + (k : Int)) 1))⟩] ?_ ?_ (by simp only [hw]; exact LeL.refl _) ⟨k + 1, hj (by unfold moreW; rw [if_neg hz, if_neg hz4]) (by rw [if_neg hz])⟩ rfl (by simp only; omega)
          · simp only [e1, e3, hn]
            rfl
          · simp only [ewr, e1, e2, e3, e4, hn, hm]
            generalize (((8 + k) % 8 : Nat) : Int) = r at g1 g2
            repeat' first | exact Paid.nil | refine paid_cons ?_ ?_
            all_goals (simp; try omega)
end Go.Proofs.Ytfmgodgakndjcaa
namespace Go.Proofs.Ytfmgodgakndjcaa
open Go.Ev Go.Sh Go.As
set_option maxRecDepth 100000
theorem new4_eval (l : List Int) : ((funcL Try.prog qP (deep Try.prog qP ha5 100 3) (kyΛ4 fun _ _ => none) 100 11 (cArgs 0 [.buf false .u8 16 l]) (cMem [.buf false .u8 16 l])).go []).flat =
    some ([decide ((4 : Int) = 4), decide ((keyG 4 l 0).1 = (keyG 4 l 0).1), decide ((1 : Int) = 1)], (.tuple [.ptr false 1 0, .int false .i64 0], [some ⟨false, .ints .u8 (some 16) l⟩, some ⟨true, .wide [.int false .i64 10, .ints .u8 240 (keyL 4 l)]⟩])) := by kernel_rfl
theorem new8_eval (l : List Int) : ((funcL Try.prog qP (deep Try.prog qP ha5 100 3) (kyΛ8 fun _ _ => none) 100 11 (cArgs 0 [.buf false .u8 32 l]) (cMem [.buf false .u8 32 l])).go []).flat =
    some ([decide ((8 : Int) = 8), decide ((keyG 8 l 0).1 = (keyG 8 l 0).1), decide ((1 : Int) = 1)], (.tuple [.ptr false 1 0, .int false .i64 0], [some ⟨false, .ints .u8 (some 32) l⟩, some ⟨true, .wide [.int false .i64 14, .ints .u8 240 (keyL 8 l)]⟩])) := by kernel_rfl
theorem newX_eval (n : Nat) (l : List Int) : ((funcL Try.prog qP (deep Try.prog qP ha5 100 3) (fun _ _ => none) 100 11 (cArgs 0 [.buf true .u8 n l]) (cMem [.buf true .u8 n l])).go [true]).flat =
    some ([decide (n < 9223372036854775808), !((n : Int) != 16) || decide (n < 9223372036854775808), !((n : Int) != 16) || ((n : Int) != 16), !((n : Int) != 16) || ((n : Int) != 16), !((n : Int) != 16) || ((n : Int) != 16), match ((n : Int) != 16) with | true => ((n : Int) != 32) | false => false], (.tuple [.nilptr, .int false .i64 2], cMem [.buf true .u8 n l])) := by kernel_rfl
def keyV (N : Nat) (l : List Int) : AV × Mem := (.tuple [.ptr false 0 0, .int false .i64 0], [some ⟨true, .wide [.int false .i64 ((N : Int) + 6), .ints .u8 240 (keyL N l)]⟩])
/-- Of 16 bytes, of 32. -/
def newS : List V → E (AV × Mem)
  | [.buf false .u8 16 l] => some ([], keyV 4 l)
  | [.buf false .u8 32 l] => some ([], keyV 8 l)
  | _ => none
theorem new_ok {xs : List V} {o : List Bool} {v : AV} {bs : Mem} (h : newS xs = some (o, (v, bs))) : ViewCall Try.prog 11 xs v bs := by
  unfold newS at h
  split at h
  · rename_i l
    cases h
    exact @viewN_of_go _ _ _ _ _ mixed noCount (ha5_ok.deep mixed noCount 100 3) _ _ _ (fun fn c hf hb => by rw [bodyOf_eq hf hb]; exact (ky4_lok LOk.none).toN) _ _ _ _ _ [] (new4_eval l) (paid_cons rfl (paid_cons (decide_eq_true rfl) (paid_cons rfl Paid.nil))) rfl rfl rfl
  · rename_i l
    cases h
    exact @viewN_of_go _ _ _ _ _ mixed noCount (ha5_ok.deep mixed noCount 100 3) _ _ _ (fun fn c hf hb => by rw [bodyOf_eq hf hb]; exact (ky8_lok LOk.none).toN) _ _ _ _ _ [] (new8_eval l) (paid_cons rfl (paid_cons (decide_eq_true rfl) (paid_cons rfl Paid.nil))) rfl rfl rfl
  · cases h
/-- A slice's length is what it is, marked or not. -/
theorem ViewCall.mark {g : FuncId} {k : IntKind} {n : Nat} {l : List Int} {v : AV} {bs : Mem} (h : ViewCall Try.prog g [.buf false k n l] v bs) : ViewCall Try.prog g [.buf true k n l] v bs := by
  intro ρ vs w ha hi
  refine h (ρ := ρ) (vs := vs) (w := w) ?_ hi
  cases ha with
  | cons _ _ u us hu hus =>
    cases hus
    refine .cons _ _ _ _ ?_ .nil
    cases hu with
    | slice _ _ _ _ _ _ c ad hn hc hl hw had => exact .slice false _ _ _ _ _ c ad hn hc hl hw had
def newS16 : List V → E (AV × Mem)
  | [.buf true .u8 n l] => some ([decide (n = 16)], keyV 4 l)
  | xs => newS xs
def newS32 : List V → E (AV × Mem)
  | [.buf true .u8 n l] => some ([decide (n = 32)], keyV 8 l)
  | xs => newS xs
def newSX : List V → E (AV × Mem)
  | [.buf true .u8 n _] => some ([!decide (n = 16), !decide (n = 32), decide (n < 9223372036854775808)], (.tuple [.nilptr, .int false .i64 2], []))
  | xs => newS xs
theorem new16_ok {xs : List V} {o : List Bool} {v : AV} {bs : Mem} (h : newS16 xs = some (o, (v, bs))) (ho : Paid o) : ViewCall Try.prog 11 xs v bs := by
  unfold newS16 at h
  split at h
  · rename_i n l
    cases h
    obtain rfl := of_decide_eq_true (ho _ (List.mem_cons_self ..))
    exact @ViewCall.mark _ _ _ _ _ _ (@new_ok [.buf false .u8 16 l] [] _ _ rfl)
  · exact @new_ok _ _ _ _ h
theorem new32_ok {xs : List V} {o : List Bool} {v : AV} {bs : Mem} (h : newS32 xs = some (o, (v, bs))) (ho : Paid o) : ViewCall Try.prog 11 xs v bs := by
  unfold newS32 at h
  split at h
  · rename_i n l
    cases h
    obtain rfl := of_decide_eq_true (ho _ (List.mem_cons_self ..))
    exact @ViewCall.mark _ _ _ _ _ _ (@new_ok [.buf false .u8 32 l] [] _ _ rfl)
  · exact @new_ok _ _ _ _ h
theorem newX_ok {xs : List V} {o : List Bool} {v : AV} {bs : Mem} (h : newSX xs = some (o, (v, bs))) (ho : Paid o) : ViewCall Try.prog 11 xs v bs := by
  unfold newSX at h
  split at h
  · rename_i n l
    cases h
    have o1 := ho _ (List.mem_cons_self ..)
    have o2 := ho _ (List.mem_cons_of_mem _ (List.mem_cons_self ..))
    have o3 := ho _ (List.mem_cons_of_mem _ (List.mem_cons_of_mem _ (List.mem_cons_self ..)))
    have e1 : ((n : Int) != 16) = true := by simp at o1 ⊢; omega
    have e2 : ((n : Int) != 32) = true := by simp at o2 ⊢; omega
    have ev := newX_eval n l
    rw [e1, e2, o3] at ev
    exact @viewN_of_go _ _ _ _ _ mixed noCount (ha5_ok.deep mixed noCount 100 3) _ _ _ (fun fn c hf hb => LOkN.none) _ _ _ _ _ [true] ev (all1_paid rfl) rfl rfl rfl
  · exact @new_ok _ _ _ _ h
def hb16 : CallH := withV 11 newS16 ha5
def hb32 : CallH := withV 11 newS32 ha5
def hbX : CallH := withV 11 newSX ha5
theorem hb16_ok : HOk Try.prog hb16 := ha5_ok.withV fun _ _ _ _ h ho => new16_ok h ho
theorem hb32_ok : HOk Try.prog hb32 := ha5_ok.withV fun _ _ _ _ h ho => new32_ok h ho
theorem hbX_ok : HOk Try.prog hbX := ha5_ok.withV fun _ _ _ _ h ho => newX_ok h ho
end Go.Proofs.Ytfmgodgakndjcaa
namespace Go.Gc
open Go.Ev Go.Sh
structure MuS where
  bits : Int
  qh : Int
  qt : Int
  sh : Int
  st : Int
/-- One round of a product. -/
def mu1 (s : MuS) : MuS :=
  ⟨ishl .u64 s.bits 1, ixor .u64 (ishr .u64 s.qh 1) (iand .u64 16212958658533785600 (IntKind.u64.wrap (0 - iand .u64 s.qt 1))), ior .u64 (ishl .u64 s.qh 63) (ishr .u64 s.qt 1),
    ixor .u64 s.sh (iand .u64 s.qh (IntKind.u64.wrap (0 - ishr .u64 s.bits 63))), ixor .u64 s.st (iand .u64 s.qt (IntKind.u64.wrap (0 - ishr .u64 s.bits 63)))⟩
def muN : Nat → MuS → MuS
  | 0, s => s
  | n + 1, s => mu1 (muN n s)
structure MuF where
  ph : Int
  pt : Int
  a : Int
  b : Int
  s : MuS
  z : Bool
  y : Bool
  o : Int
  i : Int
def mul2 (s : MuS) (pt : Int) : MuS := muN 64 ⟨pt, s.qh, s.qt, s.sh, s.st⟩
def mulW (ph pt qh qt : Int) : MuS := mul2 (muN 64 ⟨ph, qh, qt, 0, 0⟩) pt
/-- Eight bytes as a number. -/
def rd8 (b : List Int) (o : Nat) : Int := (List.range 8).foldl (fun a i => ior .u64 (ishl .u64 a 8) (IntKind.u64.wrap (b.getD (o + i) 0))) 0
/-- A polynomial's block. -/
def blkP (h t : Int) : List Int := (List.range 8).map (fun i => IntKind.u8.wrap (ishr .u64 h (((56 - 8 * i : Nat) : Int)))) ++ (List.range 8).map (fun i => IntKind.u8.wrap (ishr .u64 t (((56 - 8 * i : Nat) : Int))))
end Go.Gc
namespace Go.Proofs.Ytfmgodgakndjcaa
open Go.Ev Go.Sh Go.As Go.Gc
set_option maxRecDepth 100000
def muTs : List Nat := [3, 4, 5, 7, 13, 14, 17]
def muV (s : MuF) : List AV := [.ptr false 3 0, .ptr false 4 0, .ptr false 5 0, .int true .u64 s.s.bits, .agg [.int true .u64 s.ph, .int true .u64 s.pt], .int false .i64 s.o, .int true .i64 s.i]
def muM (s : MuF) : Mem := [none, none, some ⟨true, .vals [.int true .u64 s.a, .int true .u64 s.b]⟩, some ⟨true, .vals [.int true .u64 s.s.qh, .int true .u64 s.s.qt]⟩, some ⟨true, .vals [.int false .u64 0, .int false .u64 0]⟩, some ⟨true, .vals [.int s.z .u64 s.s.sh, .int s.y .u64 s.s.st]⟩]
def muP : List AV → Mem → Option MuF
  | [.ptr false 3 0, .ptr false 4 0, .ptr false 5 0, .int true .u64 bits, .agg [.int true .u64 ph, .int true .u64 pt], .int false .i64 o, .int false .i64 i],
    [none, none, some ⟨true, .vals [.int true .u64 a, .int true .u64 b]⟩, some ⟨true, .vals [.int true .u64 qh, .int true .u64 qt]⟩, some ⟨true, .vals [.int false .u64 0, .int false .u64 0]⟩, some ⟨true, .vals [.int z .u64 sh, .int y .u64 st]⟩] =>
    some ⟨ph, pt, a, b, ⟨bits, qh, qt, sh, st⟩, z, y, o, i⟩
  | _, _ => none
def muO (s : MuF) : List Bool := [decide (s.i = 0)]
def muF (s : MuF) : List (Nat × AV) × Mem := ([(3, .ptr false 3 0), (4, .ptr false 4 0), (5, .ptr false 5 0), (13, .agg [.int true .u64 s.ph, .int true .u64 s.pt]), (14, .int false .i64 s.o)], muM { s with s := muN 64 s.s, z := true, y := true })
def muΛ (Λ : LoopH) : LoopH := famH 2 40 muTs muP muO muF Λ
theorem mu_t (x : Nat → AV) (s : MuF) : seesL muTs ((codeL Try.prog qP (deep Try.prog qP a0 100 3) (fun _ _ => none) 100 (lp (blk 2 (bodyOf Try.prog 80))) ⟨tmOf (ups x (zipU muTs (muV s))) 40, muM s⟩).go [true]) =
    some ([decide (s.i < 64)], 0, muV { s with s := mu1 s.s, z := true, y := true, i := IntKind.i64.wrap (s.i + 1) }, 40, muM { s with s := mu1 s.s, z := true, y := true, i := IntKind.i64.wrap (s.i + 1) }) := by
  obtain ⟨ph, pt, a, b, s, z, y, o, i⟩ := s
  cases z <;> cases y <;> kernel_rfl
theorem mu_f (x : Nat → AV) (s : MuF) : seesL muTs ((codeL Try.prog qP (deep Try.prog qP a0 100 3) (fun _ _ => none) 100 (lp (blk 2 (bodyOf Try.prog 80))) ⟨tmOf (ups x (zipU muTs (muV s))) 40, muM s⟩).go [false]) =
    some ([!decide (s.i < 64)], 4, muV s, 40, muM s) := by kernel_rfl
theorem mu_lok {Λ : LoopH} (hΛ : LOk Try.prog (bodyOf Try.prog 80) Λ) : LOk Try.prog (bodyOf Try.prog 80) (muΛ Λ) := by
  refine fam_ok (q := qP) (n := 100) muV muM (fun s0 s => ∃ j : Nat, j ≤ 64 ∧ s.ph = s0.ph ∧ s.pt = s0.pt ∧ s.a = s0.a ∧ s.b = s0.b ∧ s.o = s0.o ∧ s.s = muN j s0.s ∧ s.i = (j : Int) ∧ (0 < j → s.z = true ∧ s.y = true)) (fun s => 64 - s.i.toNat) mixed (a0_ok.deep (q := qP) mixed noCount 100 3) hΛ LOk.none (by kernel_rfl) (by kernel_rfl) (fun s => rfl) (fun s => rfl) (fun avs m s h ho => ?_) (fun s0 s hJ x => ?_)
  · unfold muP at h
    split at h
    · cases h
      have o1 := of_decide_eq_true (ho _ (List.mem_cons_self ..))
      exact ⟨_, .cons (.refl _) (.cons (.refl _) (.cons (.refl _) (.cons (.refl _) (.cons (.refl _) (.cons (.refl _) (.cons (.int _ _ _) .nil)))))), rfl, 0, by omega, rfl, rfl, rfl, rfl, rfl, rfl, o1, fun h => by omega⟩
    · cases h
  · obtain ⟨j, hj, e1, e2, e3, e4, e5, e6, e7, e8⟩ := hJ
    obtain ⟨ph, pt, a, b, s, z, y, o, i⟩ := s
    simp only at e1 e2 e3 e4 e5 e6 e7 e8
    subst e1 e2 e3 e4 e5 e6 e7
    by_cases hend : j = 64
    · subst hend
      obtain ⟨rfl, rfl⟩ := e8 (by omega)
      refine Round.out (mu_f x _) rfl rfl (paid_cons (by simp) Paid.nil) fun p hp => ?_
      simp only [muF, List.mem_cons, List.not_mem_nil, or_false] at hp
      rcases hp with rfl | rfl | rfl | rfl | rfl
      · exact ⟨_, by simp [muTs, muV, zipU], Le1.refl _⟩
      · exact ⟨_, by simp [muTs, muV, zipU], Le1.refl _⟩
      · exact ⟨_, by simp [muTs, muV, zipU], Le1.refl _⟩
      · exact ⟨.agg [.int true .u64 s0.ph, .int true .u64 s0.pt], by simp [muTs, muV, zipU], Le1.refl _⟩
      · exact ⟨.int false .i64 s0.o, by simp [muTs, muV, zipU], Le1.refl _⟩
    · have hw : IntKind.i64.wrap ((j : Int) + 1) = ((j + 1 : Nat) : Int) := by
        unfold IntKind.wrap; simp [IntKind.bits, IntKind.signed]; omega
      refine Round.on (mu_t x _) ⟨s0.ph, s0.pt, s0.a, s0.b, muN (j + 1) s0.s, true, true, s0.o, ((j + 1 : Nat) : Int)⟩ [] ?_ (paid_cons (decide_eq_true (by simp only; omega)) Paid.nil) ?_ ⟨j + 1, by omega, rfl, rfl, rfl, rfl, rfl, rfl, rfl, fun _ => ⟨rfl, rfl⟩⟩ rfl (by simp only; omega)
      · simp only [hw]
        rw [List.append_nil]
        rfl
      · simp only [hw]; exact LeL.refl _
-- contracts
theorem times_eval (ph pt qh qt : Int) : ((funcL Try.prog qP (deep Try.prog qP a0 100 3) (muΛ fun _ _ => none) 100 80 (cArgs 0 [.pl (.agg [.int true .u64 ph, .int true .u64 pt]), .pl (.agg [.int true .u64 qh, .int true .u64 qt])]) (cMem [.pl (.agg [.int true .u64 ph, .int true .u64 pt]), .pl (.agg [.int true .u64 qh, .int true .u64 qt])])).go []).flat =
    some ([decide ((0 : Int) = 0), decide ((0 : Int) = 0)], (.agg [.int true .u64 (mulW ph pt qh qt).sh, .int true .u64 (mulW ph pt qh qt).st], [none, none, some ⟨true, .vals [.int true .u64 ph, .int true .u64 pt]⟩, some ⟨true, .vals [.int true .u64 (mulW ph pt qh qt).qh, .int true .u64 (mulW ph pt qh qt).qt]⟩, some ⟨true, .vals [.int true .u64 (mulW ph pt qh qt).sh, .int true .u64 (mulW ph pt qh qt).st]⟩, some ⟨true, .vals [.int true .u64 (mulW ph pt qh qt).sh, .int true .u64 (mulW ph pt qh qt).st]⟩])) := by kernel_rfl
theorem of_eval (b : List Int) : res (funcA Try.prog qP a0 100 76 (cArgs 0 [.pl (.ints .u8 16 b)]) (cMem [.pl (.ints .u8 16 b)])) = some ([], .agg [.int true .u64 (rd8 b 0), .int true .u64 (rd8 b 8)]) := by kernel_rfl
theorem blkP_eval (h t : Int) : res (funcA Try.prog qP a0 100 81 (cArgs 0 [.pl (.agg [.int true .u64 h, .int true .u64 t])]) (cMem [.pl (.agg [.int true .u64 h, .int true .u64 t])])) = some ([], .ints .u8 16 (blkP h t)) := by kernel_rfl
end Go.Proofs.Ytfmgodgakndjcaa
