/- The reference's block cipher: a key's words, as a family; contract of New. Own work. -/
import Derived.Test.YtfmgodgakndjcaaQAesW
set_option linter.unusedSimpArgs false
set_option linter.unusedVariables false
set_option linter.unusedSectionVars false
namespace Go.Proofs.Ytfmgodgakndjcaa
open Go.Ev Go.Sh Go.As
set_option maxRecDepth 100000
theorem aR_ok {k d : Nat} (hk : k ≤ 100) (h1 : 1 ≤ d) (hd : d ≤ k) : aR (k : Int) (d : Int) k = true := by
  unfold aR; rw [(pK_nat hk hd).2]; simp; omega
theorem bR_ok {w : List Int} {k d j : Nat} (hk : k ≤ 100) (h1 : 1 ≤ d) (hd : d ≤ k) (hj : j < 4) (hw : w.length = 4 * k) : bR w (k : Int) (d : Int) j = true := by
  unfold bR; rw [(pK_nat hk hd).1]; exact decide_eq_true (by omega)
theorem cR_ok {x : Int} (h : B8 x) : Paid (cR x) := by
  unfold B8 at h
  exact paid_cons (by simp; omega) (paid_cons (decide_eq_true (by omega)) Paid.nil)
theorem endR_ok {w : List Int} {k : Nat} (hk : k ≤ 100) (hw : w.length = 4 * k) : Paid (endR w k) :=
  paid_cons (decide_eq_true (by omega)) (paid_cons (by simp; omega) Paid.nil)
theorem tm_nat (k N : Nat) : (k : Int).tmod (N : Int) = ((k % N : Nat) : Int) := by rw [Int.tmod_eq_emod_of_nonneg (by omega)]; simp
/- 16 bytes -/
def rkP4 : List AV → Mem → Option RkS
  | [.slice _ 0 0 16 none 1, .ptr false 1 0, .int false .i64 4, .int _ .i64 i], [some ⟨false, .ints .u8 (some 16) l⟩, some ⟨true, .wide [.nilslice, .ints .i64 256 S, .int false .i64 4]⟩] => match decide (S = sboxL) with
    | true => some ⟨l, [], 0, i⟩
    | false => none
  | _, _ => none
def rkO4 (s : RkS) : List Bool := [decide (s.i = 0), s.l.all (inR .u8), decide (s.k = 0)]
def rkF4 (s : RkS) : List (Nat × AV) × Mem := ([(3, .ptr false 1 0)], rkM4 ⟨s.l, specW 4 s.l 44, 44, s.i⟩)
def rkΛ4 (Λ : LoopH) : LoopH := famH 0 130 rkTs rkP4 rkO4 rkF4 Λ
structure RkJ4 (s0 s : RkS) : Prop where
  hl : s.l = s0.l
  l8 : ∀ x ∈ s0.l, B8 x
  k : s.i = (s.k : Int) ∧ s.k ≤ 44 ∧ s.w = specW 4 s0.l s.k
theorem rk4_lok {Λ : LoopH} (hΛ : LOkN 1 Try.prog (bodyOf Try.prog 12) Λ) : LOkN 1 Try.prog (bodyOf Try.prog 12) (rkΛ4 Λ) := by
  refine famR_ok (q := qP) (H := deep Try.prog qP hr4 100 3) (Λ0 := fun _ _ => none) (n := 100) rkV4 rkM4 RkJ4 (fun s => 44 - s.k) mixed (hr4_ok.deep (q := qP) mixed noCount 100 3) hΛ LOkN.none (by kernel_rfl) (by kernel_rfl) (fun avs m s h ho => ?_) (fun s0 s hJ => ?_)
  · unfold rkP4 at h
    split at h
    · rename_i s1 s2 i l S
      split at h
      · rename_i hS
        obtain rfl := of_decide_eq_true hS
        cases h
        have o1 := of_decide_eq_true (ho _ (List.mem_cons_self ..))
        have o2 := ho _ (List.mem_cons_of_mem _ (List.mem_cons_self ..))
        simp only at o1 o2
        subst o1
        exact ⟨⟨l, [], 0, 0⟩, fun n => n, Goes.zip (.cons (.slice _ _ _ _ _ _ _ _ (Or.inl rfl)) (.cons (.refl _) (.cons (.refl _) (.cons (.int _ _ _ _) .nil)))) ⟨⟨_, rfl, .refl _⟩, ⟨_, rfl, .refl _⟩, trivial⟩ rfl rfl (Nat.le_of_ble_eq_true rfl) rfl rfl, ⟨rfl, fun x hx => inR_b8 (List.all_eq_true.1 o2 x hx), rfl, Nat.zero_le _, rfl⟩⟩
      · cases h
    · cases h
  · obtain ⟨hl, l8, hi, hk, hw⟩ := hJ
    obtain ⟨l, w, k, i⟩ := s
    obtain ⟨l0, w0, k0, i0⟩ := s0
    simp only at hl hi hk hw l8
    subst hl hi hw
    have hlen := specW_len 4 l k
    have hb := specW_b8 4 l8 k
    have etop : IntKind.i64.wrap (4 * IntKind.i64.wrap (4 + 7)) = 44 := by decide
    have ew : IntKind.i64.wrap ((k : Int) + 1) = ((k + 1 : Nat) : Int) := by rw [w64i (by omega)]; omega
    have lt : ∀ {P : Prop} [Decidable P], P → decide P = true := fun h => decide_eq_true h
    have nlt : ∀ {P : Prop} [Decidable P], ¬ P → (!decide P) = true := fun h => by rw [decide_eq_false h]; rfl
    have J : k + 1 ≤ 44 → RkJ4 ⟨l, w0, k0, i0⟩ ⟨l, specW 4 l (k + 1), k + 1, ((k + 1 : Nat) : Int)⟩ := fun h => ⟨rfl, l8, rfl, h, rfl⟩
    by_cases hend : k = 44
    · subst hend
      refine RoundR.out (rk4_out l (specW 4 l 44) 43 _) rfl (fun n => n) (paid_cons (nlt (by rw [etop]; decide)) Paid.nil) ?_
      exact ⟨fun p hp => ⟨_, by simp only [rkF4, List.mem_cons, List.not_mem_nil, or_false] at hp; subst hp; simp [rkTs, rkV4, zipU]; rfl, .refl _⟩, ⟨⟨_, rfl, .refl _⟩, ⟨_, rfl, .refl _⟩, ⟨_, rfl, .refl _⟩, trivial⟩, rfl, rfl, Nat.le_of_ble_eq_true rfl, rfl, rfl⟩
    · have top : decide ((k : Int) < IntKind.i64.wrap (4 * IntKind.i64.wrap (4 + 7))) = true := lt (by rw [etop]; omega)
      cases k with
      | zero =>
        have e1 : cpR l ((0 : Nat) : Int) = specW 4 l (0 + 1) := by
          show _ = specW 4 l 0 ++ nextS 4 l (specW 4 l 0) 0
          rw [cpR_eq (N := 4) (w := specW 4 l 0) (by omega) (by omega) l8]; rfl
        refine RoundR.on (rk4_0 l [] ((0 : Nat) : Int)) ⟨l, specW 4 l (0 + 1), 0 + 1, ((0 + 1 : Nat) : Int)⟩ (fun n => [0, 1, 4].getD n 0) ?_ ?_ (J (by omega)) (by simp only; omega)
        · have q := fun j hj => (qK_nat (k := 0) (j := j) (by omega) hj).2
          have q' := fun j hj => (qK_nat (k := 0) (j := j) (by omega) hj).1
          repeat' first | exact Paid.nil | refine paid_cons ?_ ?_
          all_goals first | exact top | (exact lt (by omega)) | decide | skip
        · rw [ew, e1]
          exact Goes.zip (.cons (.refl _) (.cons (.refl _) (.cons (.refl _) (.cons (.refl _) .nil)))) ⟨⟨_, rfl, .refl _⟩, ⟨_, rfl, .head _ _ _ _ _ _ _ _ _ (Or.inl rfl)⟩, ⟨_, rfl, .free _ _ _⟩, trivial⟩ rfl rfl (Nat.le_of_ble_eq_true rfl) rfl rfl
      | succ k =>
        have htk : (((specW 4 l (k + 1)).drop 0).take ((k + 1) * (4 * 1))) = specW 4 l (k + 1) := by rw [List.drop_zero, List.take_of_length_le (by rw [hlen]; omega)]
        have go : ∀ {x : List Int}, x = nextS 4 l (specW 4 l (k + 1)) (k + 1) → Goes 1 (fun n => [0, 1, 5].getD n 0) rkTs [.slice false 0 0 16 none 1, .ptr false 1 0, .int false .i64 4, .int true .i64 (IntKind.i64.wrap (((k + 1 : Nat) : Int) + 1))] (rkE4 ⟨l, specW 4 l (k + 1), k + 1, ((k + 1 : Nat) : Int)⟩ x) (zipU rkTs (rkV4 ⟨l, specW 4 l (k + 1 + 1), k + 1 + 1, ((k + 1 + 1 : Nat) : Int)⟩)) (rkM4 ⟨l, specW 4 l (k + 1 + 1), k + 1 + 1, ((k + 1 + 1 : Nat) : Int)⟩) := fun {x} hx => by
          subst hx
          unfold rkE4
          simp only
          rw [ew, htk]
          exact Goes.zip (.cons (.refl _) (.cons (.refl _) (.cons (.refl _) (.cons (.refl _) .nil)))) ⟨⟨_, rfl, .refl _⟩, ⟨_, rfl, .refl _⟩, ⟨_, rfl, .refl _⟩, trivial⟩ rfl rfl (Nat.le_of_ble_eq_true rfl) rfl rfl
        have fin := endR_ok (w := specW 4 l (k + 1)) (k := k + 1) (by omega) (by rw [hlen])
        by_cases hc : k + 1 < 4
        · refine RoundR.on (rk4_c l _ k ((k + 1 : Nat) : Int)) ⟨l, specW 4 l (k + 1 + 1), k + 1 + 1, ((k + 1 + 1 : Nat) : Int)⟩ (fun n => [0, 1, 5].getD n 0) (paid_append.2 ⟨?_, fin⟩) (go (cpR_eq hc (by omega) l8)) (J (by omega)) (by simp only; omega)
          have hcl : decide (((k + 1 : Nat) : Int) < 4) = true := lt (by omega)
          have q := fun j hj => (qK_nat (k := k + 1) (j := j) (by omega) hj).2
          have q' := fun j hj => (qK_nat (k := k + 1) (j := j) (by omega) hj).1
          have q0 := q 0 (by omega); have q1 := q 1 (by omega); have q2 := q 2 (by omega); have q3 := q 3 (by omega)
          have r0 := q' 0 (by omega); have r1 := q' 1 (by omega); have r2 := q' 2 (by omega); have r3 := q' 3 (by omega)
          simp only [Int.cast_ofNat_Int, Int.natCast_zero, Int.natCast_one] at q0 q1 q2 q3 r0 r1 r2 r3
          rw [q0, q1, q2, q3, r0, r1, r2, r3]
          have two : ∀ j : Nat, j < 4 → (decide (0 ≤ ((4 * (k + 1) + j : Nat) : Int)) && decide (((4 * (k + 1) + j : Nat) : Int) < ((16 : Nat) : Int))) = true := fun j hj => by
            rw [decide_eq_true (show (0 : Int) ≤ ((4 * (k + 1) + j : Nat) : Int) by omega), decide_eq_true (show ((4 * (k + 1) + j : Nat) : Int) < ((16 : Nat) : Int) by omega)]; rfl
          exact paid_cons top (paid_cons hcl (paid_cons (two 0 (by omega)) (paid_cons (lt (by omega)) (paid_cons hcl (paid_cons (two 1 (by omega)) (paid_cons (lt (by omega)) (paid_cons hcl (paid_cons (two 2 (by omega)) (paid_cons (lt (by omega)) (paid_cons hcl (paid_cons (two 3 (by omega)) (paid_cons (lt (by omega)) Paid.nil))))))))))))
        · have hcl : (!decide (((k + 1 : Nat) : Int) < 4)) = true := nlt (by omega)
          have a1 : aR ((k + 1 : Nat) : Int) 1 (k + 1) = true := aR_ok (d := 1) (by omega) (by omega) (by omega)
          have aN : aR ((k + 1 : Nat) : Int) 4 (k + 1) = true := aR_ok (d := 4) (by omega) (by omega) (by omega)
          have b1 : ∀ j, j < 4 → bR (specW 4 l (k + 1)) ((k + 1 : Nat) : Int) 1 j = true := fun j hj => bR_ok (d := 1) (by omega) (by omega) (by omega) hj hlen
          have bN : ∀ j, j < 4 → bR (specW 4 l (k + 1)) ((k + 1 : Nat) : Int) 4 j = true := fun j hj => bR_ok (d := 4) (by omega) (by omega) (by omega) hj hlen
          have hW : ∀ j, B8 (wR (specW 4 l (k + 1)) ((k + 1 : Nat) : Int) 1 j) := fun j => getD_B8 hb _
          have htm : ((k + 1 : Nat) : Int).tmod 4 = (((k + 1) % 4 : Nat) : Int) := tm_nat (k + 1) 4
          obtain ⟨n1, n2, n3⟩ := nxt_eq (N := 4) (l := l) (w := specW 4 l (k + 1)) (k := k + 1) (by omega) (by omega) (by omega) hb
          by_cases hz : (k + 1) % 4 = 0
          · refine RoundR.on (rk4_z l _ k ((k + 1 : Nat) : Int)) ⟨l, specW 4 l (k + 1 + 1), k + 1 + 1, ((k + 1 + 1 : Nat) : Int)⟩ (fun n => [0, 1, 5].getD n 0) ?_ (go (n1 hz)) (J (by omega)) (by simp only; omega)
            have hz' : (((k + 1 : Nat) : Int).tmod 4 == 0) = true := by rw [htm, hz]; rfl
            have hp : decide (0 ≤ IntKind.i64.wrap (IntKind.i64.wrap (((k + 1 : Nat) : Int).tdiv 4) - 1) ∧ IntKind.i64.wrap (IntKind.i64.wrap (((k + 1 : Nat) : Int).tdiv 4) - 1) < 512) = true := by
              have h1 : ((k + 1 : Nat) : Int).tdiv 4 = (((k + 1) / 4 : Nat) : Int) := by rw [Int.tdiv_eq_ediv_of_nonneg (by omega)]; omega
              rw [h1, w64i (x := (((k + 1) / 4 : Nat) : Int)) (by omega), w64i (by omega)]
              exact lt (by omega)
            have z : ∀ j j2, j < 4 → j2 < 4 → Paid ([!decide (((k + 1 : Nat) : Int) < 4), aR ((k + 1 : Nat) : Int) 1 (k + 1), bR (specW 4 l (k + 1)) ((k + 1 : Nat) : Int) 1 j, ((k + 1 : Nat) : Int).tmod 4 == 0, aR ((k + 1 : Nat) : Int) 1 (k + 1), bR (specW 4 l (k + 1)) ((k + 1 : Nat) : Int) 1 j2] ++ cR (wR (specW 4 l (k + 1)) ((k + 1 : Nat) : Int) 1 j2)) := fun j j2 hj hj2 =>
              paid_append.2 ⟨paid_cons hcl (paid_cons a1 (paid_cons (b1 j hj) (paid_cons hz' (paid_cons a1 (paid_cons (b1 j2 hj2) Paid.nil))))), cR_ok (hW j2)⟩
            have y : ∀ j, j < 4 → Paid [aR ((k + 1 : Nat) : Int) 4 (k + 1), bR (specW 4 l (k + 1)) ((k + 1 : Nat) : Int) 4 j] := fun j hj => paid_cons aN (paid_cons (bN j hj) Paid.nil)
            exact paid_append.2 ⟨paid_append.2 ⟨paid_append.2 ⟨paid_append.2 ⟨paid_append.2 ⟨paid_cons top Paid.nil, paid_append.2 ⟨paid_append.2 ⟨z 0 1 (by omega) (by omega), paid_cons rfl (paid_cons hp Paid.nil)⟩, y 0 (by omega)⟩⟩, paid_append.2 ⟨z 1 2 (by omega) (by omega), y 1 (by omega)⟩⟩, paid_append.2 ⟨z 2 3 (by omega) (by omega), y 2 (by omega)⟩⟩, paid_append.2 ⟨z 3 0 (by omega) (by omega), y 3 (by omega)⟩⟩, fin⟩
          · have hz' : (!(((k + 1 : Nat) : Int).tmod 4 == 0)) = true := by
              rw [htm]
              have : (((k + 1) % 4 : Nat) : Int) ≠ 0 := by omega
              simpa using this
            have y : ∀ j, j < 4 → Paid [aR ((k + 1 : Nat) : Int) 4 (k + 1), bR (specW 4 l (k + 1)) ((k + 1 : Nat) : Int) 4 j] := fun j hj => paid_cons aN (paid_cons (bN j hj) Paid.nil)
            refine RoundR.on (rk4_n l _ k ((k + 1 : Nat) : Int)) ⟨l, specW 4 l (k + 1 + 1), k + 1 + 1, ((k + 1 + 1 : Nat) : Int)⟩ (fun n => [0, 1, 5].getD n 0) ?_ (go (n3 hz (by omega))) (J (by omega)) (by simp only; omega)
            have z : ∀ j, j < 4 → Paid ([!decide (((k + 1 : Nat) : Int) < 4), aR ((k + 1 : Nat) : Int) 1 (k + 1), bR (specW 4 l (k + 1)) ((k + 1 : Nat) : Int) 1 j, !(((k + 1 : Nat) : Int).tmod 4 == 0)] ++ [aR ((k + 1 : Nat) : Int) 4 (k + 1), bR (specW 4 l (k + 1)) ((k + 1 : Nat) : Int) 4 j]) := fun j hj =>
              paid_append.2 ⟨paid_cons hcl (paid_cons a1 (paid_cons (b1 j hj) (paid_cons hz' Paid.nil))), y j hj⟩
            exact paid_append.2 ⟨paid_append.2 ⟨paid_append.2 ⟨paid_append.2 ⟨paid_append.2 ⟨paid_cons top Paid.nil, z 0 (by omega)⟩, z 1 (by omega)⟩, z 2 (by omega)⟩, z 3 (by omega)⟩, fin⟩
/- 32 bytes -/
def rkP8 : List AV → Mem → Option RkS
  | [.slice _ 0 0 32 none 1, .ptr false 1 0, .int false .i64 8, .int _ .i64 i], [some ⟨false, .ints .u8 (some 32) l⟩, some ⟨true, .wide [.nilslice, .ints .i64 256 S, .int false .i64 8]⟩] => match decide (S = sboxL) with
    | true => some ⟨l, [], 0, i⟩
    | false => none
  | _, _ => none
def rkO8 (s : RkS) : List Bool := [decide (s.i = 0), s.l.all (inR .u8), decide (s.k = 0)]
def rkF8 (s : RkS) : List (Nat × AV) × Mem := ([(3, .ptr false 1 0)], rkM8 ⟨s.l, specW 8 s.l 60, 60, s.i⟩)
def rkΛ8 (Λ : LoopH) : LoopH := famH 0 130 rkTs rkP8 rkO8 rkF8 Λ
structure RkJ8 (s0 s : RkS) : Prop where
  hl : s.l = s0.l
  l8 : ∀ x ∈ s0.l, B8 x
  k : s.i = (s.k : Int) ∧ s.k ≤ 60 ∧ s.w = specW 8 s0.l s.k
theorem rk8_lok {Λ : LoopH} (hΛ : LOkN 1 Try.prog (bodyOf Try.prog 12) Λ) : LOkN 1 Try.prog (bodyOf Try.prog 12) (rkΛ8 Λ) := by
  refine famR_ok (q := qP) (H := deep Try.prog qP hr4 100 3) (Λ0 := fun _ _ => none) (n := 100) rkV8 rkM8 RkJ8 (fun s => 60 - s.k) mixed (hr4_ok.deep (q := qP) mixed noCount 100 3) hΛ LOkN.none (by kernel_rfl) (by kernel_rfl) (fun avs m s h ho => ?_) (fun s0 s hJ => ?_)
  · unfold rkP8 at h
    split at h
    · rename_i s1 s2 i l S
      split at h
      · rename_i hS
        obtain rfl := of_decide_eq_true hS
        cases h
        have o1 := of_decide_eq_true (ho _ (List.mem_cons_self ..))
        have o2 := ho _ (List.mem_cons_of_mem _ (List.mem_cons_self ..))
        simp only at o1 o2
        subst o1
        exact ⟨⟨l, [], 0, 0⟩, fun n => n, Goes.zip (.cons (.slice _ _ _ _ _ _ _ _ (Or.inl rfl)) (.cons (.refl _) (.cons (.refl _) (.cons (.int _ _ _ _) .nil)))) ⟨⟨_, rfl, .refl _⟩, ⟨_, rfl, .refl _⟩, trivial⟩ rfl rfl (Nat.le_of_ble_eq_true rfl) rfl rfl, ⟨rfl, fun x hx => inR_b8 (List.all_eq_true.1 o2 x hx), rfl, Nat.zero_le _, rfl⟩⟩
      · cases h
    · cases h
  · obtain ⟨hl, l8, hi, hk, hw⟩ := hJ
    obtain ⟨l, w, k, i⟩ := s
    obtain ⟨l0, w0, k0, i0⟩ := s0
    simp only at hl hi hk hw l8
    subst hl hi hw
    have hlen := specW_len 8 l k
    have hb := specW_b8 8 l8 k
    have etop : IntKind.i64.wrap (4 * IntKind.i64.wrap (8 + 7)) = 60 := by decide
    have ew : IntKind.i64.wrap ((k : Int) + 1) = ((k + 1 : Nat) : Int) := by rw [w64i (by omega)]; omega
    have lt : ∀ {P : Prop} [Decidable P], P → decide P = true := fun h => decide_eq_true h
    have nlt : ∀ {P : Prop} [Decidable P], ¬ P → (!decide P) = true := fun h => by rw [decide_eq_false h]; rfl
    have J : k + 1 ≤ 60 → RkJ8 ⟨l, w0, k0, i0⟩ ⟨l, specW 8 l (k + 1), k + 1, ((k + 1 : Nat) : Int)⟩ := fun h => ⟨rfl, l8, rfl, h, rfl⟩
    by_cases hend : k = 60
    · subst hend
      refine RoundR.out (rk8_out l (specW 8 l 60) 59 _) rfl (fun n => n) (paid_cons (nlt (by rw [etop]; decide)) Paid.nil) ?_
      exact ⟨fun p hp => ⟨_, by simp only [rkF8, List.mem_cons, List.not_mem_nil, or_false] at hp; subst hp; simp [rkTs, rkV8, zipU]; rfl, .refl _⟩, ⟨⟨_, rfl, .refl _⟩, ⟨_, rfl, .refl _⟩, ⟨_, rfl, .refl _⟩, trivial⟩, rfl, rfl, Nat.le_of_ble_eq_true rfl, rfl, rfl⟩
    · have top : decide ((k : Int) < IntKind.i64.wrap (4 * IntKind.i64.wrap (8 + 7))) = true := lt (by rw [etop]; omega)
      cases k with
      | zero =>
        have e1 : cpR l ((0 : Nat) : Int) = specW 8 l (0 + 1) := by
          show _ = specW 8 l 0 ++ nextS 8 l (specW 8 l 0) 0
          rw [cpR_eq (N := 8) (w := specW 8 l 0) (by omega) (by omega) l8]; rfl
        refine RoundR.on (rk8_0 l [] ((0 : Nat) : Int)) ⟨l, specW 8 l (0 + 1), 0 + 1, ((0 + 1 : Nat) : Int)⟩ (fun n => [0, 1, 4].getD n 0) ?_ ?_ (J (by omega)) (by simp only; omega)
        · have q := fun j hj => (qK_nat (k := 0) (j := j) (by omega) hj).2
          have q' := fun j hj => (qK_nat (k := 0) (j := j) (by omega) hj).1
          repeat' first | exact Paid.nil | refine paid_cons ?_ ?_
          all_goals first | exact top | (exact lt (by omega)) | decide | skip
        · rw [ew, e1]
          exact Goes.zip (.cons (.refl _) (.cons (.refl _) (.cons (.refl _) (.cons (.refl _) .nil)))) ⟨⟨_, rfl, .refl _⟩, ⟨_, rfl, .head _ _ _ _ _ _ _ _ _ (Or.inl rfl)⟩, ⟨_, rfl, .free _ _ _⟩, trivial⟩ rfl rfl (Nat.le_of_ble_eq_true rfl) rfl rfl
      | succ k =>
        have htk : (((specW 8 l (k + 1)).drop 0).take ((k + 1) * (4 * 1))) = specW 8 l (k + 1) := by rw [List.drop_zero, List.take_of_length_le (by rw [hlen]; omega)]
        have go : ∀ {x : List Int}, x = nextS 8 l (specW 8 l (k + 1)) (k + 1) → Goes 1 (fun n => [0, 1, 5].getD n 0) rkTs [.slice false 0 0 32 none 1, .ptr false 1 0, .int false .i64 8, .int true .i64 (IntKind.i64.wrap (((k + 1 : Nat) : Int) + 1))] (rkE8 ⟨l, specW 8 l (k + 1), k + 1, ((k + 1 : Nat) : Int)⟩ x) (zipU rkTs (rkV8 ⟨l, specW 8 l (k + 1 + 1), k + 1 + 1, ((k + 1 + 1 : Nat) : Int)⟩)) (rkM8 ⟨l, specW 8 l (k + 1 + 1), k + 1 + 1, ((k + 1 + 1 : Nat) : Int)⟩) := fun {x} hx => by
          subst hx
          unfold rkE8
          simp only
          rw [ew, htk]
          exact Goes.zip (.cons (.refl _) (.cons (.refl _) (.cons (.refl _) (.cons (.refl _) .nil)))) ⟨⟨_, rfl, .refl _⟩, ⟨_, rfl, .refl _⟩, ⟨_, rfl, .refl _⟩, trivial⟩ rfl rfl (Nat.le_of_ble_eq_true rfl) rfl rfl
        have fin := endR_ok (w := specW 8 l (k + 1)) (k := k + 1) (by omega) (by rw [hlen])
        by_cases hc : k + 1 < 8
        · refine RoundR.on (rk8_c l _ k ((k + 1 : Nat) : Int)) ⟨l, specW 8 l (k + 1 + 1), k + 1 + 1, ((k + 1 + 1 : Nat) : Int)⟩ (fun n => [0, 1, 5].getD n 0) (paid_append.2 ⟨?_, fin⟩) (go (cpR_eq hc (by omega) l8)) (J (by omega)) (by simp only; omega)
          have hcl : decide (((k + 1 : Nat) : Int) < 8) = true := lt (by omega)
          have q := fun j hj => (qK_nat (k := k + 1) (j := j) (by omega) hj).2
          have q' := fun j hj => (qK_nat (k := k + 1) (j := j) (by omega) hj).1
          have q0 := q 0 (by omega); have q1 := q 1 (by omega); have q2 := q 2 (by omega); have q3 := q 3 (by omega)
          have r0 := q' 0 (by omega); have r1 := q' 1 (by omega); have r2 := q' 2 (by omega); have r3 := q' 3 (by omega)
          simp only [Int.cast_ofNat_Int, Int.natCast_zero, Int.natCast_one] at q0 q1 q2 q3 r0 r1 r2 r3
          rw [q0, q1, q2, q3, r0, r1, r2, r3]
          have two : ∀ j : Nat, j < 4 → (decide (0 ≤ ((4 * (k + 1) + j : Nat) : Int)) && decide (((4 * (k + 1) + j : Nat) : Int) < ((32 : Nat) : Int))) = true := fun j hj => by
            rw [decide_eq_true (show (0 : Int) ≤ ((4 * (k + 1) + j : Nat) : Int) by omega), decide_eq_true (show ((4 * (k + 1) + j : Nat) : Int) < ((32 : Nat) : Int) by omega)]; rfl
          exact paid_cons top (paid_cons hcl (paid_cons (two 0 (by omega)) (paid_cons (lt (by omega)) (paid_cons hcl (paid_cons (two 1 (by omega)) (paid_cons (lt (by omega)) (paid_cons hcl (paid_cons (two 2 (by omega)) (paid_cons (lt (by omega)) (paid_cons hcl (paid_cons (two 3 (by omega)) (paid_cons (lt (by omega)) Paid.nil))))))))))))
        · have hcl : (!decide (((k + 1 : Nat) : Int) < 8)) = true := nlt (by omega)
          have a1 : aR ((k + 1 : Nat) : Int) 1 (k + 1) = true := aR_ok (d := 1) (by omega) (by omega) (by omega)
          have aN : aR ((k + 1 : Nat) : Int) 8 (k + 1) = true := aR_ok (d := 8) (by omega) (by omega) (by omega)
          have b1 : ∀ j, j < 4 → bR (specW 8 l (k + 1)) ((k + 1 : Nat) : Int) 1 j = true := fun j hj => bR_ok (d := 1) (by omega) (by omega) (by omega) hj hlen
          have bN : ∀ j, j < 4 → bR (specW 8 l (k + 1)) ((k + 1 : Nat) : Int) 8 j = true := fun j hj => bR_ok (d := 8) (by omega) (by omega) (by omega) hj hlen
          have hW : ∀ j, B8 (wR (specW 8 l (k + 1)) ((k + 1 : Nat) : Int) 1 j) := fun j => getD_B8 hb _
          have htm : ((k + 1 : Nat) : Int).tmod 8 = (((k + 1) % 8 : Nat) : Int) := tm_nat (k + 1) 8
          obtain ⟨n1, n2, n3⟩ := nxt_eq (N := 8) (l := l) (w := specW 8 l (k + 1)) (k := k + 1) (by omega) (by omega) (by omega) hb
          by_cases hz : (k + 1) % 8 = 0
          · refine RoundR.on (rk8_z l _ k ((k + 1 : Nat) : Int)) ⟨l, specW 8 l (k + 1 + 1), k + 1 + 1, ((k + 1 + 1 : Nat) : Int)⟩ (fun n => [0, 1, 5].getD n 0) ?_ (go (n1 hz)) (J (by omega)) (by simp only; omega)
            have hz' : (((k + 1 : Nat) : Int).tmod 8 == 0) = true := by rw [htm, hz]; rfl
            have hp : decide (0 ≤ IntKind.i64.wrap (IntKind.i64.wrap (((k + 1 : Nat) : Int).tdiv 8) - 1) ∧ IntKind.i64.wrap (IntKind.i64.wrap (((k + 1 : Nat) : Int).tdiv 8) - 1) < 512) = true := by
              have h1 : ((k + 1 : Nat) : Int).tdiv 8 = (((k + 1) / 8 : Nat) : Int) := by rw [Int.tdiv_eq_ediv_of_nonneg (by omega)]; omega
              rw [h1, w64i (x := (((k + 1) / 8 : Nat) : Int)) (by omega), w64i (by omega)]
              exact lt (by omega)
            have z : ∀ j j2, j < 4 → j2 < 4 → Paid ([!decide (((k + 1 : Nat) : Int) < 8), aR ((k + 1 : Nat) : Int) 1 (k + 1), bR (specW 8 l (k + 1)) ((k + 1 : Nat) : Int) 1 j, ((k + 1 : Nat) : Int).tmod 8 == 0, aR ((k + 1 : Nat) : Int) 1 (k + 1), bR (specW 8 l (k + 1)) ((k + 1 : Nat) : Int) 1 j2] ++ cR (wR (specW 8 l (k + 1)) ((k + 1 : Nat) : Int) 1 j2)) := fun j j2 hj hj2 =>
              paid_append.2 ⟨paid_cons hcl (paid_cons a1 (paid_cons (b1 j hj) (paid_cons hz' (paid_cons a1 (paid_cons (b1 j2 hj2) Paid.nil))))), cR_ok (hW j2)⟩
            have y : ∀ j, j < 4 → Paid [aR ((k + 1 : Nat) : Int) 8 (k + 1), bR (specW 8 l (k + 1)) ((k + 1 : Nat) : Int) 8 j] := fun j hj => paid_cons aN (paid_cons (bN j hj) Paid.nil)
            exact paid_append.2 ⟨paid_append.2 ⟨paid_append.2 ⟨paid_append.2 ⟨paid_append.2 ⟨paid_cons top Paid.nil, paid_append.2 ⟨paid_append.2 ⟨z 0 1 (by omega) (by omega), paid_cons rfl (paid_cons hp Paid.nil)⟩, y 0 (by omega)⟩⟩, paid_append.2 ⟨z 1 2 (by omega) (by omega), y 1 (by omega)⟩⟩, paid_append.2 ⟨z 2 3 (by omega) (by omega), y 2 (by omega)⟩⟩, paid_append.2 ⟨z 3 0 (by omega) (by omega), y 3 (by omega)⟩⟩, fin⟩
          · have hz' : (!(((k + 1 : Nat) : Int).tmod 8 == 0)) = true := by
              rw [htm]
              have : (((k + 1) % 8 : Nat) : Int) ≠ 0 := by omega
              simpa using this
            have y : ∀ j, j < 4 → Paid [aR ((k + 1 : Nat) : Int) 8 (k + 1), bR (specW 8 l (k + 1)) ((k + 1 : Nat) : Int) 8 j] := fun j hj => paid_cons aN (paid_cons (bN j hj) Paid.nil)
            by_cases h4 : (k + 1) % 8 = 4
            · refine RoundR.on (rk8_h l _ k ((k + 1 : Nat) : Int)) ⟨l, specW 8 l (k + 1 + 1), k + 1 + 1, ((k + 1 + 1 : Nat) : Int)⟩ (fun n => [0, 1, 5].getD n 0) ?_ (go (n2 hz h4)) (J (by omega)) (by simp only; omega)
              have h4' : (((k + 1 : Nat) : Int).tmod 8 == 4) = true := by rw [htm, h4]; rfl
              have z : ∀ j, j < 4 → Paid ([!decide (((k + 1 : Nat) : Int) < 8), aR ((k + 1 : Nat) : Int) 1 (k + 1), bR (specW 8 l (k + 1)) ((k + 1 : Nat) : Int) 1 j, !(((k + 1 : Nat) : Int).tmod 8 == 0), (((k + 1 : Nat) : Int).tmod 8 == 4)] ++ cR (wR (specW 8 l (k + 1)) ((k + 1 : Nat) : Int) 1 j) ++ [aR ((k + 1 : Nat) : Int) 8 (k + 1), bR (specW 8 l (k + 1)) ((k + 1 : Nat) : Int) 8 j]) := fun j hj =>
                paid_append.2 ⟨paid_append.2 ⟨paid_cons hcl (paid_cons a1 (paid_cons (b1 j hj) (paid_cons hz' (paid_cons h4' Paid.nil)))), cR_ok (hW j)⟩, y j hj⟩
              exact paid_append.2 ⟨paid_append.2 ⟨paid_append.2 ⟨paid_append.2 ⟨paid_append.2 ⟨paid_cons top Paid.nil, z 0 (by omega)⟩, z 1 (by omega)⟩, z 2 (by omega)⟩, z 3 (by omega)⟩, fin⟩
            · refine RoundR.on (rk8_n l _ k ((k + 1 : Nat) : Int)) ⟨l, specW 8 l (k + 1 + 1), k + 1 + 1, ((k + 1 + 1 : Nat) : Int)⟩ (fun n => [0, 1, 5].getD n 0) ?_ (go (n3 hz h4)) (J (by omega)) (by simp only; omega)
              have h4' : (!(((k + 1 : Nat) : Int).tmod 8 == 4)) = true := by
                rw [htm]
                have : (((k + 1) % 8 : Nat) : Int) ≠ 4 := by omega
                simpa using this
              have z : ∀ j, j < 4 → Paid ([!decide (((k + 1 : Nat) : Int) < 8), aR ((k + 1 : Nat) : Int) 1 (k + 1), bR (specW 8 l (k + 1)) ((k + 1 : Nat) : Int) 1 j, !(((k + 1 : Nat) : Int).tmod 8 == 0), !(((k + 1 : Nat) : Int).tmod 8 == 4)] ++ [aR ((k + 1 : Nat) : Int) 8 (k + 1), bR (specW 8 l (k + 1)) ((k + 1 : Nat) : Int) 8 j]) := fun j hj =>
                paid_append.2 ⟨paid_cons hcl (paid_cons a1 (paid_cons (b1 j hj) (paid_cons hz' (paid_cons h4' Paid.nil)))), y j hj⟩
              exact paid_append.2 ⟨paid_append.2 ⟨paid_append.2 ⟨paid_append.2 ⟨paid_append.2 ⟨paid_cons top Paid.nil, z 0 (by omega)⟩, z 1 (by omega)⟩, z 2 (by omega)⟩, z 3 (by omega)⟩, fin⟩
end Go.Proofs.Ytfmgodgakndjcaa
