/- The reference's Sum: what fills up, and block after block, as families of loops. Own work. -/
import Derived.Test.YtjhjhhibfojpiaaDoorVShaX
import Derived.Test.YtjhjhhibfojpiaaDoorVShaY
import Derived.Test.YtjhjhhibfojpiaaDoorVEvRen
set_option linter.unusedSimpArgs false
set_option linter.unusedVariables false
set_option linter.unusedSectionVars false
namespace Go.Sh
open Go.Ev
/-- How many zeros stand behind the 128. -/
def padZ (B n : Nat) : Nat := fillN B (n : Int) - 1 - B / 8
theorem padZ_fill {B : Nat} (hB : B = 64 ∨ B = 128) (n : Nat) : padZ B n + 1 + B / 8 = fillN B (n : Int) := by
  have := fillN_range (B := B) (by omega) (n : Int)
  unfold padZ
  omega
theorem pad_end {B : Nat} (hB : B = 64 ∨ B = 128) {n k : Nat} (hk : k ≤ padZ B n) : (n + 1 + k) % B = B - B / 8 ↔ k = padZ B n := by
  have h := padZ_fill hB n
  unfold fillN at h
  rcases hB with rfl | rfl <;> split at h <;> omega
end Go.Sh
namespace Go.Proofs.YtjhjhhibfojpiaaDoor
variable [Go.Ev.RowTab]
open Go.Ev Go.Sh
set_option maxRecDepth 100000
structure PdS where
  b : AV
  h : List Int
  m : List Int
  n : Nat
def pdTs : List Nat := [0, 1, 5, 7, 9]
def pdV (K w : Int) (s : PdS) : List AV := [.int false .i64 K, s.b, .int false .i64 w, .ptr false 2 0, .slice true 3 0 s.n none 1]
def pdM (s : PdS) : Mem := [none, none, some ⟨true, .ints .u64 (some 8) s.h⟩, some ⟨true, .ints .u8 none s.m⟩]
structure BkS where
  h : List Int
  m : List Int
  n : Nat
  len : Int
  at' : Int
def bkTs : List Nat := [0, 5, 7, 9, 10, 13]
def bkV (K w : Int) (s : BkS) : List AV := [.int false .i64 K, .int false .i64 w, .ptr false 2 0, .slice true 3 0 s.n none 1, .int true .i64 s.len, .int true .i64 s.at']
def bkM (s : BkS) : Mem := [none, none, some ⟨true, .ints .u64 (some 8) s.h⟩, some ⟨true, .ints .u8 none s.m⟩]
/- 32 bits -/
theorem pd32_t (K : Int) (s : PdS) : seesL pdTs ((codeL Tryd.prog qS hR3 (fun _ _ => none) 100 (lp (blk 3 (bodyOf Tryd.prog 14))) ⟨tmOf (ups (fun _ => .top) (zipU pdTs (pdV K 32 s))) 141, pdM s⟩).go [true]) = some ([decide (s.n < 9223372036854775808), ((s.n : Int).tmod 64 != 56), decide (0 + s.n ≤ s.m.length), decide (s.n + 1 ≤ 1000000000)], 0, [.int false .i64 K, s.b, .int false .i64 32, .ptr false 2 0, .slice true 5 0 (s.n + 1) none 1], 141,
    [none, none, some ⟨true, .ints .u64 (some 8) s.h⟩, none, some ⟨true, .vals [.int false .u8 0]⟩, some ⟨true, .ints .u8 none ((s.m.drop 0).take s.n ++ [0])⟩]) := by kernel_rfl
theorem pd32_f (K : Int) (s : PdS) : seesL pdTs ((codeL Tryd.prog qS hR3 (fun _ _ => none) 100 (lp (blk 3 (bodyOf Tryd.prog 14))) ⟨tmOf (ups (fun _ => .top) (zipU pdTs (pdV K 32 s))) 141, pdM s⟩).go [false]) = some ([decide (s.n < 9223372036854775808), !((s.n : Int).tmod 64 != 56)], 5, pdV K 32 s, 141, pdM s) := by kernel_rfl
def pdP32 : List AV → Mem → Option (Int × PdS)
  | [.int false .i64 K, b, .int false .i64 32, .ptr false 3 0, .slice true 6 0 n none 1], [_, _, _, some ⟨true, .ints .u64 (some 8) h⟩, _, _, some ⟨true, .ints .u8 none m⟩] => some (K, ⟨b, h, m, n⟩)
  | [.int false .i64 K, b, .int false .i64 32, .ptr false 3 0, .slice false 5 0 n none 1], [_, _, _, some ⟨true, .ints .u64 (some 8) h⟩, _, some ⟨true, .ints .u8 (some 1) m⟩] => some (K, ⟨b, h, m, n⟩)
  | _, _ => none
def pdO32 (s : Int × PdS) : List Bool := [decide (s.2.m.length = s.2.n), decide (1 ≤ s.2.n), decide (s.2.n ≤ 500000000), bndA 2 s.2.b]
def pdN32 (s : PdS) : PdS := { s with m := s.m ++ List.replicate (padZ 64 (s.n - 1)) 0, n := s.n + padZ 64 (s.n - 1) }
def pdF32 (s : Int × PdS) : List (Nat × AV) × Mem := (zipU pdTs (pdV s.1 32 (pdN32 s.2)), pdM (pdN32 s.2))
def pdΛ32 (Λ : LoopH) : LoopH := famH 3 141 pdTs pdP32 pdO32 pdF32 Λ
structure PdJ32 (s0 s : Int × PdS) : Prop where
  hk : s.1 = s0.1
  hb : s.2.b = s0.2.b
  hh : s.2.h = s0.2.h
  k : ∃ k, k ≤ padZ 64 (s0.2.n - 1) ∧ s.2.n = s0.2.n + k ∧ s.2.m = s0.2.m ++ List.replicate k 0
  len : s0.2.m.length = s0.2.n
  n1 : 1 ≤ s0.2.n
  n2 : s0.2.n ≤ 500000000
  bb : bndA 2 s0.2.b = true
theorem pd32_lok {Λ : LoopH} (hΛ : LOkN 2 Tryd.prog (bodyOf Tryd.prog 14) Λ) : LOkN 2 Tryd.prog (bodyOf Tryd.prog 14) (pdΛ32 Λ) := by
  refine famR_ok (q := qS) (H := hR3) (Λ0 := fun _ _ => none) (n := 100) (fun s : Int × PdS => pdV s.1 32 s.2) (fun s => pdM s.2) PdJ32 (fun s => (56 + 64 - s.2.n % 64) % 64) mixed hR3_ok hΛ LOkN.none (by kernel_rfl) (by kernel_rfl) (fun avs m s h ho => ?_) (fun s0 s hJ => ?_)
  · unfold pdP32 at h
    split at h
    · cases h
      have o1 := of_decide_eq_true (ho _ (List.mem_cons_self ..))
      have o2 := of_decide_eq_true (ho _ (List.mem_cons_of_mem _ (List.mem_cons_self ..)))
      have o3 := of_decide_eq_true (ho _ (List.mem_cons_of_mem _ (List.mem_cons_of_mem _ (List.mem_cons_self ..))))
      have o4 := ho _ (List.mem_cons_of_mem _ (List.mem_cons_of_mem _ (List.mem_cons_of_mem _ (List.mem_cons_self ..))))
      simp only at o1 o2 o3 o4
      refine ⟨_, fun n => [0, 1, 3, 6].getD n 0, Goes.zip (.cons (.refl _) (.cons (by rw [renA_fix (k := 2) (fun i hi => by match i, hi with | 0, _ => rfl | 1, _ => rfl) _ o4]; exact .refl _) (.cons (.refl _) (.cons (.refl _) (.cons (.refl _) .nil))))) ⟨⟨_, rfl, .refl _⟩, ⟨_, rfl, .refl _⟩, trivial⟩ rfl rfl (Nat.le_of_ble_eq_true rfl) rfl ?_, ⟨rfl, rfl, rfl, ⟨0, Nat.zero_le _, rfl, (List.append_nil _).symm⟩, o1, o2, o3, o4⟩⟩
      simp only [pdV, bndL, Bool.and_eq_true]
      exact ⟨rfl, bndA_le (Nat.le_of_ble_eq_true rfl) _ o4, rfl, rfl, rfl, trivial⟩
    · cases h
      have o1 := of_decide_eq_true (ho _ (List.mem_cons_self ..))
      have o2 := of_decide_eq_true (ho _ (List.mem_cons_of_mem _ (List.mem_cons_self ..)))
      have o3 := of_decide_eq_true (ho _ (List.mem_cons_of_mem _ (List.mem_cons_of_mem _ (List.mem_cons_self ..))))
      have o4 := ho _ (List.mem_cons_of_mem _ (List.mem_cons_of_mem _ (List.mem_cons_of_mem _ (List.mem_cons_self ..))))
      simp only at o1 o2 o3 o4
      refine ⟨_, fun n => [0, 1, 3, 5].getD n 0, Goes.zip (.cons (.refl _) (.cons (by rw [renA_fix (k := 2) (fun i hi => by match i, hi with | 0, _ => rfl | 1, _ => rfl) _ o4]; exact .refl _) (.cons (.refl _) (.cons (.refl _) (.cons (.slice _ _ _ _ _ _ _ _ (Or.inl rfl)) .nil))))) ⟨⟨_, rfl, .refl _⟩, ⟨_, rfl, .free _ _ _⟩, trivial⟩ rfl rfl (Nat.le_of_ble_eq_true rfl) rfl ?_, ⟨rfl, rfl, rfl, ⟨0, Nat.zero_le _, rfl, (List.append_nil _).symm⟩, o1, o2, o3, o4⟩⟩
      simp only [pdV, bndL, Bool.and_eq_true]
      exact ⟨rfl, bndA_le (Nat.le_of_ble_eq_true rfl) _ o4, rfl, rfl, rfl, trivial⟩
    · cases h
  · obtain ⟨hk, hb, hh, ⟨k, k1, k2, k3⟩, len, n1, n2, bb⟩ := hJ
    obtain ⟨K, s⟩ := s
    obtain ⟨K0, s0⟩ := s0
    simp only at hk hb hh k1 k2 k3 len n1 n2 bb
    subst hk
    have hz := padZ_fill (B := 64) (by decide) (s0.n - 1)
    have hr := fillN_range (B := 64) (by decide) ((s0.n - 1 : Nat) : Int)
    have hlen : s.m.length = s.n := by rw [k3, List.length_append, List.length_replicate, len, k2]
    have hmod : (s.n : Int).tmod 64 = ((s.n % 64 : Nat) : Int) := by rw [Int.tmod_eq_emod_of_nonneg (by omega)]; omega
    have hend := pad_end (B := 64) (by decide) (n := s0.n - 1) k1
    rw [show s0.n - 1 + 1 + k = s.n by omega] at hend
    have fx : ∀ i, i < 2 → (fun n : Nat => [0, 1, 2, 5].getD n 0) i = i := fun i hi => by match i, hi with | 0, _ => rfl | 1, _ => rfl
    by_cases hkz : k = padZ 64 (s0.n - 1)
    · have hs : pdN32 s0 = s := by
        unfold pdN32
        obtain ⟨b, h, m, n⟩ := s
        simp only at hb hh k2 k3
        subst hb hh k2 k3
        rw [hkz]
      refine RoundR.out (pd32_f K s) rfl (fun n => n) (paid_cons (decide_eq_true (by omega)) (paid_cons (by rw [hmod, hend.2 hkz]; rfl) Paid.nil)) ?_
      unfold pdF32
      simp only
      rw [hs]
      refine Goes.zip (.cons (.refl _) (.cons (by rw [renA_fix (k := 2) (fun i hi => rfl) _ (by rw [hb]; exact bb)]; exact .refl _) (.cons (.refl _) (.cons (.refl _) (.cons (.refl _) .nil))))) ⟨⟨_, rfl, .refl _⟩, ⟨_, rfl, .refl _⟩, trivial⟩ rfl rfl (Nat.le_of_ble_eq_true rfl) rfl ?_
      simp only [pdV, bndL, Bool.and_eq_true]
      exact ⟨rfl, bndA_le (Nat.le_of_ble_eq_true rfl) _ (by rw [hb]; exact bb), rfl, rfl, rfl, trivial⟩
    · have hne : ¬ s.n % 64 = 56 := fun h => hkz (hend.1 h)
      have htk : (s.m.drop 0).take s.n = s.m := by rw [List.drop_zero, List.take_of_length_le (by omega)]
      have key := pd32_t K s
      rw [htk] at key
      refine RoundR.on key (K, ⟨s.b, s.h, s.m ++ [0], s.n + 1⟩) (fun n => [0, 1, 2, 5].getD n 0) (paid_cons (decide_eq_true (by omega)) (paid_cons (by rw [hmod, bne_iff_ne]; omega) (paid_cons (decide_eq_true (by omega)) (paid_cons (decide_eq_true (by omega)) Paid.nil)))) ?_ ⟨rfl, hb, hh, ⟨k + 1, by simp only; omega, by simp only; omega, by simp only; rw [k3, List.append_assoc, List.replicate_succ']⟩, len, n1, n2, bb⟩ (by simp only; omega)
      refine Goes.zip (.cons (.refl _) (.cons (by rw [renA_fix (k := 2) fx _ (by rw [hb]; exact bb)]; exact .refl _) (.cons (.refl _) (.cons (.refl _) (.cons (.refl _) .nil))))) ⟨⟨_, rfl, .refl _⟩, ⟨_, rfl, .refl _⟩, trivial⟩ rfl rfl (Nat.le_of_ble_eq_true rfl) rfl ?_
      simp only [pdV, bndL, Bool.and_eq_true]
      exact ⟨rfl, bndA_le (Nat.le_of_ble_eq_true rfl) _ (by rw [hb]; exact bb), rfl, rfl, rfl, trivial⟩
/- the blocks -/
theorem bk32_t (K : Int) (s : BkS) : seesL bkTs ((codeL Tryd.prog qS hR3 (fun _ _ => none) 100 (lp (blk 7 (bodyOf Tryd.prog 14))) ⟨tmOf (ups (fun _ => .top) (zipU bkTs (bkV K 32 s))) 141, bkM s⟩).go [true]) = some ([decide (s.at' < s.len), decide (0 ≤ IntKind.i64.wrap (s.at' + 64)) && decide (IntKind.i64.wrap (s.at' + 64) ≤ ((s.n : Nat) : Int)), decide (0 ≤ s.at') && decide (s.at' ≤ ((IntKind.i64.wrap (s.at' + 64)).toNat : Int)), decide (0 + s.at'.toNat * 1 + ((IntKind.i64.wrap (s.at' + 64)).toNat - s.at'.toNat) ≤ s.m.length), all32 s.h, decide ((IntKind.i64.wrap (s.at' + 64)).toNat - s.at'.toNat = 64)], 0,
    bkV K 32 { s with at' := IntKind.i64.wrap (s.at' + 64) }, 141, bkM { s with h := blockW 32 64 s.h ((s.m.drop (0 + s.at'.toNat * 1)).take ((IntKind.i64.wrap (s.at' + 64)).toNat - s.at'.toNat)) }) := by kernel_rfl
theorem bk32_f (K : Int) (s : BkS) : seesL bkTs ((codeL Tryd.prog qS hR3 (fun _ _ => none) 100 (lp (blk 7 (bodyOf Tryd.prog 14))) ⟨tmOf (ups (fun _ => .top) (zipU bkTs (bkV K 32 s))) 141, bkM s⟩).go [false]) = some ([!decide (s.at' < s.len)], 9, bkV K 32 s, 141, bkM s) := by kernel_rfl
def bkP32 : List AV → Mem → Option (Int × BkS)
  | [.int false .i64 K, .int false .i64 32, .ptr false 2 0, .slice true 4 0 n none 1, .int true .i64 len, .int _ .i64 i], [_, _, some ⟨true, .ints .u64 (some 8) h⟩, _, some ⟨true, .ints .u8 none m⟩] => some (K, ⟨h, m, n, len, i⟩)
  | _, _ => none
def bkO32 (s : Int × BkS) : List Bool := [decide (s.2.at' = 0), decide (s.2.len = (s.2.n : Int)), decide (s.2.m.length = s.2.n), decide (s.2.n ≤ 1000000000), decide (s.2.n % 64 = 0), decide (s.2.h.length = 8), all32 s.2.h]
def bkF32 (s : Int × BkS) : List (Nat × AV) × Mem := (zipU bkTs [.int false .i64 s.1, .int false .i64 32, .ptr false 2 0, .top, .top, .top], [none, none, some ⟨true, .ints .u64 (some 8) (foldB 32 64 64 s.2.h s.2.m (s.2.n / 64))⟩])
def bkΛ32 (Λ : LoopH) : LoopH := famH 7 141 bkTs bkP32 bkO32 bkF32 Λ
structure BkJ32 (s0 s : Int × BkS) : Prop where
  hk : s.1 = s0.1
  hm : s.2.m = s0.2.m
  hn : s.2.n = s0.2.n
  hl : s.2.len = s0.2.len
  k : ∃ k : Nat, s.2.at' = ((64 * k : Nat) : Int) ∧ 64 * k ≤ s0.2.n ∧ s.2.h = foldB 32 64 64 s0.2.h s0.2.m k
  len : s0.2.len = (s0.2.n : Int)
  ml : s0.2.m.length = s0.2.n
  n1 : s0.2.n ≤ 1000000000
  n2 : s0.2.n % 64 = 0
  hhl : s0.2.h.length = 8
  wd : ∀ x ∈ s0.2.h, Wd 32 x
theorem bk32_lok {Λ : LoopH} (hΛ : LOkN 2 Tryd.prog (bodyOf Tryd.prog 14) Λ) : LOkN 2 Tryd.prog (bodyOf Tryd.prog 14) (bkΛ32 Λ) := by
  refine famR_ok (q := qS) (H := hR3) (Λ0 := fun _ _ => none) (n := 100) (fun s : Int × BkS => bkV s.1 32 s.2) (fun s => bkM s.2) BkJ32 (fun s => (s.2.n : Nat) - s.2.at'.toNat) mixed hR3_ok hΛ LOkN.none (by kernel_rfl) (by kernel_rfl) (fun avs m s h ho => ?_) (fun s0 s hJ => ?_)
  · unfold bkP32 at h
    split at h
    · cases h
      have o1 := of_decide_eq_true (ho _ (List.mem_cons_self ..))
      have o2 := of_decide_eq_true (ho _ (List.mem_cons_of_mem _ (List.mem_cons_self ..)))
      have o3 := of_decide_eq_true (ho _ (List.mem_cons_of_mem _ (List.mem_cons_of_mem _ (List.mem_cons_self ..))))
      have o4 := of_decide_eq_true (ho _ (List.mem_cons_of_mem _ (List.mem_cons_of_mem _ (List.mem_cons_of_mem _ (List.mem_cons_self ..)))))
      have o5 := of_decide_eq_true (ho _ (List.mem_cons_of_mem _ (List.mem_cons_of_mem _ (List.mem_cons_of_mem _ (List.mem_cons_of_mem _ (List.mem_cons_self ..))))))
      have o6 := of_decide_eq_true (ho _ (List.mem_cons_of_mem _ (List.mem_cons_of_mem _ (List.mem_cons_of_mem _ (List.mem_cons_of_mem _ (List.mem_cons_of_mem _ (List.mem_cons_self ..)))))))
      have o7 := ho _ (List.mem_cons_of_mem _ (List.mem_cons_of_mem _ (List.mem_cons_of_mem _ (List.mem_cons_of_mem _ (List.mem_cons_of_mem _ (List.mem_cons_of_mem _ (List.mem_cons_self ..)))))))
      simp only at o1 o2 o3 o4 o5 o6 o7
      exact ⟨_, fun n => [0, 1, 2, 4].getD n 0, Goes.zip (.cons (.refl _) (.cons (.refl _) (.cons (.refl _) (.cons (.refl _) (.cons (.refl _) (.cons (.int _ _ _ _) .nil)))))) ⟨⟨_, rfl, .refl _⟩, ⟨_, rfl, .refl _⟩, trivial⟩ rfl rfl (Nat.le_of_ble_eq_true rfl) rfl rfl, ⟨rfl, rfl, rfl, rfl, ⟨0, o1, Nat.zero_le _, rfl⟩, o2, o3, o4, o5, o6, all32_wd o7⟩⟩
    · cases h
  · obtain ⟨hk, hm, hn, hl, ⟨k, k1, k2, k3⟩, len, ml, n1, n2, hhl, wd⟩ := hJ
    obtain ⟨K, s⟩ := s
    obtain ⟨K0, s0⟩ := s0
    simp only at hk hm hn hl k1 k2 k3 len ml n1 n2 hhl wd
    subst hk
    obtain ⟨f1, f2⟩ := foldB_ok (N := 64) (B := 64) (l := s0.m) hhl wd k
    by_cases he : 64 * k = s0.n
    · have hkn : k = s0.n / 64 := by omega
      refine RoundR.out (bk32_f K s) rfl (fun n => n) (paid_cons (by rw [hl, k1, len, he]; simp) Paid.nil) ?_
      unfold bkF32
      simp only
      rw [← hkn, ← k3]
      exact Goes.zip (.cons (.refl _) (.cons (.refl _) (.cons (.refl _) (.cons (.top _) (.cons (.top _) (.cons (.top _) .nil)))))) ⟨⟨_, rfl, .refl _⟩, trivial⟩ rfl rfl (Nat.le_of_ble_eq_true rfl) rfl rfl
    · have hw : IntKind.i64.wrap (s.at' + 64) = ((64 * (k + 1) : Nat) : Int) := by rw [k1, w64 (by omega)]; omega
      have ht : s.at'.toNat = 64 * k := by rw [k1]; omega
      have key := bk32_t K s
      rw [hw, ht, show ((64 * (k + 1) : Nat) : Int).toNat - 64 * k = 64 by omega, show 0 + 64 * k * 1 = 64 * k by omega] at key
      refine RoundR.on key (K, { s with h := foldB 32 64 64 s0.h s0.m (k + 1), at' := ((64 * (k + 1) : Nat) : Int) }) (fun n => n) ?_ ?_ ⟨rfl, hm, hn, hl, ⟨k + 1, rfl, by simp only; omega, rfl⟩, len, ml, n1, n2, hhl, wd⟩ (by simp only; omega)
      · refine paid_cons (decide_eq_true (by omega)) (paid_cons (by simp; omega) (paid_cons (by simp; omega) (paid_cons (decide_eq_true (by rw [hm]; omega)) (paid_cons (by rw [k3]; exact all32_of f2) (paid_cons rfl Paid.nil)))))
      · have hf : foldB 32 64 64 s0.h s0.m (k + 1) = blockW 32 64 s.h ((s.m.drop (64 * k)).take 64) := by rw [k3, hm]; rfl
        rw [hf]
        exact Goes.zip (.cons (.refl _) (.cons (.refl _) (.cons (.refl _) (.cons (.refl _) (.cons (.refl _) (.cons (.refl _) .nil)))))) ⟨⟨_, rfl, .refl _⟩, ⟨_, rfl, .refl _⟩, trivial⟩ rfl rfl (Nat.le_of_ble_eq_true rfl) rfl rfl
/- 64 bits -/
theorem pd64_t (K : Int) (s : PdS) : seesL pdTs ((codeL Tryd.prog qS hR3 (fun _ _ => none) 100 (lp (blk 3 (bodyOf Tryd.prog 14))) ⟨tmOf (ups (fun _ => .top) (zipU pdTs (pdV K 64 s))) 141, pdM s⟩).go [true]) = some ([decide (s.n < 9223372036854775808), ((s.n : Int).tmod 128 != 112), decide (0 + s.n ≤ s.m.length), decide (s.n + 1 ≤ 1000000000)], 0, [.int false .i64 K, s.b, .int false .i64 64, .ptr false 2 0, .slice true 5 0 (s.n + 1) none 1], 141,
    [none, none, some ⟨true, .ints .u64 (some 8) s.h⟩, none, some ⟨true, .vals [.int false .u8 0]⟩, some ⟨true, .ints .u8 none ((s.m.drop 0).take s.n ++ [0])⟩]) := by kernel_rfl
theorem pd64_f (K : Int) (s : PdS) : seesL pdTs ((codeL Tryd.prog qS hR3 (fun _ _ => none) 100 (lp (blk 3 (bodyOf Tryd.prog 14))) ⟨tmOf (ups (fun _ => .top) (zipU pdTs (pdV K 64 s))) 141, pdM s⟩).go [false]) = some ([decide (s.n < 9223372036854775808), !((s.n : Int).tmod 128 != 112)], 5, pdV K 64 s, 141, pdM s) := by kernel_rfl
def pdP64 : List AV → Mem → Option (Int × PdS)
  | [.int false .i64 K, b, .int false .i64 64, .ptr false 3 0, .slice true 6 0 n none 1], [_, _, _, some ⟨true, .ints .u64 (some 8) h⟩, _, _, some ⟨true, .ints .u8 none m⟩] => some (K, ⟨b, h, m, n⟩)
  | [.int false .i64 K, b, .int false .i64 64, .ptr false 3 0, .slice false 5 0 n none 1], [_, _, _, some ⟨true, .ints .u64 (some 8) h⟩, _, some ⟨true, .ints .u8 (some 1) m⟩] => some (K, ⟨b, h, m, n⟩)
  | _, _ => none
def pdO64 (s : Int × PdS) : List Bool := [decide (s.2.m.length = s.2.n), decide (1 ≤ s.2.n), decide (s.2.n ≤ 500000000), bndA 2 s.2.b]
def pdN64 (s : PdS) : PdS := { s with m := s.m ++ List.replicate (padZ 128 (s.n - 1)) 0, n := s.n + padZ 128 (s.n - 1) }
def pdF64 (s : Int × PdS) : List (Nat × AV) × Mem := (zipU pdTs (pdV s.1 64 (pdN64 s.2)), pdM (pdN64 s.2))
def pdΛ64 (Λ : LoopH) : LoopH := famH 3 141 pdTs pdP64 pdO64 pdF64 Λ
structure PdJ64 (s0 s : Int × PdS) : Prop where
  hk : s.1 = s0.1
  hb : s.2.b = s0.2.b
  hh : s.2.h = s0.2.h
  k : ∃ k, k ≤ padZ 128 (s0.2.n - 1) ∧ s.2.n = s0.2.n + k ∧ s.2.m = s0.2.m ++ List.replicate k 0
  len : s0.2.m.length = s0.2.n
  n1 : 1 ≤ s0.2.n
  n2 : s0.2.n ≤ 500000000
  bb : bndA 2 s0.2.b = true
theorem pd64_lok {Λ : LoopH} (hΛ : LOkN 2 Tryd.prog (bodyOf Tryd.prog 14) Λ) : LOkN 2 Tryd.prog (bodyOf Tryd.prog 14) (pdΛ64 Λ) := by
  refine famR_ok (q := qS) (H := hR3) (Λ0 := fun _ _ => none) (n := 100) (fun s : Int × PdS => pdV s.1 64 s.2) (fun s => pdM s.2) PdJ64 (fun s => (112 + 128 - s.2.n % 128) % 128) mixed hR3_ok hΛ LOkN.none (by kernel_rfl) (by kernel_rfl) (fun avs m s h ho => ?_) (fun s0 s hJ => ?_)
  · unfold pdP64 at h
    split at h
    · cases h
      have o1 := of_decide_eq_true (ho _ (List.mem_cons_self ..))
      have o2 := of_decide_eq_true (ho _ (List.mem_cons_of_mem _ (List.mem_cons_self ..)))
      have o3 := of_decide_eq_true (ho _ (List.mem_cons_of_mem _ (List.mem_cons_of_mem _ (List.mem_cons_self ..))))
      have o4 := ho _ (List.mem_cons_of_mem _ (List.mem_cons_of_mem _ (List.mem_cons_of_mem _ (List.mem_cons_self ..))))
      simp only at o1 o2 o3 o4
      refine ⟨_, fun n => [0, 1, 3, 6].getD n 0, Goes.zip (.cons (.refl _) (.cons (by rw [renA_fix (k := 2) (fun i hi => by match i, hi with | 0, _ => rfl | 1, _ => rfl) _ o4]; exact .refl _) (.cons (.refl _) (.cons (.refl _) (.cons (.refl _) .nil))))) ⟨⟨_, rfl, .refl _⟩, ⟨_, rfl, .refl _⟩, trivial⟩ rfl rfl (Nat.le_of_ble_eq_true rfl) rfl ?_, ⟨rfl, rfl, rfl, ⟨0, Nat.zero_le _, rfl, (List.append_nil _).symm⟩, o1, o2, o3, o4⟩⟩
      simp only [pdV, bndL, Bool.and_eq_true]
      exact ⟨rfl, bndA_le (Nat.le_of_ble_eq_true rfl) _ o4, rfl, rfl, rfl, trivial⟩
    · cases h
      have o1 := of_decide_eq_true (ho _ (List.mem_cons_self ..))
      have o2 := of_decide_eq_true (ho _ (List.mem_cons_of_mem _ (List.mem_cons_self ..)))
      have o3 := of_decide_eq_true (ho _ (List.mem_cons_of_mem _ (List.mem_cons_of_mem _ (List.mem_cons_self ..))))
      have o4 := ho _ (List.mem_cons_of_mem _ (List.mem_cons_of_mem _ (List.mem_cons_of_mem _ (List.mem_cons_self ..))))
      simp only at o1 o2 o3 o4
      refine ⟨_, fun n => [0, 1, 3, 5].getD n 0, Goes.zip (.cons (.refl _) (.cons (by rw [renA_fix (k := 2) (fun i hi => by match i, hi with | 0, _ => rfl | 1, _ => rfl) _ o4]; exact .refl _) (.cons (.refl _) (.cons (.refl _) (.cons (.slice _ _ _ _ _ _ _ _ (Or.inl rfl)) .nil))))) ⟨⟨_, rfl, .refl _⟩, ⟨_, rfl, .free _ _ _⟩, trivial⟩ rfl rfl (Nat.le_of_ble_eq_true rfl) rfl ?_, ⟨rfl, rfl, rfl, ⟨0, Nat.zero_le _, rfl, (List.append_nil _).symm⟩, o1, o2, o3, o4⟩⟩
      simp only [pdV, bndL, Bool.and_eq_true]
      exact ⟨rfl, bndA_le (Nat.le_of_ble_eq_true rfl) _ o4, rfl, rfl, rfl, trivial⟩
    · cases h
  · obtain ⟨hk, hb, hh, ⟨k, k1, k2, k3⟩, len, n1, n2, bb⟩ := hJ
    obtain ⟨K, s⟩ := s
    obtain ⟨K0, s0⟩ := s0
    simp only at hk hb hh k1 k2 k3 len n1 n2 bb
    subst hk
    have hz := padZ_fill (B := 128) (by decide) (s0.n - 1)
    have hr := fillN_range (B := 128) (by decide) ((s0.n - 1 : Nat) : Int)
    have hlen : s.m.length = s.n := by rw [k3, List.length_append, List.length_replicate, len, k2]
    have hmod : (s.n : Int).tmod 128 = ((s.n % 128 : Nat) : Int) := by rw [Int.tmod_eq_emod_of_nonneg (by omega)]; omega
    have hend := pad_end (B := 128) (by decide) (n := s0.n - 1) k1
    rw [show s0.n - 1 + 1 + k = s.n by omega] at hend
    have fx : ∀ i, i < 2 → (fun n : Nat => [0, 1, 2, 5].getD n 0) i = i := fun i hi => by match i, hi with | 0, _ => rfl | 1, _ => rfl
    by_cases hkz : k = padZ 128 (s0.n - 1)
    · have hs : pdN64 s0 = s := by
        unfold pdN64
        obtain ⟨b, h, m, n⟩ := s
        simp only at hb hh k2 k3
        subst hb hh k2 k3
        rw [hkz]
      refine RoundR.out (pd64_f K s) rfl (fun n => n) (paid_cons (decide_eq_true (by omega)) (paid_cons (by rw [hmod, hend.2 hkz]; rfl) Paid.nil)) ?_
      unfold pdF64
      simp only
      rw [hs]
      refine Goes.zip (.cons (.refl _) (.cons (by rw [renA_fix (k := 2) (fun i hi => rfl) _ (by rw [hb]; exact bb)]; exact .refl _) (.cons (.refl _) (.cons (.refl _) (.cons (.refl _) .nil))))) ⟨⟨_, rfl, .refl _⟩, ⟨_, rfl, .refl _⟩, trivial⟩ rfl rfl (Nat.le_of_ble_eq_true rfl) rfl ?_
      simp only [pdV, bndL, Bool.and_eq_true]
      exact ⟨rfl, bndA_le (Nat.le_of_ble_eq_true rfl) _ (by rw [hb]; exact bb), rfl, rfl, rfl, trivial⟩
    · have hne : ¬ s.n % 128 = 112 := fun h => hkz (hend.1 h)
      have htk : (s.m.drop 0).take s.n = s.m := by rw [List.drop_zero, List.take_of_length_le (by omega)]
      have key := pd64_t K s
      rw [htk] at key
      refine RoundR.on key (K, ⟨s.b, s.h, s.m ++ [0], s.n + 1⟩) (fun n => [0, 1, 2, 5].getD n 0) (paid_cons (decide_eq_true (by omega)) (paid_cons (by rw [hmod, bne_iff_ne]; omega) (paid_cons (decide_eq_true (by omega)) (paid_cons (decide_eq_true (by omega)) Paid.nil)))) ?_ ⟨rfl, hb, hh, ⟨k + 1, by simp only; omega, by simp only; omega, by simp only; rw [k3, List.append_assoc, List.replicate_succ']⟩, len, n1, n2, bb⟩ (by simp only; omega)
      refine Goes.zip (.cons (.refl _) (.cons (by rw [renA_fix (k := 2) fx _ (by rw [hb]; exact bb)]; exact .refl _) (.cons (.refl _) (.cons (.refl _) (.cons (.refl _) .nil))))) ⟨⟨_, rfl, .refl _⟩, ⟨_, rfl, .refl _⟩, trivial⟩ rfl rfl (Nat.le_of_ble_eq_true rfl) rfl ?_
      simp only [pdV, bndL, Bool.and_eq_true]
      exact ⟨rfl, bndA_le (Nat.le_of_ble_eq_true rfl) _ (by rw [hb]; exact bb), rfl, rfl, rfl, trivial⟩
/- the blocks -/
theorem bk64_t (K : Int) (s : BkS) : seesL bkTs ((codeL Tryd.prog qS hR3 (fun _ _ => none) 100 (lp (blk 7 (bodyOf Tryd.prog 14))) ⟨tmOf (ups (fun _ => .top) (zipU bkTs (bkV K 64 s))) 141, bkM s⟩).go [true]) = some ([decide (s.at' < s.len), decide (0 ≤ IntKind.i64.wrap (s.at' + 128)) && decide (IntKind.i64.wrap (s.at' + 128) ≤ ((s.n : Nat) : Int)), decide (0 ≤ s.at') && decide (s.at' ≤ ((IntKind.i64.wrap (s.at' + 128)).toNat : Int)), decide (0 + s.at'.toNat * 1 + ((IntKind.i64.wrap (s.at' + 128)).toNat - s.at'.toNat) ≤ s.m.length), all64 s.h, decide ((IntKind.i64.wrap (s.at' + 128)).toNat - s.at'.toNat = 128)], 0,
    bkV K 64 { s with at' := IntKind.i64.wrap (s.at' + 128) }, 141, bkM { s with h := blockW 64 80 s.h ((s.m.drop (0 + s.at'.toNat * 1)).take ((IntKind.i64.wrap (s.at' + 128)).toNat - s.at'.toNat)) }) := by kernel_rfl
theorem bk64_f (K : Int) (s : BkS) : seesL bkTs ((codeL Tryd.prog qS hR3 (fun _ _ => none) 100 (lp (blk 7 (bodyOf Tryd.prog 14))) ⟨tmOf (ups (fun _ => .top) (zipU bkTs (bkV K 64 s))) 141, bkM s⟩).go [false]) = some ([!decide (s.at' < s.len)], 9, bkV K 64 s, 141, bkM s) := by kernel_rfl
def bkP64 : List AV → Mem → Option (Int × BkS)
  | [.int false .i64 K, .int false .i64 64, .ptr false 2 0, .slice true 4 0 n none 1, .int true .i64 len, .int _ .i64 i], [_, _, some ⟨true, .ints .u64 (some 8) h⟩, _, some ⟨true, .ints .u8 none m⟩] => some (K, ⟨h, m, n, len, i⟩)
  | _, _ => none
def bkO64 (s : Int × BkS) : List Bool := [decide (s.2.at' = 0), decide (s.2.len = (s.2.n : Int)), decide (s.2.m.length = s.2.n), decide (s.2.n ≤ 1000000000), decide (s.2.n % 128 = 0), decide (s.2.h.length = 8), all64 s.2.h]
def bkF64 (s : Int × BkS) : List (Nat × AV) × Mem := (zipU bkTs [.int false .i64 s.1, .int false .i64 64, .ptr false 2 0, .top, .top, .top], [none, none, some ⟨true, .ints .u64 (some 8) (foldB 64 80 128 s.2.h s.2.m (s.2.n / 128))⟩])
def bkΛ64 (Λ : LoopH) : LoopH := famH 7 141 bkTs bkP64 bkO64 bkF64 Λ
structure BkJ64 (s0 s : Int × BkS) : Prop where
  hk : s.1 = s0.1
  hm : s.2.m = s0.2.m
  hn : s.2.n = s0.2.n
  hl : s.2.len = s0.2.len
  k : ∃ k : Nat, s.2.at' = ((128 * k : Nat) : Int) ∧ 128 * k ≤ s0.2.n ∧ s.2.h = foldB 64 80 128 s0.2.h s0.2.m k
  len : s0.2.len = (s0.2.n : Int)
  ml : s0.2.m.length = s0.2.n
  n1 : s0.2.n ≤ 1000000000
  n2 : s0.2.n % 128 = 0
  hhl : s0.2.h.length = 8
  wd : ∀ x ∈ s0.2.h, Wd 64 x
theorem bk64_lok {Λ : LoopH} (hΛ : LOkN 2 Tryd.prog (bodyOf Tryd.prog 14) Λ) : LOkN 2 Tryd.prog (bodyOf Tryd.prog 14) (bkΛ64 Λ) := by
  refine famR_ok (q := qS) (H := hR3) (Λ0 := fun _ _ => none) (n := 100) (fun s : Int × BkS => bkV s.1 64 s.2) (fun s => bkM s.2) BkJ64 (fun s => (s.2.n : Nat) - s.2.at'.toNat) mixed hR3_ok hΛ LOkN.none (by kernel_rfl) (by kernel_rfl) (fun avs m s h ho => ?_) (fun s0 s hJ => ?_)
  · unfold bkP64 at h
    split at h
    · cases h
      have o1 := of_decide_eq_true (ho _ (List.mem_cons_self ..))
      have o2 := of_decide_eq_true (ho _ (List.mem_cons_of_mem _ (List.mem_cons_self ..)))
      have o3 := of_decide_eq_true (ho _ (List.mem_cons_of_mem _ (List.mem_cons_of_mem _ (List.mem_cons_self ..))))
      have o4 := of_decide_eq_true (ho _ (List.mem_cons_of_mem _ (List.mem_cons_of_mem _ (List.mem_cons_of_mem _ (List.mem_cons_self ..)))))
      have o5 := of_decide_eq_true (ho _ (List.mem_cons_of_mem _ (List.mem_cons_of_mem _ (List.mem_cons_of_mem _ (List.mem_cons_of_mem _ (List.mem_cons_self ..))))))
      have o6 := of_decide_eq_true (ho _ (List.mem_cons_of_mem _ (List.mem_cons_of_mem _ (List.mem_cons_of_mem _ (List.mem_cons_of_mem _ (List.mem_cons_of_mem _ (List.mem_cons_self ..)))))))
      have o7 := ho _ (List.mem_cons_of_mem _ (List.mem_cons_of_mem _ (List.mem_cons_of_mem _ (List.mem_cons_of_mem _ (List.mem_cons_of_mem _ (List.mem_cons_of_mem _ (List.mem_cons_self ..)))))))
      simp only at o1 o2 o3 o4 o5 o6 o7
      exact ⟨_, fun n => [0, 1, 2, 4].getD n 0, Goes.zip (.cons (.refl _) (.cons (.refl _) (.cons (.refl _) (.cons (.refl _) (.cons (.refl _) (.cons (.int _ _ _ _) .nil)))))) ⟨⟨_, rfl, .refl _⟩, ⟨_, rfl, .refl _⟩, trivial⟩ rfl rfl (Nat.le_of_ble_eq_true rfl) rfl rfl, ⟨rfl, rfl, rfl, rfl, ⟨0, o1, Nat.zero_le _, rfl⟩, o2, o3, o4, o5, o6, all64_wd o7⟩⟩
    · cases h
  · obtain ⟨hk, hm, hn, hl, ⟨k, k1, k2, k3⟩, len, ml, n1, n2, hhl, wd⟩ := hJ
    obtain ⟨K, s⟩ := s
    obtain ⟨K0, s0⟩ := s0
    simp only at hk hm hn hl k1 k2 k3 len ml n1 n2 hhl wd
    subst hk
    obtain ⟨f1, f2⟩ := foldB_ok (N := 80) (B := 128) (l := s0.m) hhl wd k
    by_cases he : 128 * k = s0.n
    · have hkn : k = s0.n / 128 := by omega
      refine RoundR.out (bk64_f K s) rfl (fun n => n) (paid_cons (by rw [hl, k1, len, he]; simp) Paid.nil) ?_
      unfold bkF64
      simp only
      rw [← hkn, ← k3]
      exact Goes.zip (.cons (.refl _) (.cons (.refl _) (.cons (.refl _) (.cons (.top _) (.cons (.top _) (.cons (.top _) .nil)))))) ⟨⟨_, rfl, .refl _⟩, trivial⟩ rfl rfl (Nat.le_of_ble_eq_true rfl) rfl rfl
    · have hw : IntKind.i64.wrap (s.at' + 128) = ((128 * (k + 1) : Nat) : Int) := by rw [k1, w64 (by omega)]; omega
      have ht : s.at'.toNat = 128 * k := by rw [k1]; omega
      have key := bk64_t K s
      rw [hw, ht, show ((128 * (k + 1) : Nat) : Int).toNat - 128 * k = 128 by omega, show 0 + 128 * k * 1 = 128 * k by omega] at key
      refine RoundR.on key (K, { s with h := foldB 64 80 128 s0.h s0.m (k + 1), at' := ((128 * (k + 1) : Nat) : Int) }) (fun n => n) ?_ ?_ ⟨rfl, hm, hn, hl, ⟨k + 1, rfl, by simp only; omega, rfl⟩, len, ml, n1, n2, hhl, wd⟩ (by simp only; omega)
      · refine paid_cons (decide_eq_true (by omega)) (paid_cons (by simp; omega) (paid_cons (by simp; omega) (paid_cons (decide_eq_true (by rw [hm]; omega)) (paid_cons (by rw [k3]; exact all64_of f2) (paid_cons rfl Paid.nil)))))
      · have hf : foldB 64 80 128 s0.h s0.m (k + 1) = blockW 64 80 s.h ((s.m.drop (128 * k)).take 128) := by rw [k3, hm]; rfl
        rw [hf]
        exact Goes.zip (.cons (.refl _) (.cons (.refl _) (.cons (.refl _) (.cons (.refl _) (.cons (.refl _) (.cons (.refl _) .nil)))))) ⟨⟨_, rfl, .refl _⟩, ⟨_, rfl, .refl _⟩, trivial⟩ rfl rfl (Nat.le_of_ble_eq_true rfl) rfl rfl
end Go.Proofs.YtjhjhhibfojpiaaDoor
