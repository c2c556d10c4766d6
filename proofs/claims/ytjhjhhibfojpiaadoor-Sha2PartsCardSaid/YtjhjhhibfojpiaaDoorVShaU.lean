/- The reference's loop of words. Own work. -/
import Derived.Test.YtjhjhhibfojpiaaDoorVShaQ
set_option linter.unusedSimpArgs false
set_option linter.unusedVariables false
set_option linter.unusedSectionVars false
namespace Go.Sh
open Go.Ev
theorem be_from : ∀ (l : List Int) (a : Int) (m : Nat), (∀ y ∈ l, 0 ≤ y ∧ y < 256) → 0 ≤ a ∧ a < 256 ^ m → 0 ≤ l.foldl (fun a x => a * 256 + x) a ∧ l.foldl (fun a x => a * 256 + x) a < 256 ^ (m + l.length)
  | [], a, m, _, h => by simpa using h
  | y :: l, a, m, hb, h => by
    have hy := hb y (List.mem_cons_self ..)
    have ih := be_from l (a * 256 + y) (m + 1) (fun z hz => hb z (List.mem_cons_of_mem _ hz)) ⟨by omega, by rw [Int.pow_succ]; omega⟩
    rw [List.foldl_cons, List.length_cons, show m + (l.length + 1) = m + 1 + l.length by omega]
    exact ih
theorem be_lt {l : List Int} (hb : ∀ y ∈ l, 0 ≤ y ∧ y < 256) : 0 ≤ be l ∧ be l < 256 ^ l.length := by
  have h := be_from l 0 0 hb ⟨by decide, by decide⟩
  rw [Nat.zero_add] at h
  exact h
end Go.Sh
namespace Go.Proofs.YtjhjhhibfojpiaaDoor
variable [Go.Ev.RowTab]
open Go.Ev Go.Sh
set_option maxRecDepth 100000
theorem bew32 {l : List Int} (hl : l.length = 64) (hb : ∀ x ∈ l, B8 x) {n : Nat} (hn : n < 16) : Wd 32 (be ((l.drop (32 / 8 * n)).take (32 / 8))) := by
  have h := be_lt (l := (l.drop (32 / 8 * n)).take (32 / 8)) (fun y hy => hb y (List.mem_of_mem_drop (List.mem_of_mem_take hy)))
  have e : ((l.drop (32 / 8 * n)).take (32 / 8)).length = 4 := by rw [List.length_take, List.length_drop]; omega
  rw [e] at h
  exact ⟨h.1, by have := h.2; omega⟩
structure RbJ32 (s0 s : RbS) : Prop where
  hh : s.h = s0.h
  hl : s.l = s0.l
  hn : s.n = s0.n
  hm : s.m = s0.m
  n : s.n = 64
  m : s.m = 64
  len : s.l.length = s.n
  byte : ∀ x ∈ s.l, B8 x
  lo : 0 ≤ s.i
  hi : s.i ≤ 64
  x : s.x = fillW 80 32 s.l s.i.toNat
def rbP32 : List AV → Mem → Option RbS
  | [.slice true 1 0 m none 1, .int false .i64 32, .ptr false 3 0, .ptr false 4 0, .ptr false 5 0, .int false .i64 64, .ptr false 6 0, .ptr false 7 0, .int _ .i64 i], [none, some ⟨false, .ints .u8 (some n) l⟩, none, some ⟨true, .ints .u64 (some 8) h⟩, some ⟨true, .ints .u64 (some 8) z⟩, some ⟨true, .ints .u64 (some 80) c⟩, some ⟨true, .ints .i64 (some 12) t⟩, some ⟨true, .ints .u64 (some 80) x⟩] =>
    match decide (z = [0, 0, 0, 0, 0, 0, 0, 0]), decide (c = cubeL), decide (t = turn32) with
    | true, true, true => some ⟨h, l, n, m, x, i⟩
    | _, _, _ => none
  | _, _ => none
def rbW32 (s : RbS) : List Bool := [decide (s.i = 0), decide (s.m = 64), decide (s.n = 64), decide (s.l.length = s.n), s.l.all (inR .u8), decide (s.x = fillW 80 32 s.l s.i.toNat)]
def rbF32 (s : RbS) : List (Nat × AV) × Mem := ([(2, .int false .i64 32), (3, .ptr false 3 0), (6, .ptr false 4 0), (7, .ptr false 5 0), (8, .int false .i64 64), (9, .ptr false 6 0), (10, .ptr false 7 0)], rbM turn32 { s with x := fillW 80 32 s.l 64 })
theorem rb32_round (s0 s : RbS) (hJ : RbJ32 s0 s) (hk : s.i ≠ 64) : ∃ (o : List Bool) (t : RbS), (∀ x : Nat → AV, ∃ ds, seesL rbTs ((codeL Tryd.prog qS hR2 (fun _ _ => none) 100 (lp (blk 0 (bodyOf Tryd.prog 33))) ⟨tmOf (ups x (zipU rbTs (rbV 32 64 s))) 230, rbM turn32 s⟩).go ds) = some (o, 0, rbV 32 64 t, 230, rbM turn32 t)) ∧ Paid o ∧ RbJ32 s0 t ∧ t.i = s.i + 1 := by
  obtain ⟨hh, hl, hn, hm, n, m, len, byte, lo, hi, x⟩ := hJ
  obtain ⟨h, l, n', m', x', i⟩ := s
  simp only at hh hl hn hm n m len byte lo hi x hk
  subst x n m
  have hw : IntKind.i64.wrap (i + 1) = i + 1 := w64 (by omega)
  have ht : (i + 1).toNat = i.toNat + 1 := by omega
  have hlen : (fillW 80 32 l i.toNat).length = 80 := by unfold fillW; rw [List.length_append, words_len, List.length_replicate]; omega
  by_cases h16 : i < 16
  · have hz : (fillW 80 32 l i.toNat).getD i.toNat 0 = 0 := by
      unfold fillW
      rw [List.getD, List.getElem?_append_right (by rw [words_len]; omega), words_len, Nat.sub_self, List.getElem?_replicate]
      split <;> rfl
    have rk : ∀ k : Nat, k < 4 → rbK32 ⟨h, l, 64, 64, fillW 80 32 l i.toNat, i⟩ (k : Int) = ((4 * i.toNat + k : Nat) : Int) := fun k hk => by
      unfold rbK32
      rw [show IntKind.i64.wrap (Int.tdiv 32 8) = 4 by rfl, w64 (x := 4 * i) (by omega), w64 (by omega)]; omega
    have hb := bytes_in (x := fillW 80 32 l i.toNat) (l := l) (i := i.toNat) (c := 4 * i.toNat) (fun k => rbX32 ⟨h, l, 64, 64, fillW 80 32 l i.toNat, i⟩ k) rfl (by omega) hz (fun y hy => byte y hy) (n := 4) (by decide) (by omega) (fun k hk => by
      show (rbX32 _ k).set _ _ = _
      rw [rk k hk, Int.toNat_natCast, Nat.zero_add, Nat.mul_one, Nat.zero_add, Nat.mul_one]) 4 (Nat.le_refl _)
    have hv : nextW 32 l (wordsW 32 l i.toNat) = be ((l.drop (4 * i.toNat)).take 4) := by
      unfold nextW
      rw [words_len, if_pos (by omega)]
    refine ⟨[decide (i < 64), decide (i < 16)] ++ rbO32 ⟨h, l, 64, 64, fillW 80 32 l i.toNat, i⟩ 4, ⟨h, l, 64, 64, fillW 80 32 l (i.toNat + 1), i + 1⟩, fun x => ⟨[true, true], ?_⟩, ?_, ⟨hh, hl, hn, hm, rfl, rfl, len, byte, by simp only; omega, by simp only; omega, by simp only [ht]⟩, rfl⟩
    · rw [rb32_t1]
      have e := hb.1
      simp only [rbV, rbM, hw, e, ← hv, fill_set (show i.toNat < 80 by omega)] <;> rfl
    · have ra : ∀ k, k ≤ 4 → Paid (rbO32 ⟨h, l, 64, 64, fillW 80 32 l i.toNat, i⟩ k) := fun k => by
        induction k with
        | zero => exact fun _ => Paid.nil
        | succ k ih =>
          intro hk
          refine paid_append.2 ⟨ih (by omega), ?_⟩
          rw [rk k (by omega)]
          repeat' first | exact Paid.nil | refine paid_cons ?_ ?_
          all_goals (simp; try omega)
      exact paid_append.2 ⟨paid_cons (decide_eq_true (by omega)) (paid_cons (decide_eq_true h16) Paid.nil), ra 4 (Nat.le_refl _)⟩
  · have pj : ∀ d : Int, 0 ≤ d ∧ d ≤ 16 → IntKind.i64.wrap (i - d) = i - d := fun d hd => w64 (by omega)
    have e : ∀ d : Int, 2 ≤ d ∧ d ≤ 16 → rbJ i d = i.toNat - d.toNat := fun d hd => by unfold rbJ; rw [pj d (by omega)]; omega
    have hwd := words_wd (w := 32) (b := l) (fun n hn => bew32 len byte hn) i.toNat
    have gt : ∀ d : Int, 2 ≤ d ∧ d ≤ 16 → (fillW 80 32 l i.toNat).getD (0 + rbJ i d * 1) 0 = (wordsW 32 l i.toNat).getD (i.toNat - d.toNat) 0 := fun d hd => by
      rw [e d hd, Nat.zero_add, Nat.mul_one, fill_get (by omega)]
    have gw : ∀ j, Wd 32 ((wordsW 32 l i.toNat).getD j 0) := fun j => getD_wd hwd j
    have hv : rbRaw32 ⟨h, l, 64, 64, fillW 80 32 l i.toNat, i⟩ % 2 ^ 32 = nextW 32 l (wordsW 32 l i.toNat) := by
      unfold rbRaw32
      simp only
      rw [gt 16 (by omega), gt 15 (by omega), gt 7 (by omega), gt 2 (by omega), three_s0_32, three_s1_32, wrap_u (k := .u64) rfl, wrap_u (k := .u64) rfl, wrap_u (k := .u64) rfl]
      unfold nextW
      rw [words_len, if_neg (by omega)]
      simp only [IntKind.bits, show Int.toNat 16 = 16 from rfl, show Int.toNat 15 = 15 from rfl, show Int.toNat 7 = 7 from rfl, show Int.toNat 2 = 2 from rfl]
      omega
    refine ⟨rbD32 ⟨h, l, 64, 64, fillW 80 32 l i.toNat, i⟩, ⟨h, l, 64, 64, fillW 80 32 l (i.toNat + 1), i + 1⟩, fun x => ⟨[true, false], ?_⟩, ?_, ⟨hh, hl, hn, hm, rfl, rfl, len, byte, by simp only; omega, by simp only; omega, by simp only [ht]⟩, rfl⟩
    · rw [rb32_t2]
      simp only [rbV, rbM, hw, hv, Nat.zero_add, Nat.mul_one, fill_set (show i.toNat < 80 by omega)] <;> rfl
    · have g15 := gw (i.toNat - 15)
      have g2 := gw (i.toNat - 2)
      have q15 := gt 15 (by omega)
      have q2 := gt 2 (by omega)
      rw [e 15 (by omega)] at q15
      rw [e 2 (by omega)] at q2
      simp only [show Int.toNat 15 = 15 from rfl, show Int.toNat 2 = 2 from rfl] at q15 q2
      unfold Wd at g15 g2
      unfold rbD32
      simp only [q15, q2, pj 15 (by omega), pj 2 (by omega), pj 16 (by omega), pj 7 (by omega), e 15 (by omega), e 2 (by omega), e 16 (by omega), e 7 (by omega), show Int.toNat 16 = 16 from rfl, show Int.toNat 15 = 15 from rfl, show Int.toNat 7 = 7 from rfl, show Int.toNat 2 = 2 from rfl]
      repeat' first | exact Paid.nil | refine paid_cons ?_ ?_
      all_goals first | rfl | exact decide_eq_true ⟨g15.1, by have := g15.2; omega⟩ | exact decide_eq_true ⟨g2.1, by have := g2.2; omega⟩ | (refine decide_eq_true (by unfold rbRaw32; rw [wrap_u (k := .u64) rfl]; exact Int.emod_nonneg _ (by decide))) | (simp; try omega)
theorem bew64 {l : List Int} (hl : l.length = 128) (hb : ∀ x ∈ l, B8 x) {n : Nat} (hn : n < 16) : Wd 64 (be ((l.drop (64 / 8 * n)).take (64 / 8))) := by
  have h := be_lt (l := (l.drop (64 / 8 * n)).take (64 / 8)) (fun y hy => hb y (List.mem_of_mem_drop (List.mem_of_mem_take hy)))
  have e : ((l.drop (64 / 8 * n)).take (64 / 8)).length = 8 := by rw [List.length_take, List.length_drop]; omega
  rw [e] at h
  exact ⟨h.1, by have := h.2; omega⟩
structure RbJ64 (s0 s : RbS) : Prop where
  hh : s.h = s0.h
  hl : s.l = s0.l
  hn : s.n = s0.n
  hm : s.m = s0.m
  n : s.n = 128
  m : s.m = 128
  len : s.l.length = s.n
  byte : ∀ x ∈ s.l, B8 x
  lo : 0 ≤ s.i
  hi : s.i ≤ 80
  x : s.x = fillW 80 64 s.l s.i.toNat
def rbP64 : List AV → Mem → Option RbS
  | [.slice true 1 0 m none 1, .int false .i64 64, .ptr false 3 0, .ptr false 4 0, .ptr false 5 0, .int false .i64 80, .ptr false 6 0, .ptr false 7 0, .int _ .i64 i], [none, some ⟨false, .ints .u8 (some n) l⟩, none, some ⟨true, .ints .u64 (some 8) h⟩, some ⟨true, .ints .u64 (some 8) z⟩, some ⟨true, .ints .u64 (some 80) c⟩, some ⟨true, .ints .i64 (some 12) t⟩, some ⟨true, .ints .u64 (some 80) x⟩] =>
    match decide (z = [0, 0, 0, 0, 0, 0, 0, 0]), decide (c = cubeL), decide (t = turn64) with
    | true, true, true => some ⟨h, l, n, m, x, i⟩
    | _, _, _ => none
  | _, _ => none
def rbW64 (s : RbS) : List Bool := [decide (s.i = 0), decide (s.m = 128), decide (s.n = 128), decide (s.l.length = s.n), s.l.all (inR .u8), decide (s.x = fillW 80 64 s.l s.i.toNat)]
def rbF64 (s : RbS) : List (Nat × AV) × Mem := ([(2, .int false .i64 64), (3, .ptr false 3 0), (6, .ptr false 4 0), (7, .ptr false 5 0), (8, .int false .i64 80), (9, .ptr false 6 0), (10, .ptr false 7 0)], rbM turn64 { s with x := fillW 80 64 s.l 80 })
theorem rb64_round (s0 s : RbS) (hJ : RbJ64 s0 s) (hk : s.i ≠ 80) : ∃ (o : List Bool) (t : RbS), (∀ x : Nat → AV, ∃ ds, seesL rbTs ((codeL Tryd.prog qS hR2 (fun _ _ => none) 100 (lp (blk 0 (bodyOf Tryd.prog 33))) ⟨tmOf (ups x (zipU rbTs (rbV 64 80 s))) 230, rbM turn64 s⟩).go ds) = some (o, 0, rbV 64 80 t, 230, rbM turn64 t)) ∧ Paid o ∧ RbJ64 s0 t ∧ t.i = s.i + 1 := by
  obtain ⟨hh, hl, hn, hm, n, m, len, byte, lo, hi, x⟩ := hJ
  obtain ⟨h, l, n', m', x', i⟩ := s
  simp only at hh hl hn hm n m len byte lo hi x hk
  subst x n m
  have hw : IntKind.i64.wrap (i + 1) = i + 1 := w64 (by omega)
  have ht : (i + 1).toNat = i.toNat + 1 := by omega
  have hlen : (fillW 80 64 l i.toNat).length = 80 := by unfold fillW; rw [List.length_append, words_len, List.length_replicate]; omega
  by_cases h16 : i < 16
  · have hz : (fillW 80 64 l i.toNat).getD i.toNat 0 = 0 := by
      unfold fillW
      rw [List.getD, List.getElem?_append_right (by rw [words_len]; omega), words_len, Nat.sub_self, List.getElem?_replicate]
      split <;> rfl
    have rk : ∀ k : Nat, k < 8 → rbK64 ⟨h, l, 128, 128, fillW 80 64 l i.toNat, i⟩ (k : Int) = ((8 * i.toNat + k : Nat) : Int) := fun k hk => by
      unfold rbK64
      rw [show IntKind.i64.wrap (Int.tdiv 64 8) = 8 by rfl, w64 (x := 8 * i) (by omega), w64 (by omega)]; omega
    have hb := bytes_in (x := fillW 80 64 l i.toNat) (l := l) (i := i.toNat) (c := 8 * i.toNat) (fun k => rbX64 ⟨h, l, 128, 128, fillW 80 64 l i.toNat, i⟩ k) rfl (by omega) hz (fun y hy => byte y hy) (n := 8) (by decide) (by omega) (fun k hk => by
      show (rbX64 _ k).set _ _ = _
      rw [rk k hk, Int.toNat_natCast, Nat.zero_add, Nat.mul_one, Nat.zero_add, Nat.mul_one]) 8 (Nat.le_refl _)
    have hv : nextW 64 l (wordsW 64 l i.toNat) = be ((l.drop (8 * i.toNat)).take 8) := by
      unfold nextW
      rw [words_len, if_pos (by omega)]
    refine ⟨[decide (i < 80), decide (i < 16)] ++ rbO64 ⟨h, l, 128, 128, fillW 80 64 l i.toNat, i⟩ 8, ⟨h, l, 128, 128, fillW 80 64 l (i.toNat + 1), i + 1⟩, fun x => ⟨[true, true], ?_⟩, ?_, ⟨hh, hl, hn, hm, rfl, rfl, len, byte, by simp only; omega, by simp only; omega, by simp only [ht]⟩, rfl⟩
    · rw [rb64_t1]
      have e := hb.1
      simp only [rbV, rbM, hw, e, ← hv, fill_set (show i.toNat < 80 by omega)] <;> rfl
    · have ra : ∀ k, k ≤ 8 → Paid (rbO64 ⟨h, l, 128, 128, fillW 80 64 l i.toNat, i⟩ k) := fun k => by
        induction k with
        | zero => exact fun _ => Paid.nil
        | succ k ih =>
          intro hk
          refine paid_append.2 ⟨ih (by omega), ?_⟩
          rw [rk k (by omega)]
          repeat' first | exact Paid.nil | refine paid_cons ?_ ?_
          all_goals (simp; try omega)
      exact paid_append.2 ⟨paid_cons (decide_eq_true (by omega)) (paid_cons (decide_eq_true h16) Paid.nil), ra 8 (Nat.le_refl _)⟩
  · have pj : ∀ d : Int, 0 ≤ d ∧ d ≤ 16 → IntKind.i64.wrap (i - d) = i - d := fun d hd => w64 (by omega)
    have e : ∀ d : Int, 2 ≤ d ∧ d ≤ 16 → rbJ i d = i.toNat - d.toNat := fun d hd => by unfold rbJ; rw [pj d (by omega)]; omega
    have hwd := words_wd (w := 64) (b := l) (fun n hn => bew64 len byte hn) i.toNat
    have gt : ∀ d : Int, 2 ≤ d ∧ d ≤ 16 → (fillW 80 64 l i.toNat).getD (0 + rbJ i d * 1) 0 = (wordsW 64 l i.toNat).getD (i.toNat - d.toNat) 0 := fun d hd => by
      rw [e d hd, Nat.zero_add, Nat.mul_one, fill_get (by omega)]
    have gw : ∀ j, Wd 64 ((wordsW 64 l i.toNat).getD j 0) := fun j => getD_wd hwd j
    have hv : rbRaw64 ⟨h, l, 128, 128, fillW 80 64 l i.toNat, i⟩ = nextW 64 l (wordsW 64 l i.toNat) := by
      unfold rbRaw64
      simp only
      rw [gt 16 (by omega), gt 15 (by omega), gt 7 (by omega), gt 2 (by omega), three_s0_64, three_s1_64, wrap_u (k := .u64) rfl, wrap_u (k := .u64) rfl, wrap_u (k := .u64) rfl]
      unfold nextW
      rw [words_len, if_neg (by omega)]
      simp only [IntKind.bits, show Int.toNat 16 = 16 from rfl, show Int.toNat 15 = 15 from rfl, show Int.toNat 7 = 7 from rfl, show Int.toNat 2 = 2 from rfl]
      omega
    refine ⟨rbD64 ⟨h, l, 128, 128, fillW 80 64 l i.toNat, i⟩, ⟨h, l, 128, 128, fillW 80 64 l (i.toNat + 1), i + 1⟩, fun x => ⟨[true, false], ?_⟩, ?_, ⟨hh, hl, hn, hm, rfl, rfl, len, byte, by simp only; omega, by simp only; omega, by simp only [ht]⟩, rfl⟩
    · rw [rb64_t2]
      simp only [rbV, rbM, hw, hv, Nat.zero_add, Nat.mul_one, fill_set (show i.toNat < 80 by omega)] <;> rfl
    · have g15 := gw (i.toNat - 15)
      have g2 := gw (i.toNat - 2)
      have q15 := gt 15 (by omega)
      have q2 := gt 2 (by omega)
      rw [e 15 (by omega)] at q15
      rw [e 2 (by omega)] at q2
      simp only [show Int.toNat 15 = 15 from rfl, show Int.toNat 2 = 2 from rfl] at q15 q2
      unfold Wd at g15 g2
      unfold rbD64
      simp only [q15, q2, pj 15 (by omega), pj 2 (by omega), pj 16 (by omega), pj 7 (by omega), e 15 (by omega), e 2 (by omega), e 16 (by omega), e 7 (by omega), show Int.toNat 16 = 16 from rfl, show Int.toNat 15 = 15 from rfl, show Int.toNat 7 = 7 from rfl, show Int.toNat 2 = 2 from rfl]
      repeat' first | exact Paid.nil | refine paid_cons ?_ ?_
      all_goals first | rfl | exact decide_eq_true ⟨g15.1, by have := g15.2; omega⟩ | exact decide_eq_true ⟨g2.1, by have := g2.2; omega⟩ | (simp; try omega)
def rbΛ32 (Λ : LoopH) : LoopH := famH 0 230 rbTs rbP32 rbW32 rbF32 Λ
theorem rb32_lok {Λ : LoopH} (hΛ : LOk Tryd.prog (bodyOf Tryd.prog 33) Λ) : LOk Tryd.prog (bodyOf Tryd.prog 33) (rbΛ32 Λ) := by
  refine fam_ok (q := qS) (n := 100) (rbV 32 64) (rbM turn32) RbJ32 (fun s => 64 - s.i.toNat) mixed hR2_ok hΛ LOk.none (by kernel_rfl) (by kernel_rfl) (fun s => rfl) (fun s => rfl) (fun avs m s h ho => ?_) (fun s0 s hJ x => ?_)
  · unfold rbP32 at h
    split at h
    · split at h
      · rename_i e1 e2 e3
        cases h
        have e1' := of_decide_eq_true e1
        have e2' := of_decide_eq_true e2
        have e3' := of_decide_eq_true e3
        subst e1' e2' e3'
        have o1 := of_decide_eq_true (ho _ (List.mem_cons_self ..))
        have o2 := of_decide_eq_true (ho _ (List.mem_cons_of_mem _ (List.mem_cons_self ..)))
        have o3 := of_decide_eq_true (ho _ (List.mem_cons_of_mem _ (List.mem_cons_of_mem _ (List.mem_cons_self ..))))
        have o4 := of_decide_eq_true (ho _ (List.mem_cons_of_mem _ (List.mem_cons_of_mem _ (List.mem_cons_of_mem _ (List.mem_cons_self ..)))))
        have o5 := ho _ (List.mem_cons_of_mem _ (List.mem_cons_of_mem _ (List.mem_cons_of_mem _ (List.mem_cons_of_mem _ (List.mem_cons_self ..)))))
        have o6 := of_decide_eq_true (ho _ (List.mem_cons_of_mem _ (List.mem_cons_of_mem _ (List.mem_cons_of_mem _ (List.mem_cons_of_mem _ (List.mem_cons_of_mem _ (List.mem_cons_self ..)))))))
        simp only at o1 o2 o3 o4 o6
        exact ⟨_, .cons (.refl _) (.cons (.refl _) (.cons (.refl _) (.cons (.refl _) (.cons (.refl _) (.cons (.refl _) (.cons (.refl _) (.cons (.refl _) (.cons (.int _ _ _) .nil)))))))), rfl, ⟨rfl, rfl, rfl, rfl, o3, o2, o4, fun x hx => inR_u8 (List.all_eq_true.1 o5 x hx), by simp only; omega, by simp only; omega, o6⟩⟩
      · cases h
    · cases h
  · by_cases hk : s.i = 64
    · obtain ⟨hh, hl, hn, hm, n, m, len, byte, lo, hi, hx⟩ := hJ
      refine Round.out (rb32_f x s) rfl ?_ (paid_cons (by rw [hk]; rfl) Paid.nil) fun p hp => ?_
      · unfold rbF32 rbM
        simp only [hh, hl, hn, hx, hk, show Int.toNat 64 = 64 from rfl]
      · simp only [rbF32, List.mem_cons, List.not_mem_nil, or_false] at hp
        rcases hp with rfl | rfl | rfl | rfl | rfl | rfl | rfl <;> exact ⟨_, by simp [rbTs, rbV, zipU], Le1.refl _⟩
    · obtain ⟨o, t, h1, h2, h3, h4⟩ := rb32_round s0 s hJ hk
      obtain ⟨ds, h5⟩ := h1 x
      have h6 := hJ.hi
      have h7 := hJ.lo
      exact Round.on h5 t [] (by simp) h2 (LeL.refl _) h3 rfl (by show 64 - t.i.toNat < 64 - s.i.toNat; omega)
def rbΛ64 (Λ : LoopH) : LoopH := famH 0 230 rbTs rbP64 rbW64 rbF64 Λ
theorem rb64_lok {Λ : LoopH} (hΛ : LOk Tryd.prog (bodyOf Tryd.prog 33) Λ) : LOk Tryd.prog (bodyOf Tryd.prog 33) (rbΛ64 Λ) := by
  refine fam_ok (q := qS) (n := 100) (rbV 64 80) (rbM turn64) RbJ64 (fun s => 80 - s.i.toNat) mixed hR2_ok hΛ LOk.none (by kernel_rfl) (by kernel_rfl) (fun s => rfl) (fun s => rfl) (fun avs m s h ho => ?_) (fun s0 s hJ x => ?_)
  · unfold rbP64 at h
    split at h
    · split at h
      · rename_i e1 e2 e3
        cases h
        have e1' := of_decide_eq_true e1
        have e2' := of_decide_eq_true e2
        have e3' := of_decide_eq_true e3
        subst e1' e2' e3'
        have o1 := of_decide_eq_true (ho _ (List.mem_cons_self ..))
        have o2 := of_decide_eq_true (ho _ (List.mem_cons_of_mem _ (List.mem_cons_self ..)))
        have o3 := of_decide_eq_true (ho _ (List.mem_cons_of_mem _ (List.mem_cons_of_mem _ (List.mem_cons_self ..))))
        have o4 := of_decide_eq_true (ho _ (List.mem_cons_of_mem _ (List.mem_cons_of_mem _ (List.mem_cons_of_mem _ (List.mem_cons_self ..)))))
        have o5 := ho _ (List.mem_cons_of_mem _ (List.mem_cons_of_mem _ (List.mem_cons_of_mem _ (List.mem_cons_of_mem _ (List.mem_cons_self ..)))))
        have o6 := of_decide_eq_true (ho _ (List.mem_cons_of_mem _ (List.mem_cons_of_mem _ (List.mem_cons_of_mem _ (List.mem_cons_of_mem _ (List.mem_cons_of_mem _ (List.mem_cons_self ..)))))))
        simp only at o1 o2 o3 o4 o6
        exact ⟨_, .cons (.refl _) (.cons (.refl _) (.cons (.refl _) (.cons (.refl _) (.cons (.refl _) (.cons (.refl _) (.cons (.refl _) (.cons (.refl _) (.cons (.int _ _ _) .nil)))))))), rfl, ⟨rfl, rfl, rfl, rfl, o3, o2, o4, fun x hx => inR_u8 (List.all_eq_true.1 o5 x hx), by simp only; omega, by simp only; omega, o6⟩⟩
      · cases h
    · cases h
  · by_cases hk : s.i = 80
    · obtain ⟨hh, hl, hn, hm, n, m, len, byte, lo, hi, hx⟩ := hJ
      refine Round.out (rb64_f x s) rfl ?_ (paid_cons (by rw [hk]; rfl) Paid.nil) fun p hp => ?_
      · unfold rbF64 rbM
        simp only [hh, hl, hn, hx, hk, show Int.toNat 80 = 80 from rfl]
      · simp only [rbF64, List.mem_cons, List.not_mem_nil, or_false] at hp
        rcases hp with rfl | rfl | rfl | rfl | rfl | rfl | rfl <;> exact ⟨_, by simp [rbTs, rbV, zipU], Le1.refl _⟩
    · obtain ⟨o, t, h1, h2, h3, h4⟩ := rb64_round s0 s hJ hk
      obtain ⟨ds, h5⟩ := h1 x
      have h6 := hJ.hi
      have h7 := hJ.lo
      exact Round.on h5 t [] (by simp) h2 (LeL.refl _) h3 rfl (by show 80 - t.i.toNat < 80 - s.i.toNat; omega)
end Go.Proofs.YtjhjhhibfojpiaaDoor
