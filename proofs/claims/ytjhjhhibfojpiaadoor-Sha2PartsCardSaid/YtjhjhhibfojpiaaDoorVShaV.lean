/- The reference's rounds. Own work. -/
import Derived.Test.YtjhjhhibfojpiaaDoorVShaU
set_option linter.unusedSimpArgs false
set_option linter.unusedVariables false
set_option linter.unusedSectionVars false
namespace Go.Proofs.YtjhjhhibfojpiaaDoor
variable [Go.Ev.RowTab]
open Go.Ev Go.Sh
set_option maxRecDepth 100000
structure RcJ32 (s0 s : RcS) : Prop where
  hh : s.h = s0.h
  hl : s.l = s0.l
  hn : s.n = s0.n
  hx : s.x = s0.x
  x : s.x = fillW 80 32 s0.l 64
  lo : 0 ≤ s.i
  hi : s.i ≤ 64
  v : s.v = roundsV 32 64 s0.l s0.h s.i.toNat
  len : s0.h.length = 8
  wd : ∀ y ∈ s0.h, Wd 32 y
def rdP32 : List AV → Mem → Option RcS
  | [.int false .i64 32, .ptr false 3 0, .ptr false 4 0, .ptr false 5 0, .int false .i64 64, .ptr false 6 0, .ptr false 7 0, .ptr false 8 0, .int _ .i64 i], [none, some ⟨false, .ints .u8 (some n) l⟩, none, some ⟨true, .ints .u64 (some 8) h⟩, some ⟨true, .ints .u64 (some 8) z⟩, some ⟨true, .ints .u64 (some 80) c⟩, some ⟨true, .ints .i64 (some 12) t⟩, some ⟨true, .ints .u64 (some 80) x⟩, some ⟨true, .ints .u64 (some 8) v⟩] =>
    match decide (z = [0, 0, 0, 0, 0, 0, 0, 0]), decide (c = cubeL), decide (t = turn32) with
    | true, true, true => some ⟨h, l, n, x, v, i⟩
    | _, _, _ => none
  | _, _ => none
def rdO32 (s : RcS) : List Bool := [decide (s.i = 0), decide (s.x = fillW 80 32 s.l 64), decide (s.v = s.h), decide (s.h.length = 8), all32 s.h]
def rdF32 (s : RcS) : List (Nat × AV) × Mem := ([(2, .int false .i64 32), (3, .ptr false 3 0), (6, .ptr false 4 0), (7, .ptr false 5 0), (8, .int false .i64 64), (9, .ptr false 6 0), (10, .ptr false 7 0), (13, .ptr false 8 0)], rcM turn32 { s with v := roundsV 32 64 s.l s.h 64 })
def rdΛ32 (Λ : LoopH) : LoopH := famH 4 230 rcTs rdP32 rdO32 rdF32 Λ
theorem rd32_lok {Λ : LoopH} (hΛ : LOk Tryd.prog (bodyOf Tryd.prog 33) Λ) : LOk Tryd.prog (bodyOf Tryd.prog 33) (rdΛ32 Λ) := by
  refine fam_ok (q := qS) (n := 100) (rcV 32 64) (rcM turn32) RcJ32 (fun s => 64 - s.i.toNat) mixed hR2_ok hΛ LOk.none (by kernel_rfl) (by kernel_rfl) (fun s => rfl) (fun s => rfl) (fun avs m s h ho => ?_) (fun s0 s hJ x => ?_)
  · unfold rdP32 at h
    split at h
    · split at h
      · rename_i e1 e2 e3
        cases h
        have e1' := of_decide_eq_true e1
        have e2' := of_decide_eq_true e2
        have e3' := of_decide_eq_true e3
        subst e1' e2' e3'
        have o1 := of_decide_eq_true (ho _ (List.mem_cons_self ..))
        have o2 := of_decide_eq_true (ho _ (List.mem_cons_of_mem _ (List.mem_cons_self ..)))
        have o3 := of_decide_eq_true (ho _ (List.mem_cons_of_mem _ (List.mem_cons_of_mem _ (List.mem_cons_self ..))))
        have o4 := of_decide_eq_true (ho _ (List.mem_cons_of_mem _ (List.mem_cons_of_mem _ (List.mem_cons_of_mem _ (List.mem_cons_self ..)))))
        have o5 := ho _ (List.mem_cons_of_mem _ (List.mem_cons_of_mem _ (List.mem_cons_of_mem _ (List.mem_cons_of_mem _ (List.mem_cons_self ..)))))
        simp only at o1 o2 o3 o4 o5
        refine ⟨_, .cons (.refl _) (.cons (.refl _) (.cons (.refl _) (.cons (.refl _) (.cons (.refl _) (.cons (.refl _) (.cons (.refl _) (.cons (.refl _) (.cons (.int _ _ _) .nil)))))))), rfl, ⟨rfl, rfl, rfl, rfl, o2, by simp only; omega, by simp only; omega, ?_, o4, all32_wd o5⟩⟩
        simp only [o1, o3]
        rfl
      · cases h
    · cases h
  · obtain ⟨hh, hl, hn, hx, xe, lo, hi, v, len, wd⟩ := hJ
    by_cases hk : s.i = 64
    · refine Round.out (rc32_f x s) rfl ?_ (paid_cons (by rw [hk]; rfl) Paid.nil) fun p hp => ?_
      · unfold rdF32 rcM
        simp only [hh, hl, hn, hx, v, hk, show Int.toNat 64 = 64 from rfl]
      · simp only [rdF32, List.mem_cons, List.not_mem_nil, or_false] at hp
        rcases hp with rfl | rfl | rfl | rfl | rfl | rfl | rfl | rfl <;> exact ⟨_, by simp [rcTs, rcV, zipU], Le1.refl _⟩
    · obtain ⟨a, b, c, d, e, f, g, h, hv, wa, wb, wc, wd', we, wf, wg, wh⟩ := rounds_eight (w := 32) (n := 64) (b := s0.l) len wd s.i.toNat
      have hs : s = { s with v := [a, b, c, d, e, f, g, h] } := by
        obtain ⟨h', l, n, x', v', i⟩ := s
        simp only at v hv ⊢
        rw [v, hv]
      have key := rc32_t x s a b c d e f g h
      rw [← hs] at key
      have hi' : s.i < 64 := by omega
      have hw1 : IntKind.i64.wrap (s.i + 1) = s.i + 1 := w64 (by omega)
      have ht : (s.i + 1).toNat = s.i.toNat + 1 := by omega
      have hr := rc32_eq (s := s) (K' := (KL 32).getD s.i.toNat 0) (d := d) (h := h) (by have h := kl32 s.i.toNat; rw [wrap_u (k := .u32) rfl] at h; simp only [IntKind.bits] at h; rw [Nat.zero_add, Nat.mul_one]; omega) wa wb wc we wf wg
      have hxi : s.x.getD (0 + s.i.toNat * 1) 0 = (wordsW 32 s0.l 64).getD s.i.toNat 0 := by
        rw [xe, Nat.zero_add, Nat.mul_one, fill_get (by omega)]
      have hr2 : roundW 32 ((KL 32).getD s.i.toNat 0) (s.x.getD (0 + s.i.toNat * 1) 0) [a, b, c, d, e, f, g, h] = roundsV 32 64 s0.l s0.h (s.i.toNat + 1) := by
        show _ = roundW _ _ _ _
        rw [hv, hxi]
      rw [hr, hr2] at key
      unfold Wd at we wa
      refine Round.on key { s with v := roundsV 32 64 s0.l s0.h (s.i.toNat + 1), i := s.i + 1 } [] (by simp [rcM]) ?_ (by simp only [rcV, hw1]; exact LeL.refl _) ⟨hh, hl, hn, hx, xe, by simp only; omega, by simp only; omega, by simp only [ht], len, wd⟩ rfl (by show 64 - (s.i + 1).toNat < 64 - s.i.toNat; omega)
      repeat' first | exact Paid.nil | refine paid_cons ?_ ?_
      all_goals first | rfl | exact decide_eq_true ⟨we.1, by have := we.2; omega⟩ | exact decide_eq_true ⟨wa.1, by have := wa.2; omega⟩ | exact decide_eq_true (by unfold rcP32; rw [wrap_u (k := .u64) rfl]; exact Int.emod_nonneg _ (by decide)) | exact decide_eq_true (by unfold rcQ32; rw [wrap_u (k := .u64) rfl]; exact Int.emod_nonneg _ (by decide)) | exact decide_eq_true (by rw [wrap_u (k := .u64) rfl]; exact Int.emod_nonneg _ (by decide)) | (simp; omega) | exact decide_eq_true (by omega)
structure RcJ64 (s0 s : RcS) : Prop where
  hh : s.h = s0.h
  hl : s.l = s0.l
  hn : s.n = s0.n
  hx : s.x = s0.x
  x : s.x = fillW 80 64 s0.l 80
  lo : 0 ≤ s.i
  hi : s.i ≤ 80
  v : s.v = roundsV 64 80 s0.l s0.h s.i.toNat
  len : s0.h.length = 8
  wd : ∀ y ∈ s0.h, Wd 64 y
def rdP64 : List AV → Mem → Option RcS
  | [.int false .i64 64, .ptr false 3 0, .ptr false 4 0, .ptr false 5 0, .int false .i64 80, .ptr false 6 0, .ptr false 7 0, .ptr false 8 0, .int _ .i64 i], [none, some ⟨false, .ints .u8 (some n) l⟩, none, some ⟨true, .ints .u64 (some 8) h⟩, some ⟨true, .ints .u64 (some 8) z⟩, some ⟨true, .ints .u64 (some 80) c⟩, some ⟨true, .ints .i64 (some 12) t⟩, some ⟨true, .ints .u64 (some 80) x⟩, some ⟨true, .ints .u64 (some 8) v⟩] =>
    match decide (z = [0, 0, 0, 0, 0, 0, 0, 0]), decide (c = cubeL), decide (t = turn64) with
    | true, true, true => some ⟨h, l, n, x, v, i⟩
    | _, _, _ => none
  | _, _ => none
def rdO64 (s : RcS) : List Bool := [decide (s.i = 0), decide (s.x = fillW 80 64 s.l 80), decide (s.v = s.h), decide (s.h.length = 8), all64 s.h]
def rdF64 (s : RcS) : List (Nat × AV) × Mem := ([(2, .int false .i64 64), (3, .ptr false 3 0), (6, .ptr false 4 0), (7, .ptr false 5 0), (8, .int false .i64 80), (9, .ptr false 6 0), (10, .ptr false 7 0), (13, .ptr false 8 0)], rcM turn64 { s with v := roundsV 64 80 s.l s.h 80 })
def rdΛ64 (Λ : LoopH) : LoopH := famH 4 230 rcTs rdP64 rdO64 rdF64 Λ
theorem rd64_lok {Λ : LoopH} (hΛ : LOk Tryd.prog (bodyOf Tryd.prog 33) Λ) : LOk Tryd.prog (bodyOf Tryd.prog 33) (rdΛ64 Λ) := by
  refine fam_ok (q := qS) (n := 100) (rcV 64 80) (rcM turn64) RcJ64 (fun s => 80 - s.i.toNat) mixed hR2_ok hΛ LOk.none (by kernel_rfl) (by kernel_rfl) (fun s => rfl) (fun s => rfl) (fun avs m s h ho => ?_) (fun s0 s hJ x => ?_)
  · unfold rdP64 at h
    split at h
    · split at h
      · rename_i e1 e2 e3
        cases h
        have e1' := of_decide_eq_true e1
        have e2' := of_decide_eq_true e2
        have e3' := of_decide_eq_true e3
        subst e1' e2' e3'
        have o1 := of_decide_eq_true (ho _ (List.mem_cons_self ..))
        have o2 := of_decide_eq_true (ho _ (List.mem_cons_of_mem _ (List.mem_cons_self ..)))
        have o3 := of_decide_eq_true (ho _ (List.mem_cons_of_mem _ (List.mem_cons_of_mem _ (List.mem_cons_self ..))))
        have o4 := of_decide_eq_true (ho _ (List.mem_cons_of_mem _ (List.mem_cons_of_mem _ (List.mem_cons_of_mem _ (List.mem_cons_self ..)))))
        have o5 := ho _ (List.mem_cons_of_mem _ (List.mem_cons_of_mem _ (List.mem_cons_of_mem _ (List.mem_cons_of_mem _ (List.mem_cons_self ..)))))
        simp only at o1 o2 o3 o4 o5
        refine ⟨_, .cons (.refl _) (.cons (.refl _) (.cons (.refl _) (.cons (.refl _) (.cons (.refl _) (.cons (.refl _) (.cons (.refl _) (.cons (.refl _) (.cons (.int _ _ _) .nil)))))))), rfl, ⟨rfl, rfl, rfl, rfl, o2, by simp only; omega, by simp only; omega, ?_, o4, all64_wd o5⟩⟩
        simp only [o1, o3]
        rfl
      · cases h
    · cases h
  · obtain ⟨hh, hl, hn, hx, xe, lo, hi, v, len, wd⟩ := hJ
    by_cases hk : s.i = 80
    · refine Round.out (rc64_f x s) rfl ?_ (paid_cons (by rw [hk]; rfl) Paid.nil) fun p hp => ?_
      · unfold rdF64 rcM
        simp only [hh, hl, hn, hx, v, hk, show Int.toNat 80 = 80 from rfl]
      · simp only [rdF64, List.mem_cons, List.not_mem_nil, or_false] at hp
        rcases hp with rfl | rfl | rfl | rfl | rfl | rfl | rfl | rfl <;> exact ⟨_, by simp [rcTs, rcV, zipU], Le1.refl _⟩
    · obtain ⟨a, b, c, d, e, f, g, h, hv, wa, wb, wc, wd', we, wf, wg, wh⟩ := rounds_eight (w := 64) (n := 80) (b := s0.l) len wd s.i.toNat
      have hs : s = { s with v := [a, b, c, d, e, f, g, h] } := by
        obtain ⟨h', l, n, x', v', i⟩ := s
        simp only at v hv ⊢
        rw [v, hv]
      have key := rc64_t x s a b c d e f g h
      rw [← hs] at key
      have hi' : s.i < 80 := by omega
      have hw1 : IntKind.i64.wrap (s.i + 1) = s.i + 1 := w64 (by omega)
      have ht : (s.i + 1).toNat = s.i.toNat + 1 := by omega
      have hr := rc64_eq (s := s) (K' := (KL 64).getD s.i.toNat 0) (d := d) (h := h) (by rw [Nat.zero_add, Nat.mul_one]; exact kl64 s.i.toNat) wa wb wc we wf wg
      have hxi : s.x.getD (0 + s.i.toNat * 1) 0 = (wordsW 64 s0.l 80).getD s.i.toNat 0 := by
        rw [xe, Nat.zero_add, Nat.mul_one, fill_get (by omega)]
      have hr2 : roundW 64 ((KL 64).getD s.i.toNat 0) (s.x.getD (0 + s.i.toNat * 1) 0) [a, b, c, d, e, f, g, h] = roundsV 64 80 s0.l s0.h (s.i.toNat + 1) := by
        show _ = roundW _ _ _ _
        rw [hv, hxi]
      rw [hr, hr2] at key
      unfold Wd at we wa
      refine Round.on key { s with v := roundsV 64 80 s0.l s0.h (s.i.toNat + 1), i := s.i + 1 } [] (by simp [rcM]) ?_ (by simp only [rcV, hw1]; exact LeL.refl _) ⟨hh, hl, hn, hx, xe, by simp only; omega, by simp only; omega, by simp only [ht], len, wd⟩ rfl (by show 80 - (s.i + 1).toNat < 80 - s.i.toNat; omega)
      repeat' first | exact Paid.nil | refine paid_cons ?_ ?_
      all_goals first | rfl | exact decide_eq_true ⟨we.1, by have := we.2; omega⟩ | exact decide_eq_true ⟨wa.1, by have := wa.2; omega⟩ | exact decide_eq_true (by unfold rcP64; rw [wrap_u (k := .u64) rfl]; exact Int.emod_nonneg _ (by decide)) | exact decide_eq_true (by unfold rcQ64; rw [wrap_u (k := .u64) rfl]; exact Int.emod_nonneg _ (by decide)) | exact decide_eq_true (by rw [wrap_u (k := .u64) rfl]; exact Int.emod_nonneg _ (by decide)) | (simp; omega) | exact decide_eq_true (by omega)
end Go.Proofs.YtjhjhhibfojpiaaDoor
