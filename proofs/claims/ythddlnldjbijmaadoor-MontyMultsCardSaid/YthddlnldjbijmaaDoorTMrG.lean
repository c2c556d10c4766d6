/- The reference of layer 9: the ladder as a family. Own work. -/
import Derived.Test.YthddlnldjbijmaaDoorTMrG0
set_option linter.unusedSimpArgs false
set_option linter.unusedVariables false
set_option linter.unusedSectionVars false
namespace Go.Mo
open Go.Ev Go.Wn
def rstp (x b : Int) (s : Int × Int × Int × Int) : Int × Int × Int × Int :=
  if b = 1 then (wX s.2.2.1 s.2.2.2 s.1 s.2.1, wZ x s.2.2.1 s.2.2.2 s.1 s.2.1, vX s.2.2.1 s.2.2.2, vZ s.2.2.1 s.2.2.2)
  else (vX s.1 s.2.1, vZ s.1 s.2.1, wX s.2.2.1 s.2.2.2 s.1 s.2.1, wZ x s.2.2.1 s.2.2.2 s.1 s.2.1)
def rl (N x : Int) : Nat → Int × Int × Int × Int
  | 0 => (1, 0, x, 1)
  | t + 1 => rstp x (N / 2 ^ (255 - t) % 2) (rl N x t)
def RmS.put (s : RmS) (p : Int × Int × Int × Int) (i : Int) : RmS := { s with X1 := p.1, Z1 := p.2.1, X2 := p.2.2.1, Z2 := p.2.2.2, i := i }
/-- Bytes as a number, the lowest first. -/
def nb8 : List Int → Int
  | [] => 0
  | x :: r => x + 256 * nb8 r
theorem nb8_drop : ∀ (j : Nat) {l : List Int}, (∀ x ∈ l, 0 ≤ x ∧ x < 256) → nb8 l / 256 ^ j = nb8 (l.drop j)
  | 0, l, _ => by rw [Int.pow_zero, Int.ediv_one, List.drop_zero]
  | j + 1, [], _ => by rw [List.drop_nil]; show (0 : Int) / _ = 0; exact Int.zero_ediv _
  | j + 1, x :: r, h => by
    have h1 := h x (List.mem_cons_self ..)
    have ih := nb8_drop j (l := r) fun y hy => h y (List.mem_cons_of_mem _ hy)
    rw [List.drop_succ_cons, ← ih, Int.pow_succ, Int.mul_comm, ← Int.ediv_ediv_of_nonneg (by decide)]
    congr 1
    show (x + 256 * nb8 r) / 256 = nb8 r
    omega
theorem nb8_byte {l : List Int} (h : ∀ x ∈ l, 0 ≤ x ∧ x < 256) {i : Nat} (hi : i / 8 < l.length) : nb8 l / 2 ^ i % 2 = l.getD (i / 8) 0 / 2 ^ (i % 8) % 2 := by
  have e : (2 : Int) ^ i = 256 ^ (i / 8) * 2 ^ (i % 8) := by
    have : (256 : Int) = 2 ^ 8 := rfl
    rw [this, ← Int.pow_mul, ← Int.pow_add]
    congr 1
    omega
  have hp : (0 : Int) ≤ 256 ^ (i / 8) := Int.le_of_lt (Int.pow_pos (by decide))
  rw [e, ← Int.ediv_ediv_of_nonneg hp, nb8_drop _ h]
  have hd : l.drop (i / 8) = l.getD (i / 8) 0 :: l.drop (i / 8 + 1) := by
    rw [List.getD_eq_getElem?_getD, List.getElem?_eq_getElem hi, Option.getD_some]
    exact List.drop_eq_getElem_cons hi
  rw [hd]
  unfold nb8
  generalize l.getD (i / 8) 0 = b
  generalize nb8 (l.drop (i / 8 + 1)) = y
  have hr : i % 8 < 8 := Nat.mod_lt _ (by decide)
  generalize i % 8 = r at *
  rcases r with _ | _ | _ | _ | _ | _ | _ | _ | r
  all_goals first | (simp only [Int.reducePow, Nat.zero_add, Nat.reduceAdd]; omega) | omega
def rmQ (n : List Int) (i : Int) : Int := ishr .u8 (n.getD (0 + (IntKind.i64.wrap (i.tdiv 8)).toNat * 1) 0) (i.tmod 8)
def ltN (y : Int) : Bool := decide (vl y < pN)
theorem ltN_t {y : Int} (h : 0 ≤ y ∧ y < pN) : ltN y = true := by unfold ltN; rw [vl_lt h]; exact decide_eq_true h.2
theorem nM_range (x y : Int) : 0 ≤ nM x y ∧ nM x y < pN := ⟨Int.emod_nonneg _ (by decide), Int.emod_lt_of_pos _ pN_pos⟩
def rmO (s : RmS) (b : Bool) (X Z : Int) : List Bool := [decide (s.i ≥ 0), ltN (nM s.X2 s.X1), ltN (nM s.Z2 s.Z1), ltN (nM s.X2 s.Z1), ltN (nM s.Z2 s.X1), decide (0 ≤ IntKind.i64.wrap (s.i.tdiv 8)) && decide (IntKind.i64.wrap (s.i.tdiv 8) < ((32 : Nat) : Int)), decide (0 + (IntKind.i64.wrap (s.i.tdiv 8)).toNat * 1 + 1 ≤ 32), !decide (s.i.tmod 8 < 0), b, ltN (nM X X), ltN (nM Z Z)]
end Go.Mo
namespace Go.Proofs.YthddlnldjbijmaaDoor
open Go.Ev Go.Wn Go.Mo
set_option maxRecDepth 100000
theorem rm_1 (w : Nat → AV) (s : RmS) : seesL rmTs ((codeL Tryd.prog qn (deep Tryd.prog qn hr4 100 3) (fun _ _ => none) 100 (lp (blk 0 (bodyOf Tryd.prog 10))) ⟨tmOf (ups w (zipU rmTs (rmV s))) 68, rmM s⟩).go [true, true]) =
    some (rmO s ((rmQ s.n s.i).tmod 2 == 1) s.X2 s.Z2, 0, rmV { s with i := IntKind.i64.wrap (s.i - 1) }, 68, rmM { s with X1 := wX s.X2 s.Z2 s.X1 s.Z1, Z1 := wZ s.x s.X2 s.Z2 s.X1 s.Z1, X2 := vX s.X2 s.Z2, Z2 := vZ s.X2 s.Z2 } ++ [some ⟨true, .ints .u64 (some 8) (limbs (wX s.X2 s.Z2 s.X1 s.Z1) ++ limbs (wZ s.x s.X2 s.Z2 s.X1 s.Z1))⟩]) := by
  obtain ⟨k, ub, b, c, x, n, X1, Z1, X2, Z2, i⟩ := s
  kernel_rfl
theorem rm_0 (w : Nat → AV) (s : RmS) : seesL rmTs ((codeL Tryd.prog qn (deep Tryd.prog qn hr4 100 3) (fun _ _ => none) 100 (lp (blk 0 (bodyOf Tryd.prog 10))) ⟨tmOf (ups w (zipU rmTs (rmV s))) 68, rmM s⟩).go [true, false]) =
    some (rmO s (!((rmQ s.n s.i).tmod 2 == 1)) s.X1 s.Z1, 0, rmV { s with i := IntKind.i64.wrap (s.i - 1) }, 68, rmM { s with X1 := vX s.X1 s.Z1, Z1 := vZ s.X1 s.Z1, X2 := wX s.X2 s.Z2 s.X1 s.Z1, Z2 := wZ s.x s.X2 s.Z2 s.X1 s.Z1 } ++ [some ⟨true, .ints .u64 (some 8) (limbs (wX s.X2 s.Z2 s.X1 s.Z1) ++ limbs (wZ s.x s.X2 s.Z2 s.X1 s.Z1))⟩]) := by
  obtain ⟨k, ub, b, c, x, n, X1, Z1, X2, Z2, i⟩ := s
  kernel_rfl
theorem rm_f (w : Nat → AV) (s : RmS) : seesL rmTs ((codeL Tryd.prog qn (deep Tryd.prog qn hr4 100 3) (fun _ _ => none) 100 (lp (blk 0 (bodyOf Tryd.prog 10))) ⟨tmOf (ups w (zipU rmTs (rmV s))) 68, rmM s⟩).go [false]) =
    some ([!decide (s.i ≥ 0)], 2, rmV s, 68, rmM s) := by
  obtain ⟨k, ub, b, c, x, n, X1, Z1, X2, Z2, i⟩ := s
  kernel_rfl
theorem le_nb8 {l : List Int} (h : okb l) : leI l = nb8 l := by
  obtain ⟨hl, hr⟩ := h
  obtain ⟨b0, b1, b2, b3, b4, b5, b6, b7, b8, b9, b10, b11, b12, b13, b14, b15, b16, b17, b18, b19, b20, b21, b22, b23, b24, b25, b26, b27, b28, b29, b30, b31, rfl⟩ := thirty hl
  clear hl hr
  unfold leI litL W8 val
  simp only [List.getD_cons_zero, List.getD_cons_succ, nb8]
  omega
theorem rm_bit {n : List Int} (h : okb n) {i : Nat} (hi : i < 256) : ((rmQ n i).tmod 2 == 1) = decide (leI n / 2 ^ i % 2 = 1) := by
  have hb : ∀ x ∈ n, 0 ≤ x ∧ x < 256 := fun x hx => by have := inR_B8 (h.2 x hx); exact this
  have e1 : ((i : Int)).tdiv 8 = ((i / 8 : Nat) : Int) := by rw [Int.tdiv_eq_ediv_of_nonneg (by omega)]; omega
  have e2 : ((i : Int)).tmod 8 = ((i % 8 : Nat) : Int) := by rw [Int.tmod_eq_emod_of_nonneg (by omega)]; omega
  have e3 : IntKind.i64.wrap (((i / 8 : Nat) : Int)) = ((i / 8 : Nat) : Int) := by
    have := w64_id (x := ((i / 8 : Nat) : Int)) (by omega)
    exact this
  have hj : i / 8 < n.length := by rw [h.1]; omega
  have hq : rmQ n i = n.getD (i / 8) 0 / 2 ^ (i % 8) := by
    unfold rmQ
    rw [e1, e2, e3, Int.toNat_natCast, Nat.mul_one, Nat.zero_add, ishr_eq (by simp [IntKind.bits]; omega)]
  have hx : 0 ≤ n.getD (i / 8) 0 := by
    rw [List.getD_eq_getElem?_getD, List.getElem?_eq_getElem hj, Option.getD_some]
    exact (hb _ (List.getElem_mem hj)).1
  have hn : 0 ≤ rmQ n i := by rw [hq]; exact Int.ediv_nonneg hx (Int.le_of_lt (Int.pow_pos (by omega)))
  rw [le_nb8 h, nb8_byte hb hj, ← hq, Int.tmod_eq_emod_of_nonneg hn]
  by_cases h1 : rmQ n i % 2 = 1
  · rw [decide_eq_true h1, h1]; rfl
  · rw [decide_eq_false h1]
    simpa using h1
theorem rm_paid {s : RmS} {i : Nat} (hs : s.i = (i : Int)) (hi : i < 256) {b : Bool} (hb : b = true) (X Z : Int) : Paid (rmO s b X Z) := by
  have e1 : ((i : Int)).tdiv 8 = ((i / 8 : Nat) : Int) := by rw [Int.tdiv_eq_ediv_of_nonneg (by omega)]; omega
  have e2 : ((i : Int)).tmod 8 = ((i % 8 : Nat) : Int) := by rw [Int.tmod_eq_emod_of_nonneg (by omega)]; omega
  have e3 : IntKind.i64.wrap (((i / 8 : Nat) : Int)) = ((i / 8 : Nat) : Int) := by
    have := w64_id (x := ((i / 8 : Nat) : Int)) (by omega)
    exact this
  unfold rmO
  rw [hs, e1, e2, e3]
  exact paid_cons (decide_eq_true (by omega)) (paid_cons (ltN_t (nM_range _ _)) (paid_cons (ltN_t (nM_range _ _)) (paid_cons (ltN_t (nM_range _ _)) (paid_cons (ltN_t (nM_range _ _)) (paid_cons (by rw [decide_eq_true (by omega), decide_eq_true (by omega)]; rfl) (paid_cons (decide_eq_true (by omega)) (paid_cons (by rw [decide_eq_false (by omega)]; rfl) (paid_cons hb (paid_cons (ltN_t (nM_range _ _)) (paid_cons (ltN_t (nM_range _ _)) Paid.nil))))))))))
def rmP : List AV → Mem → Option (RmS × List Bool)
  | [.slice false 2 0 32 none 1, .ptr false 4 0, .slice false 5 0 32 none 1, .ptr false 6 0, .ptr false 7 0, .int false .i64 i, .nilslice], [some ⟨false, .ints .u8 (some 32) k⟩, some ⟨false, .ints .u8 (some 32) ub⟩, some ⟨true, .ints .u8 (some 32) b⟩, some ⟨true, .ints .u8 (some 32) c⟩, some ⟨true, .ints .u64 (some 4) x⟩, some ⟨true, .ints .u8 (some 32) n⟩, some ⟨true, .ints .u64 (some 8) lo⟩, some ⟨true, .ints .u64 (some 8) hi⟩] =>
    some (⟨k, ub, b, c, val x, n, 1, 0, val x, 1, 255⟩, [decide (i = 255), decide (x = limbs (val x)), decide (lo = limbs 1 ++ limbs 0), decide (hi = limbs (val x) ++ limbs 1), Nat.beq n.length 32, n.all fun y => inR .u8 y])
  | _, _ => none
def rmF (p : RmS × List Bool) : List (Nat × AV) × Mem := ([(8, .ptr false 6 0), (4, .nilslice)], rmM (p.1.put (rl (leI p.1.n) p.1.x 256) 0))
def rmJ (p s : RmS × List Bool) : Prop := okb p.1.n ∧ ∃ t : Nat, t ≤ 256 ∧ s.1 = p.1.put (rl (leI p.1.n) p.1.x t) (255 - (t : Int))
theorem rm_lok {Λ : LoopH} (hΛ : LOk Tryd.prog (bodyOf Tryd.prog 10) Λ) : LOk Tryd.prog (bodyOf Tryd.prog 10) (famH 0 68 rmTs rmP (fun p => p.2) rmF Λ) := by
  refine fam_ok (q := qn) (n := 100) (fun p : RmS × List Bool => rmV p.1) (fun p => rmM p.1) rmJ (fun s => (s.1.i + 1).toNat) mixed (hr4_ok.deep (q := qn) mixed noCount 100 3) hΛ LOk.none (by kernel_rfl) (by kernel_rfl) (fun s => rfl) (fun s => rfl) (fun avs mm p h ho => ?_) (fun p s hJ w => ?_)
  · unfold rmP at h
    split at h
    · rename_i i k ub b c x n lo hi
      cases h
      have p0 := of_decide_eq_true (ho _ (List.mem_cons_self ..))
      have p1 := of_decide_eq_true (ho _ (List.mem_cons_of_mem _ (List.mem_cons_self ..)))
      have p2 := of_decide_eq_true (ho _ (List.mem_cons_of_mem _ (List.mem_cons_of_mem _ (List.mem_cons_self ..))))
      have p3 := of_decide_eq_true (ho _ (List.mem_cons_of_mem _ (List.mem_cons_of_mem _ (List.mem_cons_of_mem _ (List.mem_cons_self ..)))))
      have p4 := Nat.eq_of_beq_eq_true (ho _ (List.mem_cons_of_mem _ (List.mem_cons_of_mem _ (List.mem_cons_of_mem _ (List.mem_cons_of_mem _ (List.mem_cons_self ..))))))
      have p5 := List.all_eq_true.1 (ho _ (List.mem_cons_of_mem _ (List.mem_cons_of_mem _ (List.mem_cons_of_mem _ (List.mem_cons_of_mem _ (List.mem_cons_of_mem _ (List.mem_cons_self ..)))))))
      refine ⟨(⟨k, ub, b, c, val x, n, 1, 0, val x, 1, 255⟩, []), ?_, ?_, ⟨p4, p5⟩, 0, Nat.zero_le _, rfl⟩
      · rw [p0]
        exact .cons (.refl _) (.cons (.refl _) (.cons (.refl _) (.cons (.refl _) (.cons (.refl _) (.cons (.int _ _ _) (.cons (.refl _) .nil))))))
      · rw [p2, p3]
        unfold rmM
        simp only
        rw [← p1]
    · cases h
  · obtain ⟨hn, t, ht, hs⟩ := hJ
    obtain ⟨p, pb⟩ := p
    obtain ⟨s, sb⟩ := s
    simp only at hs hn
    subst hs
    by_cases hend : t = 256
    · subst hend
      refine Round.out (rm_f w _) rfl rfl (paid_cons rfl Paid.nil) fun q hq => ?_
      simp only [rmF, List.mem_cons, List.not_mem_nil, or_false] at hq
      rcases hq with rfl | rfl
      · exact ⟨_, List.mem_cons_of_mem _ (List.mem_cons_of_mem _ (List.mem_cons_of_mem _ (List.mem_cons_self ..))), .refl _⟩
      · exact ⟨_, List.mem_cons_of_mem _ (List.mem_cons_of_mem _ (List.mem_cons_of_mem _ (List.mem_cons_of_mem _ (List.mem_cons_of_mem _ (List.mem_cons_of_mem _ (List.mem_cons_self ..)))))), .refl _⟩
    · have hlt : 255 - t < 256 := by omega
      have hi : (255 : Int) - (t : Int) = ((255 - t : Nat) : Int) := by omega
      have hb := rm_bit hn hlt
      have hw : IntKind.i64.wrap (255 - (t : Int) - 1) = 255 - ((t + 1 : Nat) : Int) := by
        have := w64_id (x := 255 - (t : Int) - 1) (by omega)
        unfold w64 at this
        rw [this]; omega
      have hl : rl (leI p.n) p.x (t + 1) = rstp p.x (leI p.n / 2 ^ (255 - t) % 2) (rl (leI p.n) p.x t) := rfl
      by_cases h : leI p.n / 2 ^ (255 - t) % 2 = 1
      · rw [decide_eq_true h] at hb
        refine Round.on (rm_1 w _) (p.put (rl (leI p.n) p.x (t + 1)) (255 - ((t + 1 : Nat) : Int)), sb) [some ⟨true, .ints .u64 (some 8) (limbs (wX (rl (leI p.n) p.x t).2.2.1 (rl (leI p.n) p.x t).2.2.2 (rl (leI p.n) p.x t).1 (rl (leI p.n) p.x t).2.1) ++ limbs (wZ p.x (rl (leI p.n) p.x t).2.2.1 (rl (leI p.n) p.x t).2.2.2 (rl (leI p.n) p.x t).1 (rl (leI p.n) p.x t).2.1))⟩] ?_ (rm_paid (i := 255 - t) hi hlt (by show ((rmQ p.n (255 - (t : Int))).tmod 2 == 1) = true; rw [hi]; exact hb) _ _) ?_ ⟨hn, t + 1, by omega, rfl⟩ rfl (by simp only [RmS.put]; omega)
        · rw [hl, h]
          unfold rstp
          rw [if_pos rfl]
          rfl
        · simp only [RmS.put, hw]
          exact LeL.refl _
      · rw [decide_eq_false h] at hb
        refine Round.on (rm_0 w _) (p.put (rl (leI p.n) p.x (t + 1)) (255 - ((t + 1 : Nat) : Int)), sb) [some ⟨true, .ints .u64 (some 8) (limbs (wX (rl (leI p.n) p.x t).2.2.1 (rl (leI p.n) p.x t).2.2.2 (rl (leI p.n) p.x t).1 (rl (leI p.n) p.x t).2.1) ++ limbs (wZ p.x (rl (leI p.n) p.x t).2.2.1 (rl (leI p.n) p.x t).2.2.2 (rl (leI p.n) p.x t).1 (rl (leI p.n) p.x t).2.1))⟩] ?_ (rm_paid (i := 255 - t) hi hlt (by show (!((rmQ p.n (255 - (t : Int))).tmod 2 == 1)) = true; rw [hi, hb]; rfl) _ _) ?_ ⟨hn, t + 1, by omega, rfl⟩ rfl (by simp only [RmS.put]; omega)
        · rw [hl]
          unfold rstp
          rw [if_neg h]
          rfl
        · simp only [RmS.put, hw]
          exact LeL.refl _
end Go.Proofs.YthddlnldjbijmaaDoor
