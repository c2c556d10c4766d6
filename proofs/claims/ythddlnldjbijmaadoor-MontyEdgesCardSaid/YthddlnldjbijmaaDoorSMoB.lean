/- Layer 9's ladder: the loop as a family. Own work. -/
import Derived.Test.YthddlnldjbijmaaDoorSMoA
import Derived.Test.YthddlnldjbijmaaDoorSEvFamx
set_option linter.unusedSimpArgs false
set_option linter.unusedVariables false
set_option linter.unusedSectionVars false
namespace Go.Mo
open Go.Ev Go.Wn
/-- A step of the ladder: of m and m + 1 times. -/
def stp (u b : Int) (s : Int × Int × Int × Int) : Int × Int × Int × Int :=
  if b = 1 then (uX s.2.2.1 s.2.2.2 s.1 s.2.1, uZ u s.2.2.1 s.2.2.2 s.1 s.2.1, dX s.2.2.1 s.2.2.2, dZ s.2.2.1 s.2.2.2)
  else (dX s.1 s.2.1, dZ s.1 s.2.1, uX s.1 s.2.1 s.2.2.1 s.2.2.2, uZ u s.1 s.2.1 s.2.2.1 s.2.2.2)
/-- After j steps, from bit 254 down. -/
def lad (N u : Int) : Nat → Int × Int × Int × Int
  | 0 => (1, 0, u, 1)
  | j + 1 => stp u (N / 2 ^ (254 - j) % 2) (lad N u j)
def LdS.put (s : LdS) (p : Int × Int × Int × Int) (i : Int) : LdS := { s with X1 := p.1, Z1 := p.2.1, X2 := p.2.2.1, Z2 := p.2.2.2, i := i }
end Go.Mo
namespace Go.Proofs.YthddlnldjbijmaaDoor
open Go.Ev Go.Wn Go.Mo
set_option maxRecDepth 100000
def ldO (n : List Int) (b i : Int) : List Bool := decide (i < 255) :: decide (bitV n (IntKind.i64.wrap (254 - i)) = b) :: List.replicate 20 true
theorem ld_0 (w : Nat → AV) (s : LdS) : seesL ldTs ((codeL Tryd.prog qn (deep Tryd.prog qn (hnB 0) 100 3) (fun _ _ => none) 100 (lp (blk 0 (bodyOf Tryd.prog 21))) ⟨tmOf (ups w (zipU ldTs (ldV s))) 56, ldM s⟩).go [true]) =
    some (ldO s.n 0 s.i, 0, ldV { s with i := IntKind.i64.wrap (s.i + 1) }, 56, ldM { s with X1 := dX s.X1 s.Z1, Z1 := dZ s.X1 s.Z1, X2 := uX s.X1 s.Z1 s.X2 s.Z2, Z2 := uZ s.u s.X1 s.Z1 s.X2 s.Z2 }) := by
  obtain ⟨k, ub, nn, bb, cc, n, u, X1, Z1, X2, Z2, i⟩ := s
  kernel_rfl
theorem ld_1 (w : Nat → AV) (s : LdS) : seesL ldTs ((codeL Tryd.prog qn (deep Tryd.prog qn (hnB 1) 100 3) (fun _ _ => none) 100 (lp (blk 0 (bodyOf Tryd.prog 21))) ⟨tmOf (ups w (zipU ldTs (ldV s))) 56, ldM s⟩).go [true]) =
    some (ldO s.n 1 s.i, 0, ldV { s with i := IntKind.i64.wrap (s.i + 1) }, 56, ldM { s with X1 := uX s.X2 s.Z2 s.X1 s.Z1, Z1 := uZ s.u s.X2 s.Z2 s.X1 s.Z1, X2 := dX s.X2 s.Z2, Z2 := dZ s.X2 s.Z2 }) := by
  obtain ⟨k, ub, nn, bb, cc, n, u, X1, Z1, X2, Z2, i⟩ := s
  kernel_rfl
theorem ld_f (w : Nat → AV) (s : LdS) : seesL ldTs ((codeL Tryd.prog qn (deep Tryd.prog qn (hnB 1) 100 3) (fun _ _ => none) 100 (lp (blk 0 (bodyOf Tryd.prog 21))) ⟨tmOf (ups w (zipU ldTs (ldV s))) 56, ldM s⟩).go [false]) =
    some ([!decide (s.i < 255)], 2, ldV s, 56, ldM s) := by
  obtain ⟨k, ub, nn, bb, cc, n, u, X1, Z1, X2, Z2, i⟩ := s
  kernel_rfl
def ldP : List AV → Mem → Option (LdS × List Bool)
  | [.ptr false 7 0, .ptr false 8 0, .ptr false 9 0, .ptr false 10 0, .ptr false 11 0, .ptr false 12 0, .int false .i64 i], [some ⟨false, .ints .u8 (some 32) k⟩, some ⟨false, .ints .u8 (some 32) ub⟩, some ⟨false, .ints .u64 (some 4) nn⟩, some ⟨false, .ints .u64 (some 4) bb⟩, some ⟨false, .vals [.ptr false 6 0]⟩, some ⟨false, .ints .u64 (some 4) cc⟩, some ⟨false, .ints .u64 (some 9) L⟩,
      some ⟨true, .vals [.ptr false 6 0]⟩, some ⟨true, .ints .u64 (some 4) n⟩, some ⟨true, .ints .u64 (some 4) b⟩, some ⟨true, .ints .u64 (some 4) z⟩, some ⟨true, .ints .u64 (some 8) lo⟩, some ⟨true, .ints .u64 (some 8) hi⟩] =>
    some (⟨k, ub, nn, bb, cc, n, val b, 1, 0, val b, 1, 0⟩, [decide (i = 0), decide (L = PL), decide (z = [0, 0, 0, 0]), decide (lo = limbs 1 ++ limbs 0), decide (hi = limbs (val b) ++ limbs 1), decide (b = limbs (val b)), decide (limbs (val n) = n)])
  | _, _ => none
def ldF (p : LdS × List Bool) : List (Nat × AV) × Mem := ([(3, .ptr false 7 0), (6, .ptr false 10 0), (7, .ptr false 11 0)], ldM (p.1.put (lad (val p.1.n) p.1.u 255) 0))
def ldΛ (Λ : LoopH) : LoopH := famH 0 56 ldTs ldP (fun p => p.2) ldF Λ
def ldJ (p s : LdS × List Bool) : Prop := limbs (val p.1.n) = p.1.n ∧ ∃ j : Nat, j ≤ 255 ∧ s.1 = p.1.put (lad (val p.1.n) p.1.u j) (j : Int)
theorem ld_bit {n : List Int} (h : limbs (val n) = n) {j : Nat} (hj : j < 255) : bitV n (IntKind.i64.wrap (254 - (j : Int))) = val n / 2 ^ (254 - j) % 2 := by
  have e : IntKind.i64.wrap (254 - (j : Int)) = ((254 - j : Nat) : Int) := by
    have := w64_id (x := 254 - (j : Int)) (by omega)
    unfold w64 at this
    rw [this]; omega
  rw [e]
  obtain ⟨e0, e1, e2, e3, he, w0, w1, w2, w3⟩ := limbs_self h
  have hc : bitC ((254 - j : Nat) : Int) = false := by unfold bitC; rw [decide_eq_false (by omega : ¬ ((254 - j : Nat) : Int) < 0), decide_eq_false (by omega : ¬ ((254 - j : Nat) : Int) > 255)]
  unfold bitV
  rw [hc, he]
  exact bit_word w0 w1 w2 w3 (by omega)
theorem ld_lok {Λ : LoopH} (hΛ : LOk Tryd.prog (bodyOf Tryd.prog 21) Λ) : LOk Tryd.prog (bodyOf Tryd.prog 21) (ldΛ Λ) := by
  refine fam_okx (q := qn) (n := 100) (fun p : LdS × List Bool => ldV p.1) (fun p => ldM p.1) ldJ (fun s => 255 - s.1.i.toNat) mixed hΛ LOk.none (by kernel_rfl) (by kernel_rfl) (fun s => rfl) (fun s => rfl) (fun avs mm p h ho => ?_) (fun p s hJ w => ?_)
  · unfold ldP at h
    split at h
    · rename_i i k ub nn bb cc L n b z lo hi
      cases h
      have p0 := of_decide_eq_true (ho _ (List.mem_cons_self ..))
      have p1 := of_decide_eq_true (ho _ (List.mem_cons_of_mem _ (List.mem_cons_self ..)))
      have p2 := of_decide_eq_true (ho _ (List.mem_cons_of_mem _ (List.mem_cons_of_mem _ (List.mem_cons_self ..))))
      have p3 := of_decide_eq_true (ho _ (List.mem_cons_of_mem _ (List.mem_cons_of_mem _ (List.mem_cons_of_mem _ (List.mem_cons_self ..)))))
      have p4 := of_decide_eq_true (ho _ (List.mem_cons_of_mem _ (List.mem_cons_of_mem _ (List.mem_cons_of_mem _ (List.mem_cons_of_mem _ (List.mem_cons_self ..))))))
      have p5 := of_decide_eq_true (ho _ (List.mem_cons_of_mem _ (List.mem_cons_of_mem _ (List.mem_cons_of_mem _ (List.mem_cons_of_mem _ (List.mem_cons_of_mem _ (List.mem_cons_self ..)))))))
      have p6 := of_decide_eq_true (ho _ (List.mem_cons_of_mem _ (List.mem_cons_of_mem _ (List.mem_cons_of_mem _ (List.mem_cons_of_mem _ (List.mem_cons_of_mem _ (List.mem_cons_of_mem _ (List.mem_cons_self ..))))))))
      refine ⟨(⟨k, ub, nn, bb, cc, n, val b, 1, 0, val b, 1, 0⟩, []), ?_, ?_, p6, 0, Nat.zero_le _, rfl⟩
      · rw [p0]
        exact .cons (.refl _) (.cons (.refl _) (.cons (.refl _) (.cons (.refl _) (.cons (.refl _) (.cons (.refl _) (.cons (.int _ _ _) .nil))))))
      · rw [p1, p2, p3, p4]
        unfold ldM
        simp only
        rw [← p5]
    · cases h
  · obtain ⟨hn, j, hj, hs⟩ := hJ
    obtain ⟨p, pb⟩ := p
    obtain ⟨s, sb⟩ := s
    simp only at hs hn
    subst hs
    by_cases hend : j = 255
    · subst hend
      refine ⟨_, (hnB_ok 1).deep (q := qn) mixed noCount 100 3, Round.out (ld_f w _) rfl rfl (paid_cons (by simp [LdS.put]) Paid.nil) fun q hq => ?_⟩
      simp only [ldF, List.mem_cons, List.not_mem_nil, or_false] at hq
      rcases hq with rfl | rfl | rfl
      · exact ⟨_, List.mem_cons_self .., .refl _⟩
      · exact ⟨_, List.mem_cons_of_mem _ (List.mem_cons_of_mem _ (List.mem_cons_of_mem _ (List.mem_cons_self ..))), .refl _⟩
      · exact ⟨_, List.mem_cons_of_mem _ (List.mem_cons_of_mem _ (List.mem_cons_of_mem _ (List.mem_cons_of_mem _ (List.mem_cons_self ..)))), .refl _⟩
    · have hlt : j < 255 := by omega
      have hb := ld_bit hn hlt
      have hw : IntKind.i64.wrap ((j : Int) + 1) = ((j + 1 : Nat) : Int) := by
        have := w64_id (x := (j : Int) + 1) (by omega)
        unfold w64 at this
        rw [this]; omega
      have hdebt : ∀ b : Int, val p.n / 2 ^ (254 - j) % 2 = b → Paid (ldO p.n b (j : Int)) := fun b h => paid_cons (decide_eq_true (by omega)) (paid_cons (decide_eq_true (by rw [hb, h])) (fun x hx => (List.mem_replicate.1 hx).2))
      have h01 : val p.n / 2 ^ (254 - j) % 2 = 0 ∨ val p.n / 2 ^ (254 - j) % 2 = 1 := by omega
      have hl : lad (val p.n) p.u (j + 1) = stp p.u (val p.n / 2 ^ (254 - j) % 2) (lad (val p.n) p.u j) := rfl
      rcases h01 with h | h
      · refine ⟨_, (hnB_ok 0).deep (q := qn) mixed noCount 100 3, Round.on (ld_0 w _) (p.put (lad (val p.n) p.u (j + 1)) ((j + 1 : Nat) : Int), sb) [] ?_ (hdebt 0 h) ?_ ⟨hn, j + 1, by omega, rfl⟩ rfl (by simp only [LdS.put]; omega)⟩
        · rw [hl, h, List.append_nil]
          unfold stp
          rw [if_neg (by decide)]
          rfl
        · simp only [LdS.put, hw]
          exact LeL.refl _
      · refine ⟨_, (hnB_ok 1).deep (q := qn) mixed noCount 100 3, Round.on (ld_1 w _) (p.put (lad (val p.n) p.u (j + 1)) ((j + 1 : Nat) : Int), sb) [] ?_ (hdebt 1 h) ?_ ⟨hn, j + 1, by omega, rfl⟩ rfl (by simp only [LdS.put]; omega)⟩
        · rw [hl, h, List.append_nil]
          unfold stp
          rw [if_pos rfl]
          rfl
        · simp only [LdS.put, hw]
          exact LeL.refl _
end Go.Proofs.YthddlnldjbijmaaDoor
