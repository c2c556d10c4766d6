/- The anchor of layer 6. Own work. -/
import Derived.Test.YtfmgodgakndjcaaSKGcC
import Derived.Test.YtfmgodgakndjcaaSEvIn
import Derived.Test.YtfmgodgakndjcaaSKGcR
set_option linter.unusedSimpArgs false
set_option linter.unusedVariables false
set_option linter.unusedSectionVars false
namespace Go.Proofs.Ytfmgodgakndjcaa
open Go.Ev Go.Sh Go.As Go.Gc
set_option maxRecDepth 100000
end Go.Proofs.Ytfmgodgakndjcaa
namespace Go.Gc
open Go.Ev Go.Sh
/-- What a text may be. -/
inductive TX where
  | nil
  | emp
  | buf (n : Nat) (l : List Int)
deriving DecidableEq
def TX.A (j : Nat) : TX → AV
  | .nil => .nilslice
  | .emp => .slice false j 0 0 none 1
  | .buf n _ => .slice true j 0 n none 1
def TX.B : TX → Option Blk
  | .nil => none
  | .emp => none
  | .buf n l => some ⟨false, .ints .u8 (some n) l⟩
def TX.V : TX → V
  | .nil => .pl .nilslice
  | .emp => .empty
  | .buf n l => .buf true .u8 n l
def TX.n : TX → Nat
  | .buf n _ => n
  | _ => 0
def TX.l : TX → List Int
  | .buf _ l => l
  | _ => []
def pTX (j : Nat) (a : AV) (b : Option Blk) : Option (TX × List Bool) :=
  match a, b with
  | .nilslice, none => some (.nil, [])
  | .slice false j' 0 0 none 1, none => some (.emp, [decide (j' = j)])
  | .slice true j' 0 n none 1, some ⟨false, .ints .u8 (some m) l⟩ => some (.buf n l, [decide (j' = j), decide (m = n)])
  | _, _ => none
theorem pTX_ok {j : Nat} {a : AV} {b : Option Blk} {x : TX} {o : List Bool} (h : pTX j a b = some (x, o)) (ho : Paid o) : a = x.A j ∧ b = x.B := by
  unfold pTX at h
  split at h
  · cases h; exact ⟨rfl, rfl⟩
  · cases h
    obtain rfl := of_decide_eq_true (ho _ (List.mem_cons_self ..))
    exact ⟨rfl, rfl⟩
  · cases h
    obtain rfl := of_decide_eq_true (ho _ (List.mem_cons_self ..))
    obtain rfl := of_decide_eq_true (ho _ (List.mem_cons_of_mem _ (List.mem_cons_self ..)))
    exact ⟨rfl, rfl⟩
  · cases h
structure HaS where
  x : TX
  n : Nat
  l : List Int
  h : List Int
  r : List Int
  y : List Bool
  k : List Bool
  i : Int
def hiT (n : Nat) (i : Int) : Int := if (n : Int) < IntKind.i64.wrap (i + 16) then (n : Int) else IntKind.i64.wrap (i + 16)
def eT (n : Nat) (i : Int) : Nat := (hiT n i).toNat - i.toNat
def haY (l : List Int) (n : Nat) (k y : List Bool) (i : Int) : List Bool := timesB (xoN (ofL ((l.drop (0 + i.toNat * 1)).take (eT n i)) (eT n i)) y 128) k
/-- After j blocks of a text. -/
def absR (l : List Int) (n : Nat) (k y : List Bool) : Nat → List Bool
  | 0 => y
  | j + 1 => haY l n k (absR l n k y j) ((16 * j : Nat) : Int)
def absRW (l : List Int) (n : Nat) (k y : List Bool) : List Bool := absR l n k y ((n + 15) / 16)
structure OuS where
  x1 : TX
  x2 : TX
  h : List Int
  r : List Int
  y : List Bool
  k : List Bool
  g : List Int
  o : List Int
  i : Int
def ouA (o : List Int) (i : Int) : List Int := o.set (0 + (IntKind.i64.wrap (i.tdiv 8)).toNat * 1) (IntKind.u8.wrap (o.getD (0 + (IntKind.i64.wrap (i.tdiv 8)).toNat * 1) 0 + ishl .u8 1 (IntKind.i64.wrap (7 - i.tmod 8))))
def ouN (y : List Bool) (o : List Int) : Nat → List Int
  | 0 => o
  | i + 1 => match atI y (i : Int) with | true => ouA (ouN y o i) (i : Int) | false => ouN y o i
end Go.Gc
namespace Go.Proofs.Ytfmgodgakndjcaa
open Go.Ev Go.Sh Go.As Go.Gc
set_option maxRecDepth 100000
def hr0 : CallH := withV 65 tmRS (withV 66 xoRS (withV 64 ofRS hg3))
theorem hr0_ok : HOk Try.prog hr0 := ((hg3_ok.withV fun _ _ _ _ h ho => ofR_ok h ho).withV fun _ _ _ _ h _ => xoR_ok h).withV fun _ _ _ _ h _ => tmR_ok h
def haTs : List Nat := [1, 2, 3, 6, 7, 8, 9, 10, 11]
def haD (s : HaS) : List Bool := [decide (s.n < 9223372036854775808), decide (s.i < (s.n : Int)), decide (s.n < 9223372036854775808), decide (0 ≤ hiT s.n s.i) && decide (hiT s.n s.i ≤ (s.n : Int)), decide (0 ≤ s.i) && decide (s.i ≤ (((hiT s.n s.i).toNat : Nat) : Int)), decide (0 + s.i.toNat * 1 + eT s.n s.i ≤ s.n), decide (eT s.n s.i ≤ 16)]
theorem haD_paid {x : TX} {n : Nat} {l h r : List Int} {y k : List Bool} {j : Nat} (hn : n < 1000000000) (hj : 16 * j < n) : Paid (haD ⟨x, n, l, h, r, y, k, ((16 * j : Nat) : Int)⟩) := by
  have hw : IntKind.i64.wrap (((16 * j : Nat) : Int) + 16) = ((16 * j : Nat) : Int) + 16 := by unfold IntKind.wrap; simp [IntKind.bits, IntKind.signed]; omega
  have hh : hiT n ((16 * j : Nat) : Int) = if (n : Int) < ((16 * j : Nat) : Int) + 16 then (n : Int) else ((16 * j : Nat) : Int) + 16 := by unfold hiT; rw [hw]
  unfold haD eT
  simp only [hh]
  split
  · exact paid_cons (decide_eq_true (by omega)) (paid_cons (decide_eq_true (by omega)) (paid_cons (decide_eq_true (by omega)) (paid_cons (by simp only [Bool.and_eq_true, decide_eq_true_eq]; omega) (paid_cons (by simp only [Bool.and_eq_true, decide_eq_true_eq]; omega) (paid_cons (decide_eq_true (by omega)) (paid_cons (decide_eq_true (by omega)) Paid.nil))))))
  · exact paid_cons (decide_eq_true (by omega)) (paid_cons (decide_eq_true (by omega)) (paid_cons (decide_eq_true (by omega)) (paid_cons (by simp only [Bool.and_eq_true, decide_eq_true_eq]; omega) (paid_cons (by simp only [Bool.and_eq_true, decide_eq_true_eq]; omega) (paid_cons (decide_eq_true (by omega)) (paid_cons (decide_eq_true (by omega)) Paid.nil))))))
def haV1 (s : HaS) : List AV := [.slice true 1 0 s.n none 1, s.x.A 2, .ptr false 3 0, .ptr false 4 0, .ptr false 5 0, .ptr false 6 0, .ptr false 7 0, .int false .i64 0, .int true .i64 s.i]
def haM1 (s : HaS) : Mem := [none, some ⟨false, .ints .u8 (some s.n) s.l⟩, s.x.B, some ⟨true, .ints .u8 (some 16) s.h⟩, some ⟨true, .ints .u8 (some 16) s.r⟩, some ⟨true, .bools 128 s.y⟩, some ⟨true, .bools 128 s.k⟩, some ⟨true, .vals [.slice true 1 0 s.n none 1, s.x.A 2]⟩]
theorem haM1_len (s : HaS) : (haM1 s).length = 8 := rfl
def haP1 : List AV → Mem → Option (HaS × List Bool)
  | [.slice true 1 0 n none 1, a, .ptr false 3 0, .ptr false 4 0, .ptr false 5 0, .ptr false 6 0, .ptr false 7 0, .int false .i64 0, .int false .i64 i], [none, some ⟨false, .ints .u8 (some m) l⟩, b, some ⟨true, .ints .u8 (some 16) h⟩, some ⟨true, .ints .u8 (some 16) r⟩, some ⟨true, .bools 128 y⟩, some ⟨true, .bools 128 k⟩, some ⟨true, .vals [.slice true 1 0 n2 none 1, a2]⟩] =>
    match pTX 2 a b, pTX 2 a2 b with
    | some (x, o1), some (x2, o2) => some (⟨x, n, l, h, r, y, k, i⟩, [decide (i = 0), decide (m = n), decide (n2 = n), decide (x2 = x)] ++ o1 ++ o2)
    | _, _ => none
  | _, _ => none
def haO1 (p : HaS × List Bool) : List Bool := decide (p.1.n < 1000000000) :: p.2
def haF1 (p : HaS × List Bool) : List (Nat × AV) × Mem := (zipU [1, 2, 3, 6, 7, 8, 9, 10] (haV1 p.1), haM1 { p.1 with y := absRW p.1.l p.1.n p.1.k p.1.y })
def haΛ1 (Λ : LoopH) : LoopH := famH 2 100 haTs haP1 haO1 haF1 Λ
theorem ha1_t (w : Nat → AV) (s : HaS) : seesL haTs ((codeL Try.prog qP (deep Try.prog qP hr0 100 3) (fun _ _ => none) 100 (lp (blk 2 (bodyOf Try.prog 44))) ⟨tmOf (ups w (zipU haTs (haV1 s))) 100, haM1 s⟩).go [true]) =
    some (haD s, 0, haV1 { s with i := IntKind.i64.wrap (s.i + 16), y := haY s.l s.n s.k s.y s.i }, 100, haM1 { s with i := IntKind.i64.wrap (s.i + 16), y := haY s.l s.n s.k s.y s.i }) := by
  obtain ⟨x, n, l, h, r, y, k, i⟩ := s
  cases x <;> kernel_rfl
theorem ha1_f (w : Nat → AV) (s : HaS) : seesL haTs ((codeL Try.prog qP (deep Try.prog qP hr0 100 3) (fun _ _ => none) 100 (lp (blk 2 (bodyOf Try.prog 44))) ⟨tmOf (ups w (zipU haTs (haV1 s))) 100, haM1 s⟩).go [false]) =
    some ([decide (s.n < 9223372036854775808), !decide (s.i < (s.n : Int))], 4, haV1 s, 100, haM1 s) := by
  obtain ⟨x, n, l, h, r, y, k, i⟩ := s
  cases x <;> kernel_rfl
theorem ha1_lok {Λ : LoopH} (hΛ : LOk Try.prog (bodyOf Try.prog 44) Λ) : LOk Try.prog (bodyOf Try.prog 44) (haΛ1 Λ) := by
  refine fam_ok (q := qP) (n := 100) (fun p : HaS × List Bool => haV1 p.1) (fun p => haM1 p.1) (fun p s => ∃ j : Nat, j ≤ (p.1.n + 15) / 16 ∧ p.1.n < 1000000000 ∧ s.1 = { p.1 with y := absR p.1.l p.1.n p.1.k p.1.y j, i := ((16 * j : Nat) : Int) }) (fun s => s.1.n + 15 - s.1.i.toNat) mixed (hr0_ok.deep (q := qP) mixed noCount 100 3) hΛ LOk.none (by kernel_rfl) (by kernel_rfl) (fun s => by obtain ⟨⟨x, n, l, h, r, y, k, i⟩, b⟩ := s; cases x <;> rfl) (fun s => by obtain ⟨⟨x, n, l, h, r, y, k, i⟩, b⟩ := s; cases x <;> rfl) (fun avs m p h ho => ?_) (fun p s hJ w => ?_)
  · unfold haP1 at h
    split at h
    · split at h
      · rename_i x o1 x2 o2 g1 g2
        cases h
        have p0 := of_decide_eq_true (ho _ (List.mem_cons_self ..))
        have ho' := fun b hb => ho b (List.mem_cons_of_mem _ hb)
        obtain ⟨ho1, q2⟩ := paid_append.1 ho'
        obtain ⟨ho2, q1⟩ := paid_append.1 ho1
        have p1 := of_decide_eq_true (ho2 _ (List.mem_cons_self ..))
        have p2 := of_decide_eq_true (ho2 _ (List.mem_cons_of_mem _ (List.mem_cons_self ..)))
        have p3 := of_decide_eq_true (ho2 _ (List.mem_cons_of_mem _ (List.mem_cons_of_mem _ (List.mem_cons_self ..))))
        have p4 := of_decide_eq_true (ho2 _ (List.mem_cons_of_mem _ (List.mem_cons_of_mem _ (List.mem_cons_of_mem _ (List.mem_cons_self ..)))))
        obtain ⟨rfl, rfl⟩ := pTX_ok g1 q1
        obtain ⟨rfl, -⟩ := pTX_ok g2 q2
        simp only at p0
        subst p1 p2 p3 p4
        exact ⟨(_, []), .cons (.refl _) (.cons (.refl _) (.cons (.refl _) (.cons (.refl _) (.cons (.refl _) (.cons (.refl _) (.cons (.refl _) (.cons (.refl _) (.cons (.int _ _ _) .nil)))))))), rfl, 0, Nat.zero_le _, p0, rfl⟩
      · cases h
    · cases h
  · obtain ⟨j, h1, h2, hs⟩ := hJ
    obtain ⟨⟨x, n, l, h, r, y, k, i⟩, b⟩ := p
    obtain ⟨s, b'⟩ := s
    simp only at h1 h2 hs
    subst hs
    by_cases hend : j = (n + 15) / 16
    · have d1 : decide (n < 9223372036854775808) = true := decide_eq_true (by omega)
      have d2 : (!decide (((16 * j : Nat) : Int) < (n : Int))) = true := by simp only [Bool.not_eq_true', decide_eq_false_iff_not]; omega
      have hy : absR l n k y j = absRW l n k y := by unfold absRW; rw [← hend]
      refine Round.out (ha1_f w _) rfl (by simp only [haF1, haM1, hy]) (paid_cons d1 (paid_cons d2 Paid.nil)) fun q hq => ?_
      simp only [haF1, haV1, zipU, List.mem_cons, List.not_mem_nil, or_false] at hq
      rcases hq with rfl | rfl | rfl | rfl | rfl | rfl | rfl | rfl
      all_goals exact ⟨_, by simp [haTs, haV1, zipU], Le1.refl _⟩
    · have hw : IntKind.i64.wrap (((16 * j : Nat) : Int) + 16) = ((16 * (j + 1) : Nat) : Int) := by unfold IntKind.wrap; simp [IntKind.bits, IntKind.signed]; omega
      have hlt : 16 * j < n := by omega
      have hD : Paid (haD ⟨x, n, l, h, r, absR l n k y j, k, ((16 * j : Nat) : Int)⟩) := haD_paid h2 hlt
      refine Round.on (ha1_t w ⟨x, n, l, h, r, absR l n k y j, k, ((16 * j : Nat) : Int)⟩) (⟨x, n, l, h, r, absR l n k y (j + 1), k, ((16 * (j + 1) : Nat) : Int)⟩, b') [] ?_ hD ?_ ?_ ((haM1_len _).trans (haM1_len _).symm) (by simp only; omega)
      · rw [List.append_nil]
        rfl
      · simp only [hw]; exact LeL.refl _
      · have e1 : j + 1 ≤ (n + 15) / 16 := by omega
        exact Exists.intro (j + 1) (And.intro e1 (And.intro h2 rfl))
def haV2 (s : HaS) : List AV := [s.x.A 1, .slice true 2 0 s.n none 1, .ptr false 3 0, .ptr false 4 0, .ptr false 5 0, .ptr false 6 0, .ptr false 7 0, .int false .i64 1, .int true .i64 s.i]
def haM2 (s : HaS) : Mem := [none, s.x.B, some ⟨false, .ints .u8 (some s.n) s.l⟩, some ⟨true, .ints .u8 (some 16) s.h⟩, some ⟨true, .ints .u8 (some 16) s.r⟩, some ⟨true, .bools 128 s.y⟩, some ⟨true, .bools 128 s.k⟩, some ⟨true, .vals [s.x.A 1, .slice true 2 0 s.n none 1]⟩]
theorem haM2_len (s : HaS) : (haM2 s).length = 8 := rfl
def haP2 : List AV → Mem → Option (HaS × List Bool)
  | [a, .slice true 2 0 n none 1, .ptr false 3 0, .ptr false 4 0, .ptr false 5 0, .ptr false 6 0, .ptr false 7 0, .int false .i64 1, .int false .i64 i], [none, b, some ⟨false, .ints .u8 (some m) l⟩, some ⟨true, .ints .u8 (some 16) h⟩, some ⟨true, .ints .u8 (some 16) r⟩, some ⟨true, .bools 128 y⟩, some ⟨true, .bools 128 k⟩, some ⟨true, .vals [a2, .slice true 2 0 n2 none 1]⟩] =>
    match pTX 1 a b, pTX 1 a2 b with
    | some (x, o1), some (x2, o2) => some (⟨x, n, l, h, r, y, k, i⟩, [decide (i = 0), decide (m = n), decide (n2 = n), decide (x2 = x)] ++ o1 ++ o2)
    | _, _ => none
  | _, _ => none
def haO2 (p : HaS × List Bool) : List Bool := decide (p.1.n < 1000000000) :: p.2
def haF2 (p : HaS × List Bool) : List (Nat × AV) × Mem := (zipU [1, 2, 3, 6, 7, 8, 9, 10] (haV2 p.1), haM2 { p.1 with y := absRW p.1.l p.1.n p.1.k p.1.y })
def haΛ2 (Λ : LoopH) : LoopH := famH 2 100 haTs haP2 haO2 haF2 Λ
theorem ha2_t (w : Nat → AV) (s : HaS) : seesL haTs ((codeL Try.prog qP (deep Try.prog qP hr0 100 3) (fun _ _ => none) 100 (lp (blk 2 (bodyOf Try.prog 44))) ⟨tmOf (ups w (zipU haTs (haV2 s))) 100, haM2 s⟩).go [true]) =
    some (haD s, 0, haV2 { s with i := IntKind.i64.wrap (s.i + 16), y := haY s.l s.n s.k s.y s.i }, 100, haM2 { s with i := IntKind.i64.wrap (s.i + 16), y := haY s.l s.n s.k s.y s.i }) := by
  obtain ⟨x, n, l, h, r, y, k, i⟩ := s
  cases x <;> kernel_rfl
theorem ha2_f (w : Nat → AV) (s : HaS) : seesL haTs ((codeL Try.prog qP (deep Try.prog qP hr0 100 3) (fun _ _ => none) 100 (lp (blk 2 (bodyOf Try.prog 44))) ⟨tmOf (ups w (zipU haTs (haV2 s))) 100, haM2 s⟩).go [false]) =
    some ([decide (s.n < 9223372036854775808), !decide (s.i < (s.n : Int))], 4, haV2 s, 100, haM2 s) := by
  obtain ⟨x, n, l, h, r, y, k, i⟩ := s
  cases x <;> kernel_rfl
theorem ha2_lok {Λ : LoopH} (hΛ : LOk Try.prog (bodyOf Try.prog 44) Λ) : LOk Try.prog (bodyOf Try.prog 44) (haΛ2 Λ) := by
  refine fam_ok (q := qP) (n := 100) (fun p : HaS × List Bool => haV2 p.1) (fun p => haM2 p.1) (fun p s => ∃ j : Nat, j ≤ (p.1.n + 15) / 16 ∧ p.1.n < 1000000000 ∧ s.1 = { p.1 with y := absR p.1.l p.1.n p.1.k p.1.y j, i := ((16 * j : Nat) : Int) }) (fun s => s.1.n + 15 - s.1.i.toNat) mixed (hr0_ok.deep (q := qP) mixed noCount 100 3) hΛ LOk.none (by kernel_rfl) (by kernel_rfl) (fun s => by obtain ⟨⟨x, n, l, h, r, y, k, i⟩, b⟩ := s; cases x <;> rfl) (fun s => by obtain ⟨⟨x, n, l, h, r, y, k, i⟩, b⟩ := s; cases x <;> rfl) (fun avs m p h ho => ?_) (fun p s hJ w => ?_)
  · unfold haP2 at h
    split at h
    · split at h
      · rename_i x o1 x2 o2 g1 g2
        cases h
        have p0 := of_decide_eq_true (ho _ (List.mem_cons_self ..))
        have ho' := fun b hb => ho b (List.mem_cons_of_mem _ hb)
        obtain ⟨ho1, q2⟩ := paid_append.1 ho'
        obtain ⟨ho2, q1⟩ := paid_append.1 ho1
        have p1 := of_decide_eq_true (ho2 _ (List.mem_cons_self ..))
        have p2 := of_decide_eq_true (ho2 _ (List.mem_cons_of_mem _ (List.mem_cons_self ..)))
        have p3 := of_decide_eq_true (ho2 _ (List.mem_cons_of_mem _ (List.mem_cons_of_mem _ (List.mem_cons_self ..))))
        have p4 := of_decide_eq_true (ho2 _ (List.mem_cons_of_mem _ (List.mem_cons_of_mem _ (List.mem_cons_of_mem _ (List.mem_cons_self ..)))))
        obtain ⟨rfl, rfl⟩ := pTX_ok g1 q1
        obtain ⟨rfl, -⟩ := pTX_ok g2 q2
        simp only at p0
        subst p1 p2 p3 p4
        exact ⟨(_, []), .cons (.refl _) (.cons (.refl _) (.cons (.refl _) (.cons (.refl _) (.cons (.refl _) (.cons (.refl _) (.cons (.refl _) (.cons (.refl _) (.cons (.int _ _ _) .nil)))))))), rfl, 0, Nat.zero_le _, p0, rfl⟩
      · cases h
    · cases h
  · obtain ⟨j, h1, h2, hs⟩ := hJ
    obtain ⟨⟨x, n, l, h, r, y, k, i⟩, b⟩ := p
    obtain ⟨s, b'⟩ := s
    simp only at h1 h2 hs
    subst hs
    by_cases hend : j = (n + 15) / 16
    · have d1 : decide (n < 9223372036854775808) = true := decide_eq_true (by omega)
      have d2 : (!decide (((16 * j : Nat) : Int) < (n : Int))) = true := by simp only [Bool.not_eq_true', decide_eq_false_iff_not]; omega
      have hy : absR l n k y j = absRW l n k y := by unfold absRW; rw [← hend]
      refine Round.out (ha2_f w _) rfl (by simp only [haF2, haM2, hy]) (paid_cons d1 (paid_cons d2 Paid.nil)) fun q hq => ?_
      simp only [haF2, haV2, zipU, List.mem_cons, List.not_mem_nil, or_false] at hq
      rcases hq with rfl | rfl | rfl | rfl | rfl | rfl | rfl | rfl
      all_goals exact ⟨_, by simp [haTs, haV2, zipU], Le1.refl _⟩
    · have hw : IntKind.i64.wrap (((16 * j : Nat) : Int) + 16) = ((16 * (j + 1) : Nat) : Int) := by unfold IntKind.wrap; simp [IntKind.bits, IntKind.signed]; omega
      have hlt : 16 * j < n := by omega
      have hD : Paid (haD ⟨x, n, l, h, r, absR l n k y j, k, ((16 * j : Nat) : Int)⟩) := haD_paid h2 hlt
      refine Round.on (ha2_t w ⟨x, n, l, h, r, absR l n k y j, k, ((16 * j : Nat) : Int)⟩) (⟨x, n, l, h, r, absR l n k y (j + 1), k, ((16 * (j + 1) : Nat) : Int)⟩, b') [] ?_ hD ?_ ?_ ((haM2_len _).trans (haM2_len _).symm) (by simp only; omega)
      · rw [List.append_nil]
        rfl
      · simp only [hw]; exact LeL.refl _
      · have e1 : j + 1 ≤ (n + 15) / 16 := by omega
        exact Exists.intro (j + 1) (And.intro e1 (And.intro h2 rfl))
/- what is handed out -/
def ouTs : List Nat := [6, 7, 14, 15]
def ouV (s : OuS) : List AV := [.ptr false 4 0, .ptr false 5 0, .ptr false 9 0, .int true .i64 s.i]
def ouM (s : OuS) : Mem := [none, s.x1.B, s.x2.B, some ⟨true, .ints .u8 (some 16) s.h⟩, some ⟨true, .ints .u8 (some 16) s.r⟩, some ⟨true, .bools 128 s.y⟩, some ⟨true, .bools 128 s.k⟩, some ⟨true, .vals [s.x1.A 1, s.x2.A 2]⟩, some ⟨true, .ints .u8 (some 16) s.g⟩, some ⟨true, .ints .u8 (some 16) s.o⟩]
def ouP : List AV → Mem → Option (OuS × List Bool)
  | [.ptr false 4 0, .ptr false 5 0, .ptr false 9 0, .int false .i64 i], [none, b1, b2, some ⟨true, .ints .u8 (some 16) h⟩, some ⟨true, .ints .u8 (some 16) r⟩, some ⟨true, .bools 128 y⟩, some ⟨true, .bools 128 k⟩, some ⟨true, .vals [a1, a2]⟩, some ⟨true, .ints .u8 (some 16) g⟩, some ⟨true, .ints .u8 (some 16) o⟩] =>
    match pTX 1 a1 b1, pTX 2 a2 b2 with
    | some (x1, o1), some (x2, o2) => some (⟨x1, x2, h, r, y, k, g, o, i⟩, [decide (i = 0)] ++ o1 ++ o2)
    | _, _ => none
  | _, _ => none
def ouO (p : OuS × List Bool) : List Bool := p.2
def ouF (p : OuS × List Bool) : List (Nat × AV) × Mem := ([(6, .ptr false 4 0), (14, .ptr false 9 0)], ouM { p.1 with o := ouN p.1.y p.1.o 128 })
def ouΛ (Λ : LoopH) : LoopH := famH 6 100 ouTs ouP ouO ouF Λ
def ou2 (i : Int) : List Bool := [decide (0 ≤ IntKind.i64.wrap (i.tdiv 8)) && decide (IntKind.i64.wrap (i.tdiv 8) < ((16 : Nat) : Int)), decide (0 + (IntKind.i64.wrap (i.tdiv 8)).toNat * 1 + 1 ≤ 16)]
theorem ou_t (w : Nat → AV) (s : OuS) : seesL ouTs ((codeL Try.prog qP (deep Try.prog qP hr0 100 3) (fun _ _ => none) 100 (lp (blk 6 (bodyOf Try.prog 44))) ⟨tmOf (ups w (zipU ouTs (ouV s))) 100, ouM s⟩).go [true, true]) =
    some (decide (s.i < 128) :: (xoDK s.i ++ [atI s.y s.i] ++ ou2 s.i ++ [!decide (IntKind.i64.wrap (7 - s.i.tmod 8) < 0)] ++ ou2 s.i), 0, ouV { s with i := IntKind.i64.wrap (s.i + 1) }, 100, ouM { s with o := ouA s.o s.i }) := by
  obtain ⟨x1, x2, h, r, y, k, g, o, i⟩ := s
  cases x1 <;> cases x2 <;> kernel_rfl
theorem ou_u (w : Nat → AV) (s : OuS) : seesL ouTs ((codeL Try.prog qP (deep Try.prog qP hr0 100 3) (fun _ _ => none) 100 (lp (blk 6 (bodyOf Try.prog 44))) ⟨tmOf (ups w (zipU ouTs (ouV s))) 100, ouM s⟩).go [true, false]) =
    some (decide (s.i < 128) :: (xoDK s.i ++ [!atI s.y s.i]), 0, ouV { s with i := IntKind.i64.wrap (s.i + 1) }, 100, ouM s) := by
  obtain ⟨x1, x2, h, r, y, k, g, o, i⟩ := s
  cases x1 <;> cases x2 <;> kernel_rfl
theorem ou_f (w : Nat → AV) (s : OuS) : seesL ouTs ((codeL Try.prog qP (deep Try.prog qP hr0 100 3) (fun _ _ => none) 100 (lp (blk 6 (bodyOf Try.prog 44))) ⟨tmOf (ups w (zipU ouTs (ouV s))) 100, ouM s⟩).go [false]) =
    some ([!decide (s.i < 128)], 8, ouV s, 100, ouM s) := by
  obtain ⟨x1, x2, h, r, y, k, g, o, i⟩ := s
  cases x1 <;> cases x2 <;> kernel_rfl
theorem ou_lok {Λ : LoopH} (hΛ : LOk Try.prog (bodyOf Try.prog 44) Λ) : LOk Try.prog (bodyOf Try.prog 44) (ouΛ Λ) := by
  refine fam_ok (q := qP) (n := 100) (fun p : OuS × List Bool => ouV p.1) (fun p => ouM p.1) (fun p s => ∃ j : Nat, j ≤ 128 ∧ s.1 = { p.1 with o := ouN p.1.y p.1.o j, i := (j : Int) }) (fun s => 128 - s.1.i.toNat) mixed (hr0_ok.deep (q := qP) mixed noCount 100 3) hΛ LOk.none (by kernel_rfl) (by kernel_rfl) (fun s => by obtain ⟨⟨x1, x2, h, r, y, k, g, o, i⟩, b⟩ := s; cases x1 <;> cases x2 <;> rfl) (fun s => rfl) (fun avs m p h ho => ?_) (fun p s hJ w => ?_)
  · unfold ouP at h
    split at h
    · split at h
      · rename_i x1 o1 x2 o2 g1 g2
        cases h
        obtain ⟨ho1, q2⟩ := paid_append.1 ho
        obtain ⟨ho2, q1⟩ := paid_append.1 ho1
        have p1 := of_decide_eq_true (ho2 _ (List.mem_cons_self ..))
        obtain ⟨rfl, rfl⟩ := pTX_ok g1 q1
        obtain ⟨rfl, rfl⟩ := pTX_ok g2 q2
        subst p1
        exact ⟨(_, []), .cons (.refl _) (.cons (.refl _) (.cons (.refl _) (.cons (.int _ _ _) .nil))), rfl, 0, Nat.zero_le _, rfl⟩
      · cases h
    · cases h
  · obtain ⟨j, h1, hs⟩ := hJ
    obtain ⟨⟨x1, x2, h, r, y, k, g, o, i⟩, b⟩ := p
    obtain ⟨s, b'⟩ := s
    simp only at h1 hs
    subst hs
    by_cases hend : j = 128
    · subst hend
      refine Round.out (ou_f w _) rfl rfl (paid_cons (by simp) Paid.nil) fun q hq => ?_
      simp only [ouF, List.mem_cons, List.not_mem_nil, or_false] at hq
      rcases hq with rfl | rfl
      · exact ⟨_, by simp [ouTs, ouV, zipU], Le1.refl _⟩
      · exact ⟨_, by simp [ouTs, ouV, zipU], Le1.refl _⟩
    · have e8 : (j : Int).tdiv 8 = ((j / 8 : Nat) : Int) := by rw [Int.tdiv_eq_ediv_of_nonneg (by omega)]; omega
      have m8 : (j : Int).tmod 8 = ((j % 8 : Nat) : Int) := by rw [Int.tmod_eq_emod_of_nonneg (by omega)]; omega
      have w1 : IntKind.i64.wrap (((j / 8 : Nat) : Int)) = ((j / 8 : Nat) : Int) := by unfold IntKind.wrap; simp [IntKind.bits, IntKind.signed]; omega
      have w2 : IntKind.i64.wrap (7 - ((j % 8 : Nat) : Int)) = 7 - ((j % 8 : Nat) : Int) := by unfold IntKind.wrap; simp [IntKind.bits, IntKind.signed]; omega
      have p2 : Paid (ou2 (j : Int)) := by
        unfold ou2
        rw [e8, w1]
        exact paid_cons (by simp only [Bool.and_eq_true, decide_eq_true_eq]; omega) (paid_cons (decide_eq_true (by omega)) Paid.nil)
      have hd : decide ((j : Int) < 128) = true := decide_eq_true (by omega)
      cases hA : atI y (j : Int) with
      | true =>
        refine Round.on (ou_t w _) (⟨x1, x2, h, r, y, k, g, ouN y o (j + 1), ((j + 1 : Nat) : Int)⟩, b') [] ?_ (paid_cons hd (paid_append.2 ⟨paid_append.2 ⟨paid_append.2 ⟨paid_append.2 ⟨xoD_paid (by omega), paid_cons hA Paid.nil⟩, p2⟩, paid_cons (by simp only [m8, w2, Bool.not_eq_true', decide_eq_false_iff_not]; omega) Paid.nil⟩, p2⟩)) (by simp only [inc64 (show j < 100000 by omega)]; exact LeL.refl _) ⟨j + 1, by omega, rfl⟩ rfl (by simp only; omega)
        rw [List.append_nil]
        simp only [ouN, hA]
        rfl
      | false =>
        refine Round.on (ou_u w _) (⟨x1, x2, h, r, y, k, g, ouN y o (j + 1), ((j + 1 : Nat) : Int)⟩, b') [] ?_ (paid_cons hd (paid_append.2 ⟨xoD_paid (by omega), paid_cons (by rw [hA]; rfl) Paid.nil⟩)) (by simp only [inc64 (show j < 100000 by omega)]; exact LeL.refl _) ⟨j + 1, by omega, rfl⟩ rfl (by simp only; omega)
        rw [List.append_nil]
        simp only [ouN, hA]
        rfl
end Go.Proofs.Ytfmgodgakndjcaa
