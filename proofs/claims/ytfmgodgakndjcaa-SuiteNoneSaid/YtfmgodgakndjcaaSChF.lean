/- The program's stream: what is covered: the loop as a family, in the memories of its three callers. Own work. -/
import Derived.Test.YtfmgodgakndjcaaSEvIn
set_option linter.unusedSimpArgs false
set_option linter.unusedVariables false
set_option linter.unusedSectionVars false
namespace Go.Ch
open Go.Ev Go.Sh
/-- Bytes that are looked at, none, or no bytes. -/
inductive TX where
  | nil
  | buf (n : Nat) (l : List Int)
def TX.B : TX → Option Blk
  | .nil => none
  | .buf n l => some ⟨false, .ints .u8 (some n) l⟩
def txB : Option Blk → Option TX
  | none => some .nil
  | some ⟨false, .ints .u8 (some n) l⟩ => some (.buf n l)
  | _ => none
theorem txB_ok {b : Option Blk} {x : TX} (h : txB b = some x) : b = x.B := by
  unfold txB at h
  split at h <;> cases h <;> rfl
/-- The mask of a block. -/
def mkB (x : List Int) (c b : Int) : List Int := blkB x (IntKind.u32.wrap (c + IntKind.u32.wrap (IntKind.i64.wrap b)))
structure CvS where
  k : List Int
  l : List Int
  a : TX
  n : Nat
  m : Nat
  p : List Int
  y : List Int
  tb : List Int
  x : List Int
  c : Int
  o : List Int
  ms : List Int
  i : Int
def cvx (x : List Int) (c : Int) (p : List Int) (j : Nat) : Int := ixor .u8 (p.getD j 0) ((mkB x c ((j / 64 : Nat) : Int)).getD (j % 64) 0)
/-- What is handed out after j bytes. -/
def cvN (x : List Int) (c : Int) (p o : List Int) : Nat → List Int
  | 0 => o
  | j + 1 => (cvN x c p o j).set j (cvx x c p j)
def mkN (x : List Int) (c : Int) (mk : List Int) : Nat → List Int
  | 0 => mk
  | j + 1 => mkB x c ((j / 64 : Nat) : Int)
theorem cvN_len (x : List Int) (c : Int) (p o : List Int) : ∀ j, (cvN x c p o j).length = o.length
  | 0 => rfl
  | j + 1 => by unfold cvN; rw [List.length_set]; exact cvN_len x c p o j
/-- A text, covered. -/
def cvL (x : List Int) (c : Int) (p : List Int) (n : Nat) : List Int := (List.range n).map (cvx x c p)
theorem cvL_len (x : List Int) (c : Int) (p : List Int) (n : Nat) : (cvL x c p n).length = n := by simp [cvL]
theorem cvN_eq (x : List Int) (c : Int) (p o : List Int) : ∀ j, j ≤ o.length → cvN x c p o j = cvL x c p j ++ o.drop j
  | 0, _ => rfl
  | j + 1, h => by
    unfold cvN
    rw [cvN_eq x c p o j (by omega)]
    have hl := cvL_len x c p j
    rw [List.set_append_right _ _ (by omega), hl, Nat.sub_self, List.drop_eq_getElem_cons (by omega), List.set_cons_zero]
    unfold cvL
    rw [List.range_succ, List.map_append, List.map_cons, List.map_nil, List.append_assoc]
    rfl
def cvD (s : CvS) (t : Bool) : List Bool := [decide (s.i < (s.n : Int)), decide (0 ≤ s.i) && decide (s.i < (s.n : Int)), decide (0 + s.i.toNat * 1 + 1 ≤ s.m), t, decide (0 ≤ s.i.tmod 64) && decide (s.i.tmod 64 < ((64 : Nat) : Int)), decide (0 + (s.i.tmod 64).toNat * 1 + 1 ≤ 64), decide (0 ≤ s.i) && decide (s.i < (s.n : Int)), decide (0 + s.i.toNat * 1 + 1 ≤ s.o.length)]
theorem cvD_paid {s : CvS} {t : Bool} (ht : t = true) {j : Nat} (hi : s.i = (j : Int)) (hj : j < s.n) (hm : s.n ≤ s.m) (ho : s.n ≤ s.o.length) : Paid (cvD s t) := by
  unfold cvD
  rw [hi]
  have e : (j : Int).tmod 64 = ((j % 64 : Nat) : Int) := by rw [Int.tmod_eq_emod_of_nonneg (by omega)]; omega
  rw [e]
  have h1 : (decide ((0 : Int) ≤ (j : Int)) && decide ((j : Int) < (s.n : Int))) = true := by rw [decide_eq_true (by omega), decide_eq_true (by omega)]; rfl
  exact paid_cons (decide_eq_true (by omega)) (paid_cons h1 (paid_cons (decide_eq_true (by omega)) (paid_cons ht (paid_cons (by rw [decide_eq_true (by omega), decide_eq_true (by omega)]; rfl) (paid_cons (decide_eq_true (by omega)) (paid_cons h1 (paid_cons (decide_eq_true (by omega)) Paid.nil)))))))
def cvU (s : CvS) (mk : List Int) : List Int := s.o.set (0 + s.i.toNat * 1) (ixor .u8 (s.p.getD (0 + s.i.toNat * 1) 0) (mk.getD (0 + (s.i.tmod 64).toNat * 1) 0))
end Go.Ch
namespace Go.Proofs.Ytfmgodgakndjcaa
open Go.Ev Go.Sh Go.Ch
set_option maxRecDepth 100000
def cvTs : List Nat := [1, 2, 4, 8, 11, 12, 13]

def cvVS (s : CvS) : List AV := [.int true .u32 s.c, .slice true 5 0 s.n none 1, .ptr false 6 0, .ptr false 7 0, .slice true 3 0 s.n none 1, .int true .i64 (s.n : Int), .int true .i64 s.i]
def cvMS (s : CvS) : Mem := [some ⟨false, .ints .u8 (some 32) s.k⟩, some ⟨false, .ints .u8 (some 12) s.l⟩, s.a.B, some ⟨false, .ints .u8 (some s.m) s.p⟩, some ⟨true, .ints .u32 (some 16) s.y⟩, some ⟨true, .ints .u8 none s.o⟩, some ⟨true, .ints .u32 (some 16) s.x⟩, some ⟨true, .ints .u8 (some 64) s.ms⟩]
def cvPS : List AV → Mem → Option (CvS × List Bool)
  | [.int _ .u32 c, .slice true 5 0 n none 1, .ptr false 6 0, .ptr false 7 0, .slice true 3 0 n2 none 1, .int true .i64 n3, .int false .i64 i], [some ⟨false, .ints .u8 (some 32) k⟩, some ⟨false, .ints .u8 (some 12) l⟩, ab, some ⟨false, .ints .u8 (some m) p⟩, some ⟨true, .ints .u32 (some 16) y⟩, some ⟨true, .ints .u8 none o⟩, some ⟨true, .ints .u32 (some 16) x⟩, some ⟨true, .ints .u8 (some 64) ms⟩] => match txB ab with
    | some a => some (⟨k, l, a, n, m, p, y, [], x, c, o, ms, i⟩, [decide (i = 0), decide (n2 = n), decide (n3 = (n : Int)), decide (n ≤ m), decide (n ≤ o.length)])
    | none => none
  | _, _ => none
def cvOS (p : CvS × List Bool) : List Bool := decide (p.1.n < 9223372036854775807) :: p.2
def cvFS (p : CvS × List Bool) : List (Nat × AV) × Mem := ([], cvMS { p.1 with o := cvN p.1.x p.1.c p.1.p p.1.o p.1.n, ms := mkN p.1.x p.1.c p.1.ms p.1.n })
def cvΛS (Λ : LoopH) : LoopH := famH 0 38 cvTs cvPS cvOS cvFS Λ
theorem cvS_t (w : Nat → AV) (s : CvS) : seesL cvTs ((codeL Try.prog qC (deep Try.prog qC hq4 100 3) (fun _ _ => none) 100 (lp (blk 0 (bodyOf Try.prog 49))) ⟨tmOf (ups w (zipU cvTs (cvVS s))) 38, cvMS s⟩).go [true, true]) = some (cvD s (s.i.tmod 64 == 0), 0, cvVS { s with i := IntKind.i64.wrap (s.i + 1) }, 38, cvMS { s with o := cvU s (mkB s.x s.c (s.i.tdiv 64)), ms := mkB s.x s.c (s.i.tdiv 64) }) := by
  obtain ⟨k, l, a, n, m, p, y, tb, x, c, o, ms, i⟩ := s
  cases a <;> kernel_rfl
theorem cvS_u (w : Nat → AV) (s : CvS) : seesL cvTs ((codeL Try.prog qC (deep Try.prog qC hq4 100 3) (fun _ _ => none) 100 (lp (blk 0 (bodyOf Try.prog 49))) ⟨tmOf (ups w (zipU cvTs (cvVS s))) 38, cvMS s⟩).go [true, false]) = some (cvD s (!(s.i.tmod 64 == 0)), 0, cvVS { s with i := IntKind.i64.wrap (s.i + 1) }, 38, cvMS { s with o := cvU s s.ms }) := by
  obtain ⟨k, l, a, n, m, p, y, tb, x, c, o, ms, i⟩ := s
  cases a <;> kernel_rfl
theorem cvS_f (w : Nat → AV) (s : CvS) : seesL cvTs ((codeL Try.prog qC (deep Try.prog qC hq4 100 3) (fun _ _ => none) 100 (lp (blk 0 (bodyOf Try.prog 49))) ⟨tmOf (ups w (zipU cvTs (cvVS s))) 38, cvMS s⟩).go [false]) = some ([!decide (s.i < (s.n : Int))], 2, cvVS s, 38, cvMS s) := by
  obtain ⟨k, l, a, n, m, p, y, tb, x, c, o, ms, i⟩ := s
  cases a <;> kernel_rfl
theorem cvS_lok {Λ : LoopH} (hΛ : LOk Try.prog (bodyOf Try.prog 49) Λ) : LOk Try.prog (bodyOf Try.prog 49) (cvΛS Λ) := by
  refine fam_ok (q := qC) (n := 100) (fun p : CvS × List Bool => cvVS p.1) (fun p => cvMS p.1) (fun p s => ∃ j : Nat, j ≤ p.1.n ∧ p.1.n < 9223372036854775807 ∧ p.1.n ≤ p.1.m ∧ p.1.n ≤ p.1.o.length ∧ s.1 = { p.1 with o := cvN p.1.x p.1.c p.1.p p.1.o j, ms := mkN p.1.x p.1.c p.1.ms j, i := (j : Int) }) (fun s => s.1.n - s.1.i.toNat) mixed (hq4_ok.deep (q := qC) mixed noCount 100 3) hΛ LOk.none (by kernel_rfl) (by kernel_rfl) (fun s => by obtain ⟨⟨k, l, a, n, m, p, y, tb, x, c, o, ms, i⟩, b⟩ := s; cases a <;> rfl) (fun s => by obtain ⟨⟨k, l, a, n, m, p, y, tb, x, c, o, ms, i⟩, b⟩ := s; cases a <;> rfl) (fun avs mm p h ho => ?_) (fun p s hJ w => ?_)
  · unfold cvPS at h
    split at h
    · split at h
      · rename_i a g1
        cases h
        have p0 := of_decide_eq_true (ho _ (List.mem_cons_self ..))
        have p1 := of_decide_eq_true (ho _ (List.mem_cons_of_mem _ (List.mem_cons_self ..)))
        have p2 := of_decide_eq_true (ho _ (List.mem_cons_of_mem _ (List.mem_cons_of_mem _ (List.mem_cons_self ..))))
        have p3 := of_decide_eq_true (ho _ (List.mem_cons_of_mem _ (List.mem_cons_of_mem _ (List.mem_cons_of_mem _ (List.mem_cons_self ..)))))
        have p4 := of_decide_eq_true (ho _ (List.mem_cons_of_mem _ (List.mem_cons_of_mem _ (List.mem_cons_of_mem _ (List.mem_cons_of_mem _ (List.mem_cons_self ..))))))
        have p5 := of_decide_eq_true (ho _ (List.mem_cons_of_mem _ (List.mem_cons_of_mem _ (List.mem_cons_of_mem _ (List.mem_cons_of_mem _ (List.mem_cons_of_mem _ (List.mem_cons_self ..)))))))
        simp only at p0 p1 p2 p3 p4 p5
        obtain rfl := txB_ok g1
        subst p1 p2 p3
        exact ⟨(_, []), .cons (.int _ _ _) (.cons (.refl _) (.cons (.refl _) (.cons (.refl _) (.cons (.refl _) (.cons (.refl _) (.cons (.int _ _ _) .nil)))))), rfl, 0, Nat.zero_le _, p0, p4, p5, rfl⟩
      · cases h
    · cases h
  · obtain ⟨j, h1, h2, h3, h4, hs⟩ := hJ
    obtain ⟨⟨k, l, a, n, m, p, y, tb, x, c, o, ms, i⟩, b⟩ := p
    obtain ⟨s, b'⟩ := s
    simp only at h1 h2 h3 h4 hs
    subst hs
    have hl := cvN_len x c p o j
    by_cases hend : j = n
    · subst hend
      refine Round.out (cvS_f w _) rfl rfl (paid_cons (by simp) Paid.nil) fun q hq => ?_
      simp only [cvFS, List.not_mem_nil] at hq
    · have hw : IntKind.i64.wrap ((j : Int) + 1) = ((j + 1 : Nat) : Int) := by unfold IntKind.wrap; simp [IntKind.bits, IntKind.signed]; omega
      have e16 : (j : Int).tmod 64 = ((j % 64 : Nat) : Int) := by rw [Int.tmod_eq_emod_of_nonneg (by omega)]; omega
      have d16 : (j : Int).tdiv 64 = ((j / 64 : Nat) : Int) := by rw [Int.tdiv_eq_ediv_of_nonneg (by omega)]; omega
      have eJ : 0 + ((j : Int)).toNat * 1 = j := by omega
      have eM : 0 + (((j % 64 : Nat) : Int)).toNat * 1 = j % 64 := by omega
      by_cases h16 : j % 64 = 0
      · refine Round.on (cvS_t w ⟨k, l, a, n, m, p, y, tb, x, c, cvN x c p o j, mkN x c ms j, (j : Int)⟩) (⟨k, l, a, n, m, p, y, tb, x, c, cvN x c p o (j + 1), mkN x c ms (j + 1), ((j + 1 : Nat) : Int)⟩, b') [] ?_ (cvD_paid (by simp only [e16, h16]; rfl) (j := j) rfl (by simp only; omega) h3 (by simp only [hl]; exact h4)) ?_ ⟨j + 1, by simp only; omega, h2, h3, h4, rfl⟩ rfl (by simp only; omega)
        · rw [List.append_nil]
          simp only [cvU, e16, d16, eJ, eM]
          rfl
        · simp only [hw]; exact LeL.refl _
      · have hmk : mkN x c ms j = mkB x c ((j / 64 : Nat) : Int) := by
          obtain ⟨j', rfl⟩ : ∃ j', j = j' + 1 := ⟨j - 1, by omega⟩
          unfold mkN
          rw [show (j' + 1) / 64 = j' / 64 by omega]
        refine Round.on (cvS_u w ⟨k, l, a, n, m, p, y, tb, x, c, cvN x c p o j, mkN x c ms j, (j : Int)⟩) (⟨k, l, a, n, m, p, y, tb, x, c, cvN x c p o (j + 1), mkN x c ms (j + 1), ((j + 1 : Nat) : Int)⟩, b') [] ?_ (cvD_paid (by simp only [e16]; simp; omega) (j := j) rfl (by simp only; omega) h3 (by simp only [hl]; exact h4)) ?_ ⟨j + 1, by simp only; omega, h2, h3, h4, rfl⟩ rfl (by simp only; omega)
        · rw [List.append_nil]
          simp only [cvU, e16, eJ, eM, hmk]
          rfl
        · simp only [hw]; exact LeL.refl _

def cvVO (s : CvS) : List AV := [.int true .u32 s.c, .slice true 6 0 s.n none 1, .ptr false 7 0, .ptr false 8 0, .slice true 3 0 s.n none 1, .int true .i64 (s.n : Int), .int true .i64 s.i]
def cvMO (s : CvS) : Mem := [some ⟨false, .ints .u8 (some 32) s.k⟩, some ⟨false, .ints .u8 (some 12) s.l⟩, s.a.B, some ⟨false, .ints .u8 (some s.m) s.p⟩, some ⟨true, .ints .u32 (some 16) s.y⟩, some ⟨true, .ints .u8 (some 16) s.tb⟩, some ⟨true, .ints .u8 none s.o⟩, some ⟨true, .ints .u32 (some 16) s.x⟩, some ⟨true, .ints .u8 (some 64) s.ms⟩]
def cvPO : List AV → Mem → Option (CvS × List Bool)
  | [.int _ .u32 c, .slice true 6 0 n none 1, .ptr false 7 0, .ptr false 8 0, .slice true 3 0 n2 none 1, .int true .i64 n3, .int false .i64 i], [some ⟨false, .ints .u8 (some 32) k⟩, some ⟨false, .ints .u8 (some 12) l⟩, ab, some ⟨false, .ints .u8 (some m) p⟩, some ⟨true, .ints .u32 (some 16) y⟩, some ⟨true, .ints .u8 (some 16) tb⟩, some ⟨true, .ints .u8 none o⟩, some ⟨true, .ints .u32 (some 16) x⟩, some ⟨true, .ints .u8 (some 64) ms⟩] => match txB ab with
    | some a => some (⟨k, l, a, n, m, p, y, tb, x, c, o, ms, i⟩, [decide (i = 0), decide (n2 = n), decide (n3 = (n : Int)), decide (n ≤ m), decide (n ≤ o.length)])
    | none => none
  | _, _ => none
def cvOO (p : CvS × List Bool) : List Bool := decide (p.1.n < 9223372036854775807) :: p.2
def cvFO (p : CvS × List Bool) : List (Nat × AV) × Mem := ([], cvMO { p.1 with o := cvN p.1.x p.1.c p.1.p p.1.o p.1.n, ms := mkN p.1.x p.1.c p.1.ms p.1.n })
def cvΛO (Λ : LoopH) : LoopH := famH 0 38 cvTs cvPO cvOO cvFO Λ
theorem cvO_t (w : Nat → AV) (s : CvS) : seesL cvTs ((codeL Try.prog qC (deep Try.prog qC hq4 100 3) (fun _ _ => none) 100 (lp (blk 0 (bodyOf Try.prog 49))) ⟨tmOf (ups w (zipU cvTs (cvVO s))) 38, cvMO s⟩).go [true, true]) = some (cvD s (s.i.tmod 64 == 0), 0, cvVO { s with i := IntKind.i64.wrap (s.i + 1) }, 38, cvMO { s with o := cvU s (mkB s.x s.c (s.i.tdiv 64)), ms := mkB s.x s.c (s.i.tdiv 64) }) := by
  obtain ⟨k, l, a, n, m, p, y, tb, x, c, o, ms, i⟩ := s
  cases a <;> kernel_rfl
theorem cvO_u (w : Nat → AV) (s : CvS) : seesL cvTs ((codeL Try.prog qC (deep Try.prog qC hq4 100 3) (fun _ _ => none) 100 (lp (blk 0 (bodyOf Try.prog 49))) ⟨tmOf (ups w (zipU cvTs (cvVO s))) 38, cvMO s⟩).go [true, false]) = some (cvD s (!(s.i.tmod 64 == 0)), 0, cvVO { s with i := IntKind.i64.wrap (s.i + 1) }, 38, cvMO { s with o := cvU s s.ms }) := by
  obtain ⟨k, l, a, n, m, p, y, tb, x, c, o, ms, i⟩ := s
  cases a <;> kernel_rfl
theorem cvO_f (w : Nat → AV) (s : CvS) : seesL cvTs ((codeL Try.prog qC (deep Try.prog qC hq4 100 3) (fun _ _ => none) 100 (lp (blk 0 (bodyOf Try.prog 49))) ⟨tmOf (ups w (zipU cvTs (cvVO s))) 38, cvMO s⟩).go [false]) = some ([!decide (s.i < (s.n : Int))], 2, cvVO s, 38, cvMO s) := by
  obtain ⟨k, l, a, n, m, p, y, tb, x, c, o, ms, i⟩ := s
  cases a <;> kernel_rfl
theorem cvO_lok {Λ : LoopH} (hΛ : LOk Try.prog (bodyOf Try.prog 49) Λ) : LOk Try.prog (bodyOf Try.prog 49) (cvΛO Λ) := by
  refine fam_ok (q := qC) (n := 100) (fun p : CvS × List Bool => cvVO p.1) (fun p => cvMO p.1) (fun p s => ∃ j : Nat, j ≤ p.1.n ∧ p.1.n < 9223372036854775807 ∧ p.1.n ≤ p.1.m ∧ p.1.n ≤ p.1.o.length ∧ s.1 = { p.1 with o := cvN p.1.x p.1.c p.1.p p.1.o j, ms := mkN p.1.x p.1.c p.1.ms j, i := (j : Int) }) (fun s => s.1.n - s.1.i.toNat) mixed (hq4_ok.deep (q := qC) mixed noCount 100 3) hΛ LOk.none (by kernel_rfl) (by kernel_rfl) (fun s => by obtain ⟨⟨k, l, a, n, m, p, y, tb, x, c, o, ms, i⟩, b⟩ := s; cases a <;> rfl) (fun s => by obtain ⟨⟨k, l, a, n, m, p, y, tb, x, c, o, ms, i⟩, b⟩ := s; cases a <;> rfl) (fun avs mm p h ho => ?_) (fun p s hJ w => ?_)
  · unfold cvPO at h
    split at h
    · split at h
      · rename_i a g1
        cases h
        have p0 := of_decide_eq_true (ho _ (List.mem_cons_self ..))
        have p1 := of_decide_eq_true (ho _ (List.mem_cons_of_mem _ (List.mem_cons_self ..)))
        have p2 := of_decide_eq_true (ho _ (List.mem_cons_of_mem _ (List.mem_cons_of_mem _ (List.mem_cons_self ..))))
        have p3 := of_decide_eq_true (ho _ (List.mem_cons_of_mem _ (List.mem_cons_of_mem _ (List.mem_cons_of_mem _ (List.mem_cons_self ..)))))
        have p4 := of_decide_eq_true (ho _ (List.mem_cons_of_mem _ (List.mem_cons_of_mem _ (List.mem_cons_of_mem _ (List.mem_cons_of_mem _ (List.mem_cons_self ..))))))
        have p5 := of_decide_eq_true (ho _ (List.mem_cons_of_mem _ (List.mem_cons_of_mem _ (List.mem_cons_of_mem _ (List.mem_cons_of_mem _ (List.mem_cons_of_mem _ (List.mem_cons_self ..)))))))
        simp only at p0 p1 p2 p3 p4 p5
        obtain rfl := txB_ok g1
        subst p1 p2 p3
        exact ⟨(_, []), .cons (.int _ _ _) (.cons (.refl _) (.cons (.refl _) (.cons (.refl _) (.cons (.refl _) (.cons (.refl _) (.cons (.int _ _ _) .nil)))))), rfl, 0, Nat.zero_le _, p0, p4, p5, rfl⟩
      · cases h
    · cases h
  · obtain ⟨j, h1, h2, h3, h4, hs⟩ := hJ
    obtain ⟨⟨k, l, a, n, m, p, y, tb, x, c, o, ms, i⟩, b⟩ := p
    obtain ⟨s, b'⟩ := s
    simp only at h1 h2 h3 h4 hs
    subst hs
    have hl := cvN_len x c p o j
    by_cases hend : j = n
    · subst hend
      refine Round.out (cvO_f w _) rfl rfl (paid_cons (by simp) Paid.nil) fun q hq => ?_
      simp only [cvFO, List.not_mem_nil] at hq
    · have hw : IntKind.i64.wrap ((j : Int) + 1) = ((j + 1 : Nat) : Int) := by unfold IntKind.wrap; simp [IntKind.bits, IntKind.signed]; omega
      have e16 : (j : Int).tmod 64 = ((j % 64 : Nat) : Int) := by rw [Int.tmod_eq_emod_of_nonneg (by omega)]; omega
      have d16 : (j : Int).tdiv 64 = ((j / 64 : Nat) : Int) := by rw [Int.tdiv_eq_ediv_of_nonneg (by omega)]; omega
      have eJ : 0 + ((j : Int)).toNat * 1 = j := by omega
      have eM : 0 + (((j % 64 : Nat) : Int)).toNat * 1 = j % 64 := by omega
      by_cases h16 : j % 64 = 0
      · refine Round.on (cvO_t w ⟨k, l, a, n, m, p, y, tb, x, c, cvN x c p o j, mkN x c ms j, (j : Int)⟩) (⟨k, l, a, n, m, p, y, tb, x, c, cvN x c p o (j + 1), mkN x c ms (j + 1), ((j + 1 : Nat) : Int)⟩, b') [] ?_ (cvD_paid (by simp only [e16, h16]; rfl) (j := j) rfl (by simp only; omega) h3 (by simp only [hl]; exact h4)) ?_ ⟨j + 1, by simp only; omega, h2, h3, h4, rfl⟩ rfl (by simp only; omega)
        · rw [List.append_nil]
          simp only [cvU, e16, d16, eJ, eM]
          rfl
        · simp only [hw]; exact LeL.refl _
      · have hmk : mkN x c ms j = mkB x c ((j / 64 : Nat) : Int) := by
          obtain ⟨j', rfl⟩ : ∃ j', j = j' + 1 := ⟨j - 1, by omega⟩
          unfold mkN
          rw [show (j' + 1) / 64 = j' / 64 by omega]
        refine Round.on (cvO_u w ⟨k, l, a, n, m, p, y, tb, x, c, cvN x c p o j, mkN x c ms j, (j : Int)⟩) (⟨k, l, a, n, m, p, y, tb, x, c, cvN x c p o (j + 1), mkN x c ms (j + 1), ((j + 1 : Nat) : Int)⟩, b') [] ?_ (cvD_paid (by simp only [e16]; simp; omega) (j := j) rfl (by simp only; omega) h3 (by simp only [hl]; exact h4)) ?_ ⟨j + 1, by simp only; omega, h2, h3, h4, rfl⟩ rfl (by simp only; omega)
        · rw [List.append_nil]
          simp only [cvU, e16, eJ, eM, hmk]
          rfl
        · simp only [hw]; exact LeL.refl _
end Go.Proofs.Ytfmgodgakndjcaa
