/- The program's gcm: what is covered: the loop as a family, in Seal's memory and in Open's. Own work. -/
import Derived.Test.YtfmgodgakndjcaaSKGcE
set_option linter.unusedSimpArgs false
set_option linter.unusedVariables false
set_option linter.unusedSectionVars false
namespace Go.Gc
open Go.Ev Go.Sh Go.As
/-- The mask of a block. -/
def mkB (W : List Int) (r : Nat) (l : List Int) (b : Int) : List Int := encB W r (ctrB l (IntKind.u32.wrap (2 + IntKind.u32.wrap (IntKind.i64.wrap b))))
structure CvS where
  r : Bool
  W : List Int
  l : List Int
  x : TX
  k : Nat
  m : Nat
  p : List Int
  tb : List Int
  o : List Int
  ms : List Int
  i : Int
def cvx (W : List Int) (r : Nat) (l p : List Int) (j : Nat) : Int := ixor .u8 (p.getD j 0) ((mkB W r l ((j / 16 : Nat) : Int)).getD (j % 16) 0)
/-- What is handed out after j bytes. -/
def cvN (W : List Int) (r : Nat) (l p o : List Int) : Nat → List Int
  | 0 => o
  | j + 1 => (cvN W r l p o j).set j (cvx W r l p j)
def mkN (W : List Int) (r : Nat) (l mk : List Int) : Nat → List Int
  | 0 => mk
  | j + 1 => mkB W r l ((j / 16 : Nat) : Int)
theorem cvN_len (W : List Int) (r : Nat) (l p o : List Int) : ∀ j, (cvN W r l p o j).length = o.length
  | 0 => rfl
  | j + 1 => by unfold cvN; rw [List.length_set]; exact cvN_len W r l p o j
/-- A text, covered. -/
def cvL (W : List Int) (r : Nat) (l p : List Int) (n : Nat) : List Int := (List.range n).map (cvx W r l p)
theorem cvL_len (W : List Int) (r : Nat) (l p : List Int) (n : Nat) : (cvL W r l p n).length = n := by simp [cvL]
theorem cvN_eq (W : List Int) (r : Nat) (l p o : List Int) : ∀ j, j ≤ o.length → cvN W r l p o j = cvL W r l p j ++ o.drop j
  | 0, _ => rfl
  | j + 1, h => by
    unfold cvN
    rw [cvN_eq W r l p o j (by omega)]
    have hl := cvL_len W r l p j
    rw [List.set_append_right _ _ (by omega), hl, Nat.sub_self, List.drop_eq_getElem_cons (by omega), List.set_cons_zero]
    unfold cvL
    rw [List.range_succ, List.map_append, List.map_cons, List.map_nil, List.append_assoc]
    rfl
def cvD (s : CvS) (t : Bool) : List Bool := [decide (s.i < (s.k : Int)), decide (0 ≤ s.i) && decide (s.i < (s.k : Int)), decide (0 + s.i.toNat * 1 + 1 ≤ s.m), t, decide (0 ≤ s.i.tmod 16) && decide (s.i.tmod 16 < ((16 : Nat) : Int)), decide (0 + (s.i.tmod 16).toNat * 1 + 1 ≤ 16), decide (0 ≤ s.i) && decide (s.i < (s.k : Int)), decide (0 + s.i.toNat * 1 + 1 ≤ s.o.length)]
theorem cvD_paid {s : CvS} {t : Bool} (ht : t = true) {j : Nat} (hi : s.i = (j : Int)) (hj : j < s.k) (hm : s.k ≤ s.m) (ho : s.k ≤ s.o.length) : Paid (cvD s t) := by
  unfold cvD
  rw [hi]
  have e : (j : Int).tmod 16 = ((j % 16 : Nat) : Int) := by rw [Int.tmod_eq_emod_of_nonneg (by omega)]; omega
  rw [e]
  have h1 : (decide ((0 : Int) ≤ (j : Int)) && decide ((j : Int) < (s.k : Int))) = true := by rw [decide_eq_true (by omega), decide_eq_true (by omega)]; rfl
  exact paid_cons (decide_eq_true (by omega)) (paid_cons h1 (paid_cons (decide_eq_true (by omega)) (paid_cons ht (paid_cons (by rw [decide_eq_true (by omega), decide_eq_true (by omega)]; rfl) (paid_cons (decide_eq_true (by omega)) (paid_cons h1 (paid_cons (decide_eq_true (by omega)) Paid.nil)))))))
def cvU (s : CvS) (mk : List Int) : List Int := s.o.set (0 + s.i.toNat * 1) (ixor .u8 (s.p.getD (0 + s.i.toNat * 1) 0) (mk.getD (0 + (s.i.tmod 16).toNat * 1) 0))
end Go.Gc
namespace Go.Proofs.Ytfmgodgakndjcaa
open Go.Ev Go.Sh Go.As Go.Gc
set_option maxRecDepth 100000
def cvTsK : List Nat := [0, 1, 2, 8, 11, 12, 13]
def txB : Option Blk → Option TX
  | none => some .nil
  | some ⟨false, .ints .u8 (some n) l⟩ => some (.buf n l)
  | _ => none
theorem txB_ok {b : Option Blk} {x : TX} (h : txB b = some x) : b = x.B := by
  unfold txB at h
  split at h <;> cases h <;> rfl
def keyC (r : Bool) (W : List Int) : Cells := .wide [.int false .i64 (match r with | true => 14 | false => 10), .ints .u8 240 W]

def cvVSK (s : CvS) : List AV := [.ptr false 0 0, .slice false 1 0 12 none 1, .slice true 4 0 s.k none 1, .ptr false 5 0, .slice true 3 0 s.k none 1, .int true .i64 (s.k : Int), .int true .i64 s.i]
def cvMSK (s : CvS) : Mem := [some ⟨false, keyC s.r s.W⟩, some ⟨false, .ints .u8 (some 12) s.l⟩, s.x.B, some ⟨false, .ints .u8 (some s.m) s.p⟩, some ⟨true, .ints .u8 none s.o⟩, some ⟨true, .ints .u8 (some 16) s.ms⟩]
def cvPSK : List AV → Mem → Option (CvS × List Bool)
  | [.ptr false 0 0, .slice false 1 0 12 none 1, .slice true 4 0 k none 1, .ptr false 5 0, .slice true 3 0 k2 none 1, .int true .i64 k3, .int false .i64 i], [some ⟨false, kc⟩, some ⟨false, .ints .u8 (some 12) l⟩, xb, some ⟨false, .ints .u8 (some m) p⟩, some ⟨true, .ints .u8 none o⟩, some ⟨true, .ints .u8 (some 16) mk⟩] =>
    match keyOf? (.pt kc), txB xb with
    | some (r, W), some x => some (⟨r, W, l, x, k, m, p, [], o, mk, i⟩, [decide (i = 0), decide (k2 = k), decide (k3 = (k : Int)), decide (k ≤ m), decide (k ≤ o.length)])
    | _, _ => none
  | _, _ => none
def cvOSK (p : CvS × List Bool) : List Bool := decide (p.1.k < 9223372036854775807) :: p.2
def cvFSK (p : CvS × List Bool) : List (Nat × AV) × Mem := ([], cvMSK { p.1 with o := cvN p.1.W (rds p.1.r) p.1.l p.1.p p.1.o p.1.k, ms := mkN p.1.W (rds p.1.r) p.1.l p.1.ms p.1.k })
def cvΛSK (Λ : LoopH) : LoopH := famH 0 39 cvTsK cvPSK cvOSK cvFSK Λ
theorem cvS_tK (w : Nat → AV) (s : CvS) : seesL cvTsK ((codeL Try.prog qP (deep Try.prog qP he2 100 3) (fun _ _ => none) 100 (lp (blk 0 (bodyOf Try.prog 43))) ⟨tmOf (ups w (zipU cvTsK (cvVSK s))) 39, cvMSK s⟩).go [true, true]) = some (cvD s (s.i.tmod 16 == 0), 0, cvVSK { s with i := IntKind.i64.wrap (s.i + 1) }, 39, cvMSK { s with o := cvU s (mkB s.W (rds s.r) s.l (s.i.tdiv 16)), ms := mkB s.W (rds s.r) s.l (s.i.tdiv 16) }) := by
  obtain ⟨r, W, l, x, k, m, p, tb, o, mk, i⟩ := s
  cases r <;> cases x <;> kernel_rfl
theorem cvS_uK (w : Nat → AV) (s : CvS) : seesL cvTsK ((codeL Try.prog qP (deep Try.prog qP he2 100 3) (fun _ _ => none) 100 (lp (blk 0 (bodyOf Try.prog 43))) ⟨tmOf (ups w (zipU cvTsK (cvVSK s))) 39, cvMSK s⟩).go [true, false]) = some (cvD s (!(s.i.tmod 16 == 0)), 0, cvVSK { s with i := IntKind.i64.wrap (s.i + 1) }, 39, cvMSK { s with o := cvU s s.ms }) := by
  obtain ⟨r, W, l, x, k, m, p, tb, o, mk, i⟩ := s
  cases r <;> cases x <;> kernel_rfl
theorem cvS_fK (w : Nat → AV) (s : CvS) : seesL cvTsK ((codeL Try.prog qP (deep Try.prog qP he2 100 3) (fun _ _ => none) 100 (lp (blk 0 (bodyOf Try.prog 43))) ⟨tmOf (ups w (zipU cvTsK (cvVSK s))) 39, cvMSK s⟩).go [false]) = some ([!decide (s.i < (s.k : Int))], 2, cvVSK s, 39, cvMSK s) := by
  obtain ⟨r, W, l, x, k, m, p, tb, o, mk, i⟩ := s
  cases r <;> cases x <;> kernel_rfl
theorem cvS_lokK {Λ : LoopH} (hΛ : LOk Try.prog (bodyOf Try.prog 43) Λ) : LOk Try.prog (bodyOf Try.prog 43) (cvΛSK Λ) := by
  refine fam_ok (q := qP) (n := 100) (fun p : CvS × List Bool => cvVSK p.1) (fun p => cvMSK p.1) (fun p s => ∃ j : Nat, j ≤ p.1.k ∧ p.1.k < 9223372036854775807 ∧ p.1.k ≤ p.1.m ∧ p.1.k ≤ p.1.o.length ∧ s.1 = { p.1 with o := cvN p.1.W (rds p.1.r) p.1.l p.1.p p.1.o j, ms := mkN p.1.W (rds p.1.r) p.1.l p.1.ms j, i := (j : Int) }) (fun s => s.1.k - s.1.i.toNat) mixed (he2_ok.deep (q := qP) mixed noCount 100 3) hΛ LOk.none (by kernel_rfl) (by kernel_rfl) (fun s => by obtain ⟨⟨r, W, l, x, k, m, p, tb, o, mk, i⟩, b⟩ := s; cases x <;> rfl) (fun s => by obtain ⟨⟨r, W, l, x, k, m, p, tb, o, mk, i⟩, b⟩ := s; cases x <;> rfl) (fun avs mm p h ho => ?_) (fun p s hJ w => ?_)
  · unfold cvPSK at h
    split at h
    · split at h
      · rename_i r W x g1 g2
        cases h
        have p0 := of_decide_eq_true (ho _ (List.mem_cons_self ..))
        have p1 := of_decide_eq_true (ho _ (List.mem_cons_of_mem _ (List.mem_cons_self ..)))
        have p2 := of_decide_eq_true (ho _ (List.mem_cons_of_mem _ (List.mem_cons_of_mem _ (List.mem_cons_self ..))))
        have p3 := of_decide_eq_true (ho _ (List.mem_cons_of_mem _ (List.mem_cons_of_mem _ (List.mem_cons_of_mem _ (List.mem_cons_self ..)))))
        have p4 := of_decide_eq_true (ho _ (List.mem_cons_of_mem _ (List.mem_cons_of_mem _ (List.mem_cons_of_mem _ (List.mem_cons_of_mem _ (List.mem_cons_self ..))))))
        have p5 := of_decide_eq_true (ho _ (List.mem_cons_of_mem _ (List.mem_cons_of_mem _ (List.mem_cons_of_mem _ (List.mem_cons_of_mem _ (List.mem_cons_of_mem _ (List.mem_cons_self ..)))))))
        simp only at p0 p1 p2 p3 p4 p5
        have k1 := keyOf_ok g1
        injection k1 with k1
        obtain rfl := txB_ok g2
        subst p1 p2 p3 k1
        exact ⟨(_, []), .cons (.refl _) (.cons (.refl _) (.cons (.refl _) (.cons (.refl _) (.cons (.refl _) (.cons (.refl _) (.cons (.int _ _ _) .nil)))))), rfl, 0, Nat.zero_le _, p0, p4, p5, rfl⟩
      · cases h
    · cases h
  · obtain ⟨j, h1, h2, h3, h4, hs⟩ := hJ
    obtain ⟨⟨r, W, l, x, k, m, p, tb, o, mk, i⟩, b⟩ := p
    obtain ⟨s, b'⟩ := s
    simp only at h1 h2 h3 h4 hs
    subst hs
    have hl := cvN_len W (rds r) l p o j
    by_cases hend : j = k
    · subst hend
      refine Round.out (cvS_fK w _) rfl rfl (paid_cons (by simp) Paid.nil) fun q hq => ?_
      simp only [cvFSK, List.not_mem_nil] at hq
    · have hw : IntKind.i64.wrap ((j : Int) + 1) = ((j + 1 : Nat) : Int) := by unfold IntKind.wrap; simp [IntKind.bits, IntKind.signed]; omega
      have e16 : (j : Int).tmod 16 = ((j % 16 : Nat) : Int) := by rw [Int.tmod_eq_emod_of_nonneg (by omega)]; omega
      have d16 : (j : Int).tdiv 16 = ((j / 16 : Nat) : Int) := by rw [Int.tdiv_eq_ediv_of_nonneg (by omega)]; omega
      have eJ : 0 + ((j : Int)).toNat * 1 = j := by omega
      have eM : 0 + (((j % 16 : Nat) : Int)).toNat * 1 = j % 16 := by omega
      by_cases h16 : j % 16 = 0
      · refine Round.on (cvS_tK w ⟨r, W, l, x, k, m, p, tb, cvN W (rds r) l p o j, mkN W (rds r) l mk j, (j : Int)⟩) (⟨r, W, l, x, k, m, p, tb, cvN W (rds r) l p o (j + 1), mkN W (rds r) l mk (j + 1), ((j + 1 : Nat) : Int)⟩, b') [] ?_ (cvD_paid (by simp only [e16, h16]; rfl) (j := j) rfl (by simp only; omega) h3 (by simp only [hl]; exact h4)) ?_ ⟨j + 1, by simp only; omega, h2, h3, h4, rfl⟩ rfl (by simp only; omega)
        · rw [List.append_nil]
          simp only [cvU, e16, d16, eJ, eM]
          rfl
        · simp only [hw]; exact LeL.refl _
      · have hmk : mkN W (rds r) l mk j = mkB W (rds r) l ((j / 16 : Nat) : Int) := by
          obtain ⟨j', rfl⟩ : ∃ j', j = j' + 1 := ⟨j - 1, by omega⟩
          unfold mkN
          rw [show (j' + 1) / 16 = j' / 16 by omega]
        refine Round.on (cvS_uK w ⟨r, W, l, x, k, m, p, tb, cvN W (rds r) l p o j, mkN W (rds r) l mk j, (j : Int)⟩) (⟨r, W, l, x, k, m, p, tb, cvN W (rds r) l p o (j + 1), mkN W (rds r) l mk (j + 1), ((j + 1 : Nat) : Int)⟩, b') [] ?_ (cvD_paid (by simp only [e16]; simp; omega) (j := j) rfl (by simp only; omega) h3 (by simp only [hl]; exact h4)) ?_ ⟨j + 1, by simp only; omega, h2, h3, h4, rfl⟩ rfl (by simp only; omega)
        · rw [List.append_nil]
          simp only [cvU, e16, eJ, eM, hmk]
          rfl
        · simp only [hw]; exact LeL.refl _

def cvVOK (s : CvS) : List AV := [.ptr false 0 0, .slice false 1 0 12 none 1, .slice true 5 0 s.k none 1, .ptr false 6 0, .slice true 3 0 s.k none 1, .int true .i64 (s.k : Int), .int true .i64 s.i]
def cvMOK (s : CvS) : Mem := [some ⟨false, keyC s.r s.W⟩, some ⟨false, .ints .u8 (some 12) s.l⟩, s.x.B, some ⟨false, .ints .u8 (some s.m) s.p⟩, some ⟨true, .ints .u8 (some 16) s.tb⟩, some ⟨true, .ints .u8 none s.o⟩, some ⟨true, .ints .u8 (some 16) s.ms⟩]
def cvPOK : List AV → Mem → Option (CvS × List Bool)
  | [.ptr false 0 0, .slice false 1 0 12 none 1, .slice true 5 0 k none 1, .ptr false 6 0, .slice true 3 0 k2 none 1, .int true .i64 k3, .int false .i64 i], [some ⟨false, kc⟩, some ⟨false, .ints .u8 (some 12) l⟩, xb, some ⟨false, .ints .u8 (some m) p⟩, some ⟨true, .ints .u8 (some 16) tb⟩, some ⟨true, .ints .u8 none o⟩, some ⟨true, .ints .u8 (some 16) mk⟩] =>
    match keyOf? (.pt kc), txB xb with
    | some (r, W), some x => some (⟨r, W, l, x, k, m, p, tb, o, mk, i⟩, [decide (i = 0), decide (k2 = k), decide (k3 = (k : Int)), decide (k ≤ m), decide (k ≤ o.length)])
    | _, _ => none
  | _, _ => none
def cvOOK (p : CvS × List Bool) : List Bool := decide (p.1.k < 9223372036854775807) :: p.2
def cvFOK (p : CvS × List Bool) : List (Nat × AV) × Mem := ([], cvMOK { p.1 with o := cvN p.1.W (rds p.1.r) p.1.l p.1.p p.1.o p.1.k, ms := mkN p.1.W (rds p.1.r) p.1.l p.1.ms p.1.k })
def cvΛOK (Λ : LoopH) : LoopH := famH 0 39 cvTsK cvPOK cvOOK cvFOK Λ
theorem cvO_tK (w : Nat → AV) (s : CvS) : seesL cvTsK ((codeL Try.prog qP (deep Try.prog qP he2 100 3) (fun _ _ => none) 100 (lp (blk 0 (bodyOf Try.prog 43))) ⟨tmOf (ups w (zipU cvTsK (cvVOK s))) 39, cvMOK s⟩).go [true, true]) = some (cvD s (s.i.tmod 16 == 0), 0, cvVOK { s with i := IntKind.i64.wrap (s.i + 1) }, 39, cvMOK { s with o := cvU s (mkB s.W (rds s.r) s.l (s.i.tdiv 16)), ms := mkB s.W (rds s.r) s.l (s.i.tdiv 16) }) := by
  obtain ⟨r, W, l, x, k, m, p, tb, o, mk, i⟩ := s
  cases r <;> cases x <;> kernel_rfl
theorem cvO_uK (w : Nat → AV) (s : CvS) : seesL cvTsK ((codeL Try.prog qP (deep Try.prog qP he2 100 3) (fun _ _ => none) 100 (lp (blk 0 (bodyOf Try.prog 43))) ⟨tmOf (ups w (zipU cvTsK (cvVOK s))) 39, cvMOK s⟩).go [true, false]) = some (cvD s (!(s.i.tmod 16 == 0)), 0, cvVOK { s with i := IntKind.i64.wrap (s.i + 1) }, 39, cvMOK { s with o := cvU s s.ms }) := by
  obtain ⟨r, W, l, x, k, m, p, tb, o, mk, i⟩ := s
  cases r <;> cases x <;> kernel_rfl
theorem cvO_fK (w : Nat → AV) (s : CvS) : seesL cvTsK ((codeL Try.prog qP (deep Try.prog qP he2 100 3) (fun _ _ => none) 100 (lp (blk 0 (bodyOf Try.prog 43))) ⟨tmOf (ups w (zipU cvTsK (cvVOK s))) 39, cvMOK s⟩).go [false]) = some ([!decide (s.i < (s.k : Int))], 2, cvVOK s, 39, cvMOK s) := by
  obtain ⟨r, W, l, x, k, m, p, tb, o, mk, i⟩ := s
  cases r <;> cases x <;> kernel_rfl
theorem cvO_lokK {Λ : LoopH} (hΛ : LOk Try.prog (bodyOf Try.prog 43) Λ) : LOk Try.prog (bodyOf Try.prog 43) (cvΛOK Λ) := by
  refine fam_ok (q := qP) (n := 100) (fun p : CvS × List Bool => cvVOK p.1) (fun p => cvMOK p.1) (fun p s => ∃ j : Nat, j ≤ p.1.k ∧ p.1.k < 9223372036854775807 ∧ p.1.k ≤ p.1.m ∧ p.1.k ≤ p.1.o.length ∧ s.1 = { p.1 with o := cvN p.1.W (rds p.1.r) p.1.l p.1.p p.1.o j, ms := mkN p.1.W (rds p.1.r) p.1.l p.1.ms j, i := (j : Int) }) (fun s => s.1.k - s.1.i.toNat) mixed (he2_ok.deep (q := qP) mixed noCount 100 3) hΛ LOk.none (by kernel_rfl) (by kernel_rfl) (fun s => by obtain ⟨⟨r, W, l, x, k, m, p, tb, o, mk, i⟩, b⟩ := s; cases x <;> rfl) (fun s => by obtain ⟨⟨r, W, l, x, k, m, p, tb, o, mk, i⟩, b⟩ := s; cases x <;> rfl) (fun avs mm p h ho => ?_) (fun p s hJ w => ?_)
  · unfold cvPOK at h
    split at h
    · split at h
      · rename_i r W x g1 g2
        cases h
        have p0 := of_decide_eq_true (ho _ (List.mem_cons_self ..))
        have p1 := of_decide_eq_true (ho _ (List.mem_cons_of_mem _ (List.mem_cons_self ..)))
        have p2 := of_decide_eq_true (ho _ (List.mem_cons_of_mem _ (List.mem_cons_of_mem _ (List.mem_cons_self ..))))
        have p3 := of_decide_eq_true (ho _ (List.mem_cons_of_mem _ (List.mem_cons_of_mem _ (List.mem_cons_of_mem _ (List.mem_cons_self ..)))))
        have p4 := of_decide_eq_true (ho _ (List.mem_cons_of_mem _ (List.mem_cons_of_mem _ (List.mem_cons_of_mem _ (List.mem_cons_of_mem _ (List.mem_cons_self ..))))))
        have p5 := of_decide_eq_true (ho _ (List.mem_cons_of_mem _ (List.mem_cons_of_mem _ (List.mem_cons_of_mem _ (List.mem_cons_of_mem _ (List.mem_cons_of_mem _ (List.mem_cons_self ..)))))))
        simp only at p0 p1 p2 p3 p4 p5
        have k1 := keyOf_ok g1
        injection k1 with k1
        obtain rfl := txB_ok g2
        subst p1 p2 p3 k1
        exact ⟨(_, []), .cons (.refl _) (.cons (.refl _) (.cons (.refl _) (.cons (.refl _) (.cons (.refl _) (.cons (.refl _) (.cons (.int _ _ _) .nil)))))), rfl, 0, Nat.zero_le _, p0, p4, p5, rfl⟩
      · cases h
    · cases h
  · obtain ⟨j, h1, h2, h3, h4, hs⟩ := hJ
    obtain ⟨⟨r, W, l, x, k, m, p, tb, o, mk, i⟩, b⟩ := p
    obtain ⟨s, b'⟩ := s
    simp only at h1 h2 h3 h4 hs
    subst hs
    have hl := cvN_len W (rds r) l p o j
    by_cases hend : j = k
    · subst hend
      refine Round.out (cvO_fK w _) rfl rfl (paid_cons (by simp) Paid.nil) fun q hq => ?_
      simp only [cvFOK, List.not_mem_nil] at hq
    · have hw : IntKind.i64.wrap ((j : Int) + 1) = ((j + 1 : Nat) : Int) := by unfold IntKind.wrap; simp [IntKind.bits, IntKind.signed]; omega
      have e16 : (j : Int).tmod 16 = ((j % 16 : Nat) : Int) := by rw [Int.tmod_eq_emod_of_nonneg (by omega)]; omega
      have d16 : (j : Int).tdiv 16 = ((j / 16 : Nat) : Int) := by rw [Int.tdiv_eq_ediv_of_nonneg (by omega)]; omega
      have eJ : 0 + ((j : Int)).toNat * 1 = j := by omega
      have eM : 0 + (((j % 16 : Nat) : Int)).toNat * 1 = j % 16 := by omega
      by_cases h16 : j % 16 = 0
      · refine Round.on (cvO_tK w ⟨r, W, l, x, k, m, p, tb, cvN W (rds r) l p o j, mkN W (rds r) l mk j, (j : Int)⟩) (⟨r, W, l, x, k, m, p, tb, cvN W (rds r) l p o (j + 1), mkN W (rds r) l mk (j + 1), ((j + 1 : Nat) : Int)⟩, b') [] ?_ (cvD_paid (by simp only [e16, h16]; rfl) (j := j) rfl (by simp only; omega) h3 (by simp only [hl]; exact h4)) ?_ ⟨j + 1, by simp only; omega, h2, h3, h4, rfl⟩ rfl (by simp only; omega)
        · rw [List.append_nil]
          simp only [cvU, e16, d16, eJ, eM]
          rfl
        · simp only [hw]; exact LeL.refl _
      · have hmk : mkN W (rds r) l mk j = mkB W (rds r) l ((j / 16 : Nat) : Int) := by
          obtain ⟨j', rfl⟩ : ∃ j', j = j' + 1 := ⟨j - 1, by omega⟩
          unfold mkN
          rw [show (j' + 1) / 16 = j' / 16 by omega]
        refine Round.on (cvO_uK w ⟨r, W, l, x, k, m, p, tb, cvN W (rds r) l p o j, mkN W (rds r) l mk j, (j : Int)⟩) (⟨r, W, l, x, k, m, p, tb, cvN W (rds r) l p o (j + 1), mkN W (rds r) l mk (j + 1), ((j + 1 : Nat) : Int)⟩, b') [] ?_ (cvD_paid (by simp only [e16]; simp; omega) (j := j) rfl (by simp only; omega) h3 (by simp only [hl]; exact h4)) ?_ ⟨j + 1, by simp only; omega, h2, h3, h4, rfl⟩ rfl (by simp only; omega)
        · rw [List.append_nil]
          simp only [cvU, e16, eJ, eM, hmk]
          rfl
        · simp only [hw]; exact LeL.refl _
end Go.Proofs.Ytfmgodgakndjcaa
