/- A law's loop over bytes: each of them is turned; a family. Own work. -/
import Derived.Test.YtclkicobnmjpoaaDoorShaI
import Derived.Test.YtclkicobnmjpoaaDoorEvLawN
namespace Go.Sh
open Go.Ev
structure OwS where
  n : Nat
  l : List Int
  d : List Int
  ws : List Int
  op : List Int
  k : Int
  x : Int
  c : Int
  i : Int
/-- The first i bytes turned. -/
def xo (d : List Int) (x : Int) : Nat → List Int
  | 0 => d
  | i + 1 => (xo d x i).set (0 + i * 1) (ixor .u8 ((xo d x i).getD (0 + i * 1) 0) x)
theorem xo_len (d : List Int) (x : Int) : ∀ i, (xo d x i).length = d.length
  | 0 => rfl
  | i + 1 => by unfold xo; rw [List.length_set]; exact xo_len d x i
end Go.Sh
namespace Go.Proofs.YtclkicobnmjpoaaDoor
open Go.Ev Go.Sh
set_option maxRecDepth 100000
def owTs : List Nat := [0, 1, 2, 7, 8, 25, 26]
def owV256 (s : OwS) : List AV := [.int false .i64 256, .slice true 1 0 s.n none 1, .int true .u8 s.x, .slice true 3 0 s.n none 1, .ptr false 4 0, .int true .i64 s.n, .int true .i64 s.i]
def owM256 (s : OwS) : Mem := [none, some ⟨false, .ints .u8 (some s.n) s.l⟩, none, some ⟨true, .ints .u8 none s.d⟩, some ⟨true, .wide [.int false .i64 256, .ints .u64 8 s.ws, .ints .u8 128 s.op, .int true .u64 s.c]⟩]
def owP256 : List AV → Mem → Option (OwS × List Bool)
  | [.int false .i64 256, .slice true 1 0 n none 1, .int true .u8 x, .slice true 3 0 n2 none 1, .ptr false 4 0, .int true .i64 m, .int _ .i64 i], [none, some ⟨false, .ints .u8 (some n3) l⟩, none, some ⟨true, .ints .u8 none d⟩, some ⟨true, .wide [.int false .i64 256, .ints .u64 8 ws, .ints .u8 128 op, .int true .u64 c]⟩] => some (⟨n, l, d, ws, op, 0, x, c, i⟩, [decide (n2 = n), decide (n3 = n), decide (m = (n : Int))])
  | _, _ => none
def owO256 (p : OwS × List Bool) : List Bool := p.2 ++ [decide (p.1.i = 0), decide (p.1.d.length = p.1.n), decide (p.1.n ≤ 1000)]
def owF256 (p : OwS × List Bool) : List (Nat × AV) × Mem := ([(0, .int false .i64 256), (1, .slice true 1 0 p.1.n none 1), (2, .int true .u8 p.1.x), (8, .ptr false 4 0)], owM256 { p.1 with d := xo p.1.d p.1.x p.1.n })
def owΛ256 : LoopH := famH 0 60 owTs owP256 owO256 owF256 fun _ _ => none
theorem ow256_t (y : Nat → AV) (s : OwS) : seesL owTs ((codeL Tryd.prog qS hS10 (fun _ _ => none) 100 (lp (blk 0 (bodyOf Tryd.prog 6))) ⟨tmOf (ups y (zipU owTs (owV256 s))) 60, owM256 s⟩).go [true]) = some ([decide (s.i < (s.n : Int)), decide (0 ≤ s.i) && decide (s.i < (s.n : Int)), decide (0 + s.i.toNat * 1 + 1 ≤ s.d.length), decide (0 ≤ s.i) && decide (s.i < (s.n : Int)), decide (0 + s.i.toNat * 1 + 1 ≤ s.d.length)], 0, owV256 { s with i := IntKind.i64.wrap (s.i + 1) }, 60, owM256 { s with d := s.d.set (0 + s.i.toNat * 1) (ixor .u8 (s.d.getD (0 + s.i.toNat * 1) 0) s.x) }) := by kernel_rfl
theorem ow256_f (y : Nat → AV) (s : OwS) : seesL owTs ((codeL Tryd.prog qS hS10 (fun _ _ => none) 100 (lp (blk 0 (bodyOf Tryd.prog 6))) ⟨tmOf (ups y (zipU owTs (owV256 s))) 60, owM256 s⟩).go [false]) = some ([!decide (s.i < (s.n : Int))], 2, owV256 s, 60, owM256 s) := by kernel_rfl
theorem ow256_lok : LOk Tryd.prog (bodyOf Tryd.prog 6) owΛ256 := by
  refine fam_ok (q := qS) (n := 100) (fun p : OwS × List Bool => owV256 p.1) (fun p => owM256 p.1) (fun p s => ∃ j : Nat, j ≤ p.1.n ∧ p.1.d.length = p.1.n ∧ p.1.n ≤ 1000 ∧ s = ({ p.1 with d := xo p.1.d p.1.x j, i := (j : Int) }, [])) (fun s => s.1.n - s.1.i.toNat) mixed hS10_ok LOk.none LOk.none (by kernel_rfl) (by kernel_rfl) (fun s => rfl) (fun s => rfl) (fun avs m p h ho => ?_) (fun p s hJ y => ?_)
  · unfold owP256 at h
    split at h
    · rename_i n x n2 m s1 i n3 l d ws op c
      cases h
      have o1 := of_decide_eq_true (ho _ (List.mem_cons_self ..))
      have o2 := of_decide_eq_true (ho _ (List.mem_cons_of_mem _ (List.mem_cons_self ..)))
      have o3 := of_decide_eq_true (ho _ (List.mem_cons_of_mem _ (List.mem_cons_of_mem _ (List.mem_cons_self ..))))
      have o4 := of_decide_eq_true (ho _ (List.mem_cons_of_mem _ (List.mem_cons_of_mem _ (List.mem_cons_of_mem _ (List.mem_cons_self ..)))))
      have o5 := of_decide_eq_true (ho _ (List.mem_cons_of_mem _ (List.mem_cons_of_mem _ (List.mem_cons_of_mem _ (List.mem_cons_of_mem _ (List.mem_cons_self ..))))))
      have o6 := of_decide_eq_true (ho _ (List.mem_cons_of_mem _ (List.mem_cons_of_mem _ (List.mem_cons_of_mem _ (List.mem_cons_of_mem _ (List.mem_cons_of_mem _ (List.mem_cons_self ..)))))))
      simp only at o4 o5 o6
      have o1 := o1.symm
      have o2 := o2.symm
      have o3 := o3.symm
      have o4 := o4.symm
      subst o1 o2 o3 o4
      exact ⟨(⟨n, l, d, ws, op, 0, x, c, 0⟩, []), .cons (.refl _) (.cons (.refl _) (.cons (.refl _) (.cons (.refl _) (.cons (.refl _) (.cons (.refl _) (.cons (.int _ _ _) .nil)))))), rfl, 0, Nat.zero_le _, o5, o6, rfl⟩
    · cases h
  · obtain ⟨j, h1, h2, h3, rfl⟩ := hJ
    obtain ⟨⟨n, l, d, ws, op, k, x, c, i⟩, bs⟩ := p
    simp only at h1 h2 h3
    by_cases hj : j = n
    · subst hj
      refine Round.out (ow256_f y _) rfl rfl (paid_cons (by simp) Paid.nil) fun q hq => ?_
      simp only [owF256, List.mem_cons, List.not_mem_nil, or_false] at hq
      rcases hq with rfl | rfl | rfl | rfl <;> exact ⟨_, by simp [owTs, owV256, zipU], Le1.refl _⟩
    · have ew : IntKind.i64.wrap ((j : Int) + 1) = ((j + 1 : Nat) : Int) := by rw [w64 (by omega)]; omega
      have hb : (decide (0 ≤ (j : Int)) && decide ((j : Int) < (n : Int))) = true := by rw [decide_eq_true (show (0 : Int) ≤ (j : Int) by omega), decide_eq_true (show (j : Int) < (n : Int) by omega)]; rfl
      have hc : decide (0 + (j : Int).toNat * 1 + 1 ≤ (xo d x j).length) = true := decide_eq_true (by rw [xo_len]; omega)
      refine Round.on (ow256_t y ⟨n, l, xo d x j, ws, op, k, x, c, j⟩) (⟨n, l, xo d x (j + 1), ws, op, k, x, c, ((j + 1 : Nat) : Int)⟩, []) [] rfl (paid_cons (decide_eq_true (by simp only; omega)) (paid_cons hb (paid_cons hc (paid_cons hb (paid_cons hc Paid.nil))))) (by simp only [ew]; exact LeL.refl _) ⟨j + 1, by simp only; omega, h2, h3, rfl⟩ rfl (by simp only; omega)
def owV384 (s : OwS) : List AV := [.int false .i64 384, .slice true 1 0 s.n none 1, .int true .u8 s.x, .slice true 3 0 s.n none 1, .ptr false 4 0, .int true .i64 s.n, .int true .i64 s.i]
def owM384 (s : OwS) : Mem := [none, some ⟨false, .ints .u8 (some s.n) s.l⟩, none, some ⟨true, .ints .u8 none s.d⟩, some ⟨true, .wide [.int false .i64 384, .ints .u64 8 s.ws, .ints .u8 128 s.op, .int true .u64 s.c]⟩]
def owP384 : List AV → Mem → Option (OwS × List Bool)
  | [.int false .i64 384, .slice true 1 0 n none 1, .int true .u8 x, .slice true 3 0 n2 none 1, .ptr false 4 0, .int true .i64 m, .int _ .i64 i], [none, some ⟨false, .ints .u8 (some n3) l⟩, none, some ⟨true, .ints .u8 none d⟩, some ⟨true, .wide [.int false .i64 384, .ints .u64 8 ws, .ints .u8 128 op, .int true .u64 c]⟩] => some (⟨n, l, d, ws, op, 0, x, c, i⟩, [decide (n2 = n), decide (n3 = n), decide (m = (n : Int))])
  | _, _ => none
def owO384 (p : OwS × List Bool) : List Bool := p.2 ++ [decide (p.1.i = 0), decide (p.1.d.length = p.1.n), decide (p.1.n ≤ 1000)]
def owF384 (p : OwS × List Bool) : List (Nat × AV) × Mem := ([(0, .int false .i64 384), (1, .slice true 1 0 p.1.n none 1), (2, .int true .u8 p.1.x), (8, .ptr false 4 0)], owM384 { p.1 with d := xo p.1.d p.1.x p.1.n })
def owΛ384 : LoopH := famH 0 60 owTs owP384 owO384 owF384 fun _ _ => none
theorem ow384_t (y : Nat → AV) (s : OwS) : seesL owTs ((codeL Tryd.prog qS hS10 (fun _ _ => none) 100 (lp (blk 0 (bodyOf Tryd.prog 6))) ⟨tmOf (ups y (zipU owTs (owV384 s))) 60, owM384 s⟩).go [true]) = some ([decide (s.i < (s.n : Int)), decide (0 ≤ s.i) && decide (s.i < (s.n : Int)), decide (0 + s.i.toNat * 1 + 1 ≤ s.d.length), decide (0 ≤ s.i) && decide (s.i < (s.n : Int)), decide (0 + s.i.toNat * 1 + 1 ≤ s.d.length)], 0, owV384 { s with i := IntKind.i64.wrap (s.i + 1) }, 60, owM384 { s with d := s.d.set (0 + s.i.toNat * 1) (ixor .u8 (s.d.getD (0 + s.i.toNat * 1) 0) s.x) }) := by kernel_rfl
theorem ow384_f (y : Nat → AV) (s : OwS) : seesL owTs ((codeL Tryd.prog qS hS10 (fun _ _ => none) 100 (lp (blk 0 (bodyOf Tryd.prog 6))) ⟨tmOf (ups y (zipU owTs (owV384 s))) 60, owM384 s⟩).go [false]) = some ([!decide (s.i < (s.n : Int))], 2, owV384 s, 60, owM384 s) := by kernel_rfl
theorem ow384_lok : LOk Tryd.prog (bodyOf Tryd.prog 6) owΛ384 := by
  refine fam_ok (q := qS) (n := 100) (fun p : OwS × List Bool => owV384 p.1) (fun p => owM384 p.1) (fun p s => ∃ j : Nat, j ≤ p.1.n ∧ p.1.d.length = p.1.n ∧ p.1.n ≤ 1000 ∧ s = ({ p.1 with d := xo p.1.d p.1.x j, i := (j : Int) }, [])) (fun s => s.1.n - s.1.i.toNat) mixed hS10_ok LOk.none LOk.none (by kernel_rfl) (by kernel_rfl) (fun s => rfl) (fun s => rfl) (fun avs m p h ho => ?_) (fun p s hJ y => ?_)
  · unfold owP384 at h
    split at h
    · rename_i n x n2 m s1 i n3 l d ws op c
      cases h
      have o1 := of_decide_eq_true (ho _ (List.mem_cons_self ..))
      have o2 := of_decide_eq_true (ho _ (List.mem_cons_of_mem _ (List.mem_cons_self ..)))
      have o3 := of_decide_eq_true (ho _ (List.mem_cons_of_mem _ (List.mem_cons_of_mem _ (List.mem_cons_self ..))))
      have o4 := of_decide_eq_true (ho _ (List.mem_cons_of_mem _ (List.mem_cons_of_mem _ (List.mem_cons_of_mem _ (List.mem_cons_self ..)))))
      have o5 := of_decide_eq_true (ho _ (List.mem_cons_of_mem _ (List.mem_cons_of_mem _ (List.mem_cons_of_mem _ (List.mem_cons_of_mem _ (List.mem_cons_self ..))))))
      have o6 := of_decide_eq_true (ho _ (List.mem_cons_of_mem _ (List.mem_cons_of_mem _ (List.mem_cons_of_mem _ (List.mem_cons_of_mem _ (List.mem_cons_of_mem _ (List.mem_cons_self ..)))))))
      simp only at o4 o5 o6
      have o1 := o1.symm
      have o2 := o2.symm
      have o3 := o3.symm
      have o4 := o4.symm
      subst o1 o2 o3 o4
      exact ⟨(⟨n, l, d, ws, op, 0, x, c, 0⟩, []), .cons (.refl _) (.cons (.refl _) (.cons (.refl _) (.cons (.refl _) (.cons (.refl _) (.cons (.refl _) (.cons (.int _ _ _) .nil)))))), rfl, 0, Nat.zero_le _, o5, o6, rfl⟩
    · cases h
  · obtain ⟨j, h1, h2, h3, rfl⟩ := hJ
    obtain ⟨⟨n, l, d, ws, op, k, x, c, i⟩, bs⟩ := p
    simp only at h1 h2 h3
    by_cases hj : j = n
    · subst hj
      refine Round.out (ow384_f y _) rfl rfl (paid_cons (by simp) Paid.nil) fun q hq => ?_
      simp only [owF384, List.mem_cons, List.not_mem_nil, or_false] at hq
      rcases hq with rfl | rfl | rfl | rfl <;> exact ⟨_, by simp [owTs, owV384, zipU], Le1.refl _⟩
    · have ew : IntKind.i64.wrap ((j : Int) + 1) = ((j + 1 : Nat) : Int) := by rw [w64 (by omega)]; omega
      have hb : (decide (0 ≤ (j : Int)) && decide ((j : Int) < (n : Int))) = true := by rw [decide_eq_true (show (0 : Int) ≤ (j : Int) by omega), decide_eq_true (show (j : Int) < (n : Int) by omega)]; rfl
      have hc : decide (0 + (j : Int).toNat * 1 + 1 ≤ (xo d x j).length) = true := decide_eq_true (by rw [xo_len]; omega)
      refine Round.on (ow384_t y ⟨n, l, xo d x j, ws, op, k, x, c, j⟩) (⟨n, l, xo d x (j + 1), ws, op, k, x, c, ((j + 1 : Nat) : Int)⟩, []) [] rfl (paid_cons (decide_eq_true (by simp only; omega)) (paid_cons hb (paid_cons hc (paid_cons hb (paid_cons hc Paid.nil))))) (by simp only [ew]; exact LeL.refl _) ⟨j + 1, by simp only; omega, h2, h3, rfl⟩ rfl (by simp only; omega)
def owV512 (s : OwS) : List AV := [.int false .i64 512, .slice true 1 0 s.n none 1, .int true .u8 s.x, .slice true 3 0 s.n none 1, .ptr false 4 0, .int true .i64 s.n, .int true .i64 s.i]
def owM512 (s : OwS) : Mem := [none, some ⟨false, .ints .u8 (some s.n) s.l⟩, none, some ⟨true, .ints .u8 none s.d⟩, some ⟨true, .wide [.int false .i64 512, .ints .u64 8 s.ws, .ints .u8 128 s.op, .int true .u64 s.c]⟩]
def owP512 : List AV → Mem → Option (OwS × List Bool)
  | [.int false .i64 512, .slice true 1 0 n none 1, .int true .u8 x, .slice true 3 0 n2 none 1, .ptr false 4 0, .int true .i64 m, .int _ .i64 i], [none, some ⟨false, .ints .u8 (some n3) l⟩, none, some ⟨true, .ints .u8 none d⟩, some ⟨true, .wide [.int false .i64 512, .ints .u64 8 ws, .ints .u8 128 op, .int true .u64 c]⟩] => some (⟨n, l, d, ws, op, 0, x, c, i⟩, [decide (n2 = n), decide (n3 = n), decide (m = (n : Int))])
  | _, _ => none
def owO512 (p : OwS × List Bool) : List Bool := p.2 ++ [decide (p.1.i = 0), decide (p.1.d.length = p.1.n), decide (p.1.n ≤ 1000)]
def owF512 (p : OwS × List Bool) : List (Nat × AV) × Mem := ([(0, .int false .i64 512), (1, .slice true 1 0 p.1.n none 1), (2, .int true .u8 p.1.x), (8, .ptr false 4 0)], owM512 { p.1 with d := xo p.1.d p.1.x p.1.n })
def owΛ512 : LoopH := famH 0 60 owTs owP512 owO512 owF512 fun _ _ => none
theorem ow512_t (y : Nat → AV) (s : OwS) : seesL owTs ((codeL Tryd.prog qS hS10 (fun _ _ => none) 100 (lp (blk 0 (bodyOf Tryd.prog 6))) ⟨tmOf (ups y (zipU owTs (owV512 s))) 60, owM512 s⟩).go [true]) = some ([decide (s.i < (s.n : Int)), decide (0 ≤ s.i) && decide (s.i < (s.n : Int)), decide (0 + s.i.toNat * 1 + 1 ≤ s.d.length), decide (0 ≤ s.i) && decide (s.i < (s.n : Int)), decide (0 + s.i.toNat * 1 + 1 ≤ s.d.length)], 0, owV512 { s with i := IntKind.i64.wrap (s.i + 1) }, 60, owM512 { s with d := s.d.set (0 + s.i.toNat * 1) (ixor .u8 (s.d.getD (0 + s.i.toNat * 1) 0) s.x) }) := by kernel_rfl
theorem ow512_f (y : Nat → AV) (s : OwS) : seesL owTs ((codeL Tryd.prog qS hS10 (fun _ _ => none) 100 (lp (blk 0 (bodyOf Tryd.prog 6))) ⟨tmOf (ups y (zipU owTs (owV512 s))) 60, owM512 s⟩).go [false]) = some ([!decide (s.i < (s.n : Int))], 2, owV512 s, 60, owM512 s) := by kernel_rfl
theorem ow512_lok : LOk Tryd.prog (bodyOf Tryd.prog 6) owΛ512 := by
  refine fam_ok (q := qS) (n := 100) (fun p : OwS × List Bool => owV512 p.1) (fun p => owM512 p.1) (fun p s => ∃ j : Nat, j ≤ p.1.n ∧ p.1.d.length = p.1.n ∧ p.1.n ≤ 1000 ∧ s = ({ p.1 with d := xo p.1.d p.1.x j, i := (j : Int) }, [])) (fun s => s.1.n - s.1.i.toNat) mixed hS10_ok LOk.none LOk.none (by kernel_rfl) (by kernel_rfl) (fun s => rfl) (fun s => rfl) (fun avs m p h ho => ?_) (fun p s hJ y => ?_)
  · unfold owP512 at h
    split at h
    · rename_i n x n2 m s1 i n3 l d ws op c
      cases h
      have o1 := of_decide_eq_true (ho _ (List.mem_cons_self ..))
      have o2 := of_decide_eq_true (ho _ (List.mem_cons_of_mem _ (List.mem_cons_self ..)))
      have o3 := of_decide_eq_true (ho _ (List.mem_cons_of_mem _ (List.mem_cons_of_mem _ (List.mem_cons_self ..))))
      have o4 := of_decide_eq_true (ho _ (List.mem_cons_of_mem _ (List.mem_cons_of_mem _ (List.mem_cons_of_mem _ (List.mem_cons_self ..)))))
      have o5 := of_decide_eq_true (ho _ (List.mem_cons_of_mem _ (List.mem_cons_of_mem _ (List.mem_cons_of_mem _ (List.mem_cons_of_mem _ (List.mem_cons_self ..))))))
      have o6 := of_decide_eq_true (ho _ (List.mem_cons_of_mem _ (List.mem_cons_of_mem _ (List.mem_cons_of_mem _ (List.mem_cons_of_mem _ (List.mem_cons_of_mem _ (List.mem_cons_self ..)))))))
      simp only at o4 o5 o6
      have o1 := o1.symm
      have o2 := o2.symm
      have o3 := o3.symm
      have o4 := o4.symm
      subst o1 o2 o3 o4
      exact ⟨(⟨n, l, d, ws, op, 0, x, c, 0⟩, []), .cons (.refl _) (.cons (.refl _) (.cons (.refl _) (.cons (.refl _) (.cons (.refl _) (.cons (.refl _) (.cons (.int _ _ _) .nil)))))), rfl, 0, Nat.zero_le _, o5, o6, rfl⟩
    · cases h
  · obtain ⟨j, h1, h2, h3, rfl⟩ := hJ
    obtain ⟨⟨n, l, d, ws, op, k, x, c, i⟩, bs⟩ := p
    simp only at h1 h2 h3
    by_cases hj : j = n
    · subst hj
      refine Round.out (ow512_f y _) rfl rfl (paid_cons (by simp) Paid.nil) fun q hq => ?_
      simp only [owF512, List.mem_cons, List.not_mem_nil, or_false] at hq
      rcases hq with rfl | rfl | rfl | rfl <;> exact ⟨_, by simp [owTs, owV512, zipU], Le1.refl _⟩
    · have ew : IntKind.i64.wrap ((j : Int) + 1) = ((j + 1 : Nat) : Int) := by rw [w64 (by omega)]; omega
      have hb : (decide (0 ≤ (j : Int)) && decide ((j : Int) < (n : Int))) = true := by rw [decide_eq_true (show (0 : Int) ≤ (j : Int) by omega), decide_eq_true (show (j : Int) < (n : Int) by omega)]; rfl
      have hc : decide (0 + (j : Int).toNat * 1 + 1 ≤ (xo d x j).length) = true := decide_eq_true (by rw [xo_len]; omega)
      refine Round.on (ow512_t y ⟨n, l, xo d x j, ws, op, k, x, c, j⟩) (⟨n, l, xo d x (j + 1), ws, op, k, x, c, ((j + 1 : Nat) : Int)⟩, []) [] rfl (paid_cons (decide_eq_true (by simp only; omega)) (paid_cons hb (paid_cons hc (paid_cons hb (paid_cons hc Paid.nil))))) (by simp only [ew]; exact LeL.refl _) ⟨j + 1, by simp only; omega, h2, h3, rfl⟩ rfl (by simp only; omega)
def owVo (s : OwS) : List AV := [.int true .i64 s.k, .slice true 1 0 s.n none 1, .int true .u8 s.x, .slice true 3 0 s.n none 1, .nilptr, .int true .i64 s.n, .int true .i64 s.i]
def owMo (s : OwS) : Mem := [none, some ⟨false, .ints .u8 (some s.n) s.l⟩, none, some ⟨true, .ints .u8 none s.d⟩]
def owPo : List AV → Mem → Option (OwS × List Bool)
  | [.int true .i64 k, .slice true 1 0 n none 1, .int true .u8 x, .slice true 3 0 n2 none 1, .nilptr, .int true .i64 m, .int _ .i64 i], [none, some ⟨false, .ints .u8 (some n3) l⟩, none, some ⟨true, .ints .u8 none d⟩] => some (⟨n, l, d, [], [], k, x, 0, i⟩, [decide (n2 = n), decide (n3 = n), decide (m = (n : Int))])
  | _, _ => none
def owOo (p : OwS × List Bool) : List Bool := p.2 ++ [decide (p.1.i = 0), decide (p.1.d.length = p.1.n), decide (p.1.n ≤ 1000)]
def owFo (p : OwS × List Bool) : List (Nat × AV) × Mem := ([(0, .int true .i64 p.1.k), (1, .slice true 1 0 p.1.n none 1), (2, .int true .u8 p.1.x), (8, .nilptr)], owMo { p.1 with d := xo p.1.d p.1.x p.1.n })
def owΛo : LoopH := famH 0 60 owTs owPo owOo owFo fun _ _ => none
theorem owo_t (y : Nat → AV) (s : OwS) : seesL owTs ((codeL Tryd.prog qS hS10 (fun _ _ => none) 100 (lp (blk 0 (bodyOf Tryd.prog 6))) ⟨tmOf (ups y (zipU owTs (owVo s))) 60, owMo s⟩).go [true]) = some ([decide (s.i < (s.n : Int)), decide (0 ≤ s.i) && decide (s.i < (s.n : Int)), decide (0 + s.i.toNat * 1 + 1 ≤ s.d.length), decide (0 ≤ s.i) && decide (s.i < (s.n : Int)), decide (0 + s.i.toNat * 1 + 1 ≤ s.d.length)], 0, owVo { s with i := IntKind.i64.wrap (s.i + 1) }, 60, owMo { s with d := s.d.set (0 + s.i.toNat * 1) (ixor .u8 (s.d.getD (0 + s.i.toNat * 1) 0) s.x) }) := by kernel_rfl
theorem owo_f (y : Nat → AV) (s : OwS) : seesL owTs ((codeL Tryd.prog qS hS10 (fun _ _ => none) 100 (lp (blk 0 (bodyOf Tryd.prog 6))) ⟨tmOf (ups y (zipU owTs (owVo s))) 60, owMo s⟩).go [false]) = some ([!decide (s.i < (s.n : Int))], 2, owVo s, 60, owMo s) := by kernel_rfl
theorem owo_lok : LOk Tryd.prog (bodyOf Tryd.prog 6) owΛo := by
  refine fam_ok (q := qS) (n := 100) (fun p : OwS × List Bool => owVo p.1) (fun p => owMo p.1) (fun p s => ∃ j : Nat, j ≤ p.1.n ∧ p.1.d.length = p.1.n ∧ p.1.n ≤ 1000 ∧ s = ({ p.1 with d := xo p.1.d p.1.x j, i := (j : Int) }, [])) (fun s => s.1.n - s.1.i.toNat) mixed hS10_ok LOk.none LOk.none (by kernel_rfl) (by kernel_rfl) (fun s => rfl) (fun s => rfl) (fun avs m p h ho => ?_) (fun p s hJ y => ?_)
  · unfold owPo at h
    split at h
    · rename_i k n x n2 m s1 i n3 l d
      cases h
      have o1 := of_decide_eq_true (ho _ (List.mem_cons_self ..))
      have o2 := of_decide_eq_true (ho _ (List.mem_cons_of_mem _ (List.mem_cons_self ..)))
      have o3 := of_decide_eq_true (ho _ (List.mem_cons_of_mem _ (List.mem_cons_of_mem _ (List.mem_cons_self ..))))
      have o4 := of_decide_eq_true (ho _ (List.mem_cons_of_mem _ (List.mem_cons_of_mem _ (List.mem_cons_of_mem _ (List.mem_cons_self ..)))))
      have o5 := of_decide_eq_true (ho _ (List.mem_cons_of_mem _ (List.mem_cons_of_mem _ (List.mem_cons_of_mem _ (List.mem_cons_of_mem _ (List.mem_cons_self ..))))))
      have o6 := of_decide_eq_true (ho _ (List.mem_cons_of_mem _ (List.mem_cons_of_mem _ (List.mem_cons_of_mem _ (List.mem_cons_of_mem _ (List.mem_cons_of_mem _ (List.mem_cons_self ..)))))))
      simp only at o4 o5 o6
      have o1 := o1.symm
      have o2 := o2.symm
      have o3 := o3.symm
      have o4 := o4.symm
      subst o1 o2 o3 o4
      exact ⟨(⟨n, l, d, [], [], k, x, 0, 0⟩, []), .cons (.refl _) (.cons (.refl _) (.cons (.refl _) (.cons (.refl _) (.cons (.refl _) (.cons (.refl _) (.cons (.int _ _ _) .nil)))))), rfl, 0, Nat.zero_le _, o5, o6, rfl⟩
    · cases h
  · obtain ⟨j, h1, h2, h3, rfl⟩ := hJ
    obtain ⟨⟨n, l, d, ws, op, k, x, c, i⟩, bs⟩ := p
    simp only at h1 h2 h3
    by_cases hj : j = n
    · subst hj
      refine Round.out (owo_f y _) rfl rfl (paid_cons (by simp) Paid.nil) fun q hq => ?_
      simp only [owFo, List.mem_cons, List.not_mem_nil, or_false] at hq
      rcases hq with rfl | rfl | rfl | rfl <;> exact ⟨_, by simp [owTs, owVo, zipU], Le1.refl _⟩
    · have ew : IntKind.i64.wrap ((j : Int) + 1) = ((j + 1 : Nat) : Int) := by rw [w64 (by omega)]; omega
      have hb : (decide (0 ≤ (j : Int)) && decide ((j : Int) < (n : Int))) = true := by rw [decide_eq_true (show (0 : Int) ≤ (j : Int) by omega), decide_eq_true (show (j : Int) < (n : Int) by omega)]; rfl
      have hc : decide (0 + (j : Int).toNat * 1 + 1 ≤ (xo d x j).length) = true := decide_eq_true (by rw [xo_len]; omega)
      refine Round.on (owo_t y ⟨n, l, xo d x j, ws, op, k, x, c, j⟩) (⟨n, l, xo d x (j + 1), ws, op, k, x, c, ((j + 1 : Nat) : Int)⟩, []) [] rfl (paid_cons (decide_eq_true (by simp only; omega)) (paid_cons hb (paid_cons hc (paid_cons hb (paid_cons hc Paid.nil))))) (by simp only [ew]; exact LeL.refl _) ⟨j + 1, by simp only; omega, h2, h3, rfl⟩ rfl (by simp only; omega)
end Go.Proofs.YtclkicobnmjpoaaDoor
