/- The loop of mac's begun: a key's block, each byte turned; families. Own work. -/
import Derived.Test.YtljndahfackolaaDoorQEvTurn
set_option linter.unusedSimpArgs false
set_option linter.unusedVariables false
set_option linter.unusedSectionVars false
namespace Go.Sh
open Go.Ev
structure BgS where
  n : Nat
  l : List Int
  d : List Int
  x : Int
  i : Int
end Go.Sh
namespace Go.Proofs.YtljndahfackolaaDoor
open Go.Ev Go.Sh
set_option maxRecDepth 100000
def bgTs : List Nat := [0, 2, 7, 17, 18]
def bgV256b (s : BgS) : List AV := [.int false .i64 256, .int false .u8 s.x, .slice false 3 0 64 (some 64) 1, .int false .i64 64, .int true .i64 s.i]
def bgM256b (s : BgS) : Mem := [none, some ⟨false, .ints .u8 (some s.n) s.l⟩, none, some ⟨true, .ints .u8 (some 64) s.d⟩]
def bgP256b : List AV → Mem → Option (BgS × List Bool)
  | [.int false .i64 256, .int false .u8 x, .slice false 3 0 64 (some 64) 1, .int false .i64 64, .int _ .i64 i], [none, some ⟨false, .ints .u8 (some n) l⟩, none, some ⟨true, .ints .u8 (some 64) d⟩] => some (⟨n, l, d, x, i⟩, [])
  | _, _ => none
def bgO256b (p : BgS × List Bool) : List Bool := p.2 ++ [decide (p.1.i = 0), decide (p.1.d.length = 64)]
def bgF256b (p : BgS × List Bool) : List (Nat × AV) × Mem := ([(0, .int false .i64 256), (2, .int false .u8 p.1.x), (7, .slice false 3 0 64 (some 64) 1)], bgM256b { p.1 with d := xo p.1.d p.1.x 64 })
def bgΛ256b : LoopH := famH 0 35 bgTs bgP256b bgO256b bgF256b fun _ _ => none
theorem bg256b_t (y : Nat → AV) (s : BgS) : seesL bgTs ((codeL Tryd.prog qS hS10 (fun _ _ => none) 100 (lp (blk 0 (bodyOf Tryd.prog 35))) ⟨tmOf (ups y (zipU bgTs (bgV256b s))) 35, bgM256b s⟩).go [true]) = some ([decide (s.i < 64), decide (0 ≤ s.i) && decide (s.i < ((64 : Nat) : Int)), decide (0 + s.i.toNat * 1 + 1 ≤ 64), decide (0 ≤ s.i) && decide (s.i < ((64 : Nat) : Int)), decide (0 + s.i.toNat * 1 + 1 ≤ 64)], 0, bgV256b { s with i := IntKind.i64.wrap (s.i + 1) }, 35, bgM256b { s with d := s.d.set (0 + s.i.toNat * 1) (ixor .u8 (s.d.getD (0 + s.i.toNat * 1) 0) s.x) }) := by kernel_rfl
theorem bg256b_f (y : Nat → AV) (s : BgS) : seesL bgTs ((codeL Tryd.prog qS hS10 (fun _ _ => none) 100 (lp (blk 0 (bodyOf Tryd.prog 35))) ⟨tmOf (ups y (zipU bgTs (bgV256b s))) 35, bgM256b s⟩).go [false]) = some ([!decide (s.i < 64)], 2, bgV256b s, 35, bgM256b s) := by kernel_rfl
theorem bg256b_lok : LOk Tryd.prog (bodyOf Tryd.prog 35) bgΛ256b := by
  refine fam_ok (q := qS) (n := 100) (fun p : BgS × List Bool => bgV256b p.1) (fun p => bgM256b p.1) (fun p s => ∃ j : Nat, j ≤ 64 ∧ p.1.d.length = 64 ∧ s = ({ p.1 with d := xo p.1.d p.1.x j, i := (j : Int) }, [])) (fun s => 64 - s.1.i.toNat) mixed hS10_ok LOk.none LOk.none (by kernel_rfl) (by kernel_rfl) (fun s => rfl) (fun s => rfl) (fun avs m p h ho => ?_) (fun p s hJ y => ?_)
  · unfold bgP256b at h
    split at h
    · cases h
      have o4 := of_decide_eq_true (ho _ (List.mem_cons_self ..))
      have o5 := of_decide_eq_true (ho _ (List.mem_cons_of_mem _ (List.mem_cons_self ..)))
      simp only at o4 o5
      have o4 := o4.symm
      subst o4
      exact ⟨(⟨_, _, _, _, 0⟩, []), .cons (.refl _) (.cons (.refl _) (.cons (.refl _) (.cons (.refl _) (.cons (.int _ _ _) .nil)))), rfl, 0, Nat.zero_le _, o5, rfl⟩
    · cases h
  · obtain ⟨j, h1, h2, rfl⟩ := hJ
    obtain ⟨⟨n, l, d, x, i⟩, bs⟩ := p
    simp only at h1 h2
    by_cases hj : j = 64
    · subst hj
      refine Round.out (bg256b_f y _) rfl rfl (paid_cons (by simp) Paid.nil) fun q hq => ?_
      simp only [bgF256b, List.mem_cons, List.not_mem_nil, or_false] at hq
      rcases hq with rfl | rfl | rfl <;> exact ⟨_, by simp [bgTs, bgV256b, zipU], Le1.refl _⟩
    · have ew : IntKind.i64.wrap ((j : Int) + 1) = ((j + 1 : Nat) : Int) := by rw [w64 (by omega)]; omega
      have hb : (decide (0 ≤ (j : Int)) && decide ((j : Int) < ((64 : Nat) : Int))) = true := by rw [decide_eq_true (show (0 : Int) ≤ (j : Int) by omega), decide_eq_true (show (j : Int) < ((64 : Nat) : Int) by omega)]; rfl
      have hc : decide (0 + (j : Int).toNat * 1 + 1 ≤ 64) = true := decide_eq_true (by omega)
      refine Round.on (bg256b_t y ⟨n, l, xo d x j, x, j⟩) (⟨n, l, xo d x (j + 1), x, ((j + 1 : Nat) : Int)⟩, []) [] rfl (paid_cons (decide_eq_true (by first | omega | (simp only; omega))) (paid_cons hb (paid_cons hc (paid_cons hb (paid_cons hc Paid.nil))))) (by simp only [ew]; exact LeL.refl _) ⟨j + 1, by first | omega | (simp only; omega), h2, rfl⟩ rfl (by first | omega | (simp only; omega))
def bgV256e (s : BgS) : List AV := [.int false .i64 256, .int false .u8 s.x, .slice false 3 0 64 (some 64) 1, .int false .i64 64, .int true .i64 s.i]
def bgM256e (s : BgS) : Mem := [none, none, none, some ⟨true, .ints .u8 (some 64) s.d⟩]
def bgP256e : List AV → Mem → Option (BgS × List Bool)
  | [.int false .i64 256, .int false .u8 x, .slice false 3 0 64 (some 64) 1, .int false .i64 64, .int _ .i64 i], [none, none, none, some ⟨true, .ints .u8 (some 64) d⟩] => some (⟨0, [], d, x, i⟩, [])
  | _, _ => none
def bgO256e (p : BgS × List Bool) : List Bool := p.2 ++ [decide (p.1.i = 0), decide (p.1.d.length = 64)]
def bgF256e (p : BgS × List Bool) : List (Nat × AV) × Mem := ([(0, .int false .i64 256), (2, .int false .u8 p.1.x), (7, .slice false 3 0 64 (some 64) 1)], bgM256e { p.1 with d := xo p.1.d p.1.x 64 })
def bgΛ256e : LoopH := famH 0 35 bgTs bgP256e bgO256e bgF256e fun _ _ => none
theorem bg256e_t (y : Nat → AV) (s : BgS) : seesL bgTs ((codeL Tryd.prog qS hS10 (fun _ _ => none) 100 (lp (blk 0 (bodyOf Tryd.prog 35))) ⟨tmOf (ups y (zipU bgTs (bgV256e s))) 35, bgM256e s⟩).go [true]) = some ([decide (s.i < 64), decide (0 ≤ s.i) && decide (s.i < ((64 : Nat) : Int)), decide (0 + s.i.toNat * 1 + 1 ≤ 64), decide (0 ≤ s.i) && decide (s.i < ((64 : Nat) : Int)), decide (0 + s.i.toNat * 1 + 1 ≤ 64)], 0, bgV256e { s with i := IntKind.i64.wrap (s.i + 1) }, 35, bgM256e { s with d := s.d.set (0 + s.i.toNat * 1) (ixor .u8 (s.d.getD (0 + s.i.toNat * 1) 0) s.x) }) := by kernel_rfl
theorem bg256e_f (y : Nat → AV) (s : BgS) : seesL bgTs ((codeL Tryd.prog qS hS10 (fun _ _ => none) 100 (lp (blk 0 (bodyOf Tryd.prog 35))) ⟨tmOf (ups y (zipU bgTs (bgV256e s))) 35, bgM256e s⟩).go [false]) = some ([!decide (s.i < 64)], 2, bgV256e s, 35, bgM256e s) := by kernel_rfl
theorem bg256e_lok : LOk Tryd.prog (bodyOf Tryd.prog 35) bgΛ256e := by
  refine fam_ok (q := qS) (n := 100) (fun p : BgS × List Bool => bgV256e p.1) (fun p => bgM256e p.1) (fun p s => ∃ j : Nat, j ≤ 64 ∧ p.1.d.length = 64 ∧ s = ({ p.1 with d := xo p.1.d p.1.x j, i := (j : Int) }, [])) (fun s => 64 - s.1.i.toNat) mixed hS10_ok LOk.none LOk.none (by kernel_rfl) (by kernel_rfl) (fun s => rfl) (fun s => rfl) (fun avs m p h ho => ?_) (fun p s hJ y => ?_)
  · unfold bgP256e at h
    split at h
    · cases h
      have o4 := of_decide_eq_true (ho _ (List.mem_cons_self ..))
      have o5 := of_decide_eq_true (ho _ (List.mem_cons_of_mem _ (List.mem_cons_self ..)))
      simp only at o4 o5
      have o4 := o4.symm
      subst o4
      exact ⟨(⟨_, _, _, _, 0⟩, []), .cons (.refl _) (.cons (.refl _) (.cons (.refl _) (.cons (.refl _) (.cons (.int _ _ _) .nil)))), rfl, 0, Nat.zero_le _, o5, rfl⟩
    · cases h
  · obtain ⟨j, h1, h2, rfl⟩ := hJ
    obtain ⟨⟨n, l, d, x, i⟩, bs⟩ := p
    simp only at h1 h2
    by_cases hj : j = 64
    · subst hj
      refine Round.out (bg256e_f y _) rfl rfl (paid_cons (by simp) Paid.nil) fun q hq => ?_
      simp only [bgF256e, List.mem_cons, List.not_mem_nil, or_false] at hq
      rcases hq with rfl | rfl | rfl <;> exact ⟨_, by simp [bgTs, bgV256e, zipU], Le1.refl _⟩
    · have ew : IntKind.i64.wrap ((j : Int) + 1) = ((j + 1 : Nat) : Int) := by rw [w64 (by omega)]; omega
      have hb : (decide (0 ≤ (j : Int)) && decide ((j : Int) < ((64 : Nat) : Int))) = true := by rw [decide_eq_true (show (0 : Int) ≤ (j : Int) by omega), decide_eq_true (show (j : Int) < ((64 : Nat) : Int) by omega)]; rfl
      have hc : decide (0 + (j : Int).toNat * 1 + 1 ≤ 64) = true := decide_eq_true (by omega)
      refine Round.on (bg256e_t y ⟨n, l, xo d x j, x, j⟩) (⟨n, l, xo d x (j + 1), x, ((j + 1 : Nat) : Int)⟩, []) [] rfl (paid_cons (decide_eq_true (by first | omega | (simp only; omega))) (paid_cons hb (paid_cons hc (paid_cons hb (paid_cons hc Paid.nil))))) (by simp only [ew]; exact LeL.refl _) ⟨j + 1, by first | omega | (simp only; omega), h2, rfl⟩ rfl (by first | omega | (simp only; omega))
def bgV384b (s : BgS) : List AV := [.int false .i64 384, .int false .u8 s.x, .slice false 3 0 128 (some 128) 1, .int false .i64 128, .int true .i64 s.i]
def bgM384b (s : BgS) : Mem := [none, some ⟨false, .ints .u8 (some s.n) s.l⟩, none, some ⟨true, .ints .u8 (some 128) s.d⟩]
def bgP384b : List AV → Mem → Option (BgS × List Bool)
  | [.int false .i64 384, .int false .u8 x, .slice false 3 0 128 (some 128) 1, .int false .i64 128, .int _ .i64 i], [none, some ⟨false, .ints .u8 (some n) l⟩, none, some ⟨true, .ints .u8 (some 128) d⟩] => some (⟨n, l, d, x, i⟩, [])
  | _, _ => none
def bgO384b (p : BgS × List Bool) : List Bool := p.2 ++ [decide (p.1.i = 0), decide (p.1.d.length = 128)]
def bgF384b (p : BgS × List Bool) : List (Nat × AV) × Mem := ([(0, .int false .i64 384), (2, .int false .u8 p.1.x), (7, .slice false 3 0 128 (some 128) 1)], bgM384b { p.1 with d := xo p.1.d p.1.x 128 })
def bgΛ384b : LoopH := famH 0 35 bgTs bgP384b bgO384b bgF384b fun _ _ => none
theorem bg384b_t (y : Nat → AV) (s : BgS) : seesL bgTs ((codeL Tryd.prog qS hS10 (fun _ _ => none) 100 (lp (blk 0 (bodyOf Tryd.prog 35))) ⟨tmOf (ups y (zipU bgTs (bgV384b s))) 35, bgM384b s⟩).go [true]) = some ([decide (s.i < 128), decide (0 ≤ s.i) && decide (s.i < ((128 : Nat) : Int)), decide (0 + s.i.toNat * 1 + 1 ≤ 128), decide (0 ≤ s.i) && decide (s.i < ((128 : Nat) : Int)), decide (0 + s.i.toNat * 1 + 1 ≤ 128)], 0, bgV384b { s with i := IntKind.i64.wrap (s.i + 1) }, 35, bgM384b { s with d := s.d.set (0 + s.i.toNat * 1) (ixor .u8 (s.d.getD (0 + s.i.toNat * 1) 0) s.x) }) := by kernel_rfl
theorem bg384b_f (y : Nat → AV) (s : BgS) : seesL bgTs ((codeL Tryd.prog qS hS10 (fun _ _ => none) 100 (lp (blk 0 (bodyOf Tryd.prog 35))) ⟨tmOf (ups y (zipU bgTs (bgV384b s))) 35, bgM384b s⟩).go [false]) = some ([!decide (s.i < 128)], 2, bgV384b s, 35, bgM384b s) := by kernel_rfl
theorem bg384b_lok : LOk Tryd.prog (bodyOf Tryd.prog 35) bgΛ384b := by
  refine fam_ok (q := qS) (n := 100) (fun p : BgS × List Bool => bgV384b p.1) (fun p => bgM384b p.1) (fun p s => ∃ j : Nat, j ≤ 128 ∧ p.1.d.length = 128 ∧ s = ({ p.1 with d := xo p.1.d p.1.x j, i := (j : Int) }, [])) (fun s => 128 - s.1.i.toNat) mixed hS10_ok LOk.none LOk.none (by kernel_rfl) (by kernel_rfl) (fun s => rfl) (fun s => rfl) (fun avs m p h ho => ?_) (fun p s hJ y => ?_)
  · unfold bgP384b at h
    split at h
    · cases h
      have o4 := of_decide_eq_true (ho _ (List.mem_cons_self ..))
      have o5 := of_decide_eq_true (ho _ (List.mem_cons_of_mem _ (List.mem_cons_self ..)))
      simp only at o4 o5
      have o4 := o4.symm
      subst o4
      exact ⟨(⟨_, _, _, _, 0⟩, []), .cons (.refl _) (.cons (.refl _) (.cons (.refl _) (.cons (.refl _) (.cons (.int _ _ _) .nil)))), rfl, 0, Nat.zero_le _, o5, rfl⟩
    · cases h
  · obtain ⟨j, h1, h2, rfl⟩ := hJ
    obtain ⟨⟨n, l, d, x, i⟩, bs⟩ := p
    simp only at h1 h2
    by_cases hj : j = 128
    · subst hj
      refine Round.out (bg384b_f y _) rfl rfl (paid_cons (by simp) Paid.nil) fun q hq => ?_
      simp only [bgF384b, List.mem_cons, List.not_mem_nil, or_false] at hq
      rcases hq with rfl | rfl | rfl <;> exact ⟨_, by simp [bgTs, bgV384b, zipU], Le1.refl _⟩
    · have ew : IntKind.i64.wrap ((j : Int) + 1) = ((j + 1 : Nat) : Int) := by rw [w64 (by omega)]; omega
      have hb : (decide (0 ≤ (j : Int)) && decide ((j : Int) < ((128 : Nat) : Int))) = true := by rw [decide_eq_true (show (0 : Int) ≤ (j : Int) by omega), decide_eq_true (show (j : Int) < ((128 : Nat) : Int) by omega)]; rfl
      have hc : decide (0 + (j : Int).toNat * 1 + 1 ≤ 128) = true := decide_eq_true (by omega)
      refine Round.on (bg384b_t y ⟨n, l, xo d x j, x, j⟩) (⟨n, l, xo d x (j + 1), x, ((j + 1 : Nat) : Int)⟩, []) [] rfl (paid_cons (decide_eq_true (by first | omega | (simp only; omega))) (paid_cons hb (paid_cons hc (paid_cons hb (paid_cons hc Paid.nil))))) (by simp only [ew]; exact LeL.refl _) ⟨j + 1, by first | omega | (simp only; omega), h2, rfl⟩ rfl (by first | omega | (simp only; omega))
def bgV384e (s : BgS) : List AV := [.int false .i64 384, .int false .u8 s.x, .slice false 3 0 128 (some 128) 1, .int false .i64 128, .int true .i64 s.i]
def bgM384e (s : BgS) : Mem := [none, none, none, some ⟨true, .ints .u8 (some 128) s.d⟩]
def bgP384e : List AV → Mem → Option (BgS × List Bool)
  | [.int false .i64 384, .int false .u8 x, .slice false 3 0 128 (some 128) 1, .int false .i64 128, .int _ .i64 i], [none, none, none, some ⟨true, .ints .u8 (some 128) d⟩] => some (⟨0, [], d, x, i⟩, [])
  | _, _ => none
def bgO384e (p : BgS × List Bool) : List Bool := p.2 ++ [decide (p.1.i = 0), decide (p.1.d.length = 128)]
def bgF384e (p : BgS × List Bool) : List (Nat × AV) × Mem := ([(0, .int false .i64 384), (2, .int false .u8 p.1.x), (7, .slice false 3 0 128 (some 128) 1)], bgM384e { p.1 with d := xo p.1.d p.1.x 128 })
def bgΛ384e : LoopH := famH 0 35 bgTs bgP384e bgO384e bgF384e fun _ _ => none
theorem bg384e_t (y : Nat → AV) (s : BgS) : seesL bgTs ((codeL Tryd.prog qS hS10 (fun _ _ => none) 100 (lp (blk 0 (bodyOf Tryd.prog 35))) ⟨tmOf (ups y (zipU bgTs (bgV384e s))) 35, bgM384e s⟩).go [true]) = some ([decide (s.i < 128), decide (0 ≤ s.i) && decide (s.i < ((128 : Nat) : Int)), decide (0 + s.i.toNat * 1 + 1 ≤ 128), decide (0 ≤ s.i) && decide (s.i < ((128 : Nat) : Int)), decide (0 + s.i.toNat * 1 + 1 ≤ 128)], 0, bgV384e { s with i := IntKind.i64.wrap (s.i + 1) }, 35, bgM384e { s with d := s.d.set (0 + s.i.toNat * 1) (ixor .u8 (s.d.getD (0 + s.i.toNat * 1) 0) s.x) }) := by kernel_rfl
theorem bg384e_f (y : Nat → AV) (s : BgS) : seesL bgTs ((codeL Tryd.prog qS hS10 (fun _ _ => none) 100 (lp (blk 0 (bodyOf Tryd.prog 35))) ⟨tmOf (ups y (zipU bgTs (bgV384e s))) 35, bgM384e s⟩).go [false]) = some ([!decide (s.i < 128)], 2, bgV384e s, 35, bgM384e s) := by kernel_rfl
theorem bg384e_lok : LOk Tryd.prog (bodyOf Tryd.prog 35) bgΛ384e := by
  refine fam_ok (q := qS) (n := 100) (fun p : BgS × List Bool => bgV384e p.1) (fun p => bgM384e p.1) (fun p s => ∃ j : Nat, j ≤ 128 ∧ p.1.d.length = 128 ∧ s = ({ p.1 with d := xo p.1.d p.1.x j, i := (j : Int) }, [])) (fun s => 128 - s.1.i.toNat) mixed hS10_ok LOk.none LOk.none (by kernel_rfl) (by kernel_rfl) (fun s => rfl) (fun s => rfl) (fun avs m p h ho => ?_) (fun p s hJ y => ?_)
  · unfold bgP384e at h
    split at h
    · cases h
      have o4 := of_decide_eq_true (ho _ (List.mem_cons_self ..))
      have o5 := of_decide_eq_true (ho _ (List.mem_cons_of_mem _ (List.mem_cons_self ..)))
      simp only at o4 o5
      have o4 := o4.symm
      subst o4
      exact ⟨(⟨_, _, _, _, 0⟩, []), .cons (.refl _) (.cons (.refl _) (.cons (.refl _) (.cons (.refl _) (.cons (.int _ _ _) .nil)))), rfl, 0, Nat.zero_le _, o5, rfl⟩
    · cases h
  · obtain ⟨j, h1, h2, rfl⟩ := hJ
    obtain ⟨⟨n, l, d, x, i⟩, bs⟩ := p
    simp only at h1 h2
    by_cases hj : j = 128
    · subst hj
      refine Round.out (bg384e_f y _) rfl rfl (paid_cons (by simp) Paid.nil) fun q hq => ?_
      simp only [bgF384e, List.mem_cons, List.not_mem_nil, or_false] at hq
      rcases hq with rfl | rfl | rfl <;> exact ⟨_, by simp [bgTs, bgV384e, zipU], Le1.refl _⟩
    · have ew : IntKind.i64.wrap ((j : Int) + 1) = ((j + 1 : Nat) : Int) := by rw [w64 (by omega)]; omega
      have hb : (decide (0 ≤ (j : Int)) && decide ((j : Int) < ((128 : Nat) : Int))) = true := by rw [decide_eq_true (show (0 : Int) ≤ (j : Int) by omega), decide_eq_true (show (j : Int) < ((128 : Nat) : Int) by omega)]; rfl
      have hc : decide (0 + (j : Int).toNat * 1 + 1 ≤ 128) = true := decide_eq_true (by omega)
      refine Round.on (bg384e_t y ⟨n, l, xo d x j, x, j⟩) (⟨n, l, xo d x (j + 1), x, ((j + 1 : Nat) : Int)⟩, []) [] rfl (paid_cons (decide_eq_true (by first | omega | (simp only; omega))) (paid_cons hb (paid_cons hc (paid_cons hb (paid_cons hc Paid.nil))))) (by simp only [ew]; exact LeL.refl _) ⟨j + 1, by first | omega | (simp only; omega), h2, rfl⟩ rfl (by first | omega | (simp only; omega))
def bgV512b (s : BgS) : List AV := [.int false .i64 512, .int false .u8 s.x, .slice false 3 0 128 (some 128) 1, .int false .i64 128, .int true .i64 s.i]
def bgM512b (s : BgS) : Mem := [none, some ⟨false, .ints .u8 (some s.n) s.l⟩, none, some ⟨true, .ints .u8 (some 128) s.d⟩]
def bgP512b : List AV → Mem → Option (BgS × List Bool)
  | [.int false .i64 512, .int false .u8 x, .slice false 3 0 128 (some 128) 1, .int false .i64 128, .int _ .i64 i], [none, some ⟨false, .ints .u8 (some n) l⟩, none, some ⟨true, .ints .u8 (some 128) d⟩] => some (⟨n, l, d, x, i⟩, [])
  | _, _ => none
def bgO512b (p : BgS × List Bool) : List Bool := p.2 ++ [decide (p.1.i = 0), decide (p.1.d.length = 128)]
def bgF512b (p : BgS × List Bool) : List (Nat × AV) × Mem := ([(0, .int false .i64 512), (2, .int false .u8 p.1.x), (7, .slice false 3 0 128 (some 128) 1)], bgM512b { p.1 with d := xo p.1.d p.1.x 128 })
def bgΛ512b : LoopH := famH 0 35 bgTs bgP512b bgO512b bgF512b fun _ _ => none
theorem bg512b_t (y : Nat → AV) (s : BgS) : seesL bgTs ((codeL Tryd.prog qS hS10 (fun _ _ => none) 100 (lp (blk 0 (bodyOf Tryd.prog 35))) ⟨tmOf (ups y (zipU bgTs (bgV512b s))) 35, bgM512b s⟩).go [true]) = some ([decide (s.i < 128), decide (0 ≤ s.i) && decide (s.i < ((128 : Nat) : Int)), decide (0 + s.i.toNat * 1 + 1 ≤ 128), decide (0 ≤ s.i) && decide (s.i < ((128 : Nat) : Int)), decide (0 + s.i.toNat * 1 + 1 ≤ 128)], 0, bgV512b { s with i := IntKind.i64.wrap (s.i + 1) }, 35, bgM512b { s with d := s.d.set (0 + s.i.toNat * 1) (ixor .u8 (s.d.getD (0 + s.i.toNat * 1) 0) s.x) }) := by kernel_rfl
theorem bg512b_f (y : Nat → AV) (s : BgS) : seesL bgTs ((codeL Tryd.prog qS hS10 (fun _ _ => none) 100 (lp (blk 0 (bodyOf Tryd.prog 35))) ⟨tmOf (ups y (zipU bgTs (bgV512b s))) 35, bgM512b s⟩).go [false]) = some ([!decide (s.i < 128)], 2, bgV512b s, 35, bgM512b s) := by kernel_rfl
theorem bg512b_lok : LOk Tryd.prog (bodyOf Tryd.prog 35) bgΛ512b := by
  refine fam_ok (q := qS) (n := 100) (fun p : BgS × List Bool => bgV512b p.1) (fun p => bgM512b p.1) (fun p s => ∃ j : Nat, j ≤ 128 ∧ p.1.d.length = 128 ∧ s = ({ p.1 with d := xo p.1.d p.1.x j, i := (j : Int) }, [])) (fun s => 128 - s.1.i.toNat) mixed hS10_ok LOk.none LOk.none (by kernel_rfl) (by kernel_rfl) (fun s => rfl) (fun s => rfl) (fun avs m p h ho => ?_) (fun p s hJ y => ?_)
  · unfold bgP512b at h
    split at h
    · cases h
      have o4 := of_decide_eq_true (ho _ (List.mem_cons_self ..))
      have o5 := of_decide_eq_true (ho _ (List.mem_cons_of_mem _ (List.mem_cons_self ..)))
      simp only at o4 o5
      have o4 := o4.symm
      subst o4
      exact ⟨(⟨_, _, _, _, 0⟩, []), .cons (.refl _) (.cons (.refl _) (.cons (.refl _) (.cons (.refl _) (.cons (.int _ _ _) .nil)))), rfl, 0, Nat.zero_le _, o5, rfl⟩
    · cases h
  · obtain ⟨j, h1, h2, rfl⟩ := hJ
    obtain ⟨⟨n, l, d, x, i⟩, bs⟩ := p
    simp only at h1 h2
    by_cases hj : j = 128
    · subst hj
      refine Round.out (bg512b_f y _) rfl rfl (paid_cons (by simp) Paid.nil) fun q hq => ?_
      simp only [bgF512b, List.mem_cons, List.not_mem_nil, or_false] at hq
      rcases hq with rfl | rfl | rfl <;> exact ⟨_, by simp [bgTs, bgV512b, zipU], Le1.refl _⟩
    · have ew : IntKind.i64.wrap ((j : Int) + 1) = ((j + 1 : Nat) : Int) := by rw [w64 (by omega)]; omega
      have hb : (decide (0 ≤ (j : Int)) && decide ((j : Int) < ((128 : Nat) : Int))) = true := by rw [decide_eq_true (show (0 : Int) ≤ (j : Int) by omega), decide_eq_true (show (j : Int) < ((128 : Nat) : Int) by omega)]; rfl
      have hc : decide (0 + (j : Int).toNat * 1 + 1 ≤ 128) = true := decide_eq_true (by omega)
      refine Round.on (bg512b_t y ⟨n, l, xo d x j, x, j⟩) (⟨n, l, xo d x (j + 1), x, ((j + 1 : Nat) : Int)⟩, []) [] rfl (paid_cons (decide_eq_true (by first | omega | (simp only; omega))) (paid_cons hb (paid_cons hc (paid_cons hb (paid_cons hc Paid.nil))))) (by simp only [ew]; exact LeL.refl _) ⟨j + 1, by first | omega | (simp only; omega), h2, rfl⟩ rfl (by first | omega | (simp only; omega))
def bgV512e (s : BgS) : List AV := [.int false .i64 512, .int false .u8 s.x, .slice false 3 0 128 (some 128) 1, .int false .i64 128, .int true .i64 s.i]
def bgM512e (s : BgS) : Mem := [none, none, none, some ⟨true, .ints .u8 (some 128) s.d⟩]
def bgP512e : List AV → Mem → Option (BgS × List Bool)
  | [.int false .i64 512, .int false .u8 x, .slice false 3 0 128 (some 128) 1, .int false .i64 128, .int _ .i64 i], [none, none, none, some ⟨true, .ints .u8 (some 128) d⟩] => some (⟨0, [], d, x, i⟩, [])
  | _, _ => none
def bgO512e (p : BgS × List Bool) : List Bool := p.2 ++ [decide (p.1.i = 0), decide (p.1.d.length = 128)]
def bgF512e (p : BgS × List Bool) : List (Nat × AV) × Mem := ([(0, .int false .i64 512), (2, .int false .u8 p.1.x), (7, .slice false 3 0 128 (some 128) 1)], bgM512e { p.1 with d := xo p.1.d p.1.x 128 })
def bgΛ512e : LoopH := famH 0 35 bgTs bgP512e bgO512e bgF512e fun _ _ => none
theorem bg512e_t (y : Nat → AV) (s : BgS) : seesL bgTs ((codeL Tryd.prog qS hS10 (fun _ _ => none) 100 (lp (blk 0 (bodyOf Tryd.prog 35))) ⟨tmOf (ups y (zipU bgTs (bgV512e s))) 35, bgM512e s⟩).go [true]) = some ([decide (s.i < 128), decide (0 ≤ s.i) && decide (s.i < ((128 : Nat) : Int)), decide (0 + s.i.toNat * 1 + 1 ≤ 128), decide (0 ≤ s.i) && decide (s.i < ((128 : Nat) : Int)), decide (0 + s.i.toNat * 1 + 1 ≤ 128)], 0, bgV512e { s with i := IntKind.i64.wrap (s.i + 1) }, 35, bgM512e { s with d := s.d.set (0 + s.i.toNat * 1) (ixor .u8 (s.d.getD (0 + s.i.toNat * 1) 0) s.x) }) := by kernel_rfl
theorem bg512e_f (y : Nat → AV) (s : BgS) : seesL bgTs ((codeL Tryd.prog qS hS10 (fun _ _ => none) 100 (lp (blk 0 (bodyOf Tryd.prog 35))) ⟨tmOf (ups y (zipU bgTs (bgV512e s))) 35, bgM512e s⟩).go [false]) = some ([!decide (s.i < 128)], 2, bgV512e s, 35, bgM512e s) := by kernel_rfl
theorem bg512e_lok : LOk Tryd.prog (bodyOf Tryd.prog 35) bgΛ512e := by
  refine fam_ok (q := qS) (n := 100) (fun p : BgS × List Bool => bgV512e p.1) (fun p => bgM512e p.1) (fun p s => ∃ j : Nat, j ≤ 128 ∧ p.1.d.length = 128 ∧ s = ({ p.1 with d := xo p.1.d p.1.x j, i := (j : Int) }, [])) (fun s => 128 - s.1.i.toNat) mixed hS10_ok LOk.none LOk.none (by kernel_rfl) (by kernel_rfl) (fun s => rfl) (fun s => rfl) (fun avs m p h ho => ?_) (fun p s hJ y => ?_)
  · unfold bgP512e at h
    split at h
    · cases h
      have o4 := of_decide_eq_true (ho _ (List.mem_cons_self ..))
      have o5 := of_decide_eq_true (ho _ (List.mem_cons_of_mem _ (List.mem_cons_self ..)))
      simp only at o4 o5
      have o4 := o4.symm
      subst o4
      exact ⟨(⟨_, _, _, _, 0⟩, []), .cons (.refl _) (.cons (.refl _) (.cons (.refl _) (.cons (.refl _) (.cons (.int _ _ _) .nil)))), rfl, 0, Nat.zero_le _, o5, rfl⟩
    · cases h
  · obtain ⟨j, h1, h2, rfl⟩ := hJ
    obtain ⟨⟨n, l, d, x, i⟩, bs⟩ := p
    simp only at h1 h2
    by_cases hj : j = 128
    · subst hj
      refine Round.out (bg512e_f y _) rfl rfl (paid_cons (by simp) Paid.nil) fun q hq => ?_
      simp only [bgF512e, List.mem_cons, List.not_mem_nil, or_false] at hq
      rcases hq with rfl | rfl | rfl <;> exact ⟨_, by simp [bgTs, bgV512e, zipU], Le1.refl _⟩
    · have ew : IntKind.i64.wrap ((j : Int) + 1) = ((j + 1 : Nat) : Int) := by rw [w64 (by omega)]; omega
      have hb : (decide (0 ≤ (j : Int)) && decide ((j : Int) < ((128 : Nat) : Int))) = true := by rw [decide_eq_true (show (0 : Int) ≤ (j : Int) by omega), decide_eq_true (show (j : Int) < ((128 : Nat) : Int) by omega)]; rfl
      have hc : decide (0 + (j : Int).toNat * 1 + 1 ≤ 128) = true := decide_eq_true (by omega)
      refine Round.on (bg512e_t y ⟨n, l, xo d x j, x, j⟩) (⟨n, l, xo d x (j + 1), x, ((j + 1 : Nat) : Int)⟩, []) [] rfl (paid_cons (decide_eq_true (by first | omega | (simp only; omega))) (paid_cons hb (paid_cons hc (paid_cons hb (paid_cons hc Paid.nil))))) (by simp only [ew]; exact LeL.refl _) ⟨j + 1, by first | omega | (simp only; omega), h2, rfl⟩ rfl (by first | omega | (simp only; omega))
end Go.Proofs.YtljndahfackolaaDoor
