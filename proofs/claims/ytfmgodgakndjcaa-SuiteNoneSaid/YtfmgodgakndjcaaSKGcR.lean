/- The reference's polynomials, coefficient by coefficient: loops as families, contracts. Own work. -/
import Derived.Test.YtfmgodgakndjcaaSKGcC
set_option linter.unusedSimpArgs false
set_option linter.unusedVariables false
set_option linter.unusedSectionVars false
namespace Go.Gc
open Go.Ev Go.Sh
def flip (t : List Bool) (i : Nat) : List Bool := t.set (0 + i * 1) (!t.getD (0 + i * 1) false)
structure OfS where
  n : Nat
  l : List Int
  r : List Bool
  p : List Bool
  i : Int
def bitI (l : List Int) (i : Int) : Bool := (ishr .u8 (l.getD (0 + (IntKind.i64.wrap (i.tdiv 8)).toNat * 1) 0) (IntKind.i64.wrap (7 - i.tmod 8))).tmod 2 == 1
def ofN (l : List Int) (p : List Bool) : Nat → List Bool
  | 0 => p
  | i + 1 => (ofN l p i).set (0 + ((i : Int)).toNat * 1) (bitI l (i : Int))
def no128 : List Bool := List.replicate 128 false
def ofL (l : List Int) (n : Nat) : List Bool := ofN l no128 (8 * n)
structure XoS where
  a : List Bool
  b : List Bool
  r : List Bool
  i : Int
def xoN (b a : List Bool) : Nat → List Bool
  | 0 => a
  | i + 1 => (xoN b a i).set (0 + ((i : Int)).toNat * 1) (!((xoN b a i).getD (0 + ((i : Int)).toNat * 1) false == b.getD (0 + ((i : Int)).toNat * 1) false))
structure TmS where
  a : List Bool
  b : List Bool
  r : List Bool
  t : List Bool
  i : Int
  k : Int
def addI (b : List Bool) (i : Int) (t : List Bool) : Nat → List Bool
  | 0 => t
  | k + 1 => (addI b i t k).set (0 + (IntKind.i64.wrap (i + (k : Int))).toNat * 1) (!((addI b i t k).getD (0 + (IntKind.i64.wrap (i + (k : Int))).toNat * 1) false == b.getD (0 + ((k : Int)).toNat * 1) false))
def atI (a : List Bool) (i : Int) : Bool := a.getD (0 + i.toNat * 1) false
def rowI (a b : List Bool) (i : Int) (t : List Bool) : List Bool := match atI a i with | true => addI b i t 128 | false => t
def prodB (a b t : List Bool) : Nat → List Bool
  | 0 => t
  | i + 1 => rowI a b (i : Int) (prodB a b t i)
def flips (t : List Bool) (i : Int) : List Bool := flip (flip (flip (flip t (IntKind.i64.wrap (i - 128)).toNat) (IntKind.i64.wrap (i - 127)).toNat) (IntKind.i64.wrap (i - 126)).toNat) (IntKind.i64.wrap (i - 121)).toNat
def redI (t : List Bool) (i : Int) : List Bool := match atI t i with | true => flips t i | false => t
def redB (t : List Bool) : Nat → List Bool
  | 0 => t
  | j + 1 => redI (redB t j) (254 - (j : Int))
def no255 : List Bool := List.replicate 255 false
def timesB (a b : List Bool) : List Bool := ((redB (prodB a b no255 128) 127).drop 0).take 128
theorem addI_len (b : List Bool) (i : Int) (t : List Bool) : ∀ k, (addI b i t k).length = t.length
  | 0 => rfl
  | k + 1 => by unfold addI; rw [List.length_set]; exact addI_len b i t k
end Go.Gc
namespace Go.Proofs.Ytfmgodgakndjcaa
open Go.Ev Go.Sh Go.As Go.Gc
set_option maxRecDepth 100000
theorem inc64 {j : Nat} (h : j < 100000) : IntKind.i64.wrap ((j : Int) + 1) = ((j + 1 : Nat) : Int) := by
  unfold IntKind.wrap; simp [IntKind.bits, IntKind.signed]; omega
/- of -/
def ofTs : List Nat := [0, 2, 3, 4]
def ofV (s : OfS) : List AV := [.slice true 0 0 s.n none 1, .ptr false 1 0, .ptr false 2 0, .int true .i64 s.i]
def ofM (s : OfS) : Mem := [some ⟨false, .ints .u8 (some s.n) s.l⟩, some ⟨true, .bools 128 s.r⟩, some ⟨true, .bools 128 s.p⟩]
def ofP : List AV → Mem → Option (OfS × Bool)
  | [.slice true 0 0 n none 1, .ptr false 1 0, .ptr false 2 0, .int false .i64 i], [some ⟨false, .ints .u8 (some m) l⟩, some ⟨true, .bools 128 r⟩, some ⟨true, .bools 128 p⟩] => some (⟨n, l, r, p, i⟩, decide (m = n))
  | _, _ => none
def ofO (p : OfS × Bool) : List Bool := [p.2, decide (p.1.i = 0), decide (p.1.n ≤ 16)]
def ofF (p : OfS × Bool) : List (Nat × AV) × Mem := ([(2, .ptr false 1 0), (3, .ptr false 2 0)], ofM { p.1 with p := ofN p.1.l p.1.p (8 * p.1.n) })
def ofΛ (Λ : LoopH) : LoopH := famH 0 26 ofTs ofP ofO ofF Λ
theorem of_t (x : Nat → AV) (s : OfS) : seesL ofTs ((codeL Try.prog qP a0 (fun _ _ => none) 100 (lp (blk 0 (bodyOf Try.prog 64))) ⟨tmOf (ups x (zipU ofTs (ofV s))) 26, ofM s⟩).go [true]) =
    some ([decide (s.n < 9223372036854775808), decide (s.i < IntKind.i64.wrap (8 * (s.n : Int))), decide (0 ≤ IntKind.i64.wrap (s.i.tdiv 8)) && decide (IntKind.i64.wrap (s.i.tdiv 8) < (s.n : Int)), decide (0 + (IntKind.i64.wrap (s.i.tdiv 8)).toNat * 1 + 1 ≤ s.n), !decide (IntKind.i64.wrap (7 - s.i.tmod 8) < 0), decide (0 ≤ s.i) && decide (s.i < ((128 : Nat) : Int)), decide (0 + s.i.toNat * 1 + 1 ≤ 128)], 0,
      ofV { s with i := IntKind.i64.wrap (s.i + 1), p := s.p.set (0 + s.i.toNat * 1) (bitI s.l s.i) }, 26, ofM { s with i := IntKind.i64.wrap (s.i + 1), p := s.p.set (0 + s.i.toNat * 1) (bitI s.l s.i) }) := by kernel_rfl
theorem of_f (x : Nat → AV) (s : OfS) : seesL ofTs ((codeL Try.prog qP a0 (fun _ _ => none) 100 (lp (blk 0 (bodyOf Try.prog 64))) ⟨tmOf (ups x (zipU ofTs (ofV s))) 26, ofM s⟩).go [false]) =
    some ([decide (s.n < 9223372036854775808), !decide (s.i < IntKind.i64.wrap (8 * (s.n : Int)))], 2, ofV s, 26, ofM s) := by kernel_rfl
theorem of_lok {Λ : LoopH} (hΛ : LOk Try.prog (bodyOf Try.prog 64) Λ) : LOk Try.prog (bodyOf Try.prog 64) (ofΛ Λ) := by
  refine fam_ok (q := qP) (n := 100) (fun p : OfS × Bool => ofV p.1) (fun p => ofM p.1) (fun p s => ∃ j : Nat, j ≤ 8 * p.1.n ∧ p.1.n ≤ 16 ∧ s.1 = { p.1 with p := ofN p.1.l p.1.p j, i := (j : Int) }) (fun s => 128 - s.1.i.toNat) mixed a0_ok hΛ LOk.none (by kernel_rfl) (by kernel_rfl) (fun s => rfl) (fun s => rfl) (fun avs m p h ho => ?_) (fun p s hJ x => ?_)
  · unfold ofP at h
    split at h
    · cases h
      have o1 := of_decide_eq_true (ho _ (List.mem_cons_self ..))
      have o2 := of_decide_eq_true (ho _ (List.mem_cons_of_mem _ (List.mem_cons_self ..)))
      have o3 := of_decide_eq_true (ho _ (List.mem_cons_of_mem _ (List.mem_cons_of_mem _ (List.mem_cons_self ..))))
      simp only at o2 o3
      subst o1 o2
      exact ⟨(_, true), .cons (.refl _) (.cons (.refl _) (.cons (.refl _) (.cons (.int _ _ _) .nil))), rfl, 0, Nat.zero_le _, o3, rfl⟩
    · cases h
  · obtain ⟨j, h1, h2, hs⟩ := hJ
    obtain ⟨⟨n, l, r, p0, i0⟩, b⟩ := p
    obtain ⟨s, b'⟩ := s
    simp only at h1 h2 hs
    subst hs
    have hw : IntKind.i64.wrap (8 * (n : Int)) = ((8 * n : Nat) : Int) := by unfold IntKind.wrap; simp [IntKind.bits, IntKind.signed]; omega
    by_cases hend : j = 8 * n
    · subst hend
      refine Round.out (of_f x _) rfl rfl (paid_cons (decide_eq_true (by simp only; omega)) (paid_cons (by simp only [hw]; simp) Paid.nil)) fun q hq => ?_
      simp only [ofF, List.mem_cons, List.not_mem_nil, or_false] at hq
      rcases hq with rfl | rfl
      · exact ⟨_, by simp [ofTs, ofV, zipU], Le1.refl _⟩
      · exact ⟨_, by simp [ofTs, ofV, zipU], Le1.refl _⟩
    · have e8 : (j : Int).tdiv 8 = ((j / 8 : Nat) : Int) := by rw [Int.tdiv_eq_ediv_of_nonneg (by omega)]; omega
      have m8 : (j : Int).tmod 8 = ((j % 8 : Nat) : Int) := by rw [Int.tmod_eq_emod_of_nonneg (by omega)]; omega
      have w1 : IntKind.i64.wrap (((j / 8 : Nat) : Int)) = ((j / 8 : Nat) : Int) := by unfold IntKind.wrap; simp [IntKind.bits, IntKind.signed]; omega
      have w2 : IntKind.i64.wrap (7 - ((j % 8 : Nat) : Int)) = 7 - ((j % 8 : Nat) : Int) := by unfold IntKind.wrap; simp [IntKind.bits, IntKind.signed]; omega
      refine Round.on (of_t x _) (⟨n, l, r, ofN l p0 (j + 1), ((j + 1 : Nat) : Int)⟩, true) [] ?_ ?_ ?_ ⟨j + 1, by simp only; omega, h2, rfl⟩ rfl (by simp only; omega)
      · simp only [inc64 (show j < 100000 by omega)]
        rw [List.append_nil]
        rfl
      · simp only [hw, e8, m8, w1, w2]
        exact paid_cons (decide_eq_true (by omega)) (paid_cons (decide_eq_true (by omega)) (paid_cons (by simp only [Bool.and_eq_true, decide_eq_true_eq]; omega) (paid_cons (decide_eq_true (by omega)) (paid_cons (by simp only [Bool.not_eq_true', decide_eq_false_iff_not]; omega) (paid_cons (by simp only [Bool.and_eq_true, decide_eq_true_eq]; omega) (paid_cons (decide_eq_true (by omega)) Paid.nil))))))
      · simp only [inc64 (show j < 100000 by omega)]; exact LeL.refl _
theorem ofR_buf (n : Nat) (l : List Int) : res (funcL Try.prog qP a0 (ofΛ fun _ _ => none) 100 64 (cArgs 0 [.buf true .u8 n l]) (cMem [.buf true .u8 n l])) = some ([decide (n = n), true, decide (n ≤ 16)], .bools 128 (ofL l n)) := by kernel_rfl
def ofRS : List V → E (AV × Mem)
  | [.buf _ .u8 n l] => some ([decide (n ≤ 16)], (.bools 128 (ofL l n), []))
  | _ => none
theorem ofR_ok {xs : List V} {o : List Bool} {v : AV} {bs : Mem} (h : ofRS xs = some (o, (v, bs))) (ho : Paid o) : ViewCall Try.prog 64 xs v bs := by
  unfold ofRS at h
  split at h
  · rename_i s n l
    cases h
    intro ρ vs w ha hi
    cases ha with
    | cons _ _ u us h1 hn =>
    cases hn
    exact view_of_resL mixed noCount a0_ok (fun fn c hf hb => by rw [bodyOf_eq hf hb]; exact of_lok LOk.none) (ofR_buf n l) (paid_cons (decide_eq_true rfl) (paid_cons rfl ho)) rfl rfl (.cons _ _ _ _ (marked true h1) .nil) hi
  · cases h
/- xor -/
def xoTsK : List Nat := [2, 3, 4, 5]
def xoVK (s : XoS) : List AV := [.ptr false 2 0, .ptr false 3 0, .ptr false 4 0, .int true .i64 s.i]
def xoMK (s : XoS) : Mem := [none, none, some ⟨true, .bools 128 s.a⟩, some ⟨true, .bools 128 s.b⟩, some ⟨true, .bools 128 s.r⟩]
def xoPK : List AV → Mem → Option XoS
  | [.ptr false 2 0, .ptr false 3 0, .ptr false 4 0, .int false .i64 i], [none, none, some ⟨true, .bools 128 a⟩, some ⟨true, .bools 128 b⟩, some ⟨true, .bools 128 r⟩] => some ⟨a, b, r, i⟩
  | _, _ => none
def xoO (s : XoS) : List Bool := [decide (s.i = 0)]
def xoFK (s : XoS) : List (Nat × AV) × Mem := ([(2, .ptr false 2 0), (4, .ptr false 4 0)], xoMK { s with a := xoN s.b s.a 128 })
def xoΛK (Λ : LoopH) : LoopH := famH 0 20 xoTsK xoPK xoO xoFK Λ
def xoA (a b : List Bool) (i : Int) : List Bool := a.set (0 + i.toNat * 1) (!(a.getD (0 + i.toNat * 1) false == b.getD (0 + i.toNat * 1) false))
def xoDK (i : Int) : List Bool := [decide (0 ≤ i) && decide (i < ((128 : Nat) : Int)), decide (0 + i.toNat * 1 + 1 ≤ 128)]
theorem xo_t (x : Nat → AV) (s : XoS) : seesL xoTsK ((codeL Try.prog qP a0 (fun _ _ => none) 100 (lp (blk 0 (bodyOf Try.prog 66))) ⟨tmOf (ups x (zipU xoTsK (xoVK s))) 20, xoMK s⟩).go [true]) =
    some (decide (s.i < 128) :: (xoDK s.i ++ xoDK s.i ++ xoDK s.i), 0, xoVK { s with i := IntKind.i64.wrap (s.i + 1), a := xoA s.a s.b s.i }, 20, xoMK { s with i := IntKind.i64.wrap (s.i + 1), a := xoA s.a s.b s.i }) := by kernel_rfl
theorem xo_fK (x : Nat → AV) (s : XoS) : seesL xoTsK ((codeL Try.prog qP a0 (fun _ _ => none) 100 (lp (blk 0 (bodyOf Try.prog 66))) ⟨tmOf (ups x (zipU xoTsK (xoVK s))) 20, xoMK s⟩).go [false]) =
    some ([!decide (s.i < 128)], 2, xoVK s, 20, xoMK s) := by kernel_rfl
theorem xoD_paid {j : Nat} (h : j < 128) : Paid (xoDK (j : Int)) := paid_cons (by simp only [Bool.and_eq_true, decide_eq_true_eq]; omega) (paid_cons (decide_eq_true (by omega)) Paid.nil)
theorem xo_lokK {Λ : LoopH} (hΛ : LOk Try.prog (bodyOf Try.prog 66) Λ) : LOk Try.prog (bodyOf Try.prog 66) (xoΛK Λ) := by
  refine fam_ok (q := qP) (n := 100) xoVK xoMK (fun p s => ∃ j : Nat, j ≤ 128 ∧ s = { p with a := xoN p.b p.a j, i := (j : Int) }) (fun s => 128 - s.i.toNat) mixed a0_ok hΛ LOk.none (by kernel_rfl) (by kernel_rfl) (fun s => rfl) (fun s => rfl) (fun avs m p h ho => ?_) (fun p s hJ x => ?_)
  · unfold xoPK at h
    split at h
    · cases h
      have o1 := of_decide_eq_true (ho _ (List.mem_cons_self ..))
      simp only at o1
      subst o1
      exact ⟨_, .cons (.refl _) (.cons (.refl _) (.cons (.refl _) (.cons (.int _ _ _) .nil))), rfl, 0, Nat.zero_le _, rfl⟩
    · cases h
  · obtain ⟨j, h1, rfl⟩ := hJ
    obtain ⟨a, b, r, i⟩ := p
    by_cases hend : j = 128
    · subst hend
      refine Round.out (xo_fK x _) rfl rfl (paid_cons (by simp) Paid.nil) fun q hq => ?_
      simp only [xoFK, List.mem_cons, List.not_mem_nil, or_false] at hq
      rcases hq with rfl | rfl
      · exact ⟨_, by simp [xoTsK, xoVK, zipU], Le1.refl _⟩
      · exact ⟨_, by simp [xoTsK, xoVK, zipU], Le1.refl _⟩
    · have hp := xoD_paid (show j < 128 by omega)
      refine Round.on (xo_t x _) ⟨xoN b a (j + 1), b, r, ((j + 1 : Nat) : Int)⟩ [] ?_ (paid_cons (decide_eq_true (by simp only; omega)) (paid_append.2 ⟨paid_append.2 ⟨hp, hp⟩, hp⟩)) ?_ ⟨j + 1, by omega, rfl⟩ rfl (by simp only; omega)
      · simp only [inc64 (show j < 100000 by omega)]
        rw [List.append_nil]
        rfl
      · simp only [inc64 (show j < 100000 by omega)]; exact LeL.refl _
theorem xoR_eval (a b : List Bool) : res (funcL Try.prog qP a0 (xoΛK fun _ _ => none) 100 66 (cArgs 0 [.pl (.bools 128 a), .pl (.bools 128 b)]) (cMem [.pl (.bools 128 a), .pl (.bools 128 b)])) = some ([true], .bools 128 (xoN b a 128)) := by kernel_rfl
def xoRS : List V → E (AV × Mem)
  | [.pl (.bools 128 a), .pl (.bools 128 b)] => some ([], (.bools 128 (xoN b a 128), []))
  | _ => none
theorem xoR_ok {xs : List V} {o : List Bool} {v : AV} {bs : Mem} (h : xoRS xs = some (o, (v, bs))) : ViewCall Try.prog 66 xs v bs := by
  unfold xoRS at h
  split at h
  · rename_i a b
    cases h
    exact @view_of_resL _ _ _ _ _ mixed noCount a0_ok _ _ (fun fn c hf hb => by rw [bodyOf_eq hf hb]; exact xo_lokK LOk.none) _ _ _ _ (xoR_eval a b) (paid_cons rfl Paid.nil) rfl rfl
  · cases h
/- times: one row added -/
def tiTs : List Nat := [2, 3, 4, 5, 6, 7]
def tiV (s : TmS) : List AV := [.ptr false 2 0, .ptr false 3 0, .ptr false 4 0, .ptr false 5 0, .int true .i64 s.i, .int true .i64 s.k]
def tmM (s : TmS) : Mem := [none, none, some ⟨true, .bools 128 s.a⟩, some ⟨true, .bools 128 s.b⟩, some ⟨true, .bools 128 s.r⟩, some ⟨true, .bools 255 s.t⟩]
def tiP : List AV → Mem → Option TmS
  | [.ptr false 2 0, .ptr false 3 0, .ptr false 4 0, .ptr false 5 0, .int true .i64 i, .int false .i64 k], [none, none, some ⟨true, .bools 128 a⟩, some ⟨true, .bools 128 b⟩, some ⟨true, .bools 128 r⟩, some ⟨true, .bools 255 t⟩] => some ⟨a, b, r, t, i, k⟩
  | _, _ => none
def tiO (s : TmS) : List Bool := [decide (s.k = 0), decide (0 ≤ s.i), decide (s.i < 128)]
def tiF (s : TmS) : List (Nat × AV) × Mem := ([(2, .ptr false 2 0), (3, .ptr false 3 0), (4, .ptr false 4 0), (5, .ptr false 5 0), (6, .int true .i64 s.i)], tmM { s with t := rowI s.a s.b s.i s.t })
def tiΛ (Λ : LoopH) : LoopH := famH 2 79 tiTs tiP tiO tiF Λ
def tiG (s : TmS) : List Bool := [!decide (s.k < 128) || decide (0 ≤ s.i) && decide (s.i < ((128 : Nat) : Int)), !decide (s.k < 128) || decide (s.k < 128), !decide (s.k < 128) || decide (0 + s.i.toNat * 1 + 1 ≤ 128), !decide (s.k < 128) || decide (s.k < 128), !decide (s.k < 128) || decide (s.k < 128)]
def tiW (s : TmS) : List Bool := [decide (0 ≤ IntKind.i64.wrap (s.i + s.k)) && decide (IntKind.i64.wrap (s.i + s.k) < ((255 : Nat) : Int)), decide (0 + (IntKind.i64.wrap (s.i + s.k)).toNat * 1 + 1 ≤ 255)]
def tiA (s : TmS) : List Bool := s.t.set (0 + (IntKind.i64.wrap (s.i + s.k)).toNat * 1) (!(s.t.getD (0 + (IntKind.i64.wrap (s.i + s.k)).toNat * 1) false == s.b.getD (0 + s.k.toNat * 1) false))
def tiC (s : TmS) : Bool := match decide (s.k < 128) with | true => atI s.a s.i | false => false
theorem ti_t (x : Nat → AV) (s : TmS) : seesL tiTs ((codeL Try.prog qP a0 (fun _ _ => none) 100 (lp (blk 2 (bodyOf Try.prog 65))) ⟨tmOf (ups x (zipU tiTs (tiV s))) 79, tmM s⟩).go [true]) =
    some (tiG s ++ [tiC s] ++ tiW s ++ xoDK s.k ++ tiW s, 0, tiV { s with k := IntKind.i64.wrap (s.k + 1), t := tiA s }, 79, tmM { s with k := IntKind.i64.wrap (s.k + 1), t := tiA s }) := by kernel_rfl
theorem ti_f (x : Nat → AV) (s : TmS) : seesL tiTs ((codeL Try.prog qP a0 (fun _ _ => none) 100 (lp (blk 2 (bodyOf Try.prog 65))) ⟨tmOf (ups x (zipU tiTs (tiV s))) 79, tmM s⟩).go [false]) =
    some (tiG s ++ [!tiC s], 4, tiV s, 79, tmM s) := by kernel_rfl
theorem tiG_paid {a b r t : List Bool} {i j : Nat} (hi : i < 128) : Paid (tiG ⟨a, b, r, t, (i : Int), (j : Int)⟩) := by
  have h1 : ∀ c : Bool, (!c || c) = true := by decide
  refine paid_cons ?_ (paid_cons (h1 _) (paid_cons ?_ (paid_cons (h1 _) (paid_cons (h1 _) Paid.nil))))
  · simp only [Bool.or_eq_true, Bool.and_eq_true, decide_eq_true_eq]; right; omega
  · simp only [Bool.or_eq_true, decide_eq_true_eq]; right; omega
theorem tiW_paid {a b r t : List Bool} {i j : Nat} (hi : i < 128) (hj : j < 128) : Paid (tiW ⟨a, b, r, t, (i : Int), (j : Int)⟩) := by
  have hw : IntKind.i64.wrap ((i : Int) + (j : Int)) = (i : Int) + (j : Int) := by unfold IntKind.wrap; simp [IntKind.bits, IntKind.signed]; omega
  unfold tiW
  simp only [hw]
  exact paid_cons (by simp only [Bool.and_eq_true, decide_eq_true_eq]; omega) (paid_cons (decide_eq_true (by omega)) Paid.nil)
theorem ti_lok {Λ : LoopH} (hΛ : LOk Try.prog (bodyOf Try.prog 65) Λ) : LOk Try.prog (bodyOf Try.prog 65) (tiΛ Λ) := by
  refine fam_ok (q := qP) (n := 100) tiV tmM (fun p s => ∃ i j : Nat, p.i = (i : Int) ∧ i < 128 ∧ j ≤ 128 ∧ (0 < j → atI p.a p.i = true) ∧ s = { p with t := addI p.b p.i p.t j, k := (j : Int) }) (fun s => 128 - s.k.toNat) mixed a0_ok hΛ LOk.none (by kernel_rfl) (by kernel_rfl) (fun s => rfl) (fun s => rfl) (fun avs m p h ho => ?_) (fun p s hJ x => ?_)
  · unfold tiP at h
    split at h
    · cases h
      have o1 := of_decide_eq_true (ho _ (List.mem_cons_self ..))
      have o2 := of_decide_eq_true (ho _ (List.mem_cons_of_mem _ (List.mem_cons_self ..)))
      have o3 := of_decide_eq_true (ho _ (List.mem_cons_of_mem _ (List.mem_cons_of_mem _ (List.mem_cons_self ..))))
      simp only at o1 o2 o3
      subst o1
      obtain ⟨i, rfl⟩ := Int.eq_ofNat_of_zero_le o2
      exact ⟨_, .cons (.refl _) (.cons (.refl _) (.cons (.refl _) (.cons (.refl _) (.cons (.refl _) (.cons (.int _ _ _) .nil))))), rfl, i, 0, rfl, by omega, by omega, fun h => by omega, rfl⟩
    · cases h
  · obtain ⟨i, j, hi, hi2, hj, ha, rfl⟩ := hJ
    obtain ⟨a, b, r, t, i', k'⟩ := p
    simp only at hi ha
    subst hi
    have out : ∀ {J : TmS → Prop}, tiC ⟨a, b, r, addI b (i : Int) t j, (i : Int), (j : Int)⟩ = false → addI b (i : Int) t j = rowI a b (i : Int) t → Round Try.prog qP a0 (fun _ _ => none) (bodyOf Try.prog 65) 2 79 100 tiTs tiV tmM J (fun s => 128 - s.k.toNat) (tiF ⟨a, b, r, t, (i : Int), k'⟩) ⟨a, b, r, addI b (i : Int) t j, (i : Int), (j : Int)⟩ x := fun {_} hc ht => by
      refine Round.out (ti_f x _) rfl ?_ (paid_append.2 ⟨tiG_paid hi2, paid_cons (by rw [hc]; rfl) Paid.nil⟩) fun q hq => ?_
      · simp only [tiF, tmM, ht]
      · simp only [tiF, List.mem_cons, List.not_mem_nil, or_false] at hq
        rcases hq with rfl | rfl | rfl | rfl | rfl
        · exact ⟨_, by simp [tiTs, tiV, zipU], Le1.refl _⟩
        · exact ⟨_, by simp [tiTs, tiV, zipU], Le1.refl _⟩
        · exact ⟨_, by simp [tiTs, tiV, zipU], Le1.refl _⟩
        · exact ⟨_, by simp [tiTs, tiV, zipU], Le1.refl _⟩
        · exact ⟨.int true .i64 (i : Int), by simp [tiTs, tiV, zipU], Le1.refl _⟩
    cases hA : atI a (i : Int) with
    | false =>
      have hj0 : j = 0 := by
        by_cases h : j = 0
        · exact h
        · have := ha (by omega); rw [hA] at this; cases this
      subst hj0
      exact out (by unfold tiC; simp only [hA]; split <;> rfl) (by unfold rowI; rw [hA]; rfl)
    | true =>
      by_cases hend : j = 128
      · subst hend
        exact out (by unfold tiC; simp) (by unfold rowI; rw [hA])
      · have hc : tiC ⟨a, b, r, addI b (i : Int) t j, (i : Int), (j : Int)⟩ = true := by
          unfold tiC
          simp only [hA, decide_eq_true (show (j : Int) < 128 by omega)]
        have hp := tiW_paid (a := a) (b := b) (r := r) (t := addI b (i : Int) t j) hi2 (show j < 128 by omega)
        refine Round.on (ti_t x _) ⟨a, b, r, addI b (i : Int) t (j + 1), (i : Int), ((j + 1 : Nat) : Int)⟩ [] ?_ (paid_append.2 ⟨paid_append.2 ⟨paid_append.2 ⟨paid_append.2 ⟨tiG_paid hi2, paid_cons hc Paid.nil⟩, hp⟩, xoD_paid (by omega)⟩, hp⟩) ?_ ⟨i, j + 1, rfl, hi2, by omega, fun _ => by first | rfl | exact hA, rfl⟩ rfl (by simp only; omega)
        · simp only [inc64 (show j < 100000 by omega)]
          rw [List.append_nil]
          rfl
        · simp only [inc64 (show j < 100000 by omega)]; exact LeL.refl _
/- times: row upon row -/
def toTs : List Nat := [2, 3, 4, 5, 6]
def toV (s : TmS) : List AV := [.ptr false 2 0, .ptr false 3 0, .ptr false 4 0, .ptr false 5 0, .int true .i64 s.i]
def toP : List AV → Mem → Option TmS
  | [.ptr false 2 0, .ptr false 3 0, .ptr false 4 0, .ptr false 5 0, .int false .i64 i], [none, none, some ⟨true, .bools 128 a⟩, some ⟨true, .bools 128 b⟩, some ⟨true, .bools 128 r⟩, some ⟨true, .bools 255 t⟩] => some ⟨a, b, r, t, i, 0⟩
  | _, _ => none
def toO (s : TmS) : List Bool := [decide (s.i = 0)]
def toF (s : TmS) : List (Nat × AV) × Mem := ([(4, .ptr false 4 0), (5, .ptr false 5 0)], tmM { s with t := prodB s.a s.b s.t 128 })
def toΛ (Λ : LoopH) : LoopH := famH 0 79 toTs toP toO toF Λ
theorem to_t (x : Nat → AV) (s : TmS) : seesL toTs ((codeL Try.prog qP a0 (tiΛ fun _ _ => none) 100 (lp (blk 0 (bodyOf Try.prog 65))) ⟨tmOf (ups x (zipU toTs (toV s))) 79, tmM s⟩).go [true]) =
    some ([decide (s.i < 128), decide ((0 : Int) = 0), decide (0 ≤ s.i), decide (s.i < 128)], 0, toV { s with i := IntKind.i64.wrap (s.i + 1) }, 79, tmM { s with t := rowI s.a s.b s.i s.t }) := by kernel_rfl
theorem to_f (x : Nat → AV) (s : TmS) : seesL toTs ((codeL Try.prog qP a0 (tiΛ fun _ _ => none) 100 (lp (blk 0 (bodyOf Try.prog 65))) ⟨tmOf (ups x (zipU toTs (toV s))) 79, tmM s⟩).go [false]) =
    some ([!decide (s.i < 128)], 2, toV s, 79, tmM s) := by kernel_rfl
theorem to_lok {Λ : LoopH} (hΛ : LOk Try.prog (bodyOf Try.prog 65) Λ) : LOk Try.prog (bodyOf Try.prog 65) (toΛ Λ) := by
  refine fam_ok (q := qP) (n := 100) toV tmM (fun p s => ∃ j : Nat, j ≤ 128 ∧ s.a = p.a ∧ s.b = p.b ∧ s.r = p.r ∧ s.t = prodB p.a p.b p.t j ∧ s.i = (j : Int)) (fun s => 128 - s.i.toNat) mixed a0_ok hΛ (ti_lok LOk.none) (by kernel_rfl) (by kernel_rfl) (fun s => rfl) (fun s => rfl) (fun avs m p h ho => ?_) (fun p s hJ x => ?_)
  · unfold toP at h
    split at h
    · cases h
      have o1 := of_decide_eq_true (ho _ (List.mem_cons_self ..))
      simp only at o1
      subst o1
      exact ⟨_, .cons (.refl _) (.cons (.refl _) (.cons (.refl _) (.cons (.refl _) (.cons (.int _ _ _) .nil)))), rfl, 0, Nat.zero_le _, rfl, rfl, rfl, rfl, rfl⟩
    · cases h
  · obtain ⟨j, h1, e1, e2, e3, e4, e5⟩ := hJ
    obtain ⟨a, b, r, t, i, k⟩ := p
    obtain ⟨a2, b2, r2, t2, i2, k2⟩ := s
    simp only at e1 e2 e3 e4 e5
    subst e1 e2 e3 e4 e5
    by_cases hend : j = 128
    · subst hend
      refine Round.out (to_f x _) rfl rfl (paid_cons (by simp) Paid.nil) fun q hq => ?_
      simp only [toF, List.mem_cons, List.not_mem_nil, or_false] at hq
      rcases hq with rfl | rfl
      · exact ⟨_, by simp [toTs, toV, zipU], Le1.refl _⟩
      · exact ⟨_, by simp [toTs, toV, zipU], Le1.refl _⟩
    · refine Round.on (to_t x _) ⟨a2, b2, r2, prodB a2 b2 t (j + 1), ((j + 1 : Nat) : Int), 0⟩ [] ?_ (paid_cons (decide_eq_true (by simp only; omega)) (paid_cons rfl (paid_cons (decide_eq_true (by simp only; omega)) (paid_cons (decide_eq_true (by simp only; omega)) Paid.nil)))) ?_ ⟨j + 1, by omega, rfl, rfl, rfl, rfl, rfl⟩ rfl (by simp only; omega)
      · rw [List.append_nil]
        rfl
      · simp only [inc64 (show j < 100000 by omega)]; exact LeL.refl _
/- times: modulo -/
def trTs : List Nat := [4, 5, 8]
def trV (s : TmS) : List AV := [.ptr false 4 0, .ptr false 5 0, .int true .i64 s.i]
def trP : List AV → Mem → Option TmS
  | [.ptr false 4 0, .ptr false 5 0, .int false .i64 i], [none, none, some ⟨true, .bools 128 a⟩, some ⟨true, .bools 128 b⟩, some ⟨true, .bools 128 r⟩, some ⟨true, .bools 255 t⟩] => some ⟨a, b, r, t, i, 0⟩
  | _, _ => none
def trO (s : TmS) : List Bool := [decide (s.i = 254)]
def trF (s : TmS) : List (Nat × AV) × Mem := ([(4, .ptr false 4 0), (5, .ptr false 5 0)], tmM { s with t := redB s.t 127 })
def trΛ (Λ : LoopH) : LoopH := famH 4 79 trTs trP trO trF Λ
def tr2 (i d : Int) : List Bool := [decide (0 ≤ IntKind.i64.wrap (i - d)) && decide (IntKind.i64.wrap (i - d) < ((255 : Nat) : Int)), decide (0 + (IntKind.i64.wrap (i - d)).toNat * 1 + 1 ≤ 255)]
def trD (i : Int) : List Bool := [decide (i ≥ 128), decide (0 ≤ i) && decide (i < ((255 : Nat) : Int)), decide (0 + i.toNat * 1 + 1 ≤ 255)]
theorem tr_t (x : Nat → AV) (s : TmS) : seesL trTs ((codeL Try.prog qP a0 (fun _ _ => none) 100 (lp (blk 4 (bodyOf Try.prog 65))) ⟨tmOf (ups x (zipU trTs (trV s))) 79, tmM s⟩).go [true, true]) =
    some (trD s.i ++ [atI s.t s.i] ++ tr2 s.i 128 ++ tr2 s.i 128 ++ tr2 s.i 127 ++ tr2 s.i 127 ++ tr2 s.i 126 ++ tr2 s.i 126 ++ tr2 s.i 121 ++ tr2 s.i 121, 0, trV { s with i := IntKind.i64.wrap (s.i - 1) }, 79, tmM { s with t := flips s.t s.i }) := by kernel_rfl
theorem tr_u (x : Nat → AV) (s : TmS) : seesL trTs ((codeL Try.prog qP a0 (fun _ _ => none) 100 (lp (blk 4 (bodyOf Try.prog 65))) ⟨tmOf (ups x (zipU trTs (trV s))) 79, tmM s⟩).go [true, false]) =
    some (trD s.i ++ [!atI s.t s.i], 0, trV { s with i := IntKind.i64.wrap (s.i - 1) }, 79, tmM s) := by kernel_rfl
theorem tr_f (x : Nat → AV) (s : TmS) : seesL trTs ((codeL Try.prog qP a0 (fun _ _ => none) 100 (lp (blk 4 (bodyOf Try.prog 65))) ⟨tmOf (ups x (zipU trTs (trV s))) 79, tmM s⟩).go [false]) =
    some ([!decide (s.i ≥ 128)], 6, trV s, 79, tmM s) := by kernel_rfl
theorem tr_lok {Λ : LoopH} (hΛ : LOk Try.prog (bodyOf Try.prog 65) Λ) : LOk Try.prog (bodyOf Try.prog 65) (trΛ Λ) := by
  refine fam_ok (q := qP) (n := 100) trV tmM (fun p s => ∃ j : Nat, j ≤ 127 ∧ s.a = p.a ∧ s.b = p.b ∧ s.r = p.r ∧ s.t = redB p.t j ∧ s.i = 254 - (j : Int)) (fun s => s.i.toNat) mixed a0_ok hΛ LOk.none (by kernel_rfl) (by kernel_rfl) (fun s => rfl) (fun s => rfl) (fun avs m p h ho => ?_) (fun p s hJ x => ?_)
  · unfold trP at h
    split at h
    · cases h
      have o1 := of_decide_eq_true (ho _ (List.mem_cons_self ..))
      simp only at o1
      subst o1
      exact ⟨_, .cons (.refl _) (.cons (.refl _) (.cons (.int _ _ _) .nil)), rfl, 0, Nat.zero_le _, rfl, rfl, rfl, rfl, rfl⟩
    · cases h
  · obtain ⟨j, h1, e1, e2, e3, e4, e5⟩ := hJ
    obtain ⟨a, b, r, t, i, k⟩ := p
    obtain ⟨a2, b2, r2, t2, i2, k2⟩ := s
    simp only at e1 e2 e3 e4 e5
    subst e1 e2 e3 e4 e5
    by_cases hend : j = 127
    · subst hend
      refine Round.out (tr_f x _) rfl rfl (paid_cons (by simp) Paid.nil) fun q hq => ?_
      simp only [trF, List.mem_cons, List.not_mem_nil, or_false] at hq
      rcases hq with rfl | rfl
      · exact ⟨_, by simp [trTs, trV, zipU], Le1.refl _⟩
      · exact ⟨_, by simp [trTs, trV, zipU], Le1.refl _⟩
    · have hw : ∀ d : Int, 0 ≤ d ∧ d ≤ 128 → IntKind.i64.wrap (254 - (j : Int) - d) = 254 - (j : Int) - d := fun d hd => by unfold IntKind.wrap; simp [IntKind.bits, IntKind.signed]; omega
      have hD : Paid (trD (254 - (j : Int))) := paid_cons (decide_eq_true (by omega)) (paid_cons (by simp only [Bool.and_eq_true, decide_eq_true_eq]; omega) (paid_cons (decide_eq_true (by omega)) Paid.nil))
      have h2 : ∀ d : Int, 0 ≤ d ∧ d ≤ 128 → Paid (tr2 (254 - (j : Int)) d) := fun d hd => by
        unfold tr2
        rw [hw d hd]
        exact paid_cons (by simp only [Bool.and_eq_true, decide_eq_true_eq]; omega) (paid_cons (decide_eq_true (by omega)) Paid.nil)
      have hi : IntKind.i64.wrap (254 - (j : Int) - 1) = 254 - ((j + 1 : Nat) : Int) := by rw [hw 1 (by omega)]; omega
      cases hA : atI (redB t j) (254 - (j : Int)) with
      | true =>
        refine Round.on (tr_t x _) ⟨a2, b2, r2, redB t (j + 1), 254 - ((j + 1 : Nat) : Int), 0⟩ [] ?_ ?_ (by simp only [hi]; exact LeL.refl _) ⟨j + 1, by omega, rfl, rfl, rfl, rfl, rfl⟩ rfl (by simp only; omega)
        · rw [List.append_nil]
          simp only [redB, redI, hA]
          rfl
        · have p128 := h2 128 (by omega)
          have p127 := h2 127 (by omega)
          have p126 := h2 126 (by omega)
          have p121 := h2 121 (by omega)
          exact paid_append.2 ⟨paid_append.2 ⟨paid_append.2 ⟨paid_append.2 ⟨paid_append.2 ⟨paid_append.2 ⟨paid_append.2 ⟨paid_append.2 ⟨paid_append.2 ⟨hD, paid_cons hA Paid.nil⟩, p128⟩, p128⟩, p127⟩, p127⟩, p126⟩, p126⟩, p121⟩, p121⟩
      | false =>
        refine Round.on (tr_u x _) ⟨a2, b2, r2, redB t (j + 1), 254 - ((j + 1 : Nat) : Int), 0⟩ [] ?_ (paid_append.2 ⟨hD, paid_cons (by rw [hA]; rfl) Paid.nil⟩) (by simp only [hi]; exact LeL.refl _) ⟨j + 1, by omega, rfl, rfl, rfl, rfl, rfl⟩ rfl (by simp only; omega)
        rw [List.append_nil]
        simp only [redB, redI, hA]
        rfl
theorem tmR_eval (a b : List Bool) : res (funcL Try.prog qP a0 (toΛ (trΛ fun _ _ => none)) 100 65 (cArgs 0 [.pl (.bools 128 a), .pl (.bools 128 b)]) (cMem [.pl (.bools 128 a), .pl (.bools 128 b)])) = some ([true, true], .bools 128 (timesB a b)) := by kernel_rfl
def tmRS : List V → E (AV × Mem)
  | [.pl (.bools 128 a), .pl (.bools 128 b)] => some ([], (.bools 128 (timesB a b), []))
  | _ => none
theorem tmR_ok {xs : List V} {o : List Bool} {v : AV} {bs : Mem} (h : tmRS xs = some (o, (v, bs))) : ViewCall Try.prog 65 xs v bs := by
  unfold tmRS at h
  split at h
  · rename_i a b
    cases h
    exact @view_of_resL _ _ _ _ _ mixed noCount a0_ok _ _ (fun fn c hf hb => by rw [bodyOf_eq hf hb]; exact to_lok (tr_lok LOk.none)) _ _ _ _ (tmR_eval a b) (paid_cons rfl (paid_cons rfl Paid.nil)) rfl rfl
  · cases h
end Go.Proofs.Ytfmgodgakndjcaa
