/- The reference's numbers of bytes. Own work. -/
import Derived.Test.YtfmgodgakndjcaaQChY
set_option linter.unusedSimpArgs false
set_option linter.unusedVariables false
set_option linter.unusedSectionVars false
namespace Go.Ch
open Go.Ev Go.Sh
structure NuS where
  m : Nat
  p : List Int
  n : Nat
  r : List Int
  w : List Int
  i : Int
def nuW (s : NuS) : List Int := s.w.set (0 + (IntKind.i64.wrap (s.i.tdiv 8)).toNat * 1) (IntKind.u64.wrap (s.w.getD (0 + (IntKind.i64.wrap (s.i.tdiv 8)).toNat * 1) 0 + ishl .u64 (IntKind.u64.wrap (s.p.getD (0 + s.i.toNat * 1) 0)) (IntKind.i64.wrap (8 * s.i.tmod 8))))
open Go.Wn in
theorem limb_step {s b : Int} (hs : 0 ≤ s) (hb : 0 ≤ b ∧ b < 256) : ∀ j, j < 32 → s < 256 ^ j → (limbs s).set (j / 8) (IntKind.u64.wrap ((limbs s).getD (j / 8) 0 + b * 2 ^ (8 * (j % 8)))) = limbs (s + 256 ^ j * b) := by
  intro j hj h
  have hc : j = 0 ∨ j = 1 ∨ j = 2 ∨ j = 3 ∨ j = 4 ∨ j = 5 ∨ j = 6 ∨ j = 7 ∨ j = 8 ∨ j = 9 ∨ j = 10 ∨ j = 11 ∨ j = 12 ∨ j = 13 ∨ j = 14 ∨ j = 15 ∨ j = 16 ∨ j = 17 ∨ j = 18 ∨ j = 19 ∨ j = 20 ∨ j = 21 ∨ j = 22 ∨ j = 23 ∨ j = 24 ∨ j = 25 ∨ j = 26 ∨ j = 27 ∨ j = 28 ∨ j = 29 ∨ j = 30 ∨ j = 31 := by omega
  have hb1 := hb.1
  have hb2 := hb.2
  clear hj
  rcases hc with rfl | rfl | rfl | rfl | rfl | rfl | rfl | rfl | rfl | rfl | rfl | rfl | rfl | rfl | rfl | rfl | rfl | rfl | rfl | rfl | rfl | rfl | rfl | rfl | rfl | rfl | rfl | rfl | rfl | rfl | rfl | rfl
  all_goals
    simp only [Int.reducePow, Nat.reduceDiv, Nat.reduceMod, Nat.reduceMul] at h ⊢
    unfold limbs
    simp only [List.getD_cons_zero, List.getD_cons_succ, List.set_cons_zero, List.set_cons_succ, wrap_eq, List.cons.injEq, and_true]
    refine ⟨?_, ?_, ?_, ?_⟩ <;> omega
theorem leN_succ {l : List Int} {j : Nat} (h : j < l.length) : leN (l.take (j + 1)) = leN (l.take j) + 256 ^ j * l.getD j 0 := by
  rw [List.take_add_one, List.getElem?_eq_getElem h, Option.toList_some, leN_app, List.length_take, Nat.min_eq_left (by omega), List.getD, List.getElem?_eq_getElem h]
  simp [leN]
end Go.Ch
namespace Go.Proofs.Ytfmgodgakndjcaa
open Go.Ev Go.Sh Go.Ch
set_option maxRecDepth 100000
def nuTs : List Nat := [0, 2, 3, 4]
def nuV (s : NuS) : List AV := [.slice true 0 0 s.n none 1, .ptr false 1 0, .ptr false 2 0, .int true .i64 s.i]
def nuM (s : NuS) : Mem := [some ⟨false, .ints .u8 (some s.m) s.p⟩, some ⟨true, .ints .u64 (some 4) s.r⟩, some ⟨true, .ints .u64 (some 4) s.w⟩]
def nuD (s : NuS) : List Bool := [decide (s.n < 9223372036854775808), decide (s.i < (s.n : Int)), decide (0 ≤ IntKind.i64.wrap (s.i.tdiv 8)) && decide (IntKind.i64.wrap (s.i.tdiv 8) < ((4 : Nat) : Int)), decide (0 + (IntKind.i64.wrap (s.i.tdiv 8)).toNat * 1 + 1 ≤ 4), decide (0 ≤ s.i) && decide (s.i < (s.n : Int)), decide (0 + s.i.toNat * 1 + 1 ≤ s.m), !decide (IntKind.i64.wrap (8 * s.i.tmod 8) < 0), decide (0 ≤ IntKind.i64.wrap (s.i.tdiv 8)) && decide (IntKind.i64.wrap (s.i.tdiv 8) < ((4 : Nat) : Int)), decide (0 + (IntKind.i64.wrap (s.i.tdiv 8)).toNat * 1 + 1 ≤ 4)]
theorem nu_t (w : Nat → AV) (s : NuS) : seesL nuTs ((codeL Try.prog qD (deep Try.prog qD hy3 100 3) (fun _ _ => none) 100 (lp (blk 0 (bodyOf Try.prog 71))) ⟨tmOf (ups w (zipU nuTs (nuV s))) 27, nuM s⟩).go [true]) = some (nuD s, 0, nuV { s with i := IntKind.i64.wrap (s.i + 1) }, 27, nuM { s with w := nuW s }) := by
  obtain ⟨m, p, n, r, w, i⟩ := s
  kernel_rfl
theorem nu_f (w : Nat → AV) (s : NuS) : seesL nuTs ((codeL Try.prog qD (deep Try.prog qD hy3 100 3) (fun _ _ => none) 100 (lp (blk 0 (bodyOf Try.prog 71))) ⟨tmOf (ups w (zipU nuTs (nuV s))) 27, nuM s⟩).go [false]) = some ([decide (s.n < 9223372036854775808), !decide (s.i < (s.n : Int))], 2, nuV s, 27, nuM s) := by
  obtain ⟨m, p, n, r, w, i⟩ := s
  kernel_rfl
def nuP : List AV → Mem → Option (NuS × List Bool)
  | [.slice true 0 0 n none 1, .ptr false 1 0, .ptr false 2 0, .int false .i64 i], [some ⟨false, .ints .u8 (some m) p⟩, some ⟨true, .ints .u64 (some 4) r⟩, some ⟨true, .ints .u64 (some 4) w⟩] =>
    some (⟨m, p, n, r, w, i⟩, [decide (i = 0), decide (w = [0, 0, 0, 0]), decide (n = p.length), decide (m = p.length), decide (n ≤ 32), al8 p])
  | _, _ => none
def nuF (p : NuS × List Bool) : List (Nat × AV) × Mem := ([(2, .ptr false 1 0), (3, .ptr false 2 0)], nuM { p.1 with w := Go.Wn.limbs (leN p.1.p) })
def nuΛ (Λ : LoopH) : LoopH := famH 0 27 nuTs nuP (fun p => p.2) nuF Λ
def nuI (p s : NuS × List Bool) : Prop := p.1.n = p.1.p.length ∧ p.1.m = p.1.p.length ∧ p.1.p.length ≤ 32 ∧ (∀ x ∈ p.1.p, B8 x) ∧ ∃ j : Nat, j ≤ p.1.p.length ∧ s.1 = { p.1 with w := Go.Wn.limbs (leN (p.1.p.take j)), i := (j : Int) }
theorem nu_lok {Λ : LoopH} (hΛ : LOk Try.prog (bodyOf Try.prog 71) Λ) : LOk Try.prog (bodyOf Try.prog 71) (nuΛ Λ) := by
  refine fam_ok (q := qD) (n := 100) (fun p : NuS × List Bool => nuV p.1) (fun p => nuM p.1) nuI (fun s => s.1.n - s.1.i.toNat) mixed (hy3_ok.deep (q := qD) mixed noCount 100 3) hΛ LOk.none (by kernel_rfl) (by kernel_rfl) (fun s => rfl) (fun s => rfl) (fun avs mm p h ho => ?_) (fun p s hJ w => ?_)
  · unfold nuP at h
    split at h
    · rename_i n i m p r w
      cases h
      have p0 := of_decide_eq_true (ho _ (List.mem_cons_self ..))
      have p1 := of_decide_eq_true (ho _ (List.mem_cons_of_mem _ (List.mem_cons_self ..)))
      have p2 := of_decide_eq_true (ho _ (List.mem_cons_of_mem _ (List.mem_cons_of_mem _ (List.mem_cons_self ..))))
      have p3 := of_decide_eq_true (ho _ (List.mem_cons_of_mem _ (List.mem_cons_of_mem _ (List.mem_cons_of_mem _ (List.mem_cons_self ..)))))
      have p4 := of_decide_eq_true (ho _ (List.mem_cons_of_mem _ (List.mem_cons_of_mem _ (List.mem_cons_of_mem _ (List.mem_cons_of_mem _ (List.mem_cons_self ..))))))
      have p5 := ho _ (List.mem_cons_of_mem _ (List.mem_cons_of_mem _ (List.mem_cons_of_mem _ (List.mem_cons_of_mem _ (List.mem_cons_of_mem _ (List.mem_cons_self ..))))))
      subst p0 p1
      exact ⟨(⟨m, p, n, r, [0, 0, 0, 0], 0⟩, []), .cons (.refl _) (.cons (.refl _) (.cons (.refl _) (.cons (.int _ _ _) .nil))), rfl, p2, p3, by show p.length ≤ 32; omega, al8_mem p5, 0, Nat.zero_le _, rfl⟩
    · cases h
  · obtain ⟨h1, h2, h3, h4, j, h5, hs⟩ := hJ
    obtain ⟨⟨m, p, n, r, w0, i⟩, b⟩ := p
    obtain ⟨s, b'⟩ := s
    simp only at h1 h2 h3 h4 h5 hs
    subst hs
    by_cases hend : j = p.length
    · subst hend
      refine Round.out (nu_f w _) rfl (by simp only [nuF, List.take_length]; rfl) (paid_cons (decide_eq_true (by simp only; omega)) (paid_cons (by simp; omega) Paid.nil)) fun q hq => ?_
      simp only [nuF, List.mem_cons, List.not_mem_nil, or_false] at hq
      rcases hq with rfl | rfl
      · exact ⟨_, List.mem_cons_of_mem _ (List.mem_cons_self ..), .refl _⟩
      · exact ⟨_, List.mem_cons_of_mem _ (List.mem_cons_of_mem _ (List.mem_cons_self ..)), .refl _⟩
    · have hw : IntKind.i64.wrap ((j : Int) + 1) = ((j + 1 : Nat) : Int) := by unfold IntKind.wrap; simp [IntKind.bits, IntKind.signed]; omega
      have e8 : IntKind.i64.wrap ((j : Int).tdiv 8) = ((j / 8 : Nat) : Int) := by rw [Int.tdiv_eq_ediv_of_nonneg (by omega)]; unfold IntKind.wrap; simp [IntKind.bits, IntKind.signed]; omega
      have m8 : IntKind.i64.wrap (8 * (j : Int).tmod 8) = ((8 * (j % 8) : Nat) : Int) := by rw [Int.tmod_eq_emod_of_nonneg (by omega)]; unfold IntKind.wrap; simp [IntKind.bits, IntKind.signed]; omega
      have eJ : 0 + ((j : Int)).toNat * 1 = j := by omega
      have eQ : 0 + (((j / 8 : Nat) : Int)).toNat * 1 = j / 8 := by omega
      have hb := get_b8 h4 j
      have hlt := leN_bound (l := p.take j) fun x hx => h4 x (List.mem_of_mem_take hx)
      have hl : (p.take j).length = j := by rw [List.length_take]; omega
      rw [hl] at hlt
      have hN : nuW ⟨m, p, n, r, Go.Wn.limbs (leN (p.take j)), (j : Int)⟩ = Go.Wn.limbs (leN (p.take (j + 1))) := by
        unfold nuW
        simp only [e8, m8, eJ, eQ]
        unfold B8 at hb
        rw [Go.Wn.uw64 (y := p.getD j 0) (by omega), sl64 (8 * (j % 8)) (by omega)]
        have hsm : p.getD j 0 * 2 ^ (8 * (j % 8)) % 2 ^ 64 = p.getD j 0 * 2 ^ (8 * (j % 8)) := by
          refine Int.emod_eq_of_lt (Int.mul_nonneg hb.1 (Int.le_of_lt (pos2 _))) ?_
          have k1 : (2 : Int) ^ (8 * (j % 8)) ≤ 2 ^ 56 := by
            have := Nat.pow_le_pow_right (show 0 < 2 by decide) (show 8 * (j % 8) ≤ 56 by omega)
            have e : ∀ n : Nat, (2 : Int) ^ n = ((2 ^ n : Nat) : Int) := fun n => (Int.natCast_pow 2 n).symm
            rw [e, e]; exact Int.ofNat_le.2 this
          have k2 : p.getD j 0 * 2 ^ (8 * (j % 8)) ≤ 255 * 2 ^ (8 * (j % 8)) := Int.mul_le_mul_of_nonneg_right (by omega) (Int.le_of_lt (pos2 _))
          have k3 : (2 : Int) ^ 56 = 72057594037927936 := rfl
          have k4 : (2 : Int) ^ 64 = 18446744073709551616 := rfl
          rw [k4]
          omega
        rw [hsm, leN_succ (by omega)]
        exact limb_step hlt.1 hb j (by omega) hlt.2
      refine Round.on (nu_t w ⟨m, p, n, r, Go.Wn.limbs (leN (p.take j)), (j : Int)⟩) (⟨m, p, n, r, Go.Wn.limbs (leN (p.take (j + 1))), ((j + 1 : Nat) : Int)⟩, b') [] ?_ ?_ ?_ ⟨h1, h2, h3, h4, j + 1, by simp only; omega, rfl⟩ rfl (by simp only; omega)
      · rw [List.append_nil, ← hN]
        rfl
      · unfold nuD
        simp only [e8, m8]
        exact paid_cons (decide_eq_true (by omega)) (paid_cons (decide_eq_true (by omega)) (paid_cons (by rw [decide_eq_true (by omega), decide_eq_true (by omega)]; rfl) (paid_cons (decide_eq_true (by omega)) (paid_cons (by rw [decide_eq_true (by omega), decide_eq_true (by omega)]; rfl) (paid_cons (decide_eq_true (by omega)) (paid_cons (by simp; omega) (paid_cons (by rw [decide_eq_true (by omega), decide_eq_true (by omega)]; rfl) (paid_cons (decide_eq_true (by omega)) Paid.nil))))))))
      · simp only [hw]
        exact LeL.refl _
theorem nm_eval (n : Nat) (l : List Int) : res ((funcL Try.prog qD (deep Try.prog qD hy3 100 3) (nuΛ fun _ _ => none) 100 71 (cArgs 0 [.buf true .u8 n l]) (cMem [.buf true .u8 n l])).go []) = some ([true, true, decide (n = l.length), decide (n = l.length), decide (n ≤ 32), al8 l], .ints .u64 4 (Go.Wn.limbs (leN l))) := by kernel_rfl
def nmS : List V → E (AV × Mem)
  | [.buf _ .u8 n l] => some ([decide (n ≤ 32)], (.ints .u64 4 (Go.Wn.limbs (leN l)), []))
  | _ => none
theorem nm_ok {xs : List V} {o : List Bool} {v : AV} {bs : Mem} (h : nmS xs = some (o, (v, bs))) (ho : Paid o) : ViewCall Try.prog 71 xs v bs := by
  unfold nmS at h
  split at h
  case h_2 => cases h
  rename_i s n l
  cases h
  have hn := ho _ (List.mem_cons_self ..)
  intro ρ vs w ha hi
  obtain ⟨n1, r1⟩ := buf_arg hi 0 rfl
  have ha2 : Reps ρ (upto 1) (cArgs 0 [.buf true .u8 n l]) vs := by
    cases ha with | cons _ _ u us a0 hs => exact .cons _ _ _ _ (markedS a0) hs
  exact view_of_goL mixed noCount (hy3_ok.deep mixed noCount 100 3) (fun fn c hf hb => by rw [bodyOf_eq hf hb]; exact nu_lok LOk.none) [] (nm_eval n l) (paid_cons rfl (paid_cons rfl (paid_cons (decide_eq_true n1.symm) (paid_cons (decide_eq_true n1.symm) (paid_cons hn (paid_cons (al8_of fun x hx => inR_b8 (r1 x hx)) Paid.nil)))))) rfl rfl ha2 hi
def hy4 : CallH := withV 71 nmS hy3
theorem hy4_ok : HOk Try.prog hy4 := hy3_ok.withV fun _ _ _ _ h ho => nm_ok h ho
end Go.Proofs.Ytfmgodgakndjcaa
namespace Go.Ch
open Go.Ev Go.Sh
structure PoS where
  kn : Nat
  k : List Int
  m : Nat
  p : List Int
  n : Nat
  t : List Int
  kk : List Int
  r : List Int
  h : List Int
  i : Int
def PM : List Int := [18446744073709551611, 18446744073709551615, 3, 0]
def pE (n : Nat) (i : Int) : Int := if (n : Int) < IntKind.i64.wrap (i + 16) then (n : Int) else IntKind.i64.wrap (i + 16)
def pT (n : Nat) (i : Int) : Nat := (pE n i).toNat - i.toNat
def pB0 (p : List Int) (n : Nat) (i : Int) : List Int := (p.drop (0 + i.toNat * 1)).take (pT n i)
def pB1 (p : List Int) (n : Nat) (i : Int) : List Int := ((pB0 p n i).drop 0).take (pT n i) ++ [1]
def poH (s : PoS) : List Int := Go.Wn.limbs (Go.Wn.val (Go.Wn.limbs ((Go.Wn.val s.h + Go.Wn.val (Go.Wn.limbs (leN (((pB1 s.p s.n s.i).drop 0).take (pT s.n s.i + 1))))) % Go.Wn.val PM)) * Go.Wn.val s.r % Go.Wn.val PM)
def poD (s : PoS) : List Bool := [decide (s.n < 9223372036854775808), decide (s.i < (s.n : Int)), decide (s.n < 9223372036854775808), decide (0 ≤ pE s.n s.i) && decide (pE s.n s.i ≤ (s.n : Int)), decide (0 ≤ s.i) && decide (s.i ≤ ((pE s.n s.i).toNat : Int)), decide (0 + s.i.toNat * 1 + pT s.n s.i ≤ s.m), decide (1 ≤ pT s.n s.i) && decide (pT s.n s.i ≤ 1000000000), decide (0 + pT s.n s.i ≤ (pB0 s.p s.n s.i).length), decide (pT s.n s.i + 1 ≤ 1000000000), decide (0 + (pT s.n s.i + 1) ≤ (pB1 s.p s.n s.i).length), decide (pT s.n s.i + 1 ≤ 32), true, true]
/-- The number after j pieces. -/
def pyN (R : Int) (p : List Int) : Nat → Int
  | 0 => 0
  | j + 1 => ((pyN R p j + leN (chk p j ++ [1])) * R) % 1361129467683753853853498429727072845819
theorem pyN_b (R : Int) (p : List Int) : ∀ j, 0 ≤ pyN R p j ∧ pyN R p j < 1361129467683753853853498429727072845819
  | 0 => ⟨Int.le_refl _, show (0 : Int) < 1361129467683753853853498429727072845819 by decide⟩
  | j + 1 => ⟨Int.emod_nonneg _ (by decide), Int.emod_lt_of_pos _ (by decide)⟩
/-- Both reckon the same. -/
theorem pv_py (R : Int) (p : List Int) : ∀ j, pvN R p j % 1361129467683753853853498429727072845819 = pyN R p j
  | 0 => rfl
  | j + 1 => by
    have h := pv_py R p j
    unfold pvN pyN
    rw [fold5_mod, ← h, Int.mul_comm R, Int.mul_emod, Int.add_emod, ← Int.add_emod, Int.mul_emod (pvN R p j % _ + _)]
    rw [Int.emod_add_emod]
theorem val_l {x : Int} (h : 0 ≤ x ∧ x < 115792089237316195423570985008687907853269984665640564039457584007913129639936) : Go.Wn.val (Go.Wn.limbs x) = x := by
  rw [Go.Wn.val_limbs]
  exact Int.emod_eq_of_lt h.1 h.2
theorem pE_eq {n j : Nat} (hn : n < 4611686018427387904) (hj : 16 * j < n) : pE n ((16 * j : Nat) : Int) = ((min n (16 * j + 16) : Nat) : Int) ∧ pT n ((16 * j : Nat) : Int) = min 16 (n - 16 * j) := by
  have e : IntKind.i64.wrap (((16 * j : Nat) : Int) + 16) = ((16 * j + 16 : Nat) : Int) := by unfold IntKind.wrap; simp [IntKind.bits, IntKind.signed]; omega
  have h : pE n ((16 * j : Nat) : Int) = ((min n (16 * j + 16) : Nat) : Int) := by
    unfold pE
    rw [e]
    split <;> omega
  refine ⟨h, ?_⟩
  unfold pT
  rw [h]
  omega
theorem pc_eq {p : List Int} {n j : Nat} (hp : p.length = n) (hn : n < 4611686018427387904) (hj : 16 * j < n) : pB0 p n ((16 * j : Nat) : Int) = chk p j ∧ ((pB1 p n ((16 * j : Nat) : Int)).drop 0).take (pT n ((16 * j : Nat) : Int) + 1) = chk p j ++ [1] ∧ (chk p j).length = pT n ((16 * j : Nat) : Int) ∧ (pB1 p n ((16 * j : Nat) : Int)).length = pT n ((16 * j : Nat) : Int) + 1 := by
  obtain ⟨h1, h2⟩ := pE_eq hn hj
  have hl : (chk p j).length = pT n ((16 * j : Nat) : Int) := by rw [chk_len, h2, hp]
  have e0 : pB0 p n ((16 * j : Nat) : Int) = chk p j := by
    unfold pB0
    rw [h2, show 0 + ((16 * j : Nat) : Int).toNat * 1 = 16 * j by omega]
    unfold chk
    by_cases h16 : 16 ≤ n - 16 * j
    · rw [Nat.min_eq_left h16]
    · rw [Nat.min_eq_right (by omega), List.take_of_length_le (l := p.drop (16 * j)) (i := 16) (by rw [List.length_drop]; omega), List.take_of_length_le (by rw [List.length_drop]; omega)]
  have e1 : pB1 p n ((16 * j : Nat) : Int) = chk p j ++ [1] := by
    unfold pB1
    rw [e0, List.drop_zero, List.take_of_length_le (Nat.le_of_eq hl)]
  refine ⟨e0, ?_, hl, by rw [e1, List.length_append, hl]; rfl⟩
  rw [e1, List.drop_zero, List.take_of_length_le (by rw [List.length_append, hl]; exact Nat.le_refl _)]
end Go.Ch
namespace Go.Proofs.Ytfmgodgakndjcaa
open Go.Ev Go.Sh Go.Ch
set_option maxRecDepth 100000
def poTs : List Nat := [0, 1, 4, 5, 9, 10, 11]
def poV (s : PoS) : List AV := [.slice false 0 0 s.kn none 1, .slice true 1 0 s.n none 1, .ptr false 2 0, .ptr false 3 0, .ptr false 5 0, .ptr false 6 0, .int true .i64 s.i]
def poM (s : PoS) : Mem := [some ⟨false, .ints .u8 (some s.kn) s.k⟩, some ⟨false, .ints .u8 (some s.m) s.p⟩, some ⟨true, .ints .u8 (some 16) s.t⟩, some ⟨true, .ints .u64 (some 4) PM⟩, some ⟨true, .ints .u8 (some 16) s.kk⟩, some ⟨true, .ints .u64 (some 4) s.r⟩, some ⟨true, .ints .u64 (some 4) s.h⟩]
theorem po_t (w : Nat → AV) (s : PoS) : seesL poTs ((codeL Try.prog qD (deep Try.prog qD hy4 100 3) (fun _ _ => none) 100 (lp (blk 4 (bodyOf Try.prog 52))) ⟨tmOf (ups w (zipU poTs (poV s))) 94, poM s⟩).go [true]) = some (poD s, 0, poV { s with i := IntKind.i64.wrap (s.i + 16) }, 94, poM { s with h := poH s } ++ [none, some ⟨true, .vals [.int false .u8 1]⟩, some ⟨true, .ints .u8 none (pB1 s.p s.n s.i)⟩]) := by
  obtain ⟨kn, k, m, p, n, t, kk, r, h, i⟩ := s
  kernel_rfl
theorem po_f (w : Nat → AV) (s : PoS) : seesL poTs ((codeL Try.prog qD (deep Try.prog qD hy4 100 3) (fun _ _ => none) 100 (lp (blk 4 (bodyOf Try.prog 52))) ⟨tmOf (ups w (zipU poTs (poV s))) 94, poM s⟩).go [false]) = some ([decide (s.n < 9223372036854775808), !decide (s.i < (s.n : Int))], 6, poV s, 94, poM s) := by
  obtain ⟨kn, k, m, p, n, t, kk, r, h, i⟩ := s
  kernel_rfl
def poP : List AV → Mem → Option (PoS × List Bool)
  | [.slice false 0 0 kn none 1, .slice true 1 0 n none 1, .ptr false 2 0, .ptr false 3 0, .ptr false 5 0, .ptr false 6 0, .int false .i64 i], [some ⟨false, .ints .u8 (some kn2) k⟩, some ⟨false, .ints .u8 (some m) p⟩, some ⟨true, .ints .u8 (some 16) t⟩, some ⟨true, .ints .u64 (some 4) pm⟩, some ⟨true, .ints .u8 (some 16) kk⟩, some ⟨true, .ints .u64 (some 4) r⟩, some ⟨true, .ints .u64 (some 4) h⟩] =>
    some (⟨kn, k, m, p, n, t, kk, r, h, i⟩, [decide (i = 0), decide (h = [0, 0, 0, 0]), decide (kn2 = kn), decide (pm = PM), decide (n = p.length), decide (m = p.length), decide (n < 4611686018427387904), al8 p, decide (0 ≤ Go.Wn.val r), decide (Go.Wn.val r < 21267647932558653966460912964485513216)])
  | _, _ => none
def poF (p : PoS × List Bool) : List (Nat × AV) × Mem := ([(0, .slice false 0 0 p.1.kn none 1), (4, .ptr false 2 0), (5, .ptr false 3 0), (10, .ptr false 6 0)], poM { p.1 with h := Go.Wn.limbs (pyN (Go.Wn.val p.1.r) p.1.p ((p.1.p.length + 15) / 16)) })
def poΛ (Λ : LoopH) : LoopH := famH 4 94 poTs poP (fun p => p.2) poF Λ
def poI (p s : PoS × List Bool) : Prop := p.1.n = p.1.p.length ∧ p.1.m = p.1.p.length ∧ p.1.n < 4611686018427387904 ∧ (∀ x ∈ p.1.p, B8 x) ∧ 0 ≤ Go.Wn.val p.1.r ∧ Go.Wn.val p.1.r < 21267647932558653966460912964485513216 ∧ ∃ j : Nat, j ≤ (p.1.p.length + 15) / 16 ∧ s.1 = { p.1 with h := Go.Wn.limbs (pyN (Go.Wn.val p.1.r) p.1.p j), i := ((16 * j : Nat) : Int) }
theorem po_lok {Λ : LoopH} (hΛ : LOk Try.prog (bodyOf Try.prog 52) Λ) : LOk Try.prog (bodyOf Try.prog 52) (poΛ Λ) := by
  refine fam_ok (q := qD) (n := 100) (fun p : PoS × List Bool => poV p.1) (fun p => poM p.1) poI (fun s => s.1.n + 16 - s.1.i.toNat) mixed (hy4_ok.deep (q := qD) mixed noCount 100 3) hΛ LOk.none (by kernel_rfl) (by kernel_rfl) (fun s => rfl) (fun s => rfl) (fun avs mm p h ho => ?_) (fun p s hJ w => ?_)
  · unfold poP at h
    split at h
    · rename_i kn n i kn2 k m p t pm kk r h0
      cases h
      have p0 := of_decide_eq_true (ho _ (List.mem_cons_self ..))
      have p1 := of_decide_eq_true (ho _ (List.mem_cons_of_mem _ (List.mem_cons_self ..)))
      have p2 := of_decide_eq_true (ho _ (List.mem_cons_of_mem _ (List.mem_cons_of_mem _ (List.mem_cons_self ..))))
      have p3 := of_decide_eq_true (ho _ (List.mem_cons_of_mem _ (List.mem_cons_of_mem _ (List.mem_cons_of_mem _ (List.mem_cons_self ..)))))
      have p4 := of_decide_eq_true (ho _ (List.mem_cons_of_mem _ (List.mem_cons_of_mem _ (List.mem_cons_of_mem _ (List.mem_cons_of_mem _ (List.mem_cons_self ..))))))
      have p5 := of_decide_eq_true (ho _ (List.mem_cons_of_mem _ (List.mem_cons_of_mem _ (List.mem_cons_of_mem _ (List.mem_cons_of_mem _ (List.mem_cons_of_mem _ (List.mem_cons_self ..)))))))
      have p6 := of_decide_eq_true (ho _ (List.mem_cons_of_mem _ (List.mem_cons_of_mem _ (List.mem_cons_of_mem _ (List.mem_cons_of_mem _ (List.mem_cons_of_mem _ (List.mem_cons_of_mem _ (List.mem_cons_self ..))))))))
      have p7 := ho _ (List.mem_cons_of_mem _ (List.mem_cons_of_mem _ (List.mem_cons_of_mem _ (List.mem_cons_of_mem _ (List.mem_cons_of_mem _ (List.mem_cons_of_mem _ (List.mem_cons_of_mem _ (List.mem_cons_self ..))))))))
      have p8 := of_decide_eq_true (ho _ (List.mem_cons_of_mem _ (List.mem_cons_of_mem _ (List.mem_cons_of_mem _ (List.mem_cons_of_mem _ (List.mem_cons_of_mem _ (List.mem_cons_of_mem _ (List.mem_cons_of_mem _ (List.mem_cons_of_mem _ (List.mem_cons_self ..))))))))))
      have p9 := of_decide_eq_true (ho _ (List.mem_cons_of_mem _ (List.mem_cons_of_mem _ (List.mem_cons_of_mem _ (List.mem_cons_of_mem _ (List.mem_cons_of_mem _ (List.mem_cons_of_mem _ (List.mem_cons_of_mem _ (List.mem_cons_of_mem _ (List.mem_cons_of_mem _ (List.mem_cons_self ..)))))))))))
      subst p0 p1 p2 p3
      exact ⟨(⟨kn2, k, m, p, n, t, kk, r, [0, 0, 0, 0], 0⟩, []), .cons (.refl _) (.cons (.refl _) (.cons (.refl _) (.cons (.refl _) (.cons (.refl _) (.cons (.refl _) (.cons (.int _ _ _) .nil)))))), rfl, p4, p5, p6, al8_mem p7, p8, p9, 0, Nat.zero_le _, rfl⟩
    · cases h
  · obtain ⟨h1, h2, h3, h4, h6, h7, j, h5, hs⟩ := hJ
    obtain ⟨⟨kn, k, m, p, n, t, kk, r, h0, i⟩, b⟩ := p
    obtain ⟨s, b'⟩ := s
    simp only at h1 h2 h3 h4 h5 h6 h7 hs
    subst hs
    by_cases hend : j = (p.length + 15) / 16
    · subst hend
      refine Round.out (po_f w _) rfl rfl (paid_cons (decide_eq_true (by simp only; omega)) (paid_cons (by simp; omega) Paid.nil)) fun q hq => ?_
      simp only [poF, List.mem_cons, List.not_mem_nil, or_false] at hq
      rcases hq with rfl | rfl | rfl | rfl
      · exact ⟨_, List.mem_cons_self .., .refl _⟩
      · exact ⟨_, List.mem_cons_of_mem _ (List.mem_cons_of_mem _ (List.mem_cons_self ..)), .refl _⟩
      · exact ⟨_, List.mem_cons_of_mem _ (List.mem_cons_of_mem _ (List.mem_cons_of_mem _ (List.mem_cons_self ..))), .refl _⟩
      · exact ⟨_, List.mem_cons_of_mem _ (List.mem_cons_of_mem _ (List.mem_cons_of_mem _ (List.mem_cons_of_mem _ (List.mem_cons_of_mem _ (List.mem_cons_self ..))))), .refl _⟩
    · have hj : 16 * j < n := by omega
      have hw : IntKind.i64.wrap (((16 * j : Nat) : Int) + 16) = ((16 * (j + 1) : Nat) : Int) := by unfold IntKind.wrap; simp [IntKind.bits, IntKind.signed]; omega
      obtain ⟨e1, e2⟩ := pE_eq h3 hj
      obtain ⟨b0, b1, b2, b3⟩ := pc_eq h1.symm h3 hj
      obtain ⟨y1, y2⟩ := pyN_b (Go.Wn.val r) p j
      obtain ⟨c1, c2⟩ := chk_lt h4 j
      have c3 := chk_lt2 h4 j
      have vP : Go.Wn.val PM = 1361129467683753853853498429727072845819 := by decide +kernel
      have hH : poH ⟨kn, k, m, p, n, t, kk, r, Go.Wn.limbs (pyN (Go.Wn.val r) p j), ((16 * j : Nat) : Int)⟩ = Go.Wn.limbs (pyN (Go.Wn.val r) p (j + 1)) := by
        unfold poH
        simp only
        rw [b1, vP, val_l (x := pyN (Go.Wn.val r) p j) ⟨y1, by omega⟩, val_l (x := leN (chk p j ++ [1])) ⟨c1, by omega⟩]
        have m1 : 0 ≤ (pyN (Go.Wn.val r) p j + leN (chk p j ++ [1])) % 1361129467683753853853498429727072845819 ∧ (pyN (Go.Wn.val r) p j + leN (chk p j ++ [1])) % 1361129467683753853853498429727072845819 < 1361129467683753853853498429727072845819 := ⟨Int.emod_nonneg _ (by decide), Int.emod_lt_of_pos _ (by decide)⟩
        rw [val_l (x := (pyN (Go.Wn.val r) p j + leN (chk p j ++ [1])) % 1361129467683753853853498429727072845819) ⟨m1.1, Int.lt_trans m1.2 (by decide)⟩]
        show _ = Go.Wn.limbs (((pyN (Go.Wn.val r) p j + leN (chk p j ++ [1])) * Go.Wn.val r) % 1361129467683753853853498429727072845819)
        rw [Int.mul_emod (pyN (Go.Wn.val r) p j + leN (chk p j ++ [1])), Int.mul_emod, Int.emod_emod]
      refine Round.on (po_t w ⟨kn, k, m, p, n, t, kk, r, Go.Wn.limbs (pyN (Go.Wn.val r) p j), ((16 * j : Nat) : Int)⟩) (⟨kn, k, m, p, n, t, kk, r, Go.Wn.limbs (pyN (Go.Wn.val r) p (j + 1)), ((16 * (j + 1) : Nat) : Int)⟩, b') ([none, some ⟨true, .vals [.int false .u8 1]⟩, some ⟨true, .ints .u8 none (pB1 p n ((16 * j : Nat) : Int))⟩]) ?_ ?_ ?_ ⟨h1, h2, h3, h4, h6, h7, j + 1, by simp only; omega, rfl⟩ rfl (by simp only; omega)
      · rw [← hH]
        rfl
      · unfold poD
        simp only [e1, e2, b0] at b2 b3 ⊢
        rw [b2, b3]
        exact paid_cons (decide_eq_true (by omega)) (paid_cons (decide_eq_true (by omega)) (paid_cons (decide_eq_true (by omega)) (paid_cons (by rw [decide_eq_true (by omega), decide_eq_true (by omega)]; rfl) (paid_cons (by rw [decide_eq_true (by omega), decide_eq_true (by omega)]; rfl) (paid_cons (decide_eq_true (by omega)) (paid_cons (by rw [decide_eq_true (by omega), decide_eq_true (by omega)]; rfl) (paid_cons (decide_eq_true (by omega)) (paid_cons (decide_eq_true (by omega)) (paid_cons (decide_eq_true (by omega)) (paid_cons (decide_eq_true (by omega)) (paid_cons rfl (paid_cons rfl Paid.nil))))))))))))
      · simp only [hw]
        exact LeL.refl _
end Go.Proofs.Ytfmgodgakndjcaa
