/- The program's code for one use: its loop as a family, its contract. Own work. -/
import Derived.Test.YtfmgodgakndjcaaSChP
set_option linter.unusedSimpArgs false
set_option linter.unusedVariables false
set_option linter.unusedSectionVars false
namespace Go.Ch
open Go.Ev Go.Sh
structure CdS where
  m : Nat
  p : List Int
  k : List Int
  t : List Int
  r0 : Int
  r1 : Int
  b : Bool
  V : Int
  off : Nat
  len : Nat
def hcl (b : Bool) (V : Int) : List AV := match b with
  | false => [.int false .u64 0, .int false .u64 0, .int false .u64 0]
  | true => [.int true .u64 (g0 V), .int true .u64 (g1 V), .int true .u64 (g2 V)]
def hc0 (b : Bool) (V : Int) : Int := match b with | false => 0 | true => g0 V
def hc1 (b : Bool) (V : Int) : Int := match b with | false => 0 | true => g1 V
def hc2 (b : Bool) (V : Int) : Int := match b with | false => 0 | true => g2 V
def Z17 : List Int := [0, 0, 0, 0, 0, 0, 0, 0, 0, 0, 0, 0, 0, 0, 0, 0, 0]
/-- A piece of the text, and a byte 1 behind it. -/
def cdL (p : List Int) (off len : Nat) : List Int := (Z17.take 0 ++ ((p.drop off).take len).take (len.min 16) ++ Z17.drop (0 + len.min 16)).set (0 + ((len.min 16 : Nat) : Int).toNat * 1) 1
def cdW (p : List Int) (off len : Nat) : Int := v3 (leN (((cdL p off len).drop 0).take 8)) (leN (((cdL p off len).drop 8).take 8)) (IntKind.u64.wrap ((cdL p off len).getD 16 0))
def cdY (s : CdS) : Int := v3 (hc0 s.b s.V) (hc1 s.b s.V) (hc2 s.b s.V) + cdW s.p s.off s.len
def cdN (s : CdS) : Int := fold5 ((s.r0 + 18446744073709551616 * s.r1) * v3 (g0 (cdY s)) (g1 (cdY s)) (g2 (cdY s)))
def chk (p : List Int) (j : Nat) : List Int := (p.drop (16 * j)).take 16
/-- The number after j pieces. -/
def pvN (R : Int) (p : List Int) : Nat → Int
  | 0 => 0
  | j + 1 => fold5 (R * (pvN R p j + leN (chk p j ++ [1])))
theorem chk_b8 {p : List Int} (h : ∀ x ∈ p, B8 x) (j : Nat) : ∀ x ∈ chk p j ++ [1], B8 x := fun x hx => by
  rcases List.mem_append.1 hx with hx | hx
  · exact h x (List.mem_of_mem_drop (List.mem_of_mem_take hx))
  · rw [List.mem_singleton] at hx; subst hx; exact ⟨by decide, by decide⟩
theorem chk_len (p : List Int) (j : Nat) : (chk p j).length = min 16 (p.length - 16 * j) := by simp [chk]
theorem pow256 {a b : Nat} (h : a ≤ b) : (256 : Int) ^ a ≤ 256 ^ b := by
  have := Nat.pow_le_pow_right (show 0 < 256 by decide) h
  have e : ∀ n : Nat, (256 : Int) ^ n = ((256 ^ n : Nat) : Int) := fun n => (Int.natCast_pow 256 n).symm
  rw [e, e]
  exact Int.ofNat_le.2 this
theorem chk_lt {p : List Int} (h : ∀ x ∈ p, B8 x) (j : Nat) : 0 ≤ leN (chk p j ++ [1]) ∧ leN (chk p j ++ [1]) < 87112285931760246646623899502532662132736 := by
  obtain ⟨h1, h2⟩ := leN_bound (chk_b8 h j)
  refine ⟨h1, ?_⟩
  have hl : (chk p j ++ [1]).length ≤ 17 := by rw [List.length_append, chk_len]; simp; omega
  have e : (256 : Int) ^ (chk p j ++ [1]).length ≤ 256 ^ 17 := pow256 hl
  have e2 : (256 : Int) ^ 17 = 87112285931760246646623899502532662132736 := by decide +kernel
  omega
/-- A piece's number is below 2^129. -/
theorem chk_lt2 {p : List Int} (h : ∀ x ∈ p, B8 x) (j : Nat) : leN (chk p j ++ [1]) < 680564733841876926926749214863536422912 := by
  rw [leN_app]
  obtain ⟨h1, h2⟩ := leN_bound (l := chk p j) fun x hx => chk_b8 h j x (List.mem_append_left _ hx)
  have hl : (chk p j).length ≤ 16 := by rw [chk_len]; omega
  have e : (256 : Int) ^ (chk p j).length ≤ 256 ^ 16 := pow256 hl
  have e2 : (256 : Int) ^ 16 = 340282366920938463463374607431768211456 := by decide +kernel
  simp only [leN]
  omega
theorem pv_bound {R : Int} {p : List Int} (hp : ∀ x ∈ p, B8 x) (h0 : 0 ≤ R) (hR : R < 21267647932558653966460912964485513216) : ∀ j, 0 ≤ pvN R p j ∧ pvN R p j < 1786482426335426933182716689641782910144
  | 0 => ⟨Int.le_refl _, show (0 : Int) < 1786482426335426933182716689641782910144 by decide⟩
  | j + 1 => by
    obtain ⟨h1, h2⟩ := pv_bound hp h0 hR j
    obtain ⟨h3, _⟩ := chk_lt hp j
    have h4 := chk_lt2 hp j
    unfold pvN
    refine fold5_lt (Int.mul_nonneg h0 (by omega)) ?_
    have y0 : 0 ≤ pvN R p j + leN (chk p j ++ [1]) := by omega
    have y1 : pvN R p j + leN (chk p j ++ [1]) < 2467047160177303860109465904505319333056 := by omega
    generalize pvN R p j + leN (chk p j ++ [1]) = y at y0 y1 ⊢
    have k1 : R * y ≤ 21267647932558653966460912964485513215 * y := Int.mul_le_mul_of_nonneg_right (by omega) (by omega)
    omega
theorem cdL_eq {p : List Int} {j : Nat} (h : 16 * j ≤ p.length) : leN (cdL p (16 * j) (p.length - 16 * j)) = leN (chk p j ++ [1]) ∧ (cdL p (16 * j) (p.length - 16 * j)).length = 17 := by
  have hn : (p.length - 16 * j).min 16 = (chk p j).length := by rw [chk_len]; show min (p.length - 16 * j) 16 = _; omega
  have hl : (chk p j).length ≤ 16 := by rw [chk_len]; omega
  have e1 : ((p.drop (16 * j)).take (p.length - 16 * j)).take ((p.length - 16 * j).min 16) = chk p j := by
    rw [List.take_take, hn, chk_len]
    unfold chk
    have : min (min 16 (p.length - 16 * j)) (p.length - 16 * j) = min 16 (p.length - 16 * j) := by omega
    rw [this]
    by_cases h16 : 16 ≤ p.length - 16 * j
    · rw [Nat.min_eq_left h16]
    · rw [Nat.min_eq_right (by omega), List.take_of_length_le (l := p.drop (16 * j)) (i := 16) (by rw [List.length_drop]; omega), List.take_of_length_le (by rw [List.length_drop]; omega)]
  have e2 : cdL p (16 * j) (p.length - 16 * j) = chk p j ++ 1 :: List.replicate (16 - (chk p j).length) 0 := by
    unfold cdL
    rw [e1, hn, Int.toNat_natCast, Nat.mul_one, Nat.zero_add]
    have ez : Z17 = List.replicate 17 0 := rfl
    rw [ez, List.take_zero, List.nil_append, List.drop_replicate]
    rw [List.set_append_right _ _ (Nat.le_refl _), Nat.sub_self, show 17 - (chk p j).length = (16 - (chk p j).length) + 1 by omega, List.replicate_succ, List.set_cons_zero]
  rw [e2]
  refine ⟨?_, by simp; omega⟩
  rw [leN_app, leN_app]
  simp only [leN, leN_zeros]
theorem leN_17 {l : List Int} (h : l.length = 17) (hb : ∀ x ∈ l, B8 x) : v3 (leN ((l.drop 0).take 8)) (leN ((l.drop 8).take 8)) (IntKind.u64.wrap (l.getD 16 0)) = leN l := by
  have h16 := get_b8 hb 16
  have hw : IntKind.u64.wrap (l.getD 16 0) = l.getD 16 0 := Go.Wn.uw64 (by unfold B8 at h16; omega)
  rw [hw, leN_take l 8 (by omega), leN_take (l.drop 8) 8 (by rw [List.length_drop]; omega), List.drop_drop, List.drop_zero]
  have e : l.drop (8 + 8) = [l.getD 16 0] := by
    rw [List.drop_eq_getElem_cons (show 8 + 8 < l.length by omega), List.drop_of_length_le (by omega), List.getD, List.getElem?_eq_getElem (show 16 < l.length by omega)]
    rfl
  rw [e]
  unfold v3
  simp only [leN]
  have e8 : (256 : Int) ^ 8 = 18446744073709551616 := by decide +kernel
  rw [e8]
  omega
theorem cdL_b8 {p : List Int} (hp : ∀ x ∈ p, B8 x) (off len : Nat) : ∀ x ∈ cdL p off len, B8 x := fun x hx => by
  unfold cdL at hx
  rcases List.mem_or_eq_of_mem_set hx with h1 | h1
  · rcases List.mem_append.1 h1 with h2 | h2
    · rcases List.mem_append.1 h2 with h3 | h3
      · simp at h3
      · exact hp x (List.mem_of_mem_drop (List.mem_of_mem_take (List.mem_of_mem_take h3)))
    · have h4 := List.mem_of_mem_drop h2
      have : x = 0 := by
        have ez : Z17 = List.replicate 17 0 := rfl
        rw [ez] at h4
        exact List.eq_of_mem_replicate h4
      rw [this]; exact ⟨by decide, by decide⟩
  · rw [h1]; exact ⟨by decide, by decide⟩
theorem cdW_eq {p : List Int} (hp : ∀ x ∈ p, B8 x) {j : Nat} (h : 16 * j ≤ p.length) : cdW p (16 * j) (p.length - 16 * j) = leN (chk p j ++ [1]) := by
  obtain ⟨e1, e2⟩ := cdL_eq h
  unfold cdW
  rw [leN_17 e2 (cdL_b8 hp _ _), e1]
theorem hc_v3 {b : Bool} {V : Int} (hb : b = false → V = 0) (h : 0 ≤ V ∧ V < 6277101735386680763835789423207666416102355444464034512896) : v3 (hc0 b V) (hc1 b V) (hc2 b V) = V := by
  cases b with
  | false => rw [hb rfl]; rfl
  | true => exact v3_g h
def al8 (l : List Int) : Bool := l.all fun x => decide (0 ≤ x) && decide (x < 256)
theorem al8_mem {l : List Int} (h : al8 l = true) : ∀ x ∈ l, B8 x := fun x hx => by
  have := List.all_eq_true.1 h x hx
  simp only [Bool.and_eq_true, decide_eq_true_eq] at this
  exact this
theorem al8_of {l : List Int} (h : ∀ x ∈ l, B8 x) : al8 l = true := List.all_eq_true.2 fun x hx => by
  have := h x hx
  unfold B8 at this
  rw [decide_eq_true this.1, decide_eq_true this.2]; rfl
def cdD (s : CdS) : List Bool := [decide (s.len < 9223372036854775808), decide ((s.len : Int) > 0), decide (s.off + s.len ≤ s.m), decide (0 + s.len.min 16 ≤ 17), decide (0 ≤ ((s.len.min 16 : Nat) : Int)) && decide (((s.len.min 16 : Nat) : Int) < ((17 : Nat) : Int)),
  decide (0 + ((s.len.min 16 : Nat) : Int).toNat * 1 + 1 ≤ 17), decide (0 ≤ ((s.len.min 16 : Nat) : Int)) && decide (((s.len.min 16 : Nat) : Int) ≤ (s.len : Int)), decide (v3 (g0 (cdY s)) (g1 (cdY s)) (g2 (cdY s)) < 5444517870735015415413993718908291383296), decide (s.r0 + 18446744073709551616 * s.r1 < 21267647932558653966460912964485513216)]
end Go.Ch
namespace Go.Proofs.Ytfmgodgakndjcaa
open Go.Ev Go.Sh Go.Ch
set_option maxRecDepth 100000
def cdTs : List Nat := [1, 2, 4, 5, 6]
def cdV (s : CdS) : List AV := [.slice true 1 s.off s.len none 1, .ptr false 2 0, .ptr false 3 0, .ptr false 4 0, .ptr false 5 0]
def cdM (s : CdS) : Mem := [none, some ⟨false, .ints .u8 (some s.m) s.p⟩, some ⟨true, .ints .u8 (some 32) s.k⟩, some ⟨true, .ints .u8 (some 16) s.t⟩, some ⟨true, .vals [.int true .u64 s.r0, .int true .u64 s.r1]⟩, some ⟨true, .vals (hcl s.b s.V)⟩]
theorem cd_t (w : Nat → AV) (s : CdS) : seesL cdTs ((codeL Try.prog qC (deep Try.prog qC hp2 100 3) (fun _ _ => none) 100 (lp (blk 0 (bodyOf Try.prog 70))) ⟨tmOf (ups w (zipU cdTs (cdV s))) 48, cdM s⟩).go [true]) =
    some (cdD s, 0, cdV { s with off := s.off + ((s.len.min 16 : Nat) : Int).toNat * 1, len := s.len - ((s.len.min 16 : Nat) : Int).toNat }, 48, cdM { s with b := true, V := cdN s } ++ [some ⟨true, .ints .u8 (some 17) (cdL s.p s.off s.len)⟩]) := by
  obtain ⟨m, p, k, t, r0, r1, b, V, off, len⟩ := s
  cases b <;> kernel_rfl
theorem cd_f (w : Nat → AV) (s : CdS) : seesL cdTs ((codeL Try.prog qC (deep Try.prog qC hp2 100 3) (fun _ _ => none) 100 (lp (blk 0 (bodyOf Try.prog 70))) ⟨tmOf (ups w (zipU cdTs (cdV s))) 48, cdM s⟩).go [false]) =
    some ([decide (s.len < 9223372036854775808), !decide ((s.len : Int) > 0)], 2, cdV s, 48, cdM s) := by
  obtain ⟨m, p, k, t, r0, r1, b, V, off, len⟩ := s
  cases b <;> kernel_rfl
def cdP : List AV → Mem → Option (CdS × List Bool)
  | [.slice true 1 0 len none 1, .ptr false 2 0, .ptr false 3 0, .ptr false 4 0, .ptr false 5 0], [none, some ⟨false, .ints .u8 (some m) p⟩, some ⟨true, .ints .u8 (some 32) k⟩, some ⟨true, .ints .u8 (some 16) t⟩, some ⟨true, .vals [.int true .u64 r0, .int true .u64 r1]⟩, some ⟨true, .vals [.int false .u64 0, .int false .u64 0, .int false .u64 0]⟩] =>
    some (⟨m, p, k, t, r0, r1, false, 0, 0, len⟩, [decide (len = p.length), decide (m = p.length), al8 p, decide (1 ≤ len), decide (len < 9223372036854775808), decide (0 ≤ r0 + 18446744073709551616 * r1), decide (r0 + 18446744073709551616 * r1 < 21267647932558653966460912964485513216)])
  | _, _ => none
def cdF (p : CdS × List Bool) : List (Nat × AV) × Mem := ([(2, .ptr false 2 0), (4, .ptr false 3 0), (6, .ptr false 5 0)], cdM { p.1 with b := true, V := pvN (p.1.r0 + 18446744073709551616 * p.1.r1) p.1.p ((p.1.p.length + 15) / 16) })
def cdΛ (Λ : LoopH) : LoopH := famH 0 48 cdTs cdP (fun p => p.2) cdF Λ
def cdI (p s : CdS × List Bool) : Prop := p.1.m = p.1.p.length ∧ (∀ x ∈ p.1.p, B8 x) ∧ 1 ≤ p.1.p.length ∧ p.1.p.length < 9223372036854775808 ∧ 0 ≤ p.1.r0 + 18446744073709551616 * p.1.r1 ∧ p.1.r0 + 18446744073709551616 * p.1.r1 < 21267647932558653966460912964485513216 ∧
  ∃ j : Nat, j ≤ (p.1.p.length + 15) / 16 ∧ s.1 = { p.1 with b := decide (0 < j), V := pvN (p.1.r0 + 18446744073709551616 * p.1.r1) p.1.p j, off := min (16 * j) p.1.p.length, len := p.1.p.length - min (16 * j) p.1.p.length }
theorem cd_lok {Λ : LoopH} (hΛ : LOk Try.prog (bodyOf Try.prog 70) Λ) : LOk Try.prog (bodyOf Try.prog 70) (cdΛ Λ) := by
  refine fam_ok (q := qC) (n := 100) (fun p : CdS × List Bool => cdV p.1) (fun p => cdM p.1) cdI (fun s => s.1.len) mixed (hp2_ok.deep (q := qC) mixed noCount 100 3) hΛ LOk.none (by kernel_rfl) (by kernel_rfl) (fun s => by obtain ⟨⟨m, p, k, t, r0, r1, b, V, off, len⟩, c⟩ := s; cases b <;> rfl) (fun s => by obtain ⟨⟨m, p, k, t, r0, r1, b, V, off, len⟩, c⟩ := s; rfl) (fun avs mm p h ho => ?_) (fun p s hJ w => ?_)
  · unfold cdP at h
    split at h
    · rename_i len m p k t r0 r1
      cases h
      have p0 := of_decide_eq_true (ho _ (List.mem_cons_self ..))
      have p1 := of_decide_eq_true (ho _ (List.mem_cons_of_mem _ (List.mem_cons_self ..)))
      have p2 := ho _ (List.mem_cons_of_mem _ (List.mem_cons_of_mem _ (List.mem_cons_self ..)))
      have p3 := of_decide_eq_true (ho _ (List.mem_cons_of_mem _ (List.mem_cons_of_mem _ (List.mem_cons_of_mem _ (List.mem_cons_self ..)))))
      have p4 := of_decide_eq_true (ho _ (List.mem_cons_of_mem _ (List.mem_cons_of_mem _ (List.mem_cons_of_mem _ (List.mem_cons_of_mem _ (List.mem_cons_self ..))))))
      have p5 := of_decide_eq_true (ho _ (List.mem_cons_of_mem _ (List.mem_cons_of_mem _ (List.mem_cons_of_mem _ (List.mem_cons_of_mem _ (List.mem_cons_of_mem _ (List.mem_cons_self ..)))))))
      have p6 := of_decide_eq_true (ho _ (List.mem_cons_of_mem _ (List.mem_cons_of_mem _ (List.mem_cons_of_mem _ (List.mem_cons_of_mem _ (List.mem_cons_of_mem _ (List.mem_cons_of_mem _ (List.mem_cons_self ..))))))))
      subst p0
      exact ⟨(⟨m, p, k, t, r0, r1, false, 0, 0, p.length⟩, []), LeL.refl _, rfl, p1, al8_mem p2, p3, p4, p5, p6, 0, Nat.zero_le _, by simp [pvN]⟩
    · cases h
  · obtain ⟨h1, h2, h3, h4, h5, h6, j, h7, hs⟩ := hJ
    obtain ⟨⟨m, p, k, t, r0, r1, b, V, off, len⟩, c⟩ := p
    obtain ⟨s, c'⟩ := s
    simp only at h1 h2 h3 h4 h5 h6 h7 hs
    subst hs
    by_cases hend : j = (p.length + 15) / 16
    · subst hend
      have e : min (16 * ((p.length + 15) / 16)) p.length = p.length := by omega
      refine Round.out (cd_f w _) rfl ?_ (paid_cons (decide_eq_true (by simp only; omega)) (paid_cons (by simp only [e]; simp) Paid.nil)) fun q hq => ?_
      · simp only [cdF]
        rw [show decide (0 < (p.length + 15) / 16) = true from decide_eq_true (by omega)]
        rfl
      · simp only [cdF, List.mem_cons, List.not_mem_nil, or_false] at hq
        rcases hq with rfl | rfl | rfl
        · exact ⟨_, List.mem_cons_of_mem _ (List.mem_cons_self ..), .refl _⟩
        · exact ⟨_, List.mem_cons_of_mem _ (List.mem_cons_of_mem _ (List.mem_cons_self ..)), .refl _⟩
        · exact ⟨_, List.mem_cons_of_mem _ (List.mem_cons_of_mem _ (List.mem_cons_of_mem _ (List.mem_cons_of_mem _ (List.mem_cons_self ..)))), .refl _⟩
    · have hj : 16 * j < p.length := by omega
      have eo : min (16 * j) p.length = 16 * j := by omega
      have hm16 : (p.length - 16 * j).min 16 = min (p.length - 16 * j) 16 := rfl
      obtain ⟨b1, b2⟩ := pv_bound h2 h5 h6 j
      have hV : v3 (hc0 (decide (0 < j)) (pvN (r0 + 18446744073709551616 * r1) p j)) (hc1 (decide (0 < j)) (pvN (r0 + 18446744073709551616 * r1) p j)) (hc2 (decide (0 < j)) (pvN (r0 + 18446744073709551616 * r1) p j)) = pvN (r0 + 18446744073709551616 * r1) p j :=
        hc_v3 (fun hb => by have : j = 0 := by simpa using hb
                            subst this; rfl) ⟨b1, by omega⟩
      have hY : cdY ⟨m, p, k, t, r0, r1, decide (0 < j), pvN (r0 + 18446744073709551616 * r1) p j, 16 * j, p.length - 16 * j⟩ = pvN (r0 + 18446744073709551616 * r1) p j + leN (chk p j ++ [1]) := by
        unfold cdY
        simp only
        rw [hV, cdW_eq h2 (by omega)]
      obtain ⟨l1, _⟩ := chk_lt h2 j
      have l2 := chk_lt2 h2 j
      have hYv := v3_g (v := pvN (r0 + 18446744073709551616 * r1) p j + leN (chk p j ++ [1])) ⟨by omega, by omega⟩
      rw [eo]
      refine Round.on (cd_t w ⟨m, p, k, t, r0, r1, decide (0 < j), pvN (r0 + 18446744073709551616 * r1) p j, 16 * j, p.length - 16 * j⟩) (⟨m, p, k, t, r0, r1, true, pvN (r0 + 18446744073709551616 * r1) p (j + 1), min (16 * (j + 1)) p.length, p.length - min (16 * (j + 1)) p.length⟩, c') [some ⟨true, .ints .u8 (some 17) (cdL p (16 * j) (p.length - 16 * j))⟩] ?_ ?_ ?_ ⟨h1, h2, h3, h4, h5, h6, j + 1, by simp only; omega, by simp⟩ rfl (by simp only; omega)
      · have : cdN ⟨m, p, k, t, r0, r1, decide (0 < j), pvN (r0 + 18446744073709551616 * r1) p j, 16 * j, p.length - 16 * j⟩ = pvN (r0 + 18446744073709551616 * r1) p (j + 1) := by
          unfold cdN
          rw [hY, hYv]
          rfl
        rw [this]
        rfl
      · unfold cdD
        rw [hY, hYv]
        simp only [hm16]
        refine paid_cons (decide_eq_true (by omega)) (paid_cons (decide_eq_true (by omega)) (paid_cons (decide_eq_true (by omega)) (paid_cons (decide_eq_true (by omega)) (paid_cons (by rw [decide_eq_true (by omega), decide_eq_true (by omega)]; rfl) (paid_cons (decide_eq_true (by omega)) (paid_cons (by rw [decide_eq_true (by omega), decide_eq_true (by omega)]; rfl) (paid_cons (decide_eq_true (by omega)) (paid_cons (decide_eq_true h6) Paid.nil))))))))
      · have e1 : 16 * j + (((p.length - 16 * j).min 16 : Nat) : Int).toNat * 1 = min (16 * (j + 1)) p.length := by rw [hm16]; omega
        have e2 : p.length - 16 * j - (((p.length - 16 * j).min 16 : Nat) : Int).toNat = p.length - min (16 * (j + 1)) p.length := by rw [hm16]; omega
        simp only [e1, e2]
        exact LeL.refl _
end Go.Proofs.Ytfmgodgakndjcaa
namespace Go.Ch
open Go.Ev Go.Sh
def KR0 (k : List Int) : Int := iand .u64 (leN ((k.drop 0).take 8)) 1152921487695413247
def KR1 (k : List Int) : Int := iand .u64 (leN ((k.drop 8).take 8)) 1152921487695413244
/-- What a key leaves of its first 16 bytes, and its last ones. -/
def KR (k : List Int) : Int := KR0 k + 18446744073709551616 * KR1 k
def KS (k : List Int) : Int := v3 (leN ((k.drop 16).take 8)) (leN ((k.drop 24).take 8)) 0
/-- A text's code. -/
def codB (k p : List Int) : List Int := by16 (pvN (KR k) p ((p.length + 15) / 16) % 1361129467683753853853498429727072845819 + KS k)
def cdZ (V : Int) (k : List Int) : Int := v3 (g0 (V % 1361129467683753853853498429727072845819)) (g1 (V % 1361129467683753853853498429727072845819)) (g2 (V % 1361129467683753853853498429727072845819)) + KS k
theorem codB_len (k p : List Int) : (codB k p).length = 16 := by simp [codB, by16]
theorem iand_le {x m : Int} (hm : 0 ≤ m ∧ m < 18446744073709551616) : 0 ≤ iand .u64 x m ∧ iand .u64 x m ≤ m := by
  rw [Go.Wn.iand_eq, BitVec.toNat_and]
  refine ⟨Int.natCast_nonneg _, ?_⟩
  have h := Go.Wn.bv_W hm
  have h2 : (Go.Wn.bv x).toNat &&& (Go.Wn.bv m).toNat ≤ (Go.Wn.bv m).toNat := Nat.and_le_right
  omega
theorem KR_b (k : List Int) : 0 ≤ KR k ∧ KR k < 21267647932558653966460912964485513216 := by
  have h0 := iand_le (x := leN ((k.drop 0).take 8)) (m := 1152921487695413247) ⟨by decide, by decide⟩
  have h1 := iand_le (x := leN ((k.drop 8).take 8)) (m := 1152921487695413244) ⟨by decide, by decide⟩
  unfold KR KR0 KR1
  omega
theorem leN_Wt {l : List Int} (i : Nat) (h : i + 8 ≤ l.length) (hb : ∀ x ∈ l, B8 x) : Go.Wn.W (leN ((l.drop i).take 8)) :=
  leN_W (by rw [List.length_take, List.length_drop]; omega) fun x hx => hb x (List.mem_of_mem_drop (List.mem_of_mem_take hx))
theorem KS_b {k : List Int} (h : k.length = 32) (hb : ∀ x ∈ k, B8 x) : 0 ≤ KS k ∧ KS k < 340282366920938463463374607431768211456 := by
  have h0 := leN_Wt 16 (by omega) hb
  have h1 := leN_Wt 24 (by omega) hb
  unfold Go.Wn.W at h0 h1
  unfold KS v3
  omega
theorem cdZ_eq {k : List Int} (h : k.length = 32) (hb : ∀ x ∈ k, B8 x) (V : Int) : v3 (g0 (cdZ V k)) (g1 (cdZ V k)) (g2 (cdZ V k)) = V % 1361129467683753853853498429727072845819 + KS k := by
  have hs := KS_b h hb
  have e : cdZ V k = V % 1361129467683753853853498429727072845819 + KS k := by
    unfold cdZ
    rw [v3_g (by omega)]
  rw [v3_g (by rw [e]; omega), e]
def txt1 : V → Option (List Bool × List Int)
  | .buf _ .u8 n l => some ([decide (1 ≤ n), decide (n < 9223372036854775808)], l)
  | .pl .nilslice => some ([], [])
  | .empty => some ([], [])
  | _ => none
theorem txt1_ok {x : V} {o : List Bool} {l : List Int} (h : txt1 x = some (o, l)) : (x = .pl .nilslice ∧ o = [] ∧ l = []) ∨ (x = .empty ∧ o = [] ∧ l = []) ∨ ∃ s n, x = .buf s .u8 n l ∧ o = [decide (1 ≤ n), decide (n < 9223372036854775808)] := by
  unfold txt1 at h
  split at h <;> cases h
  · exact Or.inr (Or.inr ⟨_, _, rfl, rfl⟩)
  · exact Or.inl ⟨rfl, rfl, rfl⟩
  · exact Or.inr (Or.inl ⟨rfl, rfl, rfl⟩)
end Go.Ch
namespace Go.Proofs.Ytfmgodgakndjcaa
open Go.Ev Go.Sh Go.Ch
set_option maxRecDepth 100000
theorem co_b (k : List Int) (n : Nat) (p : List Int) : res ((funcL Try.prog qC (deep Try.prog qC hp2 100 3) (cdΛ fun _ _ => none) 100 70 (cArgs 0 [.pl (.ints .u8 32 k), .buf true .u8 n p]) (cMem [.pl (.ints .u8 32 k), .buf true .u8 n p])).go []) =
    some ([decide (n = p.length), decide (n = p.length), al8 p, decide (1 ≤ n), decide (n < 9223372036854775808), decide (0 ≤ KR k), decide (KR k < 21267647932558653966460912964485513216), decide (v3 (g0 (pvN (KR k) p ((p.length + 15) / 16))) (g1 (pvN (KR k) p ((p.length + 15) / 16))) (g2 (pvN (KR k) p ((p.length + 15) / 16))) < 2722258935367507707706996859454145691638)],
      .ints .u8 16 (by16 (v3 (g0 (cdZ (v3 (g0 (pvN (KR k) p ((p.length + 15) / 16))) (g1 (pvN (KR k) p ((p.length + 15) / 16))) (g2 (pvN (KR k) p ((p.length + 15) / 16)))) k)) (g1 (cdZ (v3 (g0 (pvN (KR k) p ((p.length + 15) / 16))) (g1 (pvN (KR k) p ((p.length + 15) / 16))) (g2 (pvN (KR k) p ((p.length + 15) / 16)))) k)) (g2 (cdZ (v3 (g0 (pvN (KR k) p ((p.length + 15) / 16))) (g1 (pvN (KR k) p ((p.length + 15) / 16))) (g2 (pvN (KR k) p ((p.length + 15) / 16)))) k))))) := by kernel_rfl
theorem co_n (k : List Int) : res ((funcL Try.prog qC (deep Try.prog qC hp2 100 3) (cdΛ fun _ _ => none) 100 70 (cArgs 0 [.pl (.ints .u8 32 k), .pl .nilslice]) (cMem [.pl (.ints .u8 32 k), .pl .nilslice])).go []) = some ([decide (v3 0 0 0 < 2722258935367507707706996859454145691638)], .ints .u8 16 (by16 (v3 (g0 (cdZ (v3 0 0 0) k)) (g1 (cdZ (v3 0 0 0) k)) (g2 (cdZ (v3 0 0 0) k))))) := by kernel_rfl
theorem co_e (k : List Int) : res ((funcL Try.prog qC (deep Try.prog qC hp2 100 3) (cdΛ fun _ _ => none) 100 70 (cArgs 0 [.pl (.ints .u8 32 k), .empty]) (cMem [.pl (.ints .u8 32 k), .empty])).go []) = some ([decide (v3 0 0 0 < 2722258935367507707706996859454145691638)], .ints .u8 16 (by16 (v3 (g0 (cdZ (v3 0 0 0) k)) (g1 (cdZ (v3 0 0 0) k)) (g2 (cdZ (v3 0 0 0) k))))) := by kernel_rfl
def coV : List V → E (AV × Mem)
  | [.pl (.ints .u8 32 k), t] => match txt1 t with
    | some (o, p) => some (o, (.ints .u8 16 (codB k p), []))
    | none => none
  | _ => none
theorem ints_arg {ρ : Nat → Loc3} {N : Nat → Prop} {n : Nat} {l : List Int} {v : Value} (h : Rep ρ N (.ints .u8 n l) v) : l.length = n ∧ ∀ x ∈ l, B8 x := by
  cases h with | ints _ _ _ hn hl => exact ⟨hn, fun x hx => inR_b8 (hl x hx)⟩
theorem coV_ok {xs : List V} {o : List Bool} {v : AV} {bs : Mem} (h : coV xs = some (o, (v, bs))) (ho : Paid o) : ViewCall Try.prog 70 xs v bs := by
  unfold coV at h
  split at h
  case h_2 => cases h
  rename_i k t
  split at h
  case h_2 => cases h
  rename_i o1 p ht
  cases h
  have hΛ : ∀ fn c, Try.prog.funcs[70]? = some fn → fn.body = some c → LOk Try.prog c (cdΛ fun _ _ => none) := fun fn c hf hb => by rw [bodyOf_eq hf hb]; exact cd_lok LOk.none
  intro ρ vs w ha hi
  have hk : k.length = 32 ∧ ∀ x ∈ k, B8 x := by
    cases ha with | cons _ _ _ _ r0 hb => exact ints_arg r0
  have z : v3 0 0 0 = 0 := rfl
  rcases txt1_ok ht with ⟨rfl, rfl, rfl⟩ | ⟨rfl, rfl, rfl⟩ | ⟨s, n, rfl, rfl⟩
  · exact view_of_goL mixed noCount (hp2_ok.deep mixed noCount 100 3) hΛ [] (co_n k) (paid_cons (by decide +kernel) Paid.nil) (by rw [cdZ_eq hk.1 hk.2, z]; rfl) rfl ha hi
  · exact view_of_goL mixed noCount (hp2_ok.deep mixed noCount 100 3) hΛ [] (co_e k) (paid_cons (by decide +kernel) Paid.nil) (by rw [cdZ_eq hk.1 hk.2, z]; rfl) rfl ha hi
  · obtain ⟨n1, r1⟩ := buf_arg hi 1 rfl
    have q1 := of_decide_eq_true (ho _ (List.mem_cons_self ..))
    have q2 := of_decide_eq_true (ho _ (List.mem_cons_of_mem _ (List.mem_cons_self ..)))
    have hp : ∀ x ∈ p, B8 x := fun x hx => inR_b8 (r1 x hx)
    obtain ⟨kr1, kr2⟩ := KR_b k
    obtain ⟨b1, b2⟩ := pv_bound hp kr1 kr2 ((p.length + 15) / 16)
    have ev := co_b k n p
    have ha2 : Reps ρ (upto 2) (cArgs 0 [.pl (.ints .u8 32 k), .buf true .u8 n p]) vs := by
      cases ha with | cons _ _ u us a0 hs => cases hs with | cons _ _ u1 us1 a1 hs => exact .cons _ _ _ _ a0 (.cons _ _ _ _ (markedS a1) hs)
    rw [v3_g (v := pvN (KR k) p ((p.length + 15) / 16)) ⟨b1, by omega⟩, cdZ_eq hk.1 hk.2] at ev
    exact view_of_goL mixed noCount (hp2_ok.deep mixed noCount 100 3) hΛ [] ev (paid_cons (decide_eq_true n1.symm) (paid_cons (decide_eq_true n1.symm) (paid_cons (al8_of hp) (paid_cons (decide_eq_true q1) (paid_cons (decide_eq_true q2) (paid_cons (decide_eq_true kr1) (paid_cons (decide_eq_true kr2) (paid_cons (decide_eq_true (by omega)) Paid.nil)))))))) rfl rfl ha2 hi
def hp3 : CallH := withV 70 coV hp2
theorem hp3_ok : HOk Try.prog hp3 := hp2_ok.withV fun _ _ _ _ h ho => coV_ok h ho
-- Poly
def Z16 : List Int := List.replicate 16 0
def hp4 : CallH := hp3
theorem hp4_ok : HOk Try.prog hp4 := hp3_ok
end Go.Proofs.Ytfmgodgakndjcaa
namespace Go.Ch
open Go.Ev Go.Sh
def pz (n : Nat) : Nat := (16 - n % 16) % 16
structure FiS where
  a : TX
  s : TX
  x : List Int
  t : List Int
  o : List Int
  l : List Int
  n : Nat
  c : Nat
end Go.Ch
namespace Go.Proofs.Ytfmgodgakndjcaa
open Go.Ev Go.Sh Go.Ch
set_option maxRecDepth 100000
def qD (f : FuncId) : Bool := qC f && !Nat.beq f 68 && !Nat.beq f 69 && !Nat.beq f 49
def fiV (s : FiS) : List AV := [.slice true 6 0 s.n (some s.c) 1]
def fiM (s : FiS) : Mem := [none, s.a.B, s.s.B, some ⟨true, .ints .u32 (some 16) s.x⟩, some ⟨true, .ints .u8 (some 16) s.t⟩, some ⟨true, .ints .u8 (some 64) s.o⟩, some ⟨true, .ints .u8 none s.l⟩]
def fiP : List AV → Mem → Option (FiS × List Bool)
  | [.slice true 6 0 n (some c) 1], [none, ab, sb, some ⟨true, .ints .u32 (some 16) x⟩, some ⟨true, .ints .u8 (some 16) t⟩, some ⟨true, .ints .u8 (some 64) o⟩, some ⟨true, .ints .u8 none l⟩] =>
    match txB ab, txB sb with
    | some a, some s => some (⟨a, s, x, t, o, l, n, c⟩, [decide (l.length = n), decide (n + pz n ≤ c), decide (n < 1000000000000000)])
    | _, _ => none
  | _, _ => none
def fiF (p : FiS × List Bool) : List (Nat × AV) × Mem := ([(0, .slice true 6 0 (p.1.n + pz p.1.n) (some p.1.c) 1)], fiM { p.1 with l := p.1.l ++ List.replicate (pz p.1.n) 0, n := p.1.n + pz p.1.n })
def fiΛ (Λ : LoopH) : LoopH := famH 0 11 [0] fiP (fun p => p.2) fiF Λ
theorem fi_t (w : Nat → AV) (s : FiS) : seesL [0] ((codeL Try.prog qD (deep Try.prog qD hp3 100 3) (fun _ _ => none) 100 (lp (blk 0 (bodyOf Try.prog 68))) ⟨tmOf (ups w (zipU [0] (fiV s))) 11, fiM s⟩).go [true]) =
    some ([decide (s.n < 9223372036854775808), ((s.n : Int).tmod 16 != 0), decide (0 + s.n ≤ s.l.length), decide (s.n + 1 ≤ s.c)], 0, fiV { s with n := s.n + 1 }, 11, fiM { s with l := (s.l.drop 0).take s.n ++ [0] } ++ [some ⟨true, .vals [.int false .u8 0]⟩]) := by
  obtain ⟨a, s, x, t, o, l, n, c⟩ := s
  cases a <;> cases s <;> kernel_rfl
theorem fi_f (w : Nat → AV) (s : FiS) : seesL [0] ((codeL Try.prog qD (deep Try.prog qD hp3 100 3) (fun _ _ => none) 100 (lp (blk 0 (bodyOf Try.prog 68))) ⟨tmOf (ups w (zipU [0] (fiV s))) 11, fiM s⟩).go [false]) =
    some ([decide (s.n < 9223372036854775808), !((s.n : Int).tmod 16 != 0)], 2, fiV s, 11, fiM s) := by
  obtain ⟨a, s, x, t, o, l, n, c⟩ := s
  cases a <;> cases s <;> kernel_rfl
def fiI (p s : FiS × List Bool) : Prop := p.1.l.length = p.1.n ∧ p.1.n + pz p.1.n ≤ p.1.c ∧ p.1.n < 1000000000000000 ∧ ∃ k : Nat, k ≤ pz p.1.n ∧ s.1 = { p.1 with l := p.1.l ++ List.replicate k 0, n := p.1.n + k }
theorem fi_lok {Λ : LoopH} (hΛ : LOk Try.prog (bodyOf Try.prog 68) Λ) : LOk Try.prog (bodyOf Try.prog 68) (fiΛ Λ) := by
  refine fam_ok (q := qD) (n := 100) (fun p : FiS × List Bool => fiV p.1) (fun p => fiM p.1) fiI (fun s => pz s.1.n) mixed (hp3_ok.deep (q := qD) mixed noCount 100 3) hΛ LOk.none (by kernel_rfl) (by kernel_rfl) (fun s => by obtain ⟨⟨a, s, x, t, o, l, n, c⟩, b⟩ := s; cases a <;> cases s <;> rfl) (fun s => by obtain ⟨⟨a, s, x, t, o, l, n, c⟩, b⟩ := s; cases a <;> cases s <;> rfl) (fun avs mm p h ho => ?_) (fun p s hJ w => ?_)
  · unfold fiP at h
    split at h
    · rename_i n c ab sb x t o l
      split at h
      · rename_i a z g1 g2
        cases h
        have p0 := of_decide_eq_true (ho _ (List.mem_cons_self ..))
        have p1 := of_decide_eq_true (ho _ (List.mem_cons_of_mem _ (List.mem_cons_self ..)))
        have p2 := of_decide_eq_true (ho _ (List.mem_cons_of_mem _ (List.mem_cons_of_mem _ (List.mem_cons_self ..))))
        obtain rfl := txB_ok g1
        obtain rfl := txB_ok g2
        exact ⟨(⟨a, z, x, t, o, l, n, c⟩, []), LeL.refl _, rfl, p0, p1, p2, 0, Nat.zero_le _, by simp⟩
      · cases h
    · cases h
  · obtain ⟨h1, h2, h3, k, h4, hs⟩ := hJ
    obtain ⟨⟨a, z, x, t, o, l, n, c⟩, b⟩ := p
    obtain ⟨s', b'⟩ := s
    simp only at h1 h2 h3 h4 hs
    subst hs
    have hpz : pz n ≤ 15 := by unfold pz; omega
    have et : ((n + k : Nat) : Int).tmod 16 = (((n + k) % 16 : Nat) : Int) := by rw [Int.tmod_eq_emod_of_nonneg (by omega)]; omega
    by_cases hend : k = pz n
    · subst hend
      have e0 : (n + pz n) % 16 = 0 := by unfold pz; omega
      refine Round.out (fi_f w _) rfl rfl (paid_cons (decide_eq_true (by simp only; omega)) (paid_cons (by simp only [et, e0]; rfl) Paid.nil)) fun q hq => ?_
      simp only [fiF, List.mem_cons, List.not_mem_nil, or_false] at hq
      subst hq
      exact ⟨_, List.mem_cons_self .., .refl _⟩
    · have hl : (l ++ List.replicate k 0).length = n + k := by simp [h1]
      have hne : (n + k) % 16 ≠ 0 := by unfold pz at h4 hend; omega
      refine Round.on (fi_t w ⟨a, z, x, t, o, l ++ List.replicate k 0, n + k, c⟩) (⟨a, z, x, t, o, l ++ List.replicate (k + 1) 0, n + (k + 1), c⟩, b') [some ⟨true, .vals [.int false .u8 0]⟩] ?_ (paid_cons (decide_eq_true (by simp only; omega)) (paid_cons (by simp only [et]; simp; omega) (paid_cons (decide_eq_true (by simp only [hl]; omega)) (paid_cons (decide_eq_true (by simp only; omega)) Paid.nil)))) ?_ ⟨h1, h2, h3, k + 1, by simp only; omega, rfl⟩ rfl (by simp only; unfold pz at *; omega)
      · simp only [List.drop_zero, List.take_of_length_le (Nat.le_of_eq hl), List.append_assoc]
        rw [show List.replicate (k + 1) (0 : Int) = List.replicate k 0 ++ [0] from List.replicate_succ']
        rfl
      · exact LeL.refl _
noncomputable def hfi : CallH := inL Try.prog qD (deep Try.prog qD hp3 100 3) (fiΛ fun _ _ => none) 100 68 [] hp3
theorem hfi_ok : HOk Try.prog hfi := HOk.inL mixed noCount (hp3_ok.deep mixed noCount 100 3) hp3_ok 100 _ _ fun fn c hf hb => by rw [bodyOf_eq hf hb]; exact fi_lok LOk.none
end Go.Proofs.Ytfmgodgakndjcaa
