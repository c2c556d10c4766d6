/- The program's code for one use: its loop as a family, its contract. Own work. -/
import Derived.Test.YtpbemjifhampcaaQCChP
set_option linter.unusedSimpArgs false
set_option linter.unusedVariables false
set_option linter.unusedSectionVars false
namespace Go.Ch
open Go.Ev Go.Sh
structure CdS where
  m : Nat
  p : List Int
  k : List Int
  t : List Int
  r0 : Int
  r1 : Int
  b : Bool
  V : Int
  off : Nat
  len : Nat
def hcl (b : Bool) (V : Int) : List AV := match b with
  | false => [.int false .u64 0, .int false .u64 0, .int false .u64 0]
  | true => [.int true .u64 (g0 V), .int true .u64 (g1 V), .int true .u64 (g2 V)]
def hc0 (b : Bool) (V : Int) : Int := match b with | false => 0 | true => g0 V
def hc1 (b : Bool) (V : Int) : Int := match b with | false => 0 | true => g1 V
def hc2 (b : Bool) (V : Int) : Int := match b with | false => 0 | true => g2 V
def Z17 : List Int := [0, 0, 0, 0, 0, 0, 0, 0, 0, 0, 0, 0, 0, 0, 0, 0, 0]
/-- A piece of the text, and a byte 1 behind it. -/
def cdL (p : List Int) (off len : Nat) : List Int := (Z17.take 0 ++ ((p.drop off).take len).take (len.min 16) ++ Z17.drop (0 + len.min 16)).set (0 + ((len.min 16 : Nat) : Int).toNat * 1) 1
def cdW (p : List Int) (off len : Nat) : Int := v3 (leN (((cdL p off len).drop 0).take 8)) (leN (((cdL p off len).drop 8).take 8)) (IntKind.u64.wrap ((cdL p off len).getD 16 0))
def cdY (s : CdS) : Int := v3 (hc0 s.b s.V) (hc1 s.b s.V) (hc2 s.b s.V) + cdW s.p s.off s.len
def cdN (s : CdS) : Int := fold5 ((s.r0 + 18446744073709551616 * s.r1) * v3 (g0 (cdY s)) (g1 (cdY s)) (g2 (cdY s)))
def chk (p : List Int) (j : Nat) : List Int := (p.drop (16 * j)).take 16
/-- The number after j pieces. -/
def pvN (R : Int) (p : List Int) : Nat → Int
  | 0 => 0
  | j + 1 => fold5 (R * (pvN R p j + leN (chk p j ++ [1])))
theorem chk_b8 {p : List Int} (h : ∀ x ∈ p, B8 x) (j : Nat) : ∀ x ∈ chk p j ++ [1], B8 x := fun x hx => by
  rcases List.mem_append.1 hx with hx | hx
  · exact h x (List.mem_of_mem_drop (List.mem_of_mem_take hx))
  · rw [List.mem_singleton] at hx; subst hx; exact ⟨by decide, by decide⟩
theorem chk_len (p : List Int) (j : Nat) : (chk p j).length = min 16 (p.length - 16 * j) := by simp [chk]
theorem pow256 {a b : Nat} (h : a ≤ b) : (256 : Int) ^ a ≤ 256 ^ b := by
  have := Nat.pow_le_pow_right (show 0 < 256 by decide) h
  have e : ∀ n : Nat, (256 : Int) ^ n = ((256 ^ n : Nat) : Int) := fun n => (Int.natCast_pow 256 n).symm
  rw [e, e]
  exact Int.ofNat_le.2 this
theorem chk_lt {p : List Int} (h : ∀ x ∈ p, B8 x) (j : Nat) : 0 ≤ leN (chk p j ++ [1]) ∧ leN (chk p j ++ [1]) < 87112285931760246646623899502532662132736 := by
  obtain ⟨h1, h2⟩ := leN_bound (chk_b8 h j)
  refine ⟨h1, ?_⟩
  have hl : (chk p j ++ [1]).length ≤ 17 := by rw [List.length_append, chk_len]; simp; omega
  have e : (256 : Int) ^ (chk p j ++ [1]).length ≤ 256 ^ 17 := pow256 hl
  have e2 : (256 : Int) ^ 17 = 87112285931760246646623899502532662132736 := by decide +kernel
  omega
/-- A piece's number is below 2^129. -/
theorem chk_lt2 {p : List Int} (h : ∀ x ∈ p, B8 x) (j : Nat) : leN (chk p j ++ [1]) < 680564733841876926926749214863536422912 := by
  rw [leN_app]
  obtain ⟨h1, h2⟩ := leN_bound (l := chk p j) fun x hx => chk_b8 h j x (List.mem_append_left _ hx)
  have hl : (chk p j).length ≤ 16 := by rw [chk_len]; omega
  have e : (256 : Int) ^ (chk p j).length ≤ 256 ^ 16 := pow256 hl
  have e2 : (256 : Int) ^ 16 = 340282366920938463463374607431768211456 := by decide +kernel
  simp only [leN]
  omega
theorem pv_bound {R : Int} {p : List Int} (hp : ∀ x ∈ p, B8 x) (h0 : 0 ≤ R) (hR : R < 21267647932558653966460912964485513216) : ∀ j, 0 ≤ pvN R p j ∧ pvN R p j < 1786482426335426933182716689641782910144
  | 0 => ⟨Int.le_refl _, show (0 : Int) < 1786482426335426933182716689641782910144 by decide⟩
  | j + 1 => by
    obtain ⟨h1, h2⟩ := pv_bound hp h0 hR j
    obtain ⟨h3, _⟩ := chk_lt hp j
    have h4 := chk_lt2 hp j
    unfold pvN
    refine fold5_lt (Int.mul_nonneg h0 (by omega)) ?_
    have y0 : 0 ≤ pvN R p j + leN (chk p j ++ [1]) := by omega
    have y1 : pvN R p j + leN (chk p j ++ [1]) < 2467047160177303860109465904505319333056 := by omega
    generalize pvN R p j + leN (chk p j ++ [1]) = y at y0 y1 ⊢
    have k1 : R * y ≤ 21267647932558653966460912964485513215 * y := Int.mul_le_mul_of_nonneg_right (by omega) (by omega)
    omega
theorem cdL_eq {p : List Int} {j : Nat} (h : 16 * j ≤ p.length) : leN (cdL p (16 * j) (p.length - 16 * j)) = leN (chk p j ++ [1]) ∧ (cdL p (16 * j) (p.length - 16 * j)).length = 17 := by
  have hn : (p.length - 16 * j).min 16 = (chk p j).length := by rw [chk_len]; show min (p.length - 16 * j) 16 = _; omega
  have hl : (chk p j).length ≤ 16 := by rw [chk_len]; omega
  have e1 : ((p.drop (16 * j)).take (p.length - 16 * j)).take ((p.length - 16 * j).min 16) = chk p j := by
    rw [List.take_take, hn, chk_len]
    unfold chk
    have : min (min 16 (p.length - 16 * j)) (p.length - 16 * j) = min 16 (p.length - 16 * j) := by omega
    rw [this]
    by_cases h16 : 16 ≤ p.length - 16 * j
    · rw [Nat.min_eq_left h16]
    · rw [Nat.min_eq_right (by omega), List.take_of_length_le (l := p.drop (16 * j)) (i := 16) (by rw [List.length_drop]; omega), List.take_of_length_le (by rw [List.length_drop]; omega)]
  have e2 : cdL p (16 * j) (p.length - 16 * j) = chk p j ++ 1 :: List.replicate (16 - (chk p j).length) 0 := by
    unfold cdL
    rw [e1, hn, Int.toNat_natCast, Nat.mul_one, Nat.zero_add]
    have ez : Z17 = List.replicate 17 0 := rfl
    rw [ez, List.take_zero, List.nil_append, List.drop_replicate]
    rw [List.set_append_right _ _ (Nat.le_refl _), Nat.sub_self, show 17 - (chk p j).length = (16 - (chk p j).length) + 1 by omega, List.replicate_succ, List.set_cons_zero]
  rw [e2]
  refine ⟨?_, by simp; omega⟩
  rw [leN_app, leN_app]
  simp only [leN, leN_zeros]
theorem leN_17 {l : List Int} (h : l.length = 17) (hb : ∀ x ∈ l, B8 x) : v3 (leN ((l.drop 0).take 8)) (leN ((l.drop 8).take 8)) (IntKind.u64.wrap (l.getD 16 0)) = leN l := by
  have h16 := get_b8 hb 16
  have hw : IntKind.u64.wrap (l.getD 16 0) = l.getD 16 0 := Go.Wn.uw64 (by unfold B8 at h16; omega)
  rw [hw, leN_take l 8 (by omega), leN_take (l.drop 8) 8 (by rw [List.length_drop]; omega), List.drop_drop, List.drop_zero]
  have e : l.drop (8 + 8) = [l.getD 16 0] := by
    rw [List.drop_eq_getElem_cons (show 8 + 8 < l.length by omega), List.drop_of_length_le (by omega), List.getD, List.getElem?_eq_getElem (show 16 < l.length by omega)]
    rfl
  rw [e]
  unfold v3
  simp only [leN]
  have e8 : (256 : Int) ^ 8 = 18446744073709551616 := by decide +kernel
  rw [e8]
  omega
theorem cdL_b8 {p : List Int} (hp : ∀ x ∈ p, B8 x) (off len : Nat) : ∀ x ∈ cdL p off len, B8 x := fun x hx => by
  unfold cdL at hx
  rcases List.mem_or_eq_of_mem_set hx with h1 | h1
  · rcases List.mem_append.1 h1 with h2 | h2
    · rcases List.mem_append.1 h2 with h3 | h3
      · simp at h3
      · exact hp x (List.mem_of_mem_drop (List.mem_of_mem_take (List.mem_of_mem_take h3)))
    · have h4 := List.mem_of_mem_drop h2
      have : x = 0 := by
        have ez : Z17 = List.replicate 17 0 := rfl
        rw [ez] at h4
        exact List.eq_of_mem_replicate h4
      rw [this]; exact ⟨by decide, by decide⟩
  · rw [h1]; exact ⟨by decide, by decide⟩
theorem cdW_eq {p : List Int} (hp : ∀ x ∈ p, B8 x) {j : Nat} (h : 16 * j ≤ p.length) : cdW p (16 * j) (p.length - 16 * j) = leN (chk p j ++ [1]) := by
  obtain ⟨e1, e2⟩ := cdL_eq h
  unfold cdW
  rw [leN_17 e2 (cdL_b8 hp _ _), e1]
theorem hc_v3 {b : Bool} {V : Int} (hb : b = false → V = 0) (h : 0 ≤ V ∧ V < 6277101735386680763835789423207666416102355444464034512896) : v3 (hc0 b V) (hc1 b V) (hc2 b V) = V := by
  cases b with
  | false => rw [hb rfl]; rfl
  | true => exact v3_g h
def al8 (l : List Int) : Bool := l.all fun x => decide (0 ≤ x) && decide (x < 256)
theorem al8_mem {l : List Int} (h : al8 l = true) : ∀ x ∈ l, B8 x := fun x hx => by
  have := List.all_eq_true.1 h x hx
  simp only [Bool.and_eq_true, decide_eq_true_eq] at this
  exact this
theorem al8_of {l : List Int} (h : ∀ x ∈ l, B8 x) : al8 l = true := List.all_eq_true.2 fun x hx => by
  have := h x hx
  unfold B8 at this
  rw [decide_eq_true this.1, decide_eq_true this.2]; rfl
def cdD (s : CdS) : List Bool := [decide (s.len < 9223372036854775808), decide ((s.len : Int) > 0), decide (s.off + s.len ≤ s.m), decide (0 + s.len.min 16 ≤ 17), decide (0 ≤ ((s.len.min 16 : Nat) : Int)) && decide (((s.len.min 16 : Nat) : Int) < ((17 : Nat) : Int)),
  decide (0 + ((s.len.min 16 : Nat) : Int).toNat * 1 + 1 ≤ 17), decide (0 ≤ ((s.len.min 16 : Nat) : Int)) && decide (((s.len.min 16 : Nat) : Int) ≤ (s.len : Int)), decide (v3 (g0 (cdY s)) (g1 (cdY s)) (g2 (cdY s)) < 5444517870735015415413993718908291383296), decide (s.r0 + 18446744073709551616 * s.r1 < 21267647932558653966460912964485513216)]
end Go.Ch
namespace Go.Proofs.Ytpbemjifhampcaa
open Go.Ev Go.Sh Go.Ch
set_option maxRecDepth 100000
def cdTs : List Nat := [1, 2, 4, 5, 6]
def cdV (s : CdS) : List AV := [.slice true 1 s.off s.len none 1, .ptr false 2 0, .ptr false 3 0, .ptr false 4 0, .ptr false 5 0]
def cdM (s : CdS) : Mem := [none, some ⟨false, .ints .u8 (some s.m) s.p⟩, some ⟨true, .ints .u8 (some 32) s.k⟩, some ⟨true, .ints .u8 (some 16) s.t⟩, some ⟨true, .vals [.int true .u64 s.r0, .int true .u64 s.r1]⟩, some ⟨true, .vals (hcl s.b s.V)⟩]
theorem cd_t (w : Nat → AV) (s : CdS) : seesL cdTs ((codeL Try.prog qC (deep Try.prog qC hp2 100 3) (fun _ _ => none) 100 (lp (blk 0 (bodyOf Try.prog 48))) ⟨tmOf (ups w (zipU cdTs (cdV s))) 48, cdM s⟩).go [true]) =
    some (cdD s, 0, cdV { s with off := s.off + ((s.len.min 16 : Nat) : Int).toNat * 1, len := s.len - ((s.len.min 16 : Nat) : Int).toNat }, 48, cdM { s with b := true, V := cdN s } ++ [some ⟨true, .ints .u8 (some 17) (cdL s.p s.off s.len)⟩]) := by
  obtain ⟨m, p, k, t, r0, r1, b, V, off, len⟩ := s
  cases b <;> kernel_rfl
theorem cd_f (w : Nat → AV) (s : CdS) : seesL cdTs ((codeL Try.prog qC (deep Try.prog qC hp2 100 3) (fun _ _ => none) 100 (lp (blk 0 (bodyOf Try.prog 48))) ⟨tmOf (ups w (zipU cdTs (cdV s))) 48, cdM s⟩).go [false]) =
    some ([decide (s.len < 9223372036854775808), !decide ((s.len : Int) > 0)], 2, cdV s, 48, cdM s) := by
  obtain ⟨m, p, k, t, r0, r1, b, V, off, len⟩ := s
  cases b <;> kernel_rfl
def cdP : List AV → Mem → Option (CdS × List Bool)
  | [.slice true 1 0 len none 1, .ptr false 2 0, .ptr false 3 0, .ptr false 4 0, .ptr false 5 0], [none, some ⟨false, .ints .u8 (some m) p⟩, some ⟨true, .ints .u8 (some 32) k⟩, some ⟨true, .ints .u8 (some 16) t⟩, some ⟨true, .vals [.int true .u64 r0, .int true .u64 r1]⟩, some ⟨true, .vals [.int false .u64 0, .int false .u64 0, .int false .u64 0]⟩] =>
    some (⟨m, p, k, t, r0, r1, false, 0, 0, len⟩, [decide (len = p.length), decide (m = p.length), al8 p, decide (1 ≤ len), decide (len < 9223372036854775808), decide (0 ≤ r0 + 18446744073709551616 * r1), decide (r0 + 18446744073709551616 * r1 < 21267647932558653966460912964485513216)])
  | _, _ => none
def cdF (p : CdS × List Bool) : List (Nat × AV) × Mem := ([(2, .ptr false 2 0), (4, .ptr false 3 0), (6, .ptr false 5 0)], cdM { p.1 with b := true, V := pvN (p.1.r0 + 18446744073709551616 * p.1.r1) p.1.p ((p.1.p.length + 15) / 16) })
def cdΛ (Λ : LoopH) : LoopH := famH 0 48 cdTs cdP (fun p => p.2) cdF Λ
def cdI (p s : CdS × List Bool) : Prop := p.1.m = p.1.p.length ∧ (∀ x ∈ p.1.p, B8 x) ∧ 1 ≤ p.1.p.length ∧ p.1.p.length < 9223372036854775808 ∧ 0 ≤ p.1.r0 + 18446744073709551616 * p.1.r1 ∧ p.1.r0 + 18446744073709551616 * p.1.r1 < 21267647932558653966460912964485513216 ∧
  ∃ j : Nat, j ≤ (p.1.p.length + 15) / 16 ∧ s.1 = { p.1 with b := decide (0 < j), V := pvN (p.1.r0 + 18446744073709551616 * p.1.r1) p.1.p j, off := min (16 * j) p.1.p.length, len := p.1.p.length - min (16 * j) p.1.p.length }
theorem cd_lok {Λ : LoopH} (hΛ : LOk Try.prog (bodyOf Try.prog 48) Λ) : LOk Try.prog (bodyOf Try.prog 48) (cdΛ Λ) := by
  refine fam_ok (q := qC) (n := 100) (fun p : CdS × List Bool => cdV p.1) (fun p => cdM p.1) cdI (fun s => s.1.len) mixed (hp2_ok.deep (q := qC) mixed noCount 100 3) hΛ LOk.none (by kernel_rfl) (by kernel_rfl) (fun s => by obtain ⟨⟨m, p, k, t, r0, r1, b, V, off, len⟩, c⟩ := s; cases b <;> rfl) (fun s => by obtain ⟨⟨m, p, k, t, r0, r1, b, V, off, len⟩, c⟩ := s; rfl) (fun avs mm p h ho => ?_) (fun p s hJ w => ?_)
  · unfold cdP at h
    split at h
    · rename_i len m p k t r0 r1
      cases h
      have p0 := of_decide_eq_true (ho _ (List.mem_cons_self ..))
      have p1 := of_decide_eq_true (ho _ (List.mem_cons_of_mem _ (List.mem_cons_self ..)))
      have p2 := ho _ (List.mem_cons_of_mem _ (List.mem_cons_of_mem _ (List.mem_cons_self ..)))
      have p3 := of_decide_eq_true (ho _ (List.mem_cons_of_mem _ (List.mem_cons_of_mem _ (List.mem_cons_of_mem _ (List.mem_cons_self ..)))))
      have p4 := of_decide_eq_true (ho _ (List.mem_cons_of_mem _ (List.mem_cons_of_mem _ (List.mem_cons_of_mem _ (List.mem_cons_of_mem _ (List.mem_cons_self ..))))))
      have p5 := of_decide_eq_true (ho _ (List.mem_cons_of_mem _ (List.mem_cons_of_mem _ (List.mem_cons_of_mem _ (List.mem_cons_of_mem _ (List.mem_cons_of_mem _ (List.mem_cons_self ..)))))))
      have p6 := of_decide_eq_true (ho _ (List.mem_cons_of_mem _ (List.mem_cons_of_mem _ (List.mem_cons_of_mem _ (List.mem_cons_of_mem _ (List.mem_cons_of_mem _ (List.mem_cons_of_mem _ (List.mem_cons_self ..))))))))
      subst p0
      exact ⟨(⟨m, p, k, t, r0, r1, false, 0, 0, p.length⟩, []), LeL.refl _, rfl, p1, al8_mem p2, p3, p4, p5, p6, 0, Nat.zero_le _, by simp [pvN]⟩
    · cases h
  · obtain ⟨h1, h2, h3, h4, h5, h6, j, h7, hs⟩ := hJ
    obtain ⟨⟨m, p, k, t, r0, r1, b, V, off, len⟩, c⟩ := p
    obtain ⟨s, c'⟩ := s
    simp only at h1 h2 h3 h4 h5 h6 h7 hs
    subst hs
    by_cases hend : j = (p.length + 15) / 16
    · subst hend
      have e : min (16 * ((p.length + 15) / 16)) p.length = p.length := by omega
      refine Round.out (cd_f w _) rfl ?_ (paid_cons (decide_eq_true (by simp only; omega)) (paid_cons (by simp only [e]; simp) Paid.nil)) fun q hq => ?_
      · simp only [cdF]
        rw [show decide (0 < (p.length + 15) / 16) = true from decide_eq_true (by omega)]
        rfl
      · simp only [cdF, List.mem_cons, List.not_mem_nil, or_false] at hq
        rcases hq with rfl | rfl | rfl
        · exact ⟨_, List.mem_cons_of_mem _ (List.mem_cons_self ..), .refl _⟩
        · exact ⟨_, List.mem_cons_of_mem _ (List.mem_cons_of_mem _ (List.mem_cons_self ..)), .refl _⟩
        · exact ⟨_, List.mem_cons_of_mem _ (List.mem_cons_of_mem _ (List.mem_cons_of_mem _ (List.mem_cons_of_mem _ (List.mem_cons_self ..)))), .refl _⟩
    · have hj : 16 * j < p.length := by omega
      have eo : min (16 * j) p.length = 16 * j := by omega
      have hm16 : (p.length - 16 * j).min 16 = min (p.length - 16 * j) 16 := rfl
      obtain ⟨b1, b2⟩ := pv_bound h2 h5 h6 j
      have hV : v3 (hc0 (decide (0 < j)) (pvN (r0 + 18446744073709551616 * r1) p j)) (hc1 (decide (0 < j)) (pvN (r0 + 18446744073709551616 * r1) p j)) (hc2 (decide (0 < j)) (pvN (r0 + 18446744073709551616 * r1) p j)) = pvN (r0 + 18446744073709551616 * r1) p j :=
        hc_v3 (fun hb => by have : j = 0 := by simpa using hb
                            subst this; rfl) ⟨b1, by omega⟩
      have hY : cdY ⟨m, p, k, t, r0, r1, decide (0 < j), pvN (r0 + 18446744073709551616 * r1) p j, 16 * j, p.length - 16 * j⟩ = pvN (r0 + 18446744073709551616 * r1) p j + leN (chk p j ++ [1]) := by
        unfold cdY
        simp only
        rw [hV, cdW_eq h2 (by omega)]
      obtain ⟨l1, _⟩ := chk_lt h2 j
      have l2 := chk_lt2 h2 j
      have hYv := v3_g (v := pvN (r0 + 18446744073709551616 * r1) p j + leN (chk p j ++ [1])) ⟨by omega, by omega⟩
      rw [eo]
      refine Round.on (cd_t w ⟨m, p, k, t, r0, r1, decide (0 < j), pvN (r0 + 18446744073709551616 * r1) p j, 16 * j, p.length - 16 * j⟩) (⟨m, p, k, t, r0, r1, true, pvN (r0 + 18446744073709551616 * r1) p (j + 1), min (16 * (j + 1)) p.length, p.length - min (16 * (j + 1)) p.length⟩, c') [some ⟨true, .ints .u8 (some 17) (cdL p (16 * j) (p.length - 16 * j))⟩] ?_ ?_ ?_ ⟨h1, h2, h3, h4, h5, h6, j + 1, by simp only; omega, by simp⟩ rfl (by simp only; omega)
      · have : cdN ⟨m, p, k, t, r0, r1, decide (0 < j), pvN (r0 + 18446744073709551616 * r1) p j, 16 * j, p.length - 16 * j⟩ = pvN (r0 + 18446744073709551616 * r1) p (j + 1) := by
          unfold cdN
          rw [hY, hYv]
          rfl
        rw [this]
        rfl
      · unfold cdD
        rw [hY, hYv]
        simp only [hm16]
        refine paid_cons (decide_eq_true (by omega)) (paid_cons (decide_eq_true (by omega)) (paid_cons (decide_eq_true (by omega)) (paid_cons (decide_eq_true (by omega)) (paid_cons (by rw [decide_eq_true (by omega), decide_eq_true (by omega)]; rfl) (paid_cons (decide_eq_true (by omega)) (paid_cons (by rw [decide_eq_true (by omega), decide_eq_true (by omega)]; rfl) (paid_cons (decide_eq_true (by omega)) (paid_cons (decide_eq_true h6) Paid.nil))))))))
      · have e1 : 16 * j + (((p.length - 16 * j).min 16 : Nat) : Int).toNat * 1 = min (16 * (j + 1)) p.length := by rw [hm16]; omega
        have e2 : p.length - 16 * j - (((p.length - 16 * j).min 16 : Nat) : Int).toNat = p.length - min (16 * (j + 1)) p.length := by rw [hm16]; omega
        simp only [e1, e2]
        exact LeL.refl _
end Go.Proofs.Ytpbemjifhampcaa
