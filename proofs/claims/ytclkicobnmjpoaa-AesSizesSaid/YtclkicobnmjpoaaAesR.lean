/- The reference's block cipher: products of bytes, as a family. Own work. -/
import Derived.Test.YtclkicobnmjpoaaAesB
namespace Go.As
open Go.Ev Go.Sh
/-- A step of a product. -/
def tmN (a b i r : Nat) : Nat :=
  match Nat.beq (b / 2 ^ i % 2) 1 with
  | true => (match Nat.ble 256 (r * 2) with | true => r * 2 ^^^ 283 | false => r * 2) ^^^ a
  | false => (match Nat.ble 256 (r * 2) with | true => r * 2 ^^^ 283 | false => r * 2)
def gmF (a b : Nat) : Nat → Nat
  | 0 => 0
  | k + 1 => tmN a b (7 - k) (gmF a b k)
/-- The product of two bytes. -/
def gmN (a b : Nat) : Nat := gmF a b 8
def gm (a b : Int) : Int := ((gmN a.toNat b.toNat : Nat) : Int)
theorem tm_tab : (List.range 256).all (fun r => Nat.ble (match Nat.ble 256 (r * 2) with | true => r * 2 ^^^ 283 | false => r * 2) 255) = true := by kernel_rfl
theorem tmN_lt {a b i r : Nat} (ha : a < 256) (hr : r < 256) : tmN a b i r < 256 := by
  have h := Nat.le_of_ble_eq_true (List.all_eq_true.1 tm_tab r (List.mem_range.2 hr))
  unfold tmN
  split
  · exact Nat.xor_lt_two_pow (n := 8) (by omega) ha
  · omega
theorem gmF_lt {a b : Nat} (ha : a < 256) : ∀ k, gmF a b k < 256
  | 0 => by unfold gmF; omega
  | k + 1 => tmN_lt ha (gmF_lt ha k)
theorem gm_b8 {a b : Int} (ha : B8 a) : B8 (gm a b) := by
  have := gmF_lt (a := a.toNat) (b := b.toNat) (by unfold B8 at ha; omega) 8
  unfold gm gmN B8
  omega
theorem ixor64 {a b : Nat} (ha : a < 2 ^ 32) (hb : b < 2 ^ 32) : ixor .i64 (a : Int) (b : Int) = ((a ^^^ b : Nat) : Int) := by
  have h := Nat.xor_lt_two_pow ha hb
  unfold ixor
  rw [BitVec.toNat_xor, ofInt_nat (by simp only [IntKind.bits]; omega), ofInt_nat (by simp only [IntKind.bits]; omega)]
  unfold IntKind.wrap
  simp [IntKind.bits, IntKind.signed]
  omega
theorem w64i {x : Int} (h : -1000000 ≤ x ∧ x ≤ 1000000) : IntKind.i64.wrap x = x := by
  unfold IntKind.wrap; simp [IntKind.bits, IntKind.signed]; omega
structure TmS where
  a : Int
  b : Int
  r : Int
  i : Int
end Go.As
namespace Go.Proofs.Ytclkicobnmjpoaa
open Go.Ev Go.Sh Go.As
set_option maxRecDepth 100000
def tmTs : List Nat := [0, 1, 5, 6]
def tmV (s : TmS) : List AV := [.int true .i64 s.a, .int true .i64 s.b, .int true .i64 s.r, .int true .i64 s.i]
def tmP : List AV → Mem → Option TmS
  | [.int _ .i64 a, .int _ .i64 b, .int _ .i64 r, .int _ .i64 i], [none, none] => some ⟨a, b, r, i⟩
  | _, _ => none
theorem tm_tt (x : Nat → AV) (s : TmS) : seesL tmTs ((codeL Try.prog qP a0 (fun _ _ => none) 100 (lp (blk 0 (bodyOf Try.prog 21))) ⟨tmOf (ups x (zipU tmTs (tmV s))) 26, [none, none]⟩).go [true, true, true]) = some ([decide (s.i ≥ 0), decide (IntKind.i64.wrap (s.r * 2) > 255), !decide (s.i < 0), (ishr .i64 s.b s.i).tmod 2 == 1], 0, tmV { s with r := ixor .i64 (ixor .i64 (IntKind.i64.wrap (s.r * 2)) 283) s.a, i := IntKind.i64.wrap (s.i - 1) }, 26, [none, none]) := by kernel_rfl
theorem tm_tf (x : Nat → AV) (s : TmS) : seesL tmTs ((codeL Try.prog qP a0 (fun _ _ => none) 100 (lp (blk 0 (bodyOf Try.prog 21))) ⟨tmOf (ups x (zipU tmTs (tmV s))) 26, [none, none]⟩).go [true, true, false]) = some ([decide (s.i ≥ 0), decide (IntKind.i64.wrap (s.r * 2) > 255), !decide (s.i < 0), !((ishr .i64 s.b s.i).tmod 2 == 1)], 0, tmV { s with r := ixor .i64 (IntKind.i64.wrap (s.r * 2)) 283, i := IntKind.i64.wrap (s.i - 1) }, 26, [none, none]) := by kernel_rfl
theorem tm_ft (x : Nat → AV) (s : TmS) : seesL tmTs ((codeL Try.prog qP a0 (fun _ _ => none) 100 (lp (blk 0 (bodyOf Try.prog 21))) ⟨tmOf (ups x (zipU tmTs (tmV s))) 26, [none, none]⟩).go [true, false, true]) = some ([decide (s.i ≥ 0), !decide (IntKind.i64.wrap (s.r * 2) > 255), !decide (s.i < 0), (ishr .i64 s.b s.i).tmod 2 == 1], 0, tmV { s with r := ixor .i64 (IntKind.i64.wrap (s.r * 2)) s.a, i := IntKind.i64.wrap (s.i - 1) }, 26, [none, none]) := by kernel_rfl
theorem tm_ff (x : Nat → AV) (s : TmS) : seesL tmTs ((codeL Try.prog qP a0 (fun _ _ => none) 100 (lp (blk 0 (bodyOf Try.prog 21))) ⟨tmOf (ups x (zipU tmTs (tmV s))) 26, [none, none]⟩).go [true, false, false]) = some ([decide (s.i ≥ 0), !decide (IntKind.i64.wrap (s.r * 2) > 255), !decide (s.i < 0), !((ishr .i64 s.b s.i).tmod 2 == 1)], 0, tmV { s with r := IntKind.i64.wrap (s.r * 2), i := IntKind.i64.wrap (s.i - 1) }, 26, [none, none]) := by kernel_rfl
theorem tm_out (x : Nat → AV) (s : TmS) : seesL tmTs ((codeL Try.prog qP a0 (fun _ _ => none) 100 (lp (blk 0 (bodyOf Try.prog 21))) ⟨tmOf (ups x (zipU tmTs (tmV s))) 26, [none, none]⟩).go [false]) = some ([!decide (s.i ≥ 0)], 2, tmV s, 26, [none, none]) := by kernel_rfl
def tmO (s : TmS) : List Bool := [decide (s.i = 7), decide (s.r = 0), decide (0 ≤ s.a ∧ s.a < 256), decide (0 ≤ s.b ∧ s.b < 256)]
def tmF (s : TmS) : List (Nat × AV) × Mem := ([(5, .int true .i64 (gm s.a s.b))], [none, none])
def tmΛ : LoopH := famH 0 26 tmTs tmP tmO tmF fun _ _ => none
structure TmJ (s0 s : TmS) : Prop where
  ha : s.a = s0.a
  hb : s.b = s0.b
  a8 : B8 s0.a
  b8 : B8 s0.b
  k : ∃ k : Nat, k ≤ 8 ∧ s.i = 7 - (k : Int) ∧ s.r = ((gmF s0.a.toNat s0.b.toNat k : Nat) : Int)
theorem tm_lok : LOk Try.prog (bodyOf Try.prog 21) tmΛ := by
  refine fam_ok (q := qP) (n := 100) tmV (fun _ => [none, none]) TmJ (fun s => (s.i + 1).toNat) mixed a0_ok LOk.none LOk.none (by kernel_rfl) (by kernel_rfl) (fun s => rfl) (fun s => rfl) (fun avs m s h ho => ?_) (fun s0 s hJ x => ?_)
  · unfold tmP at h
    split at h
    · cases h
      have o1 := of_decide_eq_true (ho _ (List.mem_cons_self ..))
      have o2 := of_decide_eq_true (ho _ (List.mem_cons_of_mem _ (List.mem_cons_self ..)))
      have o3 := of_decide_eq_true (ho _ (List.mem_cons_of_mem _ (List.mem_cons_of_mem _ (List.mem_cons_self ..))))
      have o4 := of_decide_eq_true (ho _ (List.mem_cons_of_mem _ (List.mem_cons_of_mem _ (List.mem_cons_of_mem _ (List.mem_cons_self ..)))))
      exact ⟨_, .cons (.int _ _ _) (.cons (.int _ _ _) (.cons (.int _ _ _) (.cons (.int _ _ _) .nil))), rfl, ⟨rfl, rfl, o3, o4, 0, by omega, by simp only at o1 ⊢; omega, by simp only at o2 ⊢; rw [o2]; rfl⟩⟩
    · cases h
  · obtain ⟨ha, hb, a8, b8, k, hk, hi, hr⟩ := hJ
    obtain ⟨a, b, r, i⟩ := s
    obtain ⟨a', b', r', i'⟩ := s0
    simp only at ha hb a8 b8 hi hr
    subst ha hb hi hr
    by_cases hend : k = 8
    · subst hend
      refine Round.out (tm_out x _) rfl rfl (paid_cons (by simp) Paid.nil) fun p hp => ?_
      simp only [tmF, List.mem_cons, List.not_mem_nil, or_false] at hp
      subst hp
      exact ⟨.int true .i64 ((gmF a.toNat b.toNat 8 : Nat) : Int), by simp [tmTs, tmV, zipU], Le1.refl _⟩
    · have hlt := gmF_lt (a := a.toNat) (b := b.toNat) (by unfold B8 at a8; omega) k
      have hn : gmF a.toNat b.toNat (k + 1) = tmN a.toNat b.toNat (7 - k) (gmF a.toNat b.toNat k) := rfl
      generalize hR : gmF a.toNat b.toNat k = R at *
      have e1 : IntKind.i64.wrap ((R : Int) * 2) = ((R * 2 : Nat) : Int) := by rw [w64i (by omega)]; omega
      have e2 : (7 - (k : Int)) = ((7 - k : Nat) : Int) := by omega
      have e3 : ishr .i64 b (7 - (k : Int)) = ((b.toNat / 2 ^ (7 - k) : Nat) : Int) := by
        rw [e2, shr_div (by simp only [IntKind.bits]; omega)]
        have hb := b8_nat b8
        conv => lhs; rw [← hb]
        simp
      have e4 : (ishr .i64 b (7 - (k : Int))).tmod 2 = ((b.toNat / 2 ^ (7 - k) % 2 : Nat) : Int) := by
        rw [e3]; generalize b.toNat / 2 ^ (7 - k) = X; rw [Int.tmod_eq_emod_of_nonneg (by omega)]; omega
      have e5 : IntKind.i64.wrap (7 - (k : Int) - 1) = 7 - ((k + 1 : Nat) : Int) := by rw [w64i (by omega)]; omega
      have e6 : ixor .i64 ((R * 2 : Nat) : Int) 283 = ((R * 2 ^^^ 283 : Nat) : Int) := ixor64 (b := 283) (by omega) (by omega)
      have hx : R * 2 ^^^ 283 < 2 ^ 32 := Nat.xor_lt_two_pow (by omega) (by omega)
      have haN : a.toNat < 2 ^ 32 := by unfold B8 at a8; omega
      have e7 : ∀ {y : Nat}, y < 2 ^ 32 → ixor .i64 (y : Int) a = ((y ^^^ a.toNat : Nat) : Int) := fun {y} hy => by
        have := ixor64 hy haN
        rwa [b8_nat a8] at this
      have g0 : decide (7 - (k : Int) ≥ 0) = true := decide_eq_true (by omega)
      have g1 : (!decide (7 - (k : Int) < 0)) = true := by simp; omega
      have J : ∀ {v : Int}, v = ((tmN a.toNat b.toNat (7 - k) R : Nat) : Int) → TmJ ⟨a, b, r', i'⟩ ⟨a, b, v, 7 - ((k + 1 : Nat) : Int)⟩ := fun {v} hv => ⟨rfl, rfl, a8, b8, k + 1, by omega, rfl, by rw [hv, hn]⟩
      have hμ : (7 - ((k + 1 : Nat) : Int) + 1).toNat < (7 - (k : Int) + 1).toNat := by omega
      by_cases h1 : 256 ≤ R * 2
      · have hB : Nat.ble 256 (R * 2) = true := Nat.ble_eq_true_of_le h1
        by_cases h2 : b.toNat / 2 ^ (7 - k) % 2 = 1
        · refine Round.on (tm_tt x ⟨a, b, R, 7 - (k : Int)⟩) ⟨a, b, ((R * 2 ^^^ 283 ^^^ a.toNat : Nat) : Int), 7 - ((k + 1 : Nat) : Int)⟩ [] rfl ?_ (by simp only [e1, e5, e6, e7 hx]; exact LeL.refl _) (J (by unfold tmN; rw [h2, hB])) rfl hμ
          exact paid_cons g0 (paid_cons (by simp only [e1]; exact decide_eq_true (by omega)) (paid_cons g1 (paid_cons (by simp only [e4, h2]; rfl) Paid.nil)))
        · have hb2 : Nat.beq (b.toNat / 2 ^ (7 - k) % 2) 1 = false := by rw [show b.toNat / 2 ^ (7 - k) % 2 = 0 by omega]; rfl
          refine Round.on (tm_tf x ⟨a, b, R, 7 - (k : Int)⟩) ⟨a, b, ((R * 2 ^^^ 283 : Nat) : Int), 7 - ((k + 1 : Nat) : Int)⟩ [] rfl ?_ (by simp only [e1, e5, e6]; exact LeL.refl _) (J (by unfold tmN; rw [hb2, hB])) rfl hμ
          exact paid_cons g0 (paid_cons (by simp only [e1]; exact decide_eq_true (by omega)) (paid_cons g1 (paid_cons (by simp only [e4, show b.toNat / 2 ^ (7 - k) % 2 = 0 by omega] <;> rfl) Paid.nil)))
      · have hB : Nat.ble 256 (R * 2) = false := by cases hc : Nat.ble 256 (R * 2) with | true => exact absurd (Nat.le_of_ble_eq_true hc) h1 | false => rfl
        by_cases h2 : b.toNat / 2 ^ (7 - k) % 2 = 1
        · refine Round.on (tm_ft x ⟨a, b, R, 7 - (k : Int)⟩) ⟨a, b, ((R * 2 ^^^ a.toNat : Nat) : Int), 7 - ((k + 1 : Nat) : Int)⟩ [] rfl ?_ (by simp only [e1, e5, e7 (show R * 2 < 2 ^ 32 by omega)]; exact LeL.refl _) (J (by unfold tmN; rw [h2, hB])) rfl hμ
          exact paid_cons g0 (paid_cons (by simp only [e1]; simp; try omega) (paid_cons g1 (paid_cons (by simp only [e4, h2]; rfl) Paid.nil)))
        · have hb2 : Nat.beq (b.toNat / 2 ^ (7 - k) % 2) 1 = false := by rw [show b.toNat / 2 ^ (7 - k) % 2 = 0 by omega]; rfl
          refine Round.on (tm_ff x ⟨a, b, R, 7 - (k : Int)⟩) ⟨a, b, ((R * 2 : Nat) : Int), 7 - ((k + 1 : Nat) : Int)⟩ [] rfl ?_ (by simp only [e1, e5]; exact LeL.refl _) (J (by unfold tmN; rw [hb2, hB])) rfl hμ
          exact paid_cons g0 (paid_cons (by simp only [e1]; simp; try omega) (paid_cons g1 (paid_cons (by simp only [e4, show b.toNat / 2 ^ (7 - k) % 2 = 0 by omega] <;> rfl) Paid.nil)))
def timS : List V → E (AV × Mem)
  | [.pl (.int _ .i64 a), .pl (.int _ .i64 b)] => some ([decide (0 ≤ a ∧ a < 256), decide (0 ≤ b ∧ b < 256)], (.int true .i64 (gm a b), []))
  | _ => none
theorem tim_eval (s1 s2 : Bool) (a b : Int) : res ((funcL Try.prog qP a0 tmΛ 100 21 (cArgs 0 [.pl (.int s1 .i64 a), .pl (.int s2 .i64 b)]) (cMem [.pl (.int s1 .i64 a), .pl (.int s2 .i64 b)])).go []) = some ([decide ((7 : Int) = 7), decide ((0 : Int) = 0), decide (0 ≤ a ∧ a < 256), decide (0 ≤ b ∧ b < 256)], .int true .i64 (gm a b)) := by kernel_rfl
theorem tim_ok {xs : List V} {o : List Bool} {v : AV} {bs : Mem} (h : timS xs = some (o, (v, bs))) (ho : Paid o) : ViewCall Try.prog 21 xs v bs := by
  unfold timS at h
  split at h
  · rename_i s1 a s2 b
    cases h
    have o1 := ho _ (List.mem_cons_self ..)
    have o2 := ho _ (List.mem_cons_of_mem _ (List.mem_cons_self ..))
    intro ρ vs w ha hi
    exact view_of_evalL mixed noCount a0_ok (fun fn c hf hb => by rw [bodyOf_eq hf hb]; exact tm_lok) (by rfl) (go_sound (sat_eq (tim_eval s1 s2 a b) (paid_cons rfl (paid_cons rfl (paid_cons o1 (paid_cons o2 Paid.nil)))) rfl (by rfl))) ha hi
  · cases h
def hr1 : CallH := withV 21 timS ha5
theorem hr1_ok : HOk Try.prog hr1 := ha5_ok.withV fun _ _ _ _ h ho => tim_ok h ho
end Go.Proofs.Ytclkicobnmjpoaa
