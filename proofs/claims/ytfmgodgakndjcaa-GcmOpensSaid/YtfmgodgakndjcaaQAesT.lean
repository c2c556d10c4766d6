/- The reference's block cipher: products of bytes, as a family. Own work. -/
import Derived.Test.YtfmgodgakndjcaaQAesC0
set_option linter.unusedSimpArgs false
set_option linter.unusedVariables false
set_option linter.unusedSectionVars false
namespace Go.As
open Go.Ev Go.Sh
/-- A step of a product. -/
def tmN (a b i r : Nat) : Nat :=
  match Nat.beq (b / 2 ^ i % 2) 1 with
  | true => (match Nat.ble 256 (r * 2) with | true => r * 2 ^^^ 283 | false => r * 2) ^^^ a
  | false => (match Nat.ble 256 (r * 2) with | true => r * 2 ^^^ 283 | false => r * 2)
def gmF (a b : Nat) : Nat → Nat
  | 0 => 0
  | k + 1 => tmN a b (7 - k) (gmF a b k)
/-- The product of two bytes. -/
def gmN (a b : Nat) : Nat := gmF a b 8
def gm (a b : Int) : Int := ((gmN a.toNat b.toNat : Nat) : Int)
theorem tm_tab : (List.range 256).all (fun r => Nat.ble (match Nat.ble 256 (r * 2) with | true => r * 2 ^^^ 283 | false => r * 2) 255) = true := by kernel_rfl
theorem tmN_lt {a b i r : Nat} (ha : a < 256) (hr : r < 256) : tmN a b i r < 256 := by
  have h := Nat.le_of_ble_eq_true (List.all_eq_true.1 tm_tab r (List.mem_range.2 hr))
  unfold tmN
  split
  · exact Nat.xor_lt_two_pow (n := 8) (by omega) ha
  · omega
theorem gmF_lt {a b : Nat} (ha : a < 256) : ∀ k, gmF a b k < 256
  | 0 => by unfold gmF; omega
  | k + 1 => tmN_lt ha (gmF_lt ha k)
theorem gm_b8 {a b : Int} (ha : B8 a) : B8 (gm a b) := by
  have := gmF_lt (a := a.toNat) (b := b.toNat) (by unfold B8 at ha; omega) 8
  unfold gm gmN B8
  omega
theorem ixor64 {a b : Nat} (ha : a < 2 ^ 32) (hb : b < 2 ^ 32) : ixor .i64 (a : Int) (b : Int) = ((a ^^^ b : Nat) : Int) := by
  have h := Nat.xor_lt_two_pow ha hb
  unfold ixor
  rw [BitVec.toNat_xor, ofInt_nat (by simp only [IntKind.bits]; omega), ofInt_nat (by simp only [IntKind.bits]; omega)]
  unfold IntKind.wrap
  simp [IntKind.bits, IntKind.signed]
  omega
theorem w64i {x : Int} (h : -1000000 ≤ x ∧ x ≤ 1000000) : IntKind.i64.wrap x = x := by
  unfold IntKind.wrap; simp [IntKind.bits, IntKind.signed]; omega
structure TmS where
  a : Int
  b : Int
  r : Int
  i : Int
end Go.As
namespace Go.Proofs.Ytfmgodgakndjcaa
open Go.Ev Go.Sh Go.As
set_option maxRecDepth 100000
def tmTs : List Nat := [0, 1, 5, 6]
def tmV (s : TmS) : List AV := [.int true .i64 s.a, .int true .i64 s.b, .int true .i64 s.r, .int true .i64 s.i]
def tmP : List AV → Mem → Option TmS
  | [.int _ .i64 a, .int _ .i64 b, .int _ .i64 r, .int _ .i64 i], [none, none] => some ⟨a, b, r, i⟩
  | _, _ => none
theorem tm_tt (x : Nat → AV) (s : TmS) : seesL tmTs ((codeL Try.prog qP a0 (fun _ _ => none) 100 (lp (blk 0 (bodyOf Try.prog 60))) ⟨tmOf (ups x (zipU tmTs (tmV s))) 26, [none, none]⟩).go [true, true, true]) = some ([decide (s.i ≥ 0), decide (IntKind.i64.wrap (s.r * 2) > 255), !decide (s.i < 0), (ishr .i64 s.b s.i).tmod 2 == 1], 0, tmV { s with r := ixor .i64 (ixor .i64 (IntKind.i64.wrap (s.r * 2)) 283) s.a, i := IntKind.i64.wrap (s.i - 1) }, 26, [none, none]) := by kernel_rfl
theorem tm_tf (x : Nat → AV) (s : TmS) : seesL tmTs ((codeL Try.prog qP a0 (fun _ _ => none) 100 (lp (blk 0 (bodyOf Try.prog 60))) ⟨tmOf (ups x (zipU tmTs (tmV s))) 26, [none, none]⟩).go [true, true, false]) = some ([decide (s.i ≥ 0), decide (IntKind.i64.wrap (s.r * 2) > 255), !decide (s.i < 0), !((ishr .i64 s.b s.i).tmod 2 == 1)], 0, tmV { s with r := ixor .i64 (IntKind.i64.wrap (s.r * 2)) 283, i := IntKind.i64.wrap (s.i - 1) }, 26, [none, none]) := by kernel_rfl
theorem tm_ft (x : Nat → AV) (s : TmS) : seesL tmTs ((codeL Try.prog qP a0 (fun _ _ => none) 100 (lp (blk 0 (bodyOf Try.prog 60))) ⟨tmOf (ups x (zipU tmTs (tmV s))) 26, [none, none]⟩).go [true, false, true]) = some ([decide (s.i ≥ 0), !decide (IntKind.i64.wrap (s.r * 2) > 255), !decide (s.i < 0), (ishr .i64 s.b s.i).tmod 2 == 1], 0, tmV { s with r := ixor .i64 (IntKind.i64.wrap (s.r * 2)) s.a, i := IntKind.i64.wrap (s.i - 1) }, 26, [none, none]) := by kernel_rfl
theorem tm_ff (x : Nat → AV) (s : TmS) : seesL tmTs ((codeL Try.prog qP a0 (fun _ _ => none) 100 (lp (blk 0 (bodyOf Try.prog 60))) ⟨tmOf (ups x (zipU tmTs (tmV s))) 26, [none, none]⟩).go [true, false, false]) = some ([decide (s.i ≥ 0), !decide (IntKind.i64.wrap (s.r * 2) > 255), !decide (s.i < 0), !((ishr .i64 s.b s.i).tmod 2 == 1)], 0, tmV { s with r := IntKind.i64.wrap (s.r * 2), i := IntKind.i64.wrap (s.i - 1) }, 26, [none, none]) := by kernel_rfl
theorem tm_out (x : Nat → AV) (s : TmS) : seesL tmTs ((codeL Try.prog qP a0 (fun _ _ => none) 100 (lp (blk 0 (bodyOf Try.prog 60))) ⟨tmOf (ups x (zipU tmTs (tmV s))) 26, [none, none]⟩).go [false]) = some ([!decide (s.i ≥ 0)], 2, tmV s, 26, [none, none]) := by kernel_rfl
def tmO (s : TmS) : List Bool := [decide (s.i = 7), decide (s.r = 0), decide (0 ≤ s.a ∧ s.a < 256), decide (0 ≤ s.b ∧ s.b < 256)]
def tmF (s : TmS) : List (Nat × AV) × Mem := ([(5, .int true .i64 (gm s.a s.b))], [none, none])
def tmΛ : LoopH := famH 0 26 tmTs tmP tmO tmF fun _ _ => none
structure TmJ (s0 s : TmS) : Prop where
  ha : s.a = s0.a
  hb : s.b = s0.b
  a8 : B8 s0.a
  b8 : B8 s0.b
  k : ∃ k : Nat, k ≤ 8 ∧ s.i = 7 - (k : Int) ∧ s.r = ((gmF s0.a.toNat s0.b.toNat k : Nat) : Int)
theorem tm_lok : LOk Try.prog (bodyOf Try.prog 60) tmΛ := by
  refine fam_ok (q := qP) (n := 100) tmV (fun _ => [none, none]) TmJ (fun s => (s.i + 1).toNat) mixed a0_ok LOk.none LOk.none (by kernel_rfl) (by kernel_rfl) (fun s => rfl) (fun s => rfl) (fun avs m s h ho => ?_) (fun s0 s hJ x => ?_)
  · unfold tmP at h
    split at h
    · cases h
      have o1 := of_decide_eq_true (ho _ (List.mem_cons_self ..))
      have o2 := of_decide_eq_true (ho _ (List.mem_cons_of_mem _ (List.mem_cons_self ..)))
      have o3 := of_decide_eq_true (ho _ (List.mem_cons_of_mem _ (List.mem_cons_of_mem _ (List.mem_cons_self ..))))
      have o4 := of_decide_eq_true (ho _ (List.mem_cons_of_mem _ (List.mem_cons_of_mem _ (List.mem_cons_of_mem _ (List.mem_cons_self ..)))))
      exact ⟨_, .cons (.int _ _ _) (.cons (.int _ _ _) (.cons (.int _ _ _) (.cons (.int _ _ _) .nil))), rfl, ⟨rfl, rfl, o3, o4, 0, by omega, by simp only at o1 ⊢; omega, by simp only at o2 ⊢; rw [o2]; rfl⟩⟩
    · cases h
  · obtain ⟨ha, hb, a8, b8, k, hk, hi, hr⟩ := hJ
    obtain ⟨a, b, r, i⟩ := s
    obtain ⟨a', b', r', i'⟩ := s0
    simp only at ha hb a8 b8 hi hr
    subst ha hb hi hr
    by_cases hend : k = 8
    · subst hend
      refine Round.out (tm_out x _) rfl rfl (paid_cons (by simp) Paid.nil) fun p hp => ?_
      simp only [tmF, List.mem_cons, List.not_mem_nil, or_false] at hp
      subst hp
      exact ⟨.int true .i64 ((gmF a.toNat b.toNat 8 : Nat) : Int), by simp [tmTs, tmV, zipU], Le1.refl _⟩
    · have hlt := gmF_lt (a := a.toNat) (b := b.toNat) (by unfold B8 at a8; omega) k
      have hn : gmF a.toNat b.toNat (k + 1) = tmN a.toNat b.toNat (7 - k) (gmF a.toNat b.toNat k) := rfl
      generalize hR : gmF a.toNat b.toNat k = R at *
      have e1 : IntKind.i64.wrap ((R : Int) * 2) = ((R * 2 : Nat) : Int) := by rw [w64i (by omega)]; omega
      have e2 : (7 - (k : Int)) = ((7 - k : Nat) : Int) := by omega
      have e3 : ishr .i64 b (7 - (k : Int)) = ((b.toNat / 2 ^ (7 - k) : Nat) : Int) := by
        rw [e2, shr_div (by simp only [IntKind.bits]; omega)]
        have hb := b8_nat b8
        conv => lhs; rw [← hb]
        simp
      have e4 : (ishr .i64 b (7 - (k : Int))).tmod 2 = ((b.toNat / 2 ^ (7 - k) % 2 : Nat) : Int) := by
        rw [e3]; generalize b.toNat / 2 ^ (7 - k) = X; rw [Int.tmod_eq_emod_of_nonneg (by omega)]; omega
      have e5 : IntKind.i64.wrap (7 - (k : Int) - 1) = 7 - ((k + 1 : Nat) : Int) := by rw [w64i (by omega)]; omega
      have e6 : ixor .i64 ((R * 2 : Nat) : Int) 283 = ((R * 2 ^^^ 283 : Nat) : Int) := ixor64 (b := 283) (by omega) (by omega)
      have hx : R * 2 ^^^ 283 < 2 ^ 32 := Nat.xor_lt_two_pow (by omega) (by omega)
      have haN : a.toNat < 2 ^ 32 := by unfold B8 at a8; omega
      have e7 : ∀ {y : Nat}, y < 2 ^ 32 → ixor .i64 (y : Int) a = ((y ^^^ a.toNat : Nat) : Int) := fun {y} hy => by
        have := ixor64 hy haN
        rwa [b8_nat a8] at this
      have g0 : decide (7 - (k : Int) ≥ 0) = true := decide_eq_true (by omega)
      have g1 : (!decide (7 - (k : Int) < 0)) = true := by simp; omega
      have J : ∀ {v : Int}, v = ((tmN a.toNat b.toNat (7 - k) R : Nat) : Int) → TmJ ⟨a, b, r', i'⟩ ⟨a, b, v, 7 - ((k + 1 : Nat) : Int)⟩ := fun {v} hv => ⟨rfl, rfl, a8, b8, k + 1, by omega, rfl, by rw [hv, hn]⟩
      have hμ : (7 - ((k + 1 : Nat) : Int) + 1).toNat < (7 - (k : Int) + 1).toNat := by omega
      by_cases h1 : 256 ≤ R * 2
      · have hB : Nat.ble 256 (R * 2) = true := Nat.ble_eq_true_of_le h1
        by_cases h2 : b.toNat / 2 ^ (7 - k) % 2 = 1
        · refine Round.on (tm_tt x ⟨a, b, R, 7 - (k : Int)⟩) ⟨a, b, ((R * 2 ^^^ 283 ^^^ a.toNat : Nat) : Int), 7 - ((k + 1 : Nat) : Int)⟩ [] rfl ?_ (by simp only [e1, e5, e6, e7 hx]; exact LeL.refl _) (J (by unfold tmN; rw [h2, hB])) rfl hμ
          exact paid_cons g0 (paid_cons (by simp only [e1]; exact decide_eq_true (by omega)) (paid_cons g1 (paid_cons (by simp only [e4, h2]; rfl) Paid.nil)))
        · have hb2 : Nat.beq (b.toNat / 2 ^ (7 - k) % 2) 1 = false := by rw [show b.toNat / 2 ^ (7 - k) % 2 = 0 by omega]; rfl
          refine Round.on (tm_tf x ⟨a, b, R, 7 - (k : Int)⟩) ⟨a, b, ((R * 2 ^^^ 283 : Nat) : Int), 7 - ((k + 1 : Nat) : Int)⟩ [] rfl ?_ (by simp only [e1, e5, e6]; exact LeL.refl _) (J (by unfold tmN; rw [hb2, hB])) rfl hμ
          exact paid_cons g0 (paid_cons (by simp only [e1]; exact decide_eq_true (by omega)) (paid_cons g1 (paid_cons (by simp only [e4, show b.toNat / 2 ^ (7 - k) % 2 = 0 by omega] <;> rfl) Paid.nil)))
      · have hB : Nat.ble 256 (R * 2) = false := by cases hc : Nat.ble 256 (R * 2) with | true => exact absurd (Nat.le_of_ble_eq_true hc) h1 | false => rfl
        by_cases h2 : b.toNat / 2 ^ (7 - k) % 2 = 1
        · refine Round.on (tm_ft x ⟨a, b, R, 7 - (k : Int)⟩) ⟨a, b, ((R * 2 ^^^ a.toNat : Nat) : Int), 7 - ((k + 1 : Nat) : Int)⟩ [] rfl ?_ (by simp only [e1, e5, e7 (show R * 2 < 2 ^ 32 by omega)]; exact LeL.refl _) (J (by unfold tmN; rw [h2, hB])) rfl hμ
          exact paid_cons g0 (paid_cons (by simp only [e1]; simp; try omega) (paid_cons g1 (paid_cons (by simp only [e4, h2]; rfl) Paid.nil)))
        · have hb2 : Nat.beq (b.toNat / 2 ^ (7 - k) % 2) 1 = false := by rw [show b.toNat / 2 ^ (7 - k) % 2 = 0 by omega]; rfl
          refine Round.on (tm_ff x ⟨a, b, R, 7 - (k : Int)⟩) ⟨a, b, ((R * 2 : Nat) : Int), 7 - ((k + 1 : Nat) : Int)⟩ [] rfl ?_ (by simp only [e1, e5]; exact LeL.refl _) (J (by unfold tmN; rw [hb2, hB])) rfl hμ
          exact paid_cons g0 (paid_cons (by simp only [e1]; simp; try omega) (paid_cons g1 (paid_cons (by simp only [e4, show b.toNat / 2 ^ (7 - k) % 2 = 0 by omega] <;> rfl) Paid.nil)))
def timS : List V → E (AV × Mem)
  | [.pl (.int _ .i64 a), .pl (.int _ .i64 b)] => some ([decide (0 ≤ a ∧ a < 256), decide (0 ≤ b ∧ b < 256)], (.int true .i64 (gm a b), []))
  | _ => none
theorem tim_eval (s1 s2 : Bool) (a b : Int) : res ((funcL Try.prog qP a0 tmΛ 100 60 (cArgs 0 [.pl (.int s1 .i64 a), .pl (.int s2 .i64 b)]) (cMem [.pl (.int s1 .i64 a), .pl (.int s2 .i64 b)])).go []) = some ([decide ((7 : Int) = 7), decide ((0 : Int) = 0), decide (0 ≤ a ∧ a < 256), decide (0 ≤ b ∧ b < 256)], .int true .i64 (gm a b)) := by kernel_rfl
theorem tim_ok {xs : List V} {o : List Bool} {v : AV} {bs : Mem} (h : timS xs = some (o, (v, bs))) (ho : Paid o) : ViewCall Try.prog 60 xs v bs := by
  unfold timS at h
  split at h
  · rename_i s1 a s2 b
    cases h
    have o1 := ho _ (List.mem_cons_self ..)
    have o2 := ho _ (List.mem_cons_of_mem _ (List.mem_cons_self ..))
    intro ρ vs w ha hi
    exact view_of_evalL mixed noCount a0_ok (fun fn c hf hb => by rw [bodyOf_eq hf hb]; exact tm_lok) (by rfl) (go_sound (sat_eq (tim_eval s1 s2 a b) (paid_cons rfl (paid_cons rfl (paid_cons o1 (paid_cons o2 Paid.nil)))) rfl (by rfl))) ha hi
  · cases h
def hr1 : CallH := withV 60 timS ha5
theorem hr1_ok : HOk Try.prog hr1 := ha5_ok.withV fun _ _ _ _ h ho => tim_ok h ho
end Go.Proofs.Ytfmgodgakndjcaa
namespace Go.As
open Go.Ev Go.Sh
structure PwS where
  a : Int
  n : Int
  r : Int
/-- The power, in so many rounds at most. -/
def pwN : Nat → Nat → Nat → Nat → Nat
  | 0, _, _, r => r
  | f + 1, a, n, r => match Nat.ble 1 n with
    | true => pwN f (gmN a a) (n / 2) (match Nat.beq (n % 2) 1 with | true => gmN r a | false => r)
    | false => r
def pw (a n : Int) : Int := ((pwN 9 a.toNat n.toNat 1 : Nat) : Int)
theorem gmN_lt {a b : Nat} (ha : a < 256) : gmN a b < 256 := gmF_lt ha 8
theorem pwN_lt : ∀ {f a n r : Nat}, r < 256 → pwN f a n r < 256
  | 0, a, n, r, h => h
  | f + 1, a, n, r, h => by
    unfold pwN
    split
    · refine pwN_lt ?_
      split
      · exact gmN_lt h
      · exact h
    · exact h
theorem gm_nat (a b : Nat) : gm (a : Int) (b : Int) = ((gmN a b : Nat) : Int) := by unfold gm; rw [Int.toNat_natCast, Int.toNat_natCast]
theorem pw_b8 (a n : Int) : B8 (pw a n) := by
  have := pwN_lt (f := 9) (a := a.toNat) (n := n.toNat) (r := 1) (by omega)
  unfold pw B8; omega
end Go.As
namespace Go.Proofs.Ytfmgodgakndjcaa
open Go.Ev Go.Sh Go.As
set_option maxRecDepth 100000
def pwTs : List Nat := [0, 1, 5]
def pwV (s : PwS) : List AV := [.int true .i64 s.a, .int true .i64 s.n, .int true .i64 s.r]
def pwP : List AV → Mem → Option PwS
  | [.int _ .i64 a, .int _ .i64 n, .int _ .i64 r], [none, none] => some ⟨a, n, r⟩
  | _, _ => none
theorem pw_t (x : Nat → AV) (s : PwS) : seesL pwTs ((codeL Try.prog qP (deep Try.prog qP hr1 100 3) (fun _ _ => none) 100 (lp (blk 0 (bodyOf Try.prog 40))) ⟨tmOf (ups x (zipU pwTs (pwV s))) 20, [none, none]⟩).go [true, true]) = some ([decide (s.n > 0), s.n.tmod 2 == 1, decide (0 ≤ s.r ∧ s.r < 256), decide (0 ≤ s.a ∧ s.a < 256), decide (0 ≤ s.a ∧ s.a < 256), decide (0 ≤ s.a ∧ s.a < 256)], 0, [.int true .i64 (gm s.a s.a), .int true .i64 (IntKind.i64.wrap (s.n.tdiv 2)), .int true .i64 (gm s.r s.a)], 20, [none, none]) := by kernel_rfl
theorem pw_f (x : Nat → AV) (s : PwS) : seesL pwTs ((codeL Try.prog qP (deep Try.prog qP hr1 100 3) (fun _ _ => none) 100 (lp (blk 0 (bodyOf Try.prog 40))) ⟨tmOf (ups x (zipU pwTs (pwV s))) 20, [none, none]⟩).go [true, false]) = some ([decide (s.n > 0), !(s.n.tmod 2 == 1), decide (0 ≤ s.a ∧ s.a < 256), decide (0 ≤ s.a ∧ s.a < 256)], 0, [.int true .i64 (gm s.a s.a), .int true .i64 (IntKind.i64.wrap (s.n.tdiv 2)), .int true .i64 s.r], 20, [none, none]) := by kernel_rfl
theorem pw_out (x : Nat → AV) (s : PwS) : seesL pwTs ((codeL Try.prog qP (deep Try.prog qP hr1 100 3) (fun _ _ => none) 100 (lp (blk 0 (bodyOf Try.prog 40))) ⟨tmOf (ups x (zipU pwTs (pwV s))) 20, [none, none]⟩).go [false]) = some ([!decide (s.n > 0)], 2, pwV s, 20, [none, none]) := by kernel_rfl
def pwO (s : PwS) : List Bool := [decide (s.r = 1), decide (0 ≤ s.a ∧ s.a < 256), decide (0 ≤ s.n ∧ s.n < 512)]
def pwF (s : PwS) : List (Nat × AV) × Mem := ([(5, .int true .i64 (pw s.a s.n))], [none, none])
def pwΛ : LoopH := famH 0 20 pwTs pwP pwO pwF fun _ _ => none
structure PwJ (s0 s : PwS) : Prop where
  a8 : B8 s.a
  r8 : B8 s.r
  f : ∃ f : Nat, 0 ≤ s.n ∧ s.n.toNat < 2 ^ f ∧ f ≤ 9 ∧ ((pwN f s.a.toNat s.n.toNat s.r.toNat : Nat) : Int) = pw s0.a s0.n
theorem pw_lok : LOk Try.prog (bodyOf Try.prog 40) pwΛ := by
  refine fam_ok (q := qP) (n := 100) pwV (fun _ => [none, none]) PwJ (fun s => s.n.toNat) mixed (hr1_ok.deep (q := qP) mixed noCount 100 3) LOk.none LOk.none (by kernel_rfl) (by kernel_rfl) (fun s => rfl) (fun s => rfl) (fun avs m s h ho => ?_) (fun s0 s hJ x => ?_)
  · unfold pwP at h
    split at h
    · rename_i s1 a s2 n s3 r
      cases h
      have o1 := of_decide_eq_true (ho _ (List.mem_cons_self ..))
      have o2 := of_decide_eq_true (ho _ (List.mem_cons_of_mem _ (List.mem_cons_self ..)))
      have o3 := of_decide_eq_true (ho _ (List.mem_cons_of_mem _ (List.mem_cons_of_mem _ (List.mem_cons_self ..))))
      simp only at o1 o2 o3
      subst o1
      exact ⟨⟨a, n, 1⟩, .cons (.int _ _ _) (.cons (.int _ _ _) (.cons (.int _ _ _) .nil)), rfl, ⟨o2, (show B8 1 from ⟨by decide, by decide⟩), 9, o3.1, by simp only; omega, Nat.le_refl _, rfl⟩⟩
    · cases h
  · obtain ⟨a8, r8, f, n0, nf, f9, hp⟩ := hJ
    obtain ⟨a, n, r⟩ := s
    simp only at a8 r8 n0 nf hp
    by_cases hn : n > 0
    · obtain ⟨a', rfl⟩ := Int.eq_ofNat_of_zero_le a8.1
      obtain ⟨n', rfl⟩ := Int.eq_ofNat_of_zero_le n0
      obtain ⟨r', rfl⟩ := Int.eq_ofNat_of_zero_le r8.1
      simp only [Int.toNat_natCast] at nf hp
      match f, nf, hp, f9 with
      | 0, nf, hp, f9 => simp at nf; omega
      | f + 1, nf, hp, f9 =>
      have hb1 : Nat.ble 1 n' = true := Nat.ble_eq_true_of_le (by omega)
      have hp2 : (2 : Nat) ^ (f + 1) = 2 ^ f * 2 := Nat.pow_succ ..
      have hlt : (n' : Nat) < 2 ^ 9 := Nat.lt_of_lt_of_le nf (Nat.pow_le_pow_right (by omega) f9)
      have e1 : IntKind.i64.wrap ((n' : Int).tdiv 2) = ((n' / 2 : Nat) : Int) := by
        rw [Int.tdiv_eq_ediv_of_nonneg (by omega), w64i (by omega)]; omega
      have e2 : (n' : Int).tmod 2 = ((n' % 2 : Nat) : Int) := by rw [Int.tmod_eq_emod_of_nonneg (by omega)]; omega
      have ga : decide (0 ≤ (a' : Int) ∧ (a' : Int) < 256) = true := decide_eq_true a8
      have gr : decide (0 ≤ (r' : Int) ∧ (r' : Int) < 256) = true := decide_eq_true r8
      have gn : decide ((n' : Int) > 0) = true := decide_eq_true hn
      unfold pwN at hp
      rw [hb1] at hp
      have hμ : ((n' / 2 : Nat) : Int).toNat < (n' : Int).toNat := by omega
      by_cases h1 : n' % 2 = 1
      · rw [h1] at hp
        refine Round.on (pw_t x ⟨a', n', r'⟩) ⟨((gmN a' a' : Nat) : Int), ((n' / 2 : Nat) : Int), ((gmN r' a' : Nat) : Int)⟩ [] rfl ?_ (by simp only [gm_nat, e1]; exact LeL.refl _) ⟨by rw [← gm_nat]; exact gm_b8 a8, by show B8 ((gmN r' a' : Nat) : Int); rw [← gm_nat]; exact gm_b8 r8, f, by simp only; omega, by simp only [Int.toNat_natCast]; omega, by omega, by simp only [Int.toNat_natCast]; exact hp⟩ rfl hμ
        exact paid_cons gn (paid_cons (by simp only [e2, h1]; rfl) (paid_cons gr (paid_cons ga (paid_cons ga (paid_cons ga Paid.nil)))))
      · rw [show n' % 2 = 0 by omega] at hp
        refine Round.on (pw_f x ⟨a', n', r'⟩) ⟨((gmN a' a' : Nat) : Int), ((n' / 2 : Nat) : Int), r'⟩ [] rfl ?_ (by simp only [gm_nat, e1]; exact LeL.refl _) ⟨by rw [← gm_nat]; exact gm_b8 a8, r8, f, by simp only; omega, by simp only [Int.toNat_natCast]; omega, by omega, by simp only [Int.toNat_natCast]; exact hp⟩ rfl hμ
        exact paid_cons gn (paid_cons (by simp only [e2, show n' % 2 = 0 by omega] <;> rfl) (paid_cons ga (paid_cons ga Paid.nil)))
    · obtain rfl : n = 0 := by omega
      have e : ((pwN f a.toNat (0 : Int).toNat r.toNat : Nat) : Int) = r := by
        have : pwN f a.toNat 0 r.toNat = r.toNat := by cases f <;> rfl
        rw [show (0 : Int).toNat = 0 from rfl, this, b8_nat r8]
      rw [e] at hp
      refine Round.out (pw_out x ⟨a, 0, r⟩) rfl rfl (paid_cons (by simp) Paid.nil) fun p hp' => ?_
      simp only [pwF, List.mem_cons, List.not_mem_nil, or_false] at hp'
      subst hp'
      exact ⟨.int true .i64 r, by simp [pwTs, pwV, zipU], by rw [hp]; exact Le1.refl _⟩
def powS : List V → E (AV × Mem)
  | [.pl (.int _ .i64 a), .pl (.int _ .i64 n)] => some ([decide (0 ≤ a ∧ a < 256), decide (0 ≤ n ∧ n < 512)], (.int true .i64 (pw a n), []))
  | _ => none
theorem pow_eval (s1 s2 : Bool) (a n : Int) : res ((funcL Try.prog qP (deep Try.prog qP hr1 100 3) pwΛ 100 40 (cArgs 0 [.pl (.int s1 .i64 a), .pl (.int s2 .i64 n)]) (cMem [.pl (.int s1 .i64 a), .pl (.int s2 .i64 n)])).go []) = some ([decide ((1 : Int) = 1), decide (0 ≤ a ∧ a < 256), decide (0 ≤ n ∧ n < 512)], .int true .i64 (pw a n)) := by kernel_rfl
theorem pow_ok {xs : List V} {o : List Bool} {v : AV} {bs : Mem} (h : powS xs = some (o, (v, bs))) (ho : Paid o) : ViewCall Try.prog 40 xs v bs := by
  unfold powS at h
  split at h
  · rename_i s1 a s2 n
    cases h
    have o1 := ho _ (List.mem_cons_self ..)
    have o2 := ho _ (List.mem_cons_of_mem _ (List.mem_cons_self ..))
    intro ρ vs w ha hi
    exact view_of_evalL mixed noCount (hr1_ok.deep (q := qP) mixed noCount 100 3) (fun fn c hf hb => by rw [bodyOf_eq hf hb]; exact pw_lok) (by rfl) (go_sound (sat_eq (pow_eval s1 s2 a n) (paid_cons rfl (paid_cons o1 (paid_cons o2 Paid.nil))) rfl (by rfl))) ha hi
  · cases h
def hr2 : CallH := withV 40 powS hr1
theorem hr2_ok : HOk Try.prog hr2 := hr1_ok.withV fun _ _ _ _ h ho => pow_ok h ho
end Go.Proofs.Ytfmgodgakndjcaa
namespace Go.As
open Go.Ev Go.Sh
def subY (x : Int) : Int := ixor .i64 (ixor .i64 (ixor .i64 (ixor .i64 (ixor .i64 x (IntKind.i64.wrap ((ishl .i64 x 1).tmod 256 + ishr .i64 x (IntKind.i64.wrap (8 - 1))))) (IntKind.i64.wrap ((ishl .i64 x (IntKind.i64.wrap (1 + 1))).tmod 256 + ishr .i64 x (IntKind.i64.wrap (8 - (IntKind.i64.wrap (1 + 1))))))) (IntKind.i64.wrap ((ishl .i64 x (IntKind.i64.wrap (IntKind.i64.wrap (1 + 1) + 1))).tmod 256 + ishr .i64 x (IntKind.i64.wrap (8 - (IntKind.i64.wrap (IntKind.i64.wrap (1 + 1) + 1))))))) (IntKind.i64.wrap ((ishl .i64 x (IntKind.i64.wrap (IntKind.i64.wrap (IntKind.i64.wrap (1 + 1) + 1) + 1))).tmod 256 + ishr .i64 x (IntKind.i64.wrap (8 - (IntKind.i64.wrap (IntKind.i64.wrap (IntKind.i64.wrap (1 + 1) + 1) + 1))))))) 99
theorem sub_tab : (List.range 256).all (fun n => decide (subY (pw (n : Int) 254) = sb (n : Int))) = true := by kernel_rfl
theorem sub_eq {a : Int} (ha : B8 a) : subY (pw a 254) = sb a := by
  have h := byte_all sub_tab ha
  simp only [decide_eq_true_eq] at h
  rwa [b8_nat ha] at h
def tabL (i : Nat) : List Int := (List.range i).map (fun j : Nat => sb (j : Int)) ++ List.replicate (256 - i) 0
theorem tab_set {i : Nat} (h : i < 256) : (tabL i).set i (sb (i : Int)) = tabL (i + 1) := by
  unfold tabL
  rw [List.set_append_right _ _ (by simp), List.range_succ, List.map_append]
  simp only [List.length_map, List.length_range, Nat.sub_self, List.map_cons, List.map_nil, List.append_assoc]
  congr 1
  rw [show 256 - i = (256 - (i + 1)) + 1 by omega, List.replicate_succ]
  rfl
theorem tab_end : tabL 256 = sboxL := by kernel_rfl
structure TbS where
  z : List Int
  l : List Int
  i : Int
end Go.As
namespace Go.Proofs.Ytfmgodgakndjcaa
open Go.Ev Go.Sh Go.As
set_option maxRecDepth 100000
def subS : List V → E (AV × Mem)
  | [.pl (.int _ .i64 a)] => some ([decide (0 ≤ a ∧ a < 256)], (.int true .i64 (sb a), []))
  | _ => none
theorem sub_eval (s : Bool) (a : Int) : res (funcA Try.prog qP (deep Try.prog qP hr2 100 3) 100 59 (cArgs 0 [.pl (.int s .i64 a)]) (cMem [.pl (.int s .i64 a)])) = some ([decide (0 ≤ a ∧ a < 256), true], .int true .i64 (subY (pw a 254))) := by kernel_rfl
theorem sub_ok {xs : List V} {o : List Bool} {v : AV} {bs : Mem} (h : subS xs = some (o, (v, bs))) (ho : Paid o) : ViewCall Try.prog 59 xs v bs := by
  unfold subS at h
  split at h
  · rename_i s a
    cases h
    have o1 := ho _ (List.mem_cons_self ..)
    intro ρ vs w ha hi
    exact view_of_res mixed noCount (hr2_ok.deep mixed noCount 100 3) (sub_eval s a) (paid_cons o1 (paid_cons rfl Paid.nil)) (by rw [sub_eq (of_decide_eq_true o1 : 0 ≤ a ∧ a < 256)]) (by rfl) ha hi
  · cases h
def hr3 : CallH := withV 59 subS hr2
theorem hr3_ok : HOk Try.prog hr3 := hr2_ok.withV fun _ _ _ _ h ho => sub_ok h ho
-- the table
def tbTs : List Nat := [0, 1, 2]
def tbV (s : TbS) : List AV := [.ptr false 0 0, .ptr false 1 0, .int true .i64 s.i]
def tbM (s : TbS) : Mem := [some ⟨true, .ints .i64 (some 256) s.z⟩, some ⟨true, .ints .i64 (some 256) s.l⟩]
def tbP : List AV → Mem → Option TbS
  | [.ptr false 0 0, .ptr false 1 0, .int _ .i64 i], [some ⟨true, .ints .i64 (some 256) z⟩, some ⟨true, .ints .i64 (some 256) l⟩] => some ⟨z, l, i⟩
  | _, _ => none
theorem tb_t (x : Nat → AV) (s : TbS) : seesL tbTs ((codeL Try.prog qP (deep Try.prog qP hr3 100 3) (fun _ _ => none) 100 (lp (blk 0 (bodyOf Try.prog 39))) ⟨tmOf (ups x (zipU tbTs (tbV s))) 12, tbM s⟩).go [true]) = some ([decide (s.i < 256), decide (0 ≤ s.i ∧ s.i < 256), decide (0 ≤ s.i) && decide (s.i < ((256 : Nat) : Int)), decide (0 + s.i.toNat * 1 + 1 ≤ 256)], 0, tbV { s with i := IntKind.i64.wrap (s.i + 1) }, 12, tbM { s with l := s.l.set (0 + s.i.toNat * 1) (sb s.i) }) := by kernel_rfl
theorem tb_f (x : Nat → AV) (s : TbS) : seesL tbTs ((codeL Try.prog qP (deep Try.prog qP hr3 100 3) (fun _ _ => none) 100 (lp (blk 0 (bodyOf Try.prog 39))) ⟨tmOf (ups x (zipU tbTs (tbV s))) 12, tbM s⟩).go [false]) = some ([!decide (s.i < 256)], 2, tbV s, 12, tbM s) := by kernel_rfl
def tbO (s : TbS) : List Bool := [decide (s.i = 0), decide (s.l = tabL 0)]
def tbF (s : TbS) : List (Nat × AV) × Mem := ([(0, .ptr false 0 0), (1, .ptr false 1 0)], tbM { s with l := sboxL })
def tbΛ : LoopH := famH 0 12 tbTs tbP tbO tbF fun _ _ => none
theorem tb_lok : LOk Try.prog (bodyOf Try.prog 39) tbΛ := by
  refine fam_ok (q := qP) (n := 100) tbV tbM (fun s0 s => s.z = s0.z ∧ ∃ k : Nat, k ≤ 256 ∧ s.i = k ∧ s.l = tabL k) (fun s => 256 - s.i.toNat) mixed (hr3_ok.deep (q := qP) mixed noCount 100 3) LOk.none LOk.none (by kernel_rfl) (by kernel_rfl) (fun s => rfl) (fun s => rfl) (fun avs m s h ho => ?_) (fun s0 s hJ x => ?_)
  · unfold tbP at h
    split at h
    · rename_i s1 i z l
      cases h
      have o1 := of_decide_eq_true (ho _ (List.mem_cons_self ..))
      have o2 := of_decide_eq_true (ho _ (List.mem_cons_of_mem _ (List.mem_cons_self ..)))
      exact ⟨⟨z, l, i⟩, .cons (.refl _) (.cons (.refl _) (.cons (.int _ _ _) .nil)), rfl, rfl, 0, by omega, o1, o2⟩
    · cases h
  · obtain ⟨hz, k, hk, hi, hl⟩ := hJ
    obtain ⟨z, l, i⟩ := s
    obtain ⟨z0, l0, i0⟩ := s0
    simp only at hz hi hl
    subst hz hi hl
    by_cases hend : k = 256
    · subst hend
      refine Round.out (tb_f x _) rfl (by simp only [tbF, tbM, tab_end]) (paid_cons (by simp) Paid.nil) fun p hp => ?_
      simp only [tbF, List.mem_cons, List.not_mem_nil, or_false] at hp
      rcases hp with rfl | rfl
      · exact ⟨_, by simp [tbTs, tbV, zipU], Le1.refl _⟩
      · exact ⟨_, by simp [tbTs, tbV, zipU], Le1.refl _⟩
    · have e1 : IntKind.i64.wrap ((k : Int) + 1) = ((k + 1 : Nat) : Int) := by rw [w64i (by omega)]; omega
      refine Round.on (tb_t x ⟨z, tabL k, k⟩) ⟨z, tabL (k + 1), ((k + 1 : Nat) : Int)⟩ [] ?_ ?_ (by simp only [e1]; exact LeL.refl _) ⟨rfl, k + 1, by omega, rfl, rfl⟩ rfl (by simp only; omega)
      · simp only [Int.toNat_natCast, Nat.mul_one, Nat.zero_add, tab_set (show k < 256 by omega)]
        rfl
      · exact paid_cons (decide_eq_true (by simp only; omega)) (paid_cons (decide_eq_true (by simp only; omega)) (paid_cons (by simp; omega) (paid_cons (decide_eq_true (by simp only; omega)) Paid.nil)))
def tabS : List V → E (AV × Mem)
  | [] => some ([], (.ints .i64 256 sboxL, []))
  | _ => none
theorem tab_eval : res ((funcL Try.prog qP (deep Try.prog qP hr3 100 3) tbΛ 100 39 [] []).go []) = some ([decide ((0 : Int) = 0), decide (tabL 0 = tabL 0)], .ints .i64 256 sboxL) := by kernel_rfl
theorem tab_ok {xs : List V} {o : List Bool} {v : AV} {bs : Mem} (h : tabS xs = some (o, (v, bs))) (ho : Paid o) : ViewCall Try.prog 39 xs v bs := by
  unfold tabS at h
  split at h
  · cases h
    intro ρ vs w ha hi
    exact view_of_evalL mixed noCount (hr3_ok.deep (q := qP) mixed noCount 100 3) (fun fn c hf hb => by rw [bodyOf_eq hf hb]; exact tb_lok) (by rfl) (go_sound (sat_eq tab_eval (paid_cons rfl (paid_cons (decide_eq_true rfl) Paid.nil)) rfl (by rfl))) ha hi
  · cases h
def hr4 : CallH := withV 39 tabS hr3
theorem hr4_ok : HOk Try.prog hr4 := hr3_ok.withV fun _ _ _ _ h ho => tab_ok h ho
end Go.Proofs.Ytfmgodgakndjcaa
