/- The reference's block cipher: powers of bytes, as a family; its substitutions. Own work. -/
import Derived.Test.YtclkicobnmjpoaaAesR
namespace Go.As
open Go.Ev Go.Sh
structure PwS where
  a : Int
  n : Int
  r : Int
/-- The power, in so many rounds at most. -/
def pwN : Nat → Nat → Nat → Nat → Nat
  | 0, _, _, r => r
  | f + 1, a, n, r => match Nat.ble 1 n with
    | true => pwN f (gmN a a) (n / 2) (match Nat.beq (n % 2) 1 with | true => gmN r a | false => r)
    | false => r
def pw (a n : Int) : Int := ((pwN 9 a.toNat n.toNat 1 : Nat) : Int)
theorem gmN_lt {a b : Nat} (ha : a < 256) : gmN a b < 256 := gmF_lt ha 8
theorem pwN_lt : ∀ {f a n r : Nat}, r < 256 → pwN f a n r < 256
  | 0, a, n, r, h => h
  | f + 1, a, n, r, h => by
    unfold pwN
    split
    · refine pwN_lt ?_
      split
      · exact gmN_lt h
      · exact h
    · exact h
theorem gm_nat (a b : Nat) : gm (a : Int) (b : Int) = ((gmN a b : Nat) : Int) := by unfold gm; rw [Int.toNat_natCast, Int.toNat_natCast]
theorem pw_b8 (a n : Int) : B8 (pw a n) := by
  have := pwN_lt (f := 9) (a := a.toNat) (n := n.toNat) (r := 1) (by omega)
  unfold pw B8; omega
end Go.As
namespace Go.Proofs.Ytclkicobnmjpoaa
open Go.Ev Go.Sh Go.As
set_option maxRecDepth 100000
def pwTs : List Nat := [0, 1, 5]
def pwV (s : PwS) : List AV := [.int true .i64 s.a, .int true .i64 s.n, .int true .i64 s.r]
def pwP : List AV → Mem → Option PwS
  | [.int _ .i64 a, .int _ .i64 n, .int _ .i64 r], [none, none] => some ⟨a, n, r⟩
  | _, _ => none
theorem pw_t (x : Nat → AV) (s : PwS) : seesL pwTs ((codeL Try.prog qP (deep Try.prog qP hr1 100 3) (fun _ _ => none) 100 (lp (blk 0 (bodyOf Try.prog 16))) ⟨tmOf (ups x (zipU pwTs (pwV s))) 20, [none, none]⟩).go [true, true]) = some ([decide (s.n > 0), s.n.tmod 2 == 1, decide (0 ≤ s.r ∧ s.r < 256), decide (0 ≤ s.a ∧ s.a < 256), decide (0 ≤ s.a ∧ s.a < 256), decide (0 ≤ s.a ∧ s.a < 256)], 0, [.int true .i64 (gm s.a s.a), .int true .i64 (IntKind.i64.wrap (s.n.tdiv 2)), .int true .i64 (gm s.r s.a)], 20, [none, none]) := by kernel_rfl
theorem pw_f (x : Nat → AV) (s : PwS) : seesL pwTs ((codeL Try.prog qP (deep Try.prog qP hr1 100 3) (fun _ _ => none) 100 (lp (blk 0 (bodyOf Try.prog 16))) ⟨tmOf (ups x (zipU pwTs (pwV s))) 20, [none, none]⟩).go [true, false]) = some ([decide (s.n > 0), !(s.n.tmod 2 == 1), decide (0 ≤ s.a ∧ s.a < 256), decide (0 ≤ s.a ∧ s.a < 256)], 0, [.int true .i64 (gm s.a s.a), .int true .i64 (IntKind.i64.wrap (s.n.tdiv 2)), .int true .i64 s.r], 20, [none, none]) := by kernel_rfl
theorem pw_out (x : Nat → AV) (s : PwS) : seesL pwTs ((codeL Try.prog qP (deep Try.prog qP hr1 100 3) (fun _ _ => none) 100 (lp (blk 0 (bodyOf Try.prog 16))) ⟨tmOf (ups x (zipU pwTs (pwV s))) 20, [none, none]⟩).go [false]) = some ([!decide (s.n > 0)], 2, pwV s, 20, [none, none]) := by kernel_rfl
def pwO (s : PwS) : List Bool := [decide (s.r = 1), decide (0 ≤ s.a ∧ s.a < 256), decide (0 ≤ s.n ∧ s.n < 512)]
def pwF (s : PwS) : List (Nat × AV) × Mem := ([(5, .int true .i64 (pw s.a s.n))], [none, none])
def pwΛ : LoopH := famH 0 20 pwTs pwP pwO pwF fun _ _ => none
structure PwJ (s0 s : PwS) : Prop where
  a8 : B8 s.a
  r8 : B8 s.r
  f : ∃ f : Nat, 0 ≤ s.n ∧ s.n.toNat < 2 ^ f ∧ f ≤ 9 ∧ ((pwN f s.a.toNat s.n.toNat s.r.toNat : Nat) : Int) = pw s0.a s0.n
theorem pw_lok : LOk Try.prog (bodyOf Try.prog 16) pwΛ := by
  refine fam_ok (q := qP) (n := 100) pwV (fun _ => [none, none]) PwJ (fun s => s.n.toNat) mixed (hr1_ok.deep (q := qP) mixed noCount 100 3) LOk.none LOk.none (by kernel_rfl) (by kernel_rfl) (fun s => rfl) (fun s => rfl) (fun avs m s h ho => ?_) (fun s0 s hJ x => ?_)
  · unfold pwP at h
    split at h
    · rename_i s1 a s2 n s3 r
      cases h
      have o1 := of_decide_eq_true (ho _ (List.mem_cons_self ..))
      have o2 := of_decide_eq_true (ho _ (List.mem_cons_of_mem _ (List.mem_cons_self ..)))
      have o3 := of_decide_eq_true (ho _ (List.mem_cons_of_mem _ (List.mem_cons_of_mem _ (List.mem_cons_self ..))))
      simp only at o1 o2 o3
      subst o1
      exact ⟨⟨a, n, 1⟩, .cons (.int _ _ _) (.cons (.int _ _ _) (.cons (.int _ _ _) .nil)), rfl, ⟨o2, (show B8 1 from ⟨by decide, by decide⟩), 9, o3.1, by simp only; omega, Nat.le_refl _, rfl⟩⟩
    · cases h
  · obtain ⟨a8, r8, f, n0, nf, f9, hp⟩ := hJ
    obtain ⟨a, n, r⟩ := s
    simp only at a8 r8 n0 nf hp
    by_cases hn : n > 0
    · obtain ⟨a', rfl⟩ := Int.eq_ofNat_of_zero_le a8.1
      obtain ⟨n', rfl⟩ := Int.eq_ofNat_of_zero_le n0
      obtain ⟨r', rfl⟩ := Int.eq_ofNat_of_zero_le r8.1
      simp only [Int.toNat_natCast] at nf hp
      match f, nf, hp, f9 with
      | 0, nf, hp, f9 => simp at nf; omega
      | f + 1, nf, hp, f9 =>
      have hb1 : Nat.ble 1 n' = true := Nat.ble_eq_true_of_le (by omega)
      have hp2 : (2 : Nat) ^ (f + 1) = 2 ^ f * 2 := Nat.pow_succ ..
      have hlt : (n' : Nat) < 2 ^ 9 := Nat.lt_of_lt_of_le nf (Nat.pow_le_pow_right (by omega) f9)
      have e1 : IntKind.i64.wrap ((n' : Int).tdiv 2) = ((n' / 2 : Nat) : Int) := by
        rw [Int.tdiv_eq_ediv_of_nonneg (by omega), w64i (by omega)]; omega
      have e2 : (n' : Int).tmod 2 = ((n' % 2 : Nat) : Int) := by rw [Int.tmod_eq_emod_of_nonneg (by omega)]; omega
      have ga : decide (0 ≤ (a' : Int) ∧ (a' : Int) < 256) = true := decide_eq_true a8
      have gr : decide (0 ≤ (r' : Int) ∧ (r' : Int) < 256) = true := decide_eq_true r8
      have gn : decide ((n' : Int) > 0) = true := decide_eq_true hn
      unfold pwN at hp
      rw [hb1] at hp
      have hμ : ((n' / 2 : Nat) : Int).toNat < (n' : Int).toNat := by omega
      by_cases h1 : n' % 2 = 1
      · rw [h1] at hp
        refine Round.on (pw_t x ⟨a', n', r'⟩) ⟨((gmN a' a' : Nat) : Int), ((n' / 2 : Nat) : Int), ((gmN r' a' : Nat) : Int)⟩ [] rfl ?_ (by simp only [gm_nat, e1]; exact LeL.refl _) ⟨by rw [← gm_nat]; exact gm_b8 a8, by show B8 ((gmN r' a' : Nat) : Int); rw [← gm_nat]; exact gm_b8 r8, f, by simp only; omega, by simp only [Int.toNat_natCast]; omega, by omega, by simp only [Int.toNat_natCast]; exact hp⟩ rfl hμ
        exact paid_cons gn (paid_cons (by simp only [e2, h1]; rfl) (paid_cons gr (paid_cons ga (paid_cons ga (paid_cons ga Paid.nil)))))
      · rw [show n' % 2 = 0 by omega] at hp
        refine Round.on (pw_f x ⟨a', n', r'⟩) ⟨((gmN a' a' : Nat) : Int), ((n' / 2 : Nat) : Int), r'⟩ [] rfl ?_ (by simp only [gm_nat, e1]; exact LeL.refl _) ⟨by rw [← gm_nat]; exact gm_b8 a8, r8, f, by simp only; omega, by simp only [Int.toNat_natCast]; omega, by omega, by simp only [Int.toNat_natCast]; exact hp⟩ rfl hμ
        exact paid_cons gn (paid_cons (by simp only [e2, show n' % 2 = 0 by omega] <;> rfl) (paid_cons ga (paid_cons ga Paid.nil)))
    · obtain rfl : n = 0 := by omega
      have e : ((pwN f a.toNat (0 : Int).toNat r.toNat : Nat) : Int) = r := by
        have : pwN f a.toNat 0 r.toNat = r.toNat := by cases f <;> rfl
        rw [show (0 : Int).toNat = 0 from rfl, this, b8_nat r8]
      rw [e] at hp
      refine Round.out (pw_out x ⟨a, 0, r⟩) rfl rfl (paid_cons (by simp) Paid.nil) fun p hp' => ?_
      simp only [pwF, List.mem_cons, List.not_mem_nil, or_false] at hp'
      subst hp'
      exact ⟨.int true .i64 r, by simp [pwTs, pwV, zipU], by rw [hp]; exact Le1.refl _⟩
def powS : List V → E (AV × Mem)
  | [.pl (.int _ .i64 a), .pl (.int _ .i64 n)] => some ([decide (0 ≤ a ∧ a < 256), decide (0 ≤ n ∧ n < 512)], (.int true .i64 (pw a n), []))
  | _ => none
theorem pow_eval (s1 s2 : Bool) (a n : Int) : res ((funcL Try.prog qP (deep Try.prog qP hr1 100 3) pwΛ 100 16 (cArgs 0 [.pl (.int s1 .i64 a), .pl (.int s2 .i64 n)]) (cMem [.pl (.int s1 .i64 a), .pl (.int s2 .i64 n)])).go []) = some ([decide ((1 : Int) = 1), decide (0 ≤ a ∧ a < 256), decide (0 ≤ n ∧ n < 512)], .int true .i64 (pw a n)) := by kernel_rfl
theorem pow_ok {xs : List V} {o : List Bool} {v : AV} {bs : Mem} (h : powS xs = some (o, (v, bs))) (ho : Paid o) : ViewCall Try.prog 16 xs v bs := by
  unfold powS at h
  split at h
  · rename_i s1 a s2 n
    cases h
    have o1 := ho _ (List.mem_cons_self ..)
    have o2 := ho _ (List.mem_cons_of_mem _ (List.mem_cons_self ..))
    intro ρ vs w ha hi
    exact view_of_evalL mixed noCount (hr1_ok.deep (q := qP) mixed noCount 100 3) (fun fn c hf hb => by rw [bodyOf_eq hf hb]; exact pw_lok) (by rfl) (go_sound (sat_eq (pow_eval s1 s2 a n) (paid_cons rfl (paid_cons o1 (paid_cons o2 Paid.nil))) rfl (by rfl))) ha hi
  · cases h
def hr2 : CallH := withV 16 powS hr1
theorem hr2_ok : HOk Try.prog hr2 := hr1_ok.withV fun _ _ _ _ h ho => pow_ok h ho
end Go.Proofs.Ytclkicobnmjpoaa
