/- Words as the reference reckons them. Own work. -/
import Derived.Test.YtjhjhhibfojpiaaDoorVShaD
set_option linter.unusedSimpArgs false
set_option linter.unusedVariables false
set_option linter.unusedSectionVars false
namespace Go.Sh
open Go.Ev
theorem rot32_eq {n : Nat} (h : n ≤ 32) {x : Int} (hx : Wd 32 x) : (IntKind.u64.wrap (ishr .u64 x (n : Int) + ishl .u64 x (IntKind.i64.wrap (32 - (n : Int))))).tmod 4294967296 = rr 32 n x := by
  have e1 : IntKind.i64.wrap (32 - (n : Int)) = ((32 - n : Nat) : Int) := by rw [w64 (by omega)]; omega
  rw [e1, sd64 n (by omega), sl64 (32 - n) (by omega), wrap_u (k := .u64) rfl, Int.tmod_eq_emod_of_nonneg (Int.emod_nonneg _ (by decide))]
  have hr := rr_wd h hx
  have hm := mul_mod h x
  unfold rr at hr ⊢
  rw [← hm] at hr ⊢
  generalize x / 2 ^ n = a at *
  generalize x * 2 ^ (32 - n) = b at *
  unfold Wd at hr
  simp only [IntKind.bits]
  omega
theorem rot64_eq {n : Nat} (h : n ≤ 64) {x : Int} (hx : Wd 64 x) : ior .u64 (ishr .u64 x (n : Int)) (ishl .u64 x (IntKind.i64.wrap (64 - (n : Int)))) = rr 64 n x := by
  have e1 : IntKind.i64.wrap (64 - (n : Int)) = ((64 - n : Nat) : Int) := by rw [w64 (by omega)]; omega
  have e2 : ior .u64 (x / 2 ^ n) (x * 2 ^ (64 - n) % 2 ^ 64) = io (x / 2 ^ n) (x * 2 ^ (64 - n) % 2 ^ 64) := ior_io (k := .u64) rfl (div_wd hx) ⟨Int.emod_nonneg _ (by decide), Int.emod_lt_of_pos _ (by decide)⟩
  rw [e1, sd64 n h, sl64 (64 - n) (by omega), e2, io_comm]
  exact rot_io h hx
theorem cut_eq {x : Int} (h : 0 ≤ x) : x.tmod 4294967296 = x % 2 ^ 32 := Int.tmod_eq_emod_of_nonneg h
/-- A word of 32 bits picks the same of its partner's upper half. -/
theorem ia_low {a g : Int} (ha : Wd 64 a) (hg : Wd 32 g) : ia a g = ia (a % 2 ^ 32) g := by
  obtain ⟨x, hx, rfl⟩ := wd_nat ha
  obtain ⟨y, hy, rfl⟩ := wd_nat hg
  have e : ((x : Nat) : Int) % 2 ^ 32 = ((x % 2 ^ 32 : Nat) : Int) := by simp
  unfold ia
  rw [e, Int.toNat_natCast, Int.toNat_natCast, Int.toNat_natCast]
  have h1 : (x &&& y) % 2 ^ 32 = (x % 2 ^ 32) &&& (y % 2 ^ 32) := Nat.and_mod_two_pow
  rw [Nat.mod_eq_of_lt hy] at h1
  rw [← h1, Nat.mod_eq_of_lt (Nat.lt_of_le_of_lt Nat.and_le_right hy)]
theorem not_low {e : Int} (h : Wd 32 e) : (2 ^ 64 - 1 - e) % 2 ^ 32 = 2 ^ 32 - 1 - e := by unfold Wd at h; omega
theorem cho_low {e f g : Int} (he : Wd 32 e) (hg : Wd 32 g) : io (ia e f) (ia (2 ^ 64 - 1 - e) g) = cho 32 e f g := by
  have h : Wd 64 (2 ^ 64 - 1 - e) := by unfold Wd at he ⊢; omega
  rw [ia_low h hg, not_low he]
  rfl
/-- Three turns put together; the last one, if it is below 0, a shift. -/
def threeR (w : Nat) (a b c x : Int) : Int := ix (ix (rr w a.toNat x) (rr w b.toNat x)) (if c < 0 then x / 2 ^ (-c).toNat else rr w c.toNat x)
end Go.Sh
namespace Go.Ev
section
variable [Tab] {P : Program}
theorem LeL.reps {ρ : Nat → Loc3} {N : Nat → Prop} : ∀ {l q : List AV} {vs : List Value}, LeL l q → Reps ρ N l vs → Reps ρ N q vs
  | _, _, _, .nil, h => h
  | _, _, _, .cons h hs, h' => by
    cases h' with
    | cons _ _ _ _ r0 hr => exact .cons _ _ _ _ (h.rep r0) (hs.reps hr)
theorem pure_le {g : FuncId} {l q : List AV} {v : AV} (h : LeL l q) (hp : PureCall P g q v) : PureCall P g l v := fun hr w hT => hp (h.reps hr) w hT
end
end Go.Ev
namespace Go.Proofs.YtjhjhhibfojpiaaDoor
variable [Go.Ev.RowTab]
open Go.Ev Go.Sh
set_option maxRecDepth 100000
theorem rot32_ev (x n : Int) : res ((funcA Tryd.prog qS h0 100 48 [.int true .u64 x, .int true .i64 n, .int false .i64 32] []).go []) = some ([!decide (n < 0), !decide (IntKind.i64.wrap (32 - n) < 0)], .int true .u64 ((IntKind.u64.wrap (ishr .u64 x n + ishl .u64 x (IntKind.i64.wrap (32 - n)))).tmod 4294967296)) := by kernel_rfl
theorem rot64_ev (x n : Int) : res ((funcA Tryd.prog qS h0 100 48 [.int true .u64 x, .int true .i64 n, .int false .i64 64] []).go []) = some ([!decide (n < 0), !decide (IntKind.i64.wrap (64 - n) < 0)], .int true .u64 (ior .u64 (ishr .u64 x n) (ishl .u64 x (IntKind.i64.wrap (64 - n))))) := by kernel_rfl
def rotS : List AV → E AV
  | [.int _ .u64 x, .int _ .i64 n, .int false .i64 32] => some ([decide (0 ≤ x ∧ x < 4294967296), decide (0 ≤ n ∧ n ≤ 32)], .int true .u64 (rr 32 n.toNat x))
  | [.int _ .u64 x, .int _ .i64 n, .int false .i64 64] => some ([decide (0 ≤ x ∧ x < 18446744073709551616), decide (0 ≤ n ∧ n ≤ 64)], .int true .u64 (rr 64 n.toNat x))
  | _ => none
theorem rot_ok {args : List AV} {o : List Bool} {v : AV} (h : rotS args = some (o, v)) (ho : Paid o) : PureCall Tryd.prog 48 args v := by
  unfold rotS at h
  split at h
  · rename_i s1 x s2 n
    cases h
    have o1 := of_decide_eq_true (ho _ (List.mem_cons_self ..))
    have o2 := of_decide_eq_true (ho _ (List.mem_cons_of_mem _ (List.mem_cons_self ..)))
    obtain ⟨k, rfl⟩ : ∃ k : Nat, n = k := ⟨n.toNat, by omega⟩
    refine @pure_le _ _ _ _ [.int true .u64 x, .int true .i64 k, .int false .i64 32] _ (.cons (.int _ _ _) (.cons (.int _ _ _) (.cons (.refl _) .nil))) ?_
    refine pure_of_go mixed noCount h0_ok [] rfl (rot32_ev x k) (paid_cons ?_ (paid_cons ?_ Paid.nil)) ?_ rfl
    · simp
    · rw [w64 (by omega)]; simp; omega
    · rw [rot32_eq (by omega) ⟨o1.1, by omega⟩, Int.toNat_natCast]
  · rename_i s1 x s2 n
    cases h
    have o1 := of_decide_eq_true (ho _ (List.mem_cons_self ..))
    have o2 := of_decide_eq_true (ho _ (List.mem_cons_of_mem _ (List.mem_cons_self ..)))
    obtain ⟨k, rfl⟩ : ∃ k : Nat, n = k := ⟨n.toNat, by omega⟩
    refine @pure_le _ _ _ _ [.int true .u64 x, .int true .i64 k, .int false .i64 64] _ (.cons (.int _ _ _) (.cons (.int _ _ _) (.cons (.refl _) .nil))) ?_
    refine pure_of_go mixed noCount h0_ok [] rfl (rot64_ev x k) (paid_cons ?_ (paid_cons ?_ Paid.nil)) ?_ rfl
    · simp
    · rw [w64 (by omega)]; simp; omega
    · rw [rot64_eq (by omega) ⟨o1.1, by omega⟩, Int.toNat_natCast]
  · cases h
def cutS : List AV → E AV
  | [.int _ .u64 x, .int false .i64 32] => some ([decide (0 ≤ x)], .int true .u64 (x % 2 ^ 32))
  | [.int _ .u64 x, .int false .i64 64] => some ([], .int true .u64 x)
  | _ => none
theorem cut32_ev (x : Int) : res ((funcA Tryd.prog qS h0 100 40 [.int true .u64 x, .int false .i64 32] []).go []) = some ([], .int true .u64 (x.tmod 4294967296)) := by kernel_rfl
theorem cut64_ev (x : Int) : res ((funcA Tryd.prog qS h0 100 40 [.int true .u64 x, .int false .i64 64] []).go []) = some ([], .int true .u64 x) := by kernel_rfl
theorem cut_ok {args : List AV} {o : List Bool} {v : AV} (h : cutS args = some (o, v)) (ho : Paid o) : PureCall Tryd.prog 40 args v := by
  unfold cutS at h
  split at h
  · rename_i s1 x
    cases h
    have o1 := of_decide_eq_true (ho _ (List.mem_cons_self ..))
    refine @pure_le _ _ _ _ [.int true .u64 x, .int false .i64 32] _ (.cons (.int _ _ _) (.cons (.refl _) .nil)) ?_
    exact pure_of_go mixed noCount h0_ok [] rfl (cut32_ev x) Paid.nil (by rw [cut_eq o1]) rfl
  · rename_i s1 x
    cases h
    refine @pure_le _ _ _ _ [.int true .u64 x, .int false .i64 64] _ (.cons (.int _ _ _) (.cons (.refl _) .nil)) ?_
    exact pure_of_go mixed noCount h0_ok [] rfl (cut64_ev x) Paid.nil rfl rfl
  · cases h
def hr1 : CallH := withC 48 rotS (withC 40 cutS h0)
theorem hr1_ok : HOk Tryd.prog hr1 := (h0_ok.withC fun _ _ _ h ho => cut_ok h ho).withC fun _ _ _ h ho => rot_ok h ho
theorem thr32_t (x a b c : Int) : res ((funcA Tryd.prog qS hr1 100 41 [.int true .u64 x, .int true .i64 a, .int true .i64 b, .int true .i64 c, .int false .i64 32] []).go [true]) = some ([decide (c < 0), !decide (IntKind.i64.wrap (0 - c) < 0), decide (0 ≤ x ∧ x < 4294967296), decide (0 ≤ a ∧ a ≤ 32), decide (0 ≤ x ∧ x < 4294967296), decide (0 ≤ b ∧ b ≤ 32)],
    .int true .u64 (ixor .u64 (ixor .u64 (rr 32 a.toNat x) (rr 32 b.toNat x)) (ishr .u64 x (IntKind.i64.wrap (0 - c))))) := by kernel_rfl
theorem thr32_f (x a b c : Int) : res ((funcA Tryd.prog qS hr1 100 41 [.int true .u64 x, .int true .i64 a, .int true .i64 b, .int true .i64 c, .int false .i64 32] []).go [false]) = some ([!decide (c < 0), decide (0 ≤ x ∧ x < 4294967296), decide (0 ≤ c ∧ c ≤ 32), decide (0 ≤ x ∧ x < 4294967296), decide (0 ≤ a ∧ a ≤ 32), decide (0 ≤ x ∧ x < 4294967296), decide (0 ≤ b ∧ b ≤ 32)],
    .int true .u64 (ixor .u64 (ixor .u64 (rr 32 a.toNat x) (rr 32 b.toNat x)) (rr 32 c.toNat x))) := by kernel_rfl
theorem thr64_t (x a b c : Int) : res ((funcA Tryd.prog qS hr1 100 41 [.int true .u64 x, .int true .i64 a, .int true .i64 b, .int true .i64 c, .int false .i64 64] []).go [true]) = some ([decide (c < 0), !decide (IntKind.i64.wrap (0 - c) < 0), decide (0 ≤ x ∧ x < 18446744073709551616), decide (0 ≤ a ∧ a ≤ 64), decide (0 ≤ x ∧ x < 18446744073709551616), decide (0 ≤ b ∧ b ≤ 64)],
    .int true .u64 (ixor .u64 (ixor .u64 (rr 64 a.toNat x) (rr 64 b.toNat x)) (ishr .u64 x (IntKind.i64.wrap (0 - c))))) := by kernel_rfl
theorem thr64_f (x a b c : Int) : res ((funcA Tryd.prog qS hr1 100 41 [.int true .u64 x, .int true .i64 a, .int true .i64 b, .int true .i64 c, .int false .i64 64] []).go [false]) = some ([!decide (c < 0), decide (0 ≤ x ∧ x < 18446744073709551616), decide (0 ≤ c ∧ c ≤ 64), decide (0 ≤ x ∧ x < 18446744073709551616), decide (0 ≤ a ∧ a ≤ 64), decide (0 ≤ x ∧ x < 18446744073709551616), decide (0 ≤ b ∧ b ≤ 64)],
    .int true .u64 (ixor .u64 (ixor .u64 (rr 64 a.toNat x) (rr 64 b.toNat x)) (rr 64 c.toNat x))) := by kernel_rfl
def thrS : List AV → E AV
  | [.int _ .u64 x, .int _ .i64 a, .int _ .i64 b, .int _ .i64 c, .int false .i64 32] => some ([decide (0 ≤ x ∧ x < 4294967296), decide (0 ≤ a ∧ a ≤ 32), decide (0 ≤ b ∧ b ≤ 32), decide (-32 ≤ c ∧ c ≤ 32)], .int true .u64 (threeR 32 a b c x))
  | [.int _ .u64 x, .int _ .i64 a, .int _ .i64 b, .int _ .i64 c, .int false .i64 64] => some ([decide (0 ≤ x ∧ x < 18446744073709551616), decide (0 ≤ a ∧ a ≤ 64), decide (0 ≤ b ∧ b ≤ 64), decide (-64 ≤ c ∧ c ≤ 64)], .int true .u64 (threeR 64 a b c x))
  | _ => none
theorem up64 {w : Nat} (h : w = 32 ∨ w = 64) {x : Int} (hx : Wd w x) : Wd 64 x := by
  rcases h with rfl | rfl <;> (unfold Wd at hx ⊢; omega)
theorem thr_ok {args : List AV} {o : List Bool} {v : AV} (h : thrS args = some (o, v)) (ho : Paid o) : PureCall Tryd.prog 41 args v := by
  unfold thrS at h
  split at h
  · rename_i s1 x s2 a s3 b s4 c
    cases h
    have o1 := ho _ (List.mem_cons_self ..)
    have o2 := ho _ (List.mem_cons_of_mem _ (List.mem_cons_self ..))
    have o3 := ho _ (List.mem_cons_of_mem _ (List.mem_cons_of_mem _ (List.mem_cons_self ..)))
    have o4 := of_decide_eq_true (ho _ (List.mem_cons_of_mem _ (List.mem_cons_of_mem _ (List.mem_cons_of_mem _ (List.mem_cons_self ..)))))
    have p1 := of_decide_eq_true o1
    have p2 := of_decide_eq_true o2
    have p3 := of_decide_eq_true o3
    have hx : Wd 32 x := ⟨p1.1, by omega⟩
    have ra := up64 (by decide) (rr_wd (w := 32) (n := a.toNat) (by omega) hx)
    have rb := up64 (by decide) (rr_wd (w := 32) (n := b.toNat) (by omega) hx)
    refine @pure_le _ _ _ _ [.int true .u64 x, .int true .i64 a, .int true .i64 b, .int true .i64 c, .int false .i64 32] _ (.cons (.int _ _ _) (.cons (.int _ _ _) (.cons (.int _ _ _) (.cons (.int _ _ _) (.cons (.refl _) .nil))))) ?_
    by_cases hc : c < 0
    · have e : IntKind.i64.wrap (0 - c) = (((-c).toNat : Nat) : Int) := by rw [w64 (by omega)]; omega
      refine pure_of_go mixed noCount hr1_ok [true] rfl (thr32_t x a b c) (paid_cons (decide_eq_true hc) (paid_cons (by rw [e]; simp; omega) (paid_cons o1 (paid_cons o2 (paid_cons o1 (paid_cons o3 Paid.nil)))))) ?_ rfl
      rw [e, sd64 _ (by omega)]
      unfold threeR
      rw [if_pos hc, xx64 ra rb (div_wd (up64 (by decide) hx))]
    · have rc := up64 (by decide) (rr_wd (w := 32) (n := c.toNat) (by omega) hx)
      refine pure_of_go mixed noCount hr1_ok [false] rfl (thr32_f x a b c) (paid_cons (by rw [decide_eq_false hc]; rfl) (paid_cons o1 (paid_cons (decide_eq_true (by omega)) (paid_cons o1 (paid_cons o2 (paid_cons o1 (paid_cons o3 Paid.nil))))))) ?_ rfl
      unfold threeR
      rw [if_neg hc, xx64 ra rb rc]
  · rename_i s1 x s2 a s3 b s4 c
    cases h
    have o1 := ho _ (List.mem_cons_self ..)
    have o2 := ho _ (List.mem_cons_of_mem _ (List.mem_cons_self ..))
    have o3 := ho _ (List.mem_cons_of_mem _ (List.mem_cons_of_mem _ (List.mem_cons_self ..)))
    have o4 := of_decide_eq_true (ho _ (List.mem_cons_of_mem _ (List.mem_cons_of_mem _ (List.mem_cons_of_mem _ (List.mem_cons_self ..)))))
    have p1 := of_decide_eq_true o1
    have p2 := of_decide_eq_true o2
    have p3 := of_decide_eq_true o3
    have hx : Wd 64 x := ⟨p1.1, by omega⟩
    have ra := up64 (by decide) (rr_wd (w := 64) (n := a.toNat) (by omega) hx)
    have rb := up64 (by decide) (rr_wd (w := 64) (n := b.toNat) (by omega) hx)
    refine @pure_le _ _ _ _ [.int true .u64 x, .int true .i64 a, .int true .i64 b, .int true .i64 c, .int false .i64 64] _ (.cons (.int _ _ _) (.cons (.int _ _ _) (.cons (.int _ _ _) (.cons (.int _ _ _) (.cons (.refl _) .nil))))) ?_
    by_cases hc : c < 0
    · have e : IntKind.i64.wrap (0 - c) = (((-c).toNat : Nat) : Int) := by rw [w64 (by omega)]; omega
      refine pure_of_go mixed noCount hr1_ok [true] rfl (thr64_t x a b c) (paid_cons (decide_eq_true hc) (paid_cons (by rw [e]; simp; omega) (paid_cons o1 (paid_cons o2 (paid_cons o1 (paid_cons o3 Paid.nil)))))) ?_ rfl
      rw [e, sd64 _ (by omega)]
      unfold threeR
      rw [if_pos hc, xx64 ra rb (div_wd (up64 (by decide) hx))]
    · have rc := up64 (by decide) (rr_wd (w := 64) (n := c.toNat) (by omega) hx)
      refine pure_of_go mixed noCount hr1_ok [false] rfl (thr64_f x a b c) (paid_cons (by rw [decide_eq_false hc]; rfl) (paid_cons o1 (paid_cons (decide_eq_true (by omega)) (paid_cons o1 (paid_cons o2 (paid_cons o1 (paid_cons o3 Paid.nil))))))) ?_ rfl
      unfold threeR
      rw [if_neg hc, xx64 ra rb rc]
  · cases h
def hr2 : CallH := withC 41 thrS hr1
theorem hr2_ok : HOk Tryd.prog hr2 := hr1_ok.withC fun _ _ _ h ho => thr_ok h ho
end Go.Proofs.YtjhjhhibfojpiaaDoor
