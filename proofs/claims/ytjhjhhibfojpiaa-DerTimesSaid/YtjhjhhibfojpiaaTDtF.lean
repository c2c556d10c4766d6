/- What fourteen digits tell: a contract. Own work. -/
import Derived.Test.YtjhjhhibfojpiaaTDtE
set_option linter.unusedSimpArgs false
set_option linter.unusedVariables false
set_option linter.unusedSectionVars false
namespace Go.Proofs.Ytjhjhhibfojpiaa
open Go.Ev Go.De Go.Dt
set_option maxRecDepth 100000
set_option linter.unusedSimpArgs false
set_option linter.unusedVariables false
set_option linter.unusedSectionVars false
variable [Tab]
def mvX (a b : Int) : Int := IntKind.wrap .u64 (IntKind.wrap .u64 (10 * IntKind.wrap .u64 (IntKind.wrap .u8 (a - 48))) + IntKind.wrap .u64 (IntKind.wrap .u8 (b - 48)))
theorem wrapU8 (x : Int) : IntKind.wrap .u8 x = x % 256 := by
  unfold IntKind.wrap; simp [IntKind.bits, IntKind.signed]
theorem mvX_eq {a b : Int} (ha : isD a = true) (hb : isD b = true) : mvX a b = (tw a b : Int) ∧ tw a b ≤ 99 := by
  unfold isD at ha hb
  rw [decide_eq_true_eq] at ha hb
  have e1 : IntKind.wrap .u8 (a - 48) = a - 48 := by rw [wrapU8]; omega
  have e2 : IntKind.wrap .u8 (b - 48) = b - 48 := by rw [wrapU8]; omega
  have e3 : IntKind.wrap .u64 (a - 48) = a - 48 := by rw [wrapU64]; omega
  have e4 : IntKind.wrap .u64 (b - 48) = b - 48 := by rw [wrapU64]; omega
  have e5 : IntKind.wrap .u64 (10 * (a - 48)) = 10 * (a - 48) := by rw [wrapU64]; omega
  have e6 : IntKind.wrap .u64 (10 * (a - 48) + (b - 48)) = 10 * (a - 48) + (b - 48) := by rw [wrapU64]; omega
  unfold mvX tw
  rw [e1, e2, e3, e4, e5, e6]
  omega
/-- The numbers of fourteen digits. -/
def mvL (l : List Int) : List Int := [((100 * tw (l.getD 0 0) (l.getD 1 0) + tw (l.getD 2 0) (l.getD 3 0) : Nat) : Int), (tw (l.getD 4 0) (l.getD 5 0) : Int), (tw (l.getD 6 0) (l.getD 7 0) : Int), (tw (l.getD 8 0) (l.getD 9 0) : Int), (tw (l.getD 10 0) (l.getD 11 0) : Int), (tw (l.getD 12 0) (l.getD 13 0) : Int)]
def mvW (l : List Int) : List Int := [IntKind.wrap .u64 (IntKind.wrap .u64 (100 * mvX (l.getD 0 0) (l.getD 1 0)) + mvX (l.getD 2 0) (l.getD 3 0)), mvX (l.getD 4 0) (l.getD 5 0), mvX (l.getD 6 0) (l.getD 7 0), mvX (l.getD 8 0) (l.getD 9 0), mvX (l.getD 10 0) (l.getD 11 0), mvX (l.getD 12 0) (l.getD 13 0)]
def moD (l : List Int) : List Bool := []
theorem mo_eval (l : List Int) : res (funcA Try.prog qR (dH n0 7) 200 25 (cArgs 0 [.buf false .u8 14 l]) (cMem [.buf false .u8 14 l])) = some (moD l, .ints .u64 6 (mvW l)) := by kernel_rfl
def moS : List V → E (AV × Mem)
  | [.buf false .u8 14 l] => some ([decide (digN l 14 = true)], (.ints .u64 6 (mvL l), []))
  | _ => none
theorem moS_ok {xs : List V} {o : List Bool} {v : AV} {bs : Mem} (h : moS xs = some (o, (v, bs))) (ho : Paid o) : ViewCall Try.prog 25 xs v bs := by
  unfold moS at h
  split at h
  · rename_i l
    cases h
    have o1 := of_decide_eq_true (ho _ (List.mem_cons_self ..))
    intro ρ vs w0 ha hi
    obtain ⟨cs2, t2, lo2, hi2, c1, c2, c3, c4, c5⟩ := (hi.sim.blk 0 _ rfl).ex
    have hl : l.length = 14 := c5.1 _ rfl
    have hd := (dig_at (l := l) (n := 14) (by omega)).1 o1
    have e : mvW l = mvL l := by
      unfold mvW mvL
      rw [(mvX_eq (hd 0 (by omega)) (hd 1 (by omega))).1, (mvX_eq (hd 2 (by omega)) (hd 3 (by omega))).1, (mvX_eq (hd 4 (by omega)) (hd 5 (by omega))).1, (mvX_eq (hd 6 (by omega)) (hd 7 (by omega))).1, (mvX_eq (hd 8 (by omega)) (hd 9 (by omega))).1, (mvX_eq (hd 10 (by omega)) (hd 11 (by omega))).1, (mvX_eq (hd 12 (by omega)) (hd 13 (by omega))).1]
      have b1 := (mvX_eq (hd 0 (by omega)) (hd 1 (by omega))).2
      have b2 := (mvX_eq (hd 2 (by omega)) (hd 3 (by omega))).2
      generalize tw (l.getD 0 0) (l.getD 1 0) = A at *
      generalize tw (l.getD 2 0) (l.getD 3 0) = B at *
      have w1 : IntKind.wrap .u64 (100 * (A : Int)) = 100 * (A : Int) := by rw [wrapU64]; omega
      have w2 : IntKind.wrap .u64 (100 * (A : Int) + (B : Int)) = ((100 * A + B : Nat) : Int) := by rw [wrapU64]; omega
      rw [w1, w2]
    have ev := mo_eval l
    rw [e] at ev
    exact (view_of_res mixed noCount (dH_ok n0_ok 7) ev (fun x hx => by
      unfold moD at hx; cases hx) rfl rfl) ha hi
  · cases h
noncomputable def hmo (X : CallH) : CallH := withV 25 moS X
theorem hmo_ok {X : CallH} (h : HOk Try.prog X) : HOk Try.prog (hmo X) := h.withV fun _ _ _ _ h ho => moS_ok h ho
end Go.Proofs.Ytjhjhhibfojpiaa
