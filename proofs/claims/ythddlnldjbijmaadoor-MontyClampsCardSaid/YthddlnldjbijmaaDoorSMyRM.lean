/- Calls whose answer is a test that is known: it is owed, and no longer a test. Own work. -/
import Derived.Test.YthddlnldjbijmaaDoorSEvTurn
import Derived.Test.YthddlnldjbijmaaDoorSMoD
import Derived.Test.YthddlnldjbijmaaDoorSMyMC
set_option linter.unusedSimpArgs false
set_option linter.unusedVariables false
set_option linter.unusedSectionVars false
namespace Go.Ev
set_option linter.unusedSectionVars false
variable [Tab]
def fixC (P : Program) (q : FuncId → Bool) (H : CallH) (fuel : Nat) (g : FuncId) (b : Bool) (X : CallH) : CallH := fun f args m =>
  match decide (f = g) with
  | true => match ((funcA P q H fuel f args (roAll m)).go []).flat with
    | some (o, (.bool _ c, m')) => some (o ++ [c == b], (.bool false b, m ++ onlyRw (m'.drop m.length)))
    | _ => X f args m
  | false => X f args m
section
variable {P : Program} {q : FuncId → Bool} {H X : CallH}
theorem HOk.fix (hm : P.follows .mixedOrders = true) (hng : noCount P = true) (hH : HOk P H) (hX : HOk P X) (fuel : Nat) (g : FuncId) (b : Bool) : HOk P (fixC P q H fuel g b X) := by
  have hT := HOk.turn (q := q) hm hng hH hX fuel g []
  have key : ∀ {f : FuncId} {xs : List AV} {m : Mem} {ob : List Bool} {v : AV} {m' : Mem}, fixC P q H fuel g b X f xs m = some (ob, (v, m')) → Paid ob →
      (X f xs m = some (ob, (v, m'))) ∨ (∃ o s c, turnC P q H fuel g [] X f xs m = some (o, (.bool s c, m')) ∧ Paid o ∧ c = b ∧ v = .bool false b) := by
    intro f xs m ob v m' h ho
    unfold fixC at h
    split at h
    · rename_i hf
      split at h
      · rename_i o s c m1 hflat
        cases h
        obtain ⟨p1, p2⟩ := paid_append.1 ho
        have hc := p2 _ (List.mem_cons_self ..)
        simp only [beq_iff_eq] at hc
        refine Or.inr ⟨o, s, c, ?_, p1, hc, rfl⟩
        unfold turnC
        simp only [hf, hflat]
      · exact Or.inl h
    · exact Or.inl h
  refine ⟨@fun f xs m ob v m' h ho => ?_, @fun f xs m ob v m' h ho w0 S ρ w vs ha hi => ?_⟩
  · rcases key h ho with h1 | ⟨o, s, c, h1, h2, _, _⟩
    · exact hX.le h1 ho
    · exact hT.le h1 h2
  · rcases key h ho with h1 | ⟨o, s, c, h1, h2, h3, h4⟩
    · exact hX.run h1 ho ha hi
    · subst h3 h4
      refine (hT.run h1 h2 ha hi).mono fun u w' ⟨ρ', k1, k2⟩ => ⟨ρ', ?_, k2⟩
      cases k1
      exact .bool _ _
end
end Go.Ev
namespace Go.Mo
open Go.Ev Go.Wn
def zer : List Int := [0, 0, 0, 0, 0, 0, 0, 0, 0, 0, 0, 0, 0, 0, 0, 0, 0, 0, 0, 0, 0, 0, 0, 0, 0, 0, 0, 0, 0, 0, 0, 0]
def one8 (x : Int) : List Int := [x, 0, 0, 0, 0, 0, 0, 0, 0, 0, 0, 0, 0, 0, 0, 0, 0, 0, 0, 0, 0, 0, 0, 0, 0, 0, 0, 0, 0, 0, 0, 0]
def orAll : Int → List Int → Int
  | s, [] => s
  | s, x :: l => orAll (ior .u8 s x) l
theorem ior8 {x y : Int} (hx : 0 ≤ x ∧ x < 256) (hy : 0 ≤ y ∧ y < 256) : (0 ≤ ior .u8 x y ∧ ior .u8 x y < 256) ∧ (ior .u8 x y = 0 ↔ x = 0 ∧ y = 0) := by
  obtain ⟨X, rfl⟩ := Int.eq_ofNat_of_zero_le hx.1
  obtain ⟨Y, rfl⟩ := Int.eq_ofNat_of_zero_le hy.1
  have e : ior .u8 (X : Int) (Y : Int) = ((X ||| Y : Nat) : Int) := by
    have hb : X ||| Y < 2 ^ 8 := Nat.or_lt_two_pow (by omega) (by omega)
    unfold ior
    have h1 : (BitVec.ofInt IntKind.u8.bits (X : Int) ||| BitVec.ofInt IntKind.u8.bits (Y : Int)).toNat = X ||| Y := by
      show (BitVec.ofInt 8 (X : Int) ||| BitVec.ofInt 8 (Y : Int)).toNat = X ||| Y
      rw [BitVec.toNat_or, BitVec.toNat_ofInt, BitVec.toNat_ofInt]
      congr 1 <;> omega
    rw [h1]
    unfold IntKind.wrap
    simp [IntKind.bits, IntKind.signed]
    omega
  rw [e]
  have hb : X ||| Y < 2 ^ 8 := Nat.or_lt_two_pow (by omega) (by omega)
  refine ⟨by omega, ?_⟩
  have : X ||| Y = 0 ↔ X = 0 ∧ Y = 0 := Nat.or_eq_zero_iff
  omega
theorem orAll_zero : ∀ {l : List Int} {s : Int}, (0 ≤ s ∧ s < 256) → (∀ x ∈ l, 0 ≤ x ∧ x < 256) → (orAll s l = 0 ↔ s = 0 ∧ ∀ x ∈ l, x = 0)
  | [], s, _, _ => by simp [orAll]
  | x :: l, s, hs, hl => by
    have h := ior8 hs (hl x (List.mem_cons_self ..))
    have ih := orAll_zero (l := l) h.1 fun y hy => hl y (List.mem_cons_of_mem _ hy)
    show orAll (ior .u8 s x) l = 0 ↔ _
    rw [ih, h.2]
    simp only [List.mem_cons, forall_eq_or_imp]
    exact and_assoc
end Go.Mo
namespace Go.Proofs.YthddlnldjbijmaaDoor
open Go.Ev Go.Wn Go.Mo
set_option maxRecDepth 100000
def iszS : List V → E (AV × Mem)
  | [.buf false .u8 32 l] => some ([], (.bool true (decide (l = zer)), []))
  | _ => none
theorem isz_eval (b0 b1 b2 b3 b4 b5 b6 b7 b8 b9 b10 b11 b12 b13 b14 b15 b16 b17 b18 b19 b20 b21 b22 b23 b24 b25 b26 b27 b28 b29 b30 b31 : Int) : res (funcA Tryd.prog qn (fun _ _ _ => none) 100 28 (cArgs 0 [.buf false .u8 32 [b0, b1, b2, b3, b4, b5, b6, b7, b8, b9, b10, b11, b12, b13, b14, b15, b16, b17, b18, b19, b20, b21, b22, b23, b24, b25, b26, b27, b28, b29, b30, b31]]) (cMem [.buf false .u8 32 [b0, b1, b2, b3, b4, b5, b6, b7, b8, b9, b10, b11, b12, b13, b14, b15, b16, b17, b18, b19, b20, b21, b22, b23, b24, b25, b26, b27, b28, b29, b30, b31]])) =
    some ([], .bool true (orAll 0 [b0, b1, b2, b3, b4, b5, b6, b7, b8, b9, b10, b11, b12, b13, b14, b15, b16, b17, b18, b19, b20, b21, b22, b23, b24, b25, b26, b27, b28, b29, b30, b31] == 0)) := by kernel_rfl
theorem isz_ok {xs : List V} {o : List Bool} {v : AV} {bs : Mem} (h : iszS xs = some (o, (v, bs))) : ViewCall Tryd.prog 28 xs v bs := by
  unfold iszS at h
  split at h
  · rename_i l
    cases h
    intro ρ vs w ha hi
    obtain ⟨hl, hr⟩ := buf_arg hi 0 rfl
    have hz : ∀ l : List Int, l.length = 32 → (∀ x ∈ l, inR .u8 x = true) → (orAll 0 l == 0) = decide (l = zer) := fun l hl hr => by
      have h := orAll_zero (l := l) (s := 0) (by omega) fun x hx => by have := inR_B8 (hr x hx); exact this
      have h2 : (∀ x ∈ l, x = 0) ↔ l = zer := ⟨fun h => by rw [show zer = List.replicate 32 0 from rfl]; exact List.eq_replicate_iff.2 ⟨hl, h⟩, fun h x hx => by rw [h, show zer = List.replicate 32 0 from rfl] at hx; exact (List.mem_replicate.1 hx).2⟩
      rw [← decide_eq_decide.2 h2]
      by_cases hh : ∀ x ∈ l, x = 0
      · rw [decide_eq_true hh, h.2 ⟨rfl, hh⟩]; rfl
      · rw [decide_eq_false hh]
        have : orAll 0 l ≠ 0 := fun e => hh (h.1 e).2
        simpa using this
    obtain ⟨b0, b1, b2, b3, b4, b5, b6, b7, b8, b9, b10, b11, b12, b13, b14, b15, b16, b17, b18, b19, b20, b21, b22, b23, b24, b25, b26, b27, b28, b29, b30, b31, rfl⟩ := thirty hl
    exact view_of_res mixed noCount HOk.none (isz_eval b0 b1 b2 b3 b4 b5 b6 b7 b8 b9 b10 b11 b12 b13 b14 b15 b16 b17 b18 b19 b20 b21 b22 b23 b24 b25 b26 b27 b28 b29 b30 b31) Paid.nil (by rw [hz _ hl hr]) (by kernel_rfl) ha hi
  · cases h
def hn2 : CallH := withV 28 iszS hn1
def xulF (f : List Int → List Int → List Int) : List V → E (AV × Mem)
  | [.buf false .u8 32 k, .buf false .u8 32 u] => some ([], (.tuple [.slice false 0 0 32 (some 32) 1, .int false .i64 0], [some ⟨true, .ints .u8 (some 32) (f k u)⟩]))
  | _ => none
end Go.Proofs.YthddlnldjbijmaaDoor
namespace Go.Wn
open Go.Ev
/- multiply and subtract -/
/- add back -/
end Go.Wn
