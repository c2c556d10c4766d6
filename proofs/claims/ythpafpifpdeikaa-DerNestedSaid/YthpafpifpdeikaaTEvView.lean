/- Contracts of functions that look at memory, and may hand back memory that they made. Own work. -/
import Derived.Test.YthpafpifpdeikaaTEvLaw
set_option linter.unusedSimpArgs false
set_option linter.unusedVariables false
set_option linter.unusedSectionVars false
namespace Go.Ev
set_option linter.unusedSectionVars false
variable [Tab]

/-- An argument, as a function sees it: a plain value; a slice's numbers; what a pointer shows. -/
inductive V where
  | pl (a : AV)
  | buf (s : Bool) (k : IntKind) (len : Nat) (l : List Int)
  | pt (c : Cells)
  | empty
  | ptw (c : Cells)
  | lol (s : Bool) (len n : Nat) (r : Nat → Value)

def cArg (j : Nat) : V → AV
  | .pl a => a
  | .buf s _ len _ => .slice s j 0 len none 1
  | .pt _ => .ptr false j 0
  | .ptw _ => .ptr false j 0
  | .empty => .slice false j 0 0 none 1
  | .lol s len _ _ => .slice s j 0 len none 1
def cArgs : Nat → List V → List AV
  | _, [] => []
  | j, v :: r => cArg j v :: cArgs (j + 1) r
def cBlk : V → Option Blk
  | .pl _ => none
  | .buf _ k len l => some ⟨false, .ints k (some len) l⟩
  | .pt c => some ⟨false, c⟩
  | .ptw c => some ⟨true, c⟩
  | .empty => none
  | .lol _ _ n r => some ⟨false, .rows n r⟩
def cMem (l : List V) : Mem := l.map cBlk

/-- What a view's argument is worth. -/
def VOk (w : World) (j : Nat) (L : Loc3) (x : V) (v : Value) : Prop :=
  (∀ (ρ : Nat → Loc3) (N : Nat → Prop), ρ j = L → N j → Rep ρ N (cArg j x) v) ∧ ∀ b, cBlk x = some b → (b.rw = true → ∃ c, x = .ptw c) ∧ ∀ (ρ : Nat → Loc3) (N : Nat → Prop), ρ j = L → BRep ρ N w j b

section
variable {P : Program} {q : FuncId → Bool} {H : CallH}

/-- One way through the tests, given by its turns: each turn taken is owed. -/
def Tree.go {α : Type} : List Bool → Tree α → Tree α
  | ds, .need p t => .need p (Tree.go ds t)
  | true :: ds, .ite c t _ => .need c (Tree.go ds t)
  | false :: ds, .ite c _ e => .need (!c) (Tree.go ds e)
  | _, t => t
theorem go_sound {α : Type} {Q : α → Prop} : ∀ {T : Tree α} {ds : List Bool}, (T.go ds).Sat Q → T.Sat Q
  | .leaf _, ds, h => by cases ds <;> (try (rename_i b _; cases b)) <;> exact h
  | .fail, ds, h => by cases ds <;> (try (rename_i b _; cases b)) <;> exact h
  | .need p t, ds, h => by
    have h' : p = true ∧ (t.go ds).Sat Q := by cases ds <;> (try (rename_i b _; cases b)) <;> exact h
    exact ⟨h'.1, go_sound h'.2⟩
  | .ite c t e, [], h => h
  | .ite c t e, true :: ds, h => by
    have h' : c = true ∧ (t.go ds).Sat Q := h
    exact ⟨fun _ => go_sound h'.2, fun hc => by rw [h'.1] at hc; cases hc⟩
  | .ite c t e, false :: ds, h => by
    have h' : (!c) = true ∧ (e.go ds).Sat Q := h
    exact ⟨(fun hc => by rw [hc] at h'; exact absurd h'.1 (by decide)), fun _ => go_sound h'.2⟩

end
end Go.Ev
