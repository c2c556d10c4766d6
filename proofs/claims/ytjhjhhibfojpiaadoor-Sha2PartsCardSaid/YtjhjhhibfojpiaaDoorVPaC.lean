/- Hashes of what is written in pieces: what is picked of a memory. Own work. -/
import Derived.Test.YtjhjhhibfojpiaaDoorVPaA
import Derived.Test.YtjhjhhibfojpiaaDoorVPaK
set_option linter.unusedSimpArgs false
set_option linter.unusedVariables false
set_option linter.unusedSectionVars false
namespace Go.Ev
/-- Some names of an end's memory. -/
def pkM (js : List Nat) (r : Option (List Bool × Nat × List AV × Nat × Mem)) : Option (List Bool × Nat × List AV × Nat × List (Option (Option Blk))) := r.map fun p => (p.1, p.2.1, p.2.2.1, p.2.2.2.1, js.map fun j => p.2.2.2.2[j]?)
theorem pk_ex {js : List Nat} {r : Option (List Bool × Nat × List AV × Nat × Mem)} {o : List Bool} {k n : Nat} {avs : List AV} {l : List (Option (Option Blk))} (h : pkM js r = some (o, k, avs, n, l)) : ∃ m, r = some (o, k, avs, n, m) ∧ (js.map fun j => m[j]?) = l := by
  unfold pkM at h
  cases hr : r with
  | none => rw [hr] at h; cases h
  | some p =>
    rw [hr] at h
    obtain ⟨a, b, c, d, m⟩ := p
    simp only [Option.map_some, Option.some.injEq, Prod.mk.injEq] at h
    obtain ⟨rfl, rfl, rfl, rfl, h5⟩ := h
    exact ⟨m, rfl, h5⟩
theorem pk2 {m : Mem} {a b : Nat} {x y : Option (Option Blk)} (h : ([a, b].map fun j => m[j]?) = [x, y]) : m[a]? = x ∧ m[b]? = y := by
  simp only [List.map_cons, List.map_nil, List.cons.injEq, and_true] at h
  exact h
theorem pk3 {m : Mem} {a b c : Nat} {x y z : Option (Option Blk)} (h : ([a, b, c].map fun j => m[j]?) = [x, y, z]) : m[a]? = x ∧ m[b]? = y ∧ m[c]? = z := by
  simp only [List.map_cons, List.map_nil, List.cons.injEq, and_true] at h
  exact h
theorem get1 {m : Mem} {j : Nat} {b : Option Blk} (h : m[j]? = some b) : getName m j = b := by
  unfold getName
  rw [h]
  cases b <;> rfl
theorem set1 {m : Mem} {b x : Option Blk} (h : m[1]? = some b) : (m.set 1 x)[1]? = some x := by
  have := (List.getElem?_eq_some_iff.1 h).1
  rw [List.getElem?_set_self this]
theorem setN {m : Mem} {j : Nat} (hj : 1 ≠ j) {b : Option (Option Blk)} {x : Option Blk} (h : m[j]? = b) : (m.set 1 x)[j]? = b := by
  rw [List.getElem?_set_ne hj]; exact h
theorem set2 {m : Mem} {b : Option (Option Blk)} {x : Option Blk} (h : m[2]? = b) : (m.set 1 x)[2]? = b := setN (by decide) h
theorem set4 {m : Mem} {b : Option (Option Blk)} {x : Option Blk} (h : m[4]? = b) : (m.set 1 x)[4]? = b := setN (by decide) h
theorem set5 {m : Mem} {b : Option (Option Blk)} {x : Option Blk} (h : m[5]? = b) : (m.set 1 x)[5]? = b := setN (by decide) h
end Go.Ev
namespace Go.Proofs.YtjhjhhibfojpiaaDoor
open Go.Ev Go.Sh
structure ppP where
  len : Nat
  cap : Nat
  len2 : Int
  i : Int
  e : Bool
  c : List Int
  ws : List Int
  op : List Int
  hb : Bool
  ct : Int
  r : Nat → Value
def ppA (s : ppP) : AV := match s.e with
  | true => .nilslice
  | false => .slice true 3 0 s.c.length none 1
end Go.Proofs.YtjhjhhibfojpiaaDoor
