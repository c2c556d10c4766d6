/- Layer 10: bytes that came in, by cases. Own work. -/
import Derived.Test.YthelmpjkkkhopaaDoorSEwN
import Derived.Test.YthelmpjkkkhopaaDoorSEvLawN
import Derived.Test.YthelmpjkkkhopaaDoorSEvPut
set_option linter.unusedSimpArgs false
set_option linter.unusedVariables false
set_option linter.unusedSectionVars false
namespace Go.Proofs.YthelmpjkkkhopaaDoor
open Go.Ev Go.Wn Go.Mo
set_option maxRecDepth 100000
theorem unmarkV {W : World} {j n : Nat} {k : IntKind} {l : List Int} {v : Value} (h : ∃ L, VOk W j L (.buf true k n l) v) : ∃ L, VOk W j L (.buf false k n l) v := by
  obtain ⟨L, h1, h2⟩ := h
  refine ⟨L, fun ρ N hρ hN => ?_, fun b hb => ⟨fun hrw => ?_, (h2 b hb).2⟩⟩
  · have hr := h1 ρ N hρ hN
    cases hr with
    | slice _ _ _ _ _ _ c ad hn hc hl hw had => exact .slice false _ _ _ _ _ c ad hn hc hl hw had
  · cases hb; cases hrw
/-- Bytes that came in: none, empty, not 32, 32. -/
theorem four_ways {W : World} (j : Nat) {v : Value} (hv : v = .slice none 0 0 ∨ ∃ (a : Addr) (len cap : Nat) (zs : List Int), v = .slice (some a) len cap ∧ len ≤ cap ∧ cap ≤ maxLen ∧ zs.length = cap ∧ (∀ i, i < zs.length → W.cell? (a.add i) = some (.int .u8 (zs.getD i 0))) ∧ ∀ n ∈ zs, inR .u8 n = true) :
    (∃ L, VOk W j L (.pl .nilslice) v) ∨ (∃ L, VOk W j L .empty v) ∨ (∃ (n : Nat) (l : List Int), n < 9223372036854775808 ∧ (n : Int) ≠ 32 ∧ ∃ L, VOk W j L (.buf true .u8 n l) v) ∨ ∃ l : List Int, okb l ∧ ∃ L, VOk W j L (.buf false .u8 32 l) v := by
  rcases VOk.bytes j hv with h | h | ⟨n, l, h1, h2, h3, h4, h5⟩
  · exact .inl h
  · exact .inr (.inl h)
  · by_cases h32 : n = 32
    · subst h32
      exact .inr (.inr (.inr ⟨l, ⟨h3, h4⟩, unmarkV h5⟩))
    · exact .inr (.inr (.inl ⟨n, l, by unfold maxLen at h2; omega, by omega, h5⟩))
theorem three_ways {W : World} (j : Nat) {v : Value} (hv : v = .slice none 0 0 ∨ ∃ (a : Addr) (len cap : Nat) (zs : List Int), v = .slice (some a) len cap ∧ len ≤ cap ∧ cap ≤ maxLen ∧ zs.length = cap ∧ (∀ i, i < zs.length → W.cell? (a.add i) = some (.int .u8 (zs.getD i 0))) ∧ ∀ n ∈ zs, inR .u8 n = true) :
    (∃ L, VOk W j L (.pl .nilslice) v) ∨ (∃ L, VOk W j L .empty v) ∨ ∃ (n : Nat) (l : List Int), n < 9223372036854775808 ∧ ∃ L, VOk W j L (.buf true .u8 n l) v := by
  rcases VOk.bytes j hv with h | h | ⟨n, l, h1, h2, h3, h4, h5⟩
  · exact .inl h
  · exact .inr (.inl h)
  · exact .inr (.inr ⟨n, l, by unfold maxLen at h2; omega, h5⟩)
theorem some_way {W : World} (j : Nat) {v : Value} (hv : v = .slice none 0 0 ∨ ∃ (a : Addr) (len cap : Nat) (zs : List Int), v = .slice (some a) len cap ∧ len ≤ cap ∧ cap ≤ maxLen ∧ zs.length = cap ∧ (∀ i, i < zs.length → W.cell? (a.add i) = some (.int .u8 (zs.getD i 0))) ∧ ∀ n ∈ zs, inR .u8 n = true) :
    ∃ B : V, isW B = false ∧ ∃ L, VOk W j L B v := by
  rcases VOk.bytes j hv with h | h | ⟨n, l, h1, h2, h3, h4, h5⟩
  · exact ⟨_, rfl, h⟩
  · exact ⟨_, rfl, h⟩
  · exact ⟨_, rfl, h5⟩
theorem noW_c {B : V} {r : List V} (h : isW B = false) : noW (B :: r) = noW r := by
  cases B <;> first | rfl | cases h
def gP (t : Bool) : List Bool := [!(!t) || !t, !(!t) || !t, t || !t]
def gB (t : Bool) (k : Nat) : List Bool := (!(!t) || decide (k < 9223372036854775808)) :: gP t
def orM (t x : Bool) : Bool := match t with | true => true | false => x
theorem gP_paid {t : Bool} : Paid (gP t) := by cases t <;> exact paid_cons rfl (paid_cons rfl (paid_cons rfl Paid.nil))
theorem gB_paid {t : Bool} {k : Nat} (h : k < 9223372036854775808) : Paid (gB t k) := paid_cons (by rw [decide_eq_true h, Bool.or_true]) gP_paid
end Go.Proofs.YthelmpjkkkhopaaDoor
