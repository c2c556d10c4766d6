/- The reference's Sum: its contract. Own work. -/
import Derived.Test.YtclkicobnmjpoaaDoorShaZ
import Derived.Test.YtclkicobnmjpoaaDoorEvOne
import Derived.Test.YtclkicobnmjpoaaDoorShaF
namespace Go.Sh
open Go.Ev
/-- The text with zeros, and the numbers laid upon its end. -/
def rsL (T bits : Int) (m : List Int) : Nat → List Int
  | 0 => m
  | i + 1 => (rsL T bits m i).set (0 + (rawJ T i).toNat * 1) (IntKind.u8.wrap (ishr .u64 bits (IntKind.i64.wrap (8 * (i : Int)))))
def rsO (n : Nat) (T bits : Int) (m : List Int) : Nat → List Bool
  | 0 => []
  | i + 1 => rsO n T bits m i ++ [decide (0 ≤ rawJ T i) && decide (rawJ T i < ((n : Nat) : Int)), decide (0 + (rawJ T i).toNat * 1 + 1 ≤ (rsL T bits m i).length)]
theorem rsL_len (T bits : Int) (m : List Int) : ∀ i, (rsL T bits m i).length = m.length
  | 0 => rfl
  | i + 1 => by unfold rsL; rw [List.length_set]; exact rsL_len T bits m i
def bitsR (n : Int) : Int := IntKind.u64.wrap (IntKind.u64.wrap n * 8)
theorem bitsR_eq (n : Nat) (hn : n ≤ 1000000000) {i : Nat} (hi : i < 8) : IntKind.u8.wrap (ishr .u64 (bitsR n) (IntKind.i64.wrap (8 * (i : Int)))) = (n : Int) * 8 / 2 ^ (8 * i) % 256 := by
  have e1 : IntKind.i64.wrap (8 * (i : Int)) = ((8 * i : Nat) : Int) := by rw [w64 (by omega)]; omega
  have e2 : bitsR n = ((n : Int) * 8) % 2 ^ 64 := by
    unfold bitsR
    rw [wrap_u (k := .u64) rfl, wrap_u (k := .u64) rfl]
    simp only [IntKind.bits]
    omega
  rw [e1, e2, wrap_u (k := .u8) rfl]
  have e3 : ishr .u64 ((n : Int) * 8 % 2 ^ 64) ((8 * i : Nat) : Int) = (n : Int) * 8 % 2 ^ 64 / 2 ^ (8 * i) := sd64 (8 * i) (by omega)
  rw [e3]
  simp only [IntKind.bits]
  have : i = 0 ∨ i = 1 ∨ i = 2 ∨ i = 3 ∨ i = 4 ∨ i = 5 ∨ i = 6 ∨ i = 7 := by omega
  rcases this with rfl | rfl | rfl | rfl | rfl | rfl | rfl | rfl <;> omega
theorem rs_text {B pz : Nat} (hB : B = 64 ∨ B = 128) (hp : pz = B / 8) {l m : List Int} (hl : l.length ≤ 500000000) (hm : m = l ++ [128] ++ List.replicate (padZ B l.length) 0 ++ List.replicate pz 0) {T : Nat} (hT : T = l.length + 1 + padZ B l.length + pz) :
    ∀ i, i ≤ 8 → rsL T (bitsR l.length) m i = l ++ fillC (fillN B (l.length : Int)) (l.length : Int) i ∧ Paid (rsO T T (bitsR l.length) m i)
  | 0, _ => by
    have hz := padZ_fill hB l.length
    have hr := fillN_range (B := B) (by omega) (l.length : Int)
    refine ⟨?_, Paid.nil⟩
    show m = l ++ (128 :: List.replicate (fillN B (l.length : Int) - 1) 0)
    rw [hm, show fillN B (l.length : Int) - 1 = padZ B l.length + pz by omega, List.append_assoc, List.append_assoc, List.replicate_append_replicate]
    rfl
  | i + 1, h => by
    obtain ⟨ih1, ih2⟩ := rs_text hB hp hl hm hT i (by omega)
    have hz := padZ_fill hB l.length
    have hr := fillN_range (B := B) (by omega) (l.length : Int)
    have hTf : T = l.length + fillN B (l.length : Int) := by omega
    have hfu : fillN B (l.length : Int) ≤ 200 := by omega
    have hj : rawJ (T : Int) (i : Int) = ((l.length + (fillN B (l.length : Int) - 1 - i) : Nat) : Int) := by
      unfold rawJ
      rw [w64 (x := (T : Int) - 1) (by omega), w64 (by omega)]
      omega
    have hlen : (rsL T (bitsR l.length) m i).length = T := by rw [ih1, List.length_append, fillC_len hr.1, hTf]
    constructor
    · unfold rsL fillC
      rw [ih1, hj, bitsR_eq _ (by omega) (by omega), Int.toNat_natCast, Nat.zero_add, Nat.mul_one, List.set_append_right _ _ (by omega), Nat.add_sub_cancel_left]
    · unfold rsO
      refine paid_append.2 ⟨ih2, paid_cons ?_ (paid_cons ?_ Paid.nil)⟩
      · rw [hj]; simp; omega
      · rw [hlen, hj]; simp; omega
end Go.Sh
namespace Go.Proofs.YtclkicobnmjpoaaDoor
open Go.Ev Go.Sh
set_option maxRecDepth 100000
end Go.Proofs.YtclkicobnmjpoaaDoor
