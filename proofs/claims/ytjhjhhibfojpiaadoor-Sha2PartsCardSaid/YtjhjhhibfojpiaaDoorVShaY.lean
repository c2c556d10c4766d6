/- The hash of a whole text, block by block: what the program's bytes come to, and the reference's. Own work. -/
import Derived.Test.YtjhjhhibfojpiaaDoorVShaX
import Derived.Test.YtjhjhhibfojpiaaDoorVShaE
set_option linter.unusedSimpArgs false
set_option linter.unusedVariables false
set_option linter.unusedSectionVars false
namespace Go.Sh
open Go.Ev
theorem words_pad {w : Nat} {p q : List Int} (hp : w / 8 * 16 ≤ p.length) : ∀ n, wordsW w (p ++ q) n = wordsW w p n
  | 0 => rfl
  | n + 1 => by
    unfold wordsW
    rw [words_pad hp n]
    congr 2
    unfold nextW
    split
    · rename_i h
      have h1 : w / 8 * (wordsW w p n).length + w / 8 ≤ w / 8 * 16 := by
        have := Nat.mul_le_mul_left (w / 8) (show (wordsW w p n).length + 1 ≤ 16 by omega)
        rw [Nat.mul_add, Nat.mul_one] at this
        exact this
      rw [List.drop_append_of_le_length (by omega), List.take_append_of_le_length (by rw [List.length_drop]; omega)]
    · rfl
theorem rounds_pad {w N : Nat} {p q v : List Int} (hp : w / 8 * 16 ≤ p.length) : ∀ n, roundsV w N (p ++ q) v n = roundsV w N p v n
  | 0 => rfl
  | n + 1 => by unfold roundsV; rw [rounds_pad hp n, words_pad hp]
theorem block_pad {w N : Nat} {p q v : List Int} (hp : w / 8 * 16 ≤ p.length) : blockW w N v (p ++ q) = blockW w N v p := by
  unfold blockW; rw [rounds_pad hp]
/-- Block by block. -/
def foldB (w N B : Nat) (v l : List Int) : Nat → List Int
  | 0 => v
  | i + 1 => blockW w N (foldB w N B v l i) ((l.drop (B * i)).take B)
theorem foldB_ok {w N B : Nat} {v l : List Int} (hv : v.length = 8) (wd : ∀ x ∈ v, Wd w x) : ∀ i, (foldB w N B v l i).length = 8 ∧ ∀ x ∈ foldB w N B v l i, Wd w x
  | 0 => ⟨hv, wd⟩
  | i + 1 => by
    obtain ⟨h1, h2⟩ := foldB_ok (N := N) (B := B) (l := l) hv wd i
    exact block_ok h1 h2
theorem stW_chunks {w N B : Nat} (hB : 0 < B) (hB2 : B ≤ 128) (hw : w / 8 * 16 ≤ B) (hd : (2 : Int) ^ 64 % (B : Int) = 0) {v l : List Int} : ∀ k, B * k ≤ l.length →
    stW w N B v Z128 0 (l.take (B * k)) = (foldB w N B v l k, Z128, ((B * k : Nat) : Int) % 2 ^ 64)
  | 0, _ => by simp [stW, foldB]
  | k + 1, h => by
    have hk : B * k + B ≤ l.length := by rw [Nat.mul_add, Nat.mul_one] at h; exact h
    have ih := stW_chunks (N := N) hB hB2 hw hd (v := v) (l := l) k (by omega)
    have hsp : l.take (B * (k + 1)) = l.take (B * k) ++ (l.drop (B * k)).take B := by
      rw [Nat.mul_add, Nat.mul_one, List.take_add]
    have hlen : ((l.drop (B * k)).take B).length = B := by rw [List.length_take, List.length_drop]; omega
    unfold stW at ih ⊢
    rw [hsp, List.foldl_append, ih]
    have hc0 : ((B * k : Nat) : Int) % 2 ^ 64 % (B : Int) = 0 := by
      rw [Int.emod_emod_of_dvd _ (Int.dvd_of_emod_eq_zero hd), Int.natCast_mul, Int.mul_emod_right]
    have hc1 : 0 ≤ ((B * k : Nat) : Int) % 2 ^ 64 ∧ ((B * k : Nat) : Int) % 2 ^ 64 < 2 ^ 64 := ⟨Int.emod_nonneg _ (by decide), Int.emod_lt_of_pos _ (by decide)⟩
    rw [fold_chunk hB hB2 hd (by unfold Z128; exact List.length_replicate) hc1 (by intro h0; rw [h0] at hlen; simp at hlen; omega) (by rw [hc0, hlen]; simp)]
    rw [hc0, hlen]
    simp only [Int.toNat_zero, Nat.zero_add, if_true, List.take_zero, List.nil_append]
    rw [block_pad (by rw [hlen]; exact hw)]
    refine Prod.ext rfl (Prod.ext rfl ?_)
    show (((B * k : Nat) : Int) % 2 ^ 64 + (B : Int)) % 2 ^ 64 = ((B * (k + 1) : Nat) : Int) % 2 ^ 64
    rw [Nat.mul_add, Nat.mul_one]
    omega
theorem stW_count {w N B : Nat} : ∀ (l ws op : List Int) (c : Int), 0 ≤ c ∧ c < 2 ^ 64 → (stW w N B ws op c l).2.2 = (c + (l.length : Int)) % 2 ^ 64
  | [], ws, op, c, h => by
    show c = (c + 0) % 2 ^ 64
    omega
  | x :: l, ws, op, c, h => by
    have hb : (byteS w N B (ws, op, c) x).2.2 = (c + 1) % 2 ^ 64 := by unfold byteS; split <;> rfl
    have ih := stW_count (w := w) (N := N) (B := B) l (byteS w N B (ws, op, c) x).1 (byteS w N B (ws, op, c) x).2.1 (byteS w N B (ws, op, c) x).2.2 (by rw [hb]; omega)
    have e : stW w N B ws op c (x :: l) = stW w N B (byteS w N B (ws, op, c) x).1 (byteS w N B (ws, op, c) x).2.1 (byteS w N B (ws, op, c) x).2.2 l := rfl
    rw [e, ih, hb, List.length_cons]
    omega
/-- The text with what fills it up. -/
def textW (B : Nat) (l : List Int) : List Int := l ++ fillC (fillN B (l.length : Int)) (l.length : Int) 8
theorem textW_len {B : Nat} (hB : B = 64 ∨ B = 128) (l : List Int) : (textW B l).length % B = 0 ∧ (textW B l).length = l.length + fillN B (l.length : Int) := by
  have hr := fillN_range (B := B) (by omega) (l.length : Int)
  have e : (textW B l).length = l.length + fillN B (l.length : Int) := by unfold textW; rw [List.length_append, fillC_len hr.1]
  refine ⟨?_, e⟩
  rw [e]
  unfold fillN
  rcases hB with rfl | rfl <;> split <;> omega
/-- The words behind all of it. -/
def hashW (w N B : Nat) (v l : List Int) : List Int := foldB w N B v (textW B l) ((textW B l).length / B)
theorem hash_prog {w N B : Nat} (hB : B = 64 ∨ B = 128) (hw : w / 8 * 16 ≤ B) {v l : List Int} (hl : l.length < 2 ^ 60) :
    (endW w N B (stW w N B v Z128 0 l).1 (stW w N B v Z128 0 l).2.1 (stW w N B v Z128 0 l).2.2).1 = hashW w N B v l := by
  have hc : (stW w N B v Z128 0 l).2.2 = (l.length : Int) := by
    rw [stW_count _ _ _ _ (by omega)]; omega
  have e : endW w N B (stW w N B v Z128 0 l).1 (stW w N B v Z128 0 l).2.1 (stW w N B v Z128 0 l).2.2 = stW w N B v Z128 0 (textW B l) := by
    unfold endW textW
    rw [hc]
    conv => rhs; unfold stW; rw [List.foldl_append]
    conv => lhs; unfold stW
    congr 1
    exact Prod.ext rfl (Prod.ext rfl hc.symm)
  rw [e]
  obtain ⟨h1, h2⟩ := textW_len hB l
  have hk : B * ((textW B l).length / B) = (textW B l).length := by rcases hB with rfl | rfl <;> omega
  have := stW_chunks (w := w) (N := N) (B := B) (by omega) (by omega) hw (by rcases hB with rfl | rfl <;> decide) (v := v) (l := textW B l) ((textW B l).length / B) (by omega)
  rw [hk, List.take_of_length_le (Nat.le_refl _)] at this
  rw [this]
  rfl
end Go.Sh
