/- The program's block cipher and the reference's: handlers for the laws; they answer the same. Own work. -/
import Derived.Test.YtclkicobnmjpoaaAesU
namespace Go.As
open Go.Ev Go.Sh
theorem addB_app {w z : List Int} {n : Nat} {b : List Int} (h : 16 * n + 16 ≤ w.length) : addB (w ++ z) n b = addB w n b := by
  unfold addB
  refine List.map_congr_left fun i hi => ?_
  have := List.mem_range.1 hi
  have e : (w ++ z).getD (16 * n + i) 0 = w.getD (16 * n + i) 0 := by rw [List.getD, List.getD, List.getElem?_append_left (by omega)]
  rw [e]
theorem rndB_app {w z b : List Int} : ∀ {n : Nat}, 16 * n + 16 ≤ w.length → rndB (w ++ z) n b = rndB w n b
  | 0, h => addB_app h
  | n + 1, h => by
    unfold rndB
    rw [addB_app (by omega), rndB_app (by omega)]
theorem encB_app {w z b : List Int} {r : Nat} (hr : 1 ≤ r) (h : 16 * r + 16 ≤ w.length) : encB (w ++ z) r b = encB w r b := by
  unfold encB
  rw [addB_app h, rndB_app (by omega)]
theorem enc_same {N : Nat} (hN : N = 4 ∨ N = 8) {l : List Int} (hll : l.length = 4 * N) (hl : ∀ x ∈ l, B8 x) (b : List Int) : encB (keyL N l) (N + 6) b = encB (specW N l (4 * (N + 7))) (N + 6) b := by
  unfold keyL
  rw [(key_spec hN hll hl _ (Nat.le_refl _)).1, show N + (3 * N + 28) = 4 * (N + 7) by omega]
  exact encB_app (by omega) (by rw [specW_len]; omega)
end Go.As
namespace Go.Proofs.Ytclkicobnmjpoaa
open Go.Ev Go.Sh Go.As
set_option maxRecDepth 100000
def hd0 : CallH := withT 11 rblkS (withC 7 asS hr4)
theorem hd0_ok : HOk Try.prog hd0 := (hr4_ok.withC fun _ _ _ h _ => asound_ok h).withT fun _ _ _ _ _ _ h ho => rblk_ok h ho
def hd16 : CallH := withV 9 rnewS16 (withV 8 newS16 hd0)
def hd32 : CallH := withV 9 rnewS32 (withV 8 newS32 hd0)
def hdX : CallH := withV 9 rnewSX (withV 8 newSX hd0)
theorem hd16_ok : HOk Try.prog hd16 := (hd0_ok.withV fun _ _ _ _ h ho => new16_ok h ho).withV fun _ _ _ _ h ho => rnew16_ok h ho
theorem hd32_ok : HOk Try.prog hd32 := (hd0_ok.withV fun _ _ _ _ h ho => new32_ok h ho).withV fun _ _ _ _ h ho => rnew32_ok h ho
theorem hdX_ok : HOk Try.prog hdX := (hd0_ok.withV fun _ _ _ _ h ho => newX_ok h ho).withV fun _ _ _ _ h ho => rnewX_ok h ho
end Go.Proofs.Ytclkicobnmjpoaa
