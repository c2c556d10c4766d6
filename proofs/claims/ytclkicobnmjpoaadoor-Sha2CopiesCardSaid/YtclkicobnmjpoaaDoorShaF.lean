/- Sizes of other kinds, the laws' anchor, and states behind bytes. Own work. -/
import Derived.Test.YtclkicobnmjpoaaDoorShaE
import Derived.Test.YtclkicobnmjpoaaDoorShaL
namespace Go.Sh
open Go.Ev
theorem stW_ok {w N B : Nat} : ∀ {l ws op : List Int} {c : Int}, ws.length = 8 → (∀ x ∈ ws, Wd w x) → 0 ≤ c ∧ c < 2 ^ 64 →
    (stW w N B ws op c l).1.length = 8 ∧ (∀ x ∈ (stW w N B ws op c l).1, Wd w x) ∧ 0 ≤ (stW w N B ws op c l).2.2 ∧ (stW w N B ws op c l).2.2 < 2 ^ 64
  | [], ws, op, c, h1, h2, h3 => ⟨h1, h2, h3⟩
  | x :: l, ws, op, c, h1, h2, h3 => by
    have e : stW w N B ws op c (x :: l) = stW w N B (byteS w N B (ws, op, c) x).1 (byteS w N B (ws, op, c) x).2.1 (byteS w N B (ws, op, c) x).2.2 l := rfl
    have hc : 0 ≤ (c + 1) % 2 ^ 64 ∧ (c + 1) % 2 ^ 64 < 2 ^ 64 := ⟨by omega, by omega⟩
    rw [e]
    unfold byteS
    split
    · have hb := block_ok (w := w) (N := N) (l := op.set (c % (B : Int)).toNat x) h1 h2
      exact stW_ok (l := l) hb.1 hb.2 hc
    · exact stW_ok (l := l) h1 h2 hc
end Go.Sh
namespace Go.Proofs.YtclkicobnmjpoaaDoor
open Go.Ev Go.Sh
set_option maxRecDepth 100000
def qA : FuncId → Bool := fun f => qS f || Nat.beq f 1000000000
theorem sound_eval : resAll (funcA Tryd.prog qA hS6 100 11 [] []) = some (true, .bool false true) := by kernel_rfl
def soundS : List AV → E AV
  | [] => some ([], .bool false true)
  | _ => none
theorem sound_ok {args : List AV} {o : List Bool} {v : AV} (h : soundS args = some (o, v)) : PureCall Tryd.prog 11 args v := by
  unfold soundS at h
  split at h
  · cases h
    exact pure_of_all mixed noCount hS6_ok (by kernel_rfl) sound_eval fun h => by cases h; exact .bool _ _
  · cases h
def sizS : List AV → E AV
  | [.int true .i64 k] => some ([!decide (k = 256), !decide (k = 384), !decide (k = 512)], .int false .i64 0)
  | _ => none
theorem size_eval (k : Int) : res ((funcA Tryd.prog qS hs6 100 14 [.int true .i64 k] []).go [false, false, false]) = some ([!decide (k = 256), !decide (k = 384), !decide (k = 512)], .int false .i64 0) := by kernel_rfl
theorem block_eval (k : Int) : res ((funcA Tryd.prog qS hs6 100 16 [.int true .i64 k] []).go [false, false, false]) = some ([!decide (k = 256), !decide (k = 384), !decide (k = 512)], .int false .i64 0) := by kernel_rfl
theorem size_ok {args : List AV} {o : List Bool} {v : AV} (h : sizS args = some (o, v)) (ho : Paid o) : PureCall Tryd.prog 14 args v := by
  unfold sizS at h
  split at h
  · cases h
    exact pure_of_go mixed noCount hs6_ok [false, false, false] rfl (size_eval _) ho rfl rfl
  · cases h
theorem blockz_ok {args : List AV} {o : List Bool} {v : AV} (h : sizS args = some (o, v)) (ho : Paid o) : PureCall Tryd.prog 16 args v := by
  unfold sizS at h
  split at h
  · cases h
    exact pure_of_go mixed noCount hs6_ok [false, false, false] rfl (block_eval _) ho rfl rfl
  · cases h
def hs7 : CallH := withC 11 soundS (withC 14 sizS (withC 16 sizS hs6))
theorem hs7_ok : HOk Tryd.prog hs7 := ((hs6_ok.withC fun _ _ _ h ho => blockz_ok h ho).withC fun _ _ _ h ho => size_ok h ho).withC fun _ _ _ h _ => sound_ok h
noncomputable def hS7 : CallH := deep Tryd.prog qS hs7 100 3
theorem hS7_ok : HOk Tryd.prog hS7 := hs7_ok.deep mixed noCount 100 3
theorem beg256_wd : ∀ x ∈ beg256, Wd 32 x := all32_wd (by kernel_rfl)
theorem end256_ok {l : List Int} {n : Nat} (h : l.length = n) : all32 (wrEnd256 (wrI beg256 Z128 0 ((l.drop 0).take n) n)).1 = true ∧ decide (0 ≤ (wrEnd256 (wrI beg256 Z128 0 ((l.drop 0).take n) n)).2.2 ∧ (wrEnd256 (wrI beg256 Z128 0 ((l.drop 0).take n) n)).2.2 < 18446744073709551616) = true := by
  rw [wrEnd256_all h]
  have k := stW_ok (w := 32) (N := 64) (B := 64) (l := l) (op := Z128) (c := 0) (show beg256.length = 8 by rfl) beg256_wd ⟨by omega, by omega⟩
  exact ⟨all32_of k.2.1, decide_eq_true ⟨k.2.2.1, by have := k.2.2.2; omega⟩⟩
theorem beg384_wd : ∀ x ∈ beg384, Wd 64 x := all64_wd (by kernel_rfl)
theorem end384_ok {l : List Int} {n : Nat} (h : l.length = n) : all64 (wrEnd384 (wrI beg384 Z128 0 ((l.drop 0).take n) n)).1 = true ∧ decide (0 ≤ (wrEnd384 (wrI beg384 Z128 0 ((l.drop 0).take n) n)).2.2 ∧ (wrEnd384 (wrI beg384 Z128 0 ((l.drop 0).take n) n)).2.2 < 18446744073709551616) = true := by
  rw [wrEnd384_all h]
  have k := stW_ok (w := 64) (N := 80) (B := 128) (l := l) (op := Z128) (c := 0) (show beg384.length = 8 by rfl) beg384_wd ⟨by omega, by omega⟩
  exact ⟨all64_of k.2.1, decide_eq_true ⟨k.2.2.1, by have := k.2.2.2; omega⟩⟩
theorem beg512_wd : ∀ x ∈ beg512, Wd 64 x := all64_wd (by kernel_rfl)
theorem end512_ok {l : List Int} {n : Nat} (h : l.length = n) : all64 (wrEnd512 (wrI beg512 Z128 0 ((l.drop 0).take n) n)).1 = true ∧ decide (0 ≤ (wrEnd512 (wrI beg512 Z128 0 ((l.drop 0).take n) n)).2.2 ∧ (wrEnd512 (wrI beg512 Z128 0 ((l.drop 0).take n) n)).2.2 < 18446744073709551616) = true := by
  rw [wrEnd512_all h]
  have k := stW_ok (w := 64) (N := 80) (B := 128) (l := l) (op := Z128) (c := 0) (show beg512.length = 8 by rfl) beg512_wd ⟨by omega, by omega⟩
  exact ⟨all64_of k.2.1, decide_eq_true ⟨k.2.2.1, by have := k.2.2.2; omega⟩⟩
end Go.Proofs.YtclkicobnmjpoaaDoor
