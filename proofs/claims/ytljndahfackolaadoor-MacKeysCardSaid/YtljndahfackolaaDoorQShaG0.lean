/- Sizes of other kinds, the laws' anchor, and states behind bytes. Own work. -/
import Derived.Test.YtljndahfackolaaDoorQShaY
import Derived.Test.YtljndahfackolaaDoorQShaL
import Derived.Test.YtljndahfackolaaDoorQShaZ
set_option linter.unusedSimpArgs false
set_option linter.unusedVariables false
set_option linter.unusedSectionVars false
namespace Go.Sh
open Go.Ev
theorem stW_ok {w N B : Nat} : ∀ {l ws op : List Int} {c : Int}, ws.length = 8 → (∀ x ∈ ws, Wd w x) → 0 ≤ c ∧ c < 2 ^ 64 →
    (stW w N B ws op c l).1.length = 8 ∧ (∀ x ∈ (stW w N B ws op c l).1, Wd w x) ∧ 0 ≤ (stW w N B ws op c l).2.2 ∧ (stW w N B ws op c l).2.2 < 2 ^ 64
  | [], ws, op, c, h1, h2, h3 => ⟨h1, h2, h3⟩
  | x :: l, ws, op, c, h1, h2, h3 => by
    have e : stW w N B ws op c (x :: l) = stW w N B (byteS w N B (ws, op, c) x).1 (byteS w N B (ws, op, c) x).2.1 (byteS w N B (ws, op, c) x).2.2 l := rfl
    have hc : 0 ≤ (c + 1) % 2 ^ 64 ∧ (c + 1) % 2 ^ 64 < 2 ^ 64 := ⟨by omega, by omega⟩
    rw [e]
    unfold byteS
    split
    · have hb := block_ok (w := w) (N := N) (l := op.set (c % (B : Int)).toNat x) h1 h2
      exact stW_ok (l := l) hb.1 hb.2 hc
    · exact stW_ok (l := l) h1 h2 hc
end Go.Sh
namespace Go.Proofs.YtljndahfackolaaDoor
open Go.Ev Go.Sh
set_option maxRecDepth 100000
def qA : FuncId → Bool := fun f => qS f || Nat.beq f 1000000000
theorem sound_eval : resAll (funcA Tryd.prog qA hS6 100 9 [] []) = some (true, .bool false true) := by kernel_rfl
def soundS : List AV → E AV
  | [] => some ([], .bool false true)
  | _ => none
theorem sound_ok {args : List AV} {o : List Bool} {v : AV} (h : soundS args = some (o, v)) : PureCall Tryd.prog 9 args v := by
  unfold soundS at h
  split at h
  · cases h
    exact pure_of_all mixed noCount hS6_ok (by kernel_rfl) sound_eval fun h => by cases h; exact .bool _ _
  · cases h
def sizS : List AV → E AV
  | [.int true .i64 k] => some ([!decide (k = 256), !decide (k = 384), !decide (k = 512)], .int false .i64 0)
  | _ => none
theorem size_eval (k : Int) : res ((funcA Tryd.prog qS hs6 100 11 [.int true .i64 k] []).go [false, false, false]) = some ([!decide (k = 256), !decide (k = 384), !decide (k = 512)], .int false .i64 0) := by kernel_rfl
theorem block_eval (k : Int) : res ((funcA Tryd.prog qS hs6 100 12 [.int true .i64 k] []).go [false, false, false]) = some ([!decide (k = 256), !decide (k = 384), !decide (k = 512)], .int false .i64 0) := by kernel_rfl
theorem size_ok {args : List AV} {o : List Bool} {v : AV} (h : sizS args = some (o, v)) (ho : Paid o) : PureCall Tryd.prog 11 args v := by
  unfold sizS at h
  split at h
  · cases h
    exact pure_of_go mixed noCount hs6_ok [false, false, false] rfl (size_eval _) ho rfl rfl
  · cases h
theorem blockz_ok {args : List AV} {o : List Bool} {v : AV} (h : sizS args = some (o, v)) (ho : Paid o) : PureCall Tryd.prog 12 args v := by
  unfold sizS at h
  split at h
  · cases h
    exact pure_of_go mixed noCount hs6_ok [false, false, false] rfl (block_eval _) ho rfl rfl
  · cases h
def hs7 : CallH := withC 9 soundS (withC 11 sizS (withC 12 sizS hs6))
theorem hs7_ok : HOk Tryd.prog hs7 := ((hs6_ok.withC fun _ _ _ h ho => blockz_ok h ho).withC fun _ _ _ h ho => size_ok h ho).withC fun _ _ _ h _ => sound_ok h
noncomputable def hS7 : CallH := deep Tryd.prog qS hs7 100 3
theorem hS7_ok : HOk Tryd.prog hS7 := hs7_ok.deep mixed noCount 100 3
theorem beg256_wd : ∀ x ∈ beg256, Wd 32 x := all32_wd (by kernel_rfl)
theorem end256_ok {l : List Int} {n : Nat} (h : l.length = n) : all32 (wrEnd256 (wrI beg256 Z128 0 ((l.drop 0).take n) n)).1 = true ∧ decide (0 ≤ (wrEnd256 (wrI beg256 Z128 0 ((l.drop 0).take n) n)).2.2 ∧ (wrEnd256 (wrI beg256 Z128 0 ((l.drop 0).take n) n)).2.2 < 18446744073709551616) = true := by
  rw [wrEnd256_all h]
  have k := stW_ok (w := 32) (N := 64) (B := 64) (l := l) (op := Z128) (c := 0) (show beg256.length = 8 by rfl) beg256_wd ⟨by omega, by omega⟩
  exact ⟨all32_of k.2.1, decide_eq_true ⟨k.2.2.1, by have := k.2.2.2; omega⟩⟩
theorem beg384_wd : ∀ x ∈ beg384, Wd 64 x := all64_wd (by kernel_rfl)
theorem end384_ok {l : List Int} {n : Nat} (h : l.length = n) : all64 (wrEnd384 (wrI beg384 Z128 0 ((l.drop 0).take n) n)).1 = true ∧ decide (0 ≤ (wrEnd384 (wrI beg384 Z128 0 ((l.drop 0).take n) n)).2.2 ∧ (wrEnd384 (wrI beg384 Z128 0 ((l.drop 0).take n) n)).2.2 < 18446744073709551616) = true := by
  rw [wrEnd384_all h]
  have k := stW_ok (w := 64) (N := 80) (B := 128) (l := l) (op := Z128) (c := 0) (show beg384.length = 8 by rfl) beg384_wd ⟨by omega, by omega⟩
  exact ⟨all64_of k.2.1, decide_eq_true ⟨k.2.2.1, by have := k.2.2.2; omega⟩⟩
theorem beg512_wd : ∀ x ∈ beg512, Wd 64 x := all64_wd (by kernel_rfl)
theorem end512_ok {l : List Int} {n : Nat} (h : l.length = n) : all64 (wrEnd512 (wrI beg512 Z128 0 ((l.drop 0).take n) n)).1 = true ∧ decide (0 ≤ (wrEnd512 (wrI beg512 Z128 0 ((l.drop 0).take n) n)).2.2 ∧ (wrEnd512 (wrI beg512 Z128 0 ((l.drop 0).take n) n)).2.2 < 18446744073709551616) = true := by
  rw [wrEnd512_all h]
  have k := stW_ok (w := 64) (N := 80) (B := 128) (l := l) (op := Z128) (c := 0) (show beg512.length = 8 by rfl) beg512_wd ⟨by omega, by omega⟩
  exact ⟨all64_of k.2.1, decide_eq_true ⟨k.2.2.1, by have := k.2.2.2; omega⟩⟩
end Go.Proofs.YtljndahfackolaaDoor
namespace Go.Sh
open Go.Ev
/-- The text with zeros, and the numbers laid upon its end. -/
def rsL (T bits : Int) (m : List Int) : Nat → List Int
  | 0 => m
  | i + 1 => (rsL T bits m i).set (0 + (rawJ T i).toNat * 1) (IntKind.u8.wrap (ishr .u64 bits (IntKind.i64.wrap (8 * (i : Int)))))
def rsO (n : Nat) (T bits : Int) (m : List Int) : Nat → List Bool
  | 0 => []
  | i + 1 => rsO n T bits m i ++ [decide (0 ≤ rawJ T i) && decide (rawJ T i < ((n : Nat) : Int)), decide (0 + (rawJ T i).toNat * 1 + 1 ≤ (rsL T bits m i).length)]
theorem rsL_len (T bits : Int) (m : List Int) : ∀ i, (rsL T bits m i).length = m.length
  | 0 => rfl
  | i + 1 => by unfold rsL; rw [List.length_set]; exact rsL_len T bits m i
def bitsR (n : Int) : Int := IntKind.u64.wrap (IntKind.u64.wrap n * 8)
theorem bitsR_eq (n : Nat) (hn : n ≤ 1000000000) {i : Nat} (hi : i < 8) : IntKind.u8.wrap (ishr .u64 (bitsR n) (IntKind.i64.wrap (8 * (i : Int)))) = (n : Int) * 8 / 2 ^ (8 * i) % 256 := by
  have e1 : IntKind.i64.wrap (8 * (i : Int)) = ((8 * i : Nat) : Int) := by rw [w64 (by omega)]; omega
  have e2 : bitsR n = ((n : Int) * 8) % 2 ^ 64 := by
    unfold bitsR
    rw [wrap_u (k := .u64) rfl, wrap_u (k := .u64) rfl]
    simp only [IntKind.bits]
    omega
  rw [e1, e2, wrap_u (k := .u8) rfl]
  have e3 : ishr .u64 ((n : Int) * 8 % 2 ^ 64) ((8 * i : Nat) : Int) = (n : Int) * 8 % 2 ^ 64 / 2 ^ (8 * i) := sd64 (8 * i) (by omega)
  rw [e3]
  simp only [IntKind.bits]
  have : i = 0 ∨ i = 1 ∨ i = 2 ∨ i = 3 ∨ i = 4 ∨ i = 5 ∨ i = 6 ∨ i = 7 := by omega
  rcases this with rfl | rfl | rfl | rfl | rfl | rfl | rfl | rfl <;> omega
theorem rs_text {B pz : Nat} (hB : B = 64 ∨ B = 128) (hp : pz = B / 8) {l m : List Int} (hl : l.length ≤ 500000000) (hm : m = l ++ [128] ++ List.replicate (padZ B l.length) 0 ++ List.replicate pz 0) {T : Nat} (hT : T = l.length + 1 + padZ B l.length + pz) :
    ∀ i, i ≤ 8 → rsL T (bitsR l.length) m i = l ++ fillC (fillN B (l.length : Int)) (l.length : Int) i ∧ Paid (rsO T T (bitsR l.length) m i)
  | 0, _ => by
    have hz := padZ_fill hB l.length
    have hr := fillN_range (B := B) (by omega) (l.length : Int)
    refine ⟨?_, Paid.nil⟩
    show m = l ++ (128 :: List.replicate (fillN B (l.length : Int) - 1) 0)
    rw [hm, show fillN B (l.length : Int) - 1 = padZ B l.length + pz by omega, List.append_assoc, List.append_assoc, List.replicate_append_replicate]
    rfl
  | i + 1, h => by
    obtain ⟨ih1, ih2⟩ := rs_text hB hp hl hm hT i (by omega)
    have hz := padZ_fill hB l.length
    have hr := fillN_range (B := B) (by omega) (l.length : Int)
    have hTf : T = l.length + fillN B (l.length : Int) := by omega
    have hfu : fillN B (l.length : Int) ≤ 200 := by omega
    have hj : rawJ (T : Int) (i : Int) = ((l.length + (fillN B (l.length : Int) - 1 - i) : Nat) : Int) := by
      unfold rawJ
      rw [w64 (x := (T : Int) - 1) (by omega), w64 (by omega)]
      omega
    have hlen : (rsL T (bitsR l.length) m i).length = T := by rw [ih1, List.length_append, fillC_len hr.1, hTf]
    constructor
    · unfold rsL fillC
      rw [ih1, hj, bitsR_eq _ (by omega) (by omega), Int.toNat_natCast, Nat.zero_add, Nat.mul_one, List.set_append_right _ _ (by omega), Nat.add_sub_cancel_left]
    · unfold rsO
      refine paid_append.2 ⟨ih2, paid_cons ?_ (paid_cons ?_ Paid.nil)⟩
      · rw [hj]; simp; omega
      · rw [hlen, hj]; simp; omega
end Go.Sh
namespace Go.Proofs.YtljndahfackolaaDoor
open Go.Ev Go.Sh
set_option maxRecDepth 100000
end Go.Proofs.YtljndahfackolaaDoor
