/- What the law of sealing needs of the reference: it seals what the program seals. Own work. -/
import Derived.Test.YtpbemjifhampcaaQGcK
import Derived.Test.YtpbemjifhampcaaQEvPut
set_option linter.unusedSimpArgs false
set_option linter.unusedVariables false
set_option linter.unusedSectionVars false
namespace Go.Gc
open Go.Ev Go.Sh Go.As
theorem shr3 (N : Int) (h : 0 ≤ N) : ishr .u32 (ishr .u32 N 8) 8 = ishr .u32 N 16 ∧ ishr .u32 (ishr .u32 (ishr .u32 N 8) 8) 8 = ishr .u32 N 24 ∧ ishr .u32 N 0 = N := by
  have e : ∀ (x : Int) (s : Nat), s ≤ 32 → ishr .u32 x (s : Int) = x.fdiv (2 ^ s) := fun x s hs => by
    unfold ishr
    rw [show min ((s : Int).toNat) IntKind.u32.bits = s by show min _ 32 = s; omega]
  have e8 : ∀ x : Int, ishr .u32 x 8 = x.fdiv 256 := fun x => e x 8 (by omega)
  have e16 : ishr .u32 N 16 = N.fdiv 65536 := e N 16 (by omega)
  have e24 : ishr .u32 N 24 = N.fdiv 16777216 := e N 24 (by omega)
  have e0 : ishr .u32 N 0 = N.fdiv 1 := e N 0 (by omega)
  rw [e8, e8, e8, e16, e24, e0]
  simp only [Int.fdiv_eq_ediv_of_nonneg _ (show (0 : Int) ≤ 256 by decide), Int.fdiv_eq_ediv_of_nonneg _ (show (0 : Int) ≤ 65536 by decide), Int.fdiv_eq_ediv_of_nonneg _ (show (0 : Int) ≤ 16777216 by decide), Int.fdiv_eq_ediv_of_nonneg _ (show (0 : Int) ≤ 1 by decide)]
  omega
theorem ctr_same (l : List Int) (N : Int) (h : 0 ≤ N) : ctrR l N = ctrB l N := by
  obtain ⟨h1, h2, h3⟩ := shr3 N h
  unfold ctrR ctrB
  rw [h1, h3]
  rw [← h1, h2]
theorem mk_same {N : Nat} (hN : N = 4 ∨ N = 8) {k : List Int} (hk : k.length = 4 * N) (hr : ∀ x ∈ k, B8 x) (l : List Int) (a : Nat) (ha : a < 100000000) : mkR (specW N k (4 * (N + 7))) (N + 6) l (a : Int) = mkB (keyL N k) (N + 6) l (a : Int) := by
  have e1 : IntKind.i64.wrap (a : Int) = (a : Int) := by unfold IntKind.wrap; simp [IntKind.bits, IntKind.signed]; omega
  have e2 : IntKind.i64.wrap (2 + (a : Int)) = 2 + (a : Int) := by unfold IntKind.wrap; simp [IntKind.bits, IntKind.signed]; omega
  have e3 : IntKind.u32.wrap (2 + (a : Int)) = 2 + (a : Int) := by unfold IntKind.wrap; simp [IntKind.bits, IntKind.signed]; omega
  have e4 : IntKind.u32.wrap (a : Int) = (a : Int) := by unfold IntKind.wrap; simp [IntKind.bits, IntKind.signed]; omega
  unfold mkR mkB
  rw [e1, e2, e4, e3, ctr_same _ _ (by omega), enc_same hN hk hr]
theorem turn_same {N : Nat} (hN : N = 4 ∨ N = 8) {k : List Int} (hk : k.length = 4 * N) (hr : ∀ x ∈ k, B8 x) (l p : List Int) {n : Nat} (hn : n < 1000000000) : ∀ a, a ≤ (n + 15) / 16 → tuR (specW N k (4 * (N + 7))) (N + 6) l p n a = cvL (keyL N k) (N + 6) l p (min (16 * a) n)
  | 0, _ => by simp [tuR, cvL]
  | a + 1, h => by
    have e := eT_of n (16 * a) hn (by omega)
    unfold tuR
    rw [turn_same hN hk hr l p hn a (by omega), mk_same hN hk hr l a (by omega)]
    have e1 : min (16 * a) n = 16 * a := by omega
    have e2 : min (16 * (a + 1)) n = 16 * a + eT n ((16 * a : Nat) : Int) := by omega
    rw [e1, e2]
    generalize hT : eT n ((16 * a : Nat) : Int) = T at e e2
    unfold cvL cvP
    rw [List.range_add, List.map_append, List.map_map]
    refine congrArg (fun z => List.map (cvx (keyL N k) (N + 6) l p) (List.range (16 * a)) ++ z) ?_
    refine List.map_congr_left fun q hq => ?_
    have hq' := List.mem_range.1 hq
    show _ = cvx _ _ _ _ (16 * a + q)
    unfold cvx
    rw [show (16 * a + q) / 16 = a by omega, show (16 * a + q) % 16 = q by omega]
/-- The reference's tag. -/
def tagR (w : List Int) (rr : Nat) (l a : List Int) (m : Nat) (q : List Int) (n : Nat) : List Int := x16 (hashG (encB w rr Z16) a m q n) (encB w rr (ctrR l 1))
theorem tag_same {N : Nat} (hN : N = 4 ∨ N = 8) {k : List Int} (hk : k.length = 4 * N) (hr : ∀ x ∈ k, B8 x) (l a : List Int) (m : Nat) (q : List Int) (n : Nat) : tagR (specW N k (4 * (N + 7))) (N + 6) l a m q n = tagB (keyL N k) (N + 6) l a m q n := by
  unfold tagR tagB
  rw [ctr_same _ _ (by decide), enc_same hN hk hr, enc_same hN hk hr]
end Go.Gc
namespace Go.Proofs.Ytpbemjifhampcaa
open Go.Ev Go.Sh Go.As Go.Gc
set_option maxRecDepth 100000
noncomputable def hTu : CallH := inN Try.prog qP (deep Try.prog qP hT0 100 3) (tuΛS fun _ _ => none) 100 9 19 [] hT0
theorem hTu_ok : HOk Try.prog hTu := HOk.inN mixed noCount (hT0_ok.deep mixed noCount 100 3) hT0_ok 100 9 _ _ fun fn c hf hb => by rw [bodyOf_eq hf hb]; exact tuS_lok LOkN.none
noncomputable def hTf (b : Bool) : CallH := fixC Try.prog qP (deep Try.prog qP hT0 100 5) 100 15 b hTu
theorem hTf_ok (b : Bool) : HOk Try.prog (hTf b) := HOk.fix mixed noCount (hT0_ok.deep mixed noCount 100 5) hTu_ok 100 _ b
def hTx : CallH := withV 12 newSX hT0
theorem hTx_ok : HOk Try.prog hTx := hT0_ok.withV fun _ _ _ _ h ho => newX_ok h ho
end Go.Proofs.Ytpbemjifhampcaa
