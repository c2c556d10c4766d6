/- The reference's block, evaluated. Own work. -/
import Derived.Test.YtjhjhhibfojpiaaDoorVShaV
set_option linter.unusedSimpArgs false
set_option linter.unusedVariables false
set_option linter.unusedSectionVars false
namespace Go.Proofs.YtjhjhhibfojpiaaDoor
variable [Go.Ev.RowTab]
open Go.Ev Go.Sh
set_option maxRecDepth 100000
def finV32 (B V : List Int) : Nat → List Int
  | 0 => V
  | k + 1 => (finV32 B V k).set (0 + k * 1) (IntKind.u64.wrap ((finV32 B V k).getD (0 + k * 1) 0 + B.getD (0 + k * 1) 0) % 2 ^ 32)
def finO32 (B V : List Int) : Nat → List Bool
  | 0 => []
  | k + 1 => finO32 B V k ++ [decide (0 ≤ IntKind.u64.wrap ((finV32 B V k).getD (0 + k * 1) 0 + B.getD (0 + k * 1) 0))]
theorem brk32_eval (b0 b1 b2 b3 b4 b5 b6 b7 : Int) (l : List Int) (n : Nat) : res ((funcL Tryd.prog qS hR2 (rbΛ32 (rdΛ32 (fun _ _ => none))) 100 33 (cArgs 0 [.pl (.ints .u64 8 [b0, b1, b2, b3, b4, b5, b6, b7]), .buf true .u8 n l, .pl (.int false .i64 32)]) (cMem [.pl (.ints .u64 8 [b0, b1, b2, b3, b4, b5, b6, b7]), .buf true .u8 n l, .pl (.int false .i64 32)])).go []) =
    some (rbW32 ⟨[b0, b1, b2, b3, b4, b5, b6, b7], l, n, n, List.replicate 80 0, 0⟩ ++ (rdO32 ⟨[b0, b1, b2, b3, b4, b5, b6, b7], l, n, fillW 80 32 l 64, [b0, b1, b2, b3, b4, b5, b6, b7], 0⟩ ++ finO32 [b0, b1, b2, b3, b4, b5, b6, b7] (roundsV 32 64 l [b0, b1, b2, b3, b4, b5, b6, b7] 64) 8), .ints .u64 8 (finV32 [b0, b1, b2, b3, b4, b5, b6, b7] (roundsV 32 64 l [b0, b1, b2, b3, b4, b5, b6, b7] 64) 8)) := by kernel_rfl
def finV64 (B V : List Int) : Nat → List Int
  | 0 => V
  | k + 1 => (finV64 B V k).set (0 + k * 1) (IntKind.u64.wrap ((finV64 B V k).getD (0 + k * 1) 0 + B.getD (0 + k * 1) 0))
theorem brk64_eval (b0 b1 b2 b3 b4 b5 b6 b7 : Int) (l : List Int) (n : Nat) : res ((funcL Tryd.prog qS hR2 (rbΛ64 (rdΛ64 (fun _ _ => none))) 100 33 (cArgs 0 [.pl (.ints .u64 8 [b0, b1, b2, b3, b4, b5, b6, b7]), .buf true .u8 n l, .pl (.int false .i64 64)]) (cMem [.pl (.ints .u64 8 [b0, b1, b2, b3, b4, b5, b6, b7]), .buf true .u8 n l, .pl (.int false .i64 64)])).go []) =
    some (rbW64 ⟨[b0, b1, b2, b3, b4, b5, b6, b7], l, n, n, List.replicate 80 0, 0⟩ ++ (rdO64 ⟨[b0, b1, b2, b3, b4, b5, b6, b7], l, n, fillW 80 64 l 80, [b0, b1, b2, b3, b4, b5, b6, b7], 0⟩ ++ []), .ints .u64 8 (finV64 [b0, b1, b2, b3, b4, b5, b6, b7] (roundsV 64 80 l [b0, b1, b2, b3, b4, b5, b6, b7] 80) 8)) := by kernel_rfl
end Go.Proofs.YtjhjhhibfojpiaaDoor
namespace Go.Proofs.YtjhjhhibfojpiaaDoor
variable [Go.Ev.RowTab]
open Go.Ev Go.Sh
set_option maxRecDepth 100000
theorem finV32_8 (b0 b1 b2 b3 b4 b5 b6 b7 a0 a1 a2 a3 a4 a5 a6 a7 : Int) : finV32 [b0, b1, b2, b3, b4, b5, b6, b7] [a0, a1, a2, a3, a4, a5, a6, a7] 8 = [IntKind.u64.wrap (a0 + b0) % 2 ^ 32, IntKind.u64.wrap (a1 + b1) % 2 ^ 32, IntKind.u64.wrap (a2 + b2) % 2 ^ 32, IntKind.u64.wrap (a3 + b3) % 2 ^ 32, IntKind.u64.wrap (a4 + b4) % 2 ^ 32, IntKind.u64.wrap (a5 + b5) % 2 ^ 32, IntKind.u64.wrap (a6 + b6) % 2 ^ 32, IntKind.u64.wrap (a7 + b7) % 2 ^ 32] := by kernel_rfl
theorem finV32_eq {l B : List Int} (hB : B.length = 8) (wd : ∀ x ∈ B, Wd 32 x) : finV32 B (roundsV 32 64 l B 64) 8 = blockW 32 64 B l := by
  obtain ⟨a, b, c, d, e, f, g, h, hv, wa, wb, wc, wd', we, wf, wg, wh⟩ := rounds_eight (w := 32) (n := 64) (b := l) hB wd 64
  unfold blockW
  rw [hv]
  obtain ⟨b0, b1, b2, b3, b4, b5, b6, b7, rfl⟩ := eight hB
  rw [finV32_8]
  simp only [List.zipWith_cons_cons, List.zipWith_nil_left, wrap_u (k := .u64) rfl, IntKind.bits, Int.reducePow, List.cons.injEq, and_true]
  refine ⟨?_, ?_, ?_, ?_, ?_, ?_, ?_, ?_⟩ <;> omega
theorem finV64_8 (b0 b1 b2 b3 b4 b5 b6 b7 a0 a1 a2 a3 a4 a5 a6 a7 : Int) : finV64 [b0, b1, b2, b3, b4, b5, b6, b7] [a0, a1, a2, a3, a4, a5, a6, a7] 8 = [IntKind.u64.wrap (a0 + b0), IntKind.u64.wrap (a1 + b1), IntKind.u64.wrap (a2 + b2), IntKind.u64.wrap (a3 + b3), IntKind.u64.wrap (a4 + b4), IntKind.u64.wrap (a5 + b5), IntKind.u64.wrap (a6 + b6), IntKind.u64.wrap (a7 + b7)] := by kernel_rfl
theorem finV64_eq {l B : List Int} (hB : B.length = 8) (wd : ∀ x ∈ B, Wd 64 x) : finV64 B (roundsV 64 80 l B 80) 8 = blockW 64 80 B l := by
  obtain ⟨a, b, c, d, e, f, g, h, hv, wa, wb, wc, wd', we, wf, wg, wh⟩ := rounds_eight (w := 64) (n := 80) (b := l) hB wd 80
  unfold blockW
  rw [hv]
  obtain ⟨b0, b1, b2, b3, b4, b5, b6, b7, rfl⟩ := eight hB
  rw [finV64_8]
  simp only [List.zipWith_cons_cons, List.zipWith_nil_left, wrap_u (k := .u64) rfl, IntKind.bits, Int.reducePow, List.cons.injEq, and_true]
  refine ⟨?_, ?_, ?_, ?_, ?_, ?_, ?_, ?_⟩ <;> omega
theorem finO32_paid (B V : List Int) : ∀ k, Paid (finO32 B V k)
  | 0 => Paid.nil
  | k + 1 => paid_append.2 ⟨finO32_paid B V k, paid_cons (decide_eq_true (by rw [wrap_u (k := .u64) rfl]; exact Int.emod_nonneg _ (by decide))) Paid.nil⟩
def brkS : List V → E (AV × Mem)
  | [.pl (.ints .u64 8 B), .buf true .u8 n l, .pl (.int false .i64 32)] => some ([all32 B, decide (n = 64)], (.ints .u64 8 (blockW 32 64 B l), []))
  | [.pl (.ints .u64 8 B), .buf true .u8 n l, .pl (.int false .i64 64)] => some ([all64 B, decide (n = 128)], (.ints .u64 8 (blockW 64 80 B l), []))
  | _ => none
theorem brk_ok {xs : List V} {o : List Bool} {v : AV} {bs : Mem} (h : brkS xs = some (o, (v, bs))) (ho : Paid o) : ViewCall Tryd.prog 33 xs v bs := by
  unfold brkS at h
  split at h
  · rename_i B n l
    cases h
    have hB := ho _ (List.mem_cons_self ..)
    have hn := of_decide_eq_true (ho _ (List.mem_cons_of_mem _ (List.mem_cons_self ..)))
    subst hn
    intro ρ vs w ha hi
    have hlen : B.length = 8 := by
      have hb := ha
      cases hb with
      | cons _ _ _ _ r0 hb => exact r0.wok
    obtain ⟨cs2, t2, lo2, hi2, c1, c2, c3, c4, c5⟩ := (hi.sim.blk 1 _ rfl).ex
    have hl : l.length = 64 := c5.1 _ rfl
    have hin : ∀ x ∈ l, inR .u8 x = true := crep_all c5
    have wd := all32_wd hB
    obtain ⟨b0, b1, b2, b3, b4, b5, b6, b7, rfl⟩ := eight hlen
    have hp1 : Paid (rbW32 ⟨[b0, b1, b2, b3, b4, b5, b6, b7], l, 64, 64, List.replicate 80 0, 0⟩) :=
      paid_cons (decide_eq_true (Eq.refl (0 : Int))) (paid_cons (decide_eq_true (Eq.refl (64 : Nat))) (paid_cons (decide_eq_true (Eq.refl (64 : Nat))) (paid_cons (decide_eq_true hl) (paid_cons (List.all_eq_true.2 hin) (paid_cons (decide_eq_true (Eq.refl (List.replicate 80 (0 : Int)))) Paid.nil)))))
    have hp2 : Paid (rdO32 ⟨[b0, b1, b2, b3, b4, b5, b6, b7], l, 64, fillW 80 32 l 64, [b0, b1, b2, b3, b4, b5, b6, b7], 0⟩) :=
      paid_cons (decide_eq_true (Eq.refl (0 : Int))) (paid_cons (decide_eq_true (Eq.refl (fillW 80 32 l 64))) (paid_cons (decide_eq_true (Eq.refl [b0, b1, b2, b3, b4, b5, b6, b7])) (paid_cons (decide_eq_true hlen) (paid_cons hB Paid.nil))))
    exact view_goL mixed noCount hR2_ok (fun fn c hf hb => by rw [bodyOf_eq hf hb]; exact rb32_lok (rd32_lok LOk.none)) [] (brk32_eval b0 b1 b2 b3 b4 b5 b6 b7 l 64) (paid_append.2 ⟨hp1, paid_append.2 ⟨hp2, finO32_paid _ _ 8⟩⟩) (congrArg (AV.ints .u64 8) (finV32_eq hlen wd)) rfl ha hi
  · rename_i B n l
    cases h
    have hB := ho _ (List.mem_cons_self ..)
    have hn := of_decide_eq_true (ho _ (List.mem_cons_of_mem _ (List.mem_cons_self ..)))
    subst hn
    intro ρ vs w ha hi
    have hlen : B.length = 8 := by
      have hb := ha
      cases hb with
      | cons _ _ _ _ r0 hb => exact r0.wok
    obtain ⟨cs2, t2, lo2, hi2, c1, c2, c3, c4, c5⟩ := (hi.sim.blk 1 _ rfl).ex
    have hl : l.length = 128 := c5.1 _ rfl
    have hin : ∀ x ∈ l, inR .u8 x = true := crep_all c5
    have wd := all64_wd hB
    obtain ⟨b0, b1, b2, b3, b4, b5, b6, b7, rfl⟩ := eight hlen
    have hp1 : Paid (rbW64 ⟨[b0, b1, b2, b3, b4, b5, b6, b7], l, 128, 128, List.replicate 80 0, 0⟩) :=
      paid_cons (decide_eq_true (Eq.refl (0 : Int))) (paid_cons (decide_eq_true (Eq.refl (128 : Nat))) (paid_cons (decide_eq_true (Eq.refl (128 : Nat))) (paid_cons (decide_eq_true hl) (paid_cons (List.all_eq_true.2 hin) (paid_cons (decide_eq_true (Eq.refl (List.replicate 80 (0 : Int)))) Paid.nil)))))
    have hp2 : Paid (rdO64 ⟨[b0, b1, b2, b3, b4, b5, b6, b7], l, 128, fillW 80 64 l 80, [b0, b1, b2, b3, b4, b5, b6, b7], 0⟩) :=
      paid_cons (decide_eq_true (Eq.refl (0 : Int))) (paid_cons (decide_eq_true (Eq.refl (fillW 80 64 l 80))) (paid_cons (decide_eq_true (Eq.refl [b0, b1, b2, b3, b4, b5, b6, b7])) (paid_cons (decide_eq_true hlen) (paid_cons hB Paid.nil))))
    exact view_goL mixed noCount hR2_ok (fun fn c hf hb => by rw [bodyOf_eq hf hb]; exact rb64_lok (rd64_lok LOk.none)) [] (brk64_eval b0 b1 b2 b3 b4 b5 b6 b7 l 128) (paid_append.2 ⟨hp1, paid_append.2 ⟨hp2, Paid.nil⟩⟩) (congrArg (AV.ints .u64 8) (finV64_eq hlen wd)) rfl ha hi
  · cases h
def hr3 : CallH := withV 33 brkS hr2
theorem hr3_ok : HOk Tryd.prog hr3 := hr2_ok.withV fun _ _ _ _ h ho => brk_ok h ho
noncomputable def hR3 : CallH := deep Tryd.prog qS hr3 100 3
theorem hR3_ok : HOk Tryd.prog hR3 := hr3_ok.deep mixed noCount 100 3
end Go.Proofs.YtjhjhhibfojpiaaDoor
