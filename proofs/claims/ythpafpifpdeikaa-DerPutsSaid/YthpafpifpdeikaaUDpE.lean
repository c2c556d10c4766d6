/- The reference's Put of any bytes. Own work. -/
import Derived.Test.YthpafpifpdeikaaUDpD
set_option linter.unusedSimpArgs false
set_option linter.unusedVariables false
set_option linter.unusedSectionVars false
namespace Go.Proofs.Ythpafpifpdeikaa
open Go.Ev Go.De
set_option maxRecDepth 100000
set_option linter.unusedSimpArgs false
set_option linter.unusedVariables false
section
variable [Tab]
theorem rq3_call {t : Int} {N : Nat} {l : List Int} (hl : l.length = N) (hN : N ≤ 65535) (hk : ¬ N < 256) :
    ViewCall Try.prog 13 [.pl (.int true .u8 t), .buf true .u8 N l] (.slice true 0 0 (putB t l).length none 1) [some ⟨true, .ints .u8 none (putB t l)⟩] := by
  have hT : List.take N (List.drop 0 l) = l := by rw [List.drop_zero]; exact List.take_of_length_le (by omega)
  have hC : putB t l = t :: (lenB N ++ l) := by unfold putB; rw [hl]
  rw [lenB_3 hk] at hC
  have hlen : 4 + N = (putB t l).length := by rw [hC]; simp only [List.length_cons, List.length_append, List.length_nil]; omega
  have ev := rp3_eval t N l
  rw [hT, lenw2 (by omega), lenw3, hlen] at ev
  rw [hC] at ev ⊢
  refine @viewN_one _ _ _ _ _ mixed noCount n0_ok _ _ _ (fun _ _ _ _ => LOkN.none) _ _ _ _ _ _ [false, true] 5 ev ?_ (by show 2 ≤ 5; decide) rfl rfl
  clear ev hlen
  unfold rp3D
  try simp only [List.length_append, List.length_cons, List.length_nil]
  refine paid_cons ?_ (paid_cons ?_ (paid_cons ?_ (paid_cons ?_ (paid_cons ?_ (fun _ h => by cases h)))))
  all_goals (try simp only [Bool.and_eq_true, Bool.or_eq_true, Bool.not_eq_true', Bool.not_true, Bool.not_false, Bool.not_eq_eq_eq_not, decide_eq_true_eq, decide_eq_false_iff_not, beq_iff_eq, beq_eq_false_iff_ne, bne_iff_ne, bne_eq_false_iff_eq, ne_eq, Bool.or_eq_false_iff, Bool.and_eq_false_imp, Bool.and_true, Bool.true_and, Bool.or_false, Bool.false_or, Bool.or_true, Bool.true_or, Bool.and_false, Bool.false_and, and_true, true_and, not_true_eq_false, not_false_eq_true, List.length_cons, List.length_nil, List.length_append, Nat.add_zero, Nat.zero_add]) <;> omega
theorem rqn_eval (t : Int) (N : Nat) (l : List Int) : ((funcX Try.prog qA n0 (fun _ _ => none) 100 13 (cArgs 0 [.pl (.int true .u8 t), .buf true .u8 N l]) (cMem [.pl (.int true .u8 t), .buf true .u8 N l])).go [true]).flat.map (fun p => (p.1, p.2.1)) = some ([decide ((N : Nat) < 9223372036854775808), decide ((((N : Nat) : Int) : Int) > 65535)], .nilslice) := by kernel_rfl
theorem rqn_call {t : Int} {N : Nat} {l : List Int} (hN : N < 9223372036854775808) (hk : 65535 < N) : ViewCall Try.prog 13 [.pl (.int true .u8 t), .buf true .u8 N l] .nilslice [] := by
  have ev := rqn_eval t N l
  rw [Option.map_eq_some_iff] at ev
  obtain ⟨⟨o, v, m⟩, h1, h2⟩ := ev
  simp only [Prod.mk.injEq] at h2
  obtain ⟨rfl, rfl⟩ := h2
  intro ρ vs w ha hi
  exact viewX_of_goR (v := .nilslice) (bs := []) mixed noCount n0_ok (fun _ _ _ _ => LOkX.none) [true] (fun i => i) h1 (paid_cons (decide_eq_true hN) (paid_cons (decide_eq_true (by omega)) fun _ h => by cases h)) rfl rfl trivial rfl rfl rfl ha hi
def rqS (w : Bool) : List V → E (AV × Mem)
  | [.pl (.int _ .u8 t), .buf _ .u8 N l] => some ([decide (decide (65535 < N) = w), decide (N < 9223372036854775808)], match w with
    | true => (.nilslice, [])
    | false => (.slice true 0 0 (putB t l).length none 1, [some ⟨true, .ints .u8 none (putB t l)⟩]))
  | _ => none
theorem rqS_ok {w : Bool} {xs : List V} {o : List Bool} {v : AV} {bs : Mem} (h : rqS w xs = some (o, (v, bs))) (ho : Paid o) : ViewCall Try.prog 13 xs v bs := by
  unfold rqS at h
  split at h
  · rename_i s2 t s N l
    have ho1 : o = [decide (decide (65535 < N) = w), decide (N < 9223372036854775808)] := (congrArg Prod.fst (Option.some.inj h)).symm
    subst ho1
    have o1 := of_decide_eq_true (ho _ (List.mem_cons_self ..))
    have o2 := of_decide_eq_true (ho _ (List.mem_cons_of_mem _ (List.mem_cons_self ..)))
    cases w with
    | true =>
      cases h
      intro ρ vs w ha hi
      exact rqn_call o2 (of_decide_eq_true o1) (mark2 ha) hi
    | false =>
      cases h
      have o6 := of_decide_eq_false o1
      intro ρ vs w ha hi
      obtain ⟨hl, hr⟩ := buf_arg hi 1 rfl
      by_cases hk : N < 128
      · exact rp1_call hl (by omega) hk (mark2 ha) hi
      by_cases hk2 : N < 256
      · exact rp2_call hl (by omega) hk hk2 (mark2 ha) hi
      exact rq3_call hl (by omega) hk2 (mark2 ha) hi
  · cases h
noncomputable def hRq (w : Bool) (X : CallH) : CallH := withV 13 (rqS w) X
theorem hRq_ok {w : Bool} {X : CallH} (h : HOk Try.prog X) : HOk Try.prog (hRq w X) := h.withV fun _ _ _ _ h ho => rqS_ok h ho
end
end Go.Proofs.Ythpafpifpdeikaa
