/- The reference's reading of bytes that are no time's, all of them: a contract. Own work. -/
import Derived.Test.YtjhjhhibfojpiaaTDtN
set_option linter.unusedSimpArgs false
set_option linter.unusedVariables false
set_option linter.unusedSectionVars false
namespace Go.Proofs.Ytjhjhhibfojpiaa
open Go.Ev Go.De Go.Dt
set_option maxRecDepth 100000
set_option linter.unusedSimpArgs false
set_option linter.unusedVariables false
set_option linter.unusedSectionVars false
variable [Tab]
theorem VC.mark2 {g : FuncId} {A : AV} {k : IntKind} {n : Nat} {l : List Int} {v : AV} {bs : Mem} (h : VC Try.prog g [.pl A, .buf false k n l] v bs) : VC Try.prog g [.pl A, .buf true k n l] v bs := by
  refine ⟨?_⟩
  intro ρ vs w ha hi
  refine h.call (ρ := ρ) (vs := vs) (w := w) ?_ hi
  cases ha with
  | cons _ _ u us hu hus =>
    cases hus with
    | cons _ _ u2 us2 hu2 hus2 =>
      cases hus2
      refine .cons _ _ _ _ hu (.cons _ _ _ _ ?_ .nil)
      cases hu2 with
      | slice _ _ _ _ _ _ c ad hn hc hl hw had => exact .slice false _ _ _ _ _ c ad hn hc hl hw had
theorem len13 : ∀ {l : List Int}, l.length = 13 → ∃ a0 a1 a2 a3 a4 a5 a6 a7 a8 a9 a10 a11 a12, l = [a0, a1, a2, a3, a4, a5, a6, a7, a8, a9, a10, a11, a12]
  | [a0, a1, a2, a3, a4, a5, a6, a7, a8, a9, a10, a11, a12], _ => ⟨a0, a1, a2, a3, a4, a5, a6, a7, a8, a9, a10, a11, a12, rfl⟩
theorem len15 : ∀ {l : List Int}, l.length = 15 → ∃ a0 a1 a2 a3 a4 a5 a6 a7 a8 a9 a10 a11 a12 a13 a14, l = [a0, a1, a2, a3, a4, a5, a6, a7, a8, a9, a10, a11, a12, a13, a14]
  | [a0, a1, a2, a3, a4, a5, a6, a7, a8, a9, a10, a11, a12, a13, a14], _ => ⟨a0, a1, a2, a3, a4, a5, a6, a7, a8, a9, a10, a11, a12, a13, a14, rfl⟩
theorem rx_call {tag : Int} {n : Nat} {l : List Int} (hl : l.length = n) (hn : n ≤ 1000000000) (h : badT tag n l = true) : VC Try.prog 14 [.pl (.int true .u8 tag), .buf true .u8 n l] (.tuple [.int false .u64 0, .bool false false]) [] := by
  by_cases hc : (tag = 24 ∧ (n ≠ 15 ∨ l.getD (n - 1) 0 ≠ 90)) ∨ (tag ≠ 24 ∧ (tag ≠ 23 ∨ n ≠ 13 ∨ l.getD (n - 1) 0 ≠ 90))
  · exact vb_call hn hc
  have hz : l.getD (n - 1) 0 = 90 := by
    by_cases e : l.getD (n - 1) 0 = 90
    · exact e
    · exfalso; apply hc
      by_cases h24 : tag = 24
      · exact Or.inl ⟨h24, Or.inr e⟩
      · exact Or.inr ⟨h24, Or.inr (Or.inr e)⟩
  by_cases h24 : tag = 24
  · have hn15 : n = 15 := by
      by_cases e : n = 15
      · exact e
      · exact absurd (Or.inl ⟨h24, Or.inl e⟩) hc
    subst hn15
    obtain ⟨a0, a1, a2, a3, a4, a5, a6, a7, a8, a9, a10, a11, a12, a13, a14, rfl⟩ := len15 hl
    have hd : digs [a0, a1, a2, a3, a4, a5, a6, a7, a8, a9, a10, a11, a12, a13] = false := by
      unfold badT at h
      rw [decide_eq_true hz, decide_eq_true ⟨h24, rfl⟩] at h
      have h2 : (!(true && digN [a0, a1, a2, a3, a4, a5, a6, a7, a8, a9, a10, a11, a12, a13, a14] (15 - 1) && (true || decide (tag = 23 ∧ 15 = 13)))) = true := h
      rw [Bool.true_or, Bool.and_true, Bool.true_and, Bool.not_eq_true'] at h2
      exact h2
    exact (wb15_call h24 hz hd).mark2
  · have h23 : tag = 23 := by
      by_cases e : tag = 23
      · exact e
      · exact absurd (Or.inr ⟨h24, Or.inl e⟩) hc
    have hn13 : n = 13 := by
      by_cases e : n = 13
      · exact e
      · exact absurd (Or.inr ⟨h24, Or.inr (Or.inl e)⟩) hc
    subst hn13
    obtain ⟨a0, a1, a2, a3, a4, a5, a6, a7, a8, a9, a10, a11, a12, rfl⟩ := len13 hl
    have hd : digs [a0, a1, a2, a3, a4, a5, a6, a7, a8, a9, a10, a11] = false := by
      unfold badT at h
      rw [decide_eq_true hz, decide_eq_true (show tag = 23 ∧ 13 = 13 from ⟨h23, rfl⟩)] at h
      have h2 : (!(true && digN [a0, a1, a2, a3, a4, a5, a6, a7, a8, a9, a10, a11, a12] (13 - 1) && (decide (tag = 24 ∧ 13 = 15) || true))) = true := h
      rw [Bool.or_true, Bool.and_true, Bool.true_and, Bool.not_eq_true'] at h2
      exact h2
    exact (wb13_call h23 hz hd).mark2
def rxS : List V → E (AV × Mem)
  | [.pl (.int true .u8 tag), .buf true .u8 n l] => some ([decide (n ≤ 1000000000), badT tag n l], (.tuple [.int false .u64 0, .bool false false], []))
  | [.pl (.int true .u8 tag), .pl .nilslice] => some ([], (.tuple [.int false .u64 0, .bool false false], []))
  | [.pl (.int true .u8 tag), .empty] => some ([], (.tuple [.int false .u64 0, .bool false false], []))
  | _ => none
theorem rxS_ok {xs : List V} {o : List Bool} {v : AV} {bs : Mem} (h : rxS xs = some (o, (v, bs))) (ho : Paid o) : ViewCall Try.prog 14 xs v bs := by
  unfold rxS at h
  split at h
  · rename_i tag n l
    cases h
    have o2 := of_decide_eq_true (ho _ (List.mem_cons_self ..))
    have o3 := ho _ (List.mem_cons_of_mem _ (List.mem_cons_self ..))
    intro ρ vs w0 ha hi
    obtain ⟨cs2, t2, lo2, hi2, c1, c2, c3, c4, c5⟩ := (hi.sim.blk 1 _ rfl).ex
    have hl : l.length = n := c5.1 _ rfl
    exact (rx_call hl o2 o3).call ha hi
  · cases h
    exact @VC.call _ _ _ _ _ _ (vn_call _)
  · cases h
    exact @VC.call _ _ _ _ _ _ (ve_call _)
  · cases h
noncomputable def hrx (X : CallH) : CallH := withV 14 rxS X
theorem hrx_ok {X : CallH} (h : HOk Try.prog X) : HOk Try.prog (hrx X) := h.withV fun _ _ _ _ h ho => rxS_ok h ho
end Go.Proofs.Ytjhjhhibfojpiaa
