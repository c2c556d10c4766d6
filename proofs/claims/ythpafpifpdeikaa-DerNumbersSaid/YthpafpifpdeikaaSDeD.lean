/- Contracts of Get: the first element, by its length's form; none. Own work. -/
import Derived.Test.YthpafpifpdeikaaSDeC
set_option linter.unusedSimpArgs false
set_option linter.unusedVariables false
set_option linter.unusedSectionVars false
namespace Go.Proofs.Ythpafpifpdeikaa
open Go.Ev Go.De
set_option maxRecDepth 100000
set_option linter.unusedSimpArgs false
variable [Tab]
/-- An element's bytes, and what stands behind it. -/
def gIn (j : Nat) (l : List Int) : List Int := List.take (nOf j l) (List.drop (1 + j) l)
def gTo (j : Nat) (l : List Int) : List Int := List.drop (1 + j + nOf j l) l
def getS (j : Nat) : List V → E (AV × Mem)
  | [.buf true .u8 N l] => some ([gd j N l, decide (N ≤ 1000000000)], (.tuple [.int true .u8 (l.getD 0 0), .slice true 1 0 (nOf j l) none 1, .slice true 3 0 (N - (1 + j + nOf j l)) none 1, .int false .i64 0],
      [none, some ⟨true, .ints .u8 none (gIn j l)⟩, none, some ⟨true, .ints .u8 none (gTo j l)⟩]))
  | _ => none
def getX : List V → E (AV × Mem)
  | [.buf true .u8 N l] => some ([bad N l, decide (1 ≤ N), decide (N ≤ 1000000000)], (.tuple [.int false .u8 0, .nilslice, .nilslice, .int false .i64 3], []))
  | _ => none
theorem gt1_end {N : Nat} {l : List Int} (hr : ∀ x ∈ l, inR .u8 x = true) : (IntKind.wrap .i64 (2 + (IntKind.wrap .i64 (List.getD l 1 0)))).toNat = 2 + nOf 1 l := by
  have b1 := u8_at hr 1
  have b2 := u8_at hr 2
  have b3 := u8_at hr 3
  have w1 := wrapU (x := l.getD 1 0) (by omega)
  have w2 := wrapU (x := l.getD 2 0) (by omega)
  have w3 := wrapU (x := l.getD 3 0) (by omega)
  have w4 := ior88 b2 b3
  have w5 := wrapU (x := 2 + l.getD 1 0) (by omega)
  simp only [w1, w5, nOf]
  omega
theorem get1_call {N : Nat} {l : List Int} (hl : l.length = N) (hr : ∀ x ∈ l, inR .u8 x = true) (hN : N ≤ 1000000000) (hg : gd 1 N l = true) :
    ViewCall Try.prog 14 [.buf true .u8 N l] (.tuple [.int true .u8 (l.getD 0 0), .slice true 1 0 (nOf 1 l) none 1, .slice true 3 0 (N - (1 + 1 + nOf 1 l)) none 1, .int false .i64 0])
      [none, some ⟨true, .ints .u8 none (gIn 1 l)⟩, none, some ⟨true, .ints .u8 none (gTo 1 l)⟩] := by
  have ev := gt1_eval N l
  have a1 : 0 + (2 + nOf 1 l - 2) = nOf 1 l := by omega
  have a2 : 0 + (N - (2 + nOf 1 l)) = N - (2 + nOf 1 l) := by omega
  have a3 : 2 + nOf 1 l - 2 = nOf 1 l := by omega
  have a4 : List.take (N - (2 + nOf 1 l)) (List.drop (0 + (2 + nOf 1 l) * 1) l) = gTo 1 l := by
    rw [show 0 + (2 + nOf 1 l) * 1 = 2 + nOf 1 l by omega]
    exact List.take_of_length_le (by rw [List.length_drop]; omega)
  rw [gt1_end (N := N) hr, a1, a2, a3, a4] at ev
  exact @viewN_of_go _ _ _ _ _ mixed noCount (dA_ok (firH_ok 1) 7) _ _ _ (fun _ _ _ _ => LOkN.none) _ _ _ _ _ [] ev (gtD1_paid hr hN hg) rfl rfl rfl
theorem gt2_end {N : Nat} {l : List Int} (hr : ∀ x ∈ l, inR .u8 x = true) : (IntKind.wrap .i64 (3 + (IntKind.wrap .i64 (List.getD l 2 0)))).toNat = 3 + nOf 2 l := by
  have b1 := u8_at hr 1
  have b2 := u8_at hr 2
  have b3 := u8_at hr 3
  have w1 := wrapU (x := l.getD 1 0) (by omega)
  have w2 := wrapU (x := l.getD 2 0) (by omega)
  have w3 := wrapU (x := l.getD 3 0) (by omega)
  have w4 := ior88 b2 b3
  have w5 := wrapU (x := 3 + l.getD 2 0) (by omega)
  simp only [w2, w5, nOf]
  omega
theorem get2_call {N : Nat} {l : List Int} (hl : l.length = N) (hr : ∀ x ∈ l, inR .u8 x = true) (hN : N ≤ 1000000000) (hg : gd 2 N l = true) :
    ViewCall Try.prog 14 [.buf true .u8 N l] (.tuple [.int true .u8 (l.getD 0 0), .slice true 1 0 (nOf 2 l) none 1, .slice true 3 0 (N - (1 + 2 + nOf 2 l)) none 1, .int false .i64 0])
      [none, some ⟨true, .ints .u8 none (gIn 2 l)⟩, none, some ⟨true, .ints .u8 none (gTo 2 l)⟩] := by
  have ev := gt2_eval N l
  have a1 : 0 + (3 + nOf 2 l - 3) = nOf 2 l := by omega
  have a2 : 0 + (N - (3 + nOf 2 l)) = N - (3 + nOf 2 l) := by omega
  have a3 : 3 + nOf 2 l - 3 = nOf 2 l := by omega
  have a4 : List.take (N - (3 + nOf 2 l)) (List.drop (0 + (3 + nOf 2 l) * 1) l) = gTo 2 l := by
    rw [show 0 + (3 + nOf 2 l) * 1 = 3 + nOf 2 l by omega]
    exact List.take_of_length_le (by rw [List.length_drop]; omega)
  rw [gt2_end (N := N) hr, a1, a2, a3, a4] at ev
  exact @viewN_of_go _ _ _ _ _ mixed noCount (dA_ok (firH_ok 2) 7) _ _ _ (fun _ _ _ _ => LOkN.none) _ _ _ _ _ [] ev (gtD2_paid hr hN hg) rfl rfl rfl
theorem gt3_end {N : Nat} {l : List Int} (hr : ∀ x ∈ l, inR .u8 x = true) : (IntKind.wrap .i64 (4 + (ior .i64 (ishl .i64 (IntKind.wrap .i64 (List.getD l 2 0)) 8) (IntKind.wrap .i64 (List.getD l 3 0))))).toNat = 4 + nOf 3 l := by
  have b1 := u8_at hr 1
  have b2 := u8_at hr 2
  have b3 := u8_at hr 3
  have w1 := wrapU (x := l.getD 1 0) (by omega)
  have w2 := wrapU (x := l.getD 2 0) (by omega)
  have w3 := wrapU (x := l.getD 3 0) (by omega)
  have w4 := ior88 b2 b3
  have w5 := wrapU (x := 4 + (l.getD 2 0 * 256 + l.getD 3 0)) (by omega)
  simp only [w2, w3, w4, w5, nOf]
  omega
theorem get3_call {N : Nat} {l : List Int} (hl : l.length = N) (hr : ∀ x ∈ l, inR .u8 x = true) (hN : N ≤ 1000000000) (hg : gd 3 N l = true) :
    ViewCall Try.prog 14 [.buf true .u8 N l] (.tuple [.int true .u8 (l.getD 0 0), .slice true 1 0 (nOf 3 l) none 1, .slice true 3 0 (N - (1 + 3 + nOf 3 l)) none 1, .int false .i64 0])
      [none, some ⟨true, .ints .u8 none (gIn 3 l)⟩, none, some ⟨true, .ints .u8 none (gTo 3 l)⟩] := by
  have ev := gt3_eval N l
  have a1 : 0 + (4 + nOf 3 l - 4) = nOf 3 l := by omega
  have a2 : 0 + (N - (4 + nOf 3 l)) = N - (4 + nOf 3 l) := by omega
  have a3 : 4 + nOf 3 l - 4 = nOf 3 l := by omega
  have a4 : List.take (N - (4 + nOf 3 l)) (List.drop (0 + (4 + nOf 3 l) * 1) l) = gTo 3 l := by
    rw [show 0 + (4 + nOf 3 l) * 1 = 4 + nOf 3 l by omega]
    exact List.take_of_length_le (by rw [List.length_drop]; omega)
  rw [gt3_end (N := N) hr, a1, a2, a3, a4] at ev
  exact @viewN_of_go _ _ _ _ _ mixed noCount (dA_ok (firH_ok 3) 7) _ _ _ (fun _ _ _ _ => LOkN.none) _ _ _ _ _ [] ev (gtD3_paid hr hN hg) rfl rfl rfl
theorem getS_ok {j : Nat} (hj : j = 1 ∨ j = 2 ∨ j = 3) {xs : List V} {o : List Bool} {v : AV} {bs : Mem} (h : getS j xs = some (o, (v, bs))) (ho : Paid o) : ViewCall Try.prog 14 xs v bs := by
  unfold getS at h
  split at h
  · cases h
    have hg := ho _ (List.mem_cons_self ..)
    have hN := of_decide_eq_true (ho _ (List.mem_cons_of_mem _ (List.mem_cons_self ..)))
    intro ρ vs w ha hi
    obtain ⟨hl, hr⟩ := buf_arg hi 0 rfl
    rcases hj with rfl | rfl | rfl
    · exact get1_call hl hr hN hg ha hi
    · exact get2_call hl hr hN hg ha hi
    · exact get3_call hl hr hN hg ha hi
  · cases h
theorem getX_ok {xs : List V} {o : List Bool} {v : AV} {bs : Mem} (h : getX xs = some (o, (v, bs))) (ho : Paid o) : ViewCall Try.prog 14 xs v bs := by
  unfold getX at h
  split at h
  · rename_i N l
    cases h
    have hg := ho _ (List.mem_cons_self ..)
    have h1 := of_decide_eq_true (ho _ (List.mem_cons_of_mem _ (List.mem_cons_self ..)))
    have hN := of_decide_eq_true (ho _ (List.mem_cons_of_mem _ (List.mem_cons_of_mem _ (List.mem_cons_self ..))))
    intro ρ vs w ha hi
    obtain ⟨hl, hr⟩ := buf_arg hi 0 rfl
    by_cases ht : l.getD 0 0 % 32 = 31
    · have hc : ViewCall Try.prog 14 [.buf true .u8 N l] (.tuple [.int false .u8 0, .nilslice, .nilslice, .int false .i64 3]) [] :=
        @viewN_of_go _ _ _ _ _ mixed noCount (dA_ok (firX_ok _) 7) _ _ _ (fun _ _ _ _ => LOkN.none) _ _ _ _ _ [] (gx0_eval N l) (gxD0_paid hr h1 hN ht) rfl rfl rfl
      exact hc ha hi
    · have hc : ViewCall Try.prog 14 [.buf true .u8 N l] (.tuple [.int false .u8 0, .nilslice, .nilslice, .int false .i64 3]) [] :=
        @viewN_of_go _ _ _ _ _ mixed noCount (dA_ok (firX_ok _) 7) _ _ _ (fun _ _ _ _ => LOkN.none) _ _ _ _ _ [] (gx1_eval N l) (gxD1_paid hr h1 hN ht hg) rfl rfl rfl
      exact hc ha hi
  · cases h
end Go.Proofs.Ythpafpifpdeikaa
