/- Elements of many parts: what the law's loop comes to. Own work. -/
import Derived.Test.YthpafpifpdeikaaUDpA
set_option linter.unusedSimpArgs false
set_option linter.unusedVariables false
set_option linter.unusedSectionVars false
namespace Go.Proofs.Ythpafpifpdeikaa
open Go.Ev Go.De
set_option maxRecDepth 100000
set_option linter.unusedSimpArgs false
set_option linter.unusedVariables false
variable [RowTab]
theorem rowL_nil {i : Nat} (h : rowX i = .pl .nilslice) : rowL i = [] := by unfold rowL; rw [h]
theorem rowL_empty {i : Nat} (h : rowX i = .empty) : rowL i = [] := by unfold rowL; rw [h]
theorem rowL_buf {i m : Nat} {b : Bool} {k : IntKind} {l : List Int} (h : rowX i = .buf b k m l) : rowL i = l := by unfold rowL; rw [h]
theorem sumR_mono : ∀ {j k : Nat}, j ≤ k → sumR j ≤ sumR k
  | j, 0, h => by cases Nat.le_zero.1 h; exact Nat.le_refl _
  | j, k + 1, h => by
    by_cases e : j = k + 1
    · subst e; exact Nat.le_refl _
    · have := sumR_mono (j := j) (k := k) (by omega)
      show sumR j ≤ sumR k + (1 + (rowL k).length)
      omega
def lpF (s : lpP) (j : Nat) (b : Bool) : lpP := ⟨s.tag, s.len, s.cap, (sumR j : Int), s.len2, (j : Int), b, catR j, s.r⟩
def lpE (s : lpP) (j : Nat) : lpP := lpF s j (catR j).isEmpty
theorem lpE_of {s : lpP} {j : Nat} {b : Bool} (h : (catR j).isEmpty = b) : lpE s j = lpF s j b := by unfold lpE; rw [h]
/-- The end that is foretold: it returns; or all are counted, their bytes none or some. -/
def lpW (s : lpP) : Option Bool → Bool
  | none => decide (200000 < sumR s.len)
  | some e => decide (sumR s.len ≤ 200000 ∧ (catR s.len).isEmpty = e)
open Classical in
noncomputable def lpO (w : Option Bool) (s : lpP) : List Bool := [decide (s.cap = RowTab.cnt), decide (s.r = RowTab.r), decide (s.len ≤ RowTab.cnt), decide (s.len < 1000000000000000), decide (s.len2 = (s.len : Int)), decide (s.n = 0), decide (s.i = 0), lpW s w]
def lpFin (w : Option Bool) (s : lpP) : Bool × List (Nat × AV) × Mem := match w with
  | none => (true, [(4, .bool false true)], [none, some ⟨false, .rows RowTab.cnt RowTab.r⟩])
  | some true => (false, [(0, .int true .u8 s.tag), (1, .slice true 1 0 s.len none 1), (5, .nilslice)], [none, some ⟨false, .rows RowTab.cnt RowTab.r⟩])
  | some false => (false, [(0, .int true .u8 s.tag), (1, .slice true 1 0 s.len none 1), (5, .slice true 2 0 (catR s.len).length none 1)], [none, some ⟨false, .rows RowTab.cnt RowTab.r⟩, some ⟨true, .ints .u8 none (catR s.len)⟩])
def lpPat : List AV → Mem → Option (lpP × Nat)
  | [.int _ .u8 tag, .slice _ 1 0 len none 1, .bool false false, .nilslice, .int _ .i64 n, .slice _ 1 0 len2 none 1, .int _ .i64 k, .int _ .i64 i], none :: some ⟨false, .rows cap r⟩ :: _ => some (⟨tag, len, cap, n, k, i, true, [], r⟩, len2)
  | _, _ => none
noncomputable def lpΛ (w : Option Bool) (Λ : LoopX) : LoopX := famXH 0 37 lpTs lpPat (fun p => decide (p.2 = p.1.len) :: lpO w p.1) (fun p => lpFin w p.1) Λ
theorem lp_goT {s : lpP} {m : Mem} {tag n len2 i : Int} {b1 b2 b3 b4 b5 b6 : Bool} {j : Nat} (hm1 : m[1]? = some (some ⟨false, .rows RowTab.cnt RowTab.r⟩)) (ht : tag = s.tag) (hn : n = (sumR j : Int)) (hk : len2 = s.len2) (hi : i = (j : Int)) :
    Goes 2 (oneR 2 2) lpTs [.int b1 .u8 tag, .slice b2 1 0 s.len none 1, .bool false false, .nilslice, .int b3 .i64 n, .slice b4 1 0 s.len none 1, .int b5 .i64 len2, .int b6 .i64 i] m (zipU lpTs (lpV (lpF s j true))) (lpM (lpF s j true)) := by
  subst ht hn hk hi
  refine Goes.zip ?_ ?_ (by rfl) (oneR_fix _ _) (show 2 ≤ 2 by decide) rfl (by rfl)
  · exact .cons (.int b1 true .u8 s.tag) (.cons (.slice b2 true 1 0 s.len none none 1 (Or.inl rfl)) (.cons (.refl _) (.cons (.refl _) (.cons (.int b3 true .i64 _) (.cons (.slice b4 true 1 0 s.len none none 1 (Or.inl rfl)) (.cons (.int b5 true .i64 _) (.cons (.int b6 true .i64 _) .nil)))))))
  · exact ⟨⟨_, hm1, .refl _⟩, trivial⟩
theorem lp_goF {s : lpP} {m : Mem} {n i : Int} {j nb L : Nat} {c : List Int} (hnb : 2 ≤ nb) (hm1 : m[1]? = some (some ⟨false, .rows RowTab.cnt RowTab.r⟩)) (hmb : m[nb]? = some (some ⟨true, .ints .u8 none c⟩)) (hc : c = catR j) (hL : L = (catR j).length) (hn : n = (sumR j : Int)) (hi : i = (j : Int)) :
    Goes 2 (oneR 2 nb) lpTs [.int true .u8 s.tag, .slice true 1 0 s.len none 1, .bool false false, .slice true nb 0 L none 1, .int true .i64 n, .slice true 1 0 s.len none 1, .int true .i64 s.len2, .int true .i64 i] m (zipU lpTs (lpV (lpF s j false))) (lpM (lpF s j false)) := by
  subst hc hL hn hi
  have e2 : oneR 2 nb 2 = nb := rfl
  refine Goes.zip ?_ ?_ (oneR_inj hnb) (oneR_fix _ _) (show 2 ≤ 3 by decide) rfl (by rfl)
  · exact .cons (.refl _) (.cons (.refl _) (.cons (.refl _) (.cons (.refl _) (.cons (.refl _) (.cons (.refl _) (.cons (.refl _) (.cons (.refl _) .nil)))))))
  · exact ⟨⟨_, hm1, .refl _⟩, ⟨_, by rw [e2]; exact hmb, .refl _⟩, trivial⟩
theorem lp_goR {m : Mem} {a0 a1 a3 a4 a5 a6 a7 : AV} (hm1 : m[1]? = some (some ⟨false, .rows RowTab.cnt RowTab.r⟩)) (s : lpP) :
    Goes 2 (oneR 2 2) lpTs [a0, a1, .bool false true, a3, a4, a5, a6, a7] m (lpFin none s).2.1 (lpFin none s).2.2 := by
  refine ⟨fun p hp => ?_, ⟨⟨_, hm1, .refl _⟩, trivial⟩, (by rfl), oneR_fix _ _, (show 2 ≤ 2 by decide), rfl, (by rfl)⟩
  simp only [lpFin, List.mem_cons, List.not_mem_nil, or_false] at hp
  subst hp
  exact ⟨_, List.mem_cons_of_mem _ (List.mem_cons_of_mem _ (List.mem_cons_self ..)), .refl _⟩
theorem sum_step {j n : Nat} (h : (rowL j).length = n) (h2 : sumR j ≤ 200000) (hn : n ≤ 9000000000000000) : IntKind.wrap .i64 ((sumR j : Int) + IntKind.wrap .i64 (1 + ((n : Nat) : Int))) = (sumR (j + 1) : Int) := by
  have : sumR (j + 1) = sumR j + (1 + n) := by rw [← h]; rfl
  rw [wrap64, wrap64]
  omega
theorem lp_lok (w : Option Bool) {Λ : LoopX} (hΛ : LOkX 2 Try.prog (bodyOf Try.prog 3) Λ) : LOkX 2 Try.prog (bodyOf Try.prog 3) (lpΛ w Λ) := by
  refine famXL_ok (σ := lpP × Nat) (n := 100) (fun p => lpV p.1) (fun p => lpM p.1) (fun s s1 => s.1.len ≤ RowTab.cnt ∧ s.1.len < 1000000000000000 ∧ s.1.len2 = (s.1.len : Int) ∧ lpW s.1 w = true ∧ ∃ j : Nat, j ≤ s.1.len ∧ sumR j ≤ 200000 ∧ s1 = (lpE s.1 j, s.2)) (fun s => s.1.len - s.1.i.toNat) 1 RowTab.cnt (fun _ h => h) (fun _ h => h) (Nat.le_refl _) (fun s => by rcases s with ⟨⟨_, _, _, _, _, _, e, _, _⟩, _⟩; cases e <;> rfl) mixed hΛ (by kernel_rfl) (by kernel_rfl) (fun avs m s h ho => ?_) (fun s s1 hJ => ?_)
  · unfold lpPat at h
    split at h
    · rename_i b1 tag b2 len b3 n b4 len2 b5 k b6 i cap r rest
      cases h
      have o0 := of_decide_eq_true (ho _ (List.mem_cons_self ..))
      have o1 := of_decide_eq_true (ho _ (List.mem_cons_of_mem _ (List.mem_cons_self ..)))
      have o2 := @of_decide_eq_true _ (Classical.propDecidable _) (ho _ (List.mem_cons_of_mem _ (List.mem_cons_of_mem _ (List.mem_cons_self ..))))
      have o3 := of_decide_eq_true (ho _ (List.mem_cons_of_mem _ (List.mem_cons_of_mem _ (List.mem_cons_of_mem _ (List.mem_cons_self ..)))))
      have o4 := of_decide_eq_true (ho _ (List.mem_cons_of_mem _ (List.mem_cons_of_mem _ (List.mem_cons_of_mem _ (List.mem_cons_of_mem _ (List.mem_cons_self ..))))))
      have o5 := of_decide_eq_true (ho _ (List.mem_cons_of_mem _ (List.mem_cons_of_mem _ (List.mem_cons_of_mem _ (List.mem_cons_of_mem _ (List.mem_cons_of_mem _ (List.mem_cons_self ..)))))))
      have o6 := of_decide_eq_true (ho _ (List.mem_cons_of_mem _ (List.mem_cons_of_mem _ (List.mem_cons_of_mem _ (List.mem_cons_of_mem _ (List.mem_cons_of_mem _ (List.mem_cons_of_mem _ (List.mem_cons_self ..))))))))
      have o7 := of_decide_eq_true (ho _ (List.mem_cons_of_mem _ (List.mem_cons_of_mem _ (List.mem_cons_of_mem _ (List.mem_cons_of_mem _ (List.mem_cons_of_mem _ (List.mem_cons_of_mem _ (List.mem_cons_of_mem _ (List.mem_cons_self ..)))))))))
      have o8 := (ho _ (List.mem_cons_of_mem _ (List.mem_cons_of_mem _ (List.mem_cons_of_mem _ (List.mem_cons_of_mem _ (List.mem_cons_of_mem _ (List.mem_cons_of_mem _ (List.mem_cons_of_mem _ (List.mem_cons_of_mem _ (List.mem_cons_self ..))))))))))
      simp only at o0 o1 o2 o3 o4 o5 o6 o7
      subst o0
      subst o1 o2 o6 o7
      exact ⟨(_, _), oneR 2 2, lp_goT (s := ⟨tag, len2, RowTab.cnt, 0, k, 0, true, [], RowTab.r⟩) (j := 0) rfl rfl rfl rfl rfl, o3, o4, o5, o8, 0, Nat.zero_le _, Nat.zero_le _, rfl⟩
    · cases h
  · obtain ⟨hc, hL, hk2, hw, j, hj, hsj, rfl⟩ := hJ
    obtain ⟨s, L0⟩ := s
    simp only at hc hL hk2 hw hj
    refine ⟨qA, n0, fun _ _ => none, n0_ok, LOkX.none, ?_⟩
    by_cases hlt : j < s.len
    · refine Or.inr ⟨j, Nat.lt_of_lt_of_le hlt hc, fun hsh => ?_⟩
      have hmu : (lpE s (j + 1)).len - (lpE s (j + 1)).i.toNat < (lpE s j).len - (lpE s j).i.toNat := by show s.len - ((j + 1 : Nat) : Int).toNat < s.len - ((j : Nat) : Int).toNat; omega
      have hi1 : IntKind.wrap .i64 (((j : Nat) : Int) + 1) = ((j + 1 : Nat) : Int) := by rw [wrap64]; omega
      have hmono := sumR_mono (show j + 1 ≤ s.len from hlt)
      have hs1 : sumR (j + 1) = sumR j + (1 + (rowL j).length) := rfl
      have hcat0 : catR (j + 1) = catR j ++ rowL j := rfl
      have hrb : (reachBytes : Nat) = 140737488351232 := rfl
      rcases hsh with hx | hx | ⟨m, l, hx, h1, h2, hlm, _⟩
      · rw [hx]
        have hr := rowL_nil hx
        have hln : (rowL j).length = 0 := by rw [hr]; rfl
        have hst := sum_step hln hsj (by omega)
        have hcat : catR (j + 1) = catR j ++ [] := by rw [hcat0, hr]
        rcases he : (catR j).isEmpty with _ | _
        · rw [lpE_of he]
          by_cases hover : sumR (j + 1) ≤ 200000
          · have hJ2 := (⟨hc, hL, hk2, hw, j + 1, hlt, hover, rfl⟩ : s.len ≤ RowTab.cnt ∧ s.len < 1000000000000000 ∧ s.len2 = (s.len : Int) ∧ lpW s w = true ∧ ∃ i : Nat, i ≤ s.len ∧ sumR i ≤ 200000 ∧ ((lpE s (j + 1), L0) : lpP × Nat) = (lpE s i, L0))
            have hz : (catR (j + 1)).isEmpty = false := by rw [hcat]; cases hq : catR j with
                  | nil => rw [hq] at he; simp at he
                  | cons x l => simp
            exact Or.inl ⟨[true, false], _, _, _, _, (lpE s (j + 1), L0), oneR 2 4, lpfno_eval (lpF s j false) j, lpfno_paid hk2 hc hL rfl hlt rfl hsj (catR_len j) (by omega), rfl, by rw [lpE_of hz]; exact lp_goF (nb := 4) (by decide) rfl rfl (by rw [List.drop_zero, List.take_of_length_le (Nat.le_refl _)]; exact hcat.symm) (by rw [hcat, List.length_append]; rfl) (by rw [show (1 : Int) + 0 = 1 + ((0 : Nat) : Int) from rfl]; exact hst) hi1, hJ2, hmu⟩
          · cases w with
            | some e => exact absurd (of_decide_eq_true hw).1 (by omega)
            | none => exact Or.inr ⟨[true, true], _, _, _, _, oneR 2 2, lpfnr_eval (lpF s j false) j, lpfnr_paid hk2 hc hL rfl hlt rfl hsj (catR_len j) (by omega), rfl, lp_goR rfl s⟩
        · rw [lpE_of he]
          by_cases hover : sumR (j + 1) ≤ 200000
          · have hJ2 := (⟨hc, hL, hk2, hw, j + 1, hlt, hover, rfl⟩ : s.len ≤ RowTab.cnt ∧ s.len < 1000000000000000 ∧ s.len2 = (s.len : Int) ∧ lpW s w = true ∧ ∃ i : Nat, i ≤ s.len ∧ sumR i ≤ 200000 ∧ ((lpE s (j + 1), L0) : lpP × Nat) = (lpE s i, L0))
            have hz : (catR (j + 1)).isEmpty = true := by rw [hcat, List.append_nil]; exact he
            exact Or.inl ⟨[true, false], _, _, _, _, (lpE s (j + 1), L0), oneR 2 2, lptno_eval (lpF s j true) j, lptno_paid hk2 hc hL rfl hlt rfl hsj (catR_len j) (by omega), rfl, by rw [lpE_of hz]; exact lp_goT rfl rfl (by rw [show (1 : Int) + 0 = 1 + ((0 : Nat) : Int) from rfl]; exact hst) rfl hi1, hJ2, hmu⟩
          · cases w with
            | some e => exact absurd (of_decide_eq_true hw).1 (by omega)
            | none => exact Or.inr ⟨[true, true], _, _, _, _, oneR 2 2, lptnr_eval (lpF s j true) j, lptnr_paid hk2 hc hL rfl hlt rfl hsj (catR_len j) (by omega), rfl, lp_goR rfl s⟩
      · rw [hx]
        have hr := rowL_empty hx
        have hln : (rowL j).length = 0 := by rw [hr]; rfl
        have hst := sum_step hln hsj (by omega)
        have hcat : catR (j + 1) = catR j ++ [] := by rw [hcat0, hr]
        rcases he : (catR j).isEmpty with _ | _
        · rw [lpE_of he]
          by_cases hover : sumR (j + 1) ≤ 200000
          · have hJ2 := (⟨hc, hL, hk2, hw, j + 1, hlt, hover, rfl⟩ : s.len ≤ RowTab.cnt ∧ s.len < 1000000000000000 ∧ s.len2 = (s.len : Int) ∧ lpW s w = true ∧ ∃ i : Nat, i ≤ s.len ∧ sumR i ≤ 200000 ∧ ((lpE s (j + 1), L0) : lpP × Nat) = (lpE s i, L0))
            have hz : (catR (j + 1)).isEmpty = false := by rw [hcat]; cases hq : catR j with
                  | nil => rw [hq] at he; simp at he
                  | cons x l => simp
            exact Or.inl ⟨[true, false], _, _, _, _, (lpE s (j + 1), L0), oneR 2 4, lpfeo_eval (lpF s j false) j, lpfeo_paid hk2 hc hL rfl hlt rfl hsj (catR_len j) (by omega), rfl, by rw [lpE_of hz]; exact lp_goF (nb := 4) (by decide) rfl rfl (by rw [List.drop_zero, List.take_of_length_le (Nat.le_refl _)]; exact hcat.symm) (by rw [hcat, List.length_append]; rfl) hst hi1, hJ2, hmu⟩
          · cases w with
            | some e => exact absurd (of_decide_eq_true hw).1 (by omega)
            | none => exact Or.inr ⟨[true, true], _, _, _, _, oneR 2 2, lpfer_eval (lpF s j false) j, lpfer_paid hk2 hc hL rfl hlt rfl hsj (catR_len j) (by omega), rfl, lp_goR rfl s⟩
        · rw [lpE_of he]
          by_cases hover : sumR (j + 1) ≤ 200000
          · have hJ2 := (⟨hc, hL, hk2, hw, j + 1, hlt, hover, rfl⟩ : s.len ≤ RowTab.cnt ∧ s.len < 1000000000000000 ∧ s.len2 = (s.len : Int) ∧ lpW s w = true ∧ ∃ i : Nat, i ≤ s.len ∧ sumR i ≤ 200000 ∧ ((lpE s (j + 1), L0) : lpP × Nat) = (lpE s i, L0))
            have hz : (catR (j + 1)).isEmpty = true := by rw [hcat, List.append_nil]; exact he
            exact Or.inl ⟨[true, false], _, _, _, _, (lpE s (j + 1), L0), oneR 2 2, lpteo_eval (lpF s j true) j, lpteo_paid hk2 hc hL rfl hlt rfl hsj (catR_len j) (by omega), rfl, by rw [lpE_of hz]; exact lp_goT rfl rfl hst rfl hi1, hJ2, hmu⟩
          · cases w with
            | some e => exact absurd (of_decide_eq_true hw).1 (by omega)
            | none => exact Or.inr ⟨[true, true], _, _, _, _, oneR 2 2, lpter_eval (lpF s j true) j, lpter_paid hk2 hc hL rfl hlt rfl hsj (catR_len j) (by omega), rfl, lp_goR rfl s⟩
      · rw [hx]
        have hr := rowL_buf hx
        have hln : (rowL j).length = m := by rw [hr]; exact hlm
        have hst := sum_step hln hsj (by omega)
        have hcat : catR (j + 1) = catR j ++ l := by rw [hcat0, hr]
        rcases he : (catR j).isEmpty with _ | _
        · rw [lpE_of he]
          by_cases hover : sumR (j + 1) ≤ 200000
          · have hJ2 := (⟨hc, hL, hk2, hw, j + 1, hlt, hover, rfl⟩ : s.len ≤ RowTab.cnt ∧ s.len < 1000000000000000 ∧ s.len2 = (s.len : Int) ∧ lpW s w = true ∧ ∃ i : Nat, i ≤ s.len ∧ sumR i ≤ 200000 ∧ ((lpE s (j + 1), L0) : lpP × Nat) = (lpE s i, L0))
            have hz : (catR (j + 1)).isEmpty = false := by rw [hcat]; cases hq : catR j with
                  | nil => rw [hq] at he; simp at he
                  | cons x l => simp
            exact Or.inl ⟨[true, false], _, _, _, _, (lpE s (j + 1), L0), oneR 2 4, lpfbo_eval (lpF s j false) j m l, lpfbo_paid hlm h1 hk2 hc hL rfl hlt rfl hsj (catR_len j) (by omega) (by omega), rfl, by rw [lpE_of hz]; exact lp_goF (nb := 4) (by decide) rfl rfl (by rw [List.drop_zero, List.take_of_length_le (Nat.le_refl _), List.drop_zero, List.take_of_length_le (by omega)]; exact hcat.symm) (by rw [hcat, List.length_append]; exact (congrArg _ hlm).symm) hst hi1, hJ2, hmu⟩
          · cases w with
            | some e => exact absurd (of_decide_eq_true hw).1 (by omega)
            | none => exact Or.inr ⟨[true, true], _, _, _, _, oneR 2 2, lpfbr_eval (lpF s j false) j m l, lpfbr_paid hlm h1 hk2 hc hL rfl hlt rfl hsj (catR_len j) (by omega) (by omega), rfl, lp_goR rfl s⟩
        · rw [lpE_of he]
          by_cases hover : sumR (j + 1) ≤ 200000
          · have hJ2 := (⟨hc, hL, hk2, hw, j + 1, hlt, hover, rfl⟩ : s.len ≤ RowTab.cnt ∧ s.len < 1000000000000000 ∧ s.len2 = (s.len : Int) ∧ lpW s w = true ∧ ∃ i : Nat, i ≤ s.len ∧ sumR i ≤ 200000 ∧ ((lpE s (j + 1), L0) : lpP × Nat) = (lpE s i, L0))
            have hz : (catR (j + 1)).isEmpty = false := by rw [hcat]; cases l with
                  | nil => simp at hlm; omega
                  | cons x l => simp
            have hcat : catR (j + 1) = l := by rw [hcat, List.isEmpty_iff.1 he]; rfl
            exact Or.inl ⟨[true, false], _, _, _, _, (lpE s (j + 1), L0), oneR 2 3, lptbo_eval (lpF s j true) j m l, lptbo_paid hlm h1 hk2 hc hL rfl hlt rfl hsj (catR_len j) (by omega) (by omega), rfl, by rw [lpE_of hz]; exact lp_goF (nb := 3) (by decide) rfl rfl (by rw [List.drop_zero, List.take_of_length_le (by omega)]; exact hcat.symm) (by rw [hcat]; exact hlm.symm) hst hi1, hJ2, hmu⟩
          · cases w with
            | some e => exact absurd (of_decide_eq_true hw).1 (by omega)
            | none => exact Or.inr ⟨[true, true], _, _, _, _, oneR 2 2, lptbr_eval (lpF s j true) j m l, lptbr_paid hlm h1 hk2 hc hL rfl hlt rfl hsj (catR_len j) (by omega) (by omega), rfl, lp_goR rfl s⟩
    · have ej : j = s.len := by omega
      subst ej
      refine Or.inl ?_
      cases w with
      | none => exact absurd (of_decide_eq_true hw) (by omega)
      | some e =>
        have he := (of_decide_eq_true hw).2
        rw [lpE_of he]
        cases e with
        | true =>
          refine RoundX.out (lptx_eval (lpF s s.len true)) rfl (oneR 2 2) (paid_cons (by simp only [Bool.not_eq_true', decide_eq_false_iff_not]; show ¬ ((s.len : Nat) : Int) < s.len2; omega) fun _ h => by cases h) ?_
          have hg := lp_goT (s := s) (j := s.len) (m := lpM (lpF s s.len true)) (b1 := true) (b2 := true) (b3 := true) (b4 := true) (b5 := true) (b6 := true) rfl rfl rfl rfl rfl
          refine ⟨fun p hp => hg.slots p ?_, hg.pulls, hg.inj, hg.fix, hg.le, hg.bm, (by rfl)⟩
          simp only [lpFin, List.mem_cons, List.not_mem_nil, or_false] at hp
          rcases hp with rfl | rfl | rfl <;> simp [zipU, lpTs, lpV, lpF, lpA]
        | false =>
          refine RoundX.out (lpfx_eval (lpF s s.len false)) rfl (oneR 2 2) (paid_cons (by simp only [Bool.not_eq_true', decide_eq_false_iff_not]; show ¬ ((s.len : Nat) : Int) < s.len2; omega) fun _ h => by cases h) ?_
          have hg := lp_goF (s := s) (j := s.len) (nb := 2) (m := lpM (lpF s s.len false)) (by decide) rfl rfl rfl rfl rfl rfl
          refine ⟨fun p hp => hg.slots p ?_, hg.pulls, hg.inj, hg.fix, hg.le, hg.bm, (by rfl)⟩
          simp only [lpFin, List.mem_cons, List.not_mem_nil, or_false] at hp
          rcases hp with rfl | rfl | rfl <;> simp [zipU, lpTs, lpV, lpF, lpA]
end Go.Proofs.Ythpafpifpdeikaa
