/- The reference's block cipher: the substitutions, and their table. Own work. -/
import Derived.Test.YtclkicobnmjpoaaAesS
namespace Go.As
open Go.Ev Go.Sh
def subY (x : Int) : Int := ixor .i64 (ixor .i64 (ixor .i64 (ixor .i64 (ixor .i64 x (IntKind.i64.wrap ((ishl .i64 x 1).tmod 256 + ishr .i64 x (IntKind.i64.wrap (8 - 1))))) (IntKind.i64.wrap ((ishl .i64 x (IntKind.i64.wrap (1 + 1))).tmod 256 + ishr .i64 x (IntKind.i64.wrap (8 - (IntKind.i64.wrap (1 + 1))))))) (IntKind.i64.wrap ((ishl .i64 x (IntKind.i64.wrap (IntKind.i64.wrap (1 + 1) + 1))).tmod 256 + ishr .i64 x (IntKind.i64.wrap (8 - (IntKind.i64.wrap (IntKind.i64.wrap (1 + 1) + 1))))))) (IntKind.i64.wrap ((ishl .i64 x (IntKind.i64.wrap (IntKind.i64.wrap (IntKind.i64.wrap (1 + 1) + 1) + 1))).tmod 256 + ishr .i64 x (IntKind.i64.wrap (8 - (IntKind.i64.wrap (IntKind.i64.wrap (IntKind.i64.wrap (1 + 1) + 1) + 1))))))) 99
theorem sub_tab : (List.range 256).all (fun n => decide (subY (pw (n : Int) 254) = sb (n : Int))) = true := by kernel_rfl
theorem sub_eq {a : Int} (ha : B8 a) : subY (pw a 254) = sb a := by
  have h := byte_all sub_tab ha
  simp only [decide_eq_true_eq] at h
  rwa [b8_nat ha] at h
def tabL (i : Nat) : List Int := (List.range i).map (fun j : Nat => sb (j : Int)) ++ List.replicate (256 - i) 0
theorem tab_set {i : Nat} (h : i < 256) : (tabL i).set i (sb (i : Int)) = tabL (i + 1) := by
  unfold tabL
  rw [List.set_append_right _ _ (by simp), List.range_succ, List.map_append]
  simp only [List.length_map, List.length_range, Nat.sub_self, List.map_cons, List.map_nil, List.append_assoc]
  congr 1
  rw [show 256 - i = (256 - (i + 1)) + 1 by omega, List.replicate_succ]
  rfl
theorem tab_end : tabL 256 = sboxL := by kernel_rfl
structure TbS where
  z : List Int
  l : List Int
  i : Int
end Go.As
namespace Go.Proofs.Ytclkicobnmjpoaa
open Go.Ev Go.Sh Go.As
set_option maxRecDepth 100000
def subS : List V → E (AV × Mem)
  | [.pl (.int _ .i64 a)] => some ([decide (0 ≤ a ∧ a < 256)], (.int true .i64 (sb a), []))
  | _ => none
theorem sub_eval (s : Bool) (a : Int) : res (funcA Try.prog qP (deep Try.prog qP hr2 100 3) 100 23 (cArgs 0 [.pl (.int s .i64 a)]) (cMem [.pl (.int s .i64 a)])) = some ([decide (0 ≤ a ∧ a < 256), true], .int true .i64 (subY (pw a 254))) := by kernel_rfl
theorem sub_ok {xs : List V} {o : List Bool} {v : AV} {bs : Mem} (h : subS xs = some (o, (v, bs))) (ho : Paid o) : ViewCall Try.prog 23 xs v bs := by
  unfold subS at h
  split at h
  · rename_i s a
    cases h
    have o1 := ho _ (List.mem_cons_self ..)
    intro ρ vs w ha hi
    exact view_of_res mixed noCount (hr2_ok.deep mixed noCount 100 3) (sub_eval s a) (paid_cons o1 (paid_cons rfl Paid.nil)) (by rw [sub_eq (of_decide_eq_true o1 : 0 ≤ a ∧ a < 256)]) (by rfl) ha hi
  · cases h
def hr3 : CallH := withV 23 subS hr2
theorem hr3_ok : HOk Try.prog hr3 := hr2_ok.withV fun _ _ _ _ h ho => sub_ok h ho
-- the table
def tbTs : List Nat := [0, 1, 2]
def tbV (s : TbS) : List AV := [.ptr false 0 0, .ptr false 1 0, .int true .i64 s.i]
def tbM (s : TbS) : Mem := [some ⟨true, .ints .i64 (some 256) s.z⟩, some ⟨true, .ints .i64 (some 256) s.l⟩]
def tbP : List AV → Mem → Option TbS
  | [.ptr false 0 0, .ptr false 1 0, .int _ .i64 i], [some ⟨true, .ints .i64 (some 256) z⟩, some ⟨true, .ints .i64 (some 256) l⟩] => some ⟨z, l, i⟩
  | _, _ => none
theorem tb_t (x : Nat → AV) (s : TbS) : seesL tbTs ((codeL Try.prog qP (deep Try.prog qP hr3 100 3) (fun _ _ => none) 100 (lp (blk 0 (bodyOf Try.prog 15))) ⟨tmOf (ups x (zipU tbTs (tbV s))) 12, tbM s⟩).go [true]) = some ([decide (s.i < 256), decide (0 ≤ s.i ∧ s.i < 256), decide (0 ≤ s.i) && decide (s.i < ((256 : Nat) : Int)), decide (0 + s.i.toNat * 1 + 1 ≤ 256)], 0, tbV { s with i := IntKind.i64.wrap (s.i + 1) }, 12, tbM { s with l := s.l.set (0 + s.i.toNat * 1) (sb s.i) }) := by kernel_rfl
theorem tb_f (x : Nat → AV) (s : TbS) : seesL tbTs ((codeL Try.prog qP (deep Try.prog qP hr3 100 3) (fun _ _ => none) 100 (lp (blk 0 (bodyOf Try.prog 15))) ⟨tmOf (ups x (zipU tbTs (tbV s))) 12, tbM s⟩).go [false]) = some ([!decide (s.i < 256)], 2, tbV s, 12, tbM s) := by kernel_rfl
def tbO (s : TbS) : List Bool := [decide (s.i = 0), decide (s.l = tabL 0)]
def tbF (s : TbS) : List (Nat × AV) × Mem := ([(0, .ptr false 0 0), (1, .ptr false 1 0)], tbM { s with l := sboxL })
def tbΛ : LoopH := famH 0 12 tbTs tbP tbO tbF fun _ _ => none
theorem tb_lok : LOk Try.prog (bodyOf Try.prog 15) tbΛ := by
  refine fam_ok (q := qP) (n := 100) tbV tbM (fun s0 s => s.z = s0.z ∧ ∃ k : Nat, k ≤ 256 ∧ s.i = k ∧ s.l = tabL k) (fun s => 256 - s.i.toNat) mixed (hr3_ok.deep (q := qP) mixed noCount 100 3) LOk.none LOk.none (by kernel_rfl) (by kernel_rfl) (fun s => rfl) (fun s => rfl) (fun avs m s h ho => ?_) (fun s0 s hJ x => ?_)
  · unfold tbP at h
    split at h
    · rename_i s1 i z l
      cases h
      have o1 := of_decide_eq_true (ho _ (List.mem_cons_self ..))
      have o2 := of_decide_eq_true (ho _ (List.mem_cons_of_mem _ (List.mem_cons_self ..)))
      exact ⟨⟨z, l, i⟩, .cons (.refl _) (.cons (.refl _) (.cons (.int _ _ _) .nil)), rfl, rfl, 0, by omega, o1, o2⟩
    · cases h
  · obtain ⟨hz, k, hk, hi, hl⟩ := hJ
    obtain ⟨z, l, i⟩ := s
    obtain ⟨z0, l0, i0⟩ := s0
    simp only at hz hi hl
    subst hz hi hl
    by_cases hend : k = 256
    · subst hend
      refine Round.out (tb_f x _) rfl (by simp only [tbF, tbM, tab_end]) (paid_cons (by simp) Paid.nil) fun p hp => ?_
      simp only [tbF, List.mem_cons, List.not_mem_nil, or_false] at hp
      rcases hp with rfl | rfl
      · exact ⟨_, by simp [tbTs, tbV, zipU], Le1.refl _⟩
      · exact ⟨_, by simp [tbTs, tbV, zipU], Le1.refl _⟩
    · have e1 : IntKind.i64.wrap ((k : Int) + 1) = ((k + 1 : Nat) : Int) := by rw [w64i (by omega)]; omega
      refine Round.on (tb_t x ⟨z, tabL k, k⟩) ⟨z, tabL (k + 1), ((k + 1 : Nat) : Int)⟩ [] ?_ ?_ (by simp only [e1]; exact LeL.refl _) ⟨rfl, k + 1, by omega, rfl, rfl⟩ rfl (by simp only; omega)
      · simp only [Int.toNat_natCast, Nat.mul_one, Nat.zero_add, tab_set (show k < 256 by omega)]
        rfl
      · exact paid_cons (decide_eq_true (by simp only; omega)) (paid_cons (decide_eq_true (by simp only; omega)) (paid_cons (by simp; omega) (paid_cons (decide_eq_true (by simp only; omega)) Paid.nil)))
def tabS : List V → E (AV × Mem)
  | [] => some ([], (.ints .i64 256 sboxL, []))
  | _ => none
theorem tab_eval : res ((funcL Try.prog qP (deep Try.prog qP hr3 100 3) tbΛ 100 15 [] []).go []) = some ([decide ((0 : Int) = 0), decide (tabL 0 = tabL 0)], .ints .i64 256 sboxL) := by kernel_rfl
theorem tab_ok {xs : List V} {o : List Bool} {v : AV} {bs : Mem} (h : tabS xs = some (o, (v, bs))) (ho : Paid o) : ViewCall Try.prog 15 xs v bs := by
  unfold tabS at h
  split at h
  · cases h
    intro ρ vs w ha hi
    exact view_of_evalL mixed noCount (hr3_ok.deep (q := qP) mixed noCount 100 3) (fun fn c hf hb => by rw [bodyOf_eq hf hb]; exact tb_lok) (by rfl) (go_sound (sat_eq tab_eval (paid_cons rfl (paid_cons (decide_eq_true rfl) Paid.nil)) rfl (by rfl))) ha hi
  · cases h
def hr4 : CallH := withV 15 tabS hr3
theorem hr4_ok : HOk Try.prog hr4 := hr3_ok.withV fun _ _ _ _ h ho => tab_ok h ho
end Go.Proofs.Ytclkicobnmjpoaa
