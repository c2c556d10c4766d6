/- The program's Sum of a text: its contract. Own work. -/
import Derived.Test.YtjhjhhibfojpiaaDoorVShaG
set_option linter.unusedSimpArgs false
set_option linter.unusedVariables false
set_option linter.unusedSectionVars false
namespace Go.Proofs.YtjhjhhibfojpiaaDoor
variable [Go.Ev.RowTab]
open Go.Ev Go.Sh
set_option maxRecDepth 100000
theorem inR_of {l : List Int} {ρ : Nat → Loc3} {S N : Nat → Prop} {w w0 : World} {n : Nat} {x : V} (hi : Inv w0 S N ρ (getName (cMem [x, .buf true .u8 n l])) w) : l.length = n ∧ ∀ y ∈ l, inR .u8 y = true := by
  obtain ⟨cs2, t2, lo2, hi2, c1, c2, c3, c4, c5⟩ := (hi.sim.blk 1 _ rfl).ex
  exact ⟨c5.1 _ rfl, crep_all c5⟩
theorem ps256_buf (n : Nat) (l : List Int) : seeV 5 ((funcL Tryd.prog qS hS7 (fun _ _ => none) 100 26 (cArgs 0 [.pl (.int false .i64 256), .buf true .u8 n l]) (cMem [.pl (.int false .i64 256), .buf true .u8 n l])).go []) = some ([decide (0 + n ≤ n), true, true, decide (n < 9223372036854775808), all32 (wrEnd256 (wrI beg256 Z128 0 ((l.drop 0).take n) n)).1, decide (0 ≤ (wrEnd256 (wrI beg256 Z128 0 ((l.drop 0).take n) n)).2.2 ∧ (wrEnd256 (wrI beg256 Z128 0 ((l.drop 0).take n) n)).2.2 < 18446744073709551616)], .slice false 5 0 32 (some 32) 1, some (some ⟨true, .ints .u8 (some 32) (toldL 32 4 (endW 32 64 64 (wrEnd256 (wrI beg256 Z128 0 ((l.drop 0).take n) n)).1 (wrEnd256 (wrI beg256 Z128 0 ((l.drop 0).take n) n)).2.1 (wrEnd256 (wrI beg256 Z128 0 ((l.drop 0).take n) n)).2.2).1)⟩)) := by kernel_rfl
theorem ps256_nil : seeV 5 ((funcL Tryd.prog qS hS7 (fun _ _ => none) 100 26 (cArgs 0 [.pl (.int false .i64 256), .pl .nilslice]) (cMem [.pl (.int false .i64 256), .pl .nilslice])).go []) = some ([true, true], .slice false 5 0 32 (some 32) 1, some (some ⟨true, .ints .u8 (some 32) (toldL 32 4 (endW 32 64 64 beg256 Z128 0).1)⟩)) := by kernel_rfl
theorem ps256_emp : seeV 5 ((funcL Tryd.prog qS hS7 (fun _ _ => none) 100 26 (cArgs 0 [.pl (.int false .i64 256), .empty]) (cMem [.pl (.int false .i64 256), .empty])).go []) = some ([true, true], .slice false 5 0 32 (some 32) 1, some (some ⟨true, .ints .u8 (some 32) (toldL 32 4 (endW 32 64 64 beg256 Z128 0).1)⟩)) := by kernel_rfl
theorem ps384_buf (n : Nat) (l : List Int) : seeV 5 ((funcL Tryd.prog qS hS7 (fun _ _ => none) 100 26 (cArgs 0 [.pl (.int false .i64 384), .buf true .u8 n l]) (cMem [.pl (.int false .i64 384), .buf true .u8 n l])).go []) = some ([decide (0 + n ≤ n), true, true, decide (n < 9223372036854775808), all64 (wrEnd384 (wrI beg384 Z128 0 ((l.drop 0).take n) n)).1, decide (0 ≤ (wrEnd384 (wrI beg384 Z128 0 ((l.drop 0).take n) n)).2.2 ∧ (wrEnd384 (wrI beg384 Z128 0 ((l.drop 0).take n) n)).2.2 < 18446744073709551616)], .slice false 5 0 48 (some 48) 1, some (some ⟨true, .ints .u8 (some 48) (toldL 48 8 (endW 64 80 128 (wrEnd384 (wrI beg384 Z128 0 ((l.drop 0).take n) n)).1 (wrEnd384 (wrI beg384 Z128 0 ((l.drop 0).take n) n)).2.1 (wrEnd384 (wrI beg384 Z128 0 ((l.drop 0).take n) n)).2.2).1)⟩)) := by kernel_rfl
theorem ps384_nil : seeV 5 ((funcL Tryd.prog qS hS7 (fun _ _ => none) 100 26 (cArgs 0 [.pl (.int false .i64 384), .pl .nilslice]) (cMem [.pl (.int false .i64 384), .pl .nilslice])).go []) = some ([true, true], .slice false 5 0 48 (some 48) 1, some (some ⟨true, .ints .u8 (some 48) (toldL 48 8 (endW 64 80 128 beg384 Z128 0).1)⟩)) := by kernel_rfl
theorem ps384_emp : seeV 5 ((funcL Tryd.prog qS hS7 (fun _ _ => none) 100 26 (cArgs 0 [.pl (.int false .i64 384), .empty]) (cMem [.pl (.int false .i64 384), .empty])).go []) = some ([true, true], .slice false 5 0 48 (some 48) 1, some (some ⟨true, .ints .u8 (some 48) (toldL 48 8 (endW 64 80 128 beg384 Z128 0).1)⟩)) := by kernel_rfl
theorem ps512_buf (n : Nat) (l : List Int) : seeV 5 ((funcL Tryd.prog qS hS7 (fun _ _ => none) 100 26 (cArgs 0 [.pl (.int false .i64 512), .buf true .u8 n l]) (cMem [.pl (.int false .i64 512), .buf true .u8 n l])).go []) = some ([decide (0 + n ≤ n), true, true, decide (n < 9223372036854775808), all64 (wrEnd512 (wrI beg512 Z128 0 ((l.drop 0).take n) n)).1, decide (0 ≤ (wrEnd512 (wrI beg512 Z128 0 ((l.drop 0).take n) n)).2.2 ∧ (wrEnd512 (wrI beg512 Z128 0 ((l.drop 0).take n) n)).2.2 < 18446744073709551616)], .slice false 5 0 64 (some 64) 1, some (some ⟨true, .ints .u8 (some 64) (toldL 64 8 (endW 64 80 128 (wrEnd512 (wrI beg512 Z128 0 ((l.drop 0).take n) n)).1 (wrEnd512 (wrI beg512 Z128 0 ((l.drop 0).take n) n)).2.1 (wrEnd512 (wrI beg512 Z128 0 ((l.drop 0).take n) n)).2.2).1)⟩)) := by kernel_rfl
theorem ps512_nil : seeV 5 ((funcL Tryd.prog qS hS7 (fun _ _ => none) 100 26 (cArgs 0 [.pl (.int false .i64 512), .pl .nilslice]) (cMem [.pl (.int false .i64 512), .pl .nilslice])).go []) = some ([true, true], .slice false 5 0 64 (some 64) 1, some (some ⟨true, .ints .u8 (some 64) (toldL 64 8 (endW 64 80 128 beg512 Z128 0).1)⟩)) := by kernel_rfl
theorem ps512_emp : seeV 5 ((funcL Tryd.prog qS hS7 (fun _ _ => none) 100 26 (cArgs 0 [.pl (.int false .i64 512), .empty]) (cMem [.pl (.int false .i64 512), .empty])).go []) = some ([true, true], .slice false 5 0 64 (some 64) 1, some (some ⟨true, .ints .u8 (some 64) (toldL 64 8 (endW 64 80 128 beg512 Z128 0).1)⟩)) := by kernel_rfl
def proV (s : Nat) (l : List Int) : AV × Mem := (.slice false 0 0 s (some s) 1, [some ⟨true, .ints .u8 (some s) l⟩])
def proS : List V → E (AV × Mem)
  | [.pl (.int false .i64 256), .buf true .u8 n l] => some ([decide (n < 1000000000000)], proV 32 (toldL 32 4 (hashW 32 64 64 beg256 l)))
  | [.pl (.int false .i64 256), .pl .nilslice] => some ([], proV 32 (toldL 32 4 (hashW 32 64 64 beg256 [])))
  | [.pl (.int false .i64 256), .empty] => some ([], proV 32 (toldL 32 4 (hashW 32 64 64 beg256 [])))
  | [.pl (.int false .i64 384), .buf true .u8 n l] => some ([decide (n < 1000000000000)], proV 48 (toldL 48 8 (hashW 64 80 128 beg384 l)))
  | [.pl (.int false .i64 384), .pl .nilslice] => some ([], proV 48 (toldL 48 8 (hashW 64 80 128 beg384 [])))
  | [.pl (.int false .i64 384), .empty] => some ([], proV 48 (toldL 48 8 (hashW 64 80 128 beg384 [])))
  | [.pl (.int false .i64 512), .buf true .u8 n l] => some ([decide (n < 1000000000000)], proV 64 (toldL 64 8 (hashW 64 80 128 beg512 l)))
  | [.pl (.int false .i64 512), .pl .nilslice] => some ([], proV 64 (toldL 64 8 (hashW 64 80 128 beg512 [])))
  | [.pl (.int false .i64 512), .empty] => some ([], proV 64 (toldL 64 8 (hashW 64 80 128 beg512 [])))
  | _ => none
theorem pro_ok {xs : List V} {o : List Bool} {v : AV} {bs : Mem} (h : proS xs = some (o, (v, bs))) (ho : Paid o) : ViewCall Tryd.prog 26 xs v bs := by
  unfold proS at h
  split at h
  · rename_i n l
    cases h
    have o1 := of_decide_eq_true (ho _ (List.mem_cons_self ..))
    intro ρ vs w ha hi
    obtain ⟨hl, hin⟩ := inR_of hi
    obtain ⟨hA, hC⟩ := end256_ok hl
    have hs := hash_prog (w := 32) (N := 64) (B := 64) (by decide) (by decide) (v := beg256) (l := l) (by omega)
    have hw := wrEnd256_all (ws := beg256) (op := Z128) (c := 0) hl
    have hc := @viewN_one _ _ _ _ _ mixed noCount hS7_ok _ _ _ (fun fn c hf hb => LOkN.none) _ (.slice false 0 0 32 (some 32) 1) _ _ _ _ [] 5 (ps256_buf n l) (paid_cons (decide_eq_true (by omega)) (paid_cons rfl (paid_cons rfl (paid_cons (decide_eq_true (by omega)) (paid_cons hA (paid_cons hC Paid.nil)))))) (by simp) rfl rfl
    rw [hw, hs] at hc
    exact hc ha hi
  · cases h
    have hs := hash_prog (w := 32) (N := 64) (B := 64) (by decide) (by decide) (v := beg256) (l := []) (by decide)
    have hs' : (endW 32 64 64 beg256 Z128 0).1 = hashW 32 64 64 beg256 [] := hs
    have hc := @viewN_one _ _ _ _ _ mixed noCount hS7_ok _ _ _ (fun fn c hf hb => LOkN.none) _ (.slice false 0 0 32 (some 32) 1) _ _ _ _ [] 5 ps256_nil (paid_cons rfl (paid_cons rfl Paid.nil)) (by simp) rfl rfl
    rw [hs'] at hc
    exact @hc
  · cases h
    have hs := hash_prog (w := 32) (N := 64) (B := 64) (by decide) (by decide) (v := beg256) (l := []) (by decide)
    have hs' : (endW 32 64 64 beg256 Z128 0).1 = hashW 32 64 64 beg256 [] := hs
    have hc := @viewN_one _ _ _ _ _ mixed noCount hS7_ok _ _ _ (fun fn c hf hb => LOkN.none) _ (.slice false 0 0 32 (some 32) 1) _ _ _ _ [] 5 ps256_emp (paid_cons rfl (paid_cons rfl Paid.nil)) (by simp) rfl rfl
    rw [hs'] at hc
    exact @hc
  · rename_i n l
    cases h
    have o1 := of_decide_eq_true (ho _ (List.mem_cons_self ..))
    intro ρ vs w ha hi
    obtain ⟨hl, hin⟩ := inR_of hi
    obtain ⟨hA, hC⟩ := end384_ok hl
    have hs := hash_prog (w := 64) (N := 80) (B := 128) (by decide) (by decide) (v := beg384) (l := l) (by omega)
    have hw := wrEnd384_all (ws := beg384) (op := Z128) (c := 0) hl
    have hc := @viewN_one _ _ _ _ _ mixed noCount hS7_ok _ _ _ (fun fn c hf hb => LOkN.none) _ (.slice false 0 0 48 (some 48) 1) _ _ _ _ [] 5 (ps384_buf n l) (paid_cons (decide_eq_true (by omega)) (paid_cons rfl (paid_cons rfl (paid_cons (decide_eq_true (by omega)) (paid_cons hA (paid_cons hC Paid.nil)))))) (by simp) rfl rfl
    rw [hw, hs] at hc
    exact hc ha hi
  · cases h
    have hs := hash_prog (w := 64) (N := 80) (B := 128) (by decide) (by decide) (v := beg384) (l := []) (by decide)
    have hs' : (endW 64 80 128 beg384 Z128 0).1 = hashW 64 80 128 beg384 [] := hs
    have hc := @viewN_one _ _ _ _ _ mixed noCount hS7_ok _ _ _ (fun fn c hf hb => LOkN.none) _ (.slice false 0 0 48 (some 48) 1) _ _ _ _ [] 5 ps384_nil (paid_cons rfl (paid_cons rfl Paid.nil)) (by simp) rfl rfl
    rw [hs'] at hc
    exact @hc
  · cases h
    have hs := hash_prog (w := 64) (N := 80) (B := 128) (by decide) (by decide) (v := beg384) (l := []) (by decide)
    have hs' : (endW 64 80 128 beg384 Z128 0).1 = hashW 64 80 128 beg384 [] := hs
    have hc := @viewN_one _ _ _ _ _ mixed noCount hS7_ok _ _ _ (fun fn c hf hb => LOkN.none) _ (.slice false 0 0 48 (some 48) 1) _ _ _ _ [] 5 ps384_emp (paid_cons rfl (paid_cons rfl Paid.nil)) (by simp) rfl rfl
    rw [hs'] at hc
    exact @hc
  · rename_i n l
    cases h
    have o1 := of_decide_eq_true (ho _ (List.mem_cons_self ..))
    intro ρ vs w ha hi
    obtain ⟨hl, hin⟩ := inR_of hi
    obtain ⟨hA, hC⟩ := end512_ok hl
    have hs := hash_prog (w := 64) (N := 80) (B := 128) (by decide) (by decide) (v := beg512) (l := l) (by omega)
    have hw := wrEnd512_all (ws := beg512) (op := Z128) (c := 0) hl
    have hc := @viewN_one _ _ _ _ _ mixed noCount hS7_ok _ _ _ (fun fn c hf hb => LOkN.none) _ (.slice false 0 0 64 (some 64) 1) _ _ _ _ [] 5 (ps512_buf n l) (paid_cons (decide_eq_true (by omega)) (paid_cons rfl (paid_cons rfl (paid_cons (decide_eq_true (by omega)) (paid_cons hA (paid_cons hC Paid.nil)))))) (by simp) rfl rfl
    rw [hw, hs] at hc
    exact hc ha hi
  · cases h
    have hs := hash_prog (w := 64) (N := 80) (B := 128) (by decide) (by decide) (v := beg512) (l := []) (by decide)
    have hs' : (endW 64 80 128 beg512 Z128 0).1 = hashW 64 80 128 beg512 [] := hs
    have hc := @viewN_one _ _ _ _ _ mixed noCount hS7_ok _ _ _ (fun fn c hf hb => LOkN.none) _ (.slice false 0 0 64 (some 64) 1) _ _ _ _ [] 5 ps512_nil (paid_cons rfl (paid_cons rfl Paid.nil)) (by simp) rfl rfl
    rw [hs'] at hc
    exact @hc
  · cases h
    have hs := hash_prog (w := 64) (N := 80) (B := 128) (by decide) (by decide) (v := beg512) (l := []) (by decide)
    have hs' : (endW 64 80 128 beg512 Z128 0).1 = hashW 64 80 128 beg512 [] := hs
    have hc := @viewN_one _ _ _ _ _ mixed noCount hS7_ok _ _ _ (fun fn c hf hb => LOkN.none) _ (.slice false 0 0 64 (some 64) 1) _ _ _ _ [] 5 ps512_emp (paid_cons rfl (paid_cons rfl Paid.nil)) (by simp) rfl rfl
    rw [hs'] at hc
    exact @hc
  · cases h
theorem toldL_take {m n z : Nat} (h : n ≤ m) (ws : List Int) : (toldL m z ws).take n = toldL n z ws := by
  unfold toldL
  rw [← List.map_take, List.take_range, Nat.min_eq_left h]
def hs9 : CallH := withV 26 proS hs8
theorem hs9_ok : HOk Tryd.prog hs9 := hs8_ok.withV fun _ _ _ _ h ho => pro_ok h ho
end Go.Proofs.YtjhjhhibfojpiaaDoor
