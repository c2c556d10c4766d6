/- The program's Sum of a text: its contract. Own work. -/
import Derived.Test.YtljndahfackolaaDoorQShaG
import Derived.Test.YtljndahfackolaaDoorQShaL
import Derived.Test.YtljndahfackolaaDoorQEvLawV
set_option linter.unusedSimpArgs false
set_option linter.unusedVariables false
set_option linter.unusedSectionVars false
namespace Go.Proofs.YtljndahfackolaaDoor
open Go.Ev Go.Sh
set_option maxRecDepth 100000
theorem inR_of {l : List Int} {ρ : Nat → Loc3} {S N : Nat → Prop} {w w0 : World} {n : Nat} {x : V} (hi : Inv w0 S N ρ (getName (cMem [x, .buf true .u8 n l])) w) : l.length = n ∧ ∀ y ∈ l, inR .u8 y = true := by
  obtain ⟨cs2, t2, lo2, hi2, c1, c2, c3, c4, c5⟩ := (hi.sim.blk 1 _ rfl).ex
  exact ⟨c5.1 _ rfl, crep_all c5⟩
theorem ps256_buf (n : Nat) (l : List Int) : seeV 5 ((funcL Tryd.prog qS hS7 (fun _ _ => none) 100 27 (cArgs 0 [.pl (.int false .i64 256), .buf true .u8 n l]) (cMem [.pl (.int false .i64 256), .buf true .u8 n l])).go []) = some ([decide (0 + n ≤ n), true, true, decide (n < 9223372036854775808), all32 (wrEnd256 (wrI beg256 Z128 0 ((l.drop 0).take n) n)).1, decide (0 ≤ (wrEnd256 (wrI beg256 Z128 0 ((l.drop 0).take n) n)).2.2 ∧ (wrEnd256 (wrI beg256 Z128 0 ((l.drop 0).take n) n)).2.2 < 18446744073709551616)], .slice false 5 0 32 (some 32) 1, some (some ⟨true, .ints .u8 (some 32) (toldL 32 4 (endW 32 64 64 (wrEnd256 (wrI beg256 Z128 0 ((l.drop 0).take n) n)).1 (wrEnd256 (wrI beg256 Z128 0 ((l.drop 0).take n) n)).2.1 (wrEnd256 (wrI beg256 Z128 0 ((l.drop 0).take n) n)).2.2).1)⟩)) := by kernel_rfl
theorem ps256_nil : seeV 5 ((funcL Tryd.prog qS hS7 (fun _ _ => none) 100 27 (cArgs 0 [.pl (.int false .i64 256), .pl .nilslice]) (cMem [.pl (.int false .i64 256), .pl .nilslice])).go []) = some ([true, true], .slice false 5 0 32 (some 32) 1, some (some ⟨true, .ints .u8 (some 32) (toldL 32 4 (endW 32 64 64 beg256 Z128 0).1)⟩)) := by kernel_rfl
theorem ps256_emp : seeV 5 ((funcL Tryd.prog qS hS7 (fun _ _ => none) 100 27 (cArgs 0 [.pl (.int false .i64 256), .empty]) (cMem [.pl (.int false .i64 256), .empty])).go []) = some ([true, true], .slice false 5 0 32 (some 32) 1, some (some ⟨true, .ints .u8 (some 32) (toldL 32 4 (endW 32 64 64 beg256 Z128 0).1)⟩)) := by kernel_rfl
theorem ps384_buf (n : Nat) (l : List Int) : seeV 5 ((funcL Tryd.prog qS hS7 (fun _ _ => none) 100 27 (cArgs 0 [.pl (.int false .i64 384), .buf true .u8 n l]) (cMem [.pl (.int false .i64 384), .buf true .u8 n l])).go []) = some ([decide (0 + n ≤ n), true, true, decide (n < 9223372036854775808), all64 (wrEnd384 (wrI beg384 Z128 0 ((l.drop 0).take n) n)).1, decide (0 ≤ (wrEnd384 (wrI beg384 Z128 0 ((l.drop 0).take n) n)).2.2 ∧ (wrEnd384 (wrI beg384 Z128 0 ((l.drop 0).take n) n)).2.2 < 18446744073709551616)], .slice false 5 0 48 (some 48) 1, some (some ⟨true, .ints .u8 (some 48) (toldL 48 8 (endW 64 80 128 (wrEnd384 (wrI beg384 Z128 0 ((l.drop 0).take n) n)).1 (wrEnd384 (wrI beg384 Z128 0 ((l.drop 0).take n) n)).2.1 (wrEnd384 (wrI beg384 Z128 0 ((l.drop 0).take n) n)).2.2).1)⟩)) := by kernel_rfl
theorem ps384_nil : seeV 5 ((funcL Tryd.prog qS hS7 (fun _ _ => none) 100 27 (cArgs 0 [.pl (.int false .i64 384), .pl .nilslice]) (cMem [.pl (.int false .i64 384), .pl .nilslice])).go []) = some ([true, true], .slice false 5 0 48 (some 48) 1, some (some ⟨true, .ints .u8 (some 48) (toldL 48 8 (endW 64 80 128 beg384 Z128 0).1)⟩)) := by kernel_rfl
theorem ps384_emp : seeV 5 ((funcL Tryd.prog qS hS7 (fun _ _ => none) 100 27 (cArgs 0 [.pl (.int false .i64 384), .empty]) (cMem [.pl (.int false .i64 384), .empty])).go []) = some ([true, true], .slice false 5 0 48 (some 48) 1, some (some ⟨true, .ints .u8 (some 48) (toldL 48 8 (endW 64 80 128 beg384 Z128 0).1)⟩)) := by kernel_rfl
theorem ps512_buf (n : Nat) (l : List Int) : seeV 5 ((funcL Tryd.prog qS hS7 (fun _ _ => none) 100 27 (cArgs 0 [.pl (.int false .i64 512), .buf true .u8 n l]) (cMem [.pl (.int false .i64 512), .buf true .u8 n l])).go []) = some ([decide (0 + n ≤ n), true, true, decide (n < 9223372036854775808), all64 (wrEnd512 (wrI beg512 Z128 0 ((l.drop 0).take n) n)).1, decide (0 ≤ (wrEnd512 (wrI beg512 Z128 0 ((l.drop 0).take n) n)).2.2 ∧ (wrEnd512 (wrI beg512 Z128 0 ((l.drop 0).take n) n)).2.2 < 18446744073709551616)], .slice false 5 0 64 (some 64) 1, some (some ⟨true, .ints .u8 (some 64) (toldL 64 8 (endW 64 80 128 (wrEnd512 (wrI beg512 Z128 0 ((l.drop 0).take n) n)).1 (wrEnd512 (wrI beg512 Z128 0 ((l.drop 0).take n) n)).2.1 (wrEnd512 (wrI beg512 Z128 0 ((l.drop 0).take n) n)).2.2).1)⟩)) := by kernel_rfl
theorem ps512_nil : seeV 5 ((funcL Tryd.prog qS hS7 (fun _ _ => none) 100 27 (cArgs 0 [.pl (.int false .i64 512), .pl .nilslice]) (cMem [.pl (.int false .i64 512), .pl .nilslice])).go []) = some ([true, true], .slice false 5 0 64 (some 64) 1, some (some ⟨true, .ints .u8 (some 64) (toldL 64 8 (endW 64 80 128 beg512 Z128 0).1)⟩)) := by kernel_rfl
theorem ps512_emp : seeV 5 ((funcL Tryd.prog qS hS7 (fun _ _ => none) 100 27 (cArgs 0 [.pl (.int false .i64 512), .empty]) (cMem [.pl (.int false .i64 512), .empty])).go []) = some ([true, true], .slice false 5 0 64 (some 64) 1, some (some ⟨true, .ints .u8 (some 64) (toldL 64 8 (endW 64 80 128 beg512 Z128 0).1)⟩)) := by kernel_rfl
def proV (s : Nat) (l : List Int) : AV × Mem := (.slice false 0 0 s (some s) 1, [some ⟨true, .ints .u8 (some s) l⟩])
def proS : List V → E (AV × Mem)
  | [.pl (.int false .i64 256), .buf true .u8 n l] => some ([decide (n < 1000000000000)], proV 32 (toldL 32 4 (hashW 32 64 64 beg256 l)))
  | [.pl (.int false .i64 256), .pl .nilslice] => some ([], proV 32 (toldL 32 4 (hashW 32 64 64 beg256 [])))
  | [.pl (.int false .i64 256), .empty] => some ([], proV 32 (toldL 32 4 (hashW 32 64 64 beg256 [])))
  | [.pl (.int false .i64 384), .buf true .u8 n l] => some ([decide (n < 1000000000000)], proV 48 (toldL 48 8 (hashW 64 80 128 beg384 l)))
  | [.pl (.int false .i64 384), .pl .nilslice] => some ([], proV 48 (toldL 48 8 (hashW 64 80 128 beg384 [])))
  | [.pl (.int false .i64 384), .empty] => some ([], proV 48 (toldL 48 8 (hashW 64 80 128 beg384 [])))
  | [.pl (.int false .i64 512), .buf true .u8 n l] => some ([decide (n < 1000000000000)], proV 64 (toldL 64 8 (hashW 64 80 128 beg512 l)))
  | [.pl (.int false .i64 512), .pl .nilslice] => some ([], proV 64 (toldL 64 8 (hashW 64 80 128 beg512 [])))
  | [.pl (.int false .i64 512), .empty] => some ([], proV 64 (toldL 64 8 (hashW 64 80 128 beg512 [])))
  | _ => none
theorem pro_ok {xs : List V} {o : List Bool} {v : AV} {bs : Mem} (h : proS xs = some (o, (v, bs))) (ho : Paid o) : ViewCall Tryd.prog 27 xs v bs := by
  unfold proS at h
  split at h
  · rename_i n l
    cases h
    have o1 := of_decide_eq_true (ho _ (List.mem_cons_self ..))
    intro ρ vs w ha hi
    obtain ⟨hl, hin⟩ := inR_of hi
    obtain ⟨hA, hC⟩ := end256_ok hl
    have hs := hash_prog (w := 32) (N := 64) (B := 64) (by decide) (by decide) (v := beg256) (l := l) (by omega)
    have hw := wrEnd256_all (ws := beg256) (op := Z128) (c := 0) hl
    have hc := @viewN_one _ _ _ _ _ mixed noCount hS7_ok _ _ _ (fun fn c hf hb => LOkN.none) _ (.slice false 0 0 32 (some 32) 1) _ _ _ _ [] 5 (ps256_buf n l) (paid_cons (decide_eq_true (by omega)) (paid_cons rfl (paid_cons rfl (paid_cons (decide_eq_true (by omega)) (paid_cons hA (paid_cons hC Paid.nil)))))) (by simp) rfl rfl
    rw [hw, hs] at hc
    exact hc ha hi
  · cases h
    have hs := hash_prog (w := 32) (N := 64) (B := 64) (by decide) (by decide) (v := beg256) (l := []) (by decide)
    have hs' : (endW 32 64 64 beg256 Z128 0).1 = hashW 32 64 64 beg256 [] := hs
    have hc := @viewN_one _ _ _ _ _ mixed noCount hS7_ok _ _ _ (fun fn c hf hb => LOkN.none) _ (.slice false 0 0 32 (some 32) 1) _ _ _ _ [] 5 ps256_nil (paid_cons rfl (paid_cons rfl Paid.nil)) (by simp) rfl rfl
    rw [hs'] at hc
    exact @hc
  · cases h
    have hs := hash_prog (w := 32) (N := 64) (B := 64) (by decide) (by decide) (v := beg256) (l := []) (by decide)
    have hs' : (endW 32 64 64 beg256 Z128 0).1 = hashW 32 64 64 beg256 [] := hs
    have hc := @viewN_one _ _ _ _ _ mixed noCount hS7_ok _ _ _ (fun fn c hf hb => LOkN.none) _ (.slice false 0 0 32 (some 32) 1) _ _ _ _ [] 5 ps256_emp (paid_cons rfl (paid_cons rfl Paid.nil)) (by simp) rfl rfl
    rw [hs'] at hc
    exact @hc
  · rename_i n l
    cases h
    have o1 := of_decide_eq_true (ho _ (List.mem_cons_self ..))
    intro ρ vs w ha hi
    obtain ⟨hl, hin⟩ := inR_of hi
    obtain ⟨hA, hC⟩ := end384_ok hl
    have hs := hash_prog (w := 64) (N := 80) (B := 128) (by decide) (by decide) (v := beg384) (l := l) (by omega)
    have hw := wrEnd384_all (ws := beg384) (op := Z128) (c := 0) hl
    have hc := @viewN_one _ _ _ _ _ mixed noCount hS7_ok _ _ _ (fun fn c hf hb => LOkN.none) _ (.slice false 0 0 48 (some 48) 1) _ _ _ _ [] 5 (ps384_buf n l) (paid_cons (decide_eq_true (by omega)) (paid_cons rfl (paid_cons rfl (paid_cons (decide_eq_true (by omega)) (paid_cons hA (paid_cons hC Paid.nil)))))) (by simp) rfl rfl
    rw [hw, hs] at hc
    exact hc ha hi
  · cases h
    have hs := hash_prog (w := 64) (N := 80) (B := 128) (by decide) (by decide) (v := beg384) (l := []) (by decide)
    have hs' : (endW 64 80 128 beg384 Z128 0).1 = hashW 64 80 128 beg384 [] := hs
    have hc := @viewN_one _ _ _ _ _ mixed noCount hS7_ok _ _ _ (fun fn c hf hb => LOkN.none) _ (.slice false 0 0 48 (some 48) 1) _ _ _ _ [] 5 ps384_nil (paid_cons rfl (paid_cons rfl Paid.nil)) (by simp) rfl rfl
    rw [hs'] at hc
    exact @hc
  · cases h
    have hs := hash_prog (w := 64) (N := 80) (B := 128) (by decide) (by decide) (v := beg384) (l := []) (by decide)
    have hs' : (endW 64 80 128 beg384 Z128 0).1 = hashW 64 80 128 beg384 [] := hs
    have hc := @viewN_one _ _ _ _ _ mixed noCount hS7_ok _ _ _ (fun fn c hf hb => LOkN.none) _ (.slice false 0 0 48 (some 48) 1) _ _ _ _ [] 5 ps384_emp (paid_cons rfl (paid_cons rfl Paid.nil)) (by simp) rfl rfl
    rw [hs'] at hc
    exact @hc
  · rename_i n l
    cases h
    have o1 := of_decide_eq_true (ho _ (List.mem_cons_self ..))
    intro ρ vs w ha hi
    obtain ⟨hl, hin⟩ := inR_of hi
    obtain ⟨hA, hC⟩ := end512_ok hl
    have hs := hash_prog (w := 64) (N := 80) (B := 128) (by decide) (by decide) (v := beg512) (l := l) (by omega)
    have hw := wrEnd512_all (ws := beg512) (op := Z128) (c := 0) hl
    have hc := @viewN_one _ _ _ _ _ mixed noCount hS7_ok _ _ _ (fun fn c hf hb => LOkN.none) _ (.slice false 0 0 64 (some 64) 1) _ _ _ _ [] 5 (ps512_buf n l) (paid_cons (decide_eq_true (by omega)) (paid_cons rfl (paid_cons rfl (paid_cons (decide_eq_true (by omega)) (paid_cons hA (paid_cons hC Paid.nil)))))) (by simp) rfl rfl
    rw [hw, hs] at hc
    exact hc ha hi
  · cases h
    have hs := hash_prog (w := 64) (N := 80) (B := 128) (by decide) (by decide) (v := beg512) (l := []) (by decide)
    have hs' : (endW 64 80 128 beg512 Z128 0).1 = hashW 64 80 128 beg512 [] := hs
    have hc := @viewN_one _ _ _ _ _ mixed noCount hS7_ok _ _ _ (fun fn c hf hb => LOkN.none) _ (.slice false 0 0 64 (some 64) 1) _ _ _ _ [] 5 ps512_nil (paid_cons rfl (paid_cons rfl Paid.nil)) (by simp) rfl rfl
    rw [hs'] at hc
    exact @hc
  · cases h
    have hs := hash_prog (w := 64) (N := 80) (B := 128) (by decide) (by decide) (v := beg512) (l := []) (by decide)
    have hs' : (endW 64 80 128 beg512 Z128 0).1 = hashW 64 80 128 beg512 [] := hs
    have hc := @viewN_one _ _ _ _ _ mixed noCount hS7_ok _ _ _ (fun fn c hf hb => LOkN.none) _ (.slice false 0 0 64 (some 64) 1) _ _ _ _ [] 5 ps512_emp (paid_cons rfl (paid_cons rfl Paid.nil)) (by simp) rfl rfl
    rw [hs'] at hc
    exact @hc
  · cases h
theorem toldL_take {m n z : Nat} (h : n ≤ m) (ws : List Int) : (toldL m z ws).take n = toldL n z ws := by
  unfold toldL
  rw [← List.map_take, List.take_range, Nat.min_eq_left h]
theorem toldL_len (n z : Nat) (ws : List Int) : (toldL n z ws).length = n := by simp [toldL]
def hs9 : CallH := withV 27 proS hs8
theorem hs9_ok : HOk Tryd.prog hs9 := hs8_ok.withV fun _ _ _ _ h ho => pro_ok h ho
noncomputable def hS9 : CallH := deep Tryd.prog qS hs9 100 3
theorem hS9_ok : HOk Tryd.prog hS9 := hs9_ok.deep mixed noCount 100 3
end Go.Proofs.YtljndahfackolaaDoor
namespace Go.Proofs.YtljndahfackolaaDoor
open Go.Ev Go.Sh
set_option maxRecDepth 100000
def refO : List V → E (AV × Mem)
  | [.pl (.int true .i64 k), _] => some ([!decide (k = 256), !decide (k = 384), !decide (k = 512)], (.nilslice, []))
  | _ => none
def andM (a b : Bool) : Bool := match a with | true => b | false => false
def refOd (a b c : Bool) : List Bool := [!a || a, !a || a, !andM a b || andM a b, !andM a b || andM a b, andM (andM a b) c]
theorem refO_eval (k : Int) (x : V) : ((funcL Tryd.prog qS hR3 (fun _ _ => none) 200 15 (cArgs 0 [.pl (.int true .i64 k), x]) (cMem [.pl (.int true .i64 k), x])).go [true]).flat =
    some (refOd (k != 256) (k != 384) (k != 512), (.nilslice, cMem [.pl (.int true .i64 k), x])) := by kernel_rfl
theorem refO_ok {xs : List V} {o : List Bool} {v : AV} {bs : Mem} (h : refO xs = some (o, (v, bs))) (ho : Paid o) : ViewCall Tryd.prog 15 xs v bs := by
  unfold refO at h
  split at h
  · rename_i k x
    cases h
    have o1 := ho _ (List.mem_cons_self ..)
    have o2 := ho _ (List.mem_cons_of_mem _ (List.mem_cons_self ..))
    have o3 := ho _ (List.mem_cons_of_mem _ (List.mem_cons_of_mem _ (List.mem_cons_self ..)))
    have e1 : (k != 256) = true := by simpa using o1
    have e2 : (k != 384) = true := by simpa using o2
    have e3 : (k != 512) = true := by simpa using o3
    have ev := refO_eval k x
    rw [e1, e2, e3] at ev
    exact @viewN_of_go _ _ _ _ _ mixed noCount hR3_ok _ _ _ (fun fn c hf hb => LOkN.none) _ _ _ _ _ [true] ev (all1_paid rfl) rfl rfl rfl
  · cases h
def hs10 : CallH := withV 15 refO hs9
theorem hs10_ok : HOk Tryd.prog hs10 := hs9_ok.withV fun _ _ _ _ h ho => refO_ok h ho
noncomputable def hS10 : CallH := deep Tryd.prog qS hs10 100 3
theorem hS10_ok : HOk Tryd.prog hS10 := hs10_ok.deep mixed noCount 100 3
end Go.Proofs.YtljndahfackolaaDoor
namespace Go.Ev
set_option linter.unusedSectionVars false
variable [Tab]
open Go.ChangeShapes Go.WideShapes Go.ChangeAt Go.RowKit
section
variable {P : Program} {q : FuncId → Bool} {H : CallH} {Λ : LoopH}
theorem law_of_goN (hm : P.follows .mixedOrders = true) (hH : HOk P H) {n : Nat} {g : FuncId} {xs : List V} (hΛ : ∀ fn c, P.funcs[g]? = some fn → fn.body = some c → LOkN xs.length P c Λ) {s b : Bool} {o : List Bool} (ds : List Bool)
    (h : res ((funcL P q H Λ n g (cArgs 0 xs) (cMem xs)).go ds) = some (o, .bool s b)) (ho : Paid o) (hb : b = true) {vs : List Value} {W : World} (hv : VOks W 0 xs vs) (hw : noW xs = true := by rfl) (hT : TRep W := by first | assumption | exact fun G c h => by cases h) :
    Calls P g vs.toArray W (fun e w' => e = .returned (.bool true) ∧ Below W.heap.size W w') := by
  subst hb
  obtain ⟨ρ, ha, hi⟩ := hv.start hw hT
  have hcm : (cMem xs).length = xs.length := by simp [cMem]
  obtain ⟨_, hc⟩ := funcN_sound hm hH hΛ (Nat.le_of_eq hcm) (go_sound (sat_res h ho)) ha hi
  refine hc.mono fun e w' ⟨u, h1, x', m2, ρ', k1, k2, k3, k4, k5⟩ => ?_
  simp only at k1
  rw [k1] at k2
  cases k2
  exact ⟨h1, ⟨k3.os, k3.tape, k3.output, k3.size, fun k hk => k3.frame k hk (fun h => h)⟩⟩
end
end Go.Ev
namespace Go.Sh
open Go.Ev
/-- The first i bytes turned. -/
def xo (d : List Int) (x : Int) : Nat → List Int
  | 0 => d
  | i + 1 => (xo d x i).set (0 + i * 1) (ixor .u8 ((xo d x i).getD (0 + i * 1) 0) x)
theorem xo_len (d : List Int) (x : Int) : ∀ i, (xo d x i).length = d.length
  | 0 => rfl
  | i + 1 => by unfold xo; rw [List.length_set]; exact xo_len d x i
end Go.Sh
namespace Go.Ev
set_option linter.unusedSectionVars false
variable [Tab]
def turnC (P : Program) (q : FuncId → Bool) (H : CallH) (fuel : Nat) (g : FuncId) (ds : List Bool) (X : CallH) : CallH := fun f args m =>
  match decide (f = g) with
  | true => match ((funcA P q H fuel f args (roAll m)).go ds).flat with
    | some (o, (v, m')) => some (o, (v, m ++ onlyRw (m'.drop m.length)))
    | none => X f args m
  | false => X f args m
section
variable {P : Program} {q : FuncId → Bool} {H X : CallH}
theorem HOk.turn (hm : P.follows .mixedOrders = true) (hng : noCount P = true) (hH : HOk P H) (hX : HOk P X) (fuel : Nat) (g : FuncId) (ds : List Bool) : HOk P (turnC P q H fuel g ds X) := by
  have both : ∀ {f : FuncId} {xs : List AV} {m : Mem} {ob : List Bool} {v : AV} {m' : Mem}, turnC P q H fuel g ds X f xs m = some (ob, (v, m')) → Paid ob →
      m.length ≤ m'.length ∧ ∀ {w0 : World} {S : Nat → Prop} {ρ : Nat → Loc3} {w : World} {vs : List Value}, Reps ρ (upto m.length) xs vs → Inv w0 S (upto m.length) ρ (getName m) w →
      CallRun P f vs.toArray w (fun u w' => ∃ ρ', Rep ρ' (upto m'.length) v u ∧ Inv w0 S (upto m'.length) ρ' (getName m') w' ∧ Agr ρ ρ' (upto m.length)) := by
    intro f xs m ob v m' h ho
    have hl : (roAll m).length = m.length := by simp [roAll]
    unfold turnC at h
    split at h
    · split at h
      · rename_i o1 x m1 hflat
        cases h
        have hsat := go_sound (flat_sound hflat ho)
        refine ⟨by simp, fun {w0 S ρ w vs} ha hi => ?_⟩
        obtain ⟨hf, hc⟩ := funcA_sound hm hH hsat (w0 := w) (S := fun _ => False) (by rw [hl]; exact ha) (ro_start hi)
        refine callRun_of hng hf (hc.mono fun e w' ⟨u, h1, x', m2, ρ', k1, k2, k3, k4, k5⟩ => ⟨u, h1, ρ', ?_⟩)
        cases k1
        rw [hl] at k4 k5
        have hlen : (m ++ onlyRw (m1.drop m.length)).length = m1.length := by simp [onlyRw]; omega
        rw [hlen]
        refine ⟨k2, hi.join k3 (fun _ h => h.elim) (fun i hi => by simp [upto] at *; omega) (fun _ h => h) k4 (fun _ _ => rfl) fun k b hk => ?_, k4⟩
        rw [getName_app] at hk
        split at hk
        · exact Or.inl ⟨hk, fun h => h⟩
        · right
          obtain ⟨g1, g2⟩ := getName_onlyRw hk
          rw [getName_drop, show m.length + (k - m.length) = k by omega] at g1
          exact ⟨g1, g2⟩
      · exact ⟨hX.le h ho, fun ha hi => hX.run h ho ha hi⟩
    · exact ⟨hX.le h ho, fun ha hi => hX.run h ho ha hi⟩
  exact ⟨@fun f xs m ob v m' h ho => (both h ho).1, @fun f xs m ob v m' h ho w0 S ρ w vs ha hi => (both h ho).2 ha hi⟩
end
end Go.Ev
