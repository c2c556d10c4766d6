/- Elements of many parts: the law. Own work. -/
import Derived.Test.YthpafpifpdeikaaUDpE
set_option linter.unusedSimpArgs false
set_option linter.unusedVariables false
set_option linter.unusedSectionVars false
namespace Go.Proofs.Ythpafpifpdeikaa
open Go.Ev Go.De
open Go.ChangeShapes Go.WideShapes Go.ChangeAt Go.RowKit
set_option maxRecDepth 100000
set_option linter.unusedSimpArgs false
set_option linter.unusedVariables false
section
variable [RowTab]
noncomputable def ldO (w : Option Bool) (t : Int) (len cap : Nat) (r : Nat → Value) : List Bool := decide (len < 9223372036854775808) :: decide (len = len) :: lpO w (⟨t, len, cap, 0, (len : Int), 0, true, [], r⟩ : lpP)
noncomputable def ldP (w : Bool) (len : Nat) : List Bool := [decide (RowTab.cnt = RowTab.cnt), @decide (RowTab.r = RowTab.r) (Classical.propDecidable _), decide (len ≤ RowTab.cnt), decide (len < 1000000000000000), decide (decide (65535 < (catR len).length) = w)]
theorem ldO_paid {w : Option Bool} {t : Int} {len : Nat} (hc : len ≤ RowTab.cnt) (hL : len < 1000000000000000) (hw : lpW (⟨t, len, RowTab.cnt, 0, (len : Int), 0, true, [], RowTab.r⟩ : lpP) w = true) : Paid (ldO w t len RowTab.cnt RowTab.r) := by
  unfold ldO lpO
  exact paid_cons (decide_eq_true (by omega)) (paid_cons (decide_eq_true rfl) (paid_cons (decide_eq_true rfl) (paid_cons (@decide_eq_true _ (Classical.propDecidable _) rfl) (paid_cons (decide_eq_true hc) (paid_cons (decide_eq_true hL) (paid_cons (decide_eq_true rfl) (paid_cons (decide_eq_true rfl) (paid_cons (decide_eq_true rfl) (paid_cons hw fun _ h => by cases h)))))))))
theorem ldP_paid {w : Bool} {len : Nat} (hc : len ≤ RowTab.cnt) (hL : len < 1000000000000000) (hw : decide (65535 < (catR len).length) = w) : Paid (ldP w len) := by
  unfold ldP
  exact paid_cons (decide_eq_true rfl) (paid_cons (@decide_eq_true _ (Classical.propDecidable _) rfl) (paid_cons (decide_eq_true hc) (paid_cons (decide_eq_true hL) (paid_cons (decide_eq_true hw) fun _ h => by cases h))))
theorem ldo_eval (t : Int) (len cap : Nat) (r : Nat → Value) : res ((funcX Try.prog qA (dA (hS (n0)) 7) (lpΛ none fun _ _ => none) 100 3 (cArgs 0 [.pl (.int true .u8 t), .lol true len cap r]) (cMem [.pl (.int true .u8 t), .lol true len cap r])).go []) = some (ldO none t len cap r ++ [], .bool false true) := by kernel_rfl
theorem lde_eval (t : Int) (len cap : Nat) (r : Nat → Value) : res ((funcX Try.prog qA (dA (hS (hPt false n0)) 7) (lpΛ (some true) fun _ _ => none) 100 3 (cArgs 0 [.pl (.int true .u8 t), .lol true len cap r]) (cMem [.pl (.int true .u8 t), .lol true len cap r])).go []) = some (ldO (some true) t len cap r ++ (ldP false len ++ [decide (0 + (putB t (catR len)).length ≤ (putB t (catR len)).length)]), .bool true (decide (List.take (putB t (catR len)).length (List.drop 0 (putB t (catR len))) = ([t] ++ [0]) ++ []))) := by kernel_rfl
theorem ldt_eval (t : Int) (len cap : Nat) (r : Nat → Value) : res ((funcX Try.prog qA (dA (hS (hPt true (hRq true n0))) 7) (lpΛ (some false) fun _ _ => none) 100 3 (cArgs 0 [.pl (.int true .u8 t), .lol true len cap r]) (cMem [.pl (.int true .u8 t), .lol true len cap r])).go []) = some (ldO (some false) t len cap r ++ (ldP true len ++ [decide (0 + (catR len).length ≤ (catR len).length), decide (decide (65535 < (catR len).length) = true), decide ((catR len).length < 9223372036854775808)]), .bool false true) := by kernel_rfl
theorem ldf_eval (t : Int) (len cap : Nat) (r : Nat → Value) : res ((funcX Try.prog qA (dA (hS (hPt false (hRq false n0))) 7) (lpΛ (some false) fun _ _ => none) 100 3 (cArgs 0 [.pl (.int true .u8 t), .lol true len cap r]) (cMem [.pl (.int true .u8 t), .lol true len cap r])).go []) = some (ldO (some false) t len cap r ++ (ldP false len ++ [decide (0 + (putB t (catR len)).length ≤ (putB t (catR len)).length), decide (0 + (catR len).length ≤ (catR len).length), decide (decide (65535 < (catR len).length) = false), decide ((catR len).length < 9223372036854775808), decide (0 + (putB t (List.take (catR len).length (List.drop 0 (catR len)))).length ≤ (putB t (List.take (catR len).length (List.drop 0 (catR len)))).length)]), .bool true (decide (List.take (putB t (catR len)).length (List.drop 0 (putB t (catR len))) = List.take (putB t (List.take (catR len).length (List.drop 0 (catR len)))).length (List.drop 0 (putB t (List.take (catR len).length (List.drop 0 (catR len)))))))) := by kernel_rfl
theorem ldn_eval (t : Int) : res ((funcX Try.prog qA (dA (hS (n0)) 7) (fun _ _ => none) 100 3 (cArgs 0 [.pl (.int true .u8 t), .pl .nilslice]) (cMem [.pl (.int true .u8 t), .pl .nilslice])).go []) = some ([], .bool true (decide ([t] ++ [0] = ([t] ++ [0]) ++ []))) := by kernel_rfl
theorem ldm_eval (t : Int) : res ((funcX Try.prog qA (dA (hS (n0)) 7) (fun _ _ => none) 100 3 (cArgs 0 [.pl (.int true .u8 t), .empty]) (cMem [.pl (.int true .u8 t), .empty])).go []) = some ([], .bool true (decide ([t] ++ [0] = ([t] ++ [0]) ++ []))) := by kernel_rfl
theorem lp_law (w : Option Bool) : ∀ fn c, Try.prog.funcs[3]? = some fn → fn.body = some c → LOkX 2 Try.prog c (lpΛ w fun _ _ => none) := fun fn c hf hb => by rw [bodyOf_eq hf hb]; exact lp_lok w LOkX.none
theorem law_rows {W : World} {tag : Int} (ht : inR .u8 tag = true) {v : Value} {len : Nat} (hT : TRep W) (hl : len ≤ RowTab.cnt) (hL : len < 1000000000000000) (g : ∃ L, VOk W 1 L (.lol true len RowTab.cnt RowTab.r) v) : Calls Try.prog 3 #[.int .u8 tag, v] W (fun e w' => e = .returned (.bool true) ∧ Below W.heap.size W w') := by
  have go : ∀ {w : Option Bool} {X : CallH} (hX : HOk Try.prog X) {o : List Bool} {s b : Bool}, res ((funcX Try.prog qA (dA (hS X) 7) (lpΛ w fun _ _ => none) 100 3 (cArgs 0 [.pl (.int true .u8 tag), .lol true len RowTab.cnt RowTab.r]) (cMem [.pl (.int true .u8 tag), .lol true len RowTab.cnt RowTab.r])).go []) = some (o, .bool s b) → Paid o → b = true → Calls Try.prog 3 #[.int .u8 tag, v] W (fun e w' => e = .returned (.bool true) ∧ Below W.heap.size W w') := fun {w X} hX _ _ _ ev po hb =>
    law_of_goX (xs := [.pl (.int true .u8 tag), .lol true len RowTab.cnt RowTab.r]) (vs := [.int .u8 tag, v]) (avs := [.int .u8 tag, v]) mixed (dA_ok (hS_ok hX) 7) (lp_law w) [] ev po hb (.cons _ _ _ _ _ (VOk.plain fun ρ N => .int _ _ _ ht) (.cons _ _ _ _ _ g (.nil _))) (fun _ _ hr => hr) rfl hT
  by_cases hs : 200000 < sumR len
  · exact go n0_ok (ldo_eval tag len RowTab.cnt RowTab.r) (paid_app (ldO_paid hl hL (decide_eq_true hs)) fun _ h => by cases h) rfl
  have hcl := catR_len len
  have hs2 : sumR len ≤ 200000 := by omega
  by_cases he : (catR len).isEmpty = true
  · have hn := List.isEmpty_iff.1 he
    have h0 : (catR len).length = 0 := by rw [hn]; rfl
    refine go (hPt_ok n0_ok) (lde_eval tag len RowTab.cnt RowTab.r) (paid_app (ldO_paid hl hL (decide_eq_true ⟨hs2, he⟩)) (paid_app (ldP_paid hl hL (decide_eq_false (by omega))) (paid_cons (decide_eq_true (by omega)) fun _ h => by cases h))) (decide_eq_true ?_)
    rw [hn]
    rfl
  have he : (catR len).isEmpty = false := by simpa using he
  by_cases hb : 65535 < (catR len).length
  · exact go (hPt_ok (hRq_ok n0_ok)) (ldt_eval tag len RowTab.cnt RowTab.r) (paid_app (ldO_paid hl hL (decide_eq_true ⟨hs2, he⟩)) (paid_app (ldP_paid hl hL (decide_eq_true hb)) (paid_cons (decide_eq_true (by omega)) (paid_cons (decide_eq_true (decide_eq_true hb)) (paid_cons (decide_eq_true (by omega)) fun _ h => by cases h))))) rfl
  · refine go (hPt_ok (hRq_ok n0_ok)) (ldf_eval tag len RowTab.cnt RowTab.r) (paid_app (ldO_paid hl hL (decide_eq_true ⟨hs2, he⟩)) (paid_app (ldP_paid hl hL (decide_eq_false hb)) (paid_cons (decide_eq_true (by omega)) (paid_cons (decide_eq_true (by omega)) (paid_cons (decide_eq_true (decide_eq_false hb)) (paid_cons (decide_eq_true (by omega)) (paid_cons (decide_eq_true (by omega)) fun _ h => by cases h))))))) (decide_eq_true ?_)
    rw [show List.take (catR len).length (List.drop 0 (catR len)) = catR len by rw [List.drop_zero]; exact List.take_of_length_le (Nat.le_refl _)]
end
theorem derPuts_calls {W0 : World} {tag : Int} (ht : inR .u8 tag = true) {v : Value} (hv : v = .slice none 0 0 ∨ ∃ (a : Addr) (len cap : Nat) (r : Nat → Value) (z : Nat → List Int), v = .slice (some a) len cap ∧ len ≤ cap ∧ cap ≤ reachBytes ∧ ∀ i, i < cap → W0.cell? (a.add i) = some (r i) ∧ RowV W0 .u8 (r i) (z i)) (W : World) (hW : W0 = W := by rfl) : Calls Try.prog 3 #[.int .u8 tag, v] W (fun e w' => e = .returned (.bool true) ∧ Below W.heap.size W w') := by
  subst hW
  have hrb : (reachBytes : Nat) = 140737488351232 := rfl
  rcases hv with rfl | ⟨a, len, cap, r, z, rfl, h1, h2, h3⟩
  · letI : RowTab := ⟨0, fun _ => .slice none 0 0, fun _ => []⟩
    have hT : TRep W0 := ⟨fun G c h => (by cases h), fun i hi => absurd hi (Nat.not_lt_zero _)⟩
    exact law_of_goX (xs := [.pl (.int true .u8 tag), .pl .nilslice]) (vs := [.int .u8 tag, .slice none 0 0]) (avs := [.int .u8 tag, .slice none 0 0]) mixed (dA_ok (hS_ok n0_ok) 7) (fun _ _ _ _ => LOkX.none) [] (ldn_eval tag) (fun _ h => by cases h) (decide_eq_true (by simp)) (.cons _ _ _ _ _ (VOk.plain fun ρ N => .int _ _ _ ht) (.cons _ _ _ _ _ ⟨⟨0, 0, 0⟩, ⟨fun ρ N _ _ => .nilslice, fun b hb => by cases hb⟩⟩ (.nil _))) (fun _ _ hr => hr) rfl hT
  · by_cases h0 : cap = 0
    · subst h0
      cases Nat.le_zero.1 h1
      letI : RowTab := ⟨0, fun _ => .slice none 0 0, fun _ => []⟩
      have hT : TRep W0 := ⟨fun G c h => (by cases h), fun i hi => absurd hi (Nat.not_lt_zero _)⟩
      exact law_of_goX (xs := [.pl (.int true .u8 tag), .empty]) (vs := [.int .u8 tag, .slice (some a) 0 0]) (avs := [.int .u8 tag, .slice (some a) 0 0]) mixed (dA_ok (hS_ok n0_ok) 7) (fun _ _ _ _ => LOkX.none) [] (ldm_eval tag) (fun _ h => by cases h) (decide_eq_true (by simp)) (.cons _ _ _ _ _ (VOk.plain fun ρ N => .int _ _ _ ht) (.cons _ _ _ _ _ VOk.empty (.nil _))) (fun _ _ hr => hr) rfl hT
    · letI : RowTab := ⟨cap, r, z⟩
      have hT : TRep W0 := ⟨fun G c h => (by cases h), fun i hi => (h3 i hi).2⟩
      exact law_rows ht hT h1 (show len < 1000000000000000 by omega) (VOk.lists (j := 1) true h1 (Nat.pos_of_ne_zero h0) fun i hi => (h3 i hi).1)
end Go.Proofs.Ythpafpifpdeikaa
