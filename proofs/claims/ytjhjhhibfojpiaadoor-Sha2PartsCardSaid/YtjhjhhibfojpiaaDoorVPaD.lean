/- Hashes of what is written in pieces: the law. Own work. -/
import Derived.Test.YtjhjhhibfojpiaaDoorVPaB256
import Derived.Test.YtjhjhhibfojpiaaDoorVPaB384
import Derived.Test.YtjhjhhibfojpiaaDoorVPaB512
set_option linter.unusedSimpArgs false
set_option linter.unusedVariables false
set_option linter.unusedSectionVars false
namespace Go.Proofs.YtjhjhhibfojpiaaDoor
open Go.Ev Go.Sh
open Go.ChangeShapes Go.WideShapes Go.ChangeAt Go.RowKit
set_option maxRecDepth 100000
set_option linter.unusedSimpArgs false
set_option linter.unusedVariables false
theorem paid_app : ∀ {a b : List Bool}, Paid a → Paid b → Paid (a ++ b)
  | _, _, h1, h2 => fun x hx => by
    rcases List.mem_append.1 hx with h | h
    · exact h1 x h
    · exact h2 x h
section
variable [RowTab]
noncomputable def p1O (w kb : Bool) (k : Int) (len cap : Nat) (r : Nat → Value) : List Bool := decide (len < 9223372036854775808) :: decide (len = len) :: pnO w ⟨kb, k, len, cap, 0, (len : Int), 0, r⟩
theorem p1O_paid {w kb : Bool} {k : Int} {len : Nat} (hc : len ≤ RowTab.cnt) (hL : len < 1000000000000000) (hw : decide (3000 < sumR len) = w) : Paid (p1O w kb k len RowTab.cnt RowTab.r) := by
  unfold p1O pnO
  exact paid_cons (decide_eq_true (by omega)) (paid_cons (decide_eq_true rfl) (paid_cons (decide_eq_true rfl) (paid_cons (@decide_eq_true _ (Classical.propDecidable _) rfl) (paid_cons (decide_eq_true hc) (paid_cons (decide_eq_true hL) (paid_cons (decide_eq_true rfl) (paid_cons (decide_eq_true rfl) (paid_cons (decide_eq_true rfl) (paid_cons (decide_eq_true hw) fun _ h => by cases h)))))))))
def kO (k : Int) : List Bool := [!decide (k = 256), !decide (k = 384), !decide (k = 512), !decide (k = 256), !decide (k = 384), !decide (k = 512), !decide (k = 256), !decide (k = 384), !decide (k = 512)]
theorem kO_paid {k : Int} (h1 : k ≠ 256) (h2 : k ≠ 384) (h3 : k ≠ 512) : Paid (kO k) := by
  have d1 : (!decide (k = 256)) = true := by rw [decide_eq_false h1]; rfl
  have d2 : (!decide (k = 384)) = true := by rw [decide_eq_false h2]; rfl
  have d3 : (!decide (k = 512)) = true := by rw [decide_eq_false h3]; rfl
  exact paid_cons d1 (paid_cons d2 (paid_cons d3 (paid_cons d1 (paid_cons d2 (paid_cons d3 (paid_cons d1 (paid_cons d2 (paid_cons d3 fun _ h => by cases h))))))))
noncomputable def p2O256 (len : Nat) : List Bool := decide (len < 9223372036854775808) :: decide (len = len) :: pp256O ⟨len, RowTab.cnt, (len : Int), 0, true, [], beg256, Z128, false, 0, RowTab.r⟩
theorem p2O256_paid {len : Nat} (hc : len ≤ RowTab.cnt) (hL : len < 1000000000000000) (hw : sumR len ≤ 3000) : Paid (p2O256 len) := by
  unfold p2O256 pp256O
  exact paid_cons (decide_eq_true (by omega)) (paid_cons (decide_eq_true rfl) (paid_cons (decide_eq_true rfl) (paid_cons (@decide_eq_true _ (Classical.propDecidable _) rfl) (paid_cons (decide_eq_true hc) (paid_cons (decide_eq_true hL) (paid_cons (decide_eq_true rfl) (paid_cons (decide_eq_true rfl) (paid_cons (decide_eq_true rfl) (paid_cons (decide_eq_true rfl) (paid_cons (decide_eq_true rfl) (paid_cons (decide_eq_true hw) fun _ h => by cases h)))))))))))
theorem pl256_eval (len cap : Nat) (r : Nat → Value) : res ((funcX Tryd.prog qZ hS10 (pp256Λ (pnΛ false fun _ _ => none)) 100 3 (cArgs 0 [.pl (.int false .i64 256), .lol true len cap r]) (cMem [.pl (.int false .i64 256), .lol true len cap r])).go []) = some (p1O false false 256 len cap r ++ p2O256 len, .bool false true) := by kernel_rfl
theorem pm256_eval : res ((funcX Tryd.prog qZ hS10 (fun _ _ => none) 100 3 (cArgs 0 [.pl (.int false .i64 256), .pl .nilslice]) (cMem [.pl (.int false .i64 256), .pl .nilslice])).go []) = some ([], .bool false true) := by kernel_rfl
theorem pq256_eval : res ((funcX Tryd.prog qZ hS10 (fun _ _ => none) 100 3 (cArgs 0 [.pl (.int false .i64 256), .empty]) (cMem [.pl (.int false .i64 256), .empty])).go []) = some ([], .bool false true) := by kernel_rfl
theorem lokK256 : ∀ fn c, Tryd.prog.funcs[3]? = some fn → fn.body = some c → LOkX 2 Tryd.prog c (pp256Λ (pnΛ false fun _ _ => none)) := fun fn c hf hb => by rw [bodyOf_eq hf hb]; exact pp256_lok (pn_lok false LOkX.none)
noncomputable def p2O384 (len : Nat) : List Bool := decide (len < 9223372036854775808) :: decide (len = len) :: pp384O ⟨len, RowTab.cnt, (len : Int), 0, true, [], beg384, Z128, false, 0, RowTab.r⟩
theorem p2O384_paid {len : Nat} (hc : len ≤ RowTab.cnt) (hL : len < 1000000000000000) (hw : sumR len ≤ 3000) : Paid (p2O384 len) := by
  unfold p2O384 pp384O
  exact paid_cons (decide_eq_true (by omega)) (paid_cons (decide_eq_true rfl) (paid_cons (decide_eq_true rfl) (paid_cons (@decide_eq_true _ (Classical.propDecidable _) rfl) (paid_cons (decide_eq_true hc) (paid_cons (decide_eq_true hL) (paid_cons (decide_eq_true rfl) (paid_cons (decide_eq_true rfl) (paid_cons (decide_eq_true rfl) (paid_cons (decide_eq_true rfl) (paid_cons (decide_eq_true rfl) (paid_cons (decide_eq_true hw) fun _ h => by cases h)))))))))))
theorem pl384_eval (len cap : Nat) (r : Nat → Value) : res ((funcX Tryd.prog qZ hS10 (pp384Λ (pnΛ false fun _ _ => none)) 100 3 (cArgs 0 [.pl (.int false .i64 384), .lol true len cap r]) (cMem [.pl (.int false .i64 384), .lol true len cap r])).go []) = some (p1O false false 384 len cap r ++ p2O384 len, .bool false true) := by kernel_rfl
theorem pm384_eval : res ((funcX Tryd.prog qZ hS10 (fun _ _ => none) 100 3 (cArgs 0 [.pl (.int false .i64 384), .pl .nilslice]) (cMem [.pl (.int false .i64 384), .pl .nilslice])).go []) = some ([], .bool false true) := by kernel_rfl
theorem pq384_eval : res ((funcX Tryd.prog qZ hS10 (fun _ _ => none) 100 3 (cArgs 0 [.pl (.int false .i64 384), .empty]) (cMem [.pl (.int false .i64 384), .empty])).go []) = some ([], .bool false true) := by kernel_rfl
theorem lokK384 : ∀ fn c, Tryd.prog.funcs[3]? = some fn → fn.body = some c → LOkX 2 Tryd.prog c (pp384Λ (pnΛ false fun _ _ => none)) := fun fn c hf hb => by rw [bodyOf_eq hf hb]; exact pp384_lok (pn_lok false LOkX.none)
noncomputable def p2O512 (len : Nat) : List Bool := decide (len < 9223372036854775808) :: decide (len = len) :: pp512O ⟨len, RowTab.cnt, (len : Int), 0, true, [], beg512, Z128, false, 0, RowTab.r⟩
theorem p2O512_paid {len : Nat} (hc : len ≤ RowTab.cnt) (hL : len < 1000000000000000) (hw : sumR len ≤ 3000) : Paid (p2O512 len) := by
  unfold p2O512 pp512O
  exact paid_cons (decide_eq_true (by omega)) (paid_cons (decide_eq_true rfl) (paid_cons (decide_eq_true rfl) (paid_cons (@decide_eq_true _ (Classical.propDecidable _) rfl) (paid_cons (decide_eq_true hc) (paid_cons (decide_eq_true hL) (paid_cons (decide_eq_true rfl) (paid_cons (decide_eq_true rfl) (paid_cons (decide_eq_true rfl) (paid_cons (decide_eq_true rfl) (paid_cons (decide_eq_true rfl) (paid_cons (decide_eq_true hw) fun _ h => by cases h)))))))))))
theorem pl512_eval (len cap : Nat) (r : Nat → Value) : res ((funcX Tryd.prog qZ hS10 (pp512Λ (pnΛ false fun _ _ => none)) 100 3 (cArgs 0 [.pl (.int false .i64 512), .lol true len cap r]) (cMem [.pl (.int false .i64 512), .lol true len cap r])).go []) = some (p1O false false 512 len cap r ++ p2O512 len, .bool false true) := by kernel_rfl
theorem pm512_eval : res ((funcX Tryd.prog qZ hS10 (fun _ _ => none) 100 3 (cArgs 0 [.pl (.int false .i64 512), .pl .nilslice]) (cMem [.pl (.int false .i64 512), .pl .nilslice])).go []) = some ([], .bool false true) := by kernel_rfl
theorem pq512_eval : res ((funcX Tryd.prog qZ hS10 (fun _ _ => none) 100 3 (cArgs 0 [.pl (.int false .i64 512), .empty]) (cMem [.pl (.int false .i64 512), .empty])).go []) = some ([], .bool false true) := by kernel_rfl
theorem lokK512 : ∀ fn c, Tryd.prog.funcs[3]? = some fn → fn.body = some c → LOkX 2 Tryd.prog c (pp512Λ (pnΛ false fun _ _ => none)) := fun fn c hf hb => by rw [bodyOf_eq hf hb]; exact pp512_lok (pn_lok false LOkX.none)
theorem plx_eval (len cap : Nat) (r : Nat → Value) (kb : Bool) (k : Int) : res ((funcX Tryd.prog qZ hS10 (pnΛ true fun _ _ => none) 100 3 (cArgs 0 [.pl (.int kb .i64 k), .lol true len cap r]) (cMem [.pl (.int kb .i64 k), .lol true len cap r])).go []) = some (p1O true kb k len cap r ++ [], .bool false true) := by kernel_rfl
theorem plo_eval (len cap : Nat) (r : Nat → Value) (k : Int) : res ((funcX Tryd.prog qZ hS10 (pnΛ false fun _ _ => none) 100 3 (cArgs 0 [.pl (.int true .i64 k), .lol true len cap r]) (cMem [.pl (.int true .i64 k), .lol true len cap r])).go []) = some (p1O false true k len cap r ++ kO k, .bool false true) := by kernel_rfl
theorem pmo_eval (k : Int) : res ((funcX Tryd.prog qZ hS10 (fun _ _ => none) 100 3 (cArgs 0 [.pl (.int true .i64 k), .pl .nilslice]) (cMem [.pl (.int true .i64 k), .pl .nilslice])).go []) = some (kO k, .bool false true) := by kernel_rfl
theorem pqo_eval (k : Int) : res ((funcX Tryd.prog qZ hS10 (fun _ _ => none) 100 3 (cArgs 0 [.pl (.int true .i64 k), .empty]) (cMem [.pl (.int true .i64 k), .empty])).go []) = some (kO k, .bool false true) := by kernel_rfl
theorem lokN (w : Bool) : ∀ fn c, Tryd.prog.funcs[3]? = some fn → fn.body = some c → LOkX 2 Tryd.prog c (pnΛ w fun _ _ => none) := fun fn c hf hb => by rw [bodyOf_eq hf hb]; exact pn_lok w LOkX.none
theorem parts_run {W : World} (hT : TRep W) {k : Int} (hk : inR .i64 k = true) {v : Value} {x : V} (hv : ∃ L, VOk W 1 L x v) {kb : Bool} {Λ : LoopX} (hΛ : ∀ fn c, Tryd.prog.funcs[3]? = some fn → fn.body = some c → LOkX 2 Tryd.prog c Λ) {o : List Bool} (ev : res ((funcX Tryd.prog qZ hS10 Λ 100 3 (cArgs 0 [.pl (.int kb .i64 k), x]) (cMem [.pl (.int kb .i64 k), x])).go []) = some (o, .bool false true)) (po : Paid o) (hn : noW [V.pl (.int kb .i64 k), x] = true := by rfl) :
    Calls Tryd.prog 3 #[.int .i64 k, v] W (fun e w' => e = .returned (.bool true) ∧ Below W.heap.size W w') :=
  law_of_goX (xs := [.pl (.int kb .i64 k), x]) (vs := [.int .i64 k, v]) (avs := [.int .i64 k, v]) mixed hS10_ok hΛ [] ev po rfl (.cons _ _ _ _ _ (VOk.plain fun ρ N => .int _ _ _ hk) (.cons _ _ _ _ _ hv (.nil _))) (fun _ _ hr => hr) hn hT
theorem parts_rows {W : World} (hT : TRep W) {k : Int} (hk : inR .i64 k = true) {v : Value} {len : Nat} (hl : len ≤ RowTab.cnt) (hL : len < 1000000000000000) (g : ∃ L, VOk W 1 L (.lol true len RowTab.cnt RowTab.r) v) : Calls Tryd.prog 3 #[.int .i64 k, v] W (fun e w' => e = .returned (.bool true) ∧ Below W.heap.size W w') := by
  by_cases hs : 3000 < sumR len
  · exact parts_run hT hk g (lokN true) (plx_eval len RowTab.cnt RowTab.r true k) (paid_app (p1O_paid hl hL (decide_eq_true hs)) fun _ h => by cases h)
  have hs2 : decide (3000 < sumR len) = false := decide_eq_false hs
  by_cases h1 : k = 256
  · subst h1; exact parts_run hT hk g lokK256 (pl256_eval len RowTab.cnt RowTab.r) (paid_app (p1O_paid hl hL hs2) (p2O256_paid hl hL (by omega)))
  by_cases h2 : k = 384
  · subst h2; exact parts_run hT hk g lokK384 (pl384_eval len RowTab.cnt RowTab.r) (paid_app (p1O_paid hl hL hs2) (p2O384_paid hl hL (by omega)))
  by_cases h3 : k = 512
  · subst h3; exact parts_run hT hk g lokK512 (pl512_eval len RowTab.cnt RowTab.r) (paid_app (p1O_paid hl hL hs2) (p2O512_paid hl hL (by omega)))
  exact parts_run hT hk g (lokN false) (plo_eval len RowTab.cnt RowTab.r k) (paid_app (p1O_paid hl hL hs2) (kO_paid h1 h2 h3))
theorem parts_none {W : World} (hT : TRep W) {k : Int} (hk : inR .i64 k = true) {v : Value} (g : (∃ L, VOk W 1 L (.pl .nilslice) v) ∨ ∃ L, VOk W 1 L .empty v) : Calls Tryd.prog 3 #[.int .i64 k, v] W (fun e w' => e = .returned (.bool true) ∧ Below W.heap.size W w') := by
  have n2 : ∀ fn c, Tryd.prog.funcs[3]? = some fn → fn.body = some c → LOkX 2 Tryd.prog c (fun _ _ => none) := fun _ _ _ _ => LOkX.none
  by_cases h1 : k = 256
  · subst h1; rcases g with g | g
    · exact parts_run hT hk g n2 pm256_eval fun _ h => by cases h
    · exact parts_run hT hk g n2 pq256_eval fun _ h => by cases h
  by_cases h2 : k = 384
  · subst h2; rcases g with g | g
    · exact parts_run hT hk g n2 pm384_eval fun _ h => by cases h
    · exact parts_run hT hk g n2 pq384_eval fun _ h => by cases h
  by_cases h3 : k = 512
  · subst h3; rcases g with g | g
    · exact parts_run hT hk g n2 pm512_eval fun _ h => by cases h
    · exact parts_run hT hk g n2 pq512_eval fun _ h => by cases h
  rcases g with g | g
  · exact parts_run hT hk g n2 (pmo_eval k) (kO_paid h1 h2 h3)
  · exact parts_run hT hk g n2 (pqo_eval k) (kO_paid h1 h2 h3)
end
theorem sha2Parts_calls {W0 : World} {k : Int} (hk : inR .i64 k = true) {v : Value} (hv : v = .slice none 0 0 ∨ ∃ (a : Addr) (len cap : Nat) (r : Nat → Value) (z : Nat → List Int), v = .slice (some a) len cap ∧ len ≤ cap ∧ cap ≤ reachBytes ∧ ∀ i, i < cap → W0.cell? (a.add i) = some (r i) ∧ RowV W0 .u8 (r i) (z i)) (W : World) (hL : laidMetH Tryd.prog Rows.sha2PartsRow.laid W) (hW : W0 = W := by rfl) : Calls Tryd.prog 3 #[.int .i64 k, v] W (fun e w' => e = .returned (.bool true) ∧ Below W.heap.size W w') := by
  subst hW
  have hrb : (reachBytes : Nat) = 140737488351232 := rfl
  rcases hv with rfl | ⟨a, len, cap, r, z, rfl, h1, h2, h3⟩
  · letI : RowTab := ⟨0, fun _ => .slice none 0 0, fun _ => []⟩
    have hT : TRep W0 := trep_of hL fun i hi => absurd hi (Nat.not_lt_zero _)
    exact parts_none hT hk (Or.inl ⟨⟨0, 0, 0⟩, ⟨fun ρ N _ _ => .nilslice, fun b hb => by cases hb⟩⟩)
  · by_cases h0 : cap = 0
    · subst h0
      cases Nat.le_zero.1 h1
      letI : RowTab := ⟨0, fun _ => .slice none 0 0, fun _ => []⟩
      have hT : TRep W0 := trep_of hL fun i hi => absurd hi (Nat.not_lt_zero _)
      exact parts_none hT hk (Or.inr VOk.empty)
    · letI : RowTab := ⟨cap, r, z⟩
      have hT : TRep W0 := trep_of hL fun i hi => (h3 i hi).2
      exact parts_rows hT hk h1 (show len < 1000000000000000 by omega) (VOk.lists (j := 1) true h1 (Nat.pos_of_ne_zero h0) fun i hi => (h3 i hi).1)
end Go.Proofs.YtjhjhhibfojpiaaDoor
