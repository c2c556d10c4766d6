/- Elements of many parts: Put of a list of lists. Own work. -/
import Derived.Test.YthpafpifpdeikaaUDpC
set_option linter.unusedSimpArgs false
set_option linter.unusedVariables false
set_option linter.unusedSectionVars false
namespace Go.Proofs.Ythpafpifpdeikaa
open Go.Ev Go.De
set_option maxRecDepth 100000
set_option linter.unusedSimpArgs false
set_option linter.unusedVariables false
variable [RowTab]
omit [RowTab] in
theorem paid_app : ∀ {a b : List Bool}, Paid a → Paid b → Paid (a ++ b)
  | _, _, h1, h2 => fun x hx => by
    rcases List.mem_append.1 hx with h | h
    · exact h1 x h
    · exact h2 x h
theorem q1O_paid {t : Int} {len : Nat} {w : Bool} (hc : len ≤ RowTab.cnt) (hL : len < 1000000000000000) (hw : decide (65535 < (catR len).length) = w) : Paid (q1O w ⟨t, len, RowTab.cnt, 0, (len : Int), 0, RowTab.r⟩) := by
  unfold q1O
  exact paid_cons (decide_eq_true rfl) (paid_cons (@decide_eq_true _ (Classical.propDecidable _) rfl) (paid_cons (decide_eq_true hc) (paid_cons (decide_eq_true hL) (paid_cons (decide_eq_true rfl) (paid_cons (decide_eq_true rfl) (paid_cons (decide_eq_true rfl) (paid_cons (decide_eq_true hw) fun _ h => by cases h)))))))
theorem q2O_paid {len L : Nat} {c : List Int} (hc : len ≤ RowTab.cnt) (hL : len < 1000000000000000) (hcl : c.length = L) (hs : c.length + (catR len).length ≤ 100000) : Paid (q2O ⟨len, RowTab.cnt, (len : Int), 0, c, RowTab.r⟩ L) := by
  unfold q2O
  exact paid_cons (decide_eq_true rfl) (paid_cons (@decide_eq_true _ (Classical.propDecidable _) rfl) (paid_cons (decide_eq_true hc) (paid_cons (decide_eq_true hL) (paid_cons (decide_eq_true rfl) (paid_cons (decide_eq_true hcl) (paid_cons (decide_eq_true rfl) (paid_cons (decide_eq_true hs) fun _ h => by cases h)))))))
theorem pt_lok (w : Bool) : ∀ fn c, Try.prog.funcs[12]? = some fn → fn.body = some c → LOkX 2 Try.prog c (q2Λ (q1Λ w fun _ _ => none)) := fun fn c hf hb => by rw [bodyOf_eq hf hb]; exact q2_lok (q1_lok w LOkX.none)
theorem ptn_eval (t : Int) (len cap : Nat) (r : Nat → Value) : ((funcX Try.prog qA n0 (q2Λ (q1Λ true fun _ _ => none)) 100 12 (cArgs 0 [.pl (.int true .u8 t), .lol true len cap r]) (cMem [.pl (.int true .u8 t), .lol true len cap r])).go []).flat = some (decide (len < 9223372036854775808) :: (decide (len = len) :: (q1O true ⟨t, len, cap, 0, (len : Int), 0, r⟩ ++ [])), (.nilslice, [none, some ⟨false, .rows RowTab.cnt RowTab.r⟩])) := by kernel_rfl
theorem ptn_call {t : Int} {len : Nat} (hc : len ≤ RowTab.cnt) (hL : len < 1000000000000000) (h : 65535 < (catR len).length) : ViewCall Try.prog 12 [.pl (.int true .u8 t), .lol true len RowTab.cnt RowTab.r] .nilslice [] :=
  viewX_of_go mixed noCount n0_ok (pt_lok true) [] (ptn_eval t len RowTab.cnt RowTab.r) (paid_cons (decide_eq_true (by omega)) (paid_cons (decide_eq_true rfl) (paid_app (q1O_paid hc hL (decide_eq_true h)) fun _ h => by cases h))) rfl rfl rfl
theorem pt1_eval (t : Int) (len cap : Nat) (r : Nat → Value) : seeV 2 ((funcX Try.prog qA (lnH 1) (q2Λ (q1Λ false fun _ _ => none)) 100 12 (cArgs 0 [.pl (.int true .u8 t), .lol true len cap r]) (cMem [.pl (.int true .u8 t), .lol true len cap r])).go []) = some (decide (len < 9223372036854775808) :: (decide (len = len) :: (q1O false ⟨t, len, cap, 0, (len : Int), 0, r⟩ ++ ([decide (((catR len).length : Int) < 128)] ++ (decide (len < 9223372036854775808) :: (q2O ⟨len, RowTab.cnt, (len : Int), 0, [t] ++ [IntKind.wrap .u8 ((catR len).length : Int)], RowTab.r⟩ 2 ++ []))))), .slice true 2 0 (([t] ++ [IntKind.wrap .u8 ((catR len).length : Int)]) ++ catR len).length none 1, some (some ⟨true, .ints .u8 none (([t] ++ [IntKind.wrap .u8 ((catR len).length : Int)]) ++ catR len)⟩)) := by kernel_rfl
theorem pt1_call {t : Int} {len : Nat} (hc : len ≤ RowTab.cnt) (hL : len < 1000000000000000) (hs : (catR len).length ≤ 65535) (hk : (catR len).length < 128) : ViewCall Try.prog 12 [.pl (.int true .u8 t), .lol true len RowTab.cnt RowTab.r] (.slice true 0 0 (putB t (catR len)).length none 1) [some ⟨true, .ints .u8 none (putB t (catR len))⟩] := by
  have hC : ([t] ++ [IntKind.wrap .u8 ((catR len).length : Int)]) ++ catR len = putB t (catR len) := by
    unfold putB
    rw [lenB_1 hk]
    simp only [wrapB, ishr8, List.cons_append, List.nil_append, List.cons.injEq, true_and, and_true]
    try omega
  have ev := pt1_eval t len RowTab.cnt RowTab.r
  rw [hC] at ev
  refine @viewX_one _ _ _ _ _ mixed noCount (lnH_ok 1) _ _ _ (pt_lok false) _ _ _ _ _ _ [] 2 ev (paid_cons (decide_eq_true (by omega)) (paid_cons (decide_eq_true rfl) (paid_app (q1O_paid hc hL (decide_eq_false (by omega))) (paid_app ?_ (paid_cons (decide_eq_true (by omega)) (paid_app (q2O_paid hc hL rfl ?_) fun _ h => by cases h)))))) (by show 2 ≤ 2; decide) rfl rfl
  · intro x hx
    simp only [List.mem_cons, List.not_mem_nil, or_false] at hx
    rcases hx with rfl <;> simp only [Bool.not_eq_true', decide_eq_true_eq, decide_eq_false_iff_not] <;> omega
  · simp only [List.length_append, List.length_cons, List.length_nil]
    omega
theorem pt2_eval (t : Int) (len cap : Nat) (r : Nat → Value) : seeV 2 ((funcX Try.prog qA (lnH 2) (q2Λ (q1Λ false fun _ _ => none)) 100 12 (cArgs 0 [.pl (.int true .u8 t), .lol true len cap r]) (cMem [.pl (.int true .u8 t), .lol true len cap r])).go []) = some (decide (len < 9223372036854775808) :: (decide (len = len) :: (q1O false ⟨t, len, cap, 0, (len : Int), 0, r⟩ ++ ([(!decide (((catR len).length : Int) < 128)), decide (((catR len).length : Int) < 256)] ++ (decide (len < 9223372036854775808) :: (q2O ⟨len, RowTab.cnt, (len : Int), 0, [t] ++ [129, IntKind.wrap .u8 ((catR len).length : Int)], RowTab.r⟩ 3 ++ []))))), .slice true 2 0 (([t] ++ [129, IntKind.wrap .u8 ((catR len).length : Int)]) ++ catR len).length none 1, some (some ⟨true, .ints .u8 none (([t] ++ [129, IntKind.wrap .u8 ((catR len).length : Int)]) ++ catR len)⟩)) := by kernel_rfl
theorem pt2_call {t : Int} {len : Nat} (hc : len ≤ RowTab.cnt) (hL : len < 1000000000000000) (hs : (catR len).length ≤ 65535) (hk : ¬ (catR len).length < 128) (hk2 : (catR len).length < 256) : ViewCall Try.prog 12 [.pl (.int true .u8 t), .lol true len RowTab.cnt RowTab.r] (.slice true 0 0 (putB t (catR len)).length none 1) [some ⟨true, .ints .u8 none (putB t (catR len))⟩] := by
  have hC : ([t] ++ [129, IntKind.wrap .u8 ((catR len).length : Int)]) ++ catR len = putB t (catR len) := by
    unfold putB
    rw [lenB_2 hk hk2]
    simp only [wrapB, ishr8, List.cons_append, List.nil_append, List.cons.injEq, true_and, and_true]
    try omega
  have ev := pt2_eval t len RowTab.cnt RowTab.r
  rw [hC] at ev
  refine @viewX_one _ _ _ _ _ mixed noCount (lnH_ok 2) _ _ _ (pt_lok false) _ _ _ _ _ _ [] 2 ev (paid_cons (decide_eq_true (by omega)) (paid_cons (decide_eq_true rfl) (paid_app (q1O_paid hc hL (decide_eq_false (by omega))) (paid_app ?_ (paid_cons (decide_eq_true (by omega)) (paid_app (q2O_paid hc hL rfl ?_) fun _ h => by cases h)))))) (by show 2 ≤ 2; decide) rfl rfl
  · intro x hx
    simp only [List.mem_cons, List.not_mem_nil, or_false] at hx
    rcases hx with rfl | rfl <;> simp only [Bool.not_eq_true', decide_eq_true_eq, decide_eq_false_iff_not] <;> omega
  · simp only [List.length_append, List.length_cons, List.length_nil]
    omega
theorem pt3_eval (t : Int) (len cap : Nat) (r : Nat → Value) : seeV 2 ((funcX Try.prog qA (lnH 3) (q2Λ (q1Λ false fun _ _ => none)) 100 12 (cArgs 0 [.pl (.int true .u8 t), .lol true len cap r]) (cMem [.pl (.int true .u8 t), .lol true len cap r])).go []) = some (decide (len < 9223372036854775808) :: (decide (len = len) :: (q1O false ⟨t, len, cap, 0, (len : Int), 0, r⟩ ++ ([(!decide (((catR len).length : Int) < 128)), (!decide (((catR len).length : Int) < 256))] ++ (decide (len < 9223372036854775808) :: (q2O ⟨len, RowTab.cnt, (len : Int), 0, [t] ++ [130, IntKind.wrap .u8 (ishr .i64 ((catR len).length : Int) 8), IntKind.wrap .u8 ((catR len).length : Int)], RowTab.r⟩ 4 ++ []))))), .slice true 2 0 (([t] ++ [130, IntKind.wrap .u8 (ishr .i64 ((catR len).length : Int) 8), IntKind.wrap .u8 ((catR len).length : Int)]) ++ catR len).length none 1, some (some ⟨true, .ints .u8 none (([t] ++ [130, IntKind.wrap .u8 (ishr .i64 ((catR len).length : Int) 8), IntKind.wrap .u8 ((catR len).length : Int)]) ++ catR len)⟩)) := by kernel_rfl
theorem pt3_call {t : Int} {len : Nat} (hc : len ≤ RowTab.cnt) (hL : len < 1000000000000000) (hs : (catR len).length ≤ 65535) (hk : ¬ (catR len).length < 256) : ViewCall Try.prog 12 [.pl (.int true .u8 t), .lol true len RowTab.cnt RowTab.r] (.slice true 0 0 (putB t (catR len)).length none 1) [some ⟨true, .ints .u8 none (putB t (catR len))⟩] := by
  have hC : ([t] ++ [130, IntKind.wrap .u8 (ishr .i64 ((catR len).length : Int) 8), IntKind.wrap .u8 ((catR len).length : Int)]) ++ catR len = putB t (catR len) := by
    unfold putB
    rw [lenB_3 hk]
    simp only [wrapB, ishr8, List.cons_append, List.nil_append, List.cons.injEq, true_and, and_true]
    try omega
  have ev := pt3_eval t len RowTab.cnt RowTab.r
  rw [hC] at ev
  refine @viewX_one _ _ _ _ _ mixed noCount (lnH_ok 3) _ _ _ (pt_lok false) _ _ _ _ _ _ [] 2 ev (paid_cons (decide_eq_true (by omega)) (paid_cons (decide_eq_true rfl) (paid_app (q1O_paid hc hL (decide_eq_false (by omega))) (paid_app ?_ (paid_cons (decide_eq_true (by omega)) (paid_app (q2O_paid hc hL rfl ?_) fun _ h => by cases h)))))) (by show 2 ≤ 2; decide) rfl rfl
  · intro x hx
    simp only [List.mem_cons, List.not_mem_nil, or_false] at hx
    rcases hx with rfl | rfl <;> simp only [Bool.not_eq_true', decide_eq_true_eq, decide_eq_false_iff_not] <;> omega
  · simp only [List.length_append, List.length_cons, List.length_nil]
    omega
open Classical in
noncomputable def ptS (w : Bool) : List V → E (AV × Mem)
  | [.pl (.int _ .u8 t), .lol _ len cap r] => some ([decide (cap = RowTab.cnt), decide (r = RowTab.r), decide (len ≤ RowTab.cnt), decide (len < 1000000000000000), decide (decide (65535 < (catR len).length) = w)], match w with
    | true => (.nilslice, [])
    | false => (.slice true 0 0 (putB t (catR len)).length none 1, [some ⟨true, .ints .u8 none (putB t (catR len))⟩]))
  | _ => none
theorem ptS_ok {w : Bool} {xs : List V} {o : List Bool} {v : AV} {bs : Mem} (h : ptS w xs = some (o, (v, bs))) (ho : Paid o) : ViewCall Try.prog 12 xs v bs := by
  unfold ptS at h
  split at h
  · rename_i s2 t s len cap r
    have ho1 : o = [decide (cap = RowTab.cnt), @decide (r = RowTab.r) (Classical.propDecidable _), decide (len ≤ RowTab.cnt), decide (len < 1000000000000000), decide (decide (65535 < (catR len).length) = w)] := (congrArg Prod.fst (Option.some.inj h)).symm
    subst ho1
    have o1 := of_decide_eq_true (ho _ (List.mem_cons_self ..))
    have o2 := @of_decide_eq_true _ (Classical.propDecidable _) (ho _ (List.mem_cons_of_mem _ (List.mem_cons_self ..)))
    have o3 := of_decide_eq_true (ho _ (List.mem_cons_of_mem _ (List.mem_cons_of_mem _ (List.mem_cons_self ..))))
    have o4 := of_decide_eq_true (ho _ (List.mem_cons_of_mem _ (List.mem_cons_of_mem _ (List.mem_cons_of_mem _ (List.mem_cons_self ..)))))
    have o5 := of_decide_eq_true (ho _ (List.mem_cons_of_mem _ (List.mem_cons_of_mem _ (List.mem_cons_of_mem _ (List.mem_cons_of_mem _ (List.mem_cons_self ..))))))
    subst o1 o2
    cases w with
    | true =>
      cases h
      intro ρ vs w ha hi
      exact ptn_call o3 o4 (of_decide_eq_true o5) (mark2 ha) hi
    | false =>
      cases h
      have o6 := of_decide_eq_false o5
      intro ρ vs w ha hi
      by_cases hk : (catR len).length < 128
      · exact pt1_call o3 o4 (by omega) hk (mark2 ha) hi
      by_cases hk2 : (catR len).length < 256
      · exact pt2_call o3 o4 (by omega) hk hk2 (mark2 ha) hi
      exact pt3_call o3 o4 (by omega) hk2 (mark2 ha) hi
  · cases h
noncomputable def hPt (w : Bool) (X : CallH) : CallH := withV 12 (ptS w) X
theorem hPt_ok {w : Bool} {X : CallH} (h : HOk Try.prog X) : HOk Try.prog (hPt w X) := h.withV fun _ _ _ _ h ho => ptS_ok h ho
end Go.Proofs.Ythpafpifpdeikaa
