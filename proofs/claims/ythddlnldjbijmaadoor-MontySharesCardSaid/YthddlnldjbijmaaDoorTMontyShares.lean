/- Two secrets share the same, whoever reckons it; a peer's key of which nothing comes is refused: for all bytes the law answers true. No condition. -/
import Derived.Test.YthddlnldjbijmaaDoorTMrK
set_option linter.unusedSimpArgs false
set_option linter.unusedVariables false
set_option linter.unusedSectionVars false
namespace Go.Proofs.YthddlnldjbijmaaDoor
open Go.Ev Go.Wn Go.Mo
open Go.ChangeShapes Go.WideShapes Go.ChangeAt Go.RowKit
set_option maxRecDepth 100000
def qS9 (f : FuncId) : Bool := !([35, 36, 37].any fun d => Nat.beq f (2000000000 + d))
def sbO (n : Nat) : List Bool := [decide (0 + n ≤ n), !decide ((n : Int) = 32), decide (n < 9223372036854775808)]
def snO (n : Nat) : List Bool := [decide (n < 9223372036854775808), !(!((n : Int) != 32)), !(!((n : Int) != 32)), !(!((n : Int) != 32)), (n : Int) != 32]
def scB (n : Nat) : Bool := (((2 : Int) == 0) == ((n : Int) == 32))
theorem sbO_paid {n : Nat} (h1 : n < 9223372036854775808) (h2 : (n : Int) ≠ 32) : Paid (sbO n) := paid_cons (decide_eq_true (by omega)) (paid_cons (by rw [decide_eq_false h2]; rfl) (paid_cons (decide_eq_true h1) Paid.nil))
theorem snO_paid {n : Nat} (h1 : n < 9223372036854775808) (h2 : (n : Int) ≠ 32) : Paid (snO n) := by
  have e : ((n : Int) != 32) = true := by simpa using h2
  unfold snO
  rw [e]
  exact paid_cons (decide_eq_true h1) (paid_cons rfl (paid_cons rfl (paid_cons rfl (paid_cons rfl Paid.nil))))
theorem scB_true {n : Nat} (h2 : (n : Int) ≠ 32) : scB n = true := by
  have e : ((n : Int) == 32) = false := by simpa using h2
  unfold scB
  rw [e]
  rfl
theorem rep_paid {b : Bool} (h : b = true) (n : Nat) : Paid (List.replicate n b) := fun x hx => by rw [(List.mem_replicate.1 hx).2]; exact h
def shE (k u : List Int) : Bool := !(!decide (mulB k (mulB u (one8 9)) = mulB u (mulB k (one8 9))))
def shO (z : Bool) (k u : List Int) : List Bool := [!decide (mulB k (mulB u (one8 9)) = zer), !decide (mulB u (mulB k (one8 9)) = zer), shE k u, shE k u, shE k u, shE k u, (match z with | true => rmZ k (one8 9) | false => !rmZ k (one8 9)), shE k u, shE k u, shE k u, !(!decide (mulB k (one8 9) = mulB k (one8 9)))]
theorem nine_ok : okb (one8 9) ∧ upI (leI (one8 9)) = 9 := by
  refine ⟨⟨rfl, List.all_eq_true.1 (by decide +kernel : ((one8 9).all fun x => inR .u8 x) = true)⟩, by decide +kernel⟩
theorem sh_some {k u : List Int} (hk : okb k) (hu : okb u) : mulB k (mulB u (one8 9)) ≠ zer := fun e => by
  obtain ⟨n1, n2⟩ := nine_ok
  obtain ⟨k1, k2⟩ := mulB_ok hu n1
  obtain ⟨N, e1, a1, a2, a3⟩ := cl_nat hk
  obtain ⟨K, e2, b1, b2, b3⟩ := cl_nat hu
  have h := (mulB_ok hk k1).2
  rw [e, k2, up_res, n2, e1, e2] at h
  exact res_base a1 b1 a2 b2 a3 b3 (h.symm.trans (by decide +kernel))
theorem shO_paid {z : Bool} {k u : List Int} (hk : okb k) (hu : okb u) (hz : rmZ k (one8 9) = z) : Paid (shO z k u) := by
  have e : shE k u = true := by unfold shE; rw [decide_eq_true (mul_comm9 hu hk nine_ok.1)]; rfl
  unfold shO
  rw [e, decide_eq_false (sh_some hk hu), decide_eq_false (sh_some hu hk), decide_eq_true rfl]
  refine paid_cons rfl (paid_cons rfl (paid_cons rfl (paid_cons rfl (paid_cons rfl (paid_cons rfl (paid_cons ?_ (paid_cons rfl (paid_cons rfl (paid_cons rfl (paid_cons rfl Paid.nil))))))))))
  cases z
  · simp only; rw [hz]; rfl
  · exact hz
theorem ms_nilnil (Q : V) : res ((funcA Tryd.prog qAs (deep Tryd.prog qn hl9 100 5) 200 4 (cArgs 0 [.pl .nilslice, .pl .nilslice, Q]) (cMem [.pl .nilslice, .pl .nilslice, Q])).go []) = some ([], .bool false true) := by kernel_rfl
theorem ms_nilemp (Q : V) : res ((funcA Tryd.prog qAs (deep Tryd.prog qn hl9 100 5) 200 4 (cArgs 0 [.pl .nilslice, .empty, Q]) (cMem [.pl .nilslice, .empty, Q])).go []) = some ([], .bool false true) := by kernel_rfl
theorem ms_nilbuf (m : Nat) (p : List Int) (Q : V) : res ((funcA Tryd.prog qAs (deep Tryd.prog qn hl9 100 5) 200 4 (cArgs 0 [.pl .nilslice, .buf true .u8 m p, Q]) (cMem [.pl .nilslice, .buf true .u8 m p, Q])).go []) = some (sbO m ++ [decide (m < 9223372036854775808)], .bool true (scB m)) := by kernel_rfl
theorem ms_nilok (u : List Int) (Q : V) : res ((funcA Tryd.prog qAs (deep Tryd.prog qn hl9 100 5) 200 4 (cArgs 0 [.pl .nilslice, .buf false .u8 32 u, Q]) (cMem [.pl .nilslice, .buf false .u8 32 u, Q])).go []) = some ([], .bool false true) := by kernel_rfl
theorem ms_empnil (Q : V) : res ((funcA Tryd.prog qAs (deep Tryd.prog qn hl9 100 5) 200 4 (cArgs 0 [.empty, .pl .nilslice, Q]) (cMem [.empty, .pl .nilslice, Q])).go []) = some ([], .bool false true) := by kernel_rfl
theorem ms_empemp (Q : V) : res ((funcA Tryd.prog qAs (deep Tryd.prog qn hl9 100 5) 200 4 (cArgs 0 [.empty, .empty, Q]) (cMem [.empty, .empty, Q])).go []) = some ([], .bool false true) := by kernel_rfl
theorem ms_empbuf (m : Nat) (p : List Int) (Q : V) : res ((funcA Tryd.prog qAs (deep Tryd.prog qn hl9 100 5) 200 4 (cArgs 0 [.empty, .buf true .u8 m p, Q]) (cMem [.empty, .buf true .u8 m p, Q])).go []) = some (sbO m ++ [decide (m < 9223372036854775808)], .bool true (scB m)) := by kernel_rfl
theorem ms_empok (u : List Int) (Q : V) : res ((funcA Tryd.prog qAs (deep Tryd.prog qn hl9 100 5) 200 4 (cArgs 0 [.empty, .buf false .u8 32 u, Q]) (cMem [.empty, .buf false .u8 32 u, Q])).go []) = some ([], .bool false true) := by kernel_rfl
theorem ms_bufnil (n : Nat) (l : List Int) (Q : V) : res ((funcA Tryd.prog qS9 (deep Tryd.prog qn hl9 100 5) 200 4 (cArgs 0 [.buf true .u8 n l, .pl .nilslice, Q]) (cMem [.buf true .u8 n l, .pl .nilslice, Q])).go []) = some (sbO n ++ (snO n ++ (decide (n < 9223372036854775808) :: List.replicate 7 (scB n))), .bool false true) := by kernel_rfl
theorem ms_bufemp (n : Nat) (l : List Int) (Q : V) : res ((funcA Tryd.prog qS9 (deep Tryd.prog qn hl9 100 5) 200 4 (cArgs 0 [.buf true .u8 n l, .empty, Q]) (cMem [.buf true .u8 n l, .empty, Q])).go []) = some (sbO n ++ (snO n ++ (decide (n < 9223372036854775808) :: List.replicate 7 (scB n))), .bool false true) := by kernel_rfl
theorem ms_bufbuf (n : Nat) (l : List Int) (m : Nat) (p : List Int) (Q : V) : res ((funcA Tryd.prog qS9 (deep Tryd.prog qn hl9 100 5) 200 4 (cArgs 0 [.buf true .u8 n l, .buf true .u8 m p, Q]) (cMem [.buf true .u8 n l, .buf true .u8 m p, Q])).go []) = some (sbO n ++ (sbO m ++ (snO n ++ (decide (n < 9223372036854775808) :: (List.replicate 4 (scB n) ++ (decide (m < 9223372036854775808) :: List.replicate 3 (scB n)))))), .bool true (scB m)) := by kernel_rfl
theorem ms_bufok (n : Nat) (l : List Int) (u : List Int) (Q : V) : res ((funcA Tryd.prog qS9 (deep Tryd.prog qn hl9 100 5) 200 4 (cArgs 0 [.buf true .u8 n l, .buf false .u8 32 u, Q]) (cMem [.buf true .u8 n l, .buf false .u8 32 u, Q])).go []) = some (sbO n ++ (snO n ++ (decide (n < 9223372036854775808) :: List.replicate 7 (scB n))), .bool false true) := by kernel_rfl
theorem ms_oknil (k : List Int) (Q : V) : res ((funcA Tryd.prog qAs (deep Tryd.prog qn hl9 100 5) 200 4 (cArgs 0 [.buf false .u8 32 k, .pl .nilslice, Q]) (cMem [.buf false .u8 32 k, .pl .nilslice, Q])).go []) = some ([], .bool false true) := by kernel_rfl
theorem ms_okemp (k : List Int) (Q : V) : res ((funcA Tryd.prog qAs (deep Tryd.prog qn hl9 100 5) 200 4 (cArgs 0 [.buf false .u8 32 k, .empty, Q]) (cMem [.buf false .u8 32 k, .empty, Q])).go []) = some ([], .bool false true) := by kernel_rfl
theorem ms_okbuf (k : List Int) (m : Nat) (p : List Int) (Q : V) : res ((funcA Tryd.prog qAs (deep Tryd.prog qn hl9 100 5) 200 4 (cArgs 0 [.buf false .u8 32 k, .buf true .u8 m p, Q]) (cMem [.buf false .u8 32 k, .buf true .u8 m p, Q])).go [true]) = some (sbO m ++ [decide (m < 9223372036854775808), (m : Int) != 32, decide (m < 9223372036854775808)], .bool true (scB m)) := by kernel_rfl
theorem mk_nil_ff (k u : List Int) : res ((funcA Tryd.prog qAs (deep Tryd.prog qn (hpS false false) 100 5) 200 4 (cArgs 0 [.buf false .u8 32 k, .buf false .u8 32 u, .pl .nilslice]) (cMem [.buf false .u8 32 k, .buf false .u8 32 u, .pl .nilslice])).go [false]) = some (shO false k u, .bool false true) := by kernel_rfl
theorem mk_nil_tf (k u : List Int) : res ((funcA Tryd.prog qAs (deep Tryd.prog qn (hpS true false) 100 5) 200 4 (cArgs 0 [.buf false .u8 32 k, .buf false .u8 32 u, .pl .nilslice]) (cMem [.buf false .u8 32 k, .buf false .u8 32 u, .pl .nilslice])).go [false]) = some (shO true k u, .bool false true) := by kernel_rfl
theorem mk_emp_ff (k u : List Int) : res ((funcA Tryd.prog qAs (deep Tryd.prog qn (hpS false false) 100 5) 200 4 (cArgs 0 [.buf false .u8 32 k, .buf false .u8 32 u, .empty]) (cMem [.buf false .u8 32 k, .buf false .u8 32 u, .empty])).go [false]) = some (shO false k u, .bool false true) := by kernel_rfl
theorem mk_emp_tf (k u : List Int) : res ((funcA Tryd.prog qAs (deep Tryd.prog qn (hpS true false) 100 5) 200 4 (cArgs 0 [.buf false .u8 32 k, .buf false .u8 32 u, .empty]) (cMem [.buf false .u8 32 k, .buf false .u8 32 u, .empty])).go [false]) = some (shO true k u, .bool false true) := by kernel_rfl
theorem mk_buf_ff (k u : List Int) (n : Nat) (l : List Int) : res ((funcA Tryd.prog qAs (deep Tryd.prog qn (hpS false false) 100 5) 200 4 (cArgs 0 [.buf false .u8 32 k, .buf false .u8 32 u, .buf true .u8 n l]) (cMem [.buf false .u8 32 k, .buf false .u8 32 u, .buf true .u8 n l])).go [false]) = some (shO false k u ++ (sbO n ++ sbO n), .bool false true) := by kernel_rfl
theorem mk_buf_tf (k u : List Int) (n : Nat) (l : List Int) : res ((funcA Tryd.prog qAs (deep Tryd.prog qn (hpS true false) 100 5) 200 4 (cArgs 0 [.buf false .u8 32 k, .buf false .u8 32 u, .buf true .u8 n l]) (cMem [.buf false .u8 32 k, .buf false .u8 32 u, .buf true .u8 n l])).go [false]) = some (shO true k u ++ (sbO n ++ sbO n), .bool false true) := by kernel_rfl
theorem mk_ok_ff (k u : List Int) (r : List Int) : res ((funcA Tryd.prog qAs (deep Tryd.prog qn (hpS false false) 100 5) 200 4 (cArgs 0 [.buf false .u8 32 k, .buf false .u8 32 u, .buf false .u8 32 r]) (cMem [.buf false .u8 32 k, .buf false .u8 32 u, .buf false .u8 32 r])).go [false, false]) = some (shO false k u ++ [!decide (mulB k r = zer), !decide (mulB k r = zer)], .bool true (decide (mulB k r = mulB k r))) := by kernel_rfl
theorem mk_ok_ft (k u : List Int) (r : List Int) : res ((funcA Tryd.prog qAs (deep Tryd.prog qn (hpS false true) 100 5) 200 4 (cArgs 0 [.buf false .u8 32 k, .buf false .u8 32 u, .buf false .u8 32 r]) (cMem [.buf false .u8 32 k, .buf false .u8 32 u, .buf false .u8 32 r])).go [false, true]) = some (shO false k u ++ [decide (mulB k r = zer), decide (mulB k r = zer)], .bool false true) := by kernel_rfl
theorem mk_ok_tf (k u : List Int) (r : List Int) : res ((funcA Tryd.prog qAs (deep Tryd.prog qn (hpS true false) 100 5) 200 4 (cArgs 0 [.buf false .u8 32 k, .buf false .u8 32 u, .buf false .u8 32 r]) (cMem [.buf false .u8 32 k, .buf false .u8 32 u, .buf false .u8 32 r])).go [false, false]) = some (shO true k u ++ [!decide (mulB k r = zer), !decide (mulB k r = zer)], .bool true (decide (mulB k r = mulB k r))) := by kernel_rfl
theorem mk_ok_tt (k u : List Int) (r : List Int) : res ((funcA Tryd.prog qAs (deep Tryd.prog qn (hpS true true) 100 5) 200 4 (cArgs 0 [.buf false .u8 32 k, .buf false .u8 32 u, .buf false .u8 32 r]) (cMem [.buf false .u8 32 k, .buf false .u8 32 u, .buf false .u8 32 r])).go [false, true]) = some (shO true k u ++ [decide (mulB k r = zer), decide (mulB k r = zer)], .bool false true) := by kernel_rfl
theorem montyShares_calls {va vb vq : Value} (W : World) (hT : TRep W) (ha : (va = .slice none 0 0 ∨ ∃ (a : Addr) (len cap : Nat) (zs : List Int), va = .slice (some a) len cap ∧ len ≤ cap ∧ cap ≤ maxLen ∧ zs.length = cap ∧ (∀ i, i < zs.length → W.cell? (a.add i) = some (.int .u8 (zs.getD i 0))) ∧ ∀ n ∈ zs, inR .u8 n = true)) (hb : (vb = .slice none 0 0 ∨ ∃ (a : Addr) (len cap : Nat) (zs : List Int), vb = .slice (some a) len cap ∧ len ≤ cap ∧ cap ≤ maxLen ∧ zs.length = cap ∧ (∀ i, i < zs.length → W.cell? (a.add i) = some (.int .u8 (zs.getD i 0))) ∧ ∀ n ∈ zs, inR .u8 n = true)) (hq : (vq = .slice none 0 0 ∨ ∃ (a : Addr) (len cap : Nat) (zs : List Int), vq = .slice (some a) len cap ∧ len ≤ cap ∧ cap ≤ maxLen ∧ zs.length = cap ∧ (∀ i, i < zs.length → W.cell? (a.add i) = some (.int .u8 (zs.getD i 0))) ∧ ∀ n ∈ zs, inR .u8 n = true)) :
    Calls Tryd.prog 4 #[va, vb, vq] W (fun e w' => e = .returned (.bool true) ∧ Below W.heap.size W w') := by
  have D := hl9_ok.deep (q := qn) mixed noCount 100 5
  obtain ⟨Q, wQ, gQ⟩ := some_way 2 hq
  rcases four_ways 0 ha with h | h | ⟨n, l, h1, h2, h⟩ | ⟨k, ok, h⟩ <;> rcases four_ways 1 hb with g | g | ⟨m, p, g1, g2, g⟩ | ⟨u, ou, g⟩
  · exact law_of_go mixed D [] (ms_nilnil Q) (Paid.nil) rfl (.cons _ _ _ _ _ h (.cons _ _ _ _ _ g (.cons _ _ _ _ _ gQ (.nil _)))) (by show noW [Q] = true; rw [noW_c wQ]; rfl)
  · exact law_of_go mixed D [] (ms_nilemp Q) (Paid.nil) rfl (.cons _ _ _ _ _ h (.cons _ _ _ _ _ g (.cons _ _ _ _ _ gQ (.nil _)))) (by show noW [Q] = true; rw [noW_c wQ]; rfl)
  · exact law_of_go mixed D [] (ms_nilbuf m p Q) (paid_append.2 ⟨sbO_paid g1 g2, paid_cons (decide_eq_true g1) Paid.nil⟩) (scB_true g2) (.cons _ _ _ _ _ h (.cons _ _ _ _ _ g (.cons _ _ _ _ _ gQ (.nil _)))) (by show noW [Q] = true; rw [noW_c wQ]; rfl)
  · exact law_of_go mixed D [] (ms_nilok u Q) (Paid.nil) rfl (.cons _ _ _ _ _ h (.cons _ _ _ _ _ g (.cons _ _ _ _ _ gQ (.nil _)))) (by show noW [Q] = true; rw [noW_c wQ]; rfl)
  · exact law_of_go mixed D [] (ms_empnil Q) (Paid.nil) rfl (.cons _ _ _ _ _ h (.cons _ _ _ _ _ g (.cons _ _ _ _ _ gQ (.nil _)))) (by show noW [Q] = true; rw [noW_c wQ]; rfl)
  · exact law_of_go mixed D [] (ms_empemp Q) (Paid.nil) rfl (.cons _ _ _ _ _ h (.cons _ _ _ _ _ g (.cons _ _ _ _ _ gQ (.nil _)))) (by show noW [Q] = true; rw [noW_c wQ]; rfl)
  · exact law_of_go mixed D [] (ms_empbuf m p Q) (paid_append.2 ⟨sbO_paid g1 g2, paid_cons (decide_eq_true g1) Paid.nil⟩) (scB_true g2) (.cons _ _ _ _ _ h (.cons _ _ _ _ _ g (.cons _ _ _ _ _ gQ (.nil _)))) (by show noW [Q] = true; rw [noW_c wQ]; rfl)
  · exact law_of_go mixed D [] (ms_empok u Q) (Paid.nil) rfl (.cons _ _ _ _ _ h (.cons _ _ _ _ _ g (.cons _ _ _ _ _ gQ (.nil _)))) (by show noW [Q] = true; rw [noW_c wQ]; rfl)
  · exact law_of_go mixed D [] (ms_bufnil n l Q) (paid_append.2 ⟨sbO_paid h1 h2, paid_append.2 ⟨snO_paid h1 h2, paid_cons (decide_eq_true h1) (rep_paid (scB_true h2) 7)⟩⟩) rfl (.cons _ _ _ _ _ h (.cons _ _ _ _ _ g (.cons _ _ _ _ _ gQ (.nil _)))) (by show noW [Q] = true; rw [noW_c wQ]; rfl)
  · exact law_of_go mixed D [] (ms_bufemp n l Q) (paid_append.2 ⟨sbO_paid h1 h2, paid_append.2 ⟨snO_paid h1 h2, paid_cons (decide_eq_true h1) (rep_paid (scB_true h2) 7)⟩⟩) rfl (.cons _ _ _ _ _ h (.cons _ _ _ _ _ g (.cons _ _ _ _ _ gQ (.nil _)))) (by show noW [Q] = true; rw [noW_c wQ]; rfl)
  · exact law_of_go mixed D [] (ms_bufbuf n l m p Q) (paid_append.2 ⟨sbO_paid h1 h2, paid_append.2 ⟨sbO_paid g1 g2, paid_append.2 ⟨snO_paid h1 h2, paid_cons (decide_eq_true h1) (paid_append.2 ⟨rep_paid (scB_true h2) 4, paid_cons (decide_eq_true g1) (rep_paid (scB_true h2) 3)⟩)⟩⟩⟩) (scB_true g2) (.cons _ _ _ _ _ h (.cons _ _ _ _ _ g (.cons _ _ _ _ _ gQ (.nil _)))) (by show noW [Q] = true; rw [noW_c wQ]; rfl)
  · exact law_of_go mixed D [] (ms_bufok n l u Q) (paid_append.2 ⟨sbO_paid h1 h2, paid_append.2 ⟨snO_paid h1 h2, paid_cons (decide_eq_true h1) (rep_paid (scB_true h2) 7)⟩⟩) rfl (.cons _ _ _ _ _ h (.cons _ _ _ _ _ g (.cons _ _ _ _ _ gQ (.nil _)))) (by show noW [Q] = true; rw [noW_c wQ]; rfl)
  · exact law_of_go mixed D [] (ms_oknil k Q) (Paid.nil) rfl (.cons _ _ _ _ _ h (.cons _ _ _ _ _ g (.cons _ _ _ _ _ gQ (.nil _)))) (by show noW [Q] = true; rw [noW_c wQ]; rfl)
  · exact law_of_go mixed D [] (ms_okemp k Q) (Paid.nil) rfl (.cons _ _ _ _ _ h (.cons _ _ _ _ _ g (.cons _ _ _ _ _ gQ (.nil _)))) (by show noW [Q] = true; rw [noW_c wQ]; rfl)
  · exact law_of_go mixed D [true] (ms_okbuf k m p Q) (paid_append.2 ⟨sbO_paid g1 g2, paid_cons (decide_eq_true g1) (paid_cons (by simpa using g2) (paid_cons (decide_eq_true g1) Paid.nil))⟩) (scB_true g2) (.cons _ _ _ _ _ h (.cons _ _ _ _ _ g (.cons _ _ _ _ _ gQ (.nil _)))) (by show noW [Q] = true; rw [noW_c wQ]; rfl)
  · have E := fun z c => (hpS_ok z c).deep (q := qn) mixed noCount 100 5
    generalize hz : rmZ k (one8 9) = z
    have P := shO_paid ok ou hz
    rcases four_ways 2 hq with f | f | ⟨n, l, f1, f2, f⟩ | ⟨r, or, f⟩
    · cases z
      · exact law_of_go mixed (E false false) [false] (mk_nil_ff k u) P rfl (.cons _ _ _ _ _ h (.cons _ _ _ _ _ g (.cons _ _ _ _ _ f (.nil _))))
      · exact law_of_go mixed (E true false) [false] (mk_nil_tf k u) P rfl (.cons _ _ _ _ _ h (.cons _ _ _ _ _ g (.cons _ _ _ _ _ f (.nil _))))
    · cases z
      · exact law_of_go mixed (E false false) [false] (mk_emp_ff k u) P rfl (.cons _ _ _ _ _ h (.cons _ _ _ _ _ g (.cons _ _ _ _ _ f (.nil _))))
      · exact law_of_go mixed (E true false) [false] (mk_emp_tf k u) P rfl (.cons _ _ _ _ _ h (.cons _ _ _ _ _ g (.cons _ _ _ _ _ f (.nil _))))
    · cases z
      · exact law_of_go mixed (E false false) [false] (mk_buf_ff k u n l) (paid_append.2 ⟨P, paid_append.2 ⟨sbO_paid f1 f2, sbO_paid f1 f2⟩⟩) rfl (.cons _ _ _ _ _ h (.cons _ _ _ _ _ g (.cons _ _ _ _ _ f (.nil _))))
      · exact law_of_go mixed (E true false) [false] (mk_buf_tf k u n l) (paid_append.2 ⟨P, paid_append.2 ⟨sbO_paid f1 f2, sbO_paid f1 f2⟩⟩) rfl (.cons _ _ _ _ _ h (.cons _ _ _ _ _ g (.cons _ _ _ _ _ f (.nil _))))
    · by_cases hr : mulB k r = zer
      · cases z
        · exact law_of_go mixed (E false true) [false, true] (mk_ok_ft k u r) (paid_append.2 ⟨P, paid_cons (decide_eq_true hr) (paid_cons (decide_eq_true hr) Paid.nil)⟩) rfl (.cons _ _ _ _ _ h (.cons _ _ _ _ _ g (.cons _ _ _ _ _ f (.nil _))))
        · exact law_of_go mixed (E true true) [false, true] (mk_ok_tt k u r) (paid_append.2 ⟨P, paid_cons (decide_eq_true hr) (paid_cons (decide_eq_true hr) Paid.nil)⟩) rfl (.cons _ _ _ _ _ h (.cons _ _ _ _ _ g (.cons _ _ _ _ _ f (.nil _))))
      · cases z
        · exact law_of_go mixed (E false false) [false, false] (mk_ok_ff k u r) (paid_append.2 ⟨P, paid_cons (by rw [decide_eq_false hr]; rfl) (paid_cons (by rw [decide_eq_false hr]; rfl) Paid.nil)⟩) (decide_eq_true rfl) (.cons _ _ _ _ _ h (.cons _ _ _ _ _ g (.cons _ _ _ _ _ f (.nil _))))
        · exact law_of_go mixed (E true false) [false, false] (mk_ok_tf k u r) (paid_append.2 ⟨P, paid_cons (by rw [decide_eq_false hr]; rfl) (paid_cons (by rw [decide_eq_false hr]; rfl) Paid.nil)⟩) (decide_eq_true rfl) (.cons _ _ _ _ _ h (.cons _ _ _ _ _ g (.cons _ _ _ _ _ f (.nil _))))

theorem montyShares_lifted (os : Os) (started : os.Started) (H : Type) (enc : TypeId × Value → H) :
    ReturnsInHanded {} Tryd.checked os 4 .any (fun w args => (Rows.montySharesSpec.pre enc Tryd.prog Tryd.f4 Rows.montySharesRow.domain false w args ∧ laidMetH Tryd.prog Rows.montyEdgesRow.laid w) ∧ sizedMet enc Tryd.prog Tryd.f4 (OpenSpec.ofChange Rows.montySharesSpec) false w args)
      (Rows.montySharesSpec.post enc Tryd.prog Tryd.f4 false true false false) := by
  refine returnsInHanded_of_change_and (C := Tryd.checked) (X := fun w _ => laidMetH Tryd.prog Rows.montyEdgesRow.laid w) (fun _ _ _ hh h => h.of_heap hh) own started (by kernel_rfl) Tryd.func4
    (ChangeSpec.witness_shaped (enc := enc) (C := Tryd.checked) (os := os) (X := fun w _ => laidMetH Tryd.prog Rows.montyEdgesRow.laid w) false (World.laidAll Tryd.prog os Rows.montyEdgesRow.laid) #[.slice none 0 0, .slice none 0 0, .slice none 0 0] 8 (World.laidAll_os _ _ _)
      (World.shaped_of_ZipB (by kernel_rfl) (by kernel_rfl)) (by kernel_rfl) (by kernel_rfl) (by kernel_rfl)
      (by rw [MakeChecks.laidMetH_plain _ _ _ (by kernel_rfl)]; exact laidMet_laidAll _ (by kernel_rfl) (by kernel_rfl))) ?_
  intro W base args ds gs before hval0 hW _ hsz hL _
  have hT : TRep W := trep_of hL
  have hval : ∀ (j : Nat) t v, Tryd.f4.params[j]? = some t → args[j]? = some v → Value.okWide Tryd.prog W .any base t v := hval0
  have hW' := hW
  obtain ⟨p, q, hA0, hV, rfl, hfz, hnd⟩ := hW
  have hA : DataW.TrodAll enc Tryd.prog W 0 (fun _ => true) true Tryd.f4.params.toList args.toList ds p := hA0
  rw [Tryd.params4] at hA hval
  obtain ⟨v0, v1, v2, d0, d1, d2, p0, p1, p2, hargs, rfl, rfl, g0, g1, g2⟩ := trodAll_three hA
  have hargs' : args = #[v0, v1, v2] := by simpa using hargs
  subst hargs'
  obtain ⟨rfl, rfl⟩ := trodVars_none hV
  have hv0 := nums_open Tryd.underlying22 Tryd.underlying5 (by kernel_rfl) (hval 0 _ v0 rfl rfl) g0
  have hv1 := nums_open Tryd.underlying22 Tryd.underlying5 (by kernel_rfl) (hval 1 _ v1 rfl rfl) g1
  have hv2 := nums_open Tryd.underlying22 Tryd.underlying5 (by kernel_rfl) (hval 2 _ v2 rfl rfl) g2
  refine (montyShares_calls W hT hv0 hv1 hv2).mono fun e W' ⟨he, hb⟩ => ?_
  exact ⟨_, he, post_of_law laidOut (by rw [Tryd.params4]; decide +kernel) hW' rfl rfl Tryd.underlying4 rfl rfl rfl hb⟩

theorem montyShares_holds : Rows.MontySharesSaid :=
  OpenClaim.holds_of_wide 4 Tryd.f4 rfl rfl rfl rfl rfl rfl rfl ⟨rfl, rfl, rfl, rfl, rfl⟩ rfl rfl rfl rfl rfl (by kernel_rfl) Tryd.func4 (by kernel_rfl)
    (of_decide_eq_true (by kernel_rfl)) (by unfold Func.isWrapper; first | (rw [if_pos (by decide +kernel)]; kernel_rfl) | (rw [if_neg (by decide +kernel)]; exact ⟨rfl, rfl⟩))
    (fun os started H enc _ => montyShares_lifted os started H enc)
theorem montyShares_card_holds : Rows.MontySharesCardSaid :=
  Claim7.holds_tied_plain_at .later [] [.data] true (true, "3a745010d6eb0f352dc2f4fabe89269b797367cebd2582267ae2147497439cd0") false montyShares_holds (fun _ h => by cases h) (by kernel_rfl) (fun _ h => by cases h) montyShares_row_tie rfl ⟨rfl, rfl⟩ (by kernel_rfl) rfl
    (fun f fn hf hfn => by
      obtain rfl : f = 4 := Option.some.inj (hf.symm.trans (by kernel_rfl))
      obtain rfl : fn = Tryd.f4 := (Option.some.inj (Tryd.func4.symm.trans hfn)).symm
      exact ⟨by kernel_rfl, fun j t ht => by
        rw [Tryd.params4] at ht
        have hm : t ∈ [22, 22, 22] := by simpa using Array.mem_of_getElem? ht
        have hall : ([22, 22, 22].all fun u => !Tryd.prog.wantsStandIn u) = true := by kernel_rfl
        exact (show Tryd.prog.wantsStandIn t = false by simpa using List.all_eq_true.1 hall t hm)⟩)
    (by kernel_rfl)
end Go.Proofs.YthddlnldjbijmaaDoor
