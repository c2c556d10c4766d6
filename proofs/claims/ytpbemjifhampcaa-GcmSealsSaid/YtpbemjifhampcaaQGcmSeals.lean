/- What is sealed is the reference's; keys and nonces that may not be are refused: for every job the law answers true. No condition. -/
import Derived.Test.YtpbemjifhampcaaQGcSa
import Derived.Test.YtpbemjifhampcaaQGcSb
import Derived.Test.YtpbemjifhampcaaQAesL
set_option linter.unusedSimpArgs false
set_option linter.unusedVariables false
set_option linter.unusedSectionVars false
namespace Go.Proofs.Ytpbemjifhampcaa
open Go.Ev Go.Sh Go.As Go.Gc
open Go.ChangeShapes Go.WideShapes Go.ChangeAt Go.RowKit
set_option maxRecDepth 100000
theorem no_or (b : Bool) : (!b || b) = true := by cases b <;> rfl
theorem nn_or (b : Bool) : (!!b || !b) = true := by cases b <;> rfl
theorem on_or (b : Bool) : (b || !b) = true := by cases b <;> rfl
theorem or_big (b : Bool) {x : Bool} (h : x = true) : (!b || x) = true := by rw [h]; cases b <;> rfl
theorem or_big2 (b : Bool) {x : Bool} (h : x = true) : (!!b || x) = true := by rw [h]; cases b <;> rfl
theorem unmarkB {W : World} {j n : Nat} {k : IntKind} {l : List Int} {v : Value} (h : ∃ L, VOk W j L (.buf true k n l) v) : ∃ L, VOk W j L (.buf false k n l) v := by
  obtain ⟨L, h1, h2⟩ := h
  refine ⟨L, fun ρ N hρ hN => ?_, fun b hb => ⟨fun hrw => ?_, (h2 b hb).2⟩⟩
  · have hr := h1 ρ N hρ hN
    cases hr with
    | slice _ _ _ _ _ _ c ad hn hc hl hw had => exact .slice false _ _ _ _ _ c ad hn hc hl hw had
  · cases hb; cases hrw
theorem put4 (xs : List V) (vs : List Value) (ρ : Nat → Loc3) (N : Nat → Prop) (h : Reps ρ N (cArgs 0 xs) vs) : Reps ρ N [.agg (cArgs 0 xs)] [.agg vs.toArray] := .cons _ _ _ _ (.agg _ _ h) .nil
theorem gcmSeals_calls {vs : List Value} {W0 : World} (k0 : vs.length = 4) (r0 : ∀ (i : Nat) (u : Value), vs[i]? = some u → Nums W0 .u8 reachBytes u) (W : World) (hW : W0 = W := by rfl) :
    Calls Try.prog 3 #[.agg vs.toArray] W (fun e w' => e = .returned (.bool true) ∧ Below W.heap.size W w') := by
  subst hW
  obtain ⟨v0, v1, v2, v3, rfl⟩ : ∃ v0 v1 v2 v3, vs = [v0, v1, v2, v3] := by
    match vs, k0 with
    | [a, b, c, d], _ => exact ⟨a, b, c, d, rfl⟩
  have LO : ∀ (k0 : Nat) (fn : Func) (c : Code), Try.prog.funcs[3]? = some fn → fn.body = some c → LOkN k0 Try.prog c (fun _ _ => none) := fun k0 fn c hf hb => LOkN.none
  have fin : ∀ {H : CallH} {xs : List V} {ds : List Bool} {o : List Bool} {s b : Bool}, HOk Try.prog H → res ((funcL Try.prog qP (deep Try.prog qP H 100 5) (fun _ _ => none) 100 3 [.agg (cArgs 0 xs)] (cMem xs)).go ds) = some (o, .bool s b) → Paid o → b = true → VOks W0 0 xs [v0, v1, v2, v3] → noW xs = true → Calls Try.prog 3 #[.agg #[v0, v1, v2, v3]] W0 (fun e w' => e = .returned (.bool true) ∧ Below W0.heap.size W0 w') :=
    fun {H xs ds o s b} hH h ho hb hv hw => law_of_goP (avs := [.agg #[v0, v1, v2, v3]]) mixed (hH.deep mixed noCount 100 5) (LO _) ds h ho hb hv (put4 xs _) hw
  rcases VOk.bytes (W := W0) 0 (r0 0 v0 rfl) with g0 | g0 | ⟨i, k, hi1, hi2, hi3, hi4, g0⟩ <;> rcases VOk.bytes (W := W0) 1 (r0 1 v1 rfl) with g1 | g1 | ⟨j, l, hj1, hj2, hj3, hj4, g1⟩ <;> rcases VOk.bytes (W := W0) 2 (r0 2 v2 rfl) with g2 | g2 | ⟨m, a, hm1, hm2, hm3, hm4, g2⟩ <;> rcases VOk.bytes (W := W0) 3 (r0 3 v3 rfl) with g3 | g3 | ⟨n, p, hn1, hn2, hn3, hr4, g3⟩
  · exact fin hTx_ok (ds := []) (sls_x_nnnn) (Paid.nil) rfl (.cons _ _ _ _ _ g0 (.cons _ _ _ _ _ g1 (.cons _ _ _ _ _ g2 (.cons _ _ _ _ _ g3 (.nil _))))) rfl
  · exact fin hTx_ok (ds := []) (sls_x_nnne) (Paid.nil) rfl (.cons _ _ _ _ _ g0 (.cons _ _ _ _ _ g1 (.cons _ _ _ _ _ g2 (.cons _ _ _ _ _ g3 (.nil _))))) rfl
  · have bn : n ≤ 140737488351232 := hn2
    exact fin hTx_ok (ds := []) (sls_x_nnnb n p) (paid_cons (decide_eq_true (by omega)) (paid_cons (decide_eq_true (by omega)) (Paid.nil))) rfl (.cons _ _ _ _ _ g0 (.cons _ _ _ _ _ g1 (.cons _ _ _ _ _ g2 (.cons _ _ _ _ _ g3 (.nil _))))) rfl
  · exact fin hTx_ok (ds := []) (sls_x_nnen) (Paid.nil) rfl (.cons _ _ _ _ _ g0 (.cons _ _ _ _ _ g1 (.cons _ _ _ _ _ g2 (.cons _ _ _ _ _ g3 (.nil _))))) rfl
  · exact fin hTx_ok (ds := []) (sls_x_nnee) (Paid.nil) rfl (.cons _ _ _ _ _ g0 (.cons _ _ _ _ _ g1 (.cons _ _ _ _ _ g2 (.cons _ _ _ _ _ g3 (.nil _))))) rfl
  · have bn : n ≤ 140737488351232 := hn2
    exact fin hTx_ok (ds := []) (sls_x_nneb n p) (paid_cons (decide_eq_true (by omega)) (paid_cons (decide_eq_true (by omega)) (Paid.nil))) rfl (.cons _ _ _ _ _ g0 (.cons _ _ _ _ _ g1 (.cons _ _ _ _ _ g2 (.cons _ _ _ _ _ g3 (.nil _))))) rfl
  · have bm : m ≤ 140737488351232 := hm2
    exact fin hTx_ok (ds := []) (sls_x_nnbn m a) (paid_cons (decide_eq_true (by omega)) (paid_cons (decide_eq_true (by omega)) (Paid.nil))) rfl (.cons _ _ _ _ _ g0 (.cons _ _ _ _ _ g1 (.cons _ _ _ _ _ g2 (.cons _ _ _ _ _ g3 (.nil _))))) rfl
  · have bm : m ≤ 140737488351232 := hm2
    exact fin hTx_ok (ds := []) (sls_x_nnbe m a) (paid_cons (decide_eq_true (by omega)) (paid_cons (decide_eq_true (by omega)) (Paid.nil))) rfl (.cons _ _ _ _ _ g0 (.cons _ _ _ _ _ g1 (.cons _ _ _ _ _ g2 (.cons _ _ _ _ _ g3 (.nil _))))) rfl
  · have bm : m ≤ 140737488351232 := hm2
    have bn : n ≤ 140737488351232 := hn2
    exact fin hTx_ok (ds := []) (sls_x_nnbb m a n p) (paid_cons (decide_eq_true (by omega)) (paid_cons (decide_eq_true (by omega)) (paid_cons (decide_eq_true (by omega)) (paid_cons (decide_eq_true (by omega)) (Paid.nil))))) rfl (.cons _ _ _ _ _ g0 (.cons _ _ _ _ _ g1 (.cons _ _ _ _ _ g2 (.cons _ _ _ _ _ g3 (.nil _))))) rfl
  · exact fin hTx_ok (ds := []) (sls_x_nenn) (Paid.nil) rfl (.cons _ _ _ _ _ g0 (.cons _ _ _ _ _ g1 (.cons _ _ _ _ _ g2 (.cons _ _ _ _ _ g3 (.nil _))))) rfl
  · exact fin hTx_ok (ds := []) (sls_x_nene) (Paid.nil) rfl (.cons _ _ _ _ _ g0 (.cons _ _ _ _ _ g1 (.cons _ _ _ _ _ g2 (.cons _ _ _ _ _ g3 (.nil _))))) rfl
  · have bn : n ≤ 140737488351232 := hn2
    exact fin hTx_ok (ds := []) (sls_x_nenb n p) (paid_cons (decide_eq_true (by omega)) (paid_cons (decide_eq_true (by omega)) (Paid.nil))) rfl (.cons _ _ _ _ _ g0 (.cons _ _ _ _ _ g1 (.cons _ _ _ _ _ g2 (.cons _ _ _ _ _ g3 (.nil _))))) rfl
  · exact fin hTx_ok (ds := []) (sls_x_neen) (Paid.nil) rfl (.cons _ _ _ _ _ g0 (.cons _ _ _ _ _ g1 (.cons _ _ _ _ _ g2 (.cons _ _ _ _ _ g3 (.nil _))))) rfl
  · exact fin hTx_ok (ds := []) (sls_x_neee) (Paid.nil) rfl (.cons _ _ _ _ _ g0 (.cons _ _ _ _ _ g1 (.cons _ _ _ _ _ g2 (.cons _ _ _ _ _ g3 (.nil _))))) rfl
  · have bn : n ≤ 140737488351232 := hn2
    exact fin hTx_ok (ds := []) (sls_x_neeb n p) (paid_cons (decide_eq_true (by omega)) (paid_cons (decide_eq_true (by omega)) (Paid.nil))) rfl (.cons _ _ _ _ _ g0 (.cons _ _ _ _ _ g1 (.cons _ _ _ _ _ g2 (.cons _ _ _ _ _ g3 (.nil _))))) rfl
  · have bm : m ≤ 140737488351232 := hm2
    exact fin hTx_ok (ds := []) (sls_x_nebn m a) (paid_cons (decide_eq_true (by omega)) (paid_cons (decide_eq_true (by omega)) (Paid.nil))) rfl (.cons _ _ _ _ _ g0 (.cons _ _ _ _ _ g1 (.cons _ _ _ _ _ g2 (.cons _ _ _ _ _ g3 (.nil _))))) rfl
  · have bm : m ≤ 140737488351232 := hm2
    exact fin hTx_ok (ds := []) (sls_x_nebe m a) (paid_cons (decide_eq_true (by omega)) (paid_cons (decide_eq_true (by omega)) (Paid.nil))) rfl (.cons _ _ _ _ _ g0 (.cons _ _ _ _ _ g1 (.cons _ _ _ _ _ g2 (.cons _ _ _ _ _ g3 (.nil _))))) rfl
  · have bm : m ≤ 140737488351232 := hm2
    have bn : n ≤ 140737488351232 := hn2
    exact fin hTx_ok (ds := []) (sls_x_nebb m a n p) (paid_cons (decide_eq_true (by omega)) (paid_cons (decide_eq_true (by omega)) (paid_cons (decide_eq_true (by omega)) (paid_cons (decide_eq_true (by omega)) (Paid.nil))))) rfl (.cons _ _ _ _ _ g0 (.cons _ _ _ _ _ g1 (.cons _ _ _ _ _ g2 (.cons _ _ _ _ _ g3 (.nil _))))) rfl
  · have bj : j ≤ 140737488351232 := hj2
    exact fin hTx_ok (ds := []) (sls_x_nbnn j l) (paid_cons (decide_eq_true (by omega)) (paid_cons (decide_eq_true (by omega)) (Paid.nil))) rfl (.cons _ _ _ _ _ g0 (.cons _ _ _ _ _ g1 (.cons _ _ _ _ _ g2 (.cons _ _ _ _ _ g3 (.nil _))))) rfl
  · have bj : j ≤ 140737488351232 := hj2
    exact fin hTx_ok (ds := []) (sls_x_nbne j l) (paid_cons (decide_eq_true (by omega)) (paid_cons (decide_eq_true (by omega)) (Paid.nil))) rfl (.cons _ _ _ _ _ g0 (.cons _ _ _ _ _ g1 (.cons _ _ _ _ _ g2 (.cons _ _ _ _ _ g3 (.nil _))))) rfl
  · have bj : j ≤ 140737488351232 := hj2
    have bn : n ≤ 140737488351232 := hn2
    exact fin hTx_ok (ds := []) (sls_x_nbnb j l n p) (paid_cons (decide_eq_true (by omega)) (paid_cons (decide_eq_true (by omega)) (paid_cons (decide_eq_true (by omega)) (paid_cons (decide_eq_true (by omega)) (Paid.nil))))) rfl (.cons _ _ _ _ _ g0 (.cons _ _ _ _ _ g1 (.cons _ _ _ _ _ g2 (.cons _ _ _ _ _ g3 (.nil _))))) rfl
  · have bj : j ≤ 140737488351232 := hj2
    exact fin hTx_ok (ds := []) (sls_x_nben j l) (paid_cons (decide_eq_true (by omega)) (paid_cons (decide_eq_true (by omega)) (Paid.nil))) rfl (.cons _ _ _ _ _ g0 (.cons _ _ _ _ _ g1 (.cons _ _ _ _ _ g2 (.cons _ _ _ _ _ g3 (.nil _))))) rfl
  · have bj : j ≤ 140737488351232 := hj2
    exact fin hTx_ok (ds := []) (sls_x_nbee j l) (paid_cons (decide_eq_true (by omega)) (paid_cons (decide_eq_true (by omega)) (Paid.nil))) rfl (.cons _ _ _ _ _ g0 (.cons _ _ _ _ _ g1 (.cons _ _ _ _ _ g2 (.cons _ _ _ _ _ g3 (.nil _))))) rfl
  · have bj : j ≤ 140737488351232 := hj2
    have bn : n ≤ 140737488351232 := hn2
    exact fin hTx_ok (ds := []) (sls_x_nbeb j l n p) (paid_cons (decide_eq_true (by omega)) (paid_cons (decide_eq_true (by omega)) (paid_cons (decide_eq_true (by omega)) (paid_cons (decide_eq_true (by omega)) (Paid.nil))))) rfl (.cons _ _ _ _ _ g0 (.cons _ _ _ _ _ g1 (.cons _ _ _ _ _ g2 (.cons _ _ _ _ _ g3 (.nil _))))) rfl
  · have bj : j ≤ 140737488351232 := hj2
    have bm : m ≤ 140737488351232 := hm2
    exact fin hTx_ok (ds := []) (sls_x_nbbn j l m a) (paid_cons (decide_eq_true (by omega)) (paid_cons (decide_eq_true (by omega)) (paid_cons (decide_eq_true (by omega)) (paid_cons (decide_eq_true (by omega)) (Paid.nil))))) rfl (.cons _ _ _ _ _ g0 (.cons _ _ _ _ _ g1 (.cons _ _ _ _ _ g2 (.cons _ _ _ _ _ g3 (.nil _))))) rfl
  · have bj : j ≤ 140737488351232 := hj2
    have bm : m ≤ 140737488351232 := hm2
    exact fin hTx_ok (ds := []) (sls_x_nbbe j l m a) (paid_cons (decide_eq_true (by omega)) (paid_cons (decide_eq_true (by omega)) (paid_cons (decide_eq_true (by omega)) (paid_cons (decide_eq_true (by omega)) (Paid.nil))))) rfl (.cons _ _ _ _ _ g0 (.cons _ _ _ _ _ g1 (.cons _ _ _ _ _ g2 (.cons _ _ _ _ _ g3 (.nil _))))) rfl
  · have bj : j ≤ 140737488351232 := hj2
    have bm : m ≤ 140737488351232 := hm2
    have bn : n ≤ 140737488351232 := hn2
    exact fin hTx_ok (ds := []) (sls_x_nbbb j l m a n p) (paid_cons (decide_eq_true (by omega)) (paid_cons (decide_eq_true (by omega)) (paid_cons (decide_eq_true (by omega)) (paid_cons (decide_eq_true (by omega)) (paid_cons (decide_eq_true (by omega)) (paid_cons (decide_eq_true (by omega)) (Paid.nil))))))) rfl (.cons _ _ _ _ _ g0 (.cons _ _ _ _ _ g1 (.cons _ _ _ _ _ g2 (.cons _ _ _ _ _ g3 (.nil _))))) rfl
  · exact fin hTx_ok (ds := []) (sls_x_ennn) (Paid.nil) rfl (.cons _ _ _ _ _ g0 (.cons _ _ _ _ _ g1 (.cons _ _ _ _ _ g2 (.cons _ _ _ _ _ g3 (.nil _))))) rfl
  · exact fin hTx_ok (ds := []) (sls_x_enne) (Paid.nil) rfl (.cons _ _ _ _ _ g0 (.cons _ _ _ _ _ g1 (.cons _ _ _ _ _ g2 (.cons _ _ _ _ _ g3 (.nil _))))) rfl
  · have bn : n ≤ 140737488351232 := hn2
    exact fin hTx_ok (ds := []) (sls_x_ennb n p) (paid_cons (decide_eq_true (by omega)) (paid_cons (decide_eq_true (by omega)) (Paid.nil))) rfl (.cons _ _ _ _ _ g0 (.cons _ _ _ _ _ g1 (.cons _ _ _ _ _ g2 (.cons _ _ _ _ _ g3 (.nil _))))) rfl
  · exact fin hTx_ok (ds := []) (sls_x_enen) (Paid.nil) rfl (.cons _ _ _ _ _ g0 (.cons _ _ _ _ _ g1 (.cons _ _ _ _ _ g2 (.cons _ _ _ _ _ g3 (.nil _))))) rfl
  · exact fin hTx_ok (ds := []) (sls_x_enee) (Paid.nil) rfl (.cons _ _ _ _ _ g0 (.cons _ _ _ _ _ g1 (.cons _ _ _ _ _ g2 (.cons _ _ _ _ _ g3 (.nil _))))) rfl
  · have bn : n ≤ 140737488351232 := hn2
    exact fin hTx_ok (ds := []) (sls_x_eneb n p) (paid_cons (decide_eq_true (by omega)) (paid_cons (decide_eq_true (by omega)) (Paid.nil))) rfl (.cons _ _ _ _ _ g0 (.cons _ _ _ _ _ g1 (.cons _ _ _ _ _ g2 (.cons _ _ _ _ _ g3 (.nil _))))) rfl
  · have bm : m ≤ 140737488351232 := hm2
    exact fin hTx_ok (ds := []) (sls_x_enbn m a) (paid_cons (decide_eq_true (by omega)) (paid_cons (decide_eq_true (by omega)) (Paid.nil))) rfl (.cons _ _ _ _ _ g0 (.cons _ _ _ _ _ g1 (.cons _ _ _ _ _ g2 (.cons _ _ _ _ _ g3 (.nil _))))) rfl
  · have bm : m ≤ 140737488351232 := hm2
    exact fin hTx_ok (ds := []) (sls_x_enbe m a) (paid_cons (decide_eq_true (by omega)) (paid_cons (decide_eq_true (by omega)) (Paid.nil))) rfl (.cons _ _ _ _ _ g0 (.cons _ _ _ _ _ g1 (.cons _ _ _ _ _ g2 (.cons _ _ _ _ _ g3 (.nil _))))) rfl
  · have bm : m ≤ 140737488351232 := hm2
    have bn : n ≤ 140737488351232 := hn2
    exact fin hTx_ok (ds := []) (sls_x_enbb m a n p) (paid_cons (decide_eq_true (by omega)) (paid_cons (decide_eq_true (by omega)) (paid_cons (decide_eq_true (by omega)) (paid_cons (decide_eq_true (by omega)) (Paid.nil))))) rfl (.cons _ _ _ _ _ g0 (.cons _ _ _ _ _ g1 (.cons _ _ _ _ _ g2 (.cons _ _ _ _ _ g3 (.nil _))))) rfl
  · exact fin hTx_ok (ds := []) (sls_x_eenn) (Paid.nil) rfl (.cons _ _ _ _ _ g0 (.cons _ _ _ _ _ g1 (.cons _ _ _ _ _ g2 (.cons _ _ _ _ _ g3 (.nil _))))) rfl
  · exact fin hTx_ok (ds := []) (sls_x_eene) (Paid.nil) rfl (.cons _ _ _ _ _ g0 (.cons _ _ _ _ _ g1 (.cons _ _ _ _ _ g2 (.cons _ _ _ _ _ g3 (.nil _))))) rfl
  · have bn : n ≤ 140737488351232 := hn2
    exact fin hTx_ok (ds := []) (sls_x_eenb n p) (paid_cons (decide_eq_true (by omega)) (paid_cons (decide_eq_true (by omega)) (Paid.nil))) rfl (.cons _ _ _ _ _ g0 (.cons _ _ _ _ _ g1 (.cons _ _ _ _ _ g2 (.cons _ _ _ _ _ g3 (.nil _))))) rfl
  · exact fin hTx_ok (ds := []) (sls_x_eeen) (Paid.nil) rfl (.cons _ _ _ _ _ g0 (.cons _ _ _ _ _ g1 (.cons _ _ _ _ _ g2 (.cons _ _ _ _ _ g3 (.nil _))))) rfl
  · exact fin hTx_ok (ds := []) (sls_x_eeee) (Paid.nil) rfl (.cons _ _ _ _ _ g0 (.cons _ _ _ _ _ g1 (.cons _ _ _ _ _ g2 (.cons _ _ _ _ _ g3 (.nil _))))) rfl
  · have bn : n ≤ 140737488351232 := hn2
    exact fin hTx_ok (ds := []) (sls_x_eeeb n p) (paid_cons (decide_eq_true (by omega)) (paid_cons (decide_eq_true (by omega)) (Paid.nil))) rfl (.cons _ _ _ _ _ g0 (.cons _ _ _ _ _ g1 (.cons _ _ _ _ _ g2 (.cons _ _ _ _ _ g3 (.nil _))))) rfl
  · have bm : m ≤ 140737488351232 := hm2
    exact fin hTx_ok (ds := []) (sls_x_eebn m a) (paid_cons (decide_eq_true (by omega)) (paid_cons (decide_eq_true (by omega)) (Paid.nil))) rfl (.cons _ _ _ _ _ g0 (.cons _ _ _ _ _ g1 (.cons _ _ _ _ _ g2 (.cons _ _ _ _ _ g3 (.nil _))))) rfl
  · have bm : m ≤ 140737488351232 := hm2
    exact fin hTx_ok (ds := []) (sls_x_eebe m a) (paid_cons (decide_eq_true (by omega)) (paid_cons (decide_eq_true (by omega)) (Paid.nil))) rfl (.cons _ _ _ _ _ g0 (.cons _ _ _ _ _ g1 (.cons _ _ _ _ _ g2 (.cons _ _ _ _ _ g3 (.nil _))))) rfl
  · have bm : m ≤ 140737488351232 := hm2
    have bn : n ≤ 140737488351232 := hn2
    exact fin hTx_ok (ds := []) (sls_x_eebb m a n p) (paid_cons (decide_eq_true (by omega)) (paid_cons (decide_eq_true (by omega)) (paid_cons (decide_eq_true (by omega)) (paid_cons (decide_eq_true (by omega)) (Paid.nil))))) rfl (.cons _ _ _ _ _ g0 (.cons _ _ _ _ _ g1 (.cons _ _ _ _ _ g2 (.cons _ _ _ _ _ g3 (.nil _))))) rfl
  · have bj : j ≤ 140737488351232 := hj2
    exact fin hTx_ok (ds := []) (sls_x_ebnn j l) (paid_cons (decide_eq_true (by omega)) (paid_cons (decide_eq_true (by omega)) (Paid.nil))) rfl (.cons _ _ _ _ _ g0 (.cons _ _ _ _ _ g1 (.cons _ _ _ _ _ g2 (.cons _ _ _ _ _ g3 (.nil _))))) rfl
  · have bj : j ≤ 140737488351232 := hj2
    exact fin hTx_ok (ds := []) (sls_x_ebne j l) (paid_cons (decide_eq_true (by omega)) (paid_cons (decide_eq_true (by omega)) (Paid.nil))) rfl (.cons _ _ _ _ _ g0 (.cons _ _ _ _ _ g1 (.cons _ _ _ _ _ g2 (.cons _ _ _ _ _ g3 (.nil _))))) rfl
  · have bj : j ≤ 140737488351232 := hj2
    have bn : n ≤ 140737488351232 := hn2
    exact fin hTx_ok (ds := []) (sls_x_ebnb j l n p) (paid_cons (decide_eq_true (by omega)) (paid_cons (decide_eq_true (by omega)) (paid_cons (decide_eq_true (by omega)) (paid_cons (decide_eq_true (by omega)) (Paid.nil))))) rfl (.cons _ _ _ _ _ g0 (.cons _ _ _ _ _ g1 (.cons _ _ _ _ _ g2 (.cons _ _ _ _ _ g3 (.nil _))))) rfl
  · have bj : j ≤ 140737488351232 := hj2
    exact fin hTx_ok (ds := []) (sls_x_eben j l) (paid_cons (decide_eq_true (by omega)) (paid_cons (decide_eq_true (by omega)) (Paid.nil))) rfl (.cons _ _ _ _ _ g0 (.cons _ _ _ _ _ g1 (.cons _ _ _ _ _ g2 (.cons _ _ _ _ _ g3 (.nil _))))) rfl
  · have bj : j ≤ 140737488351232 := hj2
    exact fin hTx_ok (ds := []) (sls_x_ebee j l) (paid_cons (decide_eq_true (by omega)) (paid_cons (decide_eq_true (by omega)) (Paid.nil))) rfl (.cons _ _ _ _ _ g0 (.cons _ _ _ _ _ g1 (.cons _ _ _ _ _ g2 (.cons _ _ _ _ _ g3 (.nil _))))) rfl
  · have bj : j ≤ 140737488351232 := hj2
    have bn : n ≤ 140737488351232 := hn2
    exact fin hTx_ok (ds := []) (sls_x_ebeb j l n p) (paid_cons (decide_eq_true (by omega)) (paid_cons (decide_eq_true (by omega)) (paid_cons (decide_eq_true (by omega)) (paid_cons (decide_eq_true (by omega)) (Paid.nil))))) rfl (.cons _ _ _ _ _ g0 (.cons _ _ _ _ _ g1 (.cons _ _ _ _ _ g2 (.cons _ _ _ _ _ g3 (.nil _))))) rfl
  · have bj : j ≤ 140737488351232 := hj2
    have bm : m ≤ 140737488351232 := hm2
    exact fin hTx_ok (ds := []) (sls_x_ebbn j l m a) (paid_cons (decide_eq_true (by omega)) (paid_cons (decide_eq_true (by omega)) (paid_cons (decide_eq_true (by omega)) (paid_cons (decide_eq_true (by omega)) (Paid.nil))))) rfl (.cons _ _ _ _ _ g0 (.cons _ _ _ _ _ g1 (.cons _ _ _ _ _ g2 (.cons _ _ _ _ _ g3 (.nil _))))) rfl
  · have bj : j ≤ 140737488351232 := hj2
    have bm : m ≤ 140737488351232 := hm2
    exact fin hTx_ok (ds := []) (sls_x_ebbe j l m a) (paid_cons (decide_eq_true (by omega)) (paid_cons (decide_eq_true (by omega)) (paid_cons (decide_eq_true (by omega)) (paid_cons (decide_eq_true (by omega)) (Paid.nil))))) rfl (.cons _ _ _ _ _ g0 (.cons _ _ _ _ _ g1 (.cons _ _ _ _ _ g2 (.cons _ _ _ _ _ g3 (.nil _))))) rfl
  · have bj : j ≤ 140737488351232 := hj2
    have bm : m ≤ 140737488351232 := hm2
    have bn : n ≤ 140737488351232 := hn2
    exact fin hTx_ok (ds := []) (sls_x_ebbb j l m a n p) (paid_cons (decide_eq_true (by omega)) (paid_cons (decide_eq_true (by omega)) (paid_cons (decide_eq_true (by omega)) (paid_cons (decide_eq_true (by omega)) (paid_cons (decide_eq_true (by omega)) (paid_cons (decide_eq_true (by omega)) (Paid.nil))))))) rfl (.cons _ _ _ _ _ g0 (.cons _ _ _ _ _ g1 (.cons _ _ _ _ _ g2 (.cons _ _ _ _ _ g3 (.nil _))))) rfl
  · have bi : i ≤ 140737488351232 := hi2
    by_cases hk0 : i = 16 ∨ i = 32
    · rcases hk0 with rfl | rfl
      · exact fin (hTf_ok true) (ds := []) (sls_n_16nnn k) (Paid.nil) rfl (.cons _ _ _ _ _ (unmarkB g0) (.cons _ _ _ _ _ g1 (.cons _ _ _ _ _ g2 (.cons _ _ _ _ _ g3 (.nil _))))) rfl
      · exact fin (hTf_ok true) (ds := []) (sls_n_32nnn k) (Paid.nil) rfl (.cons _ _ _ _ _ (unmarkB g0) (.cons _ _ _ _ _ g1 (.cons _ _ _ _ _ g2 (.cons _ _ _ _ _ g3 (.nil _))))) rfl
    · exact fin hTx_ok (ds := []) (sls_x_bnnn i k) (paid_cons (decide_eq_true (by omega)) (paid_cons (by simp; omega) (paid_cons (by simp; omega) (paid_cons (decide_eq_true (by omega)) (Paid.nil))))) rfl (.cons _ _ _ _ _ g0 (.cons _ _ _ _ _ g1 (.cons _ _ _ _ _ g2 (.cons _ _ _ _ _ g3 (.nil _))))) rfl
  · have bi : i ≤ 140737488351232 := hi2
    by_cases hk0 : i = 16 ∨ i = 32
    · rcases hk0 with rfl | rfl
      · exact fin (hTf_ok true) (ds := []) (sls_n_16nne k) (Paid.nil) rfl (.cons _ _ _ _ _ (unmarkB g0) (.cons _ _ _ _ _ g1 (.cons _ _ _ _ _ g2 (.cons _ _ _ _ _ g3 (.nil _))))) rfl
      · exact fin (hTf_ok true) (ds := []) (sls_n_32nne k) (Paid.nil) rfl (.cons _ _ _ _ _ (unmarkB g0) (.cons _ _ _ _ _ g1 (.cons _ _ _ _ _ g2 (.cons _ _ _ _ _ g3 (.nil _))))) rfl
    · exact fin hTx_ok (ds := []) (sls_x_bnne i k) (paid_cons (decide_eq_true (by omega)) (paid_cons (by simp; omega) (paid_cons (by simp; omega) (paid_cons (decide_eq_true (by omega)) (Paid.nil))))) rfl (.cons _ _ _ _ _ g0 (.cons _ _ _ _ _ g1 (.cons _ _ _ _ _ g2 (.cons _ _ _ _ _ g3 (.nil _))))) rfl
  · have bi : i ≤ 140737488351232 := hi2
    have bn : n ≤ 140737488351232 := hn2
    by_cases hk0 : i = 16 ∨ i = 32
    · rcases hk0 with rfl | rfl
      · exact fin (hTf_ok true) (ds := []) (sls_n_16nnb k n p) (paid_cons (decide_eq_true (by omega)) (paid_cons (decide_eq_true (by omega)) (Paid.nil))) rfl (.cons _ _ _ _ _ (unmarkB g0) (.cons _ _ _ _ _ g1 (.cons _ _ _ _ _ g2 (.cons _ _ _ _ _ g3 (.nil _))))) rfl
      · exact fin (hTf_ok true) (ds := []) (sls_n_32nnb k n p) (paid_cons (decide_eq_true (by omega)) (paid_cons (decide_eq_true (by omega)) (Paid.nil))) rfl (.cons _ _ _ _ _ (unmarkB g0) (.cons _ _ _ _ _ g1 (.cons _ _ _ _ _ g2 (.cons _ _ _ _ _ g3 (.nil _))))) rfl
    · exact fin hTx_ok (ds := []) (sls_x_bnnb i k n p) (paid_cons (decide_eq_true (by omega)) (paid_cons (by simp; omega) (paid_cons (by simp; omega) (paid_cons (decide_eq_true (by omega)) (paid_cons (decide_eq_true (by omega)) (paid_cons (decide_eq_true (by omega)) (Paid.nil))))))) rfl (.cons _ _ _ _ _ g0 (.cons _ _ _ _ _ g1 (.cons _ _ _ _ _ g2 (.cons _ _ _ _ _ g3 (.nil _))))) rfl
  · have bi : i ≤ 140737488351232 := hi2
    by_cases hk0 : i = 16 ∨ i = 32
    · rcases hk0 with rfl | rfl
      · exact fin (hTf_ok true) (ds := []) (sls_n_16nen k) (Paid.nil) rfl (.cons _ _ _ _ _ (unmarkB g0) (.cons _ _ _ _ _ g1 (.cons _ _ _ _ _ g2 (.cons _ _ _ _ _ g3 (.nil _))))) rfl
      · exact fin (hTf_ok true) (ds := []) (sls_n_32nen k) (Paid.nil) rfl (.cons _ _ _ _ _ (unmarkB g0) (.cons _ _ _ _ _ g1 (.cons _ _ _ _ _ g2 (.cons _ _ _ _ _ g3 (.nil _))))) rfl
    · exact fin hTx_ok (ds := []) (sls_x_bnen i k) (paid_cons (decide_eq_true (by omega)) (paid_cons (by simp; omega) (paid_cons (by simp; omega) (paid_cons (decide_eq_true (by omega)) (Paid.nil))))) rfl (.cons _ _ _ _ _ g0 (.cons _ _ _ _ _ g1 (.cons _ _ _ _ _ g2 (.cons _ _ _ _ _ g3 (.nil _))))) rfl
  · have bi : i ≤ 140737488351232 := hi2
    by_cases hk0 : i = 16 ∨ i = 32
    · rcases hk0 with rfl | rfl
      · exact fin (hTf_ok true) (ds := []) (sls_n_16nee k) (Paid.nil) rfl (.cons _ _ _ _ _ (unmarkB g0) (.cons _ _ _ _ _ g1 (.cons _ _ _ _ _ g2 (.cons _ _ _ _ _ g3 (.nil _))))) rfl
      · exact fin (hTf_ok true) (ds := []) (sls_n_32nee k) (Paid.nil) rfl (.cons _ _ _ _ _ (unmarkB g0) (.cons _ _ _ _ _ g1 (.cons _ _ _ _ _ g2 (.cons _ _ _ _ _ g3 (.nil _))))) rfl
    · exact fin hTx_ok (ds := []) (sls_x_bnee i k) (paid_cons (decide_eq_true (by omega)) (paid_cons (by simp; omega) (paid_cons (by simp; omega) (paid_cons (decide_eq_true (by omega)) (Paid.nil))))) rfl (.cons _ _ _ _ _ g0 (.cons _ _ _ _ _ g1 (.cons _ _ _ _ _ g2 (.cons _ _ _ _ _ g3 (.nil _))))) rfl
  · have bi : i ≤ 140737488351232 := hi2
    have bn : n ≤ 140737488351232 := hn2
    by_cases hk0 : i = 16 ∨ i = 32
    · rcases hk0 with rfl | rfl
      · exact fin (hTf_ok true) (ds := []) (sls_n_16neb k n p) (paid_cons (decide_eq_true (by omega)) (paid_cons (decide_eq_true (by omega)) (Paid.nil))) rfl (.cons _ _ _ _ _ (unmarkB g0) (.cons _ _ _ _ _ g1 (.cons _ _ _ _ _ g2 (.cons _ _ _ _ _ g3 (.nil _))))) rfl
      · exact fin (hTf_ok true) (ds := []) (sls_n_32neb k n p) (paid_cons (decide_eq_true (by omega)) (paid_cons (decide_eq_true (by omega)) (Paid.nil))) rfl (.cons _ _ _ _ _ (unmarkB g0) (.cons _ _ _ _ _ g1 (.cons _ _ _ _ _ g2 (.cons _ _ _ _ _ g3 (.nil _))))) rfl
    · exact fin hTx_ok (ds := []) (sls_x_bneb i k n p) (paid_cons (decide_eq_true (by omega)) (paid_cons (by simp; omega) (paid_cons (by simp; omega) (paid_cons (decide_eq_true (by omega)) (paid_cons (decide_eq_true (by omega)) (paid_cons (decide_eq_true (by omega)) (Paid.nil))))))) rfl (.cons _ _ _ _ _ g0 (.cons _ _ _ _ _ g1 (.cons _ _ _ _ _ g2 (.cons _ _ _ _ _ g3 (.nil _))))) rfl
  · have bi : i ≤ 140737488351232 := hi2
    have bm : m ≤ 140737488351232 := hm2
    by_cases hk0 : i = 16 ∨ i = 32
    · rcases hk0 with rfl | rfl
      · exact fin (hTf_ok true) (ds := []) (sls_n_16nbn k m a) (paid_cons (decide_eq_true (by omega)) (paid_cons (decide_eq_true (by omega)) (Paid.nil))) rfl (.cons _ _ _ _ _ (unmarkB g0) (.cons _ _ _ _ _ g1 (.cons _ _ _ _ _ g2 (.cons _ _ _ _ _ g3 (.nil _))))) rfl
      · exact fin (hTf_ok true) (ds := []) (sls_n_32nbn k m a) (paid_cons (decide_eq_true (by omega)) (paid_cons (decide_eq_true (by omega)) (Paid.nil))) rfl (.cons _ _ _ _ _ (unmarkB g0) (.cons _ _ _ _ _ g1 (.cons _ _ _ _ _ g2 (.cons _ _ _ _ _ g3 (.nil _))))) rfl
    · exact fin hTx_ok (ds := []) (sls_x_bnbn i k m a) (paid_cons (decide_eq_true (by omega)) (paid_cons (by simp; omega) (paid_cons (by simp; omega) (paid_cons (decide_eq_true (by omega)) (paid_cons (decide_eq_true (by omega)) (paid_cons (decide_eq_true (by omega)) (Paid.nil))))))) rfl (.cons _ _ _ _ _ g0 (.cons _ _ _ _ _ g1 (.cons _ _ _ _ _ g2 (.cons _ _ _ _ _ g3 (.nil _))))) rfl
  · have bi : i ≤ 140737488351232 := hi2
    have bm : m ≤ 140737488351232 := hm2
    by_cases hk0 : i = 16 ∨ i = 32
    · rcases hk0 with rfl | rfl
      · exact fin (hTf_ok true) (ds := []) (sls_n_16nbe k m a) (paid_cons (decide_eq_true (by omega)) (paid_cons (decide_eq_true (by omega)) (Paid.nil))) rfl (.cons _ _ _ _ _ (unmarkB g0) (.cons _ _ _ _ _ g1 (.cons _ _ _ _ _ g2 (.cons _ _ _ _ _ g3 (.nil _))))) rfl
      · exact fin (hTf_ok true) (ds := []) (sls_n_32nbe k m a) (paid_cons (decide_eq_true (by omega)) (paid_cons (decide_eq_true (by omega)) (Paid.nil))) rfl (.cons _ _ _ _ _ (unmarkB g0) (.cons _ _ _ _ _ g1 (.cons _ _ _ _ _ g2 (.cons _ _ _ _ _ g3 (.nil _))))) rfl
    · exact fin hTx_ok (ds := []) (sls_x_bnbe i k m a) (paid_cons (decide_eq_true (by omega)) (paid_cons (by simp; omega) (paid_cons (by simp; omega) (paid_cons (decide_eq_true (by omega)) (paid_cons (decide_eq_true (by omega)) (paid_cons (decide_eq_true (by omega)) (Paid.nil))))))) rfl (.cons _ _ _ _ _ g0 (.cons _ _ _ _ _ g1 (.cons _ _ _ _ _ g2 (.cons _ _ _ _ _ g3 (.nil _))))) rfl
  · have bi : i ≤ 140737488351232 := hi2
    have bm : m ≤ 140737488351232 := hm2
    have bn : n ≤ 140737488351232 := hn2
    by_cases hk0 : i = 16 ∨ i = 32
    · rcases hk0 with rfl | rfl
      · exact fin (hTf_ok true) (ds := []) (sls_n_16nbb k m a n p) (paid_cons (decide_eq_true (by omega)) (paid_cons (decide_eq_true (by omega)) (paid_cons (decide_eq_true (by omega)) (paid_cons (decide_eq_true (by omega)) (Paid.nil))))) rfl (.cons _ _ _ _ _ (unmarkB g0) (.cons _ _ _ _ _ g1 (.cons _ _ _ _ _ g2 (.cons _ _ _ _ _ g3 (.nil _))))) rfl
      · exact fin (hTf_ok true) (ds := []) (sls_n_32nbb k m a n p) (paid_cons (decide_eq_true (by omega)) (paid_cons (decide_eq_true (by omega)) (paid_cons (decide_eq_true (by omega)) (paid_cons (decide_eq_true (by omega)) (Paid.nil))))) rfl (.cons _ _ _ _ _ (unmarkB g0) (.cons _ _ _ _ _ g1 (.cons _ _ _ _ _ g2 (.cons _ _ _ _ _ g3 (.nil _))))) rfl
    · exact fin hTx_ok (ds := []) (sls_x_bnbb i k m a n p) (paid_cons (decide_eq_true (by omega)) (paid_cons (by simp; omega) (paid_cons (by simp; omega) (paid_cons (decide_eq_true (by omega)) (paid_cons (decide_eq_true (by omega)) (paid_cons (decide_eq_true (by omega)) (paid_cons (decide_eq_true (by omega)) (paid_cons (decide_eq_true (by omega)) (Paid.nil))))))))) rfl (.cons _ _ _ _ _ g0 (.cons _ _ _ _ _ g1 (.cons _ _ _ _ _ g2 (.cons _ _ _ _ _ g3 (.nil _))))) rfl
  · have bi : i ≤ 140737488351232 := hi2
    by_cases hk0 : i = 16 ∨ i = 32
    · rcases hk0 with rfl | rfl
      · exact fin (hTf_ok true) (ds := []) (sls_n_16enn k) (Paid.nil) rfl (.cons _ _ _ _ _ (unmarkB g0) (.cons _ _ _ _ _ g1 (.cons _ _ _ _ _ g2 (.cons _ _ _ _ _ g3 (.nil _))))) rfl
      · exact fin (hTf_ok true) (ds := []) (sls_n_32enn k) (Paid.nil) rfl (.cons _ _ _ _ _ (unmarkB g0) (.cons _ _ _ _ _ g1 (.cons _ _ _ _ _ g2 (.cons _ _ _ _ _ g3 (.nil _))))) rfl
    · exact fin hTx_ok (ds := []) (sls_x_benn i k) (paid_cons (decide_eq_true (by omega)) (paid_cons (by simp; omega) (paid_cons (by simp; omega) (paid_cons (decide_eq_true (by omega)) (Paid.nil))))) rfl (.cons _ _ _ _ _ g0 (.cons _ _ _ _ _ g1 (.cons _ _ _ _ _ g2 (.cons _ _ _ _ _ g3 (.nil _))))) rfl
  · have bi : i ≤ 140737488351232 := hi2
    by_cases hk0 : i = 16 ∨ i = 32
    · rcases hk0 with rfl | rfl
      · exact fin (hTf_ok true) (ds := []) (sls_n_16ene k) (Paid.nil) rfl (.cons _ _ _ _ _ (unmarkB g0) (.cons _ _ _ _ _ g1 (.cons _ _ _ _ _ g2 (.cons _ _ _ _ _ g3 (.nil _))))) rfl
      · exact fin (hTf_ok true) (ds := []) (sls_n_32ene k) (Paid.nil) rfl (.cons _ _ _ _ _ (unmarkB g0) (.cons _ _ _ _ _ g1 (.cons _ _ _ _ _ g2 (.cons _ _ _ _ _ g3 (.nil _))))) rfl
    · exact fin hTx_ok (ds := []) (sls_x_bene i k) (paid_cons (decide_eq_true (by omega)) (paid_cons (by simp; omega) (paid_cons (by simp; omega) (paid_cons (decide_eq_true (by omega)) (Paid.nil))))) rfl (.cons _ _ _ _ _ g0 (.cons _ _ _ _ _ g1 (.cons _ _ _ _ _ g2 (.cons _ _ _ _ _ g3 (.nil _))))) rfl
  · have bi : i ≤ 140737488351232 := hi2
    have bn : n ≤ 140737488351232 := hn2
    by_cases hk0 : i = 16 ∨ i = 32
    · rcases hk0 with rfl | rfl
      · exact fin (hTf_ok true) (ds := []) (sls_n_16enb k n p) (paid_cons (decide_eq_true (by omega)) (paid_cons (decide_eq_true (by omega)) (Paid.nil))) rfl (.cons _ _ _ _ _ (unmarkB g0) (.cons _ _ _ _ _ g1 (.cons _ _ _ _ _ g2 (.cons _ _ _ _ _ g3 (.nil _))))) rfl
      · exact fin (hTf_ok true) (ds := []) (sls_n_32enb k n p) (paid_cons (decide_eq_true (by omega)) (paid_cons (decide_eq_true (by omega)) (Paid.nil))) rfl (.cons _ _ _ _ _ (unmarkB g0) (.cons _ _ _ _ _ g1 (.cons _ _ _ _ _ g2 (.cons _ _ _ _ _ g3 (.nil _))))) rfl
    · exact fin hTx_ok (ds := []) (sls_x_benb i k n p) (paid_cons (decide_eq_true (by omega)) (paid_cons (by simp; omega) (paid_cons (by simp; omega) (paid_cons (decide_eq_true (by omega)) (paid_cons (decide_eq_true (by omega)) (paid_cons (decide_eq_true (by omega)) (Paid.nil))))))) rfl (.cons _ _ _ _ _ g0 (.cons _ _ _ _ _ g1 (.cons _ _ _ _ _ g2 (.cons _ _ _ _ _ g3 (.nil _))))) rfl
  · have bi : i ≤ 140737488351232 := hi2
    by_cases hk0 : i = 16 ∨ i = 32
    · rcases hk0 with rfl | rfl
      · exact fin (hTf_ok true) (ds := []) (sls_n_16een k) (Paid.nil) rfl (.cons _ _ _ _ _ (unmarkB g0) (.cons _ _ _ _ _ g1 (.cons _ _ _ _ _ g2 (.cons _ _ _ _ _ g3 (.nil _))))) rfl
      · exact fin (hTf_ok true) (ds := []) (sls_n_32een k) (Paid.nil) rfl (.cons _ _ _ _ _ (unmarkB g0) (.cons _ _ _ _ _ g1 (.cons _ _ _ _ _ g2 (.cons _ _ _ _ _ g3 (.nil _))))) rfl
    · exact fin hTx_ok (ds := []) (sls_x_been i k) (paid_cons (decide_eq_true (by omega)) (paid_cons (by simp; omega) (paid_cons (by simp; omega) (paid_cons (decide_eq_true (by omega)) (Paid.nil))))) rfl (.cons _ _ _ _ _ g0 (.cons _ _ _ _ _ g1 (.cons _ _ _ _ _ g2 (.cons _ _ _ _ _ g3 (.nil _))))) rfl
  · have bi : i ≤ 140737488351232 := hi2
    by_cases hk0 : i = 16 ∨ i = 32
    · rcases hk0 with rfl | rfl
      · exact fin (hTf_ok true) (ds := []) (sls_n_16eee k) (Paid.nil) rfl (.cons _ _ _ _ _ (unmarkB g0) (.cons _ _ _ _ _ g1 (.cons _ _ _ _ _ g2 (.cons _ _ _ _ _ g3 (.nil _))))) rfl
      · exact fin (hTf_ok true) (ds := []) (sls_n_32eee k) (Paid.nil) rfl (.cons _ _ _ _ _ (unmarkB g0) (.cons _ _ _ _ _ g1 (.cons _ _ _ _ _ g2 (.cons _ _ _ _ _ g3 (.nil _))))) rfl
    · exact fin hTx_ok (ds := []) (sls_x_beee i k) (paid_cons (decide_eq_true (by omega)) (paid_cons (by simp; omega) (paid_cons (by simp; omega) (paid_cons (decide_eq_true (by omega)) (Paid.nil))))) rfl (.cons _ _ _ _ _ g0 (.cons _ _ _ _ _ g1 (.cons _ _ _ _ _ g2 (.cons _ _ _ _ _ g3 (.nil _))))) rfl
  · have bi : i ≤ 140737488351232 := hi2
    have bn : n ≤ 140737488351232 := hn2
    by_cases hk0 : i = 16 ∨ i = 32
    · rcases hk0 with rfl | rfl
      · exact fin (hTf_ok true) (ds := []) (sls_n_16eeb k n p) (paid_cons (decide_eq_true (by omega)) (paid_cons (decide_eq_true (by omega)) (Paid.nil))) rfl (.cons _ _ _ _ _ (unmarkB g0) (.cons _ _ _ _ _ g1 (.cons _ _ _ _ _ g2 (.cons _ _ _ _ _ g3 (.nil _))))) rfl
      · exact fin (hTf_ok true) (ds := []) (sls_n_32eeb k n p) (paid_cons (decide_eq_true (by omega)) (paid_cons (decide_eq_true (by omega)) (Paid.nil))) rfl (.cons _ _ _ _ _ (unmarkB g0) (.cons _ _ _ _ _ g1 (.cons _ _ _ _ _ g2 (.cons _ _ _ _ _ g3 (.nil _))))) rfl
    · exact fin hTx_ok (ds := []) (sls_x_beeb i k n p) (paid_cons (decide_eq_true (by omega)) (paid_cons (by simp; omega) (paid_cons (by simp; omega) (paid_cons (decide_eq_true (by omega)) (paid_cons (decide_eq_true (by omega)) (paid_cons (decide_eq_true (by omega)) (Paid.nil))))))) rfl (.cons _ _ _ _ _ g0 (.cons _ _ _ _ _ g1 (.cons _ _ _ _ _ g2 (.cons _ _ _ _ _ g3 (.nil _))))) rfl
  · have bi : i ≤ 140737488351232 := hi2
    have bm : m ≤ 140737488351232 := hm2
    by_cases hk0 : i = 16 ∨ i = 32
    · rcases hk0 with rfl | rfl
      · exact fin (hTf_ok true) (ds := []) (sls_n_16ebn k m a) (paid_cons (decide_eq_true (by omega)) (paid_cons (decide_eq_true (by omega)) (Paid.nil))) rfl (.cons _ _ _ _ _ (unmarkB g0) (.cons _ _ _ _ _ g1 (.cons _ _ _ _ _ g2 (.cons _ _ _ _ _ g3 (.nil _))))) rfl
      · exact fin (hTf_ok true) (ds := []) (sls_n_32ebn k m a) (paid_cons (decide_eq_true (by omega)) (paid_cons (decide_eq_true (by omega)) (Paid.nil))) rfl (.cons _ _ _ _ _ (unmarkB g0) (.cons _ _ _ _ _ g1 (.cons _ _ _ _ _ g2 (.cons _ _ _ _ _ g3 (.nil _))))) rfl
    · exact fin hTx_ok (ds := []) (sls_x_bebn i k m a) (paid_cons (decide_eq_true (by omega)) (paid_cons (by simp; omega) (paid_cons (by simp; omega) (paid_cons (decide_eq_true (by omega)) (paid_cons (decide_eq_true (by omega)) (paid_cons (decide_eq_true (by omega)) (Paid.nil))))))) rfl (.cons _ _ _ _ _ g0 (.cons _ _ _ _ _ g1 (.cons _ _ _ _ _ g2 (.cons _ _ _ _ _ g3 (.nil _))))) rfl
  · have bi : i ≤ 140737488351232 := hi2
    have bm : m ≤ 140737488351232 := hm2
    by_cases hk0 : i = 16 ∨ i = 32
    · rcases hk0 with rfl | rfl
      · exact fin (hTf_ok true) (ds := []) (sls_n_16ebe k m a) (paid_cons (decide_eq_true (by omega)) (paid_cons (decide_eq_true (by omega)) (Paid.nil))) rfl (.cons _ _ _ _ _ (unmarkB g0) (.cons _ _ _ _ _ g1 (.cons _ _ _ _ _ g2 (.cons _ _ _ _ _ g3 (.nil _))))) rfl
      · exact fin (hTf_ok true) (ds := []) (sls_n_32ebe k m a) (paid_cons (decide_eq_true (by omega)) (paid_cons (decide_eq_true (by omega)) (Paid.nil))) rfl (.cons _ _ _ _ _ (unmarkB g0) (.cons _ _ _ _ _ g1 (.cons _ _ _ _ _ g2 (.cons _ _ _ _ _ g3 (.nil _))))) rfl
    · exact fin hTx_ok (ds := []) (sls_x_bebe i k m a) (paid_cons (decide_eq_true (by omega)) (paid_cons (by simp; omega) (paid_cons (by simp; omega) (paid_cons (decide_eq_true (by omega)) (paid_cons (decide_eq_true (by omega)) (paid_cons (decide_eq_true (by omega)) (Paid.nil))))))) rfl (.cons _ _ _ _ _ g0 (.cons _ _ _ _ _ g1 (.cons _ _ _ _ _ g2 (.cons _ _ _ _ _ g3 (.nil _))))) rfl
  · have bi : i ≤ 140737488351232 := hi2
    have bm : m ≤ 140737488351232 := hm2
    have bn : n ≤ 140737488351232 := hn2
    by_cases hk0 : i = 16 ∨ i = 32
    · rcases hk0 with rfl | rfl
      · exact fin (hTf_ok true) (ds := []) (sls_n_16ebb k m a n p) (paid_cons (decide_eq_true (by omega)) (paid_cons (decide_eq_true (by omega)) (paid_cons (decide_eq_true (by omega)) (paid_cons (decide_eq_true (by omega)) (Paid.nil))))) rfl (.cons _ _ _ _ _ (unmarkB g0) (.cons _ _ _ _ _ g1 (.cons _ _ _ _ _ g2 (.cons _ _ _ _ _ g3 (.nil _))))) rfl
      · exact fin (hTf_ok true) (ds := []) (sls_n_32ebb k m a n p) (paid_cons (decide_eq_true (by omega)) (paid_cons (decide_eq_true (by omega)) (paid_cons (decide_eq_true (by omega)) (paid_cons (decide_eq_true (by omega)) (Paid.nil))))) rfl (.cons _ _ _ _ _ (unmarkB g0) (.cons _ _ _ _ _ g1 (.cons _ _ _ _ _ g2 (.cons _ _ _ _ _ g3 (.nil _))))) rfl
    · exact fin hTx_ok (ds := []) (sls_x_bebb i k m a n p) (paid_cons (decide_eq_true (by omega)) (paid_cons (by simp; omega) (paid_cons (by simp; omega) (paid_cons (decide_eq_true (by omega)) (paid_cons (decide_eq_true (by omega)) (paid_cons (decide_eq_true (by omega)) (paid_cons (decide_eq_true (by omega)) (paid_cons (decide_eq_true (by omega)) (Paid.nil))))))))) rfl (.cons _ _ _ _ _ g0 (.cons _ _ _ _ _ g1 (.cons _ _ _ _ _ g2 (.cons _ _ _ _ _ g3 (.nil _))))) rfl
  · have bi : i ≤ 140737488351232 := hi2
    have bj : j ≤ 140737488351232 := hj2
    by_cases hk0 : i = 16 ∨ i = 32
    · rcases hk0 with rfl | rfl
      · have hkl : k.length = 4 * 4 := by omega
        have hB : ∀ x ∈ k, B8 x := fun x hx => inR_b8 (hi4 x hx)
        have hall : (specW 4 k 44).all (inR .u8) = true := List.all_eq_true.2 fun x hx => b8_inR (specW_b8 4 hB 44 x hx)
        by_cases hj0 : j = 12
        · subst hj0
          have hD : (true == true) = true := rfl
          exact fin (hTf_ok true) (ds := []) (sls_d_16nn k l) (paid_cons (hD) (paid_cons (decide_eq_true (specW_len 4 k 44)) (paid_cons (hall) (paid_cons (decide_eq_true (specW_len 4 k 44)) (paid_cons (hall) (Paid.nil)))))) (decide_eq_true (tag_same (N := 4) (by decide) hkl hB l _ _ _ _).symm) (.cons _ _ _ _ _ (unmarkB g0) (.cons _ _ _ _ _ (unmarkB g1) (.cons _ _ _ _ _ g2 (.cons _ _ _ _ _ g3 (.nil _))))) rfl
        · exact fin (hTf_ok true) (ds := [true]) (sls_n_16bnn k j l) (paid_cons (decide_eq_true (by omega)) (paid_cons (decide_eq_true (by omega)) (paid_cons (by simp; omega) (paid_cons (decide_eq_true (by omega)) (paid_cons (by simp; omega) (paid_cons (decide_eq_true (by omega)) (paid_cons (decide_eq_true (by omega)) (paid_cons (by simp; omega) (Paid.nil))))))))) rfl (.cons _ _ _ _ _ (unmarkB g0) (.cons _ _ _ _ _ g1 (.cons _ _ _ _ _ g2 (.cons _ _ _ _ _ g3 (.nil _))))) rfl
      · have hkl : k.length = 4 * 8 := by omega
        have hB : ∀ x ∈ k, B8 x := fun x hx => inR_b8 (hi4 x hx)
        have hall : (specW 8 k 60).all (inR .u8) = true := List.all_eq_true.2 fun x hx => b8_inR (specW_b8 8 hB 60 x hx)
        by_cases hj0 : j = 12
        · subst hj0
          have hD : (true == true) = true := rfl
          exact fin (hTf_ok true) (ds := []) (sls_d_32nn k l) (paid_cons (hD) (paid_cons (decide_eq_true (specW_len 8 k 60)) (paid_cons (hall) (paid_cons (decide_eq_true (specW_len 8 k 60)) (paid_cons (hall) (Paid.nil)))))) (decide_eq_true (tag_same (N := 8) (by decide) hkl hB l _ _ _ _).symm) (.cons _ _ _ _ _ (unmarkB g0) (.cons _ _ _ _ _ (unmarkB g1) (.cons _ _ _ _ _ g2 (.cons _ _ _ _ _ g3 (.nil _))))) rfl
        · exact fin (hTf_ok true) (ds := [true]) (sls_n_32bnn k j l) (paid_cons (decide_eq_true (by omega)) (paid_cons (decide_eq_true (by omega)) (paid_cons (by simp; omega) (paid_cons (decide_eq_true (by omega)) (paid_cons (by simp; omega) (paid_cons (decide_eq_true (by omega)) (paid_cons (decide_eq_true (by omega)) (paid_cons (by simp; omega) (Paid.nil))))))))) rfl (.cons _ _ _ _ _ (unmarkB g0) (.cons _ _ _ _ _ g1 (.cons _ _ _ _ _ g2 (.cons _ _ _ _ _ g3 (.nil _))))) rfl
    · exact fin hTx_ok (ds := []) (sls_x_bbnn i k j l) (paid_cons (decide_eq_true (by omega)) (paid_cons (by simp; omega) (paid_cons (by simp; omega) (paid_cons (decide_eq_true (by omega)) (paid_cons (decide_eq_true (by omega)) (paid_cons (decide_eq_true (by omega)) (Paid.nil))))))) rfl (.cons _ _ _ _ _ g0 (.cons _ _ _ _ _ g1 (.cons _ _ _ _ _ g2 (.cons _ _ _ _ _ g3 (.nil _))))) rfl
  · have bi : i ≤ 140737488351232 := hi2
    have bj : j ≤ 140737488351232 := hj2
    by_cases hk0 : i = 16 ∨ i = 32
    · rcases hk0 with rfl | rfl
      · have hkl : k.length = 4 * 4 := by omega
        have hB : ∀ x ∈ k, B8 x := fun x hx => inR_b8 (hi4 x hx)
        have hall : (specW 4 k 44).all (inR .u8) = true := List.all_eq_true.2 fun x hx => b8_inR (specW_b8 4 hB 44 x hx)
        by_cases hj0 : j = 12
        · subst hj0
          have hD : (true == true) = true := rfl
          exact fin (hTf_ok true) (ds := []) (sls_d_16ne k l) (paid_cons (hD) (paid_cons (decide_eq_true (specW_len 4 k 44)) (paid_cons (hall) (paid_cons (decide_eq_true (specW_len 4 k 44)) (paid_cons (hall) (Paid.nil)))))) (decide_eq_true (tag_same (N := 4) (by decide) hkl hB l _ _ _ _).symm) (.cons _ _ _ _ _ (unmarkB g0) (.cons _ _ _ _ _ (unmarkB g1) (.cons _ _ _ _ _ g2 (.cons _ _ _ _ _ g3 (.nil _))))) rfl
        · exact fin (hTf_ok true) (ds := [true]) (sls_n_16bne k j l) (paid_cons (decide_eq_true (by omega)) (paid_cons (decide_eq_true (by omega)) (paid_cons (by simp; omega) (paid_cons (decide_eq_true (by omega)) (paid_cons (by simp; omega) (paid_cons (decide_eq_true (by omega)) (paid_cons (decide_eq_true (by omega)) (paid_cons (by simp; omega) (Paid.nil))))))))) rfl (.cons _ _ _ _ _ (unmarkB g0) (.cons _ _ _ _ _ g1 (.cons _ _ _ _ _ g2 (.cons _ _ _ _ _ g3 (.nil _))))) rfl
      · have hkl : k.length = 4 * 8 := by omega
        have hB : ∀ x ∈ k, B8 x := fun x hx => inR_b8 (hi4 x hx)
        have hall : (specW 8 k 60).all (inR .u8) = true := List.all_eq_true.2 fun x hx => b8_inR (specW_b8 8 hB 60 x hx)
        by_cases hj0 : j = 12
        · subst hj0
          have hD : (true == true) = true := rfl
          exact fin (hTf_ok true) (ds := []) (sls_d_32ne k l) (paid_cons (hD) (paid_cons (decide_eq_true (specW_len 8 k 60)) (paid_cons (hall) (paid_cons (decide_eq_true (specW_len 8 k 60)) (paid_cons (hall) (Paid.nil)))))) (decide_eq_true (tag_same (N := 8) (by decide) hkl hB l _ _ _ _).symm) (.cons _ _ _ _ _ (unmarkB g0) (.cons _ _ _ _ _ (unmarkB g1) (.cons _ _ _ _ _ g2 (.cons _ _ _ _ _ g3 (.nil _))))) rfl
        · exact fin (hTf_ok true) (ds := [true]) (sls_n_32bne k j l) (paid_cons (decide_eq_true (by omega)) (paid_cons (decide_eq_true (by omega)) (paid_cons (by simp; omega) (paid_cons (decide_eq_true (by omega)) (paid_cons (by simp; omega) (paid_cons (decide_eq_true (by omega)) (paid_cons (decide_eq_true (by omega)) (paid_cons (by simp; omega) (Paid.nil))))))))) rfl (.cons _ _ _ _ _ (unmarkB g0) (.cons _ _ _ _ _ g1 (.cons _ _ _ _ _ g2 (.cons _ _ _ _ _ g3 (.nil _))))) rfl
    · exact fin hTx_ok (ds := []) (sls_x_bbne i k j l) (paid_cons (decide_eq_true (by omega)) (paid_cons (by simp; omega) (paid_cons (by simp; omega) (paid_cons (decide_eq_true (by omega)) (paid_cons (decide_eq_true (by omega)) (paid_cons (decide_eq_true (by omega)) (Paid.nil))))))) rfl (.cons _ _ _ _ _ g0 (.cons _ _ _ _ _ g1 (.cons _ _ _ _ _ g2 (.cons _ _ _ _ _ g3 (.nil _))))) rfl
  · have bi : i ≤ 140737488351232 := hi2
    have bj : j ≤ 140737488351232 := hj2
    have bn : n ≤ 140737488351232 := hn2
    by_cases hk0 : i = 16 ∨ i = 32
    · rcases hk0 with rfl | rfl
      · have hkl : k.length = 4 * 4 := by omega
        have hB : ∀ x ∈ k, B8 x := fun x hx => inR_b8 (hi4 x hx)
        have hall : (specW 4 k 44).all (inR .u8) = true := List.all_eq_true.2 fun x hx => b8_inR (specW_b8 4 hB 44 x hx)
        by_cases hj0 : j = 12
        · subst hj0
          have hp1 : p.length = n := by omega
          by_cases hf : n ≤ 300
          · have hTR : (tuR (specW 4 k 44) (rds false) l p n ((n + 15) / 16)).length = n := by rw [tuR_len _ _ _ _ (by omega) _ (Nat.le_refl _)]; omega
            have hD : (decide ((n : Int) ≤ 300) == true) = true := by rw [decide_eq_true (show ((n : Int) ≤ 300) by omega)]; rfl
            exact fin (hTf_ok true) (ds := []) (sls_d_16nb k l n p) (paid_cons (decide_eq_true (by omega)) (paid_cons (decide_eq_true (by omega)) (paid_cons (decide_eq_true (by omega)) (paid_cons (hD) (paid_cons (decide_eq_true (by rw [sealB_len]; omega)) (paid_cons (rfl) (paid_cons (decide_eq_true hn1) (paid_cons (decide_eq_true (by omega)) (paid_cons (decide_eq_true (Nat.le_refl _)) (paid_cons (decide_eq_true (specW_len 4 k 44)) (paid_cons (hall) (paid_cons (rfl) (paid_cons (rfl) (paid_cons (rfl) (paid_cons (rfl) (paid_cons (rfl) (paid_cons (rfl) (paid_cons (rfl) (paid_cons (rfl) (paid_cons (rfl) (paid_cons (rfl) (paid_cons (rfl) (paid_cons (rfl) (paid_cons (decide_eq_true rfl) (paid_cons (rfl) (paid_cons (rfl) (paid_cons (rfl) (paid_cons (rfl) (paid_cons (rfl) (paid_cons (decide_eq_true rfl) (paid_cons (rfl) (paid_cons (rfl) (paid_cons (rfl) (paid_cons (rfl) (paid_cons (rfl) (paid_cons (rfl) (paid_cons (rfl) (paid_cons (decide_eq_true (specW_len 4 k 44)) (paid_cons (hall) (paid_cons (decide_eq_true (by omega)) (paid_cons (decide_eq_true (by rw [hTR]; omega)) (paid_cons (decide_eq_true (specW_len 4 k 44)) (paid_cons (hall) (paid_cons (decide_eq_true (by omega)) (paid_cons (decide_eq_true (by rw [hTR]; omega)) (paid_cons (decide_eq_true (by rw [List.length_append, List.length_take, List.length_drop, show ((tagR (specW 4 k 44) (rds false) l [] 0 (((tuR (specW 4 k 44) (rds false) l p n ((n + 15) / 16)).drop 0).take (tuR (specW 4 k 44) (rds false) l p n ((n + 15) / 16)).length) (tuR (specW 4 k 44) (rds false) l p n ((n + 15) / 16)).length)).length = 16 from x16_len _ _]; omega)) (Paid.nil))))))))))))))))))))))))))))))))))))))))))))))) (by
          have e1 : (tuR (specW 4 k 44) (rds false) l p n ((n + 15) / 16)) = cvL (keyL 4 k) (rds false) l p n := by rw [show (specW 4 k 44) = specW 4 k (4 * (4 + 7)) from rfl]; exact (turn_same (N := 4) (by decide) hkl hB l p (by omega) _ (Nat.le_refl _)).trans (by rw [show min (16 * ((n + 15) / 16)) n = n by omega]; rfl)
          have hT : ∀ x y q z, tagR (specW 4 k 44) (rds false) l x y q z = tagB (keyL 4 k) (rds false) l x y q z := fun x y q z => tag_same (N := 4) (by decide) hkl hB l x y q z
          rw [hT, e1, cvL_len]
          simp only [List.drop_zero]
          rw [List.take_of_length_le (show p.length ≤ n by omega), List.take_of_length_le (Nat.le_of_eq (sealB_len ..))]
          refine decide_eq_true ?_
          have e2 : (cvL (keyL 4 k) (rds false) l p n).take n = cvL (keyL 4 k) (rds false) l p n := List.take_of_length_le (by rw [cvL_len]; omega)
          have e3 : ∀ z : List Int, z.length = n + 16 → z.take (n + 16) = z := fun z h => List.take_of_length_le (Nat.le_of_eq h)
          rw [e2, e3 _ (by rw [List.length_append, cvL_len, tagB_len])]
          rfl) (.cons _ _ _ _ _ (unmarkB g0) (.cons _ _ _ _ _ (unmarkB g1) (.cons _ _ _ _ _ g2 (.cons _ _ _ _ _ g3 (.nil _))))) rfl
          · have hD : (decide ((n : Int) ≤ 300) == false) = true := by
              cases ee : decide ((n : Int) ≤ 300) <;> first | rfl | (exfalso; apply hf; simp only [decide_eq_true_eq, decide_eq_false_iff_not] at ee; omega)
            exact fin (hTf_ok false) (ds := []) (sls_c_16nb k l n p) (paid_cons (decide_eq_true (by omega)) (paid_cons (decide_eq_true (by omega)) (paid_cons (decide_eq_true (by omega)) (paid_cons (hD) (Paid.nil))))) rfl (.cons _ _ _ _ _ (unmarkB g0) (.cons _ _ _ _ _ (unmarkB g1) (.cons _ _ _ _ _ g2 (.cons _ _ _ _ _ g3 (.nil _))))) rfl
        · exact fin (hTf_ok true) (ds := [true]) (sls_n_16bnb k j l n p) (paid_cons (decide_eq_true (by omega)) (paid_cons (decide_eq_true (by omega)) (paid_cons (decide_eq_true (by omega)) (paid_cons (by simp; omega) (paid_cons (decide_eq_true (by omega)) (paid_cons (by simp; omega) (paid_cons (decide_eq_true (by omega)) (paid_cons (decide_eq_true (by omega)) (paid_cons (decide_eq_true (by omega)) (paid_cons (by simp; omega) (Paid.nil))))))))))) rfl (.cons _ _ _ _ _ (unmarkB g0) (.cons _ _ _ _ _ g1 (.cons _ _ _ _ _ g2 (.cons _ _ _ _ _ g3 (.nil _))))) rfl
      · have hkl : k.length = 4 * 8 := by omega
        have hB : ∀ x ∈ k, B8 x := fun x hx => inR_b8 (hi4 x hx)
        have hall : (specW 8 k 60).all (inR .u8) = true := List.all_eq_true.2 fun x hx => b8_inR (specW_b8 8 hB 60 x hx)
        by_cases hj0 : j = 12
        · subst hj0
          have hp1 : p.length = n := by omega
          by_cases hf : n ≤ 300
          · have hTR : (tuR (specW 8 k 60) (rds true) l p n ((n + 15) / 16)).length = n := by rw [tuR_len _ _ _ _ (by omega) _ (Nat.le_refl _)]; omega
            have hD : (decide ((n : Int) ≤ 300) == true) = true := by rw [decide_eq_true (show ((n : Int) ≤ 300) by omega)]; rfl
            exact fin (hTf_ok true) (ds := []) (sls_d_32nb k l n p) (paid_cons (decide_eq_true (by omega)) (paid_cons (decide_eq_true (by omega)) (paid_cons (decide_eq_true (by omega)) (paid_cons (hD) (paid_cons (decide_eq_true (by rw [sealB_len]; omega)) (paid_cons (rfl) (paid_cons (decide_eq_true hn1) (paid_cons (decide_eq_true (by omega)) (paid_cons (decide_eq_true (Nat.le_refl _)) (paid_cons (decide_eq_true (specW_len 8 k 60)) (paid_cons (hall) (paid_cons (rfl) (paid_cons (rfl) (paid_cons (rfl) (paid_cons (rfl) (paid_cons (rfl) (paid_cons (rfl) (paid_cons (rfl) (paid_cons (rfl) (paid_cons (rfl) (paid_cons (rfl) (paid_cons (rfl) (paid_cons (rfl) (paid_cons (decide_eq_true rfl) (paid_cons (rfl) (paid_cons (rfl) (paid_cons (rfl) (paid_cons (rfl) (paid_cons (rfl) (paid_cons (decide_eq_true rfl) (paid_cons (rfl) (paid_cons (rfl) (paid_cons (rfl) (paid_cons (rfl) (paid_cons (rfl) (paid_cons (rfl) (paid_cons (rfl) (paid_cons (decide_eq_true (specW_len 8 k 60)) (paid_cons (hall) (paid_cons (decide_eq_true (by omega)) (paid_cons (decide_eq_true (by rw [hTR]; omega)) (paid_cons (decide_eq_true (specW_len 8 k 60)) (paid_cons (hall) (paid_cons (decide_eq_true (by omega)) (paid_cons (decide_eq_true (by rw [hTR]; omega)) (paid_cons (decide_eq_true (by rw [List.length_append, List.length_take, List.length_drop, show ((tagR (specW 8 k 60) (rds true) l [] 0 (((tuR (specW 8 k 60) (rds true) l p n ((n + 15) / 16)).drop 0).take (tuR (specW 8 k 60) (rds true) l p n ((n + 15) / 16)).length) (tuR (specW 8 k 60) (rds true) l p n ((n + 15) / 16)).length)).length = 16 from x16_len _ _]; omega)) (Paid.nil))))))))))))))))))))))))))))))))))))))))))))))) (by
          have e1 : (tuR (specW 8 k 60) (rds true) l p n ((n + 15) / 16)) = cvL (keyL 8 k) (rds true) l p n := by rw [show (specW 8 k 60) = specW 8 k (4 * (8 + 7)) from rfl]; exact (turn_same (N := 8) (by decide) hkl hB l p (by omega) _ (Nat.le_refl _)).trans (by rw [show min (16 * ((n + 15) / 16)) n = n by omega]; rfl)
          have hT : ∀ x y q z, tagR (specW 8 k 60) (rds true) l x y q z = tagB (keyL 8 k) (rds true) l x y q z := fun x y q z => tag_same (N := 8) (by decide) hkl hB l x y q z
          rw [hT, e1, cvL_len]
          simp only [List.drop_zero]
          rw [List.take_of_length_le (show p.length ≤ n by omega), List.take_of_length_le (Nat.le_of_eq (sealB_len ..))]
          refine decide_eq_true ?_
          have e2 : (cvL (keyL 8 k) (rds true) l p n).take n = cvL (keyL 8 k) (rds true) l p n := List.take_of_length_le (by rw [cvL_len]; omega)
          have e3 : ∀ z : List Int, z.length = n + 16 → z.take (n + 16) = z := fun z h => List.take_of_length_le (Nat.le_of_eq h)
          rw [e2, e3 _ (by rw [List.length_append, cvL_len, tagB_len])]
          rfl) (.cons _ _ _ _ _ (unmarkB g0) (.cons _ _ _ _ _ (unmarkB g1) (.cons _ _ _ _ _ g2 (.cons _ _ _ _ _ g3 (.nil _))))) rfl
          · have hD : (decide ((n : Int) ≤ 300) == false) = true := by
              cases ee : decide ((n : Int) ≤ 300) <;> first | rfl | (exfalso; apply hf; simp only [decide_eq_true_eq, decide_eq_false_iff_not] at ee; omega)
            exact fin (hTf_ok false) (ds := []) (sls_c_32nb k l n p) (paid_cons (decide_eq_true (by omega)) (paid_cons (decide_eq_true (by omega)) (paid_cons (decide_eq_true (by omega)) (paid_cons (hD) (Paid.nil))))) rfl (.cons _ _ _ _ _ (unmarkB g0) (.cons _ _ _ _ _ (unmarkB g1) (.cons _ _ _ _ _ g2 (.cons _ _ _ _ _ g3 (.nil _))))) rfl
        · exact fin (hTf_ok true) (ds := [true]) (sls_n_32bnb k j l n p) (paid_cons (decide_eq_true (by omega)) (paid_cons (decide_eq_true (by omega)) (paid_cons (decide_eq_true (by omega)) (paid_cons (by simp; omega) (paid_cons (decide_eq_true (by omega)) (paid_cons (by simp; omega) (paid_cons (decide_eq_true (by omega)) (paid_cons (decide_eq_true (by omega)) (paid_cons (decide_eq_true (by omega)) (paid_cons (by simp; omega) (Paid.nil))))))))))) rfl (.cons _ _ _ _ _ (unmarkB g0) (.cons _ _ _ _ _ g1 (.cons _ _ _ _ _ g2 (.cons _ _ _ _ _ g3 (.nil _))))) rfl
    · exact fin hTx_ok (ds := []) (sls_x_bbnb i k j l n p) (paid_cons (decide_eq_true (by omega)) (paid_cons (by simp; omega) (paid_cons (by simp; omega) (paid_cons (decide_eq_true (by omega)) (paid_cons (decide_eq_true (by omega)) (paid_cons (decide_eq_true (by omega)) (paid_cons (decide_eq_true (by omega)) (paid_cons (decide_eq_true (by omega)) (Paid.nil))))))))) rfl (.cons _ _ _ _ _ g0 (.cons _ _ _ _ _ g1 (.cons _ _ _ _ _ g2 (.cons _ _ _ _ _ g3 (.nil _))))) rfl
  · have bi : i ≤ 140737488351232 := hi2
    have bj : j ≤ 140737488351232 := hj2
    by_cases hk0 : i = 16 ∨ i = 32
    · rcases hk0 with rfl | rfl
      · have hkl : k.length = 4 * 4 := by omega
        have hB : ∀ x ∈ k, B8 x := fun x hx => inR_b8 (hi4 x hx)
        have hall : (specW 4 k 44).all (inR .u8) = true := List.all_eq_true.2 fun x hx => b8_inR (specW_b8 4 hB 44 x hx)
        by_cases hj0 : j = 12
        · subst hj0
          have hD : (true == true) = true := rfl
          exact fin (hTf_ok true) (ds := []) (sls_d_16en k l) (paid_cons (hD) (paid_cons (decide_eq_true (specW_len 4 k 44)) (paid_cons (hall) (paid_cons (decide_eq_true (specW_len 4 k 44)) (paid_cons (hall) (Paid.nil)))))) (decide_eq_true (tag_same (N := 4) (by decide) hkl hB l _ _ _ _).symm) (.cons _ _ _ _ _ (unmarkB g0) (.cons _ _ _ _ _ (unmarkB g1) (.cons _ _ _ _ _ g2 (.cons _ _ _ _ _ g3 (.nil _))))) rfl
        · exact fin (hTf_ok true) (ds := [true]) (sls_n_16ben k j l) (paid_cons (decide_eq_true (by omega)) (paid_cons (decide_eq_true (by omega)) (paid_cons (by simp; omega) (paid_cons (decide_eq_true (by omega)) (paid_cons (by simp; omega) (paid_cons (decide_eq_true (by omega)) (paid_cons (decide_eq_true (by omega)) (paid_cons (by simp; omega) (Paid.nil))))))))) rfl (.cons _ _ _ _ _ (unmarkB g0) (.cons _ _ _ _ _ g1 (.cons _ _ _ _ _ g2 (.cons _ _ _ _ _ g3 (.nil _))))) rfl
      · have hkl : k.length = 4 * 8 := by omega
        have hB : ∀ x ∈ k, B8 x := fun x hx => inR_b8 (hi4 x hx)
        have hall : (specW 8 k 60).all (inR .u8) = true := List.all_eq_true.2 fun x hx => b8_inR (specW_b8 8 hB 60 x hx)
        by_cases hj0 : j = 12
        · subst hj0
          have hD : (true == true) = true := rfl
          exact fin (hTf_ok true) (ds := []) (sls_d_32en k l) (paid_cons (hD) (paid_cons (decide_eq_true (specW_len 8 k 60)) (paid_cons (hall) (paid_cons (decide_eq_true (specW_len 8 k 60)) (paid_cons (hall) (Paid.nil)))))) (decide_eq_true (tag_same (N := 8) (by decide) hkl hB l _ _ _ _).symm) (.cons _ _ _ _ _ (unmarkB g0) (.cons _ _ _ _ _ (unmarkB g1) (.cons _ _ _ _ _ g2 (.cons _ _ _ _ _ g3 (.nil _))))) rfl
        · exact fin (hTf_ok true) (ds := [true]) (sls_n_32ben k j l) (paid_cons (decide_eq_true (by omega)) (paid_cons (decide_eq_true (by omega)) (paid_cons (by simp; omega) (paid_cons (decide_eq_true (by omega)) (paid_cons (by simp; omega) (paid_cons (decide_eq_true (by omega)) (paid_cons (decide_eq_true (by omega)) (paid_cons (by simp; omega) (Paid.nil))))))))) rfl (.cons _ _ _ _ _ (unmarkB g0) (.cons _ _ _ _ _ g1 (.cons _ _ _ _ _ g2 (.cons _ _ _ _ _ g3 (.nil _))))) rfl
    · exact fin hTx_ok (ds := []) (sls_x_bben i k j l) (paid_cons (decide_eq_true (by omega)) (paid_cons (by simp; omega) (paid_cons (by simp; omega) (paid_cons (decide_eq_true (by omega)) (paid_cons (decide_eq_true (by omega)) (paid_cons (decide_eq_true (by omega)) (Paid.nil))))))) rfl (.cons _ _ _ _ _ g0 (.cons _ _ _ _ _ g1 (.cons _ _ _ _ _ g2 (.cons _ _ _ _ _ g3 (.nil _))))) rfl
  · have bi : i ≤ 140737488351232 := hi2
    have bj : j ≤ 140737488351232 := hj2
    by_cases hk0 : i = 16 ∨ i = 32
    · rcases hk0 with rfl | rfl
      · have hkl : k.length = 4 * 4 := by omega
        have hB : ∀ x ∈ k, B8 x := fun x hx => inR_b8 (hi4 x hx)
        have hall : (specW 4 k 44).all (inR .u8) = true := List.all_eq_true.2 fun x hx => b8_inR (specW_b8 4 hB 44 x hx)
        by_cases hj0 : j = 12
        · subst hj0
          have hD : (true == true) = true := rfl
          exact fin (hTf_ok true) (ds := []) (sls_d_16ee k l) (paid_cons (hD) (paid_cons (decide_eq_true (specW_len 4 k 44)) (paid_cons (hall) (paid_cons (decide_eq_true (specW_len 4 k 44)) (paid_cons (hall) (Paid.nil)))))) (decide_eq_true (tag_same (N := 4) (by decide) hkl hB l _ _ _ _).symm) (.cons _ _ _ _ _ (unmarkB g0) (.cons _ _ _ _ _ (unmarkB g1) (.cons _ _ _ _ _ g2 (.cons _ _ _ _ _ g3 (.nil _))))) rfl
        · exact fin (hTf_ok true) (ds := [true]) (sls_n_16bee k j l) (paid_cons (decide_eq_true (by omega)) (paid_cons (decide_eq_true (by omega)) (paid_cons (by simp; omega) (paid_cons (decide_eq_true (by omega)) (paid_cons (by simp; omega) (paid_cons (decide_eq_true (by omega)) (paid_cons (decide_eq_true (by omega)) (paid_cons (by simp; omega) (Paid.nil))))))))) rfl (.cons _ _ _ _ _ (unmarkB g0) (.cons _ _ _ _ _ g1 (.cons _ _ _ _ _ g2 (.cons _ _ _ _ _ g3 (.nil _))))) rfl
      · have hkl : k.length = 4 * 8 := by omega
        have hB : ∀ x ∈ k, B8 x := fun x hx => inR_b8 (hi4 x hx)
        have hall : (specW 8 k 60).all (inR .u8) = true := List.all_eq_true.2 fun x hx => b8_inR (specW_b8 8 hB 60 x hx)
        by_cases hj0 : j = 12
        · subst hj0
          have hD : (true == true) = true := rfl
          exact fin (hTf_ok true) (ds := []) (sls_d_32ee k l) (paid_cons (hD) (paid_cons (decide_eq_true (specW_len 8 k 60)) (paid_cons (hall) (paid_cons (decide_eq_true (specW_len 8 k 60)) (paid_cons (hall) (Paid.nil)))))) (decide_eq_true (tag_same (N := 8) (by decide) hkl hB l _ _ _ _).symm) (.cons _ _ _ _ _ (unmarkB g0) (.cons _ _ _ _ _ (unmarkB g1) (.cons _ _ _ _ _ g2 (.cons _ _ _ _ _ g3 (.nil _))))) rfl
        · exact fin (hTf_ok true) (ds := [true]) (sls_n_32bee k j l) (paid_cons (decide_eq_true (by omega)) (paid_cons (decide_eq_true (by omega)) (paid_cons (by simp; omega) (paid_cons (decide_eq_true (by omega)) (paid_cons (by simp; omega) (paid_cons (decide_eq_true (by omega)) (paid_cons (decide_eq_true (by omega)) (paid_cons (by simp; omega) (Paid.nil))))))))) rfl (.cons _ _ _ _ _ (unmarkB g0) (.cons _ _ _ _ _ g1 (.cons _ _ _ _ _ g2 (.cons _ _ _ _ _ g3 (.nil _))))) rfl
    · exact fin hTx_ok (ds := []) (sls_x_bbee i k j l) (paid_cons (decide_eq_true (by omega)) (paid_cons (by simp; omega) (paid_cons (by simp; omega) (paid_cons (decide_eq_true (by omega)) (paid_cons (decide_eq_true (by omega)) (paid_cons (decide_eq_true (by omega)) (Paid.nil))))))) rfl (.cons _ _ _ _ _ g0 (.cons _ _ _ _ _ g1 (.cons _ _ _ _ _ g2 (.cons _ _ _ _ _ g3 (.nil _))))) rfl
  · have bi : i ≤ 140737488351232 := hi2
    have bj : j ≤ 140737488351232 := hj2
    have bn : n ≤ 140737488351232 := hn2
    by_cases hk0 : i = 16 ∨ i = 32
    · rcases hk0 with rfl | rfl
      · have hkl : k.length = 4 * 4 := by omega
        have hB : ∀ x ∈ k, B8 x := fun x hx => inR_b8 (hi4 x hx)
        have hall : (specW 4 k 44).all (inR .u8) = true := List.all_eq_true.2 fun x hx => b8_inR (specW_b8 4 hB 44 x hx)
        by_cases hj0 : j = 12
        · subst hj0
          have hp1 : p.length = n := by omega
          by_cases hf : n ≤ 300
          · have hTR : (tuR (specW 4 k 44) (rds false) l p n ((n + 15) / 16)).length = n := by rw [tuR_len _ _ _ _ (by omega) _ (Nat.le_refl _)]; omega
            have hD : (decide ((n : Int) ≤ 300) == true) = true := by rw [decide_eq_true (show ((n : Int) ≤ 300) by omega)]; rfl
            exact fin (hTf_ok true) (ds := []) (sls_d_16eb k l n p) (paid_cons (decide_eq_true (by omega)) (paid_cons (decide_eq_true (by omega)) (paid_cons (decide_eq_true (by omega)) (paid_cons (hD) (paid_cons (decide_eq_true (by rw [sealB_len]; omega)) (paid_cons (rfl) (paid_cons (decide_eq_true hn1) (paid_cons (decide_eq_true (by omega)) (paid_cons (decide_eq_true (Nat.le_refl _)) (paid_cons (decide_eq_true (specW_len 4 k 44)) (paid_cons (hall) (paid_cons (rfl) (paid_cons (rfl) (paid_cons (rfl) (paid_cons (rfl) (paid_cons (rfl) (paid_cons (rfl) (paid_cons (rfl) (paid_cons (rfl) (paid_cons (rfl) (paid_cons (rfl) (paid_cons (rfl) (paid_cons (rfl) (paid_cons (decide_eq_true rfl) (paid_cons (rfl) (paid_cons (rfl) (paid_cons (rfl) (paid_cons (rfl) (paid_cons (rfl) (paid_cons (decide_eq_true rfl) (paid_cons (rfl) (paid_cons (rfl) (paid_cons (rfl) (paid_cons (rfl) (paid_cons (rfl) (paid_cons (rfl) (paid_cons (rfl) (paid_cons (rfl) (paid_cons (decide_eq_true (specW_len 4 k 44)) (paid_cons (hall) (paid_cons (decide_eq_true (by omega)) (paid_cons (decide_eq_true (by rw [hTR]; omega)) (paid_cons (decide_eq_true (specW_len 4 k 44)) (paid_cons (hall) (paid_cons (decide_eq_true (by omega)) (paid_cons (decide_eq_true (by rw [hTR]; omega)) (paid_cons (decide_eq_true (by rw [List.length_append, List.length_take, List.length_drop, show ((tagR (specW 4 k 44) (rds false) l [] 0 (((tuR (specW 4 k 44) (rds false) l p n ((n + 15) / 16)).drop 0).take (tuR (specW 4 k 44) (rds false) l p n ((n + 15) / 16)).length) (tuR (specW 4 k 44) (rds false) l p n ((n + 15) / 16)).length)).length = 16 from x16_len _ _]; omega)) (Paid.nil)))))))))))))))))))))))))))))))))))))))))))))))) (by
          have e1 : (tuR (specW 4 k 44) (rds false) l p n ((n + 15) / 16)) = cvL (keyL 4 k) (rds false) l p n := by rw [show (specW 4 k 44) = specW 4 k (4 * (4 + 7)) from rfl]; exact (turn_same (N := 4) (by decide) hkl hB l p (by omega) _ (Nat.le_refl _)).trans (by rw [show min (16 * ((n + 15) / 16)) n = n by omega]; rfl)
          have hT : ∀ x y q z, tagR (specW 4 k 44) (rds false) l x y q z = tagB (keyL 4 k) (rds false) l x y q z := fun x y q z => tag_same (N := 4) (by decide) hkl hB l x y q z
          rw [hT, e1, cvL_len]
          simp only [List.drop_zero]
          rw [List.take_of_length_le (show p.length ≤ n by omega), List.take_of_length_le (Nat.le_of_eq (sealB_len ..))]
          refine decide_eq_true ?_
          have e2 : (cvL (keyL 4 k) (rds false) l p n).take n = cvL (keyL 4 k) (rds false) l p n := List.take_of_length_le (by rw [cvL_len]; omega)
          have e3 : ∀ z : List Int, z.length = n + 16 → z.take (n + 16) = z := fun z h => List.take_of_length_le (Nat.le_of_eq h)
          rw [e2, e3 _ (by rw [List.length_append, cvL_len, tagB_len])]
          rfl) (.cons _ _ _ _ _ (unmarkB g0) (.cons _ _ _ _ _ (unmarkB g1) (.cons _ _ _ _ _ g2 (.cons _ _ _ _ _ g3 (.nil _))))) rfl
          · have hD : (decide ((n : Int) ≤ 300) == false) = true := by
              cases ee : decide ((n : Int) ≤ 300) <;> first | rfl | (exfalso; apply hf; simp only [decide_eq_true_eq, decide_eq_false_iff_not] at ee; omega)
            exact fin (hTf_ok false) (ds := []) (sls_c_16eb k l n p) (paid_cons (decide_eq_true (by omega)) (paid_cons (decide_eq_true (by omega)) (paid_cons (decide_eq_true (by omega)) (paid_cons (hD) (Paid.nil))))) rfl (.cons _ _ _ _ _ (unmarkB g0) (.cons _ _ _ _ _ (unmarkB g1) (.cons _ _ _ _ _ g2 (.cons _ _ _ _ _ g3 (.nil _))))) rfl
        · exact fin (hTf_ok true) (ds := [true]) (sls_n_16beb k j l n p) (paid_cons (decide_eq_true (by omega)) (paid_cons (decide_eq_true (by omega)) (paid_cons (decide_eq_true (by omega)) (paid_cons (by simp; omega) (paid_cons (decide_eq_true (by omega)) (paid_cons (by simp; omega) (paid_cons (decide_eq_true (by omega)) (paid_cons (decide_eq_true (by omega)) (paid_cons (decide_eq_true (by omega)) (paid_cons (by simp; omega) (Paid.nil))))))))))) rfl (.cons _ _ _ _ _ (unmarkB g0) (.cons _ _ _ _ _ g1 (.cons _ _ _ _ _ g2 (.cons _ _ _ _ _ g3 (.nil _))))) rfl
      · have hkl : k.length = 4 * 8 := by omega
        have hB : ∀ x ∈ k, B8 x := fun x hx => inR_b8 (hi4 x hx)
        have hall : (specW 8 k 60).all (inR .u8) = true := List.all_eq_true.2 fun x hx => b8_inR (specW_b8 8 hB 60 x hx)
        by_cases hj0 : j = 12
        · subst hj0
          have hp1 : p.length = n := by omega
          by_cases hf : n ≤ 300
          · have hTR : (tuR (specW 8 k 60) (rds true) l p n ((n + 15) / 16)).length = n := by rw [tuR_len _ _ _ _ (by omega) _ (Nat.le_refl _)]; omega
            have hD : (decide ((n : Int) ≤ 300) == true) = true := by rw [decide_eq_true (show ((n : Int) ≤ 300) by omega)]; rfl
            exact fin (hTf_ok true) (ds := []) (sls_d_32eb k l n p) (paid_cons (decide_eq_true (by omega)) (paid_cons (decide_eq_true (by omega)) (paid_cons (decide_eq_true (by omega)) (paid_cons (hD) (paid_cons (decide_eq_true (by rw [sealB_len]; omega)) (paid_cons (rfl) (paid_cons (decide_eq_true hn1) (paid_cons (decide_eq_true (by omega)) (paid_cons (decide_eq_true (Nat.le_refl _)) (paid_cons (decide_eq_true (specW_len 8 k 60)) (paid_cons (hall) (paid_cons (rfl) (paid_cons (rfl) (paid_cons (rfl) (paid_cons (rfl) (paid_cons (rfl) (paid_cons (rfl) (paid_cons (rfl) (paid_cons (rfl) (paid_cons (rfl) (paid_cons (rfl) (paid_cons (rfl) (paid_cons (rfl) (paid_cons (decide_eq_true rfl) (paid_cons (rfl) (paid_cons (rfl) (paid_cons (rfl) (paid_cons (rfl) (paid_cons (rfl) (paid_cons (decide_eq_true rfl) (paid_cons (rfl) (paid_cons (rfl) (paid_cons (rfl) (paid_cons (rfl) (paid_cons (rfl) (paid_cons (rfl) (paid_cons (rfl) (paid_cons (rfl) (paid_cons (decide_eq_true (specW_len 8 k 60)) (paid_cons (hall) (paid_cons (decide_eq_true (by omega)) (paid_cons (decide_eq_true (by rw [hTR]; omega)) (paid_cons (decide_eq_true (specW_len 8 k 60)) (paid_cons (hall) (paid_cons (decide_eq_true (by omega)) (paid_cons (decide_eq_true (by rw [hTR]; omega)) (paid_cons (decide_eq_true (by rw [List.length_append, List.length_take, List.length_drop, show ((tagR (specW 8 k 60) (rds true) l [] 0 (((tuR (specW 8 k 60) (rds true) l p n ((n + 15) / 16)).drop 0).take (tuR (specW 8 k 60) (rds true) l p n ((n + 15) / 16)).length) (tuR (specW 8 k 60) (rds true) l p n ((n + 15) / 16)).length)).length = 16 from x16_len _ _]; omega)) (Paid.nil)))))))))))))))))))))))))))))))))))))))))))))))) (by
          have e1 : (tuR (specW 8 k 60) (rds true) l p n ((n + 15) / 16)) = cvL (keyL 8 k) (rds true) l p n := by rw [show (specW 8 k 60) = specW 8 k (4 * (8 + 7)) from rfl]; exact (turn_same (N := 8) (by decide) hkl hB l p (by omega) _ (Nat.le_refl _)).trans (by rw [show min (16 * ((n + 15) / 16)) n = n by omega]; rfl)
          have hT : ∀ x y q z, tagR (specW 8 k 60) (rds true) l x y q z = tagB (keyL 8 k) (rds true) l x y q z := fun x y q z => tag_same (N := 8) (by decide) hkl hB l x y q z
          rw [hT, e1, cvL_len]
          simp only [List.drop_zero]
          rw [List.take_of_length_le (show p.length ≤ n by omega), List.take_of_length_le (Nat.le_of_eq (sealB_len ..))]
          refine decide_eq_true ?_
          have e2 : (cvL (keyL 8 k) (rds true) l p n).take n = cvL (keyL 8 k) (rds true) l p n := List.take_of_length_le (by rw [cvL_len]; omega)
          have e3 : ∀ z : List Int, z.length = n + 16 → z.take (n + 16) = z := fun z h => List.take_of_length_le (Nat.le_of_eq h)
          rw [e2, e3 _ (by rw [List.length_append, cvL_len, tagB_len])]
          rfl) (.cons _ _ _ _ _ (unmarkB g0) (.cons _ _ _ _ _ (unmarkB g1) (.cons _ _ _ _ _ g2 (.cons _ _ _ _ _ g3 (.nil _))))) rfl
          · have hD : (decide ((n : Int) ≤ 300) == false) = true := by
              cases ee : decide ((n : Int) ≤ 300) <;> first | rfl | (exfalso; apply hf; simp only [decide_eq_true_eq, decide_eq_false_iff_not] at ee; omega)
            exact fin (hTf_ok false) (ds := []) (sls_c_32eb k l n p) (paid_cons (decide_eq_true (by omega)) (paid_cons (decide_eq_true (by omega)) (paid_cons (decide_eq_true (by omega)) (paid_cons (hD) (Paid.nil))))) rfl (.cons _ _ _ _ _ (unmarkB g0) (.cons _ _ _ _ _ (unmarkB g1) (.cons _ _ _ _ _ g2 (.cons _ _ _ _ _ g3 (.nil _))))) rfl
        · exact fin (hTf_ok true) (ds := [true]) (sls_n_32beb k j l n p) (paid_cons (decide_eq_true (by omega)) (paid_cons (decide_eq_true (by omega)) (paid_cons (decide_eq_true (by omega)) (paid_cons (by simp; omega) (paid_cons (decide_eq_true (by omega)) (paid_cons (by simp; omega) (paid_cons (decide_eq_true (by omega)) (paid_cons (decide_eq_true (by omega)) (paid_cons (decide_eq_true (by omega)) (paid_cons (by simp; omega) (Paid.nil))))))))))) rfl (.cons _ _ _ _ _ (unmarkB g0) (.cons _ _ _ _ _ g1 (.cons _ _ _ _ _ g2 (.cons _ _ _ _ _ g3 (.nil _))))) rfl
    · exact fin hTx_ok (ds := []) (sls_x_bbeb i k j l n p) (paid_cons (decide_eq_true (by omega)) (paid_cons (by simp; omega) (paid_cons (by simp; omega) (paid_cons (decide_eq_true (by omega)) (paid_cons (decide_eq_true (by omega)) (paid_cons (decide_eq_true (by omega)) (paid_cons (decide_eq_true (by omega)) (paid_cons (decide_eq_true (by omega)) (Paid.nil))))))))) rfl (.cons _ _ _ _ _ g0 (.cons _ _ _ _ _ g1 (.cons _ _ _ _ _ g2 (.cons _ _ _ _ _ g3 (.nil _))))) rfl
  · have bi : i ≤ 140737488351232 := hi2
    have bj : j ≤ 140737488351232 := hj2
    have bm : m ≤ 140737488351232 := hm2
    by_cases hk0 : i = 16 ∨ i = 32
    · rcases hk0 with rfl | rfl
      · have hkl : k.length = 4 * 4 := by omega
        have hB : ∀ x ∈ k, B8 x := fun x hx => inR_b8 (hi4 x hx)
        have hall : (specW 4 k 44).all (inR .u8) = true := List.all_eq_true.2 fun x hx => b8_inR (specW_b8 4 hB 44 x hx)
        by_cases hj0 : j = 12
        · subst hj0
          by_cases hf : m ≤ 200
          · have hD : ((match decide ((m : Int) ≤ 200) with | true => true | false => false) == true) = true := by rw [decide_eq_true (show ((m : Int) ≤ 200) by omega)]; rfl
            exact fin (hTf_ok true) (ds := []) (sls_d_16bn k l m a) (paid_cons (decide_eq_true (by omega)) (paid_cons (decide_eq_true (by omega)) (paid_cons (decide_eq_true (by omega)) (paid_cons (no_or _) (paid_cons (no_or _) (paid_cons (no_or _) (paid_cons (no_or _) (paid_cons (hD) (paid_cons (decide_eq_true (specW_len 4 k 44)) (paid_cons (hall) (paid_cons (decide_eq_true (by omega)) (paid_cons (decide_eq_true (by omega)) (paid_cons (decide_eq_true (specW_len 4 k 44)) (paid_cons (hall) (Paid.nil))))))))))))))) (decide_eq_true (tag_same (N := 4) (by decide) hkl hB l _ _ _ _).symm) (.cons _ _ _ _ _ (unmarkB g0) (.cons _ _ _ _ _ (unmarkB g1) (.cons _ _ _ _ _ g2 (.cons _ _ _ _ _ g3 (.nil _))))) rfl
          · have hD : ((match decide ((m : Int) ≤ 200) with | true => true | false => false) == false) = true := by
              cases ed : decide ((m : Int) ≤ 200) <;> first | rfl | (exfalso; apply hf; simp only [decide_eq_true_eq, decide_eq_false_iff_not] at ed; omega)
            exact fin (hTf_ok false) (ds := []) (sls_c_16bn k l m a) (paid_cons (decide_eq_true (by omega)) (paid_cons (decide_eq_true (by omega)) (paid_cons (decide_eq_true (by omega)) (paid_cons (no_or _) (paid_cons (no_or _) (paid_cons (no_or _) (paid_cons (no_or _) (paid_cons (hD) (Paid.nil))))))))) rfl (.cons _ _ _ _ _ (unmarkB g0) (.cons _ _ _ _ _ (unmarkB g1) (.cons _ _ _ _ _ g2 (.cons _ _ _ _ _ g3 (.nil _))))) rfl
        · exact fin (hTf_ok true) (ds := [true]) (sls_n_16bbn k j l m a) (paid_cons (decide_eq_true (by omega)) (paid_cons (decide_eq_true (by omega)) (paid_cons (decide_eq_true (by omega)) (paid_cons (by simp; omega) (paid_cons (decide_eq_true (by omega)) (paid_cons (by simp; omega) (paid_cons (decide_eq_true (by omega)) (paid_cons (decide_eq_true (by omega)) (paid_cons (decide_eq_true (by omega)) (paid_cons (by simp; omega) (Paid.nil))))))))))) rfl (.cons _ _ _ _ _ (unmarkB g0) (.cons _ _ _ _ _ g1 (.cons _ _ _ _ _ g2 (.cons _ _ _ _ _ g3 (.nil _))))) rfl
      · have hkl : k.length = 4 * 8 := by omega
        have hB : ∀ x ∈ k, B8 x := fun x hx => inR_b8 (hi4 x hx)
        have hall : (specW 8 k 60).all (inR .u8) = true := List.all_eq_true.2 fun x hx => b8_inR (specW_b8 8 hB 60 x hx)
        by_cases hj0 : j = 12
        · subst hj0
          by_cases hf : m ≤ 200
          · have hD : ((match decide ((m : Int) ≤ 200) with | true => true | false => false) == true) = true := by rw [decide_eq_true (show ((m : Int) ≤ 200) by omega)]; rfl
            exact fin (hTf_ok true) (ds := []) (sls_d_32bn k l m a) (paid_cons (decide_eq_true (by omega)) (paid_cons (decide_eq_true (by omega)) (paid_cons (decide_eq_true (by omega)) (paid_cons (no_or _) (paid_cons (no_or _) (paid_cons (no_or _) (paid_cons (no_or _) (paid_cons (hD) (paid_cons (decide_eq_true (specW_len 8 k 60)) (paid_cons (hall) (paid_cons (decide_eq_true (by omega)) (paid_cons (decide_eq_true (by omega)) (paid_cons (decide_eq_true (specW_len 8 k 60)) (paid_cons (hall) (Paid.nil))))))))))))))) (decide_eq_true (tag_same (N := 8) (by decide) hkl hB l _ _ _ _).symm) (.cons _ _ _ _ _ (unmarkB g0) (.cons _ _ _ _ _ (unmarkB g1) (.cons _ _ _ _ _ g2 (.cons _ _ _ _ _ g3 (.nil _))))) rfl
          · have hD : ((match decide ((m : Int) ≤ 200) with | true => true | false => false) == false) = true := by
              cases ed : decide ((m : Int) ≤ 200) <;> first | rfl | (exfalso; apply hf; simp only [decide_eq_true_eq, decide_eq_false_iff_not] at ed; omega)
            exact fin (hTf_ok false) (ds := []) (sls_c_32bn k l m a) (paid_cons (decide_eq_true (by omega)) (paid_cons (decide_eq_true (by omega)) (paid_cons (decide_eq_true (by omega)) (paid_cons (no_or _) (paid_cons (no_or _) (paid_cons (no_or _) (paid_cons (no_or _) (paid_cons (hD) (Paid.nil))))))))) rfl (.cons _ _ _ _ _ (unmarkB g0) (.cons _ _ _ _ _ (unmarkB g1) (.cons _ _ _ _ _ g2 (.cons _ _ _ _ _ g3 (.nil _))))) rfl
        · exact fin (hTf_ok true) (ds := [true]) (sls_n_32bbn k j l m a) (paid_cons (decide_eq_true (by omega)) (paid_cons (decide_eq_true (by omega)) (paid_cons (decide_eq_true (by omega)) (paid_cons (by simp; omega) (paid_cons (decide_eq_true (by omega)) (paid_cons (by simp; omega) (paid_cons (decide_eq_true (by omega)) (paid_cons (decide_eq_true (by omega)) (paid_cons (decide_eq_true (by omega)) (paid_cons (by simp; omega) (Paid.nil))))))))))) rfl (.cons _ _ _ _ _ (unmarkB g0) (.cons _ _ _ _ _ g1 (.cons _ _ _ _ _ g2 (.cons _ _ _ _ _ g3 (.nil _))))) rfl
    · exact fin hTx_ok (ds := []) (sls_x_bbbn i k j l m a) (paid_cons (decide_eq_true (by omega)) (paid_cons (by simp; omega) (paid_cons (by simp; omega) (paid_cons (decide_eq_true (by omega)) (paid_cons (decide_eq_true (by omega)) (paid_cons (decide_eq_true (by omega)) (paid_cons (decide_eq_true (by omega)) (paid_cons (decide_eq_true (by omega)) (Paid.nil))))))))) rfl (.cons _ _ _ _ _ g0 (.cons _ _ _ _ _ g1 (.cons _ _ _ _ _ g2 (.cons _ _ _ _ _ g3 (.nil _))))) rfl
  · have bi : i ≤ 140737488351232 := hi2
    have bj : j ≤ 140737488351232 := hj2
    have bm : m ≤ 140737488351232 := hm2
    by_cases hk0 : i = 16 ∨ i = 32
    · rcases hk0 with rfl | rfl
      · have hkl : k.length = 4 * 4 := by omega
        have hB : ∀ x ∈ k, B8 x := fun x hx => inR_b8 (hi4 x hx)
        have hall : (specW 4 k 44).all (inR .u8) = true := List.all_eq_true.2 fun x hx => b8_inR (specW_b8 4 hB 44 x hx)
        by_cases hj0 : j = 12
        · subst hj0
          by_cases hf : m ≤ 200
          · have hD : ((match decide ((m : Int) ≤ 200) with | true => true | false => false) == true) = true := by rw [decide_eq_true (show ((m : Int) ≤ 200) by omega)]; rfl
            exact fin (hTf_ok true) (ds := []) (sls_d_16be k l m a) (paid_cons (decide_eq_true (by omega)) (paid_cons (decide_eq_true (by omega)) (paid_cons (decide_eq_true (by omega)) (paid_cons (no_or _) (paid_cons (no_or _) (paid_cons (no_or _) (paid_cons (no_or _) (paid_cons (hD) (paid_cons (decide_eq_true (specW_len 4 k 44)) (paid_cons (hall) (paid_cons (decide_eq_true (by omega)) (paid_cons (decide_eq_true (by omega)) (paid_cons (decide_eq_true (specW_len 4 k 44)) (paid_cons (hall) (Paid.nil))))))))))))))) (decide_eq_true (tag_same (N := 4) (by decide) hkl hB l _ _ _ _).symm) (.cons _ _ _ _ _ (unmarkB g0) (.cons _ _ _ _ _ (unmarkB g1) (.cons _ _ _ _ _ g2 (.cons _ _ _ _ _ g3 (.nil _))))) rfl
          · have hD : ((match decide ((m : Int) ≤ 200) with | true => true | false => false) == false) = true := by
              cases ed : decide ((m : Int) ≤ 200) <;> first | rfl | (exfalso; apply hf; simp only [decide_eq_true_eq, decide_eq_false_iff_not] at ed; omega)
            exact fin (hTf_ok false) (ds := []) (sls_c_16be k l m a) (paid_cons (decide_eq_true (by omega)) (paid_cons (decide_eq_true (by omega)) (paid_cons (decide_eq_true (by omega)) (paid_cons (no_or _) (paid_cons (no_or _) (paid_cons (no_or _) (paid_cons (no_or _) (paid_cons (hD) (Paid.nil))))))))) rfl (.cons _ _ _ _ _ (unmarkB g0) (.cons _ _ _ _ _ (unmarkB g1) (.cons _ _ _ _ _ g2 (.cons _ _ _ _ _ g3 (.nil _))))) rfl
        · exact fin (hTf_ok true) (ds := [true]) (sls_n_16bbe k j l m a) (paid_cons (decide_eq_true (by omega)) (paid_cons (decide_eq_true (by omega)) (paid_cons (decide_eq_true (by omega)) (paid_cons (by simp; omega) (paid_cons (decide_eq_true (by omega)) (paid_cons (by simp; omega) (paid_cons (decide_eq_true (by omega)) (paid_cons (decide_eq_true (by omega)) (paid_cons (decide_eq_true (by omega)) (paid_cons (by simp; omega) (Paid.nil))))))))))) rfl (.cons _ _ _ _ _ (unmarkB g0) (.cons _ _ _ _ _ g1 (.cons _ _ _ _ _ g2 (.cons _ _ _ _ _ g3 (.nil _))))) rfl
      · have hkl : k.length = 4 * 8 := by omega
        have hB : ∀ x ∈ k, B8 x := fun x hx => inR_b8 (hi4 x hx)
        have hall : (specW 8 k 60).all (inR .u8) = true := List.all_eq_true.2 fun x hx => b8_inR (specW_b8 8 hB 60 x hx)
        by_cases hj0 : j = 12
        · subst hj0
          by_cases hf : m ≤ 200
          · have hD : ((match decide ((m : Int) ≤ 200) with | true => true | false => false) == true) = true := by rw [decide_eq_true (show ((m : Int) ≤ 200) by omega)]; rfl
            exact fin (hTf_ok true) (ds := []) (sls_d_32be k l m a) (paid_cons (decide_eq_true (by omega)) (paid_cons (decide_eq_true (by omega)) (paid_cons (decide_eq_true (by omega)) (paid_cons (no_or _) (paid_cons (no_or _) (paid_cons (no_or _) (paid_cons (no_or _) (paid_cons (hD) (paid_cons (decide_eq_true (specW_len 8 k 60)) (paid_cons (hall) (paid_cons (decide_eq_true (by omega)) (paid_cons (decide_eq_true (by omega)) (paid_cons (decide_eq_true (specW_len 8 k 60)) (paid_cons (hall) (Paid.nil))))))))))))))) (decide_eq_true (tag_same (N := 8) (by decide) hkl hB l _ _ _ _).symm) (.cons _ _ _ _ _ (unmarkB g0) (.cons _ _ _ _ _ (unmarkB g1) (.cons _ _ _ _ _ g2 (.cons _ _ _ _ _ g3 (.nil _))))) rfl
          · have hD : ((match decide ((m : Int) ≤ 200) with | true => true | false => false) == false) = true := by
              cases ed : decide ((m : Int) ≤ 200) <;> first | rfl | (exfalso; apply hf; simp only [decide_eq_true_eq, decide_eq_false_iff_not] at ed; omega)
            exact fin (hTf_ok false) (ds := []) (sls_c_32be k l m a) (paid_cons (decide_eq_true (by omega)) (paid_cons (decide_eq_true (by omega)) (paid_cons (decide_eq_true (by omega)) (paid_cons (no_or _) (paid_cons (no_or _) (paid_cons (no_or _) (paid_cons (no_or _) (paid_cons (hD) (Paid.nil))))))))) rfl (.cons _ _ _ _ _ (unmarkB g0) (.cons _ _ _ _ _ (unmarkB g1) (.cons _ _ _ _ _ g2 (.cons _ _ _ _ _ g3 (.nil _))))) rfl
        · exact fin (hTf_ok true) (ds := [true]) (sls_n_32bbe k j l m a) (paid_cons (decide_eq_true (by omega)) (paid_cons (decide_eq_true (by omega)) (paid_cons (decide_eq_true (by omega)) (paid_cons (by simp; omega) (paid_cons (decide_eq_true (by omega)) (paid_cons (by simp; omega) (paid_cons (decide_eq_true (by omega)) (paid_cons (decide_eq_true (by omega)) (paid_cons (decide_eq_true (by omega)) (paid_cons (by simp; omega) (Paid.nil))))))))))) rfl (.cons _ _ _ _ _ (unmarkB g0) (.cons _ _ _ _ _ g1 (.cons _ _ _ _ _ g2 (.cons _ _ _ _ _ g3 (.nil _))))) rfl
    · exact fin hTx_ok (ds := []) (sls_x_bbbe i k j l m a) (paid_cons (decide_eq_true (by omega)) (paid_cons (by simp; omega) (paid_cons (by simp; omega) (paid_cons (decide_eq_true (by omega)) (paid_cons (decide_eq_true (by omega)) (paid_cons (decide_eq_true (by omega)) (paid_cons (decide_eq_true (by omega)) (paid_cons (decide_eq_true (by omega)) (Paid.nil))))))))) rfl (.cons _ _ _ _ _ g0 (.cons _ _ _ _ _ g1 (.cons _ _ _ _ _ g2 (.cons _ _ _ _ _ g3 (.nil _))))) rfl
  · have bi : i ≤ 140737488351232 := hi2
    have bj : j ≤ 140737488351232 := hj2
    have bm : m ≤ 140737488351232 := hm2
    have bn : n ≤ 140737488351232 := hn2
    by_cases hk0 : i = 16 ∨ i = 32
    · rcases hk0 with rfl | rfl
      · have hkl : k.length = 4 * 4 := by omega
        have hB : ∀ x ∈ k, B8 x := fun x hx => inR_b8 (hi4 x hx)
        have hall : (specW 4 k 44).all (inR .u8) = true := List.all_eq_true.2 fun x hx => b8_inR (specW_b8 4 hB 44 x hx)
        by_cases hj0 : j = 12
        · subst hj0
          have hp1 : p.length = n := by omega
          by_cases hf : m ≤ 200 ∧ n ≤ 300
          · have hTR : (tuR (specW 4 k 44) (rds false) l p n ((n + 15) / 16)).length = n := by rw [tuR_len _ _ _ _ (by omega) _ (Nat.le_refl _)]; omega
            have hD : ((match decide ((m : Int) ≤ 200) with | true => decide ((n : Int) ≤ 300) | false => false) == true) = true := by rw [decide_eq_true (show ((m : Int) ≤ 200) by omega)]; rw [decide_eq_true (show ((n : Int) ≤ 300) by omega)]; rfl
            exact fin (hTf_ok true) (ds := []) (sls_d_16bb k l m a n p) (paid_cons (decide_eq_true (by omega)) (paid_cons (decide_eq_true (by omega)) (paid_cons (decide_eq_true (by omega)) (paid_cons (decide_eq_true (by omega)) (paid_cons (decide_eq_true (by omega)) (paid_cons (no_or _) (paid_cons (or_big _ (decide_eq_true (by omega))) (paid_cons (no_or _) (paid_cons (no_or _) (paid_cons (no_or _) (paid_cons (hD) (paid_cons (decide_eq_true (by rw [sealB_len]; omega)) (paid_cons (rfl) (paid_cons (decide_eq_true hn1) (paid_cons (decide_eq_true (by omega)) (paid_cons (decide_eq_true (Nat.le_refl _)) (paid_cons (decide_eq_true (specW_len 4 k 44)) (paid_cons (hall) (paid_cons (rfl) (paid_cons (rfl) (paid_cons (rfl) (paid_cons (rfl) (paid_cons (rfl) (paid_cons (rfl) (paid_cons (rfl) (paid_cons (rfl) (paid_cons (rfl) (paid_cons (rfl) (paid_cons (rfl) (paid_cons (rfl) (paid_cons (decide_eq_true rfl) (paid_cons (rfl) (paid_cons (rfl) (paid_cons (rfl) (paid_cons (rfl) (paid_cons (rfl) (paid_cons (decide_eq_true rfl) (paid_cons (rfl) (paid_cons (rfl) (paid_cons (rfl) (paid_cons (rfl) (paid_cons (rfl) (paid_cons (rfl) (paid_cons (rfl) (paid_cons (rfl) (paid_cons (decide_eq_true rfl) (paid_cons (decide_eq_true (specW_len 4 k 44)) (paid_cons (hall) (paid_cons (decide_eq_true (by omega)) (paid_cons (decide_eq_true (by omega)) (paid_cons (decide_eq_true (by omega)) (paid_cons (decide_eq_true (by rw [hTR]; omega)) (paid_cons (decide_eq_true (specW_len 4 k 44)) (paid_cons (hall) (paid_cons (decide_eq_true (by omega)) (paid_cons (decide_eq_true (by rw [hTR]; omega)) (paid_cons (decide_eq_true (by rw [List.length_append, List.length_take, List.length_drop, show ((tagR (specW 4 k 44) (rds false) l ((a.drop 0).take m) m (((tuR (specW 4 k 44) (rds false) l p n ((n + 15) / 16)).drop 0).take (tuR (specW 4 k 44) (rds false) l p n ((n + 15) / 16)).length) (tuR (specW 4 k 44) (rds false) l p n ((n + 15) / 16)).length)).length = 16 from x16_len _ _]; omega)) (Paid.nil)))))))))))))))))))))))))))))))))))))))))))))))))))))))))) (by
          have e1 : (tuR (specW 4 k 44) (rds false) l p n ((n + 15) / 16)) = cvL (keyL 4 k) (rds false) l p n := by rw [show (specW 4 k 44) = specW 4 k (4 * (4 + 7)) from rfl]; exact (turn_same (N := 4) (by decide) hkl hB l p (by omega) _ (Nat.le_refl _)).trans (by rw [show min (16 * ((n + 15) / 16)) n = n by omega]; rfl)
          have hT : ∀ x y q z, tagR (specW 4 k 44) (rds false) l x y q z = tagB (keyL 4 k) (rds false) l x y q z := fun x y q z => tag_same (N := 4) (by decide) hkl hB l x y q z
          rw [hT, e1, cvL_len]
          simp only [List.drop_zero]
          rw [List.take_of_length_le (show p.length ≤ n by omega), List.take_of_length_le (Nat.le_of_eq (sealB_len ..))]
          refine decide_eq_true ?_
          have e2 : (cvL (keyL 4 k) (rds false) l p n).take n = cvL (keyL 4 k) (rds false) l p n := List.take_of_length_le (by rw [cvL_len]; omega)
          have e3 : ∀ z : List Int, z.length = n + 16 → z.take (n + 16) = z := fun z h => List.take_of_length_le (Nat.le_of_eq h)
          rw [e2, e3 _ (by rw [List.length_append, cvL_len, tagB_len])]
          rfl) (.cons _ _ _ _ _ (unmarkB g0) (.cons _ _ _ _ _ (unmarkB g1) (.cons _ _ _ _ _ g2 (.cons _ _ _ _ _ g3 (.nil _))))) rfl
          · have hD : ((match decide ((m : Int) ≤ 200) with | true => decide ((n : Int) ≤ 300) | false => false) == false) = true := by
              cases ed : decide ((m : Int) ≤ 200) <;> cases ee : decide ((n : Int) ≤ 300) <;> first | rfl | (exfalso; apply hf; simp only [decide_eq_true_eq, decide_eq_false_iff_not] at ed ee; omega)
            exact fin (hTf_ok false) (ds := []) (sls_c_16bb k l m a n p) (paid_cons (decide_eq_true (by omega)) (paid_cons (decide_eq_true (by omega)) (paid_cons (decide_eq_true (by omega)) (paid_cons (decide_eq_true (by omega)) (paid_cons (decide_eq_true (by omega)) (paid_cons (no_or _) (paid_cons (or_big _ (decide_eq_true (by omega))) (paid_cons (no_or _) (paid_cons (no_or _) (paid_cons (no_or _) (paid_cons (hD) (Paid.nil)))))))))))) rfl (.cons _ _ _ _ _ (unmarkB g0) (.cons _ _ _ _ _ (unmarkB g1) (.cons _ _ _ _ _ g2 (.cons _ _ _ _ _ g3 (.nil _))))) rfl
        · exact fin (hTf_ok true) (ds := [true]) (sls_n_16bbb k j l m a n p) (paid_cons (decide_eq_true (by omega)) (paid_cons (decide_eq_true (by omega)) (paid_cons (decide_eq_true (by omega)) (paid_cons (decide_eq_true (by omega)) (paid_cons (by simp; omega) (paid_cons (decide_eq_true (by omega)) (paid_cons (by simp; omega) (paid_cons (decide_eq_true (by omega)) (paid_cons (decide_eq_true (by omega)) (paid_cons (decide_eq_true (by omega)) (paid_cons (decide_eq_true (by omega)) (paid_cons (by simp; omega) (Paid.nil))))))))))))) rfl (.cons _ _ _ _ _ (unmarkB g0) (.cons _ _ _ _ _ g1 (.cons _ _ _ _ _ g2 (.cons _ _ _ _ _ g3 (.nil _))))) rfl
      · have hkl : k.length = 4 * 8 := by omega
        have hB : ∀ x ∈ k, B8 x := fun x hx => inR_b8 (hi4 x hx)
        have hall : (specW 8 k 60).all (inR .u8) = true := List.all_eq_true.2 fun x hx => b8_inR (specW_b8 8 hB 60 x hx)
        by_cases hj0 : j = 12
        · subst hj0
          have hp1 : p.length = n := by omega
          by_cases hf : m ≤ 200 ∧ n ≤ 300
          · have hTR : (tuR (specW 8 k 60) (rds true) l p n ((n + 15) / 16)).length = n := by rw [tuR_len _ _ _ _ (by omega) _ (Nat.le_refl _)]; omega
            have hD : ((match decide ((m : Int) ≤ 200) with | true => decide ((n : Int) ≤ 300) | false => false) == true) = true := by rw [decide_eq_true (show ((m : Int) ≤ 200) by omega)]; rw [decide_eq_true (show ((n : Int) ≤ 300) by omega)]; rfl
            exact fin (hTf_ok true) (ds := []) (sls_d_32bb k l m a n p) (paid_cons (decide_eq_true (by omega)) (paid_cons (decide_eq_true (by omega)) (paid_cons (decide_eq_true (by omega)) (paid_cons (decide_eq_true (by omega)) (paid_cons (decide_eq_true (by omega)) (paid_cons (no_or _) (paid_cons (or_big _ (decide_eq_true (by omega))) (paid_cons (no_or _) (paid_cons (no_or _) (paid_cons (no_or _) (paid_cons (hD) (paid_cons (decide_eq_true (by rw [sealB_len]; omega)) (paid_cons (rfl) (paid_cons (decide_eq_true hn1) (paid_cons (decide_eq_true (by omega)) (paid_cons (decide_eq_true (Nat.le_refl _)) (paid_cons (decide_eq_true (specW_len 8 k 60)) (paid_cons (hall) (paid_cons (rfl) (paid_cons (rfl) (paid_cons (rfl) (paid_cons (rfl) (paid_cons (rfl) (paid_cons (rfl) (paid_cons (rfl) (paid_cons (rfl) (paid_cons (rfl) (paid_cons (rfl) (paid_cons (rfl) (paid_cons (rfl) (paid_cons (decide_eq_true rfl) (paid_cons (rfl) (paid_cons (rfl) (paid_cons (rfl) (paid_cons (rfl) (paid_cons (rfl) (paid_cons (decide_eq_true rfl) (paid_cons (rfl) (paid_cons (rfl) (paid_cons (rfl) (paid_cons (rfl) (paid_cons (rfl) (paid_cons (rfl) (paid_cons (rfl) (paid_cons (rfl) (paid_cons (decide_eq_true rfl) (paid_cons (decide_eq_true (specW_len 8 k 60)) (paid_cons (hall) (paid_cons (decide_eq_true (by omega)) (paid_cons (decide_eq_true (by omega)) (paid_cons (decide_eq_true (by omega)) (paid_cons (decide_eq_true (by rw [hTR]; omega)) (paid_cons (decide_eq_true (specW_len 8 k 60)) (paid_cons (hall) (paid_cons (decide_eq_true (by omega)) (paid_cons (decide_eq_true (by rw [hTR]; omega)) (paid_cons (decide_eq_true (by rw [List.length_append, List.length_take, List.length_drop, show ((tagR (specW 8 k 60) (rds true) l ((a.drop 0).take m) m (((tuR (specW 8 k 60) (rds true) l p n ((n + 15) / 16)).drop 0).take (tuR (specW 8 k 60) (rds true) l p n ((n + 15) / 16)).length) (tuR (specW 8 k 60) (rds true) l p n ((n + 15) / 16)).length)).length = 16 from x16_len _ _]; omega)) (Paid.nil)))))))))))))))))))))))))))))))))))))))))))))))))))))))))) (by
          have e1 : (tuR (specW 8 k 60) (rds true) l p n ((n + 15) / 16)) = cvL (keyL 8 k) (rds true) l p n := by rw [show (specW 8 k 60) = specW 8 k (4 * (8 + 7)) from rfl]; exact (turn_same (N := 8) (by decide) hkl hB l p (by omega) _ (Nat.le_refl _)).trans (by rw [show min (16 * ((n + 15) / 16)) n = n by omega]; rfl)
          have hT : ∀ x y q z, tagR (specW 8 k 60) (rds true) l x y q z = tagB (keyL 8 k) (rds true) l x y q z := fun x y q z => tag_same (N := 8) (by decide) hkl hB l x y q z
          rw [hT, e1, cvL_len]
          simp only [List.drop_zero]
          rw [List.take_of_length_le (show p.length ≤ n by omega), List.take_of_length_le (Nat.le_of_eq (sealB_len ..))]
          refine decide_eq_true ?_
          have e2 : (cvL (keyL 8 k) (rds true) l p n).take n = cvL (keyL 8 k) (rds true) l p n := List.take_of_length_le (by rw [cvL_len]; omega)
          have e3 : ∀ z : List Int, z.length = n + 16 → z.take (n + 16) = z := fun z h => List.take_of_length_le (Nat.le_of_eq h)
          rw [e2, e3 _ (by rw [List.length_append, cvL_len, tagB_len])]
          rfl) (.cons _ _ _ _ _ (unmarkB g0) (.cons _ _ _ _ _ (unmarkB g1) (.cons _ _ _ _ _ g2 (.cons _ _ _ _ _ g3 (.nil _))))) rfl
          · have hD : ((match decide ((m : Int) ≤ 200) with | true => decide ((n : Int) ≤ 300) | false => false) == false) = true := by
              cases ed : decide ((m : Int) ≤ 200) <;> cases ee : decide ((n : Int) ≤ 300) <;> first | rfl | (exfalso; apply hf; simp only [decide_eq_true_eq, decide_eq_false_iff_not] at ed ee; omega)
            exact fin (hTf_ok false) (ds := []) (sls_c_32bb k l m a n p) (paid_cons (decide_eq_true (by omega)) (paid_cons (decide_eq_true (by omega)) (paid_cons (decide_eq_true (by omega)) (paid_cons (decide_eq_true (by omega)) (paid_cons (decide_eq_true (by omega)) (paid_cons (no_or _) (paid_cons (or_big _ (decide_eq_true (by omega))) (paid_cons (no_or _) (paid_cons (no_or _) (paid_cons (no_or _) (paid_cons (hD) (Paid.nil)))))))))))) rfl (.cons _ _ _ _ _ (unmarkB g0) (.cons _ _ _ _ _ (unmarkB g1) (.cons _ _ _ _ _ g2 (.cons _ _ _ _ _ g3 (.nil _))))) rfl
        · exact fin (hTf_ok true) (ds := [true]) (sls_n_32bbb k j l m a n p) (paid_cons (decide_eq_true (by omega)) (paid_cons (decide_eq_true (by omega)) (paid_cons (decide_eq_true (by omega)) (paid_cons (decide_eq_true (by omega)) (paid_cons (by simp; omega) (paid_cons (decide_eq_true (by omega)) (paid_cons (by simp; omega) (paid_cons (decide_eq_true (by omega)) (paid_cons (decide_eq_true (by omega)) (paid_cons (decide_eq_true (by omega)) (paid_cons (decide_eq_true (by omega)) (paid_cons (by simp; omega) (Paid.nil))))))))))))) rfl (.cons _ _ _ _ _ (unmarkB g0) (.cons _ _ _ _ _ g1 (.cons _ _ _ _ _ g2 (.cons _ _ _ _ _ g3 (.nil _))))) rfl
    · exact fin hTx_ok (ds := []) (sls_x_bbbb i k j l m a n p) (paid_cons (decide_eq_true (by omega)) (paid_cons (by simp; omega) (paid_cons (by simp; omega) (paid_cons (decide_eq_true (by omega)) (paid_cons (decide_eq_true (by omega)) (paid_cons (decide_eq_true (by omega)) (paid_cons (decide_eq_true (by omega)) (paid_cons (decide_eq_true (by omega)) (paid_cons (decide_eq_true (by omega)) (paid_cons (decide_eq_true (by omega)) (Paid.nil))))))))))) rfl (.cons _ _ _ _ _ g0 (.cons _ _ _ _ _ g1 (.cons _ _ _ _ _ g2 (.cons _ _ _ _ _ g3 (.nil _))))) rfl

theorem gcmSeals_lifted (os : Os) (started : os.Started) (H : Type) (enc : TypeId × Value → H) :
    ReturnsInHanded {} Try.checked os 3 .any (Rows.gcmSealsSpec.pre6 enc Try.prog Try.f3 Rows.gcmSealsRow.domain false) (Rows.gcmSealsSpec.post enc Try.prog Try.f3 false true false false) := by
  refine returnsInHanded_of_change_sized (C := Try.checked) own started (by kernel_rfl) Try.func3
    (ChangeSpec.witness6 (enc := enc) (C := Try.checked) false ⟨#[], #[.agg #[.slice none 0 0, .slice none 0 0, .slice none 0 0, .slice none 0 0]], []⟩ 8 (by kernel_rfl) (by kernel_rfl) (by kernel_rfl) (by kernel_rfl)) ?_
  intro W base args ds gs before hval0 hW hcnd hsz0 _
  have hval : ∀ (j : Nat) t v, Try.f3.params[j]? = some t → args[j]? = some v → Value.okWide Try.prog W .any base t v := hval0
  have hW' := hW
  obtain ⟨p, q, hA0, hV, rfl, hfz, hnd⟩ := hW
  have hA : DataW.TrodAll enc Try.prog W 0 (fun _ => true) true Try.f3.params.toList args.toList ds p := hA0
  have hsz := hsz0
  rw [Try.params3] at hA hval
  have hsz : (DataW.weightsEach Try.prog (Try.f3.params.toList ++ Rows.gcmSealsSpec.plain.varTypes Try.prog) (ds ++ gs)).all (· ≤ reachBytes) = true := hsz0
  rw [Try.params3] at hsz
  obtain ⟨v0, d0, hargs, rfl, g0⟩ := trodAll_one hA
  have hargs' : args = #[v0] := by simpa using hargs
  subst hargs'
  obtain ⟨rfl, rfl⟩ := trodVars_none hV
  obtain ⟨vs0, k0, rfl, r0⟩ := struct_open Try.underlying24 (n := 4) (st := 22) rfl (fun i f h => by rcases i with _ | _ | _ | _ | i <;> simp at h <;> (first | (subst h; exact ⟨rfl, rfl⟩) | (cases h))) (by kernel_rfl) Try.underlying22 (by kernel_rfl) Try.underlying5 (by kernel_rfl) (by kernel_rfl) (hval 0 _ v0 rfl rfl) g0 (arg_sized hsz (j := 0) (t := 24) rfl rfl)
  refine (gcmSeals_calls k0 r0 W).mono fun e W' ⟨he, hb⟩ => ?_
  exact ⟨_, he, post_of_law laidOut (by rw [Try.params3]; decide +kernel) hW' rfl rfl Try.underlying4 rfl rfl rfl hb⟩

theorem gcmSeals_holds : Rows.GcmSealsSaid :=
  OpenClaim.holds_of_wide 3 Try.f3 rfl rfl rfl rfl rfl rfl rfl ⟨rfl, rfl, rfl, rfl, rfl⟩ rfl rfl rfl rfl rfl (by kernel_rfl) Try.func3 (by kernel_rfl)
    (of_decide_eq_true (by kernel_rfl)) (by unfold Func.isWrapper; first | (rw [if_pos (by decide +kernel)]; kernel_rfl) | (rw [if_neg (by decide +kernel)]; exact ⟨rfl, rfl⟩))
    (fun os started H enc _ => gcmSeals_lifted os started H enc)
end Go.Proofs.Ytpbemjifhampcaa
