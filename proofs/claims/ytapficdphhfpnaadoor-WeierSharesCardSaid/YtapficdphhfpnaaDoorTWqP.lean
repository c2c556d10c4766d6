/- Layer 11: two secrets share the same: rows where one may be. Own work. -/
import Derived.Test.YtapficdphhfpnaaDoorTWqN
set_option linter.unusedSimpArgs false
set_option linter.unusedVariables false
set_option linter.unusedSectionVars false
namespace Go.Proofs.YtapficdphhfpnaaDoor
open Go.Ev Go.Wn Go.We
set_option maxRecDepth 1000000
theorem ws_nil_ok_nil (u : List Int) : res ((funcA Tryd.prog qw (deep Tryd.prog qn (hwA 0 0 3) 100 5) 400 6 (cArgs 0 [.pl .nilslice, .buf false .u8 32 u, .pl .nilslice]) (cMem [.pl .nilslice, .buf false .u8 32 u, .pl .nilslice])).go [false]) = some ([] ++ (okP u ++ ([true] ++ (okL u ++ ([] ++ (okS u))))), .bool false true) := by kernel_rfl
theorem ws_nil_ok_emp (u : List Int) : res ((funcA Tryd.prog qw (deep Tryd.prog qn (hwA 0 0 3) 100 5) 400 6 (cArgs 0 [.pl .nilslice, .buf false .u8 32 u, .empty]) (cMem [.pl .nilslice, .buf false .u8 32 u, .empty])).go [false]) = some ([] ++ (okP u ++ ([true] ++ (okL u ++ ([] ++ (okS u))))), .bool false true) := by kernel_rfl
theorem ws_nil_ok_any (u : List Int) (p : Nat) (r : List Int) : res ((funcA Tryd.prog qw (deep Tryd.prog qn (hwA 0 0 3) 100 5) 400 6 (cArgs 0 [.pl .nilslice, .buf false .u8 32 u, .buf true .u8 p r]) (cMem [.pl .nilslice, .buf false .u8 32 u, .buf true .u8 p r])).go [false]) = some ([] ++ (okP u ++ ([true] ++ (okL u ++ ([] ++ (okS u))))), .bool false true) := by kernel_rfl
theorem ws_emp_ok_nil (u : List Int) : res ((funcA Tryd.prog qw (deep Tryd.prog qn (hwA 0 0 3) 100 5) 400 6 (cArgs 0 [.empty, .buf false .u8 32 u, .pl .nilslice]) (cMem [.empty, .buf false .u8 32 u, .pl .nilslice])).go [false]) = some ([] ++ (okP u ++ ([true] ++ (okL u ++ ([] ++ (okS u))))), .bool false true) := by kernel_rfl
theorem ws_emp_ok_emp (u : List Int) : res ((funcA Tryd.prog qw (deep Tryd.prog qn (hwA 0 0 3) 100 5) 400 6 (cArgs 0 [.empty, .buf false .u8 32 u, .empty]) (cMem [.empty, .buf false .u8 32 u, .empty])).go [false]) = some ([] ++ (okP u ++ ([true] ++ (okL u ++ ([] ++ (okS u))))), .bool false true) := by kernel_rfl
theorem ws_emp_ok_any (u : List Int) (p : Nat) (r : List Int) : res ((funcA Tryd.prog qw (deep Tryd.prog qn (hwA 0 0 3) 100 5) 400 6 (cArgs 0 [.empty, .buf false .u8 32 u, .buf true .u8 p r]) (cMem [.empty, .buf false .u8 32 u, .buf true .u8 p r])).go [false]) = some ([] ++ (okP u ++ ([true] ++ (okL u ++ ([] ++ (okS u))))), .bool false true) := by kernel_rfl
theorem ws_buf_ok_nil (n : Nat) (k : List Int) (u : List Int) : res ((funcA Tryd.prog qw (deep Tryd.prog qn (hwA 0 0 3) 100 5) 400 6 (cArgs 0 [.buf true .u8 n k, .buf false .u8 32 u, .pl .nilslice]) (cMem [.buf true .u8 n k, .buf false .u8 32 u, .pl .nilslice])).go [true, false]) = some (buP n ++ (okP u ++ (buL n ++ (okL u ++ (buP n ++ (okS u))))), .bool false true) := by kernel_rfl
theorem ws_buf_ok_emp (n : Nat) (k : List Int) (u : List Int) : res ((funcA Tryd.prog qw (deep Tryd.prog qn (hwA 0 0 3) 100 5) 400 6 (cArgs 0 [.buf true .u8 n k, .buf false .u8 32 u, .empty]) (cMem [.buf true .u8 n k, .buf false .u8 32 u, .empty])).go [true, false]) = some (buP n ++ (okP u ++ (buL n ++ (okL u ++ (buP n ++ (okS u))))), .bool false true) := by kernel_rfl
theorem ws_buf_ok_any (n : Nat) (k : List Int) (u : List Int) (p : Nat) (r : List Int) : res ((funcA Tryd.prog qw (deep Tryd.prog qn (hwA 0 0 3) 100 5) 400 6 (cArgs 0 [.buf true .u8 n k, .buf false .u8 32 u, .buf true .u8 p r]) (cMem [.buf true .u8 n k, .buf false .u8 32 u, .buf true .u8 p r])).go [true, false]) = some (buP n ++ (okP u ++ (buL n ++ (okL u ++ (buP n ++ (okS u))))), .bool false true) := by kernel_rfl
theorem ws_bad_ok_nil (k : List Int) (u : List Int) : res ((funcA Tryd.prog qw (deep Tryd.prog qn (hwA 1 0 3) 100 5) 400 6 (cArgs 0 [.buf false .u8 32 k, .buf false .u8 32 u, .pl .nilslice]) (cMem [.buf false .u8 32 k, .buf false .u8 32 u, .pl .nilslice])).go [false]) = some (baP k ++ (okP u ++ (baL k ++ (okL u ++ (baP k ++ (okS u))))), .bool false true) := by kernel_rfl
theorem ws_bad_ok_emp (k : List Int) (u : List Int) : res ((funcA Tryd.prog qw (deep Tryd.prog qn (hwA 1 0 3) 100 5) 400 6 (cArgs 0 [.buf false .u8 32 k, .buf false .u8 32 u, .empty]) (cMem [.buf false .u8 32 k, .buf false .u8 32 u, .empty])).go [false]) = some (baP k ++ (okP u ++ (baL k ++ (okL u ++ (baP k ++ (okS u))))), .bool false true) := by kernel_rfl
theorem ws_bad_ok_any (k : List Int) (u : List Int) (p : Nat) (r : List Int) : res ((funcA Tryd.prog qw (deep Tryd.prog qn (hwA 1 0 3) 100 5) 400 6 (cArgs 0 [.buf false .u8 32 k, .buf false .u8 32 u, .buf true .u8 p r]) (cMem [.buf false .u8 32 k, .buf false .u8 32 u, .buf true .u8 p r])).go [false]) = some (baP k ++ (okP u ++ (baL k ++ (okL u ++ (baP k ++ (okS u))))), .bool false true) := by kernel_rfl
theorem ws_ok_nil_nil (k : List Int) : res ((funcA Tryd.prog qw (deep Tryd.prog qn (hwA 0 0 3) 100 5) 400 6 (cArgs 0 [.buf false .u8 32 k, .pl .nilslice, .pl .nilslice]) (cMem [.buf false .u8 32 k, .pl .nilslice, .pl .nilslice])).go [false]) = some (okP k ++ ([] ++ (okL k ++ ([true] ++ (okS k ++ ([]))))), .bool false true) := by kernel_rfl
theorem ws_ok_nil_emp (k : List Int) : res ((funcA Tryd.prog qw (deep Tryd.prog qn (hwA 0 0 3) 100 5) 400 6 (cArgs 0 [.buf false .u8 32 k, .pl .nilslice, .empty]) (cMem [.buf false .u8 32 k, .pl .nilslice, .empty])).go [false]) = some (okP k ++ ([] ++ (okL k ++ ([true] ++ (okS k ++ ([]))))), .bool false true) := by kernel_rfl
theorem ws_ok_nil_any (k : List Int) (p : Nat) (r : List Int) : res ((funcA Tryd.prog qw (deep Tryd.prog qn (hwA 0 0 3) 100 5) 400 6 (cArgs 0 [.buf false .u8 32 k, .pl .nilslice, .buf true .u8 p r]) (cMem [.buf false .u8 32 k, .pl .nilslice, .buf true .u8 p r])).go [false]) = some (okP k ++ ([] ++ (okL k ++ ([true] ++ (okS k ++ ([]))))), .bool false true) := by kernel_rfl
theorem ws_ok_emp_nil (k : List Int) : res ((funcA Tryd.prog qw (deep Tryd.prog qn (hwA 0 0 3) 100 5) 400 6 (cArgs 0 [.buf false .u8 32 k, .empty, .pl .nilslice]) (cMem [.buf false .u8 32 k, .empty, .pl .nilslice])).go [false]) = some (okP k ++ ([] ++ (okL k ++ ([true] ++ (okS k ++ ([]))))), .bool false true) := by kernel_rfl
theorem ws_ok_emp_emp (k : List Int) : res ((funcA Tryd.prog qw (deep Tryd.prog qn (hwA 0 0 3) 100 5) 400 6 (cArgs 0 [.buf false .u8 32 k, .empty, .empty]) (cMem [.buf false .u8 32 k, .empty, .empty])).go [false]) = some (okP k ++ ([] ++ (okL k ++ ([true] ++ (okS k ++ ([]))))), .bool false true) := by kernel_rfl
theorem ws_ok_emp_any (k : List Int) (p : Nat) (r : List Int) : res ((funcA Tryd.prog qw (deep Tryd.prog qn (hwA 0 0 3) 100 5) 400 6 (cArgs 0 [.buf false .u8 32 k, .empty, .buf true .u8 p r]) (cMem [.buf false .u8 32 k, .empty, .buf true .u8 p r])).go [false]) = some (okP k ++ ([] ++ (okL k ++ ([true] ++ (okS k ++ ([]))))), .bool false true) := by kernel_rfl
theorem ws_ok_buf_nil (k : List Int) (m : Nat) (u : List Int) : res ((funcA Tryd.prog qw (deep Tryd.prog qn (hwA 0 0 3) 100 5) 400 6 (cArgs 0 [.buf false .u8 32 k, .buf true .u8 m u, .pl .nilslice]) (cMem [.buf false .u8 32 k, .buf true .u8 m u, .pl .nilslice])).go [true, false]) = some (okP k ++ (buP m ++ (okL k ++ (buL m ++ (okS k ++ (buP m))))), .bool false true) := by kernel_rfl
theorem ws_ok_buf_emp (k : List Int) (m : Nat) (u : List Int) : res ((funcA Tryd.prog qw (deep Tryd.prog qn (hwA 0 0 3) 100 5) 400 6 (cArgs 0 [.buf false .u8 32 k, .buf true .u8 m u, .empty]) (cMem [.buf false .u8 32 k, .buf true .u8 m u, .empty])).go [true, false]) = some (okP k ++ (buP m ++ (okL k ++ (buL m ++ (okS k ++ (buP m))))), .bool false true) := by kernel_rfl
theorem ws_ok_buf_any (k : List Int) (m : Nat) (u : List Int) (p : Nat) (r : List Int) : res ((funcA Tryd.prog qw (deep Tryd.prog qn (hwA 0 0 3) 100 5) 400 6 (cArgs 0 [.buf false .u8 32 k, .buf true .u8 m u, .buf true .u8 p r]) (cMem [.buf false .u8 32 k, .buf true .u8 m u, .buf true .u8 p r])).go [true, false]) = some (okP k ++ (buP m ++ (okL k ++ (buL m ++ (okS k ++ (buP m))))), .bool false true) := by kernel_rfl
theorem ws_ok_bad_nil (k : List Int) (u : List Int) : res ((funcA Tryd.prog qw (deep Tryd.prog qn (hwA 0 1 3) 100 5) 400 6 (cArgs 0 [.buf false .u8 32 k, .buf false .u8 32 u, .pl .nilslice]) (cMem [.buf false .u8 32 k, .buf false .u8 32 u, .pl .nilslice])).go [false]) = some (okP k ++ (baP u ++ (okL k ++ (baL u ++ (okS k ++ (baP u))))), .bool false true) := by kernel_rfl
theorem ws_ok_bad_emp (k : List Int) (u : List Int) : res ((funcA Tryd.prog qw (deep Tryd.prog qn (hwA 0 1 3) 100 5) 400 6 (cArgs 0 [.buf false .u8 32 k, .buf false .u8 32 u, .empty]) (cMem [.buf false .u8 32 k, .buf false .u8 32 u, .empty])).go [false]) = some (okP k ++ (baP u ++ (okL k ++ (baL u ++ (okS k ++ (baP u))))), .bool false true) := by kernel_rfl
theorem ws_ok_bad_any (k : List Int) (u : List Int) (p : Nat) (r : List Int) : res ((funcA Tryd.prog qw (deep Tryd.prog qn (hwA 0 1 3) 100 5) 400 6 (cArgs 0 [.buf false .u8 32 k, .buf false .u8 32 u, .buf true .u8 p r]) (cMem [.buf false .u8 32 k, .buf false .u8 32 u, .buf true .u8 p r])).go [false]) = some (okP k ++ (baP u ++ (okL k ++ (baL u ++ (okS k ++ (baP u))))), .bool false true) := by kernel_rfl
end Go.Proofs.YtapficdphhfpnaaDoor
namespace Go.Proofs.YtapficdphhfpnaaDoor
open Go.Ev Go.Wn Go.We
set_option maxRecDepth 1000000
def xs4 (l : List Int) : List Int := [l.getD 0 0, l.getD 1 0, l.getD 2 0, l.getD 3 0]
def shX (k l : List Int) : List Int := xs4 (limbs (mulP (val (bigL k)) ⟨val (xs4 (dcX l)), val (xs4 (dcY l)), false⟩).x)
def shQ (k : List Int) : List Int := enB (rd (xB (bigL k)))
def shS (k u : List Int) : List Bool := [!scT k, !((shQ u).getD 0 0 != 4), onB (ptL (shQ u))]
def shE (k u : List Int) : Bool := decide (bytesL (shX k (shQ u)) = bytesL (shX u (shQ k)))
def shJ (k : List Int) : J3 := j3V (j3L (rB (bigL k)))
def shR (k r : List Int) : J3 := j3V (j3L (rN (val (bigL k)) (j3V (rdLs r)) 256))
def shP (k : List Int) : Bool := decide (shQ k = [4] ++ bytesL (limbs (jXY (shJ k)).x) ++ bytesL (limbs (jXY (shJ k)).y))
def shB (k u : List Int) : List Bool := List.replicate 4 (shE k u) ++ ([true, jIn (shJ k)] ++ (List.replicate 3 (shE k u) ++ List.replicate 4 (shP k)))
def pbP (n : Nat) : List Bool := [decide (0 + n ≤ n), decide (n < 9223372036854775808), (n : Int) != 65]
theorem pb_P {n : Nat} (h1 : n < 9223372036854775808) (h2 : (n : Int) ≠ 65) : Paid (pbP n) := by
  have e : ((n : Int) != 65) = true := by simpa using h2
  exact paid_cons (decide_eq_true (by omega)) (paid_cons (decide_eq_true h1) (paid_cons e Paid.nil))
theorem q_eta {p : Pt} (h : p.o = false) : (⟨p.x, p.y, false⟩ : Pt) = p := by
  cases p with
  | mk x y o => simp only at h; rw [h]
theorem sh_X {k : List Int} {N : Nat} {P : Q P6} (e : val (bigL k) = (N : Int)) (hN : N < 2 ^ 256) (hP : c6.on P) (ho : (ofQ P).o = false) : shX k (enB (ofQ P)) = limbs (ofQ (c6.mul N P)).x := by
  obtain ⟨d1, d2, _⟩ := dc_en (ofQ_In P).ok
  have x4 : ∀ z : Int, xs4 (limbs z) = limbs z := fun _ => rfl
  have v1 : val (limbs (ofQ P).x) = (ofQ P).x := vl_ok (ofQ_In P).ok.1
  have v2 : val (limbs (ofQ P).y) = (ofQ P).y := vl_ok (ofQ_In P).ok.2
  unfold shX
  simp only [d1, d2, x4, v1, v2, q_eta ho, e, mulP_Q hN hP]
theorem sh_X0 {k r : List Int} {N : Nat} {P : Q P6} (e : val (bigL k) = (N : Int)) (hN : N < 2 ^ 256) (hP : c6.on P) (hr : ptL r = ofQ P) : shX k r = limbs (ofQ (c6.mul N P)).x := by
  have x4 : ∀ z : Int, xs4 (limbs z) = limbs z := fun _ => rfl
  have h : shX k r = xs4 (limbs (mulP (val (bigL k)) (ptL r)).x) := rfl
  rw [h, hr, e, mulP_Q hN hP, x4]
/-- What is owed where both secrets may be. -/
theorem sh_paid {k u : List Int} (hk : k.length = 32) (rk : okb k) (sk : scT k = false) (hu : u.length = 32) (ru : okb u) (su : scT u = false) :
    Paid (shS k u) ∧ Paid (shS u k) ∧ Paid (shB k u) := by
  obtain ⟨A, eA, A0, hA⟩ := sec_N hk rk sk
  obtain ⟨C, eC, C0, hC⟩ := sec_N hu ru su
  obtain ⟨a1, a2, a3⟩ := sec_Q eA A0 hA
  obtain ⟨c1, c2, c3⟩ := sec_Q eC C0 hC
  have qk : shQ k = enB (ofQ (c6.mul A g6)) := by unfold shQ; rw [a2]
  have qu : shQ u = enB (ofQ (c6.mul C g6)) := by unfold shQ; rw [c2]
  have on : ∀ N : Nat, (ofQ (c6.mul N g6)).o = false → onB (ptL (enB (ofQ (c6.mul N g6)))) = true := fun N h => by
    rw [(dc_en (ofQ_In _).ok).2.2, q_eta h]
    exact onB_Q (mu_on N)
  have t4 : ∀ p : Pt, (!((enB p).getD 0 0 != 4)) = true := fun _ => rfl
  have xE : shE k u = true := by
    unfold shE
    rw [qk, qu, sh_X eA (n_lt hA) (mu_on C) c3, sh_X eC (n_lt hC) (mu_on A) a3, c6.mul_mul _ _ g6_on, c6.mul_mul _ _ g6_on, Nat.mul_comm]
    exact decide_eq_true rfl
  have rA := rB_R eA (n_lt hA)
  obtain ⟨j1, j2⟩ := j3_R rA
  have jk : shJ k = rB (bigL k) := j1
  have xP : shP k = true := by
    unfold shP
    rw [qk, jk, jXY_R rA]
    exact decide_eq_true rfl
  have xJ : jIn (shJ k) = true := by rw [jk]; exact j2
  refine ⟨?_, ?_, ?_⟩
  · unfold shS
    rw [sk, qu, t4, on C c3]
    exact List.all_eq_true.1 rfl
  · unfold shS
    rw [su, qk, t4, on A a3]
    exact List.all_eq_true.1 rfl
  · unfold shB
    rw [xE, xP, xJ]
    exact List.all_eq_true.1 rfl
theorem pj9 {a b c d e f g h i j : List Bool} (ha : Paid a) (hb : Paid b) (hc : Paid c) (hd : Paid d) (he : Paid e) (hf : Paid f) (hg : Paid g) (hh : Paid h) (hi : Paid i) (hj : Paid j) : Paid (a ++ (b ++ (c ++ (d ++ (e ++ (f ++ (g ++ (h ++ (i ++ j))))))))) := pj ha (pj hb (pj hc (pj hd (pj he (pj hf (pj hg (pj hh (pj hi hj))))))))
theorem ws_ok_ok_nil (k : List Int) (u : List Int) : res ((funcA Tryd.prog qw (deep Tryd.prog qn (hwA 0 0 3) 100 5) 400 6 (cArgs 0 [.buf false .u8 32 k, .buf false .u8 32 u, .pl .nilslice]) (cMem [.buf false .u8 32 k, .buf false .u8 32 u, .pl .nilslice])).go []) = some (okP k ++ (okP u ++ (okL k ++ (okL u ++ (shS k u ++ (shS u k ++ (okS k ++ ([] ++ (shB k u ++ [])))))))), .bool false true) := by kernel_rfl
theorem ws_ok_ok_emp (k : List Int) (u : List Int) : res ((funcA Tryd.prog qw (deep Tryd.prog qn (hwA 0 0 3) 100 5) 400 6 (cArgs 0 [.buf false .u8 32 k, .buf false .u8 32 u, .empty]) (cMem [.buf false .u8 32 k, .buf false .u8 32 u, .empty])).go []) = some (okP k ++ (okP u ++ (okL k ++ (okL u ++ (shS k u ++ (shS u k ++ (okS k ++ ([] ++ (shB k u ++ [])))))))), .bool false true) := by kernel_rfl
theorem ws_ok_ok_buf (k : List Int) (u : List Int) (p : Nat) (r : List Int) : res ((funcA Tryd.prog qw (deep Tryd.prog qn (hwA 0 0 3) 100 5) 400 6 (cArgs 0 [.buf false .u8 32 k, .buf false .u8 32 u, .buf true .u8 p r]) (cMem [.buf false .u8 32 k, .buf false .u8 32 u, .buf true .u8 p r])).go []) = some (okP k ++ (okP u ++ (okL k ++ (okL u ++ (shS k u ++ (shS u k ++ (okS k ++ ((pbP p ++ pbP p) ++ (shB k u ++ [])))))))), .bool false true) := by kernel_rfl
theorem ws_ok_ok_p3 (k : List Int) (u : List Int) (r : List Int) : res ((funcA Tryd.prog qw (deep Tryd.prog qn (hwA 0 0 3) 100 5) 400 6 (cArgs 0 [.buf false .u8 32 k, .buf false .u8 32 u, .buf false .u8 65 r]) (cMem [.buf false .u8 32 k, .buf false .u8 32 u, .buf false .u8 65 r])).go []) = some (okP k ++ (okP u ++ (okL k ++ (okL u ++ (shS k u ++ (shS u k ++ (okS k ++ ([(r.getD 0 0 != 4), (r.getD 0 0 != 4)] ++ (shB k u ++ [])))))))), .bool false true) := by kernel_rfl
theorem ws_ok_ok_p4 (k : List Int) (u : List Int) (r : List Int) : res ((funcA Tryd.prog qw (deep Tryd.prog qn (hwA 0 0 4) 100 5) 400 6 (cArgs 0 [.buf false .u8 32 k, .buf false .u8 32 u, .buf false .u8 65 r]) (cMem [.buf false .u8 32 k, .buf false .u8 32 u, .buf false .u8 65 r])).go []) = some (okP k ++ (okP u ++ (okL k ++ (okL u ++ (shS k u ++ (shS u k ++ (okS k ++ ([!(r.getD 0 0 != 4), !onB (ptL r), !(r.getD 0 0 != 4), !rdB r] ++ (shB k u ++ [])))))))), .bool false true) := by kernel_rfl
theorem ws_ok_ok_p0 (k : List Int) (u : List Int) (r : List Int) : res ((funcA Tryd.prog qw (deep Tryd.prog qn (hwA 0 0 0) 100 5) 400 6 (cArgs 0 [.buf false .u8 32 k, .buf false .u8 32 u, .buf false .u8 65 r]) (cMem [.buf false .u8 32 k, .buf false .u8 32 u, .buf false .u8 65 r])).go []) = some (okP k ++ (okP u ++ (okL k ++ (okL u ++ (shS k u ++ (shS u k ++ (okS k ++ ([!(r.getD 0 0 != 4), onB (ptL r), !(r.getD 0 0 != 4), rdB r] ++ (shB k u ++ [!(r.getD 0 0 != 4), rdB r, jIn (j3V (rdLs r)), jIn (shR k r)])))))))), .bool true (decide (bytesL (shX k r) = bytesL (limbs (jXY (shR k r)).x)))) := by kernel_rfl
end Go.Proofs.YtapficdphhfpnaaDoor
