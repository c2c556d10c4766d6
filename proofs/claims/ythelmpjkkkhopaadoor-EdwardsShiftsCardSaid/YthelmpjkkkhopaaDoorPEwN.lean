/- Layer 10: what Verify answers, of lengths that are right. Own work. -/
import Derived.Test.YthelmpjkkkhopaaDoorPEwH
set_option linter.unusedSimpArgs false
set_option linter.unusedVariables false
set_option linter.unusedSectionVars false
namespace Go.Proofs.YthelmpjkkkhopaaDoor
open Go.Ev Go.Wn Go.Mo
set_option maxRecDepth 100000
def veR (g : List Int) : List Int := (g.drop 0).take 32
def veS (g : List Int) : List Int := litL ((g.drop 32).take 32)
def veK (f : St5 → St5) (p g : List Int) : List Int := sgK f (veR g) p
def veP (f : St5 → St5) (p g : List Int) : List Int := turnedL (limbs (wnI (e4V (e4L (eSum (e4V (e4L (eMul (val (veS g)) (e4V baseL)))) (e4V (e4L (eMul (val (veK f p g)) (e4V (e4L (eNeg (e4V (rdL p)))))))))))) )
def v5 (a : Bool) : List Bool := [true, true, true, true, true, !(!(!a)) || !(!a), !(!(!a)) || !(!a), !(!(!a)) || !(!a), !a || !(!a)]
def vM (a s : Bool) : Bool := match !a with
  | true => true
  | false => !s
def veB (g : List Int) : Bool := decide (val (veS g) < val orderL)
def vmO (f : St5 → St5) (p g : List Int) (n : Nat) : List Bool := [true, true, true] ++ okS (sgB1 (veR g)) ++ [true, decide (0 + n ≤ n)] ++ okS (sgB2 (veR g) p) ++ [decide (n < 9223372036854775808)] ++ okS (f (sgB2 (veR g) p)) ++ List.replicate 7 true
def vmO0 (p g : List Int) : List Bool := [true, true, true] ++ okS (sgB1 (veR g)) ++ [true] ++ okS (sgB2 (veR g) p) ++ List.replicate 7 true
theorem ve_buf1 (p m g : List Int) (n : Nat) : seeV 0 ((funcL Tryd.prog qE (deep Tryd.prog qE hE1 400 4) (fun _ _ => none) 400 10 (cArgs 0 [.buf false .u8 32 p, .buf true .u8 n m, .buf false .u8 64 g]) (cMem [.buf false .u8 32 p, .buf true .u8 n m, .buf false .u8 64 g])).go [true]) =
    some (v5 (rdOk p) ++ [vM (rdOk p) (veB g)], .int false .i64 6, some (some ⟨false, .ints .u8 (some 32) p⟩)) := by kernel_rfl
theorem ve_buf2 (p m g : List Int) (n : Nat) : seeV 0 ((funcL Tryd.prog qE (deep Tryd.prog qE hE1 400 4) (fun _ _ => none) 400 10 (cArgs 0 [.buf false .u8 32 p, .buf true .u8 n m, .buf false .u8 64 g]) (cMem [.buf false .u8 32 p, .buf true .u8 n m, .buf false .u8 64 g])).go [false, true]) =
    some (v5 (rdOk p) ++ [!vM (rdOk p) (veB g)] ++ vmO (sgM m n) p g n ++ [!decide (veP (sgM m n) p g = veR g)], .int false .i64 6, some (some ⟨false, .ints .u8 (some 32) p⟩)) := by kernel_rfl
theorem ve_buf3 (p m g : List Int) (n : Nat) : seeV 0 ((funcL Tryd.prog qE (deep Tryd.prog qE hE1 400 4) (fun _ _ => none) 400 10 (cArgs 0 [.buf false .u8 32 p, .buf true .u8 n m, .buf false .u8 64 g]) (cMem [.buf false .u8 32 p, .buf true .u8 n m, .buf false .u8 64 g])).go [false, false]) =
    some (v5 (rdOk p) ++ [!vM (rdOk p) (veB g)] ++ vmO (sgM m n) p g n ++ [!(!decide (veP (sgM m n) p g = veR g))], .int false .i64 0, some (some ⟨false, .ints .u8 (some 32) p⟩)) := by kernel_rfl
theorem ve_nil1 (p g : List Int) : seeV 0 ((funcL Tryd.prog qE (deep Tryd.prog qE hE1 400 4) (fun _ _ => none) 400 10 (cArgs 0 [.buf false .u8 32 p, .pl .nilslice, .buf false .u8 64 g]) (cMem [.buf false .u8 32 p, .pl .nilslice, .buf false .u8 64 g])).go [true]) =
    some (v5 (rdOk p) ++ [vM (rdOk p) (veB g)], .int false .i64 6, some (some ⟨false, .ints .u8 (some 32) p⟩)) := by kernel_rfl
theorem ve_nil2 (p g : List Int) : seeV 0 ((funcL Tryd.prog qE (deep Tryd.prog qE hE1 400 4) (fun _ _ => none) 400 10 (cArgs 0 [.buf false .u8 32 p, .pl .nilslice, .buf false .u8 64 g]) (cMem [.buf false .u8 32 p, .pl .nilslice, .buf false .u8 64 g])).go [false, true]) =
    some (v5 (rdOk p) ++ [!vM (rdOk p) (veB g)] ++ vmO0 p g ++ [!decide (veP id p g = veR g)], .int false .i64 6, some (some ⟨false, .ints .u8 (some 32) p⟩)) := by kernel_rfl
theorem ve_nil3 (p g : List Int) : seeV 0 ((funcL Tryd.prog qE (deep Tryd.prog qE hE1 400 4) (fun _ _ => none) 400 10 (cArgs 0 [.buf false .u8 32 p, .pl .nilslice, .buf false .u8 64 g]) (cMem [.buf false .u8 32 p, .pl .nilslice, .buf false .u8 64 g])).go [false, false]) =
    some (v5 (rdOk p) ++ [!vM (rdOk p) (veB g)] ++ vmO0 p g ++ [!(!decide (veP id p g = veR g))], .int false .i64 0, some (some ⟨false, .ints .u8 (some 32) p⟩)) := by kernel_rfl
theorem ve_emp1 (p g : List Int) : seeV 0 ((funcL Tryd.prog qE (deep Tryd.prog qE hE1 400 4) (fun _ _ => none) 400 10 (cArgs 0 [.buf false .u8 32 p, .empty, .buf false .u8 64 g]) (cMem [.buf false .u8 32 p, .empty, .buf false .u8 64 g])).go [true]) =
    some (v5 (rdOk p) ++ [vM (rdOk p) (veB g)], .int false .i64 6, some (some ⟨false, .ints .u8 (some 32) p⟩)) := by kernel_rfl
theorem ve_emp2 (p g : List Int) : seeV 0 ((funcL Tryd.prog qE (deep Tryd.prog qE hE1 400 4) (fun _ _ => none) 400 10 (cArgs 0 [.buf false .u8 32 p, .empty, .buf false .u8 64 g]) (cMem [.buf false .u8 32 p, .empty, .buf false .u8 64 g])).go [false, true]) =
    some (v5 (rdOk p) ++ [!vM (rdOk p) (veB g)] ++ vmO0 p g ++ [!decide (veP id p g = veR g)], .int false .i64 6, some (some ⟨false, .ints .u8 (some 32) p⟩)) := by kernel_rfl
theorem ve_emp3 (p g : List Int) : seeV 0 ((funcL Tryd.prog qE (deep Tryd.prog qE hE1 400 4) (fun _ _ => none) 400 10 (cArgs 0 [.buf false .u8 32 p, .empty, .buf false .u8 64 g]) (cMem [.buf false .u8 32 p, .empty, .buf false .u8 64 g])).go [false, false]) =
    some (v5 (rdOk p) ++ [!vM (rdOk p) (veB g)] ++ vmO0 p g ++ [!(!decide (veP id p g = veR g))], .int false .i64 0, some (some ⟨false, .ints .u8 (some 32) p⟩)) := by kernel_rfl
theorem v5_paid (a : Bool) : Paid (v5 a) := by cases a <;> exact List.all_eq_true.1 rfl
/-- Is it taken? -/
def verB (f : St5 → St5) (p g : List Int) : Bool := rdOk p && (veB g && decide (veP f p g = veR g))
def verE (b : Bool) : Int := match b with
  | true => 0
  | false => 6
theorem veR_len {g : List Int} (h : g.length = 64) : (veR g).length = 32 := by unfold veR; rw [List.length_take, List.drop_zero, h]; rfl
theorem vmO_paid {m p g : List Int} {n : Nat} (hp : p.length = 32) (hg : g.length = 64) (hn : n < 9223372036854775808) : Paid (vmO (sgF m) p g n) := by
  have a : Paid [true, decide (0 + n ≤ n)] := paid_cons rfl (paid_cons (decide_eq_true (by omega)) Paid.nil)
  have q : Paid [decide (n < 9223372036854775808)] := paid_cons (decide_eq_true hn) Paid.nil
  have t : Paid [true, true, true] := rep_true 3
  have b1 := sgB1_OK (veR_len hg)
  have b2 := sgB2_OK (veR_len hg) hp
  exact paid_append.2 ⟨paid_append.2 ⟨paid_append.2 ⟨paid_append.2 ⟨paid_append.2 ⟨paid_append.2 ⟨t, okS_paid b1⟩, a⟩, okS_paid b2⟩, q⟩, okS_paid (sgF_OK b2)⟩, rep_true _⟩
theorem vmO0_paid {p g : List Int} (hp : p.length = 32) (hg : g.length = 64) : Paid (vmO0 p g) := by
  have a : Paid [true] := paid_cons rfl Paid.nil
  have t : Paid [true, true, true] := rep_true 3
  have b1 := sgB1_OK (veR_len hg)
  have b2 := sgB2_OK (veR_len hg) hp
  exact paid_append.2 ⟨paid_append.2 ⟨paid_append.2 ⟨paid_append.2 ⟨t, okS_paid b1⟩, a⟩, okS_paid b2⟩, rep_true _⟩
theorem view_mark {g : FuncId} {xs : List V} {n : Int} (h : ViewCall Tryd.prog g xs (.int false .i64 n) []) : ViewCall Tryd.prog g xs (.int true .i64 n) [] := by
  intro ρ vs w ha hi
  refine (h ha hi).mono fun u w' ⟨ρ', r, k⟩ => ⟨ρ', ?_, k⟩
  have r' : Rep ρ' (upto (xs.length + 0)) (.int false .i64 n) u := r
  show Rep ρ' (upto (xs.length + 0)) (.int true .i64 n) u
  cases r' with | int _ _ _ h => exact .int _ _ _ h
/-- One of three ways. -/
theorem ve_ways {xs : List V} {a s e : Bool} {mid : List Bool} {b : Option (Option Blk)}
    (h1 : seeV 0 ((funcL Tryd.prog qE (deep Tryd.prog qE hE1 400 4) (fun _ _ => none) 400 10 (cArgs 0 xs) (cMem xs)).go [true]) = some (v5 a ++ [vM a s], .int false .i64 6, b))
    (h2 : seeV 0 ((funcL Tryd.prog qE (deep Tryd.prog qE hE1 400 4) (fun _ _ => none) 400 10 (cArgs 0 xs) (cMem xs)).go [false, true]) = some (v5 a ++ [!vM a s] ++ mid ++ [!e], .int false .i64 6, b))
    (h3 : seeV 0 ((funcL Tryd.prog qE (deep Tryd.prog qE hE1 400 4) (fun _ _ => none) 400 10 (cArgs 0 xs) (cMem xs)).go [false, false]) = some (v5 a ++ [!vM a s] ++ mid ++ [!(!e)], .int false .i64 0, b))
    (hm : Paid mid) (hinj : injB id (xs.length + 0) = true) (hfix : fixB id xs.length = true) : ViewCall Tryd.prog 10 xs (.int true .i64 (verE (a && (s && e)))) [] := by
  have D := hE1_ok.deep (q := qE) mixed noCount 400 4
  have hv := v5_paid a
  cases a with
  | false => exact @view_mark _ _ _ (fun ha hi => viewN_none mixed noCount D (lo1 _) [true] 0 h1 (paid_append.2 ⟨hv, paid_cons rfl Paid.nil⟩) rfl rfl hinj hfix ha hi)
  | true => cases s with
    | false => exact @view_mark _ _ _ (fun ha hi => viewN_none mixed noCount D (lo1 _) [true] 0 h1 (paid_append.2 ⟨hv, paid_cons rfl Paid.nil⟩) rfl rfl hinj hfix ha hi)
    | true =>
      have p1 : Paid (v5 true ++ [!vM true true] ++ mid) := paid_append.2 ⟨paid_append.2 ⟨hv, paid_cons rfl Paid.nil⟩, hm⟩
      cases e with
      | false => exact @view_mark _ _ _ (fun ha hi => viewN_none mixed noCount D (lo1 _) [false, true] 0 h2 (paid_append.2 ⟨p1, paid_cons rfl Paid.nil⟩) rfl rfl hinj hfix ha hi)
      | true => exact @view_mark _ _ _ (fun ha hi => viewN_none mixed noCount D (lo1 _) [false, false] 0 h3 (paid_append.2 ⟨p1, paid_cons rfl Paid.nil⟩) rfl rfl hinj hfix ha hi)
def veSp : List V → E (AV × Mem)
  | [.buf false .u8 32 p, .buf _ .u8 n m, .buf false .u8 64 g] => some ([decide (n < 9223372036854775808)], (.int true .i64 (verE (verB (sgF m) p g)), []))
  | [.buf false .u8 32 p, .pl .nilslice, .buf false .u8 64 g] => some ([], (.int true .i64 (verE (verB (sgF []) p g)), []))
  | [.buf false .u8 32 p, .empty, .buf false .u8 64 g] => some ([], (.int true .i64 (verE (verB (sgF []) p g)), []))
  | _ => none
theorem ve_ok {xs : List V} {o : List Bool} {v : AV} {bs : Mem} (h : veSp xs = some (o, (v, bs))) (ho : Paid o) : ViewCall Tryd.prog 10 xs v bs := by
  unfold veSp at h
  split at h
  · rename_i p b n m g
    cases h
    have hn := of_decide_eq_true (ho _ (List.mem_cons_self ..))
    intro ρ vs w ha hi
    obtain ⟨hp, _⟩ := buf_arg hi 0 rfl
    obtain ⟨hl, _⟩ := buf_arg hi 1 rfl
    obtain ⟨hg, _⟩ := buf_arg hi 2 rfl
    have ha2 : Reps ρ (upto 3) (cArgs 0 [.buf false .u8 32 p, .buf true .u8 n m, .buf false .u8 64 g]) vs := by
      cases ha with
      | cons _ _ _ _ r0 hr => cases hr with
        | cons _ _ _ _ r1 hr => cases r1 with
          | slice _ _ _ _ _ _ c ad hn hc hl hw had => exact .cons _ _ _ _ r0 (.cons _ _ _ _ (.slice true 1 0 n none 1 c ad hn hc hl hw had) hr)
    have e1 := ve_buf1 p m g n
    have e2 := ve_buf2 p m g n
    have e3 := ve_buf3 p m g n
    rw [sgM_F hl] at e2 e3
    exact ve_ways e1 e2 e3 (vmO_paid hp hg hn) rfl rfl ha2 hi
  · rename_i p g
    cases h
    intro ρ vs w ha hi
    obtain ⟨hp, _⟩ := buf_arg hi 0 rfl
    obtain ⟨hg, _⟩ := buf_arg hi 2 rfl
    exact ve_ways (ve_nil1 p g) (ve_nil2 p g) (ve_nil3 p g) (vmO0_paid hp hg) rfl rfl ha hi
  · rename_i p g
    cases h
    intro ρ vs w ha hi
    obtain ⟨hp, _⟩ := buf_arg hi 0 rfl
    obtain ⟨hg, _⟩ := buf_arg hi 2 rfl
    exact ve_ways (ve_emp1 p g) (ve_emp2 p g) (ve_emp3 p g) (vmO0_paid hp hg) rfl rfl ha hi
  · cases h
def hE3 : CallH := withV 10 veSp hE2
theorem hE3_ok : HOk Tryd.prog hE3 := hE2_ok.withV fun _ _ _ _ h ho => ve_ok h ho
end Go.Proofs.YthelmpjkkkhopaaDoor
namespace Go.Mo
open Go.Ev Go.Wn
def wnF (p : E4) : Int := mI p.y (pF p.z) + T255 * (mI p.x (pF p.z) % 2)
theorem wnF_eq (p : E4) : wnI p = wnF p := by unfold wnI wnF eWx eWy; rw [pI_eq]
def fRF (w : Int) : Int := ((pw 57896044618658097711785492504343953926634992332820282019728792003956564819949 256 (vl w).toNat p8 1 : Nat) : Int)
theorem fRF_eq (w : Int) : fR w = fRF w := by
  have he : p8 < 2 ^ 256 := by decide +kernel
  unfold fR fRF
  generalize p8 = e at *
  rw [vPL]
  have h := vl_b w
  generalize vl w = y at *
  obtain ⟨n, rfl⟩ := Int.eq_ofNat_of_zero_le h.1
  rw [pw_int n he, Int.toNat_natCast]
def fXXF (y : Int) : Int := mI (sI (mI y y) 1) (pF (aI 1 (mI dI (mI y y))))
def fXF (y : Int) : Int := if mI (fRF (fXXF y)) (fRF (fXXF y)) = fXXF y then fRF (fXXF y) else mI (fRF (fXXF y)) iI
theorem fXF_eq (y : Int) : fX y = fXF y ∧ fXX y = fXXF y := by
  have h : fXX y = fXXF y := by unfold fXX fXXF; rw [pI_eq]
  refine ⟨?_, h⟩
  unfold fX fXF fX0
  rw [h, fRF_eq]
def ryF (y o : Int) : Bool := decide (y < (P25 : Int)) && (decide (mI (fXF y) (fXF y) = fXXF y) && !(decide (fXF y = 0) && decide (o = 1)))
theorem ryF_eq (y o : Int) : ryB y o = ryF y o := by
  obtain ⟨h1, h2⟩ := fXF_eq y
  unfold ryB ryF fOk
  rw [h1, h2]
def ryXF (y o : Int) : Int := if (o + fXF y) % 2 = 1 then sI 0 (fXF y) else fXF y
theorem ryXF_eq (y o : Int) : ryX y o = ryXF y o := by
  unfold ryX ryXF
  rw [(fXF_eq y).1]
end Go.Mo
namespace Go.Proofs.YthelmpjkkkhopaaDoor
open Go.Ev Go.Wn Go.Mo
set_option maxRecDepth 100000
theorem base_V : e4V baseL = eB := by
  have h1 : e4L eB = baseL := by decide +kernel
  rw [← h1]
  exact e4_ok eB_R.1
theorem eMul_ok (N : Int) (p : E4) : (eMul N p).ok := ePr_ok N p 255
theorem ptB8_eq (n : List Int) : ptB8 n = turnedL (limbs (wnI (eMul (val n) eB))) := by
  unfold ptB8
  rw [base_V, e4_ok (eMul_ok _ _)]
def ptF (n : List Int) : List Int := turnedL (limbs (wnF (eMul (val n) eB)))
theorem ptF_eq (n : List Int) : ptB8 n = ptF n := by rw [ptB8_eq, wnF_eq]; rfl
def ryPF (p : List Int) : E4 := ⟨ryXF (leI p % T255) (leI p / T255), leI p % T255, 1, mI (ryXF (leI p % T255) (leI p / T255)) (leI p % T255)⟩
/-- What is reckoned of a key that is a point's. -/
theorem veP_eq {f : St5 → St5} {p g : List Int} (hp : okb p) (h : rdOk p = true) : veP f p g = turnedL (limbs (wnI (eSum (eMul (val (veS g)) eB) (eMul (val (veK f p g)) (eNeg (ryP (leI p % T255) (leI p / T255))))))) := by
  have hl : rdL p = e4L (ryP (leI p % T255) (leI p / T255)) := by unfold rdL; rw [h]
  have hr := le_range hp
  have o1 : (ryP (leI p % T255) (leI p / T255)).ok := ⟨inP_ok (rdX_inP _ _), ⟨by show 0 ≤ leI p % T255; unfold T255; omega, by show leI p % T255 < _; unfold T255; omega⟩, ok_1, mI_ok _ _⟩
  have o2 : (eNeg (ryP (leI p % T255) (leI p / T255))).ok := ⟨sI_ok _ _, o1.2.1, o1.2.2.1, sI_ok _ _⟩
  unfold veP
  rw [hl, base_V, e4_ok o1, e4_ok o2, e4_ok (eMul_ok _ _), e4_ok (eMul_ok _ _), e4_ok (eSum_ok _ _)]
def veF (k S p : List Int) : List Int := turnedL (limbs (wnF (eSum (eMul (val S) eB) (eMul (val k) (eNeg (ryPF p))))))
theorem veF_eq {f : St5 → St5} {p g k S : List Int} (hp : okb p) (h : rdOk p = true) (hk : veK f p g = k) (hS : veS g = S) : veP f p g = veF k S p := by
  rw [veP_eq hp h, wnF_eq, hk, hS]
  unfold veF ryPF ryP
  rw [ryXF_eq]
def sd0 : List Int := List.replicate 32 0
def sdL0 : List Int := [9671665861578802768, 4486363481191951227, 10410676049338283352, 6264937311002196469]
def pub0 : List Int := [59, 106, 39, 188, 206, 182, 164, 45, 98, 163, 168, 208, 42, 111, 13, 115, 101, 50, 21, 119, 29, 226, 67, 166, 58, 192, 72, 161, 139, 89, 218, 41]
def sgR0 : List Int := [9564151600438377273, 495160968050693096, 13759262623946944591, 545360850824873473]
def sgP0 : List Int := [247, 244, 149, 243, 4, 33, 124, 74, 253, 75, 81, 100, 34, 217, 101, 111, 166, 16, 62, 142, 249, 56, 56, 94, 192, 74, 155, 147, 187, 50, 194, 83]
def sgK0 : List Int := [185221042343802021, 12533257155103701717, 1471220743615447814, 982592495398673762]
def sig0 : List Int := [247, 244, 149, 243, 4, 33, 124, 74, 253, 75, 81, 100, 34, 217, 101, 111, 166, 16, 62, 142, 249, 56, 56, 94, 192, 74, 155, 147, 187, 50, 194, 83, 104, 139, 141, 186, 210, 24, 114, 19, 173, 221, 214, 27, 249, 188, 205, 65, 30, 10, 243, 133, 166, 159, 215, 35, 213, 181, 199, 143, 21, 68, 212, 3]
def fx : St5 → St5 := sgF [120]
def fy : St5 → St5 := sgF [121]
theorem a_sdL : sdL sd0 = sdL0 := by decide +kernel
theorem a_pub : pubB sd0 = pub0 := by unfold pubB; rw [a_sdL, ptF_eq]; decide +kernel
theorem a_r : sgR fx sd0 = sgR0 := by decide +kernel
theorem a_P : sgP fx sd0 = sgP0 := by unfold sgP; rw [a_r, ptF_eq]; decide +kernel
theorem a_k : sgK fx sgP0 pub0 = sgK0 := by decide +kernel
theorem a_sig : sigB fx sd0 = sig0 := by
  unfold sigB sgS
  rw [a_P, a_pub, a_r, a_k, a_sdL]
  decide +kernel
theorem a_okb : okb pub0 := ⟨rfl, List.all_eq_true.1 (by decide +kernel : (pub0.all fun x => inR .u8 x) = true)⟩
theorem a_rd : rdOk pub0 = true := by unfold rdOk; rw [ryF_eq]; decide +kernel
def sgKy : List Int := [12845223308347299634, 14551830953460402320, 9458529875620425974, 136706214894498238]
theorem a_ky : veK fy pub0 sig0 = sgKy := by decide +kernel
theorem a_kx : veK fx pub0 sig0 = sgK0 := by decide +kernel
def sgS0 : List Int := [1401209727417682792, 4741653760790945197, 2582708448880953886, 275920336573674965]
theorem a_S : veS sig0 = sgS0 := by decide +kernel
theorem a_vx : verB fx pub0 sig0 = true := by
  unfold verB
  rw [a_rd, veF_eq a_okb a_rd a_kx a_S]
  decide +kernel
theorem a_vy : verB fy pub0 sig0 = false := by
  unfold verB
  rw [a_rd, veF_eq a_okb a_rd a_ky a_S]
  decide +kernel
end Go.Proofs.YthelmpjkkkhopaaDoor
namespace Go.Proofs.YthelmpjkkkhopaaDoor
open Go.Ev Go.Wn Go.Mo
set_option maxRecDepth 100000
theorem po_ok32 (b : List Int) : seeV 0 ((funcL Tryd.prog qE (deep Tryd.prog qE hE1 400 4) (fun _ _ => none) 400 9 (cArgs 0 [.buf false .u8 32 b]) (cMem [.buf false .u8 32 b])).go []) =
    some (List.replicate 5 true, .bool true (rdOk b), some (some ⟨false, .ints .u8 (some 32) b⟩)) := by kernel_rfl
theorem po_buf (n : Nat) (b : List Int) : seeV 0 ((funcL Tryd.prog qE (deep Tryd.prog qE hE1 400 4) (fun _ _ => none) 400 9 (cArgs 0 [.buf true .u8 n b]) (cMem [.buf true .u8 n b])).go []) =
    some (List.replicate 4 true ++ [decide (0 + n ≤ n), true, !decide ((n : Int) = 32), decide (n < 9223372036854775808)], .bool false false, some (some ⟨false, .ints .u8 (some n) b⟩)) := by kernel_rfl
theorem po_nil : seeV 0 ((funcL Tryd.prog qE (deep Tryd.prog qE hE1 400 4) (fun _ _ => none) 400 9 (cArgs 0 [.pl .nilslice]) (cMem [.pl .nilslice])).go []) =
    some (List.replicate 5 true, .bool false false, some none) := by kernel_rfl
theorem po_emp : seeV 0 ((funcL Tryd.prog qE (deep Tryd.prog qE hE1 400 4) (fun _ _ => none) 400 9 (cArgs 0 [.empty]) (cMem [.empty])).go []) =
    some (List.replicate 5 true, .bool false false, some none) := by kernel_rfl
def poS : List V → E (AV × Mem)
  | [.buf false .u8 32 b] => some ([], (.bool true (rdOk b), []))
  | [.buf true .u8 n _] => some ([!decide ((n : Int) = 32), decide (n < 9223372036854775808)], (.bool false false, []))
  | [.pl .nilslice] => some ([], (.bool false false, []))
  | [.empty] => some ([], (.bool false false, []))
  | _ => none
theorem po_ok {xs : List V} {o : List Bool} {v : AV} {bs : Mem} (h : poS xs = some (o, (v, bs))) (ho : Paid o) : ViewCall Tryd.prog 9 xs v bs := by
  have D := hE1_ok.deep (q := qE) mixed noCount 400 4
  unfold poS at h
  split at h
  · rename_i b
    cases h
    intro ρ vs w ha hi
    exact viewN_none mixed noCount D (lo1 _) [] 0 (po_ok32 b) (rep_true _) rfl rfl rfl rfl ha hi
  · rename_i n b
    cases h
    intro ρ vs w ha hi
    exact viewN_none mixed noCount D (lo1 _) [] 0 (po_buf n b) (paid_append.2 ⟨rep_true _, paid_cons (decide_eq_true (by omega)) (paid_cons rfl ho)⟩) rfl rfl rfl rfl ha hi
  · cases h
    intro ρ vs w ha hi
    exact viewN_none mixed noCount D (lo1 _) [] 0 po_nil (rep_true _) rfl rfl rfl rfl ha hi
  · cases h
    intro ρ vs w ha hi
    exact viewN_none mixed noCount D (lo1 _) [] 0 po_emp (rep_true _) rfl rfl rfl rfl ha hi
  · cases h
def puV (fp : List Int → List Int) : List V → E (AV × Mem)
  | [.buf false .u8 32 s] => some ([], (.tuple [.slice false 0 0 32 (some 32) 1, .int false .i64 0], [some ⟨true, .ints .u8 (some 32) (fp s)⟩]))
  | _ => none
def sgV (fs : List Int → List Int → List Int) : List V → E (AV × Mem)
  | [.buf false .u8 32 s, .buf _ .u8 n m] => some ([decide (n < 9223372036854775808)], (.tuple [.slice false 0 0 64 none 1, .int false .i64 0], [some ⟨true, .ints .u8 (some 64) (fs m s)⟩]))
  | _ => none
def poV (fr : List Int → Bool) : List V → E (AV × Mem)
  | [.buf false .u8 32 b] => some ([], (.bool true (fr b), []))
  | _ => none
def veV (fv : List Int → List Int → List Int → Bool) : List V → E (AV × Mem)
  | [.buf false .u8 32 p, .buf _ .u8 n m, .buf false .u8 64 g] => some ([decide (n < 9223372036854775808)], (.int true .i64 (verE (fv m p g)), []))
  | _ => none
def hA (fp : List Int → List Int) (fs : List Int → List Int → List Int) (fr : List Int → Bool) (fv : List Int → List Int → List Int → Bool) : CallH :=
  withV 10 (veV fv) (withV 9 (poV fr) (withV 7 (puV fp) (withV 8 (sgV fs) hE1)))
def qAs (_ : FuncId) : Bool := true
def soO (a b c : Bool) : List Bool := [true, a, a, a, b, b, b, b, b, true, b, b, c, c, c, c, c, true, c, c]
theorem so_eval (fp : List Int → List Int) (fs : List Int → List Int → List Int) (fr : List Int → Bool) (fv : List Int → List Int → List Int → Bool) : res (funcA Tryd.prog qAs (deep Tryd.prog qE (hA fp fs fr fv) 100 5) 200 6 [] []) =
    some (soO ((fp sd0).getD 0 0 == 59) (fr (fp sd0)) (verE (fv [120] (fp sd0) (fs [120] sd0)) == 0), .bool true (verE (fv [121] (fp sd0) (fs [120] sd0)) == 6)) := by kernel_rfl
def fsB (m s : List Int) : List Int := sigB (sgF m) s
def fvB (m p g : List Int) : Bool := verB (sgF m) p g
theorem hA_ok : HOk Tryd.prog (hA pubB fsB rdOk fvB) := by
  refine (((hE1_ok.withV fun xs o v bs h ho => ?_).withV fun xs o v bs h ho => ?_).withV fun xs o v bs h ho => ?_).withV fun xs o v bs h ho => ?_
  · unfold sgV at h
    split at h
    · rename_i s b n m; cases h; exact sg_ok (xs := [.buf false .u8 32 s, .buf b .u8 n m]) (o := [decide (n < 9223372036854775808)]) rfl ho
    · cases h
  · unfold puV at h
    split at h
    · rename_i s; cases h; exact pu_ok (xs := [.buf false .u8 32 s]) (o := []) rfl ho
    · cases h
  · unfold poV at h
    split at h
    · rename_i s; cases h; exact po_ok (xs := [.buf false .u8 32 s]) (o := []) rfl ho
    · cases h
  · unfold veV at h
    split at h
    · rename_i p b n m g; cases h; exact ve_ok (xs := [.buf false .u8 32 p, .buf b .u8 n m, .buf false .u8 64 g]) (o := [decide (n < 9223372036854775808)]) rfl ho
    · cases h
theorem so_f (fp : List Int → List Int) (fs : List Int → List Int → List Int) (fr : List Int → Bool) (fv : List Int → List Int → List Int → Bool) (h1 : fp sd0 = pub0) (h2 : fs [120] sd0 = sig0) (h3 : fr pub0 = true) (h4 : fv [120] pub0 sig0 = true) (h5 : fv [121] pub0 sig0 = false) :
    res (funcA Tryd.prog qAs (deep Tryd.prog qE (hA fp fs fr fv) 100 5) 200 6 [] []) = some (soO true true true, .bool true true) := by
  have h := so_eval fp fs fr fv
  rw [h1, h2, h3, h4, h5] at h
  exact h
theorem pure_of_bool {P : Program} {q : FuncId → Bool} {H : CallH} (hm : P.follows .mixedOrders = true) (hng : Go.Ev.noCount P = true) (hH : HOk P H) {n : Nat} {g : FuncId} {args : List AV} {b : Bool} {o : List Bool} (hp : args.all plainA = true)
    (h : res (funcA P q H n g args []) = some (o, .bool true b)) (ho : Paid o) : PureCall P g args (.bool false b) :=
  pure_of_eval hm hng hH hp (sat_plain h ho unmark)
def sndS : List AV → E AV
  | [] => some ([], .bool false true)
  | _ => none
theorem snd_ok {args : List AV} {o : List Bool} {v : AV} (h : sndS args = some (o, v)) : PureCall Tryd.prog 6 args v := by
  unfold sndS at h
  split at h
  · cases h
    exact pure_of_bool mixed noCount (hA_ok.deep (q := qE) mixed noCount 100 5) (by kernel_rfl) (so_f pubB fsB rdOk fvB a_pub a_sig a_rd a_vx a_vy) (List.all_eq_true.1 rfl)
  · cases h
def hE4 : CallH := withC 6 sndS (withV 9 poS hE3)
theorem hE4_ok : HOk Tryd.prog hE4 := (hE3_ok.withV fun _ _ _ _ h ho => po_ok h ho).withC fun _ _ _ h _ => snd_ok h
end Go.Proofs.YthelmpjkkkhopaaDoor
namespace Go.Proofs.YthelmpjkkkhopaaDoor
open Go.Ev Go.Wn Go.Mo
set_option maxRecDepth 100000
theorem pt_okb (x : Int) (h : ok x) : okb (turnedL (limbs x)) ∧ leI (turnedL (limbs x)) = x := ⟨⟨(tb_ok h).1, (tb_ok h).2.1⟩, (tb_ok h).2.2⟩
theorem sd_okb (s : List Int) : okb (((sdH s).drop 0).take 32) := by
  refine ⟨?_, fun x hx => e5_b _ x (List.mem_of_mem_drop (List.mem_of_mem_take hx))⟩
  rw [List.length_take, List.drop_zero, show (sdH s).length = 64 from e5_len _]
  rfl
theorem sd_nat (s : List Int) : ∃ N : Nat, val (sdL s) = (N : Int) ∧ N < 2 ^ 255 := by
  obtain ⟨N, h1, h2, _⟩ := cl_nat (sd_okb s)
  refine ⟨N, ?_, h2⟩
  unfold sdL
  rw [(kw_eq (sd_okb s).1 (sd_okb s).2).1, h1]
theorem L_pos : (0 : Int) < (L25 : Int) := by decide
theorem mod_L (x : Int) : ∃ r : Nat, x % val OL = (r : Int) ∧ r < L25 := by
  rw [OL_val]
  have h1 := Int.emod_nonneg x (by have := L_pos; omega : (L25 : Int) ≠ 0)
  have h2 := Int.emod_lt_of_pos x L_pos
  obtain ⟨r, hr⟩ := Int.eq_ofNat_of_zero_le h1
  rw [hr] at h2 ⊢
  exact ⟨r, rfl, by omega⟩
theorem val_L {x : Int} : val (limbs (x % val OL)) = x % val OL := by
  obtain ⟨r, h1, h2⟩ := mod_L x
  rw [h1]
  have h3 : L25 < 115792089237316195423570985008687907853269984665640564039457584007913129639936 := by decide
  exact vl_ok ⟨by omega, by omega⟩
theorem nm_nat (h : List Int) : ∃ r : Nat, val (nmL h) = (r : Int) ∧ r < L25 := by
  obtain ⟨r, h1, h2⟩ := mod_L (be (revL h))
  exact ⟨r, by unfold nmL; rw [val_L, h1], h2⟩
theorem sgS_nat {f : St5 → St5} {s : List Int} {N r k : Nat} (hN : val (sdL s) = (N : Int)) (hr : val (sgR f s) = (r : Int)) (hk : val (sgK f (sgP f s) (pubB s)) = (k : Int)) :
    sgS f s = limbs (((r + k * N) % L25 : Nat) : Int) := by
  unfold sgS
  rw [hN, hr, hk, val_L, OL_val, Int.add_emod_emod, Int.natCast_emod, Int.natCast_add, Int.natCast_mul]
end Go.Proofs.YthelmpjkkkhopaaDoor
