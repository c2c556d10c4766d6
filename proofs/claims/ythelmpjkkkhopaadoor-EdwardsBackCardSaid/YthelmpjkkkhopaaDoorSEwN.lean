/- Layer 10: Point's contract; the anchor's text. Own work. -/
import Derived.Test.YthelmpjkkkhopaaDoorSEwJ
set_option linter.unusedSimpArgs false
set_option linter.unusedVariables false
set_option linter.unusedSectionVars false
namespace Go.Proofs.YthelmpjkkkhopaaDoor
open Go.Ev Go.Wn Go.Mo
set_option maxRecDepth 100000
theorem po_ok32 (b : List Int) : seeV 0 ((funcL Tryd.prog qE (deep Tryd.prog qE hE1 400 4) (fun _ _ => none) 400 9 (cArgs 0 [.buf false .u8 32 b]) (cMem [.buf false .u8 32 b])).go []) =
    some (List.replicate 5 true, .bool true (rdOk b), some (some ⟨false, .ints .u8 (some 32) b⟩)) := by kernel_rfl
theorem po_buf (n : Nat) (b : List Int) : seeV 0 ((funcL Tryd.prog qE (deep Tryd.prog qE hE1 400 4) (fun _ _ => none) 400 9 (cArgs 0 [.buf true .u8 n b]) (cMem [.buf true .u8 n b])).go []) =
    some (List.replicate 4 true ++ [decide (0 + n ≤ n), true, !decide ((n : Int) = 32), decide (n < 9223372036854775808)], .bool false false, some (some ⟨false, .ints .u8 (some n) b⟩)) := by kernel_rfl
theorem po_nil : seeV 0 ((funcL Tryd.prog qE (deep Tryd.prog qE hE1 400 4) (fun _ _ => none) 400 9 (cArgs 0 [.pl .nilslice]) (cMem [.pl .nilslice])).go []) =
    some (List.replicate 5 true, .bool false false, some none) := by kernel_rfl
theorem po_emp : seeV 0 ((funcL Tryd.prog qE (deep Tryd.prog qE hE1 400 4) (fun _ _ => none) 400 9 (cArgs 0 [.empty]) (cMem [.empty])).go []) =
    some (List.replicate 5 true, .bool false false, some none) := by kernel_rfl
def poS : List V → E (AV × Mem)
  | [.buf false .u8 32 b] => some ([], (.bool true (rdOk b), []))
  | [.buf true .u8 n _] => some ([!decide ((n : Int) = 32), decide (n < 9223372036854775808)], (.bool false false, []))
  | [.pl .nilslice] => some ([], (.bool false false, []))
  | [.empty] => some ([], (.bool false false, []))
  | _ => none
theorem po_ok {xs : List V} {o : List Bool} {v : AV} {bs : Mem} (h : poS xs = some (o, (v, bs))) (ho : Paid o) : ViewCall Tryd.prog 9 xs v bs := by
  have D := hE1_ok.deep (q := qE) mixed noCount 400 4
  unfold poS at h
  split at h
  · rename_i b
    cases h
    intro ρ vs w ha hi
    exact viewN_none mixed noCount D (lo1 _) [] 0 (po_ok32 b) (rep_true _) rfl rfl rfl rfl ha hi
  · rename_i n b
    cases h
    intro ρ vs w ha hi
    exact viewN_none mixed noCount D (lo1 _) [] 0 (po_buf n b) (paid_append.2 ⟨rep_true _, paid_cons (decide_eq_true (by omega)) (paid_cons rfl ho)⟩) rfl rfl rfl rfl ha hi
  · cases h
    intro ρ vs w ha hi
    exact viewN_none mixed noCount D (lo1 _) [] 0 po_nil (rep_true _) rfl rfl rfl rfl ha hi
  · cases h
    intro ρ vs w ha hi
    exact viewN_none mixed noCount D (lo1 _) [] 0 po_emp (rep_true _) rfl rfl rfl rfl ha hi
  · cases h
def puV (fp : List Int → List Int) : List V → E (AV × Mem)
  | [.buf false .u8 32 s] => some ([], (.tuple [.slice false 0 0 32 (some 32) 1, .int false .i64 0], [some ⟨true, .ints .u8 (some 32) (fp s)⟩]))
  | _ => none
def sgV (fs : List Int → List Int → List Int) : List V → E (AV × Mem)
  | [.buf false .u8 32 s, .buf _ .u8 n m] => some ([decide (n < 9223372036854775808)], (.tuple [.slice false 0 0 64 none 1, .int false .i64 0], [some ⟨true, .ints .u8 (some 64) (fs m s)⟩]))
  | _ => none
def poV (fr : List Int → Bool) : List V → E (AV × Mem)
  | [.buf false .u8 32 b] => some ([], (.bool true (fr b), []))
  | _ => none
def veV (fv : List Int → List Int → List Int → Bool) : List V → E (AV × Mem)
  | [.buf false .u8 32 p, .buf _ .u8 n m, .buf false .u8 64 g] => some ([decide (n < 9223372036854775808)], (.int true .i64 (verE (fv m p g)), []))
  | _ => none
def hA (fp : List Int → List Int) (fs : List Int → List Int → List Int) (fr : List Int → Bool) (fv : List Int → List Int → List Int → Bool) : CallH :=
  withV 10 (veV fv) (withV 9 (poV fr) (withV 7 (puV fp) (withV 8 (sgV fs) hE1)))
def qAs (_ : FuncId) : Bool := true
def soO (a b c : Bool) : List Bool := [true, a, a, a, b, b, b, b, b, true, b, b, c, c, c, c, c, true, c, c]
theorem so_eval (fp : List Int → List Int) (fs : List Int → List Int → List Int) (fr : List Int → Bool) (fv : List Int → List Int → List Int → Bool) : res (funcA Tryd.prog qAs (deep Tryd.prog qE (hA fp fs fr fv) 100 5) 200 6 [] []) =
    some (soO ((fp sd0).getD 0 0 == 59) (fr (fp sd0)) (verE (fv [120] (fp sd0) (fs [120] sd0)) == 0), .bool true (verE (fv [121] (fp sd0) (fs [120] sd0)) == 6)) := by kernel_rfl
def fsB (m s : List Int) : List Int := sigB (sgF m) s
def fvB (m p g : List Int) : Bool := verB (sgF m) p g
theorem hA_ok : HOk Tryd.prog (hA pubB fsB rdOk fvB) := by
  refine (((hE1_ok.withV fun xs o v bs h ho => ?_).withV fun xs o v bs h ho => ?_).withV fun xs o v bs h ho => ?_).withV fun xs o v bs h ho => ?_
  · unfold sgV at h
    split at h
    · rename_i s b n m; cases h; exact sg_ok (xs := [.buf false .u8 32 s, .buf b .u8 n m]) (o := [decide (n < 9223372036854775808)]) rfl ho
    · cases h
  · unfold puV at h
    split at h
    · rename_i s; cases h; exact pu_ok (xs := [.buf false .u8 32 s]) (o := []) rfl ho
    · cases h
  · unfold poV at h
    split at h
    · rename_i s; cases h; exact po_ok (xs := [.buf false .u8 32 s]) (o := []) rfl ho
    · cases h
  · unfold veV at h
    split at h
    · rename_i p b n m g; cases h; exact ve_ok (xs := [.buf false .u8 32 p, .buf b .u8 n m, .buf false .u8 64 g]) (o := [decide (n < 9223372036854775808)]) rfl ho
    · cases h
theorem so_f (fp : List Int → List Int) (fs : List Int → List Int → List Int) (fr : List Int → Bool) (fv : List Int → List Int → List Int → Bool) (h1 : fp sd0 = pub0) (h2 : fs [120] sd0 = sig0) (h3 : fr pub0 = true) (h4 : fv [120] pub0 sig0 = true) (h5 : fv [121] pub0 sig0 = false) :
    res (funcA Tryd.prog qAs (deep Tryd.prog qE (hA fp fs fr fv) 100 5) 200 6 [] []) = some (soO true true true, .bool true true) := by
  have h := so_eval fp fs fr fv
  rw [h1, h2, h3, h4, h5] at h
  exact h
theorem pure_of_bool {P : Program} {q : FuncId → Bool} {H : CallH} (hm : P.follows .mixedOrders = true) (hng : Go.Ev.noCount P = true) (hH : HOk P H) {n : Nat} {g : FuncId} {args : List AV} {b : Bool} {o : List Bool} (hp : args.all plainA = true)
    (h : res (funcA P q H n g args []) = some (o, .bool true b)) (ho : Paid o) : PureCall P g args (.bool false b) :=
  pure_of_eval hm hng hH hp (sat_plain h ho unmark)
def sndS : List AV → E AV
  | [] => some ([], .bool false true)
  | _ => none
theorem snd_ok {args : List AV} {o : List Bool} {v : AV} (h : sndS args = some (o, v)) : PureCall Tryd.prog 6 args v := by
  unfold sndS at h
  split at h
  · cases h
    exact pure_of_bool mixed noCount (hA_ok.deep (q := qE) mixed noCount 100 5) (by kernel_rfl) (so_f pubB fsB rdOk fvB a_pub a_sig a_rd a_vx a_vy) (List.all_eq_true.1 rfl)
  · cases h
def hE4 : CallH := withC 6 sndS (withV 9 poS hE3)
theorem hE4_ok : HOk Tryd.prog hE4 := (hE3_ok.withV fun _ _ _ _ h ho => po_ok h ho).withC fun _ _ _ h _ => snd_ok h
end Go.Proofs.YthelmpjkkkhopaaDoor
namespace Go.Proofs.YthelmpjkkkhopaaDoor
open Go.Ev Go.Wn Go.Mo
set_option maxRecDepth 100000
theorem pub_ok (s : Int) : ok (pubI s) := by
  have hx := mI_inP (eMul s eB).x (pI (eMul s eB).z)
  have hy := mI_inP (eMul s eB).y (pI (eMul s eB).z)
  have h25 : (P25 : Int) < 57896044618658097711785492504343953926634992332820282019728792003956564819968 := by decide
  unfold pubI wnI eWx eWy T255
  unfold inP at hx hy
  unfold ok
  omega
theorem ptB8_pub (n : List Int) : ptB8 n = turnedL (limbs (pubI (val n))) := ptB8_eq n
theorem pt_okb (x : Int) (h : ok x) : okb (turnedL (limbs x)) ∧ leI (turnedL (limbs x)) = x := ⟨⟨(tb_ok h).1, (tb_ok h).2.1⟩, (tb_ok h).2.2⟩
theorem sd_okb (s : List Int) : okb (((sdH s).drop 0).take 32) := by
  refine ⟨?_, fun x hx => e5_b _ x (List.mem_of_mem_drop (List.mem_of_mem_take hx))⟩
  rw [List.length_take, List.drop_zero, show (sdH s).length = 64 from e5_len _]
  rfl
theorem sd_nat (s : List Int) : ∃ N : Nat, val (sdL s) = (N : Int) ∧ N < 2 ^ 255 := by
  obtain ⟨N, h1, h2, _⟩ := cl_nat (sd_okb s)
  refine ⟨N, ?_, h2⟩
  unfold sdL
  rw [(kw_eq (sd_okb s).1 (sd_okb s).2).1, h1]
theorem L_pos : (0 : Int) < (L25 : Int) := by decide
theorem mod_L (x : Int) : ∃ r : Nat, x % val OL = (r : Int) ∧ r < L25 := by
  rw [OL_val]
  have h1 := Int.emod_nonneg x (by have := L_pos; omega : (L25 : Int) ≠ 0)
  have h2 := Int.emod_lt_of_pos x L_pos
  obtain ⟨r, hr⟩ := Int.eq_ofNat_of_zero_le h1
  rw [hr] at h2 ⊢
  exact ⟨r, rfl, by omega⟩
theorem val_L {x : Int} : val (limbs (x % val OL)) = x % val OL := by
  obtain ⟨r, h1, h2⟩ := mod_L x
  rw [h1]
  have h3 : L25 < 115792089237316195423570985008687907853269984665640564039457584007913129639936 := by decide
  exact vl_ok ⟨by omega, by omega⟩
theorem nm_nat (h : List Int) : ∃ r : Nat, val (nmL h) = (r : Int) ∧ r < L25 := by
  obtain ⟨r, h1, h2⟩ := mod_L (be (revL h))
  exact ⟨r, by unfold nmL; rw [val_L, h1], h2⟩
theorem sgS_nat {f : St5 → St5} {s : List Int} {N r k : Nat} (hN : val (sdL s) = (N : Int)) (hr : val (sgR f s) = (r : Int)) (hk : val (sgK f (sgP f s) (pubB s)) = (k : Int)) :
    sgS f s = limbs (((r + k * N) % L25 : Nat) : Int) := by
  unfold sgS
  rw [hN, hr, hk, val_L, OL_val, Int.add_emod_emod, Int.natCast_emod, Int.natCast_add, Int.natCast_mul]
theorem sig_parts (f : St5 → St5) (s : List Int) : veR (sigB f s) = sgP f s ∧ veS (sigB f s) = litL (turnedL (sgS f s)) := by
  have h1 : (sgP f s).length = 32 := ptB8_len _
  have h2 : (turnedL (sgS f s)).length = 32 := turned_len _ rfl
  unfold veR veS sigB
  rw [List.drop_zero, List.take_left' h1, List.drop_left' h1, List.take_of_length_le (by omega)]
  exact ⟨rfl, rfl⟩
theorem back_ok (f : St5 → St5) (s : List Int) : rdOk (pubB s) = true ∧ verB f (pubB s) (sigB f s) = true := by
  obtain ⟨N, hN, hN2⟩ := sd_nat s
  obtain ⟨r, hr, hr2⟩ := nm_nat (e5 (f (sgA s)))
  obtain ⟨k, hk, hk2⟩ := nm_nat (e5 (f (sgB2 (sgP f s) (pubB s))))
  have hr' : val (sgR f s) = (r : Int) := hr
  have hk' : val (sgK f (sgP f s) (pubB s)) = (k : Int) := hk
  obtain ⟨b1, b2⟩ := sign_back hN2 hr2 hk2
  have pA : pubB s = turnedL (limbs (pubI (N : Int))) := by unfold pubB; rw [ptB8_pub, hN]
  obtain ⟨oA, lA⟩ := pt_okb _ (pub_ok (N : Int))
  have okA : okb (pubB s) := by rw [pA]; exact oA
  have leA : leI (pubB s) = pubI (N : Int) := by rw [pA]; exact lA
  have hrd : rdOk (pubB s) = true := by unfold rdOk; rw [leA]; exact b1
  refine ⟨hrd, ?_⟩
  obtain ⟨p1, p2⟩ := sig_parts f s
  have eS := sgS_nat hN hr' hk'
  have hS : (r + k * N) % L25 < L25 := Nat.mod_lt _ (by decide)
  have hlt : L25 < 115792089237316195423570985008687907853269984665640564039457584007913129639936 := by decide
  have oS : ok (((r + k * N) % L25 : Nat) : Int) := ⟨by omega, by omega⟩
  have vS : val (veS (sigB f s)) = (((r + k * N) % L25 : Nat) : Int) := by
    rw [p2, eS]
    exact (pt_okb _ oS).2
  have vK : val (veK f (pubB s) (sigB f s)) = (k : Int) := by unfold veK; rw [p1]; exact hk
  unfold verB
  have hB : veB (sigB f s) = true := by
    unfold veB
    rw [vS]
    refine decide_eq_true ?_
    rw [show val orderL = (L25 : Int) by decide +kernel]
    omega
  rw [hrd, hB, Bool.true_and, Bool.true_and]
  refine decide_eq_true ?_
  rw [veP_eq okA hrd, p1, vS, vK, leA]
  show turnedL (limbs (verI (pubI (N : Int)) _ (k : Int))) = _
  rw [b2]
  unfold sgP
  rw [ptB8_pub, hr']
end Go.Proofs.YthelmpjkkkhopaaDoor
