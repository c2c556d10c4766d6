/- Layer 10: Verify of other lengths. Own work. -/
import Derived.Test.YthelmpjkkkhopaaDoorPEwN
import Derived.Test.YthelmpjkkkhopaaDoorPEwS
import Derived.Test.YthelmpjkkkhopaaDoorPEeLenC
set_option linter.unusedSimpArgs false
set_option linter.unusedVariables false
set_option linter.unusedSectionVars false
namespace Go.Proofs.YthelmpjkkkhopaaDoor
open Go.Ev Go.Wn Go.Mo
set_option maxRecDepth 100000
theorem vl_31 (p : List Int) (m g : V) : seeV 0 ((funcL Tryd.prog qE (deep Tryd.prog qE hE1 400 4) (fun _ _ => none) 400 10 (cArgs 0 [.buf false .u8 31 p, m, g]) (cMem [.buf false .u8 31 p, m, g])).go []) =
    some ([], .int false .i64 2, some (some ⟨false, .ints .u8 (some 31) p⟩)) := by kernel_rfl
theorem vl_n (p g : List Int) (m : V) (n : Nat) : seeV 0 ((funcL Tryd.prog qE (deep Tryd.prog qE hE1 400 4) (fun _ _ => none) 400 10 (cArgs 0 [.buf false .u8 32 p, m, .buf true .u8 n g]) (cMem [.buf false .u8 32 p, m, .buf true .u8 n g])).go [true]) =
    some ([decide (n < 9223372036854775808), (n : Int) != 64], .int false .i64 2, some (some ⟨false, .ints .u8 (some 32) p⟩)) := by kernel_rfl
def vlS : List V → E (AV × Mem)
  | [.buf false .u8 31 _, _, _] => some ([], (.int false .i64 2, []))
  | [.buf false .u8 32 _, _, .buf true .u8 n _] => some ([decide (n < 9223372036854775808), (n : Int) != 64], (.int false .i64 2, []))
  | _ => none
theorem vl_ok2 {xs : List V} {o : List Bool} {v : AV} {bs : Mem} (h : vlS xs = some (o, (v, bs))) (ho : Paid o) : ViewCall Tryd.prog 10 xs v bs := by
  have D := hE1_ok.deep (q := qE) mixed noCount 400 4
  unfold vlS at h
  split at h
  · rename_i p m g
    cases h
    intro ρ vs w ha hi
    exact viewN_none mixed noCount D (lo1 _) [] 0 (vl_31 p m g) Paid.nil rfl rfl rfl rfl ha hi
  · rename_i p m n g
    cases h
    intro ρ vs w ha hi
    exact viewN_none mixed noCount D (lo1 _) [true] 0 (vl_n p g m n) ho rfl rfl rfl rfl ha hi
  · cases h
end Go.Proofs.YthelmpjkkkhopaaDoor
namespace Go.Mo
open Go.Ev Go.Wn
def byR (l : List Int) : List Int := [IntKind.u8.wrap (IntKind.i64.wrap (((digs l).getD 15 0).tdiv 256)), IntKind.u8.wrap (((digs l).getD 15 0).tmod 256), IntKind.u8.wrap (IntKind.i64.wrap (((digs l).getD 14 0).tdiv 256)), IntKind.u8.wrap (((digs l).getD 14 0).tmod 256), IntKind.u8.wrap (IntKind.i64.wrap (((digs l).getD 13 0).tdiv 256)), IntKind.u8.wrap (((digs l).getD 13 0).tmod 256), IntKind.u8.wrap (IntKind.i64.wrap (((digs l).getD 12 0).tdiv 256)), IntKind.u8.wrap (((digs l).getD 12 0).tmod 256), IntKind.u8.wrap (IntKind.i64.wrap (((digs l).getD 11 0).tdiv 256)), IntKind.u8.wrap (((digs l).getD 11 0).tmod 256), IntKind.u8.wrap (IntKind.i64.wrap (((digs l).getD 10 0).tdiv 256)), IntKind.u8.wrap (((digs l).getD 10 0).tmod 256), IntKind.u8.wrap (IntKind.i64.wrap (((digs l).getD 9 0).tdiv 256)), IntKind.u8.wrap (((digs l).getD 9 0).tmod 256), IntKind.u8.wrap (IntKind.i64.wrap (((digs l).getD 8 0).tdiv 256)), IntKind.u8.wrap (((digs l).getD 8 0).tmod 256), IntKind.u8.wrap (IntKind.i64.wrap (((digs l).getD 7 0).tdiv 256)), IntKind.u8.wrap (((digs l).getD 7 0).tmod 256), IntKind.u8.wrap (IntKind.i64.wrap (((digs l).getD 6 0).tdiv 256)), IntKind.u8.wrap (((digs l).getD 6 0).tmod 256), IntKind.u8.wrap (IntKind.i64.wrap (((digs l).getD 5 0).tdiv 256)), IntKind.u8.wrap (((digs l).getD 5 0).tmod 256), IntKind.u8.wrap (IntKind.i64.wrap (((digs l).getD 4 0).tdiv 256)), IntKind.u8.wrap (((digs l).getD 4 0).tmod 256), IntKind.u8.wrap (IntKind.i64.wrap (((digs l).getD 3 0).tdiv 256)), IntKind.u8.wrap (((digs l).getD 3 0).tmod 256), IntKind.u8.wrap (IntKind.i64.wrap (((digs l).getD 2 0).tdiv 256)), IntKind.u8.wrap (((digs l).getD 2 0).tmod 256), IntKind.u8.wrap (IntKind.i64.wrap (((digs l).getD 1 0).tdiv 256)), IntKind.u8.wrap (((digs l).getD 1 0).tmod 256), IntKind.u8.wrap (IntKind.i64.wrap (((digs l).getD 0 0).tdiv 256)), IntKind.u8.wrap (((digs l).getD 0 0).tmod 256)]
theorem u8w {x : Int} (h : 0 ≤ x ∧ x < 256) : IntKind.u8.wrap x = x := by
  unfold IntKind.wrap; simp [IntKind.bits, IntKind.signed]; omega
theorem dg_hi {x : Int} (hx : 0 ≤ x ∧ x < 65536) : IntKind.u8.wrap (IntKind.i64.wrap (x.tdiv 256)) = x / 256 := by
  rw [Int.tdiv_eq_ediv_of_nonneg hx.1]
  have : IntKind.i64.wrap (x / 256) = x / 256 := w64_id (x := x / 256) (by omega)
  rw [this, u8w (by omega)]
theorem dg_lo {x : Int} (hx : 0 ≤ x ∧ x < 65536) : IntKind.u8.wrap (x.tmod 256) = x % 256 := by
  rw [Int.tmod_eq_emod_of_nonneg hx.1, u8w (by omega)]
end Go.Mo
namespace Go.Proofs.YthelmpjkkkhopaaDoor
open Go.Ev Go.Wn Go.Mo
set_option maxRecDepth 100000
theorem u8w {x : Int} (h : 0 ≤ x ∧ x < 256) : IntKind.u8.wrap x = x := by
  unfold IntKind.wrap; simp [IntKind.bits, IntKind.signed]; omega
theorem byR_eq {a b c d : Int} (ha : W a) (hb : W b) (hc : W c) (hd : W d) : byR [a, b, c, d] = (turnedL [a, b, c, d]).reverse := by
  have e : (turnedL [a, b, c, d]).reverse = [byteW d 56, byteW d 48, byteW d 40, byteW d 32, byteW d 24, byteW d 16, byteW d 8, byteW d 0, byteW c 56, byteW c 48, byteW c 40, byteW c 32, byteW c 24, byteW c 16, byteW c 8, byteW c 0, byteW b 56, byteW b 48, byteW b 40, byteW b 32, byteW b 24, byteW b 16, byteW b 8, byteW b 0, byteW a 56, byteW a 48, byteW a 40, byteW a 32, byteW a 24, byteW a 16, byteW a 8, byteW a 0] := rfl
  rw [e]
  unfold byR
  simp only [digs, List.getD_cons_zero, List.getD_cons_succ]
  unfold W at *
  simp only [List.cons.injEq, and_true]
  refine ⟨?_, ?_, ?_, ?_, ?_, ?_, ?_, ?_, ?_, ?_, ?_, ?_, ?_, ?_, ?_, ?_, ?_, ?_, ?_, ?_, ?_, ?_, ?_, ?_, ?_, ?_, ?_, ?_, ?_, ?_, ?_, ?_⟩
  all_goals (first | rw [dg_hi (by omega)] | rw [dg_lo (by omega)])
  all_goals (unfold byteW; simp only [Int.reducePow]; omega)
def ybS : List V → E (AV × Mem)
  | [.pl (.ints .u64 4 l)] => some ([], (.slice false 0 0 32 none 1, [some ⟨true, .ints .u8 (some 32) (turnedL l).reverse⟩]))
  | _ => none
theorem yb_eval (l : List Int) : seeV 34 ((funcL Tryd.prog qn (deep Tryd.prog qn hr4 100 3) (fun _ _ => none) 200 16 (cArgs 0 [.pl (.ints .u64 4 l)]) (cMem [.pl (.ints .u64 4 l)])).go []) = some ([], .slice false 34 0 32 none 1, some (some ⟨true, .ints .u8 (some 32) (byR l)⟩)) := by kernel_rfl
theorem yb_ok {xs : List V} {o : List Bool} {v : AV} {bs : Mem} (h : ybS xs = some (o, (v, bs))) : ViewCall Tryd.prog 16 xs v bs := by
  unfold ybS at h
  split at h
  · rename_i l
    cases h
    intro ρ vs w ha hi
    have hb := ha
    cases hb with
    | cons _ _ _ _ r0 hb =>
      obtain ⟨a, b, c, d, rfl, w0, w1, w2, w3⟩ := num_arg r0
      have ev := yb_eval [a, b, c, d]
      rw [byR_eq w0 w1 w2 w3] at ev
      exact viewN_one mixed noCount (hr4_ok.deep (q := qn) mixed noCount 100 3) (lo1 _) [] 34 ev Paid.nil (by show 1 ≤ 34; decide) rfl rfl ha hi
  · cases h
def ht6 : CallH := withV 16 ybS ht3
theorem ht6_ok : HOk Tryd.prog ht6 := ht3_ok.withV fun _ _ _ _ h _ => yb_ok h
end Go.Proofs.YthelmpjkkkhopaaDoor
namespace Go.Proofs.YthelmpjkkkhopaaDoor
open Go.Ev Go.Wn Go.Mo
set_option maxRecDepth 100000
def sgW (fs : List Int → List Int → List Int) : List V → E (AV × Mem)
  | [.buf false .u8 32 s, .buf _ .u8 n m] => some ([decide (n < 9223372036854775808)], (.tuple [.slice false 0 0 64 none 1, .int false .i64 0], [some ⟨true, .ints .u8 (some 64) (fs m s)⟩]))
  | [.buf false .u8 32 s, .pl .nilslice] => some ([], (.tuple [.slice false 0 0 64 none 1, .int false .i64 0], [some ⟨true, .ints .u8 (some 64) (fs [] s)⟩]))
  | [.buf false .u8 32 s, .empty] => some ([], (.tuple [.slice false 0 0 64 none 1, .int false .i64 0], [some ⟨true, .ints .u8 (some 64) (fs [] s)⟩]))
  | _ => none
def veW (fv : List Int → List Int → List Int → Bool) : List V → E (AV × Mem)
  | [.buf false .u8 32 p, .buf _ .u8 n m, .buf false .u8 64 g] => some ([decide (n < 9223372036854775808)], (.int true .i64 (verE (fv m p g)), []))
  | [.buf false .u8 32 p, .pl .nilslice, .buf false .u8 64 g] => some ([], (.int true .i64 (verE (fv [] p g)), []))
  | [.buf false .u8 32 p, .empty, .buf false .u8 64 g] => some ([], (.int true .i64 (verE (fv [] p g)), []))
  | _ => none
def hEx (fp : List Int → List Int) (fs : List Int → List Int → List Int) (fv : List Int → List Int → List Int → Bool) : CallH :=
  orH (withC 6 sndS (withV 10 vlS (withV 10 (veW fv) (withV 7 (puV fp) (withV 8 (sgW fs) hE1))))) ht6
theorem hEx_ok : HOk Tryd.prog (hEx pubB fsB fvB) := by
  refine (((((hE1_ok.withV fun xs o v bs h ho => ?_).withV fun xs o v bs h ho => ?_).withV fun xs o v bs h ho => ?_).withV fun _ _ _ _ h ho => vl_ok2 h ho).withC fun _ _ _ h _ => snd_ok h).or ht6_ok
  · unfold sgW at h
    split at h
    · rename_i s b n m; cases h; exact sg_ok (xs := [.buf false .u8 32 s, .buf b .u8 n m]) (o := [decide (n < 9223372036854775808)]) rfl ho
    · rename_i s; cases h; exact sg_ok (xs := [.buf false .u8 32 s, .pl .nilslice]) (o := []) rfl ho
    · rename_i s; cases h; exact sg_ok (xs := [.buf false .u8 32 s, .empty]) (o := []) rfl ho
    · cases h
  · unfold puV at h
    split at h
    · rename_i s; cases h; exact pu_ok (xs := [.buf false .u8 32 s]) (o := []) rfl ho
    · cases h
  · unfold veW at h
    split at h
    · rename_i p b n m g; cases h; exact ve_ok (xs := [.buf false .u8 32 p, .buf b .u8 n m, .buf false .u8 64 g]) (o := [decide (n < 9223372036854775808)]) rfl ho
    · rename_i p g; cases h; exact ve_ok (xs := [.buf false .u8 32 p, .pl .nilslice, .buf false .u8 64 g]) (o := []) rfl ho
    · rename_i p g; cases h; exact ve_ok (xs := [.buf false .u8 32 p, .empty, .buf false .u8 64 g]) (o := []) rfl ho
    · cases h
/-- The number, and the order more; the bent signature. -/
def esA (g : List Int) : Int := val (bigL ((g.drop 32).take 32).reverse) + val orderL
def esB (g : List Int) : List Int := (g.drop 0).take 32 ++ (turnedL (limbs (esA g))).reverse.reverse
def cutK (c : Int) : Int := (IntKind.i64.wrap (c.tmod 64 + 64)).tmod 64
theorem cutK_b (c : Int) : 0 ≤ cutK c ∧ cutK c < 64 := by
  have h1 : c.tmod 64 < 64 := Int.tmod_lt_of_pos c (by decide)
  have h2 : -64 < c.tmod 64 := by
    have := Int.tmod_lt_of_pos (-c) (show (0 : Int) < 64 by decide)
    rw [Int.neg_tmod] at this
    omega
  have e := w64_id (x := c.tmod 64 + 64) (by omega)
  unfold w64 at e
  unfold cutK
  rw [e, Int.tmod_eq_emod_of_nonneg (by omega)]
  omega
theorem es_ok (f : St5 → St5) (s : List Int) : (esA (sigB f s) / 115792089237316195423570985008687907853269984665640564039457584007913129639936 == 0) = true ∧ ∀ p, verB f p (esB (sigB f s)) = false := by
  obtain ⟨N, hN, hN2⟩ := sd_nat s
  obtain ⟨r, hr, hr2⟩ := nm_nat (e5 (f (sgA s)))
  obtain ⟨k, hk, hk2⟩ := nm_nat (e5 (f (sgB2 (sgP f s) (pubB s))))
  have eS := sgS_nat (f := f) hN hr hk
  have hS : (r + k * N) % L25 < L25 := Nat.mod_lt _ (by decide)
  have hL : L25 < 2 ^ 253 := by decide
  have h1 : (sgP f s).length = 32 := ptB8_len _
  have h2 : (turnedL (sgS f s)).length = 32 := turned_len _ rfl
  have e1 : ((sigB f s).drop 32).take 32 = turnedL (sgS f s) := by
    unfold sigB
    rw [List.drop_left' h1, List.take_of_length_le (by omega)]
  have oL : val orderL = (L25 : Int) := by decide +kernel
  have eA : esA (sigB f s) = (((r + k * N) % L25 : Nat) : Int) + (L25 : Int) := by
    unfold esA
    rw [e1, big_rev h2, oL]
    have : leI (turnedL (sgS f s)) = (((r + k * N) % L25 : Nat) : Int) := by
      rw [eS]
      exact (pt_okb _ ⟨by omega, by omega⟩).2
    unfold leI at this
    rw [this]
  generalize (r + k * N) % L25 = S at *
  constructor
  · rw [eA]
    simp only [beq_iff_eq]
    omega
  · intro p
    have e2 : veS (esB (sigB f s)) = litL (turnedL (limbs (esA (sigB f s)))) := by
      have h3 : (((sigB f s).drop 0).take 32).length = 32 := by
        rw [List.length_take, List.drop_zero]
        unfold sigB
        rw [List.length_append, h1, h2]
        rfl
      have h4 : (turnedL (limbs (esA (sigB f s)))).length = 32 := turned_len _ rfl
      unfold veS esB
      rw [List.reverse_reverse, List.drop_left' h3, List.take_of_length_le (by omega)]
    have e3 : val (veS (esB (sigB f s))) = esA (sigB f s) := by
      rw [e2]
      exact (pt_okb _ ⟨by omega, by omega⟩).2
    have e4 : veB (esB (sigB f s)) = false := by
      unfold veB
      rw [e3, eA, oL]
      exact decide_eq_false (by omega)
    unfold verB
    rw [e4, Bool.false_and, Bool.and_false]
end Go.Proofs.YthelmpjkkkhopaaDoor
