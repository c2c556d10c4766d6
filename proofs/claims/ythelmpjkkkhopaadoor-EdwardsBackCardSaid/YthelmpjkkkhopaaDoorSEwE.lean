/- Layer 10: an x of a y, and points off their bytes, of the program. Own work. -/
import Derived.Test.YthelmpjkkkhopaaDoorSEwC
set_option linter.unusedSimpArgs false
set_option linter.unusedVariables false
set_option linter.unusedSectionVars false
namespace Go.Proofs.YthelmpjkkkhopaaDoor
open Go.Ev Go.Wn Go.Mo Go.Sh
set_option maxRecDepth 100000
theorem ft_t (T : List Int) (y : Int) : seeV 0 ((funcL Tryd.prog qn (deep Tryd.prog qn hn2 100 3) (fun _ _ => none) 100 55 (qArgs [.pl (.ints .u64 4 (limbs y))]) (qMem pC (oC T) [.pl (.ints .u64 4 (limbs y))])).go [true]) =
    some (List.replicate 8 true ++ [!decide (limbs (mI (fX0 y) (fX0 y)) = limbs (fXX y)), true, true], .tuple [.ints .u64 4 (limbs (mI (fX0 y) iI)), .bool true (decide (limbs (mI (mI (fX0 y) iI) (mI (fX0 y) iI)) = limbs (fXX y)))], some (some ⟨false, pC⟩)) := by kernel_rfl
theorem ft_f (T : List Int) (y : Int) : seeV 0 ((funcL Tryd.prog qn (deep Tryd.prog qn hn2 100 3) (fun _ _ => none) 100 55 (qArgs [.pl (.ints .u64 4 (limbs y))]) (qMem pC (oC T) [.pl (.ints .u64 4 (limbs y))])).go [false]) =
    some (List.replicate 8 true ++ [!!decide (limbs (mI (fX0 y) (fX0 y)) = limbs (fXX y)), true], .tuple [.ints .u64 4 (limbs (fX0 y)), .bool true (decide (limbs (mI (fX0 y) (fX0 y)) = limbs (fXX y)))], some (some ⟨false, pC⟩)) := by kernel_rfl
theorem limbs_inj {x y : Int} (hx : inP x) (hy : inP y) : limbs x = limbs y ↔ x = y := by
  refine ⟨fun h => ?_, fun h => by rw [h]⟩
  have h1 : vl x = vl y := by unfold vl; rw [h]
  rwa [vl_ok (inP_ok hx), vl_ok (inP_ok hy)] at h1
def ftS : Cells → Cells → List V → E (AV × Mem)
  | .ints .u64 (some 9) L, .ints .u64 (some 9) _, [.pl (.ints .u64 4 y)] => some ([isP L], (.tuple [.ints .u64 4 (limbs (fX (val y))), .bool true (fOk (val y))], []))
  | _, _, _ => none
theorem ftS_ok {c d : Cells} {xs : List V} {o : List Bool} {v : AV} {bs : Mem} (h : ftS c d xs = some (o, (v, bs))) (ho : Paid o) : RCall Tryd.prog 55 (qArgs xs) (qMem c d xs) v bs := by
  unfold ftS at h
  split at h
  · rename_i L T y
    cases h
    obtain rfl := q_paid ho
    intro ρ vs w ha hi
    have h2 := ha
    cases h2 with
    | cons _ _ _ _ _ h2 => cases h2 with
      | cons _ _ _ _ r1 h2 =>
        obtain ⟨a, b, c, d, rfl, w0, w1, w2, w3⟩ := num_arg r1
        have e := limbs_val w0 w1 w2 w3
        generalize val [a, b, c, d] = z at *
        rw [← e] at ha hi ⊢
        have i0 := mI_inP (fX0 z) (fX0 z)
        have i1 := fXX_inP z
        by_cases hc : mI (fX0 z) (fX0 z) = fXX z
        · have hx : fX z = fX0 z := by unfold fX; rw [if_pos hc]
          have hd : decide (limbs (mI (fX0 z) (fX0 z)) = limbs (fXX z)) = true := decide_eq_true ((limbs_inj i0 i1).2 hc)
          have ev := ft_f T z
          rw [hd] at ev
          rw [show fOk z = true by unfold fOk; rw [hx]; exact decide_eq_true hc, hx]
          exact rcall_none mixed noCount (hn2_ok.deep mixed noCount 100 3) (lo1 _) [false] 0 ev (paid_append.2 ⟨rep_true _, paid_cons rfl (paid_cons rfl Paid.nil)⟩) rfl rfl rfl rfl ha hi
        · have hx : fX z = mI (fX0 z) iI := by unfold fX; rw [if_neg hc]
          have hd : decide (limbs (mI (fX0 z) (fX0 z)) = limbs (fXX z)) = false := decide_eq_false fun h => hc ((limbs_inj i0 i1).1 h)
          have ev := ft_t T z
          rw [hd] at ev
          have hk : decide (limbs (mI (mI (fX0 z) iI) (mI (fX0 z) iI)) = limbs (fXX z)) = fOk z := by
            unfold fOk
            rw [hx]
            exact decide_eq_decide.2 (limbs_inj (mI_inP _ _) i1)
          rw [hk] at ev
          rw [hx]
          exact rcall_none mixed noCount (hn2_ok.deep mixed noCount 100 3) (lo1 _) [true] 0 ev (paid_append.2 ⟨rep_true _, paid_cons rfl (paid_cons rfl (paid_cons rfl Paid.nil))⟩) rfl rfl rfl rfl ha hi
  · cases h
def hn3 : CallH := withQ 55 ftS hn2
theorem hn3_ok : HOk Tryd.prog hn3 := hn2_ok.withQ fun _ _ _ _ _ _ h ho => ftS_ok h ho
end Go.Proofs.YthelmpjkkkhopaaDoor
namespace Go.Proofs.YthelmpjkkkhopaaDoor
open Go.Ev Go.Wn Go.Mo Go.Sh
set_option maxRecDepth 100000
def pY (b : List Int) : List Int := uwL (litL b)
def pX (b : List Int) : List Int := pickL (ixor .u64 (bitV (litL b) 255) ((limbs (fX (val (pY b)))).getD 0 0)) (limbs (sI 0 (fX (val (pY b))))) (limbs (fX (val (pY b))))
def g4 (l : List Int) : List Int := [l.getD 0 0, l.getD 1 0, l.getD 2 0, l.getD 3 0]
def ptL (b : List Int) : List Int := g4 (pX b) ++ g4 (pY b) ++ [1, 0, 0, 0] ++ g4 (limbs (val (pX b) * val (pY b) % val PL))
def g7 (f z : Bool) : List Bool := [true, !(!(!f)) || !(!f), !(!(!f)) || !(!f), !(!(!f)) || !(!f), !(!(!f) && z) || (!(!f) && z), !(!(!f)) || (!z || (!(!f) && z)), !(!(!f)) || !(!f), !f || !(!f)]
def lastM (f z c : Bool) : Bool := match !f with
  | true => true
  | false => match z with
    | true => c
    | false => false
def rdz (b : List Int) : Bool := decide (limbs (fX (val (pY b))) = [0, 0, 0, 0])
def rdc (b : List Int) : Bool := bitV (litL b) 255 == 1
theorem rdp_t (T b : List Int) : seeV 0 ((funcL Tryd.prog qn (deep Tryd.prog qn hn3 100 3) (fun _ _ => none) 100 25 (qArgs [.buf false .u8 32 b]) (qMem pC (oC T) [.buf false .u8 32 b])).go [true]) =
    some ([!decide (val (pY b) < val primeL)], .tuple [.ints .u64 16 Z16, .bool false false], some (some ⟨false, pC⟩)) := by kernel_rfl
theorem rdp_ft (T b : List Int) : seeV 0 ((funcL Tryd.prog qn (deep Tryd.prog qn hn3 100 3) (fun _ _ => none) 100 25 (qArgs [.buf false .u8 32 b]) (qMem pC (oC T) [.buf false .u8 32 b])).go [false, true]) =
    some ((!(!decide (val (pY b) < val primeL))) :: (g7 (fOk (val (pY b))) (rdz b) ++ [lastM (fOk (val (pY b))) (rdz b) (rdc b)]), .tuple [.ints .u64 16 Z16, .bool false false], some (some ⟨false, pC⟩)) := by kernel_rfl
theorem rdp_ff (T b : List Int) : seeV 0 ((funcL Tryd.prog qn (deep Tryd.prog qn hn3 100 3) (fun _ _ => none) 100 25 (qArgs [.buf false .u8 32 b]) (qMem pC (oC T) [.buf false .u8 32 b])).go [false, false]) =
    some ((!(!decide (val (pY b) < val primeL))) :: (g7 (fOk (val (pY b))) (rdz b) ++ [!lastM (fOk (val (pY b))) (rdz b) (rdc b), true, true]), .tuple [.ints .u64 16 (ptL b), .bool false true], some (some ⟨false, pC⟩)) := by kernel_rfl
theorem rdp_nil (T : List Int) : seeV 0 ((funcL Tryd.prog qn (deep Tryd.prog qn hn3 100 3) (fun _ _ => none) 100 25 (qArgs [.pl .nilslice]) (qMem pC (oC T) [.pl .nilslice])).go []) =
    some ([], .tuple [.ints .u64 16 Z16, .bool false false], some (some ⟨false, pC⟩)) := by kernel_rfl
theorem rdp_emp (T : List Int) : seeV 0 ((funcL Tryd.prog qn (deep Tryd.prog qn hn3 100 3) (fun _ _ => none) 100 25 (qArgs [.empty]) (qMem pC (oC T) [.empty])).go []) =
    some ([], .tuple [.ints .u64 16 Z16, .bool false false], some (some ⟨false, pC⟩)) := by kernel_rfl
theorem rdp_buf (T b : List Int) (n : Nat) : seeV 0 ((funcL Tryd.prog qn (deep Tryd.prog qn hn3 100 3) (fun _ _ => none) 100 25 (qArgs [.buf true .u8 n b]) (qMem pC (oC T) [.buf true .u8 n b])).go []) =
    some ([decide (0 + n ≤ n), !decide ((n : Int) = 32), decide (n < 9223372036854775808)], .tuple [.ints .u64 16 Z16, .bool false false], some (some ⟨false, pC⟩)) := by kernel_rfl
/-- Are these a point's bytes? -/
def rdOk (b : List Int) : Bool := ryB (leI b % T255) (leI b / T255)
def rdL (b : List Int) : List Int := match rdOk b with
  | true => e4L (ryP (leI b % T255) (leI b / T255))
  | false => Z16
theorem g7_paid (f z : Bool) : Paid (g7 f z) := by cases f <;> cases z <;> exact List.all_eq_true.1 rfl
theorem pY_eq {b : List Int} (h : okb b) : val (pY b) = leI b % T255 ∧ limbs (val (pY b)) = pY b := by
  obtain ⟨h1, h2, _⟩ := uw_eq h.1 h.2
  exact ⟨h1, h2⟩
theorem bit255 {b : List Int} (h : okb b) : bitV (litL b) 255 = leI b / T255 := by
  obtain ⟨x0, x1, x2, x3, e, w0, w1, w2, w3⟩ := lit_words h.1 h.2
  have hr := val_range w0 w1 w2 w3
  have hv : leI b = val [x0, x1, x2, x3] := by unfold leI; rw [e]
  rw [e, hv]
  have h1 := bit_word w0 w1 w2 w3 (k := 255) (by omega)
  show bitP [x0, x1, x2, x3] ((255 : Nat) : Int) = _
  rw [h1]
  unfold T255
  omega
theorem ixor_2 {x y : Int} (hx : W x) (hy : W y) : ixor .u64 x y % 2 = (x + y) % 2 := by
  rw [ixor_eq, BitVec.toNat_xor]
  have h1 := bv_W hx; have h2 := bv_W hy
  have h3 := Nat.xor_mod_two_pow (a := (bv x).toNat) (b := (bv y).toNat) (n := 1)
  rw [Nat.pow_one] at h3
  rcases Nat.mod_two_eq_zero_or_one (bv x).toNat with e1 | e1 <;> rcases Nat.mod_two_eq_zero_or_one (bv y).toNat with e2 | e2 <;> rw [e1, e2] at h3
  · have : (0 ^^^ 0 : Nat) = 0 := rfl
    omega
  · have : (0 ^^^ 1 : Nat) = 1 := rfl
    omega
  · have : (1 ^^^ 0 : Nat) = 1 := rfl
    omega
  · have : (1 ^^^ 1 : Nat) = 0 := rfl
    omega
theorem pX_eq {b : List Int} (h : okb b) : pX b = limbs (ryX (leI b % T255) (leI b / T255)) := by
  have hr := le_range h
  have ho : leI b / T255 = 0 ∨ leI b / T255 = 1 := by unfold T255; omega
  unfold pX ryX
  rw [bit255 h, (pY_eq h).1]
  generalize leI b / T255 = o at *
  have hx := fX_inP (leI b % T255)
  generalize fX (leI b % T255) = x at *
  have hw : W ((limbs x).getD 0 0) := limbs_W x _ (by unfold limbs; simp)
  have e : ixor .u64 o ((limbs x).getD 0 0) % 2 = (o + x) % 2 := by
    rw [ixor_2 (by unfold W; omega) hw]
    show (o + x % 18446744073709551616) % 2 = _
    omega
  unfold pickL
  rw [e]
  split <;> rfl
theorem g4_limbs (x : Int) : g4 (limbs x) = limbs x := rfl
theorem ptL_eq {b : List Int} (h : okb b) : ptL b = e4L (ryP (leI b % T255) (leI b / T255)) := by
  obtain ⟨h1, h2⟩ := pY_eq h
  unfold ptL
  rw [pX_eq h, ← h2, h1, g4_limbs, g4_limbs, g4_limbs]
  rfl
theorem pr_val : val primeL = (P25 : Int) := by decide +kernel
theorem lastM_eq {f z c : Bool} : lastM f z c = !(f && !(z && c)) := by cases f <;> cases z <;> cases c <;> rfl
theorem rdOk_eq {b : List Int} (h : okb b) : rdOk b = (decide (val (pY b) < val primeL) && !lastM (fOk (val (pY b))) (rdz b) (rdc b)) := by
  have hz : rdz b = decide (fX (leI b % T255) = 0) := by
    unfold rdz
    rw [(pY_eq h).1]
    exact decide_eq_decide.2 (limbs_inj (x := fX (leI b % T255)) (y := 0) (fX_inP _) ⟨by decide, by decide⟩)
  have hc : rdc b = decide (leI b / T255 = 1) := by
    unfold rdc
    rw [bit255 h]
    rw [Bool.eq_iff_iff]
    simp
  unfold rdOk ryB
  rw [hz, hc, (pY_eq h).1, pr_val, lastM_eq, Bool.not_not]
def rdS : Cells → Cells → List V → E (AV × Mem)
  | .ints .u64 (some 9) L, .ints .u64 (some 9) _, [.buf false .u8 32 b] => some ([isP L], (.tuple [.ints .u64 16 (rdL b), .bool true (rdOk b)], []))
  | .ints .u64 (some 9) L, .ints .u64 (some 9) _, [.buf true .u8 n _] => some ([isP L, !decide ((n : Int) = 32), decide (n < 9223372036854775808)], (.tuple [.ints .u64 16 Z16, .bool false false], []))
  | .ints .u64 (some 9) L, .ints .u64 (some 9) _, [.pl .nilslice] => some ([isP L], (.tuple [.ints .u64 16 Z16, .bool false false], []))
  | .ints .u64 (some 9) L, .ints .u64 (some 9) _, [.empty] => some ([isP L], (.tuple [.ints .u64 16 Z16, .bool false false], []))
  | _, _, _ => none
theorem rcall_mark {g : FuncId} {cas : List AV} {M : Mem} {l : List Int} {c : Bool} (h : RCall Tryd.prog g cas M (.tuple [.ints .u64 16 l, .bool false c]) []) : RCall Tryd.prog g cas M (.tuple [.ints .u64 16 l, .bool true c]) [] := by
  intro ρ vs w ha hi
  refine (h ha hi).mono fun u w' ⟨ρ', r, k⟩ => ⟨ρ', ?_, k⟩
  have r' : Rep ρ' (upto (M.length + 0)) (.tuple [.ints .u64 16 l, .bool false c]) u := r
  show Rep ρ' (upto (M.length + 0)) (.tuple [.ints .u64 16 l, .bool true c]) u
  cases r' with
  | tuple _ vs hs => cases hs with
    | cons _ _ _ _ r1 hs => cases hs with
      | cons _ _ _ _ r2 hs =>
        cases hs
        cases r2
        exact .tuple _ _ (.cons _ _ _ _ r1 (.cons _ _ _ _ (.bool _ _) .nil))
theorem rdS_ok {c d : Cells} {xs : List V} {o : List Bool} {v : AV} {bs : Mem} (h : rdS c d xs = some (o, (v, bs))) (ho : Paid o) : RCall Tryd.prog 25 (qArgs xs) (qMem c d xs) v bs := by
  have D := hn3_ok.deep (q := qn) mixed noCount 100 3
  unfold rdS at h
  split at h
  · rename_i L T b
    cases h
    obtain rfl := q_paid ho
    intro ρ vs w ha hi
    have hb : okb b := by
      obtain ⟨cs, t, lo', hi', b1, b2, b3, b4, b5⟩ := (hi.sim.blk 2 _ rfl).ex
      exact ⟨b5.1 _ rfl, crep_all b5⟩
    have hk := rdOk_eq hb
    cases hl : decide (val (pY b) < val primeL) with
    | false =>
      rw [hl, Bool.false_and] at hk
      have e := rdp_t T b
      rw [hl] at e
      unfold rdL
      rw [hk]
      exact rcall_mark (fun ha hi => rcall_none mixed noCount D (lo1 _) [true] 0 e (paid_cons rfl Paid.nil) rfl rfl rfl rfl ha hi) ha hi
    | true =>
      rw [hl, Bool.true_and] at hk
      cases hm : lastM (fOk (val (pY b))) (rdz b) (rdc b) with
      | true =>
        rw [hm] at hk
        have e := rdp_ft T b
        rw [hl, hm] at e
        unfold rdL
        rw [hk]
        exact rcall_mark (fun ha hi => rcall_none mixed noCount D (lo1 _) [false, true] 0 e (paid_cons rfl (paid_append.2 ⟨g7_paid _ _, paid_cons rfl Paid.nil⟩)) rfl rfl rfl rfl ha hi) ha hi
      | false =>
        rw [hm] at hk
        have e := rdp_ff T b
        rw [hl, hm, ptL_eq hb] at e
        unfold rdL
        rw [hk]
        exact rcall_mark (fun ha hi => rcall_none mixed noCount D (lo1 _) [false, false] 0 e (paid_cons rfl (paid_append.2 ⟨g7_paid _ _, paid_cons rfl (paid_cons rfl (paid_cons rfl Paid.nil))⟩)) rfl rfl rfl rfl ha hi) ha hi
  · rename_i L T n b
    cases h
    obtain rfl := q_paid ho
    intro ρ vs w ha hi
    exact rcall_none mixed noCount D (lo1 _) [] 0 (rdp_buf T b n) (paid_cons (decide_eq_true (by omega)) fun x hx => ho x (List.mem_cons_of_mem _ hx)) rfl rfl rfl rfl ha hi
  · rename_i L T
    cases h
    obtain rfl := q_paid ho
    intro ρ vs w ha hi
    exact rcall_none mixed noCount D (lo1 _) [] 0 (rdp_nil T) Paid.nil rfl rfl rfl rfl ha hi
  · rename_i L T
    cases h
    obtain rfl := q_paid ho
    intro ρ vs w ha hi
    exact rcall_none mixed noCount D (lo1 _) [] 0 (rdp_emp T) Paid.nil rfl rfl rfl rfl ha hi
  · cases h
def hn4 : CallH := withQ 25 rdS hn3
theorem hn4_ok : HOk Tryd.prog hn4 := hn3_ok.withQ fun _ _ _ _ _ _ h ho => rdS_ok h ho
end Go.Proofs.YthelmpjkkkhopaaDoor
