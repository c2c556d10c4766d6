/- Layer 11: multiples of the base, by program and reference, as points. Own work. -/
import Derived.Test.YtapficdphhfpnaaDoorTWqG
import Derived.Test.YtapficdphhfpnaaDoorTEvPut
set_option linter.unusedSimpArgs false
set_option linter.unusedVariables false
set_option linter.unusedSectionVars false
namespace Go.Proofs.YtapficdphhfpnaaDoor
open Go.Ev Go.Wn Go.We
set_option maxRecDepth 100000
def gB : J3 := ⟨val baseX, val baseY, val [1, 0, 0, 0]⟩
theorem gB_R : gB.R g6 := by
  have e1 : val baseX = gJ.x := by decide +kernel
  have e2 : val baseY = gJ.y := by decide +kernel
  have e3 : val [1, 0, 0, 0] = 1 := rfl
  unfold gB
  rw [e1, e2, e3]
  exact gJ_R
def xB (n : List Int) : Pt := mulP (val n) bP
def rB (n : List Int) : J3 := rN (val n) gB 256
theorem rN_R {N : Nat} (hN : N < 2 ^ 256) {a : J3} {P : Q P6} (hP : c6.on P) (h : a.R P) : (rN (N : Int) a 256).R (c6.mul N P) := by
  have e := rN_tm (N : Int) a 256 0
  rw [Int.pow_zero, Int.ediv_one, Nat.zero_add] at e
  rw [← e]
  have k := jTm_R (f := 256) (k := N) (r := J3.none) (a := a) (P := .o) (A := P) trivial hP none_R h hN
  rw [c6.o_add] at k
  exact k
theorem xB_Q {n : List Int} {N : Nat} (h : val n = (N : Int)) (hN : N < 2 ^ 256) : xB n = ofQ (c6.mul N g6) := by
  unfold xB
  rw [h, bP_eq]
  exact mulP_Q hN g_on
theorem rB_R {n : List Int} {N : Nat} (h : val n = (N : Int)) (hN : N < 2 ^ 256) : (rB n).R (c6.mul N g6) := by
  unfold rB
  rw [h]
  exact rN_R hN g_on gB_R
theorem j3_R {a : J3} {P : Q P6} (h : a.R P) : j3V (j3L a) = a ∧ jIn a = true := ⟨j3_ok (J3.In.ok h.1), jIn_iff.2 h.1⟩
theorem rdQ (P : Q P6) : rd (ofQ P) = ofQ P := rd_ok (ofQ_In P).ok
theorem mu_on (N : Nat) : c6.on (c6.mul N g6) := c6.on_mul N g_on
end Go.Proofs.YtapficdphhfpnaaDoor
namespace Go.Proofs.YtapficdphhfpnaaDoor
open Go.Ev Go.Wn Go.We
set_option maxRecDepth 100000
theorem w8_bytes {x : Int} (h : W x) : W8 (byteW x 56) (byteW x 48) (byteW x 40) (byteW x 32) (byteW x 24) (byteW x 16) (byteW x 8) (byteW x 0) = x := by
  unfold W at h
  unfold W8 byteW
  simp only [Int.reducePow]
  omega
theorem bytes_w8 {a b c d e f g h : Int} (ha : B8 a) (hb : B8 b) (hc : B8 c) (hd : B8 d) (he : B8 e) (hf : B8 f) (hg : B8 g) (hh : B8 h) :
    byteW (W8 a b c d e f g h) 56 = a ∧ byteW (W8 a b c d e f g h) 48 = b ∧ byteW (W8 a b c d e f g h) 40 = c ∧ byteW (W8 a b c d e f g h) 32 = d ∧ byteW (W8 a b c d e f g h) 24 = e ∧ byteW (W8 a b c d e f g h) 16 = f ∧ byteW (W8 a b c d e f g h) 8 = g ∧ byteW (W8 a b c d e f g h) 0 = h := by
  unfold B8 at *
  unfold byteW W8
  simp only [Int.reducePow]
  omega
theorem W8_W {a b c d e f g h : Int} (ha : B8 a) (hb : B8 b) (hc : B8 c) (hd : B8 d) (he : B8 e) (hf : B8 f) (hg : B8 g) (hh : B8 h) : W (W8 a b c d e f g h) := by
  unfold B8 W W8 at *; omega
theorem big_bytes {a b c d : Int} (ha : W a) (hb : W b) (hc : W c) (hd : W d) : bigL (bytesL [a, b, c, d]) = [a, b, c, d] := by
  show [W8 _ _ _ _ _ _ _ _, W8 _ _ _ _ _ _ _ _, W8 _ _ _ _ _ _ _ _, W8 _ _ _ _ _ _ _ _] = _
  rw [w8_bytes ha, w8_bytes hb, w8_bytes hc, w8_bytes hd]
def okb (l : List Int) : Prop := ∀ x ∈ l, inR .u8 x = true
theorem bytes_big {l : List Int} (hl : l.length = 32) (hr : okb l) : bytesL (bigL l) = l ∧ ∃ a b c d, bigL l = [a, b, c, d] ∧ W a ∧ W b ∧ W c ∧ W d := by
  unfold okb at hr
  obtain ⟨b0, b1, b2, b3, b4, b5, b6, b7, b8, b9, b10, b11, b12, b13, b14, b15, b16, b17, b18, b19, b20, b21, b22, b23, b24, b25, b26, b27, b28, b29, b30, b31, rfl⟩ := thirty hl
  simp only [List.forall_mem_cons, List.not_mem_nil, false_implies, implies_true, and_true] at hr
  obtain ⟨k0, k1, k2, k3, k4, k5, k6, k7, k8, k9, k10, k11, k12, k13, k14, k15, k16, k17, k18, k19, k20, k21, k22, k23, k24, k25, k26, k27, k28, k29, k30, k31⟩ := hr
  have t := fun {x : Int} (h : inR .u8 x = true) => inR_B8 h
  refine ⟨?_, _, _, _, _, rfl, W8_W (t k24) (t k25) (t k26) (t k27) (t k28) (t k29) (t k30) (t k31), W8_W (t k16) (t k17) (t k18) (t k19) (t k20) (t k21) (t k22) (t k23), W8_W (t k8) (t k9) (t k10) (t k11) (t k12) (t k13) (t k14) (t k15), W8_W (t k0) (t k1) (t k2) (t k3) (t k4) (t k5) (t k6) (t k7)⟩
  obtain ⟨p0, p1, p2, p3, p4, p5, p6, p7⟩ := bytes_w8 (t k0) (t k1) (t k2) (t k3) (t k4) (t k5) (t k6) (t k7)
  obtain ⟨q0, q1, q2, q3, q4, q5, q6, q7⟩ := bytes_w8 (t k8) (t k9) (t k10) (t k11) (t k12) (t k13) (t k14) (t k15)
  obtain ⟨r0, r1, r2, r3, r4, r5, r6, r7⟩ := bytes_w8 (t k16) (t k17) (t k18) (t k19) (t k20) (t k21) (t k22) (t k23)
  obtain ⟨s0, s1, s2, s3, s4, s5, s6, s7⟩ := bytes_w8 (t k24) (t k25) (t k26) (t k27) (t k28) (t k29) (t k30) (t k31)
  unfold bigL bytesL
  simp only [p0, p1, p2, p3, p4, p5, p6, p7, q0, q1, q2, q3, q4, q5, q6, q7, r0, r1, r2, r3, r4, r5, r6, r7, s0, s1, s2, s3, s4, s5, s6, s7]
theorem limbs4 (x : Int) : ∃ a b c d, limbs x = [a, b, c, d] ∧ W a ∧ W b ∧ W c ∧ W d := ⟨_, _, _, _, rfl, by unfold W; omega, by unfold W; omega, by unfold W; omega, by unfold W; omega⟩
theorem big_limbs (x : Int) : bigL (bytesL (limbs x)) = limbs x := by
  obtain ⟨a, b, c, d, e, ha, hb, hc, hd⟩ := limbs4 x
  rw [e]
  exact big_bytes ha hb hc hd
theorem bytes_len (x : Int) : (bytesL (limbs x)).length = 32 := rfl
theorem en_parts (p : Pt) : (enB p).getD 0 0 = 4 ∧ ((enB p).drop 1).take 32 = bytesL (limbs p.x) ∧ ((enB p).drop 33).take 32 = bytesL (limbs p.y) := by
  refine ⟨rfl, ?_, ?_⟩
  · show (bytesL (limbs p.x) ++ bytesL (limbs p.y)).take 32 = _
    exact List.take_left' (bytes_len _)
  · show ((bytesL (limbs p.x) ++ bytesL (limbs p.y)).drop 32).take 32 = _
    rw [List.drop_left' (bytes_len _)]
    exact List.take_of_length_le (Nat.le_of_eq (bytes_len _))
/-- What is read of a point's bytes. -/
theorem dc_en {p : Pt} (h : p.Ok) : dcX (enB p) = limbs p.x ∧ dcY (enB p) = limbs p.y ∧ ptL (enB p) = ⟨p.x, p.y, false⟩ := by
  obtain ⟨_, h1, h2⟩ := en_parts p
  have e1 : dcX (enB p) = limbs p.x := by unfold dcX; rw [h1]; exact big_limbs _
  have e2 : dcY (enB p) = limbs p.y := by unfold dcY; rw [h2]; exact big_limbs _
  refine ⟨e1, e2, ?_⟩
  unfold ptL
  rw [e1, e2]
  show (⟨vl p.x, vl p.y, false⟩ : Pt) = _
  rw [vl_ok h.1, vl_ok h.2]
/-- What is written of what was read. -/
theorem en_dc {l : List Int} (hl : l.length = 65) (hr : okb l) (h4 : l.getD 0 0 = 4) : enB (ptL l) = l ∧ (ptL l).Ok ∧ limbs (ptL l).x = dcX l ∧ limbs (ptL l).y = dcY l := by
  match l, hl with
  | a :: r, hl =>
    have h4' : a = 4 := h4
    subst h4'
    have hrl : r.length = 64 := by simpa using hl
    have rr : okb r := fun x hx => hr x (List.mem_cons_of_mem _ hx)
    have l1 : (r.take 32).length = 32 := by rw [List.length_take]; omega
    have l2 : ((r.drop 32).take 32).length = 32 := by rw [List.length_take, List.length_drop]; omega
    obtain ⟨b1, x0, x1, x2, x3, e1, u0, u1, u2, u3⟩ := bytes_big l1 (fun x hx => rr x (List.mem_of_mem_take hx))
    obtain ⟨b2, y0, y1, y2, y3, e2, v0, v1, v2, v3⟩ := bytes_big l2 (fun x hx => rr x (List.mem_of_mem_drop (List.mem_of_mem_take hx)))
    have c1 : dcX (4 :: r) = bigL (r.take 32) := rfl
    have c2 : dcY (4 :: r) = bigL ((r.drop 32).take 32) := rfl
    have m1 : limbs (val (bigL (r.take 32))) = bigL (r.take 32) := by rw [e1]; exact limbs_val u0 u1 u2 u3
    have m2 : limbs (val (bigL ((r.drop 32).take 32))) = bigL ((r.drop 32).take 32) := by rw [e2]; exact limbs_val v0 v1 v2 v3
    refine ⟨?_, ⟨?_, ?_⟩, ?_, ?_⟩
    · unfold enB ptL
      rw [c1, c2]
      simp only
      rw [m1, m2, b1, b2, List.take_of_length_le (l := r.drop 32) (by rw [List.length_drop]; omega), List.take_append_drop]
    · unfold ptL
      rw [c1, e1]
      exact ok6_of u0 u1 u2 u3
    · unfold ptL
      rw [c2, e2]
      exact ok6_of v0 v1 v2 v3
    · unfold ptL
      rw [c1]
      exact m1
    · unfold ptL
      rw [c2]
      exact m2
end Go.Proofs.YtapficdphhfpnaaDoor
namespace Go.Proofs.YtapficdphhfpnaaDoor
open Go.Ev Go.Wn Go.We
set_option maxRecDepth 100000
def rdLs (l : List Int) : List Int := [(dcX l).getD 0 0, (dcX l).getD 1 0, (dcX l).getD 2 0, (dcX l).getD 3 0, (dcY l).getD 0 0, (dcY l).getD 1 0, (dcY l).getD 2 0, (dcY l).getD 3 0, 1, 0, 0, 0]
def rdB (l : List Int) : Bool := rOn (val (dcX l)) (val (dcY l))
theorem re_3 (l : List Int) : seeV 0 ((funcL Tryd.prog qn (deep Tryd.prog qn hq9 100 5) (fun _ _ => none) 200 19 (cArgs 0 [.buf false .u8 65 l]) (cMem [.buf false .u8 65 l])).go [true]) =
    some ([l.getD 0 0 != 4], .tuple [.ints .u64 12 [0, 0, 0, 0, 0, 0, 0, 0, 0, 0, 0, 0], .int false .i64 3], some (some ⟨false, .ints .u8 (some 65) l⟩)) := by kernel_rfl
theorem re_4 (l : List Int) : seeV 0 ((funcL Tryd.prog qn (deep Tryd.prog qn hq9 100 5) (fun _ _ => none) 200 19 (cArgs 0 [.buf false .u8 65 l]) (cMem [.buf false .u8 65 l])).go [false, true]) =
    some ([!(l.getD 0 0 != 4), !rdB l], .tuple [.ints .u64 12 [0, 0, 0, 0, 0, 0, 0, 0, 0, 0, 0, 0], .int false .i64 4], some (some ⟨false, .ints .u8 (some 65) l⟩)) := by kernel_rfl
theorem re_0 (l : List Int) : seeV 0 ((funcL Tryd.prog qn (deep Tryd.prog qn hq9 100 5) (fun _ _ => none) 200 19 (cArgs 0 [.buf false .u8 65 l]) (cMem [.buf false .u8 65 l])).go [false, false]) =
    some ([!(l.getD 0 0 != 4), !(!rdB l)], .tuple [.ints .u64 12 (rdLs l), .int false .i64 0], some (some ⟨false, .ints .u8 (some 65) l⟩)) := by kernel_rfl
theorem re_b (n : Nat) (l : List Int) : seeV 0 ((funcL Tryd.prog qn (deep Tryd.prog qn hq9 100 5) (fun _ _ => none) 200 19 (cArgs 0 [.buf true .u8 n l]) (cMem [.buf true .u8 n l])).go [true]) =
    some (gN n l, .tuple [.ints .u64 12 [0, 0, 0, 0, 0, 0, 0, 0, 0, 0, 0, 0], .int false .i64 3], some (some ⟨false, .ints .u8 (some n) l⟩)) := by kernel_rfl
theorem re_n  : seeV 0 ((funcL Tryd.prog qn (deep Tryd.prog qn hq9 100 5) (fun _ _ => none) 200 19 (cArgs 0 [.pl .nilslice]) (cMem [.pl .nilslice])).go []) =
    some ([], .tuple [.ints .u64 12 [0, 0, 0, 0, 0, 0, 0, 0, 0, 0, 0, 0], .int false .i64 3], some none) := by kernel_rfl
theorem re_e  : seeV 0 ((funcL Tryd.prog qn (deep Tryd.prog qn hq9 100 5) (fun _ _ => none) 200 19 (cArgs 0 [.empty]) (cMem [.empty])).go []) =
    some ([], .tuple [.ints .u64 12 [0, 0, 0, 0, 0, 0, 0, 0, 0, 0, 0, 0], .int false .i64 3], some none) := by kernel_rfl
def reS (k : Nat) : List V → E (AV × Mem)
  | [.buf false .u8 65 l] => (match k with
    | 3 => some ([l.getD 0 0 != 4], (.tuple [.ints .u64 12 [0, 0, 0, 0, 0, 0, 0, 0, 0, 0, 0, 0], .int false .i64 3], []))
    | 4 => some ([!(l.getD 0 0 != 4), !rdB l], (.tuple [.ints .u64 12 [0, 0, 0, 0, 0, 0, 0, 0, 0, 0, 0, 0], .int false .i64 4], []))
    | 0 => some ([!(l.getD 0 0 != 4), rdB l], (.tuple [.ints .u64 12 (rdLs l), .int false .i64 0], []))
    | _ => none)
  | [.buf true .u8 n _] => some ([decide (n < 9223372036854775808), (n : Int) != 65], (.tuple [.ints .u64 12 [0, 0, 0, 0, 0, 0, 0, 0, 0, 0, 0, 0], .int false .i64 3], []))
  | [.pl .nilslice] => some ([], (.tuple [.ints .u64 12 [0, 0, 0, 0, 0, 0, 0, 0, 0, 0, 0, 0], .int false .i64 3], []))
  | [.empty] => some ([], (.tuple [.ints .u64 12 [0, 0, 0, 0, 0, 0, 0, 0, 0, 0, 0, 0], .int false .i64 3], []))
  | _ => none
theorem re_ok {k : Nat} {xs : List V} {o : List Bool} {v : AV} {bs : Mem} (h : reS k xs = some (o, (v, bs))) (ho : Paid o) : ViewCall Tryd.prog 19 xs v bs := by
  have D := hq9_ok.deep (q := qn) mixed noCount 100 5
  unfold reS at h
  split at h
  · rename_i l
    split at h
    · cases h
      intro ρ vs w ha hi
      exact viewN_none mixed noCount D (lo1 _) [true] 0 (re_3 l) ho rfl rfl rfl rfl ha hi
    · cases h
      intro ρ vs w ha hi
      exact viewN_none mixed noCount D (lo1 _) [false, true] 0 (re_4 l) ho rfl rfl rfl rfl ha hi
    · cases h
      intro ρ vs w ha hi
      exact viewN_none mixed noCount D (lo1 _) [false, false] 0 (re_0 l) (by rw [Bool.not_not]; exact ho) rfl rfl rfl rfl ha hi
    · cases h
  · rename_i n l
    cases h
    intro ρ vs w ha hi
    have h1 := of_decide_eq_true (ho _ (List.mem_cons_self ..))
    have h2 := ho _ (List.mem_cons_of_mem _ (List.mem_cons_self ..))
    exact viewN_none mixed noCount D (lo1 _) [true] 0 (re_b n l) (gN_paid h1 (by simpa using h2)) rfl rfl rfl rfl ha hi
  · cases h
    intro ρ vs w ha hi
    exact viewN_none mixed noCount D (lo1 _) [] 0 re_n Paid.nil rfl rfl rfl rfl ha hi
  · cases h
    intro ρ vs w ha hi
    exact viewN_none mixed noCount D (lo1 _) [] 0 re_e Paid.nil rfl rfl rfl rfl ha hi
  · cases h
/-- Program and reference read the same, of 65 bytes. -/
theorem rd_same {l : List Int} (hl : l.length = 65) (hr : okb l) (h4 : l.getD 0 0 = 4) : rdB l = onB (ptL l) := by
  obtain ⟨_, h2, _, _⟩ := en_dc hl hr h4
  exact (on_same h2.1 h2.2).symm
theorem rd_J3 {l : List Int} (hl : l.length = 65) (hr : okb l) (h4 : l.getD 0 0 = 4) (ho : onB (ptL l) = true) :
    ∃ P : Q P6, c6.on P ∧ ptL l = ofQ P ∧ (j3V (rdLs l)).R P ∧ (ofQ P).o = false := by
  obtain ⟨_, h2, h3, h4⟩ := en_dc hl hr h4
  obtain ⟨i1, i2, i3⟩ := onB_in h2.1 h2.2 ho
  have e : j3V (rdLs l) = ⟨(ptL l).x, (ptL l).y, 1⟩ := rfl
  refine ⟨_, i3, ?_, ?_, rfl⟩
  · rw [ofQ_h6 i1 i2]
    rfl
  · rw [e]
    exact j1_R i1 i2
def seE (l : List Int) : Bool := match !decide (bigL l = [0, 0, 0, 0]) with
  | true => decide (val (bigL l) < val orderL)
  | false => false
theorem se_32 (l : List Int) : seeV 0 ((funcL Tryd.prog qn (deep Tryd.prog qn hq9 100 5) (fun _ _ => none) 200 23 (cArgs 0 [.buf false .u8 32 l]) (cMem [.buf false .u8 32 l])).go []) =
    some ([!(!decide (bigL l = [0, 0, 0, 0])) || !decide (bigL l = [0, 0, 0, 0]), !(!decide (bigL l = [0, 0, 0, 0])) || !decide (bigL l = [0, 0, 0, 0]), !(!decide (bigL l = [0, 0, 0, 0])) || !decide (bigL l = [0, 0, 0, 0])], .bool true (seE l), some (some ⟨false, .ints .u8 (some 32) l⟩)) := by kernel_rfl
def seS (k : Nat) : List V → E (AV × Mem)
  | [.buf false .u8 32 l] => (match k with
    | 1 => some ([scT l], (.bool false false, []))
    | 0 => some ([!scT l], (.bool false true, []))
    | _ => none)
  | _ => none
theorem seE_eq (l : List Int) : seE l = !scT l := by
  unfold seE scT
  cases decide (bigL l = [0, 0, 0, 0]) with
  | true => rfl
  | false => exact (Bool.not_not _).symm
theorem se_ok {k : Nat} {xs : List V} {o : List Bool} {v : AV} {bs : Mem} (h : seS k xs = some (o, (v, bs))) (ho : Paid o) : ViewCall Tryd.prog 23 xs v bs := by
  have D := hq9_ok.deep (q := qn) mixed noCount 100 5
  have un : ∀ {l : List Int} {b : Bool}, ViewCall Tryd.prog 23 [.buf false .u8 32 l] (.bool true b) [] → ViewCall Tryd.prog 23 [.buf false .u8 32 l] (.bool false b) [] := fun h => by
    intro ρ vs w ha hi
    exact (h ha hi).mono fun u w' ⟨ρ', r, k⟩ => ⟨ρ', unmark r, k⟩
  unfold seS at h
  split at h
  · rename_i l
    have gp : ∀ z : Bool, Paid [!(!z) || !z, !(!z) || !z, !(!z) || !z] := fun z => by cases z <;> exact List.all_eq_true.1 rfl
    have e := se_32 l
    rw [seE_eq] at e
    split at h
    · cases h
      intro ρ vs w ha hi
      have hs := ho _ (List.mem_cons_self ..)
      rw [hs] at e
      exact un (fun {_ _ _} ha hi => viewN_none mixed noCount D (lo1 _) [] 0 e (gp _) rfl rfl rfl rfl ha hi) ha hi
    · cases h
      intro ρ vs w ha hi
      have hs := ho _ (List.mem_cons_self ..)
      rw [hs] at e
      exact un (fun {_ _ _} ha hi => viewN_none mixed noCount D (lo1 _) [] 0 e (gp _) rfl rfl rfl rfl ha hi) ha hi
    · cases h
  · cases h
end Go.Proofs.YtapficdphhfpnaaDoor
