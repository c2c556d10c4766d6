/- The reference's Poly: its contract. Own work. -/
import Derived.Test.YtfmgodgakndjcaaQChPo
import Derived.Test.YtfmgodgakndjcaaQEvIn
set_option linter.unusedSimpArgs false
set_option linter.unusedVariables false
set_option linter.unusedSectionVars false
namespace Go.Ch
open Go.Ev Go.Sh
def cs1 (l : List Int) (i : Nat) : List Int := l.set i ((l.getD i 0).tmod 16)
def cs2 (l : List Int) (i : Nat) : List Int := l.set i (IntKind.u8.wrap (IntKind.u8.wrap ((l.getD i 0).tdiv 4) * 4))
/-- What is kept of a key's first bytes. -/
def clL (l : List Int) : List Int := cs2 (cs2 (cs2 (cs1 (cs1 (cs1 (cs1 l 3) 7) 11) 15) 4) 8) 12
theorem ia_step {a b x y : Int} (ha : B8 a) (hb : B8 b) (hx : 0 ≤ x) (hy : 0 ≤ y) : ia (a + 256 * x) (b + 256 * y) = ia a b + 256 * ia x y := by
  unfold B8 at ha hb
  obtain ⟨a, rfl⟩ := Int.eq_ofNat_of_zero_le ha.1
  obtain ⟨b, rfl⟩ := Int.eq_ofNat_of_zero_le hb.1
  obtain ⟨x, rfl⟩ := Int.eq_ofNat_of_zero_le hx
  obtain ⟨y, rfl⟩ := Int.eq_ofNat_of_zero_le hy
  have ha2 : a < 2 ^ 8 := by omega
  have hb2 : b < 2 ^ 8 := by omega
  unfold ia
  rw [show ((a : Int) + 256 * (x : Int)).toNat = 2 ^ 8 * x + a by omega, show ((b : Int) + 256 * (y : Int)).toNat = 2 ^ 8 * y + b by omega]
  simp only [Int.toNat_natCast]
  have hab : a &&& b < 2 ^ 8 := Nat.lt_of_le_of_lt Nat.and_le_left ha2
  have e : (2 ^ 8 * x + a) &&& (2 ^ 8 * y + b) = 2 ^ 8 * (x &&& y) + (a &&& b) := by
    apply Nat.eq_of_testBit_eq
    intro i
    rw [Nat.testBit_and, Nat.testBit_two_pow_mul_add _ ha2, Nat.testBit_two_pow_mul_add _ hb2, Nat.testBit_two_pow_mul_add _ hab]
    split
    · rw [Nat.testBit_and]
    · rw [Nat.testBit_and]
  rw [e]
  omega
theorem by_all {p : Nat → Bool} (h : (List.range 256).all p = true) {x : Int} (hx : B8 x) : p x.toNat = true :=
  List.all_eq_true.1 h _ (List.mem_range.2 (by unfold B8 at hx; omega))
theorem by_nat {x : Int} (hx : B8 x) : ((x.toNat : Nat) : Int) = x := by unfold B8 at hx; omega
theorem ia_tab : (List.range 256).all (fun n => decide (ia (n : Int) 255 = (n : Int)) && decide (ia (n : Int) 15 = (n : Int).tmod 16) && decide (ia (n : Int) 252 = IntKind.u8.wrap (IntKind.u8.wrap ((n : Int).tdiv 4) * 4))) = true := by kernel_rfl
theorem ia_b {x : Int} (hx : B8 x) : ia x 255 = x ∧ ia x 15 = x.tmod 16 ∧ ia x 252 = IntKind.u8.wrap (IntKind.u8.wrap (x.tdiv 4) * 4) := by
  have h := by_all ia_tab hx
  rw [by_nat hx] at h
  simp only [Bool.and_eq_true, decide_eq_true_eq] at h
  exact ⟨h.1.1, h.1.2, h.2⟩
theorem le_nn {l : List Int} (h : ∀ x ∈ l, B8 x) : 0 ≤ leN l := (leN_bound h).1
theorem clamp_eq {a0 a1 a2 a3 a4 a5 a6 a7 b0 b1 b2 b3 b4 b5 b6 b7 : Int} (h : ∀ x ∈ [a0, a1, a2, a3, a4, a5, a6, a7, b0, b1, b2, b3, b4, b5, b6, b7], B8 x) :
    leN (clL [a0, a1, a2, a3, a4, a5, a6, a7, b0, b1, b2, b3, b4, b5, b6, b7]) = iand .u64 (leN [a0, a1, a2, a3, a4, a5, a6, a7]) 1152921487695413247 + 18446744073709551616 * iand .u64 (leN [b0, b1, b2, b3, b4, b5, b6, b7]) 1152921487695413244 := by
  simp only [List.mem_cons, List.not_mem_nil, or_false, forall_eq_or_imp, forall_eq] at h
  obtain ⟨h0, h1, h2, h3, h4, h5, h6, h7, k0, k1, k2, k3, k4, k5, k6, k7⟩ := h
  have W1 : Wd 64 (leN [a0, a1, a2, a3, a4, a5, a6, a7]) := by unfold B8 at *; unfold Wd; simp only [leN]; omega
  have W2 : Wd 64 (leN [b0, b1, b2, b3, b4, b5, b6, b7]) := by unfold B8 at *; unfold Wd; simp only [leN]; omega
  rw [iand_ia (k := .u64) rfl W1 ⟨by decide, by decide⟩, iand_ia (k := .u64) rfl W2 ⟨by decide, by decide⟩]
  have b255 : B8 255 := ⟨by decide, by decide⟩
  have b15 : B8 15 := ⟨by decide, by decide⟩
  have b252 : B8 252 := ⟨by decide, by decide⟩
  have nn : ∀ {a x : Int}, B8 a → 0 ≤ x → 0 ≤ a + 256 * x := fun ha hx => by unfold B8 at ha; omega
  have z : ia 0 0 = 0 := by decide
  have s : ∀ {a b c d e f g q : Int} {m0 m1 m2 m3 m4 m5 m6 m7 : Int}, B8 a → B8 b → B8 c → B8 d → B8 e → B8 f → B8 g → B8 q → B8 m0 → B8 m1 → B8 m2 → B8 m3 → B8 m4 → B8 m5 → B8 m6 → B8 m7 → ia (leN [a, b, c, d, e, f, g, q]) (leN [m0, m1, m2, m3, m4, m5, m6, m7]) = leN [ia a m0, ia b m1, ia c m2, ia d m3, ia e m4, ia f m5, ia g m6, ia q m7] := by
    intro a b c d e f g q m0 m1 m2 m3 m4 m5 m6 m7 ha hb hc hd he hf hg hq w0 w1 w2 w3 w4 w5 w6 w7
    simp only [leN]
    have n7 := nn hq (Int.le_refl 0)
    have n6 := nn hg n7
    have n5 := nn hf n6
    have n4 := nn he n5
    have n3 := nn hd n4
    have n2 := nn hc n3
    have n1 := nn hb n2
    have v7 := nn w7 (Int.le_refl 0)
    have v6 := nn w6 v7
    have v5 := nn w5 v6
    have v4 := nn w4 v5
    have v3 := nn w3 v4
    have v2 := nn w2 v3
    have v1 := nn w1 v2
    rw [ia_step ha w0 n1 v1, ia_step hb w1 n2 v2, ia_step hc w2 n3 v3, ia_step hd w3 n4 v4, ia_step he w4 n5 v5, ia_step hf w5 n6 v6, ia_step hg w6 n7 v7, ia_step hq w7 (Int.le_refl 0) (Int.le_refl 0), z]
  have m1 : (1152921487695413247 : Int) = leN [255, 255, 255, 15, 252, 255, 255, 15] := by decide
  have m2 : (1152921487695413244 : Int) = leN [252, 255, 255, 15, 252, 255, 255, 15] := by decide
  rw [m1, m2, s h0 h1 h2 h3 h4 h5 h6 h7 b255 b255 b255 b15 b252 b255 b255 b15, s k0 k1 k2 k3 k4 k5 k6 k7 b252 b255 b255 b15 b252 b255 b255 b15]
  rw [(ia_b h0).1, (ia_b h1).1, (ia_b h2).1, (ia_b h3).2.1, (ia_b h4).2.2, (ia_b h5).1, (ia_b h6).1, (ia_b h7).2.1, (ia_b k0).2.2, (ia_b k1).1, (ia_b k2).1, (ia_b k3).2.1, (ia_b k4).2.2, (ia_b k5).1, (ia_b k6).1, (ia_b k7).2.1]
  unfold clL cs1 cs2
  simp only [List.getD_cons_zero, List.getD_cons_succ, List.set_cons_zero, List.set_cons_succ, leN]
  generalize IntKind.u8.wrap (IntKind.u8.wrap (a4.tdiv 4) * 4) = c4
  generalize IntKind.u8.wrap (IntKind.u8.wrap (b0.tdiv 4) * 4) = c8
  generalize IntKind.u8.wrap (IntKind.u8.wrap (b4.tdiv 4) * 4) = c12
  generalize a3.tmod 16 = c3
  generalize a7.tmod 16 = c7
  generalize b3.tmod 16 = c11
  generalize b7.tmod 16 = c15
  omega
def outPo (H : List Int) : List Int := (List.range 16).map fun i => IntKind.u8.wrap (ishr .u64 (H.getD (i / 8) 0) ((8 * (i % 8) : Nat) : Int))
def poR (k : List Int) : List Int := Go.Wn.limbs (leN (clL ((k.drop 0).take 16)))
def poX (h k : List Int) : List Int := Go.Wn.limbs ((Go.Wn.val h + Go.Wn.val (Go.Wn.limbs (leN ((k.drop 16).take 16)))) % Go.Wn.val [0, 0, 1, 0])
theorem outPo_eq {X : Int} (h : 0 ≤ X ∧ X < 6277101735386680763835789423207666416102355444464034512896) : outPo (Go.Wn.limbs X) = by16 X := List.map_congr_left fun i hi => by
  have hi' := List.mem_range.1 hi
  obtain ⟨w0, w1, _⟩ := g_W X
  have e := by16_eq (c := g2 X) w0 w1 i hi'
  rw [v3_g h] at e
  rw [← e]
  by_cases h8 : i < 8
  · rw [show i / 8 = 0 by omega, show i % 8 = i by omega, decide_eq_true h8]
    rfl
  · rw [show i / 8 = 1 by omega, show i % 8 = i - 8 by omega, decide_eq_false h8]
    rfl
theorem by16_mod (v : Int) : by16 (v % 340282366920938463463374607431768211456) = by16 v := List.map_congr_left fun i hi => by
  have hi' := List.mem_range.1 hi
  have hc : i = 0 ∨ i = 1 ∨ i = 2 ∨ i = 3 ∨ i = 4 ∨ i = 5 ∨ i = 6 ∨ i = 7 ∨ i = 8 ∨ i = 9 ∨ i = 10 ∨ i = 11 ∨ i = 12 ∨ i = 13 ∨ i = 14 ∨ i = 15 := by omega
  rcases hc with rfl | rfl | rfl | rfl | rfl | rfl | rfl | rfl | rfl | rfl | rfl | rfl | rfl | rfl | rfl | rfl <;> simp only [Nat.reduceMul, Int.reducePow] <;> omega
theorem poR_eq {k : List Int} (h : 32 ≤ k.length) (hb : ∀ x ∈ k, B8 x) : Go.Wn.val (poR k) = KR (k.take 32) := by
  have h16 : ((k.drop 0).take 16).length = 16 := by rw [List.length_take, List.length_drop]; omega
  obtain ⟨a0, a1, a2, a3, a4, a5, a6, a7, b0, b1, b2, b3, b4, b5, b6, b7, e⟩ := len16 h16
  have e1 : ((k.take 32).drop 0).take 8 = ((k.drop 0).take 16).take 8 := by rw [List.drop_zero, List.drop_zero, List.take_take, List.take_take]; rfl
  have e2 : ((k.take 32).drop 8).take 8 = ((k.drop 0).take 16).drop 8 := by rw [List.drop_zero, List.drop_take, List.drop_take, List.take_take]; rfl
  have hB : ∀ x ∈ [a0, a1, a2, a3, a4, a5, a6, a7, b0, b1, b2, b3, b4, b5, b6, b7], B8 x := fun x hx => by
    rw [← e] at hx
    exact hb x (List.mem_of_mem_drop (List.mem_of_mem_take hx))
  have hk := KR_b (k.take 32)
  have ev : leN (clL ((k.drop 0).take 16)) = KR (k.take 32) := by
    unfold KR KR0 KR1
    rw [e1, e2, e]
    exact clamp_eq hB
  unfold poR
  rw [val_l (by rw [ev]; omega), ev]
theorem poS_eq {k : List Int} (h : 32 ≤ k.length) : leN ((k.drop 16).take 16) = KS (k.take 32) := by
  unfold KS
  have e1 : ((k.take 32).drop 16).take 8 = ((k.drop 16).take 16).take 8 := by rw [List.drop_take, List.take_take]
  have e2 : ((k.take 32).drop 24).take 8 = ((k.drop 16).take 16).drop 8 := by rw [List.drop_take, List.take_take, List.drop_take, List.drop_drop]; rfl
  rw [e1, e2, leN_take ((k.drop 16).take 16) 8 (by rw [List.length_take, List.length_drop]; omega)]
  have e8 : (256 : Int) ^ 8 = 18446744073709551616 := by decide +kernel
  rw [e8]
  unfold v3
  omega
theorem po_fin {k p : List Int} (hk : 32 ≤ k.length) (hb : ∀ x ∈ k, B8 x) : outPo (poX (Go.Wn.limbs (pyN (Go.Wn.val (poR k)) p ((p.length + 15) / 16))) k) = codB (k.take 32) p := by
  obtain ⟨y1, y2⟩ := pyN_b (Go.Wn.val (poR k)) p ((p.length + 15) / 16)
  have hs := KS_b (k := k.take 32) (by rw [List.length_take]; omega) (fun x hx => hb x (List.mem_of_mem_take hx))
  have v1 : Go.Wn.val [0, 0, 1, 0] = 340282366920938463463374607431768211456 := by decide +kernel
  unfold poX
  rw [val_l ⟨y1, by omega⟩, poS_eq hk, val_l (by omega), v1]
  have m1 := Int.emod_nonneg (pyN (Go.Wn.val (poR k)) p ((p.length + 15) / 16) + KS (k.take 32)) (b := 340282366920938463463374607431768211456) (by decide)
  have m2 := Int.emod_lt_of_pos (pyN (Go.Wn.val (poR k)) p ((p.length + 15) / 16) + KS (k.take 32)) (b := 340282366920938463463374607431768211456) (by decide)
  rw [outPo_eq ⟨m1, by omega⟩, by16_mod]
  unfold codB
  rw [pv_py, poR_eq hk hb]
end Go.Ch
namespace Go.Proofs.Ytfmgodgakndjcaa
open Go.Ev Go.Sh Go.Ch
set_option maxRecDepth 100000
theorem rp_b32 (k : List Int) (n : Nat) (p : List Int) : res ((funcL Try.prog qD (deep Try.prog qD hy4 100 3) (poΛ fun _ _ => none) 200 52 (cArgs 0 [.buf false .u8 32 k, .buf true .u8 n p]) (cMem [.buf false .u8 32 k, .buf true .u8 n p])).go []) = some ([true, true, true, true, true, decide (n = p.length), decide (n = p.length), decide (n < 4611686018427387904), al8 p, decide (0 ≤ Go.Wn.val (poR k)), decide (Go.Wn.val (poR k) < 21267647932558653966460912964485513216), true, true], .ints .u8 16 (outPo (poX (Go.Wn.limbs (pyN (Go.Wn.val (poR k)) p ((p.length + 15) / 16))) k))) := by kernel_rfl
theorem rp_n32 (k : List Int) : res ((funcL Try.prog qD (deep Try.prog qD hy4 100 3) (poΛ fun _ _ => none) 200 52 (cArgs 0 [.buf false .u8 32 k, .pl .nilslice]) (cMem [.buf false .u8 32 k, .pl .nilslice])).go []) = some ([true, true, true], .ints .u8 16 (outPo (poX (Go.Wn.limbs (pyN (Go.Wn.val (poR k)) [] 0)) k))) := by kernel_rfl
theorem rp_e32 (k : List Int) : res ((funcL Try.prog qD (deep Try.prog qD hy4 100 3) (poΛ fun _ _ => none) 200 52 (cArgs 0 [.buf false .u8 32 k, .empty]) (cMem [.buf false .u8 32 k, .empty])).go []) = some ([true, true, true], .ints .u8 16 (outPo (poX (Go.Wn.limbs (pyN (Go.Wn.val (poR k)) [] 0)) k))) := by kernel_rfl
theorem rp_b64 (k : List Int) (n : Nat) (p : List Int) : res ((funcL Try.prog qD (deep Try.prog qD hy4 100 3) (poΛ fun _ _ => none) 200 52 (cArgs 0 [.buf false .u8 64 k, .buf true .u8 n p]) (cMem [.buf false .u8 64 k, .buf true .u8 n p])).go []) = some ([true, true, true, true, true, decide (n = p.length), decide (n = p.length), decide (n < 4611686018427387904), al8 p, decide (0 ≤ Go.Wn.val (poR k)), decide (Go.Wn.val (poR k) < 21267647932558653966460912964485513216), true, true], .ints .u8 16 (outPo (poX (Go.Wn.limbs (pyN (Go.Wn.val (poR k)) p ((p.length + 15) / 16))) k))) := by kernel_rfl
theorem rp_n64 (k : List Int) : res ((funcL Try.prog qD (deep Try.prog qD hy4 100 3) (poΛ fun _ _ => none) 200 52 (cArgs 0 [.buf false .u8 64 k, .pl .nilslice]) (cMem [.buf false .u8 64 k, .pl .nilslice])).go []) = some ([true, true, true], .ints .u8 16 (outPo (poX (Go.Wn.limbs (pyN (Go.Wn.val (poR k)) [] 0)) k))) := by kernel_rfl
theorem rp_e64 (k : List Int) : res ((funcL Try.prog qD (deep Try.prog qD hy4 100 3) (poΛ fun _ _ => none) 200 52 (cArgs 0 [.buf false .u8 64 k, .empty]) (cMem [.buf false .u8 64 k, .empty])).go []) = some ([true, true, true], .ints .u8 16 (outPo (poX (Go.Wn.limbs (pyN (Go.Wn.val (poR k)) [] 0)) k))) := by kernel_rfl
def rpS : List V → E (AV × Mem)
  | [.buf false .u8 kn k, t] => match decide (kn = 32 ∨ kn = 64), txt1 t with
    | true, some (o, p) => (match t with
      | .buf _ .u8 n _ => some ([decide (n ≤ 140737488351232)], (.ints .u8 16 (codB (k.take 32) p), []))
      | _ => some (o, (.ints .u8 16 (codB (k.take 32) p), [])))
    | _, _ => none
  | _ => none
theorem rp_ok {xs : List V} {o : List Bool} {v : AV} {bs : Mem} (h : rpS xs = some (o, (v, bs))) (ho : Paid o) : ViewCall Try.prog 52 xs v bs := by
  unfold rpS at h
  split at h
  case h_2 => cases h
  rename_i kn k t
  split at h
  case h_2 => cases h
  rename_i o1 p hkn ht
  have hkn' := of_decide_eq_true hkn
  have hΛ : ∀ fn c, Try.prog.funcs[52]? = some fn → fn.body = some c → LOk Try.prog c (poΛ fun _ _ => none) := fun fn c hf hb => by rw [bodyOf_eq hf hb]; exact po_lok LOk.none
  intro ρ vs w ha hi
  obtain ⟨n0, r0⟩ := buf_arg hi 0 rfl
  have hkb : ∀ x ∈ k, B8 x := fun x hx => inR_b8 (r0 x hx)
  have hk32 : 32 ≤ k.length := by omega
  have hf0 := po_fin (p := []) hk32 hkb
  rcases txt1_ok ht with ⟨rfl, rfl, rfl⟩ | ⟨rfl, rfl, rfl⟩ | ⟨s, n, rfl, rfl⟩
  · cases h
    rcases hkn' with rfl | rfl
    · exact view_of_goL mixed noCount (hy4_ok.deep mixed noCount 100 3) hΛ [] (rp_n32 k) (paid_cons rfl (paid_cons rfl (paid_cons rfl Paid.nil))) (congrArg (AV.ints .u8 16) hf0) rfl ha hi
    · exact view_of_goL mixed noCount (hy4_ok.deep mixed noCount 100 3) hΛ [] (rp_n64 k) (paid_cons rfl (paid_cons rfl (paid_cons rfl Paid.nil))) (congrArg (AV.ints .u8 16) hf0) rfl ha hi
  · cases h
    rcases hkn' with rfl | rfl
    · exact view_of_goL mixed noCount (hy4_ok.deep mixed noCount 100 3) hΛ [] (rp_e32 k) (paid_cons rfl (paid_cons rfl (paid_cons rfl Paid.nil))) (congrArg (AV.ints .u8 16) hf0) rfl ha hi
    · exact view_of_goL mixed noCount (hy4_ok.deep mixed noCount 100 3) hΛ [] (rp_e64 k) (paid_cons rfl (paid_cons rfl (paid_cons rfl Paid.nil))) (congrArg (AV.ints .u8 16) hf0) rfl ha hi
  · cases h
    have hn := of_decide_eq_true (ho _ (List.mem_cons_self ..))
    obtain ⟨n1, r1⟩ := buf_arg hi 1 rfl
    have hf1 := po_fin (p := p) hk32 hkb
    have hR := KR_b (k.take 32)
    have eR := poR_eq hk32 hkb
    have pay : Paid [true, true, true, true, true, decide (n = p.length), decide (n = p.length), decide (n < 4611686018427387904), al8 p, decide (0 ≤ Go.Wn.val (poR k)), decide (Go.Wn.val (poR k) < 21267647932558653966460912964485513216), true, true] := paid_cons rfl (paid_cons rfl (paid_cons rfl (paid_cons rfl (paid_cons rfl (paid_cons (decide_eq_true n1.symm) (paid_cons (decide_eq_true n1.symm) (paid_cons (decide_eq_true (by omega)) (paid_cons (al8_of fun x hx => inR_b8 (r1 x hx)) (paid_cons (decide_eq_true (by rw [eR]; exact hR.1)) (paid_cons (decide_eq_true (by rw [eR]; exact hR.2)) (paid_cons rfl (paid_cons rfl Paid.nil))))))))))))
    have ha2 : Reps ρ (upto 2) (cArgs 0 [.buf false .u8 kn k, .buf true .u8 n p]) vs := by
      cases ha with | cons _ _ u us a0 hs => cases hs with | cons _ _ u1 us1 a1 hs => exact .cons _ _ _ _ a0 (.cons _ _ _ _ (markedS a1) hs)
    rcases hkn' with rfl | rfl
    · exact view_of_goL mixed noCount (hy4_ok.deep mixed noCount 100 3) hΛ [] (rp_b32 k n p) pay (congrArg (AV.ints .u8 16) hf1) rfl ha2 hi
    · exact view_of_goL mixed noCount (hy4_ok.deep mixed noCount 100 3) hΛ [] (rp_b64 k n p) pay (congrArg (AV.ints .u8 16) hf1) rfl ha2 hi
def hy5 : CallH := withV 52 rpS hy4
theorem hy5_ok : HOk Try.prog hy5 := hy4_ok.withV fun _ _ _ _ h ho => rp_ok h ho
end Go.Proofs.Ytfmgodgakndjcaa
namespace Go.Ev
set_option linter.unusedSectionVars false
variable [Tab]
def inN (P : Program) (q : FuncId → Bool) (H : CallH) (Λ : LoopH) (fuel k0 : Nat) (g : FuncId) (ds : List Bool) (X : CallH) : CallH := fun f xs m =>
  match decide (f = g) && Nat.ble m.length k0 with
  | true => match ((funcL P q H Λ fuel f xs m).go ds).flat with
    | some (o, (v, m')) => (match decide (m.length ≤ m'.length) with | true => some (o, (v, m')) | false => none)
    | none => X f xs m
  | false => X f xs m
section
variable {P : Program} {q : FuncId → Bool} {H X : CallH} {Λ : LoopH}
theorem HOk.inN (hm : P.follows .mixedOrders = true) (hng : noCount P = true) (hH : HOk P H) (hX : HOk P X) (fuel k0 : Nat) (g : FuncId) (ds : List Bool) (hΛ : ∀ fn c, P.funcs[g]? = some fn → fn.body = some c → LOkN k0 P c Λ) : HOk P (inN P q H Λ fuel k0 g ds X) := by
  have both : ∀ {f : FuncId} {xs : List AV} {m : Mem} {ob : List Bool} {v : AV} {m' : Mem}, Go.Ev.inN P q H Λ fuel k0 g ds X f xs m = some (ob, (v, m')) → Paid ob →
      m.length ≤ m'.length ∧ ∀ {w0 : World} {S : Nat → Prop} {ρ : Nat → Loc3} {w : World} {vs : List Value}, Reps ρ (upto m.length) xs vs → Inv w0 S (upto m.length) ρ (getName m) w →
      CallRun P f vs.toArray w (fun u w' => ∃ ρ', Rep ρ' (upto m'.length) v u ∧ Inv w0 S (upto m'.length) ρ' (getName m') w' ∧ Agr ρ ρ' (upto m.length)) := by
    intro f xs m ob v m' h ho
    unfold Go.Ev.inN at h
    split at h
    · rename_i hf
      simp only [Bool.and_eq_true] at hf
      have hf' := of_decide_eq_true hf.1
      have hl := Nat.le_of_ble_eq_true hf.2
      subst hf'
      split at h
      · rename_i o1 x m1 hflat
        split at h
        case h_2 => cases h
        rename_i hle
        cases h
        have hsat := go_sound (flat_sound hflat ho)
        refine ⟨by simpa using hle, fun {w0 S ρ w vs} ha hi => ?_⟩
        obtain ⟨hf, hc⟩ := funcN_sound hm hH hΛ hl hsat (w0 := w0) (S := S) ha hi
        refine callRun_of hng hf (hc.mono fun e w' ⟨u, h1, x', m2, ρ', k1, k2, k3, k4, k5⟩ => ⟨u, h1, ρ', ?_⟩)
        cases k1
        exact ⟨k2, k3, k4⟩
      · exact ⟨hX.le h ho, fun ha hi => hX.run h ho ha hi⟩
    · exact ⟨hX.le h ho, fun ha hi => hX.run h ho ha hi⟩
  exact ⟨@fun f xs m ob v m' h ho => (both h ho).1, @fun f xs m ob v m' h ho w0 S ρ w vs ha hi => (both h ho).2 ha hi⟩
end
end Go.Ev
namespace Go.Ev
set_option linter.unusedSectionVars false
variable [Tab]
theorem bndM_cons (k : Nat) (b : Option Blk) (m : Mem) : bndM k (b :: m) = (bndM k [b] && bndM k m) := by
  cases b with
  | none => simp [bndM]
  | some b => obtain ⟨r, c⟩ := b; cases c <;> simp [bndM]
theorem bndM_append (k : Nat) : ∀ (a b : Mem), bndM k (a ++ b) = (bndM k a && bndM k b)
  | [], b => by simp [bndM]
  | x :: a, b => by
    rw [List.cons_append, bndM_cons k x (a ++ b), bndM_append k a b, bndM_cons k x a, Bool.and_assoc]
theorem bndM_le {k k' : Nat} (h : k ≤ k') : ∀ {m : Mem}, bndM k m = true → bndM k' m = true
  | [], _ => rfl
  | b :: m, hb => by
    rw [bndM_cons, Bool.and_eq_true] at hb ⊢
    refine ⟨?_, bndM_le h hb.2⟩
    have h1 := hb.1
    cases b with
    | none => rfl
    | some b =>
      obtain ⟨r, c⟩ := b
      cases c <;> simp only [bndM, Bool.and_true] at h1 ⊢
      · exact bndL_le h _ h1
      · exact bndL_le h _ h1
theorem renC_fix {g : Nat → Nat} {k : Nat} (h : ∀ i, i < k → g i = i) {b : Blk} (hb : bndM k [some b] = true) : renC g b.c = b.c := by
  obtain ⟨r, c⟩ := b
  cases c with
  | vals l => simp only [bndM, Bool.and_true] at hb; simp only [renC, renL_fix h l hb]
  | wide l => simp only [bndM, Bool.and_true] at hb; simp only [renC, renL_fix h l hb]
  | ints k' n l => rfl
  | bools n l => rfl
theorem pulls_pre {g : Nat → Nat} {k : Nat} (hg : ∀ i, i < k → g i = i) {m' rest : Mem} : ∀ (pre2 a : Mem), a.length + pre2.length ≤ k → bndM k pre2 = true → Pulls g (a ++ pre2 ++ m') (a.length + pre2.length) rest → Pulls g (a ++ pre2 ++ m') a.length (pre2 ++ rest)
  | [], a, _, _, h => h
  | b :: pre2, a, hl, hb, h => by
    rw [bndM_cons, Bool.and_eq_true] at hb
    have e : a ++ (b :: pre2) ++ m' = (a ++ [b]) ++ pre2 ++ m' := by simp
    have hl' : (a ++ [b]).length = a.length + 1 := by simp
    have ih := pulls_pre hg (m' := m') (rest := rest) pre2 (a ++ [b]) (by rw [hl']; simp at hl; omega) hb.2 (by rw [← e, hl']; simp only [List.length_cons] at h; rw [show a.length + 1 + pre2.length = a.length + (pre2.length + 1) by omega]; exact h)
    rw [← e, hl'] at ih
    cases b with
    | none => exact ih
    | some b =>
      refine ⟨⟨b.c, ?_, ?_⟩, ih⟩
      · rw [hg _ (by simp at hl; omega), List.append_assoc, List.getElem?_append_right (Nat.le_refl _)]
        simp
      · rw [renC_fix hg hb.1]
        exact .refl _
theorem goes_pre {k0 : Nat} {g : Nat → Nat} {ts : List Nat} {avs : List AV} {pre m' rest : Mem} {vals : List AV} (hs : LeG g avs vals) (hl : pre.length = k0) (hb : bndM k0 pre = true) (hp : Pulls g (pre ++ m') k0 rest) (hi : injB g (k0 + rest.length) = true) (hf : fixB g k0 = true)
    (hr : bndM (k0 + rest.length) rest = true) (hv : bndL (k0 + rest.length) vals = true) : Goes k0 g ts avs (pre ++ m') (zipU ts vals) (pre ++ rest) := by
  have hlen : (pre ++ rest).length = k0 + rest.length := by rw [List.length_append, hl]
  have hfx : ∀ i, i < k0 → g i = i := fun i hi => fixB_of hf hi
  refine Goes.zip hs ?_ (by rw [hlen]; exact hi) hf (by rw [hlen]; omega) ?_ (by rw [hlen]; exact hv)
  · have := pulls_pre hfx (m' := m') (rest := rest) pre [] (by simp; omega) hb (by simpa [hl] using hp)
    simpa using this
  · rw [hlen, bndM_append, bndM_le (by omega) hb, hr]; rfl
end Go.Ev
