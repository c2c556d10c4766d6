/- The reference's block cipher: the rounds of Block as a family; its contract. Own work. -/
import Derived.Test.YtfmgodgakndjcaaQAesI
set_option linter.unusedSimpArgs false
set_option linter.unusedVariables false
set_option linter.unusedSectionVars false
namespace Go.As
open Go.Ev Go.Sh
theorem gm_tab : (List.range 256).all (fun n => Nat.beq (gmN 1 n) n && Nat.beq (gmN 2 n) (dN n) && Nat.beq (gmN 3 n) (dN n ^^^ n)) = true := by kernel_rfl
theorem gm_few {x : Int} (hx : B8 x) : gm 1 x = x ∧ gm 2 x = dI x ∧ gm 3 x = ix (dI x) x := by
  have h := byte_all gm_tab hx
  simp only [Bool.and_eq_true] at h
  have h1 := Nat.eq_of_beq_eq_true h.1.1
  have h2 := Nat.eq_of_beq_eq_true h.1.2
  have h3 := Nat.eq_of_beq_eq_true h.2
  refine ⟨?_, ?_, ?_⟩
  · unfold gm; rw [show (1 : Int).toNat = 1 from rfl, h1, b8_nat hx]
  · unfold gm dI; rw [show (2 : Int).toNat = 2 from rfl, h2]
  · unfold gm dI ix; rw [show (3 : Int).toNat = 3 from rfl, h3, Int.toNat_natCast]
theorem x4 {a b c d : Int} (ha : B8 a) (hb : B8 b) (hc : B8 c) (hd : B8 d) : ixor .i64 (ixor .i64 (ixor .i64 a b) c) d = ix (ix (ix a b) c) d := by
  rw [ixor64b ha hb, ixor64b (ix_b8 ha hb) hc, ixor64b (ix_b8 (ix_b8 ha hb) hc) hd]
theorem colR {a b c d : Int} (ha : B8 a) (hb : B8 b) (hc : B8 c) (hd : B8 d) :
    ixor .i64 (ixor .i64 (ixor .i64 (gm 2 a) (gm 3 b)) (gm 1 c)) (gm 1 d) = mx a b c d ∧ ixor .i64 (ixor .i64 (ixor .i64 (gm 1 a) (gm 2 b)) (gm 3 c)) (gm 1 d) = mx b c d a ∧
    ixor .i64 (ixor .i64 (ixor .i64 (gm 1 a) (gm 1 b)) (gm 2 c)) (gm 3 d) = mx c d a b ∧ ixor .i64 (ixor .i64 (ixor .i64 (gm 3 a) (gm 1 b)) (gm 1 c)) (gm 2 d) = mx d a b c := by
  have da := (dP_eq ha).2; have db := (dP_eq hb).2; have dc := (dP_eq hc).2; have dd := (dP_eq hd).2
  obtain ⟨a1, a2, a3⟩ := gm_few ha
  obtain ⟨b1, b2, b3⟩ := gm_few hb
  obtain ⟨c1, c2, c3⟩ := gm_few hc
  obtain ⟨d1, d2, d3⟩ := gm_few hd
  rw [a1, a2, a3, b1, b2, b3, c1, c2, c3, d1, d2, d3, x4 da (ix_b8 db hb) hc hd, x4 ha db (ix_b8 dc hc) hd, x4 ha hb dc (ix_b8 dd hd), x4 (ix_b8 da ha) hb hc dd]
  unfold mx
  refine ⟨?_, ?_, ?_, ?_⟩ <;> simp only [ix_assoc, ix_comm, ix_left]
theorem addB_16 (w : List Int) (n : Nat) (b : List Int) : addB w n b = [ixor .u8 (b.getD 0 0) (w.getD (16 * n + 0) 0), ixor .u8 (b.getD 1 0) (w.getD (16 * n + 1) 0), ixor .u8 (b.getD 2 0) (w.getD (16 * n + 2) 0), ixor .u8 (b.getD 3 0) (w.getD (16 * n + 3) 0), ixor .u8 (b.getD 4 0) (w.getD (16 * n + 4) 0), ixor .u8 (b.getD 5 0) (w.getD (16 * n + 5) 0), ixor .u8 (b.getD 6 0) (w.getD (16 * n + 6) 0), ixor .u8 (b.getD 7 0) (w.getD (16 * n + 7) 0), ixor .u8 (b.getD 8 0) (w.getD (16 * n + 8) 0), ixor .u8 (b.getD 9 0) (w.getD (16 * n + 9) 0), ixor .u8 (b.getD 10 0) (w.getD (16 * n + 10) 0), ixor .u8 (b.getD 11 0) (w.getD (16 * n + 11) 0), ixor .u8 (b.getD 12 0) (w.getD (16 * n + 12) 0), ixor .u8 (b.getD 13 0) (w.getD (16 * n + 13) 0), ixor .u8 (b.getD 14 0) (w.getD (16 * n + 14) 0), ixor .u8 (b.getD 15 0) (w.getD (16 * n + 15) 0)] := rfl
theorem mix_exp {s0 s1 s2 s3 s4 s5 s6 s7 s8 s9 s10 s11 s12 s13 s14 s15 : Int} (h0 : B8 s0) (h1 : B8 s1) (h2 : B8 s2) (h3 : B8 s3) (h4 : B8 s4) (h5 : B8 s5) (h6 : B8 s6) (h7 : B8 s7) (h8 : B8 s8) (h9 : B8 s9) (h10 : B8 s10) (h11 : B8 s11) (h12 : B8 s12) (h13 : B8 s13) (h14 : B8 s14) (h15 : B8 s15) : mixB (subB [s0, s1, s2, s3, s4, s5, s6, s7, s8, s9, s10, s11, s12, s13, s14, s15]) = [mx (sb s0) (sb s5) (sb s10) (sb s15), mx (sb s5) (sb s10) (sb s15) (sb s0), mx (sb s10) (sb s15) (sb s0) (sb s5), mx (sb s15) (sb s0) (sb s5) (sb s10), mx (sb s4) (sb s9) (sb s14) (sb s3), mx (sb s9) (sb s14) (sb s3) (sb s4), mx (sb s14) (sb s3) (sb s4) (sb s9), mx (sb s3) (sb s4) (sb s9) (sb s14), mx (sb s8) (sb s13) (sb s2) (sb s7), mx (sb s13) (sb s2) (sb s7) (sb s8), mx (sb s2) (sb s7) (sb s8) (sb s13), mx (sb s7) (sb s8) (sb s13) (sb s2), mx (sb s12) (sb s1) (sb s6) (sb s11), mx (sb s1) (sb s6) (sb s11) (sb s12), mx (sb s6) (sb s11) (sb s12) (sb s1), mx (sb s11) (sb s12) (sb s1) (sb s6)] := by
  show mixC (sb s0) (sb s5) (sb s10) (sb s15) ++ mixC (sb s4) (sb s9) (sb s14) (sb s3) ++ mixC (sb s8) (sb s13) (sb s2) (sb s7) ++ mixC (sb s12) (sb s1) (sb s6) (sb s11) = _
  rw [mixC_eq (sb_b8 h0) (sb_b8 h5) (sb_b8 h10) (sb_b8 h15), mixC_eq (sb_b8 h4) (sb_b8 h9) (sb_b8 h14) (sb_b8 h3), mixC_eq (sb_b8 h8) (sb_b8 h13) (sb_b8 h2) (sb_b8 h7), mixC_eq (sb_b8 h12) (sb_b8 h1) (sb_b8 h6) (sb_b8 h11)]
  rfl
theorem wq {w : List Int} {n c i : Nat} (hn : n ≤ 100) (hc : c < 4) : w.getD (0 + qK (n : Int) (c : Int) * 4 + i) 0 = w.getD (16 * n + (4 * c + i)) 0 := by
  rw [(qK_nat hn hc).1]; congr 1; omega
theorem mixR_eq {w : List Int} (hw : ∀ x ∈ w, B8 x) {n : Nat} (hn : n ≤ 100) {s0 s1 s2 s3 s4 s5 s6 s7 s8 s9 s10 s11 s12 s13 s14 s15 : Int} (h0 : B8 s0) (h1 : B8 s1) (h2 : B8 s2) (h3 : B8 s3) (h4 : B8 s4) (h5 : B8 s5) (h6 : B8 s6) (h7 : B8 s7) (h8 : B8 s8) (h9 : B8 s9) (h10 : B8 s10) (h11 : B8 s11) (h12 : B8 s12) (h13 : B8 s13) (h14 : B8 s14) (h15 : B8 s15) : mixR w (n : Int) s0 s1 s2 s3 s4 s5 s6 s7 s8 s9 s10 s11 s12 s13 s14 s15 = addB w n (mixB (subB [s0, s1, s2, s3, s4, s5, s6, s7, s8, s9, s10, s11, s12, s13, s14, s15])) := by
  have W := fun i => getD_B8 hw i
  have q := fun c i hc => wq (w := w) (n := n) (c := c) (i := i) hn hc
  have k0 := colR (sb_b8 h0) (sb_b8 h5) (sb_b8 h10) (sb_b8 h15)
  have k1 := colR (sb_b8 h4) (sb_b8 h9) (sb_b8 h14) (sb_b8 h3)
  have k2 := colR (sb_b8 h8) (sb_b8 h13) (sb_b8 h2) (sb_b8 h7)
  have k3 := colR (sb_b8 h12) (sb_b8 h1) (sb_b8 h6) (sb_b8 h11)
  have q0 := fun i => q 0 i (by omega)
  have q1 := fun i => q 1 i (by omega)
  have q2 := fun i => q 2 i (by omega)
  have q3 := fun i => q 3 i (by omega)
  simp only [Int.cast_ofNat_Int, Int.natCast_zero, Int.natCast_one] at q0 q1 q2 q3
  rw [mix_exp h0 h1 h2 h3 h4 h5 h6 h7 h8 h9 h10 h11 h12 h13 h14 h15, addB_16]
  unfold mixR
  simp only [sbR_eq]
  rw [k0.1, k0.2.1, k0.2.2.1, k0.2.2.2, k1.1, k1.2.1, k1.2.2.1, k1.2.2.2, k2.1, k2.2.1, k2.2.2.1, k2.2.2.2, k3.1, k3.2.1, k3.2.2.1, k3.2.2.2]
  rw [q0 0, q0 1, q0 2, q0 3, q1 0, q1 1, q1 2, q1 3, q2 0, q2 1, q2 2, q2 3, q3 0, q3 1, q3 2, q3 3]
  rw [ixor64b (mx_b8 (sb_b8 h0) (sb_b8 h5) (sb_b8 h10) (sb_b8 h15)) (W _), ixor64b (mx_b8 (sb_b8 h5) (sb_b8 h10) (sb_b8 h15) (sb_b8 h0)) (W _), ixor64b (mx_b8 (sb_b8 h10) (sb_b8 h15) (sb_b8 h0) (sb_b8 h5)) (W _), ixor64b (mx_b8 (sb_b8 h15) (sb_b8 h0) (sb_b8 h5) (sb_b8 h10)) (W _), ixor64b (mx_b8 (sb_b8 h4) (sb_b8 h9) (sb_b8 h14) (sb_b8 h3)) (W _), ixor64b (mx_b8 (sb_b8 h9) (sb_b8 h14) (sb_b8 h3) (sb_b8 h4)) (W _), ixor64b (mx_b8 (sb_b8 h14) (sb_b8 h3) (sb_b8 h4) (sb_b8 h9)) (W _), ixor64b (mx_b8 (sb_b8 h3) (sb_b8 h4) (sb_b8 h9) (sb_b8 h14)) (W _), ixor64b (mx_b8 (sb_b8 h8) (sb_b8 h13) (sb_b8 h2) (sb_b8 h7)) (W _), ixor64b (mx_b8 (sb_b8 h13) (sb_b8 h2) (sb_b8 h7) (sb_b8 h8)) (W _), ixor64b (mx_b8 (sb_b8 h2) (sb_b8 h7) (sb_b8 h8) (sb_b8 h13)) (W _), ixor64b (mx_b8 (sb_b8 h7) (sb_b8 h8) (sb_b8 h13) (sb_b8 h2)) (W _), ixor64b (mx_b8 (sb_b8 h12) (sb_b8 h1) (sb_b8 h6) (sb_b8 h11)) (W _), ixor64b (mx_b8 (sb_b8 h1) (sb_b8 h6) (sb_b8 h11) (sb_b8 h12)) (W _), ixor64b (mx_b8 (sb_b8 h6) (sb_b8 h11) (sb_b8 h12) (sb_b8 h1)) (W _), ixor64b (mx_b8 (sb_b8 h11) (sb_b8 h12) (sb_b8 h1) (sb_b8 h6)) (W _)]
  simp only [List.getD_cons_zero, List.getD_cons_succ]
  rw [ixor_b (mx_b8 (sb_b8 h0) (sb_b8 h5) (sb_b8 h10) (sb_b8 h15)) (W _), ixor_b (mx_b8 (sb_b8 h5) (sb_b8 h10) (sb_b8 h15) (sb_b8 h0)) (W _), ixor_b (mx_b8 (sb_b8 h10) (sb_b8 h15) (sb_b8 h0) (sb_b8 h5)) (W _), ixor_b (mx_b8 (sb_b8 h15) (sb_b8 h0) (sb_b8 h5) (sb_b8 h10)) (W _), ixor_b (mx_b8 (sb_b8 h4) (sb_b8 h9) (sb_b8 h14) (sb_b8 h3)) (W _), ixor_b (mx_b8 (sb_b8 h9) (sb_b8 h14) (sb_b8 h3) (sb_b8 h4)) (W _), ixor_b (mx_b8 (sb_b8 h14) (sb_b8 h3) (sb_b8 h4) (sb_b8 h9)) (W _), ixor_b (mx_b8 (sb_b8 h3) (sb_b8 h4) (sb_b8 h9) (sb_b8 h14)) (W _), ixor_b (mx_b8 (sb_b8 h8) (sb_b8 h13) (sb_b8 h2) (sb_b8 h7)) (W _), ixor_b (mx_b8 (sb_b8 h13) (sb_b8 h2) (sb_b8 h7) (sb_b8 h8)) (W _), ixor_b (mx_b8 (sb_b8 h2) (sb_b8 h7) (sb_b8 h8) (sb_b8 h13)) (W _), ixor_b (mx_b8 (sb_b8 h7) (sb_b8 h8) (sb_b8 h13) (sb_b8 h2)) (W _), ixor_b (mx_b8 (sb_b8 h12) (sb_b8 h1) (sb_b8 h6) (sb_b8 h11)) (W _), ixor_b (mx_b8 (sb_b8 h1) (sb_b8 h6) (sb_b8 h11) (sb_b8 h12)) (W _), ixor_b (mx_b8 (sb_b8 h6) (sb_b8 h11) (sb_b8 h12) (sb_b8 h1)) (W _), ixor_b (mx_b8 (sb_b8 h11) (sb_b8 h12) (sb_b8 h1) (sb_b8 h6)) (W _)]
theorem lastR_eq {w : List Int} (hw : ∀ x ∈ w, B8 x) {n : Nat} (hn : n ≤ 100) {s0 s1 s2 s3 s4 s5 s6 s7 s8 s9 s10 s11 s12 s13 s14 s15 : Int} (h0 : B8 s0) (h1 : B8 s1) (h2 : B8 s2) (h3 : B8 s3) (h4 : B8 s4) (h5 : B8 s5) (h6 : B8 s6) (h7 : B8 s7) (h8 : B8 s8) (h9 : B8 s9) (h10 : B8 s10) (h11 : B8 s11) (h12 : B8 s12) (h13 : B8 s13) (h14 : B8 s14) (h15 : B8 s15) : lastR w (n : Int) s0 s1 s2 s3 s4 s5 s6 s7 s8 s9 s10 s11 s12 s13 s14 s15 = addB w n (subB [s0, s1, s2, s3, s4, s5, s6, s7, s8, s9, s10, s11, s12, s13, s14, s15]) := by
  have W := fun i => getD_B8 hw i
  have q := fun c i hc => wq (w := w) (n := n) (c := c) (i := i) hn hc
  have q0 := fun i => q 0 i (by omega)
  have q1 := fun i => q 1 i (by omega)
  have q2 := fun i => q 2 i (by omega)
  have q3 := fun i => q 3 i (by omega)
  simp only [Int.cast_ofNat_Int, Int.natCast_zero, Int.natCast_one] at q0 q1 q2 q3
  have e : subB [s0, s1, s2, s3, s4, s5, s6, s7, s8, s9, s10, s11, s12, s13, s14, s15] = [(sb s0), (sb s5), (sb s10), (sb s15), (sb s4), (sb s9), (sb s14), (sb s3), (sb s8), (sb s13), (sb s2), (sb s7), (sb s12), (sb s1), (sb s6), (sb s11)] := rfl
  rw [e, addB_16]
  unfold lastR
  simp only [sbR_eq]
  rw [q0 0, q0 1, q0 2, q0 3, q1 0, q1 1, q1 2, q1 3, q2 0, q2 1, q2 2, q2 3, q3 0, q3 1, q3 2, q3 3]
  rw [ixor64b (sb_b8 h0) (W _), ixor64b (sb_b8 h5) (W _), ixor64b (sb_b8 h10) (W _), ixor64b (sb_b8 h15) (W _), ixor64b (sb_b8 h4) (W _), ixor64b (sb_b8 h9) (W _), ixor64b (sb_b8 h14) (W _), ixor64b (sb_b8 h3) (W _), ixor64b (sb_b8 h8) (W _), ixor64b (sb_b8 h13) (W _), ixor64b (sb_b8 h2) (W _), ixor64b (sb_b8 h7) (W _), ixor64b (sb_b8 h12) (W _), ixor64b (sb_b8 h1) (W _), ixor64b (sb_b8 h6) (W _), ixor64b (sb_b8 h11) (W _)]
  simp only [List.getD_cons_zero, List.getD_cons_succ]
  rw [ixor_b (sb_b8 h0) (W _), ixor_b (sb_b8 h5) (W _), ixor_b (sb_b8 h10) (W _), ixor_b (sb_b8 h15) (W _), ixor_b (sb_b8 h4) (W _), ixor_b (sb_b8 h9) (W _), ixor_b (sb_b8 h14) (W _), ixor_b (sb_b8 h3) (W _), ixor_b (sb_b8 h8) (W _), ixor_b (sb_b8 h13) (W _), ixor_b (sb_b8 h2) (W _), ixor_b (sb_b8 h7) (W _), ixor_b (sb_b8 h12) (W _), ixor_b (sb_b8 h1) (W _), ixor_b (sb_b8 h6) (W _), ixor_b (sb_b8 h11) (W _)]
def startR (w b : List Int) : List Int := [ixor .i64 (IntKind.i64.wrap (b.getD 0 0)) (w.getD (0 + 0 * 4 + 0) 0), ixor .i64 (IntKind.i64.wrap (b.getD 1 0)) (w.getD (0 + 0 * 4 + 1) 0), ixor .i64 (IntKind.i64.wrap (b.getD 2 0)) (w.getD (0 + 0 * 4 + 2) 0), ixor .i64 (IntKind.i64.wrap (b.getD 3 0)) (w.getD (0 + 0 * 4 + 3) 0), ixor .i64 (IntKind.i64.wrap (b.getD 4 0)) (w.getD (0 + 1 * 4 + 0) 0), ixor .i64 (IntKind.i64.wrap (b.getD 5 0)) (w.getD (0 + 1 * 4 + 1) 0), ixor .i64 (IntKind.i64.wrap (b.getD 6 0)) (w.getD (0 + 1 * 4 + 2) 0), ixor .i64 (IntKind.i64.wrap (b.getD 7 0)) (w.getD (0 + 1 * 4 + 3) 0), ixor .i64 (IntKind.i64.wrap (b.getD 8 0)) (w.getD (0 + 2 * 4 + 0) 0), ixor .i64 (IntKind.i64.wrap (b.getD 9 0)) (w.getD (0 + 2 * 4 + 1) 0), ixor .i64 (IntKind.i64.wrap (b.getD 10 0)) (w.getD (0 + 2 * 4 + 2) 0), ixor .i64 (IntKind.i64.wrap (b.getD 11 0)) (w.getD (0 + 2 * 4 + 3) 0), ixor .i64 (IntKind.i64.wrap (b.getD 12 0)) (w.getD (0 + 3 * 4 + 0) 0), ixor .i64 (IntKind.i64.wrap (b.getD 13 0)) (w.getD (0 + 3 * 4 + 1) 0), ixor .i64 (IntKind.i64.wrap (b.getD 14 0)) (w.getD (0 + 3 * 4 + 2) 0), ixor .i64 (IntKind.i64.wrap (b.getD 15 0)) (w.getD (0 + 3 * 4 + 3) 0)]
theorem startR_eq {w b : List Int} (hw : ∀ x ∈ w, B8 x) (hb : Blk b) : startR w b = addB w 0 b := by
  have W := fun i => getD_B8 hw i
  have B := fun i => getD_B8 hb.2 i
  have L : ∀ i, IntKind.i64.wrap (b.getD i 0) = b.getD i 0 := fun i => w64i (by have := B i; unfold B8 at this; omega)
  rw [addB_16]
  unfold startR
  simp only [L, ixor64b (B _) (W _), ixor_b (B _) (W _)]
def outR (s : List Int) : List Int := [IntKind.u8.wrap (s.getD (0 + 0 * 4 + 0 * 1) 0), IntKind.u8.wrap (s.getD (0 + 0 * 4 + 1 * 1) 0), IntKind.u8.wrap (s.getD (0 + 0 * 4 + 2 * 1) 0), IntKind.u8.wrap (s.getD (0 + 0 * 4 + 3 * 1) 0), IntKind.u8.wrap (s.getD (0 + 1 * 4 + 0 * 1) 0), IntKind.u8.wrap (s.getD (0 + 1 * 4 + 1 * 1) 0), IntKind.u8.wrap (s.getD (0 + 1 * 4 + 2 * 1) 0), IntKind.u8.wrap (s.getD (0 + 1 * 4 + 3 * 1) 0), IntKind.u8.wrap (s.getD (0 + 2 * 4 + 0 * 1) 0), IntKind.u8.wrap (s.getD (0 + 2 * 4 + 1 * 1) 0), IntKind.u8.wrap (s.getD (0 + 2 * 4 + 2 * 1) 0), IntKind.u8.wrap (s.getD (0 + 2 * 4 + 3 * 1) 0), IntKind.u8.wrap (s.getD (0 + 3 * 4 + 0 * 1) 0), IntKind.u8.wrap (s.getD (0 + 3 * 4 + 1 * 1) 0), IntKind.u8.wrap (s.getD (0 + 3 * 4 + 2 * 1) 0), IntKind.u8.wrap (s.getD (0 + 3 * 4 + 3 * 1) 0)]
theorem outR_eq {s : List Int} (hs : Blk s) : outR s = s := by
  obtain ⟨s0, s1, s2, s3, s4, s5, s6, s7, s8, s9, s10, s11, s12, s13, s14, s15, rfl⟩ := len16 hs.1
  have L : ∀ x, B8 x → IntKind.u8.wrap x = x := fun x hx => by
    unfold B8 at hx; rw [wrap_u (k := .u8) rfl]; exact Int.emod_eq_of_lt hx.1 hx.2
  show [IntKind.u8.wrap s0, IntKind.u8.wrap s1, IntKind.u8.wrap s2, IntKind.u8.wrap s3, IntKind.u8.wrap s4, IntKind.u8.wrap s5, IntKind.u8.wrap s6, IntKind.u8.wrap s7, IntKind.u8.wrap s8, IntKind.u8.wrap s9, IntKind.u8.wrap s10, IntKind.u8.wrap s11, IntKind.u8.wrap s12, IntKind.u8.wrap s13, IntKind.u8.wrap s14, IntKind.u8.wrap s15] = _
  rw [L s0 (hs.2 s0 (by simp)), L s1 (hs.2 s1 (by simp)), L s2 (hs.2 s2 (by simp)), L s3 (hs.2 s3 (by simp)), L s4 (hs.2 s4 (by simp)), L s5 (hs.2 s5 (by simp)), L s6 (hs.2 s6 (by simp)), L s7 (hs.2 s7 (by simp)), L s8 (hs.2 s8 (by simp)), L s9 (hs.2 s9 (by simp)), L s10 (hs.2 s10 (by simp)), L s11 (hs.2 s11 (by simp)), L s12 (hs.2 s12 (by simp)), L s13 (hs.2 s13 (by simp)), L s14 (hs.2 s14 (by simp)), L s15 (hs.2 s15 (by simp))]
theorem rndB_blk (w b : List Int) (n : Nat) : Blk (rndB w n b) := by cases n <;> exact addB_blk _ _ _
end Go.As
namespace Go.Proofs.Ytfmgodgakndjcaa
open Go.Ev Go.Sh Go.As
set_option maxRecDepth 100000
theorem gA_ok {n c K : Nat} (hn : n ≤ 100) (hc : c < 4) (hk : 4 * n + c < K) : gA (n : Int) (c : Int) K = true := by
  unfold gA; rw [(qK_nat hn hc).2]; simp; omega
theorem gB_ok {w : List Int} {n c i K : Nat} (hn : n ≤ 100) (hc : c < 4) (hi : i < 4) (hk : 4 * n + c < K) (hw : w.length = 4 * K) : gB w (n : Int) (c : Int) i = true := by
  unfold gB; rw [(qK_nat hn hc).1]; exact decide_eq_true (by omega)
theorem subD_ok {s0 s1 s2 s3 s4 s5 s6 s7 s8 s9 s10 s11 s12 s13 s14 s15 : Int} (h0 : B8 s0) (h1 : B8 s1) (h2 : B8 s2) (h3 : B8 s3) (h4 : B8 s4) (h5 : B8 s5) (h6 : B8 s6) (h7 : B8 s7) (h8 : B8 s8) (h9 : B8 s9) (h10 : B8 s10) (h11 : B8 s11) (h12 : B8 s12) (h13 : B8 s13) (h14 : B8 s14) (h15 : B8 s15) : Paid (subD s0 s1 s2 s3 s4 s5 s6 s7 s8 s9 s10 s11 s12 s13 s14 s15) := by
  unfold subD
  exact (paid_append.2 ⟨(paid_append.2 ⟨(paid_append.2 ⟨(paid_append.2 ⟨(paid_append.2 ⟨(paid_append.2 ⟨(paid_append.2 ⟨(paid_append.2 ⟨(paid_append.2 ⟨(paid_append.2 ⟨(paid_append.2 ⟨(paid_append.2 ⟨(paid_append.2 ⟨(paid_append.2 ⟨(paid_append.2 ⟨(cR_ok h0), (cR_ok h5)⟩), (cR_ok h10)⟩), (cR_ok h15)⟩), (cR_ok h4)⟩), (cR_ok h9)⟩), (cR_ok h14)⟩), (cR_ok h3)⟩), (cR_ok h8)⟩), (cR_ok h13)⟩), (cR_ok h2)⟩), (cR_ok h7)⟩), (cR_ok h12)⟩), (cR_ok h1)⟩), (cR_ok h6)⟩), (cR_ok h11)⟩)
theorem lastD_ok {w : List Int} {n K : Nat} (hn : n ≤ 100) (hk : 4 * n + 3 < K) (hw : w.length = 4 * K) {lt : Bool} (hl : lt = false) : Paid (lastD w (n : Int) K lt) := by
  subst hl
  have A := fun c (hc : c < 4) => gA_ok (K := K) hn hc (show 4 * n + c < K by omega)
  have B := fun c i (hc : c < 4) (hi : i < 4) => gB_ok (w := w) (K := K) hn hc hi (show 4 * n + c < K by omega) hw
  unfold lastD
  exact paid_cons rfl (paid_cons (A 0 (by omega)) (paid_cons (B 0 0 (by omega) (by omega)) (paid_cons rfl (paid_cons (A 0 (by omega)) (paid_cons (B 0 1 (by omega) (by omega)) (paid_cons rfl (paid_cons (A 0 (by omega)) (paid_cons (B 0 2 (by omega) (by omega)) (paid_cons rfl (paid_cons (A 0 (by omega)) (paid_cons (B 0 3 (by omega) (by omega)) (paid_cons rfl (paid_cons (A 1 (by omega)) (paid_cons (B 1 0 (by omega) (by omega)) (paid_cons rfl (paid_cons (A 1 (by omega)) (paid_cons (B 1 1 (by omega) (by omega)) (paid_cons rfl (paid_cons (A 1 (by omega)) (paid_cons (B 1 2 (by omega) (by omega)) (paid_cons rfl (paid_cons (A 1 (by omega)) (paid_cons (B 1 3 (by omega) (by omega)) (paid_cons rfl (paid_cons (A 2 (by omega)) (paid_cons (B 2 0 (by omega) (by omega)) (paid_cons rfl (paid_cons (A 2 (by omega)) (paid_cons (B 2 1 (by omega) (by omega)) (paid_cons rfl (paid_cons (A 2 (by omega)) (paid_cons (B 2 2 (by omega) (by omega)) (paid_cons rfl (paid_cons (A 2 (by omega)) (paid_cons (B 2 3 (by omega) (by omega)) (paid_cons rfl (paid_cons (A 3 (by omega)) (paid_cons (B 3 0 (by omega) (by omega)) (paid_cons rfl (paid_cons (A 3 (by omega)) (paid_cons (B 3 1 (by omega) (by omega)) (paid_cons rfl (paid_cons (A 3 (by omega)) (paid_cons (B 3 2 (by omega) (by omega)) (paid_cons rfl (paid_cons (A 3 (by omega)) (paid_cons (B 3 3 (by omega) (by omega)) (Paid.nil))))))))))))))))))))))))))))))))))))))))))))))))
theorem mixD_ok {w : List Int} {n K : Nat} (hn : n ≤ 100) (hk : 4 * n + 3 < K) (hw : w.length = 4 * K) {lt : Bool} (hl : lt = true) {s0 s1 s2 s3 s4 s5 s6 s7 s8 s9 s10 s11 s12 s13 s14 s15 : Int} (h0 : B8 s0) (h1 : B8 s1) (h2 : B8 s2) (h3 : B8 s3) (h4 : B8 s4) (h5 : B8 s5) (h6 : B8 s6) (h7 : B8 s7) (h8 : B8 s8) (h9 : B8 s9) (h10 : B8 s10) (h11 : B8 s11) (h12 : B8 s12) (h13 : B8 s13) (h14 : B8 s14) (h15 : B8 s15) : Paid (mixD w (n : Int) K lt s0 s1 s2 s3 s4 s5 s6 s7 s8 s9 s10 s11 s12 s13 s14 s15) := by
  subst hl
  have A := fun c (hc : c < 4) => gA_ok (K := K) hn hc (show 4 * n + c < K by omega)
  have B := fun c i (hc : c < 4) (hi : i < 4) => gB_ok (w := w) (K := K) hn hc hi (show 4 * n + c < K by omega) hw
  have C : ∀ {x : Int}, B8 x → b8D (sbR x) = true := fun {x} hx => by rw [sbR_eq]; exact decide_eq_true (sb_b8 hx)
  unfold mixD
  exact paid_cons rfl (paid_cons rfl (paid_cons (C h0) (paid_cons rfl (paid_cons (C h5) (paid_cons rfl (paid_cons (C h10) (paid_cons rfl (paid_cons (C h15) (paid_cons (A 0 (by omega)) (paid_cons (B 0 0 (by omega) (by omega)) (paid_cons rfl (paid_cons rfl (paid_cons (C h0) (paid_cons rfl (paid_cons (C h5) (paid_cons rfl (paid_cons (C h10) (paid_cons rfl (paid_cons (C h15) (paid_cons (A 0 (by omega)) (paid_cons (B 0 1 (by omega) (by omega)) (paid_cons rfl (paid_cons rfl (paid_cons (C h0) (paid_cons rfl (paid_cons (C h5) (paid_cons rfl (paid_cons (C h10) (paid_cons rfl (paid_cons (C h15) (paid_cons (A 0 (by omega)) (paid_cons (B 0 2 (by omega) (by omega)) (paid_cons rfl (paid_cons rfl (paid_cons (C h0) (paid_cons rfl (paid_cons (C h5) (paid_cons rfl (paid_cons (C h10) (paid_cons rfl (paid_cons (C h15) (paid_cons (A 0 (by omega)) (paid_cons (B 0 3 (by omega) (by omega)) (paid_cons rfl (paid_cons rfl (paid_cons (C h4) (paid_cons rfl (paid_cons (C h9) (paid_cons rfl (paid_cons (C h14) (paid_cons rfl (paid_cons (C h3) (paid_cons (A 1 (by omega)) (paid_cons (B 1 0 (by omega) (by omega)) (paid_cons rfl (paid_cons rfl (paid_cons (C h4) (paid_cons rfl (paid_cons (C h9) (paid_cons rfl (paid_cons (C h14) (paid_cons rfl (paid_cons (C h3) (paid_cons (A 1 (by omega)) (paid_cons (B 1 1 (by omega) (by omega)) (paid_cons rfl (paid_cons rfl (paid_cons (C h4) (paid_cons rfl (paid_cons (C h9) (paid_cons rfl (paid_cons (C h14) (paid_cons rfl (paid_cons (C h3) (paid_cons (A 1 (by omega)) (paid_cons (B 1 2 (by omega) (by omega)) (paid_cons rfl (paid_cons rfl (paid_cons (C h4) (paid_cons rfl (paid_cons (C h9) (paid_cons rfl (paid_cons (C h14) (paid_cons rfl (paid_cons (C h3) (paid_cons (A 1 (by omega)) (paid_cons (B 1 3 (by omega) (by omega)) (paid_cons rfl (paid_cons rfl (paid_cons (C h8) (paid_cons rfl (paid_cons (C h13) (paid_cons rfl (paid_cons (C h2) (paid_cons rfl (paid_cons (C h7) (paid_cons (A 2 (by omega)) (paid_cons (B 2 0 (by omega) (by omega)) (paid_cons rfl (paid_cons rfl (paid_cons (C h8) (paid_cons rfl (paid_cons (C h13) (paid_cons rfl (paid_cons (C h2) (paid_cons rfl (paid_cons (C h7) (paid_cons (A 2 (by omega)) (paid_cons (B 2 1 (by omega) (by omega)) (paid_cons rfl (paid_cons rfl (paid_cons (C h8) (paid_cons rfl (paid_cons (C h13) (paid_cons rfl (paid_cons (C h2) (paid_cons rfl (paid_cons (C h7) (paid_cons (A 2 (by omega)) (paid_cons (B 2 2 (by omega) (by omega)) (paid_cons rfl (paid_cons rfl (paid_cons (C h8) (paid_cons rfl (paid_cons (C h13) (paid_cons rfl (paid_cons (C h2) (paid_cons rfl (paid_cons (C h7) (paid_cons (A 2 (by omega)) (paid_cons (B 2 3 (by omega) (by omega)) (paid_cons rfl (paid_cons rfl (paid_cons (C h12) (paid_cons rfl (paid_cons (C h1) (paid_cons rfl (paid_cons (C h6) (paid_cons rfl (paid_cons (C h11) (paid_cons (A 3 (by omega)) (paid_cons (B 3 0 (by omega) (by omega)) (paid_cons rfl (paid_cons rfl (paid_cons (C h12) (paid_cons rfl (paid_cons (C h1) (paid_cons rfl (paid_cons (C h6) (paid_cons rfl (paid_cons (C h11) (paid_cons (A 3 (by omega)) (paid_cons (B 3 1 (by omega) (by omega)) (paid_cons rfl (paid_cons rfl (paid_cons (C h12) (paid_cons rfl (paid_cons (C h1) (paid_cons rfl (paid_cons (C h6) (paid_cons rfl (paid_cons (C h11) (paid_cons (A 3 (by omega)) (paid_cons (B 3 2 (by omega) (by omega)) (paid_cons rfl (paid_cons rfl (paid_cons (C h12) (paid_cons rfl (paid_cons (C h1) (paid_cons rfl (paid_cons (C h6) (paid_cons rfl (paid_cons (C h11) (paid_cons (A 3 (by omega)) (paid_cons (B 3 3 (by omega) (by omega)) (Paid.nil))))))))))))))))))))))))))))))))))))))))))))))))))))))))))))))))))))))))))))))))))))))))))))))))))))))))))))))))))))))))))))))))))))))))))))))))))))))))))))))))))))))))))))))))
def bkP4 : List AV → Mem → Option BkS
  | [.ptr false 0 0, .ptr false 3 0, .ptr false 4 0, .ptr false 5 0, .int _ .i64 r], [some ⟨false, .wide [.slice true 1 0 44 none 4, .ints .i64 256 T, .int false .i64 4]⟩, some ⟨false, .ints .i64 none w⟩, some ⟨true, .ints .u8 (some 16) b⟩, some ⟨true, .ints .u8 (some 16) z⟩, some ⟨true, .ints .i64 (some 16) s⟩, some ⟨true, .ints .i64 (some 16) m⟩] => match decide (T = sboxL) && decide (m = mmL) with
    | true => some ⟨w, b, z, s, r⟩
    | false => none
  | _, _ => none
def bkO4 (s : BkS) : List Bool := [decide (s.r = 1), decide (s.s = startR s.w s.b), decide (s.w.length = 4 * 44), s.w.all (inR .u8), decide (s.b.length = 16), s.b.all (inR .u8)]
def bkF4 (s : BkS) : List (Nat × AV) × Mem := ([(0, .ptr false 0 0), (4, .ptr false 3 0), (5, .ptr false 4 0)], bkM4 { s with s := encB s.w 10 s.b })
def bkΛ4 : LoopH := famH 2 174 bkTs bkP4 bkO4 bkF4 fun _ _ => none
structure BkJ4 (s0 s : BkS) : Prop where
  hw : s.w = s0.w
  hb : s.b = s0.b
  hz : s.z = s0.z
  len : s0.w.length = 4 * 44
  w8 : ∀ x ∈ s0.w, B8 x
  b8 : Blk s0.b
  n : (∃ n : Nat, n + 1 ≤ 10 ∧ s.r = ((n + 1 : Nat) : Int) ∧ s.s = rndB s0.w n s0.b) ∨ (s.r = ((10 + 1 : Nat) : Int) ∧ s.s = encB s0.w 10 s0.b)
theorem bk4_lok : LOk Try.prog (bodyOf Try.prog 45) bkΛ4 := by
  refine fam_ok (q := qP) (n := 100) bkV bkM4 BkJ4 (fun s => 100 - s.r.toNat) mixed (hr4_ok.deep (q := qP) mixed noCount 100 3) LOk.none LOk.none (by kernel_rfl) (by kernel_rfl) (fun s => rfl) (fun s => rfl) (fun avs m s h ho => ?_) (fun s0 s hJ x => ?_)
  · unfold bkP4 at h
    split at h
    · rename_i s1 r T w b z s2 m
      split at h
      · rename_i hc
        simp only [Bool.and_eq_true, decide_eq_true_eq] at hc
        obtain ⟨rfl, rfl⟩ := hc
        cases h
        have o1 := of_decide_eq_true (ho _ (List.mem_cons_self ..))
        have o2 := of_decide_eq_true (ho _ (List.mem_cons_of_mem _ (List.mem_cons_self ..)))
        have o3 := of_decide_eq_true (ho _ (List.mem_cons_of_mem _ (List.mem_cons_of_mem _ (List.mem_cons_self ..))))
        have o4 := ho _ (List.mem_cons_of_mem _ (List.mem_cons_of_mem _ (List.mem_cons_of_mem _ (List.mem_cons_self ..))))
        have o5 := of_decide_eq_true (ho _ (List.mem_cons_of_mem _ (List.mem_cons_of_mem _ (List.mem_cons_of_mem _ (List.mem_cons_of_mem _ (List.mem_cons_self ..))))))
        have o6 := ho _ (List.mem_cons_of_mem _ (List.mem_cons_of_mem _ (List.mem_cons_of_mem _ (List.mem_cons_of_mem _ (List.mem_cons_of_mem _ (List.mem_cons_self ..))))))
        simp only at o1 o2 o3 o4 o5 o6
        have w8 : ∀ x ∈ w, B8 x := fun x hx => inR_b8 (List.all_eq_true.1 o4 x hx)
        have b8 : Blk b := ⟨o5, fun x hx => inR_b8 (List.all_eq_true.1 o6 x hx)⟩
        exact ⟨⟨w, b, z, s2, r⟩, .cons (.refl _) (.cons (.refl _) (.cons (.refl _) (.cons (.refl _) (.cons (.int _ _ _) .nil)))), rfl, ⟨rfl, rfl, rfl, o3, w8, b8, Or.inl ⟨0, by omega, o1, by rw [o2]; exact startR_eq w8 b8⟩⟩⟩
      · cases h
    · cases h
  · obtain ⟨hw, hb, hz, len, w8, b8, hn⟩ := hJ
    obtain ⟨w, b, z, s, r⟩ := s
    obtain ⟨w0, b0, z0, s0, r0⟩ := s0
    simp only at hw hb hz len w8 b8 hn
    subst hw hb hz
    have etop : IntKind.i64.wrap (4 + 6) = 10 := by decide
    rcases hn with ⟨n, hn1, hr, hs⟩ | ⟨hr, hs⟩
    · have hB : Blk s := by rw [hs]; exact rndB_blk _ _ _
      subst hr
      obtain ⟨s0, s1, s2, s3, s4, s5, s6, s7, s8, s9, s10, s11, s12, s13, s14, s15, rfl⟩ := len16 hB.1
      have M := fun x hx => hB.2 x hx
      have h0 := M s0 (by simp)
      have h1 := M s1 (by simp)
      have h2 := M s2 (by simp)
      have h3 := M s3 (by simp)
      have h4 := M s4 (by simp)
      have h5 := M s5 (by simp)
      have h6 := M s6 (by simp)
      have h7 := M s7 (by simp)
      have h8 := M s8 (by simp)
      have h9 := M s9 (by simp)
      have h10 := M s10 (by simp)
      have h11 := M s11 (by simp)
      have h12 := M s12 (by simp)
      have h13 := M s13 (by simp)
      have h14 := M s14 (by simp)
      have h15 := M s15 (by simp)
      have ew : IntKind.i64.wrap (((n + 1 : Nat) : Int) + 1) = ((n + 1 + 1 : Nat) : Int) := by rw [w64i (by omega)]; omega
      have top : decide (((n + 1 : Nat) : Int) ≤ IntKind.i64.wrap (4 + 6)) = true := decide_eq_true (by rw [etop]; omega)
      have sd := subD_ok h0 h1 h2 h3 h4 h5 h6 h7 h8 h9 h10 h11 h12 h13 h14 h15
      by_cases hl : n + 1 = 10
      · have key := bk4_l x w b z ((n + 1 : Nat) : Int) s0 s1 s2 s3 s4 s5 s6 s7 s8 s9 s10 s11 s12 s13 s14 s15
        have e := lastR_eq w8 (n := n + 1) (by omega) h0 h1 h2 h3 h4 h5 h6 h7 h8 h9 h10 h11 h12 h13 h14 h15
        rw [hs] at e
        rw [e, ew] at key
        refine Round.on key ⟨w, b, z, encB w 10 b, ((n + 1 + 1 : Nat) : Int)⟩ [some ⟨true, .ints .i64 (some 16) (tR s0 s1 s2 s3 s4 s5 s6 s7 s8 s9 s10 s11 s12 s13 s14 s15)⟩] ?_ ?_ (LeL.refl _) ⟨rfl, rfl, rfl, len, w8, b8, Or.inr ⟨by rw [hl], rfl⟩⟩ rfl (by simp only; omega)
        · obtain rfl : n = 9 := by omega
          rfl
        · exact paid_append.2 ⟨paid_append.2 ⟨paid_cons top Paid.nil, sd⟩, lastD_ok (n := n + 1) (by omega) (by omega) len (decide_eq_false (by rw [etop]; omega))⟩
      · have key := bk4_m x w b z ((n + 1 : Nat) : Int) s0 s1 s2 s3 s4 s5 s6 s7 s8 s9 s10 s11 s12 s13 s14 s15
        have e := mixR_eq w8 (n := n + 1) (by omega) h0 h1 h2 h3 h4 h5 h6 h7 h8 h9 h10 h11 h12 h13 h14 h15
        rw [hs] at e
        rw [e, ew] at key
        refine Round.on key ⟨w, b, z, rndB w (n + 1) b, ((n + 1 + 1 : Nat) : Int)⟩ [some ⟨true, .ints .i64 (some 16) (tR s0 s1 s2 s3 s4 s5 s6 s7 s8 s9 s10 s11 s12 s13 s14 s15)⟩] rfl ?_ (LeL.refl _) ⟨rfl, rfl, rfl, len, w8, b8, Or.inl ⟨n + 1, by omega, rfl, rfl⟩⟩ rfl (by simp only; omega)
        exact paid_append.2 ⟨paid_append.2 ⟨paid_cons top Paid.nil, sd⟩, mixD_ok (n := n + 1) (by omega) (by omega) len (decide_eq_true (by rw [etop]; omega)) h0 h1 h2 h3 h4 h5 h6 h7 h8 h9 h10 h11 h12 h13 h14 h15⟩
    · subst hr hs
      refine Round.out (bk4_o x _) rfl rfl (paid_cons (by simp only [etop]; decide) Paid.nil) fun p hp => ?_
      simp only [bkF4, List.mem_cons, List.not_mem_nil, or_false] at hp
      rcases hp with rfl | rfl | rfl
      · exact ⟨_, by simp [bkTs, bkV, zipU], Le1.refl _⟩
      · exact ⟨_, by simp [bkTs, bkV, zipU], Le1.refl _⟩
      · exact ⟨_, by simp [bkTs, bkV, zipU], Le1.refl _⟩
theorem rblk4_eval (w b : List Int) : res ((funcL Try.prog qP (deep Try.prog qP hr4 100 3) bkΛ4 100 45 [.ptr false 0 0, .ints .u8 16 b] (tMem (.slice true 1 0 44 none 4) [.ints .i64 256 sboxL, .int false .i64 4] (.ints .i64 none w))).go []) =
    some ([true, decide (0 + 0 * 4 + 0 + 1 ≤ w.length), true, decide (0 + 0 * 4 + 1 + 1 ≤ w.length), true, decide (0 + 0 * 4 + 2 + 1 ≤ w.length), true, decide (0 + 0 * 4 + 3 + 1 ≤ w.length), true, decide (0 + 1 * 4 + 0 + 1 ≤ w.length), true, decide (0 + 1 * 4 + 1 + 1 ≤ w.length), true, decide (0 + 1 * 4 + 2 + 1 ≤ w.length), true, decide (0 + 1 * 4 + 3 + 1 ≤ w.length), true, decide (0 + 2 * 4 + 0 + 1 ≤ w.length), true, decide (0 + 2 * 4 + 1 + 1 ≤ w.length), true, decide (0 + 2 * 4 + 2 + 1 ≤ w.length), true, decide (0 + 2 * 4 + 3 + 1 ≤ w.length), true, decide (0 + 3 * 4 + 0 + 1 ≤ w.length), true, decide (0 + 3 * 4 + 1 + 1 ≤ w.length), true, decide (0 + 3 * 4 + 2 + 1 ≤ w.length), true, decide (0 + 3 * 4 + 3 + 1 ≤ w.length)] ++ [decide ((1 : Int) = 1), decide (startR w b = startR w b), decide (w.length = 4 * 44), w.all (inR .u8), decide (b.length = 16), b.all (inR .u8)], .ints .u8 16 (outR (encB w 10 b))) := by kernel_rfl
def bkP8 : List AV → Mem → Option BkS
  | [.ptr false 0 0, .ptr false 3 0, .ptr false 4 0, .ptr false 5 0, .int _ .i64 r], [some ⟨false, .wide [.slice true 1 0 60 none 4, .ints .i64 256 T, .int false .i64 8]⟩, some ⟨false, .ints .i64 none w⟩, some ⟨true, .ints .u8 (some 16) b⟩, some ⟨true, .ints .u8 (some 16) z⟩, some ⟨true, .ints .i64 (some 16) s⟩, some ⟨true, .ints .i64 (some 16) m⟩] => match decide (T = sboxL) && decide (m = mmL) with
    | true => some ⟨w, b, z, s, r⟩
    | false => none
  | _, _ => none
def bkO8 (s : BkS) : List Bool := [decide (s.r = 1), decide (s.s = startR s.w s.b), decide (s.w.length = 4 * 60), s.w.all (inR .u8), decide (s.b.length = 16), s.b.all (inR .u8)]
def bkF8 (s : BkS) : List (Nat × AV) × Mem := ([(0, .ptr false 0 0), (4, .ptr false 3 0), (5, .ptr false 4 0)], bkM8 { s with s := encB s.w 14 s.b })
def bkΛ8 : LoopH := famH 2 174 bkTs bkP8 bkO8 bkF8 fun _ _ => none
structure BkJ8 (s0 s : BkS) : Prop where
  hw : s.w = s0.w
  hb : s.b = s0.b
  hz : s.z = s0.z
  len : s0.w.length = 4 * 60
  w8 : ∀ x ∈ s0.w, B8 x
  b8 : Blk s0.b
  n : (∃ n : Nat, n + 1 ≤ 14 ∧ s.r = ((n + 1 : Nat) : Int) ∧ s.s = rndB s0.w n s0.b) ∨ (s.r = ((14 + 1 : Nat) : Int) ∧ s.s = encB s0.w 14 s0.b)
theorem bk8_lok : LOk Try.prog (bodyOf Try.prog 45) bkΛ8 := by
  refine fam_ok (q := qP) (n := 100) bkV bkM8 BkJ8 (fun s => 100 - s.r.toNat) mixed (hr4_ok.deep (q := qP) mixed noCount 100 3) LOk.none LOk.none (by kernel_rfl) (by kernel_rfl) (fun s => rfl) (fun s => rfl) (fun avs m s h ho => ?_) (fun s0 s hJ x => ?_)
  · unfold bkP8 at h
    split at h
    · rename_i s1 r T w b z s2 m
      split at h
      · rename_i hc
        simp only [Bool.and_eq_true, decide_eq_true_eq] at hc
        obtain ⟨rfl, rfl⟩ := hc
        cases h
        have o1 := of_decide_eq_true (ho _ (List.mem_cons_self ..))
        have o2 := of_decide_eq_true (ho _ (List.mem_cons_of_mem _ (List.mem_cons_self ..)))
        have o3 := of_decide_eq_true (ho _ (List.mem_cons_of_mem _ (List.mem_cons_of_mem _ (List.mem_cons_self ..))))
        have o4 := ho _ (List.mem_cons_of_mem _ (List.mem_cons_of_mem _ (List.mem_cons_of_mem _ (List.mem_cons_self ..))))
        have o5 := of_decide_eq_true (ho _ (List.mem_cons_of_mem _ (List.mem_cons_of_mem _ (List.mem_cons_of_mem _ (List.mem_cons_of_mem _ (List.mem_cons_self ..))))))
        have o6 := ho _ (List.mem_cons_of_mem _ (List.mem_cons_of_mem _ (List.mem_cons_of_mem _ (List.mem_cons_of_mem _ (List.mem_cons_of_mem _ (List.mem_cons_self ..))))))
        simp only at o1 o2 o3 o4 o5 o6
        have w8 : ∀ x ∈ w, B8 x := fun x hx => inR_b8 (List.all_eq_true.1 o4 x hx)
        have b8 : Blk b := ⟨o5, fun x hx => inR_b8 (List.all_eq_true.1 o6 x hx)⟩
        exact ⟨⟨w, b, z, s2, r⟩, .cons (.refl _) (.cons (.refl _) (.cons (.refl _) (.cons (.refl _) (.cons (.int _ _ _) .nil)))), rfl, ⟨rfl, rfl, rfl, o3, w8, b8, Or.inl ⟨0, by omega, o1, by rw [o2]; exact startR_eq w8 b8⟩⟩⟩
      · cases h
    · cases h
  · obtain ⟨hw, hb, hz, len, w8, b8, hn⟩ := hJ
    obtain ⟨w, b, z, s, r⟩ := s
    obtain ⟨w0, b0, z0, s0, r0⟩ := s0
    simp only at hw hb hz len w8 b8 hn
    subst hw hb hz
    have etop : IntKind.i64.wrap (8 + 6) = 14 := by decide
    rcases hn with ⟨n, hn1, hr, hs⟩ | ⟨hr, hs⟩
    · have hB : Blk s := by rw [hs]; exact rndB_blk _ _ _
      subst hr
      obtain ⟨s0, s1, s2, s3, s4, s5, s6, s7, s8, s9, s10, s11, s12, s13, s14, s15, rfl⟩ := len16 hB.1
      have M := fun x hx => hB.2 x hx
      have h0 := M s0 (by simp)
      have h1 := M s1 (by simp)
      have h2 := M s2 (by simp)
      have h3 := M s3 (by simp)
      have h4 := M s4 (by simp)
      have h5 := M s5 (by simp)
      have h6 := M s6 (by simp)
      have h7 := M s7 (by simp)
      have h8 := M s8 (by simp)
      have h9 := M s9 (by simp)
      have h10 := M s10 (by simp)
      have h11 := M s11 (by simp)
      have h12 := M s12 (by simp)
      have h13 := M s13 (by simp)
      have h14 := M s14 (by simp)
      have h15 := M s15 (by simp)
      have ew : IntKind.i64.wrap (((n + 1 : Nat) : Int) + 1) = ((n + 1 + 1 : Nat) : Int) := by rw [w64i (by omega)]; omega
      have top : decide (((n + 1 : Nat) : Int) ≤ IntKind.i64.wrap (8 + 6)) = true := decide_eq_true (by rw [etop]; omega)
      have sd := subD_ok h0 h1 h2 h3 h4 h5 h6 h7 h8 h9 h10 h11 h12 h13 h14 h15
      by_cases hl : n + 1 = 14
      · have key := bk8_l x w b z ((n + 1 : Nat) : Int) s0 s1 s2 s3 s4 s5 s6 s7 s8 s9 s10 s11 s12 s13 s14 s15
        have e := lastR_eq w8 (n := n + 1) (by omega) h0 h1 h2 h3 h4 h5 h6 h7 h8 h9 h10 h11 h12 h13 h14 h15
        rw [hs] at e
        rw [e, ew] at key
        refine Round.on key ⟨w, b, z, encB w 14 b, ((n + 1 + 1 : Nat) : Int)⟩ [some ⟨true, .ints .i64 (some 16) (tR s0 s1 s2 s3 s4 s5 s6 s7 s8 s9 s10 s11 s12 s13 s14 s15)⟩] ?_ ?_ (LeL.refl _) ⟨rfl, rfl, rfl, len, w8, b8, Or.inr ⟨by rw [hl], rfl⟩⟩ rfl (by simp only; omega)
        · obtain rfl : n = 13 := by omega
          rfl
        · exact paid_append.2 ⟨paid_append.2 ⟨paid_cons top Paid.nil, sd⟩, lastD_ok (n := n + 1) (by omega) (by omega) len (decide_eq_false (by rw [etop]; omega))⟩
      · have key := bk8_m x w b z ((n + 1 : Nat) : Int) s0 s1 s2 s3 s4 s5 s6 s7 s8 s9 s10 s11 s12 s13 s14 s15
        have e := mixR_eq w8 (n := n + 1) (by omega) h0 h1 h2 h3 h4 h5 h6 h7 h8 h9 h10 h11 h12 h13 h14 h15
        rw [hs] at e
        rw [e, ew] at key
        refine Round.on key ⟨w, b, z, rndB w (n + 1) b, ((n + 1 + 1 : Nat) : Int)⟩ [some ⟨true, .ints .i64 (some 16) (tR s0 s1 s2 s3 s4 s5 s6 s7 s8 s9 s10 s11 s12 s13 s14 s15)⟩] rfl ?_ (LeL.refl _) ⟨rfl, rfl, rfl, len, w8, b8, Or.inl ⟨n + 1, by omega, rfl, rfl⟩⟩ rfl (by simp only; omega)
        exact paid_append.2 ⟨paid_append.2 ⟨paid_cons top Paid.nil, sd⟩, mixD_ok (n := n + 1) (by omega) (by omega) len (decide_eq_true (by rw [etop]; omega)) h0 h1 h2 h3 h4 h5 h6 h7 h8 h9 h10 h11 h12 h13 h14 h15⟩
    · subst hr hs
      refine Round.out (bk8_o x _) rfl rfl (paid_cons (by simp only [etop]; decide) Paid.nil) fun p hp => ?_
      simp only [bkF8, List.mem_cons, List.not_mem_nil, or_false] at hp
      rcases hp with rfl | rfl | rfl
      · exact ⟨_, by simp [bkTs, bkV, zipU], Le1.refl _⟩
      · exact ⟨_, by simp [bkTs, bkV, zipU], Le1.refl _⟩
      · exact ⟨_, by simp [bkTs, bkV, zipU], Le1.refl _⟩
theorem rblk8_eval (w b : List Int) : res ((funcL Try.prog qP (deep Try.prog qP hr4 100 3) bkΛ8 100 45 [.ptr false 0 0, .ints .u8 16 b] (tMem (.slice true 1 0 60 none 4) [.ints .i64 256 sboxL, .int false .i64 8] (.ints .i64 none w))).go []) =
    some ([true, decide (0 + 0 * 4 + 0 + 1 ≤ w.length), true, decide (0 + 0 * 4 + 1 + 1 ≤ w.length), true, decide (0 + 0 * 4 + 2 + 1 ≤ w.length), true, decide (0 + 0 * 4 + 3 + 1 ≤ w.length), true, decide (0 + 1 * 4 + 0 + 1 ≤ w.length), true, decide (0 + 1 * 4 + 1 + 1 ≤ w.length), true, decide (0 + 1 * 4 + 2 + 1 ≤ w.length), true, decide (0 + 1 * 4 + 3 + 1 ≤ w.length), true, decide (0 + 2 * 4 + 0 + 1 ≤ w.length), true, decide (0 + 2 * 4 + 1 + 1 ≤ w.length), true, decide (0 + 2 * 4 + 2 + 1 ≤ w.length), true, decide (0 + 2 * 4 + 3 + 1 ≤ w.length), true, decide (0 + 3 * 4 + 0 + 1 ≤ w.length), true, decide (0 + 3 * 4 + 1 + 1 ≤ w.length), true, decide (0 + 3 * 4 + 2 + 1 ≤ w.length), true, decide (0 + 3 * 4 + 3 + 1 ≤ w.length)] ++ [decide ((1 : Int) = 1), decide (startR w b = startR w b), decide (w.length = 4 * 60), w.all (inR .u8), decide (b.length = 16), b.all (inR .u8)], .ints .u8 16 (outR (encB w 14 b))) := by kernel_rfl
def rblkS : AV → List AV → Cells → List AV → E AV
  | .slice true 1 0 44 none 4, [.ints .i64 256 T, .int false .i64 4], .ints .i64 none w, [.ints .u8 16 b] => match decide (T = sboxL) with
    | true => some ([decide (w.length = 4 * 44), w.all (inR .u8)], .ints .u8 16 (encB w 10 b))
    | false => none
  | .slice true 1 0 60 none 4, [.ints .i64 256 T, .int false .i64 8], .ints .i64 none w, [.ints .u8 16 b] => match decide (T = sboxL) with
    | true => some ([decide (w.length = 4 * 60), w.all (inR .u8)], .ints .u8 16 (encB w 14 b))
    | false => none
  | _, _, _, _ => none
theorem wd_ok {w : List Int} {K : Nat} (hK : 16 ≤ K) (hw : w.length = 4 * K) : Paid [true, decide (0 + 0 * 4 + 0 + 1 ≤ w.length), true, decide (0 + 0 * 4 + 1 + 1 ≤ w.length), true, decide (0 + 0 * 4 + 2 + 1 ≤ w.length), true, decide (0 + 0 * 4 + 3 + 1 ≤ w.length), true, decide (0 + 1 * 4 + 0 + 1 ≤ w.length), true, decide (0 + 1 * 4 + 1 + 1 ≤ w.length), true, decide (0 + 1 * 4 + 2 + 1 ≤ w.length), true, decide (0 + 1 * 4 + 3 + 1 ≤ w.length), true, decide (0 + 2 * 4 + 0 + 1 ≤ w.length), true, decide (0 + 2 * 4 + 1 + 1 ≤ w.length), true, decide (0 + 2 * 4 + 2 + 1 ≤ w.length), true, decide (0 + 2 * 4 + 3 + 1 ≤ w.length), true, decide (0 + 3 * 4 + 0 + 1 ≤ w.length), true, decide (0 + 3 * 4 + 1 + 1 ≤ w.length), true, decide (0 + 3 * 4 + 2 + 1 ≤ w.length), true, decide (0 + 3 * 4 + 3 + 1 ≤ w.length)] := by
  have d : ∀ k, k < 64 → decide (k + 1 ≤ w.length) = true := fun k hk => decide_eq_true (by omega)
  exact paid_cons rfl (paid_cons (d (0 + 0 * 4 + 0) (by omega)) (paid_cons rfl (paid_cons (d (0 + 0 * 4 + 1) (by omega)) (paid_cons rfl (paid_cons (d (0 + 0 * 4 + 2) (by omega)) (paid_cons rfl (paid_cons (d (0 + 0 * 4 + 3) (by omega)) (paid_cons rfl (paid_cons (d (0 + 1 * 4 + 0) (by omega)) (paid_cons rfl (paid_cons (d (0 + 1 * 4 + 1) (by omega)) (paid_cons rfl (paid_cons (d (0 + 1 * 4 + 2) (by omega)) (paid_cons rfl (paid_cons (d (0 + 1 * 4 + 3) (by omega)) (paid_cons rfl (paid_cons (d (0 + 2 * 4 + 0) (by omega)) (paid_cons rfl (paid_cons (d (0 + 2 * 4 + 1) (by omega)) (paid_cons rfl (paid_cons (d (0 + 2 * 4 + 2) (by omega)) (paid_cons rfl (paid_cons (d (0 + 2 * 4 + 3) (by omega)) (paid_cons rfl (paid_cons (d (0 + 3 * 4 + 0) (by omega)) (paid_cons rfl (paid_cons (d (0 + 3 * 4 + 1) (by omega)) (paid_cons rfl (paid_cons (d (0 + 3 * 4 + 2) (by omega)) (paid_cons rfl (paid_cons (d (0 + 3 * 4 + 3) (by omega)) (Paid.nil))))))))))))))))))))))))))))))))
theorem rblk_ok {sl : AV} {r : List AV} {d : Cells} {ys : List AV} {o : List Bool} {v : AV} (h : rblkS sl r d ys = some (o, v)) (ho : Paid o) : TCall Try.prog 45 sl r d ys v := by
  unfold rblkS at h
  split at h
  · rename_i T w b
    split at h
    · rename_i hT
      obtain rfl := of_decide_eq_true hT
      cases h
      have o1 := of_decide_eq_true (ho _ (List.mem_cons_self ..))
      have o2 := ho _ (List.mem_cons_of_mem _ (List.mem_cons_self ..))
      intro ρ vs W ha hi
      have hb : Blk b := by
        cases ha with
        | cons _ _ _ _ r1 hb => cases hb with
          | cons _ _ _ _ r2 hb => cases r2 with
            | ints _ _ _ hn hl => exact ⟨hn, fun x hx => inR_b8 (hl x hx)⟩
      exact tcall_of mixed noCount (hr4_ok.deep (q := qP) mixed noCount 100 3) (fun fn c hf hb => by rw [bodyOf_eq hf hb]; exact bk4_lok) [] (rblk4_eval w b) (paid_append.2 ⟨wd_ok (K := 44) (by omega) o1, paid_cons rfl (paid_cons (decide_eq_true rfl) (paid_cons (decide_eq_true o1) (paid_cons o2 (paid_cons (decide_eq_true hb.1) (paid_cons (List.all_eq_true.2 fun x hx => b8_inR (hb.2 x hx)) Paid.nil)))))⟩) (by rw [outR_eq (show Blk (encB w 10 b) from addB_blk _ _ _)]) (by rfl) ha hi
    · cases h
  · rename_i T w b
    split at h
    · rename_i hT
      obtain rfl := of_decide_eq_true hT
      cases h
      have o1 := of_decide_eq_true (ho _ (List.mem_cons_self ..))
      have o2 := ho _ (List.mem_cons_of_mem _ (List.mem_cons_self ..))
      intro ρ vs W ha hi
      have hb : Blk b := by
        cases ha with
        | cons _ _ _ _ r1 hb => cases hb with
          | cons _ _ _ _ r2 hb => cases r2 with
            | ints _ _ _ hn hl => exact ⟨hn, fun x hx => inR_b8 (hl x hx)⟩
      exact tcall_of mixed noCount (hr4_ok.deep (q := qP) mixed noCount 100 3) (fun fn c hf hb => by rw [bodyOf_eq hf hb]; exact bk8_lok) [] (rblk8_eval w b) (paid_append.2 ⟨wd_ok (K := 60) (by omega) o1, paid_cons rfl (paid_cons (decide_eq_true rfl) (paid_cons (decide_eq_true o1) (paid_cons o2 (paid_cons (decide_eq_true hb.1) (paid_cons (List.all_eq_true.2 fun x hx => b8_inR (hb.2 x hx)) Paid.nil)))))⟩) (by rw [outR_eq (show Blk (encB w 14 b) from addB_blk _ _ _)]) (by rfl) ha hi
    · cases h
  · cases h
end Go.Proofs.Ytfmgodgakndjcaa
namespace Go.As
open Go.Ev Go.Sh
theorem addB_app {w z : List Int} {n : Nat} {b : List Int} (h : 16 * n + 16 ≤ w.length) : addB (w ++ z) n b = addB w n b := by
  unfold addB
  refine List.map_congr_left fun i hi => ?_
  have := List.mem_range.1 hi
  have e : (w ++ z).getD (16 * n + i) 0 = w.getD (16 * n + i) 0 := by rw [List.getD, List.getD, List.getElem?_append_left (by omega)]
  rw [e]
theorem rndB_app {w z b : List Int} : ∀ {n : Nat}, 16 * n + 16 ≤ w.length → rndB (w ++ z) n b = rndB w n b
  | 0, h => addB_app h
  | n + 1, h => by
    unfold rndB
    rw [addB_app (by omega), rndB_app (by omega)]
theorem encB_app {w z b : List Int} {r : Nat} (hr : 1 ≤ r) (h : 16 * r + 16 ≤ w.length) : encB (w ++ z) r b = encB w r b := by
  unfold encB
  rw [addB_app h, rndB_app (by omega)]
theorem enc_same {N : Nat} (hN : N = 4 ∨ N = 8) {l : List Int} (hll : l.length = 4 * N) (hl : ∀ x ∈ l, B8 x) (b : List Int) : encB (keyL N l) (N + 6) b = encB (specW N l (4 * (N + 7))) (N + 6) b := by
  unfold keyL
  rw [(key_spec hN hll hl _ (Nat.le_refl _)).1, show N + (3 * N + 28) = 4 * (N + 7) by omega]
  exact encB_app (by omega) (by rw [specW_len]; omega)
end Go.As
