/- Bytes as polynomials, and the block cipher of layer 5, in numbers. Own work. -/
import Derived.Test.YtljndahfackolaaQShaN
import Derived.Test.YtljndahfackolaaQTab0
import Derived.Test.YtljndahfackolaaQEvFam
import Derived.Test.YtljndahfackolaaRows
set_option linter.unusedSimpArgs false
set_option linter.unusedVariables false
set_option linter.unusedSectionVars false
namespace Go.As
open Go.Ev Go.Sh
def sboxL : List Int := [99, 124, 119, 123, 242, 107, 111, 197, 48, 1, 103, 43, 254, 215, 171, 118, 202, 130, 201, 125, 250, 89, 71, 240, 173, 212, 162, 175, 156, 164, 114, 192, 183, 253, 147, 38, 54, 63, 247, 204, 52, 165, 229, 241, 113, 216, 49, 21, 4, 199, 35, 195, 24, 150, 5, 154, 7, 18, 128, 226, 235, 39, 178, 117, 9, 131, 44, 26, 27, 110, 90, 160, 82, 59, 214, 179, 41, 227, 47, 132, 83, 209, 0, 237, 32, 252, 177, 91, 106, 203, 190, 57, 74, 76, 88, 207, 208, 239, 170, 251, 67, 77, 51, 133, 69, 249, 2, 127, 80, 60, 159, 168, 81, 163, 64, 143, 146, 157, 56, 245, 188, 182, 218, 33, 16, 255, 243, 210, 205, 12, 19, 236, 95, 151, 68, 23, 196, 167, 126, 61, 100, 93, 25, 115, 96, 129, 79, 220, 34, 42, 144, 136, 70, 238, 184, 20, 222, 94, 11, 219, 224, 50, 58, 10, 73, 6, 36, 92, 194, 211, 172, 98, 145, 149, 228, 121, 231, 200, 55, 109, 141, 213, 78, 169, 108, 86, 244, 234, 101, 122, 174, 8, 186, 120, 37, 46, 28, 166, 180, 198, 232, 221, 116, 31, 75, 189, 139, 138, 112, 62, 181, 102, 72, 3, 246, 14, 97, 53, 87, 185, 134, 193, 29, 158, 225, 248, 152, 17, 105, 217, 142, 148, 155, 30, 135, 233, 206, 85, 40, 223, 140, 161, 137, 13, 191, 230, 66, 104, 65, 153, 45, 15, 176, 84, 187, 22]
def invL : List Int := [82, 9, 106, 213, 48, 54, 165, 56, 191, 64, 163, 158, 129, 243, 215, 251, 124, 227, 57, 130, 155, 47, 255, 135, 52, 142, 67, 68, 196, 222, 233, 203, 84, 123, 148, 50, 166, 194, 35, 61, 238, 76, 149, 11, 66, 250, 195, 78, 8, 46, 161, 102, 40, 217, 36, 178, 118, 91, 162, 73, 109, 139, 209, 37, 114, 248, 246, 100, 134, 104, 152, 22, 212, 164, 92, 204, 93, 101, 182, 146, 108, 112, 72, 80, 253, 237, 185, 218, 94, 21, 70, 87, 167, 141, 157, 132, 144, 216, 171, 0, 140, 188, 211, 10, 247, 228, 88, 5, 184, 179, 69, 6, 208, 44, 30, 143, 202, 63, 15, 2, 193, 175, 189, 3, 1, 19, 138, 107, 58, 145, 17, 65, 79, 103, 220, 234, 151, 242, 207, 206, 240, 180, 230, 115, 150, 172, 116, 34, 231, 173, 53, 133, 226, 249, 55, 232, 28, 117, 223, 110, 71, 241, 26, 113, 29, 41, 197, 137, 111, 183, 98, 14, 170, 24, 190, 27, 252, 86, 62, 75, 198, 210, 121, 32, 154, 219, 192, 254, 120, 205, 90, 244, 31, 221, 168, 51, 136, 7, 199, 49, 177, 18, 16, 89, 39, 128, 236, 95, 96, 81, 127, 169, 25, 181, 74, 13, 45, 229, 122, 159, 147, 201, 156, 239, 160, 224, 59, 77, 174, 42, 245, 176, 200, 235, 187, 60, 131, 83, 153, 97, 23, 43, 4, 126, 186, 119, 214, 38, 225, 105, 20, 99, 85, 33, 12, 125]
def sb (x : Int) : Int := sboxL.getD x.toNat 0
/-- What holds of each of the bytes. -/
theorem byte_all {p : Nat → Bool} (h : (List.range 256).all p = true) {x : Int} (hx : B8 x) : p x.toNat = true :=
  List.all_eq_true.1 h _ (List.mem_range.2 (by unfold B8 at hx; omega))
theorem b8_nat {x : Int} (hx : B8 x) : ((x.toNat : Nat) : Int) = x := by unfold B8 at hx; omega
theorem b8_wd {x : Int} (hx : B8 x) : Wd 8 x := by unfold B8 at hx; unfold Wd; omega
theorem wd_b8 {x : Int} (hx : Wd 8 x) : B8 x := by unfold B8; unfold Wd at hx; omega
theorem sb_tab : (List.range 256).all (fun n => decide (0 ≤ sboxL.getD n 0) && decide (sboxL.getD n 0 < 256) && decide (invL.getD (sboxL.getD n 0).toNat 0 = (n : Int))) = true := by kernel_rfl
theorem sb_b8 {x : Int} (hx : B8 x) : B8 (sb x) := by
  have h := byte_all sb_tab hx
  simp only [Bool.and_eq_true, decide_eq_true_eq] at h
  exact ⟨h.1.1, h.1.2⟩
theorem sb_inj {x y : Int} (hx : B8 x) (hy : B8 y) (h : sb x = sb y) : x = y := by
  have h1 := byte_all sb_tab hx
  have h2 := byte_all sb_tab hy
  simp only [Bool.and_eq_true, decide_eq_true_eq] at h1 h2
  have e1 : invL.getD (sb x).toNat 0 = x := by rw [← b8_nat hx]; unfold sb; rw [Int.toNat_natCast]; exact h1.2
  have e2 : invL.getD (sb y).toNat 0 = y := by rw [← b8_nat hy]; unfold sb; rw [Int.toNat_natCast]; exact h2.2
  rw [← e1, ← e2, h]
/- sums -/
theorem ix_nat (x y : Int) : (ix x y).toNat = x.toNat ^^^ y.toNat := by unfold ix; rw [Int.toNat_natCast]
theorem ix_assoc (x y z : Int) : ix (ix x y) z = ix x (ix y z) := by
  have h : (ix (ix x y) z).toNat = (ix x (ix y z)).toNat := by simp only [ix_nat, Nat.xor_assoc]
  unfold ix at h ⊢; omega
theorem ix_comm (x y : Int) : ix x y = ix y x := by unfold ix; rw [Nat.xor_comm]
theorem ix_left (x y z : Int) : ix x (ix y z) = ix y (ix x z) := by rw [← ix_assoc, ix_comm x y, ix_assoc]
theorem ix_self (x : Int) : ix x x = 0 := by unfold ix; rw [Nat.xor_self]; rfl
theorem ix_zero (x y : Int) : ix 0 (ix x y) = ix x y := by unfold ix; simp
theorem ix_two (x y z : Int) : ix x (ix x (ix y z)) = ix y z := by rw [← ix_assoc, ix_self, ix_zero]
theorem ix_z {x : Int} (h : 0 ≤ x) : ix 0 x = x := by unfold ix; simp; omega
theorem ix_z' {x : Int} (h : 0 ≤ x) : ix x 0 = x := by rw [ix_comm]; exact ix_z h
theorem ix_can {x y : Int} (h : 0 ≤ y) : ix x (ix x y) = y := by rw [← ix_assoc, ix_self, ix_z h]
theorem ix_b8 {x y : Int} (hx : B8 x) (hy : B8 y) : B8 (ix x y) := wd_b8 (ix_wd (b8_wd hx) (b8_wd hy))
theorem ixor_b {x y : Int} (hx : B8 x) (hy : B8 y) : ixor .u8 x y = ix x y := ixor_ix (k := .u8) rfl (b8_wd hx) (b8_wd hy)
/- times x -/
def dN (n : Nat) : Nat := (2 * n % 256) ^^^ (n / 128 % 2 * 27)
def dI (x : Int) : Int := ((dN x.toNat : Nat) : Int)
theorem dN_mod (n : Nat) : dN n = dN (n % 256) := by
  unfold dN
  rw [show 2 * n % 256 = 2 * (n % 256) % 256 by omega, show n / 128 % 2 = n % 256 / 128 % 2 by omega]
theorem dN_tab : ((List.range 256).all fun x => (List.range 256).all fun y => Nat.beq (dN (x ^^^ y)) (dN x ^^^ dN y)) = true := by kernel_rfl
theorem dN_xor (x y : Nat) : dN (x ^^^ y) = dN x ^^^ dN y := by
  rw [dN_mod (x ^^^ y), dN_mod x, dN_mod y, show (256 : Nat) = 2 ^ 8 from rfl, Nat.xor_mod_two_pow]
  have h1 := List.all_eq_true.1 dN_tab (x % 256) (List.mem_range.2 (by omega))
  exact Nat.eq_of_beq_eq_true (List.all_eq_true.1 h1 (y % 256) (List.mem_range.2 (by omega)))
theorem dI_ix (x y : Int) : dI (ix x y) = ix (dI x) (dI y) := by
  unfold dI; rw [ix_nat, dN_xor]; unfold ix; rw [Int.toNat_natCast, Int.toNat_natCast]
def dP (b : Int) : Int := ixor .u8 (ishl .u8 b 1) (IntKind.u8.wrap (ishr .u8 b 7 * 27))
theorem dP_tab : (List.range 256).all (fun n => decide (dP (n : Int) = dI (n : Int)) && decide (dI (n : Int) < 256)) = true := by kernel_rfl
theorem dP_eq {x : Int} (hx : B8 x) : dP x = dI x ∧ B8 (dI x) := by
  have h := byte_all dP_tab hx
  rw [b8_nat hx] at h
  simp only [Bool.and_eq_true, decide_eq_true_eq] at h
  exact ⟨h.1, by unfold dI; omega, h.2⟩
/- a column -/
def all4 (p q r s : Int) : Int := ixor .u8 (ixor .u8 (ixor .u8 p q) r) s
def mixC (p q r s : Int) : List Int := [ixor .u8 p (ixor .u8 (all4 p q r s) (dP (ixor .u8 p q))), ixor .u8 q (ixor .u8 (all4 p q r s) (dP (ixor .u8 q r))), ixor .u8 r (ixor .u8 (all4 p q r s) (dP (ixor .u8 r s))), ixor .u8 s (ixor .u8 (all4 p q r s) (dP (ixor .u8 s p)))]
/-- One of a column: 2a + 3b + c + d. -/
def mx (a b c d : Int) : Int := ix (dI a) (ix (dI b) (ix b (ix c d)))
theorem mx_b8 {a b c d : Int} (ha : B8 a) (hb : B8 b) (hc : B8 c) (hd : B8 d) : B8 (mx a b c d) := ix_b8 (dP_eq ha).2 (ix_b8 (dP_eq hb).2 (ix_b8 hb (ix_b8 hc hd)))
theorem mix_one {x a b c d : Int} {e : Int} (hx : B8 x) (hy : B8 a) (he : e = ix x (ix a (ix c d))) (ha : B8 e) (hc : B8 c) (hd : B8 d) (hb : b = a) : ixor .u8 x (ixor .u8 e (dP (ixor .u8 x b))) = mx x b c d := by
  subst hb he
  rw [ixor_b hx hy, (dP_eq (ix_b8 hx hy)).1, dI_ix, ixor_b ha (ix_b8 (dP_eq hx).2 (dP_eq hy).2), ixor_b hx (ix_b8 ha (ix_b8 (dP_eq hx).2 (dP_eq hy).2))]
  unfold mx
  have h : ix x (ix (ix x (ix b (ix c d))) (ix (dI x) (dI b))) = ix (ix b (ix c d)) (ix (dI x) (dI b)) := by
    rw [ix_assoc x, ix_can (by unfold ix; omega)]
  rw [h]
  simp only [ix_assoc, ix_comm, ix_left]
theorem mixC_eq {p q r s : Int} (hp : B8 p) (hq : B8 q) (hr : B8 r) (hs : B8 s) : mixC p q r s = [mx p q r s, mx q r s p, mx r s p q, mx s p q r] := by
  have e : all4 p q r s = ix p (ix q (ix r s)) := by
    unfold all4
    rw [ixor_b hp hq, ixor_b (ix_b8 hp hq) hr, ixor_b (ix_b8 (ix_b8 hp hq) hr) hs, ix_assoc, ix_assoc]
  have he : B8 (ix p (ix q (ix r s))) := ix_b8 hp (ix_b8 hq (ix_b8 hr hs))
  unfold mixC
  rw [e, mix_one hp hq rfl he hr hs rfl, mix_one hq hr (by simp only [ix_assoc, ix_comm, ix_left]) he hs hp rfl, mix_one hr hs (by simp only [ix_assoc, ix_comm, ix_left]) he hp hq rfl, mix_one hs hp (by simp only [ix_assoc, ix_comm, ix_left]) he hq hr rfl]
/-- Twice. -/
theorem mx_two (a b c d : Int) : mx (mx a b c d) (mx b c d a) (mx c d a b) (mx d a b c) = ix a (ix (dI (dI a)) (ix 0 (dI (dI c)))) := by
  unfold mx
  simp only [dI_ix]
  generalize dI (dI a) = aa
  generalize dI (dI b) = bb
  generalize dI (dI c) = cc
  generalize dI (dI d) = dd
  generalize dI a = a1
  generalize dI b = b1
  generalize dI c = c1
  generalize dI d = d1
  have h : ∀ x y : Int, (ix x y : Int) = ((x.toNat ^^^ y.toNat : Nat) : Int) := fun _ _ => rfl
  simp only [h, Int.toNat_natCast, Int.toNat_zero, Nat.zero_xor]
  congr 1
  generalize a.toNat = a, b.toNat = b, c.toNat = c, d.toNat = d, aa.toNat = aa, bb.toNat = bb, cc.toNat = cc, dd.toNat = dd, a1.toNat = a1, b1.toNat = b1, c1.toNat = c1, d1.toNat = d1
  apply Nat.eq_of_testBit_eq
  intro i
  simp only [Nat.testBit_xor]
  generalize a.testBit i = q0, b.testBit i = q1, c.testBit i = q2, d.testBit i = q3, aa.testBit i = q4, bb.testBit i = q5, cc.testBit i = q6, dd.testBit i = q7, a1.testBit i = q8, b1.testBit i = q9, c1.testBit i = q10, d1.testBit i = q11
  revert q0 q1 q2 q3 q4 q5 q6 q7 q8 q9 q10 q11
  decide +kernel
end Go.As
namespace Go.As
open Go.Ev Go.Sh
/- lists of bytes -/
def subB (b : List Int) : List Int := (List.range 16).map fun i => sb (b.getD (5 * i % 16) 0)
def mixB (b : List Int) : List Int := mixC (b.getD 0 0) (b.getD 1 0) (b.getD 2 0) (b.getD 3 0) ++ mixC (b.getD 4 0) (b.getD 5 0) (b.getD 6 0) (b.getD 7 0) ++ mixC (b.getD 8 0) (b.getD 9 0) (b.getD 10 0) (b.getD 11 0) ++ mixC (b.getD 12 0) (b.getD 13 0) (b.getD 14 0) (b.getD 15 0)
def addB (W : List Int) (n : Nat) (b : List Int) : List Int := (List.range 16).map fun i => ixor .u8 (b.getD i 0) (W.getD (16 * n + i) 0)
def subW (t : List Int) : List Int := [sb (t.getD 0 0), sb (t.getD 1 0), sb (t.getD 2 0), sb (t.getD 3 0)]
def sumW (v w : List Int) : List Int := [ixor .u8 (v.getD 0 0) (w.getD 0 0), ixor .u8 (v.getD 1 0) (w.getD 1 0), ixor .u8 (v.getD 2 0) (w.getD 2 0), ixor .u8 (v.getD 3 0) (w.getD 3 0)]
theorem len4 {l : List Int} (h : l.length = 4) : ∃ a b c d, l = [a, b, c, d] := by
  match l, h with
  | [a, b, c, d], _ => exact ⟨a, b, c, d, rfl⟩
theorem len16 {l : List Int} (h : l.length = 16) : ∃ a0 a1 a2 a3 a4 a5 a6 a7 a8 a9 a10 a11 a12 a13 a14 a15, l = [a0, a1, a2, a3, a4, a5, a6, a7, a8, a9, a10, a11, a12, a13, a14, a15] := by
  match l, h with
  | [a0, a1, a2, a3, a4, a5, a6, a7, a8, a9, a10, a11, a12, a13, a14, a15], _ => exact ⟨a0, a1, a2, a3, a4, a5, a6, a7, a8, a9, a10, a11, a12, a13, a14, a15, rfl⟩
end Go.As
namespace Go.Proofs.Ytljndahfackolaa
open Go.Ev Go.Sh Go.As
set_option maxRecDepth 100000
theorem mixed : Try.prog.follows .mixedOrders = true := by kernel_rfl
theorem noCount : Go.Ev.noCount Try.prog = true := by kernel_rfl
def qP (f : FuncId) : Bool := !Nat.beq f 1000000000
def a0 : CallH := fun _ _ _ => none
theorem a0_ok : HOk Try.prog a0 := HOk.none
theorem inR_b8 {x : Int} (h : inR .u8 x = true) : B8 x := by rw [inR_iff] at h; simp only [lo, hi] at h; unfold B8; omega
theorem b8_inR {x : Int} (h : B8 x) : inR .u8 x = true := by rw [inR_iff]; simp only [lo, hi]; unfold B8 at h; omega

-- substitution
def sbS : List AV → E AV
  | [.int _ .u8 x] => some ([], .int true .u8 (sb x))
  | _ => none
theorem sb_eval (x : Int) : res (funcA Try.prog qP a0 100 39 [.int true .u8 x] []) = some ([decide (0 ≤ x) && decide (x < ((256 : Nat) : Int))], .int true .u8 (sb x)) := by kernel_rfl
theorem sb_ok {args : List AV} {o : List Bool} {v : AV} (h : sbS args = some (o, v)) : PureCall Try.prog 39 args v := by
  unfold sbS at h
  split at h
  · rename_i s x
    cases h
    intro ρ N vs ha
    cases ha with
    | cons _ _ _ _ r1 hb =>
      cases hb
      cases r1 with
      | int _ _ _ hr =>
        have hx := inR_b8 hr
        exact pure_of_res mixed noCount a0_ok (by rfl) (sb_eval x) (paid_cons (by unfold B8 at hx; simp; omega) Paid.nil) rfl (by rfl) (ρ := ρ) (N := N) (.cons _ _ _ _ (.int true .u8 x hr) .nil)
  · cases h
def ha1 : CallH := withC 39 sbS a0
theorem ha1_ok : HOk Try.prog ha1 := a0_ok.withC fun _ _ _ h _ => sb_ok h

-- words
def swS : List AV → E AV
  | [.ints .u8 4 t] => some ([], .ints .u8 4 (subW t))
  | _ => none
theorem sw_eval (a b c d : Int) : res (funcA Try.prog qP (deep Try.prog qP ha1 100 3) 100 28 [.ints .u8 4 [a, b, c, d]] []) = some ([], .ints .u8 4 [sb a, sb b, sb c, sb d]) := by kernel_rfl
theorem sw_ok {args : List AV} {o : List Bool} {v : AV} (h : swS args = some (o, v)) : PureCall Try.prog 28 args v := by
  unfold swS at h
  split at h
  · rename_i t
    cases h
    intro ρ N vs ha
    have hb := ha
    cases hb with
    | cons _ _ _ _ r1 hb =>
      cases r1 with
      | ints _ _ _ hn hl =>
        obtain ⟨a, b, c, d, rfl⟩ := len4 hn
        exact pure_of_res mixed noCount (ha1_ok.deep mixed noCount 100 3) (by rfl) (sw_eval a b c d) Paid.nil rfl (by rfl) ha
  · cases h
def suS : List AV → E AV
  | [.ints .u8 4 v, .ints .u8 4 w] => some ([], .ints .u8 4 (sumW v w))
  | _ => none
theorem su_eval (a b c d e f g h : Int) : res (funcA Try.prog qP (deep Try.prog qP ha1 100 3) 100 30 [.ints .u8 4 [a, b, c, d], .ints .u8 4 [e, f, g, h]] []) = some ([], .ints .u8 4 [ixor .u8 a e, ixor .u8 b f, ixor .u8 c g, ixor .u8 d h]) := by kernel_rfl
theorem su_ok {args : List AV} {o : List Bool} {v : AV} (h : suS args = some (o, v)) : PureCall Try.prog 30 args v := by
  unfold suS at h
  split at h
  · rename_i t u
    cases h
    intro ρ N vs ha
    have hb := ha
    cases hb with
    | cons _ _ _ _ r1 hb =>
      cases r1 with
      | ints _ _ _ hn hl =>
        cases hb with
        | cons _ _ _ _ r2 hb =>
          cases r2 with
          | ints _ _ _ hn2 hl2 =>
            obtain ⟨a, b, c, d, rfl⟩ := len4 hn
            obtain ⟨e, f, g, h, rfl⟩ := len4 hn2
            exact pure_of_res mixed noCount (ha1_ok.deep mixed noCount 100 3) (by rfl) (su_eval a b c d e f g h) Paid.nil rfl (by rfl) ha
  · cases h
def ha2 : CallH := withC 30 suS (withC 28 swS ha1)
theorem ha2_ok : HOk Try.prog ha2 := (ha1_ok.withC fun _ _ _ h _ => sw_ok h).withC fun _ _ _ h _ => su_ok h

-- blocks
def sbkS : List AV → E AV
  | [.ints .u8 16 b] => some ([], .ints .u8 16 (subB b))
  | _ => none
theorem sbk_eval (a0 a1 a2 a3 a4 a5 a6 a7 a8 a9 a10 a11 a12 a13 a14 a15 : Int) : res (funcA Try.prog qP (deep Try.prog qP ha2 100 3) 100 47 [.ints .u8 16 [a0, a1, a2, a3, a4, a5, a6, a7, a8, a9, a10, a11, a12, a13, a14, a15]] []) = some ([], .ints .u8 16 (subB [a0, a1, a2, a3, a4, a5, a6, a7, a8, a9, a10, a11, a12, a13, a14, a15])) := by kernel_rfl
theorem sbk_ok {args : List AV} {o : List Bool} {v : AV} (h : sbkS args = some (o, v)) : PureCall Try.prog 47 args v := by
  unfold sbkS at h
  split at h
  · rename_i t
    cases h
    intro ρ N vs ha
    have hb := ha
    cases hb with
    | cons _ _ _ _ r1 hb =>
      cases r1 with
      | ints _ _ _ hn hl =>
        obtain ⟨a0, a1, a2, a3, a4, a5, a6, a7, a8, a9, a10, a11, a12, a13, a14, a15, rfl⟩ := len16 hn
        exact pure_of_res mixed noCount (ha2_ok.deep mixed noCount 100 3) (by rfl) (sbk_eval a0 a1 a2 a3 a4 a5 a6 a7 a8 a9 a10 a11 a12 a13 a14 a15) Paid.nil rfl (by rfl) ha
  · cases h
def mxbS : List AV → E AV
  | [.ints .u8 16 b] => some ([], .ints .u8 16 (mixB b))
  | _ => none
theorem mxb_eval (a0 a1 a2 a3 a4 a5 a6 a7 a8 a9 a10 a11 a12 a13 a14 a15 : Int) : res (funcA Try.prog qP (deep Try.prog qP ha2 100 3) 100 46 [.ints .u8 16 [a0, a1, a2, a3, a4, a5, a6, a7, a8, a9, a10, a11, a12, a13, a14, a15]] []) = some ([], .ints .u8 16 (mixB [a0, a1, a2, a3, a4, a5, a6, a7, a8, a9, a10, a11, a12, a13, a14, a15])) := by kernel_rfl
theorem mxb_ok {args : List AV} {o : List Bool} {v : AV} (h : mxbS args = some (o, v)) : PureCall Try.prog 46 args v := by
  unfold mxbS at h
  split at h
  · rename_i t
    cases h
    intro ρ N vs ha
    have hb := ha
    cases hb with
    | cons _ _ _ _ r1 hb =>
      cases r1 with
      | ints _ _ _ hn hl =>
        obtain ⟨a0, a1, a2, a3, a4, a5, a6, a7, a8, a9, a10, a11, a12, a13, a14, a15, rfl⟩ := len16 hn
        exact pure_of_res mixed noCount (ha2_ok.deep mixed noCount 100 3) (by rfl) (mxb_eval a0 a1 a2 a3 a4 a5 a6 a7 a8 a9 a10 a11 a12 a13 a14 a15) Paid.nil rfl (by rfl) ha
  · cases h
def ha3 : CallH := withC 46 mxbS (withC 47 sbkS ha2)
theorem ha3_ok : HOk Try.prog ha3 := (ha2_ok.withC fun _ _ _ h _ => sbk_ok h).withC fun _ _ _ h _ => mxb_ok h
end Go.Proofs.Ytljndahfackolaa
