/- Bytes as polynomials, and the block cipher of layer 5, in numbers. Own work. -/
import Derived.Test.YtfmgodgakndjcaaSWordsN
import Derived.Test.YtfmgodgakndjcaaRows
set_option linter.unusedSimpArgs false
set_option linter.unusedVariables false
set_option linter.unusedSectionVars false
namespace Go.As
open Go.Ev Go.Sh
def sboxL : List Int := [99, 124, 119, 123, 242, 107, 111, 197, 48, 1, 103, 43, 254, 215, 171, 118, 202, 130, 201, 125, 250, 89, 71, 240, 173, 212, 162, 175, 156, 164, 114, 192, 183, 253, 147, 38, 54, 63, 247, 204, 52, 165, 229, 241, 113, 216, 49, 21, 4, 199, 35, 195, 24, 150, 5, 154, 7, 18, 128, 226, 235, 39, 178, 117, 9, 131, 44, 26, 27, 110, 90, 160, 82, 59, 214, 179, 41, 227, 47, 132, 83, 209, 0, 237, 32, 252, 177, 91, 106, 203, 190, 57, 74, 76, 88, 207, 208, 239, 170, 251, 67, 77, 51, 133, 69, 249, 2, 127, 80, 60, 159, 168, 81, 163, 64, 143, 146, 157, 56, 245, 188, 182, 218, 33, 16, 255, 243, 210, 205, 12, 19, 236, 95, 151, 68, 23, 196, 167, 126, 61, 100, 93, 25, 115, 96, 129, 79, 220, 34, 42, 144, 136, 70, 238, 184, 20, 222, 94, 11, 219, 224, 50, 58, 10, 73, 6, 36, 92, 194, 211, 172, 98, 145, 149, 228, 121, 231, 200, 55, 109, 141, 213, 78, 169, 108, 86, 244, 234, 101, 122, 174, 8, 186, 120, 37, 46, 28, 166, 180, 198, 232, 221, 116, 31, 75, 189, 139, 138, 112, 62, 181, 102, 72, 3, 246, 14, 97, 53, 87, 185, 134, 193, 29, 158, 225, 248, 152, 17, 105, 217, 142, 148, 155, 30, 135, 233, 206, 85, 40, 223, 140, 161, 137, 13, 191, 230, 66, 104, 65, 153, 45, 15, 176, 84, 187, 22]
def sb (x : Int) : Int := sboxL.getD x.toNat 0
/- sums -/
/- times x -/
def dN (n : Nat) : Nat := (2 * n % 256) ^^^ (n / 128 % 2 * 27)
def dI (x : Int) : Int := ((dN x.toNat : Nat) : Int)
def dP (b : Int) : Int := ixor .u8 (ishl .u8 b 1) (IntKind.u8.wrap (ishr .u8 b 7 * 27))
/- a column -/
def all4 (p q r s : Int) : Int := ixor .u8 (ixor .u8 (ixor .u8 p q) r) s
def mixC (p q r s : Int) : List Int := [ixor .u8 p (ixor .u8 (all4 p q r s) (dP (ixor .u8 p q))), ixor .u8 q (ixor .u8 (all4 p q r s) (dP (ixor .u8 q r))), ixor .u8 r (ixor .u8 (all4 p q r s) (dP (ixor .u8 r s))), ixor .u8 s (ixor .u8 (all4 p q r s) (dP (ixor .u8 s p)))]
/-- One of a column: 2a + 3b + c + d. -/
def mx (a b c d : Int) : Int := ix (dI a) (ix (dI b) (ix b (ix c d)))
end Go.As
namespace Go.As
open Go.Ev Go.Sh
/- lists of bytes -/
def subB (b : List Int) : List Int := (List.range 16).map fun i => sb (b.getD (5 * i % 16) 0)
def mixB (b : List Int) : List Int := mixC (b.getD 0 0) (b.getD 1 0) (b.getD 2 0) (b.getD 3 0) ++ mixC (b.getD 4 0) (b.getD 5 0) (b.getD 6 0) (b.getD 7 0) ++ mixC (b.getD 8 0) (b.getD 9 0) (b.getD 10 0) (b.getD 11 0) ++ mixC (b.getD 12 0) (b.getD 13 0) (b.getD 14 0) (b.getD 15 0)
def addB (W : List Int) (n : Nat) (b : List Int) : List Int := (List.range 16).map fun i => ixor .u8 (b.getD i 0) (W.getD (16 * n + i) 0)
def subW (t : List Int) : List Int := [sb (t.getD 0 0), sb (t.getD 1 0), sb (t.getD 2 0), sb (t.getD 3 0)]
def sumW (v w : List Int) : List Int := [ixor .u8 (v.getD 0 0) (w.getD 0 0), ixor .u8 (v.getD 1 0) (w.getD 1 0), ixor .u8 (v.getD 2 0) (w.getD 2 0), ixor .u8 (v.getD 3 0) (w.getD 3 0)]
theorem len4 {l : List Int} (h : l.length = 4) : ∃ a b c d, l = [a, b, c, d] := by
  match l, h with
  | [a, b, c, d], _ => exact ⟨a, b, c, d, rfl⟩
theorem len16 {l : List Int} (h : l.length = 16) : ∃ a0 a1 a2 a3 a4 a5 a6 a7 a8 a9 a10 a11 a12 a13 a14 a15, l = [a0, a1, a2, a3, a4, a5, a6, a7, a8, a9, a10, a11, a12, a13, a14, a15] := by
  match l, h with
  | [a0, a1, a2, a3, a4, a5, a6, a7, a8, a9, a10, a11, a12, a13, a14, a15], _ => exact ⟨a0, a1, a2, a3, a4, a5, a6, a7, a8, a9, a10, a11, a12, a13, a14, a15, rfl⟩
end Go.As
namespace Go.Proofs.Ytfmgodgakndjcaa
open Go.Ev Go.Sh Go.As
set_option maxRecDepth 100000
def a0 : CallH := fun _ _ _ => none
theorem a0_ok : HOk Try.prog a0 := HOk.none

-- substitution
def sbS : List AV → E AV
  | [.int _ .u8 x] => some ([], .int true .u8 (sb x))
  | _ => none
theorem sb_eval (x : Int) : res (funcA Try.prog qP a0 100 58 [.int true .u8 x] []) = some ([decide (0 ≤ x) && decide (x < ((256 : Nat) : Int))], .int true .u8 (sb x)) := by kernel_rfl
theorem sb_ok {args : List AV} {o : List Bool} {v : AV} (h : sbS args = some (o, v)) : PureCall Try.prog 58 args v := by
  unfold sbS at h
  split at h
  · rename_i s x
    cases h
    intro ρ N vs ha
    cases ha with
    | cons _ _ _ _ r1 hb =>
      cases hb
      cases r1 with
      | int _ _ _ hr =>
        have hx := inR_b8 hr
        exact pure_of_res mixed noCount a0_ok (by rfl) (sb_eval x) (paid_cons (by unfold B8 at hx; simp; omega) Paid.nil) rfl (by rfl) (ρ := ρ) (N := N) (.cons _ _ _ _ (.int true .u8 x hr) .nil)
  · cases h
def ha1 : CallH := withC 58 sbS a0
theorem ha1_ok : HOk Try.prog ha1 := a0_ok.withC fun _ _ _ h _ => sb_ok h

-- words
def swS : List AV → E AV
  | [.ints .u8 4 t] => some ([], .ints .u8 4 (subW t))
  | _ => none
theorem sw_eval (a b c d : Int) : res (funcA Try.prog qP (deep Try.prog qP ha1 100 3) 100 36 [.ints .u8 4 [a, b, c, d]] []) = some ([], .ints .u8 4 [sb a, sb b, sb c, sb d]) := by kernel_rfl
theorem sw_ok {args : List AV} {o : List Bool} {v : AV} (h : swS args = some (o, v)) : PureCall Try.prog 36 args v := by
  unfold swS at h
  split at h
  · rename_i t
    cases h
    intro ρ N vs ha
    have hb := ha
    cases hb with
    | cons _ _ _ _ r1 hb =>
      cases r1 with
      | ints _ _ _ hn hl =>
        obtain ⟨a, b, c, d, rfl⟩ := len4 hn
        exact pure_of_res mixed noCount (ha1_ok.deep mixed noCount 100 3) (by rfl) (sw_eval a b c d) Paid.nil rfl (by rfl) ha
  · cases h
def suS : List AV → E AV
  | [.ints .u8 4 v, .ints .u8 4 w] => some ([], .ints .u8 4 (sumW v w))
  | _ => none
theorem su_eval (a b c d e f g h : Int) : res (funcA Try.prog qP (deep Try.prog qP ha1 100 3) 100 38 [.ints .u8 4 [a, b, c, d], .ints .u8 4 [e, f, g, h]] []) = some ([], .ints .u8 4 [ixor .u8 a e, ixor .u8 b f, ixor .u8 c g, ixor .u8 d h]) := by kernel_rfl
theorem su_ok {args : List AV} {o : List Bool} {v : AV} (h : suS args = some (o, v)) : PureCall Try.prog 38 args v := by
  unfold suS at h
  split at h
  · rename_i t u
    cases h
    intro ρ N vs ha
    have hb := ha
    cases hb with
    | cons _ _ _ _ r1 hb =>
      cases r1 with
      | ints _ _ _ hn hl =>
        cases hb with
        | cons _ _ _ _ r2 hb =>
          cases r2 with
          | ints _ _ _ hn2 hl2 =>
            obtain ⟨a, b, c, d, rfl⟩ := len4 hn
            obtain ⟨e, f, g, h, rfl⟩ := len4 hn2
            exact pure_of_res mixed noCount (ha1_ok.deep mixed noCount 100 3) (by rfl) (su_eval a b c d e f g h) Paid.nil rfl (by rfl) ha
  · cases h
def ha2 : CallH := withC 38 suS (withC 36 swS ha1)
theorem ha2_ok : HOk Try.prog ha2 := (ha1_ok.withC fun _ _ _ h _ => sw_ok h).withC fun _ _ _ h _ => su_ok h

-- blocks
def sbkS : List AV → E AV
  | [.ints .u8 16 b] => some ([], .ints .u8 16 (subB b))
  | _ => none
theorem sbk_eval (a0 a1 a2 a3 a4 a5 a6 a7 a8 a9 a10 a11 a12 a13 a14 a15 : Int) : res (funcA Try.prog qP (deep Try.prog qP ha2 100 3) 100 85 [.ints .u8 16 [a0, a1, a2, a3, a4, a5, a6, a7, a8, a9, a10, a11, a12, a13, a14, a15]] []) = some ([], .ints .u8 16 (subB [a0, a1, a2, a3, a4, a5, a6, a7, a8, a9, a10, a11, a12, a13, a14, a15])) := by kernel_rfl
theorem sbk_ok {args : List AV} {o : List Bool} {v : AV} (h : sbkS args = some (o, v)) : PureCall Try.prog 85 args v := by
  unfold sbkS at h
  split at h
  · rename_i t
    cases h
    intro ρ N vs ha
    have hb := ha
    cases hb with
    | cons _ _ _ _ r1 hb =>
      cases r1 with
      | ints _ _ _ hn hl =>
        obtain ⟨a0, a1, a2, a3, a4, a5, a6, a7, a8, a9, a10, a11, a12, a13, a14, a15, rfl⟩ := len16 hn
        exact pure_of_res mixed noCount (ha2_ok.deep mixed noCount 100 3) (by rfl) (sbk_eval a0 a1 a2 a3 a4 a5 a6 a7 a8 a9 a10 a11 a12 a13 a14 a15) Paid.nil rfl (by rfl) ha
  · cases h
def mxbS : List AV → E AV
  | [.ints .u8 16 b] => some ([], .ints .u8 16 (mixB b))
  | _ => none
theorem mxb_eval (a0 a1 a2 a3 a4 a5 a6 a7 a8 a9 a10 a11 a12 a13 a14 a15 : Int) : res (funcA Try.prog qP (deep Try.prog qP ha2 100 3) 100 84 [.ints .u8 16 [a0, a1, a2, a3, a4, a5, a6, a7, a8, a9, a10, a11, a12, a13, a14, a15]] []) = some ([], .ints .u8 16 (mixB [a0, a1, a2, a3, a4, a5, a6, a7, a8, a9, a10, a11, a12, a13, a14, a15])) := by kernel_rfl
theorem mxb_ok {args : List AV} {o : List Bool} {v : AV} (h : mxbS args = some (o, v)) : PureCall Try.prog 84 args v := by
  unfold mxbS at h
  split at h
  · rename_i t
    cases h
    intro ρ N vs ha
    have hb := ha
    cases hb with
    | cons _ _ _ _ r1 hb =>
      cases r1 with
      | ints _ _ _ hn hl =>
        obtain ⟨a0, a1, a2, a3, a4, a5, a6, a7, a8, a9, a10, a11, a12, a13, a14, a15, rfl⟩ := len16 hn
        exact pure_of_res mixed noCount (ha2_ok.deep mixed noCount 100 3) (by rfl) (mxb_eval a0 a1 a2 a3 a4 a5 a6 a7 a8 a9 a10 a11 a12 a13 a14 a15) Paid.nil rfl (by rfl) ha
  · cases h
def ha3 : CallH := withC 84 mxbS (withC 85 sbkS ha2)
theorem ha3_ok : HOk Try.prog ha3 := (ha2_ok.withC fun _ _ _ h _ => sbk_ok h).withC fun _ _ _ h _ => mxb_ok h
end Go.Proofs.Ytfmgodgakndjcaa
namespace Go.As
open Go.Ev Go.Sh
def rndB (W : List Int) : Nat → List Int → List Int
  | 0, b => addB W 0 b
  | n + 1, b => addB W (n + 1) (mixB (subB (rndB W n b)))
def encB (W : List Int) (r : Nat) (b : List Int) : List Int := addB W r (subB (rndB W (r - 1) b))
end Go.As
namespace Go.Proofs.Ytfmgodgakndjcaa
open Go.Ev Go.Sh Go.As
set_option maxRecDepth 100000
theorem add0_eval (s : Bool) (W : List Int) (r a0 a1 a2 a3 a4 a5 a6 a7 a8 a9 a10 a11 a12 a13 a14 a15 : Int) : res (funcA Try.prog qP (deep Try.prog qP ha3 100 3) 100 83 (cArgs 0 [.pt (.wide [.int s .i64 r, .ints .u8 240 W]), .pl (.ints .u8 16 [a0, a1, a2, a3, a4, a5, a6, a7, a8, a9, a10, a11, a12, a13, a14, a15]), .pl (.int false .i64 0)]) (cMem [.pt (.wide [.int s .i64 r, .ints .u8 240 W]), .pl (.ints .u8 16 [a0, a1, a2, a3, a4, a5, a6, a7, a8, a9, a10, a11, a12, a13, a14, a15]), .pl (.int false .i64 0)])) = some ([], .ints .u8 16 (addB W 0 [a0, a1, a2, a3, a4, a5, a6, a7, a8, a9, a10, a11, a12, a13, a14, a15])) := by kernel_rfl
theorem add1_eval (s : Bool) (W : List Int) (r a0 a1 a2 a3 a4 a5 a6 a7 a8 a9 a10 a11 a12 a13 a14 a15 : Int) : res (funcA Try.prog qP (deep Try.prog qP ha3 100 3) 100 83 (cArgs 0 [.pt (.wide [.int s .i64 r, .ints .u8 240 W]), .pl (.ints .u8 16 [a0, a1, a2, a3, a4, a5, a6, a7, a8, a9, a10, a11, a12, a13, a14, a15]), .pl (.int false .i64 1)]) (cMem [.pt (.wide [.int s .i64 r, .ints .u8 240 W]), .pl (.ints .u8 16 [a0, a1, a2, a3, a4, a5, a6, a7, a8, a9, a10, a11, a12, a13, a14, a15]), .pl (.int false .i64 1)])) = some ([], .ints .u8 16 (addB W 1 [a0, a1, a2, a3, a4, a5, a6, a7, a8, a9, a10, a11, a12, a13, a14, a15])) := by kernel_rfl
theorem add2_eval (s : Bool) (W : List Int) (r a0 a1 a2 a3 a4 a5 a6 a7 a8 a9 a10 a11 a12 a13 a14 a15 : Int) : res (funcA Try.prog qP (deep Try.prog qP ha3 100 3) 100 83 (cArgs 0 [.pt (.wide [.int s .i64 r, .ints .u8 240 W]), .pl (.ints .u8 16 [a0, a1, a2, a3, a4, a5, a6, a7, a8, a9, a10, a11, a12, a13, a14, a15]), .pl (.int false .i64 2)]) (cMem [.pt (.wide [.int s .i64 r, .ints .u8 240 W]), .pl (.ints .u8 16 [a0, a1, a2, a3, a4, a5, a6, a7, a8, a9, a10, a11, a12, a13, a14, a15]), .pl (.int false .i64 2)])) = some ([], .ints .u8 16 (addB W 2 [a0, a1, a2, a3, a4, a5, a6, a7, a8, a9, a10, a11, a12, a13, a14, a15])) := by kernel_rfl
theorem add3_eval (s : Bool) (W : List Int) (r a0 a1 a2 a3 a4 a5 a6 a7 a8 a9 a10 a11 a12 a13 a14 a15 : Int) : res (funcA Try.prog qP (deep Try.prog qP ha3 100 3) 100 83 (cArgs 0 [.pt (.wide [.int s .i64 r, .ints .u8 240 W]), .pl (.ints .u8 16 [a0, a1, a2, a3, a4, a5, a6, a7, a8, a9, a10, a11, a12, a13, a14, a15]), .pl (.int false .i64 3)]) (cMem [.pt (.wide [.int s .i64 r, .ints .u8 240 W]), .pl (.ints .u8 16 [a0, a1, a2, a3, a4, a5, a6, a7, a8, a9, a10, a11, a12, a13, a14, a15]), .pl (.int false .i64 3)])) = some ([], .ints .u8 16 (addB W 3 [a0, a1, a2, a3, a4, a5, a6, a7, a8, a9, a10, a11, a12, a13, a14, a15])) := by kernel_rfl
theorem add4_eval (s : Bool) (W : List Int) (r a0 a1 a2 a3 a4 a5 a6 a7 a8 a9 a10 a11 a12 a13 a14 a15 : Int) : res (funcA Try.prog qP (deep Try.prog qP ha3 100 3) 100 83 (cArgs 0 [.pt (.wide [.int s .i64 r, .ints .u8 240 W]), .pl (.ints .u8 16 [a0, a1, a2, a3, a4, a5, a6, a7, a8, a9, a10, a11, a12, a13, a14, a15]), .pl (.int false .i64 4)]) (cMem [.pt (.wide [.int s .i64 r, .ints .u8 240 W]), .pl (.ints .u8 16 [a0, a1, a2, a3, a4, a5, a6, a7, a8, a9, a10, a11, a12, a13, a14, a15]), .pl (.int false .i64 4)])) = some ([], .ints .u8 16 (addB W 4 [a0, a1, a2, a3, a4, a5, a6, a7, a8, a9, a10, a11, a12, a13, a14, a15])) := by kernel_rfl
theorem add5_eval (s : Bool) (W : List Int) (r a0 a1 a2 a3 a4 a5 a6 a7 a8 a9 a10 a11 a12 a13 a14 a15 : Int) : res (funcA Try.prog qP (deep Try.prog qP ha3 100 3) 100 83 (cArgs 0 [.pt (.wide [.int s .i64 r, .ints .u8 240 W]), .pl (.ints .u8 16 [a0, a1, a2, a3, a4, a5, a6, a7, a8, a9, a10, a11, a12, a13, a14, a15]), .pl (.int false .i64 5)]) (cMem [.pt (.wide [.int s .i64 r, .ints .u8 240 W]), .pl (.ints .u8 16 [a0, a1, a2, a3, a4, a5, a6, a7, a8, a9, a10, a11, a12, a13, a14, a15]), .pl (.int false .i64 5)])) = some ([], .ints .u8 16 (addB W 5 [a0, a1, a2, a3, a4, a5, a6, a7, a8, a9, a10, a11, a12, a13, a14, a15])) := by kernel_rfl
theorem add6_eval (s : Bool) (W : List Int) (r a0 a1 a2 a3 a4 a5 a6 a7 a8 a9 a10 a11 a12 a13 a14 a15 : Int) : res (funcA Try.prog qP (deep Try.prog qP ha3 100 3) 100 83 (cArgs 0 [.pt (.wide [.int s .i64 r, .ints .u8 240 W]), .pl (.ints .u8 16 [a0, a1, a2, a3, a4, a5, a6, a7, a8, a9, a10, a11, a12, a13, a14, a15]), .pl (.int false .i64 6)]) (cMem [.pt (.wide [.int s .i64 r, .ints .u8 240 W]), .pl (.ints .u8 16 [a0, a1, a2, a3, a4, a5, a6, a7, a8, a9, a10, a11, a12, a13, a14, a15]), .pl (.int false .i64 6)])) = some ([], .ints .u8 16 (addB W 6 [a0, a1, a2, a3, a4, a5, a6, a7, a8, a9, a10, a11, a12, a13, a14, a15])) := by kernel_rfl
theorem add7_eval (s : Bool) (W : List Int) (r a0 a1 a2 a3 a4 a5 a6 a7 a8 a9 a10 a11 a12 a13 a14 a15 : Int) : res (funcA Try.prog qP (deep Try.prog qP ha3 100 3) 100 83 (cArgs 0 [.pt (.wide [.int s .i64 r, .ints .u8 240 W]), .pl (.ints .u8 16 [a0, a1, a2, a3, a4, a5, a6, a7, a8, a9, a10, a11, a12, a13, a14, a15]), .pl (.int false .i64 7)]) (cMem [.pt (.wide [.int s .i64 r, .ints .u8 240 W]), .pl (.ints .u8 16 [a0, a1, a2, a3, a4, a5, a6, a7, a8, a9, a10, a11, a12, a13, a14, a15]), .pl (.int false .i64 7)])) = some ([], .ints .u8 16 (addB W 7 [a0, a1, a2, a3, a4, a5, a6, a7, a8, a9, a10, a11, a12, a13, a14, a15])) := by kernel_rfl
theorem add8_eval (s : Bool) (W : List Int) (r a0 a1 a2 a3 a4 a5 a6 a7 a8 a9 a10 a11 a12 a13 a14 a15 : Int) : res (funcA Try.prog qP (deep Try.prog qP ha3 100 3) 100 83 (cArgs 0 [.pt (.wide [.int s .i64 r, .ints .u8 240 W]), .pl (.ints .u8 16 [a0, a1, a2, a3, a4, a5, a6, a7, a8, a9, a10, a11, a12, a13, a14, a15]), .pl (.int false .i64 8)]) (cMem [.pt (.wide [.int s .i64 r, .ints .u8 240 W]), .pl (.ints .u8 16 [a0, a1, a2, a3, a4, a5, a6, a7, a8, a9, a10, a11, a12, a13, a14, a15]), .pl (.int false .i64 8)])) = some ([], .ints .u8 16 (addB W 8 [a0, a1, a2, a3, a4, a5, a6, a7, a8, a9, a10, a11, a12, a13, a14, a15])) := by kernel_rfl
theorem add9_eval (s : Bool) (W : List Int) (r a0 a1 a2 a3 a4 a5 a6 a7 a8 a9 a10 a11 a12 a13 a14 a15 : Int) : res (funcA Try.prog qP (deep Try.prog qP ha3 100 3) 100 83 (cArgs 0 [.pt (.wide [.int s .i64 r, .ints .u8 240 W]), .pl (.ints .u8 16 [a0, a1, a2, a3, a4, a5, a6, a7, a8, a9, a10, a11, a12, a13, a14, a15]), .pl (.int false .i64 9)]) (cMem [.pt (.wide [.int s .i64 r, .ints .u8 240 W]), .pl (.ints .u8 16 [a0, a1, a2, a3, a4, a5, a6, a7, a8, a9, a10, a11, a12, a13, a14, a15]), .pl (.int false .i64 9)])) = some ([], .ints .u8 16 (addB W 9 [a0, a1, a2, a3, a4, a5, a6, a7, a8, a9, a10, a11, a12, a13, a14, a15])) := by kernel_rfl
theorem add10_eval (s : Bool) (W : List Int) (r a0 a1 a2 a3 a4 a5 a6 a7 a8 a9 a10 a11 a12 a13 a14 a15 : Int) : res (funcA Try.prog qP (deep Try.prog qP ha3 100 3) 100 83 (cArgs 0 [.pt (.wide [.int s .i64 r, .ints .u8 240 W]), .pl (.ints .u8 16 [a0, a1, a2, a3, a4, a5, a6, a7, a8, a9, a10, a11, a12, a13, a14, a15]), .pl (.int false .i64 10)]) (cMem [.pt (.wide [.int s .i64 r, .ints .u8 240 W]), .pl (.ints .u8 16 [a0, a1, a2, a3, a4, a5, a6, a7, a8, a9, a10, a11, a12, a13, a14, a15]), .pl (.int false .i64 10)])) = some ([], .ints .u8 16 (addB W 10 [a0, a1, a2, a3, a4, a5, a6, a7, a8, a9, a10, a11, a12, a13, a14, a15])) := by kernel_rfl
theorem add11_eval (s : Bool) (W : List Int) (r a0 a1 a2 a3 a4 a5 a6 a7 a8 a9 a10 a11 a12 a13 a14 a15 : Int) : res (funcA Try.prog qP (deep Try.prog qP ha3 100 3) 100 83 (cArgs 0 [.pt (.wide [.int s .i64 r, .ints .u8 240 W]), .pl (.ints .u8 16 [a0, a1, a2, a3, a4, a5, a6, a7, a8, a9, a10, a11, a12, a13, a14, a15]), .pl (.int false .i64 11)]) (cMem [.pt (.wide [.int s .i64 r, .ints .u8 240 W]), .pl (.ints .u8 16 [a0, a1, a2, a3, a4, a5, a6, a7, a8, a9, a10, a11, a12, a13, a14, a15]), .pl (.int false .i64 11)])) = some ([], .ints .u8 16 (addB W 11 [a0, a1, a2, a3, a4, a5, a6, a7, a8, a9, a10, a11, a12, a13, a14, a15])) := by kernel_rfl
theorem add12_eval (s : Bool) (W : List Int) (r a0 a1 a2 a3 a4 a5 a6 a7 a8 a9 a10 a11 a12 a13 a14 a15 : Int) : res (funcA Try.prog qP (deep Try.prog qP ha3 100 3) 100 83 (cArgs 0 [.pt (.wide [.int s .i64 r, .ints .u8 240 W]), .pl (.ints .u8 16 [a0, a1, a2, a3, a4, a5, a6, a7, a8, a9, a10, a11, a12, a13, a14, a15]), .pl (.int false .i64 12)]) (cMem [.pt (.wide [.int s .i64 r, .ints .u8 240 W]), .pl (.ints .u8 16 [a0, a1, a2, a3, a4, a5, a6, a7, a8, a9, a10, a11, a12, a13, a14, a15]), .pl (.int false .i64 12)])) = some ([], .ints .u8 16 (addB W 12 [a0, a1, a2, a3, a4, a5, a6, a7, a8, a9, a10, a11, a12, a13, a14, a15])) := by kernel_rfl
theorem add13_eval (s : Bool) (W : List Int) (r a0 a1 a2 a3 a4 a5 a6 a7 a8 a9 a10 a11 a12 a13 a14 a15 : Int) : res (funcA Try.prog qP (deep Try.prog qP ha3 100 3) 100 83 (cArgs 0 [.pt (.wide [.int s .i64 r, .ints .u8 240 W]), .pl (.ints .u8 16 [a0, a1, a2, a3, a4, a5, a6, a7, a8, a9, a10, a11, a12, a13, a14, a15]), .pl (.int false .i64 13)]) (cMem [.pt (.wide [.int s .i64 r, .ints .u8 240 W]), .pl (.ints .u8 16 [a0, a1, a2, a3, a4, a5, a6, a7, a8, a9, a10, a11, a12, a13, a14, a15]), .pl (.int false .i64 13)])) = some ([], .ints .u8 16 (addB W 13 [a0, a1, a2, a3, a4, a5, a6, a7, a8, a9, a10, a11, a12, a13, a14, a15])) := by kernel_rfl
theorem add14_eval (s : Bool) (W : List Int) (r a0 a1 a2 a3 a4 a5 a6 a7 a8 a9 a10 a11 a12 a13 a14 a15 : Int) : res (funcA Try.prog qP (deep Try.prog qP ha3 100 3) 100 83 (cArgs 0 [.pt (.wide [.int s .i64 r, .ints .u8 240 W]), .pl (.ints .u8 16 [a0, a1, a2, a3, a4, a5, a6, a7, a8, a9, a10, a11, a12, a13, a14, a15]), .pl (.int false .i64 14)]) (cMem [.pt (.wide [.int s .i64 r, .ints .u8 240 W]), .pl (.ints .u8 16 [a0, a1, a2, a3, a4, a5, a6, a7, a8, a9, a10, a11, a12, a13, a14, a15]), .pl (.int false .i64 14)])) = some ([], .ints .u8 16 (addB W 14 [a0, a1, a2, a3, a4, a5, a6, a7, a8, a9, a10, a11, a12, a13, a14, a15])) := by kernel_rfl
def addS : List V → E (AV × Mem)
  | [.pt (.wide [.int _ .i64 _, .ints .u8 240 W]), .pl (.ints .u8 16 b), .pl (.int false .i64 n)] => match decide (0 ≤ n) && decide (n < 15) with
    | true => some ([], (.ints .u8 16 (addB W n.toNat b), []))
    | false => none
  | _ => none
theorem pl_arg {ρ : Nat → Loc3} {N : Nat → Prop} {xs : List V} {vs : List Value} (ha : Reps ρ N (cArgs 0 xs) vs) (i : Nat) {k : IntKind} {n : Nat} {l : List Int} (hx : (cArgs 0 xs)[i]? = some (.ints k n l)) : l.length = n ∧ ∀ x ∈ l, inR k x = true := by
  obtain ⟨v, h1, h2⟩ := Reps.get i _ ha hx
  cases h2 with
  | ints _ _ _ h3 h4 => exact ⟨h3, h4⟩
theorem add_ok {xs : List V} {o : List Bool} {v : AV} {bs : Mem} (h : addS xs = some (o, (v, bs))) : ViewCall Try.prog 83 xs v bs := by
  unfold addS at h
  split at h
  · rename_i s r W b n
    split at h
    · rename_i hn
      simp only [Bool.and_eq_true, decide_eq_true_eq] at hn
      cases h
      intro ρ vs w ha hi
      obtain ⟨hl, _⟩ := pl_arg ha 1 rfl
      obtain ⟨a0, a1, a2, a3, a4, a5, a6, a7, a8, a9, a10, a11, a12, a13, a14, a15, rfl⟩ := len16 hl
      obtain ⟨m, rfl⟩ := Int.eq_ofNat_of_zero_le hn.1
      have hm : m < 15 := by omega
      have e : m = 0 ∨ m = 1 ∨ m = 2 ∨ m = 3 ∨ m = 4 ∨ m = 5 ∨ m = 6 ∨ m = 7 ∨ m = 8 ∨ m = 9 ∨ m = 10 ∨ m = 11 ∨ m = 12 ∨ m = 13 ∨ m = 14 := by omega
      rcases e with rfl | rfl | rfl | rfl | rfl | rfl | rfl | rfl | rfl | rfl | rfl | rfl | rfl | rfl | rfl
      · exact view_of_res mixed noCount (ha3_ok.deep mixed noCount 100 3) (add0_eval s W r a0 a1 a2 a3 a4 a5 a6 a7 a8 a9 a10 a11 a12 a13 a14 a15) Paid.nil rfl (by rfl) ha hi
      · exact view_of_res mixed noCount (ha3_ok.deep mixed noCount 100 3) (add1_eval s W r a0 a1 a2 a3 a4 a5 a6 a7 a8 a9 a10 a11 a12 a13 a14 a15) Paid.nil rfl (by rfl) ha hi
      · exact view_of_res mixed noCount (ha3_ok.deep mixed noCount 100 3) (add2_eval s W r a0 a1 a2 a3 a4 a5 a6 a7 a8 a9 a10 a11 a12 a13 a14 a15) Paid.nil rfl (by rfl) ha hi
      · exact view_of_res mixed noCount (ha3_ok.deep mixed noCount 100 3) (add3_eval s W r a0 a1 a2 a3 a4 a5 a6 a7 a8 a9 a10 a11 a12 a13 a14 a15) Paid.nil rfl (by rfl) ha hi
      · exact view_of_res mixed noCount (ha3_ok.deep mixed noCount 100 3) (add4_eval s W r a0 a1 a2 a3 a4 a5 a6 a7 a8 a9 a10 a11 a12 a13 a14 a15) Paid.nil rfl (by rfl) ha hi
      · exact view_of_res mixed noCount (ha3_ok.deep mixed noCount 100 3) (add5_eval s W r a0 a1 a2 a3 a4 a5 a6 a7 a8 a9 a10 a11 a12 a13 a14 a15) Paid.nil rfl (by rfl) ha hi
      · exact view_of_res mixed noCount (ha3_ok.deep mixed noCount 100 3) (add6_eval s W r a0 a1 a2 a3 a4 a5 a6 a7 a8 a9 a10 a11 a12 a13 a14 a15) Paid.nil rfl (by rfl) ha hi
      · exact view_of_res mixed noCount (ha3_ok.deep mixed noCount 100 3) (add7_eval s W r a0 a1 a2 a3 a4 a5 a6 a7 a8 a9 a10 a11 a12 a13 a14 a15) Paid.nil rfl (by rfl) ha hi
      · exact view_of_res mixed noCount (ha3_ok.deep mixed noCount 100 3) (add8_eval s W r a0 a1 a2 a3 a4 a5 a6 a7 a8 a9 a10 a11 a12 a13 a14 a15) Paid.nil rfl (by rfl) ha hi
      · exact view_of_res mixed noCount (ha3_ok.deep mixed noCount 100 3) (add9_eval s W r a0 a1 a2 a3 a4 a5 a6 a7 a8 a9 a10 a11 a12 a13 a14 a15) Paid.nil rfl (by rfl) ha hi
      · exact view_of_res mixed noCount (ha3_ok.deep mixed noCount 100 3) (add10_eval s W r a0 a1 a2 a3 a4 a5 a6 a7 a8 a9 a10 a11 a12 a13 a14 a15) Paid.nil rfl (by rfl) ha hi
      · exact view_of_res mixed noCount (ha3_ok.deep mixed noCount 100 3) (add11_eval s W r a0 a1 a2 a3 a4 a5 a6 a7 a8 a9 a10 a11 a12 a13 a14 a15) Paid.nil rfl (by rfl) ha hi
      · exact view_of_res mixed noCount (ha3_ok.deep mixed noCount 100 3) (add12_eval s W r a0 a1 a2 a3 a4 a5 a6 a7 a8 a9 a10 a11 a12 a13 a14 a15) Paid.nil rfl (by rfl) ha hi
      · exact view_of_res mixed noCount (ha3_ok.deep mixed noCount 100 3) (add13_eval s W r a0 a1 a2 a3 a4 a5 a6 a7 a8 a9 a10 a11 a12 a13 a14 a15) Paid.nil rfl (by rfl) ha hi
      · exact view_of_res mixed noCount (ha3_ok.deep mixed noCount 100 3) (add14_eval s W r a0 a1 a2 a3 a4 a5 a6 a7 a8 a9 a10 a11 a12 a13 a14 a15) Paid.nil rfl (by rfl) ha hi
    · cases h
  · cases h
def ha4 : CallH := withV 83 addS ha3
theorem ha4_ok : HOk Try.prog ha4 := ha3_ok.withV fun _ _ _ _ h _ => add_ok h
theorem blk10_eval (W b : List Int) : res (funcA Try.prog qP (deep Try.prog qP ha4 100 3) 100 62 (cArgs 0 [.pt (.wide [.int false .i64 10, .ints .u8 240 W]), .pl (.ints .u8 16 b)]) (cMem [.pt (.wide [.int false .i64 10, .ints .u8 240 W]), .pl (.ints .u8 16 b)])) = some ([], .ints .u8 16 (encB W 10 b)) := by kernel_rfl
theorem blk14_eval (W b : List Int) : res (funcA Try.prog qP (deep Try.prog qP ha4 100 3) 100 62 (cArgs 0 [.pt (.wide [.int false .i64 14, .ints .u8 240 W]), .pl (.ints .u8 16 b)]) (cMem [.pt (.wide [.int false .i64 14, .ints .u8 240 W]), .pl (.ints .u8 16 b)])) = some ([], .ints .u8 16 (encB W 14 b)) := by kernel_rfl
theorem blkn_eval (b : List Int) : res (funcA Try.prog qP (deep Try.prog qP ha4 100 3) 100 62 (cArgs 0 [.pl .nilptr, .pl (.ints .u8 16 b)]) (cMem [.pl .nilptr, .pl (.ints .u8 16 b)])) = some ([], .ints .u8 16 (List.replicate 16 0)) := by kernel_rfl
def blkS : List V → E (AV × Mem)
  | [.pt (.wide [.int false .i64 10, .ints .u8 240 W]), .pl (.ints .u8 16 b)] => some ([], (.ints .u8 16 (encB W 10 b), []))
  | [.pt (.wide [.int false .i64 14, .ints .u8 240 W]), .pl (.ints .u8 16 b)] => some ([], (.ints .u8 16 (encB W 14 b), []))
  | [.pl .nilptr, .pl (.ints .u8 16 _)] => some ([], (.ints .u8 16 (List.replicate 16 0), []))
  | _ => none
theorem blk_ok {xs : List V} {o : List Bool} {v : AV} {bs : Mem} (h : blkS xs = some (o, (v, bs))) : ViewCall Try.prog 62 xs v bs := by
  unfold blkS at h
  split at h
  · rename_i W b
    cases h
    intro ρ vs w ha hi
    exact view_of_res mixed noCount (ha4_ok.deep mixed noCount 100 3) (blk10_eval W b) Paid.nil rfl (by rfl) ha hi
  · rename_i W b
    cases h
    intro ρ vs w ha hi
    exact view_of_res mixed noCount (ha4_ok.deep mixed noCount 100 3) (blk14_eval W b) Paid.nil rfl (by rfl) ha hi
  · rename_i b
    cases h
    intro ρ vs w ha hi
    exact view_of_res mixed noCount (ha4_ok.deep mixed noCount 100 3) (blkn_eval b) Paid.nil rfl (by rfl) ha hi
  · cases h
def ha5 : CallH := withV 62 blkS ha4
theorem ha5_ok : HOk Try.prog ha5 := ha4_ok.withV fun _ _ _ _ h _ => blk_ok h
end Go.Proofs.Ytfmgodgakndjcaa
namespace Go.As
open Go.Ev Go.Sh
def pK (i d : Int) : Nat := (IntKind.i64.wrap (i - d)).toNat
/-- Word j of a key's words. -/
def wd4 (W : List Int) (j : Nat) : List Int := (W.drop (j * 4)).take 4
def turnW (v : List Int) : List Int := [v.getD 1 0, v.getD 2 0, v.getD 3 0, v.getD 0 0]
def headW (v : List Int) (p : Int) : List Int := (subW (turnW v)).set 0 (ixor .u8 ((subW (turnW v)).getD 0 0) p)
def moreW (N : Nat) (v : List Int) (i : Nat) (p : Int) : List Int := if i % N = 0 then headW v p else if i % N = 4 then subW v else v
def putW4 (W : List Int) (i : Nat) (x : List Int) : List Int := W.take (i * 4) ++ x ++ W.drop (i * 4 + 4)
def stepW (N : Nat) (W : List Int) (i : Nat) (p : Int) : List Int := putW4 W i (sumW (wd4 W (i - N)) (moreW N (wd4 W (i - 1)) i p))
def keyG (N : Nat) (l : List Int) : Nat → List Int × Int
  | 0 => ((List.range (4 * N)).map (fun i => l.getD i 0) ++ List.replicate (240 - 4 * N) 0, 1)
  | k + 1 => (stepW N (keyG N l k).1 (N + k) (keyG N l k).2, if (N + k) % N = 0 then dP (keyG N l k).2 else (keyG N l k).2)
def keyL (N : Nat) (l : List Int) : List Int := (keyG N l (3 * N + 28)).1
def keyC (N : Nat) (W : List Int) : Cells := .wide [.int false .i64 ((N : Int) + 6), .ints .u8 240 W]
end Go.As
