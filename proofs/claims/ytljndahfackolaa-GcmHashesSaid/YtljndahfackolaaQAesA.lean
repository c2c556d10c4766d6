/- The program's block cipher: contracts of its small functions. Own work. -/
import Derived.Test.YtljndahfackolaaQTab0
import Derived.Test.YtljndahfackolaaQEvFam
import Derived.Test.YtljndahfackolaaQAesM
import Derived.Test.YtljndahfackolaaRows
set_option linter.unusedSimpArgs false
set_option linter.unusedVariables false
set_option linter.unusedSectionVars false
namespace Go.As
open Go.Ev Go.Sh
/- lists of bytes -/
def subB (b : List Int) : List Int := (List.range 16).map fun i => sb (b.getD (5 * i % 16) 0)
def mixB (b : List Int) : List Int := mixC (b.getD 0 0) (b.getD 1 0) (b.getD 2 0) (b.getD 3 0) ++ mixC (b.getD 4 0) (b.getD 5 0) (b.getD 6 0) (b.getD 7 0) ++ mixC (b.getD 8 0) (b.getD 9 0) (b.getD 10 0) (b.getD 11 0) ++ mixC (b.getD 12 0) (b.getD 13 0) (b.getD 14 0) (b.getD 15 0)
def addB (W : List Int) (n : Nat) (b : List Int) : List Int := (List.range 16).map fun i => ixor .u8 (b.getD i 0) (W.getD (16 * n + i) 0)
def subW (t : List Int) : List Int := [sb (t.getD 0 0), sb (t.getD 1 0), sb (t.getD 2 0), sb (t.getD 3 0)]
def sumW (v w : List Int) : List Int := [ixor .u8 (v.getD 0 0) (w.getD 0 0), ixor .u8 (v.getD 1 0) (w.getD 1 0), ixor .u8 (v.getD 2 0) (w.getD 2 0), ixor .u8 (v.getD 3 0) (w.getD 3 0)]
theorem len4 {l : List Int} (h : l.length = 4) : ∃ a b c d, l = [a, b, c, d] := by
  match l, h with
  | [a, b, c, d], _ => exact ⟨a, b, c, d, rfl⟩
theorem len16 {l : List Int} (h : l.length = 16) : ∃ a0 a1 a2 a3 a4 a5 a6 a7 a8 a9 a10 a11 a12 a13 a14 a15, l = [a0, a1, a2, a3, a4, a5, a6, a7, a8, a9, a10, a11, a12, a13, a14, a15] := by
  match l, h with
  | [a0, a1, a2, a3, a4, a5, a6, a7, a8, a9, a10, a11, a12, a13, a14, a15], _ => exact ⟨a0, a1, a2, a3, a4, a5, a6, a7, a8, a9, a10, a11, a12, a13, a14, a15, rfl⟩
end Go.As
namespace Go.Proofs.Ytljndahfackolaa
open Go.Ev Go.Sh Go.As
set_option maxRecDepth 100000
theorem mixed : Try.prog.follows .mixedOrders = true := by kernel_rfl
theorem noCount : Go.Ev.noCount Try.prog = true := by kernel_rfl
def qP (f : FuncId) : Bool := !Nat.beq f 1000000000
def a0 : CallH := fun _ _ _ => none
theorem a0_ok : HOk Try.prog a0 := HOk.none
theorem inR_b8 {x : Int} (h : inR .u8 x = true) : B8 x := by rw [inR_iff] at h; simp only [lo, hi] at h; unfold B8; omega
theorem b8_inR {x : Int} (h : B8 x) : inR .u8 x = true := by rw [inR_iff]; simp only [lo, hi]; unfold B8 at h; omega

-- substitution
def sbS : List AV → E AV
  | [.int _ .u8 x] => some ([], .int true .u8 (sb x))
  | _ => none
theorem sb_eval (x : Int) : res (funcA Try.prog qP a0 100 39 [.int true .u8 x] []) = some ([decide (0 ≤ x) && decide (x < ((256 : Nat) : Int))], .int true .u8 (sb x)) := by kernel_rfl
theorem sb_ok {args : List AV} {o : List Bool} {v : AV} (h : sbS args = some (o, v)) : PureCall Try.prog 39 args v := by
  unfold sbS at h
  split at h
  · rename_i s x
    cases h
    intro ρ N vs ha
    cases ha with
    | cons _ _ _ _ r1 hb =>
      cases hb
      cases r1 with
      | int _ _ _ hr =>
        have hx := inR_b8 hr
        exact pure_of_res mixed noCount a0_ok (by rfl) (sb_eval x) (paid_cons (by unfold B8 at hx; simp; omega) Paid.nil) rfl (by rfl) (ρ := ρ) (N := N) (.cons _ _ _ _ (.int true .u8 x hr) .nil)
  · cases h
def ha1 : CallH := withC 39 sbS a0
theorem ha1_ok : HOk Try.prog ha1 := a0_ok.withC fun _ _ _ h _ => sb_ok h

-- words
def swS : List AV → E AV
  | [.ints .u8 4 t] => some ([], .ints .u8 4 (subW t))
  | _ => none
theorem sw_eval (a b c d : Int) : res (funcA Try.prog qP (deep Try.prog qP ha1 100 3) 100 28 [.ints .u8 4 [a, b, c, d]] []) = some ([], .ints .u8 4 [sb a, sb b, sb c, sb d]) := by kernel_rfl
theorem sw_ok {args : List AV} {o : List Bool} {v : AV} (h : swS args = some (o, v)) : PureCall Try.prog 28 args v := by
  unfold swS at h
  split at h
  · rename_i t
    cases h
    intro ρ N vs ha
    have hb := ha
    cases hb with
    | cons _ _ _ _ r1 hb =>
      cases r1 with
      | ints _ _ _ hn hl =>
        obtain ⟨a, b, c, d, rfl⟩ := len4 hn
        exact pure_of_res mixed noCount (ha1_ok.deep mixed noCount 100 3) (by rfl) (sw_eval a b c d) Paid.nil rfl (by rfl) ha
  · cases h
def suS : List AV → E AV
  | [.ints .u8 4 v, .ints .u8 4 w] => some ([], .ints .u8 4 (sumW v w))
  | _ => none
theorem su_eval (a b c d e f g h : Int) : res (funcA Try.prog qP (deep Try.prog qP ha1 100 3) 100 30 [.ints .u8 4 [a, b, c, d], .ints .u8 4 [e, f, g, h]] []) = some ([], .ints .u8 4 [ixor .u8 a e, ixor .u8 b f, ixor .u8 c g, ixor .u8 d h]) := by kernel_rfl
theorem su_ok {args : List AV} {o : List Bool} {v : AV} (h : suS args = some (o, v)) : PureCall Try.prog 30 args v := by
  unfold suS at h
  split at h
  · rename_i t u
    cases h
    intro ρ N vs ha
    have hb := ha
    cases hb with
    | cons _ _ _ _ r1 hb =>
      cases r1 with
      | ints _ _ _ hn hl =>
        cases hb with
        | cons _ _ _ _ r2 hb =>
          cases r2 with
          | ints _ _ _ hn2 hl2 =>
            obtain ⟨a, b, c, d, rfl⟩ := len4 hn
            obtain ⟨e, f, g, h, rfl⟩ := len4 hn2
            exact pure_of_res mixed noCount (ha1_ok.deep mixed noCount 100 3) (by rfl) (su_eval a b c d e f g h) Paid.nil rfl (by rfl) ha
  · cases h
def ha2 : CallH := withC 30 suS (withC 28 swS ha1)
theorem ha2_ok : HOk Try.prog ha2 := (ha1_ok.withC fun _ _ _ h _ => sw_ok h).withC fun _ _ _ h _ => su_ok h

-- blocks
def sbkS : List AV → E AV
  | [.ints .u8 16 b] => some ([], .ints .u8 16 (subB b))
  | _ => none
theorem sbk_eval (a0 a1 a2 a3 a4 a5 a6 a7 a8 a9 a10 a11 a12 a13 a14 a15 : Int) : res (funcA Try.prog qP (deep Try.prog qP ha2 100 3) 100 47 [.ints .u8 16 [a0, a1, a2, a3, a4, a5, a6, a7, a8, a9, a10, a11, a12, a13, a14, a15]] []) = some ([], .ints .u8 16 (subB [a0, a1, a2, a3, a4, a5, a6, a7, a8, a9, a10, a11, a12, a13, a14, a15])) := by kernel_rfl
theorem sbk_ok {args : List AV} {o : List Bool} {v : AV} (h : sbkS args = some (o, v)) : PureCall Try.prog 47 args v := by
  unfold sbkS at h
  split at h
  · rename_i t
    cases h
    intro ρ N vs ha
    have hb := ha
    cases hb with
    | cons _ _ _ _ r1 hb =>
      cases r1 with
      | ints _ _ _ hn hl =>
        obtain ⟨a0, a1, a2, a3, a4, a5, a6, a7, a8, a9, a10, a11, a12, a13, a14, a15, rfl⟩ := len16 hn
        exact pure_of_res mixed noCount (ha2_ok.deep mixed noCount 100 3) (by rfl) (sbk_eval a0 a1 a2 a3 a4 a5 a6 a7 a8 a9 a10 a11 a12 a13 a14 a15) Paid.nil rfl (by rfl) ha
  · cases h
def mxbS : List AV → E AV
  | [.ints .u8 16 b] => some ([], .ints .u8 16 (mixB b))
  | _ => none
theorem mxb_eval (a0 a1 a2 a3 a4 a5 a6 a7 a8 a9 a10 a11 a12 a13 a14 a15 : Int) : res (funcA Try.prog qP (deep Try.prog qP ha2 100 3) 100 46 [.ints .u8 16 [a0, a1, a2, a3, a4, a5, a6, a7, a8, a9, a10, a11, a12, a13, a14, a15]] []) = some ([], .ints .u8 16 (mixB [a0, a1, a2, a3, a4, a5, a6, a7, a8, a9, a10, a11, a12, a13, a14, a15])) := by kernel_rfl
theorem mxb_ok {args : List AV} {o : List Bool} {v : AV} (h : mxbS args = some (o, v)) : PureCall Try.prog 46 args v := by
  unfold mxbS at h
  split at h
  · rename_i t
    cases h
    intro ρ N vs ha
    have hb := ha
    cases hb with
    | cons _ _ _ _ r1 hb =>
      cases r1 with
      | ints _ _ _ hn hl =>
        obtain ⟨a0, a1, a2, a3, a4, a5, a6, a7, a8, a9, a10, a11, a12, a13, a14, a15, rfl⟩ := len16 hn
        exact pure_of_res mixed noCount (ha2_ok.deep mixed noCount 100 3) (by rfl) (mxb_eval a0 a1 a2 a3 a4 a5 a6 a7 a8 a9 a10 a11 a12 a13 a14 a15) Paid.nil rfl (by rfl) ha
  · cases h
def ha3 : CallH := withC 46 mxbS (withC 47 sbkS ha2)
theorem ha3_ok : HOk Try.prog ha3 := (ha2_ok.withC fun _ _ _ h _ => sbk_ok h).withC fun _ _ _ h _ => mxb_ok h
end Go.Proofs.Ytljndahfackolaa
