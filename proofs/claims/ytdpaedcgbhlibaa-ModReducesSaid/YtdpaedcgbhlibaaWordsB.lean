/- A number's bytes, as the program writes them. Own work. -/
import Derived.Test.YtdpaedcgbhlibaaWordsP
namespace Go.Wn
open Go.Ev
def byteW (x : Int) (s : Nat) : Int := x / 2 ^ s % 256
theorem byte_of {x : Int} (_h : W x) {s : Nat} (hs : s ≤ 56) : IntKind.u8.wrap (ishr .u64 x (s : Int)) = byteW x s := by
  rw [ishr_eq (by simp [IntKind.bits]; omega)]
  unfold byteW IntKind.wrap
  simp [IntKind.bits, IntKind.signed]
end Go.Wn
namespace Go.Proofs.Ytdpaedcgbhlibaa
open Go.Ev Go.Wn
set_option maxRecDepth 100000
def bytesL : List Int → List Int
  | [a, b, c, d] => [byteW d 56, byteW d 48, byteW d 40, byteW d 32, byteW d 24, byteW d 16, byteW d 8, byteW d 0, byteW c 56, byteW c 48, byteW c 40, byteW c 32, byteW c 24, byteW c 16, byteW c 8, byteW c 0, byteW b 56, byteW b 48, byteW b 40, byteW b 32, byteW b 24, byteW b 16, byteW b 8, byteW b 0, byteW a 56, byteW a 48, byteW a 40, byteW a 32, byteW a 24, byteW a 16, byteW a 8, byteW a 0]
  | l => l
def bytS : List AV → E AV
  | [.ints .u64 4 l] => some ([], .ints .u8 32 (bytesL l))
  | _ => none
theorem byt_eval (a b c d : Int) : res (funcA Try.prog qAll h0 100 22 [.ints .u64 4 [a, b, c, d]] []) =
    some ([], .ints .u8 32 [IntKind.u8.wrap (ishr .u64 d 56), IntKind.u8.wrap (ishr .u64 d 48), IntKind.u8.wrap (ishr .u64 d 40), IntKind.u8.wrap (ishr .u64 d 32), IntKind.u8.wrap (ishr .u64 d 24), IntKind.u8.wrap (ishr .u64 d 16), IntKind.u8.wrap (ishr .u64 d 8), IntKind.u8.wrap (ishr .u64 d 0), IntKind.u8.wrap (ishr .u64 c 56), IntKind.u8.wrap (ishr .u64 c 48), IntKind.u8.wrap (ishr .u64 c 40), IntKind.u8.wrap (ishr .u64 c 32), IntKind.u8.wrap (ishr .u64 c 24), IntKind.u8.wrap (ishr .u64 c 16), IntKind.u8.wrap (ishr .u64 c 8), IntKind.u8.wrap (ishr .u64 c 0), IntKind.u8.wrap (ishr .u64 b 56), IntKind.u8.wrap (ishr .u64 b 48), IntKind.u8.wrap (ishr .u64 b 40), IntKind.u8.wrap (ishr .u64 b 32), IntKind.u8.wrap (ishr .u64 b 24), IntKind.u8.wrap (ishr .u64 b 16), IntKind.u8.wrap (ishr .u64 b 8), IntKind.u8.wrap (ishr .u64 b 0), IntKind.u8.wrap (ishr .u64 a 56), IntKind.u8.wrap (ishr .u64 a 48), IntKind.u8.wrap (ishr .u64 a 40), IntKind.u8.wrap (ishr .u64 a 32), IntKind.u8.wrap (ishr .u64 a 24), IntKind.u8.wrap (ishr .u64 a 16), IntKind.u8.wrap (ishr .u64 a 8), IntKind.u8.wrap (ishr .u64 a 0)]) := by kernel_rfl
theorem byt_ok {args : List AV} {o : List Bool} {v : AV} (h : bytS args = some (o, v)) : PureCall Try.prog 22 args v := by
  unfold bytS at h
  split at h
  · rename_i l
    cases h
    intro ρ N vs ha
    have hb := ha
    cases hb with
    | cons _ _ _ _ r0 hb =>
      obtain ⟨a, b, c, d, rfl, wa, wb, wc, wd⟩ := num_arg r0
      have e : ([IntKind.u8.wrap (ishr .u64 d 56), IntKind.u8.wrap (ishr .u64 d 48), IntKind.u8.wrap (ishr .u64 d 40), IntKind.u8.wrap (ishr .u64 d 32), IntKind.u8.wrap (ishr .u64 d 24), IntKind.u8.wrap (ishr .u64 d 16), IntKind.u8.wrap (ishr .u64 d 8), IntKind.u8.wrap (ishr .u64 d 0), IntKind.u8.wrap (ishr .u64 c 56), IntKind.u8.wrap (ishr .u64 c 48), IntKind.u8.wrap (ishr .u64 c 40), IntKind.u8.wrap (ishr .u64 c 32), IntKind.u8.wrap (ishr .u64 c 24), IntKind.u8.wrap (ishr .u64 c 16), IntKind.u8.wrap (ishr .u64 c 8), IntKind.u8.wrap (ishr .u64 c 0), IntKind.u8.wrap (ishr .u64 b 56), IntKind.u8.wrap (ishr .u64 b 48), IntKind.u8.wrap (ishr .u64 b 40), IntKind.u8.wrap (ishr .u64 b 32), IntKind.u8.wrap (ishr .u64 b 24), IntKind.u8.wrap (ishr .u64 b 16), IntKind.u8.wrap (ishr .u64 b 8), IntKind.u8.wrap (ishr .u64 b 0), IntKind.u8.wrap (ishr .u64 a 56), IntKind.u8.wrap (ishr .u64 a 48), IntKind.u8.wrap (ishr .u64 a 40), IntKind.u8.wrap (ishr .u64 a 32), IntKind.u8.wrap (ishr .u64 a 24), IntKind.u8.wrap (ishr .u64 a 16), IntKind.u8.wrap (ishr .u64 a 8), IntKind.u8.wrap (ishr .u64 a 0)] : List Int) = bytesL [a, b, c, d] := by
        unfold bytesL
        simp only [List.cons.injEq, and_true]
        exact ⟨byte_of wd (s := 56) (by omega), byte_of wd (s := 48) (by omega), byte_of wd (s := 40) (by omega), byte_of wd (s := 32) (by omega), byte_of wd (s := 24) (by omega), byte_of wd (s := 16) (by omega), byte_of wd (s := 8) (by omega), byte_of wd (s := 0) (by omega), byte_of wc (s := 56) (by omega), byte_of wc (s := 48) (by omega), byte_of wc (s := 40) (by omega), byte_of wc (s := 32) (by omega), byte_of wc (s := 24) (by omega), byte_of wc (s := 16) (by omega), byte_of wc (s := 8) (by omega), byte_of wc (s := 0) (by omega), byte_of wb (s := 56) (by omega), byte_of wb (s := 48) (by omega), byte_of wb (s := 40) (by omega), byte_of wb (s := 32) (by omega), byte_of wb (s := 24) (by omega), byte_of wb (s := 16) (by omega), byte_of wb (s := 8) (by omega), byte_of wb (s := 0) (by omega), byte_of wa (s := 56) (by omega), byte_of wa (s := 48) (by omega), byte_of wa (s := 40) (by omega), byte_of wa (s := 32) (by omega), byte_of wa (s := 24) (by omega), byte_of wa (s := 16) (by omega), byte_of wa (s := 8) (by omega), byte_of wa (s := 0) (by omega)⟩
      exact pure_of_res mixed noCount h0_ok (by kernel_rfl) (byt_eval a b c d) Paid.nil (by rw [e]) (by kernel_rfl) ha
  · cases h
def turnedL : List Int → List Int
  | [a, b, c, d] => [byteW a 0, byteW a 8, byteW a 16, byteW a 24, byteW a 32, byteW a 40, byteW a 48, byteW a 56, byteW b 0, byteW b 8, byteW b 16, byteW b 24, byteW b 32, byteW b 40, byteW b 48, byteW b 56, byteW c 0, byteW c 8, byteW c 16, byteW c 24, byteW c 32, byteW c 40, byteW c 48, byteW c 56, byteW d 0, byteW d 8, byteW d 16, byteW d 24, byteW d 32, byteW d 40, byteW d 48, byteW d 56]
  | l => l
def trnS : List AV → E AV
  | [.ints .u64 4 l] => some ([], .ints .u8 32 (turnedL l))
  | _ => none
theorem trn_eval (a b c d : Int) : res (funcA Try.prog qAll h0 100 23 [.ints .u64 4 [a, b, c, d]] []) =
    some ([], .ints .u8 32 [IntKind.u8.wrap (ishr .u64 a 0), IntKind.u8.wrap (ishr .u64 a 8), IntKind.u8.wrap (ishr .u64 a 16), IntKind.u8.wrap (ishr .u64 a 24), IntKind.u8.wrap (ishr .u64 a 32), IntKind.u8.wrap (ishr .u64 a 40), IntKind.u8.wrap (ishr .u64 a 48), IntKind.u8.wrap (ishr .u64 a 56), IntKind.u8.wrap (ishr .u64 b 0), IntKind.u8.wrap (ishr .u64 b 8), IntKind.u8.wrap (ishr .u64 b 16), IntKind.u8.wrap (ishr .u64 b 24), IntKind.u8.wrap (ishr .u64 b 32), IntKind.u8.wrap (ishr .u64 b 40), IntKind.u8.wrap (ishr .u64 b 48), IntKind.u8.wrap (ishr .u64 b 56), IntKind.u8.wrap (ishr .u64 c 0), IntKind.u8.wrap (ishr .u64 c 8), IntKind.u8.wrap (ishr .u64 c 16), IntKind.u8.wrap (ishr .u64 c 24), IntKind.u8.wrap (ishr .u64 c 32), IntKind.u8.wrap (ishr .u64 c 40), IntKind.u8.wrap (ishr .u64 c 48), IntKind.u8.wrap (ishr .u64 c 56), IntKind.u8.wrap (ishr .u64 d 0), IntKind.u8.wrap (ishr .u64 d 8), IntKind.u8.wrap (ishr .u64 d 16), IntKind.u8.wrap (ishr .u64 d 24), IntKind.u8.wrap (ishr .u64 d 32), IntKind.u8.wrap (ishr .u64 d 40), IntKind.u8.wrap (ishr .u64 d 48), IntKind.u8.wrap (ishr .u64 d 56)]) := by kernel_rfl
theorem trn_ok {args : List AV} {o : List Bool} {v : AV} (h : trnS args = some (o, v)) : PureCall Try.prog 23 args v := by
  unfold trnS at h
  split at h
  · rename_i l
    cases h
    intro ρ N vs ha
    have hb := ha
    cases hb with
    | cons _ _ _ _ r0 hb =>
      obtain ⟨a, b, c, d, rfl, wa, wb, wc, wd⟩ := num_arg r0
      have e : ([IntKind.u8.wrap (ishr .u64 a 0), IntKind.u8.wrap (ishr .u64 a 8), IntKind.u8.wrap (ishr .u64 a 16), IntKind.u8.wrap (ishr .u64 a 24), IntKind.u8.wrap (ishr .u64 a 32), IntKind.u8.wrap (ishr .u64 a 40), IntKind.u8.wrap (ishr .u64 a 48), IntKind.u8.wrap (ishr .u64 a 56), IntKind.u8.wrap (ishr .u64 b 0), IntKind.u8.wrap (ishr .u64 b 8), IntKind.u8.wrap (ishr .u64 b 16), IntKind.u8.wrap (ishr .u64 b 24), IntKind.u8.wrap (ishr .u64 b 32), IntKind.u8.wrap (ishr .u64 b 40), IntKind.u8.wrap (ishr .u64 b 48), IntKind.u8.wrap (ishr .u64 b 56), IntKind.u8.wrap (ishr .u64 c 0), IntKind.u8.wrap (ishr .u64 c 8), IntKind.u8.wrap (ishr .u64 c 16), IntKind.u8.wrap (ishr .u64 c 24), IntKind.u8.wrap (ishr .u64 c 32), IntKind.u8.wrap (ishr .u64 c 40), IntKind.u8.wrap (ishr .u64 c 48), IntKind.u8.wrap (ishr .u64 c 56), IntKind.u8.wrap (ishr .u64 d 0), IntKind.u8.wrap (ishr .u64 d 8), IntKind.u8.wrap (ishr .u64 d 16), IntKind.u8.wrap (ishr .u64 d 24), IntKind.u8.wrap (ishr .u64 d 32), IntKind.u8.wrap (ishr .u64 d 40), IntKind.u8.wrap (ishr .u64 d 48), IntKind.u8.wrap (ishr .u64 d 56)] : List Int) = turnedL [a, b, c, d] := by
        unfold turnedL
        simp only [List.cons.injEq, and_true]
        exact ⟨byte_of wa (s := 0) (by omega), byte_of wa (s := 8) (by omega), byte_of wa (s := 16) (by omega), byte_of wa (s := 24) (by omega), byte_of wa (s := 32) (by omega), byte_of wa (s := 40) (by omega), byte_of wa (s := 48) (by omega), byte_of wa (s := 56) (by omega), byte_of wb (s := 0) (by omega), byte_of wb (s := 8) (by omega), byte_of wb (s := 16) (by omega), byte_of wb (s := 24) (by omega), byte_of wb (s := 32) (by omega), byte_of wb (s := 40) (by omega), byte_of wb (s := 48) (by omega), byte_of wb (s := 56) (by omega), byte_of wc (s := 0) (by omega), byte_of wc (s := 8) (by omega), byte_of wc (s := 16) (by omega), byte_of wc (s := 24) (by omega), byte_of wc (s := 32) (by omega), byte_of wc (s := 40) (by omega), byte_of wc (s := 48) (by omega), byte_of wc (s := 56) (by omega), byte_of wd (s := 0) (by omega), byte_of wd (s := 8) (by omega), byte_of wd (s := 16) (by omega), byte_of wd (s := 24) (by omega), byte_of wd (s := 32) (by omega), byte_of wd (s := 40) (by omega), byte_of wd (s := 48) (by omega), byte_of wd (s := 56) (by omega)⟩
      exact pure_of_res mixed noCount h0_ok (by kernel_rfl) (trn_eval a b c d) Paid.nil (by rw [e]) (by kernel_rfl) ha
  · cases h
def h6 : CallH := withC 23 trnS (withC 22 bytS h5)
theorem h6_ok : HOk Try.prog h6 := (h5_ok.withC fun _ _ _ h _ => byt_ok h).withC fun _ _ _ h _ => trn_ok h
end Go.Proofs.Ytdpaedcgbhlibaa
