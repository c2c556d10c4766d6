/- A number's bytes, as the program writes them. Own work. -/
import Derived.Test.YtapficdphhfpnaaDoorTMyMC
import Derived.Test.YtapficdphhfpnaaDoorTEvView
import Derived.Test.YtapficdphhfpnaaDoorTEvLoop
set_option linter.unusedSimpArgs false
set_option linter.unusedVariables false
set_option linter.unusedSectionVars false
namespace Go.Wn
open Go.Ev
def byteW (x : Int) (s : Nat) : Int := x / 2 ^ s % 256
theorem byte_of {x : Int} (_h : W x) {s : Nat} (hs : s ≤ 56) : IntKind.u8.wrap (ishr .u64 x (s : Int)) = byteW x s := by
  rw [ishr_eq (by simp [IntKind.bits]; omega)]
  unfold byteW IntKind.wrap
  simp [IntKind.bits, IntKind.signed]
end Go.Wn
namespace Go.Proofs.YtapficdphhfpnaaDoor
open Go.Ev Go.Wn
set_option maxRecDepth 100000
def bytesL : List Int → List Int
  | [a, b, c, d] => [byteW d 56, byteW d 48, byteW d 40, byteW d 32, byteW d 24, byteW d 16, byteW d 8, byteW d 0, byteW c 56, byteW c 48, byteW c 40, byteW c 32, byteW c 24, byteW c 16, byteW c 8, byteW c 0, byteW b 56, byteW b 48, byteW b 40, byteW b 32, byteW b 24, byteW b 16, byteW b 8, byteW b 0, byteW a 56, byteW a 48, byteW a 40, byteW a 32, byteW a 24, byteW a 16, byteW a 8, byteW a 0]
  | l => l
def bytS : List AV → E AV
  | [.ints .u64 4 l] => some ([], .ints .u8 32 (bytesL l))
  | _ => none
theorem byt_eval (a b c d : Int) : res (funcA Tryd.prog qAll h0 100 48 [.ints .u64 4 [a, b, c, d]] []) =
    some ([], .ints .u8 32 [IntKind.u8.wrap (ishr .u64 d 56), IntKind.u8.wrap (ishr .u64 d 48), IntKind.u8.wrap (ishr .u64 d 40), IntKind.u8.wrap (ishr .u64 d 32), IntKind.u8.wrap (ishr .u64 d 24), IntKind.u8.wrap (ishr .u64 d 16), IntKind.u8.wrap (ishr .u64 d 8), IntKind.u8.wrap (ishr .u64 d 0), IntKind.u8.wrap (ishr .u64 c 56), IntKind.u8.wrap (ishr .u64 c 48), IntKind.u8.wrap (ishr .u64 c 40), IntKind.u8.wrap (ishr .u64 c 32), IntKind.u8.wrap (ishr .u64 c 24), IntKind.u8.wrap (ishr .u64 c 16), IntKind.u8.wrap (ishr .u64 c 8), IntKind.u8.wrap (ishr .u64 c 0), IntKind.u8.wrap (ishr .u64 b 56), IntKind.u8.wrap (ishr .u64 b 48), IntKind.u8.wrap (ishr .u64 b 40), IntKind.u8.wrap (ishr .u64 b 32), IntKind.u8.wrap (ishr .u64 b 24), IntKind.u8.wrap (ishr .u64 b 16), IntKind.u8.wrap (ishr .u64 b 8), IntKind.u8.wrap (ishr .u64 b 0), IntKind.u8.wrap (ishr .u64 a 56), IntKind.u8.wrap (ishr .u64 a 48), IntKind.u8.wrap (ishr .u64 a 40), IntKind.u8.wrap (ishr .u64 a 32), IntKind.u8.wrap (ishr .u64 a 24), IntKind.u8.wrap (ishr .u64 a 16), IntKind.u8.wrap (ishr .u64 a 8), IntKind.u8.wrap (ishr .u64 a 0)]) := by kernel_rfl
theorem byt_ok {args : List AV} {o : List Bool} {v : AV} (h : bytS args = some (o, v)) : PureCall Tryd.prog 48 args v := by
  unfold bytS at h
  split at h
  · rename_i l
    cases h
    intro ρ N vs ha
    have hb := ha
    cases hb with
    | cons _ _ _ _ r0 hb =>
      obtain ⟨a, b, c, d, rfl, wa, wb, wc, wd⟩ := num_arg r0
      have e : ([IntKind.u8.wrap (ishr .u64 d 56), IntKind.u8.wrap (ishr .u64 d 48), IntKind.u8.wrap (ishr .u64 d 40), IntKind.u8.wrap (ishr .u64 d 32), IntKind.u8.wrap (ishr .u64 d 24), IntKind.u8.wrap (ishr .u64 d 16), IntKind.u8.wrap (ishr .u64 d 8), IntKind.u8.wrap (ishr .u64 d 0), IntKind.u8.wrap (ishr .u64 c 56), IntKind.u8.wrap (ishr .u64 c 48), IntKind.u8.wrap (ishr .u64 c 40), IntKind.u8.wrap (ishr .u64 c 32), IntKind.u8.wrap (ishr .u64 c 24), IntKind.u8.wrap (ishr .u64 c 16), IntKind.u8.wrap (ishr .u64 c 8), IntKind.u8.wrap (ishr .u64 c 0), IntKind.u8.wrap (ishr .u64 b 56), IntKind.u8.wrap (ishr .u64 b 48), IntKind.u8.wrap (ishr .u64 b 40), IntKind.u8.wrap (ishr .u64 b 32), IntKind.u8.wrap (ishr .u64 b 24), IntKind.u8.wrap (ishr .u64 b 16), IntKind.u8.wrap (ishr .u64 b 8), IntKind.u8.wrap (ishr .u64 b 0), IntKind.u8.wrap (ishr .u64 a 56), IntKind.u8.wrap (ishr .u64 a 48), IntKind.u8.wrap (ishr .u64 a 40), IntKind.u8.wrap (ishr .u64 a 32), IntKind.u8.wrap (ishr .u64 a 24), IntKind.u8.wrap (ishr .u64 a 16), IntKind.u8.wrap (ishr .u64 a 8), IntKind.u8.wrap (ishr .u64 a 0)] : List Int) = bytesL [a, b, c, d] := by
        unfold bytesL
        simp only [List.cons.injEq, and_true]
        exact ⟨byte_of wd (s := 56) (by omega), byte_of wd (s := 48) (by omega), byte_of wd (s := 40) (by omega), byte_of wd (s := 32) (by omega), byte_of wd (s := 24) (by omega), byte_of wd (s := 16) (by omega), byte_of wd (s := 8) (by omega), byte_of wd (s := 0) (by omega), byte_of wc (s := 56) (by omega), byte_of wc (s := 48) (by omega), byte_of wc (s := 40) (by omega), byte_of wc (s := 32) (by omega), byte_of wc (s := 24) (by omega), byte_of wc (s := 16) (by omega), byte_of wc (s := 8) (by omega), byte_of wc (s := 0) (by omega), byte_of wb (s := 56) (by omega), byte_of wb (s := 48) (by omega), byte_of wb (s := 40) (by omega), byte_of wb (s := 32) (by omega), byte_of wb (s := 24) (by omega), byte_of wb (s := 16) (by omega), byte_of wb (s := 8) (by omega), byte_of wb (s := 0) (by omega), byte_of wa (s := 56) (by omega), byte_of wa (s := 48) (by omega), byte_of wa (s := 40) (by omega), byte_of wa (s := 32) (by omega), byte_of wa (s := 24) (by omega), byte_of wa (s := 16) (by omega), byte_of wa (s := 8) (by omega), byte_of wa (s := 0) (by omega)⟩
      exact pure_of_res mixed noCount h0_ok (by kernel_rfl) (byt_eval a b c d) Paid.nil (by rw [e]) (by kernel_rfl) ha
  · cases h
def h6 : CallH := withC 48 bytS h5
theorem h6_ok : HOk Tryd.prog h6 := h5_ok.withC fun _ _ _ h _ => byt_ok h
end Go.Proofs.YtapficdphhfpnaaDoor
namespace Go.Wn
open Go.Ev
def B8 (x : Int) : Prop := 0 ≤ x ∧ x < 256
def sh8 (x s : Int) : Int := ishl .u64 (IntKind.u64.wrap x) s
def orB (a b c d e f g h : Int) : Int := (ior .u64 (ior .u64 (ior .u64 (ior .u64 (ior .u64 (ior .u64 (ior .u64 (ior .u64 0 (sh8 a 56)) (sh8 b 48)) (sh8 c 40)) (sh8 d 32)) (sh8 e 24)) (sh8 f 16)) (sh8 g 8)) (sh8 h 0))
def W8 (a b c d e f g h : Int) : Int := 72057594037927936 * a + 281474976710656 * b + 1099511627776 * c + 4294967296 * d + 16777216 * e + 65536 * f + 256 * g + 1 * h
theorem sh8_eq {x : Int} (h : B8 x) {s : Nat} (hs : s ≤ 56) : sh8 x s = x * 2 ^ s ∧ 0 ≤ x * 2 ^ s ∧ x * 2 ^ s < 18446744073709551616 := by
  unfold B8 at h
  have hp : (0 : Int) < 2 ^ s := Int.pow_pos (by omega)
  have h2 : (2 : Int) ^ s ≤ 2 ^ 56 := by exact_mod_cast Nat.pow_le_pow_right (by omega : 0 < 2) hs
  have h3 : 0 ≤ x * 2 ^ s := Int.mul_nonneg h.1 (by omega)
  have h4 : x * 2 ^ s ≤ 255 * 2 ^ s := Int.mul_le_mul_of_nonneg_right (by omega) (by omega)
  have h5 : x * 2 ^ s < 18446744073709551616 := by
    have : (2 : Int) ^ 56 = 72057594037927936 := by rfl
    omega
  refine ⟨?_, h3, h5⟩
  unfold sh8 ishl
  rw [uw64 (y := x) (by omega), Int.toNat_natCast, show min s IntKind.u64.bits = s by simp [IntKind.bits]; omega]
  exact uw64 ⟨h3, h5⟩
/-- 'or' of numbers whose bits stand apart is their sum. -/
theorem ior_sum {x y : Int} {s : Nat} {A : Int} (hA : 0 ≤ A) (hx : x = A * 2 ^ s) (hy : 0 ≤ y) (hy2 : y < 2 ^ s) (hb : x + y < 18446744073709551616) : ior .u64 x y = x + y ∧ ior .u64 y x = x + y := by
  have hp : (0 : Int) < 2 ^ s := Int.pow_pos (by omega)
  have hx0 : 0 ≤ x := by rw [hx]; exact Int.mul_nonneg hA (by omega)
  obtain ⟨X, rfl⟩ := Int.eq_ofNat_of_zero_le hx0
  obtain ⟨Y, rfl⟩ := Int.eq_ofNat_of_zero_le hy
  obtain ⟨a, rfl⟩ := Int.eq_ofNat_of_zero_le hA
  have hX : X = a <<< s := by rw [Nat.shiftLeft_eq]; exact_mod_cast hx
  have hY : Y < 2 ^ s := by exact_mod_cast hy2
  have key : X ||| Y = X + Y := by rw [hX]; exact (Nat.shiftLeft_add_eq_or_of_lt hY a).symm
  have e : ∀ z : Nat, (z : Int) < 18446744073709551616 → (bv (z : Int)).toNat = z := fun z hz => by
    have := bv_W (x := (z : Int)) ⟨by omega, hz⟩
    omega
  have one : ∀ u v : Nat, (u : Int) < 18446744073709551616 → (v : Int) < 18446744073709551616 → u ||| v = X + Y → ior .u64 u v = (X : Int) + Y := fun u v hu hv huv => by
    have h1 : (BitVec.ofInt IntKind.u64.bits (u : Int) ||| BitVec.ofInt IntKind.u64.bits (v : Int)).toNat = X + Y := by
      show (bv u ||| bv v).toNat = _
      rw [BitVec.toNat_or, e u hu, e v hv]; exact huv
    unfold ior
    rw [h1]
    exact uw64 (by omega)
  exact ⟨one X Y (by omega) (by omega) key, one Y X (by omega) (by omega) (by rw [Nat.or_comm]; exact key)⟩
theorem orB_eq {a b c d e f g h : Int} (ha : B8 a) (hb : B8 b) (hc : B8 c) (hd : B8 d) (he : B8 e) (hf : B8 f) (hg : B8 g) (hh : B8 h) : orB a b c d e f g h = W8 a b c d e f g h := by
  have ka := fun s hs => @sh8_eq a ha s hs
  have kb := fun s hs => @sh8_eq b hb s hs
  have kc := fun s hs => @sh8_eq c hc s hs
  have kd := fun s hs => @sh8_eq d hd s hs
  have ke := fun s hs => @sh8_eq e he s hs
  have kf := fun s hs => @sh8_eq f hf s hs
  have kg := fun s hs => @sh8_eq g hg s hs
  have kh := fun s hs => @sh8_eq h hh s hs
  unfold B8 at *
  unfold orB W8
  rw [show (56 : Int) = ((56 : Nat) : Int) from rfl, show (48 : Int) = ((48 : Nat) : Int) from rfl, show (40 : Int) = ((40 : Nat) : Int) from rfl, show (32 : Int) = ((32 : Nat) : Int) from rfl, show (24 : Int) = ((24 : Nat) : Int) from rfl, show (16 : Int) = ((16 : Nat) : Int) from rfl, show (8 : Int) = ((8 : Nat) : Int) from rfl]
  have z : sh8 h 0 = h * 2 ^ 0 := (kh 0 (by omega)).1
  rw [z, (ka 56 (by omega)).1, (kb 48 (by omega)).1, (kc 40 (by omega)).1, (kd 32 (by omega)).1, (ke 24 (by omega)).1, (kf 16 (by omega)).1, (kg 8 (by omega)).1]
  simp only [Int.reducePow]
  rw [(ior_sum (x := 0) (y := a * 72057594037927936) (s := 64) (A := (0)) (by omega) (by simp only [Int.reducePow]; omega) (by omega) (by simp only [Int.reducePow]; omega) (by omega)).1]
  rw [(ior_sum (x := (0 + a * 72057594037927936)) (y := b * 281474976710656) (s := 56) (A := (a * 1)) (by omega) (by simp only [Int.reducePow]; omega) (by omega) (by simp only [Int.reducePow]; omega) (by omega)).1]
  rw [(ior_sum (x := ((0 + a * 72057594037927936) + b * 281474976710656)) (y := c * 1099511627776) (s := 48) (A := (a * 256 + b * 1)) (by omega) (by simp only [Int.reducePow]; omega) (by omega) (by simp only [Int.reducePow]; omega) (by omega)).1]
  rw [(ior_sum (x := (((0 + a * 72057594037927936) + b * 281474976710656) + c * 1099511627776)) (y := d * 4294967296) (s := 40) (A := (a * 65536 + b * 256 + c * 1)) (by omega) (by simp only [Int.reducePow]; omega) (by omega) (by simp only [Int.reducePow]; omega) (by omega)).1]
  rw [(ior_sum (x := ((((0 + a * 72057594037927936) + b * 281474976710656) + c * 1099511627776) + d * 4294967296)) (y := e * 16777216) (s := 32) (A := (a * 16777216 + b * 65536 + c * 256 + d * 1)) (by omega) (by simp only [Int.reducePow]; omega) (by omega) (by simp only [Int.reducePow]; omega) (by omega)).1]
  rw [(ior_sum (x := (((((0 + a * 72057594037927936) + b * 281474976710656) + c * 1099511627776) + d * 4294967296) + e * 16777216)) (y := f * 65536) (s := 24) (A := (a * 4294967296 + b * 16777216 + c * 65536 + d * 256 + e * 1)) (by omega) (by simp only [Int.reducePow]; omega) (by omega) (by simp only [Int.reducePow]; omega) (by omega)).1]
  rw [(ior_sum (x := ((((((0 + a * 72057594037927936) + b * 281474976710656) + c * 1099511627776) + d * 4294967296) + e * 16777216) + f * 65536)) (y := g * 256) (s := 16) (A := (a * 1099511627776 + b * 4294967296 + c * 16777216 + d * 65536 + e * 256 + f * 1)) (by omega) (by simp only [Int.reducePow]; omega) (by omega) (by simp only [Int.reducePow]; omega) (by omega)).1]
  rw [(ior_sum (x := (((((((0 + a * 72057594037927936) + b * 281474976710656) + c * 1099511627776) + d * 4294967296) + e * 16777216) + f * 65536) + g * 256)) (y := h * 1) (s := 8) (A := (a * 281474976710656 + b * 1099511627776 + c * 4294967296 + d * 16777216 + e * 65536 + f * 256 + g * 1)) (by omega) (by simp only [Int.reducePow]; omega) (by omega) (by simp only [Int.reducePow]; omega) (by omega)).1]
  omega
end Go.Wn
namespace Go.Proofs.YtapficdphhfpnaaDoor
open Go.Ev Go.Wn
set_option maxRecDepth 100000
theorem inR_B8 {x : Int} (h : inR .u8 x = true) : B8 x := inR_u8 h
def bigL : List Int → List Int
  | [b0, b1, b2, b3, b4, b5, b6, b7, b8, b9, b10, b11, b12, b13, b14, b15, b16, b17, b18, b19, b20, b21, b22, b23, b24, b25, b26, b27, b28, b29, b30, b31] => [W8 b24 b25 b26 b27 b28 b29 b30 b31, W8 b16 b17 b18 b19 b20 b21 b22 b23, W8 b8 b9 b10 b11 b12 b13 b14 b15, W8 b0 b1 b2 b3 b4 b5 b6 b7]
  | l => l
theorem thirty {l : List Int} (h : l.length = 32) : ∃ b0 b1 b2 b3 b4 b5 b6 b7 b8 b9 b10 b11 b12 b13 b14 b15 b16 b17 b18 b19 b20 b21 b22 b23 b24 b25 b26 b27 b28 b29 b30 b31, l = [b0, b1, b2, b3, b4, b5, b6, b7, b8, b9, b10, b11, b12, b13, b14, b15, b16, b17, b18, b19, b20, b21, b22, b23, b24, b25, b26, b27, b28, b29, b30, b31] := by
  match l, h with
  | [b0, b1, b2, b3, b4, b5, b6, b7, b8, b9, b10, b11, b12, b13, b14, b15, b16, b17, b18, b19, b20, b21, b22, b23, b24, b25, b26, b27, b28, b29, b30, b31], _ => exact ⟨b0, b1, b2, b3, b4, b5, b6, b7, b8, b9, b10, b11, b12, b13, b14, b15, b16, b17, b18, b19, b20, b21, b22, b23, b24, b25, b26, b27, b28, b29, b30, b31, rfl⟩
def bigS : List V → E (AV × Mem)
  | [.buf false .u8 32 l] => some ([], (.tuple [.ints .u64 4 (bigL l), .bool false true], []))
  | [.buf true .u8 n _] => some ([!decide ((n : Int) = 32), decide (n < 9223372036854775808)], (.tuple [.ints .u64 4 [0, 0, 0, 0], .bool false false], []))
  | _ => none
theorem big_eval (b0 b1 b2 b3 b4 b5 b6 b7 b8 b9 b10 b11 b12 b13 b14 b15 b16 b17 b18 b19 b20 b21 b22 b23 b24 b25 b26 b27 b28 b29 b30 b31 : Int) : res (funcA Tryd.prog qAll h0 100 47 (cArgs 0 [.buf false .u8 32 [b0, b1, b2, b3, b4, b5, b6, b7, b8, b9, b10, b11, b12, b13, b14, b15, b16, b17, b18, b19, b20, b21, b22, b23, b24, b25, b26, b27, b28, b29, b30, b31]]) (cMem [.buf false .u8 32 [b0, b1, b2, b3, b4, b5, b6, b7, b8, b9, b10, b11, b12, b13, b14, b15, b16, b17, b18, b19, b20, b21, b22, b23, b24, b25, b26, b27, b28, b29, b30, b31]])) =
    some ([], .tuple [.ints .u64 4 [orB b24 b25 b26 b27 b28 b29 b30 b31, orB b16 b17 b18 b19 b20 b21 b22 b23, orB b8 b9 b10 b11 b12 b13 b14 b15, orB b0 b1 b2 b3 b4 b5 b6 b7], .bool false true]) := by kernel_rfl
theorem big_other (n : Nat) (l : List Int) : res ((funcA Tryd.prog qAll h0 100 47 (cArgs 0 [.buf true .u8 n l]) (cMem [.buf true .u8 n l])).go [true]) =
    some ([decide (n < 9223372036854775808), (n : Int) != 32], .tuple [.ints .u64 4 [0, 0, 0, 0], .bool false false]) := by kernel_rfl
theorem big_ok {xs : List V} {o : List Bool} {v : AV} {bs : Mem} (h : bigS xs = some (o, (v, bs))) (ho : Paid o) : ViewCall Tryd.prog 47 xs v bs := by
  unfold bigS at h
  split at h
  · rename_i l
    cases h
    intro ρ vs w ha hi
    obtain ⟨hl, hr⟩ := buf_arg hi 0 rfl
    obtain ⟨b0, b1, b2, b3, b4, b5, b6, b7, b8, b9, b10, b11, b12, b13, b14, b15, b16, b17, b18, b19, b20, b21, b22, b23, b24, b25, b26, b27, b28, b29, b30, b31, rfl⟩ := thirty hl
    have e : ([orB b24 b25 b26 b27 b28 b29 b30 b31, orB b16 b17 b18 b19 b20 b21 b22 b23, orB b8 b9 b10 b11 b12 b13 b14 b15, orB b0 b1 b2 b3 b4 b5 b6 b7] : List Int) = bigL [b0, b1, b2, b3, b4, b5, b6, b7, b8, b9, b10, b11, b12, b13, b14, b15, b16, b17, b18, b19, b20, b21, b22, b23, b24, b25, b26, b27, b28, b29, b30, b31] := by
      rw [orB_eq (inR_B8 (hr b24 (by simp))) (inR_B8 (hr b25 (by simp))) (inR_B8 (hr b26 (by simp))) (inR_B8 (hr b27 (by simp))) (inR_B8 (hr b28 (by simp))) (inR_B8 (hr b29 (by simp))) (inR_B8 (hr b30 (by simp))) (inR_B8 (hr b31 (by simp))), orB_eq (inR_B8 (hr b16 (by simp))) (inR_B8 (hr b17 (by simp))) (inR_B8 (hr b18 (by simp))) (inR_B8 (hr b19 (by simp))) (inR_B8 (hr b20 (by simp))) (inR_B8 (hr b21 (by simp))) (inR_B8 (hr b22 (by simp))) (inR_B8 (hr b23 (by simp))), orB_eq (inR_B8 (hr b8 (by simp))) (inR_B8 (hr b9 (by simp))) (inR_B8 (hr b10 (by simp))) (inR_B8 (hr b11 (by simp))) (inR_B8 (hr b12 (by simp))) (inR_B8 (hr b13 (by simp))) (inR_B8 (hr b14 (by simp))) (inR_B8 (hr b15 (by simp))), orB_eq (inR_B8 (hr b0 (by simp))) (inR_B8 (hr b1 (by simp))) (inR_B8 (hr b2 (by simp))) (inR_B8 (hr b3 (by simp))) (inR_B8 (hr b4 (by simp))) (inR_B8 (hr b5 (by simp))) (inR_B8 (hr b6 (by simp))) (inR_B8 (hr b7 (by simp)))]; rfl
    exact view_of_res mixed noCount h0_ok (big_eval b0 b1 b2 b3 b4 b5 b6 b7 b8 b9 b10 b11 b12 b13 b14 b15 b16 b17 b18 b19 b20 b21 b22 b23 b24 b25 b26 b27 b28 b29 b30 b31) Paid.nil (by rw [e]) (by kernel_rfl) ha hi
  · rename_i n l
    cases h
    have hn := ho _ (List.mem_cons_self ..)
    simp only [Bool.not_eq_true', decide_eq_false_iff_not] at hn
    intro ρ vs w ha hi
    have hlen := ho _ (List.mem_cons_of_mem _ (List.mem_cons_self ..))
    simp only [decide_eq_true_eq] at hlen
    exact view_of_go mixed noCount h0_ok [true] (big_other n l) (paid_cons (decide_eq_true hlen) (paid_cons (by simpa using hn) Paid.nil)) rfl (by kernel_rfl) ha hi
  · cases h
def dg2 (x y : Int) : Int := IntKind.i64.wrap (IntKind.i64.wrap x + IntKind.i64.wrap (256 * IntKind.i64.wrap y))
theorem dg2_eq {x y : Int} (hx : B8 x) (hy : B8 y) : dg2 x y = x + 256 * y := by
  unfold B8 dg2 at *
  have w : ∀ {z : Int}, -9223372036854775808 ≤ z ∧ z < 9223372036854775808 → IntKind.i64.wrap z = z := by
    intro z hz; unfold IntKind.wrap; simp [IntKind.bits, IntKind.signed]; omega
  rw [w (z := x) (by omega), w (z := y) (by omega), w (z := 256 * y) (by omega), w (by omega)]
theorem dg2_D {x y : Int} (hx : B8 x) (hy : B8 y) : D (dg2 x y) := by
  rw [dg2_eq hx hy]; unfold B8 D at *; omega
def rbigS : List V → E (AV × Mem)
  | [.buf false .u8 32 l] => some ([], (.ints .u64 4 (bigL l), []))
  | _ => none
theorem rbig_eval (b0 b1 b2 b3 b4 b5 b6 b7 b8 b9 b10 b11 b12 b13 b14 b15 b16 b17 b18 b19 b20 b21 b22 b23 b24 b25 b26 b27 b28 b29 b30 b31 : Int) : res (funcA Tryd.prog qAll h6 100 25 (cArgs 0 [.buf false .u8 32 [b0, b1, b2, b3, b4, b5, b6, b7, b8, b9, b10, b11, b12, b13, b14, b15, b16, b17, b18, b19, b20, b21, b22, b23, b24, b25, b26, b27, b28, b29, b30, b31]]) (cMem [.buf false .u8 32 [b0, b1, b2, b3, b4, b5, b6, b7, b8, b9, b10, b11, b12, b13, b14, b15, b16, b17, b18, b19, b20, b21, b22, b23, b24, b25, b26, b27, b28, b29, b30, b31]])) =
    some ([allD [dg2 b31 b30, dg2 b29 b28, dg2 b27 b26, dg2 b25 b24, dg2 b23 b22, dg2 b21 b20, dg2 b19 b18, dg2 b17 b16, dg2 b15 b14, dg2 b13 b12, dg2 b11 b10, dg2 b9 b8, dg2 b7 b6, dg2 b5 b4, dg2 b3 b2, dg2 b1 b0]], .ints .u64 4 (numD [dg2 b31 b30, dg2 b29 b28, dg2 b27 b26, dg2 b25 b24, dg2 b23 b22, dg2 b21 b20, dg2 b19 b18, dg2 b17 b16, dg2 b15 b14, dg2 b13 b12, dg2 b11 b10, dg2 b9 b8, dg2 b7 b6, dg2 b5 b4, dg2 b3 b2, dg2 b1 b0])) := by kernel_rfl
theorem rbig_ok {xs : List V} {o : List Bool} {v : AV} {bs : Mem} (h : rbigS xs = some (o, (v, bs))) : ViewCall Tryd.prog 25 xs v bs := by
  unfold rbigS at h
  split at h
  · rename_i l
    cases h
    intro ρ vs w ha hi
    obtain ⟨hl, hr⟩ := buf_arg hi 0 rfl
    obtain ⟨b0, b1, b2, b3, b4, b5, b6, b7, b8, b9, b10, b11, b12, b13, b14, b15, b16, b17, b18, b19, b20, b21, b22, b23, b24, b25, b26, b27, b28, b29, b30, b31, rfl⟩ := thirty hl
    simp only [List.forall_mem_cons, List.not_mem_nil, false_implies, implies_true, and_true] at hr
    obtain ⟨k0, k1, k2, k3, k4, k5, k6, k7, k8, k9, k10, k11, k12, k13, k14, k15, k16, k17, k18, k19, k20, k21, k22, k23, k24, k25, k26, k27, k28, k29, k30, k31⟩ := hr
    have hD : allD [dg2 b31 b30, dg2 b29 b28, dg2 b27 b26, dg2 b25 b24, dg2 b23 b22, dg2 b21 b20, dg2 b19 b18, dg2 b17 b16, dg2 b15 b14, dg2 b13 b12, dg2 b11 b10, dg2 b9 b8, dg2 b7 b6, dg2 b5 b4, dg2 b3 b2, dg2 b1 b0] = true := by
      rw [allD_iff]
      simp only [List.forall_mem_cons, List.not_mem_nil, false_implies, implies_true, and_true]
      exact ⟨dg2_D (inR_B8 k31) (inR_B8 k30), dg2_D (inR_B8 k29) (inR_B8 k28), dg2_D (inR_B8 k27) (inR_B8 k26), dg2_D (inR_B8 k25) (inR_B8 k24), dg2_D (inR_B8 k23) (inR_B8 k22), dg2_D (inR_B8 k21) (inR_B8 k20), dg2_D (inR_B8 k19) (inR_B8 k18), dg2_D (inR_B8 k17) (inR_B8 k16), dg2_D (inR_B8 k15) (inR_B8 k14), dg2_D (inR_B8 k13) (inR_B8 k12), dg2_D (inR_B8 k11) (inR_B8 k10), dg2_D (inR_B8 k9) (inR_B8 k8), dg2_D (inR_B8 k7) (inR_B8 k6), dg2_D (inR_B8 k5) (inR_B8 k4), dg2_D (inR_B8 k3) (inR_B8 k2), dg2_D (inR_B8 k1) (inR_B8 k0)⟩
    have e : numD [dg2 b31 b30, dg2 b29 b28, dg2 b27 b26, dg2 b25 b24, dg2 b23 b22, dg2 b21 b20, dg2 b19 b18, dg2 b17 b16, dg2 b15 b14, dg2 b13 b12, dg2 b11 b10, dg2 b9 b8, dg2 b7 b6, dg2 b5 b4, dg2 b3 b2, dg2 b1 b0] = bigL [b0, b1, b2, b3, b4, b5, b6, b7, b8, b9, b10, b11, b12, b13, b14, b15, b16, b17, b18, b19, b20, b21, b22, b23, b24, b25, b26, b27, b28, b29, b30, b31] := by
      rw [dg2_eq (inR_B8 k31) (inR_B8 k30), dg2_eq (inR_B8 k29) (inR_B8 k28), dg2_eq (inR_B8 k27) (inR_B8 k26), dg2_eq (inR_B8 k25) (inR_B8 k24), dg2_eq (inR_B8 k23) (inR_B8 k22), dg2_eq (inR_B8 k21) (inR_B8 k20), dg2_eq (inR_B8 k19) (inR_B8 k18), dg2_eq (inR_B8 k17) (inR_B8 k16), dg2_eq (inR_B8 k15) (inR_B8 k14), dg2_eq (inR_B8 k13) (inR_B8 k12), dg2_eq (inR_B8 k11) (inR_B8 k10), dg2_eq (inR_B8 k9) (inR_B8 k8), dg2_eq (inR_B8 k7) (inR_B8 k6), dg2_eq (inR_B8 k5) (inR_B8 k4), dg2_eq (inR_B8 k3) (inR_B8 k2), dg2_eq (inR_B8 k1) (inR_B8 k0)]
      simp only [numD, bigL, W8, List.cons.injEq, and_true]
      refine ⟨?_, ?_, ?_, ?_⟩ <;> omega
    exact view_of_res mixed noCount h6_ok (rbig_eval b0 b1 b2 b3 b4 b5 b6 b7 b8 b9 b10 b11 b12 b13 b14 b15 b16 b17 b18 b19 b20 b21 b22 b23 b24 b25 b26 b27 b28 b29 b30 b31) (paid_cons hD Paid.nil) (by rw [e]) (by kernel_rfl) ha hi
  · cases h
def h7 : CallH := withV 25 rbigS (withV 47 bigS h6)
end Go.Proofs.YtapficdphhfpnaaDoor
namespace Go.Ev
set_option linter.unusedSectionVars false
variable [Tab]

def isW : V → Bool
  | .ptw _ => true
  | _ => false
where
  aps (x : V) (n : Option Nat) : List V → List (Option Nat) → Bool
  | y :: ys, k :: ks => (match isW x || isW y, n, k with | true, some a, some b => !(Nat.beq a b) | _, _, _ => true) && aps x n ys ks
  | _, _ => true
section
variable {P : Program} {q : FuncId → Bool} {H : CallH} {Λ : LoopH}
end
end Go.Ev
