/- Numbers of 32 bytes, as the program and the reference read them. Own work. -/
import Derived.Test.YtdpaedcgbhlibaaWordsB
import Derived.Test.YtdpaedcgbhlibaaEvView
namespace Go.Wn
open Go.Ev
def B8 (x : Int) : Prop := 0 ≤ x ∧ x < 256
def sh8 (x s : Int) : Int := ishl .u64 (IntKind.u64.wrap x) s
def orB (a b c d e f g h : Int) : Int := (ior .u64 (ior .u64 (ior .u64 (ior .u64 (ior .u64 (ior .u64 (ior .u64 (ior .u64 0 (sh8 a 56)) (sh8 b 48)) (sh8 c 40)) (sh8 d 32)) (sh8 e 24)) (sh8 f 16)) (sh8 g 8)) (sh8 h 0))
def orL (a b c d e f g h : Int) : Int := (ior .u64 (ior .u64 (ior .u64 (ior .u64 (ior .u64 (ior .u64 (ior .u64 (ior .u64 0 (sh8 a 0)) (sh8 b 8)) (sh8 c 16)) (sh8 d 24)) (sh8 e 32)) (sh8 f 40)) (sh8 g 48)) (sh8 h 56))
def W8 (a b c d e f g h : Int) : Int := 72057594037927936 * a + 281474976710656 * b + 1099511627776 * c + 4294967296 * d + 16777216 * e + 65536 * f + 256 * g + 1 * h
theorem sh8_eq {x : Int} (h : B8 x) {s : Nat} (hs : s ≤ 56) : sh8 x s = x * 2 ^ s ∧ 0 ≤ x * 2 ^ s ∧ x * 2 ^ s < 18446744073709551616 := by
  unfold B8 at h
  have hp : (0 : Int) < 2 ^ s := Int.pow_pos (by omega)
  have h2 : (2 : Int) ^ s ≤ 2 ^ 56 := by exact_mod_cast Nat.pow_le_pow_right (by omega : 0 < 2) hs
  have h3 : 0 ≤ x * 2 ^ s := Int.mul_nonneg h.1 (by omega)
  have h4 : x * 2 ^ s ≤ 255 * 2 ^ s := Int.mul_le_mul_of_nonneg_right (by omega) (by omega)
  have h5 : x * 2 ^ s < 18446744073709551616 := by
    have : (2 : Int) ^ 56 = 72057594037927936 := by rfl
    omega
  refine ⟨?_, h3, h5⟩
  unfold sh8 ishl
  rw [uw64 (y := x) (by omega), Int.toNat_natCast, show min s IntKind.u64.bits = s by simp [IntKind.bits]; omega]
  exact uw64 ⟨h3, h5⟩
/-- 'or' of numbers whose bits stand apart is their sum. -/
theorem ior_sum {x y : Int} {s : Nat} {A : Int} (hA : 0 ≤ A) (hx : x = A * 2 ^ s) (hy : 0 ≤ y) (hy2 : y < 2 ^ s) (hb : x + y < 18446744073709551616) : ior .u64 x y = x + y ∧ ior .u64 y x = x + y := by
  have hp : (0 : Int) < 2 ^ s := Int.pow_pos (by omega)
  have hx0 : 0 ≤ x := by rw [hx]; exact Int.mul_nonneg hA (by omega)
  obtain ⟨X, rfl⟩ := Int.eq_ofNat_of_zero_le hx0
  obtain ⟨Y, rfl⟩ := Int.eq_ofNat_of_zero_le hy
  obtain ⟨a, rfl⟩ := Int.eq_ofNat_of_zero_le hA
  have hX : X = a <<< s := by rw [Nat.shiftLeft_eq]; exact_mod_cast hx
  have hY : Y < 2 ^ s := by exact_mod_cast hy2
  have key : X ||| Y = X + Y := by rw [hX]; exact (Nat.shiftLeft_add_eq_or_of_lt hY a).symm
  have e : ∀ z : Nat, (z : Int) < 18446744073709551616 → (bv (z : Int)).toNat = z := fun z hz => by
    have := bv_W (x := (z : Int)) ⟨by omega, hz⟩
    omega
  have one : ∀ u v : Nat, (u : Int) < 18446744073709551616 → (v : Int) < 18446744073709551616 → u ||| v = X + Y → ior .u64 u v = (X : Int) + Y := fun u v hu hv huv => by
    have h1 : (BitVec.ofInt IntKind.u64.bits (u : Int) ||| BitVec.ofInt IntKind.u64.bits (v : Int)).toNat = X + Y := by
      show (bv u ||| bv v).toNat = _
      rw [BitVec.toNat_or, e u hu, e v hv]; exact huv
    unfold ior
    rw [h1]
    exact uw64 (by omega)
  exact ⟨one X Y (by omega) (by omega) key, one Y X (by omega) (by omega) (by rw [Nat.or_comm]; exact key)⟩
theorem orB_eq {a b c d e f g h : Int} (ha : B8 a) (hb : B8 b) (hc : B8 c) (hd : B8 d) (he : B8 e) (hf : B8 f) (hg : B8 g) (hh : B8 h) : orB a b c d e f g h = W8 a b c d e f g h := by
  have ka := fun s hs => @sh8_eq a ha s hs
  have kb := fun s hs => @sh8_eq b hb s hs
  have kc := fun s hs => @sh8_eq c hc s hs
  have kd := fun s hs => @sh8_eq d hd s hs
  have ke := fun s hs => @sh8_eq e he s hs
  have kf := fun s hs => @sh8_eq f hf s hs
  have kg := fun s hs => @sh8_eq g hg s hs
  have kh := fun s hs => @sh8_eq h hh s hs
  unfold B8 at *
  unfold orB W8
  rw [show (56 : Int) = ((56 : Nat) : Int) from rfl, show (48 : Int) = ((48 : Nat) : Int) from rfl, show (40 : Int) = ((40 : Nat) : Int) from rfl, show (32 : Int) = ((32 : Nat) : Int) from rfl, show (24 : Int) = ((24 : Nat) : Int) from rfl, show (16 : Int) = ((16 : Nat) : Int) from rfl, show (8 : Int) = ((8 : Nat) : Int) from rfl]
  have z : sh8 h 0 = h * 2 ^ 0 := (kh 0 (by omega)).1
  rw [z, (ka 56 (by omega)).1, (kb 48 (by omega)).1, (kc 40 (by omega)).1, (kd 32 (by omega)).1, (ke 24 (by omega)).1, (kf 16 (by omega)).1, (kg 8 (by omega)).1]
  simp only [Int.reducePow]
  rw [(ior_sum (x := 0) (y := a * 72057594037927936) (s := 64) (A := (0)) (by omega) (by simp only [Int.reducePow]; omega) (by omega) (by simp only [Int.reducePow]; omega) (by omega)).1]
  rw [(ior_sum (x := (0 + a * 72057594037927936)) (y := b * 281474976710656) (s := 56) (A := (a * 1)) (by omega) (by simp only [Int.reducePow]; omega) (by omega) (by simp only [Int.reducePow]; omega) (by omega)).1]
  rw [(ior_sum (x := ((0 + a * 72057594037927936) + b * 281474976710656)) (y := c * 1099511627776) (s := 48) (A := (a * 256 + b * 1)) (by omega) (by simp only [Int.reducePow]; omega) (by omega) (by simp only [Int.reducePow]; omega) (by omega)).1]
  rw [(ior_sum (x := (((0 + a * 72057594037927936) + b * 281474976710656) + c * 1099511627776)) (y := d * 4294967296) (s := 40) (A := (a * 65536 + b * 256 + c * 1)) (by omega) (by simp only [Int.reducePow]; omega) (by omega) (by simp only [Int.reducePow]; omega) (by omega)).1]
  rw [(ior_sum (x := ((((0 + a * 72057594037927936) + b * 281474976710656) + c * 1099511627776) + d * 4294967296)) (y := e * 16777216) (s := 32) (A := (a * 16777216 + b * 65536 + c * 256 + d * 1)) (by omega) (by simp only [Int.reducePow]; omega) (by omega) (by simp only [Int.reducePow]; omega) (by omega)).1]
  rw [(ior_sum (x := (((((0 + a * 72057594037927936) + b * 281474976710656) + c * 1099511627776) + d * 4294967296) + e * 16777216)) (y := f * 65536) (s := 24) (A := (a * 4294967296 + b * 16777216 + c * 65536 + d * 256 + e * 1)) (by omega) (by simp only [Int.reducePow]; omega) (by omega) (by simp only [Int.reducePow]; omega) (by omega)).1]
  rw [(ior_sum (x := ((((((0 + a * 72057594037927936) + b * 281474976710656) + c * 1099511627776) + d * 4294967296) + e * 16777216) + f * 65536)) (y := g * 256) (s := 16) (A := (a * 1099511627776 + b * 4294967296 + c * 16777216 + d * 65536 + e * 256 + f * 1)) (by omega) (by simp only [Int.reducePow]; omega) (by omega) (by simp only [Int.reducePow]; omega) (by omega)).1]
  rw [(ior_sum (x := (((((((0 + a * 72057594037927936) + b * 281474976710656) + c * 1099511627776) + d * 4294967296) + e * 16777216) + f * 65536) + g * 256)) (y := h * 1) (s := 8) (A := (a * 281474976710656 + b * 1099511627776 + c * 4294967296 + d * 16777216 + e * 65536 + f * 256 + g * 1)) (by omega) (by simp only [Int.reducePow]; omega) (by omega) (by simp only [Int.reducePow]; omega) (by omega)).1]
  omega
theorem orL_eq {a b c d e f g h : Int} (ha : B8 a) (hb : B8 b) (hc : B8 c) (hd : B8 d) (he : B8 e) (hf : B8 f) (hg : B8 g) (hh : B8 h) : orL a b c d e f g h = W8 h g f e d c b a := by
  have ka := fun s hs => @sh8_eq a ha s hs
  have kb := fun s hs => @sh8_eq b hb s hs
  have kc := fun s hs => @sh8_eq c hc s hs
  have kd := fun s hs => @sh8_eq d hd s hs
  have ke := fun s hs => @sh8_eq e he s hs
  have kf := fun s hs => @sh8_eq f hf s hs
  have kg := fun s hs => @sh8_eq g hg s hs
  have kh := fun s hs => @sh8_eq h hh s hs
  unfold B8 at *
  unfold orL W8
  rw [show (56 : Int) = ((56 : Nat) : Int) from rfl, show (48 : Int) = ((48 : Nat) : Int) from rfl, show (40 : Int) = ((40 : Nat) : Int) from rfl, show (32 : Int) = ((32 : Nat) : Int) from rfl, show (24 : Int) = ((24 : Nat) : Int) from rfl, show (16 : Int) = ((16 : Nat) : Int) from rfl, show (8 : Int) = ((8 : Nat) : Int) from rfl]
  have z : sh8 a 0 = a * 2 ^ 0 := (ka 0 (by omega)).1
  rw [z, (kb 8 (by omega)).1, (kc 16 (by omega)).1, (kd 24 (by omega)).1, (ke 32 (by omega)).1, (kf 40 (by omega)).1, (kg 48 (by omega)).1, (kh 56 (by omega)).1]
  simp only [Int.reducePow]
  rw [(ior_sum (x := a * 1) (y := 0) (s := 0) (A := a) (by omega) (by simp only [Int.reducePow]) (by omega) (by simp only [Int.reducePow]; omega) (by omega)).2]
  rw [(ior_sum (x := b * 256) (y := (a * 1 + 0)) (s := 8) (A := b) (by omega) (by simp only [Int.reducePow]) (by omega) (by simp only [Int.reducePow]; omega) (by omega)).2]
  rw [(ior_sum (x := c * 65536) (y := (b * 256 + (a * 1 + 0))) (s := 16) (A := c) (by omega) (by simp only [Int.reducePow]) (by omega) (by simp only [Int.reducePow]; omega) (by omega)).2]
  rw [(ior_sum (x := d * 16777216) (y := (c * 65536 + (b * 256 + (a * 1 + 0)))) (s := 24) (A := d) (by omega) (by simp only [Int.reducePow]) (by omega) (by simp only [Int.reducePow]; omega) (by omega)).2]
  rw [(ior_sum (x := e * 4294967296) (y := (d * 16777216 + (c * 65536 + (b * 256 + (a * 1 + 0))))) (s := 32) (A := e) (by omega) (by simp only [Int.reducePow]) (by omega) (by simp only [Int.reducePow]; omega) (by omega)).2]
  rw [(ior_sum (x := f * 1099511627776) (y := (e * 4294967296 + (d * 16777216 + (c * 65536 + (b * 256 + (a * 1 + 0)))))) (s := 40) (A := f) (by omega) (by simp only [Int.reducePow]) (by omega) (by simp only [Int.reducePow]; omega) (by omega)).2]
  rw [(ior_sum (x := g * 281474976710656) (y := (f * 1099511627776 + (e * 4294967296 + (d * 16777216 + (c * 65536 + (b * 256 + (a * 1 + 0))))))) (s := 48) (A := g) (by omega) (by simp only [Int.reducePow]) (by omega) (by simp only [Int.reducePow]; omega) (by omega)).2]
  rw [(ior_sum (x := h * 72057594037927936) (y := (g * 281474976710656 + (f * 1099511627776 + (e * 4294967296 + (d * 16777216 + (c * 65536 + (b * 256 + (a * 1 + 0)))))))) (s := 56) (A := h) (by omega) (by simp only [Int.reducePow]) (by omega) (by simp only [Int.reducePow]; omega) (by omega)).2]
  omega
end Go.Wn
