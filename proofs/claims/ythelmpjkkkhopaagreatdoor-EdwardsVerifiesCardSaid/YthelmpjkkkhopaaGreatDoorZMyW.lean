/- A number's bytes, as the program writes them. Own work. -/
import Derived.Test.YthelmpjkkkhopaaGreatDoorZMyMC
import Derived.Test.YthelmpjkkkhopaaGreatDoorZEvView
set_option linter.unusedSimpArgs false
set_option linter.unusedVariables false
set_option linter.unusedSectionVars false
namespace Go.Wn
open Go.Ev
def d8f (x : Int) (s : Nat) : Int:=x / 2 ^ s % 256
theorem a0o {x : Int} (_h : W x) {s : Nat} (hs : s ≤ 56) : IntKind.u8.wrap (d88 .u64 x (s : Int)) = d8f x s:=by
 rw [a2c (by simp [IntKind.bits];omega)]
 unfold d8f IntKind.wrap
 simp [IntKind.bits,IntKind.signed]
end Go.Wn
namespace Go.Proofs.YthelmpjkkkhopaaGreatDoor
open Go.Ev Go.Wn
set_option maxRecDepth 100000
def d8l : List Int → List Int
 | [a,b,c,d]=>[d8f a 0,d8f a 8,d8f a 16,d8f a 24,d8f a 32,d8f a 40,d8f a 48,d8f a 56,d8f b 0,d8f b 8,d8f b 16,d8f b 24,d8f b 32,d8f b 40,d8f b 48,d8f b 56,d8f c 0,d8f c 8,d8f c 16,d8f c 24,d8f c 32,d8f c 40,d8f c 48,d8f c 56,d8f d 0,d8f d 8,d8f d 16,d8f d 24,d8f d 32,d8f d 40,d8f d 48,d8f d 56]
 | l=>l
def f2v : List AV → E AV
 | [.ints .u64 4 l]=>some ([], .ints .u8 32 (d8l l))
 | _=>none
theorem c6d (a b c d : Int) : res (d81 Tryz.prog d93 h0 100 18 [.ints .u64 4 [a,b,c,d]] []) =
  some ([], .ints .u8 32 [IntKind.u8.wrap (d88 .u64 a 0),IntKind.u8.wrap (d88 .u64 a 8),IntKind.u8.wrap (d88 .u64 a 16),IntKind.u8.wrap (d88 .u64 a 24),IntKind.u8.wrap (d88 .u64 a 32),IntKind.u8.wrap (d88 .u64 a 40),IntKind.u8.wrap (d88 .u64 a 48),IntKind.u8.wrap (d88 .u64 a 56),IntKind.u8.wrap (d88 .u64 b 0),IntKind.u8.wrap (d88 .u64 b 8),IntKind.u8.wrap (d88 .u64 b 16),IntKind.u8.wrap (d88 .u64 b 24),IntKind.u8.wrap (d88 .u64 b 32),IntKind.u8.wrap (d88 .u64 b 40),IntKind.u8.wrap (d88 .u64 b 48),IntKind.u8.wrap (d88 .u64 b 56),IntKind.u8.wrap (d88 .u64 c 0),IntKind.u8.wrap (d88 .u64 c 8),IntKind.u8.wrap (d88 .u64 c 16),IntKind.u8.wrap (d88 .u64 c 24),IntKind.u8.wrap (d88 .u64 c 32),IntKind.u8.wrap (d88 .u64 c 40),IntKind.u8.wrap (d88 .u64 c 48),IntKind.u8.wrap (d88 .u64 c 56),IntKind.u8.wrap (d88 .u64 d 0),IntKind.u8.wrap (d88 .u64 d 8),IntKind.u8.wrap (d88 .u64 d 16),IntKind.u8.wrap (d88 .u64 d 24),IntKind.u8.wrap (d88 .u64 d 32),IntKind.u8.wrap (d88 .u64 d 40),IntKind.u8.wrap (d88 .u64 d 48),IntKind.u8.wrap (d88 .u64 d 56)]):=by kernel_rfl
theorem c8p {args : List AV} {o : List Bool} {v : AV} (h : f2v args = some (o,v)) : d86 Tryz.prog 18 args v:=by
 unfold f2v at h
 split at h
 ·rename_i l
  cases h
  intro ρ N vs ha
  have hb:=ha
  cases hb with
  | cons _ _ _ _ r0 hb =>
   obtain ⟨a,b,c,d,rfl,wa,wb,wc,wd⟩:=a0g r0
   have e : ([IntKind.u8.wrap (d88 .u64 a 0),IntKind.u8.wrap (d88 .u64 a 8),IntKind.u8.wrap (d88 .u64 a 16),IntKind.u8.wrap (d88 .u64 a 24),IntKind.u8.wrap (d88 .u64 a 32),IntKind.u8.wrap (d88 .u64 a 40),IntKind.u8.wrap (d88 .u64 a 48),IntKind.u8.wrap (d88 .u64 a 56),IntKind.u8.wrap (d88 .u64 b 0),IntKind.u8.wrap (d88 .u64 b 8),IntKind.u8.wrap (d88 .u64 b 16),IntKind.u8.wrap (d88 .u64 b 24),IntKind.u8.wrap (d88 .u64 b 32),IntKind.u8.wrap (d88 .u64 b 40),IntKind.u8.wrap (d88 .u64 b 48),IntKind.u8.wrap (d88 .u64 b 56),IntKind.u8.wrap (d88 .u64 c 0),IntKind.u8.wrap (d88 .u64 c 8),IntKind.u8.wrap (d88 .u64 c 16),IntKind.u8.wrap (d88 .u64 c 24),IntKind.u8.wrap (d88 .u64 c 32),IntKind.u8.wrap (d88 .u64 c 40),IntKind.u8.wrap (d88 .u64 c 48),IntKind.u8.wrap (d88 .u64 c 56),IntKind.u8.wrap (d88 .u64 d 0),IntKind.u8.wrap (d88 .u64 d 8),IntKind.u8.wrap (d88 .u64 d 16),IntKind.u8.wrap (d88 .u64 d 24),IntKind.u8.wrap (d88 .u64 d 32),IntKind.u8.wrap (d88 .u64 d 40),IntKind.u8.wrap (d88 .u64 d 48),IntKind.u8.wrap (d88 .u64 d 56)] : List Int) = d8l [a,b,c,d]:=by
    unfold d8l
    simp only [List.cons.injEq,and_true]
    exact ⟨a0o wa (s:=0) (by omega),a0o wa (s:=8) (by omega),a0o wa (s:=16) (by omega),a0o wa (s:=24) (by omega),a0o wa (s:=32) (by omega),a0o wa (s:=40) (by omega),a0o wa (s:=48) (by omega),a0o wa (s:=56) (by omega),a0o wb (s:=0) (by omega),a0o wb (s:=8) (by omega),a0o wb (s:=16) (by omega),a0o wb (s:=24) (by omega),a0o wb (s:=32) (by omega),a0o wb (s:=40) (by omega),a0o wb (s:=48) (by omega),a0o wb (s:=56) (by omega),a0o wc (s:=0) (by omega),a0o wc (s:=8) (by omega),a0o wc (s:=16) (by omega),a0o wc (s:=24) (by omega),a0o wc (s:=32) (by omega),a0o wc (s:=40) (by omega),a0o wc (s:=48) (by omega),a0o wc (s:=56) (by omega),a0o wd (s:=0) (by omega),a0o wd (s:=8) (by omega),a0o wd (s:=16) (by omega),a0o wd (s:=24) (by omega),a0o wd (s:=32) (by omega),a0o wd (s:=40) (by omega),a0o wd (s:=48) (by omega),a0o wd (s:=56) (by omega)⟩
   exact a0b mixed d7w a36 (by kernel_rfl) (c6d a b c d) d7x.nil (by rw [e]) (by kernel_rfl) ha
 ·cases h
def h6 : d82:=d8g 18 f2v h5
theorem f8i : HOk Tryz.prog h6:=d6a.d8g fun _ _ _ h _=>c8p h
end Go.Proofs.YthelmpjkkkhopaaGreatDoor
namespace Go.Wn
open Go.Ev
def B8 (x : Int) : Prop:=0 ≤ x ∧ x < 256
def sh8 (x s : Int) : Int:=d9l .u64 (IntKind.u64.wrap x) s
def orB (a b c d e f g h : Int) : Int:=(ior .u64 (ior .u64 (ior .u64 (ior .u64 (ior .u64 (ior .u64 (ior .u64 (ior .u64 0 (sh8 a 56)) (sh8 b 48)) (sh8 c 40)) (sh8 d 32)) (sh8 e 24)) (sh8 f 16)) (sh8 g 8)) (sh8 h 0))
def orL (a b c d e f g h : Int) : Int:=(ior .u64 (ior .u64 (ior .u64 (ior .u64 (ior .u64 (ior .u64 (ior .u64 (ior .u64 0 (sh8 a 0)) (sh8 b 8)) (sh8 c 16)) (sh8 d 24)) (sh8 e 32)) (sh8 f 40)) (sh8 g 48)) (sh8 h 56))
def W8 (a b c d e f g h : Int) : Int:=72057594037927936 * a + 281474976710656 * b + 1099511627776 * c + 4294967296 * d + 16777216 * e + 65536 * f + 256 * g + 1 * h
theorem a2o {x : Int} (h : B8 x) {s : Nat} (hs : s ≤ 56) : sh8 x s = x * 2 ^ s ∧ 0 ≤ x * 2 ^ s ∧ x * 2 ^ s < 18446744073709551616:=by
 unfold B8 at h
 have hp : (0 : Int) < 2 ^ s:=Int.pow_pos (by omega)
 have h2 : (2 : Int) ^ s ≤ 2 ^ 56:=by exact_mod_cast Nat.pow_le_pow_right (by omega : 0 < 2) hs
 have h3 : 0 ≤ x * 2 ^ s:=Int.mul_nonneg h.1 (by omega)
 have h4 : x * 2 ^ s ≤ 255 * 2 ^ s:=Int.mul_le_mul_of_nonneg_right (by omega) (by omega)
 have h5 : x * 2 ^ s < 18446744073709551616:=by
  have : (2 : Int) ^ 56 = 72057594037927936:=by rfl
  omega
 refine ⟨?_,h3,h5⟩
 unfold sh8 d9l
 rw [e2n (y:=x) (by omega),Int.toNat_natCast,show min s IntKind.u64.bits = s by simp [IntKind.bits];omega]
 exact e2n ⟨h3,h5⟩
theorem a1k {x y : Int} {s : Nat} {A : Int} (hA : 0 ≤ A) (hx : x = A * 2 ^ s) (hy : 0 ≤ y) (hy2 : y < 2 ^ s) (hb : x + y < 18446744073709551616) : ior .u64 x y = x + y ∧ ior .u64 y x = x + y:=by
 have hp : (0 : Int) < 2 ^ s:=Int.pow_pos (by omega)
 have hx0 : 0 ≤ x:=by rw [hx];exact Int.mul_nonneg hA (by omega)
 obtain ⟨X,rfl⟩:=Int.eq_ofNat_of_zero_le hx0
 obtain ⟨Y,rfl⟩:=Int.eq_ofNat_of_zero_le hy
 obtain ⟨a,rfl⟩:=Int.eq_ofNat_of_zero_le hA
 have hX : X = a <<< s:=by rw [Nat.shiftLeft_eq];exact_mod_cast hx
 have hY : Y < 2 ^ s:=by exact_mod_cast hy2
 have key : X ||| Y = X + Y:=by rw [hX];exact (Nat.shiftLeft_add_eq_or_of_lt hY a).symm
 have e : ∀ z : Nat,(z : Int) < 18446744073709551616 → (bv (z : Int)).toNat = z:=fun z hz=>by
  have:=e7o (x:=(z : Int)) ⟨by omega,hz⟩
  omega
 have one : ∀ u v : Nat,(u : Int) < 18446744073709551616 → (v : Int) < 18446744073709551616 → u ||| v = X + Y → ior .u64 u v = (X : Int) + Y:=fun u v hu hv huv=>by
  have h1 : (BitVec.ofInt IntKind.u64.bits (u : Int) ||| BitVec.ofInt IntKind.u64.bits (v : Int)).toNat = X + Y:=by
   show (bv u ||| bv v).toNat = _
   rw [BitVec.toNat_or,e u hu,e v hv];exact huv
  unfold ior
  rw [h1]
  exact e2n (by omega)
 exact ⟨one X Y (by omega) (by omega) key,one Y X (by omega) (by omega) (by rw [Nat.or_comm];exact key)⟩
theorem b86 {a b c d e f g h : Int} (ha : B8 a) (hb : B8 b) (hc : B8 c) (hd : B8 d) (he : B8 e) (hf : B8 f) (hg : B8 g) (hh : B8 h) : orB a b c d e f g h = W8 a b c d e f g h:=by
 have ka:=fun s hs => @a2o a ha s hs
 have kb:=fun s hs => @a2o b hb s hs
 have kc:=fun s hs => @a2o c hc s hs
 have kd:=fun s hs => @a2o d hd s hs
 have ke:=fun s hs => @a2o e he s hs
 have kf:=fun s hs => @a2o f hf s hs
 have kg:=fun s hs => @a2o g hg s hs
 have kh:=fun s hs => @a2o h hh s hs
 unfold B8 at *
 unfold orB W8
 rw [show (56 : Int) = ((56 : Nat) : Int) from rfl,show (48 : Int) = ((48 : Nat) : Int) from rfl,show (40 : Int) = ((40 : Nat) : Int) from rfl,show (32 : Int) = ((32 : Nat) : Int) from rfl,show (24 : Int) = ((24 : Nat) : Int) from rfl,show (16 : Int) = ((16 : Nat) : Int) from rfl,show (8 : Int) = ((8 : Nat) : Int) from rfl]
 have z : sh8 h 0 = h * 2 ^ 0:=(kh 0 (by omega)).1
 rw [z,(ka 56 (by omega)).1,(kb 48 (by omega)).1,(kc 40 (by omega)).1,(kd 32 (by omega)).1,(ke 24 (by omega)).1,(kf 16 (by omega)).1,(kg 8 (by omega)).1]
 simp only [Int.reducePow]
 rw [(a1k (x:=0) (y:=a * 72057594037927936) (s:=64) (A:=(0)) (by omega) (by simp only [Int.reducePow];omega) (by omega) (by simp only [Int.reducePow];omega) (by omega)).1]
 rw [(a1k (x:=(0 + a * 72057594037927936)) (y:=b * 281474976710656) (s:=56) (A:=(a * 1)) (by omega) (by simp only [Int.reducePow];omega) (by omega) (by simp only [Int.reducePow];omega) (by omega)).1]
 rw [(a1k (x:=((0 + a * 72057594037927936) + b * 281474976710656)) (y:=c * 1099511627776) (s:=48) (A:=(a * 256 + b * 1)) (by omega) (by simp only [Int.reducePow];omega) (by omega) (by simp only [Int.reducePow];omega) (by omega)).1]
 rw [(a1k (x:=(((0 + a * 72057594037927936) + b * 281474976710656) + c * 1099511627776)) (y:=d * 4294967296) (s:=40) (A:=(a * 65536 + b * 256 + c * 1)) (by omega) (by simp only [Int.reducePow];omega) (by omega) (by simp only [Int.reducePow];omega) (by omega)).1]
 rw [(a1k (x:=((((0 + a * 72057594037927936) + b * 281474976710656) + c * 1099511627776) + d * 4294967296)) (y:=e * 16777216) (s:=32) (A:=(a * 16777216 + b * 65536 + c * 256 + d * 1)) (by omega) (by simp only [Int.reducePow];omega) (by omega) (by simp only [Int.reducePow];omega) (by omega)).1]
 rw [(a1k (x:=(((((0 + a * 72057594037927936) + b * 281474976710656) + c * 1099511627776) + d * 4294967296) + e * 16777216)) (y:=f * 65536) (s:=24) (A:=(a * 4294967296 + b * 16777216 + c * 65536 + d * 256 + e * 1)) (by omega) (by simp only [Int.reducePow];omega) (by omega) (by simp only [Int.reducePow];omega) (by omega)).1]
 rw [(a1k (x:=((((((0 + a * 72057594037927936) + b * 281474976710656) + c * 1099511627776) + d * 4294967296) + e * 16777216) + f * 65536)) (y:=g * 256) (s:=16) (A:=(a * 1099511627776 + b * 4294967296 + c * 16777216 + d * 65536 + e * 256 + f * 1)) (by omega) (by simp only [Int.reducePow];omega) (by omega) (by simp only [Int.reducePow];omega) (by omega)).1]
 rw [(a1k (x:=(((((((0 + a * 72057594037927936) + b * 281474976710656) + c * 1099511627776) + d * 4294967296) + e * 16777216) + f * 65536) + g * 256)) (y:=h * 1) (s:=8) (A:=(a * 281474976710656 + b * 1099511627776 + c * 4294967296 + d * 16777216 + e * 65536 + f * 256 + g * 1)) (by omega) (by simp only [Int.reducePow];omega) (by omega) (by simp only [Int.reducePow];omega) (by omega)).1]
 omega
theorem b87 {a b c d e f g h : Int} (ha : B8 a) (hb : B8 b) (hc : B8 c) (hd : B8 d) (he : B8 e) (hf : B8 f) (hg : B8 g) (hh : B8 h) : orL a b c d e f g h = W8 h g f e d c b a:=by
 have ka:=fun s hs => @a2o a ha s hs
 have kb:=fun s hs => @a2o b hb s hs
 have kc:=fun s hs => @a2o c hc s hs
 have kd:=fun s hs => @a2o d hd s hs
 have ke:=fun s hs => @a2o e he s hs
 have kf:=fun s hs => @a2o f hf s hs
 have kg:=fun s hs => @a2o g hg s hs
 have kh:=fun s hs => @a2o h hh s hs
 unfold B8 at *
 unfold orL W8
 rw [show (56 : Int) = ((56 : Nat) : Int) from rfl,show (48 : Int) = ((48 : Nat) : Int) from rfl,show (40 : Int) = ((40 : Nat) : Int) from rfl,show (32 : Int) = ((32 : Nat) : Int) from rfl,show (24 : Int) = ((24 : Nat) : Int) from rfl,show (16 : Int) = ((16 : Nat) : Int) from rfl,show (8 : Int) = ((8 : Nat) : Int) from rfl]
 have z : sh8 a 0 = a * 2 ^ 0:=(ka 0 (by omega)).1
 rw [z,(kb 8 (by omega)).1,(kc 16 (by omega)).1,(kd 24 (by omega)).1,(ke 32 (by omega)).1,(kf 40 (by omega)).1,(kg 48 (by omega)).1,(kh 56 (by omega)).1]
 simp only [Int.reducePow]
 rw [(a1k (x:=a * 1) (y:=0) (s:=0) (A:=a) (by omega) (by simp only [Int.reducePow]) (by omega) (by simp only [Int.reducePow];omega) (by omega)).2]
 rw [(a1k (x:=b * 256) (y:=(a * 1 + 0)) (s:=8) (A:=b) (by omega) (by simp only [Int.reducePow]) (by omega) (by simp only [Int.reducePow];omega) (by omega)).2]
 rw [(a1k (x:=c * 65536) (y:=(b * 256 + (a * 1 + 0))) (s:=16) (A:=c) (by omega) (by simp only [Int.reducePow]) (by omega) (by simp only [Int.reducePow];omega) (by omega)).2]
 rw [(a1k (x:=d * 16777216) (y:=(c * 65536 + (b * 256 + (a * 1 + 0)))) (s:=24) (A:=d) (by omega) (by simp only [Int.reducePow]) (by omega) (by simp only [Int.reducePow];omega) (by omega)).2]
 rw [(a1k (x:=e * 4294967296) (y:=(d * 16777216 + (c * 65536 + (b * 256 + (a * 1 + 0))))) (s:=32) (A:=e) (by omega) (by simp only [Int.reducePow]) (by omega) (by simp only [Int.reducePow];omega) (by omega)).2]
 rw [(a1k (x:=f * 1099511627776) (y:=(e * 4294967296 + (d * 16777216 + (c * 65536 + (b * 256 + (a * 1 + 0)))))) (s:=40) (A:=f) (by omega) (by simp only [Int.reducePow]) (by omega) (by simp only [Int.reducePow];omega) (by omega)).2]
 rw [(a1k (x:=g * 281474976710656) (y:=(f * 1099511627776 + (e * 4294967296 + (d * 16777216 + (c * 65536 + (b * 256 + (a * 1 + 0))))))) (s:=48) (A:=g) (by omega) (by simp only [Int.reducePow]) (by omega) (by simp only [Int.reducePow];omega) (by omega)).2]
 rw [(a1k (x:=h * 72057594037927936) (y:=(g * 281474976710656 + (f * 1099511627776 + (e * 4294967296 + (d * 16777216 + (c * 65536 + (b * 256 + (a * 1 + 0)))))))) (s:=56) (A:=h) (by omega) (by simp only [Int.reducePow]) (by omega) (by simp only [Int.reducePow];omega) (by omega)).2]
 omega
end Go.Wn
namespace Go.Proofs.YthelmpjkkkhopaaGreatDoor
open Go.Ev Go.Wn
set_option maxRecDepth 100000
theorem a03 {x : Int} (h : inR .u8 x = true) : B8 x:=a6f h
def e4m : List Int → List Int
 | [b0,b1,b2,b3,b4,b5,b6,b7,b8,b9,b10,b11,b12,b13,b14,b15,b16,b17,b18,b19,b20,b21,b22,b23,b24,b25,b26,b27,b28,b29,b30,b31]=>[W8 b24 b25 b26 b27 b28 b29 b30 b31,W8 b16 b17 b18 b19 b20 b21 b22 b23,W8 b8 b9 b10 b11 b12 b13 b14 b15,W8 b0 b1 b2 b3 b4 b5 b6 b7]
 | l=>l
def e1s : List Int → List Int
 | [b0,b1,b2,b3,b4,b5,b6,b7,b8,b9,b10,b11,b12,b13,b14,b15,b16,b17,b18,b19,b20,b21,b22,b23,b24,b25,b26,b27,b28,b29,b30,b31]=>[W8 b7 b6 b5 b4 b3 b2 b1 b0,W8 b15 b14 b13 b12 b11 b10 b9 b8,W8 b23 b22 b21 b20 b19 b18 b17 b16,W8 b31 b30 b29 b28 b27 b26 b25 b24]
 | l=>l
theorem thirty {l : List Int} (h : l.length = 32) : ∃ b0 b1 b2 b3 b4 b5 b6 b7 b8 b9 b10 b11 b12 b13 b14 b15 b16 b17 b18 b19 b20 b21 b22 b23 b24 b25 b26 b27 b28 b29 b30 b31,l = [b0,b1,b2,b3,b4,b5,b6,b7,b8,b9,b10,b11,b12,b13,b14,b15,b16,b17,b18,b19,b20,b21,b22,b23,b24,b25,b26,b27,b28,b29,b30,b31]:=by
 match l,h with
 | [b0,b1,b2,b3,b4,b5,b6,b7,b8,b9,b10,b11,b12,b13,b14,b15,b16,b17,b18,b19,b20,b21,b22,b23,b24,b25,b26,b27,b28,b29,b30,b31],_=>exact ⟨b0,b1,b2,b3,b4,b5,b6,b7,b8,b9,b10,b11,b12,b13,b14,b15,b16,b17,b18,b19,b20,b21,b22,b23,b24,b25,b26,b27,b28,b29,b30,b31,rfl⟩
def f8j : List V → E (AV × Mem)
 | [.buf false .u8 32 l]=>some ([],(.tuple [.ints .u64 4 (e4m l), .bool false true],[]))
 | [.buf true .u8 n _]=>some ([!decide ((n : Int) = 32),decide (n < 9223372036854775808)],(.tuple [.ints .u64 4 [0,0,0,0], .bool false false],[]))
 | _=>none
theorem c6e (b0 b1 b2 b3 b4 b5 b6 b7 b8 b9 b10 b11 b12 b13 b14 b15 b16 b17 b18 b19 b20 b21 b22 b23 b24 b25 b26 b27 b28 b29 b30 b31 : Int) : res (d81 Tryz.prog d93 h0 100 88 (d7z 0 [.buf false .u8 32 [b0,b1,b2,b3,b4,b5,b6,b7,b8,b9,b10,b11,b12,b13,b14,b15,b16,b17,b18,b19,b20,b21,b22,b23,b24,b25,b26,b27,b28,b29,b30,b31]]) (d87 [.buf false .u8 32 [b0,b1,b2,b3,b4,b5,b6,b7,b8,b9,b10,b11,b12,b13,b14,b15,b16,b17,b18,b19,b20,b21,b22,b23,b24,b25,b26,b27,b28,b29,b30,b31]])) =
  some ([], .tuple [.ints .u64 4 [orB b24 b25 b26 b27 b28 b29 b30 b31,orB b16 b17 b18 b19 b20 b21 b22 b23,orB b8 b9 b10 b11 b12 b13 b14 b15,orB b0 b1 b2 b3 b4 b5 b6 b7], .bool false true]):=by kernel_rfl
theorem c3b (n : Nat) (l : List Int) : res ((d81 Tryz.prog d93 h0 100 88 (d7z 0 [.buf true .u8 n l]) (d87 [.buf true .u8 n l])).go [true]) =
  some ([decide (n < 9223372036854775808),(n : Int) != 32], .tuple [.ints .u64 4 [0,0,0,0], .bool false false]):=by kernel_rfl
theorem d6t {xs : List V} {o : List Bool} {v : AV} {bs : Mem} (h : f8j xs = some (o,(v,bs))) (ho : d7x o) : d7y Tryz.prog 88 xs v bs:=by
 unfold f8j at h
 split at h
 ·rename_i l
  cases h
  intro ρ vs w ha hi
  obtain ⟨hl,hr⟩:=a0l hi 0 rfl
  obtain ⟨b0,b1,b2,b3,b4,b5,b6,b7,b8,b9,b10,b11,b12,b13,b14,b15,b16,b17,b18,b19,b20,b21,b22,b23,b24,b25,b26,b27,b28,b29,b30,b31,rfl⟩:=thirty hl
  have e : ([orB b24 b25 b26 b27 b28 b29 b30 b31,orB b16 b17 b18 b19 b20 b21 b22 b23,orB b8 b9 b10 b11 b12 b13 b14 b15,orB b0 b1 b2 b3 b4 b5 b6 b7] : List Int) = e4m [b0,b1,b2,b3,b4,b5,b6,b7,b8,b9,b10,b11,b12,b13,b14,b15,b16,b17,b18,b19,b20,b21,b22,b23,b24,b25,b26,b27,b28,b29,b30,b31]:=by
   rw [b86 (a03 (hr b24 (by simp))) (a03 (hr b25 (by simp))) (a03 (hr b26 (by simp))) (a03 (hr b27 (by simp))) (a03 (hr b28 (by simp))) (a03 (hr b29 (by simp))) (a03 (hr b30 (by simp))) (a03 (hr b31 (by simp))),b86 (a03 (hr b16 (by simp))) (a03 (hr b17 (by simp))) (a03 (hr b18 (by simp))) (a03 (hr b19 (by simp))) (a03 (hr b20 (by simp))) (a03 (hr b21 (by simp))) (a03 (hr b22 (by simp))) (a03 (hr b23 (by simp))),b86 (a03 (hr b8 (by simp))) (a03 (hr b9 (by simp))) (a03 (hr b10 (by simp))) (a03 (hr b11 (by simp))) (a03 (hr b12 (by simp))) (a03 (hr b13 (by simp))) (a03 (hr b14 (by simp))) (a03 (hr b15 (by simp))),b86 (a03 (hr b0 (by simp))) (a03 (hr b1 (by simp))) (a03 (hr b2 (by simp))) (a03 (hr b3 (by simp))) (a03 (hr b4 (by simp))) (a03 (hr b5 (by simp))) (a03 (hr b6 (by simp))) (a03 (hr b7 (by simp)))];rfl
  exact a16 mixed d7w a36 (c6e b0 b1 b2 b3 b4 b5 b6 b7 b8 b9 b10 b11 b12 b13 b14 b15 b16 b17 b18 b19 b20 b21 b22 b23 b24 b25 b26 b27 b28 b29 b30 b31) d7x.nil (by rw [e]) (by kernel_rfl) ha hi
 ·rename_i n l
  cases h
  have hn:=ho _ (f9b ..)
  simp only [Bool.not_eq_true',decide_eq_false_iff_not] at hn
  intro ρ vs w ha hi
  have hlen:=ho _ (f9a _ (f9b ..))
  simp only [decide_eq_true_eq] at hlen
  exact a9v mixed d7w a36 [true] (c3b n l) (a00 (decide_eq_true hlen) (a00 (by simpa using hn) d7x.nil)) rfl (by kernel_rfl) ha hi
 ·cases h
def f2w : List V → E (AV × Mem)
 | [.buf false .u8 32 l]=>some ([],(.tuple [.ints .u64 4 (e1s l), .bool false true],[]))
 | [.buf true .u8 n _]=>some ([!decide ((n : Int) = 32),decide (n < 9223372036854775808)],(.tuple [.ints .u64 4 [0,0,0,0], .bool false false],[]))
 | _=>none
theorem c6f (b0 b1 b2 b3 b4 b5 b6 b7 b8 b9 b10 b11 b12 b13 b14 b15 b16 b17 b18 b19 b20 b21 b22 b23 b24 b25 b26 b27 b28 b29 b30 b31 : Int) : res (d81 Tryz.prog d93 h0 100 34 (d7z 0 [.buf false .u8 32 [b0,b1,b2,b3,b4,b5,b6,b7,b8,b9,b10,b11,b12,b13,b14,b15,b16,b17,b18,b19,b20,b21,b22,b23,b24,b25,b26,b27,b28,b29,b30,b31]]) (d87 [.buf false .u8 32 [b0,b1,b2,b3,b4,b5,b6,b7,b8,b9,b10,b11,b12,b13,b14,b15,b16,b17,b18,b19,b20,b21,b22,b23,b24,b25,b26,b27,b28,b29,b30,b31]])) =
  some ([], .tuple [.ints .u64 4 [orL b0 b1 b2 b3 b4 b5 b6 b7,orL b8 b9 b10 b11 b12 b13 b14 b15,orL b16 b17 b18 b19 b20 b21 b22 b23,orL b24 b25 b26 b27 b28 b29 b30 b31], .bool false true]):=by kernel_rfl
theorem c3c (n : Nat) (l : List Int) : res ((d81 Tryz.prog d93 h0 100 34 (d7z 0 [.buf true .u8 n l]) (d87 [.buf true .u8 n l])).go [true]) =
  some ([decide (n < 9223372036854775808),(n : Int) != 32], .tuple [.ints .u64 4 [0,0,0,0], .bool false false]):=by kernel_rfl
theorem d6u {xs : List V} {o : List Bool} {v : AV} {bs : Mem} (h : f2w xs = some (o,(v,bs))) (ho : d7x o) : d7y Tryz.prog 34 xs v bs:=by
 unfold f2w at h
 split at h
 ·rename_i l
  cases h
  intro ρ vs w ha hi
  obtain ⟨hl,hr⟩:=a0l hi 0 rfl
  obtain ⟨b0,b1,b2,b3,b4,b5,b6,b7,b8,b9,b10,b11,b12,b13,b14,b15,b16,b17,b18,b19,b20,b21,b22,b23,b24,b25,b26,b27,b28,b29,b30,b31,rfl⟩:=thirty hl
  have e : ([orL b0 b1 b2 b3 b4 b5 b6 b7,orL b8 b9 b10 b11 b12 b13 b14 b15,orL b16 b17 b18 b19 b20 b21 b22 b23,orL b24 b25 b26 b27 b28 b29 b30 b31] : List Int) = e1s [b0,b1,b2,b3,b4,b5,b6,b7,b8,b9,b10,b11,b12,b13,b14,b15,b16,b17,b18,b19,b20,b21,b22,b23,b24,b25,b26,b27,b28,b29,b30,b31]:=by
   rw [b87 (a03 (hr b0 (by simp))) (a03 (hr b1 (by simp))) (a03 (hr b2 (by simp))) (a03 (hr b3 (by simp))) (a03 (hr b4 (by simp))) (a03 (hr b5 (by simp))) (a03 (hr b6 (by simp))) (a03 (hr b7 (by simp))),b87 (a03 (hr b8 (by simp))) (a03 (hr b9 (by simp))) (a03 (hr b10 (by simp))) (a03 (hr b11 (by simp))) (a03 (hr b12 (by simp))) (a03 (hr b13 (by simp))) (a03 (hr b14 (by simp))) (a03 (hr b15 (by simp))),b87 (a03 (hr b16 (by simp))) (a03 (hr b17 (by simp))) (a03 (hr b18 (by simp))) (a03 (hr b19 (by simp))) (a03 (hr b20 (by simp))) (a03 (hr b21 (by simp))) (a03 (hr b22 (by simp))) (a03 (hr b23 (by simp))),b87 (a03 (hr b24 (by simp))) (a03 (hr b25 (by simp))) (a03 (hr b26 (by simp))) (a03 (hr b27 (by simp))) (a03 (hr b28 (by simp))) (a03 (hr b29 (by simp))) (a03 (hr b30 (by simp))) (a03 (hr b31 (by simp)))];rfl
  exact a16 mixed d7w a36 (c6f b0 b1 b2 b3 b4 b5 b6 b7 b8 b9 b10 b11 b12 b13 b14 b15 b16 b17 b18 b19 b20 b21 b22 b23 b24 b25 b26 b27 b28 b29 b30 b31) d7x.nil (by rw [e]) (by kernel_rfl) ha hi
 ·rename_i n l
  cases h
  have hn:=ho _ (f9b ..)
  simp only [Bool.not_eq_true',decide_eq_false_iff_not] at hn
  intro ρ vs w ha hi
  have hlen:=ho _ (f9a _ (f9b ..))
  simp only [decide_eq_true_eq] at hlen
  exact a9v mixed d7w a36 [true] (c3c n l) (a00 (decide_eq_true hlen) (a00 (by simpa using hn) d7x.nil)) rfl (by kernel_rfl) ha hi
 ·cases h
def dg2 (x y : Int) : Int:=IntKind.i64.wrap (IntKind.i64.wrap x + IntKind.i64.wrap (256 * IntKind.i64.wrap y))
theorem a2k {x y : Int} (hx : B8 x) (hy : B8 y) : dg2 x y = x + 256 * y:=by
 unfold B8 dg2 at *
 have w : ∀ {z : Int}, -9223372036854775808 ≤ z ∧ z < 9223372036854775808 → IntKind.i64.wrap z = z:=by
  intro z hz;unfold IntKind.wrap;simp [IntKind.bits,IntKind.signed];omega
 rw [w (z:=x) (by omega),w (z:=y) (by omega),w (z:=256 * y) (by omega),w (by omega)]
theorem a5b {x y : Int} (hx : B8 x) (hy : B8 y) : D (dg2 x y):=by
 rw [a2k hx hy];unfold B8 D at *;omega
def e8c : List V → E (AV × Mem)
 | [.buf false .u8 32 l]=>some ([],(.ints .u64 4 (e4m l),[]))
 | _=>none
theorem c3d (b0 b1 b2 b3 b4 b5 b6 b7 b8 b9 b10 b11 b12 b13 b14 b15 b16 b17 b18 b19 b20 b21 b22 b23 b24 b25 b26 b27 b28 b29 b30 b31 : Int) : res (d81 Tryz.prog d93 h6 100 60 (d7z 0 [.buf false .u8 32 [b0,b1,b2,b3,b4,b5,b6,b7,b8,b9,b10,b11,b12,b13,b14,b15,b16,b17,b18,b19,b20,b21,b22,b23,b24,b25,b26,b27,b28,b29,b30,b31]]) (d87 [.buf false .u8 32 [b0,b1,b2,b3,b4,b5,b6,b7,b8,b9,b10,b11,b12,b13,b14,b15,b16,b17,b18,b19,b20,b21,b22,b23,b24,b25,b26,b27,b28,b29,b30,b31]])) =
  some ([f1i [dg2 b31 b30,dg2 b29 b28,dg2 b27 b26,dg2 b25 b24,dg2 b23 b22,dg2 b21 b20,dg2 b19 b18,dg2 b17 b16,dg2 b15 b14,dg2 b13 b12,dg2 b11 b10,dg2 b9 b8,dg2 b7 b6,dg2 b5 b4,dg2 b3 b2,dg2 b1 b0]], .ints .u64 4 (f1j [dg2 b31 b30,dg2 b29 b28,dg2 b27 b26,dg2 b25 b24,dg2 b23 b22,dg2 b21 b20,dg2 b19 b18,dg2 b17 b16,dg2 b15 b14,dg2 b13 b12,dg2 b11 b10,dg2 b9 b8,dg2 b7 b6,dg2 b5 b4,dg2 b3 b2,dg2 b1 b0])):=by kernel_rfl
theorem d2m {xs : List V} {o : List Bool} {v : AV} {bs : Mem} (h : e8c xs = some (o,(v,bs))) : d7y Tryz.prog 60 xs v bs:=by
 unfold e8c at h
 split at h
 ·rename_i l
  cases h
  intro ρ vs w ha hi
  obtain ⟨hl,hr⟩:=a0l hi 0 rfl
  obtain ⟨b0,b1,b2,b3,b4,b5,b6,b7,b8,b9,b10,b11,b12,b13,b14,b15,b16,b17,b18,b19,b20,b21,b22,b23,b24,b25,b26,b27,b28,b29,b30,b31,rfl⟩:=thirty hl
  simp only [List.forall_mem_cons,List.not_mem_nil,false_implies,implies_true,and_true] at hr
  obtain ⟨k0,k1,k2,k3,k4,k5,k6,k7,k8,k9,k10,k11,k12,k13,k14,k15,k16,k17,k18,k19,k20,k21,k22,k23,k24,k25,k26,k27,k28,k29,k30,k31⟩:=hr
  have hD : f1i [dg2 b31 b30,dg2 b29 b28,dg2 b27 b26,dg2 b25 b24,dg2 b23 b22,dg2 b21 b20,dg2 b19 b18,dg2 b17 b16,dg2 b15 b14,dg2 b13 b12,dg2 b11 b10,dg2 b9 b8,dg2 b7 b6,dg2 b5 b4,dg2 b3 b2,dg2 b1 b0] = true:=by
   rw [b7y]
   simp only [List.forall_mem_cons,List.not_mem_nil,false_implies,implies_true,and_true]
   exact ⟨a5b (a03 k31) (a03 k30),a5b (a03 k29) (a03 k28),a5b (a03 k27) (a03 k26),a5b (a03 k25) (a03 k24),a5b (a03 k23) (a03 k22),a5b (a03 k21) (a03 k20),a5b (a03 k19) (a03 k18),a5b (a03 k17) (a03 k16),a5b (a03 k15) (a03 k14),a5b (a03 k13) (a03 k12),a5b (a03 k11) (a03 k10),a5b (a03 k9) (a03 k8),a5b (a03 k7) (a03 k6),a5b (a03 k5) (a03 k4),a5b (a03 k3) (a03 k2),a5b (a03 k1) (a03 k0)⟩
  have e : f1j [dg2 b31 b30,dg2 b29 b28,dg2 b27 b26,dg2 b25 b24,dg2 b23 b22,dg2 b21 b20,dg2 b19 b18,dg2 b17 b16,dg2 b15 b14,dg2 b13 b12,dg2 b11 b10,dg2 b9 b8,dg2 b7 b6,dg2 b5 b4,dg2 b3 b2,dg2 b1 b0] = e4m [b0,b1,b2,b3,b4,b5,b6,b7,b8,b9,b10,b11,b12,b13,b14,b15,b16,b17,b18,b19,b20,b21,b22,b23,b24,b25,b26,b27,b28,b29,b30,b31]:=by
   rw [a2k (a03 k31) (a03 k30),a2k (a03 k29) (a03 k28),a2k (a03 k27) (a03 k26),a2k (a03 k25) (a03 k24),a2k (a03 k23) (a03 k22),a2k (a03 k21) (a03 k20),a2k (a03 k19) (a03 k18),a2k (a03 k17) (a03 k16),a2k (a03 k15) (a03 k14),a2k (a03 k13) (a03 k12),a2k (a03 k11) (a03 k10),a2k (a03 k9) (a03 k8),a2k (a03 k7) (a03 k6),a2k (a03 k5) (a03 k4),a2k (a03 k3) (a03 k2),a2k (a03 k1) (a03 k0)]
   simp only [f1j,e4m,W8,List.cons.injEq,and_true]
   refine ⟨?_, ?_, ?_, ?_⟩ <;> omega
  exact a16 mixed d7w f8i (c3d b0 b1 b2 b3 b4 b5 b6 b7 b8 b9 b10 b11 b12 b13 b14 b15 b16 b17 b18 b19 b20 b21 b22 b23 b24 b25 b26 b27 b28 b29 b30 b31) (a00 hD d7x.nil) (by rw [e]) (by kernel_rfl) ha hi
 ·cases h
def h7 : d82:=d84 60 e8c (d84 34 f2w (d84 88 f8j h6))
end Go.Proofs.YthelmpjkkkhopaaGreatDoor
