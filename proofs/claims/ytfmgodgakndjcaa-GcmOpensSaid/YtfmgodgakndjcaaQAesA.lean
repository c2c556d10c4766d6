/- The program's words, in the numbers of ShaM. Own work. -/
import Derived.Test.YtfmgodgakndjcaaQShaM
import Derived.Test.YtfmgodgakndjcaaQTab0
import Derived.Test.YtfmgodgakndjcaaRows
set_option linter.unusedSimpArgs false
set_option linter.unusedVariables false
set_option linter.unusedSectionVars false
namespace Go.Sh
open Go.Ev
theorem ior_add {k : IntKind} (hk : k.signed = false) {x y : Int} (s : Nat) (h0 : 0 ≤ x) (hm : x % 2 ^ s = 0) (hy : 0 ≤ y ∧ y < 2 ^ s) (hb : x + y < 2 ^ k.bits) : ior k x y = x + y := by
  rw [ior_io hk ⟨h0, by omega⟩ ⟨hy.1, by omega⟩]
  obtain ⟨b, hb2, rfl⟩ := wd_nat (w := s) hy
  have hx : x = ((x.toNat : Nat) : Int) := by omega
  have hd : x.toNat = x.toNat / 2 ^ s * 2 ^ s := by
    have h1 : ((x.toNat % 2 ^ s : Nat) : Int) = 0 := by
      rw [Int.natCast_emod, ← hx]; simpa using hm
    have h2 : x.toNat % 2 ^ s = 0 := by omega
    have := Nat.div_add_mod x.toNat (2 ^ s)
    rw [h2, Nat.add_zero, Nat.mul_comm] at this
    exact this.symm
  unfold io
  rw [Int.toNat_natCast, hd, or_add hb2, ← hd]
  omega
/-- Turned, as the program has it. -/
def R (k : IntKind) (s n x : Int) : Int := ior k (ishl k x s) (ishr k x n)
theorem R_eq {k : IntKind} (hk : k.signed = false) {n : Nat} (h : n ≤ k.bits) {x : Int} (hx : Wd k.bits x) : R k ((k.bits - n : Nat) : Int) (n : Int) x = rr k.bits n x := by
  unfold R
  rw [shl_mul hk (by omega), shr_div h, ior_io hk, rot_io h hx]
  · exact ⟨Int.emod_nonneg _ (Int.ne_of_gt (pos2 _)), Int.emod_lt_of_pos _ (pos2 _)⟩
  · obtain ⟨d1, d2⟩ := div_lt h hx
    refine ⟨d1, Int.lt_of_lt_of_le d2 ?_⟩
    have : (2 : Int) ^ k.bits = 2 ^ n * 2 ^ (k.bits - n) := pow_split h
    rw [this]
    have h1 : (1 : Int) ≤ 2 ^ n := by have := pos2 n; omega
    have := Int.mul_le_mul_of_nonneg_right h1 (Int.le_of_lt (pos2 (k.bits - n)))
    omega
theorem R32 {x : Int} (n : Nat) (h : n ≤ 32) (hx : Wd 32 x) : R .u32 ((32 - n : Nat) : Int) (n : Int) x = rr 32 n x := R_eq (k := .u32) rfl h hx
theorem R64 {x : Int} (n : Nat) (h : n ≤ 64) (hx : Wd 64 x) : R .u64 ((64 - n : Nat) : Int) (n : Int) x = rr 64 n x := R_eq (k := .u64) rfl h hx
theorem div_wd {w n : Nat} {x : Int} (hx : Wd w x) : Wd w (x / 2 ^ n) := by
  have hp := pos2 n
  refine ⟨Int.ediv_nonneg hx.1 (Int.le_of_lt hp), Int.lt_of_le_of_lt (Int.ediv_le_self _ hx.1) hx.2⟩
/-- As the program reckons them. -/
def s0_32 (x : Int) : Int := ixor .u32 (ixor .u32 (R .u32 25 7 x) (R .u32 14 18 x)) (ishr .u32 x 3)
def s1_32 (x : Int) : Int := ixor .u32 (ixor .u32 (R .u32 15 17 x) (R .u32 13 19 x)) (ishr .u32 x 10)
def S0_32 (x : Int) : Int := ixor .u32 (ixor .u32 (R .u32 30 2 x) (R .u32 19 13 x)) (R .u32 10 22 x)
def S1_32 (x : Int) : Int := ixor .u32 (ixor .u32 (R .u32 26 6 x) (R .u32 21 11 x)) (R .u32 7 25 x)
def s0_64 (x : Int) : Int := ixor .u64 (ixor .u64 (R .u64 63 1 x) (R .u64 56 8 x)) (ishr .u64 x 7)
def s1_64 (x : Int) : Int := ixor .u64 (ixor .u64 (R .u64 45 19 x) (R .u64 3 61 x)) (ishr .u64 x 6)
def S0_64 (x : Int) : Int := ixor .u64 (ixor .u64 (R .u64 36 28 x) (R .u64 30 34 x)) (R .u64 25 39 x)
def S1_64 (x : Int) : Int := ixor .u64 (ixor .u64 (R .u64 50 14 x) (R .u64 46 18 x)) (R .u64 23 41 x)
theorem xx32 {a b c : Int} (ha : Wd 32 a) (hb : Wd 32 b) (hc : Wd 32 c) : ixor .u32 (ixor .u32 a b) c = ix (ix a b) c := by
  rw [ixor_ix (k := .u32) rfl ha hb, ixor_ix (k := .u32) rfl (ix_wd ha hb) hc]
theorem xx64 {a b c : Int} (ha : Wd 64 a) (hb : Wd 64 b) (hc : Wd 64 c) : ixor .u64 (ixor .u64 a b) c = ix (ix a b) c := by
  rw [ixor_ix (k := .u64) rfl ha hb, ixor_ix (k := .u64) rfl (ix_wd ha hb) hc]
theorem sd32 {x : Int} (n : Nat) (h : n ≤ 32) : ishr .u32 x (n : Int) = x / 2 ^ n := shr_div (k := .u32) h
theorem sd64 {x : Int} (n : Nat) (h : n ≤ 64) : ishr .u64 x (n : Int) = x / 2 ^ n := shr_div (k := .u64) h
theorem s0_32_eq {x : Int} (h : Wd 32 x) : s0_32 x = sml0 32 x := by
  unfold s0_32 sml0
  rw [show R .u32 25 7 x = rr 32 7 x from R32 7 (by decide) h, show R .u32 14 18 x = rr 32 18 x from R32 18 (by decide) h, show ishr .u32 x 3 = x / 2 ^ 3 from sd32 3 (by decide), if_pos rfl,
    xx32 (rr_wd (by decide) h) (rr_wd (by decide) h) (div_wd h)]
theorem s1_32_eq {x : Int} (h : Wd 32 x) : s1_32 x = sml1 32 x := by
  unfold s1_32 sml1
  rw [show R .u32 15 17 x = rr 32 17 x from R32 17 (by decide) h, show R .u32 13 19 x = rr 32 19 x from R32 19 (by decide) h, show ishr .u32 x 10 = x / 2 ^ 10 from sd32 10 (by decide), if_pos rfl,
    xx32 (rr_wd (by decide) h) (rr_wd (by decide) h) (div_wd h)]
theorem S0_32_eq {x : Int} (h : Wd 32 x) : S0_32 x = big0 32 x := by
  unfold S0_32 big0
  rw [show R .u32 30 2 x = rr 32 2 x from R32 2 (by decide) h, show R .u32 19 13 x = rr 32 13 x from R32 13 (by decide) h, show R .u32 10 22 x = rr 32 22 x from R32 22 (by decide) h, if_pos rfl,
    xx32 (rr_wd (by decide) h) (rr_wd (by decide) h) (rr_wd (by decide) h)]
theorem S1_32_eq {x : Int} (h : Wd 32 x) : S1_32 x = big1 32 x := by
  unfold S1_32 big1
  rw [show R .u32 26 6 x = rr 32 6 x from R32 6 (by decide) h, show R .u32 21 11 x = rr 32 11 x from R32 11 (by decide) h, show R .u32 7 25 x = rr 32 25 x from R32 25 (by decide) h, if_pos rfl,
    xx32 (rr_wd (by decide) h) (rr_wd (by decide) h) (rr_wd (by decide) h)]
theorem s0_64_eq {x : Int} (h : Wd 64 x) : s0_64 x = sml0 64 x := by
  unfold s0_64 sml0
  rw [show R .u64 63 1 x = rr 64 1 x from R64 1 (by decide) h, show R .u64 56 8 x = rr 64 8 x from R64 8 (by decide) h, show ishr .u64 x 7 = x / 2 ^ 7 from sd64 7 (by decide), if_neg (by decide),
    xx64 (rr_wd (by decide) h) (rr_wd (by decide) h) (div_wd h)]
theorem s1_64_eq {x : Int} (h : Wd 64 x) : s1_64 x = sml1 64 x := by
  unfold s1_64 sml1
  rw [show R .u64 45 19 x = rr 64 19 x from R64 19 (by decide) h, show R .u64 3 61 x = rr 64 61 x from R64 61 (by decide) h, show ishr .u64 x 6 = x / 2 ^ 6 from sd64 6 (by decide), if_neg (by decide),
    xx64 (rr_wd (by decide) h) (rr_wd (by decide) h) (div_wd h)]
theorem S0_64_eq {x : Int} (h : Wd 64 x) : S0_64 x = big0 64 x := by
  unfold S0_64 big0
  rw [show R .u64 36 28 x = rr 64 28 x from R64 28 (by decide) h, show R .u64 30 34 x = rr 64 34 x from R64 34 (by decide) h, show R .u64 25 39 x = rr 64 39 x from R64 39 (by decide) h, if_neg (by decide),
    xx64 (rr_wd (by decide) h) (rr_wd (by decide) h) (rr_wd (by decide) h)]
theorem S1_64_eq {x : Int} (h : Wd 64 x) : S1_64 x = big1 64 x := by
  unfold S1_64 big1
  rw [show R .u64 50 14 x = rr 64 14 x from R64 14 (by decide) h, show R .u64 46 18 x = rr 64 18 x from R64 18 (by decide) h, show R .u64 23 41 x = rr 64 41 x from R64 41 (by decide) h, if_neg (by decide),
    xx64 (rr_wd (by decide) h) (rr_wd (by decide) h) (rr_wd (by decide) h)]
/- bytes -/
def B8 (x : Int) : Prop := 0 ≤ x ∧ x < 256
theorem bytes_at {l : List Int} {k n : Nat} (h : k + n ≤ l.length) : (l.drop k).take n = (List.range n).map fun j => l.getD (k + j) 0 := by
  apply List.ext_getElem?
  intro i
  by_cases hi : i < n
  · rw [List.getElem?_take_of_lt hi, List.getElem?_drop, List.getElem?_map, List.getElem?_range hi, Option.map_some, List.getD, List.getElem?_eq_getElem (show k + i < l.length by omega), Option.getD_some]
  · rw [List.getElem?_eq_none (by simp; omega), List.getElem?_eq_none (by simp; omega)]
def w4 (a b c d : Int) : Int := ior .u32 (ior .u32 (ior .u32 (ishl .u32 (IntKind.u32.wrap a) 24) (ishl .u32 (IntKind.u32.wrap b) 16)) (ishl .u32 (IntKind.u32.wrap c) 8)) (IntKind.u32.wrap d)
theorem sl32 {x : Int} (n : Nat) (h : n ≤ 32) : ishl .u32 x (n : Int) = x * 2 ^ n % 2 ^ 32 := shl_mul (k := .u32) rfl h
theorem sl64 {x : Int} (n : Nat) (h : n ≤ 64) : ishl .u64 x (n : Int) = x * 2 ^ n % 2 ^ 64 := shl_mul (k := .u64) rfl h
theorem w4_eq {a b c d : Int} (ha : B8 a) (hb : B8 b) (hc : B8 c) (hd : B8 d) : w4 a b c d = be [a, b, c, d] ∧ Wd 32 (be [a, b, c, d]) := by
  unfold B8 at *
  have wr : ∀ {x : Int}, 0 ≤ x ∧ x < 256 → IntKind.u32.wrap x = x := fun h => wrap_wd (k := .u32) rfl ⟨h.1, by simp [IntKind.bits]; omega⟩
  unfold w4
  rw [wr ha, wr hb, wr hc, wr hd, show ishl .u32 a 24 = a * 2 ^ 24 % 2 ^ 32 from sl32 24 (by decide), show ishl .u32 b 16 = b * 2 ^ 16 % 2 ^ 32 from sl32 16 (by decide), show ishl .u32 c 8 = c * 2 ^ 8 % 2 ^ 32 from sl32 8 (by decide)]
  have e1 : ior .u32 (a * 2 ^ 24 % 2 ^ 32) (b * 2 ^ 16 % 2 ^ 32) = a * 16777216 + b * 65536 := by
    rw [ior_add (k := .u32) rfl 24 (by omega) (by omega) (by omega) (by simp [IntKind.bits]; omega)]; omega
  have e2 : ior .u32 (a * 16777216 + b * 65536) (c * 2 ^ 8 % 2 ^ 32) = a * 16777216 + b * 65536 + c * 256 := by
    rw [ior_add (k := .u32) rfl 16 (by omega) (by omega) (by omega) (by simp [IntKind.bits]; omega)]; omega
  have e3 : ior .u32 (a * 16777216 + b * 65536 + c * 256) d = a * 16777216 + b * 65536 + c * 256 + d := by
    rw [ior_add (k := .u32) rfl 8 (by omega) (by omega) (by omega) (by simp [IntKind.bits]; omega)]
  rw [e1, e2, e3]
  simp only [be, List.foldl_cons, List.foldl_nil, Wd]
  omega
def w8 (a b c d e f g h : Int) : Int := ior .u64 (ior .u64 (ior .u64 (ior .u64 (ior .u64 (ior .u64 (ior .u64 (ishl .u64 (IntKind.u64.wrap a) 56) (ishl .u64 (IntKind.u64.wrap b) 48)) (ishl .u64 (IntKind.u64.wrap c) 40)) (ishl .u64 (IntKind.u64.wrap d) 32)) (ishl .u64 (IntKind.u64.wrap e) 24)) (ishl .u64 (IntKind.u64.wrap f) 16)) (ishl .u64 (IntKind.u64.wrap g) 8)) (IntKind.u64.wrap h)
theorem w8_eq {a b c d e f g h : Int} (ha : B8 a) (hb : B8 b) (hc : B8 c) (hd : B8 d) (he : B8 e) (hf : B8 f) (hg : B8 g) (hh : B8 h) : w8 a b c d e f g h = be [a, b, c, d, e, f, g, h] ∧ Wd 64 (be [a, b, c, d, e, f, g, h]) := by
  unfold B8 at *
  have wr : ∀ {x : Int}, 0 ≤ x ∧ x < 256 → IntKind.u64.wrap x = x := fun h => wrap_wd (k := .u64) rfl ⟨h.1, by simp [IntKind.bits]; omega⟩
  unfold w8
  rw [wr ha, wr hb, wr hc, wr hd, wr he, wr hf, wr hg, wr hh, show ishl .u64 a 56 = a * 2 ^ 56 % 2 ^ 64 from sl64 56 (by decide), show ishl .u64 b 48 = b * 2 ^ 48 % 2 ^ 64 from sl64 48 (by decide), show ishl .u64 c 40 = c * 2 ^ 40 % 2 ^ 64 from sl64 40 (by decide), show ishl .u64 d 32 = d * 2 ^ 32 % 2 ^ 64 from sl64 32 (by decide), show ishl .u64 e 24 = e * 2 ^ 24 % 2 ^ 64 from sl64 24 (by decide), show ishl .u64 f 16 = f * 2 ^ 16 % 2 ^ 64 from sl64 16 (by decide), show ishl .u64 g 8 = g * 2 ^ 8 % 2 ^ 64 from sl64 8 (by decide)]
  have e1 : ior .u64 (a * 2 ^ 56 % 2 ^ 64) (b * 2 ^ 48 % 2 ^ 64) = a * 72057594037927936 + b * 281474976710656 := by
    rw [ior_add (k := .u64) rfl 56 (by omega) (by omega) (by omega) (by simp [IntKind.bits]; omega)]; omega
  have e2 : ior .u64 (a * 72057594037927936 + b * 281474976710656) (c * 2 ^ 40 % 2 ^ 64) = a * 72057594037927936 + b * 281474976710656 + c * 1099511627776 := by
    rw [ior_add (k := .u64) rfl 48 (by omega) (by omega) (by omega) (by simp [IntKind.bits]; omega)]; omega
  have e3 : ior .u64 (a * 72057594037927936 + b * 281474976710656 + c * 1099511627776) (d * 2 ^ 32 % 2 ^ 64) = a * 72057594037927936 + b * 281474976710656 + c * 1099511627776 + d * 4294967296 := by
    rw [ior_add (k := .u64) rfl 40 (by omega) (by omega) (by omega) (by simp [IntKind.bits]; omega)]; omega
  have e4 : ior .u64 (a * 72057594037927936 + b * 281474976710656 + c * 1099511627776 + d * 4294967296) (e * 2 ^ 24 % 2 ^ 64) = a * 72057594037927936 + b * 281474976710656 + c * 1099511627776 + d * 4294967296 + e * 16777216 := by
    rw [ior_add (k := .u64) rfl 32 (by omega) (by omega) (by omega) (by simp [IntKind.bits]; omega)]; omega
  have e5 : ior .u64 (a * 72057594037927936 + b * 281474976710656 + c * 1099511627776 + d * 4294967296 + e * 16777216) (f * 2 ^ 16 % 2 ^ 64) = a * 72057594037927936 + b * 281474976710656 + c * 1099511627776 + d * 4294967296 + e * 16777216 + f * 65536 := by
    rw [ior_add (k := .u64) rfl 24 (by omega) (by omega) (by omega) (by simp [IntKind.bits]; omega)]; omega
  have e6 : ior .u64 (a * 72057594037927936 + b * 281474976710656 + c * 1099511627776 + d * 4294967296 + e * 16777216 + f * 65536) (g * 2 ^ 8 % 2 ^ 64) = a * 72057594037927936 + b * 281474976710656 + c * 1099511627776 + d * 4294967296 + e * 16777216 + f * 65536 + g * 256 := by
    rw [ior_add (k := .u64) rfl 16 (by omega) (by omega) (by omega) (by simp [IntKind.bits]; omega)]; omega
  have e7 : ior .u64 (a * 72057594037927936 + b * 281474976710656 + c * 1099511627776 + d * 4294967296 + e * 16777216 + f * 65536 + g * 256) h = a * 72057594037927936 + b * 281474976710656 + c * 1099511627776 + d * 4294967296 + e * 16777216 + f * 65536 + g * 256 + h := by
    rw [ior_add (k := .u64) rfl 8 (by omega) (by omega) (by omega) (by simp [IntKind.bits]; omega)]
  rw [e1, e2, e3, e4, e5, e6, e7]
  simp only [be, List.foldl_cons, List.foldl_nil, Wd]
  omega
/- the words, as an array that is filled -/
theorem words_len (w : Nat) (b : List Int) : ∀ n, (wordsW w b n).length = n
  | 0 => rfl
  | n + 1 => by simp [wordsW, words_len w b n]
def fillW (N w : Nat) (b : List Int) (n : Nat) : List Int := wordsW w b n ++ List.replicate (N - n) 0
theorem fill_set {N w : Nat} {b : List Int} {n : Nat} (h : n < N) : (fillW N w b n).set n (nextW w b (wordsW w b n)) = fillW N w b (n + 1) := by
  unfold fillW
  have e : List.replicate (N - n) (0 : Int) = 0 :: List.replicate (N - (n + 1)) 0 := by rw [← List.replicate_succ]; congr 1; omega
  rw [List.set_append, if_neg (by rw [words_len]; omega), words_len, Nat.sub_self, e, List.set_cons_zero]
  simp [wordsW]
theorem fill_get {N w : Nat} {b : List Int} {n j : Nat} (h : j < n) : (fillW N w b n).getD j 0 = (wordsW w b n).getD j 0 := by
  unfold fillW
  rw [List.getD, List.getD, List.getElem?_append_left (by rw [words_len]; exact h)]
theorem words_wd {w : Nat} {b : List Int} (hw : ∀ n, n < 16 → Wd w (be ((b.drop (w / 8 * n)).take (w / 8)))) : ∀ n, ∀ x ∈ wordsW w b n, Wd w x
  | 0, x, h => by cases h
  | n + 1, x, h => by
    rcases List.mem_append.1 h with h | h
    · exact words_wd hw n x h
    · simp only [List.mem_singleton] at h
      subst h
      unfold nextW
      rw [words_len]
      split
      · rename_i hn; exact hw n hn
      · exact ⟨Int.emod_nonneg _ (Int.ne_of_gt (pos2 w)), Int.emod_lt_of_pos _ (pos2 w)⟩
theorem getD_wd {w : Nat} {l : List Int} (h : ∀ x ∈ l, Wd w x) (i : Nat) : Wd w (l.getD i 0) := by
  by_cases hi : i < l.length
  · rw [List.getD, List.getElem?_eq_getElem hi]; exact h _ (List.getElem_mem hi)
  · rw [List.getD, List.getElem?_eq_none (by omega)]; exact ⟨by decide, pos2 w⟩
theorem getD_B8 {l : List Int} (h : ∀ x ∈ l, B8 x) (i : Nat) : B8 (l.getD i 0) := by
  by_cases hi : i < l.length
  · rw [List.getD, List.getElem?_eq_getElem hi]; exact h _ (List.getElem_mem hi)
  · rw [List.getD, List.getElem?_eq_none (by omega)]; exact ⟨by decide, by decide⟩
end Go.Sh
namespace Go.Proofs.Ytfmgodgakndjcaa
open Go.Ev Go.Sh
set_option maxRecDepth 100000
theorem mixed : Try.prog.follows .mixedOrders = true := by kernel_rfl
theorem noCount : Go.Ev.noCount Try.prog = true := by kernel_rfl
def qP (f : FuncId) : Bool := !Nat.beq f 1000000000
theorem inR_b8 {x : Int} (h : inR .u8 x = true) : B8 x := by rw [inR_iff] at h; simp only [lo, hi] at h; unfold B8; omega
theorem b8_inR {x : Int} (h : B8 x) : inR .u8 x = true := by rw [inR_iff]; simp only [lo, hi]; unfold B8 at h; omega
end Go.Proofs.Ytfmgodgakndjcaa
namespace Go.As
open Go.Ev Go.Sh
def sboxL : List Int := [99, 124, 119, 123, 242, 107, 111, 197, 48, 1, 103, 43, 254, 215, 171, 118, 202, 130, 201, 125, 250, 89, 71, 240, 173, 212, 162, 175, 156, 164, 114, 192, 183, 253, 147, 38, 54, 63, 247, 204, 52, 165, 229, 241, 113, 216, 49, 21, 4, 199, 35, 195, 24, 150, 5, 154, 7, 18, 128, 226, 235, 39, 178, 117, 9, 131, 44, 26, 27, 110, 90, 160, 82, 59, 214, 179, 41, 227, 47, 132, 83, 209, 0, 237, 32, 252, 177, 91, 106, 203, 190, 57, 74, 76, 88, 207, 208, 239, 170, 251, 67, 77, 51, 133, 69, 249, 2, 127, 80, 60, 159, 168, 81, 163, 64, 143, 146, 157, 56, 245, 188, 182, 218, 33, 16, 255, 243, 210, 205, 12, 19, 236, 95, 151, 68, 23, 196, 167, 126, 61, 100, 93, 25, 115, 96, 129, 79, 220, 34, 42, 144, 136, 70, 238, 184, 20, 222, 94, 11, 219, 224, 50, 58, 10, 73, 6, 36, 92, 194, 211, 172, 98, 145, 149, 228, 121, 231, 200, 55, 109, 141, 213, 78, 169, 108, 86, 244, 234, 101, 122, 174, 8, 186, 120, 37, 46, 28, 166, 180, 198, 232, 221, 116, 31, 75, 189, 139, 138, 112, 62, 181, 102, 72, 3, 246, 14, 97, 53, 87, 185, 134, 193, 29, 158, 225, 248, 152, 17, 105, 217, 142, 148, 155, 30, 135, 233, 206, 85, 40, 223, 140, 161, 137, 13, 191, 230, 66, 104, 65, 153, 45, 15, 176, 84, 187, 22]
def invL : List Int := [82, 9, 106, 213, 48, 54, 165, 56, 191, 64, 163, 158, 129, 243, 215, 251, 124, 227, 57, 130, 155, 47, 255, 135, 52, 142, 67, 68, 196, 222, 233, 203, 84, 123, 148, 50, 166, 194, 35, 61, 238, 76, 149, 11, 66, 250, 195, 78, 8, 46, 161, 102, 40, 217, 36, 178, 118, 91, 162, 73, 109, 139, 209, 37, 114, 248, 246, 100, 134, 104, 152, 22, 212, 164, 92, 204, 93, 101, 182, 146, 108, 112, 72, 80, 253, 237, 185, 218, 94, 21, 70, 87, 167, 141, 157, 132, 144, 216, 171, 0, 140, 188, 211, 10, 247, 228, 88, 5, 184, 179, 69, 6, 208, 44, 30, 143, 202, 63, 15, 2, 193, 175, 189, 3, 1, 19, 138, 107, 58, 145, 17, 65, 79, 103, 220, 234, 151, 242, 207, 206, 240, 180, 230, 115, 150, 172, 116, 34, 231, 173, 53, 133, 226, 249, 55, 232, 28, 117, 223, 110, 71, 241, 26, 113, 29, 41, 197, 137, 111, 183, 98, 14, 170, 24, 190, 27, 252, 86, 62, 75, 198, 210, 121, 32, 154, 219, 192, 254, 120, 205, 90, 244, 31, 221, 168, 51, 136, 7, 199, 49, 177, 18, 16, 89, 39, 128, 236, 95, 96, 81, 127, 169, 25, 181, 74, 13, 45, 229, 122, 159, 147, 201, 156, 239, 160, 224, 59, 77, 174, 42, 245, 176, 200, 235, 187, 60, 131, 83, 153, 97, 23, 43, 4, 126, 186, 119, 214, 38, 225, 105, 20, 99, 85, 33, 12, 125]
def sb (x : Int) : Int := sboxL.getD x.toNat 0
/-- What holds of each of the bytes. -/
theorem byte_all {p : Nat → Bool} (h : (List.range 256).all p = true) {x : Int} (hx : B8 x) : p x.toNat = true :=
  List.all_eq_true.1 h _ (List.mem_range.2 (by unfold B8 at hx; omega))
theorem b8_nat {x : Int} (hx : B8 x) : ((x.toNat : Nat) : Int) = x := by unfold B8 at hx; omega
theorem b8_wd {x : Int} (hx : B8 x) : Wd 8 x := by unfold B8 at hx; unfold Wd; omega
theorem wd_b8 {x : Int} (hx : Wd 8 x) : B8 x := by unfold B8; unfold Wd at hx; omega
theorem sb_tab : (List.range 256).all (fun n => decide (0 ≤ sboxL.getD n 0) && decide (sboxL.getD n 0 < 256) && decide (invL.getD (sboxL.getD n 0).toNat 0 = (n : Int))) = true := by kernel_rfl
theorem sb_b8 {x : Int} (hx : B8 x) : B8 (sb x) := by
  have h := byte_all sb_tab hx
  simp only [Bool.and_eq_true, decide_eq_true_eq] at h
  exact ⟨h.1.1, h.1.2⟩
theorem sb_inj {x y : Int} (hx : B8 x) (hy : B8 y) (h : sb x = sb y) : x = y := by
  have h1 := byte_all sb_tab hx
  have h2 := byte_all sb_tab hy
  simp only [Bool.and_eq_true, decide_eq_true_eq] at h1 h2
  have e1 : invL.getD (sb x).toNat 0 = x := by rw [← b8_nat hx]; unfold sb; rw [Int.toNat_natCast]; exact h1.2
  have e2 : invL.getD (sb y).toNat 0 = y := by rw [← b8_nat hy]; unfold sb; rw [Int.toNat_natCast]; exact h2.2
  rw [← e1, ← e2, h]
/- sums -/
theorem ix_nat (x y : Int) : (ix x y).toNat = x.toNat ^^^ y.toNat := by unfold ix; rw [Int.toNat_natCast]
theorem ix_assoc (x y z : Int) : ix (ix x y) z = ix x (ix y z) := by
  have h : (ix (ix x y) z).toNat = (ix x (ix y z)).toNat := by simp only [ix_nat, Nat.xor_assoc]
  unfold ix at h ⊢; omega
theorem ix_comm (x y : Int) : ix x y = ix y x := by unfold ix; rw [Nat.xor_comm]
theorem ix_left (x y z : Int) : ix x (ix y z) = ix y (ix x z) := by rw [← ix_assoc, ix_comm x y, ix_assoc]
theorem ix_self (x : Int) : ix x x = 0 := by unfold ix; rw [Nat.xor_self]; rfl
theorem ix_zero (x y : Int) : ix 0 (ix x y) = ix x y := by unfold ix; simp
theorem ix_two (x y z : Int) : ix x (ix x (ix y z)) = ix y z := by rw [← ix_assoc, ix_self, ix_zero]
theorem ix_z {x : Int} (h : 0 ≤ x) : ix 0 x = x := by unfold ix; simp; omega
theorem ix_z' {x : Int} (h : 0 ≤ x) : ix x 0 = x := by rw [ix_comm]; exact ix_z h
theorem ix_can {x y : Int} (h : 0 ≤ y) : ix x (ix x y) = y := by rw [← ix_assoc, ix_self, ix_z h]
theorem ix_b8 {x y : Int} (hx : B8 x) (hy : B8 y) : B8 (ix x y) := wd_b8 (ix_wd (b8_wd hx) (b8_wd hy))
theorem ixor_b {x y : Int} (hx : B8 x) (hy : B8 y) : ixor .u8 x y = ix x y := ixor_ix (k := .u8) rfl (b8_wd hx) (b8_wd hy)
/- times x -/
def dN (n : Nat) : Nat := (2 * n % 256) ^^^ (n / 128 % 2 * 27)
def dI (x : Int) : Int := ((dN x.toNat : Nat) : Int)
theorem dN_mod (n : Nat) : dN n = dN (n % 256) := by
  unfold dN
  rw [show 2 * n % 256 = 2 * (n % 256) % 256 by omega, show n / 128 % 2 = n % 256 / 128 % 2 by omega]
theorem dN_tab : ((List.range 256).all fun x => (List.range 256).all fun y => Nat.beq (dN (x ^^^ y)) (dN x ^^^ dN y)) = true := by kernel_rfl
theorem dN_xor (x y : Nat) : dN (x ^^^ y) = dN x ^^^ dN y := by
  rw [dN_mod (x ^^^ y), dN_mod x, dN_mod y, show (256 : Nat) = 2 ^ 8 from rfl, Nat.xor_mod_two_pow]
  have h1 := List.all_eq_true.1 dN_tab (x % 256) (List.mem_range.2 (by omega))
  exact Nat.eq_of_beq_eq_true (List.all_eq_true.1 h1 (y % 256) (List.mem_range.2 (by omega)))
theorem dI_ix (x y : Int) : dI (ix x y) = ix (dI x) (dI y) := by
  unfold dI; rw [ix_nat, dN_xor]; unfold ix; rw [Int.toNat_natCast, Int.toNat_natCast]
def dP (b : Int) : Int := ixor .u8 (ishl .u8 b 1) (IntKind.u8.wrap (ishr .u8 b 7 * 27))
theorem dP_tab : (List.range 256).all (fun n => decide (dP (n : Int) = dI (n : Int)) && decide (dI (n : Int) < 256)) = true := by kernel_rfl
theorem dP_eq {x : Int} (hx : B8 x) : dP x = dI x ∧ B8 (dI x) := by
  have h := byte_all dP_tab hx
  rw [b8_nat hx] at h
  simp only [Bool.and_eq_true, decide_eq_true_eq] at h
  exact ⟨h.1, by unfold dI; omega, h.2⟩
/- a column -/
def all4 (p q r s : Int) : Int := ixor .u8 (ixor .u8 (ixor .u8 p q) r) s
def mixC (p q r s : Int) : List Int := [ixor .u8 p (ixor .u8 (all4 p q r s) (dP (ixor .u8 p q))), ixor .u8 q (ixor .u8 (all4 p q r s) (dP (ixor .u8 q r))), ixor .u8 r (ixor .u8 (all4 p q r s) (dP (ixor .u8 r s))), ixor .u8 s (ixor .u8 (all4 p q r s) (dP (ixor .u8 s p)))]
/-- One of a column: 2a + 3b + c + d. -/
def mx (a b c d : Int) : Int := ix (dI a) (ix (dI b) (ix b (ix c d)))
theorem mx_b8 {a b c d : Int} (ha : B8 a) (hb : B8 b) (hc : B8 c) (hd : B8 d) : B8 (mx a b c d) := ix_b8 (dP_eq ha).2 (ix_b8 (dP_eq hb).2 (ix_b8 hb (ix_b8 hc hd)))
theorem mix_one {x a b c d : Int} {e : Int} (hx : B8 x) (hy : B8 a) (he : e = ix x (ix a (ix c d))) (ha : B8 e) (hc : B8 c) (hd : B8 d) (hb : b = a) : ixor .u8 x (ixor .u8 e (dP (ixor .u8 x b))) = mx x b c d := by
  subst hb he
  rw [ixor_b hx hy, (dP_eq (ix_b8 hx hy)).1, dI_ix, ixor_b ha (ix_b8 (dP_eq hx).2 (dP_eq hy).2), ixor_b hx (ix_b8 ha (ix_b8 (dP_eq hx).2 (dP_eq hy).2))]
  unfold mx
  have h : ix x (ix (ix x (ix b (ix c d))) (ix (dI x) (dI b))) = ix (ix b (ix c d)) (ix (dI x) (dI b)) := by
    rw [ix_assoc x, ix_can (by unfold ix; omega)]
  rw [h]
  simp only [ix_assoc, ix_comm, ix_left]
theorem mixC_eq {p q r s : Int} (hp : B8 p) (hq : B8 q) (hr : B8 r) (hs : B8 s) : mixC p q r s = [mx p q r s, mx q r s p, mx r s p q, mx s p q r] := by
  have e : all4 p q r s = ix p (ix q (ix r s)) := by
    unfold all4
    rw [ixor_b hp hq, ixor_b (ix_b8 hp hq) hr, ixor_b (ix_b8 (ix_b8 hp hq) hr) hs, ix_assoc, ix_assoc]
  have he : B8 (ix p (ix q (ix r s))) := ix_b8 hp (ix_b8 hq (ix_b8 hr hs))
  unfold mixC
  rw [e, mix_one hp hq rfl he hr hs rfl, mix_one hq hr (by simp only [ix_assoc, ix_comm, ix_left]) he hs hp rfl, mix_one hr hs (by simp only [ix_assoc, ix_comm, ix_left]) he hp hq rfl, mix_one hs hp (by simp only [ix_assoc, ix_comm, ix_left]) he hq hr rfl]
/-- Twice. -/
theorem mx_two (a b c d : Int) : mx (mx a b c d) (mx b c d a) (mx c d a b) (mx d a b c) = ix a (ix (dI (dI a)) (ix 0 (dI (dI c)))) := by
  unfold mx
  simp only [dI_ix]
  generalize dI (dI a) = aa
  generalize dI (dI b) = bb
  generalize dI (dI c) = cc
  generalize dI (dI d) = dd
  generalize dI a = a1
  generalize dI b = b1
  generalize dI c = c1
  generalize dI d = d1
  have h : ∀ x y : Int, (ix x y : Int) = ((x.toNat ^^^ y.toNat : Nat) : Int) := fun _ _ => rfl
  simp only [h, Int.toNat_natCast, Int.toNat_zero, Nat.zero_xor]
  congr 1
  generalize a.toNat = a, b.toNat = b, c.toNat = c, d.toNat = d, aa.toNat = aa, bb.toNat = bb, cc.toNat = cc, dd.toNat = dd, a1.toNat = a1, b1.toNat = b1, c1.toNat = c1, d1.toNat = d1
  apply Nat.eq_of_testBit_eq
  intro i
  simp only [Nat.testBit_xor]
  generalize a.testBit i = q0, b.testBit i = q1, c.testBit i = q2, d.testBit i = q3, aa.testBit i = q4, bb.testBit i = q5, cc.testBit i = q6, dd.testBit i = q7, a1.testBit i = q8, b1.testBit i = q9, c1.testBit i = q10, d1.testBit i = q11
  revert q0 q1 q2 q3 q4 q5 q6 q7 q8 q9 q10 q11
  decide +kernel
end Go.As
namespace Go.As
open Go.Ev Go.Sh
/- lists of bytes -/
def subB (b : List Int) : List Int := (List.range 16).map fun i => sb (b.getD (5 * i % 16) 0)
def mixB (b : List Int) : List Int := mixC (b.getD 0 0) (b.getD 1 0) (b.getD 2 0) (b.getD 3 0) ++ mixC (b.getD 4 0) (b.getD 5 0) (b.getD 6 0) (b.getD 7 0) ++ mixC (b.getD 8 0) (b.getD 9 0) (b.getD 10 0) (b.getD 11 0) ++ mixC (b.getD 12 0) (b.getD 13 0) (b.getD 14 0) (b.getD 15 0)
def addB (W : List Int) (n : Nat) (b : List Int) : List Int := (List.range 16).map fun i => ixor .u8 (b.getD i 0) (W.getD (16 * n + i) 0)
def subW (t : List Int) : List Int := [sb (t.getD 0 0), sb (t.getD 1 0), sb (t.getD 2 0), sb (t.getD 3 0)]
def sumW (v w : List Int) : List Int := [ixor .u8 (v.getD 0 0) (w.getD 0 0), ixor .u8 (v.getD 1 0) (w.getD 1 0), ixor .u8 (v.getD 2 0) (w.getD 2 0), ixor .u8 (v.getD 3 0) (w.getD 3 0)]
theorem len4 {l : List Int} (h : l.length = 4) : ∃ a b c d, l = [a, b, c, d] := by
  match l, h with
  | [a, b, c, d], _ => exact ⟨a, b, c, d, rfl⟩
theorem len16 {l : List Int} (h : l.length = 16) : ∃ a0 a1 a2 a3 a4 a5 a6 a7 a8 a9 a10 a11 a12 a13 a14 a15, l = [a0, a1, a2, a3, a4, a5, a6, a7, a8, a9, a10, a11, a12, a13, a14, a15] := by
  match l, h with
  | [a0, a1, a2, a3, a4, a5, a6, a7, a8, a9, a10, a11, a12, a13, a14, a15], _ => exact ⟨a0, a1, a2, a3, a4, a5, a6, a7, a8, a9, a10, a11, a12, a13, a14, a15, rfl⟩
end Go.As
namespace Go.Proofs.Ytfmgodgakndjcaa
open Go.Ev Go.Sh Go.As
set_option maxRecDepth 100000
def a0 : CallH := fun _ _ _ => none
theorem a0_ok : HOk Try.prog a0 := HOk.none

-- substitution
def sbS : List AV → E AV
  | [.int _ .u8 x] => some ([], .int true .u8 (sb x))
  | _ => none
theorem sb_eval (x : Int) : res (funcA Try.prog qP a0 100 58 [.int true .u8 x] []) = some ([decide (0 ≤ x) && decide (x < ((256 : Nat) : Int))], .int true .u8 (sb x)) := by kernel_rfl
theorem sb_ok {args : List AV} {o : List Bool} {v : AV} (h : sbS args = some (o, v)) : PureCall Try.prog 58 args v := by
  unfold sbS at h
  split at h
  · rename_i s x
    cases h
    intro ρ N vs ha
    cases ha with
    | cons _ _ _ _ r1 hb =>
      cases hb
      cases r1 with
      | int _ _ _ hr =>
        have hx := inR_b8 hr
        exact pure_of_res mixed noCount a0_ok (by rfl) (sb_eval x) (paid_cons (by unfold B8 at hx; simp; omega) Paid.nil) rfl (by rfl) (ρ := ρ) (N := N) (.cons _ _ _ _ (.int true .u8 x hr) .nil)
  · cases h
def ha1 : CallH := withC 58 sbS a0
theorem ha1_ok : HOk Try.prog ha1 := a0_ok.withC fun _ _ _ h _ => sb_ok h

-- words
def swS : List AV → E AV
  | [.ints .u8 4 t] => some ([], .ints .u8 4 (subW t))
  | _ => none
theorem sw_eval (a b c d : Int) : res (funcA Try.prog qP (deep Try.prog qP ha1 100 3) 100 36 [.ints .u8 4 [a, b, c, d]] []) = some ([], .ints .u8 4 [sb a, sb b, sb c, sb d]) := by kernel_rfl
theorem sw_ok {args : List AV} {o : List Bool} {v : AV} (h : swS args = some (o, v)) : PureCall Try.prog 36 args v := by
  unfold swS at h
  split at h
  · rename_i t
    cases h
    intro ρ N vs ha
    have hb := ha
    cases hb with
    | cons _ _ _ _ r1 hb =>
      cases r1 with
      | ints _ _ _ hn hl =>
        obtain ⟨a, b, c, d, rfl⟩ := len4 hn
        exact pure_of_res mixed noCount (ha1_ok.deep mixed noCount 100 3) (by rfl) (sw_eval a b c d) Paid.nil rfl (by rfl) ha
  · cases h
def suS : List AV → E AV
  | [.ints .u8 4 v, .ints .u8 4 w] => some ([], .ints .u8 4 (sumW v w))
  | _ => none
theorem su_eval (a b c d e f g h : Int) : res (funcA Try.prog qP (deep Try.prog qP ha1 100 3) 100 38 [.ints .u8 4 [a, b, c, d], .ints .u8 4 [e, f, g, h]] []) = some ([], .ints .u8 4 [ixor .u8 a e, ixor .u8 b f, ixor .u8 c g, ixor .u8 d h]) := by kernel_rfl
theorem su_ok {args : List AV} {o : List Bool} {v : AV} (h : suS args = some (o, v)) : PureCall Try.prog 38 args v := by
  unfold suS at h
  split at h
  · rename_i t u
    cases h
    intro ρ N vs ha
    have hb := ha
    cases hb with
    | cons _ _ _ _ r1 hb =>
      cases r1 with
      | ints _ _ _ hn hl =>
        cases hb with
        | cons _ _ _ _ r2 hb =>
          cases r2 with
          | ints _ _ _ hn2 hl2 =>
            obtain ⟨a, b, c, d, rfl⟩ := len4 hn
            obtain ⟨e, f, g, h, rfl⟩ := len4 hn2
            exact pure_of_res mixed noCount (ha1_ok.deep mixed noCount 100 3) (by rfl) (su_eval a b c d e f g h) Paid.nil rfl (by rfl) ha
  · cases h
def ha2 : CallH := withC 38 suS (withC 36 swS ha1)
theorem ha2_ok : HOk Try.prog ha2 := (ha1_ok.withC fun _ _ _ h _ => sw_ok h).withC fun _ _ _ h _ => su_ok h

-- blocks
def sbkS : List AV → E AV
  | [.ints .u8 16 b] => some ([], .ints .u8 16 (subB b))
  | _ => none
theorem sbk_eval (a0 a1 a2 a3 a4 a5 a6 a7 a8 a9 a10 a11 a12 a13 a14 a15 : Int) : res (funcA Try.prog qP (deep Try.prog qP ha2 100 3) 100 85 [.ints .u8 16 [a0, a1, a2, a3, a4, a5, a6, a7, a8, a9, a10, a11, a12, a13, a14, a15]] []) = some ([], .ints .u8 16 (subB [a0, a1, a2, a3, a4, a5, a6, a7, a8, a9, a10, a11, a12, a13, a14, a15])) := by kernel_rfl
theorem sbk_ok {args : List AV} {o : List Bool} {v : AV} (h : sbkS args = some (o, v)) : PureCall Try.prog 85 args v := by
  unfold sbkS at h
  split at h
  · rename_i t
    cases h
    intro ρ N vs ha
    have hb := ha
    cases hb with
    | cons _ _ _ _ r1 hb =>
      cases r1 with
      | ints _ _ _ hn hl =>
        obtain ⟨a0, a1, a2, a3, a4, a5, a6, a7, a8, a9, a10, a11, a12, a13, a14, a15, rfl⟩ := len16 hn
        exact pure_of_res mixed noCount (ha2_ok.deep mixed noCount 100 3) (by rfl) (sbk_eval a0 a1 a2 a3 a4 a5 a6 a7 a8 a9 a10 a11 a12 a13 a14 a15) Paid.nil rfl (by rfl) ha
  · cases h
def mxbS : List AV → E AV
  | [.ints .u8 16 b] => some ([], .ints .u8 16 (mixB b))
  | _ => none
theorem mxb_eval (a0 a1 a2 a3 a4 a5 a6 a7 a8 a9 a10 a11 a12 a13 a14 a15 : Int) : res (funcA Try.prog qP (deep Try.prog qP ha2 100 3) 100 84 [.ints .u8 16 [a0, a1, a2, a3, a4, a5, a6, a7, a8, a9, a10, a11, a12, a13, a14, a15]] []) = some ([], .ints .u8 16 (mixB [a0, a1, a2, a3, a4, a5, a6, a7, a8, a9, a10, a11, a12, a13, a14, a15])) := by kernel_rfl
theorem mxb_ok {args : List AV} {o : List Bool} {v : AV} (h : mxbS args = some (o, v)) : PureCall Try.prog 84 args v := by
  unfold mxbS at h
  split at h
  · rename_i t
    cases h
    intro ρ N vs ha
    have hb := ha
    cases hb with
    | cons _ _ _ _ r1 hb =>
      cases r1 with
      | ints _ _ _ hn hl =>
        obtain ⟨a0, a1, a2, a3, a4, a5, a6, a7, a8, a9, a10, a11, a12, a13, a14, a15, rfl⟩ := len16 hn
        exact pure_of_res mixed noCount (ha2_ok.deep mixed noCount 100 3) (by rfl) (mxb_eval a0 a1 a2 a3 a4 a5 a6 a7 a8 a9 a10 a11 a12 a13 a14 a15) Paid.nil rfl (by rfl) ha
  · cases h
def ha3 : CallH := withC 84 mxbS (withC 85 sbkS ha2)
theorem ha3_ok : HOk Try.prog ha3 := (ha2_ok.withC fun _ _ _ h _ => sbk_ok h).withC fun _ _ _ h _ => mxb_ok h
end Go.Proofs.Ytfmgodgakndjcaa
