/- The program's words, in the numbers of ShaM. Own work. -/
import Derived.Test.YtjhjhhibfojpiaaDoorVShaM
set_option linter.unusedSimpArgs false
set_option linter.unusedVariables false
set_option linter.unusedSectionVars false
namespace Go.Sh
open Go.Ev
theorem ior_add {k : IntKind} (hk : k.signed = false) {x y : Int} (s : Nat) (h0 : 0 ≤ x) (hm : x % 2 ^ s = 0) (hy : 0 ≤ y ∧ y < 2 ^ s) (hb : x + y < 2 ^ k.bits) : ior k x y = x + y := by
  rw [ior_io hk ⟨h0, by omega⟩ ⟨hy.1, by omega⟩]
  obtain ⟨b, hb2, rfl⟩ := wd_nat (w := s) hy
  have hx : x = ((x.toNat : Nat) : Int) := by omega
  have hd : x.toNat = x.toNat / 2 ^ s * 2 ^ s := by
    have h1 : ((x.toNat % 2 ^ s : Nat) : Int) = 0 := by
      rw [Int.natCast_emod, ← hx]; simpa using hm
    have h2 : x.toNat % 2 ^ s = 0 := by omega
    have := Nat.div_add_mod x.toNat (2 ^ s)
    rw [h2, Nat.add_zero, Nat.mul_comm] at this
    exact this.symm
  unfold io
  rw [Int.toNat_natCast, hd, or_add hb2, ← hd]
  omega
/-- Turned, as the program has it. -/
def R (k : IntKind) (s n x : Int) : Int := ior k (ishl k x s) (ishr k x n)
theorem R_eq {k : IntKind} (hk : k.signed = false) {n : Nat} (h : n ≤ k.bits) {x : Int} (hx : Wd k.bits x) : R k ((k.bits - n : Nat) : Int) (n : Int) x = rr k.bits n x := by
  unfold R
  rw [shl_mul hk (by omega), shr_div h, ior_io hk, rot_io h hx]
  · exact ⟨Int.emod_nonneg _ (Int.ne_of_gt (pos2 _)), Int.emod_lt_of_pos _ (pos2 _)⟩
  · obtain ⟨d1, d2⟩ := div_lt h hx
    refine ⟨d1, Int.lt_of_lt_of_le d2 ?_⟩
    have : (2 : Int) ^ k.bits = 2 ^ n * 2 ^ (k.bits - n) := pow_split h
    rw [this]
    have h1 : (1 : Int) ≤ 2 ^ n := by have := pos2 n; omega
    have := Int.mul_le_mul_of_nonneg_right h1 (Int.le_of_lt (pos2 (k.bits - n)))
    omega
theorem R32 {x : Int} (n : Nat) (h : n ≤ 32) (hx : Wd 32 x) : R .u32 ((32 - n : Nat) : Int) (n : Int) x = rr 32 n x := R_eq (k := .u32) rfl h hx
theorem R64 {x : Int} (n : Nat) (h : n ≤ 64) (hx : Wd 64 x) : R .u64 ((64 - n : Nat) : Int) (n : Int) x = rr 64 n x := R_eq (k := .u64) rfl h hx
theorem div_wd {w n : Nat} {x : Int} (hx : Wd w x) : Wd w (x / 2 ^ n) := by
  have hp := pos2 n
  refine ⟨Int.ediv_nonneg hx.1 (Int.le_of_lt hp), Int.lt_of_le_of_lt (Int.ediv_le_self _ hx.1) hx.2⟩
/-- As the program reckons them. -/
def s0_32 (x : Int) : Int := ixor .u32 (ixor .u32 (R .u32 25 7 x) (R .u32 14 18 x)) (ishr .u32 x 3)
def s1_32 (x : Int) : Int := ixor .u32 (ixor .u32 (R .u32 15 17 x) (R .u32 13 19 x)) (ishr .u32 x 10)
def S0_32 (x : Int) : Int := ixor .u32 (ixor .u32 (R .u32 30 2 x) (R .u32 19 13 x)) (R .u32 10 22 x)
def S1_32 (x : Int) : Int := ixor .u32 (ixor .u32 (R .u32 26 6 x) (R .u32 21 11 x)) (R .u32 7 25 x)
def s0_64 (x : Int) : Int := ixor .u64 (ixor .u64 (R .u64 63 1 x) (R .u64 56 8 x)) (ishr .u64 x 7)
def s1_64 (x : Int) : Int := ixor .u64 (ixor .u64 (R .u64 45 19 x) (R .u64 3 61 x)) (ishr .u64 x 6)
def S0_64 (x : Int) : Int := ixor .u64 (ixor .u64 (R .u64 36 28 x) (R .u64 30 34 x)) (R .u64 25 39 x)
def S1_64 (x : Int) : Int := ixor .u64 (ixor .u64 (R .u64 50 14 x) (R .u64 46 18 x)) (R .u64 23 41 x)
theorem xx32 {a b c : Int} (ha : Wd 32 a) (hb : Wd 32 b) (hc : Wd 32 c) : ixor .u32 (ixor .u32 a b) c = ix (ix a b) c := by
  rw [ixor_ix (k := .u32) rfl ha hb, ixor_ix (k := .u32) rfl (ix_wd ha hb) hc]
theorem xx64 {a b c : Int} (ha : Wd 64 a) (hb : Wd 64 b) (hc : Wd 64 c) : ixor .u64 (ixor .u64 a b) c = ix (ix a b) c := by
  rw [ixor_ix (k := .u64) rfl ha hb, ixor_ix (k := .u64) rfl (ix_wd ha hb) hc]
theorem sd32 {x : Int} (n : Nat) (h : n ≤ 32) : ishr .u32 x (n : Int) = x / 2 ^ n := shr_div (k := .u32) h
theorem sd64 {x : Int} (n : Nat) (h : n ≤ 64) : ishr .u64 x (n : Int) = x / 2 ^ n := shr_div (k := .u64) h
theorem s0_32_eq {x : Int} (h : Wd 32 x) : s0_32 x = sml0 32 x := by
  unfold s0_32 sml0
  rw [show R .u32 25 7 x = rr 32 7 x from R32 7 (by decide) h, show R .u32 14 18 x = rr 32 18 x from R32 18 (by decide) h, show ishr .u32 x 3 = x / 2 ^ 3 from sd32 3 (by decide), if_pos rfl,
    xx32 (rr_wd (by decide) h) (rr_wd (by decide) h) (div_wd h)]
theorem s1_32_eq {x : Int} (h : Wd 32 x) : s1_32 x = sml1 32 x := by
  unfold s1_32 sml1
  rw [show R .u32 15 17 x = rr 32 17 x from R32 17 (by decide) h, show R .u32 13 19 x = rr 32 19 x from R32 19 (by decide) h, show ishr .u32 x 10 = x / 2 ^ 10 from sd32 10 (by decide), if_pos rfl,
    xx32 (rr_wd (by decide) h) (rr_wd (by decide) h) (div_wd h)]
theorem S0_32_eq {x : Int} (h : Wd 32 x) : S0_32 x = big0 32 x := by
  unfold S0_32 big0
  rw [show R .u32 30 2 x = rr 32 2 x from R32 2 (by decide) h, show R .u32 19 13 x = rr 32 13 x from R32 13 (by decide) h, show R .u32 10 22 x = rr 32 22 x from R32 22 (by decide) h, if_pos rfl,
    xx32 (rr_wd (by decide) h) (rr_wd (by decide) h) (rr_wd (by decide) h)]
theorem S1_32_eq {x : Int} (h : Wd 32 x) : S1_32 x = big1 32 x := by
  unfold S1_32 big1
  rw [show R .u32 26 6 x = rr 32 6 x from R32 6 (by decide) h, show R .u32 21 11 x = rr 32 11 x from R32 11 (by decide) h, show R .u32 7 25 x = rr 32 25 x from R32 25 (by decide) h, if_pos rfl,
    xx32 (rr_wd (by decide) h) (rr_wd (by decide) h) (rr_wd (by decide) h)]
theorem s0_64_eq {x : Int} (h : Wd 64 x) : s0_64 x = sml0 64 x := by
  unfold s0_64 sml0
  rw [show R .u64 63 1 x = rr 64 1 x from R64 1 (by decide) h, show R .u64 56 8 x = rr 64 8 x from R64 8 (by decide) h, show ishr .u64 x 7 = x / 2 ^ 7 from sd64 7 (by decide), if_neg (by decide),
    xx64 (rr_wd (by decide) h) (rr_wd (by decide) h) (div_wd h)]
theorem s1_64_eq {x : Int} (h : Wd 64 x) : s1_64 x = sml1 64 x := by
  unfold s1_64 sml1
  rw [show R .u64 45 19 x = rr 64 19 x from R64 19 (by decide) h, show R .u64 3 61 x = rr 64 61 x from R64 61 (by decide) h, show ishr .u64 x 6 = x / 2 ^ 6 from sd64 6 (by decide), if_neg (by decide),
    xx64 (rr_wd (by decide) h) (rr_wd (by decide) h) (div_wd h)]
theorem S0_64_eq {x : Int} (h : Wd 64 x) : S0_64 x = big0 64 x := by
  unfold S0_64 big0
  rw [show R .u64 36 28 x = rr 64 28 x from R64 28 (by decide) h, show R .u64 30 34 x = rr 64 34 x from R64 34 (by decide) h, show R .u64 25 39 x = rr 64 39 x from R64 39 (by decide) h, if_neg (by decide),
    xx64 (rr_wd (by decide) h) (rr_wd (by decide) h) (rr_wd (by decide) h)]
theorem S1_64_eq {x : Int} (h : Wd 64 x) : S1_64 x = big1 64 x := by
  unfold S1_64 big1
  rw [show R .u64 50 14 x = rr 64 14 x from R64 14 (by decide) h, show R .u64 46 18 x = rr 64 18 x from R64 18 (by decide) h, show R .u64 23 41 x = rr 64 41 x from R64 41 (by decide) h, if_neg (by decide),
    xx64 (rr_wd (by decide) h) (rr_wd (by decide) h) (rr_wd (by decide) h)]
/- bytes -/
def B8 (x : Int) : Prop := 0 ≤ x ∧ x < 256
theorem bytes_at {l : List Int} {k n : Nat} (h : k + n ≤ l.length) : (l.drop k).take n = (List.range n).map fun j => l.getD (k + j) 0 := by
  apply List.ext_getElem?
  intro i
  by_cases hi : i < n
  · rw [List.getElem?_take_of_lt hi, List.getElem?_drop, List.getElem?_map, List.getElem?_range hi, Option.map_some, List.getD, List.getElem?_eq_getElem (show k + i < l.length by omega), Option.getD_some]
  · rw [List.getElem?_eq_none (by simp; omega), List.getElem?_eq_none (by simp; omega)]
def w4 (a b c d : Int) : Int := ior .u32 (ior .u32 (ior .u32 (ishl .u32 (IntKind.u32.wrap a) 24) (ishl .u32 (IntKind.u32.wrap b) 16)) (ishl .u32 (IntKind.u32.wrap c) 8)) (IntKind.u32.wrap d)
theorem sl32 {x : Int} (n : Nat) (h : n ≤ 32) : ishl .u32 x (n : Int) = x * 2 ^ n % 2 ^ 32 := shl_mul (k := .u32) rfl h
theorem sl64 {x : Int} (n : Nat) (h : n ≤ 64) : ishl .u64 x (n : Int) = x * 2 ^ n % 2 ^ 64 := shl_mul (k := .u64) rfl h
theorem w4_eq {a b c d : Int} (ha : B8 a) (hb : B8 b) (hc : B8 c) (hd : B8 d) : w4 a b c d = be [a, b, c, d] ∧ Wd 32 (be [a, b, c, d]) := by
  unfold B8 at *
  have wr : ∀ {x : Int}, 0 ≤ x ∧ x < 256 → IntKind.u32.wrap x = x := fun h => wrap_wd (k := .u32) rfl ⟨h.1, by simp [IntKind.bits]; omega⟩
  unfold w4
  rw [wr ha, wr hb, wr hc, wr hd, show ishl .u32 a 24 = a * 2 ^ 24 % 2 ^ 32 from sl32 24 (by decide), show ishl .u32 b 16 = b * 2 ^ 16 % 2 ^ 32 from sl32 16 (by decide), show ishl .u32 c 8 = c * 2 ^ 8 % 2 ^ 32 from sl32 8 (by decide)]
  have e1 : ior .u32 (a * 2 ^ 24 % 2 ^ 32) (b * 2 ^ 16 % 2 ^ 32) = a * 16777216 + b * 65536 := by
    rw [ior_add (k := .u32) rfl 24 (by omega) (by omega) (by omega) (by simp [IntKind.bits]; omega)]; omega
  have e2 : ior .u32 (a * 16777216 + b * 65536) (c * 2 ^ 8 % 2 ^ 32) = a * 16777216 + b * 65536 + c * 256 := by
    rw [ior_add (k := .u32) rfl 16 (by omega) (by omega) (by omega) (by simp [IntKind.bits]; omega)]; omega
  have e3 : ior .u32 (a * 16777216 + b * 65536 + c * 256) d = a * 16777216 + b * 65536 + c * 256 + d := by
    rw [ior_add (k := .u32) rfl 8 (by omega) (by omega) (by omega) (by simp [IntKind.bits]; omega)]
  rw [e1, e2, e3]
  simp only [be, List.foldl_cons, List.foldl_nil, Wd]
  omega
def w8 (a b c d e f g h : Int) : Int := ior .u64 (ior .u64 (ior .u64 (ior .u64 (ior .u64 (ior .u64 (ior .u64 (ishl .u64 (IntKind.u64.wrap a) 56) (ishl .u64 (IntKind.u64.wrap b) 48)) (ishl .u64 (IntKind.u64.wrap c) 40)) (ishl .u64 (IntKind.u64.wrap d) 32)) (ishl .u64 (IntKind.u64.wrap e) 24)) (ishl .u64 (IntKind.u64.wrap f) 16)) (ishl .u64 (IntKind.u64.wrap g) 8)) (IntKind.u64.wrap h)
theorem w8_eq {a b c d e f g h : Int} (ha : B8 a) (hb : B8 b) (hc : B8 c) (hd : B8 d) (he : B8 e) (hf : B8 f) (hg : B8 g) (hh : B8 h) : w8 a b c d e f g h = be [a, b, c, d, e, f, g, h] ∧ Wd 64 (be [a, b, c, d, e, f, g, h]) := by
  unfold B8 at *
  have wr : ∀ {x : Int}, 0 ≤ x ∧ x < 256 → IntKind.u64.wrap x = x := fun h => wrap_wd (k := .u64) rfl ⟨h.1, by simp [IntKind.bits]; omega⟩
  unfold w8
  rw [wr ha, wr hb, wr hc, wr hd, wr he, wr hf, wr hg, wr hh, show ishl .u64 a 56 = a * 2 ^ 56 % 2 ^ 64 from sl64 56 (by decide), show ishl .u64 b 48 = b * 2 ^ 48 % 2 ^ 64 from sl64 48 (by decide), show ishl .u64 c 40 = c * 2 ^ 40 % 2 ^ 64 from sl64 40 (by decide), show ishl .u64 d 32 = d * 2 ^ 32 % 2 ^ 64 from sl64 32 (by decide), show ishl .u64 e 24 = e * 2 ^ 24 % 2 ^ 64 from sl64 24 (by decide), show ishl .u64 f 16 = f * 2 ^ 16 % 2 ^ 64 from sl64 16 (by decide), show ishl .u64 g 8 = g * 2 ^ 8 % 2 ^ 64 from sl64 8 (by decide)]
  have e1 : ior .u64 (a * 2 ^ 56 % 2 ^ 64) (b * 2 ^ 48 % 2 ^ 64) = a * 72057594037927936 + b * 281474976710656 := by
    rw [ior_add (k := .u64) rfl 56 (by omega) (by omega) (by omega) (by simp [IntKind.bits]; omega)]; omega
  have e2 : ior .u64 (a * 72057594037927936 + b * 281474976710656) (c * 2 ^ 40 % 2 ^ 64) = a * 72057594037927936 + b * 281474976710656 + c * 1099511627776 := by
    rw [ior_add (k := .u64) rfl 48 (by omega) (by omega) (by omega) (by simp [IntKind.bits]; omega)]; omega
  have e3 : ior .u64 (a * 72057594037927936 + b * 281474976710656 + c * 1099511627776) (d * 2 ^ 32 % 2 ^ 64) = a * 72057594037927936 + b * 281474976710656 + c * 1099511627776 + d * 4294967296 := by
    rw [ior_add (k := .u64) rfl 40 (by omega) (by omega) (by omega) (by simp [IntKind.bits]; omega)]; omega
  have e4 : ior .u64 (a * 72057594037927936 + b * 281474976710656 + c * 1099511627776 + d * 4294967296) (e * 2 ^ 24 % 2 ^ 64) = a * 72057594037927936 + b * 281474976710656 + c * 1099511627776 + d * 4294967296 + e * 16777216 := by
    rw [ior_add (k := .u64) rfl 32 (by omega) (by omega) (by omega) (by simp [IntKind.bits]; omega)]; omega
  have e5 : ior .u64 (a * 72057594037927936 + b * 281474976710656 + c * 1099511627776 + d * 4294967296 + e * 16777216) (f * 2 ^ 16 % 2 ^ 64) = a * 72057594037927936 + b * 281474976710656 + c * 1099511627776 + d * 4294967296 + e * 16777216 + f * 65536 := by
    rw [ior_add (k := .u64) rfl 24 (by omega) (by omega) (by omega) (by simp [IntKind.bits]; omega)]; omega
  have e6 : ior .u64 (a * 72057594037927936 + b * 281474976710656 + c * 1099511627776 + d * 4294967296 + e * 16777216 + f * 65536) (g * 2 ^ 8 % 2 ^ 64) = a * 72057594037927936 + b * 281474976710656 + c * 1099511627776 + d * 4294967296 + e * 16777216 + f * 65536 + g * 256 := by
    rw [ior_add (k := .u64) rfl 16 (by omega) (by omega) (by omega) (by simp [IntKind.bits]; omega)]; omega
  have e7 : ior .u64 (a * 72057594037927936 + b * 281474976710656 + c * 1099511627776 + d * 4294967296 + e * 16777216 + f * 65536 + g * 256) h = a * 72057594037927936 + b * 281474976710656 + c * 1099511627776 + d * 4294967296 + e * 16777216 + f * 65536 + g * 256 + h := by
    rw [ior_add (k := .u64) rfl 8 (by omega) (by omega) (by omega) (by simp [IntKind.bits]; omega)]
  rw [e1, e2, e3, e4, e5, e6, e7]
  simp only [be, List.foldl_cons, List.foldl_nil, Wd]
  omega
/- the words, as an array that is filled -/
theorem words_len (w : Nat) (b : List Int) : ∀ n, (wordsW w b n).length = n
  | 0 => rfl
  | n + 1 => by simp [wordsW, words_len w b n]
def fillW (N w : Nat) (b : List Int) (n : Nat) : List Int := wordsW w b n ++ List.replicate (N - n) 0
theorem fill_set {N w : Nat} {b : List Int} {n : Nat} (h : n < N) : (fillW N w b n).set n (nextW w b (wordsW w b n)) = fillW N w b (n + 1) := by
  unfold fillW
  have e : List.replicate (N - n) (0 : Int) = 0 :: List.replicate (N - (n + 1)) 0 := by rw [← List.replicate_succ]; congr 1; omega
  rw [List.set_append, if_neg (by rw [words_len]; omega), words_len, Nat.sub_self, e, List.set_cons_zero]
  simp [wordsW]
theorem fill_get {N w : Nat} {b : List Int} {n j : Nat} (h : j < n) : (fillW N w b n).getD j 0 = (wordsW w b n).getD j 0 := by
  unfold fillW
  rw [List.getD, List.getD, List.getElem?_append_left (by rw [words_len]; exact h)]
theorem words_wd {w : Nat} {b : List Int} (hw : ∀ n, n < 16 → Wd w (be ((b.drop (w / 8 * n)).take (w / 8)))) : ∀ n, ∀ x ∈ wordsW w b n, Wd w x
  | 0, x, h => by cases h
  | n + 1, x, h => by
    rcases List.mem_append.1 h with h | h
    · exact words_wd hw n x h
    · simp only [List.mem_singleton] at h
      subst h
      unfold nextW
      rw [words_len]
      split
      · rename_i hn; exact hw n hn
      · exact ⟨Int.emod_nonneg _ (Int.ne_of_gt (pos2 w)), Int.emod_lt_of_pos _ (pos2 w)⟩
theorem getD_wd {w : Nat} {l : List Int} (h : ∀ x ∈ l, Wd w x) (i : Nat) : Wd w (l.getD i 0) := by
  by_cases hi : i < l.length
  · rw [List.getD, List.getElem?_eq_getElem hi]; exact h _ (List.getElem_mem hi)
  · rw [List.getD, List.getElem?_eq_none (by omega)]; exact ⟨by decide, pos2 w⟩
theorem getD_B8 {l : List Int} (h : ∀ x ∈ l, B8 x) (i : Nat) : B8 (l.getD i 0) := by
  by_cases hi : i < l.length
  · rw [List.getD, List.getElem?_eq_getElem hi]; exact h _ (List.getElem_mem hi)
  · rw [List.getD, List.getElem?_eq_none (by omega)]; exact ⟨by decide, by decide⟩
end Go.Sh
