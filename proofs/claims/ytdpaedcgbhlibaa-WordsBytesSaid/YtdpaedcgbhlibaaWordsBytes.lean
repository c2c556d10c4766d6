/- Numbers are written and read as bytes, the highest first or the lowest, as the reference has it; what hasn't 32 bytes is none: for every number and every bytes the law answers true. No condition. -/
import Derived.Test.YtdpaedcgbhlibaaWordsW
import Derived.Test.YtdpaedcgbhlibaaWordsR
import Derived.Test.YtdpaedcgbhlibaaEvLawV
namespace Go.Proofs.Ytdpaedcgbhlibaa
open Go.Ev Go.Wn
open Go.ChangeShapes Go.WideShapes Go.ChangeAt Go.RowKit
set_option maxRecDepth 100000

def hiB (x : Int) : Int := IntKind.u8.wrap (IntKind.i64.wrap (x.tdiv 256))
def loB (x : Int) : Int := IntKind.u8.wrap (x.tmod 256)
theorem hiB_eq {x : Int} (h : D x) : hiB x = x / 256 := by
  unfold D at h
  unfold hiB
  rw [Int.tdiv_eq_ediv_of_nonneg h.1]
  unfold IntKind.wrap; simp [IntKind.bits, IntKind.signed]; omega
theorem loB_eq {x : Int} (h : D x) : loB x = x % 256 := by
  unfold D at h
  unfold loB
  rw [Int.tmod_eq_emod_of_nonneg h.1]
  unfold IntKind.wrap; simp [IntKind.bits, IntKind.signed]
def rB (a b c d : Int) : List Int := [hiB ((digs [a, b, c, d]).getD 15 0), loB ((digs [a, b, c, d]).getD 15 0), hiB ((digs [a, b, c, d]).getD 14 0), loB ((digs [a, b, c, d]).getD 14 0), hiB ((digs [a, b, c, d]).getD 13 0), loB ((digs [a, b, c, d]).getD 13 0), hiB ((digs [a, b, c, d]).getD 12 0), loB ((digs [a, b, c, d]).getD 12 0), hiB ((digs [a, b, c, d]).getD 11 0), loB ((digs [a, b, c, d]).getD 11 0), hiB ((digs [a, b, c, d]).getD 10 0), loB ((digs [a, b, c, d]).getD 10 0), hiB ((digs [a, b, c, d]).getD 9 0), loB ((digs [a, b, c, d]).getD 9 0), hiB ((digs [a, b, c, d]).getD 8 0), loB ((digs [a, b, c, d]).getD 8 0), hiB ((digs [a, b, c, d]).getD 7 0), loB ((digs [a, b, c, d]).getD 7 0), hiB ((digs [a, b, c, d]).getD 6 0), loB ((digs [a, b, c, d]).getD 6 0), hiB ((digs [a, b, c, d]).getD 5 0), loB ((digs [a, b, c, d]).getD 5 0), hiB ((digs [a, b, c, d]).getD 4 0), loB ((digs [a, b, c, d]).getD 4 0), hiB ((digs [a, b, c, d]).getD 3 0), loB ((digs [a, b, c, d]).getD 3 0), hiB ((digs [a, b, c, d]).getD 2 0), loB ((digs [a, b, c, d]).getD 2 0), hiB ((digs [a, b, c, d]).getD 1 0), loB ((digs [a, b, c, d]).getD 1 0), hiB ((digs [a, b, c, d]).getD 0 0), loB ((digs [a, b, c, d]).getD 0 0)]
def rT (a b c d : Int) : List Int := [loB ((digs [a, b, c, d]).getD 0 0), hiB ((digs [a, b, c, d]).getD 0 0), loB ((digs [a, b, c, d]).getD 1 0), hiB ((digs [a, b, c, d]).getD 1 0), loB ((digs [a, b, c, d]).getD 2 0), hiB ((digs [a, b, c, d]).getD 2 0), loB ((digs [a, b, c, d]).getD 3 0), hiB ((digs [a, b, c, d]).getD 3 0), loB ((digs [a, b, c, d]).getD 4 0), hiB ((digs [a, b, c, d]).getD 4 0), loB ((digs [a, b, c, d]).getD 5 0), hiB ((digs [a, b, c, d]).getD 5 0), loB ((digs [a, b, c, d]).getD 6 0), hiB ((digs [a, b, c, d]).getD 6 0), loB ((digs [a, b, c, d]).getD 7 0), hiB ((digs [a, b, c, d]).getD 7 0), loB ((digs [a, b, c, d]).getD 8 0), hiB ((digs [a, b, c, d]).getD 8 0), loB ((digs [a, b, c, d]).getD 9 0), hiB ((digs [a, b, c, d]).getD 9 0), loB ((digs [a, b, c, d]).getD 10 0), hiB ((digs [a, b, c, d]).getD 10 0), loB ((digs [a, b, c, d]).getD 11 0), hiB ((digs [a, b, c, d]).getD 11 0), loB ((digs [a, b, c, d]).getD 12 0), hiB ((digs [a, b, c, d]).getD 12 0), loB ((digs [a, b, c, d]).getD 13 0), hiB ((digs [a, b, c, d]).getD 13 0), loB ((digs [a, b, c, d]).getD 14 0), hiB ((digs [a, b, c, d]).getD 14 0), loB ((digs [a, b, c, d]).getD 15 0), hiB ((digs [a, b, c, d]).getD 15 0)]
theorem word_bytes {x : Int} : byteW x 56 = x / 281474976710656 % 65536 / 256 ∧ byteW x 48 = x / 281474976710656 % 65536 % 256 ∧ byteW x 40 = x / 4294967296 % 65536 / 256 ∧ byteW x 32 = x / 4294967296 % 65536 % 256 ∧
    byteW x 24 = x / 65536 % 65536 / 256 ∧ byteW x 16 = x / 65536 % 65536 % 256 ∧ byteW x 8 = x % 65536 / 256 ∧ byteW x 0 = x % 65536 % 256 := by
  unfold byteW
  simp only [Int.reducePow]
  refine ⟨?_, ?_, ?_, ?_, ?_, ?_, ?_, ?_⟩ <;> omega
theorem word_back {x : Int} (h : W x) : W8 (byteW x 56) (byteW x 48) (byteW x 40) (byteW x 32) (byteW x 24) (byteW x 16) (byteW x 8) (byteW x 0) = x := by
  unfold W8 byteW W at *
  simp only [Int.reducePow]
  omega
theorem bytes_same (a b c d : Int) : bytesL [a, b, c, d] = rB a b c d ∧ turnedL [a, b, c, d] = rT a b c d := by
  have hD : ∀ x ∈ digs [a, b, c, d], D x := fun x hx => digs_D x hx
  have g : ∀ i, i < 16 → D ((digs [a, b, c, d]).getD i 0) := fun i hi => by
    have hl : (digs [a, b, c, d]).length = 16 := rfl
    rw [List.getD, List.getElem?_eq_getElem (by omega)]
    exact hD _ (List.getElem_mem _)
  obtain ⟨a1, a2, a3, a4, a5, a6, a7, a8⟩ := @word_bytes a
  obtain ⟨b1, b2, b3, b4, b5, b6, b7, b8⟩ := @word_bytes b
  obtain ⟨c1, c2, c3, c4, c5, c6, c7, c8⟩ := @word_bytes c
  obtain ⟨d1, d2, d3, d4, d5, d6, d7, d8⟩ := @word_bytes d
  unfold rB rT
  dsimp only [bytesL, turnedL]
  rw [hiB_eq (g 0 (by omega)), loB_eq (g 0 (by omega)), hiB_eq (g 1 (by omega)), loB_eq (g 1 (by omega)), hiB_eq (g 2 (by omega)), loB_eq (g 2 (by omega)), hiB_eq (g 3 (by omega)), loB_eq (g 3 (by omega)), hiB_eq (g 4 (by omega)), loB_eq (g 4 (by omega)), hiB_eq (g 5 (by omega)), loB_eq (g 5 (by omega)), hiB_eq (g 6 (by omega)), loB_eq (g 6 (by omega)), hiB_eq (g 7 (by omega)), loB_eq (g 7 (by omega)), hiB_eq (g 8 (by omega)), loB_eq (g 8 (by omega)), hiB_eq (g 9 (by omega)), loB_eq (g 9 (by omega)), hiB_eq (g 10 (by omega)), loB_eq (g 10 (by omega)), hiB_eq (g 11 (by omega)), loB_eq (g 11 (by omega)), hiB_eq (g 12 (by omega)), loB_eq (g 12 (by omega)), hiB_eq (g 13 (by omega)), loB_eq (g 13 (by omega)), hiB_eq (g 14 (by omega)), loB_eq (g 14 (by omega)), hiB_eq (g 15 (by omega)), loB_eq (g 15 (by omega))]
  rw [a1, a2, a3, a4, a5, a6, a7, a8, b1, b2, b3, b4, b5, b6, b7, b8, c1, c2, c3, c4, c5, c6, c7, c8, d1, d2, d3, d4, d5, d6, d7, d8]
  exact ⟨rfl, rfl⟩
theorem back_same {a b c d : Int} (ha : W a) (hb : W b) (hc : W c) (hd : W d) : bigL (bytesL [a, b, c, d]) = [a, b, c, d] ∧ litL (turnedL [a, b, c, d]) = [a, b, c, d] := by
  dsimp only [bytesL, turnedL, bigL, litL]
  simp only [word_back ha, word_back hb, word_back hc, word_back hd, and_self]
def oHead (a b c d : Int) (r : List Bool) : List Bool := rep 7 (!!decide (bytesL [a, b, c, d] = rB a b c d)) (rep 3 (!!decide (turnedL [a, b, c, d] = rT a b c d)) (rep 4 (!!decide (bigL (bytesL [a, b, c, d]) = [a, b, c, d])) (rep 1 (!!decide (litL (turnedL [a, b, c, d]) = [a, b, c, d])) r)))
theorem head_paid {a b c d : Int} (ha : W a) (hb : W b) (hc : W c) (hd : W d) {r : List Bool} (h : Paid r) : Paid (oHead a b c d r) := by
  obtain ⟨h1, h2⟩ := bytes_same a b c d
  obtain ⟨h3, h4⟩ := back_same ha hb hc hd
  exact paid_rep (by rw [decide_eq_true h1]; rfl) (paid_rep (by rw [decide_eq_true h2]; rfl) (paid_rep (by rw [decide_eq_true h3]; rfl) (paid_rep (by rw [decide_eq_true h4]; rfl) h _) _) _) _
theorem evA (a b c d : Int) (n : Nat) (l : List Int) : res ((funcA Try.prog qAsm (deep Try.prog qAll h7 100 3) 100 5 (cArgs 0 [.pl (.ints .u64 4 [a, b, c, d]), .buf true .u8 n l]) (cMem [.pl (.ints .u64 4 [a, b, c, d]), .buf true .u8 n l])).go [false, true]) =
    some (oHead a b c d [decide (0 + n ≤ n), !decide ((n : Int) = 32), decide (n < 9223372036854775808), decide (0 + n ≤ n), !decide ((n : Int) = 32), decide (n < 9223372036854775808), decide (n < 9223372036854775808), (n : Int) != 32, true, true, true, true], .bool true true) := by kernel_rfl
theorem evB (a b c d b0 b1 b2 b3 b4 b5 b6 b7 b8 b9 b10 b11 b12 b13 b14 b15 b16 b17 b18 b19 b20 b21 b22 b23 b24 b25 b26 b27 b28 b29 b30 b31 : Int) : res ((funcA Try.prog qAsm (deep Try.prog qAll h7 100 3) 100 5 (cArgs 0 [.pl (.ints .u64 4 [a, b, c, d]), .buf false .u8 32 [b0, b1, b2, b3, b4, b5, b6, b7, b8, b9, b10, b11, b12, b13, b14, b15, b16, b17, b18, b19, b20, b21, b22, b23, b24, b25, b26, b27, b28, b29, b30, b31]]) (cMem [.pl (.ints .u64 4 [a, b, c, d]), .buf false .u8 32 [b0, b1, b2, b3, b4, b5, b6, b7, b8, b9, b10, b11, b12, b13, b14, b15, b16, b17, b18, b19, b20, b21, b22, b23, b24, b25, b26, b27, b28, b29, b30, b31]])).go [false]) =
    some (oHead a b c d (rep 6 (decide (bigL [b0, b1, b2, b3, b4, b5, b6, b7, b8, b9, b10, b11, b12, b13, b14, b15, b16, b17, b18, b19, b20, b21, b22, b23, b24, b25, b26, b27, b28, b29, b30, b31] = bigL [b0, b1, b2, b3, b4, b5, b6, b7, b8, b9, b10, b11, b12, b13, b14, b15, b16, b17, b18, b19, b20, b21, b22, b23, b24, b25, b26, b27, b28, b29, b30, b31])) []), .bool true (decide (litL [b0, b1, b2, b3, b4, b5, b6, b7, b8, b9, b10, b11, b12, b13, b14, b15, b16, b17, b18, b19, b20, b21, b22, b23, b24, b25, b26, b27, b28, b29, b30, b31] = bigL [b31, b30, b29, b28, b27, b26, b25, b24, b23, b22, b21, b20, b19, b18, b17, b16, b15, b14, b13, b12, b11, b10, b9, b8, b7, b6, b5, b4, b3, b2, b1, b0]))) := by kernel_rfl
theorem evC (a b c d : Int) : res ((funcA Try.prog qAsm (deep Try.prog qAll h7 100 3) 100 5 (cArgs 0 [.pl (.ints .u64 4 [a, b, c, d]), .pl .nilslice]) (cMem [.pl (.ints .u64 4 [a, b, c, d]), .pl .nilslice])).go [false]) = some (oHead a b c d (rep 4 true []), .bool true true) := by kernel_rfl
theorem evD (a b c d : Int) : res ((funcA Try.prog qAsm (deep Try.prog qAll h7 100 3) 100 5 (cArgs 0 [.pl (.ints .u64 4 [a, b, c, d]), .empty]) (cMem [.pl (.ints .u64 4 [a, b, c, d]), .empty])).go [false]) = some (oHead a b c d (rep 4 true []), .bool true true) := by kernel_rfl

theorem bytes_calls {l : List Int} (hl : l.length = 4) (rl : ∀ x ∈ l, inR .u64 x = true) {v : Value} (W : World)
    (hv : v = .slice none 0 0 ∨ ∃ (a : Addr) (len cap : Nat) (zs : List Int), v = .slice (some a) len cap ∧ len ≤ cap ∧ cap ≤ maxLen ∧ zs.length = cap ∧ (∀ i, i < zs.length → W.cell? (a.add i) = some (.int .u8 (zs.getD i 0))) ∧ ∀ n ∈ zs, inR .u8 n = true) :
    Calls Try.prog 5 #[.agg (l.map (Value.int .u64)).toArray, v] W (fun e w' => e = .returned (.bool true) ∧ Below W.heap.size W w') := by
  obtain ⟨a, b, c, d, rfl⟩ := four hl
  have wa := inR_W (rl a (by simp)); have wb := inR_W (rl b (by simp)); have wc := inR_W (rl c (by simp)); have wd := inR_W (rl d (by simp))
  have h0 : ∀ j, ∃ L, VOk W j L (.pl (.ints .u64 4 [a, b, c, d])) (.agg ([a, b, c, d].map (Value.int .u64)).toArray) := fun j => VOk.plain fun ρ N => .ints .u64 4 _ hl rl
  rcases hv with rfl | ⟨ad, len, cap, zs, rfl, hlen, hcap, hz, hc, hw⟩
  · exact law_of_go (vs := [_, _]) mixed (h7_ok.deep mixed noCount 100 3) [false] (evC a b c d) (head_paid wa wb wc wd (paid_rep rfl Paid.nil _)) rfl (.cons _ _ _ _ _ (h0 0) (.cons _ _ _ _ _ (VOk.plain fun ρ N => .nilslice) (.nil _)))
  · by_cases hc0 : cap = 0
    · have hl0 : len = 0 := by omega
      subst hc0 hl0
      exact law_of_go (vs := [_, _]) mixed (h7_ok.deep mixed noCount 100 3) [false] (evD a b c d) (head_paid wa wb wc wd (paid_rep rfl Paid.nil _)) rfl (.cons _ _ _ _ _ (h0 0) (.cons _ _ _ _ _ VOk.empty (.nil _)))
    · by_cases h32 : len = 32
      · subst h32
        obtain ⟨L, hL⟩ := VOk.slice (W := W) (j := 1) false hz hlen (by omega) hc hw
        have hlt : (zs.take 32).length = 32 := by simp; omega
        generalize zs.take 32 = l at hL hlt
        obtain ⟨b0, b1, b2, b3, b4, b5, b6, b7, b8, b9, b10, b11, b12, b13, b14, b15, b16, b17, b18, b19, b20, b21, b22, b23, b24, b25, b26, b27, b28, b29, b30, b31, rfl⟩ := thirty hlt
        exact law_of_go (vs := [_, _]) mixed (h7_ok.deep mixed noCount 100 3) [false] (evB a b c d b0 b1 b2 b3 b4 b5 b6 b7 b8 b9 b10 b11 b12 b13 b14 b15 b16 b17 b18 b19 b20 b21 b22 b23 b24 b25 b26 b27 b28 b29 b30 b31) (head_paid wa wb wc wd (paid_rep (decide_eq_true rfl) Paid.nil _)) (decide_eq_true rfl) (.cons _ _ _ _ _ (h0 0) (.cons _ _ _ _ _ ⟨L, hL⟩ (.nil _)))
      · obtain ⟨L, hL⟩ := VOk.slice (W := W) (j := 1) true hz hlen (by omega) hc hw
        have hn : ¬ ((len : Int) = 32) := by omega
        have hm : len < 9223372036854775808 := by unfold maxLen at hcap; omega
        exact law_of_go (vs := [_, _]) mixed (h7_ok.deep mixed noCount 100 3) [false, true] (evA a b c d len _) (head_paid wa wb wc wd
          (paid_cons (decide_eq_true (by omega)) (paid_cons (by rw [decide_eq_false hn]; rfl) (paid_cons (decide_eq_true hm) (paid_cons (decide_eq_true (by omega)) (paid_cons (by rw [decide_eq_false hn]; rfl) (paid_cons (decide_eq_true hm) (paid_cons (decide_eq_true hm)
            (paid_cons (by simpa using hn) (paid_cons rfl (paid_cons rfl (paid_cons rfl (paid_cons rfl Paid.nil))))))))))))) rfl (.cons _ _ _ _ _ (h0 0) (.cons _ _ _ _ _ ⟨L, hL⟩ (.nil _)))

theorem bytes_lifted (os : Os) (started : os.Started) (H : Type) (enc : TypeId × Value → H) :
    ReturnsInHanded {} Try.checked os 5 .any (Rows.wordsBytesSpec.pre6 enc Try.prog Try.f5 Rows.wordsBytesRow.domain false) (Rows.wordsBytesSpec.post enc Try.prog Try.f5 false true false false) := by
  refine returnsInHanded_of_change (C := Try.checked) own started (by kernel_rfl) Try.func5
    (ChangeSpec.witness6 (enc := enc) (C := Try.checked) false ⟨#[], #[.agg #[.int .u64 0, .int .u64 0, .int .u64 0, .int .u64 0], .slice none 0 0], []⟩ 8 (by kernel_rfl) (by kernel_rfl) (by kernel_rfl) (by kernel_rfl)) ?_
  intro W base args ds gs before hval0 hW hcnd _
  have hval : ∀ (j : Nat) t v, Try.f5.params[j]? = some t → args[j]? = some v → Value.okWide Try.prog W .any base t v := hval0
  have hW' := hW
  obtain ⟨p, q, hA0, hV, rfl, hfz, hnd⟩ := hW
  have hA : DataW.TrodAll enc Try.prog W 0 (fun _ => true) true Try.f5.params.toList args.toList ds p := hA0
  rw [Try.params5] at hA hval
  obtain ⟨v0, v1, d0, d1, p0, p1, hargs, rfl, rfl, g0, g1⟩ := trodAll_two hA
  have hargs' : args = #[v0, v1] := by simpa using hargs
  subst hargs'
  obtain ⟨rfl, rfl⟩ := trodVars_none hV
  obtain ⟨l, ll, rfl, rl⟩ := num_open (hval 0 _ v0 rfl rfl)
  have hv : v1 = .slice none 0 0 ∨ ∃ (a : Addr) (len cap : Nat) (zs : List Int), v1 = .slice (some a) len cap ∧ len ≤ cap ∧ cap ≤ maxLen ∧ zs.length = cap ∧ (∀ i, i < zs.length → W.cell? (a.add i) = some (.int .u8 (zs.getD i 0))) ∧ ∀ n ∈ zs, inR .u8 n = true :=
    nums_open Try.underlying29 Try.underlying5 (by kernel_rfl) (hval 1 _ v1 rfl rfl) g1
  refine (bytes_calls ll rl W hv).mono fun e W' ⟨he, hb⟩ => ?_
  exact ⟨_, he, post_of_law laidOut (by rw [Try.params5]; decide +kernel) hW' rfl rfl Try.underlying4 rfl rfl rfl hb⟩

theorem wordsBytes_holds : Rows.WordsBytesSaid :=
  OpenClaim.holds_of_wide 5 Try.f5 rfl rfl rfl rfl rfl rfl rfl ⟨rfl, rfl, rfl, rfl, rfl⟩ rfl rfl rfl rfl rfl (by kernel_rfl) Try.func5 (by kernel_rfl)
    (of_decide_eq_true (by kernel_rfl)) (by unfold Func.isWrapper; first | (rw [if_pos (by decide +kernel)]; kernel_rfl) | (rw [if_neg (by decide +kernel)]; exact ⟨rfl, rfl⟩))
    (fun os started H enc _ => bytes_lifted os started H enc)
end Go.Proofs.Ytdpaedcgbhlibaa
