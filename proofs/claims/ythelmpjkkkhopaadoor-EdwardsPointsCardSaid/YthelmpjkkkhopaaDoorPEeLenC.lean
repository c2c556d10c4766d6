/- Layer 10: bytes that came in, by cases. Own work. -/
import Derived.Test.YthelmpjkkkhopaaDoorPEwN
import Derived.Test.YthelmpjkkkhopaaDoorPEvLawN
import Derived.Test.YthelmpjkkkhopaaDoorPEvPut
import Derived.Test.YthelmpjkkkhopaaDoorPMyMC
import Derived.Test.YthelmpjkkkhopaaDoorPEvLoop
import Derived.Test.YthelmpjkkkhopaaDoorPMyC
set_option linter.unusedSimpArgs false
set_option linter.unusedVariables false
set_option linter.unusedSectionVars false
namespace Go.Proofs.YthelmpjkkkhopaaDoor
open Go.Ev Go.Wn Go.Mo
set_option maxRecDepth 100000
theorem unmarkV {W : World} {j n : Nat} {k : IntKind} {l : List Int} {v : Value} (h : ∃ L, VOk W j L (.buf true k n l) v) : ∃ L, VOk W j L (.buf false k n l) v := by
  obtain ⟨L, h1, h2⟩ := h
  refine ⟨L, fun ρ N hρ hN => ?_, fun b hb => ⟨fun hrw => ?_, (h2 b hb).2⟩⟩
  · have hr := h1 ρ N hρ hN
    cases hr with
    | slice _ _ _ _ _ _ c ad hn hc hl hw had => exact .slice false _ _ _ _ _ c ad hn hc hl hw had
  · cases hb; cases hrw
/-- Bytes that came in: none, empty, not 32, 32. -/
theorem four_ways {W : World} (j : Nat) {v : Value} (hv : v = .slice none 0 0 ∨ ∃ (a : Addr) (len cap : Nat) (zs : List Int), v = .slice (some a) len cap ∧ len ≤ cap ∧ cap ≤ maxLen ∧ zs.length = cap ∧ (∀ i, i < zs.length → W.cell? (a.add i) = some (.int .u8 (zs.getD i 0))) ∧ ∀ n ∈ zs, inR .u8 n = true) :
    (∃ L, VOk W j L (.pl .nilslice) v) ∨ (∃ L, VOk W j L .empty v) ∨ (∃ (n : Nat) (l : List Int), n < 9223372036854775808 ∧ (n : Int) ≠ 32 ∧ ∃ L, VOk W j L (.buf true .u8 n l) v) ∨ ∃ l : List Int, okb l ∧ ∃ L, VOk W j L (.buf false .u8 32 l) v := by
  rcases VOk.bytes j hv with h | h | ⟨n, l, h1, h2, h3, h4, h5⟩
  · exact .inl h
  · exact .inr (.inl h)
  · by_cases h32 : n = 32
    · subst h32
      exact .inr (.inr (.inr ⟨l, ⟨h3, h4⟩, unmarkV h5⟩))
    · exact .inr (.inr (.inl ⟨n, l, by unfold maxLen at h2; omega, by omega, h5⟩))
theorem three_ways {W : World} (j : Nat) {v : Value} (hv : v = .slice none 0 0 ∨ ∃ (a : Addr) (len cap : Nat) (zs : List Int), v = .slice (some a) len cap ∧ len ≤ cap ∧ cap ≤ maxLen ∧ zs.length = cap ∧ (∀ i, i < zs.length → W.cell? (a.add i) = some (.int .u8 (zs.getD i 0))) ∧ ∀ n ∈ zs, inR .u8 n = true) :
    (∃ L, VOk W j L (.pl .nilslice) v) ∨ (∃ L, VOk W j L .empty v) ∨ ∃ (n : Nat) (l : List Int), n < 9223372036854775808 ∧ ∃ L, VOk W j L (.buf true .u8 n l) v := by
  rcases VOk.bytes j hv with h | h | ⟨n, l, h1, h2, h3, h4, h5⟩
  · exact .inl h
  · exact .inr (.inl h)
  · exact .inr (.inr ⟨n, l, by unfold maxLen at h2; omega, h5⟩)
theorem some_way {W : World} (j : Nat) {v : Value} (hv : v = .slice none 0 0 ∨ ∃ (a : Addr) (len cap : Nat) (zs : List Int), v = .slice (some a) len cap ∧ len ≤ cap ∧ cap ≤ maxLen ∧ zs.length = cap ∧ (∀ i, i < zs.length → W.cell? (a.add i) = some (.int .u8 (zs.getD i 0))) ∧ ∀ n ∈ zs, inR .u8 n = true) :
    ∃ B : V, isW B = false ∧ ∃ L, VOk W j L B v := by
  rcases VOk.bytes j hv with h | h | ⟨n, l, h1, h2, h3, h4, h5⟩
  · exact ⟨_, rfl, h⟩
  · exact ⟨_, rfl, h⟩
  · exact ⟨_, rfl, h5⟩
theorem noW_c {B : V} {r : List V} (h : isW B = false) : noW (B :: r) = noW r := by
  cases B <;> first | rfl | cases h
def gP (t : Bool) : List Bool := [!(!t) || !t, !(!t) || !t, t || !t]
def gB (t : Bool) (k : Nat) : List Bool := (!(!t) || decide (k < 9223372036854775808)) :: gP t
def orM (t x : Bool) : Bool := match t with | true => true | false => x
theorem gP_paid {t : Bool} : Paid (gP t) := by cases t <;> exact paid_cons rfl (paid_cons rfl (paid_cons rfl Paid.nil))
theorem gB_paid {t : Bool} {k : Nat} (h : k < 9223372036854775808) : Paid (gB t k) := paid_cons (by rw [decide_eq_true h, Bool.or_true]) gP_paid
end Go.Proofs.YthelmpjkkkhopaaDoor
namespace Go.Wn
open Go.Ev
def blen (x : Int) : Int := if x ≤ 0 then 0 else (Nat.log2 x.toNat : Int) + 1
theorem blen_of {x : Int} {n : Nat} (h1 : 2 ^ n ≤ x) (h2 : x < 2 ^ (n + 1)) : blen x = n + 1 := by
  have hp : (0 : Int) < 2 ^ n := Int.pow_pos (by omega)
  unfold blen
  rw [if_neg (by omega)]
  obtain ⟨X, rfl⟩ := Int.eq_ofNat_of_zero_le (show 0 ≤ x by omega)
  have h1' : 2 ^ n ≤ X := by exact_mod_cast h1
  have h2' : X < 2 ^ (n + 1) := by exact_mod_cast h2
  rw [Int.toNat_natCast]
  have : X.log2 = n := (Nat.log2_eq_iff (by have := Nat.pow_pos (n := n) (show 0 < 2 by omega); omega)).2 ⟨h1', h2'⟩
  rw [this]
theorem blen_spec {x : Int} (h : 0 < x) : ∃ n : Nat, blen x = n + 1 ∧ 2 ^ n ≤ x ∧ x < 2 ^ (n + 1) := by
  obtain ⟨X, rfl⟩ := Int.eq_ofNat_of_zero_le (show 0 ≤ x by omega)
  have hX : X ≠ 0 := by omega
  obtain ⟨h1, h2⟩ := (Nat.log2_eq_iff hX).1 rfl
  refine ⟨X.log2, ?_, by exact_mod_cast h1, by exact_mod_cast h2⟩
  unfold blen
  rw [if_neg (by omega), Int.toNat_natCast]
def tab8 : List Int := (List.range 256).map fun (b : Nat) => blen b
theorem tab8_get {b : Nat} (h : b < 256) : tab8.getD b 0 = blen b := by
  unfold tab8
  simp [List.getD, h]
/-- A word that is shifted down by k, to a byte that isn't 0: its length is k more. -/
theorem blen_shift {x : Int} {k : Nat} (h : 0 < x / 2 ^ k) : blen x = k + blen (x / 2 ^ k) := by
  have hp : (0 : Int) < 2 ^ k := Int.pow_pos (by omega)
  obtain ⟨n, e, h1, h2⟩ := blen_spec h
  rw [e]
  have a1 : 2 ^ (k + n) ≤ x := by
    rw [Int.pow_add]
    have := Int.mul_le_mul_of_nonneg_left h1 (Int.le_of_lt hp)
    have := Int.mul_ediv_self_le (x := x) (k := 2 ^ k) (Int.ne_of_gt hp)
    omega
  have a2 : x < 2 ^ (k + n + 1) := by
    rw [Nat.add_assoc, Int.pow_add, Int.mul_comm]
    exact Int.lt_mul_of_ediv_lt hp h2
  rw [blen_of a1 a2]
  omega

/- a digit of a quotient -/
theorem digit_end {H c q r y1 y0 : Int} (hy : 0 < y1 * 4294967296 + y0) (hr : r = H - q * y1) (h : q * y0 ≤ 4294967296 * r + c) : q ≤ (H * 4294967296 + c) / (y1 * 4294967296 + y0) := by
  apply Int.le_ediv_of_mul_le hy
  have e : q * (y1 * 4294967296 + y0) = 4294967296 * (q * y1) + q * y0 := by grind
  rw [e]
  generalize q * y1 = A at *
  generalize q * y0 = B at *
  omega
theorem digit_more {H c q r y1 y0 : Int} (hy : 0 < y1 * 4294967296 + y0) (hr : r = H - q * y1) (h : 4294967296 * r + c < q * y0) : (H * 4294967296 + c) / (y1 * 4294967296 + y0) < q := by
  apply Int.ediv_lt_of_lt_mul hy
  have e : q * (y1 * 4294967296 + y0) = 4294967296 * (q * y1) + q * y0 := by grind
  rw [e]
  generalize q * y1 = A at *
  generalize q * y0 = B at *
  omega
theorem digit_first {H c y1 y0 : Int} (h1 : 2147483648 ≤ y1 ∧ y1 < 4294967296) (h0 : 0 ≤ y0 ∧ y0 < 4294967296) (hc : 0 ≤ c ∧ c < 4294967296) (hH : 0 ≤ H ∧ H < y1 * 4294967296 + y0) :
    (H * 4294967296 + c) / (y1 * 4294967296 + y0) ≤ H / y1 ∧ 0 ≤ H / y1 ∧ H / y1 ≤ 4294967297 ∧ 0 ≤ H - H / y1 * y1 ∧ H - H / y1 * y1 < y1 ∧ 0 ≤ (H * 4294967296 + c) / (y1 * 4294967296 + y0) ∧ (H * 4294967296 + c) / (y1 * 4294967296 + y0) < 4294967296 := by
  have hy : 0 < y1 * 4294967296 + y0 := by omega
  have e1 := Int.emod_add_mul_ediv H y1
  have e2 := Int.emod_nonneg H (show y1 ≠ 0 by omega)
  have e3 := Int.emod_lt_of_pos H (show 0 < y1 by omega)
  have e4 : H / y1 * y1 = y1 * (H / y1) := Int.mul_comm _ _
  refine ⟨?_, Int.ediv_nonneg hH.1 (by omega), ?_, by omega, by omega, Int.ediv_nonneg (by omega) (by omega), ?_⟩
  · apply Int.le_ediv_of_mul_le (by omega)
    have hq := Int.ediv_mul_le (H * 4294967296 + c) (Int.ne_of_gt hy)
    have hq0 := Int.ediv_nonneg (show 0 ≤ H * 4294967296 + c by omega) (Int.le_of_lt hy)
    generalize (H * 4294967296 + c) / (y1 * 4294967296 + y0) = Q at *
    have e : Q * (y1 * 4294967296 + y0) = 4294967296 * (Q * y1) + Q * y0 := by grind
    have hz := Int.mul_nonneg hq0 h0.1
    rw [e] at hq
    generalize Q * y1 = A at *
    generalize Q * y0 = B at *
    omega
  · have : H / y1 < 4294967298 := by
      apply Int.ediv_lt_of_lt_mul (by omega)
      omega
    omega
  · apply Int.ediv_lt_of_lt_mul hy
    generalize y1 * 4294967296 + y0 = y at *
    omega
theorem digit_break {q r c y0 : Int} (h0 : 0 ≤ y0 ∧ y0 < 4294967296) (hc : 0 ≤ c) (hq : 0 ≤ q ∧ q ≤ 4294967296) (hr : 4294967296 ≤ r) : q * y0 ≤ 4294967296 * r + c := by
  have : q * y0 ≤ 4294967296 * y0 := Int.mul_le_mul_of_nonneg_right hq.2 h0.1
  omega
/-- Two digits, and what is left. -/
theorem two_digits {hi lo y : Int} (hy : 0 < y) (un1 un0 : Int) (hl : lo = un1 * 4294967296 + un0) :
    (hi * 18446744073709551616 + lo) / y = (hi * 4294967296 + un1) / y * 4294967296 + (((hi * 4294967296 + un1) % y) * 4294967296 + un0) / y ∧
    (hi * 18446744073709551616 + lo) % y = (((hi * 4294967296 + un1) % y) * 4294967296 + un0) % y := by
  have e1 := Int.emod_add_mul_ediv (hi * 4294967296 + un1) y
  generalize (hi * 4294967296 + un1) % y = r at *
  generalize (hi * 4294967296 + un1) / y = q at *
  have e : hi * 18446744073709551616 + lo = (r * 4294967296 + un0) + y * (q * 4294967296) := by
    have : y * (q * 4294967296) = (y * q) * 4294967296 := by rw [Int.mul_assoc]
    rw [this]
    generalize y * q = A at *
    omega
  rw [e, Int.add_mul_ediv_left _ _ (Int.ne_of_gt hy), Int.add_mul_emod_self_left]
  exact ⟨by omega, rfl⟩
end Go.Wn
namespace Go.Ev
theorem pure_of_resX {P : Program} {q : FuncId → Bool} {H : CallH} (hm : P.follows .mixedOrders = true) (hng : noCount P = true) (hH : HOk P H) {n : Nat} {g : FuncId} {args : List AV} {o : List Bool} {v v' : AV} (hp : args.all plainA = true)
    (h : res (funcA P q H n g args []) = some (o, v)) (ho : Paid o) (hv : ∀ {ρ ρ' : Nat → Loc3} {N N' : Nat → Prop} {u : Value}, Rep ρ N v u → Rep ρ' N' v' u) : PureCall P g args v' :=
  pure_of_eval hm hng hH hp (sat_plain h ho hv)
end Go.Ev
namespace Go.Proofs.YthelmpjkkkhopaaDoor
open Go.Ev Go.Wn
set_option maxRecDepth 100000
theorem tab_leaf {x : Int} {k : Nat} (hk : k ≤ 56) (h0 : 0 ≤ x / 2 ^ k) (h1 : x / 2 ^ k < 256) (h2 : k = 0 ∨ 0 < x / 2 ^ k) :
    (decide (0 ≤ IntKind.u8.wrap (x / 2 ^ k)) && decide (IntKind.u8.wrap (x / 2 ^ k) < (tab8.length : Int))) = true ∧
    IntKind.i64.wrap ((k : Int) + IntKind.i64.wrap (tab8.getD (IntKind.u8.wrap (x / 2 ^ k)).toNat 0)) = blen x := by
  have hl : tab8.length = 256 := by simp [tab8]
  have hw : IntKind.u8.wrap (x / 2 ^ k) = x / 2 ^ k := by
    generalize x / 2 ^ k = b at *
    unfold IntKind.wrap; simp [IntKind.bits, IntKind.signed]; omega
  have hb : 0 ≤ blen (x / 2 ^ k) ∧ blen (x / 2 ^ k) ≤ 8 := by
    rcases Int.le_iff_lt_or_eq.1 h0 with h | h
    · obtain ⟨n, e, g1, g2⟩ := blen_spec h
      rw [e]
      have : n < 8 := by
        rcases Nat.lt_or_ge n 8 with h8 | h8
        · exact h8
        · have : (2 : Int) ^ 8 ≤ 2 ^ n := by exact_mod_cast Nat.pow_le_pow_right (by omega : 0 < 2) h8
          have h256 : (2 : Int) ^ 8 = 256 := rfl
          omega
      omega
    · rw [← h]; decide
  have hx : blen x = k + blen (x / 2 ^ k) := by
    rcases h2 with rfl | h2
    · rw [Int.pow_zero, Int.ediv_one]; simp
    · exact blen_shift h2
  rw [hw, hl, decide_eq_true h0, decide_eq_true (by omega : x / 2 ^ k < ((256 : Nat) : Int))]
  refine ⟨rfl, ?_⟩
  have ht : tab8.getD (x / 2 ^ k).toNat 0 = blen (x / 2 ^ k) := by
    rw [tab8_get (by omega), Int.toNat_of_nonneg h0]
  rw [ht, hx]
  generalize blen (x / 2 ^ k) = t at *
  have w : ∀ {z : Int}, -9223372036854775808 ≤ z ∧ z < 9223372036854775808 → IntKind.i64.wrap z = z := by
    intro z hz; unfold IntKind.wrap; simp [IntKind.bits, IntKind.signed]; omega
  rw [w (z := t) (by omega), w (by omega)]
theorem shr_shr {x : Int} (a b : Nat) (ha : a ≤ 64) (hb : b ≤ 64) : ishr .u64 (ishr .u64 x (a : Int)) (b : Int) = x / 2 ^ (a + b) := by
  rw [ishr_eq (by simp [IntKind.bits]; omega), ishr_eq (by simp [IntKind.bits]; omega), Int.ediv_ediv_of_nonneg (Int.le_of_lt (Int.pow_pos (by omega))), ← Int.pow_add]
theorem len_ttt (x : Int) : res ((funcA Tryd.prog qAll h0 100 99 [.int true .u64 x] []).go [true, true, true]) =
    some ([decide (x ≥ 4294967296), decide ((ishr .u64 x 32) ≥ 65536), decide ((ishr .u64 (ishr .u64 x 32) 16) ≥ 256), decide (0 ≤ IntKind.u8.wrap (ishr .u64 (ishr .u64 (ishr .u64 x 32) 16) 8)) && decide (IntKind.u8.wrap (ishr .u64 (ishr .u64 (ishr .u64 x 32) 16) 8) < (tab8.length : Int))], .int true .i64 (IntKind.i64.wrap (((56 : Nat) : Int) + IntKind.i64.wrap (tab8.getD (IntKind.u8.wrap (ishr .u64 (ishr .u64 (ishr .u64 x 32) 16) 8)).toNat 0)))) := by kernel_rfl
theorem len_ttf (x : Int) : res ((funcA Tryd.prog qAll h0 100 99 [.int true .u64 x] []).go [true, true, false]) =
    some ([decide (x ≥ 4294967296), decide ((ishr .u64 x 32) ≥ 65536), !decide ((ishr .u64 (ishr .u64 x 32) 16) ≥ 256), decide (0 ≤ IntKind.u8.wrap (ishr .u64 (ishr .u64 x 32) 16)) && decide (IntKind.u8.wrap (ishr .u64 (ishr .u64 x 32) 16) < (tab8.length : Int))], .int true .i64 (IntKind.i64.wrap (((48 : Nat) : Int) + IntKind.i64.wrap (tab8.getD (IntKind.u8.wrap (ishr .u64 (ishr .u64 x 32) 16)).toNat 0)))) := by kernel_rfl
theorem len_tft (x : Int) : res ((funcA Tryd.prog qAll h0 100 99 [.int true .u64 x] []).go [true, false, true]) =
    some ([decide (x ≥ 4294967296), !decide ((ishr .u64 x 32) ≥ 65536), decide ((ishr .u64 x 32) ≥ 256), decide (0 ≤ IntKind.u8.wrap (ishr .u64 (ishr .u64 x 32) 8)) && decide (IntKind.u8.wrap (ishr .u64 (ishr .u64 x 32) 8) < (tab8.length : Int))], .int true .i64 (IntKind.i64.wrap (((40 : Nat) : Int) + IntKind.i64.wrap (tab8.getD (IntKind.u8.wrap (ishr .u64 (ishr .u64 x 32) 8)).toNat 0)))) := by kernel_rfl
theorem len_tff (x : Int) : res ((funcA Tryd.prog qAll h0 100 99 [.int true .u64 x] []).go [true, false, false]) =
    some ([decide (x ≥ 4294967296), !decide ((ishr .u64 x 32) ≥ 65536), !decide ((ishr .u64 x 32) ≥ 256), decide (0 ≤ IntKind.u8.wrap (ishr .u64 x 32)) && decide (IntKind.u8.wrap (ishr .u64 x 32) < (tab8.length : Int))], .int true .i64 (IntKind.i64.wrap (((32 : Nat) : Int) + IntKind.i64.wrap (tab8.getD (IntKind.u8.wrap (ishr .u64 x 32)).toNat 0)))) := by kernel_rfl
theorem len_ftt (x : Int) : res ((funcA Tryd.prog qAll h0 100 99 [.int true .u64 x] []).go [false, true, true]) =
    some ([!decide (x ≥ 4294967296), decide (x ≥ 65536), decide ((ishr .u64 x 16) ≥ 256), decide (0 ≤ IntKind.u8.wrap (ishr .u64 (ishr .u64 x 16) 8)) && decide (IntKind.u8.wrap (ishr .u64 (ishr .u64 x 16) 8) < (tab8.length : Int))], .int true .i64 (IntKind.i64.wrap (((24 : Nat) : Int) + IntKind.i64.wrap (tab8.getD (IntKind.u8.wrap (ishr .u64 (ishr .u64 x 16) 8)).toNat 0)))) := by kernel_rfl
theorem len_ftf (x : Int) : res ((funcA Tryd.prog qAll h0 100 99 [.int true .u64 x] []).go [false, true, false]) =
    some ([!decide (x ≥ 4294967296), decide (x ≥ 65536), !decide ((ishr .u64 x 16) ≥ 256), decide (0 ≤ IntKind.u8.wrap (ishr .u64 x 16)) && decide (IntKind.u8.wrap (ishr .u64 x 16) < (tab8.length : Int))], .int true .i64 (IntKind.i64.wrap (((16 : Nat) : Int) + IntKind.i64.wrap (tab8.getD (IntKind.u8.wrap (ishr .u64 x 16)).toNat 0)))) := by kernel_rfl
theorem len_fft (x : Int) : res ((funcA Tryd.prog qAll h0 100 99 [.int true .u64 x] []).go [false, false, true]) =
    some ([!decide (x ≥ 4294967296), !decide (x ≥ 65536), decide (x ≥ 256), decide (0 ≤ IntKind.u8.wrap (ishr .u64 x 8)) && decide (IntKind.u8.wrap (ishr .u64 x 8) < (tab8.length : Int))], .int true .i64 (IntKind.i64.wrap (((8 : Nat) : Int) + IntKind.i64.wrap (tab8.getD (IntKind.u8.wrap (ishr .u64 x 8)).toNat 0)))) := by kernel_rfl
theorem len_fff (x : Int) : res ((funcA Tryd.prog qAll h0 100 99 [.int true .u64 x] []).go [false, false, false]) =
    some ([!decide (x ≥ 4294967296), !decide (x ≥ 65536), !decide (x ≥ 256), decide (0 ≤ IntKind.u8.wrap x) && decide (IntKind.u8.wrap x < (tab8.length : Int))], .int true .i64 (IntKind.i64.wrap (((0 : Nat) : Int) + IntKind.i64.wrap (tab8.getD (IntKind.u8.wrap x).toNat 0)))) := by kernel_rfl
def lenS : List AV → E AV
  | [.int _ .u64 x] => some ([], .int true .i64 (blen x))
  | _ => none
theorem ge_true {x y : Int} (h : x ≥ y) : decide (x ≥ y) = true := decide_eq_true h
theorem ge_false {x y : Int} (h : ¬ x ≥ y) : (!decide (x ≥ y)) = true := by rw [decide_eq_false h]; rfl
theorem len_ok {args : List AV} {o : List Bool} {v : AV} (h : lenS args = some (o, v)) : PureCall Tryd.prog 99 args v := by
  unfold lenS at h
  split at h
  · rename_i s x
    cases h
    intro ρ N vs ha
    cases ha with
    | cons _ _ _ _ r0 hb =>
      cases hb
      have wx := int_arg r0
      obtain ⟨x0, x1⟩ := wx
      have ha' := Reps.cons _ _ _ _ (remark r0) (.nil (ρ := ρ) (N := N))
      have s32 : ishr .u64 x 32 = x / 2 ^ 32 := ishr_eq (r := 32) (by simp [IntKind.bits])
      have s16 : ishr .u64 x 16 = x / 2 ^ 16 := ishr_eq (r := 16) (by simp [IntKind.bits])
      have s8 : ishr .u64 x 8 = x / 2 ^ 8 := ishr_eq (r := 8) (by simp [IntKind.bits])
      have s3216 : ishr .u64 (ishr .u64 x 32) 16 = x / 2 ^ 48 := shr_shr 32 16 (by omega) (by omega)
      have s328 : ishr .u64 (ishr .u64 x 32) 8 = x / 2 ^ 40 := shr_shr 32 8 (by omega) (by omega)
      have s168 : ishr .u64 (ishr .u64 x 16) 8 = x / 2 ^ 24 := shr_shr 16 8 (by omega) (by omega)
      have s32168 : ishr .u64 (ishr .u64 (ishr .u64 x 32) 16) 8 = x / 2 ^ 56 := by
        rw [s3216]
        have : ishr .u64 (x / 2 ^ 48) 8 = x / 2 ^ 48 / 2 ^ 8 := ishr_eq (r := 8) (by simp [IntKind.bits])
        rw [this, Int.ediv_ediv_of_nonneg (Int.le_of_lt (Int.pow_pos (by omega))), ← Int.pow_add]
      have s0 : x = x / 2 ^ 0 := by rw [Int.pow_zero, Int.ediv_one]
      by_cases h32 : x ≥ 4294967296
      · by_cases h16 : x / 2 ^ 32 ≥ 65536
        · by_cases h8 : x / 2 ^ 48 ≥ 256
          · have ev := len_ttt x
            rw [s32168, s3216, s32] at ev
            obtain ⟨t1, t2⟩ := tab_leaf (x := x) (k := 56) (by omega) (by omega) (by omega) (Or.inr (by omega))
            exact pure_of_go mixed noCount h0_ok [true, true, true] (by kernel_rfl) ev (paid_cons (ge_true h32) (paid_cons (ge_true h16) (paid_cons (ge_true h8) (paid_cons t1 Paid.nil)))) (by rw [t2]) (by kernel_rfl) ha'
          · have ev := len_ttf x
            rw [s3216, s32] at ev
            obtain ⟨t1, t2⟩ := tab_leaf (x := x) (k := 48) (by omega) (by omega) (by omega) (Or.inr (by omega))
            exact pure_of_go mixed noCount h0_ok [true, true, false] (by kernel_rfl) ev (paid_cons (ge_true h32) (paid_cons (ge_true h16) (paid_cons (ge_false h8) (paid_cons t1 Paid.nil)))) (by rw [t2]) (by kernel_rfl) ha'
        · by_cases h8 : x / 2 ^ 32 ≥ 256
          · have ev := len_tft x
            rw [s328, s32] at ev
            obtain ⟨t1, t2⟩ := tab_leaf (x := x) (k := 40) (by omega) (by omega) (by omega) (Or.inr (by omega))
            exact pure_of_go mixed noCount h0_ok [true, false, true] (by kernel_rfl) ev (paid_cons (ge_true h32) (paid_cons (ge_false h16) (paid_cons (ge_true h8) (paid_cons t1 Paid.nil)))) (by rw [t2]) (by kernel_rfl) ha'
          · have ev := len_tff x
            rw [s32] at ev
            obtain ⟨t1, t2⟩ := tab_leaf (x := x) (k := 32) (by omega) (by omega) (by omega) (Or.inr (by omega))
            exact pure_of_go mixed noCount h0_ok [true, false, false] (by kernel_rfl) ev (paid_cons (ge_true h32) (paid_cons (ge_false h16) (paid_cons (ge_false h8) (paid_cons t1 Paid.nil)))) (by rw [t2]) (by kernel_rfl) ha'
      · by_cases h16 : x ≥ 65536
        · by_cases h8 : x / 2 ^ 16 ≥ 256
          · have ev := len_ftt x
            rw [s168, s16] at ev
            obtain ⟨t1, t2⟩ := tab_leaf (x := x) (k := 24) (by omega) (by omega) (by omega) (Or.inr (by omega))
            exact pure_of_go mixed noCount h0_ok [false, true, true] (by kernel_rfl) ev (paid_cons (ge_false h32) (paid_cons (ge_true h16) (paid_cons (ge_true h8) (paid_cons t1 Paid.nil)))) (by rw [t2]) (by kernel_rfl) ha'
          · have ev := len_ftf x
            rw [s16] at ev
            obtain ⟨t1, t2⟩ := tab_leaf (x := x) (k := 16) (by omega) (by omega) (by omega) (Or.inr (by omega))
            exact pure_of_go mixed noCount h0_ok [false, true, false] (by kernel_rfl) ev (paid_cons (ge_false h32) (paid_cons (ge_true h16) (paid_cons (ge_false h8) (paid_cons t1 Paid.nil)))) (by rw [t2]) (by kernel_rfl) ha'
        · by_cases h8 : x ≥ 256
          · have ev := len_fft x
            rw [s8] at ev
            obtain ⟨t1, t2⟩ := tab_leaf (x := x) (k := 8) (by omega) (by omega) (by omega) (Or.inr (by omega))
            exact pure_of_go mixed noCount h0_ok [false, false, true] (by kernel_rfl) ev (paid_cons (ge_false h32) (paid_cons (ge_false h16) (paid_cons (ge_true h8) (paid_cons t1 Paid.nil)))) (by rw [t2]) (by kernel_rfl) ha'
          · have ev := len_fff x
            obtain ⟨t1, t2⟩ := tab_leaf (x := x) (k := 0) (by omega) (by rw [← s0]; exact x0) (by rw [← s0]; omega) (Or.inl rfl)
            rw [← s0] at t1 t2
            exact pure_of_go mixed noCount h0_ok [false, false, false] (by kernel_rfl) ev (paid_cons (ge_false h32) (paid_cons (ge_false h16) (paid_cons (ge_false h8) (paid_cons t1 Paid.nil)))) (by rw [t2]) (by kernel_rfl) ha'
  · cases h
def hv1 : CallH := withC 99 lenS hm1
theorem hv1_ok : HOk Tryd.prog hv1 := hm1_ok.withC fun _ _ _ h _ => len_ok h
def lzS : List AV → E AV
  | [.int _ .u64 x] => some ([decide (0 < x)], .int true .i64 (64 - blen x))
  | _ => none
def lz0 : List AV → E AV
  | [.int _ .u64 x] => some ([decide (9223372036854775808 ≤ x)], .int false .i64 0)
  | _ => none
theorem lz_eval (x : Int) : res (funcA Tryd.prog qAll hv1 100 91 [.int true .u64 x] []) = some ([], .int true .i64 (IntKind.i64.wrap (64 - blen x))) := by kernel_rfl
theorem blen_word {x : Int} (h : W x) (h0 : 0 < x) : 1 ≤ blen x ∧ blen x ≤ 64 := by
  obtain ⟨n, e, h1, h2⟩ := blen_spec h0
  obtain ⟨g1, g2⟩ := h
  have : n < 64 := by
    rcases Nat.lt_or_ge n 64 with h8 | h8
    · exact h8
    · have : (2 : Int) ^ 64 ≤ 2 ^ n := by exact_mod_cast Nat.pow_le_pow_right (by omega : 0 < 2) h8
      have h256 : (2 : Int) ^ 64 = 18446744073709551616 := rfl
      omega
  omega
theorem lz_ok {args : List AV} {o : List Bool} {v : AV} (h : lzS args = some (o, v)) (ho : Paid o) : PureCall Tryd.prog 91 args v := by
  unfold lzS at h
  split at h
  · rename_i s x
    cases h
    have h1 := ho _ (List.mem_cons_self ..)
    rw [decide_eq_true_eq] at h1
    intro ρ N vs ha
    cases ha with
    | cons _ _ _ _ r0 hb =>
      cases hb
      have hb := blen_word (int_arg r0) h1
      have hw : IntKind.i64.wrap (64 - blen x) = 64 - blen x := w64_id (by omega)
      exact pure_of_res mixed noCount hv1_ok (by kernel_rfl) (lz_eval x) Paid.nil (by rw [hw]) (by kernel_rfl) (.cons _ _ _ _ (remark r0) .nil)
  · cases h
theorem unmarkI {k : IntKind} {n m : Int} (hnm : n = m) {ρ ρ' : Nat → Loc3} {N N' : Nat → Prop} {u : Value} (h : Rep ρ N (.int true k n) u) : Rep ρ' N' (.int false k m) u := by
  subst hnm; cases h with | int _ _ _ h => exact .int _ _ _ h
theorem lz0_ok {args : List AV} {o : List Bool} {v : AV} (h : lz0 args = some (o, v)) (ho : Paid o) : PureCall Tryd.prog 91 args v := by
  unfold lz0 at h
  split at h
  · rename_i s x
    cases h
    have h1 := ho _ (List.mem_cons_self ..)
    rw [decide_eq_true_eq] at h1
    intro ρ N vs ha
    cases ha with
    | cons _ _ _ _ r0 hb =>
      cases hb
      have hx := int_arg r0
      obtain ⟨x0, x1⟩ := hx
      have hb : blen x = (63 : Nat) + 1 := blen_of (by simpa using h1) (by simpa using x1)
      have hw : IntKind.i64.wrap (64 - blen x) = 0 := by rw [hb]; decide
      exact pure_of_resX mixed noCount hv1_ok (by kernel_rfl) (lz_eval x) Paid.nil (unmarkI hw) (.cons _ _ _ _ (remark r0) .nil)
  · cases h
end Go.Proofs.YthelmpjkkkhopaaDoor
