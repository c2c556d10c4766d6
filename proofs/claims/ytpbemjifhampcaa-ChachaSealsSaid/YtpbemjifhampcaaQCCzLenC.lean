/- What the library's functions on bits answer: lengths of words. Own work. -/
import Derived.Test.YtpbemjifhampcaaQCCzDivM
import Derived.Test.YtpbemjifhampcaaQCTab0
set_option linter.unusedSimpArgs false
set_option linter.unusedVariables false
set_option linter.unusedSectionVars false
namespace Go.Ev
theorem pure_of_resX {P : Program} {q : FuncId → Bool} {H : CallH} (hm : P.follows .mixedOrders = true) (hng : noCount P = true) (hH : HOk P H) {n : Nat} {g : FuncId} {args : List AV} {o : List Bool} {v v' : AV} (hp : args.all plainA = true)
    (h : res (funcA P q H n g args []) = some (o, v)) (ho : Paid o) (hv : ∀ {ρ ρ' : Nat → Loc3} {N N' : Nat → Prop} {u : Value}, Rep ρ N v u → Rep ρ' N' v' u) : PureCall P g args v' :=
  pure_of_eval hm hng hH hp (sat_plain h ho hv)
end Go.Ev
namespace Go.Proofs.Ytpbemjifhampcaa
open Go.Ev Go.Wn
set_option maxRecDepth 100000
theorem tab_leaf {x : Int} {k : Nat} (hk : k ≤ 56) (h0 : 0 ≤ x / 2 ^ k) (h1 : x / 2 ^ k < 256) (h2 : k = 0 ∨ 0 < x / 2 ^ k) :
    (decide (0 ≤ IntKind.u8.wrap (x / 2 ^ k)) && decide (IntKind.u8.wrap (x / 2 ^ k) < (tab8.length : Int))) = true ∧
    IntKind.i64.wrap ((k : Int) + IntKind.i64.wrap (tab8.getD (IntKind.u8.wrap (x / 2 ^ k)).toNat 0)) = blen x := by
  have hl : tab8.length = 256 := by simp [tab8]
  have hw : IntKind.u8.wrap (x / 2 ^ k) = x / 2 ^ k := by
    generalize x / 2 ^ k = b at *
    unfold IntKind.wrap; simp [IntKind.bits, IntKind.signed]; omega
  have hb : 0 ≤ blen (x / 2 ^ k) ∧ blen (x / 2 ^ k) ≤ 8 := by
    rcases Int.le_iff_lt_or_eq.1 h0 with h | h
    · obtain ⟨n, e, g1, g2⟩ := blen_spec h
      rw [e]
      have : n < 8 := by
        rcases Nat.lt_or_ge n 8 with h8 | h8
        · exact h8
        · have : (2 : Int) ^ 8 ≤ 2 ^ n := by exact_mod_cast Nat.pow_le_pow_right (by omega : 0 < 2) h8
          have h256 : (2 : Int) ^ 8 = 256 := rfl
          omega
      omega
    · rw [← h]; decide
  have hx : blen x = k + blen (x / 2 ^ k) := by
    rcases h2 with rfl | h2
    · rw [Int.pow_zero, Int.ediv_one]; simp
    · exact blen_shift h2
  rw [hw, hl, decide_eq_true h0, decide_eq_true (by omega : x / 2 ^ k < ((256 : Nat) : Int))]
  refine ⟨rfl, ?_⟩
  have ht : tab8.getD (x / 2 ^ k).toNat 0 = blen (x / 2 ^ k) := by
    rw [tab8_get (by omega), Int.toNat_of_nonneg h0]
  rw [ht, hx]
  generalize blen (x / 2 ^ k) = t at *
  have w : ∀ {z : Int}, -9223372036854775808 ≤ z ∧ z < 9223372036854775808 → IntKind.i64.wrap z = z := by
    intro z hz; unfold IntKind.wrap; simp [IntKind.bits, IntKind.signed]; omega
  rw [w (z := t) (by omega), w (by omega)]
theorem shr_shr {x : Int} (a b : Nat) (ha : a ≤ 64) (hb : b ≤ 64) : ishr .u64 (ishr .u64 x (a : Int)) (b : Int) = x / 2 ^ (a + b) := by
  rw [ishr_eq (by simp [IntKind.bits]; omega), ishr_eq (by simp [IntKind.bits]; omega), Int.ediv_ediv_of_nonneg (Int.le_of_lt (Int.pow_pos (by omega))), ← Int.pow_add]
theorem len_ttt (x : Int) : res ((funcA Try.prog qAll h0 100 93 [.int true .u64 x] []).go [true, true, true]) =
    some ([decide (x ≥ 4294967296), decide ((ishr .u64 x 32) ≥ 65536), decide ((ishr .u64 (ishr .u64 x 32) 16) ≥ 256), decide (0 ≤ IntKind.u8.wrap (ishr .u64 (ishr .u64 (ishr .u64 x 32) 16) 8)) && decide (IntKind.u8.wrap (ishr .u64 (ishr .u64 (ishr .u64 x 32) 16) 8) < (tab8.length : Int))], .int true .i64 (IntKind.i64.wrap (((56 : Nat) : Int) + IntKind.i64.wrap (tab8.getD (IntKind.u8.wrap (ishr .u64 (ishr .u64 (ishr .u64 x 32) 16) 8)).toNat 0)))) := by kernel_rfl
theorem len_ttf (x : Int) : res ((funcA Try.prog qAll h0 100 93 [.int true .u64 x] []).go [true, true, false]) =
    some ([decide (x ≥ 4294967296), decide ((ishr .u64 x 32) ≥ 65536), !decide ((ishr .u64 (ishr .u64 x 32) 16) ≥ 256), decide (0 ≤ IntKind.u8.wrap (ishr .u64 (ishr .u64 x 32) 16)) && decide (IntKind.u8.wrap (ishr .u64 (ishr .u64 x 32) 16) < (tab8.length : Int))], .int true .i64 (IntKind.i64.wrap (((48 : Nat) : Int) + IntKind.i64.wrap (tab8.getD (IntKind.u8.wrap (ishr .u64 (ishr .u64 x 32) 16)).toNat 0)))) := by kernel_rfl
theorem len_tft (x : Int) : res ((funcA Try.prog qAll h0 100 93 [.int true .u64 x] []).go [true, false, true]) =
    some ([decide (x ≥ 4294967296), !decide ((ishr .u64 x 32) ≥ 65536), decide ((ishr .u64 x 32) ≥ 256), decide (0 ≤ IntKind.u8.wrap (ishr .u64 (ishr .u64 x 32) 8)) && decide (IntKind.u8.wrap (ishr .u64 (ishr .u64 x 32) 8) < (tab8.length : Int))], .int true .i64 (IntKind.i64.wrap (((40 : Nat) : Int) + IntKind.i64.wrap (tab8.getD (IntKind.u8.wrap (ishr .u64 (ishr .u64 x 32) 8)).toNat 0)))) := by kernel_rfl
theorem len_tff (x : Int) : res ((funcA Try.prog qAll h0 100 93 [.int true .u64 x] []).go [true, false, false]) =
    some ([decide (x ≥ 4294967296), !decide ((ishr .u64 x 32) ≥ 65536), !decide ((ishr .u64 x 32) ≥ 256), decide (0 ≤ IntKind.u8.wrap (ishr .u64 x 32)) && decide (IntKind.u8.wrap (ishr .u64 x 32) < (tab8.length : Int))], .int true .i64 (IntKind.i64.wrap (((32 : Nat) : Int) + IntKind.i64.wrap (tab8.getD (IntKind.u8.wrap (ishr .u64 x 32)).toNat 0)))) := by kernel_rfl
theorem len_ftt (x : Int) : res ((funcA Try.prog qAll h0 100 93 [.int true .u64 x] []).go [false, true, true]) =
    some ([!decide (x ≥ 4294967296), decide (x ≥ 65536), decide ((ishr .u64 x 16) ≥ 256), decide (0 ≤ IntKind.u8.wrap (ishr .u64 (ishr .u64 x 16) 8)) && decide (IntKind.u8.wrap (ishr .u64 (ishr .u64 x 16) 8) < (tab8.length : Int))], .int true .i64 (IntKind.i64.wrap (((24 : Nat) : Int) + IntKind.i64.wrap (tab8.getD (IntKind.u8.wrap (ishr .u64 (ishr .u64 x 16) 8)).toNat 0)))) := by kernel_rfl
theorem len_ftf (x : Int) : res ((funcA Try.prog qAll h0 100 93 [.int true .u64 x] []).go [false, true, false]) =
    some ([!decide (x ≥ 4294967296), decide (x ≥ 65536), !decide ((ishr .u64 x 16) ≥ 256), decide (0 ≤ IntKind.u8.wrap (ishr .u64 x 16)) && decide (IntKind.u8.wrap (ishr .u64 x 16) < (tab8.length : Int))], .int true .i64 (IntKind.i64.wrap (((16 : Nat) : Int) + IntKind.i64.wrap (tab8.getD (IntKind.u8.wrap (ishr .u64 x 16)).toNat 0)))) := by kernel_rfl
theorem len_fft (x : Int) : res ((funcA Try.prog qAll h0 100 93 [.int true .u64 x] []).go [false, false, true]) =
    some ([!decide (x ≥ 4294967296), !decide (x ≥ 65536), decide (x ≥ 256), decide (0 ≤ IntKind.u8.wrap (ishr .u64 x 8)) && decide (IntKind.u8.wrap (ishr .u64 x 8) < (tab8.length : Int))], .int true .i64 (IntKind.i64.wrap (((8 : Nat) : Int) + IntKind.i64.wrap (tab8.getD (IntKind.u8.wrap (ishr .u64 x 8)).toNat 0)))) := by kernel_rfl
theorem len_fff (x : Int) : res ((funcA Try.prog qAll h0 100 93 [.int true .u64 x] []).go [false, false, false]) =
    some ([!decide (x ≥ 4294967296), !decide (x ≥ 65536), !decide (x ≥ 256), decide (0 ≤ IntKind.u8.wrap x) && decide (IntKind.u8.wrap x < (tab8.length : Int))], .int true .i64 (IntKind.i64.wrap (((0 : Nat) : Int) + IntKind.i64.wrap (tab8.getD (IntKind.u8.wrap x).toNat 0)))) := by kernel_rfl
def lenS : List AV → E AV
  | [.int _ .u64 x] => some ([], .int true .i64 (blen x))
  | _ => none
theorem ge_true {x y : Int} (h : x ≥ y) : decide (x ≥ y) = true := decide_eq_true h
theorem ge_false {x y : Int} (h : ¬ x ≥ y) : (!decide (x ≥ y)) = true := by rw [decide_eq_false h]; rfl
theorem len_ok {args : List AV} {o : List Bool} {v : AV} (h : lenS args = some (o, v)) : PureCall Try.prog 93 args v := by
  unfold lenS at h
  split at h
  · rename_i s x
    cases h
    intro ρ N vs ha
    cases ha with
    | cons _ _ _ _ r0 hb =>
      cases hb
      have wx := int_arg r0
      obtain ⟨x0, x1⟩ := wx
      have ha' := Reps.cons _ _ _ _ (remark r0) (.nil (ρ := ρ) (N := N))
      have s32 : ishr .u64 x 32 = x / 2 ^ 32 := ishr_eq (r := 32) (by simp [IntKind.bits])
      have s16 : ishr .u64 x 16 = x / 2 ^ 16 := ishr_eq (r := 16) (by simp [IntKind.bits])
      have s8 : ishr .u64 x 8 = x / 2 ^ 8 := ishr_eq (r := 8) (by simp [IntKind.bits])
      have s3216 : ishr .u64 (ishr .u64 x 32) 16 = x / 2 ^ 48 := shr_shr 32 16 (by omega) (by omega)
      have s328 : ishr .u64 (ishr .u64 x 32) 8 = x / 2 ^ 40 := shr_shr 32 8 (by omega) (by omega)
      have s168 : ishr .u64 (ishr .u64 x 16) 8 = x / 2 ^ 24 := shr_shr 16 8 (by omega) (by omega)
      have s32168 : ishr .u64 (ishr .u64 (ishr .u64 x 32) 16) 8 = x / 2 ^ 56 := by
        rw [s3216]
        have : ishr .u64 (x / 2 ^ 48) 8 = x / 2 ^ 48 / 2 ^ 8 := ishr_eq (r := 8) (by simp [IntKind.bits])
        rw [this, Int.ediv_ediv_of_nonneg (Int.le_of_lt (Int.pow_pos (by omega))), ← Int.pow_add]
      have s0 : x = x / 2 ^ 0 := by rw [Int.pow_zero, Int.ediv_one]
      by_cases h32 : x ≥ 4294967296
      · by_cases h16 : x / 2 ^ 32 ≥ 65536
        · by_cases h8 : x / 2 ^ 48 ≥ 256
          · have ev := len_ttt x
            rw [s32168, s3216, s32] at ev
            obtain ⟨t1, t2⟩ := tab_leaf (x := x) (k := 56) (by omega) (by omega) (by omega) (Or.inr (by omega))
            exact pure_of_go mixed noCount h0_ok [true, true, true] (by kernel_rfl) ev (paid_cons (ge_true h32) (paid_cons (ge_true h16) (paid_cons (ge_true h8) (paid_cons t1 Paid.nil)))) (by rw [t2]) (by kernel_rfl) ha'
          · have ev := len_ttf x
            rw [s3216, s32] at ev
            obtain ⟨t1, t2⟩ := tab_leaf (x := x) (k := 48) (by omega) (by omega) (by omega) (Or.inr (by omega))
            exact pure_of_go mixed noCount h0_ok [true, true, false] (by kernel_rfl) ev (paid_cons (ge_true h32) (paid_cons (ge_true h16) (paid_cons (ge_false h8) (paid_cons t1 Paid.nil)))) (by rw [t2]) (by kernel_rfl) ha'
        · by_cases h8 : x / 2 ^ 32 ≥ 256
          · have ev := len_tft x
            rw [s328, s32] at ev
            obtain ⟨t1, t2⟩ := tab_leaf (x := x) (k := 40) (by omega) (by omega) (by omega) (Or.inr (by omega))
            exact pure_of_go mixed noCount h0_ok [true, false, true] (by kernel_rfl) ev (paid_cons (ge_true h32) (paid_cons (ge_false h16) (paid_cons (ge_true h8) (paid_cons t1 Paid.nil)))) (by rw [t2]) (by kernel_rfl) ha'
          · have ev := len_tff x
            rw [s32] at ev
            obtain ⟨t1, t2⟩ := tab_leaf (x := x) (k := 32) (by omega) (by omega) (by omega) (Or.inr (by omega))
            exact pure_of_go mixed noCount h0_ok [true, false, false] (by kernel_rfl) ev (paid_cons (ge_true h32) (paid_cons (ge_false h16) (paid_cons (ge_false h8) (paid_cons t1 Paid.nil)))) (by rw [t2]) (by kernel_rfl) ha'
      · by_cases h16 : x ≥ 65536
        · by_cases h8 : x / 2 ^ 16 ≥ 256
          · have ev := len_ftt x
            rw [s168, s16] at ev
            obtain ⟨t1, t2⟩ := tab_leaf (x := x) (k := 24) (by omega) (by omega) (by omega) (Or.inr (by omega))
            exact pure_of_go mixed noCount h0_ok [false, true, true] (by kernel_rfl) ev (paid_cons (ge_false h32) (paid_cons (ge_true h16) (paid_cons (ge_true h8) (paid_cons t1 Paid.nil)))) (by rw [t2]) (by kernel_rfl) ha'
          · have ev := len_ftf x
            rw [s16] at ev
            obtain ⟨t1, t2⟩ := tab_leaf (x := x) (k := 16) (by omega) (by omega) (by omega) (Or.inr (by omega))
            exact pure_of_go mixed noCount h0_ok [false, true, false] (by kernel_rfl) ev (paid_cons (ge_false h32) (paid_cons (ge_true h16) (paid_cons (ge_false h8) (paid_cons t1 Paid.nil)))) (by rw [t2]) (by kernel_rfl) ha'
        · by_cases h8 : x ≥ 256
          · have ev := len_fft x
            rw [s8] at ev
            obtain ⟨t1, t2⟩ := tab_leaf (x := x) (k := 8) (by omega) (by omega) (by omega) (Or.inr (by omega))
            exact pure_of_go mixed noCount h0_ok [false, false, true] (by kernel_rfl) ev (paid_cons (ge_false h32) (paid_cons (ge_false h16) (paid_cons (ge_true h8) (paid_cons t1 Paid.nil)))) (by rw [t2]) (by kernel_rfl) ha'
          · have ev := len_fff x
            obtain ⟨t1, t2⟩ := tab_leaf (x := x) (k := 0) (by omega) (by rw [← s0]; exact x0) (by rw [← s0]; omega) (Or.inl rfl)
            rw [← s0] at t1 t2
            exact pure_of_go mixed noCount h0_ok [false, false, false] (by kernel_rfl) ev (paid_cons (ge_false h32) (paid_cons (ge_false h16) (paid_cons (ge_false h8) (paid_cons t1 Paid.nil)))) (by rw [t2]) (by kernel_rfl) ha'
  · cases h
def hr1 : CallH := withC 93 lenS hm1
theorem hr1_ok : HOk Try.prog hr1 := hm1_ok.withC fun _ _ _ h _ => len_ok h
def lzS : List AV → E AV
  | [.int _ .u64 x] => some ([decide (0 < x)], .int true .i64 (64 - blen x))
  | _ => none
def lz0 : List AV → E AV
  | [.int _ .u64 x] => some ([decide (9223372036854775808 ≤ x)], .int false .i64 0)
  | _ => none
theorem lz_eval (x : Int) : res (funcA Try.prog qAll hr1 100 88 [.int true .u64 x] []) = some ([], .int true .i64 (IntKind.i64.wrap (64 - blen x))) := by kernel_rfl
theorem blen_word {x : Int} (h : W x) (h0 : 0 < x) : 1 ≤ blen x ∧ blen x ≤ 64 := by
  obtain ⟨n, e, h1, h2⟩ := blen_spec h0
  obtain ⟨g1, g2⟩ := h
  have : n < 64 := by
    rcases Nat.lt_or_ge n 64 with h8 | h8
    · exact h8
    · have : (2 : Int) ^ 64 ≤ 2 ^ n := by exact_mod_cast Nat.pow_le_pow_right (by omega : 0 < 2) h8
      have h256 : (2 : Int) ^ 64 = 18446744073709551616 := rfl
      omega
  omega
theorem lz_ok {args : List AV} {o : List Bool} {v : AV} (h : lzS args = some (o, v)) (ho : Paid o) : PureCall Try.prog 88 args v := by
  unfold lzS at h
  split at h
  · rename_i s x
    cases h
    have h1 := ho _ (List.mem_cons_self ..)
    rw [decide_eq_true_eq] at h1
    intro ρ N vs ha
    cases ha with
    | cons _ _ _ _ r0 hb =>
      cases hb
      have hb := blen_word (int_arg r0) h1
      have hw : IntKind.i64.wrap (64 - blen x) = 64 - blen x := w64_id (by omega)
      exact pure_of_res mixed noCount hr1_ok (by kernel_rfl) (lz_eval x) Paid.nil (by rw [hw]) (by kernel_rfl) (.cons _ _ _ _ (remark r0) .nil)
  · cases h
theorem unmarkI {k : IntKind} {n m : Int} (hnm : n = m) {ρ ρ' : Nat → Loc3} {N N' : Nat → Prop} {u : Value} (h : Rep ρ N (.int true k n) u) : Rep ρ' N' (.int false k m) u := by
  subst hnm; cases h with | int _ _ _ h => exact .int _ _ _ h
theorem lz0_ok {args : List AV} {o : List Bool} {v : AV} (h : lz0 args = some (o, v)) (ho : Paid o) : PureCall Try.prog 88 args v := by
  unfold lz0 at h
  split at h
  · rename_i s x
    cases h
    have h1 := ho _ (List.mem_cons_self ..)
    rw [decide_eq_true_eq] at h1
    intro ρ N vs ha
    cases ha with
    | cons _ _ _ _ r0 hb =>
      cases hb
      have hx := int_arg r0
      obtain ⟨x0, x1⟩ := hx
      have hb : blen x = (63 : Nat) + 1 := blen_of (by simpa using h1) (by simpa using x1)
      have hw : IntKind.i64.wrap (64 - blen x) = 0 := by rw [hb]; decide
      exact pure_of_resX mixed noCount hr1_ok (by kernel_rfl) (lz_eval x) Paid.nil (unmarkI hw) (.cons _ _ _ _ (remark r0) .nil)
  · cases h
end Go.Proofs.Ytpbemjifhampcaa
