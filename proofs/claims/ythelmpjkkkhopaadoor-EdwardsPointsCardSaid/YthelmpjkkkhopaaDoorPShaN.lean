/- A loop by a family of heads, each round by a handler of its own. Own work. -/
import Derived.Test.YthelmpjkkkhopaaDoorPMyC
import Derived.Test.YthelmpjkkkhopaaDoorPEvOps
set_option linter.unusedSimpArgs false
set_option linter.unusedVariables false
set_option linter.unusedSectionVars false
namespace Go.Ev
section
variable [Tab]
variable {P : Program} {q : FuncId → Bool} {Λ0 Λ : LoopH}
theorem fam_okx {σ : Type} {id nt n : Nat} {ts : List Nat} {B : Code} (vals : σ → List AV) (M : σ → Mem) (J : σ → σ → Prop) (μ : σ → Nat) {pat : List AV → Mem → Option σ} {owe : σ → List Bool} {fin : σ → List (Nat × AV) × Mem}
    (hm : P.follows .mixedOrders = true) (hΛ : LOk P B Λ) (hΛ0 : LOk P B Λ0) (h1 : one1 (blks id B) = true) (h2 : isLoop (blk id B) = true) (hbm : ∀ s, bndM (M s).length (M s) = true) (hbv : ∀ s, bndL (M s).length (vals s) = true)
    (hpat : ∀ avs m s, pat avs m = some s → Paid (owe s) → ∃ s1, LeL avs (vals s1) ∧ m = M s1 ∧ J s s1)
    (round : ∀ s s1, J s s1 → ∀ x : Nat → AV, ∃ H, HOk P H ∧ Round P q H Λ0 B id nt n ts vals M (J s) μ (fin s) s1 x) :
    LOk P B (famH id nt ts pat owe fin Λ) := by
  refine ⟨fun {id' c st st' o} hc hl ho => ?_⟩
  unfold famH at hl
  split at hl
  · rename_i hb
    simp only [Bool.and_eq_true] at hb
    have hid := Nat.eq_of_beq_eq_true hb.1
    have hlen := Nat.eq_of_beq_eq_true hb.2
    subst hid
    split at hl
    · rename_i s hs
      simp only [Option.some.injEq, Prod.mk.injEq] at hl
      obtain ⟨rfl, rfl⟩ := hl
      obtain ⟨s1, p1, p2, p4⟩ := hpat _ _ _ hs ho
      have e := blk_of hc h1
      rw [lp_of h2] at e
      have hc' : ∀ x ∈ subs (lp (blk id' B)), x ∈ subs B := fun x hx => by
        refine subs_trans hc x ?_
        rw [e]
        simp only [subs, List.mem_cons]
        exact Or.inr (Or.inr hx)
      rw [e]
      refine Ok.leave ?_
      have key : ∀ (k : Nat) (s1 : σ) (st1 : St) (ex : Mem), μ s1 < k → J s s1 → st1.tm.length = nt → st1.mem = M s1 ++ ex → LeL (ts.map fun t => st1.tm.getD t .top) (vals s1) →
          ∀ (w0 : World) (S : Nat → Prop) (ρ0 : Nat → Loc3) (n0 : Nat) (ds : List Deferred) (a : Act) (w : World), n0 ≤ (M s1).length → SInv w0 S ρ0 n0 ds st1 a w →
          Code.rounds P (lp (blk id' B)) (Post w0 S ρ0 n0 ds (fun p => ∃ st2, p = (.exit id', st2) ∧ Wk st2 ⟨tmOf (ups (fun _ => .top) (fin s).1) nt, (fin s).2⟩)) k a w := by
        intro k
        induction k with
        | zero => intro s1 st1 ex h; omega
        | succ k ih =>
          intro s1 st1 ex hk hJ i3 i4 i5 w0 S ρ0 n0 ds a w hn0 hs1
          rw [rounds_succ]
          have hw : SInv w0 S ρ0 n0 ds ⟨tmOf (ups (fun t => keepB (M s1).length (st1.tm.getD t .top)) (zipU ts (vals s1))) nt, M s1⟩ a w := by
            obtain ⟨⟨ρ, r1, r2, r3⟩, r4, r5⟩ := hs1
            rw [i4] at r2
            refine ⟨⟨ρ, ⟨fun t => ?_, ?_⟩, r2.short (hbm s1), r3⟩, hn0, r5⟩
            · by_cases ht : t < nt
              · rw [tmOf_get ht]
                have hx := r1.rep t
                exact ups_slot (zipU_le i5) (fun p hp => bndL_mem (hbv s1) _ (zipU_mem hp)) hx
              · rw [tmOf_out ht]; exact .top _
            · rw [tmOf_len, ← i3]; exact r1.le
          obtain ⟨H, hH, hround⟩ := round s s1 hJ (fun t => keepB (M s1).length (st1.tm.getD t .top))
          have hsat : (codeL P q H Λ0 n (lp (blk id' B)) ⟨tmOf (ups (fun t => keepB (M s1).length (st1.tm.getD t .top)) (zipU ts (vals s1))) nt, M s1⟩).Sat (fun p => match p.1 with | .normal => ∃ s2 ex, μ s2 < μ s1 ∧ J s s2 ∧ p.2.tm.length = nt ∧ p.2.mem = M s2 ++ ex ∧ LeL (ts.map fun t => p.2.tm.getD t .top) (vals s2) ∧ n0 ≤ (M s2).length | _ => ∃ st2, p = (.exit id', st2) ∧ Wk st2 ⟨tmOf (ups (fun _ => .top) (fin s).1) nt, (fin s).2⟩) := by
            rcases hround with ⟨ds', o', avs, s2, ex2, r1, r2, r3, r4, r5, r6⟩ | ⟨ds', o', avs, r1, r2, r3⟩
            · refine seesL_sat r1 r2 fun ex st2 hx ha hn hmm => ?_
              cases ex with
              | normal => exact ⟨s2, ex2, r6, r4, hn, hmm, by rw [ha]; exact r3, by rw [r5]; exact hn0⟩
              | exit i => simp [exNo] at hx
              | ret => simp [exNo] at hx
            · refine seesL_sat r1 r2 fun ex st2 hx ha hn hmm => ?_
              cases ex with
              | normal => simp [exNo] at hx
              | ret => simp [exNo] at hx
              | exit i =>
                simp [exNo] at hx
                subst hx
                refine ⟨st2, rfl, hmm.symm, by rw [hn, tmOf_len], fun t ρ N v hr => ?_⟩
                by_cases ht : t < nt
                · rw [tmOf_get ht]
                  have : ∀ {l : List (Nat × AV)}, (∀ p ∈ l, ∃ a, (p.1, a) ∈ zipU ts avs ∧ Le1 a p.2) → Rep ρ N (ups (fun _ => .top) l t) v := by
                    intro l
                    induction l with
                    | nil => intro _; exact .top _
                    | cons p l ih =>
                      intro hl
                      obtain ⟨i, a⟩ := p
                      unfold ups
                      cases hb : Nat.beq t i with
                      | true =>
                        have := Nat.eq_of_beq_eq_true hb
                        subst this
                        obtain ⟨a', q1, q2⟩ := hl _ (List.mem_cons_self ..)
                        have := zipU_of ha _ q1
                        simp only at this
                        rw [this] at hr
                        exact q2.rep hr
                      | false => exact ih fun p hp => hl p (List.mem_cons_of_mem _ hp)
                  exact this r3
                · rw [tmOf_out ht]; exact .top _
          refine wp_mono ((codeL_sound hm hH hΛ0 n).1 hc' hsat w0 S ρ0 n0 ds a w hw) fun e a' w' he => ?_
          cases e with
          | normal => obtain ⟨st', ⟨s2, ex2, k1, k2, k3, k4, k5, k6⟩, k7⟩ := he; exact ih s2 st' ex2 (by omega) k2 k3 k4 k5 w0 S ρ0 n0 ds a' w' k6 k7
          | exit i => obtain ⟨st', k1, k2⟩ := he; exact ⟨st', k1, k2⟩
          | ret => obtain ⟨st', k1, k2⟩ := he; exact ⟨st', k1, k2⟩
          | goto l => exact he
          | panic ch => exact he
          | outgrown => exact he
      exact fun w0 S ρ0 n0 ds a w hs => wp_loop_rounds (μ s1 + 1) (key (μ s1 + 1) s1 st [] (by omega) p4 hlen (by rw [List.append_nil]; exact p2) p1 w0 S ρ0 n0 ds a w (by rw [← p2]; exact hs.le) hs)
    · exact hΛ.ok hc hl ho
  · exact hΛ.ok hc hl ho
end
end Go.Ev
namespace Go.Sh
open Go.Ev
/-- Bit by bit. -/
def ix (x y : Int) : Int := ((x.toNat ^^^ y.toNat : Nat) : Int)
def ia (x y : Int) : Int := ((x.toNat &&& y.toNat : Nat) : Int)
def io (x y : Int) : Int := ((x.toNat ||| y.toNat : Nat) : Int)
/-- A word of w bits. -/
def Wd (w : Nat) (x : Int) : Prop := 0 ≤ x ∧ x < 2 ^ w
theorem wd_nat {w : Nat} {x : Int} (h : Wd w x) : ∃ a : Nat, a < 2 ^ w ∧ x = (a : Int) := by
  refine ⟨x.toNat, ?_, by unfold Wd at h; omega⟩
  have h1 : ((x.toNat : Nat) : Int) < ((2 ^ w : Nat) : Int) := by
    rw [Int.toNat_of_nonneg h.1]; simpa using h.2
  exact Int.ofNat_lt.1 h1
theorem nat_wd {w a : Nat} (h : a < 2 ^ w) : Wd w (a : Int) := by
  refine ⟨by omega, ?_⟩
  have : ((a : Nat) : Int) < ((2 ^ w : Nat) : Int) := Int.ofNat_lt.2 h
  simpa using this
theorem ix_wd {w : Nat} {x y : Int} (hx : Wd w x) (hy : Wd w y) : Wd w (ix x y) := by
  obtain ⟨a, ha, rfl⟩ := wd_nat hx
  obtain ⟨b, hb, rfl⟩ := wd_nat hy
  exact nat_wd (Nat.xor_lt_two_pow ha hb)
theorem ia_wd {w : Nat} {x y : Int} (hx : Wd w x) : Wd w (ia x y) := by
  obtain ⟨a, ha, rfl⟩ := wd_nat hx
  exact nat_wd (Nat.lt_of_le_of_lt Nat.and_le_left ha)
theorem io_wd {w : Nat} {x y : Int} (hx : Wd w x) (hy : Wd w y) : Wd w (io x y) := by
  obtain ⟨a, ha, rfl⟩ := wd_nat hx
  obtain ⟨b, hb, rfl⟩ := wd_nat hy
  exact nat_wd (Nat.or_lt_two_pow ha hb)
theorem wrap_u {k : IntKind} (hk : k.signed = false) (x : Int) : k.wrap x = x % 2 ^ k.bits := by
  unfold IntKind.wrap
  cases k <;> simp [IntKind.signed, IntKind.bits] at *
theorem wrap_wd {k : IntKind} (hk : k.signed = false) {x : Int} (h : Wd k.bits x) : k.wrap x = x := by
  rw [wrap_u hk]; exact Int.emod_eq_of_lt h.1 h.2
theorem ofInt_nat {n a : Nat} (h : a < 2 ^ n) : (BitVec.ofInt n (a : Int)).toNat = a := by
  rw [BitVec.ofInt_natCast, BitVec.toNat_ofNat, Nat.mod_eq_of_lt h]
theorem ixor_ix {k : IntKind} (hk : k.signed = false) {x y : Int} (hx : Wd k.bits x) (hy : Wd k.bits y) : ixor k x y = ix x y := by
  have h := ix_wd hx hy
  obtain ⟨a, ha, rfl⟩ := wd_nat hx
  obtain ⟨b, hb, rfl⟩ := wd_nat hy
  unfold ixor
  rw [BitVec.toNat_xor, ofInt_nat ha, ofInt_nat hb]
  exact wrap_wd hk h
theorem iand_ia {k : IntKind} (hk : k.signed = false) {x y : Int} (hx : Wd k.bits x) (hy : Wd k.bits y) : iand k x y = ia x y := by
  have h := ia_wd (y := y) hx
  obtain ⟨a, ha, rfl⟩ := wd_nat hx
  obtain ⟨b, hb, rfl⟩ := wd_nat hy
  unfold iand
  rw [BitVec.toNat_and, ofInt_nat ha, ofInt_nat hb]
  exact wrap_wd hk h
theorem ior_io {k : IntKind} (hk : k.signed = false) {x y : Int} (hx : Wd k.bits x) (hy : Wd k.bits y) : ior k x y = io x y := by
  have h := io_wd hx hy
  obtain ⟨a, ha, rfl⟩ := wd_nat hx
  obtain ⟨b, hb, rfl⟩ := wd_nat hy
  unfold ior
  rw [BitVec.toNat_or, ofInt_nat ha, ofInt_nat hb]
  exact wrap_wd hk h
theorem shr_div {k : IntKind} {x : Int} {n : Nat} (hn : n ≤ k.bits) : ishr k x (n : Int) = x / 2 ^ n := by
  unfold ishr
  rw [Int.toNat_natCast, Nat.min_eq_left hn, Int.fdiv_eq_ediv_of_nonneg _ (Int.le_of_lt (Int.pow_pos (by omega)))]
theorem shl_mul {k : IntKind} (hk : k.signed = false) {x : Int} {n : Nat} (hn : n ≤ k.bits) : ishl k x (n : Int) = x * 2 ^ n % 2 ^ k.bits := by
  unfold ishl
  rw [Int.toNat_natCast, Nat.min_eq_left hn, wrap_u hk]
/-- Turned by n bits to the right, of w. -/
def rr (w n : Nat) (x : Int) : Int := x / 2 ^ n + x % 2 ^ n * 2 ^ (w - n)
theorem pow_split {w n : Nat} (h : n ≤ w) : (2 : Int) ^ w = 2 ^ n * 2 ^ (w - n) := by rw [← Int.pow_add]; congr 1; omega
theorem pos2 (n : Nat) : (0 : Int) < 2 ^ n := Int.pow_pos (by omega)
theorem div_lt {w n : Nat} (h : n ≤ w) {x : Int} (hx : Wd w x) : 0 ≤ x / 2 ^ n ∧ x / 2 ^ n < 2 ^ (w - n) := by
  refine ⟨Int.ediv_nonneg hx.1 (Int.le_of_lt (pos2 n)), ?_⟩
  apply Int.ediv_lt_of_lt_mul (pos2 n)
  rw [Int.mul_comm, ← pow_split h]; exact hx.2
theorem mul_modS {w n : Nat} (h : n ≤ w) (x : Int) : x * 2 ^ (w - n) % 2 ^ w = x % 2 ^ n * 2 ^ (w - n) := by
  rw [pow_split h, Int.mul_comm x, Int.mul_comm (2 ^ n), Int.mul_emod_mul_of_pos _ _ (pos2 _), Int.mul_comm]
theorem rr_wd {w n : Nat} (h : n ≤ w) {x : Int} (hx : Wd w x) : Wd w (rr w n x) := by
  obtain ⟨d1, d2⟩ := div_lt h hx
  have m1 := Int.emod_nonneg x (Int.ne_of_gt (pos2 n))
  have m2 := Int.emod_lt_of_pos x (pos2 n)
  have hp := pos2 (w - n)
  unfold rr Wd
  rw [pow_split h]
  generalize x / 2 ^ n = d at *
  generalize x % 2 ^ n = m at *
  generalize (2 : Int) ^ (w - n) = p at *
  generalize (2 : Int) ^ n = q at *
  have e1 : 0 ≤ m * p := Int.mul_nonneg m1 (Int.le_of_lt hp)
  have e2 : m * p ≤ (q - 1) * p := Int.mul_le_mul_of_nonneg_right (by omega) (Int.le_of_lt hp)
  have e3 : (q - 1) * p = q * p - p := by rw [Int.sub_mul, Int.one_mul]
  omega
theorem or_add {a b s : Nat} (h : b < 2 ^ s) : a * 2 ^ s ||| b = a * 2 ^ s + b := by
  have := Nat.shiftLeft_add_eq_or_of_lt h a
  rw [Nat.shiftLeft_eq] at this
  exact this.symm
/-- Turned, as the program and the reference have it. -/
theorem rot_io {w n : Nat} (h : n ≤ w) {x : Int} (hx : Wd w x) : io (x * 2 ^ (w - n) % 2 ^ w) (x / 2 ^ n) = rr w n x := by
  obtain ⟨a, ha, rfl⟩ := wd_nat hx
  rw [mul_modS h]
  have e1 : ((a : Nat) : Int) % 2 ^ n * 2 ^ (w - n) = ((a % 2 ^ n * 2 ^ (w - n) : Nat) : Int) := by simp
  have e2 : ((a : Nat) : Int) / 2 ^ n = ((a / 2 ^ n : Nat) : Int) := by simp
  have hlt : a / 2 ^ n < 2 ^ (w - n) := by
    apply Nat.div_lt_of_lt_mul
    rw [← Nat.pow_add, show n + (w - n) = w by omega]; exact ha
  unfold rr io
  rw [e1, e2, Int.toNat_natCast, Int.toNat_natCast, or_add hlt]
  omega
/-- What e picks of f and g. -/
def cho (w : Nat) (e f g : Int) : Int := io (ia e f) (ia (2 ^ w - 1 - e) g)
def maj (a b c : Int) : Int := io (io (ia a b) (ia a c)) (ia b c)
def big0 (w : Nat) (a : Int) : Int := if w = 32 then ix (ix (rr 32 2 a) (rr 32 13 a)) (rr 32 22 a) else ix (ix (rr 64 28 a) (rr 64 34 a)) (rr 64 39 a)
def big1 (w : Nat) (e : Int) : Int := if w = 32 then ix (ix (rr 32 6 e) (rr 32 11 e)) (rr 32 25 e) else ix (ix (rr 64 14 e) (rr 64 18 e)) (rr 64 41 e)
def sml0 (w : Nat) (x : Int) : Int := if w = 32 then ix (ix (rr 32 7 x) (rr 32 18 x)) (x / 2 ^ 3) else ix (ix (rr 64 1 x) (rr 64 8 x)) (x / 2 ^ 7)
def sml1 (w : Nat) (x : Int) : Int := if w = 32 then ix (ix (rr 32 17 x) (rr 32 19 x)) (x / 2 ^ 10) else ix (ix (rr 64 19 x) (rr 64 61 x)) (x / 2 ^ 6)
/-- The number of bytes, the highest first. -/
def beS (l : List Int) : Int := l.foldl (fun a x => a * 256 + x) 0
/-- The next of the words W. -/
def nextW (w : Nat) (b : List Int) (ws : List Int) : Int :=
  if ws.length < 16 then beS ((b.drop (w / 8 * ws.length)).take (w / 8))
  else (ws.getD (ws.length - 16) 0 + sml0 w (ws.getD (ws.length - 15) 0) + ws.getD (ws.length - 7) 0 + sml1 w (ws.getD (ws.length - 2) 0)) % 2 ^ w
def wordsW (w : Nat) (b : List Int) : Nat → List Int
  | 0 => []
  | n + 1 => wordsW w b n ++ [nextW w b (wordsW w b n)]
/-- A round. -/
def roundW (w : Nat) (K x : Int) : List Int → List Int
  | [a, b, c, d, e, f, g, h] =>
    [((h + big1 w e + cho w e f g + K + x) + (big0 w a + maj a b c)) % 2 ^ w, a, b, c, (d + (h + big1 w e + cho w e f g + K + x)) % 2 ^ w, e, f, g]
  | l => l
end Go.Sh
namespace Go.Sh
open Go.Ev
theorem ior_add {k : IntKind} (hk : k.signed = false) {x y : Int} (s : Nat) (h0S : 0 ≤ x) (hm : x % 2 ^ s = 0) (hy : 0 ≤ y ∧ y < 2 ^ s) (hb : x + y < 2 ^ k.bits) : ior k x y = x + y := by
  rw [ior_io hk ⟨h0S, by omega⟩ ⟨hy.1, by omega⟩]
  obtain ⟨b, hb2, rfl⟩ := wd_nat (w := s) hy
  have hx : x = ((x.toNat : Nat) : Int) := by omega
  have hd : x.toNat = x.toNat / 2 ^ s * 2 ^ s := by
    have h1 : ((x.toNat % 2 ^ s : Nat) : Int) = 0 := by
      rw [Int.natCast_emod, ← hx]; simpa using hm
    have h2 : x.toNat % 2 ^ s = 0 := by omega
    have := Nat.div_add_mod x.toNat (2 ^ s)
    rw [h2, Nat.add_zero, Nat.mul_comm] at this
    exact this.symm
  unfold io
  rw [Int.toNat_natCast, hd, or_add hb2, ← hd]
  omega
/-- Turned, as the program has it. -/
def R (k : IntKind) (s n x : Int) : Int := ior k (ishl k x s) (ishr k x n)
theorem R_eq {k : IntKind} (hk : k.signed = false) {n : Nat} (h : n ≤ k.bits) {x : Int} (hx : Wd k.bits x) : R k ((k.bits - n : Nat) : Int) (n : Int) x = rr k.bits n x := by
  unfold R
  rw [shl_mul hk (by omega), shr_div h, ior_io hk, rot_io h hx]
  · exact ⟨Int.emod_nonneg _ (Int.ne_of_gt (pos2 _)), Int.emod_lt_of_pos _ (pos2 _)⟩
  · obtain ⟨d1, d2⟩ := div_lt h hx
    refine ⟨d1, Int.lt_of_lt_of_le d2 ?_⟩
    have : (2 : Int) ^ k.bits = 2 ^ n * 2 ^ (k.bits - n) := pow_split h
    rw [this]
    have h1 : (1 : Int) ≤ 2 ^ n := by have := pos2 n; omega
    have := Int.mul_le_mul_of_nonneg_right h1 (Int.le_of_lt (pos2 (k.bits - n)))
    omega
theorem R32 {x : Int} (n : Nat) (h : n ≤ 32) (hx : Wd 32 x) : R .u32 ((32 - n : Nat) : Int) (n : Int) x = rr 32 n x := R_eq (k := .u32) rfl h hx
theorem R64 {x : Int} (n : Nat) (h : n ≤ 64) (hx : Wd 64 x) : R .u64 ((64 - n : Nat) : Int) (n : Int) x = rr 64 n x := R_eq (k := .u64) rfl h hx
theorem div_wd {w n : Nat} {x : Int} (hx : Wd w x) : Wd w (x / 2 ^ n) := by
  have hp := pos2 n
  refine ⟨Int.ediv_nonneg hx.1 (Int.le_of_lt hp), Int.lt_of_le_of_lt (Int.ediv_le_self _ hx.1) hx.2⟩
/-- As the program reckons them. -/
def s0_32 (x : Int) : Int := ixor .u32 (ixor .u32 (R .u32 25 7 x) (R .u32 14 18 x)) (ishr .u32 x 3)
def s1_32 (x : Int) : Int := ixor .u32 (ixor .u32 (R .u32 15 17 x) (R .u32 13 19 x)) (ishr .u32 x 10)
def S0_32 (x : Int) : Int := ixor .u32 (ixor .u32 (R .u32 30 2 x) (R .u32 19 13 x)) (R .u32 10 22 x)
def S1_32 (x : Int) : Int := ixor .u32 (ixor .u32 (R .u32 26 6 x) (R .u32 21 11 x)) (R .u32 7 25 x)
def s0_64 (x : Int) : Int := ixor .u64 (ixor .u64 (R .u64 63 1 x) (R .u64 56 8 x)) (ishr .u64 x 7)
def s1_64 (x : Int) : Int := ixor .u64 (ixor .u64 (R .u64 45 19 x) (R .u64 3 61 x)) (ishr .u64 x 6)
def S0_64 (x : Int) : Int := ixor .u64 (ixor .u64 (R .u64 36 28 x) (R .u64 30 34 x)) (R .u64 25 39 x)
def S1_64 (x : Int) : Int := ixor .u64 (ixor .u64 (R .u64 50 14 x) (R .u64 46 18 x)) (R .u64 23 41 x)
theorem xx32 {a b c : Int} (ha : Wd 32 a) (hb : Wd 32 b) (hc : Wd 32 c) : ixor .u32 (ixor .u32 a b) c = ix (ix a b) c := by
  rw [ixor_ix (k := .u32) rfl ha hb, ixor_ix (k := .u32) rfl (ix_wd ha hb) hc]
theorem xx64 {a b c : Int} (ha : Wd 64 a) (hb : Wd 64 b) (hc : Wd 64 c) : ixor .u64 (ixor .u64 a b) c = ix (ix a b) c := by
  rw [ixor_ix (k := .u64) rfl ha hb, ixor_ix (k := .u64) rfl (ix_wd ha hb) hc]
theorem sd32 {x : Int} (n : Nat) (h : n ≤ 32) : ishr .u32 x (n : Int) = x / 2 ^ n := shr_div (k := .u32) h
theorem sd64 {x : Int} (n : Nat) (h : n ≤ 64) : ishr .u64 x (n : Int) = x / 2 ^ n := shr_div (k := .u64) h
theorem s0_32_eq {x : Int} (h : Wd 32 x) : s0_32 x = sml0 32 x := by
  unfold s0_32 sml0
  rw [show R .u32 25 7 x = rr 32 7 x from R32 7 (by decide) h, show R .u32 14 18 x = rr 32 18 x from R32 18 (by decide) h, show ishr .u32 x 3 = x / 2 ^ 3 from sd32 3 (by decide), if_pos rfl,
    xx32 (rr_wd (by decide) h) (rr_wd (by decide) h) (div_wd h)]
theorem s1_32_eq {x : Int} (h : Wd 32 x) : s1_32 x = sml1 32 x := by
  unfold s1_32 sml1
  rw [show R .u32 15 17 x = rr 32 17 x from R32 17 (by decide) h, show R .u32 13 19 x = rr 32 19 x from R32 19 (by decide) h, show ishr .u32 x 10 = x / 2 ^ 10 from sd32 10 (by decide), if_pos rfl,
    xx32 (rr_wd (by decide) h) (rr_wd (by decide) h) (div_wd h)]
theorem S0_32_eq {x : Int} (h : Wd 32 x) : S0_32 x = big0 32 x := by
  unfold S0_32 big0
  rw [show R .u32 30 2 x = rr 32 2 x from R32 2 (by decide) h, show R .u32 19 13 x = rr 32 13 x from R32 13 (by decide) h, show R .u32 10 22 x = rr 32 22 x from R32 22 (by decide) h, if_pos rfl,
    xx32 (rr_wd (by decide) h) (rr_wd (by decide) h) (rr_wd (by decide) h)]
theorem S1_32_eq {x : Int} (h : Wd 32 x) : S1_32 x = big1 32 x := by
  unfold S1_32 big1
  rw [show R .u32 26 6 x = rr 32 6 x from R32 6 (by decide) h, show R .u32 21 11 x = rr 32 11 x from R32 11 (by decide) h, show R .u32 7 25 x = rr 32 25 x from R32 25 (by decide) h, if_pos rfl,
    xx32 (rr_wd (by decide) h) (rr_wd (by decide) h) (rr_wd (by decide) h)]
theorem s0_64_eq {x : Int} (h : Wd 64 x) : s0_64 x = sml0 64 x := by
  unfold s0_64 sml0
  rw [show R .u64 63 1 x = rr 64 1 x from R64 1 (by decide) h, show R .u64 56 8 x = rr 64 8 x from R64 8 (by decide) h, show ishr .u64 x 7 = x / 2 ^ 7 from sd64 7 (by decide), if_neg (by decide),
    xx64 (rr_wd (by decide) h) (rr_wd (by decide) h) (div_wd h)]
theorem s1_64_eq {x : Int} (h : Wd 64 x) : s1_64 x = sml1 64 x := by
  unfold s1_64 sml1
  rw [show R .u64 45 19 x = rr 64 19 x from R64 19 (by decide) h, show R .u64 3 61 x = rr 64 61 x from R64 61 (by decide) h, show ishr .u64 x 6 = x / 2 ^ 6 from sd64 6 (by decide), if_neg (by decide),
    xx64 (rr_wd (by decide) h) (rr_wd (by decide) h) (div_wd h)]
theorem S0_64_eq {x : Int} (h : Wd 64 x) : S0_64 x = big0 64 x := by
  unfold S0_64 big0
  rw [show R .u64 36 28 x = rr 64 28 x from R64 28 (by decide) h, show R .u64 30 34 x = rr 64 34 x from R64 34 (by decide) h, show R .u64 25 39 x = rr 64 39 x from R64 39 (by decide) h, if_neg (by decide),
    xx64 (rr_wd (by decide) h) (rr_wd (by decide) h) (rr_wd (by decide) h)]
theorem S1_64_eq {x : Int} (h : Wd 64 x) : S1_64 x = big1 64 x := by
  unfold S1_64 big1
  rw [show R .u64 50 14 x = rr 64 14 x from R64 14 (by decide) h, show R .u64 46 18 x = rr 64 18 x from R64 18 (by decide) h, show R .u64 23 41 x = rr 64 41 x from R64 41 (by decide) h, if_neg (by decide),
    xx64 (rr_wd (by decide) h) (rr_wd (by decide) h) (rr_wd (by decide) h)]
/- bytes -/
def B8S (x : Int) : Prop := 0 ≤ x ∧ x < 256
theorem bytes_at {l : List Int} {k n : Nat} (h : k + n ≤ l.length) : (l.drop k).take n = (List.range n).map fun j => l.getD (k + j) 0 := by
  apply List.ext_getElem?
  intro i
  by_cases hi : i < n
  · rw [List.getElem?_take_of_lt hi, List.getElem?_drop, List.getElem?_map, List.getElem?_range hi, Option.map_some, List.getD, List.getElem?_eq_getElem (show k + i < l.length by omega), Option.getD_some]
  · rw [List.getElem?_eq_none (by simp; omega), List.getElem?_eq_none (by simp; omega)]
def w4S (a b c d : Int) : Int := ior .u32 (ior .u32 (ior .u32 (ishl .u32 (IntKind.u32.wrap a) 24) (ishl .u32 (IntKind.u32.wrap b) 16)) (ishl .u32 (IntKind.u32.wrap c) 8)) (IntKind.u32.wrap d)
theorem sl32 {x : Int} (n : Nat) (h : n ≤ 32) : ishl .u32 x (n : Int) = x * 2 ^ n % 2 ^ 32 := shl_mul (k := .u32) rfl h
theorem sl64 {x : Int} (n : Nat) (h : n ≤ 64) : ishl .u64 x (n : Int) = x * 2 ^ n % 2 ^ 64 := shl_mul (k := .u64) rfl h
theorem w4_eq {a b c d : Int} (ha : B8S a) (hb : B8S b) (hc : B8S c) (hd : B8S d) : w4S a b c d = beS [a, b, c, d] ∧ Wd 32 (beS [a, b, c, d]) := by
  unfold B8S at *
  have wr : ∀ {x : Int}, 0 ≤ x ∧ x < 256 → IntKind.u32.wrap x = x := fun h => wrap_wd (k := .u32) rfl ⟨h.1, by simp [IntKind.bits]; omega⟩
  unfold w4S
  rw [wr ha, wr hb, wr hc, wr hd, show ishl .u32 a 24 = a * 2 ^ 24 % 2 ^ 32 from sl32 24 (by decide), show ishl .u32 b 16 = b * 2 ^ 16 % 2 ^ 32 from sl32 16 (by decide), show ishl .u32 c 8 = c * 2 ^ 8 % 2 ^ 32 from sl32 8 (by decide)]
  have e1 : ior .u32 (a * 2 ^ 24 % 2 ^ 32) (b * 2 ^ 16 % 2 ^ 32) = a * 16777216 + b * 65536 := by
    rw [ior_add (k := .u32) rfl 24 (by omega) (by omega) (by omega) (by simp [IntKind.bits]; omega)]; omega
  have e2 : ior .u32 (a * 16777216 + b * 65536) (c * 2 ^ 8 % 2 ^ 32) = a * 16777216 + b * 65536 + c * 256 := by
    rw [ior_add (k := .u32) rfl 16 (by omega) (by omega) (by omega) (by simp [IntKind.bits]; omega)]; omega
  have e3 : ior .u32 (a * 16777216 + b * 65536 + c * 256) d = a * 16777216 + b * 65536 + c * 256 + d := by
    rw [ior_add (k := .u32) rfl 8 (by omega) (by omega) (by omega) (by simp [IntKind.bits]; omega)]
  rw [e1, e2, e3]
  simp only [beS, List.foldl_cons, List.foldl_nil, Wd]
  omega
def w8 (a b c d e f g h : Int) : Int := ior .u64 (ior .u64 (ior .u64 (ior .u64 (ior .u64 (ior .u64 (ior .u64 (ishl .u64 (IntKind.u64.wrap a) 56) (ishl .u64 (IntKind.u64.wrap b) 48)) (ishl .u64 (IntKind.u64.wrap c) 40)) (ishl .u64 (IntKind.u64.wrap d) 32)) (ishl .u64 (IntKind.u64.wrap e) 24)) (ishl .u64 (IntKind.u64.wrap f) 16)) (ishl .u64 (IntKind.u64.wrap g) 8)) (IntKind.u64.wrap h)
theorem w8_eq {a b c d e f g h : Int} (ha : B8S a) (hb : B8S b) (hc : B8S c) (hd : B8S d) (he : B8S e) (hf : B8S f) (hg : B8S g) (hh : B8S h) : w8 a b c d e f g h = beS [a, b, c, d, e, f, g, h] ∧ Wd 64 (beS [a, b, c, d, e, f, g, h]) := by
  unfold B8S at *
  have wr : ∀ {x : Int}, 0 ≤ x ∧ x < 256 → IntKind.u64.wrap x = x := fun h => wrap_wd (k := .u64) rfl ⟨h.1, by simp [IntKind.bits]; omega⟩
  unfold w8
  rw [wr ha, wr hb, wr hc, wr hd, wr he, wr hf, wr hg, wr hh, show ishl .u64 a 56 = a * 2 ^ 56 % 2 ^ 64 from sl64 56 (by decide), show ishl .u64 b 48 = b * 2 ^ 48 % 2 ^ 64 from sl64 48 (by decide), show ishl .u64 c 40 = c * 2 ^ 40 % 2 ^ 64 from sl64 40 (by decide), show ishl .u64 d 32 = d * 2 ^ 32 % 2 ^ 64 from sl64 32 (by decide), show ishl .u64 e 24 = e * 2 ^ 24 % 2 ^ 64 from sl64 24 (by decide), show ishl .u64 f 16 = f * 2 ^ 16 % 2 ^ 64 from sl64 16 (by decide), show ishl .u64 g 8 = g * 2 ^ 8 % 2 ^ 64 from sl64 8 (by decide)]
  have e1 : ior .u64 (a * 2 ^ 56 % 2 ^ 64) (b * 2 ^ 48 % 2 ^ 64) = a * 72057594037927936 + b * 281474976710656 := by
    rw [ior_add (k := .u64) rfl 56 (by omega) (by omega) (by omega) (by simp [IntKind.bits]; omega)]; omega
  have e2 : ior .u64 (a * 72057594037927936 + b * 281474976710656) (c * 2 ^ 40 % 2 ^ 64) = a * 72057594037927936 + b * 281474976710656 + c * 1099511627776 := by
    rw [ior_add (k := .u64) rfl 48 (by omega) (by omega) (by omega) (by simp [IntKind.bits]; omega)]; omega
  have e3 : ior .u64 (a * 72057594037927936 + b * 281474976710656 + c * 1099511627776) (d * 2 ^ 32 % 2 ^ 64) = a * 72057594037927936 + b * 281474976710656 + c * 1099511627776 + d * 4294967296 := by
    rw [ior_add (k := .u64) rfl 40 (by omega) (by omega) (by omega) (by simp [IntKind.bits]; omega)]; omega
  have e4 : ior .u64 (a * 72057594037927936 + b * 281474976710656 + c * 1099511627776 + d * 4294967296) (e * 2 ^ 24 % 2 ^ 64) = a * 72057594037927936 + b * 281474976710656 + c * 1099511627776 + d * 4294967296 + e * 16777216 := by
    rw [ior_add (k := .u64) rfl 32 (by omega) (by omega) (by omega) (by simp [IntKind.bits]; omega)]; omega
  have e5 : ior .u64 (a * 72057594037927936 + b * 281474976710656 + c * 1099511627776 + d * 4294967296 + e * 16777216) (f * 2 ^ 16 % 2 ^ 64) = a * 72057594037927936 + b * 281474976710656 + c * 1099511627776 + d * 4294967296 + e * 16777216 + f * 65536 := by
    rw [ior_add (k := .u64) rfl 24 (by omega) (by omega) (by omega) (by simp [IntKind.bits]; omega)]; omega
  have e6 : ior .u64 (a * 72057594037927936 + b * 281474976710656 + c * 1099511627776 + d * 4294967296 + e * 16777216 + f * 65536) (g * 2 ^ 8 % 2 ^ 64) = a * 72057594037927936 + b * 281474976710656 + c * 1099511627776 + d * 4294967296 + e * 16777216 + f * 65536 + g * 256 := by
    rw [ior_add (k := .u64) rfl 16 (by omega) (by omega) (by omega) (by simp [IntKind.bits]; omega)]; omega
  have e7 : ior .u64 (a * 72057594037927936 + b * 281474976710656 + c * 1099511627776 + d * 4294967296 + e * 16777216 + f * 65536 + g * 256) h = a * 72057594037927936 + b * 281474976710656 + c * 1099511627776 + d * 4294967296 + e * 16777216 + f * 65536 + g * 256 + h := by
    rw [ior_add (k := .u64) rfl 8 (by omega) (by omega) (by omega) (by simp [IntKind.bits]; omega)]
  rw [e1, e2, e3, e4, e5, e6, e7]
  simp only [beS, List.foldl_cons, List.foldl_nil, Wd]
  omega
/- the words, as an array that is filled -/
theorem words_len (w : Nat) (b : List Int) : ∀ n, (wordsW w b n).length = n
  | 0 => rfl
  | n + 1 => by simp [wordsW, words_len w b n]
def fillW (N w : Nat) (b : List Int) (n : Nat) : List Int := wordsW w b n ++ List.replicate (N - n) 0
theorem fill_set {N w : Nat} {b : List Int} {n : Nat} (h : n < N) : (fillW N w b n).set n (nextW w b (wordsW w b n)) = fillW N w b (n + 1) := by
  unfold fillW
  have e : List.replicate (N - n) (0 : Int) = 0 :: List.replicate (N - (n + 1)) 0 := by rw [← List.replicate_succ]; congr 1; omega
  rw [List.set_append, if_neg (by rw [words_len]; omega), words_len, Nat.sub_self, e, List.set_cons_zero]
  simp [wordsW]
theorem fill_get {N w : Nat} {b : List Int} {n j : Nat} (h : j < n) : (fillW N w b n).getD j 0 = (wordsW w b n).getD j 0 := by
  unfold fillW
  rw [List.getD, List.getD, List.getElem?_append_left (by rw [words_len]; exact h)]
theorem words_wd {w : Nat} {b : List Int} (hw : ∀ n, n < 16 → Wd w (beS ((b.drop (w / 8 * n)).take (w / 8)))) : ∀ n, ∀ x ∈ wordsW w b n, Wd w x
  | 0, x, h => by cases h
  | n + 1, x, h => by
    rcases List.mem_append.1 h with h | h
    · exact words_wd hw n x h
    · simp only [List.mem_singleton] at h
      subst h
      unfold nextW
      rw [words_len]
      split
      · rename_i hn; exact hw n hn
      · exact ⟨Int.emod_nonneg _ (Int.ne_of_gt (pos2 w)), Int.emod_lt_of_pos _ (pos2 w)⟩
theorem getD_wd {w : Nat} {l : List Int} (h : ∀ x ∈ l, Wd w x) (i : Nat) : Wd w (l.getD i 0) := by
  by_cases hi : i < l.length
  · rw [List.getD, List.getElem?_eq_getElem hi]; exact h _ (List.getElem_mem hi)
  · rw [List.getD, List.getElem?_eq_none (by omega)]; exact ⟨by decide, pos2 w⟩
theorem getD_B8 {l : List Int} (h : ∀ x ∈ l, B8S x) (i : Nat) : B8S (l.getD i 0) := by
  by_cases hi : i < l.length
  · rw [List.getD, List.getElem?_eq_getElem hi]; exact h _ (List.getElem_mem hi)
  · rw [List.getD, List.getElem?_eq_none (by omega)]; exact ⟨by decide, by decide⟩
end Go.Sh
