/- Layer 10: what is signed is taken, on numbers; the base's order. Own work. -/
import Derived.Test.YthelmpjkkkhopaaDoorSEoN
import Derived.Test.YthelmpjkkkhopaaDoorSEvFam
import Derived.Test.YthelmpjkkkhopaaDoorSEvOps
set_option linter.unusedSimpArgs false
set_option linter.unusedVariables false
set_option linter.unusedSectionVars false
namespace Go.Mo
open Go.Ev Go.Wn Go.Ed
set_option maxRecDepth 100000
theorem base_x : ph (eMul (L25 : Int) eB).x = 0 := by decide +kernel
theorem base_y : ph (eMul (L25 : Int) eB).y = ph (eMul (L25 : Int) eB).z := by decide +kernel
theorem L25_lt : L25 < 2 ^ 255 := by decide +kernel
theorem ptB_ord : cA.mul L25 ptB = cA.O := by
  obtain ⟨_, hz, hx, hy, _⟩ := eMul_R ptB_on eB_R L25_lt
  rw [base_x] at hx
  rw [base_y] at hy
  generalize cA.mul L25 ptB = P at *
  refine Pt.ext' ?_ ?_
  · show P.x = 0
    exact (k25.zero_of hx.symm).resolve_right hz
  · show P.y = 1
    have h1 : (P.y - 1) * ph (eMul (L25 : Int) eB).z = 0 := by
      generalize ph (eMul (L25 : Int) eB).z = z at *
      grind
    have := (k25.zero_of h1).resolve_right hz
    grind
/-- The number of the bytes that are written. -/
def wnI (p : E4) : Int := eWy p + T255 * (eWx p % 2)
theorem wr_pt {p : E4} {P : Pt P25} (h : p.R P) : wnI p = ptI P := by
  obtain ⟨h1, h2⟩ := eW_xy h
  unfold wnI ptI
  rw [h1, h2]
  rfl
def eNeg (p : E4) : E4 := ⟨sI 0 p.x, p.y, p.z, sI 0 p.t⟩
theorem eNeg_R {p : E4} {P : Pt P25} (h : p.R P) : (eNeg p).R (cA.neg P) := by
  obtain ⟨⟨o1, o2, o3, o4⟩, h⟩ := h
  refine ⟨⟨sI_ok _ _, o2, o3, sI_ok _ _⟩, ?_⟩
  show cA.PT (ph (sI 0 p.x)) (ph p.y) (ph p.z) (ph (sI 0 p.t)) _
  rw [ph_s ok_0 o1, ph_s ok_0 o4, ph_0]
  exact cA.PT_neg h
/-- The number of a key's bytes. -/
def pubI (s : Int) : Int := wnI (eMul s eB)
theorem pub_pt {s : Nat} (h : s < 2 ^ 255) : pubI (s : Int) = ptI (cA.mul s ptB) := wr_pt (eMul_R ptB_on eB_R h)
theorem ptI_y (P : Pt P25) : ptI P % T255 = (P.y.val : Int) ∧ ptI P / T255 = (P.x.val : Int) % 2 := by
  have h1 := P.y.isLt
  have h2 : P25 < 57896044618658097711785492504343953926634992332820282019728792003956564819968 := by decide
  unfold ptI T255
  omega
/-- What is reckoned of a key, a signature's number and its k. -/
def verI (A S k : Int) : Int := wnI (eSum (eMul S eB) (eMul k (eNeg (ryP (A % T255) (A / T255)))))
theorem pt_back {P : Pt P25} (h : cA.on P) : ryB (ptI P % T255) (ptI P / T255) = true ∧ (ryP (ptI P % T255) (ptI P / T255)).R P := by
  obtain ⟨e1, e2⟩ := ptI_y P
  have h1 := P.y.isLt
  have h2 : P25 < 57896044618658097711785492504343953926634992332820282019728792003956564819968 := by decide
  have h3 : 0 ≤ ptI P % T255 ∧ ptI P % T255 < T255 := by rw [e1]; unfold T255; omega
  have h4 : ptI P / T255 = 0 ∨ ptI P / T255 = 1 := by rw [e2]; omega
  have h5 : ptI P = ptI P % T255 + T255 * (ptI P / T255) := (Int.emod_add_mul_ediv _ _).symm
  obtain ⟨k1, k2⟩ := pt_read h h3 h4 h5
  refine ⟨k1, ?_⟩
  have h6 : inP (ptI P % T255) := by rw [e1]; exact ⟨by omega, by omega⟩
  have := rdP_R (o := ptI P / T255) h6
  rwa [k2] at this
theorem sign_back {s r k : Nat} (hs : s < 2 ^ 255) (hr : r < L25) (hk : k < L25) : ryB (pubI (s : Int) % T255) (pubI (s : Int) / T255) = true ∧
    verI (pubI (s : Int)) (((r + k * s) % L25 : Nat) : Int) (k : Int) = pubI (r : Int) := by
  have hl := L25_lt
  have hA := cA.on_mul ptB_on s
  rw [pub_pt hs]
  obtain ⟨h1, h2⟩ := pt_back hA
  refine ⟨h1, ?_⟩
  have hS : (r + k * s) % L25 < 2 ^ 255 := Nat.lt_trans (Nat.mod_lt _ (by decide)) hl
  have e := eSum_R (cA.on_mul ptB_on _) (cA.on_mul (cA.on_neg hA) k) (eMul_R ptB_on eB_R hS) (eMul_R (cA.on_neg hA) (eNeg_R h2) (Nat.lt_trans hk hl))
  rw [cA.signed ptB_on ptB_ord] at e
  unfold verI
  rw [wr_pt e, pub_pt (Nat.lt_trans hr hl)]
end Go.Mo
namespace Go.Ev
section
variable [Tab]
variable {P : Program} {q : FuncId → Bool} {Λ0 Λ : LoopH}
theorem fam_okx {σ : Type} {id nt n : Nat} {ts : List Nat} {B : Code} (vals : σ → List AV) (M : σ → Mem) (J : σ → σ → Prop) (μ : σ → Nat) {pat : List AV → Mem → Option σ} {owe : σ → List Bool} {fin : σ → List (Nat × AV) × Mem}
    (hm : P.follows .mixedOrders = true) (hΛ : LOk P B Λ) (hΛ0 : LOk P B Λ0) (h1 : one1 (blks id B) = true) (h2 : isLoop (blk id B) = true) (hbm : ∀ s, bndM (M s).length (M s) = true) (hbv : ∀ s, bndL (M s).length (vals s) = true)
    (hpat : ∀ avs m s, pat avs m = some s → Paid (owe s) → ∃ s1, LeL avs (vals s1) ∧ m = M s1 ∧ J s s1)
    (round : ∀ s s1, J s s1 → ∀ x : Nat → AV, ∃ H, HOk P H ∧ Round P q H Λ0 B id nt n ts vals M (J s) μ (fin s) s1 x) :
    LOk P B (famH id nt ts pat owe fin Λ) := by
  refine ⟨fun {id' c st st' o} hc hl ho => ?_⟩
  unfold famH at hl
  split at hl
  · rename_i hb
    simp only [Bool.and_eq_true] at hb
    have hid := Nat.eq_of_beq_eq_true hb.1
    have hlen := Nat.eq_of_beq_eq_true hb.2
    subst hid
    split at hl
    · rename_i s hs
      simp only [Option.some.injEq, Prod.mk.injEq] at hl
      obtain ⟨rfl, rfl⟩ := hl
      obtain ⟨s1, p1, p2, p4⟩ := hpat _ _ _ hs ho
      have e := blk_of hc h1
      rw [lp_of h2] at e
      have hc' : ∀ x ∈ subs (lp (blk id' B)), x ∈ subs B := fun x hx => by
        refine subs_trans hc x ?_
        rw [e]
        simp only [subs, List.mem_cons]
        exact Or.inr (Or.inr hx)
      rw [e]
      refine Ok.leave ?_
      have key : ∀ (k : Nat) (s1 : σ) (st1 : St) (ex : Mem), μ s1 < k → J s s1 → st1.tm.length = nt → st1.mem = M s1 ++ ex → LeL (ts.map fun t => st1.tm.getD t .top) (vals s1) →
          ∀ (w0 : World) (S : Nat → Prop) (ρ0 : Nat → Loc3) (n0 : Nat) (ds : List Deferred) (a : Act) (w : World), n0 ≤ (M s1).length → SInv w0 S ρ0 n0 ds st1 a w →
          Code.rounds P (lp (blk id' B)) (Post w0 S ρ0 n0 ds (fun p => ∃ st2, p = (.exit id', st2) ∧ Wk st2 ⟨tmOf (ups (fun _ => .top) (fin s).1) nt, (fin s).2⟩)) k a w := by
        intro k
        induction k with
        | zero => intro s1 st1 ex h; omega
        | succ k ih =>
          intro s1 st1 ex hk hJ i3 i4 i5 w0 S ρ0 n0 ds a w hn0 hs1
          rw [rounds_succ]
          have hw : SInv w0 S ρ0 n0 ds ⟨tmOf (ups (fun t => keepB (M s1).length (st1.tm.getD t .top)) (zipU ts (vals s1))) nt, M s1⟩ a w := by
            obtain ⟨⟨ρ, r1, r2, r3⟩, r4, r5⟩ := hs1
            rw [i4] at r2
            refine ⟨⟨ρ, ⟨fun t => ?_, ?_⟩, r2.short (hbm s1), r3⟩, hn0, r5⟩
            · by_cases ht : t < nt
              · rw [tmOf_get ht]
                have hx := r1.rep t
                exact ups_slot (zipU_le i5) (fun p hp => bndL_mem (hbv s1) _ (zipU_mem hp)) hx
              · rw [tmOf_out ht]; exact .top _
            · rw [tmOf_len, ← i3]; exact r1.le
          obtain ⟨H, hH, hround⟩ := round s s1 hJ (fun t => keepB (M s1).length (st1.tm.getD t .top))
          have hsat : (codeL P q H Λ0 n (lp (blk id' B)) ⟨tmOf (ups (fun t => keepB (M s1).length (st1.tm.getD t .top)) (zipU ts (vals s1))) nt, M s1⟩).Sat (fun p => match p.1 with | .normal => ∃ s2 ex, μ s2 < μ s1 ∧ J s s2 ∧ p.2.tm.length = nt ∧ p.2.mem = M s2 ++ ex ∧ LeL (ts.map fun t => p.2.tm.getD t .top) (vals s2) ∧ n0 ≤ (M s2).length | _ => ∃ st2, p = (.exit id', st2) ∧ Wk st2 ⟨tmOf (ups (fun _ => .top) (fin s).1) nt, (fin s).2⟩) := by
            rcases hround with ⟨ds', o', avs, s2, ex2, r1, r2, r3, r4, r5, r6⟩ | ⟨ds', o', avs, r1, r2, r3⟩
            · refine seesL_sat r1 r2 fun ex st2 hx ha hn hmm => ?_
              cases ex with
              | normal => exact ⟨s2, ex2, r6, r4, hn, hmm, by rw [ha]; exact r3, by rw [r5]; exact hn0⟩
              | exit i => simp [exNo] at hx
              | ret => simp [exNo] at hx
            · refine seesL_sat r1 r2 fun ex st2 hx ha hn hmm => ?_
              cases ex with
              | normal => simp [exNo] at hx
              | ret => simp [exNo] at hx
              | exit i =>
                simp [exNo] at hx
                subst hx
                refine ⟨st2, rfl, hmm.symm, by rw [hn, tmOf_len], fun t ρ N v hr => ?_⟩
                by_cases ht : t < nt
                · rw [tmOf_get ht]
                  have : ∀ {l : List (Nat × AV)}, (∀ p ∈ l, ∃ a, (p.1, a) ∈ zipU ts avs ∧ Le1 a p.2) → Rep ρ N (ups (fun _ => .top) l t) v := by
                    intro l
                    induction l with
                    | nil => intro _; exact .top _
                    | cons p l ih =>
                      intro hl
                      obtain ⟨i, a⟩ := p
                      unfold ups
                      cases hb : Nat.beq t i with
                      | true =>
                        have := Nat.eq_of_beq_eq_true hb
                        subst this
                        obtain ⟨a', q1, q2⟩ := hl _ (List.mem_cons_self ..)
                        have := zipU_of ha _ q1
                        simp only at this
                        rw [this] at hr
                        exact q2.rep hr
                      | false => exact ih fun p hp => hl p (List.mem_cons_of_mem _ hp)
                  exact this r3
                · rw [tmOf_out ht]; exact .top _
          refine wp_mono ((codeL_sound hm hH hΛ0 n).1 hc' hsat w0 S ρ0 n0 ds a w hw) fun e a' w' he => ?_
          cases e with
          | normal => obtain ⟨st', ⟨s2, ex2, k1, k2, k3, k4, k5, k6⟩, k7⟩ := he; exact ih s2 st' ex2 (by omega) k2 k3 k4 k5 w0 S ρ0 n0 ds a' w' k6 k7
          | exit i => obtain ⟨st', k1, k2⟩ := he; exact ⟨st', k1, k2⟩
          | ret => obtain ⟨st', k1, k2⟩ := he; exact ⟨st', k1, k2⟩
          | goto l => exact he
          | panic ch => exact he
          | outgrown => exact he
      exact fun w0 S ρ0 n0 ds a w hs => wp_loop_rounds (μ s1 + 1) (key (μ s1 + 1) s1 st [] (by omega) p4 hlen (by rw [List.append_nil]; exact p2) p1 w0 S ρ0 n0 ds a w (by rw [← p2]; exact hs.le) hs)
    · exact hΛ.ok hc hl ho
  · exact hΛ.ok hc hl ho
end
end Go.Ev
namespace Go.Sh
open Go.Ev
/-- Bit by bit. -/
def ix (x y : Int) : Int := ((x.toNat ^^^ y.toNat : Nat) : Int)
def ia (x y : Int) : Int := ((x.toNat &&& y.toNat : Nat) : Int)
def io (x y : Int) : Int := ((x.toNat ||| y.toNat : Nat) : Int)
/-- A word of w bits. -/
def Wd (w : Nat) (x : Int) : Prop := 0 ≤ x ∧ x < 2 ^ w
theorem wd_nat {w : Nat} {x : Int} (h : Wd w x) : ∃ a : Nat, a < 2 ^ w ∧ x = (a : Int) := by
  refine ⟨x.toNat, ?_, by unfold Wd at h; omega⟩
  have h1 : ((x.toNat : Nat) : Int) < ((2 ^ w : Nat) : Int) := by
    rw [Int.toNat_of_nonneg h.1]; simpa using h.2
  exact Int.ofNat_lt.1 h1
theorem nat_wd {w a : Nat} (h : a < 2 ^ w) : Wd w (a : Int) := by
  refine ⟨by omega, ?_⟩
  have : ((a : Nat) : Int) < ((2 ^ w : Nat) : Int) := Int.ofNat_lt.2 h
  simpa using this
theorem ix_wd {w : Nat} {x y : Int} (hx : Wd w x) (hy : Wd w y) : Wd w (ix x y) := by
  obtain ⟨a, ha, rfl⟩ := wd_nat hx
  obtain ⟨b, hb, rfl⟩ := wd_nat hy
  exact nat_wd (Nat.xor_lt_two_pow ha hb)
theorem ia_wd {w : Nat} {x y : Int} (hx : Wd w x) : Wd w (ia x y) := by
  obtain ⟨a, ha, rfl⟩ := wd_nat hx
  exact nat_wd (Nat.lt_of_le_of_lt Nat.and_le_left ha)
theorem io_wd {w : Nat} {x y : Int} (hx : Wd w x) (hy : Wd w y) : Wd w (io x y) := by
  obtain ⟨a, ha, rfl⟩ := wd_nat hx
  obtain ⟨b, hb, rfl⟩ := wd_nat hy
  exact nat_wd (Nat.or_lt_two_pow ha hb)
theorem wrap_u {k : IntKind} (hk : k.signed = false) (x : Int) : k.wrap x = x % 2 ^ k.bits := by
  unfold IntKind.wrap
  cases k <;> simp [IntKind.signed, IntKind.bits] at *
theorem wrap_wd {k : IntKind} (hk : k.signed = false) {x : Int} (h : Wd k.bits x) : k.wrap x = x := by
  rw [wrap_u hk]; exact Int.emod_eq_of_lt h.1 h.2
theorem ofInt_nat {n a : Nat} (h : a < 2 ^ n) : (BitVec.ofInt n (a : Int)).toNat = a := by
  rw [BitVec.ofInt_natCast, BitVec.toNat_ofNat, Nat.mod_eq_of_lt h]
theorem ixor_ix {k : IntKind} (hk : k.signed = false) {x y : Int} (hx : Wd k.bits x) (hy : Wd k.bits y) : ixor k x y = ix x y := by
  have h := ix_wd hx hy
  obtain ⟨a, ha, rfl⟩ := wd_nat hx
  obtain ⟨b, hb, rfl⟩ := wd_nat hy
  unfold ixor
  rw [BitVec.toNat_xor, ofInt_nat ha, ofInt_nat hb]
  exact wrap_wd hk h
theorem iand_ia {k : IntKind} (hk : k.signed = false) {x y : Int} (hx : Wd k.bits x) (hy : Wd k.bits y) : iand k x y = ia x y := by
  have h := ia_wd (y := y) hx
  obtain ⟨a, ha, rfl⟩ := wd_nat hx
  obtain ⟨b, hb, rfl⟩ := wd_nat hy
  unfold iand
  rw [BitVec.toNat_and, ofInt_nat ha, ofInt_nat hb]
  exact wrap_wd hk h
theorem ior_io {k : IntKind} (hk : k.signed = false) {x y : Int} (hx : Wd k.bits x) (hy : Wd k.bits y) : ior k x y = io x y := by
  have h := io_wd hx hy
  obtain ⟨a, ha, rfl⟩ := wd_nat hx
  obtain ⟨b, hb, rfl⟩ := wd_nat hy
  unfold ior
  rw [BitVec.toNat_or, ofInt_nat ha, ofInt_nat hb]
  exact wrap_wd hk h
theorem shr_div {k : IntKind} {x : Int} {n : Nat} (hn : n ≤ k.bits) : ishr k x (n : Int) = x / 2 ^ n := by
  unfold ishr
  rw [Int.toNat_natCast, Nat.min_eq_left hn, Int.fdiv_eq_ediv_of_nonneg _ (Int.le_of_lt (Int.pow_pos (by omega)))]
theorem shl_mul {k : IntKind} (hk : k.signed = false) {x : Int} {n : Nat} (hn : n ≤ k.bits) : ishl k x (n : Int) = x * 2 ^ n % 2 ^ k.bits := by
  unfold ishl
  rw [Int.toNat_natCast, Nat.min_eq_left hn, wrap_u hk]
/-- Turned by n bits to the right, of w. -/
def rr (w n : Nat) (x : Int) : Int := x / 2 ^ n + x % 2 ^ n * 2 ^ (w - n)
theorem pow_split {w n : Nat} (h : n ≤ w) : (2 : Int) ^ w = 2 ^ n * 2 ^ (w - n) := by rw [← Int.pow_add]; congr 1; omega
theorem pos2 (n : Nat) : (0 : Int) < 2 ^ n := Int.pow_pos (by omega)
theorem div_lt {w n : Nat} (h : n ≤ w) {x : Int} (hx : Wd w x) : 0 ≤ x / 2 ^ n ∧ x / 2 ^ n < 2 ^ (w - n) := by
  refine ⟨Int.ediv_nonneg hx.1 (Int.le_of_lt (pos2 n)), ?_⟩
  apply Int.ediv_lt_of_lt_mul (pos2 n)
  rw [Int.mul_comm, ← pow_split h]; exact hx.2
theorem mul_modS {w n : Nat} (h : n ≤ w) (x : Int) : x * 2 ^ (w - n) % 2 ^ w = x % 2 ^ n * 2 ^ (w - n) := by
  rw [pow_split h, Int.mul_comm x, Int.mul_comm (2 ^ n), Int.mul_emod_mul_of_pos _ _ (pos2 _), Int.mul_comm]
theorem rr_wd {w n : Nat} (h : n ≤ w) {x : Int} (hx : Wd w x) : Wd w (rr w n x) := by
  obtain ⟨d1, d2⟩ := div_lt h hx
  have m1 := Int.emod_nonneg x (Int.ne_of_gt (pos2 n))
  have m2 := Int.emod_lt_of_pos x (pos2 n)
  have hp := pos2 (w - n)
  unfold rr Wd
  rw [pow_split h]
  generalize x / 2 ^ n = d at *
  generalize x % 2 ^ n = m at *
  generalize (2 : Int) ^ (w - n) = p at *
  generalize (2 : Int) ^ n = q at *
  have e1 : 0 ≤ m * p := Int.mul_nonneg m1 (Int.le_of_lt hp)
  have e2 : m * p ≤ (q - 1) * p := Int.mul_le_mul_of_nonneg_right (by omega) (Int.le_of_lt hp)
  have e3 : (q - 1) * p = q * p - p := by rw [Int.sub_mul, Int.one_mul]
  omega
theorem or_add {a b s : Nat} (h : b < 2 ^ s) : a * 2 ^ s ||| b = a * 2 ^ s + b := by
  have := Nat.shiftLeft_add_eq_or_of_lt h a
  rw [Nat.shiftLeft_eq] at this
  exact this.symm
/-- Turned, as the program and the reference have it. -/
theorem rot_io {w n : Nat} (h : n ≤ w) {x : Int} (hx : Wd w x) : io (x * 2 ^ (w - n) % 2 ^ w) (x / 2 ^ n) = rr w n x := by
  obtain ⟨a, ha, rfl⟩ := wd_nat hx
  rw [mul_modS h]
  have e1 : ((a : Nat) : Int) % 2 ^ n * 2 ^ (w - n) = ((a % 2 ^ n * 2 ^ (w - n) : Nat) : Int) := by simp
  have e2 : ((a : Nat) : Int) / 2 ^ n = ((a / 2 ^ n : Nat) : Int) := by simp
  have hlt : a / 2 ^ n < 2 ^ (w - n) := by
    apply Nat.div_lt_of_lt_mul
    rw [← Nat.pow_add, show n + (w - n) = w by omega]; exact ha
  unfold rr io
  rw [e1, e2, Int.toNat_natCast, Int.toNat_natCast, or_add hlt]
  omega
/-- What e picks of f and g. -/
def cho (w : Nat) (e f g : Int) : Int := io (ia e f) (ia (2 ^ w - 1 - e) g)
def maj (a b c : Int) : Int := io (io (ia a b) (ia a c)) (ia b c)
def big0 (w : Nat) (a : Int) : Int := if w = 32 then ix (ix (rr 32 2 a) (rr 32 13 a)) (rr 32 22 a) else ix (ix (rr 64 28 a) (rr 64 34 a)) (rr 64 39 a)
def big1 (w : Nat) (e : Int) : Int := if w = 32 then ix (ix (rr 32 6 e) (rr 32 11 e)) (rr 32 25 e) else ix (ix (rr 64 14 e) (rr 64 18 e)) (rr 64 41 e)
def sml0 (w : Nat) (x : Int) : Int := if w = 32 then ix (ix (rr 32 7 x) (rr 32 18 x)) (x / 2 ^ 3) else ix (ix (rr 64 1 x) (rr 64 8 x)) (x / 2 ^ 7)
def sml1 (w : Nat) (x : Int) : Int := if w = 32 then ix (ix (rr 32 17 x) (rr 32 19 x)) (x / 2 ^ 10) else ix (ix (rr 64 19 x) (rr 64 61 x)) (x / 2 ^ 6)
/-- The number of bytes, the highest first. -/
def beS (l : List Int) : Int := l.foldl (fun a x => a * 256 + x) 0
/-- The next of the words W. -/
def nextW (w : Nat) (b : List Int) (ws : List Int) : Int :=
  if ws.length < 16 then beS ((b.drop (w / 8 * ws.length)).take (w / 8))
  else (ws.getD (ws.length - 16) 0 + sml0 w (ws.getD (ws.length - 15) 0) + ws.getD (ws.length - 7) 0 + sml1 w (ws.getD (ws.length - 2) 0)) % 2 ^ w
def wordsW (w : Nat) (b : List Int) : Nat → List Int
  | 0 => []
  | n + 1 => wordsW w b n ++ [nextW w b (wordsW w b n)]
/-- A round. -/
def roundW (w : Nat) (K x : Int) : List Int → List Int
  | [a, b, c, d, e, f, g, h] =>
    [((h + big1 w e + cho w e f g + K + x) + (big0 w a + maj a b c)) % 2 ^ w, a, b, c, (d + (h + big1 w e + cho w e f g + K + x)) % 2 ^ w, e, f, g]
  | l => l
end Go.Sh
