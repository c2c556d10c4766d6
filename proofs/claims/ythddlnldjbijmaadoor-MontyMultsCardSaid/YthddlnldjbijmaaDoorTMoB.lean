/- A loop by a family of heads, each round by a handler of its own. Own work. -/
import Derived.Test.YthddlnldjbijmaaDoorTEvFam
import Derived.Test.YthddlnldjbijmaaDoorTMoA
set_option linter.unusedSimpArgs false
set_option linter.unusedVariables false
set_option linter.unusedSectionVars false
namespace Go.Ev
section
variable [Tab]
variable {P : Program} {q : FuncId → Bool} {Λ0 Λ : LoopH}
theorem fam_okx {σ : Type} {id nt n : Nat} {ts : List Nat} {B : Code} (vals : σ → List AV) (M : σ → Mem) (J : σ → σ → Prop) (μ : σ → Nat) {pat : List AV → Mem → Option σ} {owe : σ → List Bool} {fin : σ → List (Nat × AV) × Mem}
    (hm : P.follows .mixedOrders = true) (hΛ : LOk P B Λ) (hΛ0 : LOk P B Λ0) (h1 : one1 (blks id B) = true) (h2 : isLoop (blk id B) = true) (hbm : ∀ s, bndM (M s).length (M s) = true) (hbv : ∀ s, bndL (M s).length (vals s) = true)
    (hpat : ∀ avs m s, pat avs m = some s → Paid (owe s) → ∃ s1, LeL avs (vals s1) ∧ m = M s1 ∧ J s s1)
    (round : ∀ s s1, J s s1 → ∀ x : Nat → AV, ∃ H, HOk P H ∧ Round P q H Λ0 B id nt n ts vals M (J s) μ (fin s) s1 x) :
    LOk P B (famH id nt ts pat owe fin Λ) := by
  refine ⟨fun {id' c st st' o} hc hl ho => ?_⟩
  unfold famH at hl
  split at hl
  · rename_i hb
    simp only [Bool.and_eq_true] at hb
    have hid := Nat.eq_of_beq_eq_true hb.1
    have hlen := Nat.eq_of_beq_eq_true hb.2
    subst hid
    split at hl
    · rename_i s hs
      simp only [Option.some.injEq, Prod.mk.injEq] at hl
      obtain ⟨rfl, rfl⟩ := hl
      obtain ⟨s1, p1, p2, p4⟩ := hpat _ _ _ hs ho
      have e := blk_of hc h1
      rw [lp_of h2] at e
      have hc' : ∀ x ∈ subs (lp (blk id' B)), x ∈ subs B := fun x hx => by
        refine subs_trans hc x ?_
        rw [e]
        simp only [subs, List.mem_cons]
        exact Or.inr (Or.inr hx)
      rw [e]
      refine Ok.leave ?_
      have key : ∀ (k : Nat) (s1 : σ) (st1 : St) (ex : Mem), μ s1 < k → J s s1 → st1.tm.length = nt → st1.mem = M s1 ++ ex → LeL (ts.map fun t => st1.tm.getD t .top) (vals s1) →
          ∀ (w0 : World) (S : Nat → Prop) (ρ0 : Nat → Loc3) (n0 : Nat) (ds : List Deferred) (a : Act) (w : World), n0 ≤ (M s1).length → SInv w0 S ρ0 n0 ds st1 a w →
          Code.rounds P (lp (blk id' B)) (Post w0 S ρ0 n0 ds (fun p => ∃ st2, p = (.exit id', st2) ∧ Wk st2 ⟨tmOf (ups (fun _ => .top) (fin s).1) nt, (fin s).2⟩)) k a w := by
        intro k
        induction k with
        | zero => intro s1 st1 ex h; omega
        | succ k ih =>
          intro s1 st1 ex hk hJ i3 i4 i5 w0 S ρ0 n0 ds a w hn0 hs1
          rw [rounds_succ]
          have hw : SInv w0 S ρ0 n0 ds ⟨tmOf (ups (fun t => keepB (M s1).length (st1.tm.getD t .top)) (zipU ts (vals s1))) nt, M s1⟩ a w := by
            obtain ⟨⟨ρ, r1, r2, r3⟩, r4, r5⟩ := hs1
            rw [i4] at r2
            refine ⟨⟨ρ, ⟨fun t => ?_, ?_⟩, r2.short (hbm s1), r3⟩, hn0, r5⟩
            · by_cases ht : t < nt
              · rw [tmOf_get ht]
                have hx := r1.rep t
                exact ups_slot (zipU_le i5) (fun p hp => bndL_mem (hbv s1) _ (zipU_mem hp)) hx
              · rw [tmOf_out ht]; exact .top _
            · rw [tmOf_len, ← i3]; exact r1.le
          obtain ⟨H, hH, hround⟩ := round s s1 hJ (fun t => keepB (M s1).length (st1.tm.getD t .top))
          have hsat : (codeL P q H Λ0 n (lp (blk id' B)) ⟨tmOf (ups (fun t => keepB (M s1).length (st1.tm.getD t .top)) (zipU ts (vals s1))) nt, M s1⟩).Sat (fun p => match p.1 with | .normal => ∃ s2 ex, μ s2 < μ s1 ∧ J s s2 ∧ p.2.tm.length = nt ∧ p.2.mem = M s2 ++ ex ∧ LeL (ts.map fun t => p.2.tm.getD t .top) (vals s2) ∧ n0 ≤ (M s2).length | _ => ∃ st2, p = (.exit id', st2) ∧ Wk st2 ⟨tmOf (ups (fun _ => .top) (fin s).1) nt, (fin s).2⟩) := by
            rcases hround with ⟨ds', o', avs, s2, ex2, r1, r2, r3, r4, r5, r6⟩ | ⟨ds', o', avs, r1, r2, r3⟩
            · refine seesL_sat r1 r2 fun ex st2 hx ha hn hmm => ?_
              cases ex with
              | normal => exact ⟨s2, ex2, r6, r4, hn, hmm, by rw [ha]; exact r3, by rw [r5]; exact hn0⟩
              | exit i => simp [exNo] at hx
              | ret => simp [exNo] at hx
            · refine seesL_sat r1 r2 fun ex st2 hx ha hn hmm => ?_
              cases ex with
              | normal => simp [exNo] at hx
              | ret => simp [exNo] at hx
              | exit i =>
                simp [exNo] at hx
                subst hx
                refine ⟨st2, rfl, hmm.symm, by rw [hn, tmOf_len], fun t ρ N v hr => ?_⟩
                by_cases ht : t < nt
                · rw [tmOf_get ht]
                  have : ∀ {l : List (Nat × AV)}, (∀ p ∈ l, ∃ a, (p.1, a) ∈ zipU ts avs ∧ Le1 a p.2) → Rep ρ N (ups (fun _ => .top) l t) v := by
                    intro l
                    induction l with
                    | nil => intro _; exact .top _
                    | cons p l ih =>
                      intro hl
                      obtain ⟨i, a⟩ := p
                      unfold ups
                      cases hb : Nat.beq t i with
                      | true =>
                        have := Nat.eq_of_beq_eq_true hb
                        subst this
                        obtain ⟨a', q1, q2⟩ := hl _ (List.mem_cons_self ..)
                        have := zipU_of ha _ q1
                        simp only at this
                        rw [this] at hr
                        exact q2.rep hr
                      | false => exact ih fun p hp => hl p (List.mem_cons_of_mem _ hp)
                  exact this r3
                · rw [tmOf_out ht]; exact .top _
          refine wp_mono ((codeL_sound hm hH hΛ0 n).1 hc' hsat w0 S ρ0 n0 ds a w hw) fun e a' w' he => ?_
          cases e with
          | normal => obtain ⟨st', ⟨s2, ex2, k1, k2, k3, k4, k5, k6⟩, k7⟩ := he; exact ih s2 st' ex2 (by omega) k2 k3 k4 k5 w0 S ρ0 n0 ds a' w' k6 k7
          | exit i => obtain ⟨st', k1, k2⟩ := he; exact ⟨st', k1, k2⟩
          | ret => obtain ⟨st', k1, k2⟩ := he; exact ⟨st', k1, k2⟩
          | goto l => exact he
          | panic ch => exact he
          | outgrown => exact he
      exact fun w0 S ρ0 n0 ds a w hs => wp_loop_rounds (μ s1 + 1) (key (μ s1 + 1) s1 st [] (by omega) p4 hlen (by rw [List.append_nil]; exact p2) p1 w0 S ρ0 n0 ds a w (by rw [← p2]; exact hs.le) hs)
    · exact hΛ.ok hc hl ho
  · exact hΛ.ok hc hl ho
end
end Go.Ev
namespace Go.Mo
open Go.Ev Go.Wn
/-- A step of the ladder: of m and m + 1 times. -/
def stp (u b : Int) (s : Int × Int × Int × Int) : Int × Int × Int × Int :=
  if b = 1 then (uX s.2.2.1 s.2.2.2 s.1 s.2.1, uZ u s.2.2.1 s.2.2.2 s.1 s.2.1, dX s.2.2.1 s.2.2.2, dZ s.2.2.1 s.2.2.2)
  else (dX s.1 s.2.1, dZ s.1 s.2.1, uX s.1 s.2.1 s.2.2.1 s.2.2.2, uZ u s.1 s.2.1 s.2.2.1 s.2.2.2)
/-- After j steps, from bit 254 down. -/
def lad (N u : Int) : Nat → Int × Int × Int × Int
  | 0 => (1, 0, u, 1)
  | j + 1 => stp u (N / 2 ^ (254 - j) % 2) (lad N u j)
def LdS.put (s : LdS) (p : Int × Int × Int × Int) (i : Int) : LdS := { s with X1 := p.1, Z1 := p.2.1, X2 := p.2.2.1, Z2 := p.2.2.2, i := i }
end Go.Mo
namespace Go.Proofs.YthddlnldjbijmaaDoor
open Go.Ev Go.Wn Go.Mo
set_option maxRecDepth 100000
def ldO (n : List Int) (b i : Int) : List Bool := decide (i < 255) :: decide (bitV n (IntKind.i64.wrap (254 - i)) = b) :: List.replicate 20 true
theorem ld_0 (w : Nat → AV) (s : LdS) : seesL ldTs ((codeL Tryd.prog qn (deep Tryd.prog qn (hnB 0) 100 3) (fun _ _ => none) 100 (lp (blk 0 (bodyOf Tryd.prog 21))) ⟨tmOf (ups w (zipU ldTs (ldV s))) 56, ldM s⟩).go [true]) =
    some (ldO s.n 0 s.i, 0, ldV { s with i := IntKind.i64.wrap (s.i + 1) }, 56, ldM { s with X1 := dX s.X1 s.Z1, Z1 := dZ s.X1 s.Z1, X2 := uX s.X1 s.Z1 s.X2 s.Z2, Z2 := uZ s.u s.X1 s.Z1 s.X2 s.Z2 }) := by
  obtain ⟨k, ub, nn, bb, cc, n, u, X1, Z1, X2, Z2, i⟩ := s
  kernel_rfl
theorem ld_1 (w : Nat → AV) (s : LdS) : seesL ldTs ((codeL Tryd.prog qn (deep Tryd.prog qn (hnB 1) 100 3) (fun _ _ => none) 100 (lp (blk 0 (bodyOf Tryd.prog 21))) ⟨tmOf (ups w (zipU ldTs (ldV s))) 56, ldM s⟩).go [true]) =
    some (ldO s.n 1 s.i, 0, ldV { s with i := IntKind.i64.wrap (s.i + 1) }, 56, ldM { s with X1 := uX s.X2 s.Z2 s.X1 s.Z1, Z1 := uZ s.u s.X2 s.Z2 s.X1 s.Z1, X2 := dX s.X2 s.Z2, Z2 := dZ s.X2 s.Z2 }) := by
  obtain ⟨k, ub, nn, bb, cc, n, u, X1, Z1, X2, Z2, i⟩ := s
  kernel_rfl
theorem ld_f (w : Nat → AV) (s : LdS) : seesL ldTs ((codeL Tryd.prog qn (deep Tryd.prog qn (hnB 1) 100 3) (fun _ _ => none) 100 (lp (blk 0 (bodyOf Tryd.prog 21))) ⟨tmOf (ups w (zipU ldTs (ldV s))) 56, ldM s⟩).go [false]) =
    some ([!decide (s.i < 255)], 2, ldV s, 56, ldM s) := by
  obtain ⟨k, ub, nn, bb, cc, n, u, X1, Z1, X2, Z2, i⟩ := s
  kernel_rfl
def ldP : List AV → Mem → Option (LdS × List Bool)
  | [.ptr false 7 0, .ptr false 8 0, .ptr false 9 0, .ptr false 10 0, .ptr false 11 0, .ptr false 12 0, .int false .i64 i], [some ⟨false, .ints .u8 (some 32) k⟩, some ⟨false, .ints .u8 (some 32) ub⟩, some ⟨false, .ints .u64 (some 4) nn⟩, some ⟨false, .ints .u64 (some 4) bb⟩, some ⟨false, .vals [.ptr false 6 0]⟩, some ⟨false, .ints .u64 (some 4) cc⟩, some ⟨false, .ints .u64 (some 9) L⟩,
      some ⟨true, .vals [.ptr false 6 0]⟩, some ⟨true, .ints .u64 (some 4) n⟩, some ⟨true, .ints .u64 (some 4) b⟩, some ⟨true, .ints .u64 (some 4) z⟩, some ⟨true, .ints .u64 (some 8) lo⟩, some ⟨true, .ints .u64 (some 8) hi⟩] =>
    some (⟨k, ub, nn, bb, cc, n, val b, 1, 0, val b, 1, 0⟩, [decide (i = 0), decide (L = PL), decide (z = [0, 0, 0, 0]), decide (lo = limbs 1 ++ limbs 0), decide (hi = limbs (val b) ++ limbs 1), decide (b = limbs (val b)), decide (limbs (val n) = n)])
  | _, _ => none
def ldF (p : LdS × List Bool) : List (Nat × AV) × Mem := ([(3, .ptr false 7 0), (6, .ptr false 10 0), (7, .ptr false 11 0)], ldM (p.1.put (lad (val p.1.n) p.1.u 255) 0))
def ldΛ (Λ : LoopH) : LoopH := famH 0 56 ldTs ldP (fun p => p.2) ldF Λ
def ldJ (p s : LdS × List Bool) : Prop := limbs (val p.1.n) = p.1.n ∧ ∃ j : Nat, j ≤ 255 ∧ s.1 = p.1.put (lad (val p.1.n) p.1.u j) (j : Int)
theorem ld_bit {n : List Int} (h : limbs (val n) = n) {j : Nat} (hj : j < 255) : bitV n (IntKind.i64.wrap (254 - (j : Int))) = val n / 2 ^ (254 - j) % 2 := by
  have e : IntKind.i64.wrap (254 - (j : Int)) = ((254 - j : Nat) : Int) := by
    have := w64_id (x := 254 - (j : Int)) (by omega)
    unfold w64 at this
    rw [this]; omega
  rw [e]
  obtain ⟨e0, e1, e2, e3, he, w0, w1, w2, w3⟩ := limbs_self h
  have hc : bitC ((254 - j : Nat) : Int) = false := by unfold bitC; rw [decide_eq_false (by omega : ¬ ((254 - j : Nat) : Int) < 0), decide_eq_false (by omega : ¬ ((254 - j : Nat) : Int) > 255)]
  unfold bitV
  rw [hc, he]
  exact bit_word w0 w1 w2 w3 (by omega)
theorem ld_lok {Λ : LoopH} (hΛ : LOk Tryd.prog (bodyOf Tryd.prog 21) Λ) : LOk Tryd.prog (bodyOf Tryd.prog 21) (ldΛ Λ) := by
  refine fam_okx (q := qn) (n := 100) (fun p : LdS × List Bool => ldV p.1) (fun p => ldM p.1) ldJ (fun s => 255 - s.1.i.toNat) mixed hΛ LOk.none (by kernel_rfl) (by kernel_rfl) (fun s => rfl) (fun s => rfl) (fun avs mm p h ho => ?_) (fun p s hJ w => ?_)
  · unfold ldP at h
    split at h
    · rename_i i k ub nn bb cc L n b z lo hi
      cases h
      have p0 := of_decide_eq_true (ho _ (List.mem_cons_self ..))
      have p1 := of_decide_eq_true (ho _ (List.mem_cons_of_mem _ (List.mem_cons_self ..)))
      have p2 := of_decide_eq_true (ho _ (List.mem_cons_of_mem _ (List.mem_cons_of_mem _ (List.mem_cons_self ..))))
      have p3 := of_decide_eq_true (ho _ (List.mem_cons_of_mem _ (List.mem_cons_of_mem _ (List.mem_cons_of_mem _ (List.mem_cons_self ..)))))
      have p4 := of_decide_eq_true (ho _ (List.mem_cons_of_mem _ (List.mem_cons_of_mem _ (List.mem_cons_of_mem _ (List.mem_cons_of_mem _ (List.mem_cons_self ..))))))
      have p5 := of_decide_eq_true (ho _ (List.mem_cons_of_mem _ (List.mem_cons_of_mem _ (List.mem_cons_of_mem _ (List.mem_cons_of_mem _ (List.mem_cons_of_mem _ (List.mem_cons_self ..)))))))
      have p6 := of_decide_eq_true (ho _ (List.mem_cons_of_mem _ (List.mem_cons_of_mem _ (List.mem_cons_of_mem _ (List.mem_cons_of_mem _ (List.mem_cons_of_mem _ (List.mem_cons_of_mem _ (List.mem_cons_self ..))))))))
      refine ⟨(⟨k, ub, nn, bb, cc, n, val b, 1, 0, val b, 1, 0⟩, []), ?_, ?_, p6, 0, Nat.zero_le _, rfl⟩
      · rw [p0]
        exact .cons (.refl _) (.cons (.refl _) (.cons (.refl _) (.cons (.refl _) (.cons (.refl _) (.cons (.refl _) (.cons (.int _ _ _) .nil))))))
      · rw [p1, p2, p3, p4]
        unfold ldM
        simp only
        rw [← p5]
    · cases h
  · obtain ⟨hn, j, hj, hs⟩ := hJ
    obtain ⟨p, pb⟩ := p
    obtain ⟨s, sb⟩ := s
    simp only at hs hn
    subst hs
    by_cases hend : j = 255
    · subst hend
      refine ⟨_, (hnB_ok 1).deep (q := qn) mixed noCount 100 3, Round.out (ld_f w _) rfl rfl (paid_cons (by simp [LdS.put]) Paid.nil) fun q hq => ?_⟩
      simp only [ldF, List.mem_cons, List.not_mem_nil, or_false] at hq
      rcases hq with rfl | rfl | rfl
      · exact ⟨_, List.mem_cons_self .., .refl _⟩
      · exact ⟨_, List.mem_cons_of_mem _ (List.mem_cons_of_mem _ (List.mem_cons_of_mem _ (List.mem_cons_self ..))), .refl _⟩
      · exact ⟨_, List.mem_cons_of_mem _ (List.mem_cons_of_mem _ (List.mem_cons_of_mem _ (List.mem_cons_of_mem _ (List.mem_cons_self ..)))), .refl _⟩
    · have hlt : j < 255 := by omega
      have hb := ld_bit hn hlt
      have hw : IntKind.i64.wrap ((j : Int) + 1) = ((j + 1 : Nat) : Int) := by
        have := w64_id (x := (j : Int) + 1) (by omega)
        unfold w64 at this
        rw [this]; omega
      have hdebt : ∀ b : Int, val p.n / 2 ^ (254 - j) % 2 = b → Paid (ldO p.n b (j : Int)) := fun b h => paid_cons (decide_eq_true (by omega)) (paid_cons (decide_eq_true (by rw [hb, h])) (fun x hx => (List.mem_replicate.1 hx).2))
      have h01 : val p.n / 2 ^ (254 - j) % 2 = 0 ∨ val p.n / 2 ^ (254 - j) % 2 = 1 := by omega
      have hl : lad (val p.n) p.u (j + 1) = stp p.u (val p.n / 2 ^ (254 - j) % 2) (lad (val p.n) p.u j) := rfl
      rcases h01 with h | h
      · refine ⟨_, (hnB_ok 0).deep (q := qn) mixed noCount 100 3, Round.on (ld_0 w _) (p.put (lad (val p.n) p.u (j + 1)) ((j + 1 : Nat) : Int), sb) [] ?_ (hdebt 0 h) ?_ ⟨hn, j + 1, by omega, rfl⟩ rfl (by simp only [LdS.put]; omega)⟩
        · rw [hl, h, List.append_nil]
          unfold stp
          rw [if_neg (by decide)]
          rfl
        · simp only [LdS.put, hw]
          exact LeL.refl _
      · refine ⟨_, (hnB_ok 1).deep (q := qn) mixed noCount 100 3, Round.on (ld_1 w _) (p.put (lad (val p.n) p.u (j + 1)) ((j + 1 : Nat) : Int), sb) [] ?_ (hdebt 1 h) ?_ ⟨hn, j + 1, by omega, rfl⟩ rfl (by simp only [LdS.put]; omega)⟩
        · rw [hl, h, List.append_nil]
          unfold stp
          rw [if_pos rfl]
          rfl
        · simp only [LdS.put, hw]
          exact LeL.refl _
end Go.Proofs.YthddlnldjbijmaaDoor
