/- The reference of layer 11: Times: the loop as a family; its contract. Own work. -/
import Derived.Test.YtapficdphhfpnaaDoorTWqD
import Derived.Test.YtapficdphhfpnaaDoorTWqC
set_option linter.unusedSimpArgs false
set_option linter.unusedVariables false
set_option linter.unusedSectionVars false
namespace Go.We
open Go.Ev Go.Wn
def aN (a : J3) : Nat → J3
  | 0 => a
  | j + 1 => jTw (aN a j)
def rN (N : Int) (a : J3) : Nat → J3
  | 0 => .none
  | j + 1 => if N / 2 ^ j % 2 = 1 then jPl (rN N a j) (aN a j) else rN N a j
theorem aN_In {a : J3} (h : a.In) : ∀ j, (aN a j).In
  | 0 => h
  | j + 1 => jTw_In _
theorem rN_In (N : Int) {a : J3} (h : a.In) : ∀ j, (rN N a j).In
  | 0 => jnone_In
  | j + 1 => by
    show (if _ then _ else _ : J3).In
    split
    · exact jPl_In (rN_In N h j) (aN_In h j)
    · exact rN_In N h j
theorem rN_tm (N : Int) (a : J3) : ∀ f j, jTm f (N / 2 ^ j) (rN N a j) (aN a j) = rN N a (j + f)
  | 0, j => rfl
  | f + 1, j => by
    have e : N / 2 ^ j / 2 = N / 2 ^ (j + 1) := by
      rw [Int.ediv_ediv_of_nonneg (Int.le_of_lt (Int.pow_pos (by decide))), ← Int.pow_succ]
    show jTm f (N / 2 ^ j / 2) (if N / 2 ^ j % 2 = 1 then jPl (rN N a j) (aN a j) else rN N a j) (jTw (aN a j)) = _
    rw [e]
    have := rN_tm N a f (j + 1)
    rw [show j + 1 + f = j + (f + 1) by omega] at this
    exact this
structure TmS where
  n : List Int
  A : J3
  R : J3
  i : Int
end Go.We
namespace Go.Proofs.YtapficdphhfpnaaDoor
open Go.Ev Go.Wn Go.We
set_option maxRecDepth 100000
def tmTs : List Nat := [2, 3, 4, 5, 6]
def tmV (s : TmS) : List AV := [.ptr false 2 0, .ptr false 3 0, .ptr false 4 0, .ptr false 5 0, .int true .i64 s.i]
def tmM (s : TmS) : Mem := [none, none, some ⟨true, .ints .u64 (some 4) s.n⟩, some ⟨true, .ints .u64 (some 12) (j3L s.A)⟩, some ⟨true, .ints .u64 (some 12) Z12⟩, some ⟨true, .ints .u64 (some 12) (j3L s.R)⟩]
theorem tm_1 (w : Nat → AV) (s : TmS) : seesL tmTs ((codeL Tryd.prog qn (deep Tryd.prog qn hq5 100 3) (fun _ _ => none) 100 (lp (blk 0 (bodyOf Tryd.prog 10))) ⟨tmOf (ups w (zipU tmTs (tmV s))) 27, tmM s⟩).go [true, true]) =
    some (pwO s.n s.i ((pwQ s.n s.i).tmod 2 == 1), 0, tmV { s with i := IntKind.i64.wrap (s.i + 1) }, 27, tmM { s with A := jTw (j3V (j3L s.A)), R := jPl (j3V (j3L s.R)) (j3V (j3L s.A)) }) := by
  obtain ⟨n, A, R, i⟩ := s
  kernel_rfl
theorem tm_0 (w : Nat → AV) (s : TmS) : seesL tmTs ((codeL Tryd.prog qn (deep Tryd.prog qn hq5 100 3) (fun _ _ => none) 100 (lp (blk 0 (bodyOf Tryd.prog 10))) ⟨tmOf (ups w (zipU tmTs (tmV s))) 27, tmM s⟩).go [true, false]) =
    some (pwO s.n s.i (!((pwQ s.n s.i).tmod 2 == 1)), 0, tmV { s with i := IntKind.i64.wrap (s.i + 1) }, 27, tmM { s with A := jTw (j3V (j3L s.A)) }) := by
  obtain ⟨n, A, R, i⟩ := s
  kernel_rfl
theorem tm_f (w : Nat → AV) (s : TmS) : seesL tmTs ((codeL Tryd.prog qn (deep Tryd.prog qn hq5 100 3) (fun _ _ => none) 100 (lp (blk 0 (bodyOf Tryd.prog 10))) ⟨tmOf (ups w (zipU tmTs (tmV s))) 27, tmM s⟩).go [false]) =
    some ([!decide (s.i < 256)], 2, tmV s, 27, tmM s) := by
  obtain ⟨n, A, R, i⟩ := s
  kernel_rfl
def in6B (x : Int) : Bool := decide (0 ≤ x) && decide (x < I6)
theorem in6B_iff {x : Int} : in6B x = true ↔ in6 x := by
  unfold in6B in6
  simp only [Bool.and_eq_true, decide_eq_true_eq]
def jIn (a : J3) : Bool := in6B a.x && (in6B a.y && in6B a.z)
theorem jIn_iff {a : J3} : jIn a = true ↔ a.In := by
  unfold jIn J3.In
  simp only [Bool.and_eq_true, in6B_iff]
def tmP : List AV → Mem → Option (TmS × List Bool)
  | [.ptr false 2 0, .ptr false 3 0, .ptr false 4 0, .ptr false 5 0, .int false .i64 i], [none, none, some ⟨true, .ints .u64 (some 4) n⟩, some ⟨true, .ints .u64 (some 12) p⟩, some ⟨true, .ints .u64 (some 12) z⟩, some ⟨true, .ints .u64 (some 12) r⟩] =>
    some (⟨n, j3V p, .none, 0⟩, [decide (i = 0), decide (z = Z12), decide (r = j3L .none), decide (limbs (val n) = n), decide (p = j3L (j3V p)), jIn (j3V p)])
  | _, _ => none
def tmF (p : TmS × List Bool) : List (Nat × AV) × Mem := ([(3, .ptr false 3 0), (4, .ptr false 4 0), (5, .ptr false 5 0)], tmM { p.1 with A := aN p.1.A 256, R := rN (val p.1.n) p.1.A 256 })
def tmJ (p s : TmS × List Bool) : Prop := limbs (val p.1.n) = p.1.n ∧ p.1.A.In ∧ ∃ j : Nat, j ≤ 256 ∧ s.1 = { p.1 with A := aN p.1.A j, R := rN (val p.1.n) p.1.A j, i := (j : Int) }
theorem tm_lok {Λ : LoopH} (hΛ : LOk Tryd.prog (bodyOf Tryd.prog 10) Λ) : LOk Tryd.prog (bodyOf Tryd.prog 10) (famH 0 27 tmTs tmP (fun p => p.2) tmF Λ) := by
  refine fam_ok (q := qn) (n := 100) (fun p : TmS × List Bool => tmV p.1) (fun p => tmM p.1) tmJ (fun s => 256 - s.1.i.toNat) mixed (hq5_ok.deep (q := qn) mixed noCount 100 3) hΛ LOk.none (by kernel_rfl) (by kernel_rfl) (fun s => rfl) (fun s => rfl) (fun avs mm p h ho => ?_) (fun p s hJ w => ?_)
  · unfold tmP at h
    split at h
    · rename_i i n p z r
      cases h
      have p0 := of_decide_eq_true (ho _ (List.mem_cons_self ..))
      have p1 := of_decide_eq_true (ho _ (List.mem_cons_of_mem _ (List.mem_cons_self ..)))
      have p2 := of_decide_eq_true (ho _ (List.mem_cons_of_mem _ (List.mem_cons_of_mem _ (List.mem_cons_self ..))))
      have p3 := of_decide_eq_true (ho _ (List.mem_cons_of_mem _ (List.mem_cons_of_mem _ (List.mem_cons_of_mem _ (List.mem_cons_self ..)))))
      have p4 := of_decide_eq_true (ho _ (List.mem_cons_of_mem _ (List.mem_cons_of_mem _ (List.mem_cons_of_mem _ (List.mem_cons_of_mem _ (List.mem_cons_self ..))))))
      have p5 := jIn_iff.1 (ho _ (List.mem_cons_of_mem _ (List.mem_cons_of_mem _ (List.mem_cons_of_mem _ (List.mem_cons_of_mem _ (List.mem_cons_of_mem _ (List.mem_cons_self ..)))))))
      refine ⟨(⟨n, j3V p, .none, 0⟩, []), ?_, ?_, p3, p5, 0, Nat.zero_le _, rfl⟩
      · rw [p0]
        exact .cons (.refl _) (.cons (.refl _) (.cons (.refl _) (.cons (.refl _) (.cons (.int _ _ _) .nil))))
      · rw [p1, p2]
        unfold tmM
        simp only
        rw [← p4]
    · cases h
  · obtain ⟨h1, h2, j, hj, hs⟩ := hJ
    obtain ⟨⟨n, A, R, i⟩, pb⟩ := p
    obtain ⟨s, sb⟩ := s
    simp only at h1 h2 hs
    subst hs
    by_cases hend : j = 256
    · subst hend
      refine Round.out (tm_f w _) rfl rfl (paid_cons rfl Paid.nil) fun q hq => ?_
      simp only [tmF, List.mem_cons, List.not_mem_nil, or_false] at hq
      rcases hq with rfl | rfl | rfl
      · exact ⟨_, List.mem_cons_of_mem _ (List.mem_cons_self ..), .refl _⟩
      · exact ⟨_, List.mem_cons_of_mem _ (List.mem_cons_of_mem _ (List.mem_cons_self ..)), .refl _⟩
      · exact ⟨_, List.mem_cons_of_mem _ (List.mem_cons_of_mem _ (List.mem_cons_of_mem _ (List.mem_cons_self ..))), .refl _⟩
    · have hlt : j < 256 := by omega
      obtain ⟨hb, hd⟩ := pw_bit h1 hlt
      have hw : IntKind.i64.wrap ((j : Int) + 1) = ((j + 1 : Nat) : Int) := by
        have := w64_id (x := (j : Int) + 1) (by omega)
        unfold w64 at this
        rw [this]; omega
      have eA : j3V (j3L (aN A j)) = aN A j := j3_ok (aN_In h2 j).ok
      have eR : j3V (j3L (rN (val n) A j)) = rN (val n) A j := j3_ok (rN_In _ h2 j).ok
      by_cases h : val n / 2 ^ j % 2 = 1
      · rw [decide_eq_true h] at hb
        have hr : rN (val n) A (j + 1) = jPl (rN (val n) A j) (aN A j) := if_pos h
        refine Round.on (tm_1 w ⟨n, aN A j, rN (val n) A j, j⟩) (⟨n, aN A (j + 1), rN (val n) A (j + 1), ((j + 1 : Nat) : Int)⟩, sb) [] ?_ (hd _ hb) ?_ ⟨h1, h2, j + 1, by omega, rfl⟩ rfl (by simp only; omega)
        · simp only [List.append_nil]
          rw [eA, eR, hr]
          rfl
        · simp only [hw]
          exact LeL.refl _
      · rw [decide_eq_false h] at hb
        have hr : rN (val n) A (j + 1) = rN (val n) A j := if_neg h
        refine Round.on (tm_0 w ⟨n, aN A j, rN (val n) A j, j⟩) (⟨n, aN A (j + 1), rN (val n) A (j + 1), ((j + 1 : Nat) : Int)⟩, sb) [] ?_ (hd _ (by rw [hb]; rfl)) ?_ ⟨h1, h2, j + 1, by omega, rfl⟩ rfl (by simp only; omega)
        · simp only [List.append_nil]
          rw [eA, hr]
          rfl
        · simp only [hw]
          exact LeL.refl _
def tmΛ (Λ : LoopH) : LoopH := famH 0 27 tmTs tmP (fun p => p.2) tmF Λ
theorem tm_eval (n p : List Int) : res ((funcL Tryd.prog qn (deep Tryd.prog qn hq5 100 3) (tmΛ fun _ _ => none) 200 10 (cArgs 0 [.pl (.ints .u64 4 n), .pl (.ints .u64 12 p)]) (cMem [.pl (.ints .u64 4 n), .pl (.ints .u64 12 p)])).go []) =
    some ([true, true, true, decide (limbs (val n) = n), decide (p = j3L (j3V p)), jIn (j3V p)], .ints .u64 12 (j3L (rN (val n) (j3V p) 256))) := by kernel_rfl
def tmSp : List V → E (AV × Mem)
  | [.pl (.ints .u64 4 n), .pl (.ints .u64 12 p)] => some ([jIn (j3V p)], (.ints .u64 12 (j3L (rN (val n) (j3V p) 256)), []))
  | _ => none
theorem tmSp_ok {xs : List V} {o : List Bool} {v : AV} {bs : Mem} (h : tmSp xs = some (o, (v, bs))) (ho : Paid o) : ViewCall Tryd.prog 10 xs v bs := by
  unfold tmSp at h
  split at h
  · rename_i n p
    cases h
    intro ρ vs w ha hi
    have hv := ho _ (List.mem_cons_self ..)
    have hb := ha
    cases hb with
    | cons _ _ _ _ r0 hb => cases hb with
      | cons _ _ _ _ r1 hb =>
        obtain ⟨a0, a1, a2, a3, rfl, w0, w1, w2, w3⟩ := num_arg r0
        have hl := limbs_val w0 w1 w2 w3
        exact view_goL mixed noCount (hq5_ok.deep (q := qn) mixed noCount 100 3) (fun fn c hf hb => by rw [bodyOf_eq hf hb]; exact tm_lok LOk.none) [] (tm_eval [a0, a1, a2, a3] p)
          (paid_cons rfl (paid_cons rfl (paid_cons rfl (paid_cons (decide_eq_true hl) (paid_cons (decide_eq_true (j3_rep r1).1.symm) (paid_cons hv Paid.nil)))))) rfl (by kernel_rfl) ha hi
  · cases h
def hq6 : CallH := withV 10 tmSp hq5
theorem hq6_ok : HOk Tryd.prog hq6 := hq5_ok.withV fun _ _ _ _ h ho => tmSp_ok h ho
end Go.Proofs.YtapficdphhfpnaaDoor
namespace Go.We
open Go.Wn
theorem on_p (x y : Fin P6) : c6.on (.p x y) ↔ y * y = x * x * x + -3 * x + b6 := Iff.rfl
/-- y^2 = x (x^2 - 3) + b, reckoned by the program. -/
def fitP (x y : Int) : Prop := mI y y = aI (mI x (sI (mI x x) 3)) bI
theorem in6_3 : in6 3 := ⟨by decide, by decide +kernel⟩
theorem c6_b : c6.b = b6 := rfl
theorem fitP_iff {x y : Int} (hx : in6 x) (hy : in6 y) : fitP x y ↔ c6.on (.p (h6 x) (h6 y)) := by
  have e1 : h6 (mI y y) = h6 y * h6 y := h6_mI hy hy
  have e2 : h6 (aI (mI x (sI (mI x x) 3)) bI) = h6 x * (h6 x * h6 x - 3) + b6 := by
    rw [h6_aI (in6_mI _ _) bI_in, h6_mI hx (in6_sI _ _), h6_sI (in6_mI _ _) in6_3, h6_mI hx hx, bI_h, h6_3, c6_b]
  rw [on_p]
  constructor
  · intro h
    have h1 : h6 (mI y y) = h6 (aI (mI x (sI (mI x x) 3)) bI) := by rw [show mI y y = _ from h]
    rw [e1, e2] at h1
    rw [h1]
    grind
  · intro h
    refine h6_inj (in6_mI _ _) (in6_aI _ _) ?_
    rw [e1, e2, h]
    grind
def fitR (x y : Int) : Prop := mV y y = aV (sV (mV x (mV x x)) (mV 3 x)) bI
theorem fitR_iff {x y : Int} (hx : in6 x) (hy : in6 y) : fitR x y ↔ c6.on (.p (h6 x) (h6 y)) := by
  have e1 : h6 (mV y y) = h6 y * h6 y := by unfold mV; rw [vl_in hy, h6_m]
  have e2 : h6 (aV (sV (mV x (mV x x)) (mV 3 x)) bI) = h6 x * (h6 x * h6 x) - 3 * h6 x + b6 := by
    unfold aV sV mV
    rw [vl_sJ, vl_mJ, vl_mJ, vl_mJ, vl_in hx, vl_3, vl_in bI_in, h6_a, h6_s, h6_m, h6_m, h6_m, bI_h, h6_3, c6_b]
  rw [on_p]
  constructor
  · intro h
    have h1 : h6 (mV y y) = h6 (aV (sV (mV x (mV x x)) (mV 3 x)) bI) := by rw [show mV y y = _ from h]
    rw [e1, e2] at h1
    rw [h1]
    grind
  · intro h
    refine h6_inj (in6_m _ _) (in6_a _ _) ?_
    rw [e1, e2, h]
    grind
theorem ofQ_h6 {x y : Int} (hx : in6 x) (hy : in6 y) : ofQ (.p (h6 x) (h6 y)) = ⟨x, y, false⟩ := by
  show (⟨((h6 x).val : Int), ((h6 y).val : Int), false⟩ : Pt) = _
  rw [h6_in hx, h6_in hy]
/-- The reference's points, of points. -/
theorem j1_R {x y : Int} (hx : in6 x) (hy : in6 y) : J3.R ⟨x, y, 1⟩ (.p (h6 x) (h6 y)) := by
  refine ⟨⟨hx, hy, in6_1⟩, ?_⟩
  show h6 1 ≠ 0 ∧ h6 x = h6 x * h6 1 ∧ h6 y = h6 y * h6 1
  rw [h6_1]
  exact ⟨one_ne, by grind, by grind⟩
def gJ : J3 := ⟨48439561293906451759052585252797914202762949526041747995844080717082404635286, 36134250956749795798585127919587881956611106672985015071877198253568414405109, 1⟩
theorem gJ_in : in6 gJ.x ∧ in6 gJ.y := ⟨⟨by decide, by decide +kernel⟩, ⟨by decide, by decide +kernel⟩⟩
theorem gJ_R : gJ.R g6 := by
  have h := j1_R gJ_in.1 gJ_in.2
  have e1 : h6 gJ.x = gx := by decide +kernel
  have e2 : h6 gJ.y = gy := by decide +kernel
  rw [e1, e2] at h
  exact h
theorem ofQ_g6 : ofQ g6 = ⟨gJ.x, gJ.y, false⟩ := by
  have e1 : (gx.val : Int) = gJ.x := by decide +kernel
  have e2 : (gy.val : Int) = gJ.y := by decide +kernel
  show (⟨(gx.val : Int), (gy.val : Int), false⟩ : Pt) = _
  rw [e1, e2]
/-- Twice the base. -/
def x2 : Int := 56515219790691171413109057904011688695424810155802929973526481321309856242040
def y2 : Int := 3377031843712258259223711451491452598088675519751548567112458094635497583569
def isN (A : N3) (x y : Nat) : Bool := match A with
  | .p a b => Nat.beq a x && Nat.beq b y
  | .o => false
theorem isN_eq {A : N3} {x y : Nat} (h : isN A x y = true) : A = .p x y := by
  cases A with
  | o => cases h
  | p a b =>
    have h' : (Nat.beq a x && Nat.beq b y) = true := h
    simp only [Bool.and_eq_true] at h'
    rw [Nat.eq_of_beq_eq_true h'.1, Nat.eq_of_beq_eq_true h'.2]
theorem two_chk : isN (addN g3 g3) x2.toNat y2.toNat = true := by decide +kernel
theorem two_g : ofQ (c6.add g6 g6) = ⟨x2, y2, false⟩ := by
  have h := addN_R g3_R g3_R
  have e : addN g3 g3 = .p x2.toNat y2.toNat := isN_eq two_chk
  rw [e] at h
  cases hc : c6.add g6 g6 with
  | o => rw [hc] at h; exact h.elim
  | p X Y =>
    rw [hc] at h
    obtain ⟨h1, h2⟩ := h
    show (⟨(X.val : Int), (Y.val : Int), false⟩ : Pt) = _
    rw [← h1, ← h2]
    rfl
end Go.We
