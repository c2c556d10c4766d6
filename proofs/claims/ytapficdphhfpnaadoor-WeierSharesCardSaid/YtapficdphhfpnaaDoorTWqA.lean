/- The reference of layer 11: words of 32 bits, a pass of carries as it is reckoned in 64 bits, and how the number's range shrinks. Own work. -/
import Derived.Test.YtapficdphhfpnaaDoorTWe7
import Derived.Test.YtapficdphhfpnaaDoorTWordsQ
import Derived.Test.YtapficdphhfpnaaDoorTModM
import Derived.Test.YtapficdphhfpnaaDoorTWpE
set_option linter.unusedSimpArgs false
set_option linter.unusedVariables false
set_option linter.unusedSectionVars false
namespace Go.We
open Go.Ev Go.Wn
def xE (c w : Int) : Int := IntKind.i64.wrap (w + c)
def cE (c w : Int) : Int := ishr .i64 (xE c w) 32
def dE (c w : Int) : Int := IntKind.i64.wrap (xE c w - ishl .i64 (cE c w) 32)
def cryE : Int → List Int → List Int × Int
  | c, [] => ([], c)
  | c, x :: l => (dE c x :: (cryE (cE c x) l).1, (cryE (cE c x) l).2)
def adjE (c : Int) : List Int → List Int
  | [a0, a1, a2, a3, a4, a5, a6, a7] => [IntKind.i64.wrap (a0 + c), a1, a2, IntKind.i64.wrap (a3 - c), a4, a5, IntKind.i64.wrap (a6 - c), IntKind.i64.wrap (a7 + c)]
  | l => l
def Sm (x : Int) : Prop := -1099511627776 ≤ x ∧ x ≤ 1099511627776
def Tn (x : Int) : Prop := -1024 ≤ x ∧ x ≤ 1024
theorem i64_id {z : Int} (h : -9223372036854775808 ≤ z ∧ z < 9223372036854775808) : IntKind.i64.wrap z = z := by unfold IntKind.wrap; simp [IntKind.bits, IntKind.signed]; omega
theorem st_eq {c w : Int} (hc : Tn c) (hw : Sm w) : dE c w = (w + c) % 4294967296 ∧ cE c w = (w + c) / 4294967296 ∧ Tn ((w + c) / 4294967296) := by
  unfold Tn Sm at *
  have e1 : xE c w = w + c := i64_id (by omega)
  have e2 : cE c w = (w + c) / 4294967296 := by
    unfold cE
    rw [e1]
    exact ishr_eq (k := .i64) (r := 32) (by decide)
  refine ⟨?_, e2, by omega⟩
  have e3 : ishl .i64 ((w + c) / 4294967296) 32 = (w + c) / 4294967296 * 4294967296 := by
    unfold ishl
    rw [show min (Int.toNat 32) IntKind.i64.bits = 32 by decide]
    exact i64_id (by omega)
  unfold dE
  rw [e1, e2, e3, i64_id (by omega)]
  omega
theorem cryE_eq : ∀ {l : List Int} {c : Int}, Tn c → (∀ x ∈ l, Sm x) → cryE c l = cry c l ∧ Tn (cry c l).2
  | [], _, h, _ => ⟨rfl, h⟩
  | x :: l, c, h, hl => by
    obtain ⟨h1, h2, h3⟩ := st_eq h (hl x (List.mem_cons_self ..))
    obtain ⟨k1, k2⟩ := cryE_eq h3 fun y hy => hl y (List.mem_cons_of_mem _ hy)
    refine ⟨?_, k2⟩
    show (dE c x :: (cryE (cE c x) l).1, (cryE (cE c x) l).2) = ((x + c) % 4294967296 :: (cry ((x + c) / 4294967296) l).1, (cry ((x + c) / 4294967296) l).2)
    rw [h1, h2, k1]
theorem adjE_eq {l : List Int} {c : Int} (hl : l.length = 8) (hd : ∀ x ∈ l, D32 x) (hc : Tn c) : adjE c l = adj c l ∧ ∀ x ∈ adj c l, Sm x := by
  match l, hl with
  | [a0, a1, a2, a3, a4, a5, a6, a7], _ =>
    simp only [List.forall_mem_cons, List.not_mem_nil, false_implies, implies_true, and_true] at hd
    obtain ⟨h0, h1, h2, h3, h4, h5, h6, h7⟩ := hd
    unfold D32 Tn at *
    constructor
    · unfold adjE adj
      simp only
      rw [i64_id (z := a0 + c) (by omega), i64_id (z := a3 - c) (by omega), i64_id (z := a6 - c) (by omega), i64_id (z := a7 + c) (by omega)]
    · unfold adj Sm
      simp only [List.forall_mem_cons, List.not_mem_nil, false_implies, implies_true, and_true]
      omega
/-- The number's range, with k passes left. -/
def Rg : Nat → Int → Prop
  | 3, v => -8 * M6 ≤ v ∧ v < 8 * M6
  | 2, v => -8 * (M6 - I6) ≤ v ∧ v < M6 + 8 * (M6 - I6)
  | 1, v => 0 ≤ v ∧ v < M6
  | _, _ => False
theorem Rg.pos {k : Nat} {v : Int} (h : Rg k v) : ∃ j, k = j + 1 := by
  match k, h with
  | 0, h => exact h.elim
  | j + 1, _ => exact ⟨j, rfl⟩
theorem Rg.next {k : Nat} {v : Int} (h : Rg (k + 1) v) (hn : v / M6 ≠ 0) : Rg k (v % M6 + v / M6 * (M6 - I6)) := by
  match k, h with
  | 2, h =>
    have h' : -8 * M6 ≤ v ∧ v < 8 * M6 := h
    show -8 * (M6 - I6) ≤ v % M6 + v / M6 * (M6 - I6) ∧ v % M6 + v / M6 * (M6 - I6) < M6 + 8 * (M6 - I6)
    clear h
    unfold M6 I6 at *
    omega
  | 1, h =>
    have h' : -8 * (M6 - I6) ≤ v ∧ v < M6 + 8 * (M6 - I6) := h
    show 0 ≤ v % M6 + v / M6 * (M6 - I6) ∧ v % M6 + v / M6 * (M6 - I6) < M6
    clear h
    unfold M6 I6 at *
    omega
  | 0, h =>
    have h' : 0 ≤ v ∧ v < M6 := h
    clear h
    unfold M6 at *
    omega
  | k + 3, h => exact h.elim
/-- A head of the passes' loop. -/
def Ps (k : Nat) (l : List Int) : Prop := l.length = 8 ∧ (∀ x ∈ l, Sm x) ∧ Rg k (v32 l)
theorem Tn0 : Tn 0 := by unfold Tn; omega
theorem Ps.out {k : Nat} {l : List Int} (h : Ps (k + 1) l) (hc : (cryE 0 l).2 = 0) : passes (k + 1) l = (cryE 0 l).1 := by
  obtain ⟨e, _⟩ := cryE_eq Tn0 h.2.1
  rw [e] at hc ⊢
  exact passes_end hc
theorem Ps.on {k : Nat} {l : List Int} (h : Ps (k + 1) l) (hc : (cryE 0 l).2 ≠ 0) : passes (k + 1) l = passes k (adjE (cryE 0 l).2 (cryE 0 l).1) ∧ Ps k (adjE (cryE 0 l).2 (cryE 0 l).1) := by
  obtain ⟨e, t⟩ := cryE_eq Tn0 h.2.1
  rw [e] at hc ⊢
  obtain ⟨a1, a2⟩ := adjE_eq ((cry_len l 0).trans h.1) (cry_dig l 0) t
  rw [a1]
  obtain ⟨l1, v1⟩ := pass_on h.1
  refine ⟨passes_on hc, l1, a2, ?_⟩
  rw [v1]
  exact h.2.2.next (by rw [← (cry8 h.1).2]; exact hc)
/-- Two words of 32 bits as one of 64. -/
def nw (x y : Int) : Int := IntKind.u64.wrap (IntKind.u64.wrap (0 + ishl .u64 (IntKind.u64.wrap x) 0) + ishl .u64 (IntKind.u64.wrap y) 32)
theorem nw_eq {x y : Int} (hx : D32 x) (hy : D32 y) : nw x y = x + 4294967296 * y := by
  unfold D32 at *
  have e1 : ishl .u64 (IntKind.u64.wrap x) 0 = x := by
    unfold ishl
    rw [show min (Int.toNat 0) IntKind.u64.bits = 0 by decide, wrap_eq, wrap_eq]
    omega
  have e2 : ishl .u64 (IntKind.u64.wrap y) 32 = 4294967296 * y := by
    unfold ishl
    rw [show min (Int.toNat 32) IntKind.u64.bits = 32 by decide, wrap_eq, wrap_eq]
    omega
  unfold nw
  rw [e1, e2, wrap_eq, wrap_eq]
  omega
def nwL (l : List Int) : List Int := [nw (l.getD 0 0) (l.getD 1 0), nw (l.getD 2 0) (l.getD 3 0), nw (l.getD 4 0) (l.getD 5 0), nw (l.getD 6 0) (l.getD 7 0)]
theorem nwL_val {l : List Int} (hl : l.length = 8) (hd : ∀ x ∈ l, D32 x) : val (nwL l) = v32 l ∧ limbs (v32 l) = nwL l := by
  match l, hl with
  | [a0, a1, a2, a3, a4, a5, a6, a7], _ =>
    simp only [List.forall_mem_cons, List.not_mem_nil, false_implies, implies_true, and_true] at hd
    obtain ⟨h0, h1, h2, h3, h4, h5, h6, h7⟩ := hd
    have e : nwL [a0, a1, a2, a3, a4, a5, a6, a7] = [a0 + 4294967296 * a1, a2 + 4294967296 * a3, a4 + 4294967296 * a5, a6 + 4294967296 * a7] := by
      unfold nwL
      simp only [List.getD_cons_zero, List.getD_cons_succ]
      rw [nw_eq h0 h1, nw_eq h2 h3, nw_eq h4 h5, nw_eq h6 h7]
    have hv : val [a0 + 4294967296 * a1, a2 + 4294967296 * a3, a4 + 4294967296 * a5, a6 + 4294967296 * a7] = v32 [a0, a1, a2, a3, a4, a5, a6, a7] := by
      unfold val
      simp only [List.getD_cons_zero, List.getD_cons_succ, v32]
      omega
    rw [e, ← hv]
    unfold D32 at *
    exact ⟨rfl, limbs_val (by unfold W; omega) (by unfold W; omega) (by unfold W; omega) (by unfold W; omega)⟩
/-- A number's words of 32 bits. -/
def w32 : List Int → List Int
  | [a, b, c, d] => [a % 4294967296, a / 4294967296, b % 4294967296, b / 4294967296, c % 4294967296, c / 4294967296, d % 4294967296, d / 4294967296]
  | l => l
theorem w32_val {a b c d : Int} (ha : W a) (hb : W b) (hc : W c) (hd : W d) : v32 (w32 [a, b, c, d]) = val [a, b, c, d] ∧ ∀ x ∈ w32 [a, b, c, d], D32 x := by
  unfold w32 W D32 val at *
  simp only [List.getD_cons_zero, List.getD_cons_succ, v32, List.forall_mem_cons, List.not_mem_nil, false_implies, implies_true, and_true]
  omega
def wE (x : Int) (s : Int) : Int := IntKind.i64.wrap ((ishr .u64 x s).tmod 4294967296)
theorem wE_lo {x : Int} (h : W x) : wE x 0 = x % 4294967296 := by
  unfold W at h
  unfold wE
  have e : ishr .u64 x 0 = x := by
    have := ishr_eq (k := .u64) (x := x) (r := 0) (by decide)
    rw [Int.pow_zero, Int.ediv_one] at this
    exact this
  rw [e, Int.tmod_eq_emod_of_nonneg h.1, i64_id (by omega)]
theorem wE_hi {x : Int} (h : W x) : wE x 32 = x / 4294967296 := by
  unfold W at h
  unfold wE
  have e : ishr .u64 x 32 = x / 4294967296 := ishr_eq (k := .u64) (x := x) (r := 32) (by decide)
  rw [e, Int.tmod_eq_emod_of_nonneg (by omega), i64_id (by omega)]
  omega
end Go.We
namespace Go.Proofs.YtapficdphhfpnaaDoor
open Go.Ev Go.Wn Go.We
set_option maxRecDepth 100000
theorem wd_eval (a b c d : Int) : res (funcA Tryd.prog qn hp4 100 68 [.ints .u64 4 [a, b, c, d]] []) =
    some ([], .ints .i64 8 [wE a 0, wE a 32, wE b 0, wE b 32, wE c 0, wE c 32, wE d 0, wE d 32]) := by kernel_rfl
def wdS : List AV → E AV
  | [.ints .u64 4 a] => some ([], .ints .i64 8 (w32 a))
  | _ => none
theorem wd_ok {args : List AV} {o : List Bool} {v : AV} (h : wdS args = some (o, v)) : PureCall Tryd.prog 68 args v := by
  unfold wdS at h
  split at h
  · rename_i a
    cases h
    intro ρ N vs ha
    have hb := ha
    cases hb with
    | cons _ _ _ _ r1 hb =>
      obtain ⟨a0, a1, a2, a3, rfl, w0, w1, w2, w3⟩ := num_arg r1
      have e : [wE a0 0, wE a0 32, wE a1 0, wE a1 32, wE a2 0, wE a2 32, wE a3 0, wE a3 32] = w32 [a0, a1, a2, a3] := by
        rw [wE_lo w0, wE_hi w0, wE_lo w1, wE_hi w1, wE_lo w2, wE_hi w2, wE_lo w3, wE_hi w3]
        rfl
      exact pure_of_res mixed noCount hp4_ok (by kernel_rfl) (wd_eval a0 a1 a2 a3) Paid.nil (by rw [e]) (by kernel_rfl) ha
  · cases h
theorem tk_eval (a0 a1 a2 a3 b0 b1 b2 b3 : Int) : res (funcA Tryd.prog qn hp4 100 79 [.ints .u64 4 [a0, a1, a2, a3], .ints .u64 4 [b0, b1, b2, b3]] []) =
    some ([decide ((0 : Int) ≤ 1), decide (bw a0 b0 0 ≤ 1), decide (bw a1 b1 (bw a0 b0 0) ≤ 1), decide (bw a2 b2 (bw a1 b1 (bw a0 b0 0)) ≤ 1)],
      .ints .u64 4 [df a0 b0 0, df a1 b1 (bw a0 b0 0), df a2 b2 (bw a1 b1 (bw a0 b0 0)), df a3 b3 (bw a2 b2 (bw a1 b1 (bw a0 b0 0)))]) := by kernel_rfl
def tkS : List AV → E AV
  | [.ints .u64 4 a, .ints .u64 4 b] => some ([], .ints .u64 4 (limbs (val a - val b)))
  | _ => none
theorem tk_ok {args : List AV} {o : List Bool} {v : AV} (h : tkS args = some (o, v)) : PureCall Tryd.prog 79 args v := by
  unfold tkS at h
  split at h
  · rename_i a b
    cases h
    intro ρ N vs ha
    have hb := ha
    cases hb with
    | cons _ _ _ _ r1 hb => cases hb with
      | cons _ _ _ _ r2 hb =>
        obtain ⟨a0, a1, a2, a3, rfl, wa0, wa1, wa2, wa3⟩ := num_arg r1
        obtain ⟨b0, b1, b2, b3, rfl, wb0, wb1, wb2, wb3⟩ := num_arg r2
        obtain ⟨k1, k2, k3, k4, k5⟩ := sub_chain wa0 wa1 wa2 wa3 wb0 wb1 wb2 wb3
        exact pure_of_res mixed noCount hp4_ok (by kernel_rfl) (tk_eval a0 a1 a2 a3 b0 b1 b2 b3)
          (paid_cons (by kernel_rfl) (paid_cons (decide_eq_true k3) (paid_cons (decide_eq_true k4) (paid_cons (decide_eq_true k5) Paid.nil)))) (by rw [k1]) (by kernel_rfl) ha
  · cases h
def hq0 : CallH := withV 25 rbigS (withC 79 tkS (withC 68 wdS hp4))
theorem hq0_ok : HOk Tryd.prog hq0 := ((hp4_ok.withC fun _ _ _ h _ => wd_ok h).withC fun _ _ _ h _ => tk_ok h).withV fun _ _ _ _ h _ => rbig_ok h
/- The passes. -/
structure FoS where
  w : List Int
  k : Nat
def foV : List AV := [.ptr false 1 0, .ptr false 2 0]
def foM (w : List Int) : Mem := [none, some ⟨true, .ints .i64 (some 8) w⟩, some ⟨true, .ints .u64 (some 4) [0, 0, 0, 0]⟩]
theorem fo_on (x : Nat → AV) (w0 w1 w2 w3 w4 w5 w6 w7 : Int) : seesL [1, 2] ((codeL Tryd.prog qn (deep Tryd.prog qn hq0 100 3) (fun _ _ => none) 100 (lp (blk 0 (bodyOf Tryd.prog 69))) ⟨tmOf (ups x (zipU [1, 2] foV)) 73, foM [w0, w1, w2, w3, w4, w5, w6, w7]⟩).go [false]) =
    some ([!((cryE 0 [w0, w1, w2, w3, w4, w5, w6, w7]).2 == 0)], 0, foV, 73, foM (adjE (cryE 0 [w0, w1, w2, w3, w4, w5, w6, w7]).2 (cryE 0 [w0, w1, w2, w3, w4, w5, w6, w7]).1)) := by kernel_rfl
theorem fo_out (x : Nat → AV) (w0 w1 w2 w3 w4 w5 w6 w7 : Int) : seesL [1, 2] ((codeL Tryd.prog qn (deep Tryd.prog qn hq0 100 3) (fun _ _ => none) 100 (lp (blk 0 (bodyOf Tryd.prog 69))) ⟨tmOf (ups x (zipU [1, 2] foV)) 73, foM [w0, w1, w2, w3, w4, w5, w6, w7]⟩).go [true]) =
    some ([(cryE 0 [w0, w1, w2, w3, w4, w5, w6, w7]).2 == 0], 2, foV, 73, foM (cryE 0 [w0, w1, w2, w3, w4, w5, w6, w7]).1) := by kernel_rfl
def allSm (w : List Int) : Bool := w.all fun x => decide (-1099511627776 ≤ x) && decide (x ≤ 1099511627776)
theorem allSm_iff {w : List Int} : allSm w = true ↔ ∀ x ∈ w, Sm x := by
  unfold allSm Sm
  simp only [List.all_eq_true, Bool.and_eq_true, decide_eq_true_eq]
def foP : List AV → Mem → Option (FoS × List Bool)
  | [.ptr false 1 0, .ptr false 2 0], [none, some ⟨true, .ints .i64 (some 8) w⟩, some ⟨true, .ints .u64 (some 4) z⟩] => some (⟨w, 3⟩, [decide (z = [0, 0, 0, 0]), decide (w.length = 8), allSm w, decide (-8 * M6 ≤ v32 w), decide (v32 w < 8 * M6)])
  | _, _ => none
def foF (p : FoS × List Bool) : List (Nat × AV) × Mem := ([(1, .ptr false 1 0), (2, .ptr false 2 0)], foM (passes 3 p.1.w))
def foΛ (Λ : LoopH) : LoopH := famH 0 73 [1, 2] foP (fun p => p.2) foF Λ
def foJ (p s : FoS × List Bool) : Prop := Ps s.1.k s.1.w ∧ passes s.1.k s.1.w = passes 3 p.1.w
theorem eight {l : List Int} (h : l.length = 8) : ∃ a b c d e f g i, l = [a, b, c, d, e, f, g, i] := by
  match l, h with
  | [a, b, c, d, e, f, g, i], _ => exact ⟨a, b, c, d, e, f, g, i, rfl⟩
theorem fo_lok {Λ : LoopH} (hΛ : LOk Tryd.prog (bodyOf Tryd.prog 69) Λ) : LOk Tryd.prog (bodyOf Tryd.prog 69) (foΛ Λ) := by
  refine fam_ok (q := qn) (n := 100) (fun _ : FoS × List Bool => foV) (fun p => foM p.1.w) foJ (fun s => s.1.k) mixed (hq0_ok.deep (q := qn) mixed noCount 100 3) hΛ LOk.none (by kernel_rfl) (by kernel_rfl) (fun s => rfl) (fun s => rfl) (fun avs mm p h ho => ?_) (fun p s hJ x => ?_)
  · unfold foP at h
    split at h
    · rename_i w z
      cases h
      have p0 := of_decide_eq_true (ho _ (List.mem_cons_self ..))
      have p1 := of_decide_eq_true (ho _ (List.mem_cons_of_mem _ (List.mem_cons_self ..)))
      have p2 := ho _ (List.mem_cons_of_mem _ (List.mem_cons_of_mem _ (List.mem_cons_self ..)))
      have p3 := of_decide_eq_true (ho _ (List.mem_cons_of_mem _ (List.mem_cons_of_mem _ (List.mem_cons_of_mem _ (List.mem_cons_self ..)))))
      have p4 := of_decide_eq_true (ho _ (List.mem_cons_of_mem _ (List.mem_cons_of_mem _ (List.mem_cons_of_mem _ (List.mem_cons_of_mem _ (List.mem_cons_self ..))))))
      exact ⟨(⟨w, 3⟩, []), .cons (.refl _) (.cons (.refl _) .nil), by rw [p0]; rfl, ⟨p1, allSm_iff.1 p2, p3, p4⟩, rfl⟩
    · cases h
  · obtain ⟨⟨w, k⟩, sb⟩ := s
    obtain ⟨h1, h2⟩ := hJ
    simp only at h1 h2
    obtain ⟨k, rfl⟩ := h1.2.2.pos
    obtain ⟨w0, w1, w2, w3, w4, w5, w6, w7, rfl⟩ := eight h1.1
    by_cases hc : (cryE 0 [w0, w1, w2, w3, w4, w5, w6, w7]).2 = 0
    · have e := h1.out hc
      refine Round.out (fo_out x w0 w1 w2 w3 w4 w5 w6 w7) rfl ?_ (paid_cons (by rw [hc]; rfl) Paid.nil) fun q hq => ?_
      · show _ = foM (passes 3 p.1.w)
        rw [← h2, e]
      · simp only [foF, List.mem_cons, List.not_mem_nil, or_false] at hq
        rcases hq with rfl | rfl
        · exact ⟨_, List.mem_cons_self .., .refl _⟩
        · exact ⟨_, List.mem_cons_of_mem _ (List.mem_cons_self ..), .refl _⟩
    · obtain ⟨e1, e2⟩ := h1.on hc
      refine Round.on (fo_on x w0 w1 w2 w3 w4 w5 w6 w7) (⟨adjE (cryE 0 [w0, w1, w2, w3, w4, w5, w6, w7]).2 (cryE 0 [w0, w1, w2, w3, w4, w5, w6, w7]).1, k⟩, sb) [] rfl (paid_cons ?_ Paid.nil) (LeL.refl _) ⟨e2, e1.symm.trans h2⟩ rfl (Nat.lt_succ_self k)
      rw [beq_eq_false_iff_ne.2 hc]; rfl
def fdO (w : List Int) : List Bool := [decide (w.length = 8), allSm w, decide (-8 * M6 ≤ v32 w), decide (v32 w < 8 * M6)]
theorem fd_0 (w : List Int) : res ((funcL Tryd.prog qn (deep Tryd.prog qn hq0 100 3) (foΛ fun _ _ => none) 100 69 (cArgs 0 [.pl (.ints .i64 8 w)]) (cMem [.pl (.ints .i64 8 w)])).go [false]) =
    some (true :: (fdO w ++ [!(!decide (val (nwL (passes 3 w)) < val primeL))]), .ints .u64 4 (nwL (passes 3 w))) := by kernel_rfl
theorem fd_1 (w : List Int) : res ((funcL Tryd.prog qn (deep Tryd.prog qn hq0 100 3) (foΛ fun _ _ => none) 100 69 (cArgs 0 [.pl (.ints .i64 8 w)]) (cMem [.pl (.ints .i64 8 w)])).go [true, false]) =
    some (true :: (fdO w ++ [!decide (val (nwL (passes 3 w)) < val primeL), !(!decide (val (limbs (val (nwL (passes 3 w)) - val primeL)) < val primeL))]), .ints .u64 4 (limbs (val (nwL (passes 3 w)) - val primeL))) := by kernel_rfl
end Go.Proofs.YtapficdphhfpnaaDoor
