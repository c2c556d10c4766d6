/- What the reference's powers of layer 2 are, by a loop's contract. Own work. -/
import Derived.Test.YtdpaedcgbhlibaaRefA
namespace Go.Wn
open Go.Ev
theorem low_bits {E : Int} {k : Nat} : E % 2 ^ (k + 1) = E % 2 ^ k + 2 ^ k * (E / 2 ^ k % 2) := by
  have hp : (0 : Int) < 2 ^ k := Int.pow_pos (by omega)
  have h1 := Int.emod_add_mul_ediv E (2 ^ k)
  have h0 := Int.emod_nonneg E (Int.ne_of_gt hp)
  have h2 := Int.emod_lt_of_pos E hp
  have hq : E / 2 ^ k = 2 * (E / 2 ^ k / 2) + E / 2 ^ k % 2 := by omega
  have hb : E / 2 ^ k % 2 = 0 ∨ E / 2 ^ k % 2 = 1 := by omega
  have e : E = (E % 2 ^ k + 2 ^ k * (E / 2 ^ k % 2)) + 2 ^ (k + 1) * (E / 2 ^ k / 2) := by
    rw [Int.pow_succ]
    generalize E / 2 ^ k / 2 = z at *
    generalize E / 2 ^ k % 2 = b at *
    generalize E % 2 ^ k = r at *
    generalize E / 2 ^ k = q at *
    subst hq
    generalize (2 : Int) ^ k = p at *
    grind
  have hs : (E % 2 ^ k + 2 ^ k * (E / 2 ^ k % 2)) % 2 ^ (k + 1) = E % 2 ^ k + 2 ^ k * (E / 2 ^ k % 2) := by
    apply Int.emod_eq_of_lt
    · rcases hb with hb | hb <;> rw [hb] <;> omega
    · rw [Int.pow_succ]
      rcases hb with hb | hb <;> rw [hb] <;> omega
  have h3 : E % 2 ^ (k + 1) = ((E % 2 ^ k + 2 ^ k * (E / 2 ^ k % 2)) + 2 ^ (k + 1) * (E / 2 ^ k / 2)) % 2 ^ (k + 1) := congrArg (fun z => z % 2 ^ (k + 1)) e
  rw [h3, Int.add_mul_emod_self_left, hs]
theorem two_nat (k : Nat) : ((2 : Int) ^ k).toNat = 2 ^ k := by
  have : (2 : Int) ^ k = ((2 ^ k : Nat) : Int) := by simp
  rw [this, Int.toNat_natCast]
/-- One bit more, from the lowest on. -/
theorem up_step {A E : Int} {k : Nat} : A ^ (E % 2 ^ (k + 1)).toNat = if E / 2 ^ k % 2 = 1 then A ^ (E % 2 ^ k).toNat * A ^ (2 ^ k) else A ^ (E % 2 ^ k).toNat := by
  have hp : (0 : Int) < 2 ^ k := Int.pow_pos (by omega)
  have h0 := Int.emod_nonneg E (Int.ne_of_gt hp)
  rw [low_bits]
  have hb : E / 2 ^ k % 2 = 0 ∨ E / 2 ^ k % 2 = 1 := by omega
  rcases hb with hb | hb
  · rw [hb, if_neg (by decide), Int.mul_zero, Int.add_zero]
  · rw [hb, if_pos rfl, Int.mul_one, Int.toNat_add h0 (by omega), two_nat, Int.pow_add]
end Go.Wn
namespace Go.Proofs.Ytdpaedcgbhlibaa
open Go.Ev Go.Wn
set_option maxRecDepth 100000
def rpM (a e m q r b : List Int) : Mem := [none, none, none, some ⟨true, .ints .u64 (some 4) a⟩, some ⟨true, .ints .u64 (some 4) e⟩, some ⟨true, .ints .u64 (some 4) m⟩, some ⟨true, .ints .u64 (some 4) q⟩, some ⟨true, .ints .u64 (some 4) r⟩, some ⟨true, .ints .u64 (some 4) b⟩]
def rpU (i : Int) : List (Nat × AV) := [(9, .int true .i64 i), (4, .ptr false 4 0), (5, .ptr false 5 0), (6, .ptr false 6 0), (7, .ptr false 7 0), (8, .ptr false 8 0)]
structure RpS where
  a : List Int
  e : List Int
  m : List Int
  q : List Int
  r : List Int
  b : List Int
def rpOf : Mem → Option RpS
  | [none, none, none, some ⟨true, .ints .u64 (some 4) a⟩, some ⟨true, .ints .u64 (some 4) e⟩, some ⟨true, .ints .u64 (some 4) m⟩, some ⟨true, .ints .u64 (some 4) q⟩, some ⟨true, .ints .u64 (some 4) r⟩, some ⟨true, .ints .u64 (some 4) b⟩] => some ⟨a, e, m, q, r, b⟩
  | _ => none
theorem rpOf_eq {m : Mem} {s : RpS} (h : rpOf m = some s) : m = rpM s.a s.e s.m s.q s.r s.b := by
  unfold rpOf at h
  split at h
  · cases h; rfl
  · cases h
def rpO (a e m r b : List Int) : List Bool := [decide (0 < val m ∧ val m < W4), decide (limbs (val e) = e), decide (r = limbs (1 % val m)), decide (b = limbs (val a % val m))]
def bEnd (a m : List Int) : List Int := limbs (val a ^ (2 ^ 256) % val m)
def rpΛ : LoopH := fun id st => match id with
  | 0 => match natOf (st.tm.getD 9 .top), rpOf st.mem, isP 4 (st.tm.getD 4 .top) && (isP 5 (st.tm.getD 5 .top) && (isP 6 (st.tm.getD 6 .top) && (isP 7 (st.tm.getD 7 .top) && (isP 8 (st.tm.getD 8 .top) && Nat.beq st.tm.length 38)))) with
    | some 0, some s, true => some (rpO s.a s.e s.m s.r s.b, ⟨tmOf (ups (fun _ => .top) [(6, .ptr false 6 0), (7, .ptr false 7 0)]) 38, rpM s.a s.e s.m s.q (limbs (val s.a ^ (val s.e).toNat % val s.m)) (bEnd s.a s.m)⟩)
    | _, _, _ => none
  | _ => none
def rpY (e : List Int) (i : Int) : Int := ishr .u64 (e.getD (0 + (w64 (i.tdiv 64)).toNat * 1) 0) (i.tmod 64)
def rpD (i : Int) : List Bool := [decide (0 ≤ w64 (i.tdiv 64)) && decide (w64 (i.tdiv 64) < ((4 : Nat) : Int)), decide (0 + (w64 (i.tdiv 64)).toNat * 1 + 1 ≤ 4), !decide (i.tmod 64 < 0)]
def rpP : List AV := [.ptr false 4 0, .ptr false 5 0, .ptr false 6 0, .ptr false 7 0, .ptr false 8 0]
theorem rp_t (x : Nat → AV) (i : Int) (a e m q r b : List Int) : obs [4, 5, 6, 7, 8, 9] ((codeL Try.prog qAll hf4 (fun _ _ => none) 100 (lp (blk 0 (bodyOf Try.prog 42))) ⟨tmOf (ups x (rpU i)) 38, rpM a e m q r b⟩).go [true, true]) = some (decide (i < 256) :: (rpD i ++ [(rpY e i).tmod 2 == 1, decide (0 < val m), decide (0 < val m)]), 0, rpP ++ [.int true .i64 (IntKind.i64.wrap (i + 1))], 38, rpM a e m q (limbs (val r * val b % val m)) (limbs (val b * val b % val m))) := by kernel_rfl
theorem rp_f (x : Nat → AV) (i : Int) (a e m q r b : List Int) : obs [4, 5, 6, 7, 8, 9] ((codeL Try.prog qAll hf4 (fun _ _ => none) 100 (lp (blk 0 (bodyOf Try.prog 42))) ⟨tmOf (ups x (rpU i)) 38, rpM a e m q r b⟩).go [true, false]) = some (decide (i < 256) :: (rpD i ++ [!((rpY e i).tmod 2 == 1), decide (0 < val m)]), 0, rpP ++ [.int true .i64 (IntKind.i64.wrap (i + 1))], 38, rpM a e m q r (limbs (val b * val b % val m))) := by kernel_rfl
theorem rp_e (x : Nat → AV) (i : Int) (a e m q r b : List Int) : obs [4, 5, 6, 7, 8, 9] ((codeL Try.prog qAll hf4 (fun _ _ => none) 100 (lp (blk 0 (bodyOf Try.prog 42))) ⟨tmOf (ups x (rpU i)) 38, rpM a e m q r b⟩).go [false]) = some ([!decide (i < 256)], 2, rpP ++ [.int true .i64 i], 38, rpM a e m q r b) := by kernel_rfl
theorem rpU_iff {i : Int} {x : Nat → AV} : (∀ p ∈ rpU i, x p.1 = p.2) ↔ x 9 = .int true .i64 i ∧ x 4 = .ptr false 4 0 ∧ x 5 = .ptr false 5 0 ∧ x 6 = .ptr false 6 0 ∧ x 7 = .ptr false 7 0 ∧ x 8 = .ptr false 8 0 := by simp [rpU]
structure IRp (a e m q : List Int) (k : Nat) (st1 : St) : Prop where
  len : st1.tm.length = 38
  sl : ∀ p ∈ rpU (k : Int), st1.tm.getD p.1 .top = p.2
  mem : st1.mem = rpM a e m q (limbs (val a ^ (val e % 2 ^ k).toNat % val m)) (limbs (val a ^ (2 ^ k) % val m))
  le : k ≤ 256
set_option maxHeartbeats 1000000 in
theorem rp_lok : LOk Try.prog (bodyOf Try.prog 42) rpΛ := by
  refine ⟨fun {id c st st' o} hc hl ho => ?_⟩
  unfold rpΛ at hl
  split at hl
  case h_2 => cases hl
  split at hl
  case h_2 => cases hl
  rename_i S h9 hmem hfl
  cases hl
  simp only [Bool.and_eq_true] at hfl
  obtain ⟨f4, f5, f6, f7, f8, flen⟩ := hfl
  have e9 := natOf_eq h9
  have em := rpOf_eq hmem
  have e4 := isP_eq f4; have e5 := isP_eq f5; have e6 := isP_eq f6; have e7 := isP_eq f7; have e8 := isP_eq f8
  have hlen := Nat.eq_of_beq_eq_true flen
  obtain ⟨a, e, m, q, r, b⟩ := S
  simp only at em ho ⊢
  unfold rpO at ho
  have p1 := ho _ (List.mem_cons_self ..)
  have p2 := ho _ (List.mem_cons_of_mem _ (List.mem_cons_self ..))
  have p3 := ho _ (List.mem_cons_of_mem _ (List.mem_cons_of_mem _ (List.mem_cons_self ..)))
  have p4 := ho _ (List.mem_cons_of_mem _ (List.mem_cons_of_mem _ (List.mem_cons_of_mem _ (List.mem_cons_self ..))))
  rw [decide_eq_true_eq] at p1 p2 p3 p4
  clear ho
  obtain ⟨x0, x1, x2, x3, he, w0, w1, w2, w3⟩ := limbs_self p2
  have hE : 0 ≤ val e ∧ val e < W4 := by rw [he]; exact val_range w0 w1 w2 w3
  have hbit : ∀ k : Nat, k ≤ 255 → (rpY e k).tmod 2 = val e / 2 ^ k % 2 := fun k hk => by
    have h1 := bit_word w0 w1 w2 w3 hk
    rw [← he] at h1
    rw [← h1]
    unfold bitP rpY
    have hw : W (ishr .u64 (e.getD (0 + (w64 ((k : Int).tdiv 64)).toNat * 1) 0) ((k : Int).tmod 64)) := by
      have hx : W (e.getD (0 + (w64 ((k : Int).tdiv 64)).toNat * 1) 0) := by
        generalize 0 + (w64 ((k : Int).tdiv 64)).toNat * 1 = t
        rw [he]
        by_cases ht : t < 4
        · have : t = 0 ∨ t = 1 ∨ t = 2 ∨ t = 3 := by omega
          rcases this with rfl | rfl | rfl | rfl <;> assumption
        · rw [List.getD, List.getElem?_eq_none (by simp; omega)]
          exact ⟨by decide, by decide⟩
      exact inR_W (inR_ishr (W_inR hx))
    rw [iand_one hw, Int.tmod_eq_emod_of_nonneg hw.1]
  have hD : ∀ k : Nat, k ≤ 255 → Paid (rpD k) := fun k hk => by
    have t1 : ((k : Int)).tmod 64 = ((k % 64 : Nat) : Int) := by rw [Int.tmod_eq_emod_of_nonneg (by omega)]; omega
    have t2 : ((k : Int)).tdiv 64 = ((k / 64 : Nat) : Int) := by rw [Int.tdiv_eq_ediv_of_nonneg (by omega)]; omega
    unfold rpD
    rw [t1, t2, w64_id (x := ((k / 64 : Nat) : Int)) (by omega)]
    exact paid_cons (by rw [decide_eq_true (by omega : 0 ≤ ((k / 64 : Nat) : Int)), decide_eq_true (by omega : ((k / 64 : Nat) : Int) < ((4 : Nat) : Int))]; rfl)
      (paid_cons (decide_eq_true (by rw [Int.toNat_natCast]; omega)) (paid_cons (by rw [decide_eq_false (by omega)]; rfl) Paid.nil))
  refine block_loop (q := qAll) mixed hf4_ok LOk.none (n := 100) (σ := Nat) (inv := IRp a e m q) (μ := fun k => 256 - k) hc (by kernel_rfl) (by kernel_rfl)
    (fun k st1 hi => ?_) 0 st ⟨tmOf (ups (fun t => st.tm.getD t .top) (rpU 0)) 38, rpM a e m q r b⟩ ?_ (Wk.head hlen em.symm ?_)
  · obtain ⟨i1, i2, i5, i6⟩ := hi
    have ee : st1 = ⟨tmOf (ups (fun t => st1.tm.getD t .top) (rpU (k : Int))) 38, rpM a e m q (limbs (val a ^ (val e % 2 ^ k).toNat % val m)) (limbs (val a ^ (2 ^ k) % val m))⟩ := st_eq (tm_ups i1 i2) i5
    rw [ee]
    generalize (fun t => st1.tm.getD t .top) = x
    have R1 := rp_t x (k : Int) a e m q (limbs (val a ^ (val e % 2 ^ k).toNat % val m)) (limbs (val a ^ (2 ^ k) % val m))
    have R2 := rp_f x (k : Int) a e m q (limbs (val a ^ (val e % 2 ^ k).toNat % val m)) (limbs (val a ^ (2 ^ k) % val m))
    have R3 := rp_e x (k : Int) a e m q (limbs (val a ^ (val e % 2 ^ k).toNat % val m)) (limbs (val a ^ (2 ^ k) % val m))
    rw [lv p1, lv p1] at R1
    rw [lv p1] at R2
    have sq : val a ^ (2 ^ k) % val m * (val a ^ (2 ^ k) % val m) % val m = val a ^ (2 ^ (k + 1)) % val m := by
      rw [← Int.mul_emod, ← Int.pow_add, show 2 ^ k + 2 ^ k = 2 ^ (k + 1) by rw [Nat.pow_succ]; omega]
    have pr : val a ^ (val e % 2 ^ k).toNat % val m * (val a ^ (2 ^ k) % val m) % val m = val a ^ (val e % 2 ^ k).toNat * val a ^ (2 ^ k) % val m := by rw [← Int.mul_emod]
    rw [sq, pr] at R1
    rw [sq] at R2
    by_cases hk : k < 256
    · have hw : IntKind.i64.wrap ((k : Int) + 1) = ((k + 1 : Nat) : Int) := by rw [w64_id' (by omega)]; omega
      have hki : decide ((k : Int) < 256) = true := decide_eq_true (by omega)
      have h1 := hbit k (by omega)
      have up := up_step (A := val a) (E := val e) (k := k)
      by_cases hb : val e / 2 ^ k % 2 = 1
      · rw [if_pos hb] at up
        rw [← up] at R1
        have hc1 : ((rpY e k).tmod 2 == 1) = true := by rw [h1, hb]; rfl
        refine obs_sat R1 (paid_cons hki (paid_append.2 ⟨hD k (by omega), paid_cons hc1 (paid_cons (decide_eq_true p1.1) (paid_cons (decide_eq_true p1.1) Paid.nil))⟩)) fun ex st2 hx hs hn hm => ?_
        cases ex with
        | normal =>
          simp only [rpP, List.map_cons, List.map_nil, List.cons_append, List.nil_append, List.cons.injEq, and_true] at hs
          obtain ⟨s4, s5, s6, s7, s8, s9⟩ := hs
          refine ⟨k + 1, ⟨hn, (rpU_iff (x := fun t => st2.tm.getD t .top)).2 ⟨by rw [← hw]; exact s9, s4, s5, s6, s7, s8⟩, hm, by omega⟩, by show 256 - (k + 1) < 256 - k; omega⟩
        | exit i => simp [exN] at hx
        | ret => simp [exN] at hx
      · rw [if_neg hb] at up
        have hc1 : (!((rpY e k).tmod 2 == 1)) = true := by
          have : ¬ (rpY e k).tmod 2 = 1 := by rw [h1]; exact hb
          simpa using this
        refine obs_sat R2 (paid_cons hki (paid_append.2 ⟨hD k (by omega), paid_cons hc1 (paid_cons (decide_eq_true p1.1) Paid.nil)⟩)) fun ex st2 hx hs hn hm => ?_
        cases ex with
        | normal =>
          simp only [rpP, List.map_cons, List.map_nil, List.cons_append, List.nil_append, List.cons.injEq, and_true] at hs
          obtain ⟨s4, s5, s6, s7, s8, s9⟩ := hs
          refine ⟨k + 1, ⟨hn, (rpU_iff (x := fun t => st2.tm.getD t .top)).2 ⟨by rw [← hw]; exact s9, s4, s5, s6, s7, s8⟩, (by rw [up]; exact hm), by omega⟩, by show 256 - (k + 1) < 256 - k; omega⟩
        | exit i => simp [exN] at hx
        | ret => simp [exN] at hx
    · have hk0 : k = 256 := by omega
      subst hk0
      refine obs_sat R3 (paid_cons (by rw [decide_eq_false (by omega)]; rfl) Paid.nil) fun ex st2 hx hs hn hm => ?_
      cases ex with
      | normal => simp [exN] at hx
      | ret => simp [exN] at hx
      | exit i =>
        have hi0 : i = 0 := by simp [exN] at hx; exact hx
        subst hi0
        simp only [rpP, List.map_cons, List.map_nil, List.cons_append, List.nil_append, List.cons.injEq, and_true] at hs
        obtain ⟨s4, s5, s6, s7, s8, s9⟩ := hs
        refine ⟨st2, rfl, ?_⟩
        have hst : st2 = ⟨tmOf (fun t => st2.tm.getD t .top) 38, st2.mem⟩ := st_eq (tmOf_self hn) rfl
        rw [hst]
        refine Wk.tail ?_ ?_
        · have hm256 : val e % 2 ^ 256 = val e := Int.emod_eq_of_lt hE.1 (by
            have hw4 : W4 = 2 ^ 256 := by rfl
            rw [← hw4]; exact hE.2)
          rw [hm, hm256]
          unfold bEnd
          rfl
        · intro p hp
          simp only [List.mem_cons, List.not_mem_nil, or_false] at hp
          rcases hp with rfl | rfl
          · exact s6
          · exact s7
  · refine ⟨tmOf_len, ?_, ?_, by omega⟩
    · refine (rpU_iff (x := fun t => (tmOf _ 38).getD t .top)).2 ⟨?_, ?_, ?_, ?_, ?_, ?_⟩ <;> simp only [tmOf_get (show 9 < 38 by omega), tmOf_get (show 4 < 38 by omega), tmOf_get (show 5 < 38 by omega), tmOf_get (show 6 < 38 by omega), tmOf_get (show 7 < 38 by omega), tmOf_get (show 8 < 38 by omega)] <;> rfl
    · show rpM a e m q r b = rpM a e m q _ _
      rw [p3, p4, Int.pow_zero, Int.emod_one, Nat.pow_zero, Int.pow_one, show (0 : Int).toNat = 0 from rfl, Int.pow_zero]
  · intro p hp ρ N v hr'
    simp only [rpU, List.mem_cons, List.not_mem_nil, or_false] at hp
    rcases hp with rfl | rfl | rfl | rfl | rfl | rfl
    · rw [e9] at hr'; cases hr' with | int _ _ _ h => exact .int _ _ _ h
    · rw [e4] at hr'; exact hr'
    · rw [e5] at hr'; exact hr'
    · rw [e6] at hr'; exact hr'
    · rw [e7] at hr'; exact hr'
    · rw [e8] at hr'; exact hr'
def rfpS : List V → E (AV × Mem)
  | [.pl (.ints .u64 4 a), .pl (.ints .u64 4 e), .pl (.ints .u64 4 m)] => some ([decide (0 < val m ∧ val m < W4)], (.ints .u64 4 (limbs (val a ^ (val e).toNat % val m)), []))
  | _ => none
theorem rfp_eval (a e m : List Int) : res (funcL Try.prog qAll hf4 rpΛ 100 42 (cArgs 0 [.pl (.ints .u64 4 a), .pl (.ints .u64 4 e), .pl (.ints .u64 4 m)]) (cMem [.pl (.ints .u64 4 a), .pl (.ints .u64 4 e), .pl (.ints .u64 4 m)])) =
    some ([decide (0 < val m), decide (0 < val m), decide (0 < val m ∧ val m < W4), decide (limbs (val e) = e), decide (limbs (val [1, 0, 0, 0] % val m) = limbs (1 % val m)), decide (limbs (val a % val m) = limbs (val a % val m))], .ints .u64 4 (limbs (val a ^ (val e).toNat % val m))) := by kernel_rfl
theorem rfp_ok {xs : List V} {o : List Bool} {v : AV} {bs : Mem} (h : rfpS xs = some (o, (v, bs))) (ho : Paid o) : ViewCall Try.prog 42 xs v bs := by
  unfold rfpS at h
  split at h
  · rename_i a e m
    cases h
    have hM := ho _ (List.mem_cons_self ..)
    rw [decide_eq_true_eq] at hM
    intro ρ vs w ha hi
    have hb := ha
    cases hb with
    | cons _ _ _ _ r0 hb => cases hb with
      | cons _ _ _ _ r1 hb =>
        have he : limbs (val e) = e := by
          obtain ⟨e0, e1, e2, e3, rfl, u0, u1, u2, u3⟩ := num_arg r1
          exact limbs_val u0 u1 u2 u3
        exact view_of_resL mixed noCount hf4_ok (fun fn c hf hb => by rw [bodyOf_eq hf hb]; exact rp_lok) (rfp_eval a e m) (paid_cons (decide_eq_true hM.1) (paid_cons (decide_eq_true hM.1) (paid_cons (decide_eq_true hM) (paid_cons (decide_eq_true he) (paid_cons (decide_eq_true rfl) (paid_cons (decide_eq_true rfl) Paid.nil)))))) rfl (by kernel_rfl) ha hi
  · cases h
def hf5 : CallH := withV 42 rfpS hf4
theorem hf5_ok : HOk Try.prog hf5 := hf4_ok.withV fun _ _ _ _ h ho => rfp_ok h ho
end Go.Proofs.Ytdpaedcgbhlibaa
namespace Go.Proofs.Ytdpaedcgbhlibaa
open Go.Ev Go.Wn
def hgA : CallH := withC 32 soundS (withV 33 newG hf5)
theorem hgA_ok : HOk Try.prog hgA := (hf5_ok.withV fun _ _ _ _ h ho => newG_ok h ho).withC fun _ _ _ h _ => msound_ok h
def hgB : CallH := withC 32 soundS (withV 33 newB hf5)
theorem hgB_ok : HOk Try.prog hgB := (hf5_ok.withV fun _ _ _ _ h ho => newB_ok h ho).withC fun _ _ _ h _ => msound_ok h
end Go.Proofs.Ytdpaedcgbhlibaa
