/- Are bytes digits alone: a loop that returns; its contract. A time's text. Own work. -/
import Derived.Test.YtjhjhhibfojpiaaTDtC
set_option linter.unusedSimpArgs false
set_option linter.unusedVariables false
set_option linter.unusedSectionVars false
namespace Go.Proofs.Ytjhjhhibfojpiaa
open Go.Ev Go.De Go.Dt
set_option maxRecDepth 100000
set_option linter.unusedSimpArgs false
set_option linter.unusedVariables false
set_option linter.unusedSectionVars false
variable [Tab]
structure odP where
  n : Nat
  cap : Nat
  l : List Int
  n2 : Int
  i : Int
def odTs : List Nat := [2, 5, 6, 7]
def odV (s : odP) : List AV := [.bool false false, .slice true 0 0 s.n none 1, .int true .i64 s.n2, .int true .i64 s.i]
def odM (s : odP) : Mem := [some ⟨false, .ints .u8 (some s.cap) s.l⟩]
theorem od_on (s : odP) : seesL odTs ((codeX Try.prog qR n0 (fun _ _ => none) 100 (lp (blk 0 (bodyOf Try.prog 38))) ⟨tmOf (ups (fun _ => .top) (zipU odTs (odV s))) 18, odM s⟩).go [true, false]) = some ([decide (((odP.i s) : Int) < (odP.n2 s)), (decide ((0 : Int) ≤ (odP.i s)) && decide (((odP.i s) : Int) < (((odP.n s) : Nat) : Int))), decide ((((0 + ((Int.toNat (odP.i s)) * 1)) + 1) : Nat) ≤ (odP.cap s)), ((!(!decide (((List.getD (odP.l s) (0 + ((Int.toNat (odP.i s)) * 1)) 0) : Int) < 48))) || (!decide (((List.getD (odP.l s) (0 + ((Int.toNat (odP.i s)) * 1)) 0) : Int) < 48))), (decide (((List.getD (odP.l s) (0 + ((Int.toNat (odP.i s)) * 1)) 0) : Int) < 48) || (!decide (((List.getD (odP.l s) (0 + ((Int.toNat (odP.i s)) * 1)) 0) : Int) < 48))), (!(decide (((List.getD (odP.l s) (0 + ((Int.toNat (odP.i s)) * 1)) 0) : Int) < 48) || decide (((List.getD (odP.l s) (0 + ((Int.toNat (odP.i s)) * 1)) 0) : Int) > 57)))], 0, odV { s with i := IntKind.wrap .i64 (s.i + 1) }, 18, odM s) := by kernel_rfl
theorem od_ret (s : odP) : seesL odTs ((codeX Try.prog qR n0 (fun _ _ => none) 100 (lp (blk 0 (bodyOf Try.prog 38))) ⟨tmOf (ups (fun _ => .top) (zipU odTs (odV s))) 18, odM s⟩).go [true, true]) = some ([decide (((odP.i s) : Int) < (odP.n2 s)), (decide ((0 : Int) ≤ (odP.i s)) && decide (((odP.i s) : Int) < (((odP.n s) : Nat) : Int))), decide ((((0 + ((Int.toNat (odP.i s)) * 1)) + 1) : Nat) ≤ (odP.cap s)), ((!(!decide (((List.getD (odP.l s) (0 + ((Int.toNat (odP.i s)) * 1)) 0) : Int) < 48))) || (!decide (((List.getD (odP.l s) (0 + ((Int.toNat (odP.i s)) * 1)) 0) : Int) < 48))), (decide (((List.getD (odP.l s) (0 + ((Int.toNat (odP.i s)) * 1)) 0) : Int) < 48) || (!decide (((List.getD (odP.l s) (0 + ((Int.toNat (odP.i s)) * 1)) 0) : Int) < 48))), (decide (((List.getD (odP.l s) (0 + ((Int.toNat (odP.i s)) * 1)) 0) : Int) < 48) || decide (((List.getD (odP.l s) (0 + ((Int.toNat (odP.i s)) * 1)) 0) : Int) > 57))], 1, odV s, 18, odM s) := by kernel_rfl
theorem od_out (s : odP) : seesL odTs ((codeX Try.prog qR n0 (fun _ _ => none) 100 (lp (blk 0 (bodyOf Try.prog 38))) ⟨tmOf (ups (fun _ => .top) (zipU odTs (odV s))) 18, odM s⟩).go [false]) = some ([(!decide (((odP.i s) : Int) < (odP.n2 s)))], 2, odV s, 18, odM s) := by kernel_rfl
/-- The first of n are digits. -/
def digN (l : List Int) (n : Nat) : Bool := digs (l.take n)
def odO (w : Bool) (s : odP) : List Bool := [decide (s.n2 = (s.n : Int)), decide (s.i = 0), decide (s.n ≤ s.l.length), decide (s.n < 1000000000000), decide (s.cap = s.l.length), decide (digN s.l s.n = w)]
def odFin (w : Bool) (s : odP) : Bool × List (Nat × AV) × Mem := match w with
  | false => (true, [(2, .bool false false)], odM s)
  | true => (false, [], odM s)
def odPat : List AV → Mem → Option odP
  | [.bool false false, .slice _ 0 0 n none 1, .int _ .i64 n2, .int _ .i64 i], [some ⟨false, .ints .u8 (some cap) l⟩] => some ⟨n, cap, l, n2, i⟩
  | _, _ => none
def odΛ (w : Bool) : LoopX := famXH 0 18 odTs odPat (odO w) (odFin w) fun _ _ => none
theorem getD_get {l : List Int} {j : Nat} (h : j < l.length) : l.getD j 0 = l[j] := by rw [List.getD_eq_getElem?_getD, List.getElem?_eq_getElem h]; rfl
theorem dig_at {l : List Int} {n : Nat} (hn : n ≤ l.length) : digN l n = true ↔ ∀ j, j < n → isD (l.getD j 0) = true := by
  unfold digN digs
  rw [List.all_eq_true]
  constructor
  · intro h j hj
    rw [getD_get (by omega : j < l.length)]
    exact h _ (by rw [List.mem_take_iff_getElem]; exact ⟨j, by omega, rfl⟩)
  · intro h x hx
    rw [List.mem_take_iff_getElem] at hx
    obtain ⟨j, hj, rfl⟩ := hx
    have := h j (by omega)
    rw [getD_get (by omega : j < l.length)] at this
    exact this
theorem od_go {s : odP} {b b1 b2 : Bool} {j : Nat} (i : Int) (hi : i = (j : Int)) : Goes 1 id odTs [.bool false false, .slice b1 0 0 s.n none 1, .int b2 .i64 s.n2, .int b .i64 i] (odM s) (zipU odTs (odV { s with i := (j : Int) })) (odM s) := by
  subst hi
  refine Goes.zip ?_ ?_ (by rfl) (by rfl) (show 1 ≤ 1 by decide) rfl (by rfl)
  · exact .cons (.refl _) (.cons (.slice b1 true 0 0 s.n none none 1 (Or.inl rfl)) (.cons (.int b2 true .i64 _) (.cons (.int b true .i64 _) .nil)))
  · exact ⟨⟨_, rfl, .refl _⟩, trivial⟩
theorem od_lok (w : Bool) : LOkX 1 Try.prog (bodyOf Try.prog 38) (odΛ w) := by
  refine famX_ok (n := 100) odV odM (fun s s1 => s.n2 = (s.n : Int) ∧ s.n ≤ s.l.length ∧ s.n < 1000000000000 ∧ s.cap = s.l.length ∧ digN s.l s.n = w ∧ ∃ j : Nat, j ≤ s.n ∧ (∀ i, i < j → isD (s.l.getD i 0) = true) ∧ s1 = { s with i := (j : Int) }) (fun s => s.n - s.i.toNat) mixed LOkX.none (by kernel_rfl) (by kernel_rfl) (fun avs m s h ho => ?_) (fun s s1 hJ => ?_)
  · unfold odPat at h
    split at h
    · rename_i b1 n b2 n2 b i cap l
      cases h
      have o1 := of_decide_eq_true (ho _ (List.mem_cons_self ..))
      have o2 := of_decide_eq_true (ho _ (List.mem_cons_of_mem _ (List.mem_cons_self ..)))
      have o3 := of_decide_eq_true (ho _ (List.mem_cons_of_mem _ (List.mem_cons_of_mem _ (List.mem_cons_self ..))))
      have o4 := of_decide_eq_true (ho _ (List.mem_cons_of_mem _ (List.mem_cons_of_mem _ (List.mem_cons_of_mem _ (List.mem_cons_self ..)))))
      have o5 := of_decide_eq_true (ho _ (List.mem_cons_of_mem _ (List.mem_cons_of_mem _ (List.mem_cons_of_mem _ (List.mem_cons_of_mem _ (List.mem_cons_self ..))))))
      have o6 := of_decide_eq_true (ho _ (List.mem_cons_of_mem _ (List.mem_cons_of_mem _ (List.mem_cons_of_mem _ (List.mem_cons_of_mem _ (List.mem_cons_of_mem _ (List.mem_cons_self ..)))))))
      simp only at o1 o2 o3 o4 o5 o6
      subst o1 o2
      exact ⟨_, id, od_go (s := ⟨n, cap, l, (n : Int), 0⟩) (j := 0) 0 rfl, rfl, o3, o4, o5, o6, 0, Nat.zero_le _, fun i hi => absurd hi (Nat.not_lt_zero _), rfl⟩
    · cases h
  · obtain ⟨h1, h2, h3, h4, h5, j, hj, hd, rfl⟩ := hJ
    refine ⟨qR, n0, fun _ _ => none, n0_ok, LOkX.none, ?_⟩
    have hw : IntKind.wrap .i64 ((j : Int) + 1) = ((j + 1 : Nat) : Int) := by rw [wrap64]; omega
    by_cases hlt : j < s.n
    · by_cases hx : isD (s.l.getD j 0) = true
      · have hx2 := hx
        unfold isD at hx2
        rw [decide_eq_true_eq] at hx2
        refine RoundX.on (od_on { s with i := (j : Int) }) { s with i := ((j + 1 : Nat) : Int) } id ?_ (od_go _ hw) ⟨h1, h2, h3, h4, h5, j + 1, by omega, fun i hi => ?_, rfl⟩ (by show s.n - (((j + 1 : Nat) : Int)).toNat < s.n - ((j : Int)).toNat; omega)
        · refine paid_cons ?_ (paid_cons ?_ (paid_cons ?_ (paid_cons ?_ (paid_cons ?_ (paid_cons ?_ (fun _ h => by cases h))))))
          all_goals (simp only [Bool.and_eq_true, Bool.or_eq_true, Bool.not_eq_true', Bool.not_true, Bool.not_false, Bool.not_eq_eq_eq_not, decide_eq_true_eq, decide_eq_false_iff_not, beq_iff_eq, beq_eq_false_iff_ne, bne_iff_ne, bne_eq_false_iff_eq, ne_eq, Bool.or_eq_false_iff, Bool.and_eq_false_imp, Bool.and_true, Bool.true_and, Bool.or_false, Bool.false_or, Bool.or_true, Bool.true_or, Bool.and_false, Bool.false_and, and_true, true_and, not_true_eq_false, not_false_eq_true, Int.toNat_natCast, Nat.zero_add, Nat.mul_one]) <;> omega
        · by_cases e : i = j
          · subst e; exact hx
          · exact hd i (by omega)
      · have hx2 := hx
        unfold isD at hx2
        rw [decide_eq_true_eq] at hx2
        have hw2 : w = false := by
          cases w with
          | false => rfl
          | true => exact absurd ((dig_at h2).1 h5 j hlt) hx
        subst hw2
        refine RoundX.out (od_ret { s with i := (j : Int) }) rfl id ?_ ?_
        · refine paid_cons ?_ (paid_cons ?_ (paid_cons ?_ (paid_cons ?_ (paid_cons ?_ (paid_cons ?_ (fun _ h => by cases h))))))
          all_goals (simp only [Bool.and_eq_true, Bool.or_eq_true, Bool.not_eq_true', Bool.not_true, Bool.not_false, Bool.not_eq_eq_eq_not, decide_eq_true_eq, decide_eq_false_iff_not, beq_iff_eq, beq_eq_false_iff_ne, bne_iff_ne, bne_eq_false_iff_eq, ne_eq, Bool.or_eq_false_iff, Bool.and_eq_false_imp, Bool.and_true, Bool.true_and, Bool.or_false, Bool.false_or, Bool.or_true, Bool.true_or, Bool.and_false, Bool.false_and, and_true, true_and, not_true_eq_false, not_false_eq_true, Int.toNat_natCast, Nat.zero_add, Nat.mul_one]) <;> omega
        · refine ⟨fun p hp => ?_, ⟨⟨_, rfl, .refl _⟩, trivial⟩, by rfl, by rfl, show 1 ≤ 1 by decide, rfl, by rfl⟩
          simp only [odFin, List.mem_cons, List.not_mem_nil, or_false] at hp
          subst hp
          exact ⟨_, List.mem_cons_self .., .refl _⟩
    · have ej : j = s.n := by omega
      subst ej
      have hw2 : w = true := by rw [← h5]; exact (dig_at h2).2 hd
      subst hw2
      refine RoundX.out (od_out { s with i := (s.n : Int) }) rfl id ?_ ?_
      · refine paid_cons ?_ (fun _ h => by cases h)
        all_goals (simp only [Bool.and_eq_true, Bool.or_eq_true, Bool.not_eq_true', Bool.not_true, Bool.not_false, Bool.not_eq_eq_eq_not, decide_eq_true_eq, decide_eq_false_iff_not, beq_iff_eq, beq_eq_false_iff_ne, bne_iff_ne, bne_eq_false_iff_eq, ne_eq, Bool.or_eq_false_iff, Bool.and_eq_false_imp, Bool.and_true, Bool.true_and, Bool.or_false, Bool.false_or, Bool.or_true, Bool.true_or, Bool.and_false, Bool.false_and, and_true, true_and, not_true_eq_false, not_false_eq_true, Int.toNat_natCast, Nat.zero_add, Nat.mul_one]) <;> omega
      · exact ⟨fun p hp => (by cases hp), ⟨⟨_, rfl, .refl _⟩, trivial⟩, by rfl, by rfl, show 1 ≤ 1 by decide, rfl, rfl⟩
theorem od_tn_eval (n : Nat) (l : List Int) : ((funcX Try.prog qR n0 (odΛ true) 100 38 (cArgs 0 [.buf true .u8 n l]) (cMem [.buf true .u8 n l])).go []).flat = some (decide (n < 9223372036854775808) :: odO true ⟨n, n, l, ((n : Nat) : Int), 0⟩ ++ [], (.bool false true, [some ⟨false, .ints .u8 (some n) l⟩])) := by kernel_rfl
theorem od_t12_eval (l : List Int) : ((funcX Try.prog qR n0 (odΛ true) 100 38 (cArgs 0 [.buf false .u8 12 l]) (cMem [.buf false .u8 12 l])).go []).flat = some (odO true ⟨12, 12, l, ((12 : Nat) : Int), 0⟩ ++ [], (.bool false true, [some ⟨false, .ints .u8 (some 12) l⟩])) := by kernel_rfl
theorem od_t14_eval (l : List Int) : ((funcX Try.prog qR n0 (odΛ true) 100 38 (cArgs 0 [.buf false .u8 14 l]) (cMem [.buf false .u8 14 l])).go []).flat = some (odO true ⟨14, 14, l, ((14 : Nat) : Int), 0⟩ ++ [], (.bool false true, [some ⟨false, .ints .u8 (some 14) l⟩])) := by kernel_rfl
theorem od_fn_eval (n : Nat) (l : List Int) : ((funcX Try.prog qR n0 (odΛ false) 100 38 (cArgs 0 [.buf true .u8 n l]) (cMem [.buf true .u8 n l])).go []).flat = some (decide (n < 9223372036854775808) :: odO false ⟨n, n, l, ((n : Nat) : Int), 0⟩ ++ [], (.bool false false, [some ⟨false, .ints .u8 (some n) l⟩])) := by kernel_rfl
theorem od_f12_eval (l : List Int) : ((funcX Try.prog qR n0 (odΛ false) 100 38 (cArgs 0 [.buf false .u8 12 l]) (cMem [.buf false .u8 12 l])).go []).flat = some (odO false ⟨12, 12, l, ((12 : Nat) : Int), 0⟩ ++ [], (.bool false false, [some ⟨false, .ints .u8 (some 12) l⟩])) := by kernel_rfl
theorem od_f14_eval (l : List Int) : ((funcX Try.prog qR n0 (odΛ false) 100 38 (cArgs 0 [.buf false .u8 14 l]) (cMem [.buf false .u8 14 l])).go []).flat = some (odO false ⟨14, 14, l, ((14 : Nat) : Int), 0⟩ ++ [], (.bool false false, [some ⟨false, .ints .u8 (some 14) l⟩])) := by kernel_rfl
def odS (w : Bool) : List V → E (AV × Mem)
  | [.buf true .u8 n l] => some ([decide (n < 1000000000000), decide (digN l n = w)], (.bool false w, []))
  | [.buf false .u8 12 l] => some ([decide (digN l 12 = w)], (.bool false w, []))
  | [.buf false .u8 14 l] => some ([decide (digN l 14 = w)], (.bool false w, []))
  | _ => none
theorem odS_ok (w : Bool) {xs : List V} {o : List Bool} {v : AV} {bs : Mem} (h : odS w xs = some (o, (v, bs))) (ho : Paid o) : ViewCall Try.prog 38 xs v bs := by
  have lok : ∀ fn c, Try.prog.funcs[38]? = some fn → fn.body = some c → LOkX 1 Try.prog c (odΛ w) := fun fn c hf hb => by rw [bodyOf_eq hf hb]; exact od_lok w
  have pay : ∀ {n : Nat} {l : List Int}, l.length = n → n < 1000000000000 → digN l n = w → Paid (odO w ⟨n, n, l, (n : Int), 0⟩ ++ []) := fun {n l} hl hn hd => by
    rw [List.append_nil]
    exact paid_cons (decide_eq_true rfl) (paid_cons (decide_eq_true rfl) (paid_cons (decide_eq_true (by show n ≤ l.length; omega)) (paid_cons (decide_eq_true hn) (paid_cons (decide_eq_true hl.symm) (paid_cons (decide_eq_true hd) fun _ h => by cases h)))))
  unfold odS at h
  split at h
  · rename_i n l
    cases h
    have o1 := of_decide_eq_true (ho _ (List.mem_cons_self ..))
    have o2 := of_decide_eq_true (ho _ (List.mem_cons_of_mem _ (List.mem_cons_self ..)))
    intro ρ vs w0 ha hi
    obtain ⟨cs2, t2, lo2, hi2, c1, c2, c3, c4, c5⟩ := (hi.sim.blk 0 _ rfl).ex
    have hl : l.length = n := c5.1 _ rfl
    cases w with
    | true => exact (viewX_of_go (bs := []) mixed noCount n0_ok lok [] (od_tn_eval n l) (paid_cons (decide_eq_true (by omega)) (pay hl o1 o2)) rfl rfl rfl) ha hi
    | false => exact (viewX_of_go (bs := []) mixed noCount n0_ok lok [] (od_fn_eval n l) (paid_cons (decide_eq_true (by omega)) (pay hl o1 o2)) rfl rfl rfl) ha hi
  · rename_i l
    cases h
    have o2 := of_decide_eq_true (ho _ (List.mem_cons_self ..))
    intro ρ vs w0 ha hi
    obtain ⟨cs2, t2, lo2, hi2, c1, c2, c3, c4, c5⟩ := (hi.sim.blk 0 _ rfl).ex
    have hl : l.length = 12 := c5.1 _ rfl
    cases w with
    | true => exact (viewX_of_go (bs := []) mixed noCount n0_ok lok [] (od_t12_eval l) (pay hl (by decide) o2) rfl rfl rfl) ha hi
    | false => exact (viewX_of_go (bs := []) mixed noCount n0_ok lok [] (od_f12_eval l) (pay hl (by decide) o2) rfl rfl rfl) ha hi
  · rename_i l
    cases h
    have o2 := of_decide_eq_true (ho _ (List.mem_cons_self ..))
    intro ρ vs w0 ha hi
    obtain ⟨cs2, t2, lo2, hi2, c1, c2, c3, c4, c5⟩ := (hi.sim.blk 0 _ rfl).ex
    have hl : l.length = 14 := c5.1 _ rfl
    cases w with
    | true => exact (viewX_of_go (bs := []) mixed noCount n0_ok lok [] (od_t14_eval l) (pay hl (by decide) o2) rfl rfl rfl) ha hi
    | false => exact (viewX_of_go (bs := []) mixed noCount n0_ok lok [] (od_f14_eval l) (pay hl (by decide) o2) rfl rfl rfl) ha hi
  · cases h
noncomputable def hod (w : Bool) (X : CallH) : CallH := withV 38 (odS w) X
theorem hod_ok {X : CallH} (h : HOk Try.prog X) (w : Bool) : HOk Try.prog (hod w X) := h.withV fun _ _ _ _ h ho => odS_ok w h ho
end Go.Proofs.Ytjhjhhibfojpiaa
