/- mac's Equal: its loop as a family, its contract. Own work. -/
import Derived.Test.YtfmgodgakndjcaaSChU
set_option linter.unusedSimpArgs false
set_option linter.unusedVariables false
set_option linter.unusedSectionVars false
namespace Go.Sh
open Go.Ev
theorem w64e {x : Int} (h : -9223372036854775808 ≤ x ∧ x < 9223372036854775808) : IntKind.i64.wrap x = x := by unfold IntKind.wrap; simp [IntKind.bits, IntKind.signed]; omega
structure EqP where
  n : Nat
  l : List Int
  m : Nat
  q : List Int
  a : Int
  i : Int
/-- What is apart in the first i bytes. -/
def eqA (l q : List Int) : Nat → Int
  | 0 => 0
  | i + 1 => ior .u8 (eqA l q i) (ixor .u8 (l.getD (0 + i * 1) 0) (q.getD (0 + i * 1) 0))
theorem ior_zero {x y : Int} (hx : 0 ≤ x ∧ x < 256) (hy : 0 ≤ y ∧ y < 256) : ior .u8 x y = 0 ↔ x = 0 ∧ y = 0 := by
  obtain ⟨a, rfl⟩ := Int.eq_ofNat_of_zero_le hx.1
  obtain ⟨b, rfl⟩ := Int.eq_ofNat_of_zero_le hy.1
  have ha : a < 256 := by omega
  have hb : b < 256 := by omega
  have e : ior .u8 (a : Int) (b : Int) = ((a ||| b : Nat) : Int) := by
    unfold ior
    have h : (BitVec.ofInt 8 (a : Int) ||| BitVec.ofInt 8 (b : Int)).toNat = a ||| b := by
      simp only [BitVec.toNat_or, BitVec.ofInt_natCast, BitVec.toNat_ofNat]
      rw [Nat.mod_eq_of_lt ha, Nat.mod_eq_of_lt hb]
    have hlt : a ||| b < 2 ^ 8 := Nat.or_lt_two_pow ha hb
    show IntKind.u8.wrap ((BitVec.ofInt 8 (a : Int) ||| BitVec.ofInt 8 (b : Int)).toNat : Int) = _
    rw [h]
    unfold IntKind.wrap; simp [IntKind.bits, IntKind.signed]; omega
  rw [e]
  constructor
  · intro h
    have h0 : a ||| b = 0 := by omega
    have := Nat.or_eq_zero_iff.1 h0
    omega
  · rintro ⟨h1, h2⟩
    have : a = 0 := by omega
    have : b = 0 := by omega
    subst a b; rfl
theorem ixor_zero {x y : Int} (hx : 0 ≤ x ∧ x < 256) (hy : 0 ≤ y ∧ y < 256) : (ixor .u8 x y = 0 ↔ x = y) ∧ 0 ≤ ixor .u8 x y ∧ ixor .u8 x y < 256 := by
  obtain ⟨a, rfl⟩ := Int.eq_ofNat_of_zero_le hx.1
  obtain ⟨b, rfl⟩ := Int.eq_ofNat_of_zero_le hy.1
  have ha : a < 256 := by omega
  have hb : b < 256 := by omega
  have hlt : a ^^^ b < 2 ^ 8 := Nat.xor_lt_two_pow ha hb
  have e : ixor .u8 (a : Int) (b : Int) = ((a ^^^ b : Nat) : Int) := by
    unfold ixor
    have h : (BitVec.ofInt 8 (a : Int) ^^^ BitVec.ofInt 8 (b : Int)).toNat = a ^^^ b := by
      simp only [BitVec.toNat_xor, BitVec.ofInt_natCast, BitVec.toNat_ofNat]
      rw [Nat.mod_eq_of_lt ha, Nat.mod_eq_of_lt hb]
    show IntKind.u8.wrap ((BitVec.ofInt 8 (a : Int) ^^^ BitVec.ofInt 8 (b : Int)).toNat : Int) = _
    rw [h]
    unfold IntKind.wrap; simp [IntKind.bits, IntKind.signed]; omega
  rw [e]
  refine ⟨⟨fun h => ?_, fun h => ?_⟩, by omega, by omega⟩
  · have h0 : a ^^^ b = 0 := by omega
    have h1 : a = b := by
      have := congrArg (fun t => t ^^^ b) h0
      simpa [Nat.xor_assoc] using this
    rw [h1]
  · have : a = b := by omega
    subst this; simp
theorem ior_u8 (x y : Int) : 0 ≤ ior .u8 x y ∧ ior .u8 x y < 256 := by
  unfold ior IntKind.wrap; simp [IntKind.bits, IntKind.signed]; omega
theorem eqA_u8 (l q : List Int) : ∀ i, 0 ≤ eqA l q i ∧ eqA l q i < 256
  | 0 => ⟨by unfold eqA; omega, by unfold eqA; omega⟩
  | i + 1 => ior_u8 _ _
theorem getD_u8 {l : List Int} (h : ∀ x ∈ l, 0 ≤ x ∧ x < 256) (i : Nat) : 0 ≤ l.getD i 0 ∧ l.getD i 0 < 256 := by
  rw [List.getD_eq_getElem?_getD]
  cases hi : l[i]? with
  | none => exact ⟨by simp, by simp⟩
  | some x => exact h x (List.mem_of_getElem? hi)
theorem eqA_zero {l q : List Int} (hl : ∀ x ∈ l, 0 ≤ x ∧ x < 256) (hq : ∀ x ∈ q, 0 ≤ x ∧ x < 256) : ∀ i, eqA l q i = 0 ↔ ∀ j, j < i → l.getD j 0 = q.getD j 0
  | 0 => ⟨fun _ j h => by omega, fun _ => rfl⟩
  | i + 1 => by
    have ih := eqA_zero hl hq i
    have hx := ixor_zero (getD_u8 hl (0 + i * 1)) (getD_u8 hq (0 + i * 1))
    have e : 0 + i * 1 = i := by omega
    unfold eqA
    rw [ior_zero (eqA_u8 l q i) hx.2, hx.1, ih, e]
    constructor
    · rintro ⟨h1, h2⟩ j hj
      by_cases hji : j = i
      · rw [hji]; exact h2
      · exact h1 j (by omega)
    · intro h
      exact ⟨fun j hj => h j (by omega), h i (by omega)⟩
theorem eqA_all {l q : List Int} {n : Nat} (hl : ∀ x ∈ l, 0 ≤ x ∧ x < 256) (hq : ∀ x ∈ q, 0 ≤ x ∧ x < 256) (h1 : l.length = n) (h2 : q.length = n) : eqA l q n = 0 ↔ l = q := by
  rw [eqA_zero hl hq]
  constructor
  · intro h
    refine List.ext_getElem (by omega) fun j hj hj' => ?_
    have := h j (by omega)
    rw [List.getD_eq_getElem?_getD, List.getD_eq_getElem?_getD, List.getElem?_eq_getElem hj, List.getElem?_eq_getElem hj'] at this
    exact this
  · rintro rfl j _; rfl
def all8 (l : List Int) : Bool := l.all fun x => decide (0 ≤ x) && decide (x < 256)
theorem all8_mem {l : List Int} (h : all8 l = true) : ∀ x ∈ l, 0 ≤ x ∧ x < 256 := fun x hx => by
  have := List.all_eq_true.1 h x hx
  simp only [Bool.and_eq_true, decide_eq_true_eq] at this
  exact this
end Go.Sh
namespace Go.Proofs.Ytfmgodgakndjcaa
open Go.Ev Go.Sh
set_option maxRecDepth 100000
def eqTs : List Nat := [0, 1, 5, 13, 14]
def eqV (s : EqP) : List AV := [.slice true 0 0 s.n none 1, .slice true 1 0 s.m none 1, .int true .u8 s.a, .int true .i64 s.n, .int true .i64 s.i]
def eqM (s : EqP) : Mem := [some ⟨false, .ints .u8 (some s.n) s.l⟩, some ⟨false, .ints .u8 (some s.m) s.q⟩]
def eqP : List AV → Mem → Option (EqP × List Bool)
  | [.slice true 0 0 n none 1, .slice true 1 0 m none 1, .int _ .u8 a, .int true .i64 z, .int _ .i64 i], [some ⟨false, .ints .u8 (some n2) l⟩, some ⟨false, .ints .u8 (some m2) q⟩] => some (⟨n, l, m, q, a, i⟩, [decide (n2 = n), decide (m2 = m), decide (z = (n : Int))])
  | _, _ => none
def eqO (p : EqP × List Bool) : List Bool := p.2 ++ [decide (p.1.a = 0), decide (p.1.i = 0), decide (p.1.n = p.1.m), decide (p.1.n < 1000000000000)]
def eqF (p : EqP × List Bool) : List (Nat × AV) × Mem := ([(5, .int true .u8 (eqA p.1.l p.1.q p.1.n))], eqM p.1)
def eqΛ : LoopH := famH 0 31 eqTs eqP eqO eqF fun _ _ => none
theorem eq_t (y : Nat → AV) (s : EqP) : seesL eqTs ((codeL Try.prog qP hq6 (fun _ _ => none) 100 (lp (blk 0 (bodyOf Try.prog 42))) ⟨tmOf (ups y (zipU eqTs (eqV s))) 31, eqM s⟩).go [true]) = some ([decide (s.i < (s.n : Int)), decide (0 ≤ s.i) && decide (s.i < (s.n : Int)), decide (0 + s.i.toNat * 1 + 1 ≤ s.n), decide (0 ≤ s.i) && decide (s.i < (s.m : Int)), decide (0 + s.i.toNat * 1 + 1 ≤ s.m)], 0, eqV { s with a := ior .u8 s.a (ixor .u8 (s.l.getD (0 + s.i.toNat * 1) 0) (s.q.getD (0 + s.i.toNat * 1) 0)), i := IntKind.i64.wrap (s.i + 1) }, 31, eqM s) := by kernel_rfl
theorem eq_f (y : Nat → AV) (s : EqP) : seesL eqTs ((codeL Try.prog qP hq6 (fun _ _ => none) 100 (lp (blk 0 (bodyOf Try.prog 42))) ⟨tmOf (ups y (zipU eqTs (eqV s))) 31, eqM s⟩).go [false]) = some ([!decide (s.i < (s.n : Int))], 2, eqV s, 31, eqM s) := by kernel_rfl
theorem eq_lok : LOk Try.prog (bodyOf Try.prog 42) eqΛ := by
  refine fam_ok (q := qP) (n := 100) (fun p : EqP × List Bool => eqV p.1) (fun p => eqM p.1) (fun p s => ∃ j : Nat, j ≤ p.1.n ∧ p.1.n = p.1.m ∧ p.1.n < 1000000000000 ∧ s = ({ p.1 with a := eqA p.1.l p.1.q j, i := (j : Int) }, [])) (fun s => s.1.n - s.1.i.toNat) mixed hq6_ok LOk.none LOk.none (by kernel_rfl) (by kernel_rfl) (fun s => rfl) (fun s => rfl) (fun avs m p h ho => ?_) (fun p s hJ y => ?_)
  · unfold eqP at h
    split at h
    · cases h
      have o1 := of_decide_eq_true (ho _ (List.mem_cons_self ..))
      have o2 := of_decide_eq_true (ho _ (List.mem_cons_of_mem _ (List.mem_cons_self ..)))
      have o3 := of_decide_eq_true (ho _ (List.mem_cons_of_mem _ (List.mem_cons_of_mem _ (List.mem_cons_self ..))))
      have o4 := of_decide_eq_true (ho _ (List.mem_cons_of_mem _ (List.mem_cons_of_mem _ (List.mem_cons_of_mem _ (List.mem_cons_self ..)))))
      have o5 := of_decide_eq_true (ho _ (List.mem_cons_of_mem _ (List.mem_cons_of_mem _ (List.mem_cons_of_mem _ (List.mem_cons_of_mem _ (List.mem_cons_self ..))))))
      have o6 := of_decide_eq_true (ho _ (List.mem_cons_of_mem _ (List.mem_cons_of_mem _ (List.mem_cons_of_mem _ (List.mem_cons_of_mem _ (List.mem_cons_of_mem _ (List.mem_cons_self ..)))))))
      have o7 := of_decide_eq_true (ho _ (List.mem_cons_of_mem _ (List.mem_cons_of_mem _ (List.mem_cons_of_mem _ (List.mem_cons_of_mem _ (List.mem_cons_of_mem _ (List.mem_cons_of_mem _ (List.mem_cons_self ..))))))))
      simp only at o4 o5 o6 o7
      subst o1 o2 o3
      exact ⟨(⟨_, _, _, _, 0, 0⟩, []), .cons (.refl _) (.cons (.refl _) (.cons (by rw [o4]; exact .int _ _ _) (.cons (.refl _) (.cons (by rw [o5]; exact .int _ _ _) .nil)))), rfl, 0, Nat.zero_le _, o6, o7, rfl⟩
    · cases h
  · obtain ⟨j, h1, h2, h3, rfl⟩ := hJ
    obtain ⟨⟨n, l, m, q, a, i⟩, bs⟩ := p
    simp only at h1 h2 h3
    by_cases hj : j = n
    · subst hj
      refine Round.out (eq_f y _) rfl rfl (paid_cons (by simp) Paid.nil) fun q hq => ?_
      simp only [eqF, List.mem_cons, List.not_mem_nil, or_false] at hq
      rcases hq with rfl
      exact ⟨_, by simp [eqTs, eqV, zipU], Le1.refl _⟩
    · have ew : IntKind.i64.wrap ((j : Int) + 1) = ((j + 1 : Nat) : Int) := by rw [w64e (by omega)]; omega
      have hb : (decide (0 ≤ (j : Int)) && decide ((j : Int) < (n : Int))) = true := by rw [decide_eq_true (show (0 : Int) ≤ (j : Int) by omega), decide_eq_true (show (j : Int) < (n : Int) by omega)]; rfl
      have hb2 : (decide (0 ≤ (j : Int)) && decide ((j : Int) < (m : Int))) = true := by rw [decide_eq_true (show (0 : Int) ≤ (j : Int) by omega), decide_eq_true (show (j : Int) < (m : Int) by omega)]; rfl
      refine Round.on (eq_t y ⟨n, l, m, q, eqA l q j, j⟩) (⟨n, l, m, q, eqA l q (j + 1), ((j + 1 : Nat) : Int)⟩, []) [] rfl (paid_cons (decide_eq_true (by first | omega | (simp only; omega))) (paid_cons hb (paid_cons (decide_eq_true (by first | omega | (simp only; omega))) (paid_cons hb2 (paid_cons (decide_eq_true (by first | omega | (simp only; omega))) Paid.nil))))) (by simp only [ew]; exact LeL.refl _) ⟨j + 1, by first | omega | (simp only; omega), h2, h3, rfl⟩ rfl (by first | omega | (simp only; omega))
end Go.Proofs.Ytfmgodgakndjcaa
namespace Go.Proofs.Ytfmgodgakndjcaa
open Go.Ev Go.Sh
set_option maxRecDepth 100000
theorem equ_same (n m : Nat) (l q : List Int) : ((funcL Try.prog qP hq6 eqΛ 200 42 (cArgs 0 [.buf true .u8 n l, .buf true .u8 m q]) (cMem [.buf true .u8 n l, .buf true .u8 m q])).go [false]).flat = some ([decide (n < 9223372036854775808), decide (m < 9223372036854775808), !((n : Int) != (m : Int)), decide (n < 9223372036854775808), decide (n = n), decide (m = m), decide ((n : Int) = (n : Int)), true, true, decide (n = m), decide (n < 1000000000000)], (.bool true (eqA l q n == 0), [some ⟨false, .ints .u8 (some n) l⟩, some ⟨false, .ints .u8 (some m) q⟩])) := by kernel_rfl
theorem equ_apart (n m : Nat) (l q : List Int) : ((funcL Try.prog qP hq6 eqΛ 200 42 (cArgs 0 [.buf true .u8 n l, .buf true .u8 m q]) (cMem [.buf true .u8 n l, .buf true .u8 m q])).go [true]).flat = some ([decide (n < 9223372036854775808), decide (m < 9223372036854775808), ((n : Int) != (m : Int))], (.bool false false, [some ⟨false, .ints .u8 (some n) l⟩, some ⟨false, .ints .u8 (some m) q⟩])) := by kernel_rfl
theorem equ_buf_nil (n : Nat) (l : List Int) : ((funcL Try.prog qP hq6 eqΛ 200 42 (cArgs 0 [.buf true .u8 n l, .pl .nilslice]) (cMem [.buf true .u8 n l, .pl .nilslice])).go [true]).flat = some ([decide (n < 9223372036854775808), ((n : Int) != 0)], (.bool false false, [some ⟨false, .ints .u8 (some n) l⟩, none])) := by kernel_rfl
theorem equ_nil_buf (n : Nat) (l : List Int) : ((funcL Try.prog qP hq6 eqΛ 200 42 (cArgs 0 [.pl .nilslice, .buf true .u8 n l]) (cMem [.pl .nilslice, .buf true .u8 n l])).go [true]).flat = some ([decide (n < 9223372036854775808), ((0 : Int) != (n : Int))], (.bool false false, [none, some ⟨false, .ints .u8 (some n) l⟩])) := by kernel_rfl
theorem equ_buf_emp (n : Nat) (l : List Int) : ((funcL Try.prog qP hq6 eqΛ 200 42 (cArgs 0 [.buf true .u8 n l, .empty]) (cMem [.buf true .u8 n l, .empty])).go [true]).flat = some ([decide (n < 9223372036854775808), ((n : Int) != 0)], (.bool false false, [some ⟨false, .ints .u8 (some n) l⟩, none])) := by kernel_rfl
theorem equ_emp_buf (n : Nat) (l : List Int) : ((funcL Try.prog qP hq6 eqΛ 200 42 (cArgs 0 [.empty, .buf true .u8 n l]) (cMem [.empty, .buf true .u8 n l])).go [true]).flat = some ([decide (n < 9223372036854775808), ((0 : Int) != (n : Int))], (.bool false false, [none, some ⟨false, .ints .u8 (some n) l⟩])) := by kernel_rfl
def equS : List V → E (AV × Mem)
  | [.buf true .u8 n l, .buf true .u8 m q] => some ([decide (l.length = n), decide (q.length = m), decide (n < 1000000000000), decide (m < 1000000000000), all8 l, all8 q], (.bool true (decide (l = q)), []))
  | [.buf true .u8 n _, .pl .nilslice] => some ([decide (1 ≤ n), decide (n < 1000000000000)], (.bool false false, []))
  | [.pl .nilslice, .buf true .u8 n _] => some ([decide (1 ≤ n), decide (n < 1000000000000)], (.bool false false, []))
  | [.buf true .u8 n _, .empty] => some ([decide (1 ≤ n), decide (n < 1000000000000)], (.bool false false, []))
  | [.empty, .buf true .u8 n _] => some ([decide (1 ≤ n), decide (n < 1000000000000)], (.bool false false, []))
  | _ => none
theorem ViewCall.boolM {g : FuncId} {xs : List V} {s t b : Bool} {bs : Mem} (h : ViewCall Try.prog g xs (.bool s b) bs) : ViewCall Try.prog g xs (.bool t b) bs := by
  intro ρ vs w ha hi
  refine (h ha hi).mono fun u w' ⟨ρ', h1, h2⟩ => ⟨ρ', ?_, h2⟩
  have h1' : Rep ρ' (upto (xs.length + bs.length)) (.bool s b) u := h1
  cases h1'
  exact .bool _ _
theorem equ_ok {xs : List V} {o : List Bool} {v : AV} {bs : Mem} (h : equS xs = some (o, (v, bs))) (ho : Paid o) : ViewCall Try.prog 42 xs v bs := by
  unfold equS at h
  split at h
  · rename_i n l m q
    cases h
    have o1 := of_decide_eq_true (ho _ (List.mem_cons_self ..))
    have o2 := of_decide_eq_true (ho _ (List.mem_cons_of_mem _ (List.mem_cons_self ..)))
    have o3 := of_decide_eq_true (ho _ (List.mem_cons_of_mem _ (List.mem_cons_of_mem _ (List.mem_cons_self ..))))
    have o4 := of_decide_eq_true (ho _ (List.mem_cons_of_mem _ (List.mem_cons_of_mem _ (List.mem_cons_of_mem _ (List.mem_cons_self ..)))))
    have o5 := ho _ (List.mem_cons_of_mem _ (List.mem_cons_of_mem _ (List.mem_cons_of_mem _ (List.mem_cons_of_mem _ (List.mem_cons_self ..)))))
    have o6 := ho _ (List.mem_cons_of_mem _ (List.mem_cons_of_mem _ (List.mem_cons_of_mem _ (List.mem_cons_of_mem _ (List.mem_cons_of_mem _ (List.mem_cons_self ..))))))
    have d1 : decide (n < 9223372036854775808) = true := decide_eq_true (by omega)
    have d2 : decide (m < 9223372036854775808) = true := decide_eq_true (by omega)
    intro ρ vs w ha hi
    by_cases hnm : n = m
    · subst hnm
      have e : (eqA l q n == 0) = decide (l = q) := by
        have := eqA_all (all8_mem o5) (all8_mem o6) o1 o2
        by_cases h : l = q
        · rw [decide_eq_true h, this.2 h]; rfl
        · rw [decide_eq_false h]; simp only [beq_eq_false_iff_ne, ne_eq]; exact fun h2 => h (this.1 h2)
      have ev := equ_same n n l q
      rw [e] at ev
      exact @viewN_of_go _ _ _ _ _ mixed noCount hq6_ok _ _ _ (fun fn c hf hb => by rw [bodyOf_eq hf hb]; exact eq_lok.toN) _ (.bool true (decide (l = q))) _ _ [] [false] (ev) (paid_cons d1 (paid_cons d2 (paid_cons (by simp) (paid_cons d1 (paid_cons (by simp) (paid_cons (by simp) (paid_cons (by simp) (paid_cons rfl (paid_cons rfl (paid_cons (by simp) (paid_cons (decide_eq_true (by omega)) Paid.nil))))))))))) rfl rfl rfl _ _ _ ha hi
    · have e : decide (l = q) = false := decide_eq_false (by rintro rfl; omega)
      rw [e]
      exact @ViewCall.boolM _ _ false true false _ (@viewN_of_go _ _ _ _ _ mixed noCount hq6_ok _ _ _ (fun fn c hf hb => by rw [bodyOf_eq hf hb]; exact eq_lok.toN) _ (.bool false false) _ _ [] [true] (equ_apart n m l q) (paid_cons d1 (paid_cons d2 (paid_cons (by simp; omega) Paid.nil))) rfl rfl rfl) _ _ _ ha hi
  · rename_i n l
    cases h
    have o1 := of_decide_eq_true (ho _ (List.mem_cons_self ..))
    have o2 := of_decide_eq_true (ho _ (List.mem_cons_of_mem _ (List.mem_cons_self ..)))
    exact @viewN_of_go _ _ _ _ _ mixed noCount hq6_ok _ _ _ (fun fn c hf hb => by rw [bodyOf_eq hf hb]; exact eq_lok.toN) _ (.bool false false) _ _ [] [true] (equ_buf_nil n l) (paid_cons (decide_eq_true (by omega)) (paid_cons (by simp; omega) Paid.nil)) rfl rfl rfl
  · rename_i n l
    cases h
    have o1 := of_decide_eq_true (ho _ (List.mem_cons_self ..))
    have o2 := of_decide_eq_true (ho _ (List.mem_cons_of_mem _ (List.mem_cons_self ..)))
    exact @viewN_of_go _ _ _ _ _ mixed noCount hq6_ok _ _ _ (fun fn c hf hb => by rw [bodyOf_eq hf hb]; exact eq_lok.toN) _ (.bool false false) _ _ [] [true] (equ_nil_buf n l) (paid_cons (decide_eq_true (by omega)) (paid_cons (by simp; omega) Paid.nil)) rfl rfl rfl
  · rename_i n l
    cases h
    have o1 := of_decide_eq_true (ho _ (List.mem_cons_self ..))
    have o2 := of_decide_eq_true (ho _ (List.mem_cons_of_mem _ (List.mem_cons_self ..)))
    exact @viewN_of_go _ _ _ _ _ mixed noCount hq6_ok _ _ _ (fun fn c hf hb => by rw [bodyOf_eq hf hb]; exact eq_lok.toN) _ (.bool false false) _ _ [] [true] (equ_buf_emp n l) (paid_cons (decide_eq_true (by omega)) (paid_cons (by simp; omega) Paid.nil)) rfl rfl rfl
  · rename_i n l
    cases h
    have o1 := of_decide_eq_true (ho _ (List.mem_cons_self ..))
    have o2 := of_decide_eq_true (ho _ (List.mem_cons_of_mem _ (List.mem_cons_self ..)))
    exact @viewN_of_go _ _ _ _ _ mixed noCount hq6_ok _ _ _ (fun fn c hf hb => by rw [bodyOf_eq hf hb]; exact eq_lok.toN) _ (.bool false false) _ _ [] [true] (equ_emp_buf n l) (paid_cons (decide_eq_true (by omega)) (paid_cons (by simp; omega) Paid.nil)) rfl rfl rfl
  · cases h
end Go.Proofs.Ytfmgodgakndjcaa
