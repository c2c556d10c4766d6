/- mac's Equal: its loop as a family, its contract. Own work. -/
import Derived.Test.YtfmgodgakndjcaaSKGcC
import Derived.Test.YtfmgodgakndjcaaSKGcP
set_option linter.unusedSimpArgs false
set_option linter.unusedVariables false
set_option linter.unusedSectionVars false
namespace Go.Sh
open Go.Ev
theorem w64eK {x : Int} (h : -9223372036854775808 ≤ x ∧ x < 9223372036854775808) : IntKind.i64.wrap x = x := by unfold IntKind.wrap; simp [IntKind.bits, IntKind.signed]; omega
structure EqPK where
  n : Nat
  l : List Int
  m : Nat
  q : List Int
  a : Int
  i : Int
/-- What is apart in the first i bytes. -/
def eqAK (l q : List Int) : Nat → Int
  | 0 => 0
  | i + 1 => ior .u8 (eqAK l q i) (ixor .u8 (l.getD (0 + i * 1) 0) (q.getD (0 + i * 1) 0))
theorem ior_zeroK {x y : Int} (hx : 0 ≤ x ∧ x < 256) (hy : 0 ≤ y ∧ y < 256) : ior .u8 x y = 0 ↔ x = 0 ∧ y = 0 := by
  obtain ⟨a, rfl⟩ := Int.eq_ofNat_of_zero_le hx.1
  obtain ⟨b, rfl⟩ := Int.eq_ofNat_of_zero_le hy.1
  have ha : a < 256 := by omega
  have hb : b < 256 := by omega
  have e : ior .u8 (a : Int) (b : Int) = ((a ||| b : Nat) : Int) := by
    unfold ior
    have h : (BitVec.ofInt 8 (a : Int) ||| BitVec.ofInt 8 (b : Int)).toNat = a ||| b := by
      simp only [BitVec.toNat_or, BitVec.ofInt_natCast, BitVec.toNat_ofNat]
      rw [Nat.mod_eq_of_lt ha, Nat.mod_eq_of_lt hb]
    have hlt : a ||| b < 2 ^ 8 := Nat.or_lt_two_pow ha hb
    show IntKind.u8.wrap ((BitVec.ofInt 8 (a : Int) ||| BitVec.ofInt 8 (b : Int)).toNat : Int) = _
    rw [h]
    unfold IntKind.wrap; simp [IntKind.bits, IntKind.signed]; omega
  rw [e]
  constructor
  · intro h
    have h0 : a ||| b = 0 := by omega
    have := Nat.or_eq_zero_iff.1 h0
    omega
  · rintro ⟨h1, h2⟩
    have : a = 0 := by omega
    have : b = 0 := by omega
    subst a b; rfl
theorem ixor_zeroK {x y : Int} (hx : 0 ≤ x ∧ x < 256) (hy : 0 ≤ y ∧ y < 256) : (ixor .u8 x y = 0 ↔ x = y) ∧ 0 ≤ ixor .u8 x y ∧ ixor .u8 x y < 256 := by
  obtain ⟨a, rfl⟩ := Int.eq_ofNat_of_zero_le hx.1
  obtain ⟨b, rfl⟩ := Int.eq_ofNat_of_zero_le hy.1
  have ha : a < 256 := by omega
  have hb : b < 256 := by omega
  have hlt : a ^^^ b < 2 ^ 8 := Nat.xor_lt_two_pow ha hb
  have e : ixor .u8 (a : Int) (b : Int) = ((a ^^^ b : Nat) : Int) := by
    unfold ixor
    have h : (BitVec.ofInt 8 (a : Int) ^^^ BitVec.ofInt 8 (b : Int)).toNat = a ^^^ b := by
      simp only [BitVec.toNat_xor, BitVec.ofInt_natCast, BitVec.toNat_ofNat]
      rw [Nat.mod_eq_of_lt ha, Nat.mod_eq_of_lt hb]
    show IntKind.u8.wrap ((BitVec.ofInt 8 (a : Int) ^^^ BitVec.ofInt 8 (b : Int)).toNat : Int) = _
    rw [h]
    unfold IntKind.wrap; simp [IntKind.bits, IntKind.signed]; omega
  rw [e]
  refine ⟨⟨fun h => ?_, fun h => ?_⟩, by omega, by omega⟩
  · have h0 : a ^^^ b = 0 := by omega
    have h1 : a = b := by
      have := congrArg (fun t => t ^^^ b) h0
      simpa [Nat.xor_assoc] using this
    rw [h1]
  · have : a = b := by omega
    subst this; simp
theorem ior_u8K (x y : Int) : 0 ≤ ior .u8 x y ∧ ior .u8 x y < 256 := by
  unfold ior IntKind.wrap; simp [IntKind.bits, IntKind.signed]; omega
theorem eqA_u8K (l q : List Int) : ∀ i, 0 ≤ eqAK l q i ∧ eqAK l q i < 256
  | 0 => ⟨by unfold eqAK; omega, by unfold eqAK; omega⟩
  | i + 1 => ior_u8K _ _
theorem getD_u8K {l : List Int} (h : ∀ x ∈ l, 0 ≤ x ∧ x < 256) (i : Nat) : 0 ≤ l.getD i 0 ∧ l.getD i 0 < 256 := by
  rw [List.getD_eq_getElem?_getD]
  cases hi : l[i]? with
  | none => exact ⟨by simp, by simp⟩
  | some x => exact h x (List.mem_of_getElem? hi)
theorem eqA_zeroK {l q : List Int} (hl : ∀ x ∈ l, 0 ≤ x ∧ x < 256) (hq : ∀ x ∈ q, 0 ≤ x ∧ x < 256) : ∀ i, eqAK l q i = 0 ↔ ∀ j, j < i → l.getD j 0 = q.getD j 0
  | 0 => ⟨fun _ j h => by omega, fun _ => rfl⟩
  | i + 1 => by
    have ih := eqA_zeroK hl hq i
    have hx := ixor_zeroK (getD_u8K hl (0 + i * 1)) (getD_u8K hq (0 + i * 1))
    have e : 0 + i * 1 = i := by omega
    unfold eqAK
    rw [ior_zeroK (eqA_u8K l q i) hx.2, hx.1, ih, e]
    constructor
    · rintro ⟨h1, h2⟩ j hj
      by_cases hji : j = i
      · rw [hji]; exact h2
      · exact h1 j (by omega)
    · intro h
      exact ⟨fun j hj => h j (by omega), h i (by omega)⟩
theorem eqA_allK {l q : List Int} {n : Nat} (hl : ∀ x ∈ l, 0 ≤ x ∧ x < 256) (hq : ∀ x ∈ q, 0 ≤ x ∧ x < 256) (h1 : l.length = n) (h2 : q.length = n) : eqAK l q n = 0 ↔ l = q := by
  rw [eqA_zeroK hl hq]
  constructor
  · intro h
    refine List.ext_getElem (by omega) fun j hj hj' => ?_
    have := h j (by omega)
    rw [List.getD_eq_getElem?_getD, List.getD_eq_getElem?_getD, List.getElem?_eq_getElem hj, List.getElem?_eq_getElem hj'] at this
    exact this
  · rintro rfl j _; rfl
def all8K (l : List Int) : Bool := l.all fun x => decide (0 ≤ x) && decide (x < 256)
theorem all8_memK {l : List Int} (h : all8K l = true) : ∀ x ∈ l, 0 ≤ x ∧ x < 256 := fun x hx => by
  have := List.all_eq_true.1 h x hx
  simp only [Bool.and_eq_true, decide_eq_true_eq] at this
  exact this
end Go.Sh
namespace Go.Proofs.Ytfmgodgakndjcaa
open Go.Ev Go.Sh Go.As
set_option maxRecDepth 100000
def eqTsK : List Nat := [0, 1, 5, 13, 14]
def eqVK (s : EqPK) : List AV := [.slice true 0 0 s.n none 1, .slice true 1 0 s.m none 1, .int true .u8 s.a, .int true .i64 s.n, .int true .i64 s.i]
def eqMK (s : EqPK) : Mem := [some ⟨false, .ints .u8 (some s.n) s.l⟩, some ⟨false, .ints .u8 (some s.m) s.q⟩]
def eqPK : List AV → Mem → Option (EqPK × List Bool)
  | [.slice true 0 0 n none 1, .slice true 1 0 m none 1, .int _ .u8 a, .int true .i64 z, .int _ .i64 i], [some ⟨false, .ints .u8 (some n2) l⟩, some ⟨false, .ints .u8 (some m2) q⟩] => some (⟨n, l, m, q, a, i⟩, [decide (n2 = n), decide (m2 = m), decide (z = (n : Int))])
  | _, _ => none
def eqOK (p : EqPK × List Bool) : List Bool := p.2 ++ [decide (p.1.a = 0), decide (p.1.i = 0), decide (p.1.n = p.1.m), decide (p.1.n < 1000000000000)]
def eqFK (p : EqPK × List Bool) : List (Nat × AV) × Mem := ([(5, .int true .u8 (eqAK p.1.l p.1.q p.1.n))], eqMK p.1)
def eqΛK : LoopH := famH 0 31 eqTsK eqPK eqOK eqFK fun _ _ => none
theorem eq_tK (y : Nat → AV) (s : EqPK) : seesL eqTsK ((codeL Try.prog qP ha5 (fun _ _ => none) 100 (lp (blk 0 (bodyOf Try.prog 42))) ⟨tmOf (ups y (zipU eqTsK (eqVK s))) 31, eqMK s⟩).go [true]) = some ([decide (s.i < (s.n : Int)), decide (0 ≤ s.i) && decide (s.i < (s.n : Int)), decide (0 + s.i.toNat * 1 + 1 ≤ s.n), decide (0 ≤ s.i) && decide (s.i < (s.m : Int)), decide (0 + s.i.toNat * 1 + 1 ≤ s.m)], 0, eqVK { s with a := ior .u8 s.a (ixor .u8 (s.l.getD (0 + s.i.toNat * 1) 0) (s.q.getD (0 + s.i.toNat * 1) 0)), i := IntKind.i64.wrap (s.i + 1) }, 31, eqMK s) := by kernel_rfl
theorem eq_fK (y : Nat → AV) (s : EqPK) : seesL eqTsK ((codeL Try.prog qP ha5 (fun _ _ => none) 100 (lp (blk 0 (bodyOf Try.prog 42))) ⟨tmOf (ups y (zipU eqTsK (eqVK s))) 31, eqMK s⟩).go [false]) = some ([!decide (s.i < (s.n : Int))], 2, eqVK s, 31, eqMK s) := by kernel_rfl
theorem eq_lokK : LOk Try.prog (bodyOf Try.prog 42) eqΛK := by
  refine fam_ok (q := qP) (n := 100) (fun p : EqPK × List Bool => eqVK p.1) (fun p => eqMK p.1) (fun p s => ∃ j : Nat, j ≤ p.1.n ∧ p.1.n = p.1.m ∧ p.1.n < 1000000000000 ∧ s = ({ p.1 with a := eqAK p.1.l p.1.q j, i := (j : Int) }, [])) (fun s => s.1.n - s.1.i.toNat) mixed ha5_ok LOk.none LOk.none (by kernel_rfl) (by kernel_rfl) (fun s => rfl) (fun s => rfl) (fun avs m p h ho => ?_) (fun p s hJ y => ?_)
  · unfold eqPK at h
    split at h
    · cases h
      have o1 := of_decide_eq_true (ho _ (List.mem_cons_self ..))
      have o2 := of_decide_eq_true (ho _ (List.mem_cons_of_mem _ (List.mem_cons_self ..)))
      have o3 := of_decide_eq_true (ho _ (List.mem_cons_of_mem _ (List.mem_cons_of_mem _ (List.mem_cons_self ..))))
      have o4 := of_decide_eq_true (ho _ (List.mem_cons_of_mem _ (List.mem_cons_of_mem _ (List.mem_cons_of_mem _ (List.mem_cons_self ..)))))
      have o5 := of_decide_eq_true (ho _ (List.mem_cons_of_mem _ (List.mem_cons_of_mem _ (List.mem_cons_of_mem _ (List.mem_cons_of_mem _ (List.mem_cons_self ..))))))
      have o6 := of_decide_eq_true (ho _ (List.mem_cons_of_mem _ (List.mem_cons_of_mem _ (List.mem_cons_of_mem _ (List.mem_cons_of_mem _ (List.mem_cons_of_mem _ (List.mem_cons_self ..)))))))
      have o7 := of_decide_eq_true (ho _ (List.mem_cons_of_mem _ (List.mem_cons_of_mem _ (List.mem_cons_of_mem _ (List.mem_cons_of_mem _ (List.mem_cons_of_mem _ (List.mem_cons_of_mem _ (List.mem_cons_self ..))))))))
      simp only at o4 o5 o6 o7
      subst o1 o2 o3
      exact ⟨(⟨_, _, _, _, 0, 0⟩, []), .cons (.refl _) (.cons (.refl _) (.cons (by rw [o4]; exact .int _ _ _) (.cons (.refl _) (.cons (by rw [o5]; exact .int _ _ _) .nil)))), rfl, 0, Nat.zero_le _, o6, o7, rfl⟩
    · cases h
  · obtain ⟨j, h1, h2, h3, rfl⟩ := hJ
    obtain ⟨⟨n, l, m, q, a, i⟩, bs⟩ := p
    simp only at h1 h2 h3
    by_cases hj : j = n
    · subst hj
      refine Round.out (eq_fK y _) rfl rfl (paid_cons (by simp) Paid.nil) fun q hq => ?_
      simp only [eqFK, List.mem_cons, List.not_mem_nil, or_false] at hq
      rcases hq with rfl
      exact ⟨_, by simp [eqTsK, eqVK, zipU], Le1.refl _⟩
    · have ew : IntKind.i64.wrap ((j : Int) + 1) = ((j + 1 : Nat) : Int) := by rw [w64eK (by omega)]; omega
      have hb : (decide (0 ≤ (j : Int)) && decide ((j : Int) < (n : Int))) = true := by rw [decide_eq_true (show (0 : Int) ≤ (j : Int) by omega), decide_eq_true (show (j : Int) < (n : Int) by omega)]; rfl
      have hb2 : (decide (0 ≤ (j : Int)) && decide ((j : Int) < (m : Int))) = true := by rw [decide_eq_true (show (0 : Int) ≤ (j : Int) by omega), decide_eq_true (show (j : Int) < (m : Int) by omega)]; rfl
      refine Round.on (eq_tK y ⟨n, l, m, q, eqAK l q j, j⟩) (⟨n, l, m, q, eqAK l q (j + 1), ((j + 1 : Nat) : Int)⟩, []) [] rfl (paid_cons (decide_eq_true (by first | omega | (simp only; omega))) (paid_cons hb (paid_cons (decide_eq_true (by first | omega | (simp only; omega))) (paid_cons hb2 (paid_cons (decide_eq_true (by first | omega | (simp only; omega))) Paid.nil))))) (by simp only [ew]; exact LeL.refl _) ⟨j + 1, by first | omega | (simp only; omega), h2, h3, rfl⟩ rfl (by first | omega | (simp only; omega))
end Go.Proofs.Ytfmgodgakndjcaa
namespace Go.Proofs.Ytfmgodgakndjcaa
open Go.Ev Go.Sh Go.As
set_option maxRecDepth 100000
theorem equ_sameK (n m : Nat) (l q : List Int) : ((funcL Try.prog qP ha5 eqΛK 200 42 (cArgs 0 [.buf true .u8 n l, .buf true .u8 m q]) (cMem [.buf true .u8 n l, .buf true .u8 m q])).go [false]).flat = some ([decide (n < 9223372036854775808), decide (m < 9223372036854775808), !((n : Int) != (m : Int)), decide (n < 9223372036854775808), decide (n = n), decide (m = m), decide ((n : Int) = (n : Int)), true, true, decide (n = m), decide (n < 1000000000000)], (.bool true (eqAK l q n == 0), [some ⟨false, .ints .u8 (some n) l⟩, some ⟨false, .ints .u8 (some m) q⟩])) := by kernel_rfl
theorem equ_apartK (n m : Nat) (l q : List Int) : ((funcL Try.prog qP ha5 eqΛK 200 42 (cArgs 0 [.buf true .u8 n l, .buf true .u8 m q]) (cMem [.buf true .u8 n l, .buf true .u8 m q])).go [true]).flat = some ([decide (n < 9223372036854775808), decide (m < 9223372036854775808), ((n : Int) != (m : Int))], (.bool false false, [some ⟨false, .ints .u8 (some n) l⟩, some ⟨false, .ints .u8 (some m) q⟩])) := by kernel_rfl
theorem equ_buf_nilK (n : Nat) (l : List Int) : ((funcL Try.prog qP ha5 eqΛK 200 42 (cArgs 0 [.buf true .u8 n l, .pl .nilslice]) (cMem [.buf true .u8 n l, .pl .nilslice])).go [true]).flat = some ([decide (n < 9223372036854775808), ((n : Int) != 0)], (.bool false false, [some ⟨false, .ints .u8 (some n) l⟩, none])) := by kernel_rfl
theorem equ_nil_bufK (n : Nat) (l : List Int) : ((funcL Try.prog qP ha5 eqΛK 200 42 (cArgs 0 [.pl .nilslice, .buf true .u8 n l]) (cMem [.pl .nilslice, .buf true .u8 n l])).go [true]).flat = some ([decide (n < 9223372036854775808), ((0 : Int) != (n : Int))], (.bool false false, [none, some ⟨false, .ints .u8 (some n) l⟩])) := by kernel_rfl
theorem equ_buf_empK (n : Nat) (l : List Int) : ((funcL Try.prog qP ha5 eqΛK 200 42 (cArgs 0 [.buf true .u8 n l, .empty]) (cMem [.buf true .u8 n l, .empty])).go [true]).flat = some ([decide (n < 9223372036854775808), ((n : Int) != 0)], (.bool false false, [some ⟨false, .ints .u8 (some n) l⟩, none])) := by kernel_rfl
theorem equ_emp_bufK (n : Nat) (l : List Int) : ((funcL Try.prog qP ha5 eqΛK 200 42 (cArgs 0 [.empty, .buf true .u8 n l]) (cMem [.empty, .buf true .u8 n l])).go [true]).flat = some ([decide (n < 9223372036854775808), ((0 : Int) != (n : Int))], (.bool false false, [none, some ⟨false, .ints .u8 (some n) l⟩])) := by kernel_rfl
def equSK : List V → E (AV × Mem)
  | [.buf true .u8 n l, .buf true .u8 m q] => some ([decide (l.length = n), decide (q.length = m), decide (n < 1000000000000), decide (m < 1000000000000), all8K l, all8K q], (.bool true (decide (l = q)), []))
  | [.buf true .u8 n _, .pl .nilslice] => some ([decide (1 ≤ n), decide (n < 1000000000000)], (.bool false false, []))
  | [.pl .nilslice, .buf true .u8 n _] => some ([decide (1 ≤ n), decide (n < 1000000000000)], (.bool false false, []))
  | [.buf true .u8 n _, .empty] => some ([decide (1 ≤ n), decide (n < 1000000000000)], (.bool false false, []))
  | [.empty, .buf true .u8 n _] => some ([decide (1 ≤ n), decide (n < 1000000000000)], (.bool false false, []))
  | _ => none
theorem ViewCall.boolMK {g : FuncId} {xs : List V} {s t b : Bool} {bs : Mem} (h : ViewCall Try.prog g xs (.bool s b) bs) : ViewCall Try.prog g xs (.bool t b) bs := by
  intro ρ vs w ha hi
  refine (h ha hi).mono fun u w' ⟨ρ', h1, h2⟩ => ⟨ρ', ?_, h2⟩
  have h1' : Rep ρ' (upto (xs.length + bs.length)) (.bool s b) u := h1
  cases h1'
  exact .bool _ _
theorem equ_okK {xs : List V} {o : List Bool} {v : AV} {bs : Mem} (h : equSK xs = some (o, (v, bs))) (ho : Paid o) : ViewCall Try.prog 42 xs v bs := by
  unfold equSK at h
  split at h
  · rename_i n l m q
    cases h
    have o1 := of_decide_eq_true (ho _ (List.mem_cons_self ..))
    have o2 := of_decide_eq_true (ho _ (List.mem_cons_of_mem _ (List.mem_cons_self ..)))
    have o3 := of_decide_eq_true (ho _ (List.mem_cons_of_mem _ (List.mem_cons_of_mem _ (List.mem_cons_self ..))))
    have o4 := of_decide_eq_true (ho _ (List.mem_cons_of_mem _ (List.mem_cons_of_mem _ (List.mem_cons_of_mem _ (List.mem_cons_self ..)))))
    have o5 := ho _ (List.mem_cons_of_mem _ (List.mem_cons_of_mem _ (List.mem_cons_of_mem _ (List.mem_cons_of_mem _ (List.mem_cons_self ..)))))
    have o6 := ho _ (List.mem_cons_of_mem _ (List.mem_cons_of_mem _ (List.mem_cons_of_mem _ (List.mem_cons_of_mem _ (List.mem_cons_of_mem _ (List.mem_cons_self ..))))))
    have d1 : decide (n < 9223372036854775808) = true := decide_eq_true (by omega)
    have d2 : decide (m < 9223372036854775808) = true := decide_eq_true (by omega)
    intro ρ vs w ha hi
    by_cases hnm : n = m
    · subst hnm
      have e : (eqAK l q n == 0) = decide (l = q) := by
        have := eqA_allK (all8_memK o5) (all8_memK o6) o1 o2
        by_cases h : l = q
        · rw [decide_eq_true h, this.2 h]; rfl
        · rw [decide_eq_false h]; simp only [beq_eq_false_iff_ne, ne_eq]; exact fun h2 => h (this.1 h2)
      have ev := equ_sameK n n l q
      rw [e] at ev
      exact @viewN_of_go _ _ _ _ _ mixed noCount ha5_ok _ _ _ (fun fn c hf hb => by rw [bodyOf_eq hf hb]; exact eq_lokK.toN) _ (.bool true (decide (l = q))) _ _ [] [false] (ev) (paid_cons d1 (paid_cons d2 (paid_cons (by simp) (paid_cons d1 (paid_cons (by simp) (paid_cons (by simp) (paid_cons (by simp) (paid_cons rfl (paid_cons rfl (paid_cons (by simp) (paid_cons (decide_eq_true (by omega)) Paid.nil))))))))))) rfl rfl rfl _ _ _ ha hi
    · have e : decide (l = q) = false := decide_eq_false (by rintro rfl; omega)
      rw [e]
      exact @ViewCall.boolMK _ _ false true false _ (@viewN_of_go _ _ _ _ _ mixed noCount ha5_ok _ _ _ (fun fn c hf hb => by rw [bodyOf_eq hf hb]; exact eq_lokK.toN) _ (.bool false false) _ _ [] [true] (equ_apartK n m l q) (paid_cons d1 (paid_cons d2 (paid_cons (by simp; omega) Paid.nil))) rfl rfl rfl) _ _ _ ha hi
  · rename_i n l
    cases h
    have o1 := of_decide_eq_true (ho _ (List.mem_cons_self ..))
    have o2 := of_decide_eq_true (ho _ (List.mem_cons_of_mem _ (List.mem_cons_self ..)))
    exact @viewN_of_go _ _ _ _ _ mixed noCount ha5_ok _ _ _ (fun fn c hf hb => by rw [bodyOf_eq hf hb]; exact eq_lokK.toN) _ (.bool false false) _ _ [] [true] (equ_buf_nilK n l) (paid_cons (decide_eq_true (by omega)) (paid_cons (by simp; omega) Paid.nil)) rfl rfl rfl
  · rename_i n l
    cases h
    have o1 := of_decide_eq_true (ho _ (List.mem_cons_self ..))
    have o2 := of_decide_eq_true (ho _ (List.mem_cons_of_mem _ (List.mem_cons_self ..)))
    exact @viewN_of_go _ _ _ _ _ mixed noCount ha5_ok _ _ _ (fun fn c hf hb => by rw [bodyOf_eq hf hb]; exact eq_lokK.toN) _ (.bool false false) _ _ [] [true] (equ_nil_bufK n l) (paid_cons (decide_eq_true (by omega)) (paid_cons (by simp; omega) Paid.nil)) rfl rfl rfl
  · rename_i n l
    cases h
    have o1 := of_decide_eq_true (ho _ (List.mem_cons_self ..))
    have o2 := of_decide_eq_true (ho _ (List.mem_cons_of_mem _ (List.mem_cons_self ..)))
    exact @viewN_of_go _ _ _ _ _ mixed noCount ha5_ok _ _ _ (fun fn c hf hb => by rw [bodyOf_eq hf hb]; exact eq_lokK.toN) _ (.bool false false) _ _ [] [true] (equ_buf_empK n l) (paid_cons (decide_eq_true (by omega)) (paid_cons (by simp; omega) Paid.nil)) rfl rfl rfl
  · rename_i n l
    cases h
    have o1 := of_decide_eq_true (ho _ (List.mem_cons_self ..))
    have o2 := of_decide_eq_true (ho _ (List.mem_cons_of_mem _ (List.mem_cons_self ..)))
    exact @viewN_of_go _ _ _ _ _ mixed noCount ha5_ok _ _ _ (fun fn c hf hb => by rw [bodyOf_eq hf hb]; exact eq_lokK.toN) _ (.bool false false) _ _ [] [true] (equ_emp_bufK n l) (paid_cons (decide_eq_true (by omega)) (paid_cons (by simp; omega) Paid.nil)) rfl rfl rfl
  · cases h
end Go.Proofs.Ytfmgodgakndjcaa
namespace Go.Gc
open Go.Ev Go.Sh Go.As
/-- A nonce and a number behind it. -/
def ctrB (l : List Int) (c : Int) : List Int := ((((l.take 12 ++ [0, 0, 0, 0]).set 15 (IntKind.u8.wrap c)).set 14 (IntKind.u8.wrap (ishr .u32 c 8))).set 13 (IntKind.u8.wrap (ishr .u32 (ishr .u32 c 8) 8))).set 12 (IntKind.u8.wrap (ishr .u32 (ishr .u32 (ishr .u32 c 8) 8) 8))
def x16 (a b : List Int) : List Int := (List.range 16).map fun i => ixor .u8 (a.getD i 0) (b.getD i 0)
/-- The tag of a text of m bytes and what goes along. -/
def tagB (W : List Int) (r : Nat) (l a : List Int) (n : Nat) (q : List Int) (m : Nat) : List Int := x16 (hashG (encB W r Z16) a n q m) (encB W r (ctrB l 1))
def keyA (r : Bool) (W : List Int) : V := .pt (.wide [.int false .i64 (match r with | true => 14 | false => 10), .ints .u8 240 W])
def rds (r : Bool) : Nat := match r with | true => 14 | false => 10
end Go.Gc
namespace Go.Proofs.Ytfmgodgakndjcaa
open Go.Ev Go.Sh Go.As Go.Gc
set_option maxRecDepth 100000
def ctrS : List V → E (AV × Mem)
  | [.buf false .u8 12 l, .pl (.int s .u32 c)] => some ([], (.ints .u8 16 (ctrB l c), []))
  | _ => none
theorem ctr_eval (l : List Int) (s : Bool) (c : Int) : res (funcA Try.prog qP (deep Try.prog qP hu1 100 3) 100 63 (cArgs 0 [.buf false .u8 12 l, .pl (.int s .u32 c)]) (cMem [.buf false .u8 12 l, .pl (.int s .u32 c)])) = some ([], .ints .u8 16 (ctrB l c)) := by cases s <;> kernel_rfl
theorem ctr_ok {xs : List V} {o : List Bool} {v : AV} {bs : Mem} (h : ctrS xs = some (o, (v, bs))) : ViewCall Try.prog 63 xs v bs := by
  unfold ctrS at h
  split at h
  · rename_i l s c
    cases h
    exact @view_of_res _ _ _ _ mixed noCount (hu1_ok.deep mixed noCount 100 3) _ _ _ _ _ _ (ctr_eval l s c) Paid.nil rfl rfl
  · cases h
def he1 : CallH := withV 42 equSK (withV 63 ctrS hu1)
theorem he1_ok : HOk Try.prog he1 := (hu1_ok.withV fun _ _ _ _ h _ => ctr_ok h).withV fun _ _ _ _ h ho => equ_okK h ho
theorem tag_bufbuf (r : Bool) (W l : List Int) (n : Nat) (a : List Int) (m : Nat) (q : List Int) : res (funcA Try.prog qP (deep Try.prog qP he1 100 3) 100 41 (cArgs 0 [keyA r W, .buf false .u8 12 l, .buf true .u8 n a, .buf true .u8 m q]) (cMem [keyA r W, .buf false .u8 12 l, .buf true .u8 n a, .buf true .u8 m q])) = some ([decide (0 + n ≤ n), decide (0 + m ≤ m), decide (n < 9223372036854775808), decide (m < 9223372036854775808)], .ints .u8 16 (tagB W (rds r) l ((a.drop 0).take n) n ((q.drop 0).take m) m)) := by cases r <;> kernel_rfl
theorem tag_bufnil (r : Bool) (W l : List Int) (n : Nat) (a : List Int) : res (funcA Try.prog qP (deep Try.prog qP he1 100 3) 100 41 (cArgs 0 [keyA r W, .buf false .u8 12 l, .buf true .u8 n a, .pl .nilslice]) (cMem [keyA r W, .buf false .u8 12 l, .buf true .u8 n a, .pl .nilslice])) = some ([decide (0 + n ≤ n), decide (n < 9223372036854775808)], .ints .u8 16 (tagB W (rds r) l ((a.drop 0).take n) n [] 0)) := by cases r <;> kernel_rfl
theorem tag_bufemp (r : Bool) (W l : List Int) (n : Nat) (a : List Int) : res (funcA Try.prog qP (deep Try.prog qP he1 100 3) 100 41 (cArgs 0 [keyA r W, .buf false .u8 12 l, .buf true .u8 n a, .empty]) (cMem [keyA r W, .buf false .u8 12 l, .buf true .u8 n a, .empty])) = some ([decide (0 + n ≤ n), decide (n < 9223372036854775808)], .ints .u8 16 (tagB W (rds r) l ((a.drop 0).take n) n [] 0)) := by cases r <;> kernel_rfl
theorem tag_nilbuf (r : Bool) (W l : List Int) (m : Nat) (q : List Int) : res (funcA Try.prog qP (deep Try.prog qP he1 100 3) 100 41 (cArgs 0 [keyA r W, .buf false .u8 12 l, .pl .nilslice, .buf true .u8 m q]) (cMem [keyA r W, .buf false .u8 12 l, .pl .nilslice, .buf true .u8 m q])) = some ([decide (0 + m ≤ m), decide (m < 9223372036854775808)], .ints .u8 16 (tagB W (rds r) l [] 0 ((q.drop 0).take m) m)) := by cases r <;> kernel_rfl
theorem tag_nilnil (r : Bool) (W l : List Int) : res (funcA Try.prog qP (deep Try.prog qP he1 100 3) 100 41 (cArgs 0 [keyA r W, .buf false .u8 12 l, .pl .nilslice, .pl .nilslice]) (cMem [keyA r W, .buf false .u8 12 l, .pl .nilslice, .pl .nilslice])) = some ([], .ints .u8 16 (tagB W (rds r) l [] 0 [] 0)) := by cases r <;> kernel_rfl
theorem tag_nilemp (r : Bool) (W l : List Int) : res (funcA Try.prog qP (deep Try.prog qP he1 100 3) 100 41 (cArgs 0 [keyA r W, .buf false .u8 12 l, .pl .nilslice, .empty]) (cMem [keyA r W, .buf false .u8 12 l, .pl .nilslice, .empty])) = some ([], .ints .u8 16 (tagB W (rds r) l [] 0 [] 0)) := by cases r <;> kernel_rfl
theorem tag_empbuf (r : Bool) (W l : List Int) (m : Nat) (q : List Int) : res (funcA Try.prog qP (deep Try.prog qP he1 100 3) 100 41 (cArgs 0 [keyA r W, .buf false .u8 12 l, .empty, .buf true .u8 m q]) (cMem [keyA r W, .buf false .u8 12 l, .empty, .buf true .u8 m q])) = some ([decide (0 + m ≤ m), decide (m < 9223372036854775808)], .ints .u8 16 (tagB W (rds r) l [] 0 ((q.drop 0).take m) m)) := by cases r <;> kernel_rfl
theorem tag_empnil (r : Bool) (W l : List Int) : res (funcA Try.prog qP (deep Try.prog qP he1 100 3) 100 41 (cArgs 0 [keyA r W, .buf false .u8 12 l, .empty, .pl .nilslice]) (cMem [keyA r W, .buf false .u8 12 l, .empty, .pl .nilslice])) = some ([], .ints .u8 16 (tagB W (rds r) l [] 0 [] 0)) := by cases r <;> kernel_rfl
theorem tag_empemp (r : Bool) (W l : List Int) : res (funcA Try.prog qP (deep Try.prog qP he1 100 3) 100 41 (cArgs 0 [keyA r W, .buf false .u8 12 l, .empty, .empty]) (cMem [keyA r W, .buf false .u8 12 l, .empty, .empty])) = some ([], .ints .u8 16 (tagB W (rds r) l [] 0 [] 0)) := by cases r <;> kernel_rfl
def keyOf? : V → Option (Bool × List Int)
  | .pt (.wide [.int false .i64 10, .ints .u8 240 W]) => some (false, W)
  | .pt (.wide [.int false .i64 14, .ints .u8 240 W]) => some (true, W)
  | _ => none
theorem keyOf_ok {k : V} {r : Bool} {W : List Int} (h : keyOf? k = some (r, W)) : k = keyA r W := by
  unfold keyOf? at h
  split at h <;> cases h <;> rfl
def tagS : List V → E (AV × Mem)
  | [k, .buf false .u8 12 l, x, y] => match keyOf? k, txt x, txt y with
    | some (r, W), some (o1, n, a), some (o2, m, q) => some (o1 ++ o2, (.ints .u8 16 (tagB W (rds r) l a n q m), []))
    | _, _, _ => none
  | _ => none
theorem tag_ok {xs : List V} {o : List Bool} {v : AV} {bs : Mem} (h : tagS xs = some (o, (v, bs))) (ho : Paid o) : ViewCall Try.prog 41 xs v bs := by
  unfold tagS at h
  split at h
  · rename_i k l x y
    split at h
    · rename_i r W o1 n a o2 m q hk h1 h2
      obtain rfl := keyOf_ok hk
      cases h
      obtain ⟨q1, q2⟩ := paid_append.1 ho
      intro ρ vs w ha hi
      cases ha with
      | cons _ _ u us a0 hs =>
      cases hs with
      | cons _ _ u1 us1 a1 hs =>
      cases hs with
      | cons _ _ u2 us2 a2 hs =>
      cases hs with
      | cons _ _ u3 us3 a3 hn =>
      cases hn
      unfold txt at h1 h2
      split at h1 <;> cases h1 <;> split at h2 <;> cases h2
      · obtain ⟨e1, e2⟩ := buf_len hi (i := 2) rfl
        obtain ⟨e3, e4⟩ := buf_len hi (i := 3) rfl
        have ev := tag_bufbuf r W l n a m q
        rw [e2, e4] at ev
        exact view_of_res mixed noCount (he1_ok.deep mixed noCount 100 3) ev (paid_cons (decide_eq_true (by omega)) (paid_cons (decide_eq_true (by omega)) (paid_cons (q1 _ (List.mem_cons_self ..)) (paid_cons (q2 _ (List.mem_cons_self ..)) (Paid.nil))))) rfl rfl (.cons _ _ _ _ a0 (.cons _ _ _ _ a1 (.cons _ _ _ _ (marked true a2) (.cons _ _ _ _ (marked true a3) .nil)))) hi
      · obtain ⟨e1, e2⟩ := buf_len hi (i := 2) rfl
        have ev := tag_bufnil r W l n a
        rw [e2] at ev
        exact view_of_res mixed noCount (he1_ok.deep mixed noCount 100 3) ev (paid_cons (decide_eq_true (by omega)) (paid_cons (q1 _ (List.mem_cons_self ..)) (Paid.nil))) rfl rfl (.cons _ _ _ _ a0 (.cons _ _ _ _ a1 (.cons _ _ _ _ (marked true a2) (.cons _ _ _ _ a3 .nil)))) hi
      · obtain ⟨e1, e2⟩ := buf_len hi (i := 2) rfl
        have ev := tag_bufemp r W l n a
        rw [e2] at ev
        exact view_of_res mixed noCount (he1_ok.deep mixed noCount 100 3) ev (paid_cons (decide_eq_true (by omega)) (paid_cons (q1 _ (List.mem_cons_self ..)) (Paid.nil))) rfl rfl (.cons _ _ _ _ a0 (.cons _ _ _ _ a1 (.cons _ _ _ _ (marked true a2) (.cons _ _ _ _ a3 .nil)))) hi
      · obtain ⟨e3, e4⟩ := buf_len hi (i := 3) rfl
        have ev := tag_nilbuf r W l m q
        rw [e4] at ev
        exact view_of_res mixed noCount (he1_ok.deep mixed noCount 100 3) ev (paid_cons (decide_eq_true (by omega)) (paid_cons (q2 _ (List.mem_cons_self ..)) (Paid.nil))) rfl rfl (.cons _ _ _ _ a0 (.cons _ _ _ _ a1 (.cons _ _ _ _ a2 (.cons _ _ _ _ (marked true a3) .nil)))) hi
      · have ev := tag_nilnil r W l
        exact view_of_res mixed noCount (he1_ok.deep mixed noCount 100 3) ev (Paid.nil) rfl rfl (.cons _ _ _ _ a0 (.cons _ _ _ _ a1 (.cons _ _ _ _ a2 (.cons _ _ _ _ a3 .nil)))) hi
      · have ev := tag_nilemp r W l
        exact view_of_res mixed noCount (he1_ok.deep mixed noCount 100 3) ev (Paid.nil) rfl rfl (.cons _ _ _ _ a0 (.cons _ _ _ _ a1 (.cons _ _ _ _ a2 (.cons _ _ _ _ a3 .nil)))) hi
      · obtain ⟨e3, e4⟩ := buf_len hi (i := 3) rfl
        have ev := tag_empbuf r W l m q
        rw [e4] at ev
        exact view_of_res mixed noCount (he1_ok.deep mixed noCount 100 3) ev (paid_cons (decide_eq_true (by omega)) (paid_cons (q2 _ (List.mem_cons_self ..)) (Paid.nil))) rfl rfl (.cons _ _ _ _ a0 (.cons _ _ _ _ a1 (.cons _ _ _ _ a2 (.cons _ _ _ _ (marked true a3) .nil)))) hi
      · have ev := tag_empnil r W l
        exact view_of_res mixed noCount (he1_ok.deep mixed noCount 100 3) ev (Paid.nil) rfl rfl (.cons _ _ _ _ a0 (.cons _ _ _ _ a1 (.cons _ _ _ _ a2 (.cons _ _ _ _ a3 .nil)))) hi
      · have ev := tag_empemp r W l
        exact view_of_res mixed noCount (he1_ok.deep mixed noCount 100 3) ev (Paid.nil) rfl rfl (.cons _ _ _ _ a0 (.cons _ _ _ _ a1 (.cons _ _ _ _ a2 (.cons _ _ _ _ a3 .nil)))) hi
    · cases h
  · cases h
def he2 : CallH := withV 41 tagS he1
theorem he2_ok : HOk Try.prog he2 := he1_ok.withV fun _ _ _ _ h ho => tag_ok h ho
end Go.Proofs.Ytfmgodgakndjcaa
