/- The program's tag: its contract. Own work. -/
import Derived.Test.YtfmgodgakndjcaaSChT
set_option linter.unusedSimpArgs false
set_option linter.unusedVariables false
set_option linter.unusedSectionVars false
namespace Go.Ch
open Go.Ev Go.Sh
/- a text under way, and how long it is -/
def pa (s : List Int × Nat) (l : List Int) (k : Nat) : List Int × Nat := ((s.1.drop 0).take s.2 ++ l, s.2 + k)
def pf (s : List Int × Nat) : List Int × Nat := (s.1 ++ List.replicate (pz s.2) 0, s.2 + pz s.2)
def byN (v : Int) (i : Nat) : Int := IntKind.u8.wrap (ishr .u64 (IntKind.u64.wrap v) ((8 * i : Nat) : Int))
def wl (s : List Int × Nat) (v : Int) : Nat → List Int × Nat
  | 0 => s
  | i + 1 => pa (wl s v i) [byN v i] 1
def dpa (c : Nat) (s : List Int × Nat) (k : Nat) : List Bool := [decide (0 + s.2 ≤ s.1.length), decide (s.2 + k ≤ c)]
def dpf (c : Nat) (s : List Int × Nat) : List Bool := [decide (s.1.length = s.2), decide (s.2 + pz s.2 ≤ c), decide (s.2 < 1000000000000000)]
def dwl (c : Nat) (s : List Int × Nat) (v : Int) : Nat → List Bool
  | 0 => []
  | i + 1 => dwl c s v i ++ dpa c (wl s v i) 1
def cpN (m n : Int) : Nat := (IntKind.i64.wrap (IntKind.i64.wrap (m + n) + 48)).toNat
def t1 (c : Nat) (a : List Int) (m : Nat) : List Int × Nat := pf (pa (List.replicate c 0, 0) a m)
def t2 (c : Nat) (a : List Int) (m : Nat) (q : List Int) (n : Nat) : List Int × Nat := pf (pa (t1 c a m) q n)
def t3 (c : Nat) (a : List Int) (m : Nat) (q : List Int) (n : Nat) : List Int × Nat := wl (wl (t2 c a m q n) m 8) n 8
def dtA (c : Nat) (a : List Int) (m : Nat) : List Bool := dpa c (List.replicate c 0, 0) m ++ dpf c (pa (List.replicate c 0, 0) a m)
def dtB (c : Nat) (a : List Int) (m : Nat) (q : List Int) (n : Nat) : List Bool := dpa c (t1 c a m) n ++ dpf c (pa (t1 c a m) q n)
/-- Eight bytes of a number, the lowest first. -/
def le8 (v : Int) : List Int := (List.range 8).map fun i => v / 2 ^ (8 * i) % 256
/-- What the tag is the code of. -/
def msgB (a q : List Int) : List Int := a ++ List.replicate (pz a.length) 0 ++ q ++ List.replicate (pz q.length) 0 ++ le8 a.length ++ le8 q.length
/-- The tag. -/
def tagC (x a q : List Int) : List Int := codB ((blkB x 0).take 32) (msgB a q)
theorem tagC_len (x a q : List Int) : (tagC x a q).length = 16 := codB_len _ _
theorem msg_len (a q : List Int) : (msgB a q).length = a.length + pz a.length + q.length + pz q.length + 16 := by simp [msgB, le8]; omega
theorem pa_eq {s : List Int × Nat} (h : s.1.length = s.2) (l : List Int) (k : Nat) : pa s l k = (s.1 ++ l, s.2 + k) := by
  unfold pa
  rw [List.drop_zero, List.take_of_length_le (Nat.le_of_eq h)]
theorem pa0_eq (c : Nat) (l : List Int) (k : Nat) : pa (List.replicate c 0, 0) l k = (l, 0 + k) := by
  unfold pa
  simp
theorem byN_eq {n : Nat} (h : n < 18446744073709551616) {i : Nat} (hi : i < 8) : byN (n : Int) i = (n : Int) / 2 ^ (8 * i) % 256 := by
  unfold byN
  rw [Go.Wn.uw64 (by omega), sd64 _ (by omega), wrap_u (k := .u8) rfl]
  rfl
theorem wl_eq {s : List Int × Nat} (h : s.1.length = s.2) {n : Nat} (hn : n < 18446744073709551616) : ∀ i, i ≤ 8 → wl s (n : Int) i = (s.1 ++ (List.range i).map (fun j => (n : Int) / 2 ^ (8 * j) % 256), s.2 + i)
  | 0, _ => by simp [wl]
  | i + 1, hi => by
    unfold wl
    rw [wl_eq h hn i (by omega), pa_eq (by simp [h]), byN_eq hn (by omega), List.range_succ, List.map_append, List.append_assoc]
    rfl
theorem dwl_paid {c : Nat} {s : List Int × Nat} (h : s.1.length = s.2) {n : Nat} (hn : n < 18446744073709551616) : ∀ i, i ≤ 8 → s.2 + i ≤ c → Paid (dwl c s (n : Int) i)
  | 0, _, _ => Paid.nil
  | i + 1, hi, hc => by
    unfold dwl
    refine paid_append.2 ⟨dwl_paid h hn i (by omega) (by omega), ?_⟩
    unfold dpa
    rw [wl_eq h hn i (by omega)]
    exact paid_cons (decide_eq_true (by simp [h])) (paid_cons (decide_eq_true (by simp only; omega)) Paid.nil)
theorem pz_le (n : Nat) : pz n ≤ 15 := by unfold pz; omega
theorem pz_mod (n : Nat) : (n + pz n) % 16 = 0 := by unfold pz; omega
theorem pz_add {k : Nat} (h : k % 16 = 0) (n : Nat) : pz (k + n) = pz n := by unfold pz; omega
theorem t1_eq (c : Nat) {a : List Int} {m : Nat} (h : a.length = m) : t1 c a m = (a ++ List.replicate (pz m) 0, m + pz m) := by
  unfold t1
  rw [pa0_eq]
  unfold pf
  simp only [Nat.zero_add]
theorem t1_len (c : Nat) {a : List Int} {m : Nat} (h : a.length = m) : (t1 c a m).1.length = (t1 c a m).2 := by rw [t1_eq c h]; simp [h]
theorem t2_eq (c : Nat) {a : List Int} {m : Nat} (h : a.length = m) {q : List Int} {n : Nat} (hq : q.length = n) : t2 c a m q n = (a ++ List.replicate (pz m) 0 ++ q ++ List.replicate (pz n) 0, m + pz m + n + pz n) := by
  unfold t2
  rw [pa_eq (t1_len c h), t1_eq c h]
  unfold pf
  simp only [pz_add (pz_mod m) n]
theorem t2_len (c : Nat) {a : List Int} {m : Nat} (h : a.length = m) {q : List Int} {n : Nat} (hq : q.length = n) : (t2 c a m q n).1.length = (t2 c a m q n).2 := by rw [t2_eq c h hq]; simp [h, hq]; omega
theorem t3_eq (c : Nat) {a : List Int} {m : Nat} (h : a.length = m) {q : List Int} {n : Nat} (hq : q.length = n) (hm : m < 18446744073709551616) (hn : n < 18446744073709551616) : t3 c a m q n = (msgB a q, m + pz m + n + pz n + 8 + 8) := by
  unfold t3
  have e1 := wl_eq (t2_len c h hq) hm 8 (Nat.le_refl _)
  rw [wl_eq (by rw [e1]; simp [t2_len c h hq]) hn 8 (Nat.le_refl _), e1, t2_eq c h hq]
  unfold msgB le8
  subst h hq
  rfl
theorem dtA_paid {c : Nat} {a : List Int} {m : Nat} (h : a.length = m) (hc : m + 15 ≤ c) (hm : m < 1000000000000000) : Paid (dtA c a m) := by
  have := pz_le m
  unfold dtA
  rw [pa0_eq]
  unfold dpa dpf
  refine paid_append.2 ⟨paid_cons (decide_eq_true (by simp)) (paid_cons (decide_eq_true (by simp only; omega)) Paid.nil), paid_cons (decide_eq_true (by simp only; omega)) (paid_cons (decide_eq_true (by simp only [Nat.zero_add]; omega)) (paid_cons (decide_eq_true (by simp only; omega)) Paid.nil))⟩
theorem dtB_paid {c : Nat} {a : List Int} {m : Nat} (h : a.length = m) {q : List Int} {n : Nat} (hq : q.length = n) (hc : m + n + 30 ≤ c) (hm : m + n < 900000000000000) : Paid (dtB c a m q n) := by
  have := pz_le m
  have := pz_le n
  unfold dtB
  rw [pa_eq (t1_len c h), t1_eq c h]
  unfold dpa dpf
  simp only
  refine paid_append.2 ⟨paid_cons (decide_eq_true (by simp [h])) (paid_cons (decide_eq_true (by omega)) Paid.nil), paid_cons (decide_eq_true (by simp [h, hq]; omega)) (paid_cons (decide_eq_true (by rw [pz_add (pz_mod m)]; omega)) (paid_cons (decide_eq_true (by omega)) Paid.nil))⟩
theorem dwA_paid {c : Nat} {a : List Int} {m : Nat} (h : a.length = m) {q : List Int} {n : Nat} (hq : q.length = n) (hc : m + n + 46 ≤ c) (hm : m < 18446744073709551616) : Paid (dwl c (t2 c a m q n) (m : Int) 8) := by
  have := pz_le m
  have := pz_le n
  exact dwl_paid (t2_len c h hq) hm 8 (Nat.le_refl _) (by rw [t2_eq c h hq]; simp only; omega)
theorem dwB_paid {c : Nat} {a : List Int} {m : Nat} (h : a.length = m) {q : List Int} {n : Nat} (hq : q.length = n) (hc : m + n + 46 ≤ c) (hm : m < 18446744073709551616) (hn : n < 18446744073709551616) : Paid (dwl c (wl (t2 c a m q n) (m : Int) 8) (n : Int) 8) := by
  have := pz_le m
  have := pz_le n
  have e1 := wl_eq (t2_len c h hq) hm 8 (Nat.le_refl _)
  exact dwl_paid (by rw [e1]; simp [t2_len c h hq]) hn 8 (Nat.le_refl _) (by rw [e1, t2_eq c h hq]; simp only; omega)
theorem cpN_eq {m n : Nat} (h : m ≤ 140737488351232) (h2 : n ≤ 140737488351232) : cpN m n = m + n + 48 := by
  unfold cpN IntKind.wrap; simp [IntKind.bits, IntKind.signed]; omega
theorem mk_paid {m n : Nat} (h : m ≤ 140737488351232) (h2 : n ≤ 140737488351232) : (decide ((0 : Int) ≤ 0) && decide ((0 : Int) ≤ IntKind.i64.wrap (IntKind.i64.wrap ((m : Int) + (n : Int)) + 48)) && decide (IntKind.i64.wrap (IntKind.i64.wrap ((m : Int) + (n : Int)) + 48) ≤ 281474976710656)) = true := by
  have e : IntKind.i64.wrap (IntKind.i64.wrap ((m : Int) + (n : Int)) + 48) = ((m + n + 48 : Nat) : Int) := by
    unfold IntKind.wrap; simp [IntKind.bits, IntKind.signed]; omega
  rw [e, decide_eq_true (by omega), decide_eq_true (by omega), decide_eq_true (by omega)]; rfl
def txt2 : V → Option (List Bool × List Int)
  | .buf true .u8 n l => some ([decide (n ≤ 140737488351232)], l)
  | .pl .nilslice => some ([], [])
  | .empty => some ([], [])
  | _ => none
theorem txt2_ok {x : V} {o : List Bool} {l : List Int} (h : txt2 x = some (o, l)) : (x = .pl .nilslice ∧ o = [] ∧ l = []) ∨ (x = .empty ∧ o = [] ∧ l = []) ∨ ∃ n, x = .buf true .u8 n l ∧ o = [decide (n ≤ 140737488351232)] := by
  unfold txt2 at h
  split at h <;> cases h
  · exact Or.inr (Or.inr ⟨_, rfl, rfl⟩)
  · exact Or.inl ⟨rfl, rfl, rfl⟩
  · exact Or.inr (Or.inl ⟨rfl, rfl, rfl⟩)
end Go.Ch
namespace Go.Proofs.Ytfmgodgakndjcaa
open Go.Ev Go.Sh Go.Ch
set_option maxRecDepth 100000
theorem tg_bufbuf (x : List Int) (m : Nat) (a : List Int) (n : Nat) (q : List Int) : res (funcA Try.prog qD (deep Try.prog qD hfi 100 3) 100 50 (cArgs 0 [.pl (.ints .u32 16 x), .buf true .u8 m a, .buf true .u8 n q]) (cMem [.pl (.ints .u32 16 x), .buf true .u8 m a, .buf true .u8 n q])) = some ([decide (m < 9223372036854775808)] ++ [decide (n < 9223372036854775808)] ++ [decide ((0 : Int) ≤ 0) && decide ((0 : Int) ≤ IntKind.i64.wrap (IntKind.i64.wrap (((m : Nat) : Int) + ((n : Nat) : Int)) + 48)) && decide (IntKind.i64.wrap (IntKind.i64.wrap (((m : Nat) : Int) + ((n : Nat) : Int)) + 48) ≤ 281474976710656)] ++ [decide (0 + m ≤ m)] ++ dtA (cpN (m : Nat) (n : Nat)) ((a.drop 0).take m) m ++ [decide (0 + n ≤ n)] ++ dtB (cpN (m : Nat) (n : Nat)) ((a.drop 0).take m) m ((q.drop 0).take n) n ++ [decide (m < 9223372036854775808)] ++ dwl (cpN (m : Nat) (n : Nat)) (t2 (cpN (m : Nat) (n : Nat)) ((a.drop 0).take m) m ((q.drop 0).take n) n) ((m : Nat) : Int) 8 ++ [decide (n < 9223372036854775808)] ++ dwl (cpN (m : Nat) (n : Nat)) (wl (t2 (cpN (m : Nat) (n : Nat)) ((a.drop 0).take m) m ((q.drop 0).take n) n) ((m : Nat) : Int) 8) ((n : Nat) : Int) 8 ++ [decide (0 + (t3 (cpN (m : Nat) (n : Nat)) ((a.drop 0).take m) m ((q.drop 0).take n) n).2 ≤ (t3 (cpN (m : Nat) (n : Nat)) ((a.drop 0).take m) m ((q.drop 0).take n) n).1.length), decide (1 ≤ (t3 (cpN (m : Nat) (n : Nat)) ((a.drop 0).take m) m ((q.drop 0).take n) n).2), decide ((t3 (cpN (m : Nat) (n : Nat)) ((a.drop 0).take m) m ((q.drop 0).take n) n).2 < 9223372036854775808)], .ints .u8 16 (codB (((blkB x 0).drop 0).take 32) (((t3 (cpN (m : Nat) (n : Nat)) ((a.drop 0).take m) m ((q.drop 0).take n) n).1.drop 0).take (t3 (cpN (m : Nat) (n : Nat)) ((a.drop 0).take m) m ((q.drop 0).take n) n).2))) := by kernel_rfl
theorem tg_bufnil (x : List Int) (m : Nat) (a : List Int) : res (funcA Try.prog qD (deep Try.prog qD hfi 100 3) 100 50 (cArgs 0 [.pl (.ints .u32 16 x), .buf true .u8 m a, .pl .nilslice]) (cMem [.pl (.ints .u32 16 x), .buf true .u8 m a, .pl .nilslice])) = some ([decide (m < 9223372036854775808)] ++ [decide ((0 : Int) ≤ 0) && decide ((0 : Int) ≤ IntKind.i64.wrap (IntKind.i64.wrap (((m : Nat) : Int) + ((0 : Nat) : Int)) + 48)) && decide (IntKind.i64.wrap (IntKind.i64.wrap (((m : Nat) : Int) + ((0 : Nat) : Int)) + 48) ≤ 281474976710656)] ++ [decide (0 + m ≤ m)] ++ dtA (cpN (m : Nat) (0 : Nat)) ((a.drop 0).take m) m ++ dtB (cpN (m : Nat) (0 : Nat)) ((a.drop 0).take m) m [] 0 ++ [decide (m < 9223372036854775808)] ++ dwl (cpN (m : Nat) (0 : Nat)) (t2 (cpN (m : Nat) (0 : Nat)) ((a.drop 0).take m) m [] 0) ((m : Nat) : Int) 8 ++ dwl (cpN (m : Nat) (0 : Nat)) (wl (t2 (cpN (m : Nat) (0 : Nat)) ((a.drop 0).take m) m [] 0) ((m : Nat) : Int) 8) ((0 : Nat) : Int) 8 ++ [decide (0 + (t3 (cpN (m : Nat) (0 : Nat)) ((a.drop 0).take m) m [] 0).2 ≤ (t3 (cpN (m : Nat) (0 : Nat)) ((a.drop 0).take m) m [] 0).1.length), decide (1 ≤ (t3 (cpN (m : Nat) (0 : Nat)) ((a.drop 0).take m) m [] 0).2), decide ((t3 (cpN (m : Nat) (0 : Nat)) ((a.drop 0).take m) m [] 0).2 < 9223372036854775808)], .ints .u8 16 (codB (((blkB x 0).drop 0).take 32) (((t3 (cpN (m : Nat) (0 : Nat)) ((a.drop 0).take m) m [] 0).1.drop 0).take (t3 (cpN (m : Nat) (0 : Nat)) ((a.drop 0).take m) m [] 0).2))) := by kernel_rfl
theorem tg_bufemp (x : List Int) (m : Nat) (a : List Int) : res (funcA Try.prog qD (deep Try.prog qD hfi 100 3) 100 50 (cArgs 0 [.pl (.ints .u32 16 x), .buf true .u8 m a, .empty]) (cMem [.pl (.ints .u32 16 x), .buf true .u8 m a, .empty])) = some ([decide (m < 9223372036854775808)] ++ [decide ((0 : Int) ≤ 0) && decide ((0 : Int) ≤ IntKind.i64.wrap (IntKind.i64.wrap (((m : Nat) : Int) + ((0 : Nat) : Int)) + 48)) && decide (IntKind.i64.wrap (IntKind.i64.wrap (((m : Nat) : Int) + ((0 : Nat) : Int)) + 48) ≤ 281474976710656)] ++ [decide (0 + m ≤ m)] ++ dtA (cpN (m : Nat) (0 : Nat)) ((a.drop 0).take m) m ++ dtB (cpN (m : Nat) (0 : Nat)) ((a.drop 0).take m) m [] 0 ++ [decide (m < 9223372036854775808)] ++ dwl (cpN (m : Nat) (0 : Nat)) (t2 (cpN (m : Nat) (0 : Nat)) ((a.drop 0).take m) m [] 0) ((m : Nat) : Int) 8 ++ dwl (cpN (m : Nat) (0 : Nat)) (wl (t2 (cpN (m : Nat) (0 : Nat)) ((a.drop 0).take m) m [] 0) ((m : Nat) : Int) 8) ((0 : Nat) : Int) 8 ++ [decide (0 + (t3 (cpN (m : Nat) (0 : Nat)) ((a.drop 0).take m) m [] 0).2 ≤ (t3 (cpN (m : Nat) (0 : Nat)) ((a.drop 0).take m) m [] 0).1.length), decide (1 ≤ (t3 (cpN (m : Nat) (0 : Nat)) ((a.drop 0).take m) m [] 0).2), decide ((t3 (cpN (m : Nat) (0 : Nat)) ((a.drop 0).take m) m [] 0).2 < 9223372036854775808)], .ints .u8 16 (codB (((blkB x 0).drop 0).take 32) (((t3 (cpN (m : Nat) (0 : Nat)) ((a.drop 0).take m) m [] 0).1.drop 0).take (t3 (cpN (m : Nat) (0 : Nat)) ((a.drop 0).take m) m [] 0).2))) := by kernel_rfl
theorem tg_nilbuf (x : List Int) (n : Nat) (q : List Int) : res (funcA Try.prog qD (deep Try.prog qD hfi 100 3) 100 50 (cArgs 0 [.pl (.ints .u32 16 x), .pl .nilslice, .buf true .u8 n q]) (cMem [.pl (.ints .u32 16 x), .pl .nilslice, .buf true .u8 n q])) = some ([decide (n < 9223372036854775808)] ++ [decide ((0 : Int) ≤ 0) && decide ((0 : Int) ≤ IntKind.i64.wrap (IntKind.i64.wrap (((0 : Nat) : Int) + ((n : Nat) : Int)) + 48)) && decide (IntKind.i64.wrap (IntKind.i64.wrap (((0 : Nat) : Int) + ((n : Nat) : Int)) + 48) ≤ 281474976710656)] ++ dtA (cpN (0 : Nat) (n : Nat)) [] 0 ++ [decide (0 + n ≤ n)] ++ dtB (cpN (0 : Nat) (n : Nat)) [] 0 ((q.drop 0).take n) n ++ dwl (cpN (0 : Nat) (n : Nat)) (t2 (cpN (0 : Nat) (n : Nat)) [] 0 ((q.drop 0).take n) n) ((0 : Nat) : Int) 8 ++ [decide (n < 9223372036854775808)] ++ dwl (cpN (0 : Nat) (n : Nat)) (wl (t2 (cpN (0 : Nat) (n : Nat)) [] 0 ((q.drop 0).take n) n) ((0 : Nat) : Int) 8) ((n : Nat) : Int) 8 ++ [decide (0 + (t3 (cpN (0 : Nat) (n : Nat)) [] 0 ((q.drop 0).take n) n).2 ≤ (t3 (cpN (0 : Nat) (n : Nat)) [] 0 ((q.drop 0).take n) n).1.length), decide (1 ≤ (t3 (cpN (0 : Nat) (n : Nat)) [] 0 ((q.drop 0).take n) n).2), decide ((t3 (cpN (0 : Nat) (n : Nat)) [] 0 ((q.drop 0).take n) n).2 < 9223372036854775808)], .ints .u8 16 (codB (((blkB x 0).drop 0).take 32) (((t3 (cpN (0 : Nat) (n : Nat)) [] 0 ((q.drop 0).take n) n).1.drop 0).take (t3 (cpN (0 : Nat) (n : Nat)) [] 0 ((q.drop 0).take n) n).2))) := by kernel_rfl
theorem tg_nilnil (x : List Int) : res (funcA Try.prog qD (deep Try.prog qD hfi 100 3) 100 50 (cArgs 0 [.pl (.ints .u32 16 x), .pl .nilslice, .pl .nilslice]) (cMem [.pl (.ints .u32 16 x), .pl .nilslice, .pl .nilslice])) = some ([decide (1 ≤ 16), decide (16 < 9223372036854775808)], .ints .u8 16 (codB (((blkB x 0).drop 0).take 32) (List.replicate 16 0))) := by kernel_rfl
theorem tg_nilemp (x : List Int) : res (funcA Try.prog qD (deep Try.prog qD hfi 100 3) 100 50 (cArgs 0 [.pl (.ints .u32 16 x), .pl .nilslice, .empty]) (cMem [.pl (.ints .u32 16 x), .pl .nilslice, .empty])) = some ([decide (1 ≤ 16), decide (16 < 9223372036854775808)], .ints .u8 16 (codB (((blkB x 0).drop 0).take 32) (List.replicate 16 0))) := by kernel_rfl
theorem tg_empbuf (x : List Int) (n : Nat) (q : List Int) : res (funcA Try.prog qD (deep Try.prog qD hfi 100 3) 100 50 (cArgs 0 [.pl (.ints .u32 16 x), .empty, .buf true .u8 n q]) (cMem [.pl (.ints .u32 16 x), .empty, .buf true .u8 n q])) = some ([decide (n < 9223372036854775808)] ++ [decide ((0 : Int) ≤ 0) && decide ((0 : Int) ≤ IntKind.i64.wrap (IntKind.i64.wrap (((0 : Nat) : Int) + ((n : Nat) : Int)) + 48)) && decide (IntKind.i64.wrap (IntKind.i64.wrap (((0 : Nat) : Int) + ((n : Nat) : Int)) + 48) ≤ 281474976710656)] ++ dtA (cpN (0 : Nat) (n : Nat)) [] 0 ++ [decide (0 + n ≤ n)] ++ dtB (cpN (0 : Nat) (n : Nat)) [] 0 ((q.drop 0).take n) n ++ dwl (cpN (0 : Nat) (n : Nat)) (t2 (cpN (0 : Nat) (n : Nat)) [] 0 ((q.drop 0).take n) n) ((0 : Nat) : Int) 8 ++ [decide (n < 9223372036854775808)] ++ dwl (cpN (0 : Nat) (n : Nat)) (wl (t2 (cpN (0 : Nat) (n : Nat)) [] 0 ((q.drop 0).take n) n) ((0 : Nat) : Int) 8) ((n : Nat) : Int) 8 ++ [decide (0 + (t3 (cpN (0 : Nat) (n : Nat)) [] 0 ((q.drop 0).take n) n).2 ≤ (t3 (cpN (0 : Nat) (n : Nat)) [] 0 ((q.drop 0).take n) n).1.length), decide (1 ≤ (t3 (cpN (0 : Nat) (n : Nat)) [] 0 ((q.drop 0).take n) n).2), decide ((t3 (cpN (0 : Nat) (n : Nat)) [] 0 ((q.drop 0).take n) n).2 < 9223372036854775808)], .ints .u8 16 (codB (((blkB x 0).drop 0).take 32) (((t3 (cpN (0 : Nat) (n : Nat)) [] 0 ((q.drop 0).take n) n).1.drop 0).take (t3 (cpN (0 : Nat) (n : Nat)) [] 0 ((q.drop 0).take n) n).2))) := by kernel_rfl
theorem tg_empnil (x : List Int) : res (funcA Try.prog qD (deep Try.prog qD hfi 100 3) 100 50 (cArgs 0 [.pl (.ints .u32 16 x), .empty, .pl .nilslice]) (cMem [.pl (.ints .u32 16 x), .empty, .pl .nilslice])) = some ([decide (1 ≤ 16), decide (16 < 9223372036854775808)], .ints .u8 16 (codB (((blkB x 0).drop 0).take 32) (List.replicate 16 0))) := by kernel_rfl
theorem tg_empemp (x : List Int) : res (funcA Try.prog qD (deep Try.prog qD hfi 100 3) 100 50 (cArgs 0 [.pl (.ints .u32 16 x), .empty, .empty]) (cMem [.pl (.ints .u32 16 x), .empty, .empty])) = some ([decide (1 ≤ 16), decide (16 < 9223372036854775808)], .ints .u8 16 (codB (((blkB x 0).drop 0).take 32) (List.replicate 16 0))) := by kernel_rfl
def tgS : List V → E (AV × Mem)
  | [.pl (.ints .u32 16 x), A, Q] => match txt2 A, txt2 Q with
    | some (o1, a), some (o2, q) => some (o1 ++ o2, (.ints .u8 16 (tagC x a q), []))
    | _, _ => none
  | _ => none
theorem tg_ok {xs : List V} {o : List Bool} {v : AV} {bs : Mem} (h : tgS xs = some (o, (v, bs))) (ho : Paid o) : ViewCall Try.prog 50 xs v bs := by
  unfold tgS at h
  split at h
  case h_2 => cases h
  rename_i x A Q
  split at h
  case h_2 => cases h
  rename_i o1 a o2 q hA hQ
  cases h
  obtain ⟨q1, q2⟩ := paid_append.1 ho
  intro ρ vs w ha hi
  rcases txt2_ok hA with ⟨rfl, rfl, rfl⟩ | ⟨rfl, rfl, rfl⟩ | ⟨m, rfl, rfl⟩ <;> rcases txt2_ok hQ with ⟨rfl, rfl, rfl⟩ | ⟨rfl, rfl, rfl⟩ | ⟨n, rfl, rfl⟩
  · have ev := tg_nilnil x
    exact view_of_res mixed noCount (hfi_ok.deep mixed noCount 100 3) ev (paid_cons rfl (paid_cons rfl Paid.nil)) (by rw [List.drop_zero]; rfl) rfl ha hi
  · have ev := tg_nilemp x
    exact view_of_res mixed noCount (hfi_ok.deep mixed noCount 100 3) ev (paid_cons rfl (paid_cons rfl Paid.nil)) (by rw [List.drop_zero]; rfl) rfl ha hi
  · obtain ⟨eq, _⟩ := buf_arg hi 2 rfl
    have mq2 := of_decide_eq_true (q2 _ (List.mem_cons_self ..))
    have ev := tg_nilbuf x n q
    rw [List.drop_zero (l := q), List.take_of_length_le (l := q) (Nat.le_of_eq eq)] at ev
    have hc := cpN_eq (m := 0) (n := n) (by omega) (by omega)
    have ha1 : ([] : List Int).length = 0 := rfl
    have hq1 : (q : List Int).length = n := eq
    have e3 := t3_eq (cpN (0 : Nat) (n : Nat)) ha1 hq1 (by omega) (by omega)
    have hz1 := pz_le 0
    have hz2 := pz_le n
    have hM : (msgB [] q, 0 + pz 0 + n + pz n + 8 + 8).1.length = 0 + (msgB [] q, 0 + pz 0 + n + pz n + 8 + 8).2 := by rw [msg_len, ha1, hq1]; omega
    have hv : ((t3 (cpN (0 : Nat) (n : Nat)) [] 0 q n).1.drop 0).take (t3 (cpN (0 : Nat) (n : Nat)) [] 0 q n).2 = msgB [] q := by rw [e3, List.drop_zero, List.take_of_length_le (by rw [hM]; omega)]
    exact view_of_res mixed noCount (hfi_ok.deep mixed noCount 100 3) ev (paid_append.2 ⟨paid_append.2 ⟨paid_append.2 ⟨paid_append.2 ⟨paid_append.2 ⟨paid_append.2 ⟨paid_append.2 ⟨paid_append.2 ⟨paid_cons (decide_eq_true (by omega)) Paid.nil, paid_cons (mk_paid (by omega) (by omega)) Paid.nil⟩, dtA_paid ha1 (by rw [hc]; omega) (by omega)⟩, paid_cons (decide_eq_true (by omega)) Paid.nil⟩, dtB_paid ha1 hq1 (by rw [hc]; omega) (by omega)⟩, dwA_paid ha1 hq1 (by rw [hc]; omega) (by omega)⟩, paid_cons (decide_eq_true (by omega)) Paid.nil⟩, dwB_paid ha1 hq1 (by rw [hc]; omega) (by omega) (by omega)⟩, by rw [e3]; exact paid_cons (decide_eq_true (Nat.le_of_eq hM.symm)) (paid_cons (decide_eq_true (by simp only; omega)) (paid_cons (decide_eq_true (by simp only; omega)) Paid.nil))⟩) (by rw [hv, List.drop_zero]; rfl) rfl ha hi
  · have ev := tg_empnil x
    exact view_of_res mixed noCount (hfi_ok.deep mixed noCount 100 3) ev (paid_cons rfl (paid_cons rfl Paid.nil)) (by rw [List.drop_zero]; rfl) rfl ha hi
  · have ev := tg_empemp x
    exact view_of_res mixed noCount (hfi_ok.deep mixed noCount 100 3) ev (paid_cons rfl (paid_cons rfl Paid.nil)) (by rw [List.drop_zero]; rfl) rfl ha hi
  · obtain ⟨eq, _⟩ := buf_arg hi 2 rfl
    have mq2 := of_decide_eq_true (q2 _ (List.mem_cons_self ..))
    have ev := tg_empbuf x n q
    rw [List.drop_zero (l := q), List.take_of_length_le (l := q) (Nat.le_of_eq eq)] at ev
    have hc := cpN_eq (m := 0) (n := n) (by omega) (by omega)
    have ha1 : ([] : List Int).length = 0 := rfl
    have hq1 : (q : List Int).length = n := eq
    have e3 := t3_eq (cpN (0 : Nat) (n : Nat)) ha1 hq1 (by omega) (by omega)
    have hz1 := pz_le 0
    have hz2 := pz_le n
    have hM : (msgB [] q, 0 + pz 0 + n + pz n + 8 + 8).1.length = 0 + (msgB [] q, 0 + pz 0 + n + pz n + 8 + 8).2 := by rw [msg_len, ha1, hq1]; omega
    have hv : ((t3 (cpN (0 : Nat) (n : Nat)) [] 0 q n).1.drop 0).take (t3 (cpN (0 : Nat) (n : Nat)) [] 0 q n).2 = msgB [] q := by rw [e3, List.drop_zero, List.take_of_length_le (by rw [hM]; omega)]
    exact view_of_res mixed noCount (hfi_ok.deep mixed noCount 100 3) ev (paid_append.2 ⟨paid_append.2 ⟨paid_append.2 ⟨paid_append.2 ⟨paid_append.2 ⟨paid_append.2 ⟨paid_append.2 ⟨paid_append.2 ⟨paid_cons (decide_eq_true (by omega)) Paid.nil, paid_cons (mk_paid (by omega) (by omega)) Paid.nil⟩, dtA_paid ha1 (by rw [hc]; omega) (by omega)⟩, paid_cons (decide_eq_true (by omega)) Paid.nil⟩, dtB_paid ha1 hq1 (by rw [hc]; omega) (by omega)⟩, dwA_paid ha1 hq1 (by rw [hc]; omega) (by omega)⟩, paid_cons (decide_eq_true (by omega)) Paid.nil⟩, dwB_paid ha1 hq1 (by rw [hc]; omega) (by omega) (by omega)⟩, by rw [e3]; exact paid_cons (decide_eq_true (Nat.le_of_eq hM.symm)) (paid_cons (decide_eq_true (by simp only; omega)) (paid_cons (decide_eq_true (by simp only; omega)) Paid.nil))⟩) (by rw [hv, List.drop_zero]; rfl) rfl ha hi
  · obtain ⟨ea, _⟩ := buf_arg hi 1 rfl
    have ma2 := of_decide_eq_true (q1 _ (List.mem_cons_self ..))
    have ev := tg_bufnil x m a
    rw [List.drop_zero (l := a), List.take_of_length_le (l := a) (Nat.le_of_eq ea)] at ev
    have hc := cpN_eq (m := m) (n := 0) (by omega) (by omega)
    have ha1 : (a : List Int).length = m := ea
    have hq1 : ([] : List Int).length = 0 := rfl
    have e3 := t3_eq (cpN (m : Nat) (0 : Nat)) ha1 hq1 (by omega) (by omega)
    have hz1 := pz_le m
    have hz2 := pz_le 0
    have hM : (msgB a [], m + pz m + 0 + pz 0 + 8 + 8).1.length = 0 + (msgB a [], m + pz m + 0 + pz 0 + 8 + 8).2 := by rw [msg_len, ha1, hq1]; omega
    have hv : ((t3 (cpN (m : Nat) (0 : Nat)) a m [] 0).1.drop 0).take (t3 (cpN (m : Nat) (0 : Nat)) a m [] 0).2 = msgB a [] := by rw [e3, List.drop_zero, List.take_of_length_le (by rw [hM]; omega)]
    exact view_of_res mixed noCount (hfi_ok.deep mixed noCount 100 3) ev (paid_append.2 ⟨paid_append.2 ⟨paid_append.2 ⟨paid_append.2 ⟨paid_append.2 ⟨paid_append.2 ⟨paid_append.2 ⟨paid_append.2 ⟨paid_cons (decide_eq_true (by omega)) Paid.nil, paid_cons (mk_paid (by omega) (by omega)) Paid.nil⟩, paid_cons (decide_eq_true (by omega)) Paid.nil⟩, dtA_paid ha1 (by rw [hc]; omega) (by omega)⟩, dtB_paid ha1 hq1 (by rw [hc]; omega) (by omega)⟩, paid_cons (decide_eq_true (by omega)) Paid.nil⟩, dwA_paid ha1 hq1 (by rw [hc]; omega) (by omega)⟩, dwB_paid ha1 hq1 (by rw [hc]; omega) (by omega) (by omega)⟩, by rw [e3]; exact paid_cons (decide_eq_true (Nat.le_of_eq hM.symm)) (paid_cons (decide_eq_true (by simp only; omega)) (paid_cons (decide_eq_true (by simp only; omega)) Paid.nil))⟩) (by rw [hv, List.drop_zero]; rfl) rfl ha hi
  · obtain ⟨ea, _⟩ := buf_arg hi 1 rfl
    have ma2 := of_decide_eq_true (q1 _ (List.mem_cons_self ..))
    have ev := tg_bufemp x m a
    rw [List.drop_zero (l := a), List.take_of_length_le (l := a) (Nat.le_of_eq ea)] at ev
    have hc := cpN_eq (m := m) (n := 0) (by omega) (by omega)
    have ha1 : (a : List Int).length = m := ea
    have hq1 : ([] : List Int).length = 0 := rfl
    have e3 := t3_eq (cpN (m : Nat) (0 : Nat)) ha1 hq1 (by omega) (by omega)
    have hz1 := pz_le m
    have hz2 := pz_le 0
    have hM : (msgB a [], m + pz m + 0 + pz 0 + 8 + 8).1.length = 0 + (msgB a [], m + pz m + 0 + pz 0 + 8 + 8).2 := by rw [msg_len, ha1, hq1]; omega
    have hv : ((t3 (cpN (m : Nat) (0 : Nat)) a m [] 0).1.drop 0).take (t3 (cpN (m : Nat) (0 : Nat)) a m [] 0).2 = msgB a [] := by rw [e3, List.drop_zero, List.take_of_length_le (by rw [hM]; omega)]
    exact view_of_res mixed noCount (hfi_ok.deep mixed noCount 100 3) ev (paid_append.2 ⟨paid_append.2 ⟨paid_append.2 ⟨paid_append.2 ⟨paid_append.2 ⟨paid_append.2 ⟨paid_append.2 ⟨paid_append.2 ⟨paid_cons (decide_eq_true (by omega)) Paid.nil, paid_cons (mk_paid (by omega) (by omega)) Paid.nil⟩, paid_cons (decide_eq_true (by omega)) Paid.nil⟩, dtA_paid ha1 (by rw [hc]; omega) (by omega)⟩, dtB_paid ha1 hq1 (by rw [hc]; omega) (by omega)⟩, paid_cons (decide_eq_true (by omega)) Paid.nil⟩, dwA_paid ha1 hq1 (by rw [hc]; omega) (by omega)⟩, dwB_paid ha1 hq1 (by rw [hc]; omega) (by omega) (by omega)⟩, by rw [e3]; exact paid_cons (decide_eq_true (Nat.le_of_eq hM.symm)) (paid_cons (decide_eq_true (by simp only; omega)) (paid_cons (decide_eq_true (by simp only; omega)) Paid.nil))⟩) (by rw [hv, List.drop_zero]; rfl) rfl ha hi
  · obtain ⟨ea, _⟩ := buf_arg hi 1 rfl
    have ma2 := of_decide_eq_true (q1 _ (List.mem_cons_self ..))
    obtain ⟨eq, _⟩ := buf_arg hi 2 rfl
    have mq2 := of_decide_eq_true (q2 _ (List.mem_cons_self ..))
    have ev := tg_bufbuf x m a n q
    rw [List.drop_zero (l := a), List.take_of_length_le (l := a) (Nat.le_of_eq ea)] at ev
    rw [List.drop_zero (l := q), List.take_of_length_le (l := q) (Nat.le_of_eq eq)] at ev
    have hc := cpN_eq (m := m) (n := n) (by omega) (by omega)
    have ha1 : (a : List Int).length = m := ea
    have hq1 : (q : List Int).length = n := eq
    have e3 := t3_eq (cpN (m : Nat) (n : Nat)) ha1 hq1 (by omega) (by omega)
    have hz1 := pz_le m
    have hz2 := pz_le n
    have hM : (msgB a q, m + pz m + n + pz n + 8 + 8).1.length = 0 + (msgB a q, m + pz m + n + pz n + 8 + 8).2 := by rw [msg_len, ha1, hq1]; omega
    have hv : ((t3 (cpN (m : Nat) (n : Nat)) a m q n).1.drop 0).take (t3 (cpN (m : Nat) (n : Nat)) a m q n).2 = msgB a q := by rw [e3, List.drop_zero, List.take_of_length_le (by rw [hM]; omega)]
    exact view_of_res mixed noCount (hfi_ok.deep mixed noCount 100 3) ev (paid_append.2 ⟨paid_append.2 ⟨paid_append.2 ⟨paid_append.2 ⟨paid_append.2 ⟨paid_append.2 ⟨paid_append.2 ⟨paid_append.2 ⟨paid_append.2 ⟨paid_append.2 ⟨paid_append.2 ⟨paid_cons (decide_eq_true (by omega)) Paid.nil, paid_cons (decide_eq_true (by omega)) Paid.nil⟩, paid_cons (mk_paid (by omega) (by omega)) Paid.nil⟩, paid_cons (decide_eq_true (by omega)) Paid.nil⟩, dtA_paid ha1 (by rw [hc]; omega) (by omega)⟩, paid_cons (decide_eq_true (by omega)) Paid.nil⟩, dtB_paid ha1 hq1 (by rw [hc]; omega) (by omega)⟩, paid_cons (decide_eq_true (by omega)) Paid.nil⟩, dwA_paid ha1 hq1 (by rw [hc]; omega) (by omega)⟩, paid_cons (decide_eq_true (by omega)) Paid.nil⟩, dwB_paid ha1 hq1 (by rw [hc]; omega) (by omega) (by omega)⟩, by rw [e3]; exact paid_cons (decide_eq_true (Nat.le_of_eq hM.symm)) (paid_cons (decide_eq_true (by simp only; omega)) (paid_cons (decide_eq_true (by simp only; omega)) Paid.nil))⟩) (by rw [hv, List.drop_zero]; rfl) rfl ha hi
def hq6 : CallH := withV 50 tgS hp4
theorem hq6_ok : HOk Try.prog hq6 := hp4_ok.withV fun _ _ _ _ h ho => tg_ok h ho
end Go.Proofs.Ytfmgodgakndjcaa
