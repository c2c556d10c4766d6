/- The program's Open: its contract, by cases. Own work. -/
import Derived.Test.YtfmgodgakndjcaaSChV
import Derived.Test.YtfmgodgakndjcaaSCzEqF
set_option linter.unusedSimpArgs false
set_option linter.unusedVariables false
set_option linter.unusedSectionVars false
namespace Go.Ch
open Go.Ev Go.Sh
def kN (n : Nat) : Int := IntKind.i64.wrap ((n : Int) - 16)
theorem kN_eq {n : Nat} (h : n ≤ 140737488351232) : kN n = (n : Int) - 16 := by
  unfold kN IntKind.wrap; simp [IntKind.bits, IntKind.signed]; omega
def shownF (q : List Int) (n : Nat) : List Int := (q.drop (0 + (kN n).toNat * 1)).take (n - (kN n).toNat)
def tagF (x a q : List Int) (n : Nat) : List Int := tagC x a ((q.drop (0 + 0 * 1)).take (kN n).toNat)
/-- Its tag is that of what is ahead of it. -/
def goodC (x a q : List Int) (n : Nat) : Bool := decide (q.drop (n - 16) = tagC x a (q.take (n - 16)))
theorem shownF_eq {q : List Int} {n : Nat} (hq : q.length = n) (h : n ≤ 140737488351232) (h16 : 16 ≤ n) : shownF q n = q.drop (n - 16) := by
  unfold shownF
  rw [kN_eq h, show ((n : Int) - 16).toNat = n - 16 by omega, show 0 + (n - 16) * 1 = n - 16 by omega, List.take_of_length_le (by rw [List.length_drop]; omega)]
theorem tagF_eq (x a : List Int) {q : List Int} {n : Nat} (h : n ≤ 140737488351232) (h16 : 16 ≤ n) : tagF x a q n = tagC x a (q.take (n - 16)) := by
  unfold tagF
  rw [kN_eq h, show ((n : Int) - 16).toNat = n - 16 by omega, show 0 + 0 * 1 = 0 by omega, List.drop_zero]
theorem tagC_all8 (x a q : List Int) : Go.Sh.all8 (tagC x a q) = true := List.all_eq_true.2 fun y hy => by
  unfold tagC codB by16 at hy
  obtain ⟨i, _, rfl⟩ := List.mem_map.1 hy
  rw [decide_eq_true (Int.emod_nonneg _ (by decide)), decide_eq_true (Int.emod_lt_of_pos _ (by decide))]; rfl
theorem all8_of {l : List Int} (h : ∀ x ∈ l, inR .u8 x = true) : Go.Sh.all8 l = true := List.all_eq_true.2 fun x hx => by
  have := h x hx
  rw [inR_iff] at this
  simp only [lo, hi] at this
  rw [decide_eq_true (by omega), decide_eq_true (by omega)]; rfl
end Go.Ch
namespace Go.Proofs.Ytfmgodgakndjcaa
open Go.Ev Go.Sh Go.Ch
set_option maxRecDepth 100000
/-- Marks of slices are nothing to a call. -/
theorem ViewCall.mark2 {g : FuncId} {s s' t t' : Bool} {k k' : IntKind} {n m : Nat} {l q : List Int} {v : AV} {bs : Mem} (h : ViewCall Try.prog g [.buf s k n l, .buf t k' m q] v bs) : ViewCall Try.prog g [.buf s' k n l, .buf t' k' m q] v bs := by
  intro ρ vs w ha hi
  have mk : ∀ {ρ : Nat → Loc3} {N : Nat → Prop} {s s' : Bool} {n o len e : Nat} {cap : Option Nat} {v : Value}, Rep ρ N (.slice s n o len cap e) v → Rep ρ N (.slice s' n o len cap e) v := fun h => by
    cases h with | slice _ _ _ _ _ _ c ad h1 h2 h3 h4 h5 => exact .slice _ _ _ _ _ _ c ad h1 h2 h3 h4 h5
  cases ha with
  | cons _ _ u us hu hs =>
  cases hs with
  | cons _ _ u2 us2 hu2 hn =>
  cases hn
  exact h (ρ := ρ) (w := w) (.cons _ _ _ _ (mk hu) (.cons _ _ _ _ (mk hu2) .nil)) hi
def equ2S : List V → E (AV × Mem)
  | [.buf _ .u8 n l, .buf _ .u8 m q] => equS [.buf true .u8 n l, .buf true .u8 m q]
  | _ => none
theorem equ2_ok {xs : List V} {o : List Bool} {v : AV} {bs : Mem} (h : equ2S xs = some (o, (v, bs))) (ho : Paid o) : ViewCall Try.prog 42 xs v bs := by
  unfold equ2S at h
  split at h
  · exact @ViewCall.mark2 _ _ _ _ _ _ _ _ _ _ _ _ _ (equ_ok h ho)
  · cases h
def ho0 : CallH := withV 42 equ2S hq6
theorem ho0_ok : HOk Try.prog ho0 := hq6_ok.withV fun _ _ _ _ h ho => equ2_ok h ho
noncomputable def hop : CallH := inL Try.prog qC (deep Try.prog qC hq4 100 5) (cvΛO fun _ _ => none) 100 49 [] ho0
theorem hop_ok : HOk Try.prog hop := HOk.inL mixed noCount (hq4_ok.deep mixed noCount 100 5) ho0_ok 100 _ _ fun fn c hf hb => by rw [bodyOf_eq hf hb]; exact cvO_lok LOk.none
theorem op_kbn (n : Nat) (k : List Int) (y : V) (z : V) : seeV 50 ((funcL Try.prog qD (deep Try.prog qD hop 100 5) (fun _ _ => none) 100 20 (cArgs 0 [.buf true .u8 n k, .pl .nilslice, y, z]) (cMem [.buf true .u8 n k, .pl .nilslice, y, z])).go [true]) = some ([decide (n < 9223372036854775808), (!(!((n : Int) != 32)) || !((n : Int) != 32)), (!(!((n : Int) != 32)) || !((n : Int) != 32)), (((n : Int) != 32) || !((n : Int) != 32)), (match ((n : Int) != 32) with | true => true | false => (0 : Int) != 12)], .tuple [.nilslice, .int false .i64 2], none) := by kernel_rfl
theorem op_kbe (n : Nat) (k : List Int) (y : V) (z : V) : seeV 50 ((funcL Try.prog qD (deep Try.prog qD hop 100 5) (fun _ _ => none) 100 20 (cArgs 0 [.buf true .u8 n k, .empty, y, z]) (cMem [.buf true .u8 n k, .empty, y, z])).go [true]) = some ([decide (n < 9223372036854775808), (!(!((n : Int) != 32)) || !((n : Int) != 32)), (!(!((n : Int) != 32)) || !((n : Int) != 32)), (((n : Int) != 32) || !((n : Int) != 32)), (match ((n : Int) != 32) with | true => true | false => ((0 : Nat) : Int) != 12)], .tuple [.nilslice, .int false .i64 2], none) := by kernel_rfl
theorem op_kbb (n : Nat) (k : List Int) (m : Nat) (l : List Int) (y : V) (z : V) : seeV 50 ((funcL Try.prog qD (deep Try.prog qD hop 100 5) (fun _ _ => none) 100 20 (cArgs 0 [.buf true .u8 n k, .buf true .u8 m l, y, z]) (cMem [.buf true .u8 n k, .buf true .u8 m l, y, z])).go [true]) = some ([decide (n < 9223372036854775808), (!(!((n : Int) != 32)) || decide (m < 9223372036854775808)), (!(!((n : Int) != 32)) || !((n : Int) != 32)), (!(!((n : Int) != 32)) || !((n : Int) != 32)), (((n : Int) != 32) || !((n : Int) != 32)), (match ((n : Int) != 32) with | true => true | false => (m : Int) != 12)], .tuple [.nilslice, .int false .i64 2], none) := by kernel_rfl
theorem op_kn (y0 : V) (y : V) (z : V) : seeV 50 ((funcL Try.prog qD (deep Try.prog qD hop 100 5) (fun _ _ => none) 100 20 (cArgs 0 [.pl .nilslice, y0, y, z]) (cMem [.pl .nilslice, y0, y, z])).go []) = some ([], .tuple [.nilslice, .int false .i64 2], none) := by kernel_rfl
theorem op_ke (y0 : V) (y : V) (z : V) : seeV 50 ((funcL Try.prog qD (deep Try.prog qD hop 100 5) (fun _ _ => none) 100 20 (cArgs 0 [.empty, y0, y, z]) (cMem [.empty, y0, y, z])).go []) = some ([], .tuple [.nilslice, .int false .i64 2], none) := by kernel_rfl
theorem op_nb (k : List Int) (n : Nat) (l : List Int) (y : V) (z : V) : seeV 50 ((funcL Try.prog qD (deep Try.prog qD hop 100 5) (fun _ _ => none) 100 20 (cArgs 0 [.buf false .u8 32 k, .buf true .u8 n l, y, z]) (cMem [.buf false .u8 32 k, .buf true .u8 n l, y, z])).go [true]) = some ([decide (n < 9223372036854775808), ((n : Int) != 12)], .tuple [.nilslice, .int false .i64 2], none) := by kernel_rfl
theorem op_nn (k : List Int) (y : V) (z : V) : seeV 50 ((funcL Try.prog qD (deep Try.prog qD hop 100 5) (fun _ _ => none) 100 20 (cArgs 0 [.buf false .u8 32 k, .pl .nilslice, y, z]) (cMem [.buf false .u8 32 k, .pl .nilslice, y, z])).go []) = some ([], .tuple [.nilslice, .int false .i64 2], none) := by kernel_rfl
theorem op_ne (k : List Int) (y : V) (z : V) : seeV 50 ((funcL Try.prog qD (deep Try.prog qD hop 100 5) (fun _ _ => none) 100 20 (cArgs 0 [.buf false .u8 32 k, .empty, y, z]) (cMem [.buf false .u8 32 k, .empty, y, z])).go []) = some ([], .tuple [.nilslice, .int false .i64 2], none) := by kernel_rfl
theorem op_bad {K N : V} {o : List Bool} (h : badS K N = some o) (ho : Paid o) (y : V) (z : V) : ViewCall Try.prog 20 [K, N, y, z] (.tuple [.nilslice, .int false .i64 2]) [] := by
  unfold badS at h
  split at h
  · rename_i k hk
    obtain rfl := isK_ok hk
    rcases notL_ok h with ⟨rfl, rfl⟩ | ⟨rfl, rfl⟩ | ⟨n, l, rfl, rfl⟩
    · intro ρ vs w ha hi; exact viewN_none mixed noCount (hop_ok.deep mixed noCount 100 5) (lo0 _) (v := .tuple [.nilslice, .int false .i64 2]) [] 50 (op_nn k y z) (Paid.nil) rfl rfl rfl rfl ha hi
    · intro ρ vs w ha hi; exact viewN_none mixed noCount (hop_ok.deep mixed noCount 100 5) (lo0 _) (v := .tuple [.nilslice, .int false .i64 2]) [] 50 (op_ne k y z) (Paid.nil) rfl rfl rfl rfl ha hi
    · have o2 := ho _ (List.mem_cons_of_mem _ (List.mem_cons_self ..))
      have e1 : ((n : Int) != 12) = true := by simp at o2 ⊢; omega
      intro ρ vs w ha hi; exact viewN_none mixed noCount (hop_ok.deep mixed noCount 100 5) (lo0 _) (v := .tuple [.nilslice, .int false .i64 2]) [true] 50 (op_nb k n l y z) (paid_cons (ho _ (List.mem_cons_self ..)) (paid_cons e1 Paid.nil)) rfl rfl rfl rfl ha hi
  · split at h
    · rename_i o1 o2 hK hN
      cases h
      obtain ⟨q1, q2⟩ := paid_append.1 ho
      rcases notL_ok hK with ⟨rfl, rfl⟩ | ⟨rfl, rfl⟩ | ⟨n, k, rfl, rfl⟩
      · intro ρ vs w ha hi; exact viewN_none mixed noCount (hop_ok.deep mixed noCount 100 5) (lo0 _) (v := .tuple [.nilslice, .int false .i64 2]) [] 50 (op_kn N y z) (Paid.nil) rfl rfl rfl rfl ha hi
      · intro ρ vs w ha hi; exact viewN_none mixed noCount (hop_ok.deep mixed noCount 100 5) (lo0 _) (v := .tuple [.nilslice, .int false .i64 2]) [] 50 (op_ke N y z) (Paid.nil) rfl rfl rfl rfl ha hi
      · have r1 := q1 _ (List.mem_cons_self ..)
        have r2 := q1 _ (List.mem_cons_of_mem _ (List.mem_cons_self ..))
        have hA : ((n : Int) != 32) = true := by simp at r2 ⊢; omega
        rcases anyL_ok hN with ⟨rfl, rfl⟩ | ⟨rfl, rfl⟩ | ⟨m, l, rfl, rfl⟩
        · intro ρ vs w ha hi; exact viewN_none mixed noCount (hop_ok.deep mixed noCount 100 5) (lo0 _) (v := .tuple [.nilslice, .int false .i64 2]) [true] 50 (op_kbn n k y z) (paid_cons r1 (paid_cons (by cases ((n : Int) != 32) <;> rfl) (paid_cons (by cases ((n : Int) != 32) <;> rfl) (paid_cons (by cases ((n : Int) != 32) <;> rfl) (paid_cons (by rw [hA]) Paid.nil))))) rfl rfl rfl rfl ha hi
        · intro ρ vs w ha hi; exact viewN_none mixed noCount (hop_ok.deep mixed noCount 100 5) (lo0 _) (v := .tuple [.nilslice, .int false .i64 2]) [true] 50 (op_kbe n k y z) (paid_cons r1 (paid_cons (by cases ((n : Int) != 32) <;> rfl) (paid_cons (by cases ((n : Int) != 32) <;> rfl) (paid_cons (by cases ((n : Int) != 32) <;> rfl) (paid_cons (by rw [hA]) Paid.nil))))) rfl rfl rfl rfl ha hi
        · intro ρ vs w ha hi; exact viewN_none mixed noCount (hop_ok.deep mixed noCount 100 5) (lo0 _) (v := .tuple [.nilslice, .int false .i64 2]) [true] 50 (op_kbb n k m l y z) (paid_cons r1 (paid_cons (by rw [q2 _ (List.mem_cons_self ..), Bool.or_true]) (paid_cons (by cases ((n : Int) != 32) <;> rfl) (paid_cons (by cases ((n : Int) != 32) <;> rfl) (paid_cons (by cases ((n : Int) != 32) <;> rfl) (paid_cons (by rw [hA]) Paid.nil)))))) rfl rfl rfl rfl ha hi
    · cases h
theorem open_xn (k l : List Int) (x : V) : seeV 50 ((funcL Try.prog qD (deep Try.prog qD hop 100 5) (fun _ _ => none) 100 20 (cArgs 0 [.buf false .u8 32 k, .buf false .u8 12 l, x, .pl .nilslice]) (cMem [.buf false .u8 32 k, .buf false .u8 12 l, x, .pl .nilslice])).go []) = some ([], .tuple [.nilslice, .int false .i64 5], none) := by kernel_rfl
theorem open_xe (k l : List Int) (x : V) : seeV 50 ((funcL Try.prog qD (deep Try.prog qD hop 100 5) (fun _ _ => none) 100 20 (cArgs 0 [.buf false .u8 32 k, .buf false .u8 12 l, x, .empty]) (cMem [.buf false .u8 32 k, .buf false .u8 12 l, x, .empty])).go []) = some ([], .tuple [.nilslice, .int false .i64 5], none) := by kernel_rfl
theorem open_ybuf (k l : List Int) (m : Nat) (a : List Int) (n : Nat) (q : List Int) : seeV 6 ((funcL Try.prog qD (deep Try.prog qD hop 100 5) (fun _ _ => none) 100 20 (cArgs 0 [.buf false .u8 32 k, .buf false .u8 12 l, .buf true .u8 m a, .buf true .u8 n q]) (cMem [.buf false .u8 32 k, .buf false .u8 12 l, .buf true .u8 m a, .buf true .u8 n q])).go [false, false]) = some ([decide (n < 9223372036854775808), !decide (kN n < 0), decide (0 ≤ kN n) && decide (kN n ≤ (n : Int)), decide (0 ≤ kN n) && decide (kN n ≤ (n : Int)), decide (0 + m ≤ m), decide (0 + 0 * 1 + (kN n).toNat ≤ n), decide (m ≤ 140737488351232), decide ((kN n).toNat ≤ 140737488351232), decide (0 + (kN n).toNat * 1 + (n - (kN n).toNat) ≤ n), decide ((shownF q n).length = n - (kN n).toNat), decide ((tagF (ini k l) ((a.drop 0).take m) q n).length = 16), decide (n - (kN n).toNat < 1000000000000), true, Go.Sh.all8 (shownF q n), Go.Sh.all8 (tagF (ini k l) ((a.drop 0).take m) q n), !!decide (shownF q n = tagF (ini k l) ((a.drop 0).take m) q n), decide (0 ≤ kN n) && decide (kN n ≤ kN n) && decide (kN n ≤ 281474976710656), decide ((kN n).toNat < 9223372036854775808), decide ((kN n).toNat < 9223372036854775807), true, decide ((kN n).toNat = (kN n).toNat), decide (((kN n).toNat : Int) = ((kN n).toNat : Int)), decide ((kN n).toNat ≤ n), decide ((kN n).toNat ≤ (List.replicate (kN n).toNat (0 : Int)).length)], .tuple [.slice true 6 0 (kN n).toNat none 1, .int false .i64 0], some (some ⟨true, .ints .u8 none (cvN (ini k l) 1 q (List.replicate (kN n).toNat 0) (kN n).toNat)⟩)) := by kernel_rfl
theorem open_ynil (k l : List Int) (n : Nat) (q : List Int) : seeV 6 ((funcL Try.prog qD (deep Try.prog qD hop 100 5) (fun _ _ => none) 100 20 (cArgs 0 [.buf false .u8 32 k, .buf false .u8 12 l, .pl .nilslice, .buf true .u8 n q]) (cMem [.buf false .u8 32 k, .buf false .u8 12 l, .pl .nilslice, .buf true .u8 n q])).go [false, false]) = some ([decide (n < 9223372036854775808), !decide (kN n < 0), decide (0 ≤ kN n) && decide (kN n ≤ (n : Int)), decide (0 ≤ kN n) && decide (kN n ≤ (n : Int)), decide (0 + 0 * 1 + (kN n).toNat ≤ n), decide ((kN n).toNat ≤ 140737488351232), decide (0 + (kN n).toNat * 1 + (n - (kN n).toNat) ≤ n), decide ((shownF q n).length = n - (kN n).toNat), decide ((tagF (ini k l) [] q n).length = 16), decide (n - (kN n).toNat < 1000000000000), true, Go.Sh.all8 (shownF q n), Go.Sh.all8 (tagF (ini k l) [] q n), !!decide (shownF q n = tagF (ini k l) [] q n), decide (0 ≤ kN n) && decide (kN n ≤ kN n) && decide (kN n ≤ 281474976710656), decide ((kN n).toNat < 9223372036854775808), decide ((kN n).toNat < 9223372036854775807), true, decide ((kN n).toNat = (kN n).toNat), decide (((kN n).toNat : Int) = ((kN n).toNat : Int)), decide ((kN n).toNat ≤ n), decide ((kN n).toNat ≤ (List.replicate (kN n).toNat (0 : Int)).length)], .tuple [.slice true 6 0 (kN n).toNat none 1, .int false .i64 0], some (some ⟨true, .ints .u8 none (cvN (ini k l) 1 q (List.replicate (kN n).toNat 0) (kN n).toNat)⟩)) := by kernel_rfl
theorem open_yemp (k l : List Int) (n : Nat) (q : List Int) : seeV 6 ((funcL Try.prog qD (deep Try.prog qD hop 100 5) (fun _ _ => none) 100 20 (cArgs 0 [.buf false .u8 32 k, .buf false .u8 12 l, .empty, .buf true .u8 n q]) (cMem [.buf false .u8 32 k, .buf false .u8 12 l, .empty, .buf true .u8 n q])).go [false, false]) = some ([decide (n < 9223372036854775808), !decide (kN n < 0), decide (0 ≤ kN n) && decide (kN n ≤ (n : Int)), decide (0 ≤ kN n) && decide (kN n ≤ (n : Int)), decide (0 + 0 * 1 + (kN n).toNat ≤ n), decide ((kN n).toNat ≤ 140737488351232), decide (0 + (kN n).toNat * 1 + (n - (kN n).toNat) ≤ n), decide ((shownF q n).length = n - (kN n).toNat), decide ((tagF (ini k l) [] q n).length = 16), decide (n - (kN n).toNat < 1000000000000), true, Go.Sh.all8 (shownF q n), Go.Sh.all8 (tagF (ini k l) [] q n), !!decide (shownF q n = tagF (ini k l) [] q n), decide (0 ≤ kN n) && decide (kN n ≤ kN n) && decide (kN n ≤ 281474976710656), decide ((kN n).toNat < 9223372036854775808), decide ((kN n).toNat < 9223372036854775807), true, decide ((kN n).toNat = (kN n).toNat), decide (((kN n).toNat : Int) = ((kN n).toNat : Int)), decide ((kN n).toNat ≤ n), decide ((kN n).toNat ≤ (List.replicate (kN n).toNat (0 : Int)).length)], .tuple [.slice true 6 0 (kN n).toNat none 1, .int false .i64 0], some (some ⟨true, .ints .u8 none (cvN (ini k l) 1 q (List.replicate (kN n).toNat 0) (kN n).toNat)⟩)) := by kernel_rfl
/-- The same for all three: who is refused ahead of any tag. -/
def openX (c : List Int → List Int → List Bool → List Int → Nat → List Int → E (AV × Mem)) : List V → E (AV × Mem)
  | [K, N, A, S] => match isK K, isN N with
    | some k, some l => (match S with
      | .buf _ .u8 n q => (match txt2 A with
        | some (o1, a) => c k l o1 a n q
        | none => none)
      | S => match nonE S with
        | true => some ([], (.tuple [.nilslice, .int false .i64 5], []))
        | false => none)
    | _, _ => match badS K N with
      | some o => some (o, (.tuple [.nilslice, .int false .i64 2], []))
      | none => none
  | _ => none
/-- Its tag is right. -/
def opY (k l : List Int) (o1 : List Bool) (a : List Int) (n : Nat) (q : List Int) : E (AV × Mem) :=
  some (o1 ++ [decide (16 ≤ n), decide (n ≤ 140737488351232), goodC (ini k l) a q n], (.tuple [.slice true 0 0 (n - 16) none 1, .int false .i64 0], [some ⟨true, .ints .u8 none (cvL (ini k l) 1 q (n - 16))⟩]))
theorem openX_ok {c : List Int → List Int → List Bool → List Int → Nat → List Int → E (AV × Mem)}
    (hc : ∀ (k l : List Int) (A : V) (o1 : List Bool) (a : List Int) (s : Bool) (n : Nat) (q : List Int) (o : List Bool) (v : AV) (bs : Mem), txt2 A = some (o1, a) → c k l o1 a n q = some (o, (v, bs)) → Paid o → ViewCall Try.prog 20 [.buf false .u8 32 k, .buf false .u8 12 l, A, .buf s .u8 n q] v bs)
    {xs : List V} {o : List Bool} {v : AV} {bs : Mem} (h : openX c xs = some (o, (v, bs))) (ho : Paid o) : ViewCall Try.prog 20 xs v bs := by
  unfold openX at h
  split at h
  case h_2 => cases h
  rename_i K N A S
  split at h
  · rename_i k l hK hN
    obtain rfl := isK_ok hK
    obtain rfl := isN_ok hN
    split at h
    · rename_i s n q
      split at h
      · rename_i o1 a hA
        exact hc k l A o1 a s n q o v bs hA h ho
      · cases h
    · split at h
      · rename_i h3
        cases h
        intro ρ vs w ha hi
        rcases nonE_ok h3 with rfl | rfl
        · exact viewN_none mixed noCount (hop_ok.deep mixed noCount 100 5) (lo0 _) [] 50 (open_xn k l A) Paid.nil rfl rfl rfl rfl ha hi
        · exact viewN_none mixed noCount (hop_ok.deep mixed noCount 100 5) (lo0 _) [] 50 (open_xe k l A) Paid.nil rfl rfl rfl rfl ha hi
      · cases h
  · split at h
    · rename_i o1 hb
      cases h
      exact op_bad hb ho A S
    · cases h
theorem mark4 {ρ : Nat → Loc3} {N : Nat → Prop} {k l : List Int} {A : V} {s : Bool} {n : Nat} {q : List Int} {vs : List Value} (h : Reps ρ N (cArgs 0 [.buf false .u8 32 k, .buf false .u8 12 l, A, .buf s .u8 n q]) vs) : Reps ρ N (cArgs 0 [.buf false .u8 32 k, .buf false .u8 12 l, A, .buf true .u8 n q]) vs := by
  cases h with
  | cons _ _ u us a0 hs =>
  cases hs with
  | cons _ _ u1 us1 a1 hs =>
  cases hs with
  | cons _ _ u2 us2 a2 hs =>
  cases hs with
  | cons _ _ u3 us3 a3 hnn =>
  exact .cons _ _ _ _ a0 (.cons _ _ _ _ a1 (.cons _ _ _ _ a2 (.cons _ _ _ _ (markedS a3) hnn)))
theorem opY_ok {xs : List V} {o : List Bool} {v : AV} {bs : Mem} (h : openX opY xs = some (o, (v, bs))) (ho : Paid o) : ViewCall Try.prog 20 xs v bs := by
  refine openX_ok (fun k l A o1 a s n q o v bs h1 h ho => ?_) h ho
  cases h
  obtain ⟨q1, q2⟩ := paid_append.1 ho
  have h16 := of_decide_eq_true (q2 _ (List.mem_cons_self ..))
  have hP := of_decide_eq_true (q2 _ (List.mem_cons_of_mem _ (List.mem_cons_self ..)))
  have hB := q2 _ (List.mem_cons_of_mem _ (List.mem_cons_of_mem _ (List.mem_cons_self ..)))
  have hk := kN_eq hP
  intro ρ vs w ha hi
  obtain ⟨hq, hr⟩ := buf_arg hi 3 rfl
  rcases txt2_ok h1 with ⟨rfl, rfl, rfl⟩ | ⟨rfl, rfl, rfl⟩ | ⟨m, rfl, rfl⟩
  · have hT : (kN n).toNat = n - 16 := by rw [hk]; omega
    have hcv : cvN (ini k l) 1 q (List.replicate (kN n).toNat 0) (kN n).toNat = cvL (ini k l) 1 q (n - 16) := by rw [cvN_eq _ _ _ _ _ (by rw [List.length_replicate]; exact Nat.le_refl _), List.drop_of_length_le (by rw [List.length_replicate]; exact Nat.le_refl _), List.append_nil, hT]
    have ev := open_ynil k l n q
    rw [hcv] at ev
    exact viewN_one mixed noCount (hop_ok.deep mixed noCount 100 5) (lo0 _) (v := .tuple [.slice true 0 0 (n - 16) none 1, .int false .i64 0]) [false, false] 6 ev (paid_cons (decide_eq_true (by omega)) (paid_cons (by rw [hk]; simp; omega) (paid_cons (by rw [hk, decide_eq_true (by omega), decide_eq_true (by omega)]; rfl) (paid_cons (by rw [hk, decide_eq_true (by omega), decide_eq_true (by omega)]; rfl) (paid_cons (decide_eq_true (by rw [hk]; omega)) (paid_cons (decide_eq_true (by rw [hk]; omega)) (paid_cons (decide_eq_true (by rw [hk]; omega)) (paid_cons (decide_eq_true (by rw [shownF_eq hq hP h16, List.length_drop, hk]; omega)) (paid_cons (decide_eq_true (tagC_len ..)) (paid_cons (decide_eq_true (by rw [hk]; omega)) (paid_cons (rfl) (paid_cons (by rw [shownF_eq hq hP h16]; exact all8_of fun x hx => hr x (List.mem_of_mem_drop hx)) (paid_cons (tagC_all8 _ _ _) (paid_cons (by rw [shownF_eq hq hP h16, tagF_eq _ _ hP h16, Bool.not_not]; exact hB) (paid_cons (by rw [hk, decide_eq_true (by omega), decide_eq_true (by omega), decide_eq_true (by omega)]; rfl) (paid_cons (decide_eq_true (by rw [hk]; omega)) (paid_cons (decide_eq_true (by rw [hk]; omega)) (paid_cons (rfl) (paid_cons (decide_eq_true rfl) (paid_cons (decide_eq_true rfl) (paid_cons (decide_eq_true (by rw [hk]; omega)) (paid_cons (decide_eq_true (by rw [List.length_replicate]; exact Nat.le_refl _)) (Paid.nil))))))))))))))))))))))) (Nat.le_of_ble_eq_true rfl) (by rw [hT]; rfl) rfl (mark4 ha) hi
  · have hT : (kN n).toNat = n - 16 := by rw [hk]; omega
    have hcv : cvN (ini k l) 1 q (List.replicate (kN n).toNat 0) (kN n).toNat = cvL (ini k l) 1 q (n - 16) := by rw [cvN_eq _ _ _ _ _ (by rw [List.length_replicate]; exact Nat.le_refl _), List.drop_of_length_le (by rw [List.length_replicate]; exact Nat.le_refl _), List.append_nil, hT]
    have ev := open_yemp k l n q
    rw [hcv] at ev
    exact viewN_one mixed noCount (hop_ok.deep mixed noCount 100 5) (lo0 _) (v := .tuple [.slice true 0 0 (n - 16) none 1, .int false .i64 0]) [false, false] 6 ev (paid_cons (decide_eq_true (by omega)) (paid_cons (by rw [hk]; simp; omega) (paid_cons (by rw [hk, decide_eq_true (by omega), decide_eq_true (by omega)]; rfl) (paid_cons (by rw [hk, decide_eq_true (by omega), decide_eq_true (by omega)]; rfl) (paid_cons (decide_eq_true (by rw [hk]; omega)) (paid_cons (decide_eq_true (by rw [hk]; omega)) (paid_cons (decide_eq_true (by rw [hk]; omega)) (paid_cons (decide_eq_true (by rw [shownF_eq hq hP h16, List.length_drop, hk]; omega)) (paid_cons (decide_eq_true (tagC_len ..)) (paid_cons (decide_eq_true (by rw [hk]; omega)) (paid_cons (rfl) (paid_cons (by rw [shownF_eq hq hP h16]; exact all8_of fun x hx => hr x (List.mem_of_mem_drop hx)) (paid_cons (tagC_all8 _ _ _) (paid_cons (by rw [shownF_eq hq hP h16, tagF_eq _ _ hP h16, Bool.not_not]; exact hB) (paid_cons (by rw [hk, decide_eq_true (by omega), decide_eq_true (by omega), decide_eq_true (by omega)]; rfl) (paid_cons (decide_eq_true (by rw [hk]; omega)) (paid_cons (decide_eq_true (by rw [hk]; omega)) (paid_cons (rfl) (paid_cons (decide_eq_true rfl) (paid_cons (decide_eq_true rfl) (paid_cons (decide_eq_true (by rw [hk]; omega)) (paid_cons (decide_eq_true (by rw [List.length_replicate]; exact Nat.le_refl _)) (Paid.nil))))))))))))))))))))))) (Nat.le_of_ble_eq_true rfl) (by rw [hT]; rfl) rfl (mark4 ha) hi
  · obtain ⟨ea, _⟩ := buf_arg hi 2 rfl
    have hT : (kN n).toNat = n - 16 := by rw [hk]; omega
    have hcv : cvN (ini k l) 1 q (List.replicate (kN n).toNat 0) (kN n).toNat = cvL (ini k l) 1 q (n - 16) := by rw [cvN_eq _ _ _ _ _ (by rw [List.length_replicate]; exact Nat.le_refl _), List.drop_of_length_le (by rw [List.length_replicate]; exact Nat.le_refl _), List.append_nil, hT]
    have ev := open_ybuf k l m a n q
    rw [hcv] at ev
    exact viewN_one mixed noCount (hop_ok.deep mixed noCount 100 5) (lo0 _) (v := .tuple [.slice true 0 0 (n - 16) none 1, .int false .i64 0]) [false, false] 6 ev (paid_cons (decide_eq_true (by omega)) (paid_cons (by rw [hk]; simp; omega) (paid_cons (by rw [hk, decide_eq_true (by omega), decide_eq_true (by omega)]; rfl) (paid_cons (by rw [hk, decide_eq_true (by omega), decide_eq_true (by omega)]; rfl) (paid_cons (decide_eq_true (by omega)) (paid_cons (decide_eq_true (by rw [hk]; omega)) (paid_cons (q1 _ (List.mem_cons_self ..)) (paid_cons (decide_eq_true (by rw [hk]; omega)) (paid_cons (decide_eq_true (by rw [hk]; omega)) (paid_cons (decide_eq_true (by rw [shownF_eq hq hP h16, List.length_drop, hk]; omega)) (paid_cons (decide_eq_true (tagC_len ..)) (paid_cons (decide_eq_true (by rw [hk]; omega)) (paid_cons (rfl) (paid_cons (by rw [shownF_eq hq hP h16]; exact all8_of fun x hx => hr x (List.mem_of_mem_drop hx)) (paid_cons (tagC_all8 _ _ _) (paid_cons (by rw [shownF_eq hq hP h16, tagF_eq _ _ hP h16, Bool.not_not]; rw [List.drop_zero, List.take_of_length_le (l := a) (Nat.le_of_eq ea)]; exact hB) (paid_cons (by rw [hk, decide_eq_true (by omega), decide_eq_true (by omega), decide_eq_true (by omega)]; rfl) (paid_cons (decide_eq_true (by rw [hk]; omega)) (paid_cons (decide_eq_true (by rw [hk]; omega)) (paid_cons (rfl) (paid_cons (decide_eq_true rfl) (paid_cons (decide_eq_true rfl) (paid_cons (decide_eq_true (by rw [hk]; omega)) (paid_cons (decide_eq_true (by rw [List.length_replicate]; exact Nat.le_refl _)) (Paid.nil))))))))))))))))))))))))) (Nat.le_of_ble_eq_true rfl) (by rw [hT]; rfl) rfl (mark4 ha) hi
def hoY : CallH := withV 20 (openX opY) hq7
theorem hoY_ok : HOk Try.prog hoY := hq7_ok.withV fun _ _ _ _ h ho => opY_ok h ho
end Go.Proofs.Ytfmgodgakndjcaa
