/- The program's gcm: Open's contract, by cases. Own work. -/
import Derived.Test.YtfmgodgakndjcaaSKGcG
import Derived.Test.YtfmgodgakndjcaaSChN
set_option linter.unusedSimpArgs false
set_option linter.unusedVariables false
set_option linter.unusedSectionVars false
namespace Go.Gc
open Go.Ev Go.Sh Go.As
def kN (n : Nat) : Int := IntKind.i64.wrap ((n : Int) - 16)
theorem kN_eq {n : Nat} (h : n ≤ 140737488351232) : kN n = (n : Int) - 16 := by
  unfold kN IntKind.wrap; simp [IntKind.bits, IntKind.signed]; omega
def shownF (q : List Int) (n : Nat) : List Int := (q.drop (0 + (kN n).toNat * 1)).take (n - (kN n).toNat)
def tagF (W : List Int) (r : Nat) (l a : List Int) (m : Nat) (q : List Int) (n : Nat) : List Int := tagB W r l a m ((q.drop (0 + 0 * 1)).take (kN n).toNat) (kN n).toNat
/-- Its tag is that of what is ahead of it. -/
def goodB (W : List Int) (r : Nat) (l a : List Int) (m : Nat) (q : List Int) (n : Nat) : Bool := decide (q.drop (n - 16) = tagB W r l a m (q.take (n - 16)) (n - 16))
theorem shownF_eq {q : List Int} {n : Nat} (hq : q.length = n) (h : n ≤ 140737488351232) (h16 : 16 ≤ n) : shownF q n = q.drop (n - 16) := by
  unfold shownF
  rw [kN_eq h, show ((n : Int) - 16).toNat = n - 16 by omega, show 0 + (n - 16) * 1 = n - 16 by omega, List.take_of_length_le (by rw [List.length_drop]; omega)]
theorem tagF_eq (W : List Int) (r : Nat) (l a : List Int) (m : Nat) {q : List Int} {n : Nat} (h : n ≤ 140737488351232) (h16 : 16 ≤ n) : tagF W r l a m q n = tagB W r l a m (q.take (n - 16)) (n - 16) := by
  unfold tagF
  rw [kN_eq h, show ((n : Int) - 16).toNat = n - 16 by omega, show 0 + 0 * 1 = 0 by omega, List.drop_zero]
theorem ixor_in8 (x y : Int) : 0 ≤ ixor .u8 x y ∧ ixor .u8 x y < 256 := by
  unfold ixor
  rw [wrap_u (k := .u8) rfl]
  exact ⟨Int.emod_nonneg _ (by decide), Int.emod_lt_of_pos _ (by decide)⟩
theorem x16_all8 (a b : List Int) : all8K (x16 a b) = true := List.all_eq_true.2 fun x hx => by
  unfold x16 at hx
  obtain ⟨i, _, rfl⟩ := List.mem_map.1 hx
  obtain ⟨h1, h2⟩ := ixor_in8 (a.getD i 0) (b.getD i 0)
  rw [decide_eq_true h1, decide_eq_true h2]; rfl
theorem all8_of {l : List Int} (h : ∀ x ∈ l, inR .u8 x = true) : all8K l = true := List.all_eq_true.2 fun x hx => by
  have := h x hx
  rw [inR_iff] at this
  simp only [lo, hi] at this
  rw [decide_eq_true (by omega), decide_eq_true (by omega)]; rfl
end Go.Gc
namespace Go.Proofs.Ytfmgodgakndjcaa
open Go.Ev Go.Sh Go.As Go.Gc
set_option maxRecDepth 100000
/-- Marks of slices are nothing to a call. -/
theorem ViewCall.mark2K {g : FuncId} {s s' t t' : Bool} {k k' : IntKind} {n m : Nat} {l q : List Int} {v : AV} {bs : Mem} (h : ViewCall Try.prog g [.buf s k n l, .buf t k' m q] v bs) : ViewCall Try.prog g [.buf s' k n l, .buf t' k' m q] v bs := by
  intro ρ vs w ha hi
  cases ha with
  | cons _ _ u us hu hs =>
  cases hs with
  | cons _ _ u2 us2 hu2 hn =>
  cases hn
  exact h (ρ := ρ) (w := w) (.cons _ _ _ _ (marked s hu) (.cons _ _ _ _ (marked t hu2) .nil)) hi
def equ2SK : List V → E (AV × Mem)
  | [.buf _ .u8 n l, .buf _ .u8 m q] => equSK [.buf true .u8 n l, .buf true .u8 m q]
  | _ => none
theorem equ2_okK {xs : List V} {o : List Bool} {v : AV} {bs : Mem} (h : equ2SK xs = some (o, (v, bs))) (ho : Paid o) : ViewCall Try.prog 42 xs v bs := by
  unfold equ2SK at h
  split at h
  · exact @ViewCall.mark2K _ _ _ _ _ _ _ _ _ _ _ _ _ (equ_okK h ho)
  · cases h
def ho0K : CallH := withV 42 equ2SK he2
theorem ho0_okK : HOk Try.prog ho0K := he2_ok.withV fun _ _ _ _ h ho => equ2_okK h ho
noncomputable def hopK : CallH := inL Try.prog qP (deep Try.prog qP he2 100 5) (cvΛOK fun _ _ => none) 100 43 [] ho0K
theorem hop_okK : HOk Try.prog hopK := HOk.inL mixed noCount (he2_ok.deep mixed noCount 100 5) ho0_okK 100 _ _ fun fn c hf hb => by rw [bodyOf_eq hf hb]; exact cvO_lokK LOk.none
theorem open_no (y x z : V) : (seeV 0 ((funcL Try.prog qP (deep Try.prog qP hopK 100 5) (fun _ _ => none) 100 13 (cArgs 0 [.pl .nilptr, y, x, z]) (cMem [.pl .nilptr, y, x, z])).go [])).map (fun x => (x.1, x.2.1)) = some ([], .tuple [.nilslice, .int false .i64 2]) := by kernel_rfl
theorem open_non (r : Bool) (W : List Int) (n : Nat) (l : List Int) (x z : V) : (seeV 0 ((funcL Try.prog qP (deep Try.prog qP hopK 100 5) (fun _ _ => none) 100 13 (cArgs 0 [keyA r W, .buf true .u8 n l, x, z]) (cMem [keyA r W, .buf true .u8 n l, x, z])).go [true])).map (fun x => (x.1, x.2.1)) = some ([decide (n < 9223372036854775808), ((n : Int) != 12)], .tuple [.nilslice, .int false .i64 2]) := by cases r <;> kernel_rfl
theorem open_nin (r : Bool) (W : List Int) (x z : V) : (seeV 0 ((funcL Try.prog qP (deep Try.prog qP hopK 100 5) (fun _ _ => none) 100 13 (cArgs 0 [keyA r W, .pl .nilslice, x, z]) (cMem [keyA r W, .pl .nilslice, x, z])).go [])).map (fun x => (x.1, x.2.1)) = some ([], .tuple [.nilslice, .int false .i64 2]) := by cases r <;> kernel_rfl
theorem open_nie (r : Bool) (W : List Int) (x z : V) : (seeV 0 ((funcL Try.prog qP (deep Try.prog qP hopK 100 5) (fun _ _ => none) 100 13 (cArgs 0 [keyA r W, .empty, x, z]) (cMem [keyA r W, .empty, x, z])).go [])).map (fun x => (x.1, x.2.1)) = some ([], .tuple [.nilslice, .int false .i64 2]) := by cases r <;> kernel_rfl
theorem open_xnK (r : Bool) (W : List Int) (l : List Int) (x : V) : (seeV 0 ((funcL Try.prog qP (deep Try.prog qP hopK 100 5) (fun _ _ => none) 100 13 (cArgs 0 [keyA r W, .buf false .u8 12 l, x, .pl .nilslice]) (cMem [keyA r W, .buf false .u8 12 l, x, .pl .nilslice])).go [])).map (fun x => (x.1, x.2.1)) = some ([], .tuple [.nilslice, .int false .i64 5]) := by cases r <;> kernel_rfl
theorem open_xeK (r : Bool) (W : List Int) (l : List Int) (x : V) : (seeV 0 ((funcL Try.prog qP (deep Try.prog qP hopK 100 5) (fun _ _ => none) 100 13 (cArgs 0 [keyA r W, .buf false .u8 12 l, x, .empty]) (cMem [keyA r W, .buf false .u8 12 l, x, .empty])).go [])).map (fun x => (x.1, x.2.1)) = some ([], .tuple [.nilslice, .int false .i64 5]) := by cases r <;> kernel_rfl
theorem open_ybufK (r : Bool) (W : List Int) (l : List Int) (m : Nat) (a : List Int) (n : Nat) (q : List Int) : seeV 5 ((funcL Try.prog qP (deep Try.prog qP hopK 100 5) (fun _ _ => none) 100 13 (cArgs 0 [keyA r W, .buf false .u8 12 l, .buf true .u8 m a, .buf true .u8 n q]) (cMem [keyA r W, .buf false .u8 12 l, .buf true .u8 m a, .buf true .u8 n q])).go [false, false]) = some ([decide (n < 9223372036854775808), !decide (kN n < 0), decide (0 ≤ kN n) && decide (kN n ≤ (n : Int)), decide (0 ≤ kN n) && decide (kN n ≤ (n : Int)), decide (0 + m ≤ m), decide (0 + 0 * 1 + (kN n).toNat ≤ n), decide (m < 9223372036854775808), decide ((kN n).toNat < 9223372036854775808), decide (0 + (kN n).toNat * 1 + (n - (kN n).toNat) ≤ n), decide ((shownF q n).length = n - (kN n).toNat), decide ((tagF W (rds r) l ((a.drop 0).take m) m q n).length = 16), decide (n - (kN n).toNat < 1000000000000), true, all8K (shownF q n), all8K (tagF W (rds r) l ((a.drop 0).take m) m q n), !!decide (shownF q n = tagF W (rds r) l ((a.drop 0).take m) m q n), decide (0 ≤ kN n) && decide (kN n ≤ kN n) && decide (kN n ≤ 281474976710656), decide ((kN n).toNat < 9223372036854775808), decide ((kN n).toNat < 9223372036854775807), true, decide ((kN n).toNat = (kN n).toNat), decide (((kN n).toNat : Int) = ((kN n).toNat : Int)), decide ((kN n).toNat ≤ n), decide ((kN n).toNat ≤ (List.replicate (kN n).toNat (0 : Int)).length)], .tuple [.slice true 5 0 (kN n).toNat none 1, .int false .i64 0], some (some ⟨true, .ints .u8 none (cvN W (rds r) l q (List.replicate (kN n).toNat 0) (kN n).toNat)⟩)) := by cases r <;> kernel_rfl
theorem open_ynilK (r : Bool) (W : List Int) (l : List Int) (n : Nat) (q : List Int) : seeV 5 ((funcL Try.prog qP (deep Try.prog qP hopK 100 5) (fun _ _ => none) 100 13 (cArgs 0 [keyA r W, .buf false .u8 12 l, .pl .nilslice, .buf true .u8 n q]) (cMem [keyA r W, .buf false .u8 12 l, .pl .nilslice, .buf true .u8 n q])).go [false, false]) = some ([decide (n < 9223372036854775808), !decide (kN n < 0), decide (0 ≤ kN n) && decide (kN n ≤ (n : Int)), decide (0 ≤ kN n) && decide (kN n ≤ (n : Int)), decide (0 + 0 * 1 + (kN n).toNat ≤ n), decide ((kN n).toNat < 9223372036854775808), decide (0 + (kN n).toNat * 1 + (n - (kN n).toNat) ≤ n), decide ((shownF q n).length = n - (kN n).toNat), decide ((tagF W (rds r) l [] 0 q n).length = 16), decide (n - (kN n).toNat < 1000000000000), true, all8K (shownF q n), all8K (tagF W (rds r) l [] 0 q n), !!decide (shownF q n = tagF W (rds r) l [] 0 q n), decide (0 ≤ kN n) && decide (kN n ≤ kN n) && decide (kN n ≤ 281474976710656), decide ((kN n).toNat < 9223372036854775808), decide ((kN n).toNat < 9223372036854775807), true, decide ((kN n).toNat = (kN n).toNat), decide (((kN n).toNat : Int) = ((kN n).toNat : Int)), decide ((kN n).toNat ≤ n), decide ((kN n).toNat ≤ (List.replicate (kN n).toNat (0 : Int)).length)], .tuple [.slice true 5 0 (kN n).toNat none 1, .int false .i64 0], some (some ⟨true, .ints .u8 none (cvN W (rds r) l q (List.replicate (kN n).toNat 0) (kN n).toNat)⟩)) := by cases r <;> kernel_rfl
theorem open_yempK (r : Bool) (W : List Int) (l : List Int) (n : Nat) (q : List Int) : seeV 5 ((funcL Try.prog qP (deep Try.prog qP hopK 100 5) (fun _ _ => none) 100 13 (cArgs 0 [keyA r W, .buf false .u8 12 l, .empty, .buf true .u8 n q]) (cMem [keyA r W, .buf false .u8 12 l, .empty, .buf true .u8 n q])).go [false, false]) = some ([decide (n < 9223372036854775808), !decide (kN n < 0), decide (0 ≤ kN n) && decide (kN n ≤ (n : Int)), decide (0 ≤ kN n) && decide (kN n ≤ (n : Int)), decide (0 + 0 * 1 + (kN n).toNat ≤ n), decide ((kN n).toNat < 9223372036854775808), decide (0 + (kN n).toNat * 1 + (n - (kN n).toNat) ≤ n), decide ((shownF q n).length = n - (kN n).toNat), decide ((tagF W (rds r) l [] 0 q n).length = 16), decide (n - (kN n).toNat < 1000000000000), true, all8K (shownF q n), all8K (tagF W (rds r) l [] 0 q n), !!decide (shownF q n = tagF W (rds r) l [] 0 q n), decide (0 ≤ kN n) && decide (kN n ≤ kN n) && decide (kN n ≤ 281474976710656), decide ((kN n).toNat < 9223372036854775808), decide ((kN n).toNat < 9223372036854775807), true, decide ((kN n).toNat = (kN n).toNat), decide (((kN n).toNat : Int) = ((kN n).toNat : Int)), decide ((kN n).toNat ≤ n), decide ((kN n).toNat ≤ (List.replicate (kN n).toNat (0 : Int)).length)], .tuple [.slice true 5 0 (kN n).toNat none 1, .int false .i64 0], some (some ⟨true, .ints .u8 none (cvN W (rds r) l q (List.replicate (kN n).toNat 0) (kN n).toNat)⟩)) := by cases r <;> kernel_rfl
/-- The same for all three: who is refused ahead of any tag. -/
def openXK (c : V → Bool × List Int → List Int → List Bool → Nat → List Int → Nat → List Int → E (AV × Mem)) : List V → E (AV × Mem)
  | [.pl .nilptr, _, _, _] => some ([], (.tuple [.nilslice, .int false .i64 2], []))
  | [k, .buf false .u8 12 _, _, .pl .nilslice] => match keyOf? k with
    | some _ => some ([], (.tuple [.nilslice, .int false .i64 5], []))
    | none => none
  | [k, .buf false .u8 12 _, _, .empty] => match keyOf? k with
    | some _ => some ([], (.tuple [.nilslice, .int false .i64 5], []))
    | none => none
  | [k, .buf false .u8 12 l, x, .buf _ .u8 n q] => match keyOf? k, txt x with
    | some rW, some (o1, m, a) => c k rW l o1 m a n q
    | _, _ => none
  | [k, .buf true .u8 n _, _, _] => match keyOf? k with
    | some _ => some ([decide (n < 9223372036854775808), !decide (n = 12)], (.tuple [.nilslice, .int false .i64 2], []))
    | none => none
  | [k, .pl .nilslice, _, _] => match keyOf? k with
    | some _ => some ([], (.tuple [.nilslice, .int false .i64 2], []))
    | none => none
  | [k, .empty, _, _] => match keyOf? k with
    | some _ => some ([], (.tuple [.nilslice, .int false .i64 2], []))
    | none => none
  | _ => none
/-- Its tag is right. -/
def opYK (_ : V) (rW : Bool × List Int) (l : List Int) (o1 : List Bool) (m : Nat) (a : List Int) (n : Nat) (q : List Int) : E (AV × Mem) :=
  some (o1 ++ [decide (16 ≤ n), decide (n ≤ 140737488351232), goodB rW.2 (rds rW.1) l a m q n], (.tuple [.slice true 0 0 (n - 16) none 1, .int false .i64 0], [some ⟨true, .ints .u8 none (cvL rW.2 (rds rW.1) l q (n - 16))⟩]))
theorem map_some {α β : Type} {f : α → β} {x : Option α} {y : β} (h : x.map f = some y) : ∃ a, x = some a ∧ f a = y := by
  cases x with
  | none => cases h
  | some a => exact ⟨a, rfl, Option.some.inj h⟩
theorem open_view {xs : List V} {o : List Bool} {v : AV} {ds : List Bool} (h : (seeV 0 ((funcL Try.prog qP (deep Try.prog qP hopK 100 5) (fun _ _ => none) 100 13 (cArgs 0 xs) (cMem xs)).go ds)).map (fun x => (x.1, x.2.1)) = some (o, v)) (ho : Paid o) (hv : v = renA id (upA xs.length v)) (hba : bndA (xs.length + 0) (upA xs.length v) = true) (hinj : injB id (xs.length + 0) = true) (hfix : fixB id xs.length = true) :
    ViewCall Try.prog 13 xs v [] := by
  obtain ⟨⟨o', v', b⟩, h1, h2⟩ := map_some h
  simp only [Prod.mk.injEq] at h2
  obtain ⟨rfl, rfl⟩ := h2
  exact viewN_none mixed noCount (hop_okK.deep mixed noCount 100 5) (fun fn c hf hb => LOkN.none) ds 0 h1 ho hv hba hinj hfix
theorem openX_okK {c : V → Bool × List Int → List Int → List Bool → Nat → List Int → Nat → List Int → E (AV × Mem)}
    (hc : ∀ (r : Bool) (W l : List Int) (x : V) (o1 : List Bool) (m : Nat) (a : List Int) (s : Bool) (n : Nat) (q : List Int) (o : List Bool) (v : AV) (bs : Mem), txt x = some (o1, m, a) → c (keyA r W) (r, W) l o1 m a n q = some (o, (v, bs)) → Paid o → ViewCall Try.prog 13 [keyA r W, .buf false .u8 12 l, x, .buf s .u8 n q] v bs)
    {xs : List V} {o : List Bool} {v : AV} {bs : Mem} (h : openXK c xs = some (o, (v, bs))) (ho : Paid o) : ViewCall Try.prog 13 xs v bs := by
  unfold openXK at h
  split at h
  · rename_i y x z
    cases h
    exact @open_view _ _ _ [] (open_no y x z) Paid.nil rfl rfl rfl rfl
  · rename_i k l x _
    split at h
    · rename_i rW hk
      obtain ⟨r, W⟩ := rW
      obtain rfl := keyOf_ok hk
      cases h
      exact @open_view _ _ _ [] (open_xnK r W l x) Paid.nil rfl rfl rfl rfl
    · cases h
  · rename_i k l x _
    split at h
    · rename_i rW hk
      obtain ⟨r, W⟩ := rW
      obtain rfl := keyOf_ok hk
      cases h
      exact @open_view _ _ _ [] (open_xeK r W l x) Paid.nil rfl rfl rfl rfl
    · cases h
  · rename_i k l x s n q _
    split at h
    · rename_i rW o1 m a hk h1
      obtain ⟨r, W⟩ := rW
      obtain rfl := keyOf_ok hk
      exact hc r W l x o1 m a s n q o v bs h1 h ho
    · cases h
  · rename_i k n l x z _
    split at h
    · rename_i rW hk
      obtain ⟨r, W⟩ := rW
      obtain rfl := keyOf_ok hk
      cases h
      have o2 := ho _ (List.mem_cons_of_mem _ (List.mem_cons_self ..))
      have e1 : ((n : Int) != 12) = true := by simp at o2 ⊢; omega
      exact @open_view _ _ _ [true] (open_non r W n l x z) (paid_cons (ho _ (List.mem_cons_self ..)) (paid_cons e1 Paid.nil)) rfl rfl rfl rfl
    · cases h
  · rename_i k x z _
    split at h
    · rename_i rW hk
      obtain ⟨r, W⟩ := rW
      obtain rfl := keyOf_ok hk
      cases h
      exact @open_view _ _ _ [] (open_nin r W x z) Paid.nil rfl rfl rfl rfl
    · cases h
  · rename_i k x z _
    split at h
    · rename_i rW hk
      obtain ⟨r, W⟩ := rW
      obtain rfl := keyOf_ok hk
      cases h
      exact @open_view _ _ _ [] (open_nie r W x z) Paid.nil rfl rfl rfl rfl
    · cases h
  · cases h
theorem opY_okK {xs : List V} {o : List Bool} {v : AV} {bs : Mem} (h : openXK opYK xs = some (o, (v, bs))) (ho : Paid o) : ViewCall Try.prog 13 xs v bs := by
  refine openX_okK (fun r W l x o1 m a s n q o v bs h1 h ho => ?_) h ho
  cases h
  obtain ⟨q1, q2⟩ := paid_append.1 ho
  have h16 := of_decide_eq_true (q2 _ (List.mem_cons_self ..))
  have hP := of_decide_eq_true (q2 _ (List.mem_cons_of_mem _ (List.mem_cons_self ..)))
  have hB := q2 _ (List.mem_cons_of_mem _ (List.mem_cons_of_mem _ (List.mem_cons_self ..)))
  have hk := kN_eq hP
  intro ρ vs w ha hi
  cases ha with
  | cons _ _ u us a0 hs =>
  cases hs with
  | cons _ _ u1 us1 a1 hs =>
  cases hs with
  | cons _ _ u2 us2 a2 hs =>
  cases hs with
  | cons _ _ u3 us3 a3 hnn =>
  cases hnn
  obtain ⟨hq, hr⟩ := buf_arg hi 3 rfl
  unfold txt at h1
  split at h1 <;> cases h1
  · obtain ⟨e1, e2⟩ := buf_len hi (i := 2) rfl
    have hT : (kN n).toNat = n - 16 := by rw [hk]; omega
    have hcv : cvN W (rds r) l q (List.replicate (kN n).toNat 0) (kN n).toNat = cvL W (rds r) l q (n - 16) := by rw [cvN_eq _ _ _ _ _ _ (by rw [List.length_replicate]; exact Nat.le_refl _), List.drop_of_length_le (by rw [List.length_replicate]; exact Nat.le_refl _), List.append_nil, hT]
    have ev := open_ybufK r W l m a n q
    rw [hcv] at ev
    exact viewN_one mixed noCount (hop_okK.deep mixed noCount 100 5) (fun fn c hf hb => LOkN.none) (v := .tuple [.slice true 0 0 (n - 16) none 1, .int false .i64 0]) [false, false] 5 ev (paid_cons (decide_eq_true (by omega)) (paid_cons (by rw [hk]; simp; omega) (paid_cons (by rw [hk, decide_eq_true (by omega), decide_eq_true (by omega)]; rfl) (paid_cons (by rw [hk, decide_eq_true (by omega), decide_eq_true (by omega)]; rfl) (paid_cons (decide_eq_true (by omega)) (paid_cons (decide_eq_true (by rw [hk]; omega)) (paid_cons (q1 _ (List.mem_cons_self ..)) (paid_cons (decide_eq_true (by rw [hk]; omega)) (paid_cons (decide_eq_true (by rw [hk]; omega)) (paid_cons (decide_eq_true (by rw [shownF_eq hq hP h16, List.length_drop, hk]; omega)) (paid_cons (decide_eq_true (tagB_len ..)) (paid_cons (decide_eq_true (by rw [hk]; omega)) (paid_cons (rfl) (paid_cons (by rw [shownF_eq hq hP h16]; exact all8_of fun x hx => hr x (List.mem_of_mem_drop hx)) (paid_cons (x16_all8 _ _) (paid_cons (by rw [shownF_eq hq hP h16, e2, tagF_eq _ _ _ _ _ hP h16, Bool.not_not]; exact hB) (paid_cons (by rw [hk, decide_eq_true (by omega), decide_eq_true (by omega), decide_eq_true (by omega)]; rfl) (paid_cons (decide_eq_true (by rw [hk]; omega)) (paid_cons (decide_eq_true (by rw [hk]; omega)) (paid_cons (rfl) (paid_cons (decide_eq_true rfl) (paid_cons (decide_eq_true rfl) (paid_cons (decide_eq_true (by rw [hk]; omega)) (paid_cons (decide_eq_true (by rw [List.length_replicate]; exact Nat.le_refl _)) (Paid.nil))))))))))))))))))))))))) (Nat.le_of_ble_eq_true rfl) (by rw [hT]; rfl) rfl (.cons _ _ _ _ a0 (.cons _ _ _ _ a1 (.cons _ _ _ _ (marked true a2) (.cons _ _ _ _ (marked true a3) .nil)))) hi
  · have hT : (kN n).toNat = n - 16 := by rw [hk]; omega
    have hcv : cvN W (rds r) l q (List.replicate (kN n).toNat 0) (kN n).toNat = cvL W (rds r) l q (n - 16) := by rw [cvN_eq _ _ _ _ _ _ (by rw [List.length_replicate]; exact Nat.le_refl _), List.drop_of_length_le (by rw [List.length_replicate]; exact Nat.le_refl _), List.append_nil, hT]
    have ev := open_ynilK r W l n q
    rw [hcv] at ev
    exact viewN_one mixed noCount (hop_okK.deep mixed noCount 100 5) (fun fn c hf hb => LOkN.none) (v := .tuple [.slice true 0 0 (n - 16) none 1, .int false .i64 0]) [false, false] 5 ev (paid_cons (decide_eq_true (by omega)) (paid_cons (by rw [hk]; simp; omega) (paid_cons (by rw [hk, decide_eq_true (by omega), decide_eq_true (by omega)]; rfl) (paid_cons (by rw [hk, decide_eq_true (by omega), decide_eq_true (by omega)]; rfl) (paid_cons (decide_eq_true (by rw [hk]; omega)) (paid_cons (decide_eq_true (by rw [hk]; omega)) (paid_cons (decide_eq_true (by rw [hk]; omega)) (paid_cons (decide_eq_true (by rw [shownF_eq hq hP h16, List.length_drop, hk]; omega)) (paid_cons (decide_eq_true (tagB_len ..)) (paid_cons (decide_eq_true (by rw [hk]; omega)) (paid_cons (rfl) (paid_cons (by rw [shownF_eq hq hP h16]; exact all8_of fun x hx => hr x (List.mem_of_mem_drop hx)) (paid_cons (x16_all8 _ _) (paid_cons (by rw [shownF_eq hq hP h16, tagF_eq _ _ _ _ _ hP h16, Bool.not_not]; exact hB) (paid_cons (by rw [hk, decide_eq_true (by omega), decide_eq_true (by omega), decide_eq_true (by omega)]; rfl) (paid_cons (decide_eq_true (by rw [hk]; omega)) (paid_cons (decide_eq_true (by rw [hk]; omega)) (paid_cons (rfl) (paid_cons (decide_eq_true rfl) (paid_cons (decide_eq_true rfl) (paid_cons (decide_eq_true (by rw [hk]; omega)) (paid_cons (decide_eq_true (by rw [List.length_replicate]; exact Nat.le_refl _)) (Paid.nil))))))))))))))))))))))) (Nat.le_of_ble_eq_true rfl) (by rw [hT]; rfl) rfl (.cons _ _ _ _ a0 (.cons _ _ _ _ a1 (.cons _ _ _ _ a2 (.cons _ _ _ _ (marked true a3) .nil)))) hi
  · have hT : (kN n).toNat = n - 16 := by rw [hk]; omega
    have hcv : cvN W (rds r) l q (List.replicate (kN n).toNat 0) (kN n).toNat = cvL W (rds r) l q (n - 16) := by rw [cvN_eq _ _ _ _ _ _ (by rw [List.length_replicate]; exact Nat.le_refl _), List.drop_of_length_le (by rw [List.length_replicate]; exact Nat.le_refl _), List.append_nil, hT]
    have ev := open_yempK r W l n q
    rw [hcv] at ev
    exact viewN_one mixed noCount (hop_okK.deep mixed noCount 100 5) (fun fn c hf hb => LOkN.none) (v := .tuple [.slice true 0 0 (n - 16) none 1, .int false .i64 0]) [false, false] 5 ev (paid_cons (decide_eq_true (by omega)) (paid_cons (by rw [hk]; simp; omega) (paid_cons (by rw [hk, decide_eq_true (by omega), decide_eq_true (by omega)]; rfl) (paid_cons (by rw [hk, decide_eq_true (by omega), decide_eq_true (by omega)]; rfl) (paid_cons (decide_eq_true (by rw [hk]; omega)) (paid_cons (decide_eq_true (by rw [hk]; omega)) (paid_cons (decide_eq_true (by rw [hk]; omega)) (paid_cons (decide_eq_true (by rw [shownF_eq hq hP h16, List.length_drop, hk]; omega)) (paid_cons (decide_eq_true (tagB_len ..)) (paid_cons (decide_eq_true (by rw [hk]; omega)) (paid_cons (rfl) (paid_cons (by rw [shownF_eq hq hP h16]; exact all8_of fun x hx => hr x (List.mem_of_mem_drop hx)) (paid_cons (x16_all8 _ _) (paid_cons (by rw [shownF_eq hq hP h16, tagF_eq _ _ _ _ _ hP h16, Bool.not_not]; exact hB) (paid_cons (by rw [hk, decide_eq_true (by omega), decide_eq_true (by omega), decide_eq_true (by omega)]; rfl) (paid_cons (decide_eq_true (by rw [hk]; omega)) (paid_cons (decide_eq_true (by rw [hk]; omega)) (paid_cons (rfl) (paid_cons (decide_eq_true rfl) (paid_cons (decide_eq_true rfl) (paid_cons (decide_eq_true (by rw [hk]; omega)) (paid_cons (decide_eq_true (by rw [List.length_replicate]; exact Nat.le_refl _)) (Paid.nil))))))))))))))))))))))) (Nat.le_of_ble_eq_true rfl) (by rw [hT]; rfl) rfl (.cons _ _ _ _ a0 (.cons _ _ _ _ a1 (.cons _ _ _ _ a2 (.cons _ _ _ _ (marked true a3) .nil)))) hi
def hoYK : CallH := withV 13 (openXK opYK) hsS
theorem hoY_okK : HOk Try.prog hoYK := hsS_ok.withV fun _ _ _ _ h ho => opY_okK h ho
end Go.Proofs.Ytfmgodgakndjcaa
