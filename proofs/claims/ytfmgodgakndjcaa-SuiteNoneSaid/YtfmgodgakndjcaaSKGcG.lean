/- The program's gcm: Seal's contract. Own work. -/
import Derived.Test.YtfmgodgakndjcaaSKGcF
import Derived.Test.YtfmgodgakndjcaaSEvIn
set_option linter.unusedSimpArgs false
set_option linter.unusedVariables false
set_option linter.unusedSectionVars false
namespace Go.Gc
open Go.Ev Go.Sh Go.As
def wN (n : Nat) : Int := IntKind.i64.wrap ((n : Int) + 16)
def sealO (W : List Int) (r : Nat) (l p : List Int) (n : Nat) : List Int := cvN W r l p (List.replicate (wN n).toNat 0) n
def sealF (W : List Int) (r : Nat) (l a : List Int) (m : Nat) (p : List Int) (n : Nat) : List Int :=
  (sealO W r l p n).take (0 + n * 1) ++ (tagB W r l a m (((sealO W r l p n).drop (0 + 0 * 1)).take n) n).take (Nat.min 16 ((wN n).toNat - n)) ++ (sealO W r l p n).drop (0 + n * 1 + Nat.min 16 ((wN n).toNat - n))
/-- What is sealed. -/
def sealB (W : List Int) (r : Nat) (l a : List Int) (m : Nat) (p : List Int) (n : Nat) : List Int := cvL W r l p n ++ tagB W r l a m (cvL W r l p n) n
theorem x16_len (a b : List Int) : (x16 a b).length = 16 := by simp [x16]
theorem tagB_len (W : List Int) (r : Nat) (l a : List Int) (n : Nat) (q : List Int) (m : Nat) : (tagB W r l a n q m).length = 16 := x16_len _ _
theorem sealB_len (W : List Int) (r : Nat) (l a : List Int) (m : Nat) (p : List Int) (n : Nat) : (sealB W r l a m p n).length = n + 16 := by
  unfold sealB; rw [List.length_append, cvL_len, tagB_len]
theorem wN_eq {n : Nat} (h : n ≤ 140737488351232) : wN n = ((n + 16 : Nat) : Int) := by
  unfold wN IntKind.wrap; simp [IntKind.bits, IntKind.signed]; omega
theorem sealO_eq (W : List Int) (r : Nat) (l p : List Int) {n : Nat} (h : n ≤ 140737488351232) : sealO W r l p n = cvL W r l p n ++ List.replicate 16 0 := by
  unfold sealO
  rw [cvN_eq _ _ _ _ _ _ (by rw [wN_eq h, List.length_replicate]; omega), wN_eq h]
  congr 1
  rw [List.drop_replicate]
  congr 1
  omega
theorem sealF_eq (W : List Int) (r : Nat) (l a : List Int) (m : Nat) (p : List Int) {n : Nat} (h : n ≤ 140737488351232) : sealF W r l a m p n = sealB W r l a m p n := by
  have hl := cvL_len W r l p n
  have e0 : (wN n).toNat - n = 16 := by rw [wN_eq h]; omega
  have e1 : Nat.min 16 16 = 16 := rfl
  unfold sealF sealB
  rw [sealO_eq W r l p h, e0, e1, show 0 + n * 1 = n by omega, show 0 + 0 * 1 = 0 by omega, List.drop_zero]
  have t1 : (cvL W r l p n ++ List.replicate 16 0).take n = cvL W r l p n := by rw [List.take_append_of_le_length (by omega), List.take_of_length_le (by omega)]
  rw [t1, List.take_of_length_le (by rw [tagB_len]; omega), List.drop_of_length_le (by rw [List.length_append, hl, List.length_replicate]; omega), List.append_nil]
end Go.Gc
namespace Go.Proofs.Ytfmgodgakndjcaa
open Go.Ev Go.Sh Go.As Go.Gc
set_option maxRecDepth 100000
noncomputable def hslK : CallH := inL Try.prog qP (deep Try.prog qP he2 100 5) (cvΛSK fun _ _ => none) 100 43 [] he2
theorem hsl_okK : HOk Try.prog hslK := HOk.inL mixed noCount (he2_ok.deep mixed noCount 100 5) he2_ok 100 _ _ fun fn c hf hb => by rw [bodyOf_eq hf hb]; exact cvS_lokK LOk.none
theorem seal_no (y x z : V) : ((funcL Try.prog qP (deep Try.prog qP hslK 100 5) (fun _ _ => none) 100 16 (cArgs 0 [.pl .nilptr, y, x, z]) (cMem [.pl .nilptr, y, x, z])).go []).flat = some ([], (.tuple [.nilslice, .int false .i64 2], cMem [.pl .nilptr, y, x, z])) := by kernel_rfl
theorem seal_non (r : Bool) (W : List Int) (n : Nat) (l : List Int) (x z : V) : ((funcL Try.prog qP (deep Try.prog qP hslK 100 5) (fun _ _ => none) 100 16 (cArgs 0 [keyA r W, .buf true .u8 n l, x, z]) (cMem [keyA r W, .buf true .u8 n l, x, z])).go [true]).flat = some ([decide (n < 9223372036854775808), ((n : Int) != 12)], (.tuple [.nilslice, .int false .i64 2], cMem [keyA r W, .buf true .u8 n l, x, z])) := by cases r <;> kernel_rfl
theorem seal_nin (r : Bool) (W : List Int) (x z : V) : ((funcL Try.prog qP (deep Try.prog qP hslK 100 5) (fun _ _ => none) 100 16 (cArgs 0 [keyA r W, .pl .nilslice, x, z]) (cMem [keyA r W, .pl .nilslice, x, z])).go []).flat = some ([], (.tuple [.nilslice, .int false .i64 2], cMem [keyA r W, .pl .nilslice, x, z])) := by cases r <;> kernel_rfl
theorem seal_nie (r : Bool) (W : List Int) (x z : V) : ((funcL Try.prog qP (deep Try.prog qP hslK 100 5) (fun _ _ => none) 100 16 (cArgs 0 [keyA r W, .empty, x, z]) (cMem [keyA r W, .empty, x, z])).go []).flat = some ([], (.tuple [.nilslice, .int false .i64 2], cMem [keyA r W, .empty, x, z])) := by cases r <;> kernel_rfl
theorem seal_bufbuf (r : Bool) (W l : List Int) (m : Nat) (a : List Int) (n : Nat) (p : List Int) : seeV 4 ((funcL Try.prog qP (deep Try.prog qP hslK 100 5) (fun _ _ => none) 100 16 (cArgs 0 [keyA r W, .buf false .u8 12 l, .buf true .u8 m a, .buf true .u8 n p]) (cMem [keyA r W, .buf false .u8 12 l, .buf true .u8 m a, .buf true .u8 n p])).go []) = some ([decide (n < 9223372036854775808), decide (0 ≤ wN n) && decide (wN n ≤ wN n) && decide (wN n ≤ 281474976710656), decide (n < 9223372036854775808), decide ((0 : Int) ≤ (n : Int)) && decide ((n : Int) ≤ ((wN n).toNat : Int)), decide (n < 9223372036854775808), decide ((0 : Int) ≤ (n : Int)) && decide ((n : Int) ≤ ((wN n).toNat : Int)), decide (n < 9223372036854775808), decide (n < 9223372036854775807), true, decide (n = n), decide ((n : Int) = (n : Int)), decide (n ≤ n), decide (n ≤ (List.replicate (wN n).toNat (0 : Int)).length), decide (0 + m ≤ m), decide (0 + 0 * 1 + n ≤ (sealO W (rds r) l p n).length), decide (m < 9223372036854775808), decide (n < 9223372036854775808), decide ((wN n).toNat - n < 9223372036854775808), decide (0 + n * 1 + Nat.min 16 ((wN n).toNat - n) ≤ (sealO W (rds r) l p n).length)], .tuple [.slice true 4 0 (wN n).toNat none 1, .int false .i64 0], some (some ⟨true, .ints .u8 none (sealF W (rds r) l ((a.drop 0).take m) m p n)⟩)) := by cases r <;> kernel_rfl
theorem seal_bufnil (r : Bool) (W l : List Int) (m : Nat) (a : List Int) : seeV 4 ((funcL Try.prog qP (deep Try.prog qP hslK 100 5) (fun _ _ => none) 100 16 (cArgs 0 [keyA r W, .buf false .u8 12 l, .buf true .u8 m a, .pl .nilslice]) (cMem [keyA r W, .buf false .u8 12 l, .buf true .u8 m a, .pl .nilslice])).go []) = some ([decide (0 + m ≤ m), decide (m < 9223372036854775808)], .tuple [.slice false 4 0 16 (some 16) 1, .int false .i64 0], some (some ⟨true, .ints .u8 (some 16) (tagB W (rds r) l ((a.drop 0).take m) m [] 0)⟩)) := by cases r <;> kernel_rfl
theorem seal_bufemp (r : Bool) (W l : List Int) (m : Nat) (a : List Int) : seeV 4 ((funcL Try.prog qP (deep Try.prog qP hslK 100 5) (fun _ _ => none) 100 16 (cArgs 0 [keyA r W, .buf false .u8 12 l, .buf true .u8 m a, .empty]) (cMem [keyA r W, .buf false .u8 12 l, .buf true .u8 m a, .empty])).go []) = some ([decide (0 + m ≤ m), decide (m < 9223372036854775808)], .tuple [.slice false 4 0 16 (some 16) 1, .int false .i64 0], some (some ⟨true, .ints .u8 (some 16) (tagB W (rds r) l ((a.drop 0).take m) m [] 0)⟩)) := by cases r <;> kernel_rfl
theorem seal_nilbuf (r : Bool) (W l : List Int) (n : Nat) (p : List Int) : seeV 4 ((funcL Try.prog qP (deep Try.prog qP hslK 100 5) (fun _ _ => none) 100 16 (cArgs 0 [keyA r W, .buf false .u8 12 l, .pl .nilslice, .buf true .u8 n p]) (cMem [keyA r W, .buf false .u8 12 l, .pl .nilslice, .buf true .u8 n p])).go []) = some ([decide (n < 9223372036854775808), decide (0 ≤ wN n) && decide (wN n ≤ wN n) && decide (wN n ≤ 281474976710656), decide (n < 9223372036854775808), decide ((0 : Int) ≤ (n : Int)) && decide ((n : Int) ≤ ((wN n).toNat : Int)), decide (n < 9223372036854775808), decide ((0 : Int) ≤ (n : Int)) && decide ((n : Int) ≤ ((wN n).toNat : Int)), decide (n < 9223372036854775808), decide (n < 9223372036854775807), true, decide (n = n), decide ((n : Int) = (n : Int)), decide (n ≤ n), decide (n ≤ (List.replicate (wN n).toNat (0 : Int)).length), decide (0 + 0 * 1 + n ≤ (sealO W (rds r) l p n).length), decide (n < 9223372036854775808), decide ((wN n).toNat - n < 9223372036854775808), decide (0 + n * 1 + Nat.min 16 ((wN n).toNat - n) ≤ (sealO W (rds r) l p n).length)], .tuple [.slice true 4 0 (wN n).toNat none 1, .int false .i64 0], some (some ⟨true, .ints .u8 none (sealF W (rds r) l [] 0 p n)⟩)) := by cases r <;> kernel_rfl
theorem seal_nilnil (r : Bool) (W l : List Int) : seeV 4 ((funcL Try.prog qP (deep Try.prog qP hslK 100 5) (fun _ _ => none) 100 16 (cArgs 0 [keyA r W, .buf false .u8 12 l, .pl .nilslice, .pl .nilslice]) (cMem [keyA r W, .buf false .u8 12 l, .pl .nilslice, .pl .nilslice])).go []) = some ([], .tuple [.slice false 4 0 16 (some 16) 1, .int false .i64 0], some (some ⟨true, .ints .u8 (some 16) (tagB W (rds r) l [] 0 [] 0)⟩)) := by cases r <;> kernel_rfl
theorem seal_nilemp (r : Bool) (W l : List Int) : seeV 4 ((funcL Try.prog qP (deep Try.prog qP hslK 100 5) (fun _ _ => none) 100 16 (cArgs 0 [keyA r W, .buf false .u8 12 l, .pl .nilslice, .empty]) (cMem [keyA r W, .buf false .u8 12 l, .pl .nilslice, .empty])).go []) = some ([], .tuple [.slice false 4 0 16 (some 16) 1, .int false .i64 0], some (some ⟨true, .ints .u8 (some 16) (tagB W (rds r) l [] 0 [] 0)⟩)) := by cases r <;> kernel_rfl
theorem seal_empbuf (r : Bool) (W l : List Int) (n : Nat) (p : List Int) : seeV 4 ((funcL Try.prog qP (deep Try.prog qP hslK 100 5) (fun _ _ => none) 100 16 (cArgs 0 [keyA r W, .buf false .u8 12 l, .empty, .buf true .u8 n p]) (cMem [keyA r W, .buf false .u8 12 l, .empty, .buf true .u8 n p])).go []) = some ([decide (n < 9223372036854775808), decide (0 ≤ wN n) && decide (wN n ≤ wN n) && decide (wN n ≤ 281474976710656), decide (n < 9223372036854775808), decide ((0 : Int) ≤ (n : Int)) && decide ((n : Int) ≤ ((wN n).toNat : Int)), decide (n < 9223372036854775808), decide ((0 : Int) ≤ (n : Int)) && decide ((n : Int) ≤ ((wN n).toNat : Int)), decide (n < 9223372036854775808), decide (n < 9223372036854775807), true, decide (n = n), decide ((n : Int) = (n : Int)), decide (n ≤ n), decide (n ≤ (List.replicate (wN n).toNat (0 : Int)).length), decide (0 + 0 * 1 + n ≤ (sealO W (rds r) l p n).length), decide (n < 9223372036854775808), decide ((wN n).toNat - n < 9223372036854775808), decide (0 + n * 1 + Nat.min 16 ((wN n).toNat - n) ≤ (sealO W (rds r) l p n).length)], .tuple [.slice true 4 0 (wN n).toNat none 1, .int false .i64 0], some (some ⟨true, .ints .u8 none (sealF W (rds r) l [] 0 p n)⟩)) := by cases r <;> kernel_rfl
theorem seal_empnil (r : Bool) (W l : List Int) : seeV 4 ((funcL Try.prog qP (deep Try.prog qP hslK 100 5) (fun _ _ => none) 100 16 (cArgs 0 [keyA r W, .buf false .u8 12 l, .empty, .pl .nilslice]) (cMem [keyA r W, .buf false .u8 12 l, .empty, .pl .nilslice])).go []) = some ([], .tuple [.slice false 4 0 16 (some 16) 1, .int false .i64 0], some (some ⟨true, .ints .u8 (some 16) (tagB W (rds r) l [] 0 [] 0)⟩)) := by cases r <;> kernel_rfl
theorem seal_empemp (r : Bool) (W l : List Int) : seeV 4 ((funcL Try.prog qP (deep Try.prog qP hslK 100 5) (fun _ _ => none) 100 16 (cArgs 0 [keyA r W, .buf false .u8 12 l, .empty, .empty]) (cMem [keyA r W, .buf false .u8 12 l, .empty, .empty])).go []) = some ([], .tuple [.slice false 4 0 16 (some 16) 1, .int false .i64 0], some (some ⟨true, .ints .u8 (some 16) (tagB W (rds r) l [] 0 [] 0)⟩)) := by cases r <;> kernel_rfl
def txtN : V → Option (List Bool × Nat × List Int)
  | .buf _ .u8 n l => some ([decide (n ≤ 140737488351232)], n, l)
  | _ => none
def nonE : V → Bool
  | .pl .nilslice => true
  | .empty => true
  | _ => false
def sealS : List V → E (AV × Mem)
  | [.pl .nilptr, _, _, _] => some ([], (.tuple [.nilslice, .int false .i64 2], []))
  | [k, .buf false .u8 12 l, x, z] => match keyOf? k, txt x with
    | some (r, W), some (o1, m, a) => (match txtN z with
      | some (o2, n, p) => some (o1 ++ o2, (.tuple [.slice true 0 0 (n + 16) none 1, .int false .i64 0], [some ⟨true, .ints .u8 none (sealB W (rds r) l a m p n)⟩]))
      | none => match nonE z with
        | true => some (o1, (.tuple [.slice false 0 0 16 (some 16) 1, .int false .i64 0], [some ⟨true, .ints .u8 (some 16) (tagB W (rds r) l a m [] 0)⟩]))
        | false => none)
    | _, _ => none
  | [k, .buf true .u8 n _, _, _] => match keyOf? k with
    | some _ => some ([decide (n < 9223372036854775808), !decide (n = 12)], (.tuple [.nilslice, .int false .i64 2], []))
    | none => none
  | [k, .pl .nilslice, _, _] => match keyOf? k with
    | some _ => some ([], (.tuple [.nilslice, .int false .i64 2], []))
    | none => none
  | [k, .empty, _, _] => match keyOf? k with
    | some _ => some ([], (.tuple [.nilslice, .int false .i64 2], []))
    | none => none
  | _ => none
theorem seal_ok {xs : List V} {o : List Bool} {v : AV} {bs : Mem} (h : sealS xs = some (o, (v, bs))) (ho : Paid o) : ViewCall Try.prog 16 xs v bs := by
  have LO : ∀ (k0 : Nat) (fn : Func) (c : Code), Try.prog.funcs[16]? = some fn → fn.body = some c → LOkN k0 Try.prog c (fun _ _ => none) := fun k0 fn c hf hb => LOkN.none
  unfold sealS at h
  split at h
  · rename_i y x z
    cases h
    exact @viewN_of_go _ _ _ _ _ mixed noCount (hsl_okK.deep mixed noCount 100 5) _ _ _ (LO _) _ _ _ _ _ [] (seal_no y x z) Paid.nil rfl rfl rfl
  · rename_i k l x z _
    split at h
    · rename_i r W o1 m a hk h1
      obtain rfl := keyOf_ok hk
      have hx : (∃ s, x = .buf s .u8 m a ∧ o1 = [decide (m < 9223372036854775808)]) ∨ ((x = .pl .nilslice ∨ x = .empty) ∧ m = 0 ∧ a = [] ∧ o1 = []) := by
        unfold txt at h1
        split at h1 <;> cases h1
        · exact Or.inl ⟨_, rfl, rfl⟩
        · exact Or.inr ⟨Or.inl rfl, rfl, rfl, rfl⟩
        · exact Or.inr ⟨Or.inr rfl, rfl, rfl, rfl⟩
      split at h
      · rename_i o2 n p h2
        cases h
        obtain ⟨q1, q2⟩ := paid_append.1 ho
        obtain ⟨s2, rfl, rfl⟩ : ∃ s, z = .buf s .u8 n p ∧ o2 = [decide (n ≤ 140737488351232)] := by
          unfold txtN at h2
          split at h2 <;> cases h2
          exact ⟨_, rfl, rfl⟩
        have hn := of_decide_eq_true (q2 _ (List.mem_cons_self ..))
        have hw := wN_eq hn
        have hO : (sealO W (rds r) l p n).length = n + 16 := by rw [sealO_eq _ _ _ _ hn, List.length_append, cvL_len, List.length_replicate]
        intro ρ vs w ha hi
        cases ha with
        | cons _ _ u us a0 hs =>
        cases hs with
        | cons _ _ u1 us1 a1 hs =>
        cases hs with
        | cons _ _ u2 us2 a2 hs =>
        cases hs with
        | cons _ _ u3 us3 a3 hnn =>
        cases hnn
        rcases hx with ⟨s, rfl, rfl⟩ | ⟨rfl | rfl, rfl, rfl, rfl⟩
        · obtain ⟨e1, e2⟩ := buf_len hi (i := 2) rfl
          have ev := seal_bufbuf r W l m a n p
          rw [e2, sealF_eq _ _ _ _ _ _ hn, hw] at ev
          exact viewN_one mixed noCount (hsl_okK.deep mixed noCount 100 5) (LO _) (v := .tuple [.slice true 0 0 (n + 16) none 1, .int false .i64 0]) [] 4 ev (by rw [← hw]; exact paid_cons (decide_eq_true (by omega)) (paid_cons (by rw [hw, decide_eq_true (by omega), decide_eq_true (by omega), decide_eq_true (by omega)]; rfl) (paid_cons (decide_eq_true (by omega)) (paid_cons (by rw [decide_eq_true (by omega), decide_eq_true (by rw [hw]; omega)]; rfl) (paid_cons (decide_eq_true (by omega)) (paid_cons (by rw [decide_eq_true (by omega), decide_eq_true (by rw [hw]; omega)]; rfl) (paid_cons (decide_eq_true (by omega)) (paid_cons (decide_eq_true (by omega)) (paid_cons (rfl) (paid_cons (decide_eq_true rfl) (paid_cons (decide_eq_true rfl) (paid_cons (decide_eq_true (Nat.le_refl _)) (paid_cons (decide_eq_true (by rw [List.length_replicate, hw]; omega)) (paid_cons (decide_eq_true (by omega)) (paid_cons (decide_eq_true (by rw [hO]; omega)) (paid_cons (q1 _ (List.mem_cons_self ..)) (paid_cons (decide_eq_true (by omega)) (paid_cons (decide_eq_true (by rw [hw]; omega)) (paid_cons (decide_eq_true (by rw [hO, hw, show ((n + 16 : Nat) : Int).toNat - n = 16 by omega, show Nat.min 16 16 = 16 from rfl]; omega)) (Paid.nil)))))))))))))))))))) (Nat.le_refl _) rfl rfl (.cons _ _ _ _ a0 (.cons _ _ _ _ a1 (.cons _ _ _ _ (marked true a2) (.cons _ _ _ _ (marked true a3) .nil)))) hi
        · have ev := seal_nilbuf r W l n p
          rw [sealF_eq _ _ _ _ _ _ hn, hw] at ev
          exact viewN_one mixed noCount (hsl_okK.deep mixed noCount 100 5) (LO _) (v := .tuple [.slice true 0 0 (n + 16) none 1, .int false .i64 0]) [] 4 ev (by rw [← hw]; exact paid_cons (decide_eq_true (by omega)) (paid_cons (by rw [hw, decide_eq_true (by omega), decide_eq_true (by omega), decide_eq_true (by omega)]; rfl) (paid_cons (decide_eq_true (by omega)) (paid_cons (by rw [decide_eq_true (by omega), decide_eq_true (by rw [hw]; omega)]; rfl) (paid_cons (decide_eq_true (by omega)) (paid_cons (by rw [decide_eq_true (by omega), decide_eq_true (by rw [hw]; omega)]; rfl) (paid_cons (decide_eq_true (by omega)) (paid_cons (decide_eq_true (by omega)) (paid_cons (rfl) (paid_cons (decide_eq_true rfl) (paid_cons (decide_eq_true rfl) (paid_cons (decide_eq_true (Nat.le_refl _)) (paid_cons (decide_eq_true (by rw [List.length_replicate, hw]; omega)) (paid_cons (decide_eq_true (by rw [hO]; omega)) (paid_cons (decide_eq_true (by omega)) (paid_cons (decide_eq_true (by rw [hw]; omega)) (paid_cons (decide_eq_true (by rw [hO, hw, show ((n + 16 : Nat) : Int).toNat - n = 16 by omega, show Nat.min 16 16 = 16 from rfl]; omega)) (Paid.nil)))))))))))))))))) (Nat.le_refl _) rfl rfl (.cons _ _ _ _ a0 (.cons _ _ _ _ a1 (.cons _ _ _ _ a2 (.cons _ _ _ _ (marked true a3) .nil)))) hi
        · have ev := seal_empbuf r W l n p
          rw [sealF_eq _ _ _ _ _ _ hn, hw] at ev
          exact viewN_one mixed noCount (hsl_okK.deep mixed noCount 100 5) (LO _) (v := .tuple [.slice true 0 0 (n + 16) none 1, .int false .i64 0]) [] 4 ev (by rw [← hw]; exact paid_cons (decide_eq_true (by omega)) (paid_cons (by rw [hw, decide_eq_true (by omega), decide_eq_true (by omega), decide_eq_true (by omega)]; rfl) (paid_cons (decide_eq_true (by omega)) (paid_cons (by rw [decide_eq_true (by omega), decide_eq_true (by rw [hw]; omega)]; rfl) (paid_cons (decide_eq_true (by omega)) (paid_cons (by rw [decide_eq_true (by omega), decide_eq_true (by rw [hw]; omega)]; rfl) (paid_cons (decide_eq_true (by omega)) (paid_cons (decide_eq_true (by omega)) (paid_cons (rfl) (paid_cons (decide_eq_true rfl) (paid_cons (decide_eq_true rfl) (paid_cons (decide_eq_true (Nat.le_refl _)) (paid_cons (decide_eq_true (by rw [List.length_replicate, hw]; omega)) (paid_cons (decide_eq_true (by rw [hO]; omega)) (paid_cons (decide_eq_true (by omega)) (paid_cons (decide_eq_true (by rw [hw]; omega)) (paid_cons (decide_eq_true (by rw [hO, hw, show ((n + 16 : Nat) : Int).toNat - n = 16 by omega, show Nat.min 16 16 = 16 from rfl]; omega)) (Paid.nil)))))))))))))))))) (Nat.le_refl _) rfl rfl (.cons _ _ _ _ a0 (.cons _ _ _ _ a1 (.cons _ _ _ _ a2 (.cons _ _ _ _ (marked true a3) .nil)))) hi
      · split at h
        · rename_i h2 h3
          cases h
          have hz : z = .pl .nilslice ∨ z = .empty := by
            unfold nonE at h3
            split at h3
            · exact Or.inl rfl
            · exact Or.inr rfl
            · cases h3
          have q1 := ho
          intro ρ vs w ha hi
          cases ha with
          | cons _ _ u us a0 hs =>
          cases hs with
          | cons _ _ u1 us1 a1 hs =>
          cases hs with
          | cons _ _ u2 us2 a2 hs =>
          cases hs with
          | cons _ _ u3 us3 a3 hnn =>
          cases hnn
          rcases hx with ⟨s, rfl, rfl⟩ | ⟨rfl | rfl, rfl, rfl, rfl⟩ <;> rcases hz with rfl | rfl
          · obtain ⟨e1, e2⟩ := buf_len hi (i := 2) rfl
            have ev := seal_bufnil r W l m a
            rw [e2] at ev
            exact viewN_one mixed noCount (hsl_okK.deep mixed noCount 100 5) (LO _) (v := .tuple [.slice false 0 0 16 (some 16) 1, .int false .i64 0]) [] 4 ev (paid_cons (decide_eq_true (by omega)) (paid_cons (q1 _ (List.mem_cons_self ..)) (Paid.nil))) (Nat.le_refl _) rfl rfl (.cons _ _ _ _ a0 (.cons _ _ _ _ a1 (.cons _ _ _ _ (marked true a2) (.cons _ _ _ _ a3 .nil)))) hi
          · obtain ⟨e1, e2⟩ := buf_len hi (i := 2) rfl
            have ev := seal_bufemp r W l m a
            rw [e2] at ev
            exact viewN_one mixed noCount (hsl_okK.deep mixed noCount 100 5) (LO _) (v := .tuple [.slice false 0 0 16 (some 16) 1, .int false .i64 0]) [] 4 ev (paid_cons (decide_eq_true (by omega)) (paid_cons (q1 _ (List.mem_cons_self ..)) (Paid.nil))) (Nat.le_refl _) rfl rfl (.cons _ _ _ _ a0 (.cons _ _ _ _ a1 (.cons _ _ _ _ (marked true a2) (.cons _ _ _ _ a3 .nil)))) hi
          · have ev := seal_nilnil r W l
            exact viewN_one mixed noCount (hsl_okK.deep mixed noCount 100 5) (LO _) (v := .tuple [.slice false 0 0 16 (some 16) 1, .int false .i64 0]) [] 4 ev (Paid.nil) (Nat.le_refl _) rfl rfl (.cons _ _ _ _ a0 (.cons _ _ _ _ a1 (.cons _ _ _ _ a2 (.cons _ _ _ _ a3 .nil)))) hi
          · have ev := seal_nilemp r W l
            exact viewN_one mixed noCount (hsl_okK.deep mixed noCount 100 5) (LO _) (v := .tuple [.slice false 0 0 16 (some 16) 1, .int false .i64 0]) [] 4 ev (Paid.nil) (Nat.le_refl _) rfl rfl (.cons _ _ _ _ a0 (.cons _ _ _ _ a1 (.cons _ _ _ _ a2 (.cons _ _ _ _ a3 .nil)))) hi
          · have ev := seal_empnil r W l
            exact viewN_one mixed noCount (hsl_okK.deep mixed noCount 100 5) (LO _) (v := .tuple [.slice false 0 0 16 (some 16) 1, .int false .i64 0]) [] 4 ev (Paid.nil) (Nat.le_refl _) rfl rfl (.cons _ _ _ _ a0 (.cons _ _ _ _ a1 (.cons _ _ _ _ a2 (.cons _ _ _ _ a3 .nil)))) hi
          · have ev := seal_empemp r W l
            exact viewN_one mixed noCount (hsl_okK.deep mixed noCount 100 5) (LO _) (v := .tuple [.slice false 0 0 16 (some 16) 1, .int false .i64 0]) [] 4 ev (Paid.nil) (Nat.le_refl _) rfl rfl (.cons _ _ _ _ a0 (.cons _ _ _ _ a1 (.cons _ _ _ _ a2 (.cons _ _ _ _ a3 .nil)))) hi
        · cases h
    · cases h
  · rename_i k n l x z _
    split at h
    · rename_i rW hk
      obtain ⟨r, W⟩ := rW
      obtain rfl := keyOf_ok hk
      cases h
      have o2 := ho _ (List.mem_cons_of_mem _ (List.mem_cons_self ..))
      have e1 : ((n : Int) != 12) = true := by simp at o2 ⊢; omega
      exact @viewN_of_go _ _ _ _ _ mixed noCount (hsl_okK.deep mixed noCount 100 5) _ _ _ (LO _) _ _ _ _ _ [true] (seal_non r W n l x z) (paid_cons (ho _ (List.mem_cons_self ..)) (paid_cons e1 Paid.nil)) rfl rfl rfl
    · cases h
  · rename_i k x z _
    split at h
    · rename_i rW hk
      obtain ⟨r, W⟩ := rW
      obtain rfl := keyOf_ok hk
      cases h
      exact @viewN_of_go _ _ _ _ _ mixed noCount (hsl_okK.deep mixed noCount 100 5) _ _ _ (LO _) _ _ _ _ _ [] (seal_nin r W x z) Paid.nil rfl rfl rfl
    · cases h
  · rename_i k x z _
    split at h
    · rename_i rW hk
      obtain ⟨r, W⟩ := rW
      obtain rfl := keyOf_ok hk
      cases h
      exact @viewN_of_go _ _ _ _ _ mixed noCount (hsl_okK.deep mixed noCount 100 5) _ _ _ (LO _) _ _ _ _ _ [] (seal_nie r W x z) Paid.nil rfl rfl rfl
    · cases h
  · cases h
def hsS : CallH := withV 16 sealS he2
theorem hsS_ok : HOk Try.prog hsS := he2_ok.withV fun _ _ _ _ h ho => seal_ok h ho
end Go.Proofs.Ytfmgodgakndjcaa
