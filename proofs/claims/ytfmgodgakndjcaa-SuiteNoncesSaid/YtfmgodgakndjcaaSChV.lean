/- The program's Seal: its contract. Own work. -/
import Derived.Test.YtfmgodgakndjcaaSChU
import Derived.Test.YtfmgodgakndjcaaSChN
set_option linter.unusedSimpArgs false
set_option linter.unusedVariables false
set_option linter.unusedSectionVars false
namespace Go.Ch
open Go.Ev Go.Sh
def wN (n : Nat) : Int := IntKind.i64.wrap ((n : Int) + 16)
def sealO (x p : List Int) (n : Nat) : List Int := cvN x 1 p (List.replicate (wN n).toNat 0) n
def sealF (x a p : List Int) (n : Nat) : List Int :=
  (sealO x p n).take (0 + n * 1) ++ (tagC x a (((sealO x p n).drop (0 + 0 * 1)).take n)).take (Nat.min 16 ((wN n).toNat - n)) ++ (sealO x p n).drop (0 + n * 1 + Nat.min 16 ((wN n).toNat - n))
/-- What is sealed. -/
def sealC (x a p : List Int) : List Int := cvL x 1 p p.length ++ tagC x a (cvL x 1 p p.length)
theorem sealC_len (x a p : List Int) : (sealC x a p).length = p.length + 16 := by
  unfold sealC; rw [List.length_append, cvL_len, tagC_len]
theorem wN_eq {n : Nat} (h : n ≤ 140737488351232) : wN n = ((n + 16 : Nat) : Int) := by
  unfold wN IntKind.wrap; simp [IntKind.bits, IntKind.signed]; omega
theorem sealO_eq (x p : List Int) {n : Nat} (h : n ≤ 140737488351232) : sealO x p n = cvL x 1 p n ++ List.replicate 16 0 := by
  unfold sealO
  rw [cvN_eq _ _ _ _ _ (by rw [wN_eq h, List.length_replicate]; omega), wN_eq h]
  congr 1
  rw [List.drop_replicate]
  congr 1
  omega
theorem sealF_eq (x a p : List Int) {n : Nat} (h : n ≤ 140737488351232) (hp : p.length = n) : sealF x a p n = sealC x a p := by
  have hl := cvL_len x 1 p n
  have e0 : (wN n).toNat - n = 16 := by rw [wN_eq h]; omega
  have e1 : Nat.min 16 16 = 16 := rfl
  unfold sealF sealC
  rw [hp, sealO_eq x p h, e0, e1, show 0 + n * 1 = n by omega, show 0 + 0 * 1 = 0 by omega, List.drop_zero]
  have t1 : (cvL x 1 p n ++ List.replicate 16 0).take n = cvL x 1 p n := by rw [List.take_append_of_le_length (by omega), List.take_of_length_le (by omega)]
  rw [t1, List.take_of_length_le (by rw [tagC_len]; omega), List.drop_of_length_le (by rw [List.length_append, hl, List.length_replicate]; omega), List.append_nil]
end Go.Ch
namespace Go.Proofs.Ytfmgodgakndjcaa
open Go.Ev Go.Sh Go.Ch
set_option maxRecDepth 100000
noncomputable def hsl : CallH := inL Try.prog qC (deep Try.prog qC hq4 100 5) (cvΛS fun _ _ => none) 100 49 [] hq6
theorem hsl_ok : HOk Try.prog hsl := HOk.inL mixed noCount (hq4_ok.deep mixed noCount 100 5) hq6_ok 100 _ _ fun fn c hf hb => by rw [bodyOf_eq hf hb]; exact cvS_lok LOk.none
theorem se_kbn (n : Nat) (k : List Int) (y : V) (z : V) : seeV 50 ((funcL Try.prog qD (deep Try.prog qD hsl 100 5) (fun _ _ => none) 100 19 (cArgs 0 [.buf true .u8 n k, .pl .nilslice, y, z]) (cMem [.buf true .u8 n k, .pl .nilslice, y, z])).go [true]) = some ([decide (n < 9223372036854775808), (!(!((n : Int) != 32)) || !((n : Int) != 32)), (!(!((n : Int) != 32)) || !((n : Int) != 32)), (((n : Int) != 32) || !((n : Int) != 32)), (match ((n : Int) != 32) with | true => true | false => (0 : Int) != 12)], .tuple [.nilslice, .int false .i64 2], none) := by kernel_rfl
theorem se_kbe (n : Nat) (k : List Int) (y : V) (z : V) : seeV 50 ((funcL Try.prog qD (deep Try.prog qD hsl 100 5) (fun _ _ => none) 100 19 (cArgs 0 [.buf true .u8 n k, .empty, y, z]) (cMem [.buf true .u8 n k, .empty, y, z])).go [true]) = some ([decide (n < 9223372036854775808), (!(!((n : Int) != 32)) || !((n : Int) != 32)), (!(!((n : Int) != 32)) || !((n : Int) != 32)), (((n : Int) != 32) || !((n : Int) != 32)), (match ((n : Int) != 32) with | true => true | false => ((0 : Nat) : Int) != 12)], .tuple [.nilslice, .int false .i64 2], none) := by kernel_rfl
theorem se_kbb (n : Nat) (k : List Int) (m : Nat) (l : List Int) (y : V) (z : V) : seeV 50 ((funcL Try.prog qD (deep Try.prog qD hsl 100 5) (fun _ _ => none) 100 19 (cArgs 0 [.buf true .u8 n k, .buf true .u8 m l, y, z]) (cMem [.buf true .u8 n k, .buf true .u8 m l, y, z])).go [true]) = some ([decide (n < 9223372036854775808), (!(!((n : Int) != 32)) || decide (m < 9223372036854775808)), (!(!((n : Int) != 32)) || !((n : Int) != 32)), (!(!((n : Int) != 32)) || !((n : Int) != 32)), (((n : Int) != 32) || !((n : Int) != 32)), (match ((n : Int) != 32) with | true => true | false => (m : Int) != 12)], .tuple [.nilslice, .int false .i64 2], none) := by kernel_rfl
theorem se_kn (y0 : V) (y : V) (z : V) : seeV 50 ((funcL Try.prog qD (deep Try.prog qD hsl 100 5) (fun _ _ => none) 100 19 (cArgs 0 [.pl .nilslice, y0, y, z]) (cMem [.pl .nilslice, y0, y, z])).go []) = some ([], .tuple [.nilslice, .int false .i64 2], none) := by kernel_rfl
theorem se_ke (y0 : V) (y : V) (z : V) : seeV 50 ((funcL Try.prog qD (deep Try.prog qD hsl 100 5) (fun _ _ => none) 100 19 (cArgs 0 [.empty, y0, y, z]) (cMem [.empty, y0, y, z])).go []) = some ([], .tuple [.nilslice, .int false .i64 2], none) := by kernel_rfl
theorem se_nb (k : List Int) (n : Nat) (l : List Int) (y : V) (z : V) : seeV 50 ((funcL Try.prog qD (deep Try.prog qD hsl 100 5) (fun _ _ => none) 100 19 (cArgs 0 [.buf false .u8 32 k, .buf true .u8 n l, y, z]) (cMem [.buf false .u8 32 k, .buf true .u8 n l, y, z])).go [true]) = some ([decide (n < 9223372036854775808), ((n : Int) != 12)], .tuple [.nilslice, .int false .i64 2], none) := by kernel_rfl
theorem se_nn (k : List Int) (y : V) (z : V) : seeV 50 ((funcL Try.prog qD (deep Try.prog qD hsl 100 5) (fun _ _ => none) 100 19 (cArgs 0 [.buf false .u8 32 k, .pl .nilslice, y, z]) (cMem [.buf false .u8 32 k, .pl .nilslice, y, z])).go []) = some ([], .tuple [.nilslice, .int false .i64 2], none) := by kernel_rfl
theorem se_ne (k : List Int) (y : V) (z : V) : seeV 50 ((funcL Try.prog qD (deep Try.prog qD hsl 100 5) (fun _ _ => none) 100 19 (cArgs 0 [.buf false .u8 32 k, .empty, y, z]) (cMem [.buf false .u8 32 k, .empty, y, z])).go []) = some ([], .tuple [.nilslice, .int false .i64 2], none) := by kernel_rfl
theorem se_bad {K N : V} {o : List Bool} (h : badS K N = some o) (ho : Paid o) (y : V) (z : V) : ViewCall Try.prog 19 [K, N, y, z] (.tuple [.nilslice, .int false .i64 2]) [] := by
  unfold badS at h
  split at h
  · rename_i k hk
    obtain rfl := isK_ok hk
    rcases notL_ok h with ⟨rfl, rfl⟩ | ⟨rfl, rfl⟩ | ⟨n, l, rfl, rfl⟩
    · intro ρ vs w ha hi; exact viewN_none mixed noCount (hsl_ok.deep mixed noCount 100 5) (lo0 _) (v := .tuple [.nilslice, .int false .i64 2]) [] 50 (se_nn k y z) (Paid.nil) rfl rfl rfl rfl ha hi
    · intro ρ vs w ha hi; exact viewN_none mixed noCount (hsl_ok.deep mixed noCount 100 5) (lo0 _) (v := .tuple [.nilslice, .int false .i64 2]) [] 50 (se_ne k y z) (Paid.nil) rfl rfl rfl rfl ha hi
    · have o2 := ho _ (List.mem_cons_of_mem _ (List.mem_cons_self ..))
      have e1 : ((n : Int) != 12) = true := by simp at o2 ⊢; omega
      intro ρ vs w ha hi; exact viewN_none mixed noCount (hsl_ok.deep mixed noCount 100 5) (lo0 _) (v := .tuple [.nilslice, .int false .i64 2]) [true] 50 (se_nb k n l y z) (paid_cons (ho _ (List.mem_cons_self ..)) (paid_cons e1 Paid.nil)) rfl rfl rfl rfl ha hi
  · split at h
    · rename_i o1 o2 hK hN
      cases h
      obtain ⟨q1, q2⟩ := paid_append.1 ho
      rcases notL_ok hK with ⟨rfl, rfl⟩ | ⟨rfl, rfl⟩ | ⟨n, k, rfl, rfl⟩
      · intro ρ vs w ha hi; exact viewN_none mixed noCount (hsl_ok.deep mixed noCount 100 5) (lo0 _) (v := .tuple [.nilslice, .int false .i64 2]) [] 50 (se_kn N y z) (Paid.nil) rfl rfl rfl rfl ha hi
      · intro ρ vs w ha hi; exact viewN_none mixed noCount (hsl_ok.deep mixed noCount 100 5) (lo0 _) (v := .tuple [.nilslice, .int false .i64 2]) [] 50 (se_ke N y z) (Paid.nil) rfl rfl rfl rfl ha hi
      · have r1 := q1 _ (List.mem_cons_self ..)
        have r2 := q1 _ (List.mem_cons_of_mem _ (List.mem_cons_self ..))
        have hA : ((n : Int) != 32) = true := by simp at r2 ⊢; omega
        rcases anyL_ok hN with ⟨rfl, rfl⟩ | ⟨rfl, rfl⟩ | ⟨m, l, rfl, rfl⟩
        · intro ρ vs w ha hi; exact viewN_none mixed noCount (hsl_ok.deep mixed noCount 100 5) (lo0 _) (v := .tuple [.nilslice, .int false .i64 2]) [true] 50 (se_kbn n k y z) (paid_cons r1 (paid_cons (by cases ((n : Int) != 32) <;> rfl) (paid_cons (by cases ((n : Int) != 32) <;> rfl) (paid_cons (by cases ((n : Int) != 32) <;> rfl) (paid_cons (by rw [hA]) Paid.nil))))) rfl rfl rfl rfl ha hi
        · intro ρ vs w ha hi; exact viewN_none mixed noCount (hsl_ok.deep mixed noCount 100 5) (lo0 _) (v := .tuple [.nilslice, .int false .i64 2]) [true] 50 (se_kbe n k y z) (paid_cons r1 (paid_cons (by cases ((n : Int) != 32) <;> rfl) (paid_cons (by cases ((n : Int) != 32) <;> rfl) (paid_cons (by cases ((n : Int) != 32) <;> rfl) (paid_cons (by rw [hA]) Paid.nil))))) rfl rfl rfl rfl ha hi
        · intro ρ vs w ha hi; exact viewN_none mixed noCount (hsl_ok.deep mixed noCount 100 5) (lo0 _) (v := .tuple [.nilslice, .int false .i64 2]) [true] 50 (se_kbb n k m l y z) (paid_cons r1 (paid_cons (by rw [q2 _ (List.mem_cons_self ..), Bool.or_true]) (paid_cons (by cases ((n : Int) != 32) <;> rfl) (paid_cons (by cases ((n : Int) != 32) <;> rfl) (paid_cons (by cases ((n : Int) != 32) <;> rfl) (paid_cons (by rw [hA]) Paid.nil)))))) rfl rfl rfl rfl ha hi
    · cases h
theorem se_bufbuf (k l : List Int) (m : Nat) (a : List Int) (n : Nat) (p : List Int) : seeV 5 ((funcL Try.prog qD (deep Try.prog qD hsl 100 5) (fun _ _ => none) 100 19 (cArgs 0 [.buf false .u8 32 k, .buf false .u8 12 l, .buf true .u8 m a, .buf true .u8 n p]) (cMem [.buf false .u8 32 k, .buf false .u8 12 l, .buf true .u8 m a, .buf true .u8 n p])).go []) = some ([decide (n < 9223372036854775808), decide (0 ≤ wN n) && decide (wN n ≤ wN n) && decide (wN n ≤ 281474976710656), decide (n < 9223372036854775808), decide ((0 : Int) ≤ (n : Int)) && decide ((n : Int) ≤ ((wN n).toNat : Int)), decide (n < 9223372036854775808), decide ((0 : Int) ≤ (n : Int)) && decide ((n : Int) ≤ ((wN n).toNat : Int)), decide (n < 9223372036854775808), decide (n < 9223372036854775807), true, decide (n = n), decide ((n : Int) = (n : Int)), decide (n ≤ n), decide (n ≤ (List.replicate (wN n).toNat (0 : Int)).length), decide (0 + m ≤ m), decide (0 + 0 * 1 + n ≤ (sealO (ini k l) p n).length), decide (m ≤ 140737488351232), decide (n ≤ 140737488351232), decide ((wN n).toNat - n < 9223372036854775808), decide (0 + n * 1 + Nat.min 16 ((wN n).toNat - n) ≤ (sealO (ini k l) p n).length)], .tuple [.slice true 5 0 (wN n).toNat none 1, .int false .i64 0], some (some ⟨true, .ints .u8 none (sealF (ini k l) ((a.drop 0).take m) p n)⟩)) := by kernel_rfl
theorem se_bufnil (k l : List Int) (m : Nat) (a : List Int) : seeV 5 ((funcL Try.prog qD (deep Try.prog qD hsl 100 5) (fun _ _ => none) 100 19 (cArgs 0 [.buf false .u8 32 k, .buf false .u8 12 l, .buf true .u8 m a, .pl .nilslice]) (cMem [.buf false .u8 32 k, .buf false .u8 12 l, .buf true .u8 m a, .pl .nilslice])).go []) = some ([decide (0 + m ≤ m), decide (m ≤ 140737488351232)], .tuple [.slice false 5 0 16 (some 16) 1, .int false .i64 0], some (some ⟨true, .ints .u8 (some 16) (tagC (ini k l) ((a.drop 0).take m) [])⟩)) := by kernel_rfl
theorem se_bufemp (k l : List Int) (m : Nat) (a : List Int) : seeV 5 ((funcL Try.prog qD (deep Try.prog qD hsl 100 5) (fun _ _ => none) 100 19 (cArgs 0 [.buf false .u8 32 k, .buf false .u8 12 l, .buf true .u8 m a, .empty]) (cMem [.buf false .u8 32 k, .buf false .u8 12 l, .buf true .u8 m a, .empty])).go []) = some ([decide (0 + m ≤ m), decide (m ≤ 140737488351232)], .tuple [.slice false 5 0 16 (some 16) 1, .int false .i64 0], some (some ⟨true, .ints .u8 (some 16) (tagC (ini k l) ((a.drop 0).take m) [])⟩)) := by kernel_rfl
theorem se_nilbuf (k l : List Int) (n : Nat) (p : List Int) : seeV 5 ((funcL Try.prog qD (deep Try.prog qD hsl 100 5) (fun _ _ => none) 100 19 (cArgs 0 [.buf false .u8 32 k, .buf false .u8 12 l, .pl .nilslice, .buf true .u8 n p]) (cMem [.buf false .u8 32 k, .buf false .u8 12 l, .pl .nilslice, .buf true .u8 n p])).go []) = some ([decide (n < 9223372036854775808), decide (0 ≤ wN n) && decide (wN n ≤ wN n) && decide (wN n ≤ 281474976710656), decide (n < 9223372036854775808), decide ((0 : Int) ≤ (n : Int)) && decide ((n : Int) ≤ ((wN n).toNat : Int)), decide (n < 9223372036854775808), decide ((0 : Int) ≤ (n : Int)) && decide ((n : Int) ≤ ((wN n).toNat : Int)), decide (n < 9223372036854775808), decide (n < 9223372036854775807), true, decide (n = n), decide ((n : Int) = (n : Int)), decide (n ≤ n), decide (n ≤ (List.replicate (wN n).toNat (0 : Int)).length), decide (0 + 0 * 1 + n ≤ (sealO (ini k l) p n).length), decide (n ≤ 140737488351232), decide ((wN n).toNat - n < 9223372036854775808), decide (0 + n * 1 + Nat.min 16 ((wN n).toNat - n) ≤ (sealO (ini k l) p n).length)], .tuple [.slice true 5 0 (wN n).toNat none 1, .int false .i64 0], some (some ⟨true, .ints .u8 none (sealF (ini k l) [] p n)⟩)) := by kernel_rfl
theorem se_nilnil (k l : List Int) : seeV 5 ((funcL Try.prog qD (deep Try.prog qD hsl 100 5) (fun _ _ => none) 100 19 (cArgs 0 [.buf false .u8 32 k, .buf false .u8 12 l, .pl .nilslice, .pl .nilslice]) (cMem [.buf false .u8 32 k, .buf false .u8 12 l, .pl .nilslice, .pl .nilslice])).go []) = some ([], .tuple [.slice false 5 0 16 (some 16) 1, .int false .i64 0], some (some ⟨true, .ints .u8 (some 16) (tagC (ini k l) [] [])⟩)) := by kernel_rfl
theorem se_nilemp (k l : List Int) : seeV 5 ((funcL Try.prog qD (deep Try.prog qD hsl 100 5) (fun _ _ => none) 100 19 (cArgs 0 [.buf false .u8 32 k, .buf false .u8 12 l, .pl .nilslice, .empty]) (cMem [.buf false .u8 32 k, .buf false .u8 12 l, .pl .nilslice, .empty])).go []) = some ([], .tuple [.slice false 5 0 16 (some 16) 1, .int false .i64 0], some (some ⟨true, .ints .u8 (some 16) (tagC (ini k l) [] [])⟩)) := by kernel_rfl
theorem se_empbuf (k l : List Int) (n : Nat) (p : List Int) : seeV 5 ((funcL Try.prog qD (deep Try.prog qD hsl 100 5) (fun _ _ => none) 100 19 (cArgs 0 [.buf false .u8 32 k, .buf false .u8 12 l, .empty, .buf true .u8 n p]) (cMem [.buf false .u8 32 k, .buf false .u8 12 l, .empty, .buf true .u8 n p])).go []) = some ([decide (n < 9223372036854775808), decide (0 ≤ wN n) && decide (wN n ≤ wN n) && decide (wN n ≤ 281474976710656), decide (n < 9223372036854775808), decide ((0 : Int) ≤ (n : Int)) && decide ((n : Int) ≤ ((wN n).toNat : Int)), decide (n < 9223372036854775808), decide ((0 : Int) ≤ (n : Int)) && decide ((n : Int) ≤ ((wN n).toNat : Int)), decide (n < 9223372036854775808), decide (n < 9223372036854775807), true, decide (n = n), decide ((n : Int) = (n : Int)), decide (n ≤ n), decide (n ≤ (List.replicate (wN n).toNat (0 : Int)).length), decide (0 + 0 * 1 + n ≤ (sealO (ini k l) p n).length), decide (n ≤ 140737488351232), decide ((wN n).toNat - n < 9223372036854775808), decide (0 + n * 1 + Nat.min 16 ((wN n).toNat - n) ≤ (sealO (ini k l) p n).length)], .tuple [.slice true 5 0 (wN n).toNat none 1, .int false .i64 0], some (some ⟨true, .ints .u8 none (sealF (ini k l) [] p n)⟩)) := by kernel_rfl
theorem se_empnil (k l : List Int) : seeV 5 ((funcL Try.prog qD (deep Try.prog qD hsl 100 5) (fun _ _ => none) 100 19 (cArgs 0 [.buf false .u8 32 k, .buf false .u8 12 l, .empty, .pl .nilslice]) (cMem [.buf false .u8 32 k, .buf false .u8 12 l, .empty, .pl .nilslice])).go []) = some ([], .tuple [.slice false 5 0 16 (some 16) 1, .int false .i64 0], some (some ⟨true, .ints .u8 (some 16) (tagC (ini k l) [] [])⟩)) := by kernel_rfl
theorem se_empemp (k l : List Int) : seeV 5 ((funcL Try.prog qD (deep Try.prog qD hsl 100 5) (fun _ _ => none) 100 19 (cArgs 0 [.buf false .u8 32 k, .buf false .u8 12 l, .empty, .empty]) (cMem [.buf false .u8 32 k, .buf false .u8 12 l, .empty, .empty])).go []) = some ([], .tuple [.slice false 5 0 16 (some 16) 1, .int false .i64 0], some (some ⟨true, .ints .u8 (some 16) (tagC (ini k l) [] [])⟩)) := by kernel_rfl
def seS : List V → E (AV × Mem)
  | [K, N, A, P] => match isK K, isN N with
    | some k, some l => (match txt2 A with
      | some (o1, a) => (match txtN P with
        | some (o2, n, p) => some (o1 ++ o2, (.tuple [.slice true 0 0 (n + 16) none 1, .int false .i64 0], [some ⟨true, .ints .u8 none (sealC (ini k l) a p)⟩]))
        | none => match nonE P with
          | true => some (o1, (.tuple [.slice false 0 0 16 (some 16) 1, .int false .i64 0], [some ⟨true, .ints .u8 (some 16) (tagC (ini k l) a [])⟩]))
          | false => none)
      | none => none)
    | _, _ => match badS K N with
      | some o => some (o, (.tuple [.nilslice, .int false .i64 2], []))
      | none => none
  | _ => none
theorem se_ok {xs : List V} {o : List Bool} {v : AV} {bs : Mem} (h : seS xs = some (o, (v, bs))) (ho : Paid o) : ViewCall Try.prog 19 xs v bs := by
  unfold seS at h
  split at h
  case h_2 => cases h
  rename_i K N A P
  split at h
  · rename_i k l hK hN
    obtain rfl := isK_ok hK
    obtain rfl := isN_ok hN
    split at h
    case h_2 => cases h
    rename_i o1 a hA
    split at h
    · rename_i o2 n p hP
      obtain ⟨s, rfl, rfl⟩ := txtN_ok hP
      cases h
      obtain ⟨q1, q2⟩ := paid_append.1 ho
      have hn := of_decide_eq_true (q2 _ (List.mem_cons_self ..))
      have hw := wN_eq hn
      have hO : (sealO (ini k l) p n).length = n + 16 := by rw [sealO_eq _ _ hn, List.length_append, cvL_len, List.length_replicate]
      intro ρ vs w ha hi
      obtain ⟨hp, _⟩ := buf_arg hi 3 rfl
      rcases txt2_ok hA with ⟨rfl, rfl, rfl⟩ | ⟨rfl, rfl, rfl⟩ | ⟨m, rfl, rfl⟩
      · have ev := se_nilbuf k l n p
        rw [sealF_eq _ _ _ hn hp, hw] at ev
        exact viewN_one mixed noCount (hsl_ok.deep mixed noCount 100 5) (lo0 _) (v := .tuple [.slice true 0 0 (n + 16) none 1, .int false .i64 0]) [] 5 ev (by rw [← hw]; exact paid_cons (decide_eq_true (by omega)) (paid_cons (by rw [hw, decide_eq_true (by omega), decide_eq_true (by omega), decide_eq_true (by omega)]; rfl) (paid_cons (decide_eq_true (by omega)) (paid_cons (by rw [decide_eq_true (by omega), decide_eq_true (by rw [hw]; omega)]; rfl) (paid_cons (decide_eq_true (by omega)) (paid_cons (by rw [decide_eq_true (by omega), decide_eq_true (by rw [hw]; omega)]; rfl) (paid_cons (decide_eq_true (by omega)) (paid_cons (decide_eq_true (by omega)) (paid_cons (rfl) (paid_cons (decide_eq_true rfl) (paid_cons (decide_eq_true rfl) (paid_cons (decide_eq_true (Nat.le_refl _)) (paid_cons (decide_eq_true (by rw [List.length_replicate, hw]; omega)) (paid_cons (decide_eq_true (by rw [hO]; omega)) (paid_cons (decide_eq_true hn) (paid_cons (decide_eq_true (by rw [hw]; omega)) (paid_cons (decide_eq_true (by rw [hO, hw, show ((n + 16 : Nat) : Int).toNat - n = 16 by omega, show Nat.min 16 16 = 16 from rfl]; omega)) (Paid.nil)))))))))))))))))) (Nat.le_of_ble_eq_true rfl) rfl rfl (markL ha) hi
      · have ev := se_empbuf k l n p
        rw [sealF_eq _ _ _ hn hp, hw] at ev
        exact viewN_one mixed noCount (hsl_ok.deep mixed noCount 100 5) (lo0 _) (v := .tuple [.slice true 0 0 (n + 16) none 1, .int false .i64 0]) [] 5 ev (by rw [← hw]; exact paid_cons (decide_eq_true (by omega)) (paid_cons (by rw [hw, decide_eq_true (by omega), decide_eq_true (by omega), decide_eq_true (by omega)]; rfl) (paid_cons (decide_eq_true (by omega)) (paid_cons (by rw [decide_eq_true (by omega), decide_eq_true (by rw [hw]; omega)]; rfl) (paid_cons (decide_eq_true (by omega)) (paid_cons (by rw [decide_eq_true (by omega), decide_eq_true (by rw [hw]; omega)]; rfl) (paid_cons (decide_eq_true (by omega)) (paid_cons (decide_eq_true (by omega)) (paid_cons (rfl) (paid_cons (decide_eq_true rfl) (paid_cons (decide_eq_true rfl) (paid_cons (decide_eq_true (Nat.le_refl _)) (paid_cons (decide_eq_true (by rw [List.length_replicate, hw]; omega)) (paid_cons (decide_eq_true (by rw [hO]; omega)) (paid_cons (decide_eq_true hn) (paid_cons (decide_eq_true (by rw [hw]; omega)) (paid_cons (decide_eq_true (by rw [hO, hw, show ((n + 16 : Nat) : Int).toNat - n = 16 by omega, show Nat.min 16 16 = 16 from rfl]; omega)) (Paid.nil)))))))))))))))))) (Nat.le_of_ble_eq_true rfl) rfl rfl (markL ha) hi
      · obtain ⟨ea, _⟩ := buf_arg hi 2 rfl
        have ev := se_bufbuf k l m a n p
        rw [List.drop_zero, List.take_of_length_le (l := a) (Nat.le_of_eq ea), sealF_eq _ _ _ hn hp, hw] at ev
        exact viewN_one mixed noCount (hsl_ok.deep mixed noCount 100 5) (lo0 _) (v := .tuple [.slice true 0 0 (n + 16) none 1, .int false .i64 0]) [] 5 ev (by rw [← hw]; exact paid_cons (decide_eq_true (by omega)) (paid_cons (by rw [hw, decide_eq_true (by omega), decide_eq_true (by omega), decide_eq_true (by omega)]; rfl) (paid_cons (decide_eq_true (by omega)) (paid_cons (by rw [decide_eq_true (by omega), decide_eq_true (by rw [hw]; omega)]; rfl) (paid_cons (decide_eq_true (by omega)) (paid_cons (by rw [decide_eq_true (by omega), decide_eq_true (by rw [hw]; omega)]; rfl) (paid_cons (decide_eq_true (by omega)) (paid_cons (decide_eq_true (by omega)) (paid_cons (rfl) (paid_cons (decide_eq_true rfl) (paid_cons (decide_eq_true rfl) (paid_cons (decide_eq_true (Nat.le_refl _)) (paid_cons (decide_eq_true (by rw [List.length_replicate, hw]; omega)) (paid_cons (decide_eq_true (by omega)) (paid_cons (decide_eq_true (by rw [hO]; omega)) (paid_cons (q1 _ (List.mem_cons_self ..)) (paid_cons (decide_eq_true hn) (paid_cons (decide_eq_true (by rw [hw]; omega)) (paid_cons (decide_eq_true (by rw [hO, hw, show ((n + 16 : Nat) : Int).toNat - n = 16 by omega, show Nat.min 16 16 = 16 from rfl]; omega)) (Paid.nil)))))))))))))))))))) (Nat.le_of_ble_eq_true rfl) rfl rfl (markL ha) hi
    · split at h
      · rename_i h2 h3
        cases h
        have q1 := ho
        intro ρ vs w ha hi
        rcases nonE_ok h3 with rfl | rfl <;> rcases txt2_ok hA with ⟨rfl, rfl, rfl⟩ | ⟨rfl, rfl, rfl⟩ | ⟨m, rfl, rfl⟩
        · have ev := se_nilnil k l
          exact viewN_one mixed noCount (hsl_ok.deep mixed noCount 100 5) (lo0 _) (v := .tuple [.slice false 0 0 16 (some 16) 1, .int false .i64 0]) [] 5 ev (Paid.nil) (Nat.le_of_ble_eq_true rfl) rfl rfl ha hi
        · have ev := se_empnil k l
          exact viewN_one mixed noCount (hsl_ok.deep mixed noCount 100 5) (lo0 _) (v := .tuple [.slice false 0 0 16 (some 16) 1, .int false .i64 0]) [] 5 ev (Paid.nil) (Nat.le_of_ble_eq_true rfl) rfl rfl ha hi
        · obtain ⟨ea, _⟩ := buf_arg hi 2 rfl
          have ev := se_bufnil k l m a
          rw [List.drop_zero, List.take_of_length_le (l := a) (Nat.le_of_eq ea)] at ev
          exact viewN_one mixed noCount (hsl_ok.deep mixed noCount 100 5) (lo0 _) (v := .tuple [.slice false 0 0 16 (some 16) 1, .int false .i64 0]) [] 5 ev (paid_cons (decide_eq_true (by omega)) (paid_cons (q1 _ (List.mem_cons_self ..)) (Paid.nil))) (Nat.le_of_ble_eq_true rfl) rfl rfl ha hi
        · have ev := se_nilemp k l
          exact viewN_one mixed noCount (hsl_ok.deep mixed noCount 100 5) (lo0 _) (v := .tuple [.slice false 0 0 16 (some 16) 1, .int false .i64 0]) [] 5 ev (Paid.nil) (Nat.le_of_ble_eq_true rfl) rfl rfl ha hi
        · have ev := se_empemp k l
          exact viewN_one mixed noCount (hsl_ok.deep mixed noCount 100 5) (lo0 _) (v := .tuple [.slice false 0 0 16 (some 16) 1, .int false .i64 0]) [] 5 ev (Paid.nil) (Nat.le_of_ble_eq_true rfl) rfl rfl ha hi
        · obtain ⟨ea, _⟩ := buf_arg hi 2 rfl
          have ev := se_bufemp k l m a
          rw [List.drop_zero, List.take_of_length_le (l := a) (Nat.le_of_eq ea)] at ev
          exact viewN_one mixed noCount (hsl_ok.deep mixed noCount 100 5) (lo0 _) (v := .tuple [.slice false 0 0 16 (some 16) 1, .int false .i64 0]) [] 5 ev (paid_cons (decide_eq_true (by omega)) (paid_cons (q1 _ (List.mem_cons_self ..)) (Paid.nil))) (Nat.le_of_ble_eq_true rfl) rfl rfl ha hi
      · cases h
  · split at h
    · rename_i o1 hb
      cases h
      exact se_bad hb ho A P
    · cases h
def hq7 : CallH := withV 19 seS hq6
theorem hq7_ok : HOk Try.prog hq7 := hq6_ok.withV fun _ _ _ _ h ho => se_ok h ho
end Go.Proofs.Ytfmgodgakndjcaa
