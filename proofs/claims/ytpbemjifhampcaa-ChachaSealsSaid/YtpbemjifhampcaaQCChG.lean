/- A contract whose answer needs no memory of its own, whatever the call left behind. Own work. -/
import Derived.Test.YtpbemjifhampcaaQCEvOne
import Derived.Test.YtpbemjifhampcaaQCChF
import Derived.Test.YtpbemjifhampcaaQCEvIn
set_option linter.unusedSimpArgs false
set_option linter.unusedVariables false
set_option linter.unusedSectionVars false
namespace Go.Ev
set_option linter.unusedSectionVars false
variable [Tab]
section
variable {P : Program} {q : FuncId → Bool} {H : CallH} {Λ : LoopH}
theorem viewN_none (hm : P.follows .mixedOrders = true) (hng : noCount P = true) (hH : HOk P H) {n : Nat} {g : FuncId} {xs : List V} (hΛ : ∀ fn c, P.funcs[g]? = some fn → fn.body = some c → LOkN xs.length P c Λ) {o : List Bool} {v v' : AV} {b : Option (Option Blk)} (ds : List Bool) (j : Nat)
    (h : seeV j ((funcL P q H Λ n g (cArgs 0 xs) (cMem xs)).go ds) = some (o, v', b)) (ho : Paid o) (hv : v' = renA id (upA xs.length v)) (hba : bndA (xs.length + 0) (upA xs.length v) = true) (hinj : injB id (xs.length + 0) = true := by rfl) (hfix : fixB id xs.length = true := by rfl) :
    ViewCall P g xs v [] := by
  unfold seeV at h
  split at h
  · rename_i o' v2 m' hf
    simp only [Option.some.injEq, Prod.mk.injEq] at h
    obtain ⟨h1, h2, h3⟩ := h
    subst h1 h2
    have pulls : ∀ (a b : Nat) (M : Mem), Pulls id m' (b + a) M → Pulls id m' b (List.replicate a none ++ M) := by
      intro a
      induction a with
      | zero => intro b M h; exact h
      | succ a ih =>
        intro b M h
        rw [List.replicate_succ, List.cons_append]
        exact ih (b + 1) M (by rw [show b + 1 + a = b + (a + 1) by omega]; exact h)
    have bnd : ∀ (a k' : Nat) (M : Mem), bndM k' M = true → bndM k' (List.replicate a none ++ M) = true := by
      intro a
      induction a with
      | zero => intro k' M h; exact h
      | succ a ih => intro k' M h; rw [List.replicate_succ, List.cons_append]; exact ih k' M h
    intro ρ vs w ha hi
    exact viewN_of_goR (bs := []) hm hng hH hΛ ds id hf ho hv hba (pulls _ 0 _ trivial) (bnd _ _ _ rfl) hinj hfix ha hi
  · cases h
end
end Go.Ev
namespace Go.Ch
open Go.Ev Go.Sh
/-- Bytes that are not so many as they must be. -/
def notL (m : Nat) : V → Option (List Bool)
  | .pl .nilslice => some []
  | .empty => some []
  | .buf true .u8 n _ => some [decide (n < 9223372036854775808), !decide (n = m)]
  | _ => none
def anyL : V → Option (List Bool)
  | .pl .nilslice => some []
  | .empty => some []
  | .buf true .u8 n _ => some [decide (n < 9223372036854775808)]
  | _ => none
def plI : V → Option Int
  | .pl (.int true .u32 c) => some c
  | _ => none
def isK : V → Option (List Int)
  | .buf false .u8 32 k => some k
  | _ => none
def isN : V → Option (List Int)
  | .buf false .u8 12 l => some l
  | _ => none
/-- Bytes, and how many. -/
def txtN : V → Option (List Bool × Nat × List Int)
  | .buf _ .u8 n l => some ([decide (n ≤ 140737488351232)], n, l)
  | _ => none
def nonE : V → Bool
  | .pl .nilslice => true
  | .empty => true
  | _ => false
theorem isK_ok {x : V} {k : List Int} (h : isK x = some k) : x = .buf false .u8 32 k := by unfold isK at h; split at h <;> cases h; rfl
theorem isN_ok {x : V} {k : List Int} (h : isN x = some k) : x = .buf false .u8 12 k := by unfold isN at h; split at h <;> cases h; rfl
theorem plI_ok {x : V} {c : Int} (h : plI x = some c) : x = .pl (.int true .u32 c) := by unfold plI at h; split at h <;> cases h; rfl
theorem txtN_ok {x : V} {o : List Bool} {n : Nat} {l : List Int} (h : txtN x = some (o, n, l)) : ∃ s, x = .buf s .u8 n l ∧ o = [decide (n ≤ 140737488351232)] := by unfold txtN at h; split at h <;> cases h; exact ⟨_, rfl, rfl⟩
theorem markedS {ρ : Nat → Loc3} {N : Nat → Prop} {s : Bool} {n o len e : Nat} {cap : Option Nat} {v : Value} (h : Rep ρ N (.slice s n o len cap e) v) : Rep ρ N (.slice true n o len cap e) v := by
  cases h with | slice _ _ _ _ _ _ c ad h1 h2 h3 h4 h5 => exact .slice true _ _ _ _ _ c ad h1 h2 h3 h4 h5
/-- Of four arguments the last one's mark is nothing. -/
theorem markL {ρ : Nat → Loc3} {N : Nat → Prop} {A B C : V} {s : Bool} {k : IntKind} {n : Nat} {q : List Int} {vs : List Value} (h : Reps ρ N (cArgs 0 [A, B, C, .buf s k n q]) vs) : Reps ρ N (cArgs 0 [A, B, C, .buf true k n q]) vs := by
  cases h with
  | cons _ _ u us a0 hs =>
  cases hs with
  | cons _ _ u1 us1 a1 hs =>
  cases hs with
  | cons _ _ u2 us2 a2 hs =>
  cases hs with
  | cons _ _ u3 us3 a3 hnn =>
  exact .cons _ _ _ _ a0 (.cons _ _ _ _ a1 (.cons _ _ _ _ a2 (.cons _ _ _ _ (markedS a3) hnn)))
theorem nonE_ok {x : V} (h : nonE x = true) : x = .pl .nilslice ∨ x = .empty := by
  unfold nonE at h
  split at h
  · exact Or.inl rfl
  · exact Or.inr rfl
  · cases h
theorem notL_ok {m : Nat} {x : V} {o : List Bool} (h : notL m x = some o) : (x = .pl .nilslice ∧ o = []) ∨ (x = .empty ∧ o = []) ∨ ∃ n l, x = .buf true .u8 n l ∧ o = [decide (n < 9223372036854775808), !decide (n = m)] := by
  unfold notL at h
  split at h <;> cases h
  · exact Or.inl ⟨rfl, rfl⟩
  · exact Or.inr (Or.inl ⟨rfl, rfl⟩)
  · exact Or.inr (Or.inr ⟨_, _, rfl, rfl⟩)
theorem anyL_ok {x : V} {o : List Bool} (h : anyL x = some o) : (x = .pl .nilslice ∧ o = []) ∨ (x = .empty ∧ o = []) ∨ ∃ n l, x = .buf true .u8 n l ∧ o = [decide (n < 9223372036854775808)] := by
  unfold anyL at h
  split at h <;> cases h
  · exact Or.inl ⟨rfl, rfl⟩
  · exact Or.inr (Or.inl ⟨rfl, rfl⟩)
  · exact Or.inr (Or.inr ⟨_, _, rfl, rfl⟩)
/-- Keys and nonces that may not be. -/
def badS (K N : V) : Option (List Bool) :=
  match isK K with
  | some _ => notL 12 N
  | none => match notL 32 K, anyL N with
    | some o, some p => some (o ++ p)
    | _, _ => none
def Z64 : List Int := List.replicate 64 0
theorem wr_n {n : Nat} (h : n ≤ 140737488351232) : (decide (0 ≤ (n : Int)) && decide ((n : Int) ≤ (n : Int)) && decide ((n : Int) ≤ 281474976710656)) = true := by
  rw [decide_eq_true (by omega), decide_eq_true (by omega), decide_eq_true (by omega)]; rfl
theorem cvN_all (x : List Int) (c : Int) (p : List Int) (n : Nat) : cvN x c p (List.replicate (n : Int).toNat 0) n = cvL x c p n := by
  rw [cvN_eq _ _ _ _ _ (by rw [List.length_replicate]; omega), List.drop_replicate, show (n : Int).toNat - n = 0 by omega]
  exact List.append_nil _
end Go.Ch
namespace Go.Proofs.Ytpbemjifhampcaa
open Go.Ev Go.Sh Go.Ch
set_option maxRecDepth 100000
noncomputable def hcX : CallH := inL Try.prog qC (deep Try.prog qC hq4 100 5) (cvΛX fun _ _ => none) 100 45 [] hq4
theorem hcX_ok : HOk Try.prog hcX := HOk.inL mixed noCount (hq4_ok.deep mixed noCount 100 5) hq4_ok 100 _ _ fun fn c hf hb => by rw [bodyOf_eq hf hb]; exact cvX_lok LOk.none
theorem lo0 {F : FuncId} (k0 : Nat) (fn : Func) (c : Code) (_ : Try.prog.funcs[F]? = some fn) (_ : fn.body = some c) : LOkN k0 Try.prog c (fun _ _ => none) := LOkN.none
theorem bk_kbn (n : Nat) (k : List Int) (c : Int) : seeV 50 ((funcL Try.prog qC (deep Try.prog qC hq4 100 5) (fun _ _ => none) 100 21 (cArgs 0 [.buf true .u8 n k, .pl (.int true .u32 c), .pl .nilslice]) (cMem [.buf true .u8 n k, .pl (.int true .u32 c), .pl .nilslice])).go [true]) = some ([decide (n < 9223372036854775808), (!(!((n : Int) != 32)) || !((n : Int) != 32)), (!(!((n : Int) != 32)) || !((n : Int) != 32)), (((n : Int) != 32) || !((n : Int) != 32)), (match ((n : Int) != 32) with | true => true | false => (0 : Int) != 12)], .tuple [.ints .u8 64 Z64, .int false .i64 2], none) := by kernel_rfl
theorem bk_kbe (n : Nat) (k : List Int) (c : Int) : seeV 50 ((funcL Try.prog qC (deep Try.prog qC hq4 100 5) (fun _ _ => none) 100 21 (cArgs 0 [.buf true .u8 n k, .pl (.int true .u32 c), .empty]) (cMem [.buf true .u8 n k, .pl (.int true .u32 c), .empty])).go [true]) = some ([decide (n < 9223372036854775808), (!(!((n : Int) != 32)) || !((n : Int) != 32)), (!(!((n : Int) != 32)) || !((n : Int) != 32)), (((n : Int) != 32) || !((n : Int) != 32)), (match ((n : Int) != 32) with | true => true | false => ((0 : Nat) : Int) != 12)], .tuple [.ints .u8 64 Z64, .int false .i64 2], none) := by kernel_rfl
theorem bk_kbb (n : Nat) (k : List Int) (m : Nat) (l : List Int) (c : Int) : seeV 50 ((funcL Try.prog qC (deep Try.prog qC hq4 100 5) (fun _ _ => none) 100 21 (cArgs 0 [.buf true .u8 n k, .pl (.int true .u32 c), .buf true .u8 m l]) (cMem [.buf true .u8 n k, .pl (.int true .u32 c), .buf true .u8 m l])).go [true]) = some ([decide (n < 9223372036854775808), (!(!((n : Int) != 32)) || decide (m < 9223372036854775808)), (!(!((n : Int) != 32)) || !((n : Int) != 32)), (!(!((n : Int) != 32)) || !((n : Int) != 32)), (((n : Int) != 32) || !((n : Int) != 32)), (match ((n : Int) != 32) with | true => true | false => (m : Int) != 12)], .tuple [.ints .u8 64 Z64, .int false .i64 2], none) := by kernel_rfl
theorem bk_kn (y : V) (c : Int) : seeV 50 ((funcL Try.prog qC (deep Try.prog qC hq4 100 5) (fun _ _ => none) 100 21 (cArgs 0 [.pl .nilslice, .pl (.int true .u32 c), y]) (cMem [.pl .nilslice, .pl (.int true .u32 c), y])).go []) = some ([], .tuple [.ints .u8 64 Z64, .int false .i64 2], none) := by kernel_rfl
theorem bk_ke (y : V) (c : Int) : seeV 50 ((funcL Try.prog qC (deep Try.prog qC hq4 100 5) (fun _ _ => none) 100 21 (cArgs 0 [.empty, .pl (.int true .u32 c), y]) (cMem [.empty, .pl (.int true .u32 c), y])).go []) = some ([], .tuple [.ints .u8 64 Z64, .int false .i64 2], none) := by kernel_rfl
theorem bk_nb (k : List Int) (n : Nat) (l : List Int) (c : Int) : seeV 50 ((funcL Try.prog qC (deep Try.prog qC hq4 100 5) (fun _ _ => none) 100 21 (cArgs 0 [.buf false .u8 32 k, .pl (.int true .u32 c), .buf true .u8 n l]) (cMem [.buf false .u8 32 k, .pl (.int true .u32 c), .buf true .u8 n l])).go [true]) = some ([decide (n < 9223372036854775808), ((n : Int) != 12)], .tuple [.ints .u8 64 Z64, .int false .i64 2], none) := by kernel_rfl
theorem bk_nn (k : List Int) (c : Int) : seeV 50 ((funcL Try.prog qC (deep Try.prog qC hq4 100 5) (fun _ _ => none) 100 21 (cArgs 0 [.buf false .u8 32 k, .pl (.int true .u32 c), .pl .nilslice]) (cMem [.buf false .u8 32 k, .pl (.int true .u32 c), .pl .nilslice])).go []) = some ([], .tuple [.ints .u8 64 Z64, .int false .i64 2], none) := by kernel_rfl
theorem bk_ne (k : List Int) (c : Int) : seeV 50 ((funcL Try.prog qC (deep Try.prog qC hq4 100 5) (fun _ _ => none) 100 21 (cArgs 0 [.buf false .u8 32 k, .pl (.int true .u32 c), .empty]) (cMem [.buf false .u8 32 k, .pl (.int true .u32 c), .empty])).go []) = some ([], .tuple [.ints .u8 64 Z64, .int false .i64 2], none) := by kernel_rfl
theorem bk_bad {K N : V} {o : List Bool} (h : badS K N = some o) (ho : Paid o) (c : Int) : ViewCall Try.prog 21 [K, .pl (.int true .u32 c), N] (.tuple [.ints .u8 64 Z64, .int false .i64 2]) [] := by
  unfold badS at h
  split at h
  · rename_i k hk
    obtain rfl := isK_ok hk
    rcases notL_ok h with ⟨rfl, rfl⟩ | ⟨rfl, rfl⟩ | ⟨n, l, rfl, rfl⟩
    · intro ρ vs w ha hi; exact viewN_none mixed noCount (hq4_ok.deep mixed noCount 100 5) (lo0 _) (v := .tuple [.ints .u8 64 Z64, .int false .i64 2]) [] 50 (bk_nn k c) (Paid.nil) rfl rfl rfl rfl ha hi
    · intro ρ vs w ha hi; exact viewN_none mixed noCount (hq4_ok.deep mixed noCount 100 5) (lo0 _) (v := .tuple [.ints .u8 64 Z64, .int false .i64 2]) [] 50 (bk_ne k c) (Paid.nil) rfl rfl rfl rfl ha hi
    · have o2 := ho _ (List.mem_cons_of_mem _ (List.mem_cons_self ..))
      have e1 : ((n : Int) != 12) = true := by simp at o2 ⊢; omega
      intro ρ vs w ha hi; exact viewN_none mixed noCount (hq4_ok.deep mixed noCount 100 5) (lo0 _) (v := .tuple [.ints .u8 64 Z64, .int false .i64 2]) [true] 50 (bk_nb k n l c) (paid_cons (ho _ (List.mem_cons_self ..)) (paid_cons e1 Paid.nil)) rfl rfl rfl rfl ha hi
  · split at h
    · rename_i o1 o2 hK hN
      cases h
      obtain ⟨q1, q2⟩ := paid_append.1 ho
      rcases notL_ok hK with ⟨rfl, rfl⟩ | ⟨rfl, rfl⟩ | ⟨n, k, rfl, rfl⟩
      · intro ρ vs w ha hi; exact viewN_none mixed noCount (hq4_ok.deep mixed noCount 100 5) (lo0 _) (v := .tuple [.ints .u8 64 Z64, .int false .i64 2]) [] 50 (bk_kn N c) (Paid.nil) rfl rfl rfl rfl ha hi
      · intro ρ vs w ha hi; exact viewN_none mixed noCount (hq4_ok.deep mixed noCount 100 5) (lo0 _) (v := .tuple [.ints .u8 64 Z64, .int false .i64 2]) [] 50 (bk_ke N c) (Paid.nil) rfl rfl rfl rfl ha hi
      · have r1 := q1 _ (List.mem_cons_self ..)
        have r2 := q1 _ (List.mem_cons_of_mem _ (List.mem_cons_self ..))
        have hA : ((n : Int) != 32) = true := by simp at r2 ⊢; omega
        rcases anyL_ok hN with ⟨rfl, rfl⟩ | ⟨rfl, rfl⟩ | ⟨m, l, rfl, rfl⟩
        · intro ρ vs w ha hi; exact viewN_none mixed noCount (hq4_ok.deep mixed noCount 100 5) (lo0 _) (v := .tuple [.ints .u8 64 Z64, .int false .i64 2]) [true] 50 (bk_kbn n k c) (paid_cons r1 (paid_cons (by cases ((n : Int) != 32) <;> rfl) (paid_cons (by cases ((n : Int) != 32) <;> rfl) (paid_cons (by cases ((n : Int) != 32) <;> rfl) (paid_cons (by rw [hA]) Paid.nil))))) rfl rfl rfl rfl ha hi
        · intro ρ vs w ha hi; exact viewN_none mixed noCount (hq4_ok.deep mixed noCount 100 5) (lo0 _) (v := .tuple [.ints .u8 64 Z64, .int false .i64 2]) [true] 50 (bk_kbe n k c) (paid_cons r1 (paid_cons (by cases ((n : Int) != 32) <;> rfl) (paid_cons (by cases ((n : Int) != 32) <;> rfl) (paid_cons (by cases ((n : Int) != 32) <;> rfl) (paid_cons (by rw [hA]) Paid.nil))))) rfl rfl rfl rfl ha hi
        · intro ρ vs w ha hi; exact viewN_none mixed noCount (hq4_ok.deep mixed noCount 100 5) (lo0 _) (v := .tuple [.ints .u8 64 Z64, .int false .i64 2]) [true] 50 (bk_kbb n k m l c) (paid_cons r1 (paid_cons (by rw [q2 _ (List.mem_cons_self ..), Bool.or_true]) (paid_cons (by cases ((n : Int) != 32) <;> rfl) (paid_cons (by cases ((n : Int) != 32) <;> rfl) (paid_cons (by cases ((n : Int) != 32) <;> rfl) (paid_cons (by rw [hA]) Paid.nil)))))) rfl rfl rfl rfl ha hi
    · cases h
theorem bk_good0 (c : Int) (k l : List Int) : res (funcA Try.prog qC (deep Try.prog qC hq4 100 5) 100 21 (cArgs 0 [.buf false .u8 32 k, .pl (.int true .u32 c), .buf false .u8 12 l]) (cMem [.buf false .u8 32 k, .pl (.int true .u32 c), .buf false .u8 12 l])) = some ([], .tuple [.ints .u8 64 (blkB (ini k l) c), .int false .i64 0]) := by kernel_rfl
theorem xo_kbn (n : Nat) (k : List Int) (c : Int) (z : V) : seeV 50 ((funcL Try.prog qC (deep Try.prog qC hcX 100 5) (fun _ _ => none) 100 22 (cArgs 0 [.buf true .u8 n k, .pl (.int true .u32 c), .pl .nilslice, z]) (cMem [.buf true .u8 n k, .pl (.int true .u32 c), .pl .nilslice, z])).go [true]) = some ([decide (n < 9223372036854775808), (!(!((n : Int) != 32)) || !((n : Int) != 32)), (!(!((n : Int) != 32)) || !((n : Int) != 32)), (((n : Int) != 32) || !((n : Int) != 32)), (match ((n : Int) != 32) with | true => true | false => (0 : Int) != 12)], .tuple [.nilslice, .int false .i64 2], none) := by kernel_rfl
theorem xo_kbe (n : Nat) (k : List Int) (c : Int) (z : V) : seeV 50 ((funcL Try.prog qC (deep Try.prog qC hcX 100 5) (fun _ _ => none) 100 22 (cArgs 0 [.buf true .u8 n k, .pl (.int true .u32 c), .empty, z]) (cMem [.buf true .u8 n k, .pl (.int true .u32 c), .empty, z])).go [true]) = some ([decide (n < 9223372036854775808), (!(!((n : Int) != 32)) || !((n : Int) != 32)), (!(!((n : Int) != 32)) || !((n : Int) != 32)), (((n : Int) != 32) || !((n : Int) != 32)), (match ((n : Int) != 32) with | true => true | false => ((0 : Nat) : Int) != 12)], .tuple [.nilslice, .int false .i64 2], none) := by kernel_rfl
theorem xo_kbb (n : Nat) (k : List Int) (m : Nat) (l : List Int) (c : Int) (z : V) : seeV 50 ((funcL Try.prog qC (deep Try.prog qC hcX 100 5) (fun _ _ => none) 100 22 (cArgs 0 [.buf true .u8 n k, .pl (.int true .u32 c), .buf true .u8 m l, z]) (cMem [.buf true .u8 n k, .pl (.int true .u32 c), .buf true .u8 m l, z])).go [true]) = some ([decide (n < 9223372036854775808), (!(!((n : Int) != 32)) || decide (m < 9223372036854775808)), (!(!((n : Int) != 32)) || !((n : Int) != 32)), (!(!((n : Int) != 32)) || !((n : Int) != 32)), (((n : Int) != 32) || !((n : Int) != 32)), (match ((n : Int) != 32) with | true => true | false => (m : Int) != 12)], .tuple [.nilslice, .int false .i64 2], none) := by kernel_rfl
theorem xo_kn (y : V) (c : Int) (z : V) : seeV 50 ((funcL Try.prog qC (deep Try.prog qC hcX 100 5) (fun _ _ => none) 100 22 (cArgs 0 [.pl .nilslice, .pl (.int true .u32 c), y, z]) (cMem [.pl .nilslice, .pl (.int true .u32 c), y, z])).go []) = some ([], .tuple [.nilslice, .int false .i64 2], none) := by kernel_rfl
theorem xo_ke (y : V) (c : Int) (z : V) : seeV 50 ((funcL Try.prog qC (deep Try.prog qC hcX 100 5) (fun _ _ => none) 100 22 (cArgs 0 [.empty, .pl (.int true .u32 c), y, z]) (cMem [.empty, .pl (.int true .u32 c), y, z])).go []) = some ([], .tuple [.nilslice, .int false .i64 2], none) := by kernel_rfl
theorem xo_nb (k : List Int) (n : Nat) (l : List Int) (c : Int) (z : V) : seeV 50 ((funcL Try.prog qC (deep Try.prog qC hcX 100 5) (fun _ _ => none) 100 22 (cArgs 0 [.buf false .u8 32 k, .pl (.int true .u32 c), .buf true .u8 n l, z]) (cMem [.buf false .u8 32 k, .pl (.int true .u32 c), .buf true .u8 n l, z])).go [true]) = some ([decide (n < 9223372036854775808), ((n : Int) != 12)], .tuple [.nilslice, .int false .i64 2], none) := by kernel_rfl
theorem xo_nn (k : List Int) (c : Int) (z : V) : seeV 50 ((funcL Try.prog qC (deep Try.prog qC hcX 100 5) (fun _ _ => none) 100 22 (cArgs 0 [.buf false .u8 32 k, .pl (.int true .u32 c), .pl .nilslice, z]) (cMem [.buf false .u8 32 k, .pl (.int true .u32 c), .pl .nilslice, z])).go []) = some ([], .tuple [.nilslice, .int false .i64 2], none) := by kernel_rfl
theorem xo_ne (k : List Int) (c : Int) (z : V) : seeV 50 ((funcL Try.prog qC (deep Try.prog qC hcX 100 5) (fun _ _ => none) 100 22 (cArgs 0 [.buf false .u8 32 k, .pl (.int true .u32 c), .empty, z]) (cMem [.buf false .u8 32 k, .pl (.int true .u32 c), .empty, z])).go []) = some ([], .tuple [.nilslice, .int false .i64 2], none) := by kernel_rfl
theorem xo_bad {K N : V} {o : List Bool} (h : badS K N = some o) (ho : Paid o) (c : Int) (z : V) : ViewCall Try.prog 22 [K, .pl (.int true .u32 c), N, z] (.tuple [.nilslice, .int false .i64 2]) [] := by
  unfold badS at h
  split at h
  · rename_i k hk
    obtain rfl := isK_ok hk
    rcases notL_ok h with ⟨rfl, rfl⟩ | ⟨rfl, rfl⟩ | ⟨n, l, rfl, rfl⟩
    · intro ρ vs w ha hi; exact viewN_none mixed noCount (hcX_ok.deep mixed noCount 100 5) (lo0 _) (v := .tuple [.nilslice, .int false .i64 2]) [] 50 (xo_nn k c z) (Paid.nil) rfl rfl rfl rfl ha hi
    · intro ρ vs w ha hi; exact viewN_none mixed noCount (hcX_ok.deep mixed noCount 100 5) (lo0 _) (v := .tuple [.nilslice, .int false .i64 2]) [] 50 (xo_ne k c z) (Paid.nil) rfl rfl rfl rfl ha hi
    · have o2 := ho _ (List.mem_cons_of_mem _ (List.mem_cons_self ..))
      have e1 : ((n : Int) != 12) = true := by simp at o2 ⊢; omega
      intro ρ vs w ha hi; exact viewN_none mixed noCount (hcX_ok.deep mixed noCount 100 5) (lo0 _) (v := .tuple [.nilslice, .int false .i64 2]) [true] 50 (xo_nb k n l c z) (paid_cons (ho _ (List.mem_cons_self ..)) (paid_cons e1 Paid.nil)) rfl rfl rfl rfl ha hi
  · split at h
    · rename_i o1 o2 hK hN
      cases h
      obtain ⟨q1, q2⟩ := paid_append.1 ho
      rcases notL_ok hK with ⟨rfl, rfl⟩ | ⟨rfl, rfl⟩ | ⟨n, k, rfl, rfl⟩
      · intro ρ vs w ha hi; exact viewN_none mixed noCount (hcX_ok.deep mixed noCount 100 5) (lo0 _) (v := .tuple [.nilslice, .int false .i64 2]) [] 50 (xo_kn N c z) (Paid.nil) rfl rfl rfl rfl ha hi
      · intro ρ vs w ha hi; exact viewN_none mixed noCount (hcX_ok.deep mixed noCount 100 5) (lo0 _) (v := .tuple [.nilslice, .int false .i64 2]) [] 50 (xo_ke N c z) (Paid.nil) rfl rfl rfl rfl ha hi
      · have r1 := q1 _ (List.mem_cons_self ..)
        have r2 := q1 _ (List.mem_cons_of_mem _ (List.mem_cons_self ..))
        have hA : ((n : Int) != 32) = true := by simp at r2 ⊢; omega
        rcases anyL_ok hN with ⟨rfl, rfl⟩ | ⟨rfl, rfl⟩ | ⟨m, l, rfl, rfl⟩
        · intro ρ vs w ha hi; exact viewN_none mixed noCount (hcX_ok.deep mixed noCount 100 5) (lo0 _) (v := .tuple [.nilslice, .int false .i64 2]) [true] 50 (xo_kbn n k c z) (paid_cons r1 (paid_cons (by cases ((n : Int) != 32) <;> rfl) (paid_cons (by cases ((n : Int) != 32) <;> rfl) (paid_cons (by cases ((n : Int) != 32) <;> rfl) (paid_cons (by rw [hA]) Paid.nil))))) rfl rfl rfl rfl ha hi
        · intro ρ vs w ha hi; exact viewN_none mixed noCount (hcX_ok.deep mixed noCount 100 5) (lo0 _) (v := .tuple [.nilslice, .int false .i64 2]) [true] 50 (xo_kbe n k c z) (paid_cons r1 (paid_cons (by cases ((n : Int) != 32) <;> rfl) (paid_cons (by cases ((n : Int) != 32) <;> rfl) (paid_cons (by cases ((n : Int) != 32) <;> rfl) (paid_cons (by rw [hA]) Paid.nil))))) rfl rfl rfl rfl ha hi
        · intro ρ vs w ha hi; exact viewN_none mixed noCount (hcX_ok.deep mixed noCount 100 5) (lo0 _) (v := .tuple [.nilslice, .int false .i64 2]) [true] 50 (xo_kbb n k m l c z) (paid_cons r1 (paid_cons (by rw [q2 _ (List.mem_cons_self ..), Bool.or_true]) (paid_cons (by cases ((n : Int) != 32) <;> rfl) (paid_cons (by cases ((n : Int) != 32) <;> rfl) (paid_cons (by cases ((n : Int) != 32) <;> rfl) (paid_cons (by rw [hA]) Paid.nil)))))) rfl rfl rfl rfl ha hi
    · cases h
theorem xo_b (c : Int) (k l : List Int) (n : Nat) (p : List Int) : seeV 4 ((funcL Try.prog qC (deep Try.prog qC hcX 100 5) (fun _ _ => none) 100 22 (cArgs 0 [.buf false .u8 32 k, .pl (.int true .u32 c), .buf false .u8 12 l, .buf true .u8 n p]) (cMem [.buf false .u8 32 k, .pl (.int true .u32 c), .buf false .u8 12 l, .buf true .u8 n p])).go []) = some ([decide (n < 9223372036854775808), decide (0 ≤ (n : Int)) && decide ((n : Int) ≤ (n : Int)) && decide ((n : Int) ≤ 281474976710656), decide (n < 9223372036854775808), decide (n < 9223372036854775807), true, decide (n = n), decide ((n : Int) = (n : Int)), decide (n ≤ n), decide (n ≤ (List.replicate (n : Int).toNat (0 : Int)).length)], .tuple [.slice true 4 0 (n : Int).toNat none 1, .int false .i64 0], some (some ⟨true, .ints .u8 none (cvN (ini k l) c p (List.replicate (n : Int).toNat 0) n)⟩)) := by kernel_rfl
theorem xo_n (c : Int) (k l : List Int) : seeV 4 ((funcL Try.prog qC (deep Try.prog qC hcX 100 5) (fun _ _ => none) 100 22 (cArgs 0 [.buf false .u8 32 k, .pl (.int true .u32 c), .buf false .u8 12 l, .pl .nilslice]) (cMem [.buf false .u8 32 k, .pl (.int true .u32 c), .buf false .u8 12 l, .pl .nilslice])).go []) = some ([], .tuple [.slice false 4 0 0 (some 0) 1, .int false .i64 0], some (some ⟨true, .ints .u8 (some 0) []⟩)) := by kernel_rfl
theorem xo_e (c : Int) (k l : List Int) : seeV 4 ((funcL Try.prog qC (deep Try.prog qC hcX 100 5) (fun _ _ => none) 100 22 (cArgs 0 [.buf false .u8 32 k, .pl (.int true .u32 c), .buf false .u8 12 l, .empty]) (cMem [.buf false .u8 32 k, .pl (.int true .u32 c), .buf false .u8 12 l, .empty])).go []) = some ([], .tuple [.slice false 4 0 0 (some 0) 1, .int false .i64 0], some (some ⟨true, .ints .u8 (some 0) []⟩)) := by kernel_rfl
def bkS : List V → E (AV × Mem)
  | [K, C, N] => match plI C with
    | some c => (match isK K, isN N with
      | some k, some l => some ([], (.tuple [.ints .u8 64 (blkB (ini k l) c), .int false .i64 0], []))
      | _, _ => match badS K N with
        | some o => some (o, (.tuple [.ints .u8 64 Z64, .int false .i64 2], []))
        | none => none)
    | none => none
  | _ => none
theorem bk_ok {xs : List V} {o : List Bool} {v : AV} {bs : Mem} (h : bkS xs = some (o, (v, bs))) (ho : Paid o) : ViewCall Try.prog 21 xs v bs := by
  unfold bkS at h
  split at h
  case h_2 => cases h
  rename_i K C N
  split at h
  case h_2 => cases h
  rename_i c hc
  obtain rfl := plI_ok hc
  split at h
  · rename_i k l hK hN
    obtain rfl := isK_ok hK
    obtain rfl := isN_ok hN
    cases h
    exact @view_of_res _ _ _ _ mixed noCount (hq4_ok.deep mixed noCount 100 5) _ _ _ _ _ _ (bk_good0 c k l) Paid.nil rfl rfl
  · split at h
    · rename_i o1 hb
      cases h
      exact bk_bad hb ho c
    · cases h
def xoS : List V → E (AV × Mem)
  | [K, C, N, Z] => match plI C with
    | some c => (match isK K, isN N with
      | some k, some l => (match txtN Z with
        | some (o, n, p) => some (o, (.tuple [.slice true 0 0 n none 1, .int false .i64 0], [some ⟨true, .ints .u8 none (cvL (ini k l) c p n)⟩]))
        | none => match nonE Z with
          | true => some ([], (.tuple [.slice false 0 0 0 (some 0) 1, .int false .i64 0], [some ⟨true, .ints .u8 (some 0) []⟩]))
          | false => none)
      | _, _ => match badS K N with
        | some o => some (o, (.tuple [.nilslice, .int false .i64 2], []))
        | none => none)
    | none => none
  | _ => none
theorem xo_ok {xs : List V} {o : List Bool} {v : AV} {bs : Mem} (h : xoS xs = some (o, (v, bs))) (ho : Paid o) : ViewCall Try.prog 22 xs v bs := by
  unfold xoS at h
  split at h
  case h_2 => cases h
  rename_i K C N Z
  split at h
  case h_2 => cases h
  rename_i c hc
  obtain rfl := plI_ok hc
  split at h
  · rename_i k l hK hN
    obtain rfl := isK_ok hK
    obtain rfl := isN_ok hN
    split at h
    · rename_i o1 n p hZ
      obtain ⟨s, rfl, rfl⟩ := txtN_ok hZ
      cases h
      have hn := of_decide_eq_true (ho _ (List.mem_cons_self ..))
      have ev := xo_b c k l n p
      rw [cvN_all, wr_n hn] at ev
      intro ρ vs w ha hi; exact viewN_one mixed noCount (hcX_ok.deep mixed noCount 100 5) (lo0 _) (v := .tuple [.slice true 0 0 n none 1, .int false .i64 0]) [] 4 ev (paid_cons (decide_eq_true (by omega)) (paid_cons (rfl) (paid_cons (decide_eq_true (by omega)) (paid_cons (decide_eq_true (by omega)) (paid_cons (rfl) (paid_cons (decide_eq_true rfl) (paid_cons (decide_eq_true rfl) (paid_cons (decide_eq_true (Nat.le_refl _)) (paid_cons (decide_eq_true (by rw [List.length_replicate]; omega)) (Paid.nil)))))))))) (Nat.le_refl _) rfl rfl (markL ha) hi
    · split at h
      · rename_i h2 h3
        cases h
        rcases nonE_ok h3 with rfl | rfl
        · intro ρ vs w ha hi; exact viewN_one mixed noCount (hcX_ok.deep mixed noCount 100 5) (lo0 _) (v := .tuple [.slice false 0 0 0 (some 0) 1, .int false .i64 0]) [] 4 (xo_n c k l) Paid.nil (Nat.le_refl _) rfl rfl ha hi
        · intro ρ vs w ha hi; exact viewN_one mixed noCount (hcX_ok.deep mixed noCount 100 5) (lo0 _) (v := .tuple [.slice false 0 0 0 (some 0) 1, .int false .i64 0]) [] 4 (xo_e c k l) Paid.nil (Nat.le_refl _) rfl rfl ha hi
      · cases h
  · split at h
    · rename_i o1 hb
      cases h
      exact xo_bad hb ho c Z
    · cases h
def hq5 : CallH := withV 22 xoS (withV 21 bkS hq4)
theorem hq5_ok : HOk Try.prog hq5 := (hq4_ok.withV fun _ _ _ _ h ho => bk_ok h ho).withV fun _ _ _ _ h ho => xo_ok h ho
end Go.Proofs.Ytpbemjifhampcaa
