/- A contract whose answer needs no memory of its own, whatever the call left behind. Own work. -/
import Derived.Test.YtfmgodgakndjcaaSEvIn
import Derived.Test.YtfmgodgakndjcaaSChF
import Derived.Test.YtfmgodgakndjcaaSChM
import Derived.Test.YtfmgodgakndjcaaSCzLenC
set_option linter.unusedSimpArgs false
set_option linter.unusedVariables false
set_option linter.unusedSectionVars false
namespace Go.Ev
set_option linter.unusedSectionVars false
variable [Tab]
section
variable {P : Program} {q : FuncId → Bool} {H : CallH} {Λ : LoopH}
theorem viewN_none (hm : P.follows .mixedOrders = true) (hng : noCount P = true) (hH : HOk P H) {n : Nat} {g : FuncId} {xs : List V} (hΛ : ∀ fn c, P.funcs[g]? = some fn → fn.body = some c → LOkN xs.length P c Λ) {o : List Bool} {v v' : AV} {b : Option (Option Blk)} (ds : List Bool) (j : Nat)
    (h : seeV j ((funcL P q H Λ n g (cArgs 0 xs) (cMem xs)).go ds) = some (o, v', b)) (ho : Paid o) (hv : v' = renA id (upA xs.length v)) (hba : bndA (xs.length + 0) (upA xs.length v) = true) (hinj : injB id (xs.length + 0) = true := by rfl) (hfix : fixB id xs.length = true := by rfl) :
    ViewCall P g xs v [] := by
  unfold seeV at h
  split at h
  · rename_i o' v2 m' hf
    simp only [Option.some.injEq, Prod.mk.injEq] at h
    obtain ⟨h1, h2, h3⟩ := h
    subst h1 h2
    have pulls : ∀ (a b : Nat) (M : Mem), Pulls id m' (b + a) M → Pulls id m' b (List.replicate a none ++ M) := by
      intro a
      induction a with
      | zero => intro b M h; exact h
      | succ a ih =>
        intro b M h
        rw [List.replicate_succ, List.cons_append]
        exact ih (b + 1) M (by rw [show b + 1 + a = b + (a + 1) by omega]; exact h)
    have bnd : ∀ (a k' : Nat) (M : Mem), bndM k' M = true → bndM k' (List.replicate a none ++ M) = true := by
      intro a
      induction a with
      | zero => intro k' M h; exact h
      | succ a ih => intro k' M h; rw [List.replicate_succ, List.cons_append]; exact ih k' M h
    intro ρ vs w ha hi
    exact viewN_of_goR (bs := []) hm hng hH hΛ ds id hf ho hv hba (pulls _ 0 _ trivial) (bnd _ _ _ rfl) hinj hfix ha hi
  · cases h
end
end Go.Ev
namespace Go.Ch
open Go.Ev Go.Sh
/-- Bytes that are not so many as they must be. -/
def notL (m : Nat) : V → Option (List Bool)
  | .pl .nilslice => some []
  | .empty => some []
  | .buf true .u8 n _ => some [decide (n < 9223372036854775808), !decide (n = m)]
  | _ => none
def anyL : V → Option (List Bool)
  | .pl .nilslice => some []
  | .empty => some []
  | .buf true .u8 n _ => some [decide (n < 9223372036854775808)]
  | _ => none
def plI : V → Option Int
  | .pl (.int true .u32 c) => some c
  | _ => none
def isK : V → Option (List Int)
  | .buf false .u8 32 k => some k
  | _ => none
def isN : V → Option (List Int)
  | .buf false .u8 12 l => some l
  | _ => none
/-- Bytes, and how many. -/
def txtN : V → Option (List Bool × Nat × List Int)
  | .buf _ .u8 n l => some ([decide (n ≤ 140737488351232)], n, l)
  | _ => none
def nonE : V → Bool
  | .pl .nilslice => true
  | .empty => true
  | _ => false
theorem isK_ok {x : V} {k : List Int} (h : isK x = some k) : x = .buf false .u8 32 k := by unfold isK at h; split at h <;> cases h; rfl
theorem isN_ok {x : V} {k : List Int} (h : isN x = some k) : x = .buf false .u8 12 k := by unfold isN at h; split at h <;> cases h; rfl
theorem plI_ok {x : V} {c : Int} (h : plI x = some c) : x = .pl (.int true .u32 c) := by unfold plI at h; split at h <;> cases h; rfl
theorem txtN_ok {x : V} {o : List Bool} {n : Nat} {l : List Int} (h : txtN x = some (o, n, l)) : ∃ s, x = .buf s .u8 n l ∧ o = [decide (n ≤ 140737488351232)] := by unfold txtN at h; split at h <;> cases h; exact ⟨_, rfl, rfl⟩
theorem markedS {ρ : Nat → Loc3} {N : Nat → Prop} {s : Bool} {n o len e : Nat} {cap : Option Nat} {v : Value} (h : Rep ρ N (.slice s n o len cap e) v) : Rep ρ N (.slice true n o len cap e) v := by
  cases h with | slice _ _ _ _ _ _ c ad h1 h2 h3 h4 h5 => exact .slice true _ _ _ _ _ c ad h1 h2 h3 h4 h5
/-- Of four arguments the last one's mark is nothing. -/
theorem markL {ρ : Nat → Loc3} {N : Nat → Prop} {A B C : V} {s : Bool} {k : IntKind} {n : Nat} {q : List Int} {vs : List Value} (h : Reps ρ N (cArgs 0 [A, B, C, .buf s k n q]) vs) : Reps ρ N (cArgs 0 [A, B, C, .buf true k n q]) vs := by
  cases h with
  | cons _ _ u us a0 hs =>
  cases hs with
  | cons _ _ u1 us1 a1 hs =>
  cases hs with
  | cons _ _ u2 us2 a2 hs =>
  cases hs with
  | cons _ _ u3 us3 a3 hnn =>
  exact .cons _ _ _ _ a0 (.cons _ _ _ _ a1 (.cons _ _ _ _ a2 (.cons _ _ _ _ (markedS a3) hnn)))
theorem nonE_ok {x : V} (h : nonE x = true) : x = .pl .nilslice ∨ x = .empty := by
  unfold nonE at h
  split at h
  · exact Or.inl rfl
  · exact Or.inr rfl
  · cases h
theorem notL_ok {m : Nat} {x : V} {o : List Bool} (h : notL m x = some o) : (x = .pl .nilslice ∧ o = []) ∨ (x = .empty ∧ o = []) ∨ ∃ n l, x = .buf true .u8 n l ∧ o = [decide (n < 9223372036854775808), !decide (n = m)] := by
  unfold notL at h
  split at h <;> cases h
  · exact Or.inl ⟨rfl, rfl⟩
  · exact Or.inr (Or.inl ⟨rfl, rfl⟩)
  · exact Or.inr (Or.inr ⟨_, _, rfl, rfl⟩)
theorem anyL_ok {x : V} {o : List Bool} (h : anyL x = some o) : (x = .pl .nilslice ∧ o = []) ∨ (x = .empty ∧ o = []) ∨ ∃ n l, x = .buf true .u8 n l ∧ o = [decide (n < 9223372036854775808)] := by
  unfold anyL at h
  split at h <;> cases h
  · exact Or.inl ⟨rfl, rfl⟩
  · exact Or.inr (Or.inl ⟨rfl, rfl⟩)
  · exact Or.inr (Or.inr ⟨_, _, rfl, rfl⟩)
/-- Keys and nonces that may not be. -/
def badS (K N : V) : Option (List Bool) :=
  match isK K with
  | some _ => notL 12 N
  | none => match notL 32 K, anyL N with
    | some o, some p => some (o ++ p)
    | _, _ => none
def Z64 : List Int := List.replicate 64 0
end Go.Ch
namespace Go.Proofs.Ytfmgodgakndjcaa
open Go.Ev Go.Sh Go.Ch
set_option maxRecDepth 100000
theorem lo0 {F : FuncId} (k0 : Nat) (fn : Func) (c : Code) (_ : Try.prog.funcs[F]? = some fn) (_ : fn.body = some c) : LOkN k0 Try.prog c (fun _ _ => none) := LOkN.none
theorem bk_kbn (n : Nat) (k : List Int) (c : Int) : seeV 50 ((funcL Try.prog qC (deep Try.prog qC hq4 100 5) (fun _ _ => none) 100 47 (cArgs 0 [.buf true .u8 n k, .pl (.int true .u32 c), .pl .nilslice]) (cMem [.buf true .u8 n k, .pl (.int true .u32 c), .pl .nilslice])).go [true]) = some ([decide (n < 9223372036854775808), (!(!((n : Int) != 32)) || !((n : Int) != 32)), (!(!((n : Int) != 32)) || !((n : Int) != 32)), (((n : Int) != 32) || !((n : Int) != 32)), (match ((n : Int) != 32) with | true => true | false => (0 : Int) != 12)], .tuple [.ints .u8 64 Z64, .int false .i64 2], none) := by kernel_rfl
theorem bk_kbe (n : Nat) (k : List Int) (c : Int) : seeV 50 ((funcL Try.prog qC (deep Try.prog qC hq4 100 5) (fun _ _ => none) 100 47 (cArgs 0 [.buf true .u8 n k, .pl (.int true .u32 c), .empty]) (cMem [.buf true .u8 n k, .pl (.int true .u32 c), .empty])).go [true]) = some ([decide (n < 9223372036854775808), (!(!((n : Int) != 32)) || !((n : Int) != 32)), (!(!((n : Int) != 32)) || !((n : Int) != 32)), (((n : Int) != 32) || !((n : Int) != 32)), (match ((n : Int) != 32) with | true => true | false => ((0 : Nat) : Int) != 12)], .tuple [.ints .u8 64 Z64, .int false .i64 2], none) := by kernel_rfl
theorem bk_kbb (n : Nat) (k : List Int) (m : Nat) (l : List Int) (c : Int) : seeV 50 ((funcL Try.prog qC (deep Try.prog qC hq4 100 5) (fun _ _ => none) 100 47 (cArgs 0 [.buf true .u8 n k, .pl (.int true .u32 c), .buf true .u8 m l]) (cMem [.buf true .u8 n k, .pl (.int true .u32 c), .buf true .u8 m l])).go [true]) = some ([decide (n < 9223372036854775808), (!(!((n : Int) != 32)) || decide (m < 9223372036854775808)), (!(!((n : Int) != 32)) || !((n : Int) != 32)), (!(!((n : Int) != 32)) || !((n : Int) != 32)), (((n : Int) != 32) || !((n : Int) != 32)), (match ((n : Int) != 32) with | true => true | false => (m : Int) != 12)], .tuple [.ints .u8 64 Z64, .int false .i64 2], none) := by kernel_rfl
theorem bk_kn (y : V) (c : Int) : seeV 50 ((funcL Try.prog qC (deep Try.prog qC hq4 100 5) (fun _ _ => none) 100 47 (cArgs 0 [.pl .nilslice, .pl (.int true .u32 c), y]) (cMem [.pl .nilslice, .pl (.int true .u32 c), y])).go []) = some ([], .tuple [.ints .u8 64 Z64, .int false .i64 2], none) := by kernel_rfl
theorem bk_ke (y : V) (c : Int) : seeV 50 ((funcL Try.prog qC (deep Try.prog qC hq4 100 5) (fun _ _ => none) 100 47 (cArgs 0 [.empty, .pl (.int true .u32 c), y]) (cMem [.empty, .pl (.int true .u32 c), y])).go []) = some ([], .tuple [.ints .u8 64 Z64, .int false .i64 2], none) := by kernel_rfl
theorem bk_nb (k : List Int) (n : Nat) (l : List Int) (c : Int) : seeV 50 ((funcL Try.prog qC (deep Try.prog qC hq4 100 5) (fun _ _ => none) 100 47 (cArgs 0 [.buf false .u8 32 k, .pl (.int true .u32 c), .buf true .u8 n l]) (cMem [.buf false .u8 32 k, .pl (.int true .u32 c), .buf true .u8 n l])).go [true]) = some ([decide (n < 9223372036854775808), ((n : Int) != 12)], .tuple [.ints .u8 64 Z64, .int false .i64 2], none) := by kernel_rfl
theorem bk_nn (k : List Int) (c : Int) : seeV 50 ((funcL Try.prog qC (deep Try.prog qC hq4 100 5) (fun _ _ => none) 100 47 (cArgs 0 [.buf false .u8 32 k, .pl (.int true .u32 c), .pl .nilslice]) (cMem [.buf false .u8 32 k, .pl (.int true .u32 c), .pl .nilslice])).go []) = some ([], .tuple [.ints .u8 64 Z64, .int false .i64 2], none) := by kernel_rfl
theorem bk_ne (k : List Int) (c : Int) : seeV 50 ((funcL Try.prog qC (deep Try.prog qC hq4 100 5) (fun _ _ => none) 100 47 (cArgs 0 [.buf false .u8 32 k, .pl (.int true .u32 c), .empty]) (cMem [.buf false .u8 32 k, .pl (.int true .u32 c), .empty])).go []) = some ([], .tuple [.ints .u8 64 Z64, .int false .i64 2], none) := by kernel_rfl
theorem bk_bad {K N : V} {o : List Bool} (h : badS K N = some o) (ho : Paid o) (c : Int) : ViewCall Try.prog 47 [K, .pl (.int true .u32 c), N] (.tuple [.ints .u8 64 Z64, .int false .i64 2]) [] := by
  unfold badS at h
  split at h
  · rename_i k hk
    obtain rfl := isK_ok hk
    rcases notL_ok h with ⟨rfl, rfl⟩ | ⟨rfl, rfl⟩ | ⟨n, l, rfl, rfl⟩
    · intro ρ vs w ha hi; exact viewN_none mixed noCount (hq4_ok.deep mixed noCount 100 5) (lo0 _) (v := .tuple [.ints .u8 64 Z64, .int false .i64 2]) [] 50 (bk_nn k c) (Paid.nil) rfl rfl rfl rfl ha hi
    · intro ρ vs w ha hi; exact viewN_none mixed noCount (hq4_ok.deep mixed noCount 100 5) (lo0 _) (v := .tuple [.ints .u8 64 Z64, .int false .i64 2]) [] 50 (bk_ne k c) (Paid.nil) rfl rfl rfl rfl ha hi
    · have o2 := ho _ (List.mem_cons_of_mem _ (List.mem_cons_self ..))
      have e1 : ((n : Int) != 12) = true := by simp at o2 ⊢; omega
      intro ρ vs w ha hi; exact viewN_none mixed noCount (hq4_ok.deep mixed noCount 100 5) (lo0 _) (v := .tuple [.ints .u8 64 Z64, .int false .i64 2]) [true] 50 (bk_nb k n l c) (paid_cons (ho _ (List.mem_cons_self ..)) (paid_cons e1 Paid.nil)) rfl rfl rfl rfl ha hi
  · split at h
    · rename_i o1 o2 hK hN
      cases h
      obtain ⟨q1, q2⟩ := paid_append.1 ho
      rcases notL_ok hK with ⟨rfl, rfl⟩ | ⟨rfl, rfl⟩ | ⟨n, k, rfl, rfl⟩
      · intro ρ vs w ha hi; exact viewN_none mixed noCount (hq4_ok.deep mixed noCount 100 5) (lo0 _) (v := .tuple [.ints .u8 64 Z64, .int false .i64 2]) [] 50 (bk_kn N c) (Paid.nil) rfl rfl rfl rfl ha hi
      · intro ρ vs w ha hi; exact viewN_none mixed noCount (hq4_ok.deep mixed noCount 100 5) (lo0 _) (v := .tuple [.ints .u8 64 Z64, .int false .i64 2]) [] 50 (bk_ke N c) (Paid.nil) rfl rfl rfl rfl ha hi
      · have r1 := q1 _ (List.mem_cons_self ..)
        have r2 := q1 _ (List.mem_cons_of_mem _ (List.mem_cons_self ..))
        have hA : ((n : Int) != 32) = true := by simp at r2 ⊢; omega
        rcases anyL_ok hN with ⟨rfl, rfl⟩ | ⟨rfl, rfl⟩ | ⟨m, l, rfl, rfl⟩
        · intro ρ vs w ha hi; exact viewN_none mixed noCount (hq4_ok.deep mixed noCount 100 5) (lo0 _) (v := .tuple [.ints .u8 64 Z64, .int false .i64 2]) [true] 50 (bk_kbn n k c) (paid_cons r1 (paid_cons (by cases ((n : Int) != 32) <;> rfl) (paid_cons (by cases ((n : Int) != 32) <;> rfl) (paid_cons (by cases ((n : Int) != 32) <;> rfl) (paid_cons (by rw [hA]) Paid.nil))))) rfl rfl rfl rfl ha hi
        · intro ρ vs w ha hi; exact viewN_none mixed noCount (hq4_ok.deep mixed noCount 100 5) (lo0 _) (v := .tuple [.ints .u8 64 Z64, .int false .i64 2]) [true] 50 (bk_kbe n k c) (paid_cons r1 (paid_cons (by cases ((n : Int) != 32) <;> rfl) (paid_cons (by cases ((n : Int) != 32) <;> rfl) (paid_cons (by cases ((n : Int) != 32) <;> rfl) (paid_cons (by rw [hA]) Paid.nil))))) rfl rfl rfl rfl ha hi
        · intro ρ vs w ha hi; exact viewN_none mixed noCount (hq4_ok.deep mixed noCount 100 5) (lo0 _) (v := .tuple [.ints .u8 64 Z64, .int false .i64 2]) [true] 50 (bk_kbb n k m l c) (paid_cons r1 (paid_cons (by rw [q2 _ (List.mem_cons_self ..), Bool.or_true]) (paid_cons (by cases ((n : Int) != 32) <;> rfl) (paid_cons (by cases ((n : Int) != 32) <;> rfl) (paid_cons (by cases ((n : Int) != 32) <;> rfl) (paid_cons (by rw [hA]) Paid.nil)))))) rfl rfl rfl rfl ha hi
    · cases h
theorem bk_good0 (c : Int) (k l : List Int) : res (funcA Try.prog qC (deep Try.prog qC hq4 100 5) 100 47 (cArgs 0 [.buf false .u8 32 k, .pl (.int true .u32 c), .buf false .u8 12 l]) (cMem [.buf false .u8 32 k, .pl (.int true .u32 c), .buf false .u8 12 l])) = some ([], .tuple [.ints .u8 64 (blkB (ini k l) c), .int false .i64 0]) := by kernel_rfl
def bkS : List V → E (AV × Mem)
  | [K, C, N] => match plI C with
    | some c => (match isK K, isN N with
      | some k, some l => some ([], (.tuple [.ints .u8 64 (blkB (ini k l) c), .int false .i64 0], []))
      | _, _ => match badS K N with
        | some o => some (o, (.tuple [.ints .u8 64 Z64, .int false .i64 2], []))
        | none => none)
    | none => none
  | _ => none
theorem bk_ok {xs : List V} {o : List Bool} {v : AV} {bs : Mem} (h : bkS xs = some (o, (v, bs))) (ho : Paid o) : ViewCall Try.prog 47 xs v bs := by
  unfold bkS at h
  split at h
  case h_2 => cases h
  rename_i K C N
  split at h
  case h_2 => cases h
  rename_i c hc
  obtain rfl := plI_ok hc
  split at h
  · rename_i k l hK hN
    obtain rfl := isK_ok hK
    obtain rfl := isN_ok hN
    cases h
    exact @view_of_res _ _ _ _ mixed noCount (hq4_ok.deep mixed noCount 100 5) _ _ _ _ _ _ (bk_good0 c k l) Paid.nil rfl rfl
  · split at h
    · rename_i o1 hb
      cases h
      exact bk_bad hb ho c
    · cases h
def hq5 : CallH := withV 47 bkS hq4
theorem hq5_ok : HOk Try.prog hq5 := hq4_ok.withV fun _ _ _ _ h ho => bk_ok h ho
end Go.Proofs.Ytfmgodgakndjcaa
namespace Go.Ch
open Go.Ev Go.Sh
/-- The number of bytes, the lowest first. -/
def leN : List Int → Int
  | [] => 0
  | x :: r => x + 256 * leN r
theorem leN_app (a b : List Int) : leN (a ++ b) = leN a + 256 ^ a.length * leN b := by
  induction a with
  | nil => simp [leN]
  | cons x a ih =>
    show x + 256 * leN (a ++ b) = x + 256 * leN a + 256 ^ (a.length + 1) * leN b
    rw [ih, Int.pow_succ]
    generalize (256 : Int) ^ a.length = p
    generalize leN b = y
    generalize leN a = z
    rw [Int.mul_comm p 256, Int.mul_assoc]
    generalize p * y = w
    omega
theorem leN_zeros : ∀ n, leN (List.replicate n 0) = 0
  | 0 => rfl
  | n + 1 => by rw [List.replicate_succ]; unfold leN; rw [leN_zeros n]; rfl
theorem leN_bound {l : List Int} (h : ∀ x ∈ l, B8 x) : 0 ≤ leN l ∧ leN l < 256 ^ l.length := by
  induction l with
  | nil => exact ⟨Int.le_refl _, by decide⟩
  | cons x l ih =>
    obtain ⟨h1, h2⟩ := ih fun y hy => h y (List.mem_cons_of_mem _ hy)
    have hx := h x (List.mem_cons_self ..)
    unfold B8 at hx
    show 0 ≤ x + 256 * leN l ∧ x + 256 * leN l < 256 ^ (l.length + 1)
    rw [Int.pow_succ]
    generalize (256 : Int) ^ l.length = p at *
    omega
theorem leN_take (l : List Int) (n : Nat) (h : n ≤ l.length) : leN l = leN (l.take n) + 256 ^ n * leN (l.drop n) := by
  have e := leN_app (l.take n) (l.drop n)
  rw [List.take_append_drop, List.length_take, Nat.min_eq_left h] at e
  exact e
def v3 (a b c : Int) : Int := a + 18446744073709551616 * b + 340282366920938463463374607431768211456 * c
def g0 (v : Int) : Int := v % 18446744073709551616
def g1 (v : Int) : Int := v / 18446744073709551616 % 18446744073709551616
def g2 (v : Int) : Int := v / 340282366920938463463374607431768211456 % 18446744073709551616
theorem v3_g {v : Int} (h : 0 ≤ v ∧ v < 6277101735386680763835789423207666416102355444464034512896) : v3 (g0 v) (g1 v) (g2 v) = v := by
  unfold v3 g0 g1 g2; omega
theorem g_v3 {a b c : Int} (ha : Go.Wn.W a) (hb : Go.Wn.W b) (hc : Go.Wn.W c) : g0 (v3 a b c) = a ∧ g1 (v3 a b c) = b ∧ g2 (v3 a b c) = c := by
  unfold Go.Wn.W at *; unfold v3 g0 g1 g2; omega
theorem g_W (v : Int) : Go.Wn.W (g0 v) ∧ Go.Wn.W (g1 v) ∧ Go.Wn.W (g2 v) := by unfold Go.Wn.W g0 g1 g2; omega
/- bits -/
theorem iand3 {x : Int} (h : Go.Wn.W x) : iand .u64 x 3 = x % 4 := by
  rw [Go.Wn.iand_eq, BitVec.toNat_and]
  have h1 : (Go.Wn.bv 3).toNat = 2 ^ 2 - 1 := by decide
  rw [h1, Nat.and_two_pow_sub_one_eq_mod]
  have := Go.Wn.bv_W h
  omega
theorem iandn_eq (x y : Int) : iandn .u64 x y = ((Go.Wn.bv x &&& ~~~ Go.Wn.bv y).toNat : Int) := by
  show IntKind.u64.wrap ((Go.Wn.bv x &&& ~~~ Go.Wn.bv y).toNat : Int) = _
  have := (Go.Wn.bv x &&& ~~~ Go.Wn.bv y).isLt
  exact Go.Wn.uw64 ⟨Int.natCast_nonneg _, Int.ofNat_lt.2 this⟩
theorem iandn3 {x : Int} (h : Go.Wn.W x) : iandn .u64 x 3 = x - x % 4 := by
  rw [iandn_eq]
  have e : Go.Wn.bv x &&& ~~~ Go.Wn.bv 3 = (Go.Wn.bv x >>> 2) <<< 2 := by
    apply BitVec.eq_of_getLsbD_eq
    intro i hi
    have h3 : (Go.Wn.bv 3).getLsbD i = decide (i < 2) := by
      have : Go.Wn.bv 3 = BitVec.ofNat 64 (2 ^ 2 - 1) := by decide
      rw [this, BitVec.getLsbD_ofNat, Nat.testBit_two_pow_sub_one]
      simp [hi]
    simp only [BitVec.getLsbD_and, BitVec.getLsbD_not, h3, BitVec.getLsbD_shiftLeft, BitVec.getLsbD_ushiftRight, hi, decide_true, Bool.true_and]
    by_cases h2 : i < 2
    · simp [h2]
    · rw [show 2 + (i - 2) = i by omega]; simp [h2]
  rw [e, BitVec.toNat_shiftLeft, BitVec.toNat_ushiftRight, Nat.shiftLeft_eq, Nat.shiftRight_eq_div_pow]
  have := Go.Wn.bv_W h
  have hl := (Go.Wn.bv x).isLt
  generalize (Go.Wn.bv x).toNat = n at *
  omega
theorem iand_z (x : Int) : iand .u64 x 0 = 0 := by
  rw [Go.Wn.iand_eq, show Go.Wn.bv 0 = 0#64 by decide, BitVec.and_zero]; rfl
theorem iandn_z {x : Int} (h : Go.Wn.W x) : iandn .u64 x 0 = x := by
  rw [iandn_eq, show ~~~ Go.Wn.bv 0 = BitVec.allOnes 64 by decide, BitVec.and_allOnes]
  exact Go.Wn.bv_W h
theorem iand_o {x : Int} (h : Go.Wn.W x) : iand .u64 x 18446744073709551615 = x := by
  rw [Go.Wn.iand_eq, show Go.Wn.bv 18446744073709551615 = BitVec.allOnes 64 by decide, BitVec.and_allOnes]
  exact Go.Wn.bv_W h
theorem iandn_o (x : Int) : iandn .u64 x 18446744073709551615 = 0 := by
  rw [iandn_eq, show ~~~ Go.Wn.bv 18446744073709551615 = 0#64 by decide, BitVec.and_zero]; rfl
theorem W64 {x : Int} (h : Go.Wn.W x) : Wd 64 x := ⟨h.1, h.2⟩
theorem ior_z {x : Int} (h : Go.Wn.W x) : ior .u64 0 x = x ∧ ior .u64 x 0 = x := by
  have z : Wd 64 0 := ⟨by decide, by decide⟩
  rw [ior_io (k := .u64) rfl z (W64 h), ior_io (k := .u64) rfl (W64 h) z]
  unfold io Go.Wn.W at *
  simp
  omega
/- sums -/
theorem plus_eq {a0 a1 a2 b0 b1 b2 : Int} (ha0 : Go.Wn.W a0) (ha1 : Go.Wn.W a1) (ha2 : Go.Wn.W a2) (hb0 : Go.Wn.W b0) (hb1 : Go.Wn.W b1) (hb2 : Go.Wn.W b2) :
    (a0 + b0 + 0) % 18446744073709551616 = g0 (v3 a0 a1 a2 + v3 b0 b1 b2) ∧ (a1 + b1 + (a0 + b0 + 0) / 18446744073709551616) % 18446744073709551616 = g1 (v3 a0 a1 a2 + v3 b0 b1 b2) ∧
    IntKind.u64.wrap (IntKind.u64.wrap (a2 + b2) + (a1 + b1 + (a0 + b0 + 0) / 18446744073709551616) / 18446744073709551616) = g2 (v3 a0 a1 a2 + v3 b0 b1 b2) ∧
    (a0 + b0 + 0) / 18446744073709551616 ≤ 1 := by
  unfold Go.Wn.W at *
  simp only [Go.Wn.wrap_eq]
  unfold g0 g1 g2 v3
  refine ⟨by omega, by omega, by omega, by omega⟩
/-- One word's product with two. -/
theorem row_eq {r0 r1 x : Int} (h0 : Go.Wn.W r0) (h1 : Go.Wn.W r1) (hx : Go.Wn.W x) :
    r0 * x % 18446744073709551616 = g0 ((r0 + 18446744073709551616 * r1) * x) ∧ (r1 * x % 18446744073709551616 + r0 * x / 18446744073709551616 + 0) % 18446744073709551616 = g1 ((r0 + 18446744073709551616 * r1) * x) ∧
    IntKind.u64.wrap (r1 * x / 18446744073709551616 + (r1 * x % 18446744073709551616 + r0 * x / 18446744073709551616 + 0) / 18446744073709551616) = g2 ((r0 + 18446744073709551616 * r1) * x) := by
  have m0 := Go.Wn.mul_W h0 hx
  have m1 := Go.Wn.mul_W h1 hx
  rw [Int.add_mul, Int.mul_assoc]
  generalize r0 * x = p at *
  generalize r1 * x = q at *
  simp only [Go.Wn.wrap_eq]
  unfold g0 g1 g2
  refine ⟨by omega, by omega, by omega⟩
/-- What is beyond 2^130 counts five times. -/
def fold5 (X : Int) : Int := X % 1361129467683753853853498429727072845824 + 5 * (X / 1361129467683753853853498429727072845824)
theorem fold5_lt {X : Int} (h0 : 0 ≤ X) (h : X < 115792089237316195423570985008687907853269984665640564039457584007913129639936) : 0 ≤ fold5 X ∧ fold5 X < 1786482426335426933182716689641782910144 := by
  unfold fold5; omega
/-- The product's parts put together. -/
def tM (F S : Int) : Int := g1 F + g0 S + 0
def tG (F S : Int) : Int := g2 F + g1 S + tM F S / 18446744073709551616
def tH (F S T : Int) : Int := tG F S % 18446744073709551616 + g0 T + 0
def tT (F S T : Int) : Int := IntKind.u64.wrap (IntKind.u64.wrap (IntKind.u64.wrap (g2 S + g1 T) + tG F S / 18446744073709551616) + tH F S T / 18446744073709551616)
def tR (F S T : Int) : Int := v3 (g0 F) (tM F S % 18446744073709551616) (iand .u64 (tH F S T % 18446744073709551616) 3) + v3 (iandn .u64 (tH F S T % 18446744073709551616) 3) (tT F S T) 0
def tO (F S T : Int) : Int := v3 (ior .u64 (ishl .u64 (tT F S T) 62) (ishr .u64 (tH F S T % 18446744073709551616) 2)) (ishr .u64 (tT F S T) 2) 0
theorem times_X {f0 f1 f2 s0 s1 s2 t0 t1 m c g v h w t : Int} (em : f1 + s0 = m + 18446744073709551616 * c) (eg : f2 + s1 + c = g + 18446744073709551616 * v) (eh : g + t0 = h + 18446744073709551616 * w) (et : t = s2 + t1 + v + w) :
    (f0 + 18446744073709551616 * f1 + 340282366920938463463374607431768211456 * f2) + 18446744073709551616 * (s0 + 18446744073709551616 * s1 + 340282366920938463463374607431768211456 * s2) + 340282366920938463463374607431768211456 * (t0 + 18446744073709551616 * t1) =
      f0 + 18446744073709551616 * m + 340282366920938463463374607431768211456 * h + 6277101735386680763835789423207666416102355444464034512896 * t := by omega
theorem fold_X {r a : Int} (h : 0 ≤ r ∧ r < 1361129467683753853853498429727072845824) : fold5 (r + 1361129467683753853853498429727072845824 * a) = r + 5 * a := by
  unfold fold5
  rw [Int.add_mul_emod_self_left, Int.emod_eq_of_lt h.1 h.2, Int.add_mul_ediv_left _ _ (by decide), Int.ediv_eq_zero_of_lt h.1 h.2, Int.zero_add]
theorem top_lt {f0 m h t : Int} (h0 : 0 ≤ f0) (hm : 0 ≤ m) (hh : 0 ≤ h) (hX : f0 + 18446744073709551616 * m + 340282366920938463463374607431768211456 * h + 6277101735386680763835789423207666416102355444464034512896 * t < 115792089237316195423570985008687907853269984665640564039457584007913129639936) : t < 18446744073709551616 := by omega
theorem wrap3 {a b c d : Int} (ha : 0 ≤ a) (hb : 0 ≤ b) (hc : 0 ≤ c) (hd : 0 ≤ d) (h : a + b + c + d < 18446744073709551616) : IntKind.u64.wrap (IntKind.u64.wrap (IntKind.u64.wrap (a + b) + c) + d) = a + b + c + d := by
  rw [Go.Wn.uw64 (y := a + b) (by omega), Go.Wn.uw64 (y := a + b + c) (by omega), Go.Wn.uw64 (y := a + b + c + d) (by omega)]
theorem fin_X {f0 m a b p q t : Int} (ht : t = 4 * p + q) : f0 + 18446744073709551616 * m + 340282366920938463463374607431768211456 * b + (4 * a) + 18446744073709551616 * t + (q * 4611686018427387904 + a + 18446744073709551616 * p) = f0 + 18446744073709551616 * m + 340282366920938463463374607431768211456 * b + 5 * (a + 4611686018427387904 * t) := by omega
theorem onc_eq {t h : Int} (ht : 0 ≤ t ∧ t < 18446744073709551616) (hw : 0 ≤ h ∧ h < 18446744073709551616) : ior .u64 (ishl .u64 t 62) (ishr .u64 h 2) = (t % 4) * 4611686018427387904 + h / 4 := by
  have e : t * 2 ^ 62 % 2 ^ 64 = (t % 4) * 4611686018427387904 := by omega
  rw [show ishl .u64 t 62 = t * 2 ^ 62 % 2 ^ 64 from sl64 62 (by decide), show ishr .u64 h 2 = h / 2 ^ 2 from sd64 2 (by decide), e]
  rw [ior_add (k := .u64) rfl 62 (by omega) (by omega) (by omega) (by simp only [IntKind.bits]; omega)]
  omega
theorem g_split {F : Int} (h : 0 ≤ F ∧ F < 392318858461667547739736838950479151006397215279002157056) : F = g0 F + 18446744073709551616 * g1 F + 340282366920938463463374607431768211456 * g2 F ∧ (0 ≤ g2 F ∧ g2 F < 1152921504606846976) := by
  unfold g0 g1 g2; omega
theorem g_split2 {F : Int} (h : 0 ≤ F ∧ F < 340282366920938463463374607431768211456) : F = g0 F + 18446744073709551616 * g1 F := by unfold g0 g1; omega
theorem dm {a : Int} : a = a % 18446744073709551616 + 18446744073709551616 * (a / 18446744073709551616) := by omega
theorem times_eq {F S T : Int} (hF : 0 ≤ F ∧ F < 392318858461667547739736838950479151006397215279002157056) (hS : 0 ≤ S ∧ S < 392318858461667547739736838950479151006397215279002157056) (hT : 0 ≤ T ∧ T < 340282366920938463463374607431768211456)
    (hX : F + 18446744073709551616 * S + 340282366920938463463374607431768211456 * T < 115792089237316195423570985008687907853269984665640564039457584007913129639936) :
    v3 (g0 (tR F S T)) (g1 (tR F S T)) (g2 (tR F S T)) + tO F S T = fold5 (F + 18446744073709551616 * S + 340282366920938463463374607431768211456 * T) ∧ tM F S / 18446744073709551616 ≤ 1 := by
  obtain ⟨eF, bF⟩ := g_split hF
  obtain ⟨eS, bS⟩ := g_split hS
  have eT := g_split2 hT
  obtain ⟨wf0, wf1, _⟩ := g_W F
  obtain ⟨ws0, ws1, _⟩ := g_W S
  obtain ⟨wt0, wt1, _⟩ := g_W T
  have hc1 : 0 ≤ tM F S / 18446744073709551616 ∧ tM F S / 18446744073709551616 ≤ 1 := by unfold tM; unfold Go.Wn.W at *; clear eF eS eT hX hF hS hT; omega
  have hm1 : 0 ≤ tM F S % 18446744073709551616 := by omega
  have hv1 : 0 ≤ tG F S / 18446744073709551616 := by unfold tG; unfold Go.Wn.W at *; clear eF eS eT hX hF hS hT; omega
  have hg1 : 0 ≤ tG F S % 18446744073709551616 ∧ tG F S % 18446744073709551616 < 18446744073709551616 := by omega
  have hh1 : 0 ≤ tH F S T % 18446744073709551616 ∧ tH F S T % 18446744073709551616 < 18446744073709551616 := by omega
  have hw1 : 0 ≤ tH F S T / 18446744073709551616 := by unfold tH; unfold Go.Wn.W at *; clear eF eS eT hX hF hS hT; omega
  have em := dm (a := tM F S)
  have eg := dm (a := tG F S)
  have eh := dm (a := tH F S T)
  have eX := times_X (f0 := g0 F) (f1 := g1 F) (f2 := g2 F) (s0 := g0 S) (s1 := g1 S) (s2 := g2 S) (t0 := g0 T) (t1 := g1 T) (m := tM F S % 18446744073709551616) (c := tM F S / 18446744073709551616) (g := tG F S % 18446744073709551616) (v := tG F S / 18446744073709551616) (h := tH F S T % 18446744073709551616) (w := tH F S T / 18446744073709551616) (t := g2 S + g1 T + tG F S / 18446744073709551616 + tH F S T / 18446744073709551616)
    (by rw [← em]; unfold tM; exact (Int.add_zero _).symm) (by rw [← eg]; rfl) (by rw [← eh]; unfold tH; exact (Int.add_zero _).symm) rfl
  rw [← eF, ← eS, ← eT] at eX
  have tlt := top_lt wf0.1 hm1 hh1.1 (by rw [← eX]; exact hX)
  have et : tT F S T = g2 S + g1 T + tG F S / 18446744073709551616 + tH F S T / 18446744073709551616 := wrap3 bS.1 wt1.1 hv1 hw1 tlt
  have t0 : 0 ≤ tT F S T := by rw [et]; exact Int.add_nonneg (Int.add_nonneg (Int.add_nonneg bS.1 wt1.1) hv1) hw1
  rw [← et] at eX tlt
  refine ⟨?_, hc1.2⟩
  have hfm : g0 F < 18446744073709551616 := wf0.2
  have hf0 : 0 ≤ g0 F := wf0.1
  have hm2 : tM F S % 18446744073709551616 < 18446744073709551616 := by omega
  have eR : tR F S T = g0 F + 18446744073709551616 * (tM F S % 18446744073709551616) + 340282366920938463463374607431768211456 * (tH F S T % 18446744073709551616 % 4) + (4 * (tH F S T % 18446744073709551616 / 4)) + 18446744073709551616 * tT F S T := by
    unfold tR
    rw [iand3 (x := tH F S T % 18446744073709551616) hh1, iandn3 (x := tH F S T % 18446744073709551616) hh1]
    generalize tH F S T % 18446744073709551616 = h
    generalize tM F S % 18446744073709551616 = m
    generalize g0 F = f
    generalize tT F S T = t
    unfold v3
    clear eX et tlt t0 em eg eh hX hF hS hT eF eS eT hh1 hw1 hg1 hv1 hm1 hc1 wt0 wt1 ws0 ws1 wf0 wf1 bF bS
    omega
  have eO : tO F S T = (tT F S T % 4) * 4611686018427387904 + tH F S T % 18446744073709551616 / 4 + 18446744073709551616 * (tT F S T / 4) := by
    unfold tO
    rw [onc_eq ⟨t0, tlt⟩ hh1, show ishr .u64 (tT F S T) 2 = tT F S T / 2 ^ 2 from sd64 2 (by decide)]
    generalize tT F S T = t
    unfold v3
    clear eR
    show _ + 18446744073709551616 * (t / 4) + 340282366920938463463374607431768211456 * 0 = _
    omega
  have bR : 0 ≤ tR F S T ∧ tR F S T < 6277101735386680763835789423207666416102355444464034512896 := by
    rw [eR]
    clear eR eO eX et em eg eh hX hF hS hT eF eS eT hw1 hg1 hv1 hc1 wt0 wt1 ws0 ws1 wf0 wf1 bF bS
    generalize tH F S T % 18446744073709551616 = h at *
    generalize tM F S % 18446744073709551616 = m at *
    generalize g0 F = f at *
    generalize tT F S T = t at *
    omega
  rw [v3_g bR, eR, eO, eX, fin_X (t := tT F S T) (p := tT F S T / 4) (q := tT F S T % 4) (by omega)]
  have e4 : g0 F + 18446744073709551616 * (tM F S % 18446744073709551616) + 340282366920938463463374607431768211456 * (tH F S T % 18446744073709551616) + 6277101735386680763835789423207666416102355444464034512896 * tT F S T =
      (g0 F + 18446744073709551616 * (tM F S % 18446744073709551616) + 340282366920938463463374607431768211456 * (tH F S T % 18446744073709551616 % 4)) + 1361129467683753853853498429727072845824 * (tH F S T % 18446744073709551616 / 4 + 4611686018427387904 * tT F S T) := by
    generalize tH F S T % 18446744073709551616 = h
    generalize tM F S % 18446744073709551616 = m
    generalize g0 F = f
    generalize tT F S T = t
    clear eX et tlt t0 em eg eh hX hF hS hT eF eS eT hh1 hw1 hg1 hv1 hm1 hc1 wt0 wt1 ws0 ws1 wf0 wf1 bF bS
    omega
  rw [e4, fold_X]
  clear e4 eR eO bR eX et em eg eh hX hF hS hT eF eS eT hw1 hg1 hv1 hc1 wt0 wt1 ws0 ws1 wf0 wf1 bF bS t0 tlt
  generalize tH F S T % 18446744073709551616 = h at *
  generalize tM F S % 18446744073709551616 = m at *
  generalize g0 F = f at *
  omega
theorem least_eq {a b c : Int} (ha : Go.Wn.W a) (hb : Go.Wn.W b) (hc : Go.Wn.W c) (hv : v3 a b c < 2722258935367507707706996859454145691638) :
    let u := v3 a b c + v3 5 0 0
    let ch := IntKind.u64.wrap (0 - ishr .u64 (g2 u) 2)
    ior .u64 (iand .u64 (g0 u) ch) (iandn .u64 a ch) = g0 (v3 a b c % 1361129467683753853853498429727072845819) ∧ ior .u64 (iand .u64 (g1 u) ch) (iandn .u64 b ch) = g1 (v3 a b c % 1361129467683753853853498429727072845819) ∧
      ior .u64 (iand .u64 (iand .u64 (g2 u) 3) ch) (iandn .u64 c ch) = g2 (v3 a b c % 1361129467683753853853498429727072845819) := by
  intro u ch
  obtain ⟨w0, w1, w2⟩ := g_W u
  have e : ishr .u64 (g2 u) 2 = g2 u / 4 := sd64 2 (by decide)
  have e3 := iand3 w2
  have hu : u = v3 a b c + 5 := by show v3 a b c + v3 5 0 0 = _; unfold v3; omega
  have z : Go.Wn.W 0 := ⟨by decide, by decide⟩
  have h0 : 0 ≤ v3 a b c := by unfold Go.Wn.W at *; unfold v3; omega
  by_cases h : v3 a b c + 5 < 1361129467683753853853498429727072845824
  · have ec : ch = 0 := by
      show IntKind.u64.wrap (0 - ishr .u64 (g2 u) 2) = 0
      rw [e, hu, Go.Wn.wrap_eq]; unfold g2; omega
    rw [ec, iand_z, iand_z, iand_z, iandn_z ha, iandn_z hb, iandn_z hc, (ior_z ha).1, (ior_z hb).1, (ior_z hc).1, Int.emod_eq_of_lt h0 (by omega)]
    obtain ⟨k1, k2, k3⟩ := g_v3 ha hb hc
    exact ⟨k1.symm, k2.symm, k3.symm⟩
  · have ec : ch = 18446744073709551615 := by
      show IntKind.u64.wrap (0 - ishr .u64 (g2 u) 2) = _
      rw [e, hu, Go.Wn.wrap_eq]; unfold g2; omega
    have w3 : Go.Wn.W (g2 u % 4) := by unfold Go.Wn.W; omega
    rw [e3, ec, iand_o w0, iand_o w1, iand_o w3, iandn_o, iandn_o, iandn_o, (ior_z w0).2, (ior_z w1).2, (ior_z w3).2, hu]
    have em : v3 a b c % 1361129467683753853853498429727072845819 = v3 a b c - 1361129467683753853853498429727072845819 := by omega
    rw [em]
    generalize v3 a b c = v at *
    unfold g0 g1 g2
    omega
end Go.Ch
