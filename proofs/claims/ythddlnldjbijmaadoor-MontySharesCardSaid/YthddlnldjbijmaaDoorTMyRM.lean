/- Layer 9: times, walked in its callers' memory. Own work. -/
import Derived.Test.YthddlnldjbijmaaDoorTMoB
import Derived.Test.YthddlnldjbijmaaDoorTMyW
import Derived.Test.YthddlnldjbijmaaDoorTEvTurn
import Derived.Test.YthddlnldjbijmaaDoorTMyMC
set_option linter.unusedSimpArgs false
set_option linter.unusedVariables false
set_option linter.unusedSectionVars false
namespace Go.Proofs.YthddlnldjbijmaaDoor
open Go.Ev Go.Wn Go.Mo
set_option maxRecDepth 100000
noncomputable def hnT : CallH := inL Tryd.prog qn (deep Tryd.prog qn hn0 100 3) (ldΛ fun _ _ => none) 200 21 [] hn0
theorem hnT_ok : HOk Tryd.prog hnT := HOk.inL mixed noCount (hn0_ok.deep mixed noCount 100 3) hn0_ok 200 _ [] fun fn c hf hb => by rw [bodyOf_eq hf hb]; exact ld_lok LOk.none
end Go.Proofs.YthddlnldjbijmaaDoor
namespace Go.Mo
open Go.Ev Go.Wn
def pI (z : Int) : Int := (vl z ^ (val PL - 2).toNat) % val PL
/-- The u of n times the point of u. -/
def resI (N U : Int) : Int := mI (lad N U 255).1 (pI (lad N U 255).2.1)
def kwL (l : List Int) : List Int := (l.set 0 (iandn .u64 (l.getD 0 0) 7)).set 3 (ior .u64 (iandn .u64 ((l.set 0 (iandn .u64 (l.getD 0 0) 7)).getD 3 0) 9223372036854775808) 4611686018427387904)
def uwL (l : List Int) : List Int := l.set 3 (iandn .u64 (l.getD 3 0) 9223372036854775808)
end Go.Mo
namespace Go.Proofs.YthddlnldjbijmaaDoor
open Go.Ev Go.Wn Go.Mo
set_option maxRecDepth 100000
/-- The bytes that Mult answers. -/
def mulB (k u : List Int) : List Int := turnedL (limbs (resI (val (kwL (litL k))) (val (uwL (litL u)))))
def muO (k u : List Int) : List Bool := List.replicate 6 true ++ [decide ([(uwL (litL u)).getD 0 0, (uwL (litL u)).getD 1 0, (uwL (litL u)).getD 2 0, (uwL (litL u)).getD 3 0, 1, 0, 0, 0] = limbs (val (uwL (litL u))) ++ limbs 1), decide (uwL (litL u) = limbs (val (uwL (litL u)))), decide (limbs (val (kwL (litL k))) = kwL (litL k)), true, true]
theorem mu_evalL (k u : List Int) : seeV 7 ((funcL Tryd.prog qn (deep Tryd.prog qn hnT 100 3) (fun _ _ => none) 200 9 (cArgs 0 [.buf false .u8 32 k, .buf false .u8 32 u]) (cMem [.buf false .u8 32 k, .buf false .u8 32 u])).go []) =
    some (muO k u, .tuple [.slice false 7 0 32 (some 32) 1, .int false .i64 0], some (some ⟨true, .ints .u8 (some 32) (mulB k u)⟩)) := by kernel_rfl
end Go.Proofs.YthddlnldjbijmaaDoor
namespace Go.Mo
open Go.Ev Go.Wn
theorem iandn_eq (x y : Int) : iandn .u64 x y = ((bv x &&& ~~~ bv y).toNat : Int) := by
  have h := bv_range (bv x &&& ~~~ bv y)
  unfold W at h
  exact uw64 h
theorem iandn_seven {x : Int} (h : W x) : iandn .u64 x 7 = x - x % 8 := by
  rw [iandn_eq]
  have hb := bv_W h
  have e : (bv x &&& ~~~ bv 7) + (bv x &&& bv 7) = bv x := by
    rw [BitVec.add_eq_or_of_and_eq_zero]
    · ext i hi; simp; cases (bv x)[i] <;> simp
    · ext i hi; simp only [BitVec.getElem_and, BitVec.getElem_not, BitVec.getElem_zero]; cases (bv x)[i] <;> cases (bv 7)[i] <;> rfl
  have e2 : (bv x &&& bv 7).toNat = (bv x).toNat % 8 := by
    rw [BitVec.toNat_and, show (bv 7).toNat = 2 ^ 3 - 1 by decide, Nat.and_two_pow_sub_one_eq_mod]
  have e3 : (bv x &&& ~~~ bv 7).toNat ≤ (bv x).toNat := by rw [BitVec.toNat_and]; exact Nat.and_le_left
  have e4 := congrArg BitVec.toNat e
  rw [BitVec.toNat_add, e2] at e4
  have := (bv x).isLt
  unfold W at h
  omega
theorem iandn_top {x : Int} (h : W x) : iandn .u64 x 9223372036854775808 = x % 9223372036854775808 := by
  rw [iandn_eq, BitVec.toNat_and, show (~~~ bv 9223372036854775808).toNat = 2 ^ 63 - 1 by decide, Nat.and_two_pow_sub_one_eq_mod]
  have hb := bv_W h
  unfold W at h
  omega
theorem ior_top {y : Int} (h : 0 ≤ y ∧ y < 9223372036854775808) : ior .u64 y 4611686018427387904 = y % 4611686018427387904 + 4611686018427387904 := by
  by_cases hy : y < 4611686018427387904
  · rw [(ior_sum (x := 4611686018427387904) (y := y) (s := 62) (A := 1) (by omega) (by decide) h.1 (by simp only [Int.reducePow]; omega) (by omega)).2]
    omega
  · obtain ⟨Y, rfl⟩ := Int.eq_ofNat_of_zero_le h.1
    obtain ⟨r, rfl⟩ : ∃ r, Y = 2 ^ 62 + r := ⟨Y - 2 ^ 62, by omega⟩
    have hr : r < 2 ^ 62 := by omega
    have e : 2 ^ 62 + r = (2 ^ 62 ||| r) := by
      have := Nat.shiftLeft_add_eq_or_of_lt hr 1
      simpa [Nat.shiftLeft_eq] using this
    have key : (2 ^ 62 + r) ||| 2 ^ 62 = 2 ^ 62 + r := by rw [e, Nat.or_comm, ← Nat.or_assoc, Nat.or_self]
    have hb1 := bv_W (x := ((2 ^ 62 + r : Nat) : Int)) (by unfold W; omega)
    have hb2 : (bv 4611686018427387904).toNat = 2 ^ 62 := by decide
    unfold ior
    show IntKind.u64.wrap (((bv ((2 ^ 62 + r : Nat) : Int) ||| bv 4611686018427387904).toNat : Nat) : Int) = _
    rw [BitVec.toNat_or, hb2, show (bv ((2 ^ 62 + r : Nat) : Int)).toNat = 2 ^ 62 + r by omega, key, uw64 (by omega)]
    omega
end Go.Mo
namespace Go.Mo
open Go.Ev Go.Wn
theorem W8_W {a b c d e f g h : Int} (ha : B8 a) (hb : B8 b) (hc : B8 c) (hd : B8 d) (he : B8 e) (hf : B8 f) (hg : B8 g) (hh : B8 h) : W (W8 a b c d e f g h) := by
  unfold B8 W W8 at *; omega
def clI (K : Int) : Int := K % 28948022309329048855892746252171976963317496166410141009864396001978282409984 - K % 8 + 28948022309329048855892746252171976963317496166410141009864396001978282409984
def upI (U : Int) : Int := U % 57896044618658097711785492504343953926634992332820282019728792003956564819968
end Go.Mo
namespace Go.Proofs.YthddlnldjbijmaaDoor
open Go.Ev Go.Wn Go.Mo
set_option maxRecDepth 100000
def leI (l : List Int) : Int := val (litL l)
theorem lit_words {l : List Int} (hl : l.length = 32) (hr : ∀ x ∈ l, inR .u8 x = true) : ∃ a b c d, litL l = [a, b, c, d] ∧ W a ∧ W b ∧ W c ∧ W d := by
  obtain ⟨b0, b1, b2, b3, b4, b5, b6, b7, b8, b9, b10, b11, b12, b13, b14, b15, b16, b17, b18, b19, b20, b21, b22, b23, b24, b25, b26, b27, b28, b29, b30, b31, rfl⟩ := thirty hl
  simp only [List.forall_mem_cons, List.not_mem_nil, false_implies, implies_true, and_true] at hr
  obtain ⟨k0, k1, k2, k3, k4, k5, k6, k7, k8, k9, k10, k11, k12, k13, k14, k15, k16, k17, k18, k19, k20, k21, k22, k23, k24, k25, k26, k27, k28, k29, k30, k31⟩ := hr
  exact ⟨_, _, _, _, rfl, W8_W (inR_B8 k7) (inR_B8 k6) (inR_B8 k5) (inR_B8 k4) (inR_B8 k3) (inR_B8 k2) (inR_B8 k1) (inR_B8 k0), W8_W (inR_B8 k15) (inR_B8 k14) (inR_B8 k13) (inR_B8 k12) (inR_B8 k11) (inR_B8 k10) (inR_B8 k9) (inR_B8 k8), W8_W (inR_B8 k23) (inR_B8 k22) (inR_B8 k21) (inR_B8 k20) (inR_B8 k19) (inR_B8 k18) (inR_B8 k17) (inR_B8 k16), W8_W (inR_B8 k31) (inR_B8 k30) (inR_B8 k29) (inR_B8 k28) (inR_B8 k27) (inR_B8 k26) (inR_B8 k25) (inR_B8 k24)⟩
theorem limbs_of {a b c d : Int} (ha : W a) (hb : W b) (hc : W c) (hd : W d) : limbs (val [a, b, c, d]) = [a, b, c, d] := by
  unfold limbs val W at *
  simp only [List.getD_cons_zero, List.getD_cons_succ, List.cons.injEq, and_true]
  refine ⟨?_, ?_, ?_, ?_⟩ <;> omega
theorem kw_eq {l : List Int} (hl : l.length = 32) (hr : ∀ x ∈ l, inR .u8 x = true) : val (kwL (litL l)) = clI (leI l) ∧ limbs (val (kwL (litL l))) = kwL (litL l) := by
  obtain ⟨a, b, c, d, e, ha, hb, hc, hd⟩ := lit_words hl hr
  unfold leI
  rw [e]
  have e2 : kwL [a, b, c, d] = [iandn .u64 a 7, b, c, ior .u64 (iandn .u64 d 9223372036854775808) 4611686018427387904] := rfl
  have hd2 : 0 ≤ d % 9223372036854775808 ∧ d % 9223372036854775808 < 9223372036854775808 := by omega
  rw [e2, iandn_seven ha, iandn_top hd, ior_top hd2]
  refine ⟨?_, limbs_of (by unfold W at *; omega) hb hc (by unfold W at *; omega)⟩
  unfold clI val W at *
  simp only [List.getD_cons_zero, List.getD_cons_succ]
  omega
theorem uw_eq {l : List Int} (hl : l.length = 32) (hr : ∀ x ∈ l, inR .u8 x = true) : val (uwL (litL l)) = upI (leI l) ∧ limbs (val (uwL (litL l))) = uwL (litL l) ∧ (uwL (litL l)).length = 4 := by
  obtain ⟨a, b, c, d, e, ha, hb, hc, hd⟩ := lit_words hl hr
  unfold leI
  rw [e]
  have e2 : uwL [a, b, c, d] = [a, b, c, iandn .u64 d 9223372036854775808] := rfl
  rw [e2, iandn_top hd]
  refine ⟨?_, limbs_of ha hb hc (by unfold W at *; omega), rfl⟩
  unfold upI val W at *
  simp only [List.getD_cons_zero, List.getD_cons_succ]
  omega
theorem mu_paid {k u : List Int} (hk : k.length = 32) (rk : ∀ x ∈ k, inR .u8 x = true) (hu : u.length = 32) (ru : ∀ x ∈ u, inR .u8 x = true) : Paid (muO k u) := by
  obtain ⟨_, k2⟩ := kw_eq hk rk
  obtain ⟨_, u2, u3⟩ := uw_eq hu ru
  unfold muO
  refine paid_append.2 ⟨fun x hx => (List.mem_replicate.1 hx).2, paid_cons (decide_eq_true ?_) (paid_cons (decide_eq_true u2.symm) (paid_cons (decide_eq_true k2) (paid_cons rfl (paid_cons rfl Paid.nil))))⟩
  rw [u2]
  obtain ⟨a, b, c, d, e⟩ := four u3
  rw [e]
  rfl
def xulS : List V → E (AV × Mem)
  | [.buf false .u8 32 k, .buf false .u8 32 u] => some ([], (.tuple [.slice false 0 0 32 (some 32) 1, .int false .i64 0], [some ⟨true, .ints .u8 (some 32) (mulB k u)⟩]))
  | _ => none
theorem lo1 (k0 : Nat) {F : FuncId} (fn : Func) (c : Code) (_ : Tryd.prog.funcs[F]? = some fn) (_ : fn.body = some c) : LOkN k0 Tryd.prog c (fun _ _ => none) := LOkN.none
theorem xul_ok {xs : List V} {o : List Bool} {v : AV} {bs : Mem} (h : xulS xs = some (o, (v, bs))) : ViewCall Tryd.prog 9 xs v bs := by
  unfold xulS at h
  split at h
  · rename_i k u
    cases h
    intro ρ vs w ha hi
    obtain ⟨hk, rk⟩ := buf_arg hi 0 rfl
    obtain ⟨hu, ru⟩ := buf_arg hi 1 rfl
    exact viewN_one mixed noCount (hnT_ok.deep mixed noCount 100 3) (lo1 _) [] 7 (mu_evalL k u) (mu_paid hk rk hu ru) (by show 2 ≤ 7; decide) rfl rfl ha hi
  · cases h
def hn1 : CallH := withV 9 xulS hn0
theorem hn1_ok : HOk Tryd.prog hn1 := hn0_ok.withV fun _ _ _ _ h _ => xul_ok h
end Go.Proofs.YthddlnldjbijmaaDoor
namespace Go.Ev
set_option linter.unusedSectionVars false
variable [Tab]
def fixC (P : Program) (q : FuncId → Bool) (H : CallH) (fuel : Nat) (g : FuncId) (b : Bool) (X : CallH) : CallH := fun f args m =>
  match decide (f = g) with
  | true => match ((funcA P q H fuel f args (roAll m)).go []).flat with
    | some (o, (.bool _ c, m')) => some (o ++ [c == b], (.bool false b, m ++ onlyRw (m'.drop m.length)))
    | _ => X f args m
  | false => X f args m
section
variable {P : Program} {q : FuncId → Bool} {H X : CallH}
theorem HOk.fix (hm : P.follows .mixedOrders = true) (hng : noCount P = true) (hH : HOk P H) (hX : HOk P X) (fuel : Nat) (g : FuncId) (b : Bool) : HOk P (fixC P q H fuel g b X) := by
  have hT := HOk.turn (q := q) hm hng hH hX fuel g []
  have key : ∀ {f : FuncId} {xs : List AV} {m : Mem} {ob : List Bool} {v : AV} {m' : Mem}, fixC P q H fuel g b X f xs m = some (ob, (v, m')) → Paid ob →
      (X f xs m = some (ob, (v, m'))) ∨ (∃ o s c, turnC P q H fuel g [] X f xs m = some (o, (.bool s c, m')) ∧ Paid o ∧ c = b ∧ v = .bool false b) := by
    intro f xs m ob v m' h ho
    unfold fixC at h
    split at h
    · rename_i hf
      split at h
      · rename_i o s c m1 hflat
        cases h
        obtain ⟨p1, p2⟩ := paid_append.1 ho
        have hc := p2 _ (List.mem_cons_self ..)
        simp only [beq_iff_eq] at hc
        refine Or.inr ⟨o, s, c, ?_, p1, hc, rfl⟩
        unfold turnC
        simp only [hf, hflat]
      · exact Or.inl h
    · exact Or.inl h
  refine ⟨@fun f xs m ob v m' h ho => ?_, @fun f xs m ob v m' h ho w0 S ρ w vs ha hi => ?_⟩
  · rcases key h ho with h1 | ⟨o, s, c, h1, h2, _, _⟩
    · exact hX.le h1 ho
    · exact hT.le h1 h2
  · rcases key h ho with h1 | ⟨o, s, c, h1, h2, h3, h4⟩
    · exact hX.run h1 ho ha hi
    · subst h3 h4
      refine (hT.run h1 h2 ha hi).mono fun u w' ⟨ρ', k1, k2⟩ => ⟨ρ', ?_, k2⟩
      cases k1
      exact .bool _ _
end
end Go.Ev
namespace Go.Mo
open Go.Ev Go.Wn
def zer : List Int := [0, 0, 0, 0, 0, 0, 0, 0, 0, 0, 0, 0, 0, 0, 0, 0, 0, 0, 0, 0, 0, 0, 0, 0, 0, 0, 0, 0, 0, 0, 0, 0]
def one8 (x : Int) : List Int := [x, 0, 0, 0, 0, 0, 0, 0, 0, 0, 0, 0, 0, 0, 0, 0, 0, 0, 0, 0, 0, 0, 0, 0, 0, 0, 0, 0, 0, 0, 0, 0]
def orAll : Int → List Int → Int
  | s, [] => s
  | s, x :: l => orAll (ior .u8 s x) l
theorem ior8 {x y : Int} (hx : 0 ≤ x ∧ x < 256) (hy : 0 ≤ y ∧ y < 256) : (0 ≤ ior .u8 x y ∧ ior .u8 x y < 256) ∧ (ior .u8 x y = 0 ↔ x = 0 ∧ y = 0) := by
  obtain ⟨X, rfl⟩ := Int.eq_ofNat_of_zero_le hx.1
  obtain ⟨Y, rfl⟩ := Int.eq_ofNat_of_zero_le hy.1
  have e : ior .u8 (X : Int) (Y : Int) = ((X ||| Y : Nat) : Int) := by
    have hb : X ||| Y < 2 ^ 8 := Nat.or_lt_two_pow (by omega) (by omega)
    unfold ior
    have h1 : (BitVec.ofInt IntKind.u8.bits (X : Int) ||| BitVec.ofInt IntKind.u8.bits (Y : Int)).toNat = X ||| Y := by
      show (BitVec.ofInt 8 (X : Int) ||| BitVec.ofInt 8 (Y : Int)).toNat = X ||| Y
      rw [BitVec.toNat_or, BitVec.toNat_ofInt, BitVec.toNat_ofInt]
      congr 1 <;> omega
    rw [h1]
    unfold IntKind.wrap
    simp [IntKind.bits, IntKind.signed]
    omega
  rw [e]
  have hb : X ||| Y < 2 ^ 8 := Nat.or_lt_two_pow (by omega) (by omega)
  refine ⟨by omega, ?_⟩
  have : X ||| Y = 0 ↔ X = 0 ∧ Y = 0 := Nat.or_eq_zero_iff
  omega
theorem orAll_zero : ∀ {l : List Int} {s : Int}, (0 ≤ s ∧ s < 256) → (∀ x ∈ l, 0 ≤ x ∧ x < 256) → (orAll s l = 0 ↔ s = 0 ∧ ∀ x ∈ l, x = 0)
  | [], s, _, _ => by simp [orAll]
  | x :: l, s, hs, hl => by
    have h := ior8 hs (hl x (List.mem_cons_self ..))
    have ih := orAll_zero (l := l) h.1 fun y hy => hl y (List.mem_cons_of_mem _ hy)
    show orAll (ior .u8 s x) l = 0 ↔ _
    rw [ih, h.2]
    simp only [List.mem_cons, forall_eq_or_imp]
    exact and_assoc
end Go.Mo
namespace Go.Proofs.YthddlnldjbijmaaDoor
open Go.Ev Go.Wn Go.Mo
set_option maxRecDepth 100000
def iszS : List V → E (AV × Mem)
  | [.buf false .u8 32 l] => some ([], (.bool true (decide (l = zer)), []))
  | _ => none
theorem isz_eval (b0 b1 b2 b3 b4 b5 b6 b7 b8 b9 b10 b11 b12 b13 b14 b15 b16 b17 b18 b19 b20 b21 b22 b23 b24 b25 b26 b27 b28 b29 b30 b31 : Int) : res (funcA Tryd.prog qn (fun _ _ _ => none) 100 28 (cArgs 0 [.buf false .u8 32 [b0, b1, b2, b3, b4, b5, b6, b7, b8, b9, b10, b11, b12, b13, b14, b15, b16, b17, b18, b19, b20, b21, b22, b23, b24, b25, b26, b27, b28, b29, b30, b31]]) (cMem [.buf false .u8 32 [b0, b1, b2, b3, b4, b5, b6, b7, b8, b9, b10, b11, b12, b13, b14, b15, b16, b17, b18, b19, b20, b21, b22, b23, b24, b25, b26, b27, b28, b29, b30, b31]])) =
    some ([], .bool true (orAll 0 [b0, b1, b2, b3, b4, b5, b6, b7, b8, b9, b10, b11, b12, b13, b14, b15, b16, b17, b18, b19, b20, b21, b22, b23, b24, b25, b26, b27, b28, b29, b30, b31] == 0)) := by kernel_rfl
theorem isz_ok {xs : List V} {o : List Bool} {v : AV} {bs : Mem} (h : iszS xs = some (o, (v, bs))) : ViewCall Tryd.prog 28 xs v bs := by
  unfold iszS at h
  split at h
  · rename_i l
    cases h
    intro ρ vs w ha hi
    obtain ⟨hl, hr⟩ := buf_arg hi 0 rfl
    have hz : ∀ l : List Int, l.length = 32 → (∀ x ∈ l, inR .u8 x = true) → (orAll 0 l == 0) = decide (l = zer) := fun l hl hr => by
      have h := orAll_zero (l := l) (s := 0) (by omega) fun x hx => by have := inR_B8 (hr x hx); exact this
      have h2 : (∀ x ∈ l, x = 0) ↔ l = zer := ⟨fun h => by rw [show zer = List.replicate 32 0 from rfl]; exact List.eq_replicate_iff.2 ⟨hl, h⟩, fun h x hx => by rw [h, show zer = List.replicate 32 0 from rfl] at hx; exact (List.mem_replicate.1 hx).2⟩
      rw [← decide_eq_decide.2 h2]
      by_cases hh : ∀ x ∈ l, x = 0
      · rw [decide_eq_true hh, h.2 ⟨rfl, hh⟩]; rfl
      · rw [decide_eq_false hh]
        have : orAll 0 l ≠ 0 := fun e => hh (h.1 e).2
        simpa using this
    obtain ⟨b0, b1, b2, b3, b4, b5, b6, b7, b8, b9, b10, b11, b12, b13, b14, b15, b16, b17, b18, b19, b20, b21, b22, b23, b24, b25, b26, b27, b28, b29, b30, b31, rfl⟩ := thirty hl
    exact view_of_res mixed noCount HOk.none (isz_eval b0 b1 b2 b3 b4 b5 b6 b7 b8 b9 b10 b11 b12 b13 b14 b15 b16 b17 b18 b19 b20 b21 b22 b23 b24 b25 b26 b27 b28 b29 b30 b31) Paid.nil (by rw [hz _ hl hr]) (by kernel_rfl) ha hi
  · cases h
def hn2 : CallH := withV 28 iszS hn1
def xulF (f : List Int → List Int → List Int) : List V → E (AV × Mem)
  | [.buf false .u8 32 k, .buf false .u8 32 u] => some ([], (.tuple [.slice false 0 0 32 (some 32) 1, .int false .i64 0], [some ⟨true, .ints .u8 (some 32) (f k u)⟩]))
  | _ => none
end Go.Proofs.YthddlnldjbijmaaDoor
namespace Go.Wn
open Go.Ev
/- multiply and subtract -/
/- add back -/
end Go.Wn
