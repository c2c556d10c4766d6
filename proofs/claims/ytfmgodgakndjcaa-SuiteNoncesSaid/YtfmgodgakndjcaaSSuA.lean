/- Calls whose answer is a test that is known: it is owed, and no longer a test. Own work. -/
import Derived.Test.YtfmgodgakndjcaaSEvIn
import Derived.Test.YtfmgodgakndjcaaSWordsN
import Derived.Test.YtfmgodgakndjcaaSChW
import Derived.Test.YtfmgodgakndjcaaSKGcJ
set_option linter.unusedSimpArgs false
set_option linter.unusedVariables false
set_option linter.unusedSectionVars false
namespace Go.Ev
set_option linter.unusedSectionVars false
variable [Tab]
def fixC (P : Program) (q : FuncId → Bool) (H : CallH) (fuel : Nat) (g : FuncId) (b : Bool) (X : CallH) : CallH := fun f args m =>
  match decide (f = g) with
  | true => match ((funcA P q H fuel f args (roAll m)).go []).flat with
    | some (o, (.bool _ c, m')) => some (o ++ [c == b], (.bool false b, m ++ onlyRw (m'.drop m.length)))
    | _ => X f args m
  | false => X f args m
section
variable {P : Program} {q : FuncId → Bool} {H X : CallH}
theorem HOk.fix (hm : P.follows .mixedOrders = true) (hng : noCount P = true) (hH : HOk P H) (hX : HOk P X) (fuel : Nat) (g : FuncId) (b : Bool) : HOk P (fixC P q H fuel g b X) := by
  have hT := HOk.turn (q := q) hm hng hH hX fuel g []
  have key : ∀ {f : FuncId} {xs : List AV} {m : Mem} {ob : List Bool} {v : AV} {m' : Mem}, fixC P q H fuel g b X f xs m = some (ob, (v, m')) → Paid ob →
      (X f xs m = some (ob, (v, m'))) ∨ (∃ o s c, turnC P q H fuel g [] X f xs m = some (o, (.bool s c, m')) ∧ Paid o ∧ c = b ∧ v = .bool false b) := by
    intro f xs m ob v m' h ho
    unfold fixC at h
    split at h
    · rename_i hf
      split at h
      · rename_i o s c m1 hflat
        cases h
        obtain ⟨p1, p2⟩ := paid_append.1 ho
        have hc := p2 _ (List.mem_cons_self ..)
        simp only [beq_iff_eq] at hc
        refine Or.inr ⟨o, s, c, ?_, p1, hc, rfl⟩
        unfold turnC
        simp only [hf, hflat]
      · exact Or.inl h
    · exact Or.inl h
  refine ⟨@fun f xs m ob v m' h ho => ?_, @fun f xs m ob v m' h ho w0 S ρ w vs ha hi => ?_⟩
  · rcases key h ho with h1 | ⟨o, s, c, h1, h2, _, _⟩
    · exact hX.le h1 ho
    · exact hT.le h1 h2
  · rcases key h ho with h1 | ⟨o, s, c, h1, h2, h3, h4⟩
    · exact hX.run h1 ho ha hi
    · subst h3 h4
      refine (hT.run h1 h2 ha hi).mono fun u w' ⟨ρ', k1, k2⟩ => ⟨ρ', ?_, k2⟩
      cases k1
      exact .bool _ _
end
end Go.Ev
namespace Go.Ev
set_option linter.unusedSectionVars false
variable [Tab]
/-- The first that answers. -/
def orH (X Y : CallH) : CallH := fun f xs m =>
  match X f xs m with
  | some r => some r
  | none => Y f xs m
section
variable {P : Program} {X Y : CallH}
theorem HOk.or (hX : HOk P X) (hY : HOk P Y) : HOk P (orH X Y) := by
  refine ⟨@fun f xs m ob v m' h ho => ?_, @fun f xs m ob v m' h ho w0 S ρ w vs ha hi => ?_⟩
  · unfold orH at h
    split at h
    · rename_i r hr; cases h; exact hX.le hr ho
    · exact hY.le h ho
  · unfold orH at h
    split at h
    · rename_i r hr; cases h; exact hX.run hr ho ha hi
    · exact hY.run h ho ha hi
end
end Go.Ev
namespace Go.Su
open Go.Ev Go.Sh
/-- A nonce's bytes, after so many of the number's. -/
def nonR (iv : List Int) (n : Int) : Nat → List Int × Int
  | 0 => (iv, n)
  | c + 1 => ((nonR iv n c).1.set (11 - c) (ixor .u8 ((nonR iv n c).1.getD (11 - c) 0) (IntKind.u8.wrap (nonR iv n c).2)), ishr .u64 (nonR iv n c).2 8)
def nonC (iv : List Int) (n : Int) : List Int := (nonR iv n 8).1
theorem ishr0 : ishr .u64 0 8 = 0 := by unfold ishr; simp
theorem ixor0 (x : Int) (h : inR .u8 x = true) : ixor .u8 x (IntKind.u8.wrap 0) = x := by
  rw [inR_iff] at h
  simp only [lo, hi] at h
  have e : IntKind.u8.wrap 0 = 0 := by decide
  rw [e]
  unfold ixor
  rw [wrap_u (k := .u8) rfl]
  have e2 : BitVec.ofInt IntKind.u8.bits 0 = 0#8 := rfl
  rw [e2]
  show ((BitVec.ofInt 8 x ^^^ 0#8).toNat : Int) % 2 ^ 8 = x
  rw [BitVec.xor_zero, BitVec.toNat_ofInt]
  omega
theorem ixor_in (x y : Int) : inR .u8 (ixor .u8 x y) = true := by
  rw [inR_iff]
  simp only [lo, hi]
  unfold ixor
  rw [wrap_u (k := .u8) rfl]
  have h1 := Int.emod_nonneg ((BitVec.ofInt IntKind.u8.bits x ^^^ BitVec.ofInt IntKind.u8.bits y).toNat : Int) (show (2 : Int) ^ IntKind.u8.bits ≠ 0 by decide)
  have h2 := Int.emod_lt_of_pos ((BitVec.ofInt IntKind.u8.bits x ^^^ BitVec.ofInt IntKind.u8.bits y).toNat : Int) (show (0 : Int) < 2 ^ IntKind.u8.bits by decide)
  have h3 : (2 : Int) ^ IntKind.u8.bits = 256 := rfl
  omega
theorem nonR_len {iv : List Int} (h : iv.length = 12) (n : Int) : ∀ c, (nonR iv n c).1.length = 12
  | 0 => h
  | c + 1 => by unfold nonR; rw [List.length_set]; exact nonR_len h n c
theorem nonR_in {iv : List Int} (hr : ∀ x ∈ iv, inR .u8 x = true) (n : Int) : ∀ c, ∀ x ∈ (nonR iv n c).1, inR .u8 x = true
  | 0 => hr
  | c + 1 => by
    unfold nonR
    intro x hx
    rcases List.mem_or_eq_of_mem_set hx with h | h
    · exact nonR_in hr n c x h
    · rw [h]; exact ixor_in _ _
theorem nonR_stay {iv : List Int} (h : iv.length = 12) (hr : ∀ x ∈ iv, inR .u8 x = true) (n : Int) (c : Nat) (h0 : (nonR iv n c).2 = 0) : ∀ d, nonR iv n (c + d) = nonR iv n c
  | 0 => rfl
  | d + 1 => by
    have ih := nonR_stay h hr n c h0 d
    rw [show c + (d + 1) = (c + d) + 1 by omega]
    show ((nonR iv n (c + d)).1.set (11 - (c + d)) (ixor .u8 ((nonR iv n (c + d)).1.getD (11 - (c + d)) 0) (IntKind.u8.wrap (nonR iv n (c + d)).2)), ishr .u64 (nonR iv n (c + d)).2 8) = nonR iv n c
    rw [ih, h0, ishr0]
    have hl := nonR_len h n c
    have e : (nonR iv n c).1.set (11 - (c + d)) (ixor .u8 ((nonR iv n c).1.getD (11 - (c + d)) 0) (IntKind.u8.wrap 0)) = (nonR iv n c).1 := by
      have hi : 11 - (c + d) < (nonR iv n c).1.length := by omega
      have hg : (nonR iv n c).1.getD (11 - (c + d)) 0 = (nonR iv n c).1[11 - (c + d)] := by rw [List.getD_eq_getElem?_getD, List.getElem?_eq_getElem hi]; rfl
      rw [hg, ixor0 _ (nonR_in hr n c _ (List.getElem_mem hi))]
      exact List.set_getElem_self hi
    rw [e]
    exact Prod.ext rfl h0.symm
theorem ixor_nat (x y : Int) : ixor .u8 x y = (((BitVec.ofInt 8 x ^^^ BitVec.ofInt 8 y).toNat : Nat) : Int) := by
  unfold ixor
  rw [wrap_u (k := .u8) rfl]
  refine Int.emod_eq_of_lt (by omega) ?_
  have := (BitVec.ofInt 8 x ^^^ BitVec.ofInt 8 y).isLt
  simp only [IntKind.bits]
  omega
theorem ixor_inj {x y z : Int} (hy : 0 ≤ y ∧ y < 256) (hz : 0 ≤ z ∧ z < 256) (h : ixor .u8 x y = ixor .u8 x z) : y = z := by
  rw [ixor_nat, ixor_nat] at h
  have h1 := BitVec.eq_of_toNat_eq (Int.ofNat.inj h)
  have h2 : BitVec.ofInt 8 y = BitVec.ofInt 8 z := by
    have := congrArg (fun b => BitVec.ofInt 8 x ^^^ b) h1
    simpa only [← BitVec.xor_assoc, BitVec.xor_self, BitVec.zero_xor] using this
  have h3 := congrArg BitVec.toNat h2
  rw [BitVec.toNat_ofInt, BitVec.toNat_ofInt] at h3
  omega
theorem nonR_1 (iv : List Int) (n : Int) (c : Nat) : (nonR iv n (c + 1)).1 = (nonR iv n c).1.set (11 - c) (ixor .u8 ((nonR iv n c).1.getD (11 - c) 0) (IntKind.u8.wrap (nonR iv n c).2)) := rfl
theorem nonR_same (iv : List Int) (n : Int) : ∀ m j, j + m < 12 → (nonR iv n m).1.getD j 0 = iv.getD j 0
  | 0, _, _ => rfl
  | m + 1, j, h => by
    unfold nonR
    rw [List.getD_eq_getElem?_getD, List.getElem?_set_ne (by omega), ← List.getD_eq_getElem?_getD]
    exact nonR_same iv n m j (by omega)
theorem nonR_get {iv : List Int} (hl : iv.length = 12) (n : Int) (c : Nat) (hc : c < 12) : ∀ m, c < m → m ≤ 12 → (nonR iv n m).1.getD (11 - c) 0 = ixor .u8 (iv.getD (11 - c) 0) (IntKind.u8.wrap (nonR iv n c).2)
  | 0, h, _ => by omega
  | m + 1, h, h2 => by
    rw [nonR_1]
    have hlen := nonR_len hl n m
    by_cases e : m = c
    · subst e
      rw [List.getD_eq_getElem?_getD, List.getElem?_set_self (by omega)]
      show ixor .u8 ((nonR iv n m).1.getD (11 - m) 0) _ = _
      rw [nonR_same iv n m (11 - m) (by omega)]
    · rw [List.getD_eq_getElem?_getD, List.getElem?_set_ne (by omega), ← List.getD_eq_getElem?_getD]
      exact nonR_get hl n c hc m (by omega) (by omega)
theorem ishr8 {x : Int} (h : 0 ≤ x) : ishr .u64 x 8 = x / 256 := by
  unfold ishr
  rw [show min ((8 : Int).toNat) IntKind.u64.bits = 8 from rfl, show (2 : Int) ^ 8 = 256 from rfl, Int.fdiv_eq_ediv_of_nonneg _ (by decide)]
theorem u8w (x : Int) : IntKind.u8.wrap x = x % 256 := by rw [wrap_u (k := .u8) rfl]; rfl
/-- Unlike numbers have unlike nonces. -/
theorem nonC_inj {iv : List Int} (hl : iv.length = 12) {a b : Int} (ha : 0 ≤ a ∧ a ≤ 18446744073709551615) (hb : 0 ≤ b ∧ b ≤ 18446744073709551615) (h : nonC iv a = nonC iv b) : a = b := by
  have step : ∀ c, c < 8 → (nonR iv a c).2 % 256 = (nonR iv b c).2 % 256 := fun c hc => by
    have e := congrArg (fun l : List Int => l.getD (11 - c) 0) h
    simp only [nonC] at e
    rw [nonR_get hl a c (by omega) 8 hc (by omega), nonR_get hl b c (by omega) 8 hc (by omega)] at e
    rw [u8w, u8w] at e
    exact ixor_inj ⟨Int.emod_nonneg _ (by decide), Int.emod_lt_of_pos _ (by decide)⟩ ⟨Int.emod_nonneg _ (by decide), Int.emod_lt_of_pos _ (by decide)⟩ e
  have s : ∀ {n : Int} (c : Nat), 0 ≤ (nonR iv n c).2 → (nonR iv n (c + 1)).2 = (nonR iv n c).2 / 256 := fun c h => ishr8 h
  have a0 : (nonR iv a 0).2 = a := rfl
  have b0 : (nonR iv b 0).2 = b := rfl
  have a1 : (nonR iv a 1).2 = (nonR iv a 0).2 / 256 := s 0 (by omega)
  have b1 : (nonR iv b 1).2 = (nonR iv b 0).2 / 256 := s 0 (by omega)
  have a2 : (nonR iv a 2).2 = (nonR iv a 1).2 / 256 := s 1 (by omega)
  have b2 : (nonR iv b 2).2 = (nonR iv b 1).2 / 256 := s 1 (by omega)
  have a3 : (nonR iv a 3).2 = (nonR iv a 2).2 / 256 := s 2 (by omega)
  have b3 : (nonR iv b 3).2 = (nonR iv b 2).2 / 256 := s 2 (by omega)
  have a4 : (nonR iv a 4).2 = (nonR iv a 3).2 / 256 := s 3 (by omega)
  have b4 : (nonR iv b 4).2 = (nonR iv b 3).2 / 256 := s 3 (by omega)
  have a5 : (nonR iv a 5).2 = (nonR iv a 4).2 / 256 := s 4 (by omega)
  have b5 : (nonR iv b 5).2 = (nonR iv b 4).2 / 256 := s 4 (by omega)
  have a6 : (nonR iv a 6).2 = (nonR iv a 5).2 / 256 := s 5 (by omega)
  have b6 : (nonR iv b 6).2 = (nonR iv b 5).2 / 256 := s 5 (by omega)
  have a7 : (nonR iv a 7).2 = (nonR iv a 6).2 / 256 := s 6 (by omega)
  have b7 : (nonR iv b 7).2 = (nonR iv b 6).2 / 256 := s 6 (by omega)
  have a8 : (nonR iv a 8).2 = (nonR iv a 7).2 / 256 := s 7 (by omega)
  have b8 : (nonR iv b 8).2 = (nonR iv b 7).2 / 256 := s 7 (by omega)
  have s0 := step 0 (by omega)
  have s1 := step 1 (by omega)
  have s2 := step 2 (by omega)
  have s3 := step 3 (by omega)
  have s4 := step 4 (by omega)
  have s5 := step 5 (by omega)
  have s6 := step 6 (by omega)
  have s7 := step 7 (by omega)
  omega
end Go.Su
namespace Go.Proofs.Ytfmgodgakndjcaa
open Go.Ev Go.Sh Go.Su
set_option maxRecDepth 100000
def sb (iv : List Int) (t : TypeId) : Cells := .wide [.iface t .top, .ints .u8 12 iv]
def qN (f : FuncId) : Bool := !Nat.beq f 1000000000
theorem lo1 (k0 : Nat) {F : FuncId} (fn : Func) (c : Code) (_ : Try.prog.funcs[F]? = some fn) (_ : fn.body = some c) : LOkN k0 Try.prog c (fun _ _ => none) := LOkN.none
theorem no_0 (t : TypeId) (iv : List Int) (n : Int)   : seeV 2 ((funcL Try.prog qN (deep Try.prog qN (fun _ _ _ => none) 100 3) (fun _ _ => none) 100 29 (cArgs 0 [.pt (sb iv t), .pl (.int true .u64 n)]) (cMem [.pt (sb iv t), .pl (.int true .u64 n)])).go [false]) = some ([!((nonR iv n 0).2 != 0)], .slice false 2 0 12 (some 12) 1, some (some ⟨true, .ints .u8 (some 12) (nonR iv n 0).1⟩)) := by kernel_rfl
theorem no_1 (t : TypeId) (iv : List Int) (n : Int)   : seeV 2 ((funcL Try.prog qN (deep Try.prog qN (fun _ _ _ => none) 100 3) (fun _ _ => none) 100 29 (cArgs 0 [.pt (sb iv t), .pl (.int true .u64 n)]) (cMem [.pt (sb iv t), .pl (.int true .u64 n)])).go [true, false]) = some ([((nonR iv n 0).2 != 0), !((nonR iv n 1).2 != 0)], .slice false 2 0 12 (some 12) 1, some (some ⟨true, .ints .u8 (some 12) (nonR iv n 1).1⟩)) := by kernel_rfl
theorem no_2 (t : TypeId) (iv : List Int) (n : Int)   : seeV 2 ((funcL Try.prog qN (deep Try.prog qN (fun _ _ _ => none) 100 3) (fun _ _ => none) 100 29 (cArgs 0 [.pt (sb iv t), .pl (.int true .u64 n)]) (cMem [.pt (sb iv t), .pl (.int true .u64 n)])).go [true, true, false]) = some ([((nonR iv n 0).2 != 0), ((nonR iv n 1).2 != 0), !((nonR iv n 2).2 != 0)], .slice false 2 0 12 (some 12) 1, some (some ⟨true, .ints .u8 (some 12) (nonR iv n 2).1⟩)) := by kernel_rfl
theorem no_3 (t : TypeId) (iv : List Int) (n : Int)   : seeV 2 ((funcL Try.prog qN (deep Try.prog qN (fun _ _ _ => none) 100 3) (fun _ _ => none) 100 29 (cArgs 0 [.pt (sb iv t), .pl (.int true .u64 n)]) (cMem [.pt (sb iv t), .pl (.int true .u64 n)])).go [true, true, true, false]) = some ([((nonR iv n 0).2 != 0), ((nonR iv n 1).2 != 0), ((nonR iv n 2).2 != 0), !((nonR iv n 3).2 != 0)], .slice false 2 0 12 (some 12) 1, some (some ⟨true, .ints .u8 (some 12) (nonR iv n 3).1⟩)) := by kernel_rfl
theorem no_4 (t : TypeId) (iv : List Int) (n : Int)   : seeV 2 ((funcL Try.prog qN (deep Try.prog qN (fun _ _ _ => none) 100 3) (fun _ _ => none) 100 29 (cArgs 0 [.pt (sb iv t), .pl (.int true .u64 n)]) (cMem [.pt (sb iv t), .pl (.int true .u64 n)])).go [true, true, true, true, false]) = some ([((nonR iv n 0).2 != 0), ((nonR iv n 1).2 != 0), ((nonR iv n 2).2 != 0), ((nonR iv n 3).2 != 0), !((nonR iv n 4).2 != 0)], .slice false 2 0 12 (some 12) 1, some (some ⟨true, .ints .u8 (some 12) (nonR iv n 4).1⟩)) := by kernel_rfl
theorem no_5 (t : TypeId) (iv : List Int) (n : Int)   : seeV 2 ((funcL Try.prog qN (deep Try.prog qN (fun _ _ _ => none) 100 3) (fun _ _ => none) 100 29 (cArgs 0 [.pt (sb iv t), .pl (.int true .u64 n)]) (cMem [.pt (sb iv t), .pl (.int true .u64 n)])).go [true, true, true, true, true, false]) = some ([((nonR iv n 0).2 != 0), ((nonR iv n 1).2 != 0), ((nonR iv n 2).2 != 0), ((nonR iv n 3).2 != 0), ((nonR iv n 4).2 != 0), !((nonR iv n 5).2 != 0)], .slice false 2 0 12 (some 12) 1, some (some ⟨true, .ints .u8 (some 12) (nonR iv n 5).1⟩)) := by kernel_rfl
theorem no_6 (t : TypeId) (iv : List Int) (n : Int)   : seeV 2 ((funcL Try.prog qN (deep Try.prog qN (fun _ _ _ => none) 100 3) (fun _ _ => none) 100 29 (cArgs 0 [.pt (sb iv t), .pl (.int true .u64 n)]) (cMem [.pt (sb iv t), .pl (.int true .u64 n)])).go [true, true, true, true, true, true, false]) = some ([((nonR iv n 0).2 != 0), ((nonR iv n 1).2 != 0), ((nonR iv n 2).2 != 0), ((nonR iv n 3).2 != 0), ((nonR iv n 4).2 != 0), ((nonR iv n 5).2 != 0), !((nonR iv n 6).2 != 0)], .slice false 2 0 12 (some 12) 1, some (some ⟨true, .ints .u8 (some 12) (nonR iv n 6).1⟩)) := by kernel_rfl
theorem no_7 (t : TypeId) (iv : List Int) (n : Int)   : seeV 2 ((funcL Try.prog qN (deep Try.prog qN (fun _ _ _ => none) 100 3) (fun _ _ => none) 100 29 (cArgs 0 [.pt (sb iv t), .pl (.int true .u64 n)]) (cMem [.pt (sb iv t), .pl (.int true .u64 n)])).go [true, true, true, true, true, true, true, false]) = some ([((nonR iv n 0).2 != 0), ((nonR iv n 1).2 != 0), ((nonR iv n 2).2 != 0), ((nonR iv n 3).2 != 0), ((nonR iv n 4).2 != 0), ((nonR iv n 5).2 != 0), ((nonR iv n 6).2 != 0), !((nonR iv n 7).2 != 0)], .slice false 2 0 12 (some 12) 1, some (some ⟨true, .ints .u8 (some 12) (nonR iv n 7).1⟩)) := by kernel_rfl
theorem no_8 (t : TypeId) (iv : List Int) (n : Int)   : seeV 2 ((funcL Try.prog qN (deep Try.prog qN (fun _ _ _ => none) 100 3) (fun _ _ => none) 100 29 (cArgs 0 [.pt (sb iv t), .pl (.int true .u64 n)]) (cMem [.pt (sb iv t), .pl (.int true .u64 n)])).go [true, true, true, true, true, true, true, true, false]) = some ([((nonR iv n 0).2 != 0), ((nonR iv n 1).2 != 0), ((nonR iv n 2).2 != 0), ((nonR iv n 3).2 != 0), ((nonR iv n 4).2 != 0), ((nonR iv n 5).2 != 0), ((nonR iv n 6).2 != 0), ((nonR iv n 7).2 != 0), !((nonR iv n 8).2 != 0)], .slice false 2 0 12 (some 12) 1, some (some ⟨true, .ints .u8 (some 12) (nonR iv n 8).1⟩)) := by kernel_rfl
def plU : V → Option Int
  | .pl (.int _ .u64 n) => some n
  | _ => none
theorem plU_ok {x : V} {n : Int} (h : plU x = some n) : ∃ s, x = .pl (.int s .u64 n) := by unfold plU at h; split at h <;> cases h; exact ⟨_, rfl⟩
def nonS : List V → E (AV × Mem)
  | [.pt (.wide [.iface t .top, .ints .u8 12 iv]), N] => match plU N with
    | some n => some ([], (.slice false 0 0 12 (some 12) 1, [some ⟨true, .ints .u8 (some 12) (nonC iv n)⟩]))
    | none => none
  | _ => none
theorem nonR_step {iv : List Int} {n : Int} (c : Nat) (h : 0 ≤ (nonR iv n c).2) : (nonR iv n (c + 1)).2 = (nonR iv n c).2 / 256 := ishr8 h
theorem nonR_eight {iv : List Int} {n : Int} (h : 0 ≤ n) (h2 : n ≤ 18446744073709551615) : (nonR iv n 8).2 = 0 := by
  have e0 : (nonR iv n 0).2 = n := rfl
  have e1 : (nonR iv n 1).2 = (nonR iv n 0).2 / 256 := nonR_step 0 (by omega)
  have e2 : (nonR iv n 2).2 = (nonR iv n 1).2 / 256 := nonR_step 1 (by omega)
  have e3 : (nonR iv n 3).2 = (nonR iv n 2).2 / 256 := nonR_step 2 (by omega)
  have e4 : (nonR iv n 4).2 = (nonR iv n 3).2 / 256 := nonR_step 3 (by omega)
  have e5 : (nonR iv n 5).2 = (nonR iv n 4).2 / 256 := nonR_step 4 (by omega)
  have e6 : (nonR iv n 6).2 = (nonR iv n 5).2 / 256 := nonR_step 5 (by omega)
  have e7 : (nonR iv n 7).2 = (nonR iv n 6).2 / 256 := nonR_step 6 (by omega)
  have e8 : (nonR iv n 8).2 = (nonR iv n 7).2 / 256 := nonR_step 7 (by omega)
  omega
theorem least {p : Nat → Bool} (m : Nat) (h : p m = true) : ∃ c, c ≤ m ∧ p c = true ∧ ∀ j, j < c → p j = false := by
  induction m using Nat.strongRecOn with
  | _ m ih =>
    by_cases hj : ∃ j, j < m ∧ p j = true
    · obtain ⟨j, h1, h2⟩ := hj
      obtain ⟨c, g1, g2, g3⟩ := ih j h1 h2
      exact ⟨c, by omega, g2, g3⟩
    · exact ⟨m, Nat.le_refl _, h, fun j hj2 => by
        cases hp : p j with
        | false => rfl
        | true => exact absurd ⟨j, hj2, hp⟩ hj⟩
theorem non_ok {xs : List V} {o : List Bool} {v : AV} {bs : Mem} (h : nonS xs = some (o, (v, bs))) : ViewCall Try.prog 29 xs v bs := by
  unfold nonS at h
  split at h
  case h_2 => cases h
  rename_i t iv N
  split at h
  case h_2 => cases h
  rename_i n hn
  cases h
  obtain ⟨s, rfl⟩ := plU_ok hn
  intro ρ vs w ha hi
  obtain ⟨cs, t', lo', hi', b1, b2, b3, b4, b5⟩ := (hi.sim.blk 0 _ (cMem_get (x := .pt (.wide [.iface t .top, .ints .u8 12 iv])) rfl rfl)).ex
  have hl : iv.length = 12 := b5.1 .u8 12 iv (by simp)
  have hr : ∀ x ∈ iv, inR .u8 x = true := crep_all (rowC_rep (b := ⟨false, .wide [.iface t .top, .ints .u8 12 iv]⟩) (at' := 1) rfl b5).1
  have hu : 0 ≤ n ∧ n ≤ 18446744073709551615 := by
    cases ha with
    | cons _ _ _ _ _ hb => cases hb with
      | cons _ _ _ _ r2 _ => cases r2 with
        | int _ _ _ h1 =>
          rw [inR_iff] at h1
          simp only [lo, hi] at h1
          exact h1
  have ha' : Reps ρ (upto 2) (cArgs 0 [.pt (sb iv t), .pl (.int true .u64 n)]) vs := by
    cases ha with
    | cons _ _ _ _ r1 hb => cases hb with
      | cons _ _ _ _ r2 hb => cases r2 with
        | int _ _ _ h1 => exact .cons _ _ _ _ r1 (.cons _ _ _ _ (.int _ _ _ h1) hb)
  obtain ⟨c, h1, h2, h3⟩ := least (p := fun c => decide ((nonR iv n c).2 = 0)) 8 (decide_eq_true (nonR_eight hu.1 hu.2))
  have hz := of_decide_eq_true h2
  have hp : ∀ j, j < c → ((nonR iv n j).2 != 0) = true := fun j hj => by
    have := of_decide_eq_false (h3 j hj)
    simpa using this
  have hq : (!((nonR iv n c).2 != 0)) = true := by rw [hz]; rfl
  have he : nonC iv n = (nonR iv n c).1 := by
    unfold nonC
    rw [show 8 = c + (8 - c) by omega, nonR_stay hl hr n c hz]
  rw [he]
  match c, h1 with
  | 0, _ => exact viewN_one mixed noCount (HOk.none.deep mixed noCount 100 3) (lo1 _) (v := .slice false 0 0 12 (some 12) 1) [false] 2 (no_0 t iv n) (paid_cons hq Paid.nil) (Nat.le_refl _) rfl rfl ha' hi
  | 1, _ => exact viewN_one mixed noCount (HOk.none.deep mixed noCount 100 3) (lo1 _) (v := .slice false 0 0 12 (some 12) 1) [true, false] 2 (no_1 t iv n) (paid_cons (hp 0 (by omega)) (paid_cons hq Paid.nil)) (Nat.le_refl _) rfl rfl ha' hi
  | 2, _ => exact viewN_one mixed noCount (HOk.none.deep mixed noCount 100 3) (lo1 _) (v := .slice false 0 0 12 (some 12) 1) [true, true, false] 2 (no_2 t iv n) (paid_cons (hp 0 (by omega)) (paid_cons (hp 1 (by omega)) (paid_cons hq Paid.nil))) (Nat.le_refl _) rfl rfl ha' hi
  | 3, _ => exact viewN_one mixed noCount (HOk.none.deep mixed noCount 100 3) (lo1 _) (v := .slice false 0 0 12 (some 12) 1) [true, true, true, false] 2 (no_3 t iv n) (paid_cons (hp 0 (by omega)) (paid_cons (hp 1 (by omega)) (paid_cons (hp 2 (by omega)) (paid_cons hq Paid.nil)))) (Nat.le_refl _) rfl rfl ha' hi
  | 4, _ => exact viewN_one mixed noCount (HOk.none.deep mixed noCount 100 3) (lo1 _) (v := .slice false 0 0 12 (some 12) 1) [true, true, true, true, false] 2 (no_4 t iv n) (paid_cons (hp 0 (by omega)) (paid_cons (hp 1 (by omega)) (paid_cons (hp 2 (by omega)) (paid_cons (hp 3 (by omega)) (paid_cons hq Paid.nil))))) (Nat.le_refl _) rfl rfl ha' hi
  | 5, _ => exact viewN_one mixed noCount (HOk.none.deep mixed noCount 100 3) (lo1 _) (v := .slice false 0 0 12 (some 12) 1) [true, true, true, true, true, false] 2 (no_5 t iv n) (paid_cons (hp 0 (by omega)) (paid_cons (hp 1 (by omega)) (paid_cons (hp 2 (by omega)) (paid_cons (hp 3 (by omega)) (paid_cons (hp 4 (by omega)) (paid_cons hq Paid.nil)))))) (Nat.le_refl _) rfl rfl ha' hi
  | 6, _ => exact viewN_one mixed noCount (HOk.none.deep mixed noCount 100 3) (lo1 _) (v := .slice false 0 0 12 (some 12) 1) [true, true, true, true, true, true, false] 2 (no_6 t iv n) (paid_cons (hp 0 (by omega)) (paid_cons (hp 1 (by omega)) (paid_cons (hp 2 (by omega)) (paid_cons (hp 3 (by omega)) (paid_cons (hp 4 (by omega)) (paid_cons (hp 5 (by omega)) (paid_cons hq Paid.nil))))))) (Nat.le_refl _) rfl rfl ha' hi
  | 7, _ => exact viewN_one mixed noCount (HOk.none.deep mixed noCount 100 3) (lo1 _) (v := .slice false 0 0 12 (some 12) 1) [true, true, true, true, true, true, true, false] 2 (no_7 t iv n) (paid_cons (hp 0 (by omega)) (paid_cons (hp 1 (by omega)) (paid_cons (hp 2 (by omega)) (paid_cons (hp 3 (by omega)) (paid_cons (hp 4 (by omega)) (paid_cons (hp 5 (by omega)) (paid_cons (hp 6 (by omega)) (paid_cons hq Paid.nil)))))))) (Nat.le_refl _) rfl rfl ha' hi
  | 8, _ => exact viewN_one mixed noCount (HOk.none.deep mixed noCount 100 3) (lo1 _) (v := .slice false 0 0 12 (some 12) 1) [true, true, true, true, true, true, true, true, false] 2 (no_8 t iv n) (paid_cons (hp 0 (by omega)) (paid_cons (hp 1 (by omega)) (paid_cons (hp 2 (by omega)) (paid_cons (hp 3 (by omega)) (paid_cons (hp 4 (by omega)) (paid_cons (hp 5 (by omega)) (paid_cons (hp 6 (by omega)) (paid_cons (hp 7 (by omega)) (paid_cons hq Paid.nil))))))))) (Nat.le_refl _) rfl rfl ha' hi
  | c + 9, h => exact absurd h (by omega)
end Go.Proofs.Ytfmgodgakndjcaa
