/- Calls whose answer is a test that is known: it is owed, and no longer a test. Own work. -/
import Derived.Test.YtfmgodgakndjcaaQEvIn
import Derived.Test.YtfmgodgakndjcaaQTab0
import Derived.Test.YtfmgodgakndjcaaRows
import Derived.ProofKit
import Derived.OpenShut
import Derived.Test.YtfmgodgakndjcaaQChTg
import Derived.Test.YtfmgodgakndjcaaQChY
import Derived.Test.YtfmgodgakndjcaaQEvPut
set_option linter.unusedSimpArgs false
set_option linter.unusedVariables false
set_option linter.unusedSectionVars false
namespace Go.Ev
set_option linter.unusedSectionVars false
variable [Tab]
def fixC (P : Program) (q : FuncId → Bool) (H : CallH) (fuel : Nat) (g : FuncId) (b : Bool) (X : CallH) : CallH := fun f args m =>
  match decide (f = g) with
  | true => match ((funcA P q H fuel f args (roAll m)).go []).flat with
    | some (o, (.bool _ c, m')) => some (o ++ [c == b], (.bool false b, m ++ onlyRw (m'.drop m.length)))
    | _ => X f args m
  | false => X f args m
section
variable {P : Program} {q : FuncId → Bool} {H X : CallH}
theorem HOk.fix (hm : P.follows .mixedOrders = true) (hng : noCount P = true) (hH : HOk P H) (hX : HOk P X) (fuel : Nat) (g : FuncId) (b : Bool) : HOk P (fixC P q H fuel g b X) := by
  have hT := HOk.turn (q := q) hm hng hH hX fuel g []
  have key : ∀ {f : FuncId} {xs : List AV} {m : Mem} {ob : List Bool} {v : AV} {m' : Mem}, fixC P q H fuel g b X f xs m = some (ob, (v, m')) → Paid ob →
      (X f xs m = some (ob, (v, m'))) ∨ (∃ o s c, turnC P q H fuel g [] X f xs m = some (o, (.bool s c, m')) ∧ Paid o ∧ c = b ∧ v = .bool false b) := by
    intro f xs m ob v m' h ho
    unfold fixC at h
    split at h
    · rename_i hf
      split at h
      · rename_i o s c m1 hflat
        cases h
        obtain ⟨p1, p2⟩ := paid_append.1 ho
        have hc := p2 _ (List.mem_cons_self ..)
        simp only [beq_iff_eq] at hc
        refine Or.inr ⟨o, s, c, ?_, p1, hc, rfl⟩
        unfold turnC
        simp only [hf, hflat]
      · exact Or.inl h
    · exact Or.inl h
  refine ⟨@fun f xs m ob v m' h ho => ?_, @fun f xs m ob v m' h ho w0 S ρ w vs ha hi => ?_⟩
  · rcases key h ho with h1 | ⟨o, s, c, h1, h2, _, _⟩
    · exact hX.le h1 ho
    · exact hT.le h1 h2
  · rcases key h ho with h1 | ⟨o, s, c, h1, h2, h3, h4⟩
    · exact hX.run h1 ho ha hi
    · subst h3 h4
      refine (hT.run h1 h2 ha hi).mono fun u w' ⟨ρ', k1, k2⟩ => ⟨ρ', ?_, k2⟩
      cases k1
      exact .bool _ _
end
end Go.Ev
namespace Go.Ev
set_option linter.unusedSectionVars false
variable [Tab]
/-- One of two handlers, by what is called. -/
def chooseH (c : FuncId → List AV → Mem → Bool) (X Y : CallH) : CallH := fun f xs m =>
  match c f xs m with
  | true => X f xs m
  | false => Y f xs m
/-- Names that stand for nothing, behind the answer of g. -/
def padH (g : FuncId) (k : Nat) (X : CallH) : CallH := fun f xs m =>
  match X f xs m with
  | some (o, (v, m')) => some (o, (v, match Nat.beq f g with | true => m' ++ List.replicate k none | false => m'))
  | none => none
/-- The first that answers. -/
def orH (X Y : CallH) : CallH := fun f xs m =>
  match X f xs m with
  | some r => some r
  | none => Y f xs m
section
variable {P : Program} {X Y : CallH}
theorem HOk.or (hX : HOk P X) (hY : HOk P Y) : HOk P (orH X Y) := by
  refine ⟨@fun f xs m ob v m' h ho => ?_, @fun f xs m ob v m' h ho w0 S ρ w vs ha hi => ?_⟩
  · unfold orH at h
    split at h
    · rename_i r hr; cases h; exact hX.le hr ho
    · exact hY.le h ho
  · unfold orH at h
    split at h
    · rename_i r hr; cases h; exact hX.run hr ho ha hi
    · exact hY.run h ho ha hi
theorem HOk.choose (hX : HOk P X) (hY : HOk P Y) (c : FuncId → List AV → Mem → Bool) : HOk P (chooseH c X Y) := by
  refine ⟨@fun f xs m ob v m' h ho => ?_, @fun f xs m ob v m' h ho w0 S ρ w vs ha hi => ?_⟩
  · unfold chooseH at h
    split at h
    · exact hX.le h ho
    · exact hY.le h ho
  · unfold chooseH at h
    split at h
    · exact hX.run h ho ha hi
    · exact hY.run h ho ha hi
theorem getName_pad {m : Mem} {k : Nat} (n : Nat) : getName (m ++ List.replicate k none) n = getName m n := by
  unfold getName
  by_cases h : n < m.length
  · rw [List.getElem?_append_left h]
  · rw [List.getElem?_append_right (by omega), List.getElem?_eq_none (l := m) (by omega)]
    by_cases h2 : n - m.length < k
    · rw [List.getElem?_replicate_of_lt h2]
    · rw [List.getElem?_eq_none (by simp; omega)]
theorem HOk.pad (hX : HOk P X) (g : FuncId) (k : Nat) : HOk P (padH g k X) := by
  have key : ∀ {f : FuncId} {xs : List AV} {m : Mem} {ob : List Bool} {v : AV} {m' : Mem}, padH g k X f xs m = some (ob, (v, m')) → ∃ m1, X f xs m = some (ob, (v, m1)) ∧ ((m' = m1 ++ List.replicate k Option.none) ∨ m' = m1) := by
    intro f xs m ob v m' h
    unfold padH at h
    split at h
    · rename_i o x m1 hx
      split at h
      · cases h; exact ⟨m1, hx, Or.inl rfl⟩
      · cases h; exact ⟨_, hx, Or.inr rfl⟩
    · cases h
  refine ⟨@fun f xs m ob v m' h ho => ?_, @fun f xs m ob v m' h ho w0 S ρ w vs ha hi => ?_⟩
  · obtain ⟨m1, h1, h2⟩ := key h
    have := hX.le h1 ho
    rcases h2 with rfl | rfl
    · simp; omega
    · exact this
  · obtain ⟨m1, h1, h2⟩ := key h
    rcases h2 with rfl | rfl
    · refine (hX.run h1 ho ha hi).mono fun u w' ⟨ρ', k1, k2, k3⟩ => ?_
      have hN : ∀ i, upto m1.length i → upto (m1 ++ List.replicate k Option.none).length i := fun i hi => by simp [upto] at *; omega
      have hg : getName (m1 ++ List.replicate k Option.none) = getName m1 := funext fun n => getName_pad n
      refine ⟨ρ', k1.ext (fun _ _ => rfl) hN, ?_, k3⟩
      rw [hg]
      refine ⟨⟨fun n b hn => ?_, k2.sim.inj, fun n b hn => hN _ (k2.sim.live n b hn), k2.sim.tab, k2.sim.apart⟩, k2.size, k2.frame, k2.os, k2.tape, k2.output, k2.rws⟩
      obtain ⟨cs', t', lo, hi', a1, a2, a3, a4, a5⟩ := (k2.sim.blk n b hn).ex
      exact ⟨cs', t', lo, hi', a1, a2, a3, a4, a5.ext (fun _ _ => rfl) hN⟩
    · exact hX.run h1 ho ha hi
end
end Go.Ev
namespace Go.Proofs.Ytfmgodgakndjcaa
open Go.Ev
open Go.ChangeShapes Go.WideShapes Go.ChangeAt Go.RowKit
set_option maxRecDepth 100000
theorem own : ownKnob Try.prog.godebug = none := by kernel_rfl
theorem laidOut : laidOutB Try.prog = true := by kernel_rfl
end Go.Proofs.Ytfmgodgakndjcaa
namespace Go.Proofs.Ytfmgodgakndjcaa
open Go.Ev Go.Sh Go.Ch
set_option maxRecDepth 100000
theorem unmarkB {W : World} {j n : Nat} {k : IntKind} {l : List Int} {v : Value} (h : ∃ L, VOk W j L (.buf true k n l) v) : ∃ L, VOk W j L (.buf false k n l) v := by
  obtain ⟨L, h1, h2⟩ := h
  refine ⟨L, fun ρ N hρ hN => ?_, fun b hb => ⟨fun hrw => ?_, (h2 b hb).2⟩⟩
  · have hr := h1 ρ N hρ hN
    cases hr with
    | slice _ _ _ _ _ _ c ad hn hc hl hw had => exact .slice false _ _ _ _ _ c ad hn hc hl hw had
  · cases hb; cases hrw
/-- Which operations are left out: of the first round, of the second. -/
def nS (p : Bool) (d : Nat) : Bool := match p with | false => Nat.ble 93 d && Nat.ble d 108 | true => Nat.beq d 109
def nG (p : Bool) (d : Nat) : Bool := match p with | false => Nat.ble 135 d && Nat.ble d 141 | true => Nat.ble 142 d && Nat.ble d 143
def nB (p : Bool) (d : Nat) : Bool := match p with | false => Nat.ble 117 d && Nat.ble d 128 | true => Nat.ble 129 d && Nat.ble d 130
def nO (_ : Bool) (_ : Nat) : Bool := false
def qO2 (K : Nat) (a b : Bool → Nat → Bool) (p : Bool) (f : Nat) : Bool :=
  match Nat.ble 3000000 f with
  | false => true
  | true => match Nat.ble (K + 1) (f / 1000000 - 1) with
    | false => !a p (f % 1000000)
    | true => !b p (f % 1000000)
def qO (K : Nat) (a b : Bool → Nat → Bool) (f : FuncId) : Bool :=
  match Nat.ble 2000000000 f with
  | false => Nat.beq f 1000000000 || qD f
  | true => match Nat.ble 4000000000 f with
    | false => qO2 K a b false (f - 2000000000)
    | true => qO2 K a b true (f - 4000000000)
/-- Of fit: what stands behind its j-th test. -/
def qF (j : Nat) (f : FuncId) : Bool :=
  match Nat.ble 2000000000 f with
  | false => Nat.beq f 1000000000 || qD f
  | true => match Nat.ble 4000000000 f with
    | false => !(Nat.ble (2000000002 + 6 * j) f && Nat.ble f (2000000005 + 6 * j))
    | true => !Nat.beq f (4000000006 + 6 * j)
/-- The sealed bytes lie in the block that came in. -/
def isB (_ : FuncId) (xs : List AV) (_ : Mem) : Bool := match xs with
  | [_, _, _, .slice _ 4 _ _ _ _] => true
  | _ => false
def hOY : CallH := withC 17 csS (withV 20 (openX opY) hx3)
theorem hOY_ok : HOk Try.prog hOY := (hx3_ok.withV fun _ _ _ _ h ho => opY_ok h ho).withC fun _ _ _ h _ => csound_ok h
def hON : CallH := withC 17 csS (withV 20 (openX opN) hx3)
theorem hON_ok : HOk Try.prog hON := (hx3_ok.withV fun _ _ _ _ h ho => opN_ok h ho).withC fun _ _ _ h _ => csound_ok h
def hOX : CallH := withC 17 csS (withV 20 (openX opX) hx3)
theorem hOX_ok : HOk Try.prog hOX := (hx3_ok.withV fun _ _ _ _ h ho => opX_ok h ho).withC fun _ _ _ h _ => csound_ok h
/-- The cases of the bytes that came in: none, or they aren't looked at; too few; the tag right, wrong. -/
inductive CB where | no | few | yes | wrong
def hB : CB → CallH
  | .no => hOX | .few => hOX | .yes => hOY | .wrong => hON
def hS : CB → Bool → CallH
  | .few, true => padH 20 1 hOY
  | .few, false => padH 20 1 hON
  | _, true => hOY
  | _, false => hON
theorem hB_ok (c : CB) : HOk Try.prog (hB c) := by cases c <;> first | exact hOX_ok | exact hOY_ok | exact hON_ok
theorem hS_ok (c : CB) (b : Bool) : HOk Try.prog (hS c b) := by cases c <;> cases b <;> first | exact hOY_ok | exact hON_ok | exact hOY_ok.pad _ _ | exact hON_ok.pad _ _
noncomputable def hOp (c : CB) (b t : Bool) (j : Nat) : CallH := fixC Try.prog (qF j) (deep Try.prog qD hOX 100 5) 100 18 t (chooseH isB (hB c) (hS c b))
theorem hOp_ok (c : CB) (b t : Bool) (j : Nat) : HOk Try.prog (hOp c b t j) := HOk.fix mixed noCount (hOX_ok.deep mixed noCount 100 5) ((hB_ok c).choose (hS_ok c b) isB) 100 _ t
def nW (c : CB) : Bool → Nat → Bool := match c with | .no => nO | .few => nS | .yes => nG | .wrong => nB
def nT (b : Bool) : Bool → Nat → Bool := match b with | true => nG | false => nB
def cW (g : Bool) : CB := match g with | true => .yes | false => .wrong
def eV (e : Bool) : V := match e with | true => .pl .nilslice | false => .empty
noncomputable def coE (c : CB) (K : Nat) (b t : Bool) (j : Nat) (ka kn ka2 kp B : V) (bit : Int) (ds : List Bool) : E AV :=
  res ((funcL Try.prog (qO K (nW c) (nT b)) (deep Try.prog qD (hOp c b t j) 100 5) (fun _ _ => none) 100 4 ([.agg (cArgs 0 [ka, kn, ka2, kp])] ++ cArgs 4 [B, .pl (.int true .i64 bit)]) (cMem [ka, kn, ka2, kp, B, .pl (.int true .i64 bit)])).go ds)
-- what is owed
def mB (N : Nat) : Int := IntKind.i64.wrap (IntKind.i64.wrap (8 * (N : Int)) + 1)
def btB (N : Nat) (bit : Int) : Int := (IntKind.i64.wrap (IntKind.i64.wrap (bit.tmod (mB N) + IntKind.i64.wrap (8 * (N : Int))) + 1)).tmod (mB N)
def ixB (N : Nat) (bit : Int) : Int := IntKind.i64.wrap ((btB N bit).tdiv 8)
def setB (S : List Int) (N : Nat) (bit : Int) : List Int := S.set (0 + (ixB N bit).toNat * 1) (ixor .u8 (S.getD (0 + (ixB N bit).toNat * 1) 0) (ishl .u8 1 ((btB N bit).tmod 8)))
def trB (t : Bool) (S : List Int) (N : Nat) (bit : Int) : List Int := match t with | true => setB S N bit | false => S
def bitD (N : Nat) : List Bool := [decide (N < 9223372036854775808), !decide (mB N = 0), decide (N < 9223372036854775808), decide (N < 9223372036854775808), !decide (mB N = 0), decide (N < 9223372036854775808)]
def ltB (N : Nat) (bit : Int) : Bool := decide (btB N bit < IntKind.i64.wrap (8 * (N : Int)))
def stD (t : Bool) (N : Nat) (bit : Int) (Z : Nat) : List Bool := match t with
  | true => [ltB N bit, decide (0 ≤ ixB N bit) && decide (ixB N bit < (N : Int)), decide (0 + (ixB N bit).toNat * 1 + 1 ≤ Z), !decide ((btB N bit).tmod 8 < 0), decide (0 ≤ ixB N bit) && decide (ixB N bit < (N : Int)), decide (0 + (ixB N bit).toNat * 1 + 1 ≤ Z)]
  | false => [!ltB N bit]
def aV (e : Bool) (m : Nat) : List Bool := match e with | true => [decide (0 + m ≤ m)] | false => []
def aO (e : Bool) (m : Nat) : List Bool := match e with | true => [decide (m ≤ 140737488351232)] | false => []
def aT (e : Bool) (m : Nat) : List Bool := match e with | true => [decide (1 ≤ m), decide (m ≤ 400000000)] | false => []
def aL (e : Bool) (m : Nat) (a : List Int) : List Int := match e with | true => (a.drop 0).take m | false => []
def gD (b g : Bool) : Bool := match b with | true => g | false => !g
def tqL (q : List Int) (N : Nat) : List Int := (q.drop (0 + 0 * 1)).take ((kN N).toNat - 0)
def tgB (x A q : List Int) (N : Nat) : Bool := decide (tagC x A (tqL q N) = (q.drop (0 + (kN N).toNat * 1)).take (N - (kN N).toNat))
def bdN (N : Nat) : Bool := decide (0 ≤ kN N) && decide (kN N ≤ (N : Int))
def r14 (e : Bool) (m N Z : Nat) : List Bool := List.replicate 9 (decide (kN N ≥ 0)) ++ ([bdN N, decide (kN N ≥ 0)] ++ (aV e m ++ ([decide (0 + 0 * 1 + ((kN N).toNat - 0) ≤ Z)] ++ (aT e m ++ ([decide (1 ≤ (kN N).toNat - 0), decide ((kN N).toNat - 0 ≤ 400000000)] ++ (List.replicate 4 (decide (kN N ≥ 0)) ++ [bdN N, decide (kN N ≥ 0), decide (0 + (kN N).toNat * 1 + (N - (kN N).toNat) ≤ Z), decide (kN N ≥ 0), decide (kN N ≥ 0)]))))))
/-- The last test's debts: G of the tag, C of the text. -/
def r15e (T G C : Bool) : List Bool := [G, T, G, C, C, C, !(!T), !(!T), !(!T), !(!T), C, !(!T), C]
def r15w (T : Bool) : List Bool := [!(!(T == false)), !(!(T == false))] ++ (List.replicate 12 (!T) ++ ([!(!(T == false)), !T, !(!(T == false))] ++ List.replicate 5 (!T)))
def r15 (b : Bool) (x A q : List Int) (N Z : Nat) : List Bool := match b with
  | true => [!(!(tgB x A q N == true)), !(!(tgB x A q N == true)), tgB x A q N, tgB x A q N, decide (0 + (N - 16) ≤ (cvL x 1 ((q.drop 0).take N) (N - 16)).length)] ++ (List.replicate 7 (tgB x A q N) ++ ([bdN N, tgB x A q N, decide (0 + 0 * 1 + ((kN N).toNat - 0) ≤ Z), decide (1 ≤ (kN N).toNat - 0), decide ((kN N).toNat - 0 ≤ 900000000), tgB x A q N, decide (0 + ((kN N).toNat - 0) ≤ (cvL x 1 (tqL q N) ((kN N).toNat - 0)).length), tgB x A q N] ++
      r15e (tgB x A q N) (!(!(tgB x A q N == true))) (!(!decide (((cvL x 1 ((q.drop 0).take N) (N - 16)).drop 0).take (N - 16) = ((cvL x 1 (tqL q N) ((kN N).toNat - 0)).drop 0).take ((kN N).toNat - 0)))))) 
  | false => r15w (tgB x A q N)
/-- A round of bytes that have N. -/
def itL (b e : Bool) (x A : List Int) (m : Nat) (q : List Int) (N Z : Nat) : List Bool := [decide (N < 9223372036854775808)] ++ (aV e m ++ ([decide (0 + N ≤ Z)] ++ (aO e m ++ ([decide (16 ≤ N), decide (N ≤ 140737488351232), gD b (goodC x A ((q.drop 0).take N) N)] ++ (r14 e m N Z ++ r15 b x A q N Z)))))
/-- A round of 16 bytes. -/
def it16 (b e : Bool) (x A : List Int) (m : Nat) (q : List Int) : List Bool := aV e m ++ (aO e m ++ ([true, true, gD b (goodC x A q 16)] ++ (aV e m ++ (aT e m ++ (match b with
  | true => [!(!(decide (tagC x A [] = q) == true)), !(!(decide (tagC x A [] = q) == true)), decide (tagC x A [] = q), decide (tagC x A [] = q), decide (0 + (16 - 16) ≤ (cvL x 1 q (16 - 16)).length)] ++ (List.replicate 10 (decide (tagC x A [] = q)) ++ r15e (decide (tagC x A [] = q)) (!(!(decide (tagC x A [] = q) == true))) (!(!decide (((cvL x 1 q (16 - 16)).drop 0).take (16 - 16) = []))))
  | false => r15w (decide (tagC x A [] = q)))))))
/-- A round of too few. -/
def itF (e : Bool) (m N : Nat) : List Bool := [decide (N < 9223372036854775808)] ++ (aV e m ++ ([decide (0 + N ≤ N)] ++ (aO e m ++ ([!decide (16 ≤ N)] ++ List.replicate 17 (!decide (kN N ≥ 0))))))
theorem cu_k (e1 : Bool) (x1 x2 x3 : V) (y : V) (bit : Int) : coE .no 9 true false 0 (eV e1) (x1) (x2) (x3) y bit [] = some ([false == false], .bool false true) := by cases e1 <;> kernel_rfl
theorem cu_k2 (i : Nat) (k : List Int) (x1 x2 x3 : V) (y : V) (bit : Int) : coE .no 9 true false 1 (.buf true .u8 i k) (x1) (x2) (x3) y bit [] = some ([decide (i < 9223372036854775808), !((i : Int) == 32), !((i : Int) == 32), !((i : Int) == 32), !((i : Int) == 32), !((i : Int) == 32), false == false], .bool false true) := by kernel_rfl
theorem cu_n (k : List Int) (e1 : Bool) (x2 x3 : V) (y : V) (bit : Int) : coE .no 9 true false 0 (.buf false .u8 32 k) (eV e1) (x2) (x3) y bit [] = some ([false == false], .bool false true) := by cases e1 <;> kernel_rfl
theorem cu_n2 (k : List Int) (i : Nat) (l : List Int) (x2 x3 : V) (y : V) (bit : Int) : coE .no 9 true false 2 (.buf false .u8 32 k) (.buf true .u8 i l) (x2) (x3) y bit [] = some ([decide (i < 9223372036854775808), !((i : Int) == 12), !((i : Int) == 12), !((i : Int) == 12), !((i : Int) == 12), !((i : Int) == 12), false == false], .bool false true) := by kernel_rfl
theorem cu_a (k l : List Int) (m : Nat) (a : List Int) (x3 : V) (y : V) (bit : Int) : coE .no 9 true false 3 (.buf false .u8 32 k) (.buf false .u8 12 l) (.buf true .u8 m a) (x3) y bit [] = some ([decide (m < 9223372036854775808), !decide ((m : Int) ≤ 300), !decide ((m : Int) ≤ 300), !decide ((m : Int) ≤ 300), !decide ((m : Int) ≤ 300), !decide ((m : Int) ≤ 300), false == false], .bool false true) := by kernel_rfl
theorem cu_p (k l : List Int) (m : Nat) (a : List Int) (n : Nat) (p : List Int) (y : V) (bit : Int) : coE .no 9 true false 0 (.buf false .u8 32 k) (.buf false .u8 12 l) (.buf true .u8 m a) (.buf true .u8 n p) y bit [] = some ([decide (m < 9223372036854775808), decide ((m : Int) ≤ 300), decide ((m : Int) ≤ 300), decide ((m : Int) ≤ 300), decide (n < 9223372036854775808), decide ((m : Int) ≤ 300), decide ((m : Int) ≤ 300), decide ((n : Int) ≤ 500) == false], .bool false true) := by kernel_rfl
theorem cu_p2 (k l : List Int) (e1 : Bool) (n : Nat) (p : List Int) (y : V) (bit : Int) : coE .no 9 true false 0 (.buf false .u8 32 k) (.buf false .u8 12 l) (eV e1) (.buf true .u8 n p) y bit [] = some ([decide (n < 9223372036854775808), decide ((n : Int) ≤ 500) == false], .bool false true) := by cases e1 <;> kernel_rfl
end Go.Proofs.Ytfmgodgakndjcaa
