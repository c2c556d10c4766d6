/- Calls whose answer is a test that is known: it is owed, and no longer a test. Own work. -/
import Derived.Test.YtfmgodgakndjcaaQGcH
import Derived.Test.YtfmgodgakndjcaaQEvOne
import Derived.Test.YtfmgodgakndjcaaQTab0
import Derived.Test.YtfmgodgakndjcaaRows
import Derived.ProofKit
import Derived.OpenShut
import Derived.Test.YtfmgodgakndjcaaQGcSm
import Derived.Test.YtfmgodgakndjcaaQEvPut
set_option linter.unusedSimpArgs false
set_option linter.unusedVariables false
set_option linter.unusedSectionVars false
namespace Go.Ev
set_option linter.unusedSectionVars false
variable [Tab]
def fixC (P : Program) (q : FuncId → Bool) (H : CallH) (fuel : Nat) (g : FuncId) (b : Bool) (X : CallH) : CallH := fun f args m =>
  match decide (f = g) with
  | true => match ((funcA P q H fuel f args (roAll m)).go []).flat with
    | some (o, (.bool _ c, m')) => some (o ++ [c == b], (.bool false b, m ++ onlyRw (m'.drop m.length)))
    | _ => X f args m
  | false => X f args m
section
variable {P : Program} {q : FuncId → Bool} {H X : CallH}
theorem HOk.fix (hm : P.follows .mixedOrders = true) (hng : noCount P = true) (hH : HOk P H) (hX : HOk P X) (fuel : Nat) (g : FuncId) (b : Bool) : HOk P (fixC P q H fuel g b X) := by
  have hT := HOk.turn (q := q) hm hng hH hX fuel g []
  have key : ∀ {f : FuncId} {xs : List AV} {m : Mem} {ob : List Bool} {v : AV} {m' : Mem}, fixC P q H fuel g b X f xs m = some (ob, (v, m')) → Paid ob →
      (X f xs m = some (ob, (v, m'))) ∨ (∃ o s c, turnC P q H fuel g [] X f xs m = some (o, (.bool s c, m')) ∧ Paid o ∧ c = b ∧ v = .bool false b) := by
    intro f xs m ob v m' h ho
    unfold fixC at h
    split at h
    · rename_i hf
      split at h
      · rename_i o s c m1 hflat
        cases h
        obtain ⟨p1, p2⟩ := paid_append.1 ho
        have hc := p2 _ (List.mem_cons_self ..)
        simp only [beq_iff_eq] at hc
        refine Or.inr ⟨o, s, c, ?_, p1, hc, rfl⟩
        unfold turnC
        simp only [hf, hflat]
      · exact Or.inl h
    · exact Or.inl h
  refine ⟨@fun f xs m ob v m' h ho => ?_, @fun f xs m ob v m' h ho w0 S ρ w vs ha hi => ?_⟩
  · rcases key h ho with h1 | ⟨o, s, c, h1, h2, _, _⟩
    · exact hX.le h1 ho
    · exact hT.le h1 h2
  · rcases key h ho with h1 | ⟨o, s, c, h1, h2, h3, h4⟩
    · exact hX.run h1 ho ha hi
    · subst h3 h4
      refine (hT.run h1 h2 ha hi).mono fun u w' ⟨ρ', k1, k2⟩ => ⟨ρ', ?_, k2⟩
      cases k1
      exact .bool _ _
end
end Go.Ev
namespace Go.Ev
set_option linter.unusedSectionVars false
variable [Tab]
/-- One of two handlers, by what is called. -/
def chooseH (c : FuncId → List AV → Mem → Bool) (X Y : CallH) : CallH := fun f xs m =>
  match c f xs m with
  | true => X f xs m
  | false => Y f xs m
/-- Names that stand for nothing, behind the answer of g. -/
def padH (g : FuncId) (k : Nat) (X : CallH) : CallH := fun f xs m =>
  match X f xs m with
  | some (o, (v, m')) => some (o, (v, match Nat.beq f g with | true => m' ++ List.replicate k none | false => m'))
  | none => none
/-- The first that answers. -/
def orH (X Y : CallH) : CallH := fun f xs m =>
  match X f xs m with
  | some r => some r
  | none => Y f xs m
section
variable {P : Program} {X Y : CallH}
theorem HOk.or (hX : HOk P X) (hY : HOk P Y) : HOk P (orH X Y) := by
  refine ⟨@fun f xs m ob v m' h ho => ?_, @fun f xs m ob v m' h ho w0 S ρ w vs ha hi => ?_⟩
  · unfold orH at h
    split at h
    · rename_i r hr; cases h; exact hX.le hr ho
    · exact hY.le h ho
  · unfold orH at h
    split at h
    · rename_i r hr; cases h; exact hX.run hr ho ha hi
    · exact hY.run h ho ha hi
theorem HOk.choose (hX : HOk P X) (hY : HOk P Y) (c : FuncId → List AV → Mem → Bool) : HOk P (chooseH c X Y) := by
  refine ⟨@fun f xs m ob v m' h ho => ?_, @fun f xs m ob v m' h ho w0 S ρ w vs ha hi => ?_⟩
  · unfold chooseH at h
    split at h
    · exact hX.le h ho
    · exact hY.le h ho
  · unfold chooseH at h
    split at h
    · exact hX.run h ho ha hi
    · exact hY.run h ho ha hi
theorem getName_pad {m : Mem} {k : Nat} (n : Nat) : getName (m ++ List.replicate k none) n = getName m n := by
  unfold getName
  by_cases h : n < m.length
  · rw [List.getElem?_append_left h]
  · rw [List.getElem?_append_right (by omega), List.getElem?_eq_none (l := m) (by omega)]
    by_cases h2 : n - m.length < k
    · rw [List.getElem?_replicate_of_lt h2]
    · rw [List.getElem?_eq_none (by simp; omega)]
theorem HOk.pad (hX : HOk P X) (g : FuncId) (k : Nat) : HOk P (padH g k X) := by
  have key : ∀ {f : FuncId} {xs : List AV} {m : Mem} {ob : List Bool} {v : AV} {m' : Mem}, padH g k X f xs m = some (ob, (v, m')) → ∃ m1, X f xs m = some (ob, (v, m1)) ∧ ((m' = m1 ++ List.replicate k Option.none) ∨ m' = m1) := by
    intro f xs m ob v m' h
    unfold padH at h
    split at h
    · rename_i o x m1 hx
      split at h
      · cases h; exact ⟨m1, hx, Or.inl rfl⟩
      · cases h; exact ⟨_, hx, Or.inr rfl⟩
    · cases h
  refine ⟨@fun f xs m ob v m' h ho => ?_, @fun f xs m ob v m' h ho w0 S ρ w vs ha hi => ?_⟩
  · obtain ⟨m1, h1, h2⟩ := key h
    have := hX.le h1 ho
    rcases h2 with rfl | rfl
    · simp; omega
    · exact this
  · obtain ⟨m1, h1, h2⟩ := key h
    rcases h2 with rfl | rfl
    · refine (hX.run h1 ho ha hi).mono fun u w' ⟨ρ', k1, k2, k3⟩ => ?_
      have hN : ∀ i, upto m1.length i → upto (m1 ++ List.replicate k Option.none).length i := fun i hi => by simp [upto] at *; omega
      have hg : getName (m1 ++ List.replicate k Option.none) = getName m1 := funext fun n => getName_pad n
      refine ⟨ρ', k1.ext (fun _ _ => rfl) hN, ?_, k3⟩
      rw [hg]
      refine ⟨⟨fun n b hn => ?_, k2.sim.inj, fun n b hn => hN _ (k2.sim.live n b hn), k2.sim.tab, k2.sim.apart⟩, k2.size, k2.frame, k2.os, k2.tape, k2.output, k2.rws⟩
      obtain ⟨cs', t', lo, hi', a1, a2, a3, a4, a5⟩ := (k2.sim.blk n b hn).ex
      exact ⟨cs', t', lo, hi', a1, a2, a3, a4, a5.ext (fun _ _ => rfl) hN⟩
    · exact hX.run h1 ho ha hi
end
end Go.Ev
namespace Go.Proofs.Ytfmgodgakndjcaa
open Go.Ev
open Go.ChangeShapes Go.WideShapes Go.ChangeAt Go.RowKit
set_option maxRecDepth 100000
theorem own : ownKnob Try.prog.godebug = none := by kernel_rfl
theorem laidOut : laidOutB Try.prog = true := by kernel_rfl
end Go.Proofs.Ytfmgodgakndjcaa
namespace Go.Proofs.Ytfmgodgakndjcaa
open Go.Ev Go.Sh Go.As Go.Gc
set_option maxRecDepth 100000
theorem unmarkB {W : World} {j n : Nat} {k : IntKind} {l : List Int} {v : Value} (h : ∃ L, VOk W j L (.buf true k n l) v) : ∃ L, VOk W j L (.buf false k n l) v := by
  obtain ⟨L, h1, h2⟩ := h
  refine ⟨L, fun ρ N hρ hN => ?_, fun b hb => ⟨fun hrw => ?_, (h2 b hb).2⟩⟩
  · have hr := h1 ρ N hρ hN
    cases hr with
    | slice _ _ _ _ _ _ c ad hn hc hl hw had => exact .slice false _ _ _ _ _ c ad hn hc hl hw had
  · cases hb; cases hrw
/-- The cases of the bytes that came in: none, or they aren't looked at; too few; the tag right, wrong. -/
inductive CB where | no | few | yes | wrong
/-- Which operations are left out. -/
def nW (c : CB) (p : Bool) (d : Nat) : Bool := match c, p with
  | .no, _ => false
  | .few, false => Nat.ble 53 d && Nat.ble d 67
  | .few, true => Nat.beq d 68
  | .yes, false => Nat.ble 93 d && Nat.ble d 99
  | .yes, true => Nat.ble 100 d && Nat.ble d 101
  | .wrong, false => Nat.ble 76 d && Nat.ble d 86
  | .wrong, true => Nat.ble 87 d && Nat.ble d 88
def qO (c : CB) (f : FuncId) : Bool :=
  match Nat.ble 2000000000 f with
  | false => Nat.beq f 1000000000 || qP f
  | true => match Nat.ble 4000000000 f with
    | false => Nat.ble 2001000000 f || !nW c false (f - 2000000000)
    | true => Nat.ble 4001000000 f || !nW c true (f - 4000000000)
/-- Of fit: what stands behind its j-th test. -/
def qF (j : Nat) (f : FuncId) : Bool :=
  match Nat.ble 2000000000 f with
  | false => Nat.beq f 1000000000 || qP f
  | true => match Nat.ble 4000000000 f with
    | false => !(Nat.ble (2000000008 + 6 * j) f && Nat.ble f (2000000011 + 6 * j))
    | true => !Nat.beq f (4000000012 + 6 * j)
/-- The sealed bytes lie in the block that came in. -/
def isB (_ : FuncId) (xs : List AV) (_ : Mem) : Bool := match xs with
  | [_, _, _, .slice _ 4 _ _ _ _] => true
  | _ => false
def hgW (c : V → Bool × List Int → List Int → List Bool → Nat → List Int → Nat → List Int → E (AV × Mem)) : CallH := withC 9 gsS (withV 11 newS (withV 13 (openX c) hz1))
theorem hgY0_ok : HOk Try.prog (hgW opY) := ((hz1_ok.withV fun _ _ _ _ h ho => opY_ok h ho).withV fun _ _ _ _ h _ => new_ok h).withC fun _ _ _ h _ => gsound_ok h
theorem hgN0_ok : HOk Try.prog (hgW opN) := ((hz1_ok.withV fun _ _ _ _ h ho => opN_ok h ho).withV fun _ _ _ _ h _ => new_ok h).withC fun _ _ _ h _ => gsound_ok h
theorem hgX0_ok : HOk Try.prog (hgW opX) := ((hz1_ok.withV fun _ _ _ _ h ho => opX_ok h ho).withV fun _ _ _ _ h _ => new_ok h).withC fun _ _ _ h _ => gsound_ok h
def hB : CB → CallH
  | .no => hgW opX | .few => hgW opX | .yes => hgW opY | .wrong => hgW opN
def hS (b : Bool) : CallH := match b with | true => hgW opY | false => hgW opN
theorem hB_ok (c : CB) : HOk Try.prog (hB c) := by cases c <;> first | exact hgX0_ok | exact hgY0_ok | exact hgN0_ok
theorem hS_ok (b : Bool) : HOk Try.prog (hS b) := by cases b <;> first | exact hgY0_ok | exact hgN0_ok
noncomputable def hOp (c : CB) (b t : Bool) (j : Nat) : CallH := fixC Try.prog (qF j) (deep Try.prog qP (hgW opX) 100 5) 100 10 t (chooseH isB (hB c) (hS b))
theorem hOp_ok (c : CB) (b t : Bool) (j : Nat) : HOk Try.prog (hOp c b t j) := HOk.fix mixed noCount (hgX0_ok.deep mixed noCount 100 5) ((hB_ok c).choose (hS_ok b) isB) 100 _ t
def cW (g : Bool) : CB := match g with | true => .yes | false => .wrong
def eV (e : Bool) : V := match e with | true => .pl .nilslice | false => .empty
noncomputable def coE (c : CB) (b t : Bool) (j : Nat) (ka kn ka2 kp B : V) (bit : Int) (ds : List Bool) : E AV :=
  res ((funcL Try.prog (qO c) (deep Try.prog qP (hOp c b t j) 100 5) (fun _ _ => none) 100 3 ([.agg (cArgs 0 [ka, kn, ka2, kp])] ++ cArgs 4 [B, .pl (.int true .i64 bit)]) (cMem [ka, kn, ka2, kp, B, .pl (.int true .i64 bit)])).go ds)
def nk (r : Bool) : Nat := match r with | true => 8 | false => 4
def kV (r : Bool) (k : List Int) : V := match r with | true => .buf false .u8 32 k | false => .buf false .u8 16 k
def sW (r : Bool) (k : List Int) : List Int := specW (nk r) k (kwN r)
def kW (r : Bool) (k : List Int) : List Int := keyL (nk r) k
def wD (r : Bool) (k : List Int) : List Bool := [decide ((sW r k).length = 4 * kwN r), (sW r k).all (inR .u8)]
def mB (N : Nat) : Int := IntKind.i64.wrap (8 * (N : Int))
def btB (N : Nat) (bit : Int) : Int := (IntKind.i64.wrap (bit.tmod (mB N) + mB N)).tmod (mB N)
def ixB (N : Nat) (bit : Int) : Int := IntKind.i64.wrap ((btB N bit).tdiv 8)
def setB (S : List Int) (N : Nat) (bit : Int) : List Int := S.set (0 + (ixB N bit).toNat * 1) (ixor .u8 (S.getD (0 + (ixB N bit).toNat * 1) 0) (ishl .u8 1 ((btB N bit).tmod 8)))
def bitD (N : Nat) : List Bool := [decide (N < 9223372036854775808), !decide (mB N = 0), decide (N < 9223372036854775808), decide (N < 9223372036854775808), !decide (mB N = 0)]
def stD (N : Nat) (bit : Int) (Z : Nat) : List Bool := [decide (0 ≤ ixB N bit) && decide (ixB N bit < (N : Int)), decide (0 + (ixB N bit).toNat * 1 + 1 ≤ Z), !decide ((btB N bit).tmod 8 < 0), decide (0 ≤ ixB N bit) && decide (ixB N bit < (N : Int)), decide (0 + (ixB N bit).toNat * 1 + 1 ≤ Z)]
def aV (e : Bool) (m : Nat) : List Bool := match e with | true => [decide (0 + m ≤ m)] | false => []
def aO (e : Bool) (m : Nat) : List Bool := match e with | true => [decide (m < 9223372036854775808)] | false => []
def aT (e : Bool) (m : Nat) : List Bool := match e with | true => [decide (m < 1000000000)] | false => []
def aL (e : Bool) (m : Nat) (a : List Int) : List Int := match e with | true => (a.drop 0).take m | false => []
def gD (b g : Bool) : Bool := match b with | true => g | false => !g
def tqL (q : List Int) (N : Nat) : List Int := (q.drop (0 + 0 * 1)).take ((kN N).toNat - 0)
def tgB (r : Bool) (k l A : List Int) (m : Nat) (q : List Int) (N : Nat) : Bool := decide (tagR (sW r k) (rds r) l A m (tqL q N) ((kN N).toNat - 0) = (q.drop (0 + (kN N).toNat * 1)).take (N - (kN N).toNat))
def bdN (N : Nat) : Bool := decide (0 ≤ kN N) && decide (kN N ≤ (N : Int))
def tgD (r : Bool) (k : List Int) (e : Bool) (m N Z : Nat) : List Bool := wD r k ++ (aV e m ++ ([decide (0 + 0 * 1 + ((kN N).toNat - 0) ≤ Z)] ++ (aT e m ++ ([decide ((kN N).toNat - 0 < 1000000000)] ++ wD r k))))
def r9 (r : Bool) (k : List Int) (e : Bool) (m N Z : Nat) : List Bool := List.replicate 8 (decide (kN N ≥ 0)) ++ ([bdN N, decide (kN N ≥ 0)] ++ (tgD r k e m N Z ++ (List.replicate 4 (decide (kN N ≥ 0)) ++ [bdN N, decide (kN N ≥ 0), decide (0 + (kN N).toNat * 1 + (N - (kN N).toNat) ≤ Z), decide (kN N ≥ 0), decide (kN N ≥ 0)])))
/-- The last test's debts: G of the tag, C of the text. -/
def r10e (T G C : Bool) : List Bool := [G, T, G, C, C, C, !(!T), !(!T), !(!T), !(!T), C, !(!T), C]
def r10w (T : Bool) : List Bool := [!(!(T == false)), !(!(T == false))] ++ (List.replicate 11 (!T) ++ ([!(!(T == false)), !T, !(!(T == false))] ++ List.replicate 5 (!T)))
def tuT (r : Bool) (k l q : List Int) (N : Nat) : List Int := tuR (sW r k) (rds r) l (tqL q N) ((kN N).toNat - 0) (((kN N).toNat - 0 + 15) / 16)
def r10 (b r : Bool) (k l A : List Int) (m : Nat) (q : List Int) (N Z : Nat) : List Bool := match b with
  | true => [!(!(tgB r k l A m q N == true)), !(!(tgB r k l A m q N == true)), tgB r k l A m q N, tgB r k l A m q N, decide (0 + (N - 16) ≤ (cvL (kW r k) (rds r) l ((q.drop 0).take N) (N - 16)).length)] ++ (List.replicate 6 (tgB r k l A m q N) ++ ([bdN N, tgB r k l A m q N, decide (0 + 0 * 1 + ((kN N).toNat - 0) ≤ Z), true, true, true, decide (1 ≤ (kN N).toNat - 0), decide ((kN N).toNat - 0 ≤ 900000000)] ++ (wD r k ++ ([tgB r k l A m q N, decide (0 + ((kN N).toNat - 0) ≤ (tuT r k l q N).length), tgB r k l A m q N] ++
      r10e (tgB r k l A m q N) (!(!(tgB r k l A m q N == true))) (!(!decide (((cvL (kW r k) (rds r) l ((q.drop 0).take N) (N - 16)).drop 0).take (N - 16) = ((tuT r k l q N).drop 0).take ((kN N).toNat - 0))))))))
  | false => r10w (tgB r k l A m q N)
def opL (b r : Bool) (k l : List Int) (e : Bool) (m : Nat) (A q : List Int) (N Z : Nat) : List Bool := aV e m ++ ([decide (0 + N ≤ Z)] ++ (aO e m ++ [decide (16 ≤ N), decide (N ≤ 140737488351232), gD b (goodB (kW r k) (rds r) l A m ((q.drop 0).take N) N)]))
def itL (b r : Bool) (k l : List Int) (e : Bool) (m : Nat) (A q : List Int) (N Z : Nat) : List Bool := opL b r k l e m A q N Z ++ ([decide (N < 9223372036854775808)] ++ (r9 r k e m N Z ++ r10 b r k l A m q N Z))
def op16 (b r : Bool) (k l : List Int) (e : Bool) (m : Nat) (A q : List Int) : List Bool := aV e m ++ (aO e m ++ [true, true, gD b (goodB (kW r k) (rds r) l A m q 16)])
def tg16 (r : Bool) (k : List Int) (e : Bool) (m : Nat) : List Bool := wD r k ++ (aV e m ++ (aT e m ++ wD r k))
def tgC (r : Bool) (k l A : List Int) (m : Nat) (q : List Int) : Bool := decide (tagR (sW r k) (rds r) l A m [] 0 = q)
def it16 (b r : Bool) (k l : List Int) (e : Bool) (m : Nat) (A q : List Int) : List Bool := op16 b r k l e m A q ++ (tg16 r k e m ++ (match b with
  | true => [!(!(tgC r k l A m q == true)), !(!(tgC r k l A m q == true)), tgC r k l A m q, tgC r k l A m q, decide (0 + (16 - 16) ≤ (cvL (kW r k) (rds r) l q (16 - 16)).length)] ++ (List.replicate 7 (tgC r k l A m q) ++ ([true, true, true, tgC r k l A m q, tgC r k l A m q] ++ r10e (tgC r k l A m q) (!(!(tgC r k l A m q == true))) (!(!decide (((cvL (kW r k) (rds r) l q (16 - 16)).drop 0).take (16 - 16) = [])))))
  | false => r10w (tgC r k l A m q)))
def itF (e : Bool) (m N : Nat) : List Bool := aV e m ++ ([decide (0 + N ≤ N)] ++ (aO e m ++ ([!decide (16 ≤ N)] ++ ([decide (N < 9223372036854775808)] ++ List.replicate 16 (!decide (kN N ≥ 0))))))
/-- The last round: of bytes that have N. -/
def lsL (b r : Bool) (k l : List Int) (e : Bool) (m : Nat) (A q : List Int) (N Z : Nat) : List Bool := [decide (N < 9223372036854775808)] ++ (opL b r k l e m A q N Z ++ ([bdN N] ++ (tgD r k e m N Z ++ [bdN N, decide (0 + (kN N).toNat * 1 + (N - (kN N).toNat) ≤ Z)])))
def ls16 (b r : Bool) (k l : List Int) (e : Bool) (m : Nat) (A q : List Int) : List Bool := op16 b r k l e m A q ++ tg16 r k e m
theorem cu_k (e1 : Bool) (x1 x2 x3 : V) (y : V) (bit : Int) : coE .no true false 9 (eV e1) (x1) (x2) (x3) y bit [] = some ([false == false], .bool false true) := by cases e1 <;> kernel_rfl
theorem cu_k2 (i : Nat) (k : List Int) (x1 x2 x3 : V) (y : V) (bit : Int) : coE .no true false 1 (.buf true .u8 i k) (x1) (x2) (x3) y bit [] = some ([decide (i < 9223372036854775808), !((i : Int) == 16), !((i : Int) == 16), !((i : Int) == 16), decide (i < 9223372036854775808), !((i : Int) == 16), !((i : Int) == 16), !((i : Int) == 32), !((i : Int) == 32), !((i : Int) == 32), !((i : Int) == 32), !((i : Int) == 32), false == false], .bool false true) := by kernel_rfl
theorem cu_n (r : Bool) (k : List Int) (e1 : Bool) (x2 x3 : V) (y : V) (bit : Int) : coE .no true false 9 (kV r k) (eV e1) (x2) (x3) y bit [] = some ([false == false], .bool false true) := by cases r <;> cases e1 <;> kernel_rfl
theorem cu_n2 (r : Bool) (k : List Int) (i : Nat) (l : List Int) (x2 x3 : V) (y : V) (bit : Int) : coE .no true false 2 (kV r k) (.buf true .u8 i l) (x2) (x3) y bit [] = some ([decide (i < 9223372036854775808), !((i : Int) == 12), !((i : Int) == 12), !((i : Int) == 12), !((i : Int) == 12), !((i : Int) == 12), false == false], .bool false true) := by cases r <;> kernel_rfl
theorem cu_a (r : Bool) (k l : List Int) (m : Nat) (a : List Int) (x3 : V) (y : V) (bit : Int) : coE .no true false 3 (kV r k) (.buf false .u8 12 l) (.buf true .u8 m a) (x3) y bit [] = some ([decide (m < 9223372036854775808), !decide ((m : Int) ≤ 200), !decide ((m : Int) ≤ 200), !decide ((m : Int) ≤ 200), !decide ((m : Int) ≤ 200), !decide ((m : Int) ≤ 200), false == false], .bool false true) := by cases r <;> kernel_rfl
theorem cu_p (r : Bool) (k l : List Int) (m : Nat) (a : List Int) (n : Nat) (p : List Int) (y : V) (bit : Int) : coE .no true false 9 (kV r k) (.buf false .u8 12 l) (.buf true .u8 m a) (.buf true .u8 n p) y bit [] = some ([decide (m < 9223372036854775808), decide ((m : Int) ≤ 200), decide ((m : Int) ≤ 200), decide ((m : Int) ≤ 200), decide (n < 9223372036854775808), decide ((m : Int) ≤ 200), decide ((m : Int) ≤ 200), decide ((n : Int) ≤ 300) == false], .bool false true) := by cases r <;> kernel_rfl
theorem cu_p2 (r : Bool) (k l : List Int) (e1 : Bool) (n : Nat) (p : List Int) (y : V) (bit : Int) : coE .no true false 9 (kV r k) (.buf false .u8 12 l) (eV e1) (.buf true .u8 n p) y bit [] = some ([decide (n < 9223372036854775808), decide ((n : Int) ≤ 300) == false], .bool false true) := by cases r <;> cases e1 <;> kernel_rfl
end Go.Proofs.Ytfmgodgakndjcaa
