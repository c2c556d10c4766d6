/- Arguments of a law that are structs of slices and numbers: opened. Own work. -/
import Derived.Test.YtfmgodgakndjcaaSEvPut
import Derived.Test.YtfmgodgakndjcaaSEvIn
import Derived.Test.YtfmgodgakndjcaaSWordsN
import Derived.Test.YtfmgodgakndjcaaRows
import Derived.ProofKit
import Derived.OpenShut
import Derived.Test.YtfmgodgakndjcaaSSuB
import Derived.Test.YtfmgodgakndjcaaSSuA
set_option linter.unusedSimpArgs false
set_option linter.unusedVariables false
set_option linter.unusedSectionVars false
namespace Go.Ev
set_option linter.unusedSectionVars false
variable [Tab]
open Go.ChangeShapes Go.WideShapes Go.ChangeAt Go.RowKit
theorem list6 {α : Type} : ∀ {l : List α}, l.length = 6 → ∃ a b c d e f, l = [a, b, c, d, e, f]
  | [a, b, c, d, e, f], _ => ⟨a, b, c, d, e, f, rfl⟩
section
variable {H : Type} {enc : TypeId × Value → H} {P : Program}
theorem struct_mix {W : World} {base : Nat} {t : TypeId} {n : Nat} {fs : Array Field} {v : Value} {d : DataW H} {ps : List MemPlace}
    (ht : P.underlying t = some (.struct fs)) (hn : fs.size = n) (hf : ∀ (i : Nat) (f : Field), fs[i]? = some f → f.offset = i ∧ P.cellsOf f.type = 1) (hct : P.cellsOf t = n)
    (hval : Value.okWide P W .any base t v) (hd : DataW.Trod enc P W 0 (fun _ => true) true t v d ps) (hsz : ∀ n ∈ d.weights P t, n ≤ reachBytes) :
    ∃ vs : List Value, vs.length = n ∧ v = .agg vs.toArray ∧ ∀ (i : Nat) (f : Field) (u : Value), fs[i]? = some f → vs[i]? = some u →
      (∀ e8 k, P.underlying f.type = some (.slice e8) → P.underlying e8 = some (.int k) → P.cellsOf e8 = 1 → P.bytesOf e8 = 1 → Nums W k reachBytes u) ∧
      (∀ k, P.underlying f.type = some (.int k) → ∃ x, u = .int k x ∧ inR k x = true) := by
  unfold Value.okWide at hval
  rw [ht] at hval
  obtain ⟨cs, rfl, hsz0, _⟩ := hval
  refine ⟨cs.toList, by simp [hsz0, hct], by simp, fun i f u hfi hu => ?_⟩
  obtain ⟨fuel, hd⟩ := hd
  have hcl : (Value.agg cs).cells.toList = cs.toList := rfl
  rw [hcl] at hd
  obtain ⟨xs, m, _, hx, hl, hlen, hg⟩ := DataW.trod_struct ht hd
  have hi : i < cs.toList.length := (List.getElem?_eq_some_iff.1 hu).1
  have hi' : i < fs.size := by rw [hn, ← hct, ← hl]; exact hi
  have hff : fs[i] = f := by
    have := Array.getElem?_eq_getElem hi'
    rw [hfi] at this
    exact (Option.some.inj this).symm
  obtain ⟨e2, e3⟩ := hf i f hfi
  have h1 := hg i f hfi
  rw [e2, e3, List.getElem?_eq_getElem (by rw [hlen]; exact hi')] at h1
  have hxi : i < xs.length := by rw [hlen]; exact hi'
  refine ⟨fun e8 k hs he hc hb => ?_, fun k hk => ?_⟩
  · obtain ⟨u', hu', hN⟩ := part_of hs he hc hi h1 (M := reachBytes) fun y z e => by
      have hd' := (Prod.mk.inj hx).1
      subst hd'
      have hm := hsz ((y.length + z.length) * P.bytesOf e8) (by
        simp only [DataW.weights, ht]
        refine DataW.weights_mem_each (j := i) (t := f.type) (d := .slice y z) ?_ ?_ _ ?_
        · rw [List.getElem?_map, Array.getElem?_toList, hfi]; rfl
        · rw [List.getElem?_map, List.getElem?_eq_getElem hxi]; simp only [Option.map_some, e]
        · simp [DataW.weights, hs])
      rw [hb] at hm
      omega
    rw [hu] at hu'
    cases hu'
    exact hN
  · have e : (cs.toList.drop i).take 1 = [u] := by
      rw [List.drop_eq_getElem_cons hi]
      have := List.getElem?_eq_getElem hi
      rw [hu] at this
      rw [← Option.some.inj this]; rfl
    rw [e] at h1
    obtain ⟨n', h2, _, hw⟩ := DataW.trod_int hk h1
    simp at h2
    exact ⟨n', h2, wf_inR' hw⟩
end
end Go.Ev
namespace Go.Proofs.Ytfmgodgakndjcaa
open Go.Ev
open Go.ChangeShapes Go.WideShapes Go.ChangeAt Go.RowKit
set_option maxRecDepth 100000
theorem own : ownKnob Try.prog.godebug = none := by kernel_rfl
theorem laidOut : laidOutB Try.prog = true := by kernel_rfl
end Go.Proofs.Ytfmgodgakndjcaa
namespace Go.Proofs.Ytfmgodgakndjcaa
open Go.Ev Go.Sh Go.Su
set_option maxRecDepth 100000
/-- Of fit: what stands behind its j-th test. -/
def qF (j : Nat) (f : FuncId) : Bool :=
  match Nat.ble 2000000000 f with
  | false => Nat.beq f 1000000000 || qD f
  | true => match j with
    | 0 => (match Nat.ble 4000000000 f with
      | false => !(Nat.ble 2000000008 f && Nat.ble f 2000000014)
      | true => !Nat.beq f 4000000015)
    | j => (match Nat.ble 4000000000 f with
      | false => !(Nat.ble (2000000011 + 6 * j) f && Nat.ble f (2000000014 + 6 * j))
      | true => !Nat.beq f (4000000015 + 6 * j))
noncomputable def hSf (t : Bool) (j : Nat) : CallH := fixC Try.prog (qF j) (deep Try.prog qD hss 100 7) 100 26 t hss
theorem hSf_ok (t : Bool) (j : Nat) : HOk Try.prog (hSf t j) := HOk.fix mixed noCount (hss_ok.deep mixed noCount 100 7) hss_ok 100 _ t
inductive S3 where | a | b | c
def sLen : S3 → Nat | .a => 16 | .b => 32 | .c => 32
def sKey (s : S3) (k : List Int) : V := match s with | .a => .buf false .u8 16 k | .b => .buf false .u8 32 k | .c => .buf false .u8 32 k
def sV (s : S3) : V := match s with | .a => .pl (.int false .i64 4865) | .b => .pl (.int false .i64 4866) | .c => .pl (.int false .i64 4867)
def eV (e : Bool) : V := match e with | true => .pl .nilslice | false => .empty
inductive K3 where | n | e | b
def gV (c : K3) (n : Nat) (l : List Int) : V := match c with | .n => .pl .nilslice | .e => .empty | .b => .buf true .u8 n l
noncomputable def snE (t : Bool) (j : Nat) (id K I A P : V) (N a b : Int) (ds : List Bool) : E AV :=
  res ((funcL Try.prog qV (deep Try.prog qD (hSf t j) 100 7) (fun _ _ => none) 200 7 ([.agg (cArgs 0 [id, K, I, A, P, .pl (.int true .u64 N)])] ++ [.int true .u64 a, .int true .u64 b]) (cMem [id, K, I, A, P, .pl (.int true .u64 N)])).go ds)
def klI (id : Int) : Int := match id == 4865 with
  | true => 16
  | false => (match id == 4866 with | true => (match id == 4866 with | true => 32 | false => 0) | false => (match id == 4867 with | true => 32 | false => 0))
def sL (s : S3) : Int := match s with | .a => 16 | .b => 32 | .c => 32
def aV (e : Bool) (m : Nat) : List Bool := match e with | true => [decide (0 + m ≤ m)] | false => []
def aO (s : S3) (e : Bool) (m : Nat) : List Bool := match e, s with | true, .c => [decide (m ≤ 140737488351232)] | true, .a => [decide (m < 9223372036854775808)] | true, .b => [decide (m < 9223372036854775808)] | false, _ => []
def aL (e : Bool) (m : Nat) (a : List Int) : List Int := match e with | true => (a.drop 0).take m | false => []
def ulS (s : S3) (k v A : List Int) (m : Nat) (p : List Int) (n : Nat) : List Int := match s with
  | .a => Go.Gc.sealB (Go.As.keyL 4 k) (Go.Gc.rds false) v A m p n
  | .b => Go.Gc.sealB (Go.As.keyL 8 k) (Go.Gc.rds true) v A m p n
  | .c => Go.Ch.sealC (Go.Ch.ini k v) A p
def utS (s : S3) (k v A : List Int) (m : Nat) : List Int := match s with
  | .a => Go.Gc.tagB (Go.As.keyL 4 k) (Go.Gc.rds false) v A m [] 0
  | .b => Go.Gc.tagB (Go.As.keyL 8 k) (Go.Gc.rds true) v A m [] 0
  | .c => Go.Ch.tagC (Go.Ch.ini k v) A []
def sdS (s : S3) (e f : Bool) (m n : Nat) : List Bool := aV e m ++ (aV f n ++ (aO s e m ++ (match f with | true => [decide (n ≤ 140737488351232)] | false => [])))
theorem su_i (id : Int) (e1 : Bool) (c1 c2 c3 : K3) (n1 n2 n3 : Nat) (l1 l2 l3 : List Int) (N a b : Int) : snE false 0 (.pl (.int true .i64 id)) (eV e1) (gV c1 n1 l1) (gV c2 n2 l2) (gV c3 n3 l3) N a b [] = some ([!decide (klI id > 0), !decide (klI id > 0), !decide (klI id > 0), !decide (klI id > 0), !decide (klI id > 0), !decide (klI id > 0), !decide (klI id > 0), !decide (klI id > 0), false == false], .bool false true) := by cases e1 <;> cases c1 <;> cases c2 <;> cases c3 <;> kernel_rfl
theorem su_i2 (id : Int) (i : Nat) (k : List Int) (c1 c2 c3 : K3) (n1 n2 n3 : Nat) (l1 l2 l3 : List Int) (N a b : Int) : snE false 0 (.pl (.int true .i64 id)) (.buf true .u8 i k) (gV c1 n1 l1) (gV c2 n2 l2) (gV c3 n3 l3) N a b [] = some ([!decide (klI id > 0), !decide (klI id > 0), !decide (klI id > 0), !decide (klI id > 0), !decide (klI id > 0), !decide (klI id > 0), !decide (klI id > 0), !decide (klI id > 0), false == false], .bool false true) := by cases c1 <;> cases c2 <;> cases c3 <;> kernel_rfl
theorem su_k (s : S3) (e1 : Bool) (c1 c2 c3 : K3) (n1 n2 n3 : Nat) (l1 l2 l3 : List Int) (N a b : Int) : snE false 9 (sV s) (eV e1) (gV c1 n1 l1) (gV c2 n2 l2) (gV c3 n3 l3) N a b [] = some ([false == false], .bool false true) := by cases s <;> cases e1 <;> cases c1 <;> cases c2 <;> cases c3 <;> kernel_rfl
theorem su_k2 (s : S3) (i : Nat) (k : List Int) (c1 c2 c3 : K3) (n1 n2 n3 : Nat) (l1 l2 l3 : List Int) (N a b : Int) : snE false 1 (sV s) (.buf true .u8 i k) (gV c1 n1 l1) (gV c2 n2 l2) (gV c3 n3 l3) N a b [] = some ([decide (i < 9223372036854775808), !((i : Int) == sL s), !((i : Int) == sL s), !((i : Int) == sL s), !((i : Int) == sL s), !((i : Int) == sL s), false == false], .bool false true) := by cases s <;> cases c1 <;> cases c2 <;> cases c3 <;> kernel_rfl
theorem su_n (s : S3) (k : List Int) (e1 : Bool) (c2 c3 : K3) (n2 n3 : Nat) (l2 l3 : List Int) (N a b : Int) : snE false 9 (sV s) (sKey s k) (eV e1) (gV c2 n2 l2) (gV c3 n3 l3) N a b [] = some ([false == false], .bool false true) := by cases s <;> cases e1 <;> cases c2 <;> cases c3 <;> kernel_rfl
theorem su_n2 (s : S3) (k : List Int) (i : Nat) (l : List Int) (c2 c3 : K3) (n2 n3 : Nat) (l2 l3 : List Int) (N a b : Int) : snE false 2 (sV s) (sKey s k) (.buf true .u8 i l) (gV c2 n2 l2) (gV c3 n3 l3) N a b [] = some ([decide (i < 9223372036854775808), !((i : Int) == 12), !((i : Int) == 12), !((i : Int) == 12), !((i : Int) == 12), !((i : Int) == 12), false == false], .bool false true) := by cases s <;> cases c2 <;> cases c3 <;> kernel_rfl
theorem su_a (s : S3) (k iv : List Int) (m : Nat) (y : List Int) (c3 : K3) (n3 : Nat) (l3 : List Int) (N a b : Int) : snE false 3 (sV s) (sKey s k) (.buf false .u8 12 iv) (.buf true .u8 m y) (gV c3 n3 l3) N a b [] = some ([decide (m < 9223372036854775808), !decide ((m : Int) ≤ 100), !decide ((m : Int) ≤ 100), !decide ((m : Int) ≤ 100), !decide ((m : Int) ≤ 100), !decide ((m : Int) ≤ 100), false == false], .bool false true) := by cases s <;> cases c3 <;> kernel_rfl
theorem su_p (s : S3) (k iv : List Int) (m : Nat) (y : List Int) (n : Nat) (p : List Int) (N a b : Int) : snE false 9 (sV s) (sKey s k) (.buf false .u8 12 iv) (.buf true .u8 m y) (.buf true .u8 n p) N a b [] = some ([decide (m < 9223372036854775808), decide ((m : Int) ≤ 100), decide ((m : Int) ≤ 100), decide ((m : Int) ≤ 100), decide (n < 9223372036854775808), decide ((m : Int) ≤ 100), decide ((m : Int) ≤ 100), decide ((n : Int) ≤ 300) == false], .bool false true) := by cases s <;> kernel_rfl
theorem su_p2 (s : S3) (k iv : List Int) (e1 : Bool) (n : Nat) (p : List Int) (N a b : Int) : snE false 9 (sV s) (sKey s k) (.buf false .u8 12 iv) (eV e1) (.buf true .u8 n p) N a b [] = some ([decide (n < 9223372036854775808), decide ((n : Int) ≤ 300) == false], .bool false true) := by cases s <;> cases e1 <;> kernel_rfl
end Go.Proofs.Ytfmgodgakndjcaa
