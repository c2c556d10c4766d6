/- Arguments of a law that are put together of slices: opened, and a law's call off them. Own work. -/
import Derived.Test.YtjhjhhibfojpiaaTEvInN
import Derived.SizedLaws
set_option linter.unusedSimpArgs false
set_option linter.unusedVariables false
set_option linter.unusedSectionVars false
namespace Go.Ev
set_option linter.unusedSectionVars false
variable [Tab]
open Go.ChangeShapes Go.WideShapes Go.ChangeAt Go.RowKit
/-- Bytes that came in. -/
def Nums (W : World) (k : IntKind) (M : Nat) (v : Value) : Prop :=
  v = .slice none 0 0 ∨ ∃ (a : Addr) (len cap : Nat) (zs : List Int), v = .slice (some a) len cap ∧ len ≤ cap ∧ cap ≤ M ∧ zs.length = cap ∧ (∀ i, i < zs.length → W.cell? (a.add i) = some (.int k (zs.getD i 0))) ∧ ∀ n ∈ zs, inR k n = true
section
variable {P : Program} {q : FuncId → Bool} {H : CallH} {Λ : LoopH}
/-- A law's call, its arguments put together of views. -/
theorem law_of_goP (hm : P.follows .mixedOrders = true) (hH : HOk P H) {n : Nat} {g : FuncId} {xs : List V} {args : List AV} {avs : List Value} (hΛ : ∀ fn c, P.funcs[g]? = some fn → fn.body = some c → LOkN xs.length P c Λ) {s b : Bool} {o : List Bool} (ds : List Bool)
    (h : res ((funcL P q H Λ n g args (cMem xs)).go ds) = some (o, .bool s b)) (ho : Paid o) (hb : b = true) {vs : List Value} {W : World} (hv : VOks W 0 xs vs) (hput : ∀ (ρ : Nat → Loc3) (N : Nat → Prop), Reps ρ N (cArgs 0 xs) vs → Reps ρ N args avs) (hw : noW xs = true := by rfl) (hT : TRep W := by first | assumption | exact ⟨fun G c h => (by cases h), trivial⟩) :
    Calls P g avs.toArray W (fun e w' => e = .returned (.bool true) ∧ Below W.heap.size W w') := by
  subst hb
  obtain ⟨ρ, ha, hi⟩ := hv.start hw hT
  have hcm : (cMem xs).length = xs.length := by simp [cMem]
  obtain ⟨_, hc⟩ := funcN_sound hm hH hΛ (Nat.le_of_eq hcm) (go_sound (sat_res h ho)) (hput _ _ ha) hi
  refine hc.mono fun e w' ⟨u, h1, x', m2, ρ', k1, k2, k3, k4, k5⟩ => ?_
  simp only at k1
  rw [k1] at k2
  cases k2
  exact ⟨h1, ⟨k3.os, k3.tape, k3.output, k3.size, fun k hk => k3.frame k hk (fun h => h)⟩⟩
end
section
variable {H : Type} {enc : TypeId × Value → H} {P : Program}
theorem nums_cell {W : World} {st e8 : TypeId} {k : IntKind} {M : Nat} (hs : P.underlying st = some (.slice e8)) (he : P.underlying e8 = some (.int k)) (hc : P.cellsOf e8 = 1)
    {u : Value} {fuel : Nat} {x : DataW H × List MemPlace} (h : DataW.trod enc P W 0 (fun _ => true) true fuel st [u] = some x) (hz : ∀ y z : List (DataW H), x.1 = .slice y z → y.length + z.length ≤ M) : Nums W k M u := by
  rcases open_ints hs he hc h with ⟨h1, _⟩ | ⟨a, len, cap, zs, h1, h2, h3, h4, h5, h6, h7, h8⟩
  · left; simpa using h1
  · right
    have h5' : zs.length = cap := by simpa using h5
    have h9 := hz _ _ (congrArg Prod.fst h6)
    simp only [lits, List.length_map, List.length_take, List.length_drop] at h9
    exact ⟨a, len, cap, zs, by simpa using h1, h3, by omega, h5', h7, fun n hn => wf_inR' (h8 n hn)⟩
/-- Bytes that came in, as long as may be. -/
theorem nums_sized {W : World} {base : Nat} {t e : TypeId} {k : IntKind} {v : Value} {d : DataW H} {ps : List MemPlace} (ht : P.underlying t = some (.slice e)) (he : P.underlying e = some (.int k)) (hc : P.cellsOf e = 1) (hb : P.bytesOf e = 1)
    (hval : Value.okWide P W .any base t v) (hd : DataW.Trod enc P W 0 (fun _ => true) true t v d ps) (hsz : ∀ n ∈ d.weights P t, n ≤ reachBytes) : Nums W k reachBytes v := by
  obtain ⟨a0, l0, c0, rfl⟩ := okWide_slice ht hval
  obtain ⟨fuel, hf⟩ := hd
  have hcs : (Value.slice a0 l0 c0).cells.toList = [.slice a0 l0 c0] := rfl
  rw [hcs] at hf
  refine nums_cell ht he hc hf fun y z e => ?_
  simp only at e
  subst e
  have := hsz ((y.length + z.length) * P.bytesOf e) (by simp [DataW.weights, ht])
  rw [hb] at this
  omega
/-- What a claim's frame says of an argument's size. -/
theorem arg_sized {ts : List TypeId} {ds : List (DataW H)} (h : (DataW.weightsEach P ts ds).all (· ≤ reachBytes) = true) {j : Nat} {t : TypeId} {d : DataW H} (ht : ts[j]? = some t) (hd : ds[j]? = some d) : ∀ n ∈ d.weights P t, n ≤ reachBytes := fun n hn => by
  have := List.all_eq_true.1 h n (DataW.weights_mem_each ht hd n hn)
  simpa using this
end
end Go.Ev
