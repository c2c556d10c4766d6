/- The package's tables hold what the rows list: for the laws of layer 3. Own work. -/
import Derived.Test.YtclkicobnmjpoaaDoorCards
import Derived.Test.YtclkicobnmjpoaaDoorTie
import Derived.Test.YtclkicobnmjpoaaDoorShaT
import Derived.Test.YtclkicobnmjpoaaDoorEvLawV
import Derived.ProofKit
import Derived.OpenShut
import Derived.LaidMore
import Derived.Lay
import Derived.SevenTiedAt
import Derived.SizedLaws
import Derived.ChangeSlices
namespace Go.Proofs.YtclkicobnmjpoaaDoor
open Go.Ev
open Go.ChangeShapes Go.WideShapes Go.ChangeAt Go.RowKit
set_option maxRecDepth 100000
theorem nums_open2 {H : Type} {enc : TypeId × Value → H} {P : Program} {W : World} {base : Nat} {t e : TypeId} {k : IntKind} {v : Value} {d : DataW H} {ps : List MemPlace} (ht : P.underlying t = some (.slice e)) (he : P.underlying e = some (.int k)) (hc : P.cellsOf e = 1)
    (hval : Value.okWide P W .any base t v) (hd : DataW.Trod enc P W 0 (fun _ => true) true t v d ps) (hsz : ∀ x y : List (DataW H), d = .slice x y → x.length + y.length ≤ reachBytes) :
    v = .slice none 0 0 ∨ ∃ (a : Addr) (len cap : Nat) (zs : List Int), v = .slice (some a) len cap ∧ len ≤ cap ∧ cap ≤ 140737488351232 ∧ zs.length = cap ∧ (∀ i, i < zs.length → W.cell? (a.add i) = some (.int k (zs.getD i 0))) ∧ ∀ n ∈ zs, inR k n = true := by
  obtain ⟨a0, l0, c0, rfl⟩ := Ev.okWide_slice ht hval
  obtain ⟨fuel, hf⟩ := hd
  have hcs : (Value.slice a0 l0 c0).cells.toList = [.slice a0 l0 c0] := rfl
  rw [hcs] at hf
  rcases open_ints ht he hc hf with ⟨h1, _⟩ | ⟨a, len, cap, zs, h1, h2, h3, h4, h5, h6, h7, h8⟩
  · left
    simpa using h1
  · right
    have h5' : zs.length = cap := by simpa using h5
    have h9 := hsz _ _ (Prod.mk.inj h6).1
    simp only [lits, List.length_map, List.length_take, List.length_drop, reachBytes] at h9
    refine ⟨a, len, cap, zs, by simpa using h1, h3, by omega, h5', h7, fun n hn => wf_inR' (h8 n hn)⟩
theorem own : ownKnob Tryd.prog.godebug = none := by kernel_rfl
theorem laidOut : laidOutB Tryd.prog = true := by kernel_rfl
theorem tab_one {P : Program} {w : World} {n : String} {g t e fuel N : Nat} {cs : Array Value} {L : List Int} {p : List MemPlace} (hu : P.underlying t = some (.array N e)) (he : P.underlying e = some (.int .u64)) (c1 : P.cellsOf e = 1) (ct : P.cellsOf t = N)
    (hN : L.length = N) (hr : ∀ x ∈ L, inR .u64 x = true) (hg : P.globalNamed n = some g) (hv : w.var? P n = some cs)
    (hd : DataW.trod (fun _ => ()) P w 0 (fun _ => true) false fuel t cs.toList = some (.agg (L.map fun z => .lit (.int .u64 z)), p)) :
    ∃ (cs : Array Value) (t : TypeId) (fr : Nat × Nat), w.heap[g]? = some (.cells cs t fr) ∧ N ≤ cs.size ∧ CRep (fun _ => ⟨0, 0, 0⟩) (fun _ => False) (.ints .u64 (some N) L) (fun i => cs[i]?) := by
  obtain ⟨xs, m, _, ex, hcl, hl, hel⟩ := DataW.trod_array hu hd
  have hh : ∃ t' fr, w.heap[g]? = some (.cells cs t' fr) := by
    simp only [World.var?, hg, Option.bind_some] at hv
    split at hv
    · rename_i cs' t' fr' hc
      cases hv
      exact ⟨t', fr', hc⟩
    · cases hv
  obtain ⟨t', fr, hh⟩ := hh
  refine ⟨cs, t', fr, hh, by rw [ct] at hcl; simpa using Nat.le_of_eq hcl.symm, fun m' hm' => by cases hm'; exact hN, fun i x hx => ?_⟩
  obtain ⟨hi, hix⟩ := List.getElem?_eq_some_iff.1 hx
  have hE := hel i (by omega)
  rw [c1, Nat.mul_one, List.getElem?_eq_getElem (by omega)] at hE
  obtain ⟨z, e1, e2, _⟩ := DataW.trod_int he hE
  have e3 : (xs.map (·.1)) = L.map fun z => .lit (.int .u64 z) := (DataW.agg.inj (Prod.mk.inj ex).1).symm
  have e4 : (xs.map (·.1))[i]? = (L.map fun z => (DataW.lit (.int .u64 z) : DataW Unit))[i]? := by rw [e3]
  rw [List.getElem?_map, List.getElem?_map, List.getElem?_eq_getElem (by omega : i < xs.length), List.getElem?_eq_getElem hi, e2] at e4
  have hz : z = x := by
    simp only [Option.map_some, Option.some.injEq, DataW.lit.injEq, Lit.int.injEq, true_and] at e4
    rw [e4, hix]
  subst hz
  refine ⟨?_, hr z (by rw [← hix]; exact List.getElem_mem hi)⟩
  have : cs.toList[i]? = some (.int .u64 z) := by
    have h0 : ((cs.toList.drop i).take 1)[0]? = some (.int .u64 z) := by rw [e1]; rfl
    simpa using h0
  simpa using this
theorem cube_eq : (Rows.laid_cartouche_sha2_cubeRoots : DataW Unit) = .agg (cubeL.map fun z => .lit (.int .u64 z)) := by kernel_rfl
theorem square_eq : (Rows.laid_cartouche_sha2_squareRoots : DataW Unit) = .agg (squareL.map fun z => .lit (.int .u64 z)) := by kernel_rfl
theorem trep_of {W : World} (h : laidMetH Tryd.prog Rows.sha2SumsRow.laid W) : TRep W := by
  rw [MakeChecks.laidMetH_plain _ _ _ (by kernel_rfl)] at h
  obtain ⟨ps, ⟨g0, t0, cs0, f0, p0, q0, hg0, ht0, hv0, hd0, ⟨g1, t1, cs1, f1, p1, q1, hg1, ht1, hv1, hd1, _, _⟩, _⟩, _, _⟩ := h
  have hT0 : (Tryd.prog.globals[1]?).map (·.type) = some 67 := by kernel_rfl
  have hT1 : (Tryd.prog.globals[0]?).map (·.type) = some 52 := by kernel_rfl
  obtain rfl : g0 = 1 := Option.some.inj (hg0.symm.trans (by kernel_rfl))
  obtain rfl : g1 = 0 := Option.some.inj (hg1.symm.trans (by kernel_rfl))
  obtain rfl := Option.some.inj (hT0.symm.trans ht0)
  obtain rfl := Option.some.inj (hT1.symm.trans ht1)
  rw [cube_eq] at hd0
  rw [square_eq] at hd1
  have k0 := tab_one (L := cubeL) Tryd.underlying67 Tryd.underlying51 (by kernel_rfl) (by kernel_rfl) (by kernel_rfl) (List.all_eq_true.1 (by kernel_rfl : (cubeL.all fun x => inR .u64 x) = true)) hg0 hv0 hd0
  have k1 := tab_one (L := squareL) Tryd.underlying52 Tryd.underlying51 (by kernel_rfl) (by kernel_rfl) (by kernel_rfl) (List.all_eq_true.1 (by kernel_rfl : (squareL.all fun x => inR .u64 x) = true)) hg1 hv1 hd1
  intro G c hG
  have hG' : (match Nat.beq G 1 with
    | true => some (Cells.ints .u64 (some 80) cubeL)
    | false => match Nat.beq G 0 with
      | true => some (Cells.ints .u64 (some 16) squareL)
      | false => none) = some c := hG
  split at hG'
  · rename_i hb
    obtain rfl := Nat.eq_of_beq_eq_true hb
    cases hG'
    exact k0
  · split at hG'
    · rename_i hb
      obtain rfl := Nat.eq_of_beq_eq_true hb
      cases hG'
      exact k1
    · cases hG'
end Go.Proofs.YtclkicobnmjpoaaDoor
