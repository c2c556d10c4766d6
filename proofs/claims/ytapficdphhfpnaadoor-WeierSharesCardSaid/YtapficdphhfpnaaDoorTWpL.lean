/- The package's tables hold what the rows list: for the laws of layer 11. Own work. -/
import Derived.Test.YtapficdphhfpnaaDoorCards
import Derived.Test.YtapficdphhfpnaaDoorTie
import Derived.Test.YtapficdphhfpnaaDoorTWpB
import Derived.Test.YtapficdphhfpnaaDoorTEvOne
import Derived.ProofKit
import Derived.OpenShut
import Derived.LaidMore
import Derived.Lay
import Derived.SevenTiedAt
import Derived.SizedLaws
import Derived.ChangeSlices
set_option linter.unusedSimpArgs false
set_option linter.unusedVariables false
set_option linter.unusedSectionVars false
namespace Go.Proofs.YtapficdphhfpnaaDoor
open Go.Ev
open Go.ChangeShapes Go.WideShapes Go.ChangeAt Go.RowKit
set_option maxRecDepth 100000
theorem own : ownKnob Tryd.prog.godebug = none := by kernel_rfl
theorem laidOut : laidOutB Tryd.prog = true := by kernel_rfl
theorem tab_one {P : Program} {w : World} {n : String} {g t e fuel N : Nat} {cs : Array Value} {L : List Int} {p : List MemPlace} (hu : P.underlying t = some (.array N e)) (he : P.underlying e = some (.int .u64)) (c1 : P.cellsOf e = 1) (ct : P.cellsOf t = N)
    (hN : L.length = N) (hr : ∀ x ∈ L, inR .u64 x = true) (hg : P.globalNamed n = some g) (hv : w.var? P n = some cs)
    (hd : DataW.trod (fun _ => ()) P w 0 (fun _ => true) false fuel t cs.toList = some (.agg (L.map fun z => .lit (.int .u64 z)), p)) :
    ∃ (cs : Array Value) (t : TypeId) (fr : Nat × Nat), w.heap[g]? = some (.cells cs t fr) ∧ N ≤ cs.size ∧ CRep (fun _ => ⟨0, 0, 0⟩) (fun _ => False) (.ints .u64 (some N) L) (fun i => cs[i]?) := by
  obtain ⟨xs, m, _, ex, hcl, hl, hel⟩ := DataW.trod_array hu hd
  have hh : ∃ t' fr, w.heap[g]? = some (.cells cs t' fr) := by
    simp only [World.var?, hg, Option.bind_some] at hv
    split at hv
    · rename_i cs' t' fr' hc
      cases hv
      exact ⟨t', fr', hc⟩
    · cases hv
  obtain ⟨t', fr, hh⟩ := hh
  refine ⟨cs, t', fr, hh, by rw [ct] at hcl; simpa using Nat.le_of_eq hcl.symm, fun m' hm' => by cases hm'; exact hN, fun i x hx => ?_⟩
  obtain ⟨hi, hix⟩ := List.getElem?_eq_some_iff.1 hx
  have hE := hel i (by omega)
  rw [c1, Nat.mul_one, List.getElem?_eq_getElem (by omega)] at hE
  obtain ⟨z, e1, e2, _⟩ := DataW.trod_int he hE
  have e3 : (xs.map (·.1)) = L.map fun z => .lit (.int .u64 z) := (DataW.agg.inj (Prod.mk.inj ex).1).symm
  have e4 : (xs.map (·.1))[i]? = (L.map fun z => (DataW.lit (.int .u64 z) : DataW Unit))[i]? := by rw [e3]
  rw [List.getElem?_map, List.getElem?_map, List.getElem?_eq_getElem (by omega : i < xs.length), List.getElem?_eq_getElem hi, e2] at e4
  have hz : z = x := by
    simp only [Option.map_some, Option.some.injEq, DataW.lit.injEq, Lit.int.injEq, true_and] at e4
    rw [e4, hix]
  subst hz
  refine ⟨?_, hr z (by rw [← hix]; exact List.getElem_mem hi)⟩
  have : cs.toList[i]? = some (.int .u64 z) := by
    have h0 : ((cs.toList.drop i).take 1)[0]? = some (.int .u64 z) := by rw [e1]; rfl
    simpa using h0
  simpa using this
theorem arr_cells {P : Program} {w : World} {t e fuel N : Nat} {cs : List Value} {L : List Int} {d : DataW Unit} {p : List MemPlace} (hu : P.underlying t = some (.array N e)) (he : P.underlying e = some (.int .u64)) (c1 : P.cellsOf e = 1) (ct : P.cellsOf t = N)
    (hN : L.length = N) (hd : DataW.trod (fun _ => ()) P w 0 (fun _ => true) false fuel t cs = some (d, p)) (hdd : d = .agg (L.map fun z => .lit (.int .u64 z))) : ∀ (i : Nat) (x : Int), L[i]? = some x → cs[i]? = some (Value.int .u64 x) := by
  obtain ⟨xs, m, _, ex, hcl, hl, hel⟩ := DataW.trod_array hu hd
  intro i x hx
  obtain ⟨hi, hix⟩ := List.getElem?_eq_some_iff.1 hx
  have hE := hel i (by omega)
  rw [c1, Nat.mul_one, List.getElem?_eq_getElem (by omega)] at hE
  obtain ⟨z, e1, e2, _⟩ := DataW.trod_int he hE
  have e3 : (xs.map (·.1)) = L.map fun z => .lit (.int .u64 z) := (DataW.agg.inj ((Prod.mk.inj ex).1.symm.trans hdd))
  have e4 : (xs.map (·.1))[i]? = (L.map fun z => (DataW.lit (.int .u64 z) : DataW Unit))[i]? := by rw [e3]
  rw [List.getElem?_map, List.getElem?_map, List.getElem?_eq_getElem (by omega : i < xs.length), List.getElem?_eq_getElem hi, e2] at e4
  have hz : z = x := by
    simp only [Option.map_some, Option.some.injEq, DataW.lit.injEq, Lit.int.injEq, true_and] at e4
    rw [e4, hix]
  subst hz
  have h0 : ((cs.drop i).take 1)[0]? = some (Value.int .u64 z) := by rw [e1]; rfl
  simpa using h0
theorem part_cells {P : Program} {w : World} {e fuel : Nat} {cs : List Value} {L : List Int} {y : DataW Unit × List MemPlace} {f : Field} {o : Nat} (ho : f.offset = o) (hu : P.underlying f.type = some (.array 4 e)) (he : P.underlying e = some (.int .u64)) (c1 : P.cellsOf e = 1) (ct : P.cellsOf f.type = 4)
    (hN : L.length = 4) (hd : DataW.trod (fun _ => ()) P w 0 (fun _ => true) false fuel f.type ((cs.drop f.offset).take (P.cellsOf f.type)) = some y) (hdd : y.1 = .agg (L.map fun z => .lit (.int .u64 z))) : ∀ (i : Nat) (x : Int), L[i]? = some x → cs[o + i]? = some (Value.int .u64 x) := by
  intro i x hx
  obtain ⟨d, p⟩ := y
  have h := arr_cells hu he c1 ct hN hd hdd i x hx
  obtain ⟨hi, _⟩ := List.getElem?_eq_some_iff.1 hx
  rw [ct, ho, List.getElem?_take_of_lt (by omega), List.getElem?_drop] at h
  exact h
theorem tab_pt {P : Program} {w : World} {n : String} {g t e fuel : Nat} {cs : Array Value} {L0 L1 : List Int} {b : Bool} {p : List MemPlace} {f0 f1 f2 : Field} (hu : P.underlying t = some (.struct #[f0, f1, f2])) (o0 : f0.offset = 0) (o1 : f1.offset = 4) (o2 : f2.offset = 8)
    (u0 : P.underlying f0.type = some (.array 4 e)) (u1 : P.underlying f1.type = some (.array 4 e)) (u2 : P.underlying f2.type = some .bool) (he : P.underlying e = some (.int .u64)) (c1 : P.cellsOf e = 1)
    (k0 : P.cellsOf f0.type = 4) (k1 : P.cellsOf f1.type = 4) (k2 : P.cellsOf f2.type = 1) (ct : P.cellsOf t = 9)
    (n0 : L0.length = 4) (n1 : L1.length = 4) (hr : ∀ x ∈ L0 ++ L1, inR .u64 x = true) (hg : P.globalNamed n = some g) (hv : w.var? P n = some cs)
    (hd : DataW.trod (fun _ => ()) P w 0 (fun _ => true) false fuel t cs.toList = some (.agg [.agg (L0.map fun z => .lit (.int .u64 z)), .agg (L1.map fun z => .lit (.int .u64 z)), .lit (.bool b)], p)) :
    ∃ (cs : Array Value) (t : TypeId) (fr : Nat × Nat), w.heap[g]? = some (.cells cs t fr) ∧ 9 ≤ cs.size ∧ CRep (fun _ => ⟨0, 0, 0⟩) (fun _ => False) (.vals ((L0.map fun z => AV.int true .u64 z) ++ (L1.map fun z => AV.int true .u64 z) ++ [.bool true b])) (fun i => cs[i]?) := by
  obtain ⟨xs, m, _, ex, hcl, hl, hel⟩ := DataW.trod_struct hu hd
  have hh : ∃ t' fr, w.heap[g]? = some (.cells cs t' fr) := by
    simp only [World.var?, hg, Option.bind_some] at hv
    split at hv
    · rename_i cs' t' fr' hc
      cases hv
      exact ⟨t', fr', hc⟩
    · cases hv
  obtain ⟨t', fr, hh⟩ := hh
  match xs, hl with
  | [y0, y1, y2], _ =>
    have ey := DataW.agg.inj (Prod.mk.inj ex).1
    simp only [List.map_cons, List.map_nil, List.cons.injEq, and_true] at ey
    obtain ⟨e0, e1, e2⟩ := ey
    have h0 := part_cells o0 u0 he c1 k0 n0 (hel 0 f0 rfl) e0.symm
    have h1 := part_cells o1 u1 he c1 k1 n1 (hel 1 f1 rfl) e1.symm
    have h2 := hel 2 f2 rfl
    have h2' : cs[8]? = some (Value.bool b) := by
      obtain ⟨b', hc', hb'⟩ := DataW.trod_bool u2 h2
      rw [hb'] at e2
      have eb : b' = b := by
        simp only [DataW.lit.injEq, Lit.bool.injEq] at e2
        exact e2.symm
      subst eb
      rw [k2, o2] at hc'
      have h9 : ((cs.toList.drop 8).take 1)[0]? = some (Value.bool b') := by rw [hc']; rfl
      simpa using h9
    refine ⟨cs, t', fr, hh, by rw [ct] at hcl; simpa using Nat.le_of_eq hcl.symm, fun i x hx => ?_⟩
    have ll : ((L0.map fun z => AV.int true .u64 z) ++ (L1.map fun z => AV.int true .u64 z)).length = 8 := by simp [n0, n1]
    have key : ∀ (z : Int), z ∈ L0 ++ L1 → cs[i]? = some (Value.int .u64 z) → x = .int true .u64 z → ∃ v, cs[i]? = some v ∧ Rep (fun _ => ⟨0, 0, 0⟩) (fun _ => False) x v := fun z hz hc hx => ⟨_, hc, by rw [hx]; exact .int _ _ _ (hr z hz)⟩
    by_cases c2 : i < 8
    · rw [List.getElem?_append_left (by omega)] at hx
      by_cases c0 : i < 4
      · rw [List.getElem?_append_left (by simpa [n0] using c0), List.getElem?_map] at hx
        cases hz : L0[i]? with
        | none => rw [hz] at hx; cases hx
        | some z =>
          rw [hz] at hx
          have hc := h0 i z hz
          rw [Nat.zero_add] at hc
          exact key z (List.mem_append_left _ (List.mem_of_getElem? hz)) (by simpa using hc) (Option.some.inj hx).symm
      · rw [List.getElem?_append_right (by simp [n0]; omega), List.length_map, n0, List.getElem?_map] at hx
        cases hz : L1[i - 4]? with
        | none => rw [hz] at hx; cases hx
        | some z =>
          rw [hz] at hx
          have hc := h1 (i - 4) z hz
          rw [show 4 + (i - 4) = i by omega] at hc
          exact key z (List.mem_append_right _ (List.mem_of_getElem? hz)) (by simpa using hc) (Option.some.inj hx).symm
    · rw [List.getElem?_append_right (by omega), ll] at hx
      by_cases c8 : i = 8
      · subst c8
        cases hx
        exact ⟨_, h2', .bool _ _⟩
      · obtain ⟨k, hk⟩ : ∃ k, i - 8 = k + 1 := ⟨i - 9, by omega⟩
        rw [hk] at hx
        simp at hx
theorem lay0_eq : (Rows.laid_cartouche_weier_prime : DataW Unit) = .agg (primeL.map fun z => .lit (.int .u64 z)) := by kernel_rfl
theorem lay1_eq : (Rows.laid_cartouche_weier_order : DataW Unit) = .agg (orderL.map fun z => .lit (.int .u64 z)) := by kernel_rfl
theorem lay2_eq : (Rows.laid_cartouche_weier_curveB : DataW Unit) = .agg (curveL.map fun z => .lit (.int .u64 z)) := by kernel_rfl
theorem lay3_eq : (Rows.laid_cartouche_weier_base : DataW Unit) = .agg [.agg (baseX.map fun z => .lit (.int .u64 z)), .agg (baseY.map fun z => .lit (.int .u64 z)), .lit (.bool false)] := by kernel_rfl
theorem trep_of {W : World} (h : laidMetH Tryd.prog Rows.weierLawsRow.laid W) : TRep W := by
  rw [MakeChecks.laidMetH_plain _ _ _ (by kernel_rfl)] at h
  obtain ⟨ps, ⟨g0, t0, cs0, f0, p0, q0, hg0, ht0, hv0, hd0, ⟨g1, t1, cs1, f1, p1, q1, hg1, ht1, hv1, hd1, ⟨g2, t2, cs2, f2, p2, q2, hg2, ht2, hv2, hd2, ⟨g3, t3, cs3, f3, p3, q3, hg3, ht3, hv3, hd3, _, _⟩, _⟩, _⟩, _⟩, _, _⟩ := h
  have hT0 : (Tryd.prog.globals[1]?).map (·.type) = some 24 := by kernel_rfl
  obtain rfl : g0 = 1 := Option.some.inj (hg0.symm.trans (by kernel_rfl))
  obtain rfl := Option.some.inj (hT0.symm.trans ht0)
  rw [lay0_eq] at hd0
  have k0 := tab_one (L := primeL) Tryd.underlying24 Tryd.underlying22 (by kernel_rfl) (by kernel_rfl) (by kernel_rfl) (List.all_eq_true.1 (by kernel_rfl : (primeL.all fun x => inR .u64 x) = true)) hg0 hv0 hd0
  have hT1 : (Tryd.prog.globals[2]?).map (·.type) = some 24 := by kernel_rfl
  obtain rfl : g1 = 2 := Option.some.inj (hg1.symm.trans (by kernel_rfl))
  obtain rfl := Option.some.inj (hT1.symm.trans ht1)
  rw [lay1_eq] at hd1
  have k1 := tab_one (L := orderL) Tryd.underlying24 Tryd.underlying22 (by kernel_rfl) (by kernel_rfl) (by kernel_rfl) (List.all_eq_true.1 (by kernel_rfl : (orderL.all fun x => inR .u64 x) = true)) hg1 hv1 hd1
  have hT2 : (Tryd.prog.globals[3]?).map (·.type) = some 24 := by kernel_rfl
  obtain rfl : g2 = 3 := Option.some.inj (hg2.symm.trans (by kernel_rfl))
  obtain rfl := Option.some.inj (hT2.symm.trans ht2)
  rw [lay2_eq] at hd2
  have k2 := tab_one (L := curveL) Tryd.underlying24 Tryd.underlying22 (by kernel_rfl) (by kernel_rfl) (by kernel_rfl) (List.all_eq_true.1 (by kernel_rfl : (curveL.all fun x => inR .u64 x) = true)) hg2 hv2 hd2
  have hT3 : (Tryd.prog.globals[0]?).map (·.type) = some 31 := by kernel_rfl
  obtain rfl : g3 = 0 := Option.some.inj (hg3.symm.trans (by kernel_rfl))
  obtain rfl := Option.some.inj (hT3.symm.trans ht3)
  rw [lay3_eq] at hd3
  have k3 := tab_pt (e := 22) Tryd.underlying31 rfl rfl rfl (by kernel_rfl) (by kernel_rfl) (by kernel_rfl) Tryd.underlying22 (by kernel_rfl) (by kernel_rfl) (by kernel_rfl) (by kernel_rfl) (by kernel_rfl) (by kernel_rfl) (by kernel_rfl) (List.all_eq_true.1 (by kernel_rfl : ((baseX ++ baseY).all fun x => inR .u64 x) = true)) hg3 hv3 hd3
  intro G c hG
  have hG' : (match Nat.beq G 1 with
    | true => some (Cells.ints .u64 (some 4) primeL)
    | false => match Nat.beq G 2 with
    | true => some (Cells.ints .u64 (some 4) orderL)
    | false => match Nat.beq G 3 with
    | true => some (Cells.ints .u64 (some 4) curveL)
    | false => match Nat.beq G 0 with
    | true => some (Cells.vals baseC)
    | false => none) = some c := hG
  split at hG'
  · rename_i hb
    obtain rfl := Nat.eq_of_beq_eq_true hb
    cases hG'
    exact k0
  · skip
    split at hG'
    · rename_i hb
      obtain rfl := Nat.eq_of_beq_eq_true hb
      cases hG'
      exact k1
    · skip
      split at hG'
      · rename_i hb
        obtain rfl := Nat.eq_of_beq_eq_true hb
        cases hG'
        exact k2
      · skip
        split at hG'
        · rename_i hb
          obtain rfl := Nat.eq_of_beq_eq_true hb
          cases hG'
          exact k3
        · cases hG'
end Go.Proofs.YtapficdphhfpnaaDoor
