/- The package's tables hold what the rows list: for the laws of layer 10. Own work. -/
import Derived.Test.YthelmpjkkkhopaaDoorCards
import Derived.Test.YthelmpjkkkhopaaDoorTie
import Derived.Test.YthelmpjkkkhopaaDoorPMyC
import Derived.Test.YthelmpjkkkhopaaDoorPEvOne
import Derived.ProofKit
import Derived.OpenShut
import Derived.LaidMore
import Derived.Lay
import Derived.SevenTiedAt
import Derived.SizedLaws
import Derived.ChangeSlices
set_option linter.unusedSimpArgs false
set_option linter.unusedVariables false
set_option linter.unusedSectionVars false
namespace Go.Proofs.YthelmpjkkkhopaaDoor
open Go.Ev
open Go.ChangeShapes Go.WideShapes Go.ChangeAt Go.RowKit
set_option maxRecDepth 100000
theorem own : ownKnob Tryd.prog.godebug = none := by kernel_rfl
theorem laidOut : laidOutB Tryd.prog = true := by kernel_rfl
theorem tab_one {P : Program} {w : World} {n : String} {g t e fuel N : Nat} {cs : Array Value} {L : List Int} {p : List MemPlace} (hu : P.underlying t = some (.array N e)) (he : P.underlying e = some (.int .u64)) (c1 : P.cellsOf e = 1) (ct : P.cellsOf t = N)
    (hN : L.length = N) (hr : ∀ x ∈ L, inR .u64 x = true) (hg : P.globalNamed n = some g) (hv : w.var? P n = some cs)
    (hd : DataW.trod (fun _ => ()) P w 0 (fun _ => true) false fuel t cs.toList = some (.agg (L.map fun z => .lit (.int .u64 z)), p)) :
    ∃ (cs : Array Value) (t : TypeId) (fr : Nat × Nat), w.heap[g]? = some (.cells cs t fr) ∧ N ≤ cs.size ∧ CRep (fun _ => ⟨0, 0, 0⟩) (fun _ => False) (.ints .u64 (some N) L) (fun i => cs[i]?) := by
  obtain ⟨xs, m, _, ex, hcl, hl, hel⟩ := DataW.trod_array hu hd
  have hh : ∃ t' fr, w.heap[g]? = some (.cells cs t' fr) := by
    simp only [World.var?, hg, Option.bind_some] at hv
    split at hv
    · rename_i cs' t' fr' hc
      cases hv
      exact ⟨t', fr', hc⟩
    · cases hv
  obtain ⟨t', fr, hh⟩ := hh
  refine ⟨cs, t', fr, hh, by rw [ct] at hcl; simpa using Nat.le_of_eq hcl.symm, fun m' hm' => by cases hm'; exact hN, fun i x hx => ?_⟩
  obtain ⟨hi, hix⟩ := List.getElem?_eq_some_iff.1 hx
  have hE := hel i (by omega)
  rw [c1, Nat.mul_one, List.getElem?_eq_getElem (by omega)] at hE
  obtain ⟨z, e1, e2, _⟩ := DataW.trod_int he hE
  have e3 : (xs.map (·.1)) = L.map fun z => .lit (.int .u64 z) := (DataW.agg.inj (Prod.mk.inj ex).1).symm
  have e4 : (xs.map (·.1))[i]? = (L.map fun z => (DataW.lit (.int .u64 z) : DataW Unit))[i]? := by rw [e3]
  rw [List.getElem?_map, List.getElem?_map, List.getElem?_eq_getElem (by omega : i < xs.length), List.getElem?_eq_getElem hi, e2] at e4
  have hz : z = x := by
    simp only [Option.map_some, Option.some.injEq, DataW.lit.injEq, Lit.int.injEq, true_and] at e4
    rw [e4, hix]
  subst hz
  refine ⟨?_, hr z (by rw [← hix]; exact List.getElem_mem hi)⟩
  have : cs.toList[i]? = some (.int .u64 z) := by
    have h0 : ((cs.toList.drop i).take 1)[0]? = some (.int .u64 z) := by rw [e1]; rfl
    simpa using h0
  simpa using this
theorem arr_cells {P : Program} {w : World} {t e fuel N : Nat} {cs : List Value} {L : List Int} {d : DataW Unit} {p : List MemPlace} (hu : P.underlying t = some (.array N e)) (he : P.underlying e = some (.int .u64)) (c1 : P.cellsOf e = 1) (ct : P.cellsOf t = N)
    (hN : L.length = N) (hd : DataW.trod (fun _ => ()) P w 0 (fun _ => true) false fuel t cs = some (d, p)) (hdd : d = .agg (L.map fun z => .lit (.int .u64 z))) : ∀ (i : Nat) (x : Int), L[i]? = some x → cs[i]? = some (Value.int .u64 x) := by
  obtain ⟨xs, m, _, ex, hcl, hl, hel⟩ := DataW.trod_array hu hd
  intro i x hx
  obtain ⟨hi, hix⟩ := List.getElem?_eq_some_iff.1 hx
  have hE := hel i (by omega)
  rw [c1, Nat.mul_one, List.getElem?_eq_getElem (by omega)] at hE
  obtain ⟨z, e1, e2, _⟩ := DataW.trod_int he hE
  have e3 : (xs.map (·.1)) = L.map fun z => .lit (.int .u64 z) := (DataW.agg.inj ((Prod.mk.inj ex).1.symm.trans hdd))
  have e4 : (xs.map (·.1))[i]? = (L.map fun z => (DataW.lit (.int .u64 z) : DataW Unit))[i]? := by rw [e3]
  rw [List.getElem?_map, List.getElem?_map, List.getElem?_eq_getElem (by omega : i < xs.length), List.getElem?_eq_getElem hi, e2] at e4
  have hz : z = x := by
    simp only [Option.map_some, Option.some.injEq, DataW.lit.injEq, Lit.int.injEq, true_and] at e4
    rw [e4, hix]
  subst hz
  have h0 : ((cs.drop i).take 1)[0]? = some (Value.int .u64 z) := by rw [e1]; rfl
  simpa using h0
theorem part_cells {P : Program} {w : World} {e fuel : Nat} {cs : List Value} {L : List Int} {y : DataW Unit × List MemPlace} {f : Field} {o : Nat} (ho : f.offset = o) (hu : P.underlying f.type = some (.array 4 e)) (he : P.underlying e = some (.int .u64)) (c1 : P.cellsOf e = 1) (ct : P.cellsOf f.type = 4)
    (hN : L.length = 4) (hd : DataW.trod (fun _ => ()) P w 0 (fun _ => true) false fuel f.type ((cs.drop f.offset).take (P.cellsOf f.type)) = some y) (hdd : y.1 = .agg (L.map fun z => .lit (.int .u64 z))) : ∀ (i : Nat) (x : Int), L[i]? = some x → cs[o + i]? = some (Value.int .u64 x) := by
  intro i x hx
  obtain ⟨d, p⟩ := y
  have h := arr_cells hu he c1 ct hN hd hdd i x hx
  obtain ⟨hi, _⟩ := List.getElem?_eq_some_iff.1 hx
  rw [ct, ho, List.getElem?_take_of_lt (by omega), List.getElem?_drop] at h
  exact h
theorem tab_pt {P : Program} {w : World} {n : String} {g t e fuel : Nat} {cs : Array Value} {L0 L1 L2 L3 : List Int} {p : List MemPlace} {f0 f1 f2 f3 : Field} (hu : P.underlying t = some (.struct #[f0, f1, f2, f3])) (o0 : f0.offset = 0) (o1 : f1.offset = 4) (o2 : f2.offset = 8) (o3 : f3.offset = 12)
    (u0 : P.underlying f0.type = some (.array 4 e)) (u1 : P.underlying f1.type = some (.array 4 e)) (u2 : P.underlying f2.type = some (.array 4 e)) (u3 : P.underlying f3.type = some (.array 4 e)) (he : P.underlying e = some (.int .u64)) (c1 : P.cellsOf e = 1)
    (k0 : P.cellsOf f0.type = 4) (k1 : P.cellsOf f1.type = 4) (k2 : P.cellsOf f2.type = 4) (k3 : P.cellsOf f3.type = 4) (ct : P.cellsOf t = 16)
    (n0 : L0.length = 4) (n1 : L1.length = 4) (n2 : L2.length = 4) (n3 : L3.length = 4) (hr : ∀ x ∈ L0 ++ L1 ++ L2 ++ L3, inR .u64 x = true) (hg : P.globalNamed n = some g) (hv : w.var? P n = some cs)
    (hd : DataW.trod (fun _ => ()) P w 0 (fun _ => true) false fuel t cs.toList = some (.agg [.agg (L0.map fun z => .lit (.int .u64 z)), .agg (L1.map fun z => .lit (.int .u64 z)), .agg (L2.map fun z => .lit (.int .u64 z)), .agg (L3.map fun z => .lit (.int .u64 z))], p)) :
    ∃ (cs : Array Value) (t : TypeId) (fr : Nat × Nat), w.heap[g]? = some (.cells cs t fr) ∧ 16 ≤ cs.size ∧ CRep (fun _ => ⟨0, 0, 0⟩) (fun _ => False) (.ints .u64 (some 16) (L0 ++ L1 ++ L2 ++ L3)) (fun i => cs[i]?) := by
  obtain ⟨xs, m, _, ex, hcl, hl, hel⟩ := DataW.trod_struct hu hd
  have hh : ∃ t' fr, w.heap[g]? = some (.cells cs t' fr) := by
    simp only [World.var?, hg, Option.bind_some] at hv
    split at hv
    · rename_i cs' t' fr' hc
      cases hv
      exact ⟨t', fr', hc⟩
    · cases hv
  obtain ⟨t', fr, hh⟩ := hh
  match xs, hl with
  | [y0, y1, y2, y3], _ =>
    have ey := DataW.agg.inj (Prod.mk.inj ex).1
    simp only [List.map_cons, List.map_nil, List.cons.injEq, and_true] at ey
    obtain ⟨e0, e1, e2, e3⟩ := ey
    have h0 := part_cells o0 u0 he c1 k0 n0 (hel 0 f0 rfl) e0.symm
    have h1 := part_cells o1 u1 he c1 k1 n1 (hel 1 f1 rfl) e1.symm
    have h2 := part_cells o2 u2 he c1 k2 n2 (hel 2 f2 rfl) e2.symm
    have h3 := part_cells o3 u3 he c1 k3 n3 (hel 3 f3 rfl) e3.symm
    refine ⟨cs, t', fr, hh, by rw [ct] at hcl; simpa using Nat.le_of_eq hcl.symm, fun m' hm' => by cases hm'; simp [n0, n1, n2, n3], fun i x hx => ?_⟩
    obtain ⟨hi, hix⟩ := List.getElem?_eq_some_iff.1 hx
    refine ⟨?_, hr x (by rw [← hix]; exact List.getElem_mem hi)⟩
    show cs[i]? = some (Value.int .u64 x)
    have key : cs.toList[i]? = some (Value.int .u64 x) := by
      have hlen : (L0 ++ L1 ++ L2 ++ L3).length = 16 := by simp [n0, n1, n2, n3]
      have l2 : (L0 ++ L1 ++ L2).length = 12 := by simp [n0, n1, n2]
      have l1 : (L0 ++ L1).length = 8 := by simp [n0, n1]
      by_cases c3 : i < 12
      · rw [List.getElem?_append_left (by omega)] at hx
        by_cases c2 : i < 8
        · rw [List.getElem?_append_left (by omega)] at hx
          by_cases c0 : i < 4
          · rw [List.getElem?_append_left (by omega)] at hx
            have := h0 i x hx
            rwa [Nat.zero_add] at this
          · rw [List.getElem?_append_right (by omega), n0] at hx
            have := h1 (i - 4) x hx
            rwa [show 4 + (i - 4) = i by omega] at this
        · rw [List.getElem?_append_right (by omega), l1] at hx
          have := h2 (i - 8) x hx
          rwa [show 8 + (i - 8) = i by omega] at this
      · rw [List.getElem?_append_right (by omega), l2] at hx
        have := h3 (i - 12) x hx
        rwa [show 12 + (i - 12) = i by omega] at this
    simpa using key
theorem lay0_eq : (Rows.laid_cartouche_sha2_cubeRoots : DataW Unit) = .agg (cubeL.map fun z => .lit (.int .u64 z)) := by kernel_rfl
theorem lay1_eq : (Rows.laid_cartouche_sha2_squareRoots : DataW Unit) = .agg (squareL.map fun z => .lit (.int .u64 z)) := by kernel_rfl
theorem lay2_eq : (Rows.laid_cartouche_edwards_prime : DataW Unit) = .agg (primeL.map fun z => .lit (.int .u64 z)) := by kernel_rfl
theorem lay3_eq : (Rows.laid_cartouche_edwards_order : DataW Unit) = .agg (orderL.map fun z => .lit (.int .u64 z)) := by kernel_rfl
theorem lay4_eq : (Rows.laid_cartouche_edwards_d : DataW Unit) = .agg (dL.map fun z => .lit (.int .u64 z)) := by kernel_rfl
theorem lay5_eq : (Rows.laid_cartouche_edwards_twiceD : DataW Unit) = .agg (twoDL.map fun z => .lit (.int .u64 z)) := by kernel_rfl
theorem lay6_eq : (Rows.laid_cartouche_edwards_eighth : DataW Unit) = .agg (eighthL.map fun z => .lit (.int .u64 z)) := by kernel_rfl
theorem lay7_eq : (Rows.laid_cartouche_edwards_imaginary : DataW Unit) = .agg (imagL.map fun z => .lit (.int .u64 z)) := by kernel_rfl
def bs0 : List Int := baseL.take 4
def bs1 : List Int := (baseL.drop 4).take 4
def bs2 : List Int := (baseL.drop 8).take 4
def bs3 : List Int := (baseL.drop 12).take 4
theorem lay8_eq : (Rows.laid_cartouche_edwards_base : DataW Unit) = .agg [.agg (bs0.map fun z => .lit (.int .u64 z)), .agg (bs1.map fun z => .lit (.int .u64 z)), .agg (bs2.map fun z => .lit (.int .u64 z)), .agg (bs3.map fun z => .lit (.int .u64 z))] := by kernel_rfl
theorem bs_all : bs0 ++ bs1 ++ bs2 ++ bs3 = baseL := by decide +kernel
theorem trep_of {W : World} (h : laidMetH Tryd.prog Rows.edwardsBackRow.laid W) : TRep W := by
  rw [MakeChecks.laidMetH_plain _ _ _ (by kernel_rfl)] at h
  obtain ⟨ps, ⟨g0, t0, cs0, f0, p0, q0, hg0, ht0, hv0, hd0, ⟨g1, t1, cs1, f1, p1, q1, hg1, ht1, hv1, hd1, ⟨g2, t2, cs2, f2, p2, q2, hg2, ht2, hv2, hd2, ⟨g3, t3, cs3, f3, p3, q3, hg3, ht3, hv3, hd3, ⟨g4, t4, cs4, f4, p4, q4, hg4, ht4, hv4, hd4, ⟨g5, t5, cs5, f5, p5, q5, hg5, ht5, hv5, hd5, ⟨g6, t6, cs6, f6, p6, q6, hg6, ht6, hv6, hd6, ⟨g7, t7, cs7, f7, p7, q7, hg7, ht7, hv7, hd7, ⟨g8, t8, cs8, f8, p8, q8, hg8, ht8, hv8, hd8, _, _⟩, _⟩, _⟩, _⟩, _⟩, _⟩, _⟩, _⟩, _⟩, _, _⟩ := h
  have hT0 : (Tryd.prog.globals[8]?).map (·.type) = some 113 := by kernel_rfl
  obtain rfl : g0 = 8 := Option.some.inj (hg0.symm.trans (by kernel_rfl))
  obtain rfl := Option.some.inj (hT0.symm.trans ht0)
  rw [lay0_eq] at hd0
  have k0 := tab_one (L := cubeL) Tryd.underlying113 Tryd.underlying31 (by kernel_rfl) (by kernel_rfl) (by kernel_rfl) (List.all_eq_true.1 (by kernel_rfl : (cubeL.all fun x => inR .u64 x) = true)) hg0 hv0 hd0
  have hT1 : (Tryd.prog.globals[7]?).map (·.type) = some 101 := by kernel_rfl
  obtain rfl : g1 = 7 := Option.some.inj (hg1.symm.trans (by kernel_rfl))
  obtain rfl := Option.some.inj (hT1.symm.trans ht1)
  rw [lay1_eq] at hd1
  have k1 := tab_one (L := squareL) Tryd.underlying101 Tryd.underlying31 (by kernel_rfl) (by kernel_rfl) (by kernel_rfl) (List.all_eq_true.1 (by kernel_rfl : (squareL.all fun x => inR .u64 x) = true)) hg1 hv1 hd1
  have hT2 : (Tryd.prog.globals[2]?).map (·.type) = some 33 := by kernel_rfl
  obtain rfl : g2 = 2 := Option.some.inj (hg2.symm.trans (by kernel_rfl))
  obtain rfl := Option.some.inj (hT2.symm.trans ht2)
  rw [lay2_eq] at hd2
  have k2 := tab_one (L := primeL) Tryd.underlying33 Tryd.underlying31 (by kernel_rfl) (by kernel_rfl) (by kernel_rfl) (List.all_eq_true.1 (by kernel_rfl : (primeL.all fun x => inR .u64 x) = true)) hg2 hv2 hd2
  have hT3 : (Tryd.prog.globals[1]?).map (·.type) = some 33 := by kernel_rfl
  obtain rfl : g3 = 1 := Option.some.inj (hg3.symm.trans (by kernel_rfl))
  obtain rfl := Option.some.inj (hT3.symm.trans ht3)
  rw [lay3_eq] at hd3
  have k3 := tab_one (L := orderL) Tryd.underlying33 Tryd.underlying31 (by kernel_rfl) (by kernel_rfl) (by kernel_rfl) (List.all_eq_true.1 (by kernel_rfl : (orderL.all fun x => inR .u64 x) = true)) hg3 hv3 hd3
  have hT4 : (Tryd.prog.globals[4]?).map (·.type) = some 33 := by kernel_rfl
  obtain rfl : g4 = 4 := Option.some.inj (hg4.symm.trans (by kernel_rfl))
  obtain rfl := Option.some.inj (hT4.symm.trans ht4)
  rw [lay4_eq] at hd4
  have k4 := tab_one (L := dL) Tryd.underlying33 Tryd.underlying31 (by kernel_rfl) (by kernel_rfl) (by kernel_rfl) (List.all_eq_true.1 (by kernel_rfl : (dL.all fun x => inR .u64 x) = true)) hg4 hv4 hd4
  have hT5 : (Tryd.prog.globals[3]?).map (·.type) = some 33 := by kernel_rfl
  obtain rfl : g5 = 3 := Option.some.inj (hg5.symm.trans (by kernel_rfl))
  obtain rfl := Option.some.inj (hT5.symm.trans ht5)
  rw [lay5_eq] at hd5
  have k5 := tab_one (L := twoDL) Tryd.underlying33 Tryd.underlying31 (by kernel_rfl) (by kernel_rfl) (by kernel_rfl) (List.all_eq_true.1 (by kernel_rfl : (twoDL.all fun x => inR .u64 x) = true)) hg5 hv5 hd5
  have hT6 : (Tryd.prog.globals[5]?).map (·.type) = some 33 := by kernel_rfl
  obtain rfl : g6 = 5 := Option.some.inj (hg6.symm.trans (by kernel_rfl))
  obtain rfl := Option.some.inj (hT6.symm.trans ht6)
  rw [lay6_eq] at hd6
  have k6 := tab_one (L := eighthL) Tryd.underlying33 Tryd.underlying31 (by kernel_rfl) (by kernel_rfl) (by kernel_rfl) (List.all_eq_true.1 (by kernel_rfl : (eighthL.all fun x => inR .u64 x) = true)) hg6 hv6 hd6
  have hT7 : (Tryd.prog.globals[6]?).map (·.type) = some 33 := by kernel_rfl
  obtain rfl : g7 = 6 := Option.some.inj (hg7.symm.trans (by kernel_rfl))
  obtain rfl := Option.some.inj (hT7.symm.trans ht7)
  rw [lay7_eq] at hd7
  have k7 := tab_one (L := imagL) Tryd.underlying33 Tryd.underlying31 (by kernel_rfl) (by kernel_rfl) (by kernel_rfl) (List.all_eq_true.1 (by kernel_rfl : (imagL.all fun x => inR .u64 x) = true)) hg7 hv7 hd7
  have hT8 : (Tryd.prog.globals[0]?).map (·.type) = some 54 := by kernel_rfl
  obtain rfl : g8 = 0 := Option.some.inj (hg8.symm.trans (by kernel_rfl))
  obtain rfl := Option.some.inj (hT8.symm.trans ht8)
  rw [lay8_eq] at hd8
  have k8 := tab_pt (e := 31) Tryd.underlying54 rfl rfl rfl rfl (by kernel_rfl) (by kernel_rfl) (by kernel_rfl) (by kernel_rfl) Tryd.underlying31 (by kernel_rfl) (by kernel_rfl) (by kernel_rfl) (by kernel_rfl) (by kernel_rfl) (by kernel_rfl) (by kernel_rfl) (by kernel_rfl) (by kernel_rfl) (by kernel_rfl) (List.all_eq_true.1 (by kernel_rfl : ((bs0 ++ bs1 ++ bs2 ++ bs3).all fun x => inR .u64 x) = true)) hg8 hv8 hd8
  rw [bs_all] at k8
  intro G c hG
  have hG' : (match Nat.beq G 8 with
    | true => some (Cells.ints .u64 (some 80) cubeL)
    | false => match Nat.beq G 7 with
    | true => some (Cells.ints .u64 (some 16) squareL)
    | false => match Nat.beq G 2 with
    | true => some (Cells.ints .u64 (some 4) primeL)
    | false => match Nat.beq G 1 with
    | true => some (Cells.ints .u64 (some 4) orderL)
    | false => match Nat.beq G 4 with
    | true => some (Cells.ints .u64 (some 4) dL)
    | false => match Nat.beq G 3 with
    | true => some (Cells.ints .u64 (some 4) twoDL)
    | false => match Nat.beq G 5 with
    | true => some (Cells.ints .u64 (some 4) eighthL)
    | false => match Nat.beq G 6 with
    | true => some (Cells.ints .u64 (some 4) imagL)
    | false => match Nat.beq G 0 with
    | true => some (Cells.ints .u64 (some 16) baseL)
    | false => none) = some c := hG
  split at hG'
  · rename_i hb
    obtain rfl := Nat.eq_of_beq_eq_true hb
    cases hG'
    exact k0
  · skip
    split at hG'
    · rename_i hb
      obtain rfl := Nat.eq_of_beq_eq_true hb
      cases hG'
      exact k1
    · skip
      split at hG'
      · rename_i hb
        obtain rfl := Nat.eq_of_beq_eq_true hb
        cases hG'
        exact k2
      · skip
        split at hG'
        · rename_i hb
          obtain rfl := Nat.eq_of_beq_eq_true hb
          cases hG'
          exact k3
        · skip
          split at hG'
          · rename_i hb
            obtain rfl := Nat.eq_of_beq_eq_true hb
            cases hG'
            exact k4
          · skip
            split at hG'
            · rename_i hb
              obtain rfl := Nat.eq_of_beq_eq_true hb
              cases hG'
              exact k5
            · skip
              split at hG'
              · rename_i hb
                obtain rfl := Nat.eq_of_beq_eq_true hb
                cases hG'
                exact k6
              · skip
                split at hG'
                · rename_i hb
                  obtain rfl := Nat.eq_of_beq_eq_true hb
                  cases hG'
                  exact k7
                · skip
                  split at hG'
                  · rename_i hb
                    obtain rfl := Nat.eq_of_beq_eq_true hb
                    cases hG'
                    exact k8
                  · cases hG'
end Go.Proofs.YthelmpjkkkhopaaDoor
namespace Go.Ev
set_option linter.unusedSectionVars false
variable [Tab]
open Go.ChangeShapes Go.WideShapes Go.ChangeAt Go.RowKit
section
variable {P : Program} {q : FuncId → Bool} {H : CallH} {Λ : LoopH}
end
end Go.Ev
