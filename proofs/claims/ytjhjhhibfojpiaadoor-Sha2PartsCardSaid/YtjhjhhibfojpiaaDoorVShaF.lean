/- The package's tables hold what the rows list: for the laws of layer 3. Own work. -/
import Derived.Test.YtjhjhhibfojpiaaDoorCards
import Derived.Test.YtjhjhhibfojpiaaDoorTie
import Derived.Test.YtjhjhhibfojpiaaDoorVShaM
import Derived.Test.YtjhjhhibfojpiaaDoorVEvLawN
import Derived.ProofKit
import Derived.OpenShut
import Derived.LaidMore
import Derived.Lay
import Derived.SevenTiedAt
import Derived.SizedLaws
import Derived.ChangeSlices
import Derived.Test.YtjhjhhibfojpiaaDoorVShaE
set_option linter.unusedSimpArgs false
set_option linter.unusedVariables false
set_option linter.unusedSectionVars false
namespace Go.Proofs.YtjhjhhibfojpiaaDoor
variable [Go.Ev.RowTab]
open Go.Ev
open Go.ChangeShapes Go.WideShapes Go.ChangeAt Go.RowKit
set_option maxRecDepth 100000
theorem own : ownKnob Tryd.prog.godebug = none := by kernel_rfl
theorem laidOut : laidOutB Tryd.prog = true := by kernel_rfl
theorem tab_one {P : Program} {w : World} {n : String} {g t e fuel N : Nat} {cs : Array Value} {L : List Int} {p : List MemPlace} (hu : P.underlying t = some (.array N e)) (he : P.underlying e = some (.int .u64)) (c1 : P.cellsOf e = 1) (ct : P.cellsOf t = N)
    (hN : L.length = N) (hr : ∀ x ∈ L, inR .u64 x = true) (hg : P.globalNamed n = some g) (hv : w.var? P n = some cs)
    (hd : DataW.trod (fun _ => ()) P w 0 (fun _ => true) false fuel t cs.toList = some (.agg (L.map fun z => .lit (.int .u64 z)), p)) :
    ∃ (cs : Array Value) (t : TypeId) (fr : Nat × Nat), w.heap[g]? = some (.cells cs t fr) ∧ N ≤ cs.size ∧ CRep (fun _ => ⟨0, 0, 0⟩) (fun _ => False) (.ints .u64 (some N) L) (fun i => cs[i]?) := by
  obtain ⟨xs, m, _, ex, hcl, hl, hel⟩ := DataW.trod_array hu hd
  have hh : ∃ t' fr, w.heap[g]? = some (.cells cs t' fr) := by
    simp only [World.var?, hg, Option.bind_some] at hv
    split at hv
    · rename_i cs' t' fr' hc
      cases hv
      exact ⟨t', fr', hc⟩
    · cases hv
  obtain ⟨t', fr, hh⟩ := hh
  refine ⟨cs, t', fr, hh, by rw [ct] at hcl; simpa using Nat.le_of_eq hcl.symm, fun m' hm' => by cases hm'; exact hN, fun i x hx => ?_⟩
  obtain ⟨hi, hix⟩ := List.getElem?_eq_some_iff.1 hx
  have hE := hel i (by omega)
  rw [c1, Nat.mul_one, List.getElem?_eq_getElem (by omega)] at hE
  obtain ⟨z, e1, e2, _⟩ := DataW.trod_int he hE
  have e3 : (xs.map (·.1)) = L.map fun z => .lit (.int .u64 z) := (DataW.agg.inj (Prod.mk.inj ex).1).symm
  have e4 : (xs.map (·.1))[i]? = (L.map fun z => (DataW.lit (.int .u64 z) : DataW Unit))[i]? := by rw [e3]
  rw [List.getElem?_map, List.getElem?_map, List.getElem?_eq_getElem (by omega : i < xs.length), List.getElem?_eq_getElem hi, e2] at e4
  have hz : z = x := by
    simp only [Option.map_some, Option.some.injEq, DataW.lit.injEq, Lit.int.injEq, true_and] at e4
    rw [e4, hix]
  subst hz
  refine ⟨?_, hr z (by rw [← hix]; exact List.getElem_mem hi)⟩
  have : cs.toList[i]? = some (.int .u64 z) := by
    have h0 : ((cs.toList.drop i).take 1)[0]? = some (.int .u64 z) := by rw [e1]; rfl
    simpa using h0
  simpa using this
theorem cube_eq : (Rows.laid_cartouche_sha2_cubeRoots : DataW Unit) = .agg (cubeL.map fun z => .lit (.int .u64 z)) := by kernel_rfl
theorem square_eq : (Rows.laid_cartouche_sha2_squareRoots : DataW Unit) = .agg (squareL.map fun z => .lit (.int .u64 z)) := by kernel_rfl
theorem trep_of {W : World} (h : laidMetH Tryd.prog Rows.sha2PartsRow.laid W) (hrw : rowsFact W) : TRep W := by
  refine ⟨?_, hrw⟩
  rw [MakeChecks.laidMetH_plain _ _ _ (by kernel_rfl)] at h
  obtain ⟨ps, ⟨g0, t0, cs0, f0, p0, q0, hg0, ht0, hv0, hd0, ⟨g1, t1, cs1, f1, p1, q1, hg1, ht1, hv1, hd1, _, _⟩, _⟩, _, _⟩ := h
  have hT0 : (Tryd.prog.globals[1]?).map (·.type) = some 65 := by kernel_rfl
  have hT1 : (Tryd.prog.globals[0]?).map (·.type) = some 57 := by kernel_rfl
  obtain rfl : g0 = 1 := Option.some.inj (hg0.symm.trans (by kernel_rfl))
  obtain rfl : g1 = 0 := Option.some.inj (hg1.symm.trans (by kernel_rfl))
  obtain rfl := Option.some.inj (hT0.symm.trans ht0)
  obtain rfl := Option.some.inj (hT1.symm.trans ht1)
  rw [cube_eq] at hd0
  rw [square_eq] at hd1
  have k0 := tab_one (L := cubeL) Tryd.underlying65 Tryd.underlying50 (by kernel_rfl) (by kernel_rfl) (by kernel_rfl) (List.all_eq_true.1 (by kernel_rfl : (cubeL.all fun x => inR .u64 x) = true)) hg0 hv0 hd0
  have k1 := tab_one (L := squareL) Tryd.underlying57 Tryd.underlying50 (by kernel_rfl) (by kernel_rfl) (by kernel_rfl) (List.all_eq_true.1 (by kernel_rfl : (squareL.all fun x => inR .u64 x) = true)) hg1 hv1 hd1
  intro G c hG
  have hG' : (match Nat.beq G 1 with
    | true => some (Cells.ints .u64 (some 80) cubeL)
    | false => match Nat.beq G 0 with
      | true => some (Cells.ints .u64 (some 16) squareL)
      | false => none) = some c := hG
  split at hG'
  · rename_i hb
    obtain rfl := Nat.eq_of_beq_eq_true hb
    cases hG'
    exact k0
  · split at hG'
    · rename_i hb
      obtain rfl := Nat.eq_of_beq_eq_true hb
      cases hG'
      exact k1
    · cases hG'
end Go.Proofs.YtjhjhhibfojpiaaDoor
namespace Go.Sh
open Go.Ev
theorem stW_ok {w N B : Nat} : ∀ {l ws op : List Int} {c : Int}, ws.length = 8 → (∀ x ∈ ws, Wd w x) → 0 ≤ c ∧ c < 2 ^ 64 →
    (stW w N B ws op c l).1.length = 8 ∧ (∀ x ∈ (stW w N B ws op c l).1, Wd w x) ∧ 0 ≤ (stW w N B ws op c l).2.2 ∧ (stW w N B ws op c l).2.2 < 2 ^ 64
  | [], ws, op, c, h1, h2, h3 => ⟨h1, h2, h3⟩
  | x :: l, ws, op, c, h1, h2, h3 => by
    have e : stW w N B ws op c (x :: l) = stW w N B (byteS w N B (ws, op, c) x).1 (byteS w N B (ws, op, c) x).2.1 (byteS w N B (ws, op, c) x).2.2 l := rfl
    have hc : 0 ≤ (c + 1) % 2 ^ 64 ∧ (c + 1) % 2 ^ 64 < 2 ^ 64 := ⟨by omega, by omega⟩
    rw [e]
    unfold byteS
    split
    · have hb := block_ok (w := w) (N := N) (l := op.set (c % (B : Int)).toNat x) h1 h2
      exact stW_ok (l := l) hb.1 hb.2 hc
    · exact stW_ok (l := l) h1 h2 hc
end Go.Sh
namespace Go.Proofs.YtjhjhhibfojpiaaDoor
variable [Go.Ev.RowTab]
open Go.Ev Go.Sh
set_option maxRecDepth 100000
def qA : FuncId → Bool := fun f => qS f || Nat.beq f 1000000000
theorem sound_eval : resAll (funcA Tryd.prog qA hS6 100 8 [] []) = some (true, .bool false true) := by kernel_rfl
def soundS : List AV → E AV
  | [] => some ([], .bool false true)
  | _ => none
theorem sound_ok {args : List AV} {o : List Bool} {v : AV} (h : soundS args = some (o, v)) : PureCall Tryd.prog 8 args v := by
  unfold soundS at h
  split at h
  · cases h
    exact pure_of_all mixed noCount hS6_ok (by kernel_rfl) sound_eval fun h => by cases h; exact .bool _ _
  · cases h
def sizS : List AV → E AV
  | [.int true .i64 k] => some ([!decide (k = 256), !decide (k = 384), !decide (k = 512)], .int false .i64 0)
  | _ => none
theorem size_eval (k : Int) : res ((funcA Tryd.prog qS hs6 100 10 [.int true .i64 k] []).go [false, false, false]) = some ([!decide (k = 256), !decide (k = 384), !decide (k = 512)], .int false .i64 0) := by kernel_rfl
theorem block_eval (k : Int) : res ((funcA Tryd.prog qS hs6 100 11 [.int true .i64 k] []).go [false, false, false]) = some ([!decide (k = 256), !decide (k = 384), !decide (k = 512)], .int false .i64 0) := by kernel_rfl
theorem size_ok {args : List AV} {o : List Bool} {v : AV} (h : sizS args = some (o, v)) (ho : Paid o) : PureCall Tryd.prog 10 args v := by
  unfold sizS at h
  split at h
  · cases h
    exact pure_of_go mixed noCount hs6_ok [false, false, false] rfl (size_eval _) ho rfl rfl
  · cases h
theorem blockz_ok {args : List AV} {o : List Bool} {v : AV} (h : sizS args = some (o, v)) (ho : Paid o) : PureCall Tryd.prog 11 args v := by
  unfold sizS at h
  split at h
  · cases h
    exact pure_of_go mixed noCount hs6_ok [false, false, false] rfl (block_eval _) ho rfl rfl
  · cases h
def hs7 : CallH := withC 8 soundS (withC 10 sizS (withC 11 sizS hs6))
theorem hs7_ok : HOk Tryd.prog hs7 := ((hs6_ok.withC fun _ _ _ h ho => blockz_ok h ho).withC fun _ _ _ h ho => size_ok h ho).withC fun _ _ _ h _ => sound_ok h
noncomputable def hS7 : CallH := deep Tryd.prog qS hs7 100 3
theorem hS7_ok : HOk Tryd.prog hS7 := hs7_ok.deep mixed noCount 100 3
theorem beg256_wd : ∀ x ∈ beg256, Wd 32 x := all32_wd (by kernel_rfl)
theorem end256_ok {l : List Int} {n : Nat} (h : l.length = n) : all32 (wrEnd256 (wrI beg256 Z128 0 ((l.drop 0).take n) n)).1 = true ∧ decide (0 ≤ (wrEnd256 (wrI beg256 Z128 0 ((l.drop 0).take n) n)).2.2 ∧ (wrEnd256 (wrI beg256 Z128 0 ((l.drop 0).take n) n)).2.2 < 18446744073709551616) = true := by
  rw [wrEnd256_all h]
  have k := stW_ok (w := 32) (N := 64) (B := 64) (l := l) (op := Z128) (c := 0) (show beg256.length = 8 by rfl) beg256_wd ⟨by omega, by omega⟩
  exact ⟨all32_of k.2.1, decide_eq_true ⟨k.2.2.1, by have := k.2.2.2; omega⟩⟩
theorem beg384_wd : ∀ x ∈ beg384, Wd 64 x := all64_wd (by kernel_rfl)
theorem end384_ok {l : List Int} {n : Nat} (h : l.length = n) : all64 (wrEnd384 (wrI beg384 Z128 0 ((l.drop 0).take n) n)).1 = true ∧ decide (0 ≤ (wrEnd384 (wrI beg384 Z128 0 ((l.drop 0).take n) n)).2.2 ∧ (wrEnd384 (wrI beg384 Z128 0 ((l.drop 0).take n) n)).2.2 < 18446744073709551616) = true := by
  rw [wrEnd384_all h]
  have k := stW_ok (w := 64) (N := 80) (B := 128) (l := l) (op := Z128) (c := 0) (show beg384.length = 8 by rfl) beg384_wd ⟨by omega, by omega⟩
  exact ⟨all64_of k.2.1, decide_eq_true ⟨k.2.2.1, by have := k.2.2.2; omega⟩⟩
theorem beg512_wd : ∀ x ∈ beg512, Wd 64 x := all64_wd (by kernel_rfl)
theorem end512_ok {l : List Int} {n : Nat} (h : l.length = n) : all64 (wrEnd512 (wrI beg512 Z128 0 ((l.drop 0).take n) n)).1 = true ∧ decide (0 ≤ (wrEnd512 (wrI beg512 Z128 0 ((l.drop 0).take n) n)).2.2 ∧ (wrEnd512 (wrI beg512 Z128 0 ((l.drop 0).take n) n)).2.2 < 18446744073709551616) = true := by
  rw [wrEnd512_all h]
  have k := stW_ok (w := 64) (N := 80) (B := 128) (l := l) (op := Z128) (c := 0) (show beg512.length = 8 by rfl) beg512_wd ⟨by omega, by omega⟩
  exact ⟨all64_of k.2.1, decide_eq_true ⟨k.2.2.1, by have := k.2.2.2; omega⟩⟩
end Go.Proofs.YtjhjhhibfojpiaaDoor
