/- Contracts out of what is seen of a call's end: its value, and one block of numbers. Own work. -/
import Derived.Test.YtljndahfackolaaDoorQEvRen
import Derived.Test.YtljndahfackolaaDoorQEvLawV
import Derived.Test.YtljndahfackolaaDoorCards
import Derived.Test.YtljndahfackolaaDoorTie
import Derived.Test.YtljndahfackolaaDoorQShaM
import Derived.ProofKit
import Derived.OpenShut
import Derived.LaidMore
import Derived.Lay
import Derived.SevenTiedAt
import Derived.SizedLaws
import Derived.ChangeSlices
set_option linter.unusedSimpArgs false
set_option linter.unusedVariables false
set_option linter.unusedSectionVars false
namespace Go.Ev
set_option linter.unusedSectionVars false
variable [Tab]
def seeV (j : Nat) (T : Tree (AV × Mem)) : Option (List Bool × AV × Option (Option Blk)) := match T.flat with | some (o, (v, m)) => some (o, v, m[j]?) | none => none
/-- The names below k stay, the next one is j. -/
def oneR (k j n : Nat) : Nat := match Nat.beq n k with | true => j | false => n
theorem oneR_fix (k j : Nat) : fixB (oneR k j) k = true := List.all_eq_true.2 fun i hi => by
  have := List.mem_range.1 hi
  unfold oneR
  cases hb : Nat.beq i k with
  | true => have := Nat.eq_of_beq_eq_true hb; omega
  | false => exact Nat.beq_refl i
theorem oneR_inj {k j : Nat} (h : k ≤ j) : injB (oneR k j) (k + 1) = true := List.all_eq_true.2 fun a ha => List.all_eq_true.2 fun b hb => by
  have h1 := List.mem_range.1 ha
  have h2 := List.mem_range.1 hb
  have hn : ∀ {x y : Nat}, x ≠ y → Nat.beq x y = false := fun {x y} hxy => by
    cases h : Nat.beq x y with
    | true => exact absurd (Nat.eq_of_beq_eq_true h) hxy
    | false => rfl
  by_cases hab : a = b
  · subst hab; rw [show Nat.beq a a = true from Nat.beq_refl a]; rfl
  · have : oneR k j a ≠ oneR k j b := by
      unfold oneR
      by_cases hak : a = k
      · subst hak
        rw [show Nat.beq a a = true from Nat.beq_refl a, hn (Ne.symm hab)]
        simp only
        omega
      · rw [hn hak]
        by_cases hbk : b = k
        · subst hbk
          rw [show Nat.beq b b = true from Nat.beq_refl b]
          simp only
          omega
        · rw [hn hbk]; exact hab
    rw [hn this]
    cases Nat.beq a b <;> rfl
section
variable {P : Program} {q : FuncId → Bool} {H : CallH} {Λ : LoopH}
theorem viewN_one (hm : P.follows .mixedOrders = true) (hng : noCount P = true) (hH : HOk P H) {n : Nat} {g : FuncId} {xs : List V} (hΛ : ∀ fn c, P.funcs[g]? = some fn → fn.body = some c → LOkN xs.length P c Λ) {o : List Bool} {v v' : AV} {k : IntKind} {sz : Option Nat} {l : List Int} (ds : List Bool) (j : Nat)
    (h : seeV j ((funcL P q H Λ n g (cArgs 0 xs) (cMem xs)).go ds) = some (o, v', some (some ⟨true, .ints k sz l⟩))) (ho : Paid o) (hj : xs.length ≤ j) (hv : v' = renA (oneR xs.length j) (upA xs.length v)) (hba : bndA (xs.length + 1) (upA xs.length v) = true) :
    ViewCall P g xs v [some ⟨true, .ints k sz l⟩] := by
  unfold seeV at h
  split at h
  · rename_i o' v2 m' hf
    simp only [Option.some.injEq, Prod.mk.injEq] at h
    obtain ⟨h1, h2, h3⟩ := h
    subst h1 h2
    have one : oneR xs.length j (0 + xs.length) = j := by
      unfold oneR
      rw [show Nat.beq (0 + xs.length) xs.length = true by rw [Nat.zero_add]; exact Nat.beq_refl _]
    have pulls : ∀ (a b : Nat) (M : Mem), Pulls (oneR xs.length j) m' (b + a) M → Pulls (oneR xs.length j) m' b (List.replicate a none ++ M) := by
      intro a
      induction a with
      | zero => intro b M h; exact h
      | succ a ih =>
        intro b M h
        rw [List.replicate_succ, List.cons_append]
        exact ih (b + 1) M (by rw [show b + 1 + a = b + (a + 1) by omega]; exact h)
    have bnd : ∀ (a k' : Nat) (M : Mem), bndM k' M = true → bndM k' (List.replicate a none ++ M) = true := by
      intro a
      induction a with
      | zero => intro k' M h; exact h
      | succ a ih => intro k' M h; rw [List.replicate_succ, List.cons_append]; exact ih k' M h
    intro ρ vs w ha hi
    exact viewN_of_goR (bs := [some ⟨true, .ints k sz l⟩]) hm hng hH hΛ ds (oneR xs.length j) hf ho hv hba (pulls _ 0 _ ⟨⟨_, by rw [one]; exact h3, .refl _⟩, trivial⟩) (bnd _ _ _ rfl) (oneR_inj hj) (oneR_fix _ _) ha hi
  · cases h
end
/-- An empty slice, whatever its room. -/
theorem VOk.emptyC {W : World} {j : Nat} {a : Addr} {cap : Nat} {k : IntKind} {zs : List Int} (hz : zs.length = cap) (hc : ∀ i, i < zs.length → W.cell? (a.add i) = some (.int k (zs.getD i 0))) : ∃ L, VOk W j L .empty (.slice (some a) 0 cap) := by
  by_cases h0 : cap = 0
  · subst h0; exact VOk.empty
  · have h1 := hc 0 (by omega)
    obtain ⟨b, off, spot⟩ := a
    unfold World.cell? at h1
    split at h1
    case h_2 => cases h1
    rename_i cs t fr hh
    split at h1
    · cases h1
    rename_i hsp
    have hsp' : spot = none := by
      cases spot with
      | none => rfl
      | some x => simp [Addr.add] at hsp
    subst hsp'
    refine ⟨⟨b, off, cap⟩, fun ρ N hρ hN => .slice false j 0 0 none 1 cap _ hN (by intro c h; cases h) (Nat.zero_le _) ?_ fun _ => ?_, fun b' hb' => by cases hb'⟩
    · rw [hρ]; show 0 + cap * 1 ≤ cap; omega
    · rw [hρ]; rfl
/-- Bytes that came in: none, no bytes, or some. -/
theorem VOk.bytes {W : World} (j : Nat) {v : Value} {m : Nat} (hv : v = .slice none 0 0 ∨ ∃ (a : Addr) (len cap : Nat) (zs : List Int), v = .slice (some a) len cap ∧ len ≤ cap ∧ cap ≤ m ∧ zs.length = cap ∧ (∀ i, i < zs.length → W.cell? (a.add i) = some (.int .u8 (zs.getD i 0))) ∧ ∀ n ∈ zs, inR .u8 n = true) :
    (∃ L, VOk W j L (.pl .nilslice) v) ∨ (∃ L, VOk W j L .empty v) ∨ ∃ (n : Nat) (l : List Int), 1 ≤ n ∧ n ≤ m ∧ l.length = n ∧ (∀ x ∈ l, inR .u8 x = true) ∧ ∃ L, VOk W j L (.buf true .u8 n l) v := by
  rcases hv with rfl | ⟨ad, len, cap, zs, rfl, hlen, hcap, hz, hc, hw⟩
  · exact Or.inl (VOk.plain fun ρ N => .nilslice)
  · by_cases h0 : len = 0
    · subst h0; exact Or.inr (Or.inl (VOk.emptyC hz hc))
    · refine Or.inr (Or.inr ⟨len, zs.take len, by omega, by omega, by rw [List.length_take]; omega, fun x hx => hw x (List.mem_of_mem_take hx), VOk.slice true hz hlen (by omega) hc hw⟩)
end Go.Ev
namespace Go.Proofs.YtljndahfackolaaDoor
open Go.Ev
open Go.ChangeShapes Go.WideShapes Go.ChangeAt Go.RowKit
set_option maxRecDepth 100000
theorem nums_open2 {H : Type} {enc : TypeId × Value → H} {P : Program} {W : World} {base : Nat} {t e : TypeId} {k : IntKind} {v : Value} {d : DataW H} {ps : List MemPlace} (ht : P.underlying t = some (.slice e)) (he : P.underlying e = some (.int k)) (hc : P.cellsOf e = 1)
    (hval : Value.okWide P W .any base t v) (hd : DataW.Trod enc P W 0 (fun _ => true) true t v d ps) (hsz : ∀ x y : List (DataW H), d = .slice x y → x.length + y.length ≤ reachBytes) :
    v = .slice none 0 0 ∨ ∃ (a : Addr) (len cap : Nat) (zs : List Int), v = .slice (some a) len cap ∧ len ≤ cap ∧ cap ≤ 140737488351232 ∧ zs.length = cap ∧ (∀ i, i < zs.length → W.cell? (a.add i) = some (.int k (zs.getD i 0))) ∧ ∀ n ∈ zs, inR k n = true := by
  obtain ⟨a0, l0, c0, rfl⟩ := Ev.okWide_slice ht hval
  obtain ⟨fuel, hf⟩ := hd
  have hcs : (Value.slice a0 l0 c0).cells.toList = [.slice a0 l0 c0] := rfl
  rw [hcs] at hf
  rcases open_ints ht he hc hf with ⟨h1, _⟩ | ⟨a, len, cap, zs, h1, h2, h3, h4, h5, h6, h7, h8⟩
  · left
    simpa using h1
  · right
    have h5' : zs.length = cap := by simpa using h5
    have h9 := hsz _ _ (Prod.mk.inj h6).1
    simp only [lits, List.length_map, List.length_take, List.length_drop, reachBytes] at h9
    refine ⟨a, len, cap, zs, by simpa using h1, h3, by omega, h5', h7, fun n hn => wf_inR' (h8 n hn)⟩
theorem own : ownKnob Tryd.prog.godebug = none := by kernel_rfl
theorem laidOut : laidOutB Tryd.prog = true := by kernel_rfl
theorem tab_one {P : Program} {w : World} {n : String} {g t e fuel N : Nat} {cs : Array Value} {L : List Int} {p : List MemPlace} (hu : P.underlying t = some (.array N e)) (he : P.underlying e = some (.int .u64)) (c1 : P.cellsOf e = 1) (ct : P.cellsOf t = N)
    (hN : L.length = N) (hr : ∀ x ∈ L, inR .u64 x = true) (hg : P.globalNamed n = some g) (hv : w.var? P n = some cs)
    (hd : DataW.trod (fun _ => ()) P w 0 (fun _ => true) false fuel t cs.toList = some (.agg (L.map fun z => .lit (.int .u64 z)), p)) :
    ∃ (cs : Array Value) (t : TypeId) (fr : Nat × Nat), w.heap[g]? = some (.cells cs t fr) ∧ N ≤ cs.size ∧ CRep (fun _ => ⟨0, 0, 0⟩) (fun _ => False) (.ints .u64 (some N) L) (fun i => cs[i]?) := by
  obtain ⟨xs, m, _, ex, hcl, hl, hel⟩ := DataW.trod_array hu hd
  have hh : ∃ t' fr, w.heap[g]? = some (.cells cs t' fr) := by
    simp only [World.var?, hg, Option.bind_some] at hv
    split at hv
    · rename_i cs' t' fr' hc
      cases hv
      exact ⟨t', fr', hc⟩
    · cases hv
  obtain ⟨t', fr, hh⟩ := hh
  refine ⟨cs, t', fr, hh, by rw [ct] at hcl; simpa using Nat.le_of_eq hcl.symm, fun m' hm' => by cases hm'; exact hN, fun i x hx => ?_⟩
  obtain ⟨hi, hix⟩ := List.getElem?_eq_some_iff.1 hx
  have hE := hel i (by omega)
  rw [c1, Nat.mul_one, List.getElem?_eq_getElem (by omega)] at hE
  obtain ⟨z, e1, e2, _⟩ := DataW.trod_int he hE
  have e3 : (xs.map (·.1)) = L.map fun z => .lit (.int .u64 z) := (DataW.agg.inj (Prod.mk.inj ex).1).symm
  have e4 : (xs.map (·.1))[i]? = (L.map fun z => (DataW.lit (.int .u64 z) : DataW Unit))[i]? := by rw [e3]
  rw [List.getElem?_map, List.getElem?_map, List.getElem?_eq_getElem (by omega : i < xs.length), List.getElem?_eq_getElem hi, e2] at e4
  have hz : z = x := by
    simp only [Option.map_some, Option.some.injEq, DataW.lit.injEq, Lit.int.injEq, true_and] at e4
    rw [e4, hix]
  subst hz
  refine ⟨?_, hr z (by rw [← hix]; exact List.getElem_mem hi)⟩
  have : cs.toList[i]? = some (.int .u64 z) := by
    have h0 : ((cs.toList.drop i).take 1)[0]? = some (.int .u64 z) := by rw [e1]; rfl
    simpa using h0
  simpa using this
theorem cube_eq : (Rows.laid_cartouche_sha2_cubeRoots : DataW Unit) = .agg (cubeL.map fun z => .lit (.int .u64 z)) := by kernel_rfl
theorem square_eq : (Rows.laid_cartouche_sha2_squareRoots : DataW Unit) = .agg (squareL.map fun z => .lit (.int .u64 z)) := by kernel_rfl
theorem trep_of {W : World} (h : laidMetH Tryd.prog Rows.macKeysRow.laid W) : TRep W := by
  rw [MakeChecks.laidMetH_plain _ _ _ (by kernel_rfl)] at h
  obtain ⟨ps, ⟨g0, t0, cs0, f0, p0, q0, hg0, ht0, hv0, hd0, ⟨g1, t1, cs1, f1, p1, q1, hg1, ht1, hv1, hd1, _, _⟩, _⟩, _, _⟩ := h
  have hT0 : (Tryd.prog.globals[1]?).map (·.type) = some 66 := by kernel_rfl
  have hT1 : (Tryd.prog.globals[0]?).map (·.type) = some 58 := by kernel_rfl
  obtain rfl : g0 = 1 := Option.some.inj (hg0.symm.trans (by kernel_rfl))
  obtain rfl : g1 = 0 := Option.some.inj (hg1.symm.trans (by kernel_rfl))
  obtain rfl := Option.some.inj (hT0.symm.trans ht0)
  obtain rfl := Option.some.inj (hT1.symm.trans ht1)
  rw [cube_eq] at hd0
  rw [square_eq] at hd1
  have k0 := tab_one (L := cubeL) Tryd.underlying66 Tryd.underlying51 (by kernel_rfl) (by kernel_rfl) (by kernel_rfl) (List.all_eq_true.1 (by kernel_rfl : (cubeL.all fun x => inR .u64 x) = true)) hg0 hv0 hd0
  have k1 := tab_one (L := squareL) Tryd.underlying58 Tryd.underlying51 (by kernel_rfl) (by kernel_rfl) (by kernel_rfl) (List.all_eq_true.1 (by kernel_rfl : (squareL.all fun x => inR .u64 x) = true)) hg1 hv1 hd1
  intro G c hG
  have hG' : (match Nat.beq G 1 with
    | true => some (Cells.ints .u64 (some 80) cubeL)
    | false => match Nat.beq G 0 with
      | true => some (Cells.ints .u64 (some 16) squareL)
      | false => none) = some c := hG
  split at hG'
  · rename_i hb
    obtain rfl := Nat.eq_of_beq_eq_true hb
    cases hG'
    exact k0
  · split at hG'
    · rename_i hb
      obtain rfl := Nat.eq_of_beq_eq_true hb
      cases hG'
      exact k1
    · cases hG'
end Go.Proofs.YtljndahfackolaaDoor
