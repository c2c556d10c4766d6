/- Lists of lists of numbers that came in: what is known of their cells; a block of the world at a run's beginning that the run doesn't write gets a name. Own work. -/
import Derived.Test.YtjhjhhibfojpiaaDoorVEvLawN
import Derived.Test.YtjhjhhibfojpiaaDoorVEvReg
import Derived.Test.YtjhjhhibfojpiaaDoorVEvPut
import Derived.ChangeSlices
set_option linter.unusedSimpArgs false
set_option linter.unusedVariables false
set_option linter.unusedSectionVars false
namespace Go.Ev
open Go.ChangeShapes Go.WideShapes Go.ChangeAt Go.RowKit
set_option linter.unusedSectionVars false
/-- A row: none, or numbers in a block. -/
def RowV (W : World) (k : IntKind) (v : Value) (zs : List Int) : Prop :=
  (v = .slice none 0 0 ∧ zs = []) ∨ ∃ (a : Addr) (len cap : Nat), v = .slice (some a) len cap ∧ len ≤ cap ∧ cap ≤ reachBytes ∧ zs.length = cap ∧ (∀ i, i < zs.length → W.cell? (a.add i) = some (.int k (zs.getD i 0))) ∧ ∀ n ∈ zs, inR k n = true
section
variable [Tab]
variable {H : Type} {enc : TypeId × Value → H} {P : Program}
theorem row_open {W : World} {base fuel : Nat} {e e2 : TypeId} {k : IntKind} {a : Addr} {i : Nat} {y : DataW H × List MemPlace} (he : P.underlying e = some (.slice e2)) (hc : P.cellsOf e = 1) (he2 : P.underlying e2 = some (.int k)) (hc2 : P.cellsOf e2 = 1) (hb2 : P.bytesOf e2 = 1)
    (h : (W.cells? base (a.add (i * P.cellsOf e)) (P.cellsOf e)).bind (DataW.trod enc P W base (fun _ => true) true fuel e) = some y) (hsz : ∀ n ∈ y.1.weights P e, n ≤ reachBytes) : ∃ v zs, W.cell? (a.add i) = some v ∧ RowV W k v zs := by
  rw [hc, Nat.mul_one, Option.bind_eq_some_iff] at h
  obtain ⟨cs, hcs, hy⟩ := h
  rcases open_ints he he2 hc2 hy with ⟨rfl, _⟩ | ⟨b, len, cap, zs, rfl, _, h3, _, h5, h6, h7, h8⟩
  · exact ⟨_, [], cell_of_cells?_one hcs, .inl ⟨rfl, rfl⟩⟩
  · have h5' : zs.length = cap := by simpa using h5
    have h9 := hsz (((lits k (zs.take len) : List (DataW H)).length + (lits k (zs.drop len) : List (DataW H)).length) * P.bytesOf e2) (by rw [congrArg Prod.fst h6]; simp [DataW.weights, he])
    simp only [lits, List.length_map, List.length_take, List.length_drop, hb2] at h9
    exact ⟨_, zs, cell_of_cells?_one hcs, .inr ⟨b, len, cap, rfl, h3, by omega, h5', h7, fun n hn => wf_inR' (h8 n hn)⟩⟩
theorem lists_open {W : World} {base : Nat} {t e e2 : TypeId} {k : IntKind} {v : Value} {d : DataW H} {ps : List MemPlace} (ht : P.underlying t = some (.slice e)) (he : P.underlying e = some (.slice e2)) (hc : P.cellsOf e = 1) (hb : 1 ≤ P.bytesOf e) (he2 : P.underlying e2 = some (.int k)) (hc2 : P.cellsOf e2 = 1) (hb2 : P.bytesOf e2 = 1)
    (hval : Value.okWide P W .any base t v) (hd : DataW.Trod enc P W 0 (fun _ => true) true t v d ps) (hsz : ∀ n ∈ d.weights P t, n ≤ reachBytes) :
    v = .slice none 0 0 ∨ ∃ (a : Addr) (len cap : Nat) (r : Nat → Value) (z : Nat → List Int), v = .slice (some a) len cap ∧ len ≤ cap ∧ cap ≤ reachBytes ∧ ∀ i, i < cap → W.cell? (a.add i) = some (r i) ∧ RowV W k (r i) (z i) := by
  obtain ⟨a0, l0, c0, rfl⟩ := okWide_slice ht hval
  obtain ⟨fuel, hf⟩ := hd
  have hcs : (Value.slice a0 l0 c0).cells.toList = [.slice a0 l0 c0] := rfl
  rw [hcs] at hf
  rcases DataW.trod_slice ht hf with ⟨h1, _⟩ | ⟨a, len, cap, elems, rest, n, _, h1, hx, _, hl, _, hlen, hel, hsp, _⟩
  · left
    simpa using h1
  · right
    obtain ⟨hrl, hr⟩ := hsp rfl
    have hd : d = .slice (elems.map (·.1)) (rest.map (·.1)) := congrArg Prod.fst hx
    subst hd
    simp only [DataW.weights, ht, List.mem_cons, List.mem_append, List.length_map] at hsz
    have hw := hsz _ (.inl rfl)
    have hcap : cap ≤ reachBytes := by
      have : (elems.length + rest.length) * 1 ≤ (elems.length + rest.length) * P.bytesOf e := Nat.mul_le_mul_left _ hb
      omega
    have each : ∀ i, i < cap → ∃ v zs, W.cell? (a.add i) = some v ∧ RowV W k v zs := fun i hi => by
      by_cases h : i < len
      · have h2 := hel i h
        have h3 : elems[i]? = some elems[i] := List.getElem?_eq_getElem (by omega)
        rw [h3] at h2
        exact row_open he hc he2 hc2 hb2 h2 fun m hm => hsz m (.inr (.inl (mem_weightsAll (j := i) (by rw [List.getElem?_map, h3]; rfl) m hm)))
      · have h2 := hr (i - len) (by omega)
        have h3 : rest[i - len]? = some rest[i - len] := List.getElem?_eq_getElem (by omega)
        rw [h3, show len + (i - len) = i by omega] at h2
        exact row_open he hc he2 hc2 hb2 h2 fun m hm => hsz m (.inr (.inr (mem_weightsAll (j := i - len) (by rw [List.getElem?_map, h3]; rfl) m hm)))
    refine ⟨a, len, cap, fun i => if h : i < cap then Classical.choose (each i h) else .slice none 0 0, fun i => if h : i < cap then Classical.choose (Classical.choose_spec (each i h)) else [], by simpa using h1, hl, hcap, fun i hi => ?_⟩
    simp only [dif_pos hi]
    exact Classical.choose_spec (Classical.choose_spec (each i hi))
end
section
variable [Tab]
end
/-- Rows that came in: of bytes. -/
class RowTab where
  cnt : Nat
  r : Nat → Value
  z : Nat → List Int
def rowsPb [RowTab] (G : Nat) : Prop := ∃ (i : Nat) (a : Addr) (len cap : Nat), i < RowTab.cnt ∧ RowTab.r i = .slice (some a) len cap ∧ 0 < cap ∧ G = a.block
def rowsFact [RowTab] (w : World) : Prop := ∀ i, i < RowTab.cnt → RowV w .u8 (RowTab.r i) (RowTab.z i)
theorem add_block (a : Addr) (i : Nat) : (a.add i).block = a.block := by
  unfold Addr.add
  split <;> rfl
theorem cell_same {w w' : World} {a : Addr} (h : w'.heap[a.block]? = w.heap[a.block]?) (i : Nat) : w'.cell? (a.add i) = w.cell? (a.add i) := by
  unfold World.cell?
  rw [add_block, h]
theorem cell_in {w : World} {a : Addr} {v : Value} {i : Nat} (h : w.cell? (a.add i) = some v) : a.block < w.heap.size := by
  unfold World.cell? at h
  split at h
  · rename_i hh
    rw [add_block] at hh
    exact (Array.getElem?_eq_some_iff.1 hh).1
  · cases h
theorem rows_keep [RowTab] (w w' : World) (h : rowsFact w) (hs : ∀ G, rowsPb G → G < w.heap.size → w'.heap[G]? = w.heap[G]?) : rowsFact w' := fun i hi => by
  rcases h i hi with h1 | ⟨a, len, cap, e, h1, h2, h3, h4, h5⟩
  · exact .inl h1
  · refine .inr ⟨a, len, cap, e, h1, h2, h3, fun j hj => ?_, h5⟩
    have hc := h4 j hj
    rw [cell_same (hs a.block ⟨i, a, len, cap, hi, e, by omega, rfl⟩ (cell_in hc))]
    exact hc
theorem rows_inh [RowTab] (w : World) (G : Nat) (h : rowsFact w) (hG : rowsPb G) : G < w.heap.size := by
  obtain ⟨i, a, len, cap, hi, e, h0, rfl⟩ := hG
  rcases h i hi with ⟨h1, _⟩ | ⟨a', len', cap', e', h1, h2, h3, h4, h5⟩
  · rw [e] at h1; cases h1
  · rw [e] at e'
    cases e'
    exact cell_in (h4 0 (by omega))
/-- A package's table, and the rows. -/
abbrev tabR [RowTab] (T : Nat → Option Cells) : Tab := { T := T, pb := rowsPb, fact := rowsFact, keep := rows_keep, inh := rows_inh }
section
variable [Tab]
/-- A view of what nobody writes is given a name. -/
theorem Inv.layV {w0 : World} {S : Nat → Prop} {N N' : Nat → Prop} {ρ : Nat → Loc3} {g g' : Nat → Option Blk} {w : World} (h : Inv w0 S N ρ g w) {n : Nat} (hn : ¬ N n) {L : Loc3} {x : V} {v : Value}
    (hv : VOk w n L x v) (hx : ∀ b, cBlk x = some b → b.rw = false) (hp : ∀ b, cBlk x = some b → Tab.pb L.b)
    (hN : ∀ i, N i → N' i) (hn' : N' n) (hg : ∀ i b, g' i = some b → g i = some b ∨ (i = n ∧ cBlk x = some b)) :
    Inv w0 S N' (bump ρ n L) g' w ∧ Rep (bump ρ n L) N' (cArg n x) v := by
  have ha : Agr ρ (bump ρ n L) N := bump_agr hn
  have hne : ∀ i b, g i = some b → bump ρ n L i = ρ i := fun i b hi => ha i (h.sim.live i b hi)
  have hnn : bump ρ n L n = L := by simp [bump]
  have hap : ∀ c, cBlk x = some c → ∀ i b, g i = some b → b.rw = true → (ρ i).b ≠ L.b := fun c hc i b hi hr => h.sim.apart L.b (.vals []) (.inr (hp c hc)) i b hi hr
  refine ⟨⟨⟨fun i b hi => ?_, fun i j bi bj hi hj hij hr => ?_, fun i b hi => ?_, h.sim.tab, fun G c' hG i b hi hr => ?_⟩, h.size, h.frame, h.os, h.tape, h.output, fun i b hi hr => ?_⟩, hv.1 _ _ hnn hn'⟩
  · rcases hg i b hi with h1 | ⟨rfl, h1⟩
    · obtain ⟨cs', t', lo, hi', a1, a2, a3, a4, a5⟩ := (h.sim.blk i b h1).ex
      refine ⟨cs', t', lo, hi', ?_, ?_, a3, ?_, ?_⟩
      · rw [hne i b h1]; exact a1
      · rw [hne i b h1]; exact a2
      · rw [hne i b h1]; exact a4
      · rw [hne i b h1]; exact a5.ext ha hN
    · exact (hv.2 b h1).2 _ _ hnn
  · rcases hg i bi hi with h1 | ⟨rfl, h1⟩
    · rw [hne i bi h1]
      rcases hg j bj hj with h2 | ⟨rfl, h2⟩
      · rw [hne j bj h2]; exact h.sim.inj i j bi bj h1 h2 hij hr
      · rw [hnn]; exact hap _ h2 i bi h1 hr
    · rw [hx _ h1] at hr; cases hr
  · rcases hg i b hi with h1 | ⟨rfl, h1⟩
    · exact hN i (h.sim.live i b h1)
    · exact hn'
  · rcases hg i b hi with h1 | ⟨rfl, h1⟩
    · rw [hne i b h1]; exact h.sim.apart G c' hG i b h1 hr
    · rw [hx _ h1] at hr; cases hr
  · rcases hg i b hi with h1 | ⟨rfl, h1⟩
    · rw [hne i b h1]; exact h.rws i b h1 hr
    · rw [hx _ h1] at hr; cases hr
end
/-- A row, as a view. -/
def rowX [RowTab] (i : Nat) : V := match RowTab.r i with
  | .slice (some _) 0 _ => .empty
  | .slice (some _) (n + 1) _ => .buf true .u8 (n + 1) ((RowTab.z i).take (n + 1))
  | _ => .pl .nilslice
/-- A row's view; its block is one that nobody writes. -/
theorem row_view [Tab] [RowTab] {w : World} (hf : rowsFact w) {i : Nat} (hi : i < RowTab.cnt) (n : Nat) :
    ∃ L : Loc3, VOk w n L (rowX i) (RowTab.r i) ∧ (∀ b, cBlk (rowX i) = some b → b.rw = false) ∧ (∀ b, cBlk (rowX i) = some b → rowsPb L.b) ∧
      (rowX i = .pl .nilslice ∨ rowX i = .empty ∨ ∃ (m : Nat) (l : List Int), rowX i = .buf true .u8 m l ∧ 1 ≤ m ∧ m ≤ reachBytes ∧ l.length = m ∧ ∀ y ∈ l, inR .u8 y = true) := by
  rcases hf i hi with ⟨h1, _⟩ | ⟨a, len, cap, h1, h2, h3, h4, h5, h6⟩
  · have e : rowX i = .pl .nilslice := by unfold rowX; rw [h1]
    rw [e, h1]
    exact ⟨⟨0, 0, 0⟩, ⟨fun ρ N _ _ => .nilslice, fun b hb => by cases hb⟩, (fun b hb => by cases hb), (fun b hb => by cases hb), .inl rfl⟩
  · cases len with
    | zero =>
      have e : rowX i = .empty := by unfold rowX; rw [h1]
      rw [e, h1]
      obtain ⟨L, h7⟩ := VOk.emptyC (j := n) h4 h5
      exact ⟨L, h7, (fun b hb => by cases hb), (fun b hb => by cases hb), .inr (.inl rfl)⟩
    | succ m =>
      have e : rowX i = .buf true .u8 (m + 1) ((RowTab.z i).take (m + 1)) := by unfold rowX; rw [h1]
      obtain ⟨L, h7⟩ := VOk.slice (j := n) true h4 h2 (by omega) h5 h6
      rw [e, h1]
      refine ⟨L, h7, (fun b hb => by cases hb; rfl), fun b hb => ?_, .inr (.inr ⟨m + 1, _, rfl, by omega, by omega, by rw [List.length_take]; omega, fun y hy => h6 y (List.mem_of_mem_take hy)⟩)⟩
      have hr := h7.1 (fun _ => L) (fun _ => True) rfl trivial
      cases hr with
      | slice _ _ _ _ _ _ c ad hn hc hl hw had =>
        have e2 := had (by omega)
        exact ⟨i, _, _, _, hi, h1, by omega, by rw [e2]⟩
section
variable [Tab]
/-- Of cells that hold given values one is looked at. -/
theorem Inv.sharp {w0 : World} {S : Nat → Prop} {N : Nat → Prop} {ρ : Nat → Loc3} {g g' : Nat → Option Blk} {w : World} (h : Inv w0 S N ρ g w) {j i n : Nat} {r : Nat → Value} {a : AV} (hj : g j = some ⟨false, .rows n r⟩) (hi : i < n)
    (ha : Rep ρ N a (r i)) (hg : ∀ k b, g' k = some b → (k ≠ j ∧ g k = some b) ∨ (k = j ∧ b = ⟨false, .one n r i a⟩)) : Inv w0 S N ρ g' w := by
  have ro : ∀ k b, g' k = some b → b.rw = true → k ≠ j ∧ g k = some b := fun k b hk hr => by
    rcases hg k b hk with h1 | ⟨_, rfl⟩
    · exact h1
    · cases hr
  have ex : ∀ k b, g' k = some b → ∃ b', g k = some b' := fun k b hk => by
    rcases hg k b hk with h1 | ⟨rfl, _⟩
    · exact ⟨b, h1.2⟩
    · exact ⟨_, hj⟩
  refine ⟨⟨fun k b hk => ?_, fun k l bk bl hk hl hkl hr => ?_, fun k b hk => ?_, h.sim.tab, fun G c hG k b hk hr => h.sim.apart G c hG k b (ro k b hk hr).2 hr⟩, h.size, h.frame, h.os, h.tape, h.output, fun k b hk hr => h.rws k b (ro k b hk hr).2 hr⟩
  · rcases hg k b hk with h1 | ⟨rfl, rfl⟩
    · exact h.sim.blk k b h1.2
    · obtain ⟨cs, t, lo, hi', a1, a2, a3, a4, a5⟩ := (h.sim.blk k _ hj).ex
      exact ⟨cs, t, lo, hi', a1, a2, (fun h => by cases h), a4, ⟨a5, hi, ha⟩⟩
  · obtain ⟨bl', h2⟩ := ex l bl hl
    exact h.sim.inj k l bk bl' (ro k bk hk hr).2 h2 hkl hr
  · obtain ⟨b', h2⟩ := ex k b hk
    exact h.sim.live k b' h2
/-- A row of a list of lists gets a name, and its cell of the list is known. -/
theorem Inv.row [RowTab] (h1 : ∀ w, Tab.fact w → rowsFact w) (h2 : ∀ G, rowsPb G → Tab.pb G) {w0 : World} {S : Nat → Prop} {N N' : Nat → Prop} {ρ : Nat → Loc3} {g : Nat → Option Blk} {w : World} (h : Inv w0 S N ρ g w) {j i n cn : Nat}
    (hj : g j = some ⟨false, .rows cn RowTab.r⟩) (hi : i < cn) (hcn : cn ≤ RowTab.cnt) (hn : ¬ N n) (hN : ∀ k, N k → N' k) (hn' : N' n) :
    ∃ L : Loc3, (rowX i = .pl .nilslice ∨ rowX i = .empty ∨ ∃ (m : Nat) (l : List Int), rowX i = .buf true .u8 m l ∧ 1 ≤ m ∧ m ≤ reachBytes ∧ l.length = m ∧ ∀ y ∈ l, inR .u8 y = true) ∧
      ∀ g', (∀ k b, g' k = some b → (k ≠ j ∧ g k = some b) ∨ (k = j ∧ b = ⟨false, .one cn RowTab.r i (cArg n (rowX i))⟩) ∨ (k = n ∧ cBlk (rowX i) = some b)) → Inv w0 S N' (bump ρ n L) g' w := by
  obtain ⟨L, v1, v2, v3, v4⟩ := row_view (h1 w h.sim.tab.2) (Nat.lt_of_lt_of_le hi hcn) n
  have hjn : j ≠ n := fun e => hn (e ▸ h.sim.live j _ hj)
  have gn : g n = Option.none := by
    cases hg : g n with
    | none => rfl
    | some b => exact absurd (h.sim.live n b hg) hn
  refine ⟨L, v4, fun g' hg => ?_⟩
  obtain ⟨k1, k2⟩ := h.layV (g' := fun k => if k = n then cBlk (rowX i) else g k) hn v1 v2 (fun b hb => h2 _ (v3 b hb)) hN hn' fun k b hk => by
    by_cases e : k = n
    · rw [if_pos e] at hk; exact .inr ⟨e, hk⟩
    · rw [if_neg e] at hk; exact .inl hk
  refine k1.sharp (j := j) (n := cn) (r := RowTab.r) (by show (if j = n then _ else _) = _; rw [if_neg hjn]; exact hj) hi k2 fun k b hk => ?_
  rcases hg k b hk with h3 | h3 | ⟨rfl, h3⟩
  · refine .inl ⟨h3.1, ?_⟩
    have e : k ≠ n := fun e => by rw [e, gn] at h3; cases h3.2
    show (if k = n then _ else _) = _
    rw [if_neg e]; exact h3.2
  · exact .inr h3
  · refine .inl ⟨fun e => hjn e.symm, ?_⟩
    show (if k = k then _ else _) = _
    rw [if_pos rfl]; exact h3
end
/-- What is known of one cell is given up. -/
theorem CRep.blunt {ρ : Nat → Loc3} {N : Nat → Prop} {n i : Nat} {r : Nat → Value} {a : AV} {f : Nat → Option Value} (h : CRep ρ N (.one n r i a) f) : CRep ρ N (.rows n r) f := h.1
/-- A list of lists that came in, as a view. -/
theorem VOk.lists [Tab] {W : World} {j : Nat} {a : Addr} {len cap : Nat} {r : Nat → Value} (s : Bool) (hl : len ≤ cap) (h0 : 0 < cap) (hc : ∀ i, i < cap → W.cell? (a.add i) = some (r i)) : ∃ L, VOk W j L (.lol s len cap r) (.slice (some a) len cap) := by
  have h1 := hc 0 h0
  obtain ⟨b, off, spot⟩ := a
  unfold World.cell? at h1
  split at h1
  case h_2 => cases h1
  rename_i cs t fr hh
  split at h1
  · cases h1
  rename_i hsp
  have hsp' : spot = Option.none := by
    cases spot with
    | none => rfl
    | some x => simp [Addr.add] at hsp
  subst hsp'
  have hh' : W.heap[b]? = some (.cells cs t fr) := by
    rw [addr_add] at hh; exact hh
  have cell : ∀ i, i < cap → cs[off + i]? = some (r i) := fun i hi => by
    have := hc i (by omega)
    rwa [addr_add, cell_row hh'] at this
  have hsz : off + cap ≤ cs.size := by
    have := (Array.getElem?_eq_some_iff.1 (cell (cap - 1) (by omega))).1
    omega
  refine ⟨⟨b, off, cap⟩, fun ρ N hρ hN => ?_, fun b' hb' => ?_⟩
  · refine .slice s j 0 len Option.none 1 cap _ hN (by intro c h; cases h) hl ?_ ?_
    · rw [hρ]; show 0 + cap * 1 ≤ cap; omega
    · intro _; rw [hρ]; rfl
  · cases hb'
    refine ⟨(fun h => by cases h), fun ρ N hρ => ⟨cs, t, fr.1, fr.2, by rw [hρ]; exact hh', by rw [hρ]; exact hsz, (by intro h; cases h), by rw [hρ]; exact Nat.le_refl cap, fun i hi => ?_⟩⟩
    rw [hρ]
    exact cell i hi
section
variable [Tab]
theorem SRep.ext {ρ ρ' : Nat → Loc3} {N N' : Nat → Prop} {tm : List AV} {a : Act} (h : SRep ρ N tm a) (hag : Agr ρ ρ' N) (hN : ∀ i, N i → N' i) : SRep ρ' N' tm a := ⟨fun t => (h.rep t).ext hag hN, h.le⟩
/-- A state at a loop's head: its row of the list gets a name. -/
theorem SInv.row [RowTab] (h1 : ∀ w, Tab.fact w → rowsFact w) (h2 : ∀ G, rowsPb G → Tab.pb G) {w0 : World} {S : Nat → Prop} {ρ0 : Nat → Loc3} {n0 : Nat} {ds : List Deferred} {tm : List AV} {M : Mem} {a : Act} {w : World}
    (h : SInv w0 S ρ0 n0 ds ⟨tm, M⟩ a w) {j i cn : Nat} (hj : getName M j = some ⟨false, .rows cn RowTab.r⟩) (hi : i < cn) (hcn : cn ≤ RowTab.cnt) :
    (rowX i = .pl .nilslice ∨ rowX i = .empty ∨ ∃ (m : Nat) (l : List Int), rowX i = .buf true .u8 m l ∧ 1 ≤ m ∧ m ≤ reachBytes ∧ l.length = m ∧ ∀ y ∈ l, inR .u8 y = true) ∧
      SInv w0 S ρ0 n0 ds ⟨tm, M.set j (some ⟨false, .one cn RowTab.r i (cArg M.length (rowX i))⟩) ++ [cBlk (rowX i)]⟩ a w := by
  obtain ⟨⟨ρ, r1, r2, r3⟩, r4, r5⟩ := h
  have hn : ¬ upto M.length M.length := Nat.lt_irrefl _
  obtain ⟨L, k1, k2⟩ := r2.row h1 h2 (N' := upto (M.length + 1)) hj hi hcn hn (fun k hk => Nat.lt_succ_of_lt hk) (Nat.lt_succ_self _)
  have hag : Agr ρ (bump ρ M.length L) (upto M.length) := bump_agr hn
  have hl : (M.set j (some ⟨false, .one cn RowTab.r i (cArg M.length (rowX i))⟩) ++ [cBlk (rowX i)]).length = M.length + 1 := by simp
  refine ⟨k1, ⟨⟨bump ρ M.length L, ?_, ?_, fun x hx => ?_⟩, ?_, r5⟩⟩
  · show SRep _ (upto (List.length (_ ++ _))) _ _
    rw [hl]
    exact r1.ext hag fun k hk => Nat.lt_succ_of_lt hk
  · show Inv _ _ (upto (List.length (_ ++ _))) _ _ _
    rw [hl]
    refine k2 _ fun k b hk => ?_
    rcases getName_append hk with h3 | ⟨h3, h4⟩
    · rcases getName_set h3 with h5 | h5
      · exact .inr (.inl h5)
      · exact .inl h5
    · rw [List.length_set] at h3
      exact .inr (.inr ⟨h3, h4⟩)
  · rw [← r3 x hx]
    exact hag x (Nat.lt_of_lt_of_le hx r4)
  · show n0 ≤ List.length (_ ++ _)
    rw [hl]
    exact Nat.le_succ_of_le r4
/-- What was known of the row's cell is given up. -/
theorem Inv.blunt {w0 : World} {S : Nat → Prop} {N : Nat → Prop} {ρ : Nat → Loc3} {g g' : Nat → Option Blk} {w : World} (h : Inv w0 S N ρ g w) {j i n : Nat} {r : Nat → Value} {x : AV} (hj : g j = some ⟨false, .one n r i x⟩)
    (hg : ∀ k b, g' k = some b → (k ≠ j ∧ g k = some b) ∨ (k = j ∧ b = ⟨false, .rows n r⟩)) : Inv w0 S N ρ g' w := by
  have ro : ∀ k b, g' k = some b → b.rw = true → k ≠ j ∧ g k = some b := fun k b hk hr => by
    rcases hg k b hk with h1 | ⟨_, rfl⟩
    · exact h1
    · cases hr
  have ex : ∀ k b, g' k = some b → ∃ b', g k = some b' := fun k b hk => by
    rcases hg k b hk with h1 | ⟨rfl, _⟩
    · exact ⟨b, h1.2⟩
    · exact ⟨_, hj⟩
  refine ⟨⟨fun k b hk => ?_, fun k l bk bl hk hl hkl hr => ?_, fun k b hk => ?_, h.sim.tab, fun G c hG k b hk hr => h.sim.apart G c hG k b (ro k b hk hr).2 hr⟩, h.size, h.frame, h.os, h.tape, h.output, fun k b hk hr => h.rws k b (ro k b hk hr).2 hr⟩
  · rcases hg k b hk with h1 | ⟨rfl, rfl⟩
    · exact h.sim.blk k b h1.2
    · obtain ⟨cs, t, lo, hi', a1, a2, a3, a4, a5⟩ := (h.sim.blk k _ hj).ex
      exact ⟨cs, t, lo, hi', a1, a2, (fun h => by cases h), a4, a5.blunt⟩
  · obtain ⟨bl', h2⟩ := ex l bl hl
    exact h.sim.inj k l bk bl' (ro k bk hk hr).2 h2 hkl hr
  · obtain ⟨b', h2⟩ := ex k b hk
    exact h.sim.live k b' h2
theorem SInv.blunt {w0 : World} {S : Nat → Prop} {ρ0 : Nat → Loc3} {n0 : Nat} {ds : List Deferred} {tm : List AV} {m : Mem} {a : Act} {w : World} (h : SInv w0 S ρ0 n0 ds ⟨tm, m⟩ a w) {j i n : Nat} {r : Nat → Value} {x : AV}
    (hj : getName m j = some ⟨false, .one n r i x⟩) : SInv w0 S ρ0 n0 ds ⟨tm, m.set j (some ⟨false, .rows n r⟩)⟩ a w := by
  obtain ⟨⟨ρ, r1, r2, r3⟩, r4, r5⟩ := h
  have hl : (m.set j (some (Blk.mk false (.rows n r)))).length = m.length := List.length_set
  refine ⟨⟨ρ, ?_, ?_, r3⟩, ?_, r5⟩
  · show SRep _ (upto (List.length (List.set _ _ _))) _ _
    rw [hl]; exact r1
  · show Inv _ _ (upto (List.length (List.set _ _ _))) _ _ _
    rw [hl]
    exact r2.blunt hj fun k b hk => (getName_set hk).symm
  · show n0 ≤ List.length (List.set _ _ _)
    rw [hl]; exact r4
end
end Go.Ev
