/- Each plain operation of the evaluator is the model's. Own work. -/
import Derived.Test.YtjhjhhibfojpiaaTEvRep
set_option linter.unusedSimpArgs false
set_option linter.unusedVariables false
set_option linter.unusedSectionVars false
namespace Go.Ev
set_option linter.unusedSectionVars false

def Paid (o : List Bool) : Prop := ∀ p ∈ o, p = true
theorem Paid.nil : Paid [] := fun _ h => by cases h
theorem paid_append {o q : List Bool} : Paid (o ++ q) ↔ Paid o ∧ Paid q := by
  constructor
  · exact fun h => ⟨fun p hp => h p (List.mem_append.2 (.inl hp)), fun p hp => h p (List.mem_append.2 (.inr hp))⟩
  · rintro ⟨h1, h2⟩ p hp
    exact (List.mem_append.1 hp).elim (h1 p) (h2 p)

theorem bind_some {α β : Type} {x : E α} {f : α → E β} {o : List Bool} {b : β} (h : E.bind x f = some (o, b)) :
    ∃ o1 a o2, x = some (o1, a) ∧ f a = some (o2, b) ∧ o = o1 ++ o2 := by
  unfold E.bind at h
  split at h
  · cases h
  · rename_i o1 a
    split at h
    · cases h
    · rename_i p c hc
      cases h
      exact ⟨o1, a, p, rfl, hc, rfl⟩
theorem pure_some {α : Type} {a b : α} {o : List Bool} (h : E.pure a = some (o, b)) : o = [] ∧ a = b := by
  unfold E.pure at h; cases h; exact ⟨rfl, rfl⟩
theorem chk_some {s p : Bool} {o : List Bool} {u : Unit} (h : chk s p = some (o, u)) (ho : Paid o) : p = true := by
  unfold chk at h
  split at h
  · cases h; exact ho p (by simp)
  · split at h
    · rfl
    · cases h
/-- a check, then the rest -/
theorem chk_bind {β : Type} {s p : Bool} {f : Unit → E β} {o : List Bool} {b : β} (h : E.bind (chk s p) f = some (o, b)) (ho : Paid o) :
    p = true ∧ ∃ o2, f () = some (o2, b) ∧ Paid o2 := by
  obtain ⟨o1, a, o2, h1, h2, rfl⟩ := bind_some h
  exact ⟨chk_some h1 (paid_append.1 ho).1, o2, h2, (paid_append.1 ho).2⟩
theorem inB_some {s : Bool} {sz : Option Nat} {k : IntKind} {l : List Int} {o n : Nat} {ob : List Bool} {u : Unit} {ρ : Nat → Loc3} {N : Nat → Prop} {f : Nat → Option Value}
    (hc : CRep ρ N (.ints k sz l) f) (h : inB s sz l.length o n = some (ob, u)) (ho : Paid ob) : o + n ≤ l.length := by
  unfold inB at h
  split at h
  · rename_i m
    have := chk_some h ho
    have h2 := hc.1 m rfl
    simp at this; omega
  · have := chk_some h ho
    simpa using this

section
variable [Tab] {P : Program} {ρ : Nat → Loc3} {N : Nat → Prop} {w : World}

theorem run_isAgg {t : TypeId} {x : Option Nat} (h : aggSize P t = some x) : (isAgg t).run P w = .ok x.isSome w ∧ ∀ sz, x = some sz → (sizeOf t).run P w = .ok sz w := by
  unfold aggSize at h
  unfold isAgg
  split at h
  · rename_i d hd
    cases hi : P.info? t with
    | none => simp [hi] at h
    | some i =>
      simp [hi] at h; subst h
      refine ⟨by simp [run_underlying hd], ?_⟩
      rintro sz rfl'
      cases rfl'
      simp [sizeOf, typeInfo, hi]
  · rename_i n e hd
    cases hi : P.info? t with
    | none => simp [hi] at h
    | some i =>
      simp [hi] at h; subst h
      refine ⟨by simp [run_underlying hd], ?_⟩
      rintro sz rfl'
      cases rfl'
      simp [sizeOf, typeInfo, hi]
  · rename_i d hd1 hd2 hd3
    cases h
    refine ⟨?_, by rintro sz h; cases h⟩
    rw [Sem.run_bind, run_underlying (by assumption) w]
    simp only [Result.andThen_ok]
    rfl
  · cases h

theorem run_sizeOf {t : TypeId} {n : Nat} (h : szOf P t = some n) : (sizeOf t).run P w = .ok n w := by
  unfold szOf at h
  cases hi : P.info? t with
  | none => simp [hi] at h
  | some i => simp [hi] at h; subst h; simp [sizeOf, typeInfo, hi]

theorem is1_spec {t : TypeId} (h : is1 P t = true) : szOf P t = some 1 := by
  unfold is1 at h
  split at h
  · assumption
  · cases h
theorem isK_spec {t : TypeId} {k : IntKind} (h : isK P t k = true) : P.underlying t = some (.int k) := by
  unfold isK at h
  split at h
  · rename_i k' hk; simp at h; subst h; exact hk
  · cases h

theorem addr_add (b o n : Nat) : Addr.add ⟨b, o, none⟩ n = ⟨b, o + n, none⟩ := by
  unfold Addr.add; split <;> simp_all

theorem cell_row {b j : Nat} {cs : Array Value} {t : TypeId} {fr : Nat × Nat} (hg : w.heap[b]? = some (.cells cs t fr)) : w.cell? ⟨b, j, none⟩ = cs[j]? := by
  simp [World.cell?, hg]

theorem crep_all {k : IntKind} {sz : Option Nat} {l : List Int} {f : Nat → Option Value} (h : CRep ρ N (.ints k sz l) f) : ∀ x ∈ l, inR k x = true := by
  intro x hx
  obtain ⟨i, hi⟩ := List.getElem?_of_mem hx
  exact (h.2 i x hi).2

theorem getCell_sound {c : Cells} {s : Bool} {o : Nat} {ob : List Bool} {av : AV} {f : Nat → Option Value} (h : getCell c s o = some (ob, av)) (ho : Paid ob) (hc : CRep ρ N c f) :
    ∃ v, f o = some v ∧ Rep ρ N av v := by
  unfold getCell at h
  cases c with
  | vals l =>
    simp only at h
    split at h
    · rename_i a ha
      obtain ⟨_, rfl⟩ := pure_some h
      exact hc o a ha
    · cases h
  | ints k sz l =>
    simp only at h
    obtain ⟨o1, u, o2, h1, h2, rfl⟩ := bind_some h
    obtain ⟨_, rfl⟩ := pure_some h2
    have hl := inB_some hc h1 (paid_append.1 ho).1
    have hlt : o < l.length := by omega
    have := hc.2 o l[o] (by simp [hlt])
    refine ⟨_, this.1, ?_⟩
    simp only [List.getD, List.getElem?_eq_getElem hlt, Option.getD_some]
    exact .int _ _ _ this.2
  | wide l =>
    simp only at h
    split at h
    · rename_i a j ha
      obtain ⟨_, rfl⟩ := pure_some h
      exact hc.2 o _ (locW_spec ha).1
    · cases h
  | bools n l =>
    simp only at h
    obtain ⟨hq, o2, h2, _⟩ := chk_bind h ho
    obtain ⟨_, rfl⟩ := pure_some h2
    simp only [decide_eq_true_eq] at hq
    have hlt : o < l.length := by have := hc.1; omega
    refine ⟨_, hc.2 o l[o] (by simp [hlt]), ?_⟩
    simp only [List.getD, List.getElem?_eq_getElem hlt, Option.getD_some]
    exact .bool _ _
  | one nr r i a =>
    simp only at h
    obtain ⟨hq, o2, h2, _⟩ := chk_bind h ho
    obtain ⟨_, rfl⟩ := pure_some h2
    simp only [decide_eq_true_eq] at hq
    subst hq
    exact ⟨_, hc.1 _ hc.2.1, hc.2.2⟩
  | rows n r => cases h

theorem list_of_cells {f : Nat → Option Value} {l : List AV} (h : ∀ (i : Nat) (a : AV), l[i]? = some a → ∃ v, f i = some v ∧ Rep ρ N a v) :
    ∃ vs : List Value, Reps ρ N l vs ∧ ∀ (i : Nat) (v : Value), vs[i]? = some v → f i = some v := by
  induction l generalizing f with
  | nil => exact ⟨[], .nil, by simp⟩
  | cons a l ih =>
    obtain ⟨v, hv, hr⟩ := h 0 a rfl
    obtain ⟨vs, h1, h2⟩ := ih (f := fun i => f (i + 1)) (fun i b hb => h (i + 1) b (by simpa using hb))
    refine ⟨v :: vs, .cons _ _ _ _ hr h1, fun i u hu => ?_⟩
    cases i with
    | zero => simp at hu; subst hu; exact hv
    | succ i => exact h2 i u (by simpa using hu)

theorem reps_spread {k : IntKind} {n : Nat} {xs : List Int} {vs : List Value} (h : Reps ρ N (spread k n xs) vs) (hn : xs.length = n) : vs = xs.map (Value.int k) ∧ ∀ x ∈ xs, inR k x = true := by
  have hl := h.length
  rw [spread_length] at hl
  have key : ∀ i (hi : i < xs.length), ∃ hv : i < vs.length, vs[i] = .int k xs[i] ∧ inR k xs[i] = true := by
    intro i hi
    have hv : i < vs.length := by omega
    refine ⟨hv, ?_⟩
    obtain ⟨v, h1, h2⟩ := h.get i (.int true k (xs.getD i 0)) (by rw [spread_get, if_pos (by omega)])
    rw [List.getElem?_eq_getElem hv] at h1
    cases h1
    simp only [List.getD, List.getElem?_eq_getElem hi, Option.getD_some] at h2
    generalize hg : vs[i] = u at h2
    cases h2 with
    | int _ _ _ hr => exact ⟨rfl, hr⟩
  refine ⟨List.ext_getElem (by simp; omega) fun i h1 h2 => ?_, fun x hx => ?_⟩
  · simp at h2
    obtain ⟨_, h3, _⟩ := key i h2
    simpa using h3
  · obtain ⟨i, hi, rfl⟩ := List.getElem_of_mem hx
    exact (key i hi).2.2
theorem mkW_rep {l : List AV} {vs : List Value} (h : Reps ρ N (exp l) vs) (hw : WOk l) : Rep ρ N (mkW l) (.agg vs.toArray) := by
  unfold mkW
  split
  · rename_i k n xs
    have hn := hw k n xs (List.mem_cons_self ..)
    simp only [exp, List.append_nil] at h
    obtain ⟨rfl, h2⟩ := reps_spread h hn
    exact .ints _ _ _ hn h2
  · split
    · rename_i hall
      rw [exp_plain hall] at h
      exact mkAgg_rep h
    · exact .wagg _ _ hw h
theorem rowC_rep {b : Blk} {at' : Nat} {c : Cells} {f : Nat → Option Value} (h : rowC b at' = some c) (hc : CRep ρ N b.c f) : CRep ρ N c (fun i => f (at' + i)) ∧ at' + clen c ≤ clen b.c := by
  unfold rowC at h
  split at h
  · rename_i l hl
    split at h
    · rename_i k n xs hp
      cases h
      rw [hl] at hc
      obtain ⟨h1, h2, h3⟩ := partW_spec hp
      have hn := hc.1 _ _ _ h1
      refine ⟨⟨fun m hm => by cases hm; exact hn, fun i x hx => ?_⟩, by rw [hl]; exact h2⟩
      have hlt := (List.getElem?_eq_some_iff.1 hx).1
      obtain ⟨v, g1, g2⟩ := hc.2 _ _ (h3 i (by omega))
      simp only [List.getD, hx, Option.getD_some] at g2
      cases g2 with
      | int _ _ _ hr => exact ⟨g1, hr⟩
    · cases h
  · cases h
theorem getAgg_sound {c : Cells} {s : Bool} {o n : Nat} {ob : List Bool} {av : AV} {f : Nat → Option Value} (h : getAgg c s o n = some (ob, av)) (ho : Paid ob) (hc : CRep ρ N c f) :
    ∃ vs : List Value, vs.length = n ∧ (∀ (i : Nat) (v : Value), vs[i]? = some v → f (o + i) = some v) ∧ Rep ρ N av (.agg vs.toArray) := by
  have ints : ∀ {k sz l}, CRep ρ N (.ints k sz l) f → o + n ≤ l.length → ∃ vs : List Value, vs.length = n ∧ (∀ (i : Nat) (v : Value), vs[i]? = some v → f (o + i) = some v) ∧
      Rep ρ N (.ints k n ((l.drop o).take n)) (.agg vs.toArray) := by
    intro k sz l hc hl
    refine ⟨((l.drop o).take n).map (Value.int k), by simp; omega, fun i v hv => ?_, .ints _ _ _ (by simp; omega) fun x hx => crep_all hc x (List.mem_of_mem_drop (List.mem_of_mem_take hx))⟩
    rw [List.getElem?_map] at hv
    cases hx : ((l.drop o).take n)[i]? with
    | none => simp [hx] at hv
    | some x =>
      simp [hx] at hv; subst hv
      have hi : i < n := by have := (List.getElem?_eq_some_iff.1 hx).1; simp at this; omega
      rw [List.getElem?_take_of_lt hi, List.getElem?_drop] at hx
      exact (hc.2 _ x hx).1
  unfold getAgg at h
  cases c with
  | vals l =>
    simp only at h
    split at h
    · rename_i hl
      obtain ⟨_, rfl⟩ := pure_some h
      have h0 : ∀ (i : Nat) (a : AV), ((l.drop o).take n)[i]? = some a → ∃ v, f (o + i) = some v ∧ Rep ρ N a v := by
        intro i a ha
        have hi : i < n := by have := (List.getElem?_eq_some_iff.1 ha).1; simp at this; omega
        rw [List.getElem?_take_of_lt hi, List.getElem?_drop] at ha
        exact hc _ a ha
      obtain ⟨vs, h1, h2⟩ := list_of_cells h0
      exact ⟨vs, by rw [← h1.length]; simp; omega, h2, mkAgg_rep h1⟩
    · cases h
  | ints k sz l =>
    simp only at h
    split at h
    · rename_i m
      have hm := hc.1 m rfl
      split at h
      · rename_i hcond
        obtain ⟨rfl, rfl⟩ := hcond
        obtain ⟨_, rfl⟩ := pure_some h
        have := ints hc (by omega)
        rwa [List.drop_zero, List.take_of_length_le (by omega)] at this
      · split at h
        · obtain ⟨_, rfl⟩ := pure_some h
          exact ints hc (by omega)
        · cases h
    · obtain ⟨o1, u, o2, h1, h2, rfl⟩ := bind_some h
      obtain ⟨_, rfl⟩ := pure_some h2
      exact ints hc (inB_some hc h1 (paid_append.1 ho).1)
  | wide l =>
    simp only at h
    split at h
    · rename_i q hq
      split at h
      · rename_i r hr
        obtain ⟨_, rfl⟩ := pure_some h
        obtain ⟨d1, d2, d3⟩ := dropW_spec hq
        obtain ⟨t1, t2, t3⟩ := takeW_spec hr
        have h0 : ∀ (i : Nat) (a : AV), (exp r)[i]? = some a → ∃ v, f (o + i) = some v ∧ Rep ρ N a v := by
          intro i a ha
          have hi : i < n := by have := (List.getElem?_eq_some_iff.1 ha).1; rw [t1, List.length_take] at this; omega
          rw [t1, d1, List.getElem?_take_of_lt hi, List.getElem?_drop] at ha
          exact hc.2 _ a ha
        obtain ⟨vs, h1, h2⟩ := list_of_cells h0
        refine ⟨vs, ?_, h2, mkW_rep h1 (hc.1.sub fun x hx => d3 _ (t3 _ hx))⟩
        rw [← h1.length, t1, List.length_take, exp_length]; omega
      · cases h
    · cases h
  | bools m l =>
    simp only at h
    split at h
    · rename_i hcond
      obtain ⟨rfl, rfl, rfl⟩ := hcond
      obtain ⟨_, rfl⟩ := pure_some h
      refine ⟨l.map Value.bool, by simp [hc.1], fun i v hv => ?_, .bools _ _ hc.1⟩
      rw [List.getElem?_map] at hv
      cases hx : l[i]? with
      | none => simp [hx] at hv
      | some x =>
        simp [hx] at hv; subst hv
        rw [Nat.zero_add]
        exact hc.2 i x hx
    · cases h
  | one nr r i a => cases h
  | rows n r => cases h

theorem load_agg {t : TypeId} {c : Cells} {s : Bool} {o sz base B : Nat} {ob : List Bool} {av : AV} {cs : Array Value} {t' : TypeId} {fr : Nat × Nat} (hsz : aggSize P t = some (some sz)) (h : getAgg c s o sz = some (ob, av)) (ho : Paid ob)
    (hg : w.heap[B]? = some (.cells cs t' fr)) (hc : CRep ρ N c (fun i => cs[base + i]?)) : ∃ v, (loadVar t ⟨B, base + o, none⟩).run P w = .ok v w ∧ Rep ρ N av v := by
  obtain ⟨vs, hvl, hv1, hv2⟩ := getAgg_sound h ho hc
  refine ⟨_, ?_, hv2⟩
  obtain ⟨g1, g2⟩ := run_isAgg (w := w) hsz
  unfold loadVar
  rw [Sem.run_bind, g1]
  simp only [Option.isSome_some, Result.andThen_ok, if_true, Sem.run_bind, g2 sz rfl]
  rw [← hvl, run_loadCells_list (P := P) w _ vs (fun j v hj => by
    rw [addr_add, cell_row hg, Nat.add_assoc]; exact hv1 j v hj)]
  simp
theorem load_cell {t : TypeId} {c : Cells} {s : Bool} {o base B : Nat} {ob : List Bool} {av : AV} {cs : Array Value} {t' : TypeId} {fr : Nat × Nat} (hsz : aggSize P t = some none) (h : getCell c s o = some (ob, av)) (ho : Paid ob)
    (hg : w.heap[B]? = some (.cells cs t' fr)) (hc : CRep ρ N c (fun i => cs[base + i]?)) : ∃ v, (loadVar t ⟨B, base + o, none⟩).run P w = .ok v w ∧ Rep ρ N av v := by
  obtain ⟨v, hv1, hv2⟩ := getCell_sound h ho hc
  refine ⟨v, ?_, hv2⟩
  obtain ⟨g1, g2⟩ := run_isAgg (w := w) hsz
  unfold loadVar
  rw [Sem.run_bind, g1]
  simp only [Option.isSome_none, Result.andThen_ok, Bool.false_eq_true, if_false, run_load, cell_row hg]
  show (match cs[base + o]? with | some v => _ | none => _) = _
  rw [show cs[base + o]? = some v from hv1]

theorem loadA_sound {m : Mem} {t : TypeId} {a av : AV} {va : Value} {ob : List Bool} (h : loadA P m t a = some (ob, av)) (ho : Paid ob) (ha : Rep ρ N a va) (hs : Sim ρ N (getName m) w) :
    ∃ v, (∀ x, va = .pointer (some x) → (loadVar t x).run P w = .ok v w) ∧ (∃ x, va = .pointer (some x)) ∧ Rep ρ N av v := by
  unfold loadA at h
  split at h
  · rename_i s n b o
    cases ha with
    | wptr _ _ _ _ hn =>
    split at h
    · rename_i bl sz hb hsz
      split at h
      · rename_i c hr
        obtain ⟨cs, t', lo', hi', h1, h2, h3, h4, h5⟩ := (hs.blk n bl hb).ex
        obtain ⟨r1, r2⟩ := rowC_rep hr h5
        simp only [← Nat.add_assoc] at r1
        obtain ⟨v, g1, g2⟩ := load_agg (P := P) hsz h ho h1 r1
        refine ⟨v, fun x hx => ?_, ⟨_, rfl⟩, g2⟩
        cases hx
        rw [← Nat.add_assoc]; exact g1
      · cases h
    · rename_i bl hb hsz
      split at h
      · rename_i c hr
        obtain ⟨cs, t', lo', hi', h1, h2, h3, h4, h5⟩ := (hs.blk n bl hb).ex
        obtain ⟨r1, r2⟩ := rowC_rep hr h5
        simp only [← Nat.add_assoc] at r1
        obtain ⟨v, g1, g2⟩ := load_cell (P := P) hsz h ho h1 r1
        refine ⟨v, fun x hx => ?_, ⟨_, rfl⟩, g2⟩
        cases hx
        rw [← Nat.add_assoc]; exact g1
      · cases h
    · cases h
  · rename_i s g o
    cases ha with
    | gptr =>
    split at h
    · rename_i c sz hT hsz
      obtain ⟨cs, t', fr, h1, h2, h3⟩ := hs.tab.1 g c hT
      obtain ⟨v, g1, g2⟩ := load_agg (P := P) (base := 0) hsz h ho h1 (by simpa using h3)
      refine ⟨v, fun x hx => ?_, ⟨_, rfl⟩, g2.ext (fun _ h => h.elim) (fun _ h => h.elim)⟩
      cases hx
      rw [Nat.zero_add] at g1; exact g1
    · rename_i c hT hsz
      obtain ⟨cs, t', fr, h1, h2, h3⟩ := hs.tab.1 g c hT
      obtain ⟨v, g1, g2⟩ := load_cell (P := P) (base := 0) hsz h ho h1 (by simpa using h3)
      refine ⟨v, fun x hx => ?_, ⟨_, rfl⟩, g2.ext (fun _ h => h.elim) (fun _ h => h.elim)⟩
      cases hx
      rw [Nat.zero_add] at g1; exact g1
    · cases h
  · rename_i s n o
    cases ha with
    | ptr _ _ _ hn =>
    split at h
    · rename_i b sz hb hsz
      obtain ⟨cs, t', lo', hi', h1, h2, h3, h4, h5⟩ := (hs.blk n b hb).ex
      obtain ⟨vs, hvl, hv1, hv2⟩ := getAgg_sound h ho h5
      refine ⟨_, ?_, ⟨_, rfl⟩, hv2⟩
      rintro x hx
      cases hx
      obtain ⟨g1, g2⟩ := run_isAgg (w := w) hsz
      unfold loadVar
      rw [Sem.run_bind, g1]
      simp only [Option.isSome_some, Result.andThen_ok, if_true, Sem.run_bind, g2 sz rfl]
      rw [← hvl, run_loadCells_list (P := P) w _ vs (fun j v hj => by
        rw [addr_add, cell_row h1, Nat.add_assoc]; exact hv1 j v hj)]
      simp
    · rename_i b hb hsz
      obtain ⟨cs, t', lo', hi', h1, h2, h3, h4, h5⟩ := (hs.blk n b hb).ex
      obtain ⟨v, hv1, hv2⟩ := getCell_sound h ho h5
      refine ⟨v, ?_, ⟨_, rfl⟩, hv2⟩
      rintro x hx
      cases hx
      obtain ⟨g1, g2⟩ := run_isAgg (w := w) hsz
      unfold loadVar
      rw [Sem.run_bind, g1]
      simp only [Option.isSome_none, Result.andThen_ok, Bool.false_eq_true, if_false, run_load, cell_row h1]
      show (match cs[(ρ n).sh + o]? with | some v => _ | none => _) = _
      rw [show cs[(ρ n).sh + o]? = some v from hv1]
    · cases h
  · cases h

/- stores -/
theorem run_storeCells {b off : Nat} {t : TypeId} {lo hi : Nat} : ∀ (vs : List Value) (i : Nat) (w : World) (cs : Array Value), w.heap[b]? = some (.cells cs t (lo, hi)) →
    off + i + vs.length ≤ cs.size → (∀ o, o < cs.size → ¬ (lo ≤ o ∧ o < hi)) → (∀ v ∈ vs, v.oneCell' = true) →
    ∃ (w' : World) (cs' : Array Value), (storeCells ⟨b, off, none⟩ vs i).run P w = .ok () w' ∧ Stored w w' b cs' t (lo, hi) ∧ cs'.size = cs.size ∧
      ∀ j, cs'[j]? = if off + i ≤ j ∧ j < off + i + vs.length then vs[j - (off + i)]? else cs[j]?
  | [], i, w, cs, hb, _, _, _ => by
    refine ⟨w, cs, rfl, ⟨hb, fun _ _ => rfl, rfl, rfl, rfl, rfl⟩, rfl, fun j => ?_⟩
    rw [if_neg (by simp only [List.length_nil]; omega)]
  | v :: vs, i, w, cs, hb, hlen, hfz, hone => by
    simp only [List.length_cons] at hlen
    have hcell : w.cell? (Addr.add ⟨b, off, none⟩ i) = some cs[off + i] := by
      rw [addr_add, cell_row hb]; exact Array.getElem?_eq_getElem (by omega)
    have hfr : w.frozen? (Addr.add ⟨b, off, none⟩ i) = false := by
      rw [addr_add]
      simp only [World.frozen?, hb]
      have := hfz (off + i) (by omega)
      simp; omega
    have hset : (w.setCell (Addr.add ⟨b, off, none⟩ i) v).heap[b]? = some (.cells (cs.setIfInBounds (off + i) v) t (lo, hi)) := by
      rw [addr_add]
      simp only [World.setCell, Array.getElem?_modify, if_true, hb, Option.map_some, Option.isSome_none, Bool.false_eq_true, if_false]
    obtain ⟨w', cs', h1, h2, h3, h4⟩ := run_storeCells (off := off) vs (i + 1) (w.setCell (Addr.add ⟨b, off, none⟩ i) v) (cs.setIfInBounds (off + i) v) hset (by rw [Array.size_setIfInBounds]; omega)
      (fun o ho => hfz o (by simpa using ho)) (fun u hu => hone u (List.mem_cons_of_mem _ hu))
    refine ⟨w', cs', ?_, ⟨h2.at', fun j hj => ?_, ?_, h2.os, h2.tape, h2.output⟩, by simpa using h3, fun j => ?_⟩
    · simp only [storeCells, Sem.run_bind]
      rw [run_store P w _ v .plain (hone v (List.mem_cons_self ..)), hcell]
      simp only [hfr, Bool.false_eq_true, if_false, Result.andThen_ok]
      exact h1
    · rw [h2.others j hj]
      rw [addr_add]
      simp only [World.setCell, Array.getElem?_modify]
      rw [if_neg (by omega)]
    · rw [h2.size]; simp
    · rw [h4 j]
      by_cases hj : off + (i + 1) ≤ j ∧ j < off + (i + 1) + vs.length
      · rw [if_pos hj, if_pos (by simp; omega)]
        rw [show j - (off + i) = (j - (off + (i + 1))) + 1 by omega]
        simp
      · rw [if_neg hj]
        by_cases hji : j = off + i
        · subst hji
          rw [if_pos (by simp)]
          simp [show off + i < cs.size by omega]
        · rw [if_neg (by simp; omega)]
          rw [Array.getElem?_setIfInBounds_ne (by omega)]

theorem reps_scalar : ∀ {l : List AV} {vs : List Value}, Reps ρ N l vs → l.all scalar = true → ∀ v ∈ vs, v.oneCell' = true
  | _, _, .nil, _ => fun _ h => by cases h
  | _, _, .cons a l v vs h hs, ha => by
    simp at ha
    intro u hu
    rcases List.mem_cons.1 hu with rfl | hu
    · exact scalar_one h ha.1
    · exact reps_scalar hs (by simpa using ha.2) u hu

theorem setCell_sound {c c' : Cells} {s : Bool} {o : Nat} {av : AV} {v : Value} {ob : List Bool} {cs cs' : Array Value} {sh : Nat} (h : setCell c s o av = some (ob, c')) (ho : Paid ob) (hsc : scalar av = true)
    (hr : Rep ρ N av v) (hc : CRep ρ N c (fun i => cs[sh + i]?)) (hl : sh + clen c ≤ cs.size) :
    sh + o < cs.size ∧ clen c' = clen c ∧ ((∀ j, cs'[j]? = if j = sh + o then some v else cs[j]?) → CRep ρ N c' (fun i => cs'[sh + i]?)) := by
  unfold setCell at h
  cases c with
  | vals l =>
    simp only at h
    split at h
    · rename_i hlt
      obtain ⟨_, rfl⟩ := pure_some h
      refine ⟨by simp [clen] at hl; omega, by simp [clen], fun hcs i a hi => ?_⟩
      show ∃ u, cs'[sh + i]? = some u ∧ _
      rw [hcs]
      by_cases hio : i = o
      · subst hio
        simp [hlt] at hi
        subst hi
        exact ⟨v, by simp, hr⟩
      · rw [List.getElem?_set_ne (Ne.symm hio)] at hi
        rw [if_neg (by omega)]
        exact hc i a hi
    · cases h
  | ints k sz l =>
    simp only at h
    split at h
    · rename_i s' k' x
      split at h
      · rename_i hk
        subst hk
        cases hr with
        | int _ _ _ hx =>
        obtain ⟨o1, u, o2, h1, h2, rfl⟩ := bind_some h
        obtain ⟨_, rfl⟩ := pure_some h2
        have hlt := inB_some hc h1 (paid_append.1 ho).1
        have hcl : clen (.ints k' sz l) = l.length := by
          cases sz with
          | none => rfl
          | some m => exact (hc.1 m rfl).symm
        refine ⟨by omega, by cases sz <;> simp [clen], fun hcs => ⟨by simpa using hc.1, fun i y hi => ?_⟩⟩
        show cs'[sh + i]? = _ ∧ _
        rw [hcs]
        by_cases hio : i = o
        · subst hio
          simp [show i < l.length by omega] at hi
          subst hi
          exact ⟨by simp, hx⟩
        · rw [List.getElem?_set_ne (Ne.symm hio)] at hi
          rw [if_neg (by omega)]
          exact hc.2 i y hi
      · cases h
    · cases h
  | wide l =>
    simp only at h
    split at h
    · rename_i l' hl'
      obtain ⟨_, rfl⟩ := pure_some h
      obtain ⟨s1, s2, s3, v', s4, s5⟩ := setW_spec hl' hsc
      refine ⟨by simp only [clen] at hl; omega, s1, fun hcs => ⟨s3 hc.1, fun i a hi => ?_⟩⟩
      rw [s5 hc.1] at hi
      show ∃ u, cs'[sh + i]? = some u ∧ _
      rw [hcs]
      by_cases hio : i = o
      · subst hio
        rw [if_pos rfl] at hi
        cases hi
        rw [if_pos rfl]
        refine ⟨v, rfl, ?_⟩
        rcases s4 with rfl | ⟨s', k, x, rfl, rfl⟩
        · exact hr
        · cases hr; exact .int _ _ _ (by assumption)
      · rw [if_neg hio] at hi
        rw [if_neg (by omega)]
        exact hc.2 i a hi
    · cases h
  | bools n l =>
    simp only at h
    split at h
    · rename_i s' x
      cases hr
      obtain ⟨hq, o2, h2, _⟩ := chk_bind h ho
      obtain ⟨_, rfl⟩ := pure_some h2
      simp only [decide_eq_true_eq] at hq
      have hn := hc.1
      refine ⟨by simp only [clen] at hl; omega, by simp [clen], fun hcs => ⟨by simpa using hc.1, fun i y hi => ?_⟩⟩
      show cs'[sh + i]? = _
      rw [hcs]
      by_cases hio : i = o
      · subst hio
        simp [show i < l.length by omega] at hi
        subst hi
        simp
      · rw [List.getElem?_set_ne (Ne.symm hio)] at hi
        rw [if_neg (by omega)]
        exact hc.2 i y hi
    · cases h
  | one nr r i a => cases h
  | rows n r => cases h

theorem getElem?_splice {α : Type} {l l' : List α} {o n i : Nat} (hl' : l'.length = n) (hl : o + n ≤ l.length) :
    (l.take o ++ l' ++ l.drop (o + n))[i]? = if o ≤ i ∧ i < o + n then l'[i - o]? else l[i]? := by
  have ho : (l.take o).length = o := by simp; omega
  by_cases h1 : i < o
  · rw [if_neg (by omega), List.append_assoc, List.getElem?_append_left (by omega), List.getElem?_take_of_lt h1]
  · by_cases h2 : i < o + n
    · rw [if_pos ⟨by omega, h2⟩, List.append_assoc, List.getElem?_append_right (by omega), ho, List.getElem?_append_left (by omega)]
    · rw [if_neg (by omega), List.getElem?_append_right (by simp; omega), List.getElem?_drop]
      congr 1
      simp; omega

theorem partsW_rep {mid : List AV} {v : AV} {vx : Value} (h : Rep ρ N v vx) (hp : (partsW mid v).all part1 = true) (hv : alive v = true) :
    Reps ρ N (exp (partsW mid v)) vx.cells.toList ∧ WOk (partsW mid v) := by
  have nospread : ∀ {k n xs}, WOk (spread k n xs) := fun {k n xs} k' n' xs' hm => by simp [spread] at hm
  have one : partsW mid v = [v] → (∀ k n xs, v ≠ .ints k n xs) → exp [v] = [v] → vx.cells = #[vx] → Reps ρ N (exp (partsW mid v)) vx.cells.toList ∧ WOk (partsW mid v) := fun e1 e2 e3 e4 => by
    rw [e1, e3, e4]
    exact ⟨.cons _ _ _ _ h .nil, fun k n xs hm => by simp at hm; exact (e2 k n xs hm.symm).elim⟩
  cases v <;> simp [alive] at hv <;> try (cases h <;> exact one rfl (by intro _ _ _ e; cases e) rfl rfl)
  case bools n l => simp [partsW, part1] at hp
  case ints k n xs =>
    have hn := h.wok
    have hc := cellsOf_rep h rfl
    simp only [partsW]
    split
    · split
      · refine ⟨by simp only [exp, List.append_nil]; exact hc, fun k' n' xs' hm => ?_⟩
        simp at hm
        obtain ⟨rfl, rfl, rfl⟩ := hm
        exact hn
      · rw [exp_spread]; exact ⟨hc, nospread⟩
    · rw [exp_spread]; exact ⟨hc, nospread⟩
  case agg l =>
    have hc := cellsOf_rep h rfl
    simp only [partsW] at hp ⊢
    split
    · rename_i hall
      rw [exp_plain hall]
      refine ⟨hc, fun k n xs hm => ?_⟩
      have := List.all_eq_true.1 hall _ hm
      simp at this
    · rename_i hall
      rw [hall] at hp
      simp [part1] at hp
  case wagg l =>
    have hc := cellsOf_rep h rfl
    cases h with
    | wagg _ _ hw _ => exact ⟨hc, hw⟩
theorem part1_one : ∀ {l : List AV} {vs : List Value}, Reps ρ N (exp l) vs → l.all part1 = true → ∀ v ∈ vs, v.oneCell' = true
  | [], vs, h, _ => by
    cases h; intro v hv; cases hv
  | a :: l, vs, h, hp => by
    simp only [List.all_cons, Bool.and_eq_true] at hp
    have e : exp (a :: l) = exp [a] ++ exp l := by rw [← exp_append]; rfl
    rw [e] at h
    have hl := h.length
    rw [List.length_append] at hl
    have h1 := h.take (exp [a]).length
    have h2 := h.drop (exp [a]).length
    rw [List.take_append_of_le_length (Nat.le_refl _), List.take_length] at h1
    rw [List.drop_append_of_le_length (Nat.le_refl _), List.drop_length, List.nil_append] at h2
    have ih := part1_one h2 hp.2
    have hh : ∀ v ∈ vs.take (exp [a]).length, v.oneCell' = true := by
      refine reps_scalar h1 ?_
      cases a <;> simp [exp, part1, scalar] at hp ⊢
      simp [spread]
    intro v hv
    rw [← List.take_append_drop (exp [a]).length vs] at hv
    rcases List.mem_append.1 hv with hv | hv
    · exact hh v hv
    · exact ih v hv
theorem layW_spec {l l' : List AV} {o n : Nat} {v : AV} {vx : Value} (h : layW l o n v = some l') (hr : Rep ρ N v vx) :
    vx.cells.size = n ∧ o + n ≤ wlen l ∧ (∀ u ∈ vx.cells.toList, u.oneCell' = true) ∧ wlen l' = wlen l ∧ (WOk l → WOk l') ∧
    ∃ q, Reps ρ N q vx.cells.toList ∧ q.length = n ∧ exp l' = (exp l).take o ++ q ++ (exp l).drop (o + n) := by
  unfold layW at h
  split at h
  · rename_i p mid hp hmid
    split at h
    · rename_i r hrr
      split at h
      · rename_i hcond
        simp only [Bool.and_eq_true, decide_eq_true_eq] at hcond
        obtain ⟨⟨c1, c2⟩, c3⟩ := hcond
        cases h
        obtain ⟨q1, q2⟩ := partsW_rep hr c2 c3
        obtain ⟨t1, t2, t3⟩ := takeW_spec hp
        obtain ⟨d1, d2, d3⟩ := dropW_spec hmid
        obtain ⟨e1, e2, e3⟩ := dropW_spec hrr
        have hlen := q1.length
        rw [exp_length, c1] at hlen
        have hmidl : wlen mid = wlen l - o := by rw [← exp_length, d1, List.length_drop, exp_length]
        have hexp : exp (p ++ partsW mid v ++ r) = (exp l).take o ++ exp (partsW mid v) ++ (exp l).drop (o + n) := by
          rw [exp_append, exp_append, t1, e1, d1, List.drop_drop]
        refine ⟨by rw [hlen]; simp, by omega, part1_one q1 c2, ?_, fun hok => ((hok.sub t3).append q2).append (hok.sub fun x hx => d3 _ (e3 _ hx)), _, q1, by rw [exp_length, c1], hexp⟩
        rw [← exp_length, hexp, List.length_append, List.length_append, exp_length, c1, List.length_take, List.length_drop, exp_length]; omega
      · cases h
    · cases h
  · cases h
theorem setAgg_sound {c c' : Cells} {s : Bool} {o n : Nat} {av : AV} {v : Value} {ob : List Bool} {cs cs' : Array Value} {sh : Nat} (h : setAgg c s o n av = some (ob, c')) (ho : Paid ob)
    (hr : Rep ρ N av v) (hc : CRep ρ N c (fun i => cs[sh + i]?)) (hl : sh + clen c ≤ cs.size) :
    v.cells.size = n ∧ sh + o + n ≤ cs.size ∧ (∀ u ∈ v.cells.toList, u.oneCell' = true) ∧ clen c' = clen c ∧
    ((∀ j, cs'[j]? = if sh + o ≤ j ∧ j < sh + o + n then v.cells.toList[j - (sh + o)]? else cs[j]?) → CRep ρ N c' (fun i => cs'[sh + i]?)) := by
  have ints : ∀ {k sz l l'}, CRep ρ N (.ints k sz l) (fun i => cs[sh + i]?) → sh + clen (.ints k sz l) ≤ cs.size → Rep ρ N (.ints k n l') v → o + n ≤ l.length →
      v.cells.size = n ∧ sh + o + n ≤ cs.size ∧ (∀ u ∈ v.cells.toList, u.oneCell' = true) ∧ clen (.ints k sz (l.take o ++ l' ++ l.drop (o + n))) = clen (.ints k sz l) ∧
      ((∀ j, cs'[j]? = if sh + o ≤ j ∧ j < sh + o + n then v.cells.toList[j - (sh + o)]? else cs[j]?) → CRep ρ N (.ints k sz (l.take o ++ l' ++ l.drop (o + n))) (fun i => cs'[sh + i]?)) := by
    intro k sz l l' hc hl hr hlen
    cases hr with
    | ints _ _ _ hn hx =>
    have hcl : clen (.ints k sz l) = l.length := by
      cases sz with
      | none => rfl
      | some m => exact (hc.1 m rfl).symm
    have htot : (l.take o ++ l' ++ l.drop (o + n)).length = l.length := by simp; omega
    refine ⟨by simp [Value.cells, hn], by omega, (by intro u hu; simp [Value.cells] at hu; obtain ⟨x, _, rfl⟩ := hu; rfl), ?_, fun hcs => ⟨fun m hm => by rw [htot]; exact hc.1 m hm, fun i y hi => ?_⟩⟩
    · cases sz with
      | none => simp only [clen]; exact htot
      | some m => rfl
    · rw [getElem?_splice hn hlen] at hi
      show cs'[sh + i]? = _ ∧ _
      rw [hcs]
      split at hi
      · rename_i hio
        rw [if_pos (by omega), show sh + i - (sh + o) = i - o by omega]
        refine ⟨by simp [Value.cells, hi], hx _ (List.mem_of_getElem? hi)⟩
      · rename_i hio
        rw [if_neg (by omega)]
        exact hc.2 i y hi
  unfold setAgg at h
  split at h
  · rename_i k sz l k' n' l'
    split at h
    · rename_i hk
      obtain ⟨rfl, rfl⟩ := hk
      split at h
      · rename_i m
        have hm := hc.1 m rfl
        split at h
        · rename_i hcond
          obtain ⟨rfl, rfl⟩ := hcond
          obtain ⟨_, rfl⟩ := pure_some h
          have := ints hc hl hr (by omega)
          simpa [List.drop_of_length_le (show l.length ≤ n' by omega)] using this
        · split at h
          · obtain ⟨_, rfl⟩ := pure_some h
            exact ints hc hl hr (by omega)
          · cases h
      · obtain ⟨o1, u, o2, h1, h2, rfl⟩ := bind_some h
        obtain ⟨_, rfl⟩ := pure_some h2
        exact ints hc hl hr (inB_some hc h1 (paid_append.1 ho).1)
    · cases h
  · rename_i l
    simp only at h
    split at h
    · rename_i hcond
      simp only [Bool.and_eq_true, decide_eq_true_eq] at hcond
      obtain ⟨⟨⟨h1, h2⟩, h3⟩, h4⟩ := hcond
      obtain ⟨_, rfl⟩ := pure_some h
      have hrs := cellsOf_rep hr h4
      have hlen := hrs.length
      refine ⟨by rw [← h1, hlen]; simp, by simp [clen] at hl; omega, reps_scalar hrs h3, by simp [clen]; omega, fun hcs i a hi => ?_⟩
      rw [getElem?_splice h1 h2] at hi
      show ∃ u, cs'[sh + i]? = some u ∧ _
      rw [hcs]
      split at hi
      · rename_i hio
        rw [if_pos (by omega), show sh + i - (sh + o) = i - o by omega]
        exact hrs.get _ _ hi
      · rename_i hio
        rw [if_neg (by omega)]
        exact hc i a hi
    · cases h
  · rename_i l
    split at h
    · rename_i l' hl'
      obtain ⟨_, rfl⟩ := pure_some h
      obtain ⟨s1, s2, s3, s4, s5, q, s6, s7, s8⟩ := layW_spec hl' hr
      refine ⟨s1, by simp only [clen] at hl; omega, s3, s4, fun hcs => ⟨s5 hc.1, fun i a hi => ?_⟩⟩
      rw [s8, getElem?_splice s7 (by rw [exp_length]; exact s2)] at hi
      show ∃ u, cs'[sh + i]? = some u ∧ _
      rw [hcs]
      split at hi
      · rename_i hio
        rw [if_pos (by omega), show sh + i - (sh + o) = i - o by omega]
        exact s6.get _ _ hi
      · rename_i hio
        rw [if_neg (by omega)]
        exact hc.2 i a hi
    · cases h
  · rename_i m l n' l'
    split at h
    · rename_i hcond
      obtain ⟨rfl, rfl, rfl, rfl⟩ := hcond
      obtain ⟨_, rfl⟩ := pure_some h
      cases hr with
      | bools _ _ hn =>
      refine ⟨by simp [Value.cells, hn], by simp only [clen] at hl; omega, (by intro u hu; simp [Value.cells] at hu; rcases hu with ⟨_, rfl⟩ | ⟨_, rfl⟩ <;> rfl), rfl, fun hcs => ⟨hn, fun i y hi => ?_⟩⟩
      have hlt : i < l'.length := (List.getElem?_eq_some_iff.1 hi).1
      show cs'[sh + i]? = _
      rw [hcs, if_pos (by omega), show sh + i - (sh + 0) = i by omega]
      simp [Value.cells, hi]
    · cases h
  · cases h

theorem putC_rep {b b' : Blk} {at' sh : Nat} {c c' : Cells} {cs cs' : Array Value} (h : putC b at' c' = some b') (hr : rowC b at' = some c) (hc : CRep ρ N b.c (fun i => cs[sh + i]?)) (hl : clen c' = clen c)
    (hc' : CRep ρ N c' (fun i => cs'[sh + at' + i]?)) (ho : ∀ j, j < sh + at' ∨ sh + at' + clen c ≤ j → cs'[j]? = cs[j]?) : b'.rw = b.rw ∧ clen b'.c = clen b.c ∧ CRep ρ N b'.c (fun i => cs'[sh + i]?) := by
  unfold putC at h
  split at h
  · rename_i l k2 sz2 ys hbl
    split at h
    · rename_i k n xs p1
      split at h
      · rename_i hkk
        subst hkk
        split at h
        · rename_i l' hp
          cases h
          unfold rowC at hr
          rw [hbl] at hr hc
          simp only at hr
          obtain ⟨k', n', xs', p1', p2, p3, p4⟩ := putW_spec hp
          rw [p1] at p1'
          cases p1'
          rw [p1] at hr
          cases hr
          obtain ⟨w1, w2, w3⟩ := partW_spec p1
          have hcl : clen (.ints k sz2 ys) = ys.length := by
            cases sz2 with
            | none => rfl
            | some m => exact (hc'.1 m rfl).symm
          rw [hcl] at hl
          simp only [clen] at hl ho
          refine ⟨rfl, by rw [hbl]; exact p2, p3 hc.1 hl, fun i a hi => ?_⟩
          rw [p4] at hi
          split at hi
          · rename_i hio
            cases hi
            have hlt : i - at' < ys.length := by omega
            obtain ⟨g1, g2⟩ := hc'.2 (i - at') ys[i - at'] (by simp [hlt])
            refine ⟨.int k ys[i - at'], by rw [← g1]; show cs'[sh + i]? = cs'[sh + at' + (i - at')]?; congr 1; omega, ?_⟩
            simp only [List.getD, List.getElem?_eq_getElem hlt, Option.getD_some]
            exact .int _ _ _ g2
          · rename_i hio
            obtain ⟨u, g1, g2⟩ := hc.2 i a hi
            exact ⟨u, by show cs'[sh + i]? = _; rw [ho _ (by omega)]; exact g1, g2⟩
        · cases h
      · cases h
    · cases h
  · cases h

theorem rowC_ints {b : Blk} {at' : Nat} {c : Cells} (h : rowC b at' = some c) : ∃ k n xs, c = .ints k (some n) xs := by
  unfold rowC at h
  split at h
  · split at h
    · cases h; exact ⟨_, _, _, rfl⟩
    · cases h
  · cases h
theorem setCell_in {b : Blk} {at' : Nat} {c c' : Cells} {s : Bool} {o : Nat} {v : AV} {ob : List Bool} {f : Nat → Option Value} (h : setCell c s o v = some (ob, c')) (ho : Paid ob) (hr : rowC b at' = some c) (hc : CRep ρ N c f) : o < clen c := by
  obtain ⟨k, n, xs, rfl⟩ := rowC_ints hr
  unfold setCell at h
  simp only at h
  split at h
  · split at h
    · obtain ⟨o1, u, o2, h1, h2, rfl⟩ := bind_some h
      have := inB_some hc h1 (paid_append.1 ho).1
      have := hc.1 n rfl
      simp only [clen]; omega
    · cases h
  · cases h
theorem setAgg_in {b : Blk} {at' : Nat} {c c' : Cells} {s : Bool} {o sz : Nat} {v : AV} {ob : List Bool} {f : Nat → Option Value} (h : setAgg c s o sz v = some (ob, c')) (ho : Paid ob) (hr : rowC b at' = some c) (hc : CRep ρ N c f) : o + sz ≤ clen c := by
  obtain ⟨k, n, xs, rfl⟩ := rowC_ints hr
  have hn := hc.1 n rfl
  unfold setAgg at h
  split at h
  · rename_i k1 sz1 l1 k' n' l' he
    cases he
    split at h
    · split at h
      · rename_i m hm
        cases hm
        split at h
        · simp only [clen]; omega
        · split at h
          · simp only [clen]; omega
          · cases h
      · obtain ⟨o1, u, o2, h1, h2, rfl⟩ := bind_some h
        have := inB_some hc h1 (paid_append.1 ho).1
        simp only [clen]; omega
    · cases h
  · rename_i he; cases he
  · rename_i he; cases he
  · rename_i he; cases he
  · cases h
theorem storeA_sound {w0 : World} {S : Nat → Prop} {m m' : Mem} {t : TypeId} {a x : AV} {va vx : Value} {ob : List Bool} (h : storeA P m t a x = some (ob, m')) (ho : Paid ob)
    (ha : Rep ρ N a va) (hx : Rep ρ N x vx) (hi : Inv w0 S N ρ (getName m) w) :
    ∃ w', (Instr.storeAt t va vx).run P w = .ok () w' ∧ Inv w0 S N ρ (getName m') w' ∧ m'.length = m.length := by
  unfold storeA at h
  split at h
  · rename_i s n b o
    cases ha with
    | wptr _ _ _ _ hn =>
    split at h
    · rename_i bl sz hb hsz
      split at h
      · rename_i hrw
        split at h
        · rename_i c hrc
          obtain ⟨o1, c', o2, h1, h2, rfl⟩ := bind_some h
          split at h2
          · rename_i bl' hput
            obtain ⟨_, rfl⟩ := pure_some h2
            obtain ⟨cs, t', lo', hi', g1, g2, g3, g4, g5⟩ := (hi.sim.blk n bl hb).ex
            obtain ⟨rr1, rr2⟩ := rowC_rep hrc g5
            simp only [← Nat.add_assoc] at rr1
            obtain ⟨a1, a2, a3, a4, a5⟩ := setAgg_sound (cs' := #[]) h1 (paid_append.1 ho).1 hx rr1 (by omega)
            obtain ⟨w', cs', r1, r2, r3, r4⟩ := run_storeCells (P := P) (off := (ρ n).sh + (b + o)) vx.cells.toList 0 w cs g1 (by simp [a1]; omega) (g3 hrw) a3
            obtain ⟨_, _, _, _, a6⟩ := setAgg_sound (cs' := cs') h1 (paid_append.1 ho).1 hx rr1 (by omega)
            obtain ⟨q1, q2⟩ := run_isAgg (w := w) hsz
            have hrow : CRep ρ N c' (fun i => cs'[(ρ n).sh + b + i]?) := a6 fun j => by rw [r4 j]; simp [a1, Nat.add_assoc]
            have hin : o + sz ≤ clen c := setAgg_in h1 (paid_append.1 ho).1 hrc rr1
            obtain ⟨p1, p2, p3⟩ := putC_rep hput hrc g5 a4 hrow (fun j hj => by rw [r4 j, if_neg (by simp [a1]; omega)])
            refine ⟨w', ?_, hi.store hb hrw g1 r2 r3 (c := bl'.c) (by omega) p3 (fun i bi h => ?_), by simp⟩
            · simp only [Instr.storeAt, Instr.sureAddr, Sem.run_bind, Sem.run_pure, Result.andThen_ok, storeVar, q2 sz rfl, a1]
              simpa using r1
            · rcases getName_set h with ⟨e1, e2⟩ | e
              · subst e2
                refine Or.inl ⟨e1, ?_⟩
                cases bi
                simp only at p1 ⊢
                rw [p1, hrw]
              · exact Or.inr e
          · cases h2
        · cases h
      · cases h
    · rename_i bl hb hsz
      split at h
      · rename_i hrw
        simp only [Bool.and_eq_true] at hrw
        obtain ⟨⟨hrw, hsc⟩, hone1⟩ := hrw
        split at h
        · rename_i c hrc
          obtain ⟨o1, c', o2, h1, h2, rfl⟩ := bind_some h
          split at h2
          · rename_i bl' hput
            obtain ⟨_, rfl⟩ := pure_some h2
            obtain ⟨cs, t', lo', hi', g1, g2, g3, g4, g5⟩ := (hi.sim.blk n bl hb).ex
            obtain ⟨rr1, rr2⟩ := rowC_rep hrc g5
            simp only [← Nat.add_assoc] at rr1
            have hcells := scalar_cells hx hsc
            have hone := scalar_one hx hsc
            obtain ⟨hlt, a2, _⟩ := setCell_sound (cs' := #[]) h1 (paid_append.1 ho).1 hsc hx rr1 (by omega)
            obtain ⟨w', cs', r1, r2, r3, r4⟩ := run_storeCells (P := P) (off := (ρ n).sh + (b + o)) [vx] 0 w cs g1 (by simp; omega) (g3 hrw) (by simpa using hone)
            obtain ⟨_, _, a1⟩ := setCell_sound (cs' := cs') h1 (paid_append.1 ho).1 hsc hx rr1 (by omega)
            have hrow : CRep ρ N c' (fun i => cs'[(ρ n).sh + b + i]?) := a1 fun j => by
              rw [r4 j]
              by_cases hj : j = (ρ n).sh + b + o
              · subst hj; simp [Nat.add_assoc]
              · rw [if_neg (by simp; omega), if_neg hj]
            have hin : o < clen c := setCell_in h1 (paid_append.1 ho).1 hrc rr1
            obtain ⟨p1, p2, p3⟩ := putC_rep hput hrc g5 a2 hrow (fun j hj => by rw [r4 j, if_neg (by simp; omega)])
            obtain ⟨q1, q2⟩ := run_isAgg (w := w) hsz
            refine ⟨w', ?_, hi.store hb hrw g1 r2 r3 (c := bl'.c) (by omega) p3 (fun i bi h => ?_), by simp⟩
            · have h1' : szOf P t = some 1 := is1_spec hone1
              simp only [Instr.storeAt, Instr.sureAddr, Sem.run_bind, Sem.run_pure, Result.andThen_ok, storeVar, run_sizeOf h1', hcells]
              simpa using r1
            · rcases getName_set h with ⟨e1, e2⟩ | e
              · subst e2
                refine Or.inl ⟨e1, ?_⟩
                cases bi
                simp only at p1 ⊢
                rw [p1, hrw]
              · exact Or.inr e
          · cases h2
        · cases h
      · cases h
    · cases h
  · rename_i s n o
    cases ha with
    | ptr _ _ _ hn =>
    split at h
    · rename_i b sz hb hsz
      split at h
      · rename_i hrw
        obtain ⟨o1, c, o2, h1, h2, rfl⟩ := bind_some h
        obtain ⟨_, rfl⟩ := pure_some h2
        obtain ⟨cs, t', lo', hi', g1, g2, g3, g4, g5⟩ := (hi.sim.blk n b hb).ex
        obtain ⟨a1, a2, a3, a4, a5⟩ := setAgg_sound (cs' := #[]) h1 (paid_append.1 ho).1 hx g5 (by omega)
        obtain ⟨w', cs', r1, r2, r3, r4⟩ := run_storeCells (P := P) (off := (ρ n).sh + o) vx.cells.toList 0 w cs g1 (by simp [a1]; omega) (g3 hrw) a3
        obtain ⟨_, _, _, _, a6⟩ := setAgg_sound (cs' := cs') h1 (paid_append.1 ho).1 hx g5 (by omega)
        obtain ⟨q1, q2⟩ := run_isAgg (w := w) hsz
        refine ⟨w', ?_, hi.store hb hrw g1 r2 r3 (by omega) (a6 fun j => ?_) (fun i bi h => getName_set h), by simp⟩
        · simp only [Instr.storeAt, Instr.sureAddr, Sem.run_bind, Sem.run_pure, Result.andThen_ok, storeVar, q2 sz rfl, a1]
          simpa using r1
        · rw [r4 j]; simp [a1]
      · cases h
    · rename_i b hb hsz
      split at h
      · rename_i hrw
        simp only [Bool.and_eq_true] at hrw
        obtain ⟨⟨hrw, hsc⟩, hone1⟩ := hrw
        obtain ⟨o1, c, o2, h1, h2, rfl⟩ := bind_some h
        obtain ⟨_, rfl⟩ := pure_some h2
        obtain ⟨cs, t', lo', hi', g1, g2, g3, g4, g5⟩ := (hi.sim.blk n b hb).ex
        have hcells := scalar_cells hx hsc
        have hone := scalar_one hx hsc
        obtain ⟨hlt, a2, _⟩ := setCell_sound (cs' := #[]) h1 (paid_append.1 ho).1 hsc hx g5 (by omega)
        obtain ⟨w', cs', r1, r2, r3, r4⟩ := run_storeCells (P := P) (off := (ρ n).sh + o) [vx] 0 w cs g1 (by simp; omega) (g3 hrw) (by simpa using hone)
        obtain ⟨_, _, a1⟩ := setCell_sound (cs' := cs') h1 (paid_append.1 ho).1 hsc hx g5 (by omega)
        obtain ⟨q1, q2⟩ := run_isAgg (w := w) hsz
        refine ⟨w', ?_, hi.store hb hrw g1 r2 r3 (by omega) (a1 fun j => ?_) (fun i bi h => getName_set h), by simp⟩
        · have h1' : szOf P t = some 1 := is1_spec hone1
          simp only [Instr.storeAt, Instr.sureAddr, Sem.run_bind, Sem.run_pure, Result.andThen_ok, storeVar, run_sizeOf h1', hcells]
          simpa using r1
        · rw [r4 j]
          by_cases hj : j = (ρ n).sh + o
          · subst hj; simp
          · rw [if_neg (by simp; omega), if_neg hj]
      · cases h
    · cases h
  · cases h

/- numbers -/
theorem inR_wrap (k : IntKind) (n : Int) : inR k (k.wrap n) = true := by
  unfold inR lo hi IntKind.wrap
  cases k <;> simp [IntKind.bits, IntKind.signed] <;> (try split) <;> omega
theorem inR_iff {k : IntKind} {n : Int} : inR k n = true ↔ lo k ≤ n ∧ n ≤ hi k := by simp [inR]
theorem inR_tmod {k : IntKind} {x y : Int} (hx : inR k x = true) : inR k (x.tmod y) = true := by
  rw [inR_iff] at *
  have h0 : lo k ≤ 0 := by cases k <;> simp [lo]
  have h1 : 0 ≤ hi k := by cases k <;> simp [hi]
  have hn := Int.natAbs_tmod x y
  have hm : x.natAbs % y.natAbs ≤ x.natAbs := Nat.mod_le _ _
  rcases Int.le_total 0 x with h | h
  · have := Int.tmod_nonneg y h
    omega
  · have h4 : x.tmod y = - ((-x).tmod y) := by rw [Int.neg_tmod]; omega
    have h3 := Int.tmod_nonneg y (show 0 ≤ -x by omega)
    omega
theorem inR_ishr {k : IntKind} {x y : Int} (hx : inR k x = true) : inR k (ishr k x y) = true := by
  unfold ishr
  rw [inR_iff] at *
  have h0 : lo k ≤ 0 := by cases k <;> simp [lo]
  have h1 : 0 ≤ hi k := by cases k <;> simp [hi]
  have hp : (0 : Int) < 2 ^ (min y.toNat k.bits) := Int.pow_pos (by omega)
  rw [Int.fdiv_eq_ediv_of_nonneg _ (by omega)]
  generalize (2 : Int) ^ (min y.toNat k.bits) = p at hp
  rcases Int.le_total 0 x with h | h
  · have := Int.ediv_le_self p h
    have := Int.ediv_nonneg h (show 0 ≤ p by omega)
    omega
  · have h2 : x * p ≤ x * 1 := Int.mul_le_mul_of_nonpos_left h (by omega)
    have h3 : x ≤ x / p := Int.le_ediv_of_mul_le hp (by omega)
    have h4 := Int.ediv_nonpos_of_nonpos_of_neg h hp
    omega

theorem intOp_sound {op : BinOp} {k : IntKind} {s s' : Bool} {x y : Int} {ob : List Bool} {av : AV} (h : intOp op k s x s' y = some (ob, av)) (ho : Paid ob)
    (hx : inR k x = true) (t : TypeId) :
    ∃ v, (binOp op t (.int k x) (.int k y)).run P w = .ok v w ∧ Rep ρ N av v := by
  unfold intOp at h
  split at h
  · obtain ⟨_, rfl⟩ := pure_some h; exact ⟨_, by rw [binOp_add]; rfl, .int _ _ _ (inR_wrap _ _)⟩
  · obtain ⟨_, rfl⟩ := pure_some h; exact ⟨_, by rw [binOp_sub]; rfl, .int _ _ _ (inR_wrap _ _)⟩
  · obtain ⟨_, rfl⟩ := pure_some h; exact ⟨_, by rw [binOp_mul]; rfl, .int _ _ _ (inR_wrap _ _)⟩
  · obtain ⟨hc, o2, h2, _⟩ := chk_bind h ho
    obtain ⟨_, rfl⟩ := pure_some h2
    simp at hc
    exact ⟨_, by rw [binOp_quo, Op.intDiv, if_neg hc]; rfl, .int _ _ _ (inR_wrap _ _)⟩
  · obtain ⟨hc, o2, h2, _⟩ := chk_bind h ho
    obtain ⟨_, rfl⟩ := pure_some h2
    simp at hc
    exact ⟨_, by rw [binOp_rem, Op.intDiv, if_neg hc]; rfl, .int _ _ _ (inR_tmod hx)⟩
  · obtain ⟨_, rfl⟩ := pure_some h; exact ⟨_, by rw [binOp_and]; rfl, .int _ _ _ (inR_wrap _ _)⟩
  · obtain ⟨_, rfl⟩ := pure_some h; exact ⟨_, by rw [binOp_or]; rfl, .int _ _ _ (inR_wrap _ _)⟩
  · obtain ⟨_, rfl⟩ := pure_some h; exact ⟨_, by rw [binOp_xor]; rfl, .int _ _ _ (inR_wrap _ _)⟩
  · obtain ⟨_, rfl⟩ := pure_some h; exact ⟨_, by rw [binOp_andNot]; rfl, .int _ _ _ (inR_wrap _ _)⟩
  · obtain ⟨_, rfl⟩ := pure_some h; exact ⟨_, by rw [binOp_eql]; rfl, .bool _ _⟩
  · obtain ⟨_, rfl⟩ := pure_some h; exact ⟨_, by rw [binOp_neq]; rfl, .bool _ _⟩
  · obtain ⟨_, rfl⟩ := pure_some h; exact ⟨_, by rw [binOp_lss]; rfl, .bool _ _⟩
  · obtain ⟨_, rfl⟩ := pure_some h; exact ⟨_, by rw [binOp_leq]; rfl, .bool _ _⟩
  · obtain ⟨_, rfl⟩ := pure_some h; exact ⟨_, by rw [binOp_gtr]; rfl, .bool _ _⟩
  · obtain ⟨_, rfl⟩ := pure_some h; exact ⟨_, by rw [binOp_geq]; rfl, .bool _ _⟩
  · cases h

/- equality of arrays of numbers -/
theorem run_part_int {e : TypeId} {k : IntKind} {l : List Int} {i : Nat} (he : P.underlying e = some (.int k)) (hi : i < l.length) :
    (part e (l.map (Value.int k)).toArray i).run P w = .ok (.int k l[i]) w := by
  have hagg : (isAgg e).run P w = .ok false w := by simp [isAgg, run_underlying he]
  simp [part, hagg, hi]

theorem run_equalIn_int {d : Nat} {e : TypeId} {k : IntKind} {x y : Int} (he : P.underlying e = some (.int k)) :
    (Op.equalIn (d + 1) e (.int k x) (.int k y)).run P w = .ok (x == y) w := by
  simp [Op.equalIn, run_underlying he]

theorem run_equalIn_ints {d : Nat} {t e : TypeId} {k : IntKind} {a b : List Int} {len : Nat} (ht : P.underlying t = some (.array len e)) (he : P.underlying e = some (.int k))
    (h1 : szOf P e = some 1) (ha : a.length = len) (hb : b.length = len) :
    (Op.equalIn (d + 2) t (.agg (a.map (Value.int k)).toArray) (.agg (b.map (Value.int k)).toArray)).run P w = .ok (decide (a = b)) w := by
  rw [Op.equalIn]
  simp only [Sem.run_bind, run_underlying ht, Result.andThen_ok, run_sizeOf h1, Nat.mul_one, Std.Legacy.Range.forIn_eq_forIn_range']
  have key : ∀ n s, s + n ≤ len → Sem.run P
          (forIn (List.range' s n) (none, ()) fun i (_ : Option Bool × Unit) => do
            let x ← part e (List.map (Value.int k) a).toArray i
            let y ← part e (List.map (Value.int k) b).toArray i
            let r ← Op.equalIn (d + 1) e x y
            if (!r) = true then pure (ForInStep.done (some false, ())) else pure (ForInStep.yield (none, ()))) w =
        .ok (if (a.drop s).take n = (b.drop s).take n then (none, ()) else (some false, ())) w := by
    intro n
    induction n with
    | zero => intro s _; simp
    | succ n ih =>
      intro s hs
      have h2 : s < a.length := by omega
      have h3 : s < b.length := by omega
      rw [List.range'_succ, List.forIn_cons]
      simp only [Sem.run_bind, run_part_int he h2, run_part_int he h3, Result.andThen_ok, run_equalIn_int he]
      rw [List.drop_eq_getElem_cons h2, List.drop_eq_getElem_cons h3, List.take_succ_cons, List.take_succ_cons]
      by_cases hab : a[s] = b[s]
      · have := ih (s + 1) (by omega)
        simp only [hab, beq_self_eq_true, Bool.not_true, Bool.false_eq_true, if_false, Sem.run_pure, Result.andThen_ok]

        rw [this]
        simp
      · have hb0 : (a[s] == b[s]) = false := by simpa using hab
        simp [hb0, hab]
  have h0 := key len 0 (by omega)

  have hsz : ([:len] : Std.Legacy.Range).size = len := by simp [Std.Legacy.Range.size]
  rw [hsz, h0]
  simp only [List.drop_zero, List.take_of_length_le (show a.length ≤ len by omega), List.take_of_length_le (show b.length ≤ len by omega)]
  by_cases hab : a = b <;> simp [hab]

theorem u8_inj {x y : Int} (hx : 0 ≤ x ∧ x < 256) (hy : 0 ≤ y ∧ y < 256) (h : UInt8.ofNat x.toNat = UInt8.ofNat y.toNat) : x = y := by
  have := congrArg UInt8.toNat h
  simp [UInt8.toNat_ofNat'] at this
  omega
theorem mkStr_inj : ∀ {a b : List Int}, (∀ x ∈ a, 0 ≤ x ∧ x < 256) → (∀ x ∈ b, 0 ≤ x ∧ x < 256) → (a.map fun x => UInt8.ofNat x.toNat) = (b.map fun x => UInt8.ofNat x.toNat) → a = b
  | [], [], _, _, _ => rfl
  | [], _ :: _, _, _, h => by simp at h
  | _ :: _, [], _, _, h => by simp at h
  | x :: a, y :: b, ha, hb, h => by
    simp only [List.map_cons, List.cons.injEq] at h
    rw [u8_inj (ha x (by simp)) (hb y (by simp)) h.1, mkStr_inj (fun z hz => ha z (by simp [hz])) (fun z hz => hb z (by simp [hz])) h.2]
theorem mkStr_eq {a b : List Int} (ha : ∀ x ∈ a, 0 ≤ x ∧ x < 256) (hb : ∀ x ∈ b, 0 ≤ x ∧ x < 256) : ((mkStr a).toList == (mkStr b).toList) = decide (a = b) := by
  unfold mkStr
  rw [ByteArray.toList_mk, ByteArray.toList_mk]
  by_cases h : a = b
  · subst h; simp
  · have : ¬ (a.map fun x => UInt8.ofNat x.toNat) = (b.map fun x => UInt8.ofNat x.toNat) := fun e => h (mkStr_inj ha hb e)
    simp [h, this]

theorem eqGuard_agg {op : BinOp} {t : TypeId} {x y : Operand} {a b : Array Value} (h : P.eqGuardType P.depth t = false) : (eqGuard op t x y (.agg a) (.agg b)).run P w = .ok () w := by
  cases op <;> first | rfl | simp [eqGuard, h]

theorem equal_ints {t e : TypeId} {k : IntKind} {a b : List Int} {len : Nat} (ht : P.underlying t = some (.array len e)) (he : P.underlying e = some (.int k))
    (h1 : szOf P e = some 1) (ha : a.length = len) (hb : b.length = len) :
    (Op.equal t (.agg (a.map (Value.int k)).toArray) (.agg (b.map (Value.int k)).toArray)).run P w = .ok (decide (a = b)) w :=
  run_equalIn_ints (d := 9998) ht he h1 ha hb

theorem run_equalIn_bool {d : Nat} {t : TypeId} {a b : Bool} (ht : P.underlying t = some .bool) : (Op.equalIn (d + 1) t (.bool a) (.bool b)).run P w = .ok (a == b) w := by
  rw [Op.equalIn]
  simp only [Sem.run_bind, run_underlying ht, Result.andThen_ok, Sem.run_pure]
theorem equal_bool {t : TypeId} {a b : Bool} (ht : P.underlying t = some .bool) : (Op.equal t (.bool a) (.bool b)).run P w = .ok (a == b) w :=
  run_equalIn_bool (d := 9999) ht

theorem nilEq_sound {op : BinOp} {t : TypeId} {x y : AV} {vx vy : Value} {X Y : Operand} {b : Bool} (h : nilEq P t x y = some b) (hx : Rep ρ N x vx) (hy : Rep ρ N y vy) :
    (eqGuard op t X Y vx vy).run P w = .ok () w ∧ (Op.equal t vx vy).run P w = .ok b w ∧ binOp .eql t vx vy = (do pure (.bool (← Op.equal t vx vy))) ∧ binOp .neq t vx vy = (do pure (.bool (!(← Op.equal t vx vy)))) := by
  unfold nilEq at h
  split at h <;> (try cases h) <;> rename_i hu <;> cases hx <;> cases hy <;>
    refine ⟨by cases op <;> rfl, ?_, rfl, rfl⟩ <;>
    (show (Op.equalIn (9999 + 1) t _ _).run P w = _; unfold Op.equalIn; simp only [Sem.run_bind, run_underlying hu, Result.andThen_ok]; rfl)
theorem binA_sound {op : BinOp} {t : TypeId} {x y : AV} {vx vy : Value} {X Y : Operand} {ob : List Bool} {av : AV} (h : binA P op t x y = some (ob, av)) (ho : Paid ob)
    (hx : Rep ρ N x vx) (hy : Rep ρ N y vy) :
    ∃ v, (do eqGuard op t X Y vx vy; binOp op t vx vy : Sem Value).run P w = .ok v w ∧ Rep ρ N av v := by
  unfold binA at h
  split at h
  · rename_i s k a s' k' b
    cases hx with
    | int _ _ _ ha =>
    cases hy with
    | int _ _ _ hb =>
    rw [eqGuard_at_int]
    simp only [Sem.run_bind, Sem.run_pure, Result.andThen_ok]
    split at h
    · obtain ⟨hc, o2, h2, _⟩ := chk_bind h ho
      obtain ⟨_, rfl⟩ := pure_some h2
      simp at hc
      exact ⟨_, by rw [binOp_shl, Op.shift, if_neg (by omega)]; rfl, .int _ _ _ (inR_wrap _ _)⟩
    · obtain ⟨hc, o2, h2, _⟩ := chk_bind h ho
      obtain ⟨_, rfl⟩ := pure_some h2
      simp at hc
      exact ⟨_, by rw [binOp_shr, Op.shift, if_neg (by omega)]; rfl, .int _ _ _ (inR_ishr ha)⟩
    · split at h
      · rename_i hk
        subst hk
        exact intOp_sound h ho ha t
      · cases h
  · rename_i s a s' b
    cases hx with
    | bool =>
    cases hy with
    | bool =>
    rw [eqGuard_at_bool]
    simp only [Sem.run_bind, Sem.run_pure, Result.andThen_ok]
    split at h
    · rename_i ht
      obtain ⟨_, rfl⟩ := pure_some h
      exact ⟨_, by simp only [binOp, Sem.run_bind, equal_bool ht, Result.andThen_ok]; rfl, .bool _ _⟩
    · rename_i ht
      obtain ⟨_, rfl⟩ := pure_some h
      exact ⟨_, by simp only [binOp, Sem.run_bind, equal_bool ht, Result.andThen_ok]; rfl, .bool _ _⟩
    · cases h
  · rename_i s a s' b
    cases hx with
    | str _ _ ha =>
    cases hy with
    | str _ _ hb =>
    rw [eqGuard_at_string]
    simp only [Sem.run_bind, Sem.run_pure, Result.andThen_ok]
    split at h
    · obtain ⟨_, rfl⟩ := pure_some h
      exact ⟨_, by rw [binOp_string_eql, mkStr_eq ha hb]; rfl, .bool _ _⟩
    · obtain ⟨_, rfl⟩ := pure_some h
      exact ⟨_, by rw [binOp_string_neq, mkStr_eq ha hb]; rfl, .bool _ _⟩
    · obtain ⟨hc, o2, h2, _⟩ := chk_bind h ho
      obtain ⟨_, rfl⟩ := pure_some h2
      simp only [decide_eq_true_eq] at hc
      have hz : ∀ l : List Int, (mkStr l).size = l.length := fun l => by simp [mkStr, ByteArray.size]
      refine ⟨.string (mkStr (a ++ b)), ?_, .str _ _ fun x hx => (List.mem_append.1 hx).elim (ha x) (hb x)⟩
      have happ : mkStr a ++ mkStr b = mkStr (a ++ b) := by
        apply ByteArray.ext
        simp [mkStr]
      show (Op.stringOp .add (mkStr a) (mkStr b)).run P w = _
      unfold Op.stringOp
      simp only [hz]
      rw [if_neg (by simp only [IntKind.max, IntKind.bits, IntKind.signed]; omega), happ]
      rfl
    · cases h
  · rename_i k n a k' n' b
    cases hx with
    | ints _ _ _ hn ha =>
    cases hy with
    | ints _ _ _ hn' hb =>
    split at h
    · rename_i len e ht hg
      split at h
      · rename_i hcond
        simp only [Bool.and_eq_true, decide_eq_true_eq] at hcond
        obtain ⟨⟨⟨⟨hk, h1⟩, h2⟩, h3⟩, h4⟩ := hcond
        subst hk
        obtain ⟨_, rfl⟩ := pure_some h
        refine ⟨_, ?_, .bool _ _⟩
        rw [Sem.run_bind, eqGuard_agg hg]
        simp only [Result.andThen_ok, binOp, Sem.run_bind, equal_ints ht (isK_spec h3) (is1_spec h4) (hn.trans h1) (hn'.trans h2)]
        rfl
      · cases h
    · rename_i len e ht hg
      split at h
      · rename_i hcond
        simp only [Bool.and_eq_true, decide_eq_true_eq] at hcond
        obtain ⟨⟨⟨⟨hk, h1⟩, h2⟩, h3⟩, h4⟩ := hcond
        subst hk
        obtain ⟨_, rfl⟩ := pure_some h
        refine ⟨_, ?_, .bool _ _⟩
        rw [Sem.run_bind, eqGuard_agg hg]
        simp only [Result.andThen_ok, binOp, Sem.run_bind, equal_ints ht (isK_spec h3) (is1_spec h4) (hn.trans h1) (hn'.trans h2)]
        rfl
      · cases h
    · cases h
  · split at h
    · rename_i b hb
      obtain ⟨_, rfl⟩ := pure_some h
      obtain ⟨h1, h2, h3, h4⟩ := nilEq_sound (op := .eql) (X := X) (Y := Y) (w := w) hb hx hy
      exact ⟨_, by rw [Sem.run_bind, h1]; simp only [Result.andThen_ok, h3, Sem.run_bind, h2]; rfl, .bool _ _⟩
    · rename_i b hb
      obtain ⟨_, rfl⟩ := pure_some h
      obtain ⟨h1, h2, h3, h4⟩ := nilEq_sound (op := .neq) (X := X) (Y := Y) (w := w) hb hx hy
      exact ⟨_, by rw [Sem.run_bind, h1]; simp only [Result.andThen_ok, h4, Sem.run_bind, h2]; rfl, .bool _ _⟩
    · cases h

theorem unA_sound {op : UnOp} {x : AV} {vx : Value} {ob : List Bool} {av : AV} (h : unA op x = some (ob, av)) (hx : Rep ρ N x vx) :
    ∃ v, (Op.unary op vx).run P w = .ok v w ∧ Rep ρ N av v := by
  unfold unA at h
  split at h
  · cases hx; obtain ⟨_, rfl⟩ := pure_some h; exact ⟨_, rfl, .int _ _ _ (inR_wrap _ _)⟩
  · cases hx; obtain ⟨_, rfl⟩ := pure_some h; exact ⟨_, rfl, .int _ _ _ (inR_wrap _ _)⟩
  · cases hx; obtain ⟨_, rfl⟩ := pure_some h; exact ⟨_, rfl, .bool _ _⟩
  · cases h

theorem getNums_sound {c : Cells} {k : IntKind} {s : Bool} {o n : Nat} {ob : List Bool} {l : List Int} {f : Nat → Option Value} (h : getNums c k s o n = some (ob, l)) (ho : Paid ob) (hc : CRep ρ N c f) :
    l.length = n ∧ (∀ (i : Nat) (x : Int), l[i]? = some x → f (o + i) = some (.int k x)) ∧ ∀ x ∈ l, inR k x = true := by
  have ints : ∀ {sz q}, CRep ρ N (.ints k sz q) f → o + n ≤ q.length → ((q.drop o).take n).length = n ∧
      (∀ (i : Nat) (x : Int), ((q.drop o).take n)[i]? = some x → f (o + i) = some (.int k x)) ∧ ∀ x ∈ ((q.drop o).take n), inR k x = true := by
    intro sz q hc hl
    refine ⟨by simp; omega, fun i x hx => ?_, fun x hx => crep_all hc x (List.mem_of_mem_drop (List.mem_of_mem_take hx))⟩
    have hi : i < n := by have := (List.getElem?_eq_some_iff.1 hx).1; simp at this; omega
    rw [List.getElem?_take_of_lt hi, List.getElem?_drop] at hx
    exact (hc.2 _ x hx).1
  unfold getNums at h
  cases c with
  | vals q =>
    simp only at h
    split at h
    · rename_i hl
      split at h
      · rename_i ns hns
        obtain ⟨_, rfl⟩ := pure_some h
        obtain ⟨h1, h2⟩ := isInts_spec hns
        have h0 : ∀ (i : Nat) (a : AV), ((q.drop o).take n)[i]? = some a → ∃ v, f (o + i) = some v ∧ Rep ρ N a v := by
          intro i a ha
          have hi : i < n := by have := (List.getElem?_eq_some_iff.1 ha).1; simp at this; omega
          rw [List.getElem?_take_of_lt hi, List.getElem?_drop] at ha
          exact hc _ a ha
        obtain ⟨vs, h3, h4⟩ := list_of_cells h0
        obtain ⟨h5, h6⟩ := h2 h3
        subst h5
        exact ⟨by rw [h1]; simp; omega, fun i x hx => h4 i _ (by simp [hx]), h6⟩
      · cases h
    · cases h
  | bools n l => cases h
  | one nr r i a => cases h
  | rows n r => cases h
  | ints k' sz q =>
    simp only at h
    split at h
    · rename_i hk
      subst hk
      split at h
      · rename_i m
        have hm := hc.1 m rfl
        split at h
        · rename_i hcond
          obtain ⟨rfl, rfl⟩ := hcond
          obtain ⟨_, rfl⟩ := pure_some h
          have := ints hc (by omega)
          rwa [List.drop_zero, List.take_of_length_le (by omega)] at this
        · split at h
          · obtain ⟨_, rfl⟩ := pure_some h
            exact ints hc (by omega)
          · cases h
      · obtain ⟨o1, u, o2, h1, h2, rfl⟩ := bind_some h
        obtain ⟨_, rfl⟩ := pure_some h2
        exact ints hc (inB_some hc h1 (paid_append.1 ho).1)
    · cases h
  | wide q =>
    simp only at h
    split at h
    · rename_i d hd
      obtain ⟨d1, d2, d3⟩ := dropW_spec hd
      have cells : ∀ {r : List AV}, takeW d n = some r → (∃ vs : List Value, Reps ρ N (exp r) vs ∧ ∀ (i : Nat) (v : Value), vs[i]? = some v → f (o + i) = some v) ∧ (exp r).length = n ∧ WOk r := by
        intro r hr
        obtain ⟨t1, t2, t3⟩ := takeW_spec hr
        refine ⟨list_of_cells fun i a ha => ?_, by rw [t1, List.length_take, exp_length]; omega, hc.1.sub fun x hx => d3 _ (t3 _ hx)⟩
        have hi : i < n := by have := (List.getElem?_eq_some_iff.1 ha).1; rw [t1, List.length_take] at this; omega
        rw [t1, d1, List.getElem?_take_of_lt hi, List.getElem?_drop] at ha
        exact hc.2 _ a ha
      split at h
      · rename_i k' n' xs hr
        split at h
        · rename_i hk
          subst hk
          obtain ⟨_, rfl⟩ := pure_some h
          obtain ⟨⟨vs, h3, h4⟩, h5, h6⟩ := cells hr
          have hn := h6 _ _ _ (List.mem_cons_self ..)
          simp only [exp, List.append_nil] at h3 h5
          rw [spread_length] at h5
          obtain ⟨rfl, h8⟩ := reps_spread h3 hn
          exact ⟨by omega, fun i x hx => h4 i _ (by simp [hx]), h8⟩
        · cases h
      · rename_i r _ hr
        split at h
        · rename_i ns hns
          obtain ⟨_, rfl⟩ := pure_some h
          obtain ⟨⟨vs, h3, h4⟩, h5, h6⟩ := cells hr
          obtain ⟨h7, h8⟩ := isInts_spec hns
          obtain ⟨rfl, h9⟩ := h8 h3
          exact ⟨by omega, fun i x hx => h4 i _ (by simp [hx]), h9⟩
        · cases h
      · cases h
    · cases h
theorem numsA_sound {m : Mem} {k : IntKind} {x : AV} {vx : Value} {ob : List Bool} {s : Bool} {len : Nat} {l : List Int} (h : numsA m k x = some (ob, (s, len, l))) (ho : Paid ob) (hx : Rep ρ N x vx) (hs : Sim ρ N (getName m) w) :
    ∃ ad c, vx = .slice (some ad) len c ∧ len ≤ c ∧ l.length = len ∧ (∀ (j : Nat) (v : Value), (l.map (Value.int k))[j]? = some v → w.cell? (ad.add j) = some v) ∧ ∀ x ∈ l, inR k x = true := by
  unfold numsA at h
  split at h
  · obtain ⟨_, he⟩ := pure_some h
    cases he
    cases hx with
    | slice _ _ _ _ _ _ c ad hn hc hl hw had => exact ⟨ad, c, rfl, hl, rfl, fun j v hj => by simp at hj, fun x hx => by cases hx⟩
  · rename_i s' n o len' cap _
    split at h
    · rename_i b hb
      obtain ⟨o1, l', o2, g1, g2, rfl⟩ := bind_some h
      obtain ⟨_, he⟩ := pure_some g2
      cases he
      cases hx with
      | slice _ _ _ _ _ _ c ad hn hc hl hw had =>
      obtain ⟨cs, t', lo', hi', q1, q2, q3, q4, q5⟩ := (hs.blk n b hb).ex
      obtain ⟨r1, r2, r3⟩ := getNums_sound g1 (paid_append.1 ho).1 q5
      refine ⟨ad, c, rfl, hl, r1, fun j v hj => ?_, r3⟩
      have hlt : j < len := by have := (List.getElem?_eq_some_iff.1 hj).1; simp at this; omega
      rw [had (by omega), addr_add, cell_row q1, Nat.add_assoc]
      simp at hj
      obtain ⟨y, hy, rfl⟩ := hj
      exact r2 j y hy
    · cases h
  · rename_i s' n b o len' cap
    split at h
    · rename_i bl hb
      split at h
      · rename_i c hrc
        obtain ⟨o1, l', o2, g1, g2, rfl⟩ := bind_some h
        obtain ⟨_, he⟩ := pure_some g2
        cases he
        cases hx with
        | wslice _ _ _ _ _ _ c ad hn hc hl hw had =>
        obtain ⟨cs, t', lo', hi', q1, q2, q3, q4, q5⟩ := (hs.blk n bl hb).ex
        obtain ⟨rr1, rr2⟩ := rowC_rep hrc q5
        obtain ⟨r1, r2, r3⟩ := getNums_sound g1 (paid_append.1 ho).1 rr1
        refine ⟨ad, c, rfl, hl, r1, fun j v hj => ?_, r3⟩
        have hlt : j < len := by have := (List.getElem?_eq_some_iff.1 hj).1; simp at this; omega
        rw [had (by omega), addr_add, cell_row q1]
        simp at hj
        obtain ⟨y, hy, rfl⟩ := hj
        have := r2 j y hy
        rw [← this]
        congr 1
        omega
      · cases h
    · cases h
  · cases h
end
end Go.Ev
