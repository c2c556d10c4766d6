/- Regions that draw their order: what the evaluator answers in the text's order holds in every order. Own work. -/
import Derived.Test.YtjhjhhibfojpiaaTEvReg
set_option linter.unusedSimpArgs false
set_option linter.unusedVariables false
set_option linter.unusedSectionVars false
namespace Go.Ev
set_option linter.unusedSectionVars false
variable [Tab]
def Fp.touch (f : Fp) (x : Nat) : Prop := x < f.lim ∨ f.rd = some x ∨ (f.wa ≤ x ∧ x < f.wb) ∨ f.bar = true
def Fp.aff (f : Fp) (x : Nat) : Bool := (decide (f.wa ≤ x) && decide (x < f.wb)) || f.bar

theorem Fp.off_spec {f g : Fp} (h : f.off g = true) (x : Nat) (hf : f.aff x = true) : ¬ g.touch x := by
  unfold Fp.off at h
  unfold Fp.aff at hf
  unfold Fp.touch
  split at h
  · simp [Fp.free] at h
    obtain ⟨⟨⟨h1, h2⟩, h3⟩, h4⟩ := h
    rintro (h | h | h | h)
    · omega
    · simp [h2] at h
    · omega
    · simp [h4] at h
  · rename_i hb
    simp only [Bool.or_eq_true, Bool.and_eq_true, decide_eq_true_eq, hb, Bool.false_eq_true, or_false, Bool.not_eq_true'] at h hf
    rcases h with h | ⟨⟨⟨h1, h2⟩, h3⟩, h4⟩
    · omega
    · rintro (h | h | h | h)
      · omega
      · rw [h] at h3
        simp at h3
        omega
      · omega
      · simp [h1] at h

section
variable {P : Program} {q : FuncId → Bool} {H : CallH}

theorem storeA_some {m m' : Mem} {t : TypeId} {a x : AV} {ob : List Bool} {n : Nat} (h : storeA P m t a x = some (ob, m')) (hn : nameOf a = some n) :
    ∃ b c, getName m n = some b ∧ b.rw = true ∧ m' = m.set n (some ⟨true, c⟩) := by
  have hput : ∀ {b b' : Blk} {at' : Nat} {c : Cells}, putC b at' c = some b' → b'.rw = b.rw := fun {b b' at' c} h => by
    unfold putC at h
    split at h
    · split at h
      · split at h
        · split at h
          · cases h; rfl
          · cases h
        · cases h
      · cases h
    · cases h
  unfold storeA at h
  split at h
  · rename_i s k b o
    simp [nameOf] at hn
    subst hn
    split at h
    · rename_i bl sz hb hsz
      split at h
      · rename_i hrw
        split at h
        · obtain ⟨o1, c, o2, h1, h2, rfl⟩ := bind_some h
          split at h2
          · rename_i bl' hp
            obtain ⟨_, rfl⟩ := pure_some h2
            exact ⟨bl, bl'.c, hb, hrw, by rw [← hrw, ← hput hp]⟩
          · cases h2
        · cases h
      · cases h
    · rename_i bl hb hsz
      split at h
      · rename_i hrw
        simp only [Bool.and_eq_true] at hrw
        split at h
        · obtain ⟨o1, c, o2, h1, h2, rfl⟩ := bind_some h
          split at h2
          · rename_i bl' hp
            obtain ⟨_, rfl⟩ := pure_some h2
            exact ⟨bl, bl'.c, hb, hrw.1.1, by rw [← hrw.1.1, ← hput hp]⟩
          · cases h2
        · cases h
      · cases h
    · cases h
  · rename_i s k o
    simp [nameOf] at hn
    subst hn
    split at h
    · rename_i b sz hb hsz
      split at h
      · rename_i hrw
        obtain ⟨o1, c, o2, h1, h2, rfl⟩ := bind_some h
        obtain ⟨_, rfl⟩ := pure_some h2
        exact ⟨b, c, hb, hrw, rfl⟩
      · cases h
    · rename_i b hb hsz
      split at h
      · rename_i hrw
        simp only [Bool.and_eq_true] at hrw
        obtain ⟨o1, c, o2, h1, h2, rfl⟩ := bind_some h
        obtain ⟨_, rfl⟩ := pure_some h2
        exact ⟨b, c, hb, hrw.1.1, rfl⟩
      · cases h
    · cases h
  · cases h

/-- What a step leaves alone; no memory goes. -/
theorem mkQ_some {ev : Operand → AV} {m m' : Mem} {lim : Nat} {op : Op} {ob : List Bool} {av : AV} {f : Fp} (h : mkQ P ev m lim op = some (ob, (av, m', f))) :
    bndM m.length m = true ∧ ∃ wa m1, wa ≤ m.length ∧ opA P (fun x => keepA m.length (ev x)) (roAll (m.take wa) ++ m.drop wa) op = some (ob, (av, m1)) ∧ m' = m.take wa ++ onlyRw (m1.drop wa) ∧ f = ⟨m.length, none, wa, m1.length, false⟩ ∧ isMk op = true := by
  have q : ∀ {wa : Nat}, wa ≤ m.length → quietOp P ev m wa op = some (ob, (av, m', f)) → ∃ wa m1, wa ≤ m.length ∧ opA P (fun x => keepA m.length (ev x)) (roAll (m.take wa) ++ m.drop wa) op = some (ob, (av, m1)) ∧ m' = m.take wa ++ onlyRw (m1.drop wa) ∧ f = ⟨m.length, none, wa, m1.length, false⟩ := fun {wa} hwa hq => by
    unfold quietOp at hq
    split at hq
    · rename_i o v m1 hrun
      cases hq
      exact ⟨wa, m1, hwa, hrun, rfl, rfl⟩
    · cases hq
  unfold mkQ at h
  split at h
  · rename_i hc
    simp only [Bool.and_eq_true, decide_eq_true_eq] at hc
    refine ⟨hc.2, ?_⟩
    split at h
    · rename_i r hr
      rw [← hr] at h
      obtain ⟨wa, m1, h1, h2, h3, h4⟩ := q (Nat.le_refl _) h
      exact ⟨wa, m1, h1, h2, h3, h4, hc.1.1⟩
    · split at h
      · rename_i r hr
        rw [← hr] at h
        obtain ⟨wa, m1, h1, h2, h3, h4⟩ := q (Nat.sub_le _ _) h
        exact ⟨wa, m1, h1, h2, h3, h4, hc.1.1⟩
      · obtain ⟨wa, m1, h1, h2, h3, h4⟩ := q (Nat.sub_le _ _) h
        exact ⟨wa, m1, h1, h2, h3, h4, hc.1.1⟩
  · cases h
theorem mk_le {m m' : Mem} {ev : Operand → AV} {op : Op} {ob : List Bool} {av : AV} (hk : isMk op = true) (h : opA P ev m op = some (ob, (av, m'))) : m.length ≤ m'.length := by
  refine isV_not ?_ h (fun t e => by rw [e] at hk; cases hk) (fun t x e => by rw [e] at hk; cases hk) (fun t a x e => by rw [e] at hk; cases hk)
  unfold isMk at hk
  split at hk
  · rfl
  · rfl
  · rfl
  · cases hk
theorem mkQ_frame {ev : Operand → AV} {m m' : Mem} {lim : Nat} {op : Op} {ob : List Bool} {av : AV} {f : Fp} (h : mkQ P ev m lim op = some (ob, (av, m', f))) (_ : Paid ob) :
    m.length ≤ m'.length ∧ (∀ x, f.aff x = false → getName m' x = getName m x) ∧ (f.bar = false → f.wb ≤ f.wa → m'.length = m.length) ∧ (∀ x, f.bar = false → m.length ≤ x → x < m'.length → f.aff x = true) := by
  obtain ⟨_, wa, m1, hwa, hrun, rfl, rfl, hk⟩ := mkQ_some h
  have hle := mk_le hk hrun
  have h2 : (roAll (m.take wa) ++ m.drop wa).length = m.length := by simp [roAll]; omega
  rw [h2] at hle
  have hl : (m.take wa ++ onlyRw (m1.drop wa)).length = m1.length := by simp [onlyRw]; omega
  refine ⟨by omega, fun x hx => ?_, fun _ (h : m1.length ≤ wa) => by omega, fun x _ h3 h4 => by simp only [Fp.aff, Bool.or_false, Bool.and_eq_true, decide_eq_true_eq]; omega⟩
  simp only [Fp.aff, Bool.or_false, Bool.and_eq_false_iff, decide_eq_false_iff_not] at hx
  by_cases hxw : x < wa
  · rw [getName_app, if_pos (by simp; omega), getName_take, if_pos hxw]
  · unfold getName
    rw [List.getElem?_eq_none (l := m) (by omega), List.getElem?_eq_none (by omega)]
theorem bldQ_some {ev : Operand → AV} {m m' : Mem} {op : Op} {ob : List Bool} {av : AV} {f : Fp} (h : bldQ P ev m op = some (ob, (av, m', f))) :
    ∃ t len parts, op = .buildSlice t len parts ∧ sliceOfA P m t len (parts.toList.map fun (i, x) => (i, ev x)) = some (ob, (av, m')) ∧ f = ⟨0, none, m.length, m.length + 1, false⟩ := by
  unfold bldQ at h
  split at h
  · rename_i t len parts
    split at h
    · rename_i hr
      cases h
      exact ⟨t, len, parts, rfl, hr, rfl⟩
    · cases h
  · cases h
theorem makQ_some {ev : Operand → AV} {m m' : Mem} {op : Op} {ob : List Bool} {av : AV} {f : Fp} (h : makQ P ev m op = some (ob, (av, m', f))) :
    ∃ t x y, op = .makeSlice t x y ∧ makeA P m t (ev x) (ev y) = some (ob, (av, m')) ∧ f = ⟨0, none, m.length, m.length + 1, false⟩ := by
  unfold makQ at h
  split at h
  · rename_i t x y
    split at h
    · rename_i hr
      cases h
      exact ⟨t, x, y, rfl, hr, rfl⟩
    · cases h
  · cases h
theorem makeA_len {m m' : Mem} {t : TypeId} {x y : AV} {ob : List Bool} {av : AV} (h : makeA P m t x y = some (ob, (av, m'))) : ∃ c, m' = m ++ [some (Blk.mk true c)] := by
  unfold makeA at h
  split at h
  · obtain ⟨o1, ⟨⟩, o2, g1, g2, rfl⟩ := bind_some h
    obtain ⟨_, he⟩ := pure_some g2
    cases he
    exact ⟨_, rfl⟩
  · cases h
/-- A new row, wherever the rest has its names. -/
theorem makeA_new {ρ : Nat → Loc3} {N : Nat → Prop} {w : World} {m m' : Mem} {t : TypeId} {x y : AV} {vx vy : Value} {ob : List Bool} {av : AV} (h : makeA P m t x y = some (ob, (av, m'))) (ho : Paid ob)
    (hx : Rep ρ N x vx) (hy : Rep ρ N y vy) :
    ∃ c cells' e v, m' = m ++ [some (Blk.mk true c)] ∧ (Instr.makeSlice t vx vy).run P w = .ok v (w.alloc (.cells cells' e)) ∧ CRep ρ N c (fun i => cells'[i]?) ∧ clen c ≤ cells'.size ∧
      ∀ (ρ' : Nat → Loc3) (N' : Nat → Prop), N' m.length → ρ' m.length = ⟨w.heap.size, 0, cells'.size⟩ → Rep ρ' N' av v := by
  unfold makeA at h
  split at h
  · rename_i k s ka a s' kb b hk
    obtain ⟨e, i, i1, i2, i3, i4, i5, i6⟩ := intRow_some hk
    obtain ⟨hc, o2, h2, _⟩ := chk_bind h ho
    obtain ⟨_, he⟩ := pure_some h2
    cases he
    simp only [Bool.and_eq_true, decide_eq_true_eq] at hc
    obtain ⟨⟨c1, c2⟩, c3⟩ := hc
    cases hx
    cases hy
    have hbytes : (i.bytes : Int) * b ≤ 281474976710656 ∧ b ≤ 281474976710656 := by
      unfold mostMake at c3
      rw [i1] at c3
      simp only [i3] at c3
      split at c3
      · rename_i h1
        have h1' := of_decide_eq_true h1
        rw [h1']
        omega
      · have h1 : (i.bytes : Int) * b ≤ 8 * b := Int.mul_le_mul_of_nonneg_right (by omega) (by omega)
        omega
    have hr := run_make (P := P) w t e i (.int k 0) i1 i3 i6 ka kb a b c1 c2 hbytes.1 (by omega)
    rw [i4, Nat.mul_one] at hr
    have hcells : ∀ j, j < b.toNat → (madeCells (Value.int k 0).cells b.toNat)[j]? = some (.int k 0) := fun j hj => by simp [madeCells, Value.cells, hj, Nat.mod_one]
    have hcr : CRep ρ N (.ints k (szIf (s || s') b.toNat) (List.replicate b.toNat 0)) (fun j => (madeCells (Value.int k 0).cells b.toNat)[j]?) :=
      ints_crep (by simp) (fun z hz => by rw [List.eq_of_mem_replicate hz]; cases k <;> decide) fun j z hz => by
        have hlt : j < b.toNat := by have := (List.getElem?_eq_some_iff.1 hz).1; simpa using this
        have : z = 0 := List.eq_of_mem_replicate (List.mem_of_getElem? hz)
        subst this
        exact hcells j hlt
    refine ⟨_, _, e, _, rfl, hr, hcr, by rw [ints_clen (by simp), size_madeCells]; exact Nat.le_refl _, fun ρ' N' hN hρ => ?_⟩
    refine .slice (s || s') m.length 0 a.toNat _ 1 b.toNat _ hN (fun c' h => ?_) (by omega) ?_ fun _ => ?_
    · unfold capM at h
      split at h
      · cases h; rfl
      · split at h
        · cases h
        · split at h
          · cases h; rfl
          · cases h
    · rw [hρ, size_madeCells]; show 0 + b.toNat * 1 ≤ b.toNat; omega
    · rw [hρ]
  · cases h
theorem sliceOfA_len {m m' : Mem} {t : TypeId} {len : Nat} {parts : List (Nat × AV)} {ob : List Bool} {av : AV} (h : sliceOfA P m t len parts = some (ob, (av, m'))) : ∃ c, m' = m ++ [some (Blk.mk true c)] := by
  unfold sliceOfA at h
  repeat' split at h
  all_goals first | (cases h; done) | skip
  obtain ⟨_, he⟩ := pure_some h
  cases he
  exact ⟨_, rfl⟩
/-- A slice of values, wherever they have their names. -/
theorem sliceOfA_new {ρ : Nat → Loc3} {N : Nat → Prop} {w : World} {m m' : Mem} {t : TypeId} {len : Nat} {parts : List (Nat × AV)} {vparts : Array (Nat × Value)} {ob : List Bool} {av : AV} (h : sliceOfA P m t len parts = some (ob, (av, m')))
    (h1 : parts.map (·.1) = vparts.toList.map (·.1)) (h2 : Reps ρ N (parts.map (·.2)) (vparts.toList.map (·.2))) :
    ∃ c cells' e, m' = m ++ [some (Blk.mk true c)] ∧ av = .slice false m.length 0 len (some len) 1 ∧ (Instr.buildSlice t len vparts).run P w = .ok (.slice (some ⟨w.heap.size, 0, none⟩) len len) (w.alloc (.cells cells' e)) ∧ CRep ρ N c (fun i => cells'[i]?) ∧ clen c ≤ cells'.size ∧ cells'.size = len := by
  unfold sliceOfA at h
  split at h
  · rename_i e he
    split at h
    · rename_i z hsz hz
      split at h
      · rename_i cs hc hsp
        simp only [Bool.and_eq_true, Bool.or_eq_true, decide_eq_true_eq] at hc
        obtain ⟨⟨hsc, hle⟩, hge⟩ := hc
        split at h
        · rename_i hcl
          simp only [decide_eq_true_eq] at hcl
          obtain ⟨_, hee⟩ := pure_some h
          cases hee
          obtain ⟨it, zv, i1, i2, i3, i4, i5⟩ := zeroA_sound (ρ := ρ) (N := N) (w := w) hz
          have hzc := scalar_cells i3 hsc
          have hcells : Reps ρ N (List.replicate len z) ((Array.range len).map (zv.cells[· % zv.cells.size]!)).toList := by
            rw [hzc]
            have : ((Array.range len).map (#[zv][· % (#[zv] : Array Value).size]!)).toList = List.replicate len zv := by
              apply List.ext_getElem?
              intro j
              by_cases hj : j < len
              · simp [hj, Nat.mod_one]
              · simp [hj]
            rw [this]
            exact reps_rep i3 len
          obtain ⟨cells', f1, f2⟩ := fill_sound (pl' := fun i => some (i * 1, 1)) (fun _ _ h => h) hsp hcells h1 h2
          have hsize : cells'.size = len := by have := f2.length; simp at this; omega
          have hrep := mkAgg_rep f2
          obtain ⟨c1, c2⟩ := toCells_rep hrep (mkAgg_alive cs)
          have hr : (Instr.buildSlice t len vparts).run P w = .ok (.slice (some ⟨w.heap.size, 0, none⟩) len len) (w.alloc (.cells cells' e)) := by
            have hn2 : ¬ len * 1 > 2 ^ 24 := by omega
            rcases Nat.eq_zero_or_pos len with h0 | h0
            · subst h0
              simp only [Instr.buildSlice, Sem.run_bind, run_underlying he, Result.andThen_ok, run_sizeOf hsz]
              rw [if_neg hn2, if_pos trivial]
              simp only [Sem.run_bind, Sem.run_pure, Result.andThen_ok, Nat.mul_one]
              have e0 : ∀ z : Array Value, (Array.range 0).map (z[· % z.size]!) = #[] := fun z => by simp
              rw [e0]
              rw [e0] at f1
              simp only [Nat.mul_one] at f1
              rw [f1]
              simp only [Sem.run_bind, Result.andThen_ok, newRow, run_newObj, Sem.run_pure]
              rfl
            have hn : ¬ len * 1 = 0 := by omega
            simp only [Instr.buildSlice, Sem.run_bind, run_underlying he, Result.andThen_ok, run_sizeOf hsz]
            rw [if_neg hn2, if_neg hn]
            simp only [Sem.run_bind, Sem.run_pure, Result.andThen_ok, i5, Nat.mul_one]
            simp only [Nat.mul_one] at f1
            rw [f1]
            simp only [Sem.run_bind, Result.andThen_ok, newRow, run_newObj, Sem.run_pure]
            rfl
          exact ⟨_, cells', e, rfl, rfl, hr, by simpa [Value.cells] using c1, by simpa [Value.cells] using c2, hsize⟩
        · cases h
      · cases h
    · cases h
  · cases h
theorem callW_some {m m' : Mem} {lim : Nat} {fn : FuncId} {as : List AV} {ob : List Bool} {av : AV} {f : Fp} (h : callW H m lim fn as = some (ob, (av, m', f))) :
    bndL m.length as = true ∧ bndM m.length m = true ∧ ∃ wa m1, wa ≤ m.length ∧ H fn as (roAll (m.take wa) ++ m.drop wa) = some (ob, (av, m1)) ∧ m' = m.take wa ++ onlyRw (m1.drop wa) ∧ f = ⟨m.length, none, wa, m1.length, false⟩ := by
  unfold callW at h
  split at h
  · rename_i hc
    simp only [Bool.and_eq_true, decide_eq_true_eq] at hc
    split at h
    · rename_i o v m1 hrun
      cases h
      exact ⟨hc.1.1.1, hc.1.1.2, _, m1, Nat.sub_le _ _, hrun, rfl, rfl⟩
    · cases h
  · cases h
theorem callW_frame (hH : HOk P H) {m m' : Mem} {lim : Nat} {fn : FuncId} {as : List AV} {ob : List Bool} {av : AV} {f : Fp} (h : callW H m lim fn as = some (ob, (av, m', f))) (ho : Paid ob) :
    m.length ≤ m'.length ∧ (∀ x, f.aff x = false → getName m' x = getName m x) ∧ (f.bar = false → f.wb ≤ f.wa → m'.length = m.length) ∧ (∀ x, f.bar = false → m.length ≤ x → x < m'.length → f.aff x = true) := by
  obtain ⟨_, _, wa, m1, hwa, hrun, rfl, rfl⟩ := callW_some h
  have hle := hH.le hrun ho
  have h2 : (roAll (m.take wa) ++ m.drop wa).length = m.length := by simp [roAll]; omega
  rw [h2] at hle
  have hl : (m.take wa ++ onlyRw (m1.drop wa)).length = m1.length := by simp [onlyRw]; omega
  refine ⟨by omega, fun x hx => ?_, fun _ (h : m1.length ≤ wa) => by omega, fun x _ h3 h4 => by simp only [Fp.aff, Bool.or_false, Bool.and_eq_true, decide_eq_true_eq]; omega⟩
  simp only [Fp.aff, Bool.or_false, Bool.and_eq_false_iff, decide_eq_false_iff_not] at hx
  by_cases hxw : x < wa
  · rw [getName_app, if_pos (by simp; omega), getName_take, if_pos hxw]
  · unfold getName
    rw [List.getElem?_eq_none (l := m) (by omega), List.getElem?_eq_none (by omega)]
theorem callD_frame (hH : HOk P H) {m m' : Mem} {lim : Nat} {fn : FuncId} {as : List AV} {ob : List Bool} {av : AV} {f : Fp} (h : callD q H m lim fn as = some (ob, (av, m', f))) (ho : Paid ob) :
    m.length ≤ m'.length ∧ (∀ x, f.aff x = false → getName m' x = getName m x) ∧ (f.bar = false → f.wb ≤ f.wa → m'.length = m.length) ∧ (∀ x, f.bar = false → m.length ≤ x → x < m'.length → f.aff x = true) := by
  unfold callD at h
  split at h
  · split at h
    · split at h
      · split at h
        · cases h; exact ⟨Nat.le_refl _, fun _ _ => rfl, fun _ _ => rfl, fun x _ h1 h2 => by omega⟩
        · split at h
          · cases h
            refine ⟨by simp, fun x hx => ?_, (fun _ h => by rw [List.length_append]; simp only at h; omega), fun x _ h1 h2 => by simp [Fp.aff] at *; omega⟩
            simp [Fp.aff] at hx
            rw [getName_app]
            split
            · rfl
            · unfold getName
              rw [List.getElem?_eq_none (l := m) (by omega), List.getElem?_eq_none (by omega)]
          · unfold callN at h
            split at h
            · split at h
              · cases h
                refine ⟨by simp, fun x hx => ?_, (fun _ h => by rw [List.length_append]; simp only at h; omega), fun x _ h1 h2 => by simp [Fp.aff] at *; omega⟩
                simp [Fp.aff] at hx
                rw [getName_app]
                split
                · rfl
                · unfold getName
                  rw [List.getElem?_eq_none (l := m) (by omega), List.getElem?_eq_none (by omega)]
              · cases h
            · cases h
      · cases h
    · cases h
  · split at h
    · rename_i r hr
      rw [← hr] at h
      exact callW_frame hH h ho
    split at h
    · rename_i hr
      cases h
      exact ⟨hH.le hr ho, (fun x hx => by simp [Fp.aff] at hx), (fun h => by cases h), (fun x h => by cases h)⟩
    · cases h
theorem stepD_frame (hH : HOk P H) {ev : Operand → AV} {m m' : Mem} {lim : Nat} {op : Op} {ob : List Bool} {av : AV} {f : Fp} (h : stepD P q H ev m lim op = some (ob, (av, m', f))) (ho : Paid ob) :
    m.length ≤ m'.length ∧ (∀ x, f.aff x = false → getName m' x = getName m x) ∧ (f.bar = false → f.wb ≤ f.wa → m'.length = m.length) ∧ (∀ x, f.bar = false → m.length ≤ x → x < m'.length → f.aff x = true) := by
  unfold stepD at h
  split at h
  · split at h
    · obtain ⟨_, he⟩ := pure_some h
      cases he
      refine ⟨by simp, fun x hx => ?_, (fun _ (h : m.length + 1 ≤ m.length) => by omega), fun x _ h1 h2 => by simp [Fp.aff] at *; omega⟩
      simp [Fp.aff] at hx
      rw [getName_app]
      split
      · rfl
      · rename_i hge
        unfold getName
        rw [List.getElem?_eq_none (l := m) (by omega), List.getElem?_eq_none (by simp; omega)]
    · cases h
  · split at h
    · obtain ⟨_, he⟩ := pure_some h
      cases he
      refine ⟨by simp, fun x hx => ?_, (fun _ (h : m.length + 1 ≤ m.length) => by omega), fun x _ h1 h2 => by simp [Fp.aff] at *; omega⟩
      simp [Fp.aff] at hx
      rw [getName_app]
      split
      · rfl
      · rename_i hge
        unfold getName
        rw [List.getElem?_eq_none (l := m) (by omega), List.getElem?_eq_none (by simp; omega)]
    · cases h
  · split at h
    · rename_i n hn
      split at h
      · split at h
        · cases h
          refine ⟨by simp, (fun x hx => ?_), (fun _ _ => by simp), (fun x _ h1 h2 => by simp at h2; omega)⟩
          simp [Fp.aff] at hx
          unfold getName
          rw [List.getElem?_set_ne (by omega)]
        · cases h
      · cases h
    · cases h
  · split at h
    · exact callD_frame hH h ho
    · cases h
  · split at h
    · split at h
      · exact callD_frame hH h ho
      · cases h
    · cases h
  · rename_i hn1 hn2 hn3 hn4 hn5
    split at h
    · split at h
      · cases h; exact ⟨Nat.le_refl _, fun _ _ => rfl, fun _ _ => rfl, fun x _ h1 h2 => by omega⟩
      · cases h
    · rename_i hvv
      split at h
      · rename_i r hr
        rw [← hr] at h
        obtain ⟨t, len, parts, hop, hb, rfl⟩ := bldQ_some h
        obtain ⟨c, rfl⟩ := sliceOfA_len hb
        refine ⟨by simp, fun x hx => ?_, (fun _ (h : m.length + 1 ≤ m.length) => by omega), fun x _ h1 h2 => by simp [Fp.aff] at *; omega⟩
        simp [Fp.aff] at hx
        rw [getName_app]
        split
        · rfl
        · rename_i hge
          unfold getName
          rw [List.getElem?_eq_none (l := m) (by omega), List.getElem?_eq_none (by simp; omega)]
      split at h
      · rename_i r hr
        rw [← hr] at h
        obtain ⟨t, x0, y0, hop, hb, rfl⟩ := makQ_some h
        obtain ⟨c, rfl⟩ := makeA_len hb
        refine ⟨by simp, fun x hx => ?_, (fun _ (h : m.length + 1 ≤ m.length) => by omega), fun x _ h1 h2 => by simp [Fp.aff] at *; omega⟩
        simp [Fp.aff] at hx
        rw [getName_app]
        split
        · rfl
        · rename_i hge
          unfold getName
          rw [List.getElem?_eq_none (l := m) (by omega), List.getElem?_eq_none (by simp; omega)]
      split at h
      · rename_i r hr
        rw [← hr] at h
        exact mkQ_frame h ho
      split at h
      · rename_i hrun
        cases h
        exact ⟨isV_not hvv hrun hn1 hn2 hn3, (fun x hx => by simp [Fp.aff] at hx), (fun h => by cases h), (fun x h => by cases h)⟩
      · cases h

theorem mkQ_sound {w0 : World} {S N N' : Nat → Prop} {ρ : Nat → Loc3} {M M' : Nat → Option Blk} {w : World} {ev : Operand → AV} {rv : Operand → Value} {m m' : Mem} {lim : Nat} {o : Oper} {ob : List Bool}
    {av : AV} {f : Fp} (h : mkQ P ev m lim o.op = some (ob, (av, m', f))) (ho : Paid ob) (hev : ∀ x, Rep ρ N (ev x) (rv x)) (hi : Inv w0 S N ρ M w)
    (hM : ∀ x, f.touch x → x < m.length → M x = getName m x) (hT : ∀ x, f.touch x → x < m.length → N x) (hfresh : ∀ x, m.length ≤ x → x < m'.length → ¬ N x)
    (hN' : ∀ x, N' x ↔ N x ∨ (m.length ≤ x ∧ x < m'.length)) (hM' : ∀ x, M' x = if f.aff x = true then getName m' x else M x) :
    Comes1 P o rv w (fun v w' => ∃ ρ', Rep ρ' N' av v ∧ Inv w0 S N' ρ' M' w' ∧ Agr ρ ρ' N) := by
  obtain ⟨hbm, wa, m1, hwa, hrun, rfl, rfl, hk⟩ := mkQ_some h
  have hle := mk_le hk hrun
  have h2 : (roAll (m.take wa) ++ m.drop wa).length = m.length := by simp [roAll]; omega
  have h2t : (roAll (m.take wa)).length = wa := by simp [roAll]; omega
  rw [h2] at hle
  have hl : (m.take wa ++ onlyRw (m1.drop wa)).length = m1.length := by simp [onlyRw]; omega
  rw [hl] at hfresh hN'
  have hNN : ∀ x, N x → N' x := fun x hx => (hN' x).2 (Or.inl hx)
  have hMm : ∀ x, x < m.length → M x = getName m x := fun x hx => hM x (Or.inl hx) hx
  have hTm : ∀ x, x < m.length → N x := fun x hx => hT x (Or.inl hx) hx
  have hev' : ∀ x, Rep ρ (upto (roAll (m.take wa) ++ m.drop wa).length) (keepA m.length (ev x)) (rv x) := fun x => by
    rw [h2]
    unfold keepA
    split
    · rename_i hb; exact (hev x).bnd hb
    · exact .top _
  -- the memory that is shown
  have show2 : ∀ k bk, getName (roAll (m.take wa) ++ m.drop wa) k = some bk → ∃ b0, getName m k = some b0 ∧ bk.c = b0.c ∧ (bk.rw = true → b0.rw = true ∧ wa ≤ k) ∧ k < m.length := fun k bk hbk => by
    rw [getName_app, h2t] at hbk
    split at hbk
    · rename_i hkw
      rw [getName_ro, getName_take, if_pos hkw] at hbk
      cases hg : getName m k with
      | none => simp [hg] at hbk
      | some b0 => simp [hg] at hbk; subst hbk; exact ⟨b0, rfl, rfl, (fun h => by cases h), by omega⟩
    · rename_i hkw
      rw [getName_drop, show wa + (k - wa) = k by omega] at hbk
      exact ⟨bk, hbk, rfl, fun h => ⟨h, by omega⟩, getName_lt hbk⟩
  have hsim : Sim ρ (upto (roAll (m.take wa) ++ m.drop wa).length) (getName (roAll (m.take wa) ++ m.drop wa)) w := by
    rw [h2]
    refine ⟨fun k bk hbk => ?_, fun i j bi bj h1 h3 hij hr => ?_, fun k bk hbk => ?_, hi.sim.tab, fun G c hG k bk hbk hr => ?_⟩
    · obtain ⟨b0, e1, e2, e3, e4⟩ := show2 k bk hbk
      obtain ⟨cs, t, lo, hi', a1, a2, a3, a4, a5⟩ := (hi.sim.blk k b0 (by rw [hMm k e4]; exact e1)).ex
      refine ⟨cs, t, lo, hi', a1, a2, fun h => a3 (e3 h).1, by rw [e2]; exact a4, ?_⟩
      rw [e2]
      exact a5.bnd fun l hl => bndM_get hbm e1 l hl
    · obtain ⟨b0, e1, e2, e3, e4⟩ := show2 i bi h1
      obtain ⟨b1, f1, f2, f3, f4⟩ := show2 j bj h3
      exact hi.sim.inj i j b0 b1 (by rw [hMm i e4]; exact e1) (by rw [hMm j f4]; exact f1) hij (e3 hr).1
    · obtain ⟨b0, e1, e2, e3, e4⟩ := show2 k bk hbk
      exact e4
    · obtain ⟨b0, e1, e2, e3, e4⟩ := show2 k bk hbk
      exact hi.sim.apart G c hG k b0 (by rw [hMm k e4]; exact e1) (e3 hr).1
  have hinv : Inv w (fun bb => ∃ k bk, wa ≤ k ∧ getName m k = some bk ∧ bk.rw = true ∧ bb = (ρ k).b) (upto (roAll (m.take wa) ++ m.drop wa).length) ρ (getName (roAll (m.take wa) ++ m.drop wa)) w := Inv.start _ hsim fun k bk hbk hr => by
    obtain ⟨b0, e1, e2, e3, e4⟩ := show2 k bk hbk
    exact ⟨k, b0, (e3 hr).2, e1, (e3 hr).1, rfl⟩
  obtain ⟨⟨u, w', ρ1, h1, r1, r2, r3⟩, _⟩ := opA_sound hrun ho hev' hinv
  rw [h2] at r3
  let ρ' : Nat → Loc3 := fun x => if m.length ≤ x ∧ x < m1.length then ρ1 x else ρ x
  have hN1 : ∀ x, upto m1.length x → N' x := fun x hx => by
    by_cases hx2 : m.length ≤ x
    · exact (hN' x).2 (Or.inr ⟨hx2, hx⟩)
    · exact hNN x (hTm x (by omega))
  have hagN : Agr ρ ρ' N := fun x hx => by
    show (if m.length ≤ x ∧ x < m1.length then ρ1 x else ρ x) = ρ x
    rw [if_neg]
    rintro ⟨h3, h4⟩
    exact hfresh x h3 h4 hx
  have hag1 : Agr ρ1 ρ' (upto m1.length) := fun x hx => by
    show (if m.length ≤ x ∧ x < m1.length then ρ1 x else ρ x) = ρ1 x
    by_cases h3 : m.length ≤ x
    · rw [if_pos ⟨h3, hx⟩]
    · rw [if_neg (by omega), r3 x (by simp [upto]; omega)]
  have hj : Inv w0 S N' ρ' M' w' := hi.join r2 (fun bb hb => by
      obtain ⟨k, bk, e1, e2, e3, rfl⟩ := hb
      exact hi.rws k bk (by rw [hMm k (getName_lt e2)]; exact e2) e3) hNN hN1 hagN hag1 fun k bk hbk => by
    rw [hM' k] at hbk
    split at hbk
    · rename_i haff
      simp only [Fp.aff, Bool.or_false, Bool.and_eq_true, decide_eq_true_eq] at haff
      right
      rw [getName_app, if_neg (by simp; omega)] at hbk
      obtain ⟨g1, g2⟩ := getName_onlyRw hbk
      rw [getName_drop, show wa + (k - (m.take wa).length) = k by simp; omega] at g1
      exact ⟨g1, g2⟩
    · rename_i haff
      simp only [Fp.aff, Bool.or_false, Bool.and_eq_true, decide_eq_true_eq] at haff
      refine Or.inl ⟨hbk, ?_⟩
      rintro ⟨j, bj, e1, e2, e3, e4⟩
      have hjl := getName_lt e2
      exact hi.sim.inj j k bj bk (by rw [hMm j hjl]; exact e2) hbk (by omega) e3 e4.symm
  unfold Comes1
  rcases h1 with h1 | ⟨h1, rfl⟩
  · rw [h1]; exact ⟨ρ', r1.ext hag1 hN1, hj, hagN⟩
  · rw [h1]; exact ⟨ρ', r1.ext hag1 hN1, hj, hagN⟩
theorem getName_nones {m : Mem} {k : Nat} (n : Nat) : getName (m ++ List.replicate k none) n = getName m n := by
  unfold getName
  by_cases h : n < m.length
  · rw [List.getElem?_append_left h]
  · rw [List.getElem?_append_right (by omega), List.getElem?_eq_none (l := m) (by omega)]
    by_cases h2 : n - m.length < k
    · rw [List.getElem?_replicate_of_lt h2]
    · rw [List.getElem?_eq_none (by simp; omega)]
theorem newM_get : ∀ {m : Mem} {n : Nat} {b : Blk}, newM m = true → getName m n = some b → ∃ k z l, b.c = .ints k z l
  | [], n, b, _, h => by simp [getName] at h
  | none :: m, 0, b, _, h => by simp [getName] at h
  | none :: m, n + 1, b, hm, h => newM_get (m := m) (n := n) hm (by simpa [getName] using h)
  | some ⟨rw, c⟩ :: m, n, b, hm, h => by
    cases c with
    | ints k z l => cases n with
      | zero =>
        simp [getName] at h
        exact ⟨k, z, l, by rw [← h]⟩
      | succ n => exact newM_get (m := m) (n := n) hm (by simpa [getName] using h)
    | vals l => simp [newM] at hm
    | wide l => simp [newM] at hm
    | bools n l => simp [newM] at hm
    | one nr r i a => simp [newM] at hm
    | rows n r => simp [newM] at hm
theorem new1_rep {k : Nat} {ρ ρ' : Nat → Loc3} {N N' : Nat → Prop} (hN : ∀ x, k ≤ x → N x → N' x ∧ ρ' x = ρ x) {a : AV} {v : Value} (h : Rep ρ N a v) (hn : new1 k a = true) : Rep ρ' N' a v := by
  unfold new1 at hn
  split at hn
  · cases h with
    | slice _ _ _ _ _ _ c ad hx hc hl hw had =>
      obtain ⟨g1, g2⟩ := hN _ (of_decide_eq_true hn) hx
      exact .slice _ _ _ _ _ _ c ad g1 hc hl (by rw [g2]; exact hw) (by rw [g2]; exact had)
  · exact plainA_rep h hn
theorem new1L_rep {k : Nat} {ρ ρ' : Nat → Loc3} {N N' : Nat → Prop} (hN : ∀ x, k ≤ x → N x → N' x ∧ ρ' x = ρ x) : ∀ {l : List AV} {vs : List Value}, Reps ρ N l vs → l.all (new1 k) = true → Reps ρ' N' l vs
  | _, _, .nil, _ => .nil
  | _, _, .cons a l v vs h hs, hn => by
    simp only [List.all_cons, Bool.and_eq_true] at hn
    exact .cons _ _ _ _ (new1_rep hN h hn.1) (new1L_rep hN hs hn.2)
theorem newA_rep {k : Nat} {ρ ρ' : Nat → Loc3} {N N' : Nat → Prop} (hN : ∀ x, k ≤ x → N x → N' x ∧ ρ' x = ρ x) {a : AV} {v : Value} (h : Rep ρ N a v) (hn : newA k a = true) : Rep ρ' N' a v := by
  unfold newA at hn
  split at hn
  · cases h with | tuple _ _ hs => exact .tuple _ _ (new1L_rep hN hs hn)
  · exact new1_rep hN h hn
theorem callW_sound (hH : HOk P H) {w0 : World} {S N N' : Nat → Prop} {ρ : Nat → Loc3} {M M' : Nat → Option Blk} {w : World} {rv : Operand → Value} {m m' : Mem} {lim : Nat} {o : Oper} {ob : List Bool}
    {av : AV} {f : Fp} {fn : FuncId} {as : List AV} {vs : List Value} (h : callW H m lim fn as = some (ob, (av, m', f))) (ho : Paid ob) (has : Reps ρ N as vs) (hcall0 : ∀ Q : Value → World → Prop, CallRun P fn vs.toArray w Q → Comes1 P o rv w Q) (hi : Inv w0 S N ρ M w)
    (hM : ∀ x, f.touch x → x < m.length → M x = getName m x) (hT : ∀ x, f.touch x → x < m.length → N x) (hfresh : ∀ x, m.length ≤ x → x < m'.length → ¬ N x)
    (hN' : ∀ x, N' x ↔ N x ∨ (m.length ≤ x ∧ x < m'.length)) (hM' : ∀ x, M' x = if f.aff x = true then getName m' x else M x) :
    Comes1 P o rv w (fun v w' => ∃ ρ', Rep ρ' N' av v ∧ Inv w0 S N' ρ' M' w' ∧ Agr ρ ρ' N) := by
  obtain ⟨hba, hbm, wa, m1, hwa, hrun, rfl, rfl⟩ := callW_some h
  have hle := hH.le hrun ho
  have h2 : (roAll (m.take wa) ++ m.drop wa).length = m.length := by simp [roAll]; omega
  have h2t : (roAll (m.take wa)).length = wa := by simp [roAll]; omega
  rw [h2] at hle
  have hl : (m.take wa ++ onlyRw (m1.drop wa)).length = m1.length := by simp [onlyRw]; omega
  rw [hl] at hfresh hN'
  have hNN : ∀ x, N x → N' x := fun x hx => (hN' x).2 (Or.inl hx)
  have hMm : ∀ x, x < m.length → M x = getName m x := fun x hx => hM x (Or.inl hx) hx
  have hTm : ∀ x, x < m.length → N x := fun x hx => hT x (Or.inl hx) hx
  -- the memory that is shown
  have show2 : ∀ k bk, getName (roAll (m.take wa) ++ m.drop wa) k = some bk → ∃ b0, getName m k = some b0 ∧ bk.c = b0.c ∧ (bk.rw = true → b0.rw = true ∧ wa ≤ k) ∧ k < m.length := fun k bk hbk => by
    rw [getName_app, h2t] at hbk
    split at hbk
    · rename_i hkw
      rw [getName_ro, getName_take, if_pos hkw] at hbk
      cases hg : getName m k with
      | none => simp [hg] at hbk
      | some b0 => simp [hg] at hbk; subst hbk; exact ⟨b0, rfl, rfl, (fun h => by cases h), by omega⟩
    · rename_i hkw
      rw [getName_drop, show wa + (k - wa) = k by omega] at hbk
      exact ⟨bk, hbk, rfl, fun h => ⟨h, by omega⟩, getName_lt hbk⟩
  have hsim : Sim ρ (upto (roAll (m.take wa) ++ m.drop wa).length) (getName (roAll (m.take wa) ++ m.drop wa)) w := by
    rw [h2]
    refine ⟨fun k bk hbk => ?_, fun i j bi bj h1 h3 hij hr => ?_, fun k bk hbk => ?_, hi.sim.tab, fun G c hG k bk hbk hr => ?_⟩
    · obtain ⟨b0, e1, e2, e3, e4⟩ := show2 k bk hbk
      obtain ⟨cs, t, lo, hi', a1, a2, a3, a4, a5⟩ := (hi.sim.blk k b0 (by rw [hMm k e4]; exact e1)).ex
      refine ⟨cs, t, lo, hi', a1, a2, fun h => a3 (e3 h).1, by rw [e2]; exact a4, ?_⟩
      rw [e2]
      exact a5.bnd fun l hl => bndM_get hbm e1 l hl
    · obtain ⟨b0, e1, e2, e3, e4⟩ := show2 i bi h1
      obtain ⟨b1, f1, f2, f3, f4⟩ := show2 j bj h3
      exact hi.sim.inj i j b0 b1 (by rw [hMm i e4]; exact e1) (by rw [hMm j f4]; exact f1) hij (e3 hr).1
    · obtain ⟨b0, e1, e2, e3, e4⟩ := show2 k bk hbk
      exact e4
    · obtain ⟨b0, e1, e2, e3, e4⟩ := show2 k bk hbk
      exact hi.sim.apart G c hG k b0 (by rw [hMm k e4]; exact e1) (e3 hr).1
  have hinv : Inv w (fun bb => ∃ k bk, wa ≤ k ∧ getName m k = some bk ∧ bk.rw = true ∧ bb = (ρ k).b) (upto (roAll (m.take wa) ++ m.drop wa).length) ρ (getName (roAll (m.take wa) ++ m.drop wa)) w := Inv.start _ hsim fun k bk hbk hr => by
    obtain ⟨b0, e1, e2, e3, e4⟩ := show2 k bk hbk
    exact ⟨k, b0, (e3 hr).2, e1, (e3 hr).1, rfl⟩
  have hcall := hH.run hrun ho (w0 := w) (S := fun bb => ∃ k bk, wa ≤ k ∧ getName m k = some bk ∧ bk.rw = true ∧ bb = (ρ k).b) (ρ := ρ) (w := w) (by rw [h2]; exact has.bnd hba) hinv
  refine hcall0 _ (hcall.mono fun u w' ⟨ρ1, r1, r2, r3⟩ => ?_)
  rw [h2] at r3
  let ρ' : Nat → Loc3 := fun x => if m.length ≤ x ∧ x < m1.length then ρ1 x else ρ x
  have hN1 : ∀ x, upto m1.length x → N' x := fun x hx => by
    by_cases hx2 : m.length ≤ x
    · exact (hN' x).2 (Or.inr ⟨hx2, hx⟩)
    · exact hNN x (hTm x (by omega))
  have hagN : Agr ρ ρ' N := fun x hx => by
    show (if m.length ≤ x ∧ x < m1.length then ρ1 x else ρ x) = ρ x
    rw [if_neg]
    rintro ⟨h3, h4⟩
    exact hfresh x h3 h4 hx
  have hag1 : Agr ρ1 ρ' (upto m1.length) := fun x hx => by
    show (if m.length ≤ x ∧ x < m1.length then ρ1 x else ρ x) = ρ1 x
    by_cases h3 : m.length ≤ x
    · rw [if_pos ⟨h3, hx⟩]
    · rw [if_neg (by omega), r3 x (by simp [upto]; omega)]
  have hj : Inv w0 S N' ρ' M' w' := hi.join r2 (fun bb hb => by
      obtain ⟨k, bk, e1, e2, e3, rfl⟩ := hb
      exact hi.rws k bk (by rw [hMm k (getName_lt e2)]; exact e2) e3) hNN hN1 hagN hag1 fun k bk hbk => by
    rw [hM' k] at hbk
    split at hbk
    · rename_i haff
      simp only [Fp.aff, Bool.or_false, Bool.and_eq_true, decide_eq_true_eq] at haff
      right
      rw [getName_app, if_neg (by simp; omega)] at hbk
      obtain ⟨g1, g2⟩ := getName_onlyRw hbk
      rw [getName_drop, show wa + (k - (m.take wa).length) = k by simp; omega] at g1
      exact ⟨g1, g2⟩
    · rename_i haff
      simp only [Fp.aff, Bool.or_false, Bool.and_eq_true, decide_eq_true_eq] at haff
      refine Or.inl ⟨hbk, ?_⟩
      rintro ⟨j, bj, e1, e2, e3, e4⟩
      have hjl := getName_lt e2
      exact hi.sim.inj j k bj bk (by rw [hMm j hjl]; exact e2) hbk (by omega) e3 e4.symm
  exact ⟨ρ', r1.ext hag1 hN1, hj, hagN⟩
theorem callD_sound (hH : HOk P H) {w0 : World} {S N N' : Nat → Prop} {ρ : Nat → Loc3} {M M' : Nat → Option Blk} {w : World} {rv : Operand → Value} {m m' : Mem} {lim : Nat} {o : Oper} {ob : List Bool}
    {av : AV} {f : Fp} {fn : FuncId} {as : List AV} {vs : List Value} (h : callD q H m lim fn as = some (ob, (av, m', f))) (ho : Paid ob) (has : Reps ρ N as vs) (hcall0 : ∀ Q : Value → World → Prop, CallRun P fn vs.toArray w Q → Comes1 P o rv w Q) (hi : Inv w0 S N ρ M w)
    (hM : ∀ x, f.touch x → x < m.length → M x = getName m x) (hT : ∀ x, f.touch x → x < m.length → N x) (hfresh : ∀ x, m.length ≤ x → x < m'.length → ¬ N x) (hbar : f.bar = true → ∀ x, N x ↔ x < m.length)
    (hN' : ∀ x, N' x ↔ N x ∨ (m.length ≤ x ∧ x < m'.length)) (hM' : ∀ x, M' x = if f.aff x = true then getName m' x else M x) :
    Comes1 P o rv w (fun v w' => ∃ ρ', Rep ρ' N' av v ∧ Inv w0 S N' ρ' M' w' ∧ Agr ρ ρ' N) := by
  have hNN : ∀ x, N x → N' x := fun x hx => (hN' x).2 (Or.inl hx)
  -- where no memory is turned
  have stay : f.aff = (fun _ => false) → M' = M := fun hf => funext fun x => by rw [hM' x, hf]; simp
  unfold callD at h
  split at h
  · split at h
    · rename_i hb
      simp only [Bool.and_eq_true, decide_eq_true_eq] at hb
      obtain ⟨⟨hb1, hb2⟩, hb3⟩ := hb
      split at h
      · rename_i o1 v m1 hrun
        have hlen : (roAll (m.take lim)).length = lim := by simp [roAll]; omega
        -- the memory that the call is shown
        have hvisK : ∀ K, lim ≤ K → f.lim = lim → Inv w (fun _ => False) (upto K) ρ (getName (roAll (m.take lim))) w := fun K hK hf => by
          refine Inv.start _ ⟨?_, ?_, ?_, hi.sim.tab, fun G c hG k bk hk hr => by
            rw [getName_ro] at hk
            cases hg : getName (m.take lim) k with
            | none => simp [hg] at hk
            | some b0 => simp [hg] at hk; subst hk; cases hr⟩ ?_
          · intro k bk hk
            rw [getName_ro, getName_take] at hk
            split at hk
            · rename_i hkl
              cases hg : getName m k with
              | none => simp [hg] at hk
              | some b0 =>
                simp [hg] at hk
                subst hk
                have hMk : M k = some b0 := by rw [hM k (Or.inl (by rw [hf]; exact hkl)) (by omega)]; exact hg
                obtain ⟨cs', t', lo, hi', a1, a2, a3, a4, a5⟩ := (hi.sim.blk k b0 hMk).ex
                refine ⟨cs', t', lo, hi', a1, a2, (fun h => by cases h), a4, (a5.bnd (k := lim) fun l hl => ?_).ext (fun _ _ => rfl) (fun i hi => Nat.lt_of_lt_of_le hi hK)⟩
                have hgt : getName (m.take lim) k = some b0 := by rw [getName_take, if_pos hkl]; exact hg
                exact bndM_get hb2 hgt l hl
            · simp at hk
          · intro i j bi bj h1 _ _ hrw
            rw [getName_ro] at h1
            cases hg : getName (m.take lim) i with
            | none => simp [hg] at h1
            | some b0 => simp [hg] at h1; subst h1; cases hrw
          · intro k bk hk
            have := getName_lt hk
            rw [hlen] at this
            exact Nat.lt_of_lt_of_le this hK
          · intro k bk h1 hrw
            rw [getName_ro] at h1
            cases hg : getName (m.take lim) k with
            | none => simp [hg] at h1
            | some b0 => simp [hg] at h1; subst h1; cases hrw
        have hvis : f.lim = lim → Inv w (fun _ => False) (upto lim) ρ (getName (roAll (m.take lim))) w := hvisK lim (Nat.le_refl _)
        split at h
        · rename_i hpl
          cases h
          have hcall := hH.run hrun ho (w0 := w) (S := fun _ => False) (ρ := ρ) (w := w) (by rw [hlen]; exact has.bnd hb1) (by rw [hlen]; exact hvis rfl)
          refine hcall0 _ ?_
          refine hcall.mono fun u w' ⟨ρ', r1, r2, r3⟩ => ⟨ρ, plainAs_rep r1 hpl, ?_, fun _ _ => rfl⟩
          rw [stay (by funext x; simp [Fp.aff])]
          have hq := hi.quiet r2
          refine ⟨⟨fun n b hn => ?_, hq.sim.inj, fun n b hn => hNN _ (hq.sim.live n b hn), hq.sim.tab, hq.sim.apart⟩, hq.size, hq.frame, hq.os, hq.tape, hq.output, hq.rws⟩
          obtain ⟨cs', t', lo, hi', a1, a2, a3, a4, a5⟩ := (hq.sim.blk n b hn).ex
          exact ⟨cs', t', lo, hi', a1, a2, a3, a4, a5.ext (fun _ _ => rfl) hNN⟩
        · split at h
          · rename_i hlim
            cases h
            have hcall := hH.run hrun ho (w0 := w) (S := fun _ => False) (ρ := ρ) (w := w) (by rw [hlen]; exact has.bnd hb1) (by rw [hlen]; exact hvis rfl)
            have hle := hH.le hrun ho
            rw [hlen] at hle
            refine hcall0 _ ?_
            refine hcall.mono fun u w' ⟨ρ1, r1, r2, r3⟩ => ?_
            rw [hlen] at r3
            have hm1 : (onlyRw (m1.drop lim)).length = m1.length - lim := by simp [onlyRw]
            have hN1 : ∀ x, upto m1.length x → N' x := fun x hx => by
              by_cases hx2 : lim ≤ x
              · exact (hN' x).2 (Or.inr ⟨by omega, by simp [hm1]; simp [upto] at hx; omega⟩)
              · exact hNN x (hT x (Or.inl (by simp; omega)) (by omega))
            -- names at hand keep what they stood for; new ones stand for what the call made
            let ρ' : Nat → Loc3 := fun x => if lim ≤ x ∧ x < m1.length then ρ1 x else ρ x
            have hagN : Agr ρ ρ' N := fun x hx => by
              show (if lim ≤ x ∧ x < m1.length then ρ1 x else ρ x) = ρ x
              rw [if_neg]
              rintro ⟨h1, h2⟩
              exact hfresh x (by omega) (by simp [hm1]; omega) hx
            have hag1 : Agr ρ1 ρ' (fun x => upto m1.length x) := fun x hx => by
              show (if lim ≤ x ∧ x < m1.length then ρ1 x else ρ x) = ρ1 x
              by_cases h1 : lim ≤ x
              · rw [if_pos ⟨h1, hx⟩]
              · rw [if_neg (by omega), r3 x (by simp [upto]; omega)]
            refine ⟨ρ', r1.ext hag1 hN1, hi.join r2 (fun _ h => h.elim) hNN hN1 hagN hag1 fun k bk hk => ?_, hagN⟩
            rw [hM' k] at hk
            split at hk
            · rename_i haff
              right
              simp [Fp.aff] at haff
              rw [getName_app, if_neg (by omega)] at hk
              obtain ⟨g1, g2⟩ := getName_onlyRw hk
              rw [getName_drop, show lim + (k - m.length) = k by omega] at g1
              exact ⟨g1, g2⟩
            · exact Or.inl ⟨hk, fun h => h⟩
          · unfold callN at h
            split at h
            · rename_i o2 v2 m2 hrun2
              split at h
              · rename_i hnew
                simp only [Bool.and_eq_true] at hnew
                obtain ⟨hnA, hnM⟩ := hnew
                cases h
                have hlen2 : (roAll (m.take lim) ++ List.replicate (m.length - lim) none).length = m.length := by rw [List.length_append, hlen, List.length_replicate]; omega
                have hg2 : getName (roAll (m.take lim) ++ List.replicate (m.length - lim) none) = getName (roAll (m.take lim)) := funext fun x => getName_nones x
                have hcall := hH.run hrun2 ho (w0 := w) (S := fun _ => False) (ρ := ρ) (w := w) (by rw [hlen2]; exact (has.bnd hb1).ext (fun _ _ => rfl) (fun i hi => Nat.lt_of_lt_of_le hi hb3)) (by rw [hlen2, hg2]; exact hvisK _ hb3 rfl)
                have hle := hH.le hrun2 ho
                rw [hlen2] at hle
                refine hcall0 _ ?_
                refine hcall.mono fun u w' ⟨ρ1, r1, r2, r3⟩ => ?_
                have hm1 : (onlyRw (m2.drop m.length)).length = m2.length - m.length := by simp [onlyRw]
                have hN1 : ∀ x, (m.length ≤ x ∧ x < m2.length) → N' x := fun x hx => (hN' x).2 (Or.inr ⟨hx.1, by simp [hm1]; omega⟩)
                let ρ' : Nat → Loc3 := fun x => if m.length ≤ x ∧ x < m2.length then ρ1 x else ρ x
                have hagN : Agr ρ ρ' N := fun x hx => by
                  show (if m.length ≤ x ∧ x < m2.length then ρ1 x else ρ x) = ρ x
                  rw [if_neg]
                  rintro ⟨h1, h2⟩
                  exact hfresh x h1 (by simp [hm1]; omega) hx
                have hag1 : Agr ρ1 ρ' (fun x => m.length ≤ x ∧ x < m2.length) := fun x hx => if_pos hx
                have hg : ∀ n b, (if m.length ≤ n then getName m2 n else none) = some b → m.length ≤ n ∧ getName m2 n = some b ∧ ∃ k z l, b.c = .ints k z l := fun n b hn => by
                  split at hn
                  · rename_i hk
                    refine ⟨hk, hn, newM_get (m := m2.drop m.length) (n := n - m.length) hnM ?_⟩
                    rw [getName_drop, show m.length + (n - m.length) = n by omega]
                    exact hn
                  · cases hn
                have q2 : Inv w (fun _ => False) (fun x => m.length ≤ x ∧ x < m2.length) ρ1 (fun n => if m.length ≤ n then getName m2 n else none) w' := by
                  refine ⟨⟨fun n b hn => ?_, fun i j bi bj h1 h2 hij hrw => ?_, fun n b hn => ?_, r2.sim.tab, fun G c hG n b hn hrw => ?_⟩, r2.size, r2.frame, r2.os, r2.tape, r2.output, fun n b hn hrw => ?_⟩
                  · obtain ⟨_, h1, k, z, l, hc⟩ := hg n b hn
                    obtain ⟨cs', t', lo, hi', a1, a2, a3, a4, a5⟩ := (r2.sim.blk n b h1).ex
                    exact ⟨cs', t', lo, hi', a1, a2, a3, a4, by rw [hc] at a5 ⊢; exact a5⟩
                  · exact r2.sim.inj i j bi bj (hg i bi h1).2.1 (hg j bj h2).2.1 hij hrw
                  · exact ⟨(hg n b hn).1, getName_lt (hg n b hn).2.1⟩
                  · exact r2.sim.apart G c hG n b (hg n b hn).2.1 hrw
                  · exact r2.rws n b (hg n b hn).2.1 hrw
                refine ⟨ρ', newA_rep (fun x hx hx2 => ⟨hN1 x ⟨hx, hx2⟩, if_pos ⟨hx, hx2⟩⟩) r1 hnA, hi.join q2 (fun _ h => h.elim) hNN hN1 hagN hag1 fun k bk hk => ?_, hagN⟩
                rw [hM' k] at hk
                split at hk
                · rename_i haff
                  right
                  simp [Fp.aff] at haff
                  rw [getName_app, if_neg (by omega)] at hk
                  obtain ⟨g1, g2⟩ := getName_onlyRw hk
                  rw [getName_drop, show m.length + (k - m.length) = k by omega] at g1
                  exact ⟨by rw [if_pos haff.1]; exact g1, g2⟩
                · exact Or.inl ⟨hk, fun h => h⟩
              · cases h
            · cases h
      · cases h
    · cases h
  · split at h
    · rename_i r hr
      rw [← hr] at h
      exact callW_sound hH h ho has hcall0 hi hM hT hfresh hN' hM'
    split at h
    · rename_i o1 v m1 hrun
      cases h
      have hb := hbar rfl
      have hMm : M = getName m := funext fun x => by
        by_cases hx : x < m.length
        · exact hM x (Or.inr (Or.inr (Or.inr rfl))) hx
        · cases hMx : M x with
          | none => unfold getName; rw [List.getElem?_eq_none (by omega)]
          | some b => exact absurd ((hb x).1 (hi.sim.live x b hMx)) hx
      have hNm : N = upto m.length := funext fun x => propext (hb x)
      have hle := hH.le hrun ho
      have hNm' : N' = upto m'.length := funext fun x => propext (by rw [hN' x, hb x]; simp [upto]; omega)
      have hMm' : M' = getName m' := funext fun x => by rw [hM' x]; simp [Fp.aff]
      subst hMm hNm hNm' hMm'
      have hcall := hH.run hrun ho has hi
      refine hcall0 _ ?_
      exact hcall
    · cases h
theorem stepD_sound (hH : HOk P H) {w0 : World} {S N N' : Nat → Prop} {ρ : Nat → Loc3} {M M' : Nat → Option Blk} {w : World} {ev : Operand → AV} {rv : Operand → Value} {m m' : Mem} {lim : Nat} {o : Oper} {ob : List Bool}
    {av : AV} {f : Fp} (h : stepD P q H ev m lim o.op = some (ob, (av, m', f))) (ho : Paid ob) (hev : ∀ x, Rep ρ N (ev x) (rv x)) (hi : Inv w0 S N ρ M w)
    (hM : ∀ x, f.touch x → x < m.length → M x = getName m x) (hT : ∀ x, f.touch x → x < m.length → N x) (hfresh : ∀ x, m.length ≤ x → x < m'.length → ¬ N x) (hbar : f.bar = true → ∀ x, N x ↔ x < m.length)
    (hN' : ∀ x, N' x ↔ N x ∨ (m.length ≤ x ∧ x < m'.length)) (hM' : ∀ x, M' x = if f.aff x = true then getName m' x else M x) :
    Comes1 P o rv w (fun v w' => ∃ ρ', Rep ρ' N' av v ∧ Inv w0 S N' ρ' M' w' ∧ Agr ρ ρ' N) := by
  have hNN : ∀ x, N x → N' x := fun x hx => (hN' x).2 (Or.inl hx)
  -- where no memory is turned
  have stay : f.aff = (fun _ => false) → M' = M := fun hf => funext fun x => by rw [hM' x, hf]; simp
  have newN : ∀ {c : Cells}, m' = m ++ [some ⟨true, c⟩] → f = ⟨0, none, m.length, m.length + 1, false⟩ → ∀ {cs : Array Value} {t : TypeId} (rw : CRep ρ N c (fun i => cs[i]?)) (hl : clen c ≤ cs.size),
      Inv w0 S N' (bump ρ m.length ⟨w.heap.size, 0, cs.size⟩) M' (w.alloc (.cells cs t)) ∧ Agr ρ (bump ρ m.length ⟨w.heap.size, 0, cs.size⟩) N ∧
      Rep (bump ρ m.length ⟨w.heap.size, 0, cs.size⟩) N' (.ptr false m.length 0) (.pointer (some ⟨w.heap.size, 0, none⟩)) := by
    intro c e1 e2 cs t hc hl
    have hf := hfresh m.length (Nat.le_refl _) (by simp [e1])
    have hk : N' m.length := (hN' _).2 (Or.inr ⟨Nat.le_refl _, by simp [e1]⟩)
    refine ⟨hi.alloc (rw := true) hf t hc hl hNN hk fun n b hn => ?_, bump_agr hf, ?_⟩
    · rw [hM' n, e2] at hn
      by_cases hnl : n = m.length
      · subst hnl
        rw [if_pos (by simp [Fp.aff]), e1] at hn
        rcases new_name _ _ hn with h1 | h1
        · have := getName_lt h1; omega
        · exact Or.inr h1
      · rw [if_neg (by simp [Fp.aff]; omega)] at hn
        exact Or.inl hn
    · have hp := Rep.ptr (ρ := bump ρ m.length ⟨w.heap.size, 0, cs.size⟩) (N := N') false m.length 0 hk
      rwa [bump_at] at hp
  unfold stepD at h
  split at h
  · rename_i t hop
    split at h
    · rename_i z hz
      obtain ⟨_, he⟩ := pure_some h
      cases he
      obtain ⟨cs, r1, c1, c2⟩ := zero_run (ρ := ρ) (N := N) (w := w) hz o hop rv
      obtain ⟨g1, g2, g3⟩ := newN rfl rfl (t := t) c1 c2
      exact Comes1.value r1 ⟨_, g3, g1, g2⟩
    · cases h
  · rename_i t x hop
    split at h
    · rename_i hal
      obtain ⟨_, he⟩ := pure_some h
      cases he
      obtain ⟨c1, c2⟩ := toCells_rep (hev x) hal
      obtain ⟨g1, g2, g3⟩ := newN rfl rfl (t := t) c1 c2
      exact Comes1.value (box_run o hop rv) ⟨_, g3, g1, g2⟩
    · cases h
  · rename_i t a x hop
    split at h
    · rename_i n hn
      split at h
      · rename_i o1 mk hst
        split at h
        · rename_i hlt
          cases h
          obtain ⟨b, c, s1, s2, s3⟩ := storeA_some hst hn
          rw [getName_keep, if_pos rfl] at s1
          have hMn : M n = some b := by rw [hM n (Or.inr (Or.inr (Or.inl ⟨Nat.le_refl _, Nat.lt_succ_self _⟩))) hlt]; exact s1
          have hsub : Sim ρ N (getName (keep (some n) m)) w := hi.sim.sub fun k bk hk => by
            rw [getName_keep] at hk
            split at hk
            · rename_i he
              cases he
              rw [s1] at hk; cases hk
              exact ⟨b, hMn, rfl, fun h => h⟩
            · cases hk
          have hst0 : Inv w (fun bb => bb = (ρ n).b) N ρ (getName (keep (some n) m)) w := Inv.start _ hsub fun k bk hk _ => by
            rw [getName_keep] at hk
            split at hk
            · rename_i he; cases he; rfl
            · cases hk
          obtain ⟨w', r1, r2, r3⟩ := storeA_sound hst ho (hev a) (hev x) hst0
          have hj : Inv w0 S N' ρ M' w' := hi.join r2 (fun bb hb => by rw [hb]; exact hi.rws n b hMn s2) hNN hNN (fun _ _ => rfl) (fun _ _ => rfl) fun k bk hk => by
            rw [hM' k] at hk
            by_cases hkn : k = n
            · subst hkn
              right
              rw [if_pos (by simp [Fp.aff])] at hk
              have hlk : k < (keep (some k) m).length := by simp [keep]
              have hg : mk.getD k none = some ⟨true, c⟩ := by rw [s3]; simp [hlk]
              rw [hg] at hk
              have e1 : getName (m.set k (some ⟨true, c⟩)) k = some ⟨true, c⟩ := by unfold getName; simp [hlt]
              rw [e1] at hk
              cases hk
              refine ⟨?_, rfl⟩
              rw [s3]
              unfold getName; simp [hlk]
            · left
              rw [if_neg (by simp [Fp.aff]; omega)] at hk
              exact ⟨hk, fun e => hi.sim.inj n k b bk hMn hk (Ne.symm hkn) s2 e.symm⟩
          unfold Comes1
          have hr : (execOp rv o).run P w = .ok .skip w' := by simp [execOp, hop, r1]
          rw [hr]
          exact ⟨ρ, .tuple [] [] .nil, hj, fun _ _ => rfl⟩
        · cases h
      · cases h
    · cases h
  · rename_i g args ts hop
    split at h
    · rename_i fn cap hfv
      have hr := hev g
      rw [hfv] at hr
      cases hv : rv g <;> rw [hv] at hr <;> try (cases hr; done)
      cases hr with
      | func _ _ cs hcs =>
      have has := (reps_map hev args.toList).append hcs
      have hargs : ((List.map rv args.toList ++ cs).toArray) = Array.map rv args ++ cs.toArray := by simp
      exact callD_sound hH h ho has (fun Q hQ => Comes1.call hop hv (by rw [hargs] at hQ; exact hQ)) hi hM hT hfresh hbar hN' hM'
    · cases h
  · rename_i r name args ts hop
    split at h
    · rename_i t a hf
      split at h
      · rename_i g hm
        have hr := hev r
        rw [hf] at hr
        cases hv : rv r <;> rw [hv] at hr <;> try (cases hr; done)
        rename_i t2 v
        cases hr with
        | iface _ _ _ hv2 =>
        have hargs : ((v :: List.map rv args.toList).toArray) = #[v] ++ Array.map rv args := by apply Array.ext'; simp
        exact callD_sound hH h ho (.cons _ _ _ _ hv2 (reps_map hev args.toList)) (fun Q hQ => Comes1.invoke hop hv hm (by rw [hargs] at hQ; exact hQ)) hi hM hT hfresh hbar hN' hM'
      · cases h
    · cases h
  · rename_i hn1 hn2 hn3 hn4 hn5
    split at h
    · rename_i hv
      split at h
      · rename_i o1 v m1 hrun
        cases h
        have hsub : Sim ρ N (getName (keep (rdName ev o.op) m)) w := hi.sim.sub fun k bk hk => by
          rw [getName_keep] at hk
          split at hk
          · rename_i he
            refine ⟨bk, ?_, rfl, fun h => h⟩
            rw [hM k (Or.inr (Or.inl he)) (getName_lt hk)]
            exact hk
          · cases hk
        obtain ⟨_, u, r1, r2⟩ := opV_sound hrun ho hv hev hsub
        refine Comes1.value r1 ⟨ρ, r2.ext (fun _ _ => rfl) hNN, ?_, fun _ _ => rfl⟩
        rw [stay (by funext x; simp [Fp.aff])]
        refine ⟨⟨fun n b hn => ?_, hi.sim.inj, fun n b hn => hNN _ (hi.sim.live n b hn), hi.sim.tab, hi.sim.apart⟩, hi.size, hi.frame, hi.os, hi.tape, hi.output, hi.rws⟩
        obtain ⟨cs', t', lo, hi', a1, a2, a3, a4, a5⟩ := (hi.sim.blk n b hn).ex
        exact ⟨cs', t', lo, hi', a1, a2, a3, a4, a5.ext (fun _ _ => rfl) hNN⟩
      · cases h
    · rename_i hvv
      split at h
      · rename_i r hr
        rw [← hr] at h
        obtain ⟨t, len, parts, hop, hb, rfl⟩ := bldQ_some h
        obtain ⟨c, cells', e, e1, e2, g1, g2, g3, g4⟩ := sliceOfA_new (ρ := ρ) (N := N) (w := w) (vparts := parts.map fun (i, x) => (i, rv x)) hb (by simp) (by
          have : ∀ l : List (Nat × Operand), Reps ρ N ((l.map fun (i, x) => (i, ev x)).map (·.2)) ((l.map fun (i, x) => (i, rv x)).map (·.2)) := by
            intro l
            induction l with
            | nil => exact .nil
            | cons p l ih => exact .cons _ _ _ _ (hev p.2) ih
          simpa using this parts.toList)
        obtain ⟨k1, k2, _⟩ := newN e1 rfl (t := e) g2 g3
        have hk : N' m.length := (hN' _).2 (Or.inr ⟨Nat.le_refl _, by simp [e1]⟩)
        refine Comes1.value (by simp [execOp, hop, g1]; rfl) ⟨_, ?_, k1, k2⟩
        rw [e2]
        refine .slice false m.length 0 len (some len) 1 len _ hk (fun _ h => by cases h; rfl) (Nat.le_refl _) ?_ fun _ => ?_
        · rw [bump_at]; show 0 + len * 1 ≤ cells'.size; omega
        · rw [bump_at]
      split at h
      · rename_i r hr
        rw [← hr] at h
        obtain ⟨t, x0, y0, hop, hb, rfl⟩ := makQ_some h
        obtain ⟨c, cells', e, v, e1, g1, g2, g3, g4⟩ := makeA_new (ρ := ρ) (N := N) (w := w) hb ho (hev x0) (hev y0)
        obtain ⟨k1, k2, _⟩ := newN e1 rfl (t := e) g2 g3
        have hk : N' m.length := (hN' _).2 (Or.inr ⟨Nat.le_refl _, by simp [e1]⟩)
        refine Comes1.value (by simp [execOp, hop, g1]) ⟨_, g4 _ _ hk (by rw [bump_at]), k1, k2⟩
      split at h
      · rename_i r hr
        rw [← hr] at h
        exact mkQ_sound h ho hev hi hM hT hfresh hN' hM'
      split at h
      · rename_i o1 v m1 hrun
        cases h
        have hb := hbar rfl
        have hMm : M = getName m := funext fun x => by
          by_cases hx : x < m.length
          · exact hM x (Or.inr (Or.inr (Or.inr rfl))) hx
          · cases hMx : M x with
            | none => unfold getName; rw [List.getElem?_eq_none (by omega)]
            | some b => exact absurd ((hb x).1 (hi.sim.live x b hMx)) hx
        have hNm : N = upto m.length := funext fun x => propext (hb x)
        have hle := isV_not hvv hrun hn1 hn2 hn3
        have hNm' : N' = upto m'.length := funext fun x => propext (by rw [hN' x, hb x]; simp [upto]; omega)
        have hMm' : M' = getName m' := funext fun x => by rw [hM' x]; simp [Fp.aff]
        subst hMm hNm hNm' hMm'
        obtain ⟨⟨u, w', ρ', h1, h2, h3, h4⟩, _⟩ := opA_sound hrun ho hev hi
        unfold Comes1
        rcases h1 with h1 | ⟨h1, rfl⟩
        · rw [h1]; exact ⟨ρ', h2, h3, h4⟩
        · rw [h1]; exact ⟨ρ', h2, h3, h4⟩
      · cases h

/- the text's order -/
/-- One operation in the text's order: the state behind it. -/
theorem operA_sound (hH : HOk P H) {w0 : World} {S : Nat → Prop} {ρ0 : Nat → Loc3} {n0 : Nat} {ds : List Deferred} {ops : Array Oper} {st st' : St} {o : Oper} {ob : List Bool} {a : Act} {w : World} {i : Nat}
    (hoi : ops[i]? = some o) (h : operA P q H ops st o = some (ob, st')) (ho : Paid ob) (hs : SInv w0 S ρ0 n0 ds st a w) {K : Act → World → Prop} {Q : Exit → Act → World → Prop}
    (hK : ∀ a' w', SInv w0 S ρ0 n0 ds st' a' w' → K a' w') : wpOp P ops Q i K a w := by
  obtain ⟨⟨ρ, hr, hi, hag⟩, hle, hds⟩ := hs
  have hw0 := want_sound (ρ := ρ) (N := upto st.mem.length) (st := st) (ops := ops) (o := o) (a := a) (fun g b d _ _ => hr.rep d)
  have hev : ∀ x, Rep ρ (upto st.mem.length) (st.evT (tmpsOf o.op) x) (a.eval x) := fun x => evT_rep (fun t _ => hr.rep t) x
  unfold operA at h
  split at h
  · rename_i owed hwant
    have hw := wantQ_sound hw0 hwant
    split at h
    rename_i owed2 op hop2
    split at h
    · rename_i o1 v m1 hone
      cases h
      have hp := paid_append.1 ho
      have hp2 := paid_append.1 hp.2
      refine wpOp_of hoi (fun hf => by rw [hw.1 rfl hp.1] at hf; cases hf) fun _ => ?_
      obtain ⟨g1, g2⟩ := oneA_sound (o := { o with op := op }) hH hone hp2.2 hev hi
      refine Comes1.wp (asmOp_sound hop2 hp2.1 hev (g2.mono fun u w' ⟨ρ', r1, r2, r3⟩ => hK _ _ ⟨⟨ρ', ?_, r2, fun x hx => by rw [r3 x (by simp [upto] at *; omega)]; exact hag x hx⟩, Nat.le_trans hle g1, by rw [put_defers]; exact hds⟩))
      exact hr.put r3 (fun x hx => by simp [upto] at *; omega) r1 o.dst
    · cases h
  · rename_i hnot
    split at h
    · rename_i o1 st1 f1 hop
      cases h
      unfold operD at hop
      split at hop
      · rename_i hwant; exact absurd hwant (hnot _)
      · rename_i hwant
        have hw := wantQ_sound hw0 hwant
        cases hop
        refine wpOp_of hoi (fun _ => hK _ _ ⟨⟨ρ, hr.put (fun _ _ => rfl) (fun _ h => h) (.grdF _) o.dst, hi, hag⟩, hle, by rw [put_defers]; exact hds⟩) fun hf => by rw [hw.2.1 rfl ho] at hf; cases hf
      · rename_i g hwant
        have hw := wantQ_sound hw0 hwant
        have hwg := hw.2.2 g rfl
        split at hop
        · rename_i o2 v m1 f2 hst
          split at hop
          · cases hop
          · rename_i hfp
            cases hop
            simp only [Bool.or_eq_false_iff, decide_eq_false_iff_not] at hfp
            cases g with
            | false =>
              refine wpOp_of hoi (fun _ => hK _ _ ⟨⟨ρ, hr.put (fun _ _ => rfl) (fun _ h => h) (.grdF _) o.dst, hi, hag⟩, hle, by rw [put_defers]; exact hds⟩) fun hf => by rw [hwg] at hf; cases hf
            | true =>
              have ho2 : Paid (o2 ++ st.owes (stripOf o.op)) := fun p hp => by
                have := ho (!true || p) (List.mem_map.2 ⟨p, hp, rfl⟩)
                simpa using this
              have hfr := stepD_frame hH hst (paid_append.1 ho2).1
              have hno : ∀ x, f1.aff x = false := fun x => by
                simp only [Fp.aff, hfp.1, Bool.or_false, Bool.and_eq_false_iff, decide_eq_false_iff_not]
                omega
              refine wpOp_of hoi (fun hf => by rw [hwg] at hf; cases hf) fun _ => ?_
              have hstep := stepD_sound hH (w0 := w0) (S := S) (N := upto st.mem.length) (N' := fun x => upto st.mem.length x ∨ (st.mem.length ≤ x ∧ x < m1.length)) (ρ := ρ) (M := getName st.mem) (M' := getName st.mem) (w := w)
                (rv := a.eval) hst (paid_append.1 ho2).1 (fun x => evS_rep (fun t _ => hr.rep t) (paid_append.1 ho2).2 x) hi (fun _ _ _ => rfl) (fun x _ hx => hx) (fun x hx _ h => by simp [upto] at h; omega)
                (fun hb => by rw [hfp.1] at hb; cases hb) (fun x => Iff.rfl) (fun x => by rw [hno x]; simp)
              have hlen : m1.length = st.mem.length := hfr.2.2.1 hfp.1 (by omega)
              have hNe : (fun x => upto st.mem.length x ∨ (st.mem.length ≤ x ∧ x < m1.length)) = upto st.mem.length := funext fun x => propext ⟨fun h => h.elim id (fun h => by omega), Or.inl⟩
              rw [hNe] at hstep
              refine Comes1.wp (hstep.mono fun u w' ⟨ρ', r1, r2, r3⟩ => hK _ _ ⟨⟨ρ', hr.put r3 (fun _ h => h) (.grdT _ _ r1) o.dst, r2, fun x hx => by rw [r3 x (by simp [upto] at *; omega)]; exact hag x hx⟩, hle, by rw [put_defers]; exact hds⟩)
        · cases hop
      · cases hop
    · cases h
end
end Go.Ev
