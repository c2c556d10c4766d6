/- append of numbers, and a slice of given elements: the evaluator's answer is the model's. The old slice's name is given up: what comes back bears a new one. Own work. -/
import Derived.Test.YtjhjhhibfojpiaaTEvOps2
import Derived.Laws.AppendOwn
import Derived.Laws.MakeOwn
import Derived.Laws.IdiomStrings
set_option linter.unusedSimpArgs false
set_option linter.unusedVariables false
set_option linter.unusedSectionVars false
namespace Go.Ev
set_option linter.unusedSectionVars false
section
variable [Tab] {P : Program} {ρ : Nat → Loc3} {N : Nat → Prop} {w : World}

/-- A name's block under another name. -/
theorem Inv.rename {w0 : World} {S : Nat → Prop} {N' : Nat → Prop} {g g' : Nat → Option Blk} (h : Inv w0 S N ρ g w) {n k : Nat} {b : Blk} (hn : g n = some b) (hk : ¬ N k) (hNN : ∀ i, N i → N' i) (hNk : N' k)
    (hg : ∀ i bi, g' i = some bi → (i = k ∧ bi = b) ∨ (i ≠ k ∧ i ≠ n ∧ g i = some bi)) : Inv w0 S N' (bump ρ k (ρ n)) g' w := by
  have ha : Agr ρ (bump ρ k (ρ n)) N := bump_agr hk
  have hne : ∀ i, i ≠ k → bump ρ k (ρ n) i = ρ i := fun i hi => by simp [bump, hi]
  refine ⟨⟨?_, ?_, ?_, h.sim.tab, fun G c hG i bi hi hr => ?_⟩, h.size, h.frame, h.os, h.tape, h.output, ?_⟩
  rotate_left 3
  · rcases hg _ _ hi with ⟨rfl, rfl⟩ | ⟨h1, _, h2⟩
    · rw [bump_at]; exact h.sim.apart G c hG n bi hn hr
    · rw [hne i h1]; exact h.sim.apart G c hG i bi h2 hr
  rotate_right 3
  · intro i bi hi
    rcases hg _ _ hi with ⟨rfl, rfl⟩ | ⟨h1, _, h2⟩
    · obtain ⟨cs, t, lo, hi', a1, a2, a3, a4, a5⟩ := (h.sim.blk n bi hn).ex
      refine ⟨cs, t, lo, hi', ?_, ?_, a3, ?_, ?_⟩ <;> rw [bump_at] <;> try assumption
      exact a5.ext ha hNN
    · obtain ⟨cs, t, lo, hi', a1, a2, a3, a4, a5⟩ := (h.sim.blk i bi h2).ex
      refine ⟨cs, t, lo, hi', ?_, ?_, a3, ?_, ?_⟩ <;> rw [hne i h1] <;> try assumption
      exact a5.ext ha hNN
  · intro i j bi bj hi hj hij hr
    rcases hg _ _ hi with ⟨rfl, rfl⟩ | ⟨h1, h1', h2⟩ <;> rcases hg _ _ hj with ⟨e1, e2⟩ | ⟨h3, h3', h4⟩
    · exact absurd e1.symm hij
    · rw [bump_at, hne j h3]; exact h.sim.inj n j bi bj hn h4 (Ne.symm h3') hr
    · rw [e1, bump_at, hne i h1]; exact h.sim.inj i n bi b h2 hn h1' hr
    · rw [hne i h1, hne j h3]; exact h.sim.inj i j bi bj h2 h4 hij hr
  · intro i bi hi
    rcases hg _ _ hi with ⟨rfl, rfl⟩ | ⟨_, _, h2⟩
    · exact hNk
    · exact hNN i (h.sim.live i bi h2)
  · intro i bi hi hr
    rcases hg _ _ hi with ⟨rfl, rfl⟩ | ⟨h1, _, h2⟩
    · rw [bump_at]; exact h.rws n bi hn hr
    · rw [hne i h1]; exact h.rws i bi h2 hr

theorem Inv.drew {w0 : World} {S : Nat → Prop} {g : Nat → Option Blk} (hi : Inv w0 S N ρ g w) : Inv w0 S N ρ g w.drew :=
  ⟨⟨fun n b h => let ⟨cs, t, lo, hi', a1, a2, a3, a4, a5⟩ := (hi.sim.blk n b h).ex; ⟨cs, t, lo, hi', a1, a2, a3, a4, a5⟩, hi.sim.inj, hi.sim.live, hi.sim.tab.same fun _ _ _ _ => rfl, hi.sim.apart⟩, hi.size, hi.frame, hi.os, hi.tape, hi.output, hi.rws⟩

theorem set_app {m : Mem} {n : Nat} {b : Option Blk} {i : Nat} {bi : Blk} (h : getName (m.set n none ++ [b]) i = some bi) : (i = m.length ∧ b = some bi) ∨ (i ≠ m.length ∧ i ≠ n ∧ getName m i = some bi) := by
  rcases getName_append h with h1 | ⟨h1, h2⟩
  · have hlt := getName_lt h1
    simp at hlt
    refine Or.inr ⟨by omega, ?_, ?_⟩
    · rintro rfl
      unfold getName at h1
      simp [hlt] at h1
    · by_cases hin : i = n
      · subst hin
        unfold getName at h1
        simp [hlt] at h1
      · unfold getName at h1 ⊢
        rwa [List.getElem?_set_ne (Ne.symm hin)] at h1
  · exact Or.inl ⟨by simpa using h1, h2⟩

theorem one_ints {k : IntKind} {l : List Int} : ∀ v ∈ l.map (Value.int k), v.oneCell' = true := by
  intro v hv
  obtain ⟨x, _, rfl⟩ := List.mem_map.1 hv
  rfl

/-- What is appended, in memory. -/
theorem xsA_sound {m : Mem} {k : IntKind} {x : AV} {vx : Value} {ob : List Bool} {s : Bool} {len : Nat} {l : List Int} (h : xsA m k x = some (ob, (s, len, l))) (ho : Paid ob) (hx : Rep ρ N x vx) (hs : Sim ρ N (getName m) w) :
    ∃ ad c, vx = .slice (some ad) len c ∧ l.length = len ∧ (∀ (j : Nat) (v : Value), (l.map (Value.int k))[j]? = some v → w.cell? (ad.add j) = some v) ∧ ∀ x ∈ l, inR k x = true := by
  obtain ⟨ad, c, h1, h2, h3, h4, h5⟩ := numsA_sound h ho hx hs
  exact ⟨ad, c, h1, h3, h4, h5⟩

theorem reps_rep {a : AV} {v : Value} (h : Rep ρ N a v) : ∀ n, Reps ρ N (List.replicate n a) (List.replicate n v)
  | 0 => .nil
  | n + 1 => .cons _ _ _ _ h (reps_rep h n)
theorem Inv.less {w0 : World} {S : Nat → Prop} {g g' : Nat → Option Blk} (h : Inv w0 S N ρ g w) (hg : ∀ n b, g' n = some b → g n = some b) : Inv w0 S N ρ g' w :=
  ⟨⟨fun n b hn => h.sim.blk n b (hg n b hn), fun i j bi bj hi hj hij hr => h.sim.inj i j bi bj (hg i bi hi) (hg j bj hj) hij hr, fun n b hn => h.sim.live n b (hg n b hn), h.sim.tab, fun G c hG n b hn hr => h.sim.apart G c hG n b (hg n b hn) hr⟩, h.size, h.frame, h.os, h.tape, h.output, fun n b hn hr => h.rws n b (hg n b hn) hr⟩
theorem sliceOfA_sound {w0 : World} {S : Nat → Prop} {m m' : Mem} {t : TypeId} {len : Nat} {parts : List (Nat × AV)} {vparts : Array (Nat × Value)} {ob : List Bool} {av : AV} (h : sliceOfA P m t len parts = some (ob, (av, m')))
    (h1 : parts.map (·.1) = vparts.toList.map (·.1)) (h2 : Reps ρ (upto m.length) (parts.map (·.2)) (vparts.toList.map (·.2))) (hi : Inv w0 S (upto m.length) ρ (getName m) w) :
    m.length ≤ m'.length ∧ ∃ v w' ρ', (Instr.buildSlice t len vparts).run P w = .ok v w' ∧ Rep ρ' (upto m'.length) av v ∧ Inv w0 S (upto m'.length) ρ' (getName m') w' ∧ Agr ρ ρ' (upto m.length) := by
  have hfresh : ¬ upto m.length m.length := by simp [upto]
  unfold sliceOfA at h
  split at h
  · rename_i e he
    split at h
    · rename_i z hsz hz
      split at h
      · rename_i cs hc hsp
        simp only [Bool.and_eq_true, Bool.or_eq_true, decide_eq_true_eq] at hc
        obtain ⟨⟨hsc, hle⟩, hge⟩ := hc
        split at h
        · rename_i hcl
          simp only [decide_eq_true_eq] at hcl
          obtain ⟨_, hee⟩ := pure_some h
          cases hee
          obtain ⟨it, zv, i1, i2, i3, i4, i5⟩ := zeroA_sound (ρ := ρ) (N := upto m.length) (w := w) hz
          have hzc := scalar_cells i3 hsc
          have hcells : Reps ρ (upto m.length) (List.replicate len z) ((Array.range len).map (zv.cells[· % zv.cells.size]!)).toList := by
            rw [hzc]
            have : ((Array.range len).map (#[zv][· % (#[zv] : Array Value).size]!)).toList = List.replicate len zv := by
              apply List.ext_getElem?
              intro j
              by_cases hj : j < len
              · simp [hj, Nat.mod_one]
              · simp [hj]
            rw [this]
            exact reps_rep i3 len
          obtain ⟨cells', f1, f2⟩ := fill_sound (pl' := fun i => some (i * 1, 1)) (fun _ _ h => h) hsp hcells h1 h2
          have hsize : cells'.size = len := by have := f2.length; simp at this; omega
          have hrep := mkAgg_rep f2
          obtain ⟨c1, c2⟩ := toCells_rep hrep (mkAgg_alive cs)
          have hr : (Instr.buildSlice t len vparts).run P w = .ok (.slice (some ⟨w.heap.size, 0, none⟩) len len) (w.alloc (.cells cells' e)) := by
            have hn2 : ¬ len * 1 > 2 ^ 24 := by omega
            rcases Nat.eq_zero_or_pos len with h0 | h0
            · subst h0
              simp only [Instr.buildSlice, Sem.run_bind, run_underlying he, Result.andThen_ok, run_sizeOf hsz]
              rw [if_neg hn2, if_pos trivial]
              simp only [Sem.run_bind, Sem.run_pure, Result.andThen_ok, Nat.mul_one]
              have e0 : ∀ z : Array Value, (Array.range 0).map (z[· % z.size]!) = #[] := fun z => by simp
              rw [e0]
              rw [e0] at f1
              simp only [Nat.mul_one] at f1
              rw [f1]
              simp only [Sem.run_bind, Result.andThen_ok, newRow, run_newObj, Sem.run_pure]
              rfl
            have hn : ¬ len * 1 = 0 := by omega
            simp only [Instr.buildSlice, Sem.run_bind, run_underlying he, Result.andThen_ok, run_sizeOf hsz]
            rw [if_neg hn2, if_neg hn]
            simp only [Sem.run_bind, Sem.run_pure, Result.andThen_ok, i5, Nat.mul_one]
            simp only [Nat.mul_one] at f1
            rw [f1]
            simp only [Sem.run_bind, Result.andThen_ok, newRow, run_newObj, Sem.run_pure]
            rfl
          refine ⟨by simp, ?_⟩
          have hinv := hi.alloc (rw := true) (N' := upto (m ++ [some (Blk.mk true (toCells (mkAgg cs)))]).length) hfresh e (cs := cells') (by simpa [Value.cells] using c1) (by simpa [Value.cells] using c2) (fun i hi => by simp [upto] at *; omega) (by simp [upto]) new_name
          refine ⟨_, _, _, hr, ?_, hinv, bump_agr hfresh⟩
          refine .slice false m.length 0 len (some len) 1 len _ (by simp [upto]) (fun _ h => by cases h; rfl) (Nat.le_refl _) ?_ fun _ => ?_
          · rw [bump_at, hsize]; show 0 + len * 1 ≤ len; omega
          · rw [bump_at]
        · cases h
      · cases h
    · cases h
  · cases h

theorem ints_crep {k : IntKind} {s : Bool} {n : Nat} {l : List Int} {f : Nat → Option Value} (hl : l.length = n) (hr : ∀ x ∈ l, inR k x = true) (hf : ∀ (i : Nat) (x : Int), l[i]? = some x → f i = some (.int k x)) :
    CRep ρ N (.ints k (szIf s n) l) f :=
  ⟨fun m hm => by cases s <;> simp [szIf] at hm; omega, fun i x hx => ⟨hf i x hx, hr x (List.mem_of_getElem? hx)⟩⟩
theorem ints_clen {k : IntKind} {s : Bool} {n : Nat} {l : List Int} (hl : l.length = n) : clen (.ints k (szIf s n) l) = n := by cases s <;> simp [szIf, clen, hl]

theorem zeros_size {k : IntKind} (n : Nat) : (Builtin.zeroCells (Value.int k 0).cells n).size = n := by simp [Builtin.zeroCells, Value.cells]

theorem appendA_sound {w0 : World} {S : Nat → Prop} {m m' : Mem} {t t' : TypeId} {s x : AV} {vs vx : Value} {ob : List Bool} {av : AV} (h : appendA P m t t' s x = some (ob, (av, m'))) (ho : Paid ob)
    (hs : Rep ρ (upto m.length) s vs) (hx : Rep ρ (upto m.length) x vx) (hi : Inv w0 S (upto m.length) ρ (getName m) w) (ty : TypeId) :
    m.length ≤ m'.length ∧ ∃ v w' ρ', (Builtin.append_ #[t, t'] ty #[vs, vx]).run P w = .ok v w' ∧ Rep ρ' (upto m'.length) av v ∧ Inv w0 S (upto m'.length) ρ' (getName m') w' ∧ Agr ρ ρ' (upto m.length) := by
  have hfresh : ¬ upto m.length m.length := by simp [upto]
  unfold appendA at h
  split at h
  · rename_i e h1 h2
    simp only [decide_eq_true_eq] at h2
    subst h2
    split at h
    · rename_i k i h3 h4
      split at h
      · rename_i k' h5 h6
        simp only [Bool.and_eq_true, decide_eq_true_eq] at h5
        obtain ⟨h5, hby⟩ := h5
        split at h
        · -- onto nil
          rename_i h7
          simp only [decide_eq_true_eq] at h7
          subst h7
          split at h
          · obtain ⟨_, he⟩ := pure_some h
            cases he
            cases hs
            cases hx
            exact ⟨Nat.le_refl _, _, w, ρ, by simp [Builtin.append_, run_underlying h1, sizeOf, typeInfo, h4, Builtin.lenOf, Builtin.firstCells], .nilslice, hi, fun _ _ => rfl⟩
          · obtain ⟨o1, ⟨sx, lx, news⟩, o2, g1, g2, rfl⟩ := bind_some h
            obtain ⟨_, he⟩ := pure_some g2
            cases he
            have hp := paid_append.1 ho
            obtain ⟨ad, c, e, r1, r2, r3⟩ := xsA_sound g1 hp.1 hx hi.sim
            cases hx
            cases e
            cases hs
            have hnn : news = [] := List.eq_nil_of_length_eq_zero r1
            subst hnn
            have hfc := run_firstCells_some (P := P) w i.size 0 ad 0 c [] (by simp) (by simp)
            exact ⟨Nat.le_refl _, _, w, ρ, by simp [Builtin.append_, run_underlying h1, sizeOf, typeInfo, h4, Builtin.lenOf, hfc], .nilslice, hi, fun _ _ => rfl⟩
          obtain ⟨o1, ⟨sx, lx, news⟩, o2, g1, g2, rfl⟩ := bind_some h
          obtain ⟨o3, ⟨⟩, o4, g3, g4, rfl⟩ := bind_some g2
          obtain ⟨_, he⟩ := pure_some g4
          cases he
          have hp := paid_append.1 ho
          obtain ⟨ad, c, rfl, r1, r2, r3⟩ := xsA_sound g1 hp.1 hx hi.sim
          have hlx := chk_some g3 (paid_append.1 hp.2).1
          simp only [Bool.and_eq_true, decide_eq_true_eq] at hlx
          cases hs
          refine ⟨by simp, ?_⟩
          have hr := run_append_nil (P := P) w t' ty e i _ h1 h4 h6 ad lx c (news.map (Value.int k')) (by simp [r1, h5]) r2 (by omega) (by omega) (by have := Nat.mul_le_mul hlx.2 hby; omega)
          have hge := grownCap_ge w lx 0 e
          generalize hG : grownCap w lx 0 e = G at hr hge
          have hsize : ((news.map (Value.int k')).toArray ++ Builtin.zeroCells (Value.int k' 0).cells (G - lx)).size = G := by rw [Array.size_append, zeros_size]; simp [r1]; omega
          have hcr : CRep ρ (upto m.length) (.ints k' (szIf sx lx) news) (fun i => ((news.map (Value.int k')).toArray ++ Builtin.zeroCells (Value.int k' 0).cells (G - lx))[i]?) := ints_crep r1 r3 fun i x hx => by
            have hlt : i < news.length := (List.getElem?_eq_some_iff.1 hx).1
            rw [Array.getElem?_append_left (by simpa using hlt)]
            simp [hx]
          have hinv := hi.drew.alloc (rw := true) (N' := upto (m ++ [some (Blk.mk true (.ints k' (szIf sx lx) news))]).length) hfresh e hcr (by rw [ints_clen r1, hsize]; omega) (fun i hi => by simp [upto] at *; omega) (by simp [upto]) new_name
          refine ⟨_, _, _, hr, ?_, hinv, bump_agr hfresh⟩
          refine .slice sx m.length 0 lx none 1 G _ (by simp [upto]) (fun _ h => by cases h) hge ?_ fun _ => ?_
          · rw [bump_at, hsize]; show 0 + G * 1 ≤ G; omega
          · rw [bump_at]; rfl
        · -- onto a slice of the run's own
          rename_i ss n ls cap h7
          simp only [decide_eq_true_eq] at h7
          subst h7
          split at h
          · rename_i cb hb
            obtain ⟨o1, ⟨sx, lx, news⟩, o2, g1, g2, rfl⟩ := bind_some h
            obtain ⟨o3, olds, o4, g3, g4, rfl⟩ := bind_some g2
            obtain ⟨o5, ⟨⟩, o6, g5, g6, rfl⟩ := bind_some g4
            obtain ⟨_, he⟩ := pure_some g6
            cases he
            have hp := paid_append.1 ho
            have hp2 := paid_append.1 hp.2
            obtain ⟨ad, c, rfl, r1, r2, r3⟩ := xsA_sound g1 hp.1 hx hi.sim
            have hlx := chk_some g5 (paid_append.1 hp2.2).1
            simp only [decide_eq_true_eq] at hlx
            obtain ⟨cs, tt, lo', hi', q1, q2, q3, q4, q5⟩ := (hi.sim.blk n _ hb).ex
            obtain ⟨u1, u2, u3⟩ := getNums_sound g3 hp2.1 q5
            cases hs with
            | slice _ _ _ _ _ _ cp sd hn hc hl hw had =>
            have hlen : (olds ++ news).length = ls + lx := by simp [u1, r1]
            have hall : ∀ x ∈ olds ++ news, inR k' x = true := fun x hx => (List.mem_append.1 hx).elim (u3 x) (r3 x)
            refine ⟨by simp, ?_⟩
            by_cases hroom : ls + lx ≤ cp
            · by_cases hcp : 0 < cp
              · -- there is room
                have had' := had hcp
                simp only [Nat.add_zero] at had'
                subst had'
                obtain ⟨w', cs', s1, s2, s3, s4⟩ := run_storeCells (P := P) (off := (ρ n).sh + ls) (news.map (Value.int k')) 0 w cs q1 (by simp [r1]; omega) (q3 rfl) one_ints
                have hfc := run_firstCells_some (P := P) w i.size lx ad lx c (news.map (Value.int k')) (by simp [r1, h5]) r2
                have hr : (Builtin.append_ #[t', t'] ty #[.slice (some ⟨(ρ n).b, (ρ n).sh, none⟩) ls cp, .slice (some ad) lx c]).run P w = .ok (.slice (some ⟨(ρ n).b, (ρ n).sh, none⟩) (ls + lx) cp) w' := by
                  rw [h5] at hfc
                  simp [Builtin.append_, run_underlying h1, sizeOf, typeInfo, h4, h5, Builtin.lenOf, hroom, hfc, addr_add, s1]
                have hcr : CRep ρ (upto m.length) (.ints k' (szIf (ss || sx) (ls + lx)) (olds ++ news)) (fun i => cs'[(ρ n).sh + i]?) := ints_crep hlen hall fun j y hy => by
                  rw [s4]
                  by_cases hj : j < ls
                  · rw [if_neg (by omega)]
                    rw [List.getElem?_append_left (by omega)] at hy
                    have := u2 j y hy
                    simpa using this
                  · have hlt : j < (olds ++ news).length := (List.getElem?_eq_some_iff.1 hy).1
                    rw [if_pos (by simp [r1]; omega), List.getElem?_map]
                    rw [List.getElem?_append_right (by omega), u1] at hy
                    rw [show (ρ n).sh + j - ((ρ n).sh + ls + 0) = j - ls by omega, hy]
                    rfl
                have hst := hi.store (g' := fun i => if i = n then some ⟨true, .ints k' (szIf (ss || sx) (ls + lx)) (olds ++ news)⟩ else getName m i) hb rfl q1 s2 s3 (by rw [ints_clen hlen]; omega) hcr (fun i bi hg => by
                  split at hg
                  · rename_i he; cases hg; exact Or.inl ⟨he, rfl⟩
                  · rename_i he; exact Or.inr ⟨he, hg⟩)
                have hre := hst.rename (n := n) (k := m.length) (b := ⟨true, .ints k' (szIf (ss || sx) (ls + lx)) (olds ++ news)⟩) (N' := upto (m.set n none ++ [some (Blk.mk true (.ints k' (szIf (ss || sx) (ls + lx)) (olds ++ news)))]).length)
                  (g' := getName (m.set n none ++ [some (Blk.mk true (.ints k' (szIf (ss || sx) (ls + lx)) (olds ++ news)))])) (by simp) hfresh (fun i hi => by simp [upto] at *; omega) (by simp [upto]) (fun i bi hg => by
                    rcases set_app hg with ⟨e1, e2⟩ | ⟨e1, e2, e3⟩
                    · cases e2; exact Or.inl ⟨e1, rfl⟩
                    · exact Or.inr ⟨e1, e2, by simp [e2, e3]⟩)
                refine ⟨_, _, _, hr, ?_, hre, bump_agr hfresh⟩
                refine .slice (ss || sx) m.length 0 (ls + lx) none 1 cp _ (by simp [upto]) (fun _ h => by cases h) hroom ?_ fun _ => ?_
                · rw [bump_at]; omega
                · rw [bump_at]; rfl
              · -- nothing onto nothing
                have e1 : ls = 0 := by omega
                have e2 : lx = 0 := by omega
                have e3 : cp = 0 := by omega
                subst e1 e2 e3
                have hnn : news = [] := List.eq_nil_of_length_eq_zero r1
                have hoo : olds = [] := List.eq_nil_of_length_eq_zero u1
                subst hnn hoo
                have hfc := run_firstCells_some (P := P) w i.size 0 ad 0 c [] (by simp) (by simp)
                have hr : (Builtin.append_ #[t', t'] ty #[.slice (some sd) 0 0, .slice (some ad) 0 c]).run P w = .ok (.slice (some sd) 0 0) w := by
                  rw [h5] at hfc
                  simp [Builtin.append_, run_underlying h1, sizeOf, typeInfo, h4, h5, Builtin.lenOf, hfc, storeCells]
                have hst := hi.store (g' := fun i => if i = n then some ⟨true, .ints k' (szIf (ss || sx) 0) []⟩ else getName m i) hb rfl q1 ⟨q1, fun _ _ => rfl, rfl, rfl, rfl, rfl⟩ rfl (c := .ints k' (szIf (ss || sx) 0) [])
                  (by rw [ints_clen (n := 0) (l := []) rfl]; omega) (ints_crep (n := 0) (l := []) rfl (by simp) (by simp)) (fun i bi hg => by
                  split at hg
                  · rename_i he; cases hg; exact Or.inl ⟨he, rfl⟩
                  · rename_i he; exact Or.inr ⟨he, hg⟩)
                have hre := hst.rename (n := n) (k := m.length) (b := ⟨true, .ints k' (szIf (ss || sx) 0) []⟩) (N' := upto (m.set n none ++ [some (Blk.mk true (.ints k' (szIf (ss || sx) 0) []))]).length)
                  (g' := getName (m.set n none ++ [some (Blk.mk true (.ints k' (szIf (ss || sx) 0) []))])) (by simp) hfresh (fun i hi => by simp [upto] at *; omega) (by simp [upto]) (fun i bi hg => by
                    rcases set_app hg with ⟨e1, e2⟩ | ⟨e1, e2, e3⟩
                    · cases e2; exact Or.inl ⟨e1, rfl⟩
                    · exact Or.inr ⟨e1, e2, by simp [e2, e3]⟩)
                refine ⟨_, _, _, hr, ?_, hre, bump_agr hfresh⟩
                refine .slice (ss || sx) m.length 0 0 none 1 0 _ (by simp [upto]) (fun _ h => by cases h) (Nat.le_refl _) (by omega) fun h => by omega
            · -- a new row
              have holds : ∀ (j : Nat) (v : Value), (olds.map (Value.int k'))[j]? = some v → w.cell? (sd.add j) = some v := fun j v hj => by
                have hlt : j < ls := by have := (List.getElem?_eq_some_iff.1 hj).1; simp at this; omega
                rw [had (by omega), addr_add, cell_row q1]
                simp at hj
                obtain ⟨y, hy, rfl⟩ := hj
                have := u2 j y hy
                simpa using this
              have hr := run_append_grow (P := P) w t' ty e i _ h1 h4 h6 sd ls cp (olds.map (Value.int k')) (by simp [u1, h5]) holds ad lx c (news.map (Value.int k')) (by simp [r1, h5]) r2 (by omega) (by omega)
                (growslice_fits (by omega) (by have := Nat.mul_le_mul hlx hby; omega))
              have hge := grownCap_ge w (ls + lx) cp e
              generalize hG : grownCap w (ls + lx) cp e = G at hr hge
              have hsize : ((olds.map (Value.int k')).toArray ++ (news.map (Value.int k')).toArray ++ Builtin.zeroCells (Value.int k' 0).cells (G - (ls + lx))).size = G := by rw [Array.size_append, Array.size_append, zeros_size]; simp [r1, u1]; omega
              have hcr : CRep ρ (upto m.length) (.ints k' (szIf (ss || sx) (ls + lx)) (olds ++ news)) (fun i => ((olds.map (Value.int k')).toArray ++ (news.map (Value.int k')).toArray ++ Builtin.zeroCells (Value.int k' 0).cells (G - (ls + lx)))[i]?) := ints_crep hlen hall fun i x hx => by
                have hlt : i < (olds ++ news).length := (List.getElem?_eq_some_iff.1 hx).1
                rw [Array.getElem?_append_left (by simpa using hlt)]
                have : (olds.map (Value.int k')).toArray ++ (news.map (Value.int k')).toArray = ((olds ++ news).map (Value.int k')).toArray := by simp
                rw [this, List.getElem?_toArray, List.getElem?_map, hx]
                rfl
              have hdr : Inv w0 S (upto m.length) ρ (getName (m.set n none)) w.drew := hi.drew.less fun i bi hg => by
                by_cases hin : i = n
                · subst hin
                  have hlt := getName_lt hg
                  simp at hlt
                  unfold getName at hg
                  simp [hlt] at hg
                · unfold getName at hg ⊢
                  rw [List.getElem?_set_ne (Ne.symm hin)] at hg
                  exact hg
              have hinv := hdr.alloc (rw := true) (N' := upto (m.set n none ++ [some (Blk.mk true (.ints k' (szIf (ss || sx) (ls + lx)) (olds ++ news)))]).length) (k := m.length) hfresh e hcr (by rw [ints_clen hlen, hsize]; omega) (fun i hi => by simp [upto] at *; omega) (by simp [upto])
                (g' := getName (m.set n none ++ [some (Blk.mk true (.ints k' (szIf (ss || sx) (ls + lx)) (olds ++ news)))])) (fun i bi hg => by
                  rcases new_name i bi hg with h1 | h1
                  · exact Or.inl h1
                  · exact Or.inr ⟨by simpa using h1.1, h1.2⟩)
              refine ⟨_, _, _, hr, ?_, hinv, bump_agr hfresh⟩
              refine .slice (ss || sx) m.length 0 (ls + lx) none 1 G _ (by simp [upto]) (fun _ h => by cases h) hge ?_ fun _ => ?_
              · rw [bump_at, hsize]; show 0 + G * 1 ≤ G; omega
              · rw [bump_at]; rfl
          · cases h
        · cases h
      · cases h
    · cases h
  · cases h

/-- What the second argument yields: a text's bytes, nothing, or zeros. -/
inductive Src2 (P : Program) (t' : TypeId) (vx : Value) (k : IntKind) : Nat → List Int → Prop
  | nil (e' : TypeId) (h : P.underlying t' = some (.slice e')) (hv : vx = .slice none 0 0) : Src2 P t' vx k 0 []
  | str (h : P.underlying t' = some .string) (hk : k = .u8) (l : List Int) (hv : vx = .string (mkStr l)) (hl : ∀ x ∈ l, 0 ≤ x ∧ x < 256) : Src2 P t' vx k l.length l
  | zeros (k2 : IntKind) (h : P.underlying t' = some (.int k2)) (lx : Nat) (hv : vx = .int .i64 lx) (hl : lx ≤ 1000000000) : Src2 P t' vx k lx (List.replicate lx 0)
theorem mkStr_size (l : List Int) : (mkStr l).size = l.length := by simp [mkStr, ByteArray.size]
theorem mkStr_cells {l : List Int} (hl : ∀ x ∈ l, 0 ≤ x ∧ x < 256) (w : World) : (Builtin.firstCells 1 l.length (.string (mkStr l))).run P w = .ok (l.map (Value.int .u8)).toArray w := by
  simp only [Builtin.firstCells, Sem.run_pure]
  congr 1
  apply Array.ext'
  apply List.ext_getElem?
  intro i
  have hz := mkStr_size l
  simp [mkStr, ByteArray.extract, ByteArray.copySlice]
  by_cases hi : i < l.length
  · have hb := hl l[i] (List.getElem_mem hi)
    simp [hi, UInt8.toNat_ofNat']
    omega
  · simp [hi]
theorem src2_all {k : IntKind} {t' : TypeId} {vx : Value} {lx : Nat} {news : List Int} (h : Src2 P t' vx k lx news) : news.length = lx ∧ ∀ x ∈ news, inR k x = true := by
  cases h with
  | nil e' h hv => exact ⟨rfl, fun _ h => by cases h⟩
  | str h hk l hv hl => subst hk; exact ⟨rfl, fun x hx => by have := hl x hx; rw [inR_iff]; simp [lo, Ev.hi]; omega⟩
  | zeros k2 h lx hv hl => exact ⟨List.length_replicate, fun x hx => by rw [List.eq_of_mem_replicate hx]; cases k <;> decide⟩
theorem zeros_cells (k : IntKind) (n : Nat) : Builtin.zeroCells (Value.int k 0).cells n = ((List.replicate n (0 : Int)).map (Value.int k)).toArray := by
  apply Array.ext'
  apply List.ext_getElem?
  intro i
  by_cases hi : i < n
  · simp [Builtin.zeroCells, Value.cells, hi, Nat.mod_one]
  · simp [Builtin.zeroCells, Value.cells, hi]
theorem wrap_small {lx : Nat} (h : lx ≤ 1000000000) : IntKind.i64.wrap (lx : Int) = lx := by
  unfold IntKind.wrap
  simp [IntKind.bits, IntKind.signed]
  omega
theorem append2_room {t t' ty e : TypeId} {i : TypeInfo} {k : IntKind} (ht : P.underlying t = some (.slice e)) (hi : P.info? e = some i) (h1 : i.size = 1) (hby : i.bytes ≤ 8) (hz : i.zero = some (.int k 0)) {a : Addr} {sLen sCap : Nat} {vx : Value} {lx : Nat} {news : List Int} (hs : Src2 P t' vx k lx news)
    (hroom : sLen + lx ≤ sCap) {w' : World} (hst : (storeCells (a.add sLen) (news.map (Value.int k))).run P w = .ok () w') :
    (Builtin.append_ #[t, t'] ty #[.slice (some a) sLen sCap, vx]).run P w = .ok (.slice (some a) (sLen + lx) sCap) w' := by
  cases hs with
  | nil e' h hv =>
    subst hv
    simp only [List.map_nil] at hst
    simp [Builtin.append_, run_underlying ht, run_underlying h, sizeOf, typeInfo, hi, h1, Builtin.lenOf, Builtin.firstCells, hst]
    omega
  | str h hk l hv hl =>
    subst hk hv
    have hc := mkStr_cells (P := P) hl w
    simp [Builtin.append_, run_underlying ht, run_underlying h, sizeOf, typeInfo, hi, h1, Builtin.lenOf, mkStr_size, hroom, hc, hst]
  | zeros k2 h lx hv hl =>
    subst hv
    have hw := wrap_small hl
    have hb : ¬ (281474976710656 < (lx : Int) * (i.bytes : Int)) := by
      have := Nat.mul_le_mul hl hby
      have e : (lx : Int) * (i.bytes : Int) = ((lx * i.bytes : Nat) : Int) := by simp
      rw [e]; omega
    have hn : ¬ ((lx : Int) < 0) := by omega
    by_cases h0 : lx = 0
    · subst h0
      simp only [List.replicate_zero, List.map_nil] at hst
      have hr0 : sLen ≤ sCap := by omega
      simp [Builtin.append_, run_underlying ht, run_underlying h, sizeOf, typeInfo, hi, h1, asInt, asIntOf, show IntKind.i64.wrap 0 = 0 from rfl, hr0, hst]
    · have hz2 := zeros_cells k lx
      simp [Builtin.append_, run_underlying ht, run_underlying h, sizeOf, typeInfo, zeroValue, hi, h1, hz, asInt, asIntOf, hw, hn, hb, hroom, h0, hz2] at hst ⊢
      rw [hst]
      rfl
theorem append2_grow {t t' ty e : TypeId} {i : TypeInfo} {k : IntKind} (ht : P.underlying t = some (.slice e)) (hi : P.info? e = some i) (h1 : i.size = 1) (hby : i.bytes ≤ 8) (hz : i.zero = some (.int k 0)) {base : Option Addr} {sLen sCap : Nat} {vx : Value} {lx : Nat} {news : List Int} (hs : Src2 P t' vx k lx news) (olds : List Value)
    (hold : (Builtin.firstCells 1 sLen (.slice base sLen sCap)).run P w.drew = .ok olds.toArray w.drew) (hg : sCap < sLen + lx) (h63 : sLen + lx ≤ 1000000000) (hfit : Builtin.nextslicecap (sLen + lx) sCap * i.bytes ≤ 281474976710656) :
    (Builtin.append_ #[t, t'] ty #[.slice base sLen sCap, vx]).run P w = .ok (.slice (some ⟨w.heap.size, 0, none⟩) (sLen + lx) (grownCap w (sLen + lx) sCap e))
        (w.drew.alloc (.cells (olds.toArray ++ (news.map (Value.int k)).toArray ++ Builtin.zeroCells (Value.int k 0).cells (grownCap w (sLen + lx) sCap e - (sLen + lx))) e)) := by
  have hn : ¬ (sLen + lx ≤ sCap) := by omega
  have h63' : ¬ (9223372036854775807 < ((sLen : Int) + (lx : Int))) := by omega
  have h48' : ¬ (281474976710656 < Builtin.nextslicecap (sLen + lx) sCap * i.bytes) := by omega
  cases hs with
  | nil e' h hv =>
    subst hv
    have hc := run_firstCells_none (P := P) w.drew 1 0 0 0
    have h63n : ¬ (9223372036854775807 < (sLen : Int)) := by omega
    simp only [Nat.add_zero] at hn hg h48' ⊢
    simp [Builtin.append_, run_underlying ht, run_underlying h, sizeOf, typeInfo, zeroValue, hi, h1, hz, Builtin.lenOf, hn, h63n, h48', Question.forced, hold, hc, newRow, grownCap]
  | str h hk l hv hl =>
    subst hk hv
    have hc := mkStr_cells (P := P) hl w.drew
    simp [Builtin.append_, run_underlying ht, run_underlying h, sizeOf, typeInfo, zeroValue, hi, h1, hz, Builtin.lenOf, mkStr_size, hn, h63', h48', Question.forced, hold, hc, newRow, grownCap]
    congr 2
    apply Array.ext'
    simp [List.append_assoc]
  | zeros k2 h lx hv hl =>
    subst hv
    have hw := wrap_small hl
    have hb : ¬ (281474976710656 < (lx : Int) * (i.bytes : Int)) := by
      have := Nat.mul_le_mul hl hby
      have e : (lx : Int) * (i.bytes : Int) = ((lx * i.bytes : Nat) : Int) := by simp
      rw [e]; omega
    have hnn : ¬ ((lx : Int) < 0) := by omega
    have h0 : ¬ lx = 0 ∨ lx = 0 := by omega
    rcases h0 with h0 | h0
    · have hz2 := zeros_cells k lx
      simp [Builtin.append_, run_underlying ht, run_underlying h, sizeOf, typeInfo, zeroValue, hi, h1, hz, asInt, asIntOf, hw, hnn, hb, hn, h63', h48', h0, Question.forced, hold, hz2, newRow, grownCap]
    · subst h0
      have h63n : ¬ (9223372036854775807 < (sLen : Int)) := by omega
      simp only [Nat.add_zero] at hn hg h48' ⊢
      simp [Builtin.append_, run_underlying ht, run_underlying h, sizeOf, typeInfo, zeroValue, hi, h1, hz, asInt, asIntOf, show IntKind.i64.wrap 0 = 0 from rfl, h63n, hn, h48', Question.forced, hold, newRow, grownCap]
theorem newsX_sound {t t' : TypeId} {k : IntKind} {x : AV} {vx : Value} {ob : List Bool} {s : Bool} {lx : Nat} {news : List Int} (h : newsX P t t' k x = some (ob, (s, lx, news))) (ho : Paid ob) (hx : Rep ρ N x vx) : Src2 P t' vx k lx news := by
  unfold newsX at h
  split at h
  · rename_i e hd he
    obtain ⟨_, h⟩ := pure_some h
    cases h
    cases hx
    exact .nil e he rfl
  · rename_i s' l hd he
    split at h
    · rename_i hk
      obtain ⟨_, h⟩ := pure_some h
      cases h
      cases hx with
      | str _ _ hl => exact .str he hk _ rfl hl
    · cases h
  · rename_i k2 s' n hd he
    obtain ⟨o1, ⟨⟩, o2, g1, g2, rfl⟩ := bind_some h
    obtain ⟨_, h⟩ := pure_some g2
    cases h
    have hn := chk_some g1 (paid_append.1 ho).1
    simp only [Bool.and_eq_true, decide_eq_true_eq] at hn
    cases hx with
    | int _ _ _ hr => exact .zeros k2 he n.toNat (by rw [Int.toNat_of_nonneg hn.1]) (by omega)
  · cases h

theorem appendX_sound {w0 : World} {S : Nat → Prop} {m m' : Mem} {t t' : TypeId} {s x : AV} {vs vx : Value} {ob : List Bool} {av : AV} (h : appendX P m t t' s x = some (ob, (av, m'))) (ho : Paid ob)
    (hs : Rep ρ (upto m.length) s vs) (hx : Rep ρ (upto m.length) x vx) (hi : Inv w0 S (upto m.length) ρ (getName m) w) (ty : TypeId) :
    m.length ≤ m'.length ∧ ∃ v w' ρ', (Builtin.append_ #[t, t'] ty #[vs, vx]).run P w = .ok v w' ∧ Rep ρ' (upto m'.length) av v ∧ Inv w0 S (upto m'.length) ρ' (getName m') w' ∧ Agr ρ ρ' (upto m.length) := by
  have hfresh : ¬ upto m.length m.length := by simp [upto]
  unfold appendX at h
  split at h
  · rename_i e h1
    split at h
    · rename_i k i h3 h4
      split at h
      · rename_i k' h5 h6
        simp only [Bool.and_eq_true, decide_eq_true_eq] at h5
        obtain ⟨h5, hby⟩ := h5
        split at h
        · -- onto nil
          rename_i h7
          simp only [decide_eq_true_eq] at h7
          subst h7
          obtain ⟨o1, ⟨sx, lx, news⟩, o2, g1, g2, rfl⟩ := bind_some h
          obtain ⟨o3, ⟨⟩, o4, g3, g4, rfl⟩ := bind_some g2
          obtain ⟨_, he⟩ := pure_some g4
          cases he
          have hp := paid_append.1 ho
          have hsrc := newsX_sound g1 hp.1 hx
          obtain ⟨r1, r3⟩ := src2_all hsrc
          have hlx := chk_some g3 (paid_append.1 hp.2).1
          simp only [Bool.and_eq_true, decide_eq_true_eq] at hlx
          cases hs
          refine ⟨by simp, ?_⟩
          have hr := append2_grow (P := P) (w := w) (ty := ty) h1 h4 h5 hby h6 hsrc (base := none) (sLen := 0) (sCap := 0) [] (run_firstCells_none w.drew 1 0 0 0) (by omega) (by omega) (growslice_fits (by omega) (by have := Nat.mul_le_mul hlx.2 hby; simp only [Nat.zero_add]; omega))
          simp only [Nat.zero_add] at hr
          have hge := grownCap_ge w lx 0 e
          generalize hG : grownCap w lx 0 e = G at hr hge
          have hsize : (([] : List Value).toArray ++ (news.map (Value.int k')).toArray ++ Builtin.zeroCells (Value.int k' 0).cells (G - lx)).size = G := by rw [Array.size_append, zeros_size]; simp [r1]; omega
          have hcr : CRep ρ (upto m.length) (.ints k' (szIf sx lx) news) (fun i => (([] : List Value).toArray ++ (news.map (Value.int k')).toArray ++ Builtin.zeroCells (Value.int k' 0).cells (G - lx))[i]?) := ints_crep r1 r3 fun i x hx => by
            have hlt : i < news.length := (List.getElem?_eq_some_iff.1 hx).1
            rw [Array.getElem?_append_left (by simpa using hlt)]
            simp [hx]
          have hinv := hi.drew.alloc (rw := true) (N' := upto (m ++ [some (Blk.mk true (.ints k' (szIf sx lx) news))]).length) hfresh e hcr (by rw [ints_clen r1, hsize]; omega) (fun i hi => by simp [upto] at *; omega) (by simp [upto]) new_name
          refine ⟨_, _, _, hr, ?_, hinv, bump_agr hfresh⟩
          refine .slice sx m.length 0 lx none 1 G _ (by simp [upto]) (fun _ h => by cases h) hge ?_ fun _ => ?_
          · rw [bump_at, hsize]; show 0 + G * 1 ≤ G; omega
          · rw [bump_at]; rfl
        · -- onto a slice of the run's own
          rename_i ss n ls cap h7
          simp only [decide_eq_true_eq] at h7
          subst h7
          split at h
          · rename_i cb hb
            obtain ⟨o1, ⟨sx, lx, news⟩, o2, g1, g2, rfl⟩ := bind_some h
            obtain ⟨o3, olds, o4, g3, g4, rfl⟩ := bind_some g2
            obtain ⟨o5, ⟨⟩, o6, g5, g6, rfl⟩ := bind_some g4
            obtain ⟨_, he⟩ := pure_some g6
            cases he
            have hp := paid_append.1 ho
            have hp2 := paid_append.1 hp.2
            have hsrc := newsX_sound g1 hp.1 hx
            obtain ⟨r1, r3⟩ := src2_all hsrc
            have hlx := chk_some g5 (paid_append.1 hp2.2).1
            simp only [decide_eq_true_eq] at hlx
            obtain ⟨cs, tt, lo', hi', q1, q2, q3, q4, q5⟩ := (hi.sim.blk n _ hb).ex
            obtain ⟨u1, u2, u3⟩ := getNums_sound g3 hp2.1 q5
            cases hs with
            | slice _ _ _ _ _ _ cp sd hn hc hl hw had =>
            have hlen : (olds ++ news).length = ls + lx := by simp [u1, r1]
            have hall : ∀ x ∈ olds ++ news, inR k' x = true := fun x hx => (List.mem_append.1 hx).elim (u3 x) (r3 x)
            refine ⟨by simp, ?_⟩
            by_cases hroom : ls + lx ≤ cp
            · by_cases hcp : 0 < cp
              · -- there is room
                have had' := had hcp
                simp only [Nat.add_zero] at had'
                subst had'
                obtain ⟨w', cs', s1, s2, s3, s4⟩ := run_storeCells (P := P) (off := (ρ n).sh + ls) (news.map (Value.int k')) 0 w cs q1 (by simp [r1]; omega) (q3 rfl) one_ints
                have hr := append2_room (P := P) (w := w) (ty := ty) h1 h4 h5 hby h6 hsrc (a := ⟨(ρ n).b, (ρ n).sh, none⟩) (sLen := ls) (sCap := cp) hroom (w' := w') (by rw [addr_add]; simpa using s1)
                have hcr : CRep ρ (upto m.length) (.ints k' (szIf (ss || sx) (ls + lx)) (olds ++ news)) (fun i => cs'[(ρ n).sh + i]?) := ints_crep hlen hall fun j y hy => by
                  rw [s4]
                  by_cases hj : j < ls
                  · rw [if_neg (by omega)]
                    rw [List.getElem?_append_left (by omega)] at hy
                    have := u2 j y hy
                    simpa using this
                  · have hlt : j < (olds ++ news).length := (List.getElem?_eq_some_iff.1 hy).1
                    rw [if_pos (by simp [r1]; omega), List.getElem?_map]
                    rw [List.getElem?_append_right (by omega), u1] at hy
                    rw [show (ρ n).sh + j - ((ρ n).sh + ls + 0) = j - ls by omega, hy]
                    rfl
                have hst := hi.store (g' := fun i => if i = n then some ⟨true, .ints k' (szIf (ss || sx) (ls + lx)) (olds ++ news)⟩ else getName m i) hb rfl q1 s2 s3 (by rw [ints_clen hlen]; omega) hcr (fun i bi hg => by
                  split at hg
                  · rename_i he; cases hg; exact Or.inl ⟨he, rfl⟩
                  · rename_i he; exact Or.inr ⟨he, hg⟩)
                have hre := hst.rename (n := n) (k := m.length) (b := ⟨true, .ints k' (szIf (ss || sx) (ls + lx)) (olds ++ news)⟩) (N' := upto (m.set n none ++ [some (Blk.mk true (.ints k' (szIf (ss || sx) (ls + lx)) (olds ++ news)))]).length)
                  (g' := getName (m.set n none ++ [some (Blk.mk true (.ints k' (szIf (ss || sx) (ls + lx)) (olds ++ news)))])) (by simp) hfresh (fun i hi => by simp [upto] at *; omega) (by simp [upto]) (fun i bi hg => by
                    rcases set_app hg with ⟨e1, e2⟩ | ⟨e1, e2, e3⟩
                    · cases e2; exact Or.inl ⟨e1, rfl⟩
                    · exact Or.inr ⟨e1, e2, by simp [e2, e3]⟩)
                refine ⟨_, _, _, hr, ?_, hre, bump_agr hfresh⟩
                refine .slice (ss || sx) m.length 0 (ls + lx) none 1 cp _ (by simp [upto]) (fun _ h => by cases h) hroom ?_ fun _ => ?_
                · rw [bump_at]; omega
                · rw [bump_at]; rfl
              · -- nothing onto nothing
                have e1 : ls = 0 := by omega
                have e2 : lx = 0 := by omega
                have e3 : cp = 0 := by omega
                subst e1 e2 e3
                have hnn : news = [] := List.eq_nil_of_length_eq_zero r1
                have hoo : olds = [] := List.eq_nil_of_length_eq_zero u1
                subst hnn hoo
                have hr := append2_room (P := P) (w := w) (ty := ty) h1 h4 h5 hby h6 hsrc (a := sd) (sLen := 0) (sCap := 0) (by omega) (w' := w) (by simp [storeCells])
                have hst := hi.store (g' := fun i => if i = n then some ⟨true, .ints k' (szIf (ss || sx) 0) []⟩ else getName m i) hb rfl q1 ⟨q1, fun _ _ => rfl, rfl, rfl, rfl, rfl⟩ rfl (c := .ints k' (szIf (ss || sx) 0) [])
                  (by rw [ints_clen (n := 0) (l := []) rfl]; omega) (ints_crep (n := 0) (l := []) rfl (by simp) (by simp)) (fun i bi hg => by
                  split at hg
                  · rename_i he; cases hg; exact Or.inl ⟨he, rfl⟩
                  · rename_i he; exact Or.inr ⟨he, hg⟩)
                have hre := hst.rename (n := n) (k := m.length) (b := ⟨true, .ints k' (szIf (ss || sx) 0) []⟩) (N' := upto (m.set n none ++ [some (Blk.mk true (.ints k' (szIf (ss || sx) 0) []))]).length)
                  (g' := getName (m.set n none ++ [some (Blk.mk true (.ints k' (szIf (ss || sx) 0) []))])) (by simp) hfresh (fun i hi => by simp [upto] at *; omega) (by simp [upto]) (fun i bi hg => by
                    rcases set_app hg with ⟨e1, e2⟩ | ⟨e1, e2, e3⟩
                    · cases e2; exact Or.inl ⟨e1, rfl⟩
                    · exact Or.inr ⟨e1, e2, by simp [e2, e3]⟩)
                refine ⟨_, _, _, hr, ?_, hre, bump_agr hfresh⟩
                refine .slice (ss || sx) m.length 0 0 none 1 0 _ (by simp [upto]) (fun _ h => by cases h) (Nat.le_refl _) (by omega) fun h => by omega
            · -- a new row
              have holds : ∀ (j : Nat) (v : Value), (olds.map (Value.int k'))[j]? = some v → w.cell? (sd.add j) = some v := fun j v hj => by
                have hlt : j < ls := by have := (List.getElem?_eq_some_iff.1 hj).1; simp at this; omega
                rw [had (by omega), addr_add, cell_row q1]
                simp at hj
                obtain ⟨y, hy, rfl⟩ := hj
                have := u2 j y hy
                simpa using this
              have hr := append2_grow (P := P) (w := w) (ty := ty) h1 h4 h5 hby h6 hsrc (base := some sd) (sLen := ls) (sCap := cp) (olds.map (Value.int k')) (run_firstCells_some w.drew 1 ls sd ls cp _ (by simp [u1]) (by simpa using holds)) (by omega) (by omega)
                (growslice_fits (by omega) (by have := Nat.mul_le_mul hlx hby; omega))
              have hge := grownCap_ge w (ls + lx) cp e
              generalize hG : grownCap w (ls + lx) cp e = G at hr hge
              have hsize : ((olds.map (Value.int k')).toArray ++ (news.map (Value.int k')).toArray ++ Builtin.zeroCells (Value.int k' 0).cells (G - (ls + lx))).size = G := by rw [Array.size_append, Array.size_append, zeros_size]; simp [r1, u1]; omega
              have hcr : CRep ρ (upto m.length) (.ints k' (szIf (ss || sx) (ls + lx)) (olds ++ news)) (fun i => ((olds.map (Value.int k')).toArray ++ (news.map (Value.int k')).toArray ++ Builtin.zeroCells (Value.int k' 0).cells (G - (ls + lx)))[i]?) := ints_crep hlen hall fun i x hx => by
                have hlt : i < (olds ++ news).length := (List.getElem?_eq_some_iff.1 hx).1
                rw [Array.getElem?_append_left (by simpa using hlt)]
                have : (olds.map (Value.int k')).toArray ++ (news.map (Value.int k')).toArray = ((olds ++ news).map (Value.int k')).toArray := by simp
                rw [this, List.getElem?_toArray, List.getElem?_map, hx]
                rfl
              have hdr : Inv w0 S (upto m.length) ρ (getName (m.set n none)) w.drew := hi.drew.less fun i bi hg => by
                by_cases hin : i = n
                · subst hin
                  have hlt := getName_lt hg
                  simp at hlt
                  unfold getName at hg
                  simp [hlt] at hg
                · unfold getName at hg ⊢
                  rw [List.getElem?_set_ne (Ne.symm hin)] at hg
                  exact hg
              have hinv := hdr.alloc (rw := true) (N' := upto (m.set n none ++ [some (Blk.mk true (.ints k' (szIf (ss || sx) (ls + lx)) (olds ++ news)))]).length) (k := m.length) hfresh e hcr (by rw [ints_clen hlen, hsize]; omega) (fun i hi => by simp [upto] at *; omega) (by simp [upto])
                (g' := getName (m.set n none ++ [some (Blk.mk true (.ints k' (szIf (ss || sx) (ls + lx)) (olds ++ news)))])) (fun i bi hg => by
                  rcases new_name i bi hg with h1 | h1
                  · exact Or.inl h1
                  · exact Or.inr ⟨by simpa using h1.1, h1.2⟩)
              refine ⟨_, _, _, hr, ?_, hinv, bump_agr hfresh⟩
              refine .slice (ss || sx) m.length 0 (ls + lx) none 1 G _ (by simp [upto]) (fun _ h => by cases h) hge ?_ fun _ => ?_
              · rw [bump_at, hsize]; show 0 + G * 1 ≤ G; omega
              · rw [bump_at]; rfl
          · cases h
        · cases h
      · cases h
    · cases h
  · cases h
/- elements that are rows of numbers -/
theorem wideEl_some {t e : TypeId} {k : IntKind} {sz : Nat} (h : wideEl P t = some (e, k, sz)) : ∃ i z, P.underlying t = some (.slice e) ∧ P.info? e = some i ∧ i.size = sz ∧ 2 ≤ sz ∧ sz ≤ 512 ∧ i.bytes ≤ 4096 ∧ i.zero = some z ∧ z.cells.size = sz := by
  unfold wideEl at h
  split at h
  · rename_i e' he
    split at h
    · rename_i k' n i h1 h2
      split at h
      · rename_i z h3 h4
        split at h
        · rename_i h5
          cases h
          simp only [Bool.and_eq_true, decide_eq_true_eq] at h3 h5
          exact ⟨i, z, he, h2, h3.1.1.1, h3.1.1.2, h3.1.2, h3.2, h4, h5⟩
        · cases h
      · cases h
    · cases h
  · cases h
theorem xsW_sound {m : Mem} {k : IntKind} {sz : Nat} {x : AV} {vx : Value} {ob : List Bool} {s : Bool} {len : Nat} {l : List Int} (hsz : 0 < sz) (h : xsW m k sz x = some (ob, (s, len, l))) (ho : Paid ob) (hx : Rep ρ N x vx) (hs : Sim ρ N (getName m) w) :
    ∃ ad c, vx = .slice (some ad) len c ∧ l.length = len * sz ∧ (∀ j v, (l.map (Value.int k))[j]? = some v → w.cell? (ad.add j) = some v) ∧ ∀ y ∈ l, inR k y = true := by
  unfold xsW at h
  split at h
  · rename_i s' n o len' cap es
    split at h
    · rename_i hes
      simp only [decide_eq_true_eq] at hes
      subst hes
      split at h
      · rename_i b hb
        obtain ⟨o1, l', o2, g1, g2, rfl⟩ := bind_some h
        obtain ⟨_, he⟩ := pure_some g2
        cases he
        obtain ⟨cs, tt, lo', hi', q1, q2, q3, q4, q5⟩ := (hs.blk n _ hb).ex
        obtain ⟨u1, u2, u3⟩ := getNums_sound g1 (paid_append.1 ho).1 q5
        cases hx with
        | slice _ _ _ _ _ _ c ad hn hc hl hw had =>
          refine ⟨ad, c, rfl, u1, fun j v hj => ?_, u3⟩
          have hlt : j < len * es := by have := (List.getElem?_eq_some_iff.1 hj).1; simp at this; omega
          have hpos : 0 < len := by
            rcases Nat.eq_zero_or_pos len with h0 | h0
            · subst h0; omega
            · exact h0
          rw [had (by omega), addr_add, cell_row q1]
          simp at hj
          obtain ⟨y, hy, rfl⟩ := hj
          have := u2 j y hy
          simpa [Nat.add_assoc] using this
      · cases h
    · cases h
  · cases h
theorem zeroCells_size (z : Array Value) (n : Nat) : (Builtin.zeroCells z n).size = n * z.size := by simp [Builtin.zeroCells]
theorem appendW_sound {w0 : World} {S : Nat → Prop} {m m' : Mem} {t t' : TypeId} {s x : AV} {vs vx : Value} {ob : List Bool} {av : AV} (h : appendW P m t t' s x = some (ob, (av, m'))) (ho : Paid ob)
    (hs : Rep ρ (upto m.length) s vs) (hx : Rep ρ (upto m.length) x vx) (hi : Inv w0 S (upto m.length) ρ (getName m) w) (ty : TypeId) :
    m.length ≤ m'.length ∧ ∃ v w' ρ', (Builtin.append_ #[t, t'] ty #[vs, vx]).run P w = .ok v w' ∧ Rep ρ' (upto m'.length) av v ∧ Inv w0 S (upto m'.length) ρ' (getName m') w' ∧ Agr ρ ρ' (upto m.length) := by
  have hfresh : ¬ upto m.length m.length := by simp [upto]
  unfold appendW at h
  split at h
  · rename_i e k sz h2 hw
    simp only [decide_eq_true_eq] at h2
    subst h2
    obtain ⟨i, z, h1, h4, h5, h2, h512, hby, h6, hzs⟩ := wideEl_some hw
    split at h
    · -- onto nil
      obtain ⟨o1, ⟨sx, lx, news⟩, o2, g1, g2, rfl⟩ := bind_some h
      obtain ⟨o3, ⟨⟩, o4, g3, g4, rfl⟩ := bind_some g2
      obtain ⟨_, he⟩ := pure_some g4
      cases he
      have hp := paid_append.1 ho
      obtain ⟨ad, c, rfl, r1, r2, r3⟩ := xsW_sound (by omega) g1 hp.1 hx hi.sim
      have hlx := chk_some g3 (paid_append.1 hp.2).1
      simp only [Bool.and_eq_true, decide_eq_true_eq] at hlx
      cases hs
      refine ⟨by simp, ?_⟩
      have hr := run_append_nil (P := P) w t' ty e i _ h1 h4 h6 ad lx c (news.map (Value.int k)) (by simp [r1, h5]) r2 (by omega) (by omega) (by have := Nat.mul_le_mul hlx.2 hby; omega)
      have hge := grownCap_ge w lx 0 e
      generalize hG : grownCap w lx 0 e = G at hr hge
      have hsize : ((news.map (Value.int k)).toArray ++ Builtin.zeroCells z.cells (G - lx)).size = G * sz := by
        rw [Array.size_append, zeroCells_size, hzs]
        simp only [List.size_toArray, List.length_map, r1]
        rw [← Nat.add_mul]; congr 1; omega
      have hmul : lx * sz ≤ G * sz := Nat.mul_le_mul_right _ hge
      have hcr : CRep ρ (upto m.length) (.ints k (szIf sx (lx * sz)) news) (fun i => ((news.map (Value.int k)).toArray ++ Builtin.zeroCells z.cells (G - lx))[i]?) := ints_crep r1 r3 fun i x hx => by
        have hlt : i < news.length := (List.getElem?_eq_some_iff.1 hx).1
        rw [Array.getElem?_append_left (by simpa using hlt)]
        simp [hx]
      have hinv := hi.drew.alloc (rw := true) (N' := upto (m ++ [some (Blk.mk true (.ints k (szIf sx (lx * sz)) news))]).length) hfresh e hcr (by rw [ints_clen r1, hsize]; omega) (fun i hi => by simp [upto] at *; omega) (by simp [upto]) new_name
      refine ⟨_, _, _, hr, ?_, hinv, bump_agr hfresh⟩
      refine .slice sx m.length 0 lx none sz G _ (by simp [upto]) (fun _ h => by cases h) hge ?_ fun _ => ?_
      · rw [bump_at, hsize]; show 0 + G * sz ≤ G * sz; omega
      · rw [bump_at]; rfl
    · -- onto a slice of the run's own
      rename_i ss n ls cap es
      split at h
      · rename_i cb hes hb
        simp only [decide_eq_true_eq] at hes
        subst hes
        obtain ⟨o1, ⟨sx, lx, news⟩, o2, g1, g2, rfl⟩ := bind_some h
        obtain ⟨o3, olds, o4, g3, g4, rfl⟩ := bind_some g2
        obtain ⟨o5, ⟨⟩, o6, g5, g6, rfl⟩ := bind_some g4
        obtain ⟨_, he⟩ := pure_some g6
        cases he
        have hp := paid_append.1 ho
        have hp2 := paid_append.1 hp.2
        obtain ⟨ad, c, rfl, r1, r2, r3⟩ := xsW_sound (by omega) g1 hp.1 hx hi.sim
        have hlx := chk_some g5 (paid_append.1 hp2.2).1
        simp only [Bool.and_eq_true, decide_eq_true_eq] at hlx
        obtain ⟨cs, tt, lo', hi', q1, q2, q3, q4, q5⟩ := (hi.sim.blk n _ hb).ex
        obtain ⟨u1, u2, u3⟩ := getNums_sound g3 hp2.1 q5
        cases hs with
        | slice _ _ _ _ _ _ cp sd hn hc hl hw had =>
        have hlen : (olds ++ news).length = (ls + lx) * es := by simp [u1, r1, Nat.add_mul]
        have hall : ∀ x ∈ olds ++ news, inR k x = true := fun x hx => (List.mem_append.1 hx).elim (u3 x) (r3 x)
        refine ⟨by simp, ?_⟩
        by_cases hroom : ls + lx ≤ cp
        · have hcp : 0 < cp := by omega
          -- there is room
          have had' := had hcp
          simp only [Nat.add_zero] at had'
          subst had'
          have hmul : (ls + lx) * es ≤ cp * es := Nat.mul_le_mul_right _ hroom
          have hadd : (ls + lx) * es = ls * es + lx * es := Nat.add_mul ..
          obtain ⟨w', cs', s1, s2, s3, s4⟩ := run_storeCells (P := P) (off := (ρ n).sh + ls * es) (news.map (Value.int k)) 0 w cs q1 (by simp [r1]; omega) (q3 rfl) one_ints
          have hfc := run_firstCells_some (P := P) w i.size lx ad lx c (news.map (Value.int k)) (by simp [r1, h5]) r2
          have hr : (Builtin.append_ #[t', t'] ty #[.slice (some ⟨(ρ n).b, (ρ n).sh, none⟩) ls cp, .slice (some ad) lx c]).run P w = .ok (.slice (some ⟨(ρ n).b, (ρ n).sh, none⟩) (ls + lx) cp) w' := by
            rw [h5] at hfc
            simp [Builtin.append_, run_underlying h1, sizeOf, typeInfo, h4, h5, Builtin.lenOf, hroom, hfc, addr_add, s1]
          have hcr : CRep ρ (upto m.length) (.ints k (szIf (ss || sx) ((ls + lx) * es)) (olds ++ news)) (fun i => cs'[(ρ n).sh + i]?) := ints_crep hlen hall fun j y hy => by
            rw [s4]
            by_cases hj : j < ls * es
            · rw [if_neg (by omega)]
              rw [List.getElem?_append_left (by omega)] at hy
              have := u2 j y hy
              simpa using this
            · have hlt : j < (olds ++ news).length := (List.getElem?_eq_some_iff.1 hy).1
              rw [if_pos (by simp [r1]; omega), List.getElem?_map]
              rw [List.getElem?_append_right (by omega), u1] at hy
              rw [show (ρ n).sh + j - ((ρ n).sh + ls * es + 0) = j - ls * es by omega, hy]
              rfl
          have hst := hi.store (g' := fun i => if i = n then some ⟨true, .ints k (szIf (ss || sx) ((ls + lx) * es)) (olds ++ news)⟩ else getName m i) hb rfl q1 s2 s3 (by rw [ints_clen hlen]; omega) hcr (fun i bi hg => by
            split at hg
            · rename_i he; cases hg; exact Or.inl ⟨he, rfl⟩
            · rename_i he; exact Or.inr ⟨he, hg⟩)
          have hre := hst.rename (n := n) (k := m.length) (b := ⟨true, .ints k (szIf (ss || sx) ((ls + lx) * es)) (olds ++ news)⟩) (N' := upto (m.set n none ++ [some (Blk.mk true (.ints k (szIf (ss || sx) ((ls + lx) * es)) (olds ++ news)))]).length)
            (g' := getName (m.set n none ++ [some (Blk.mk true (.ints k (szIf (ss || sx) ((ls + lx) * es)) (olds ++ news)))])) (by simp) hfresh (fun i hi => by simp [upto] at *; omega) (by simp [upto]) (fun i bi hg => by
              rcases set_app hg with ⟨e1, e2⟩ | ⟨e1, e2, e3⟩
              · cases e2; exact Or.inl ⟨e1, rfl⟩
              · exact Or.inr ⟨e1, e2, by simp [e2, e3]⟩)
          refine ⟨_, _, _, hr, ?_, hre, bump_agr hfresh⟩
          refine .slice (ss || sx) m.length 0 (ls + lx) none es cp _ (by simp [upto]) (fun _ h => by cases h) hroom ?_ fun _ => ?_
          · rw [bump_at]; omega
          · rw [bump_at]; rfl
        · -- a new row
          have holds : ∀ (j : Nat) (v : Value), (olds.map (Value.int k))[j]? = some v → w.cell? (sd.add j) = some v := fun j v hj => by
            have hlt : j < ls * es := by have := (List.getElem?_eq_some_iff.1 hj).1; simp at this; omega
            have hpos : 0 < ls := by
              rcases Nat.eq_zero_or_pos ls with h0 | h0
              · subst h0; omega
              · exact h0
            rw [had (by omega), addr_add, cell_row q1]
            simp at hj
            obtain ⟨y, hy, rfl⟩ := hj
            have := u2 j y hy
            simpa using this
          have hr := run_append_grow (P := P) w t' ty e i _ h1 h4 h6 sd ls cp (olds.map (Value.int k)) (by simp [u1, h5]) holds ad lx c (news.map (Value.int k)) (by simp [r1, h5]) r2 (by omega) (by omega)
            (growslice_fits (by omega) (by have := Nat.mul_le_mul hlx.2 hby; omega))
          have hge := grownCap_ge w (ls + lx) cp e
          generalize hG : grownCap w (ls + lx) cp e = G at hr hge
          have hmul : (ls + lx) * es ≤ G * es := Nat.mul_le_mul_right _ hge
          have hsize : ((olds.map (Value.int k)).toArray ++ (news.map (Value.int k)).toArray ++ Builtin.zeroCells z.cells (G - (ls + lx))).size = G * es := by
            rw [Array.size_append, Array.size_append, zeroCells_size, hzs]
            simp only [List.size_toArray, List.length_map, r1, u1]
            rw [← Nat.add_mul, ← Nat.add_mul]; congr 1; omega
          have hcr : CRep ρ (upto m.length) (.ints k (szIf (ss || sx) ((ls + lx) * es)) (olds ++ news)) (fun i => ((olds.map (Value.int k)).toArray ++ (news.map (Value.int k)).toArray ++ Builtin.zeroCells z.cells (G - (ls + lx)))[i]?) := ints_crep hlen hall fun i x hx => by
            have hlt : i < (olds ++ news).length := (List.getElem?_eq_some_iff.1 hx).1
            rw [Array.getElem?_append_left (by simpa using hlt)]
            have : (olds.map (Value.int k)).toArray ++ (news.map (Value.int k)).toArray = ((olds ++ news).map (Value.int k)).toArray := by simp
            rw [this, List.getElem?_toArray, List.getElem?_map, hx]
            rfl
          have hdr : Inv w0 S (upto m.length) ρ (getName (m.set n none)) w.drew := hi.drew.less fun i bi hg => by
            by_cases hin : i = n
            · subst hin
              have hlt := getName_lt hg
              simp at hlt
              unfold getName at hg
              simp [hlt] at hg
            · unfold getName at hg ⊢
              rw [List.getElem?_set_ne (Ne.symm hin)] at hg
              exact hg
          have hinv := hdr.alloc (rw := true) (N' := upto (m.set n none ++ [some (Blk.mk true (.ints k (szIf (ss || sx) ((ls + lx) * es)) (olds ++ news)))]).length) (k := m.length) hfresh e hcr (by rw [ints_clen hlen, hsize]; omega) (fun i hi => by simp [upto] at *; omega) (by simp [upto])
            (g' := getName (m.set n none ++ [some (Blk.mk true (.ints k (szIf (ss || sx) ((ls + lx) * es)) (olds ++ news)))])) (fun i bi hg => by
              rcases new_name i bi hg with h1 | h1
              · exact Or.inl h1
              · exact Or.inr ⟨by simpa using h1.1, h1.2⟩)
          refine ⟨_, _, _, hr, ?_, hinv, bump_agr hfresh⟩
          refine .slice (ss || sx) m.length 0 (ls + lx) none es G _ (by simp [upto]) (fun _ h => by cases h) hge ?_ fun _ => ?_
          · rw [bump_at, hsize]; show 0 + G * es ≤ G * es; omega
          · rw [bump_at]; rfl
      · cases h
    · cases h
  · cases h
theorem appendW_le {m m' : Mem} {t t' : TypeId} {s x : AV} {ob : List Bool} {av : AV} (h : appendW P m t t' s x = some (ob, (av, m'))) : m.length ≤ m'.length := by
  unfold appendW at h
  repeat' split at h
  all_goals first | (cases h; done) | skip
  · obtain ⟨o1, ⟨sx, lx, news⟩, o2, g1, g2, rfl⟩ := bind_some h
    obtain ⟨o3, ⟨⟩, o4, g3, g4, rfl⟩ := bind_some g2
    obtain ⟨_, he⟩ := pure_some g4
    cases he
    simp
  · obtain ⟨o1, ⟨sx, lx, news⟩, o2, g1, g2, rfl⟩ := bind_some h
    obtain ⟨o3, olds, o4, g3, g4, rfl⟩ := bind_some g2
    obtain ⟨o5, ⟨⟩, o6, g5, g6, rfl⟩ := bind_some g4
    obtain ⟨_, he⟩ := pure_some g6
    cases he
    simp
theorem sliceOfW_sound {w0 : World} {S : Nat → Prop} {m m' : Mem} {t : TypeId} {len : Nat} {parts : List (Nat × AV)} {vparts : Array (Nat × Value)} {ob : List Bool} {av : AV} (h : sliceOfW P m t len parts = some (ob, (av, m')))
    (h1 : parts.map (·.1) = vparts.toList.map (·.1)) (h2 : Reps ρ (upto m.length) (parts.map (·.2)) (vparts.toList.map (·.2))) (hi : Inv w0 S (upto m.length) ρ (getName m) w) :
    m.length ≤ m'.length ∧ ∃ v w' ρ', (Instr.buildSlice t len vparts).run P w = .ok v w' ∧ Rep ρ' (upto m'.length) av v ∧ Inv w0 S (upto m'.length) ρ' (getName m') w' ∧ Agr ρ ρ' (upto m.length) := by
  have hfresh : ¬ upto m.length m.length := by simp [upto]
  unfold sliceOfW at h
  split at h
  · rename_i e k sz k' n l hw
    split at h
    · rename_i hc
      simp only [Bool.and_eq_true, decide_eq_true_eq] at hc
      obtain ⟨⟨rfl, rfl⟩, rfl⟩ := hc
      obtain ⟨_, hee⟩ := pure_some h
      cases hee
      obtain ⟨i, z, hu, h4, h5, h22, h512, hby, h6, hzs⟩ := wideEl_some hw
      have hl : l.length = n ∧ ∀ y ∈ l, inR k' y = true := by
        simp only [List.map_cons, List.map_nil] at h2
        generalize vparts.toList.map (·.2) = us at h2
        cases h2 with
        | cons _ _ v vs hv hvs => cases hv with
          | ints _ _ _ q1 q2 => exact ⟨q1, q2⟩
      have hcells : Reps ρ (upto m.length) (List.replicate n AV.top) ((Array.range (1 * n)).map (z.cells[· % z.cells.size]!)).toList := by
        refine reps_of (by simp) fun i a v ha hv => ?_
        have : a = .top := by
          have := List.mem_of_getElem? ha
          exact (List.mem_replicate.1 this).2
        subst this
        exact .top _
      have hsp : splice (fun i => some (i * n, n)) (List.replicate n AV.top) [(0, .ints k' n l)] = some (spread k' n l) := by
        simp [splice, cellsOf, spread_length, alive]
      obtain ⟨cells', f1, f2⟩ := fill_sound (pl' := fun i => some (i * n, n)) (fun _ _ h => h) hsp hcells h1 h2
      obtain ⟨e1, e2⟩ := reps_spread f2 hl.1
      have hsize : cells'.size = n := by have := congrArg List.length e1; simp at this; omega
      have hr : (Instr.buildSlice t 1 vparts).run P w = .ok (.slice (some ⟨w.heap.size, 0, none⟩) 1 1) (w.alloc (.cells cells' e)) := by
        have hn : ¬ 1 * n = 0 := by omega
        have hn2 : ¬ 1 * n > 2 ^ 24 := by omega
        have hsz : szOf P e = some n := by simp [szOf, h4, h5]
        simp only [Instr.buildSlice, Sem.run_bind, run_underlying hu, Result.andThen_ok, run_sizeOf hsz]
        rw [if_neg hn2, if_neg hn]
        have i5 : (zeroValue e).run P w = .ok z w := by simp [zeroValue, typeInfo, h4, h6]
        simp only [Sem.run_bind, Sem.run_pure, Result.andThen_ok, i5]
        rw [f1]
        simp only [Sem.run_bind, Result.andThen_ok, newRow, run_newObj, Sem.run_pure]
        rfl
      refine ⟨by simp, ?_⟩
      have hcr : CRep ρ (upto m.length) (.ints k' (some n) l) (fun i => cells'[i]?) := by
        refine ⟨fun m' hm' => by cases hm'; exact hl.1, fun i x hx => ⟨?_, hl.2 x (List.mem_of_getElem? hx)⟩⟩
        show cells'[i]? = some (Value.int k' x)
        rw [← Array.getElem?_toList, e1, List.getElem?_map, hx]; rfl
      have hinv := hi.alloc (rw := true) (N' := upto (m ++ [some (Blk.mk true (.ints k' (some n) l))]).length) hfresh e (cs := cells') hcr (by show n ≤ cells'.size; omega) (fun i hi => by simp [upto] at *; omega) (by simp [upto]) new_name
      refine ⟨_, _, _, hr, ?_, hinv, bump_agr hfresh⟩
      refine .slice false m.length 0 1 (some 1) n 1 _ (by simp [upto]) (fun _ h => by cases h; rfl) (Nat.le_refl _) ?_ fun _ => ?_
      · rw [bump_at, hsize]; show 0 + 1 * n ≤ n; omega
      · rw [bump_at]
    · cases h
  · cases h
theorem sliceOfS_sound {w0 : World} {S : Nat → Prop} {m m' : Mem} {t : TypeId} {len : Nat} {parts : List (Nat × AV)} {vparts : Array (Nat × Value)} {ob : List Bool} {av : AV} (h : sliceOfS P m t len parts = some (ob, (av, m')))
    (h1 : parts.map (·.1) = vparts.toList.map (·.1)) (h2 : Reps ρ (upto m.length) (parts.map (·.2)) (vparts.toList.map (·.2))) (hi : Inv w0 S (upto m.length) ρ (getName m) w) :
    m.length ≤ m'.length ∧ ∃ v w' ρ', (Instr.buildSlice t len vparts).run P w = .ok v w' ∧ Rep ρ' (upto m'.length) av v ∧ Inv w0 S (upto m'.length) ρ' (getName m') w' ∧ Agr ρ ρ' (upto m.length) := by
  have hfresh : ¬ upto m.length m.length := by simp [upto]
  unfold sliceOfS at h
  split at h
  · rename_i e hu
    split at h
    · rename_i i h4
      split at h
      · rename_i z cs h6 hsp
        split at h
        · rename_i hc
          simp only [Bool.and_eq_true, decide_eq_true_eq] at hc
          obtain ⟨⟨⟨⟨h22, hlen⟩, hle⟩, hcl⟩, hsc⟩ := hc
          obtain ⟨_, hee⟩ := pure_some h
          cases hee
          have hpos : 0 < len * i.size := Nat.mul_pos (by omega) (by omega)
          have hcells : Reps ρ (upto m.length) (List.replicate (len * i.size) AV.top) ((Array.range (len * i.size)).map (z.cells[· % z.cells.size]!)).toList := by
            refine reps_of (by simp) fun j a v ha hv => ?_
            have : a = .top := by
              have := List.mem_of_getElem? ha
              exact (List.mem_replicate.1 this).2
            subst this
            exact .top _
          obtain ⟨cells', f1, f2⟩ := fill_sound (pl' := fun j => some (j * i.size, i.size)) (fun _ _ h => h) hsp hcells h1 h2
          have hsize : cells'.size = len * i.size := by have := f2.length; simp at this; omega
          have hr : (Instr.buildSlice t len vparts).run P w = .ok (.slice (some ⟨w.heap.size, 0, none⟩) len len) (w.alloc (.cells cells' e)) := by
            have hn : ¬ len * i.size = 0 := by omega
            have hn2 : ¬ len * i.size > 2 ^ 24 := by omega
            have hsz : szOf P e = some i.size := by simp [szOf, h4]
            simp only [Instr.buildSlice, Sem.run_bind, run_underlying hu, Result.andThen_ok, run_sizeOf hsz]
            rw [if_neg hn2, if_neg hn]
            have i5 : (zeroValue e).run P w = .ok z w := by simp [zeroValue, typeInfo, h4, h6]
            simp only [Sem.run_bind, Sem.run_pure, Result.andThen_ok, i5]
            rw [f1]
            simp only [Sem.run_bind, Result.andThen_ok, newRow, run_newObj, Sem.run_pure]
            rfl
          refine ⟨by simp, ?_⟩
          have hcr : CRep ρ (upto m.length) (.vals cs) (fun i => cells'[i]?) := fun j a ha => by
            obtain ⟨v, v1, v2⟩ := f2.get j a ha
            exact ⟨v, by simpa using v1, v2⟩
          have hinv := hi.alloc (rw := true) (N' := upto (m ++ [some (Blk.mk true (.vals cs))]).length) hfresh e (cs := cells') hcr (by show cs.length ≤ cells'.size; omega) (fun i hi => by simp [upto] at *; omega) (by simp [upto]) new_name
          refine ⟨_, _, _, hr, ?_, hinv, bump_agr hfresh⟩
          refine .slice false m.length 0 len (some len) i.size len _ (by simp [upto]) (fun _ h => by cases h; rfl) (Nat.le_refl _) ?_ fun _ => ?_
          · rw [bump_at, hsize]; show 0 + len * i.size ≤ len * i.size; omega
          · rw [bump_at]
        · cases h
      · cases h
    · cases h
  · cases h
theorem sliceOfB_sound {w0 : World} {S : Nat → Prop} {m m' : Mem} {t : TypeId} {len : Nat} {parts : List (Nat × AV)} {vparts : Array (Nat × Value)} {ob : List Bool} {av : AV} (h : sliceOfB P m t len parts = some (ob, (av, m')))
    (h1 : parts.map (·.1) = vparts.toList.map (·.1)) (h2 : Reps ρ (upto m.length) (parts.map (·.2)) (vparts.toList.map (·.2))) (hi : Inv w0 S (upto m.length) ρ (getName m) w) :
    m.length ≤ m'.length ∧ ∃ v w' ρ', (Instr.buildSlice t len vparts).run P w = .ok v w' ∧ Rep ρ' (upto m'.length) av v ∧ Inv w0 S (upto m'.length) ρ' (getName m') w' ∧ Agr ρ ρ' (upto m.length) := by
  unfold sliceOfB at h
  split at h
  · rename_i r hr
    rw [← hr] at h
    exact sliceOfA_sound h h1 h2 hi
  · split at h
    · rename_i r hr
      rw [← hr] at h
      exact sliceOfW_sound h h1 h2 hi
    · exact sliceOfS_sound h h1 h2 hi
/-- What is appended, onto a slice that has room for it. -/
theorem newsR_sound {m : Mem} {t t' e : TypeId} {i : TypeInfo} {k : IntKind} {x : AV} {vx : Value} {ob : List Bool} {s0 : Bool} {lx : Nat} {news : List Int} (h : newsR P m t t' k x = some (ob, (s0, lx, news))) (ho : Paid ob)
    (ht : P.underlying t = some (.slice e)) (hi : P.info? e = some i) (h1 : i.size = 1) (hby : i.bytes ≤ 8) (hz : i.zero = some (.int k 0)) (hx : Rep ρ (upto m.length) x vx) {w0 : World} {S : Nat → Prop} (hinv : Inv w0 S (upto m.length) ρ (getName m) w) (ty : TypeId) :
    (news.length = lx ∧ ∀ x ∈ news, inR k x = true) ∧ ∀ (a : Addr) (sLen sCap : Nat) (w' : World), sLen + lx ≤ sCap → (storeCells (a.add sLen) (news.map (Value.int k))).run P w = .ok () w' →
      (Builtin.append_ #[t, t'] ty #[.slice (some a) sLen sCap, vx]).run P w = .ok (.slice (some a) (sLen + lx) sCap) w' := by
  have other : newsX P t t' k x = some (ob, (s0, lx, news)) → (news.length = lx ∧ ∀ x ∈ news, inR k x = true) ∧ ∀ (a : Addr) (sLen sCap : Nat) (w' : World), sLen + lx ≤ sCap → (storeCells (a.add sLen) (news.map (Value.int k))).run P w = .ok () w' →
      (Builtin.append_ #[t, t'] ty #[.slice (some a) sLen sCap, vx]).run P w = .ok (.slice (some a) (sLen + lx) sCap) w' := fun h => by
    have hsrc := newsX_sound h ho hx
    exact ⟨src2_all hsrc, fun a sLen sCap w' hr hst => append2_room ht hi h1 hby hz hsrc hr hst⟩
  unfold newsR at h
  split at h
  · rename_i hd
    have hd' := of_decide_eq_true hd
    subst hd'
    split at h
    · rename_i r hr
      simp only [Option.some.injEq] at h
      subst h
      obtain ⟨ad, c, rfl, r1, r2, r3⟩ := xsA_sound hr ho hx hinv.sim
      refine ⟨⟨r1, r3⟩, fun a sLen sCap w' hroom hst => ?_⟩
      have hfc := run_firstCells_some (P := P) w i.size lx ad lx c (news.map (Value.int k)) (by simp [r1, h1]) r2
      rw [h1] at hfc
      simp [Builtin.append_, run_underlying ht, sizeOf, typeInfo, hi, h1, Builtin.lenOf, hroom, hfc, hst]
    · exact other h
  · exact other h
theorem appendR_sound {w0 : World} {S : Nat → Prop} {m m' : Mem} {t t' : TypeId} {s x : AV} {vs vx : Value} {ob : List Bool} {av : AV} (h : appendR P m t t' s x = some (ob, (av, m'))) (ho : Paid ob)
    (hs : Rep ρ (upto m.length) s vs) (hx : Rep ρ (upto m.length) x vx) (hi : Inv w0 S (upto m.length) ρ (getName m) w) (ty : TypeId) :
    m.length ≤ m'.length ∧ ∃ v w' ρ', (Builtin.append_ #[t, t'] ty #[vs, vx]).run P w = .ok v w' ∧ Rep ρ' (upto m'.length) av v ∧ Inv w0 S (upto m'.length) ρ' (getName m') w' ∧ Agr ρ ρ' (upto m.length) := by
  unfold appendR at h
  split at h
  case h_2 => cases h
  rename_i e n ls c0 h1
  split at h
  case h_2 => cases h
  rename_i k i h3 h4
  split at h
  case h_2 => cases h
  rename_i k' h5 h6
  simp only [Bool.and_eq_true, decide_eq_true_eq] at h5
  obtain ⟨h5, hby⟩ := h5
  split at h
  case h_2 => cases h
  rename_i cb h7 hb
  simp only [decide_eq_true_eq] at h7
  subst h7
  obtain ⟨o1, ⟨s0, lx, news⟩, o2, g1, g2, rfl⟩ := bind_some h
  obtain ⟨o3, olds, o4, g3, g4, rfl⟩ := bind_some g2
  obtain ⟨o5, ⟨⟩, o6, g5, g6, rfl⟩ := bind_some g4
  obtain ⟨_, he⟩ := pure_some g6
  cases he
  have hp := paid_append.1 ho
  have hp2 := paid_append.1 hp.2
  obtain ⟨⟨r1, r3⟩, hrun⟩ := newsR_sound g1 hp.1 h1 h4 h5 hby h6 hx hi ty
  have hlx := chk_some g5 (paid_append.1 hp2.2).1
  simp only [decide_eq_true_eq] at hlx
  obtain ⟨cs, tt, lo', hi', q1, q2, q3, q4, q5⟩ := (hi.sim.blk n _ hb).ex
  obtain ⟨u1, u2, u3⟩ := getNums_sound g3 hp2.1 q5
  cases hs with
  | slice _ _ _ _ _ _ cp sd hn hc hl hw had =>
  have hcc : cp = c0 := hc c0 rfl
  subst hcc
  have hlen : (olds ++ news).length = ls + lx := by simp [u1, r1]
  have hall : ∀ x ∈ olds ++ news, inR k' x = true := fun x hx => (List.mem_append.1 hx).elim (u3 x) (r3 x)
  have hml : (m.set n (some (Blk.mk true (.ints k' none (olds ++ news))))).length = m.length := by simp
  refine ⟨by rw [hml]; exact Nat.le_refl _, ?_⟩
  rw [hml]
  have hgn : ∀ i bi, getName (m.set n (some (Blk.mk true (.ints k' none (olds ++ news))))) i = some bi → (i = n ∧ bi = ⟨true, .ints k' none (olds ++ news)⟩) ∨ (i ≠ n ∧ getName m i = some bi) := fun i bi hg => by
    by_cases hin : i = n
    · subst hin
      have hlt := getName_lt hg
      simp at hlt
      unfold getName at hg
      simp [hlt] at hg
      exact Or.inl ⟨rfl, hg.symm⟩
    · unfold getName at hg ⊢
      rw [List.getElem?_set_ne (Ne.symm hin)] at hg
      exact Or.inr ⟨hin, hg⟩
  by_cases hcp : 0 < cp
  · have had' := had hcp
    simp only [Nat.add_zero] at had'
    subst had'
    obtain ⟨w', cs', s1, s2, s3, s4⟩ := run_storeCells (P := P) (off := (ρ n).sh + ls) (news.map (Value.int k')) 0 w cs q1 (by simp [r1]; omega) (q3 rfl) one_ints
    have hr := hrun ⟨(ρ n).b, (ρ n).sh, none⟩ ls cp w' hlx (by rw [addr_add]; simpa using s1)
    have hcr : CRep ρ (upto m.length) (.ints k' none (olds ++ news)) (fun i => cs'[(ρ n).sh + i]?) := ints_crep (s := true) hlen hall fun j y hy => by
      rw [s4]
      by_cases hj : j < ls
      · rw [if_neg (by omega)]
        rw [List.getElem?_append_left (by omega)] at hy
        have := u2 j y hy
        simpa using this
      · have hlt : j < (olds ++ news).length := (List.getElem?_eq_some_iff.1 hy).1
        rw [if_pos (by simp [r1]; omega), List.getElem?_map]
        rw [List.getElem?_append_right (by omega), u1] at hy
        rw [show (ρ n).sh + j - ((ρ n).sh + ls + 0) = j - ls by omega, hy]
        rfl
    have hst := hi.store (g' := getName (m.set n (some (Blk.mk true (.ints k' none (olds ++ news)))))) hb rfl q1 s2 s3 (by rw [show clen (.ints k' none (olds ++ news)) = ls + lx from hlen]; omega) hcr hgn
    exact ⟨_, _, _, hr, .slice true n 0 (ls + lx) (some cp) 1 cp _ hn (fun c h => by cases h; rfl) hlx hw fun h => had h, hst, fun _ _ => rfl⟩
  · have e1 : ls = 0 := by omega
    have e2 : lx = 0 := by omega
    have e3 : cp = 0 := by omega
    subst e1 e2 e3
    have hnn : news = [] := List.eq_nil_of_length_eq_zero r1
    have hoo : olds = [] := List.eq_nil_of_length_eq_zero u1
    subst hnn hoo
    have hr := hrun sd 0 0 w (by omega) (by simp [storeCells])
    have hst := hi.store (g' := getName (m.set n (some (Blk.mk true (.ints k' none ([] ++ [])))))) hb rfl q1 ⟨q1, fun _ _ => rfl, rfl, rfl, rfl, rfl⟩ rfl (c := .ints k' none ([] ++ []))
      (by rw [show clen (.ints k' none ([] ++ [])) = 0 from rfl]; omega) (ints_crep (s := true) (n := 0) (l := []) rfl (by simp) (by simp)) hgn
    exact ⟨_, _, _, hr, .slice true n 0 0 (some 0) 1 0 _ hn (fun c h => by cases h; rfl) (Nat.le_refl _) hw fun h => had h, hst, fun _ _ => rfl⟩
theorem appendR_le {m m' : Mem} {t t' : TypeId} {s x : AV} {ob : List Bool} {av : AV} (h : appendR P m t t' s x = some (ob, (av, m'))) : m.length ≤ m'.length := by
  unfold appendR at h
  repeat' split at h
  all_goals first | (cases h; done) | skip
  obtain ⟨o1, ⟨sx, lx, news⟩, o2, g1, g2, rfl⟩ := bind_some h
  obtain ⟨o3, olds, o4, g3, g4, rfl⟩ := bind_some g2
  obtain ⟨o5, ⟨⟩, o6, g5, g6, rfl⟩ := bind_some g4
  obtain ⟨_, he⟩ := pure_some g6
  cases he
  simp
theorem appendF_sound {w0 : World} {S : Nat → Prop} {m m' : Mem} {t t' : TypeId} {s x : AV} {vs vx : Value} {ob : List Bool} {av : AV} (h : appendF P m t t' s x = some (ob, (av, m'))) (ho : Paid ob)
    (hs : Rep ρ (upto m.length) s vs) (hx : Rep ρ (upto m.length) x vx) (hi : Inv w0 S (upto m.length) ρ (getName m) w) (ty : TypeId) :
    m.length ≤ m'.length ∧ ∃ v w' ρ', (Builtin.append_ #[t, t'] ty #[vs, vx]).run P w = .ok v w' ∧ Rep ρ' (upto m'.length) av v ∧ Inv w0 S (upto m'.length) ρ' (getName m') w' ∧ Agr ρ ρ' (upto m.length) := by
  have hfresh : ¬ upto m.length m.length := by simp [upto]
  unfold appendF at h
  split at h
  · rename_i e h1 h2
    simp only [decide_eq_true_eq] at h2
    subst h2
    split at h
    · rename_i k i h3 h4
      split at h
      · rename_i k' h5 h6
        simp only [Bool.and_eq_true, decide_eq_true_eq] at h5
        obtain ⟨h5, hby⟩ := h5
        split at h
        · rename_i ss n ls cp0 h7
          simp only [decide_eq_true_eq] at h7
          subst h7
          split at h
          · rename_i cb hb
            obtain ⟨o1, ⟨sx, lx, news⟩, o2, g1, g2, rfl⟩ := bind_some h
            obtain ⟨o3, olds, o4, g3, g4, rfl⟩ := bind_some g2
            obtain ⟨o5, ⟨⟩, o6, g5, g6, rfl⟩ := bind_some g4
            obtain ⟨_, he⟩ := pure_some g6
            cases he
            have hp := paid_append.1 ho
            have hp2 := paid_append.1 hp.2
            obtain ⟨ad, c, rfl, r1, r2, r3⟩ := xsA_sound g1 hp.1 hx hi.sim
            have hlx := chk_some g5 (paid_append.1 hp2.2).1
            simp only [Bool.and_eq_true, decide_eq_true_eq] at hlx
            obtain ⟨cs, tt, lo', hi', q1, q2, q3, q4, q5⟩ := (hi.sim.blk n _ hb).ex
            obtain ⟨u1, u2, u3⟩ := getNums_sound g3 hp2.1 q5
            cases hs with
            | slice _ _ _ _ _ _ cp sd hn hc hl hw had =>
            have hcp : cp = cp0 := hc _ rfl
            have hlen : (olds ++ news).length = ls + lx := by simp [u1, r1]
            have hall : ∀ x ∈ olds ++ news, inR k' x = true := fun x hx => (List.mem_append.1 hx).elim (u3 x) (r3 x)
            refine ⟨by simp, ?_⟩
            have holds : ∀ (j : Nat) (v : Value), (olds.map (Value.int k'))[j]? = some v → w.cell? (sd.add j) = some v := fun j v hj => by
              have hlt : j < ls := by have := (List.getElem?_eq_some_iff.1 hj).1; simp at this; omega
              rw [had (by omega), addr_add, cell_row q1]
              simp at hj
              obtain ⟨y, hy, rfl⟩ := hj
              have := u2 j y hy
              simpa using this
            have hr := run_append_grow (P := P) w t' ty e i _ h1 h4 h6 sd ls cp (olds.map (Value.int k')) (by simp [u1, h5]) holds ad lx c (news.map (Value.int k')) (by simp [r1, h5]) r2 (by omega) (by omega)
              (growslice_fits (by omega) (by have := Nat.mul_le_mul hlx.2 hby; omega))
            have hge := grownCap_ge w (ls + lx) cp e
            generalize hG : grownCap w (ls + lx) cp e = G at hr hge
            have hsize : ((olds.map (Value.int k')).toArray ++ (news.map (Value.int k')).toArray ++ Builtin.zeroCells (Value.int k' 0).cells (G - (ls + lx))).size = G := by rw [Array.size_append, Array.size_append, zeros_size]; simp [r1, u1]; omega
            have hcr : CRep ρ (upto m.length) (.ints k' (szIf (ss || sx) (ls + lx)) (olds ++ news)) (fun i => ((olds.map (Value.int k')).toArray ++ (news.map (Value.int k')).toArray ++ Builtin.zeroCells (Value.int k' 0).cells (G - (ls + lx)))[i]?) := ints_crep hlen hall fun i x hx => by
              have hlt : i < (olds ++ news).length := (List.getElem?_eq_some_iff.1 hx).1
              rw [Array.getElem?_append_left (by simpa using hlt)]
              have : (olds.map (Value.int k')).toArray ++ (news.map (Value.int k')).toArray = ((olds ++ news).map (Value.int k')).toArray := by simp
              rw [this, List.getElem?_toArray, List.getElem?_map, hx]
              rfl
            have hinv := hi.drew.alloc (rw := true) (N' := upto (m ++ [some (Blk.mk true (.ints k' (szIf (ss || sx) (ls + lx)) (olds ++ news)))]).length) hfresh e hcr (by rw [ints_clen hlen, hsize]; omega) (fun i hi => by simp [upto] at *; omega) (by simp [upto]) new_name
            refine ⟨_, _, _, hr, ?_, hinv, bump_agr hfresh⟩
            refine .slice (ss || sx) m.length 0 (ls + lx) none 1 G _ (by simp [upto]) (fun _ h => by cases h) hge ?_ fun _ => ?_
            · rw [bump_at, hsize]; show 0 + G * 1 ≤ G; omega
            · rw [bump_at]; rfl
          · cases h
        · cases h
      · cases h
    · cases h
  · cases h
theorem appendF_le {m m' : Mem} {t t' : TypeId} {s x : AV} {ob : List Bool} {av : AV} (h : appendF P m t t' s x = some (ob, (av, m'))) : m.length ≤ m'.length := by
  unfold appendF at h
  repeat' split at h
  all_goals first | (cases h; done) | skip
  obtain ⟨o1, ⟨sx, lx, news⟩, o2, g1, g2, rfl⟩ := bind_some h
  obtain ⟨o3, olds, o4, g3, g4, rfl⟩ := bind_some g2
  obtain ⟨o5, ⟨⟩, o6, g5, g6, rfl⟩ := bind_some g4
  obtain ⟨_, he⟩ := pure_some g6
  cases he
  simp
theorem appendB_sound {w0 : World} {S : Nat → Prop} {m m' : Mem} {t t' : TypeId} {s x : AV} {vs vx : Value} {ob : List Bool} {av : AV} (h : appendB P m t t' s x = some (ob, (av, m'))) (ho : Paid ob)
    (hs : Rep ρ (upto m.length) s vs) (hx : Rep ρ (upto m.length) x vx) (hi : Inv w0 S (upto m.length) ρ (getName m) w) (ty : TypeId) :
    m.length ≤ m'.length ∧ ∃ v w' ρ', (Builtin.append_ #[t, t'] ty #[vs, vx]).run P w = .ok v w' ∧ Rep ρ' (upto m'.length) av v ∧ Inv w0 S (upto m'.length) ρ' (getName m') w' ∧ Agr ρ ρ' (upto m.length) := by
  unfold appendB at h
  split at h
  · rename_i r hr
    rw [← hr] at h
    exact appendR_sound h ho hs hx hi ty
  split at h
  · rename_i r hr
    rw [← hr] at h
    exact appendA_sound h ho hs hx hi ty
  · split at h
    · rename_i r hr
      rw [← hr] at h
      exact appendX_sound h ho hs hx hi ty
    · split at h
      · rename_i r hr
        rw [← hr] at h
        exact appendW_sound h ho hs hx hi ty
      · exact appendF_sound h ho hs hx hi ty

theorem appendX_le {m m' : Mem} {t t' : TypeId} {s x : AV} {ob : List Bool} {av : AV} (h : appendX P m t t' s x = some (ob, (av, m'))) : m.length ≤ m'.length := by
  unfold appendX at h
  repeat' split at h
  all_goals first | (cases h; done) | skip
  · obtain ⟨o1, ⟨sx, lx, news⟩, o2, g1, g2, rfl⟩ := bind_some h
    obtain ⟨o3, ⟨⟩, o4, g3, g4, rfl⟩ := bind_some g2
    obtain ⟨_, he⟩ := pure_some g4
    cases he
    simp
  · obtain ⟨o1, ⟨sx, lx, news⟩, o2, g1, g2, rfl⟩ := bind_some h
    obtain ⟨o3, olds, o4, g3, g4, rfl⟩ := bind_some g2
    obtain ⟨o5, ⟨⟩, o6, g5, g6, rfl⟩ := bind_some g4
    obtain ⟨_, he⟩ := pure_some g6
    cases he
    simp
theorem appendA_le {m m' : Mem} {t t' : TypeId} {s x : AV} {ob : List Bool} {av : AV} (h : appendA P m t t' s x = some (ob, (av, m'))) : m.length ≤ m'.length := by
  unfold appendA at h
  repeat' split at h
  all_goals first | (cases h; done) | skip
  · obtain ⟨_, he⟩ := pure_some h
    cases he
    exact Nat.le_refl _
  · obtain ⟨o1, ⟨sx, lx, news⟩, o2, g1, g2, rfl⟩ := bind_some h
    obtain ⟨_, he⟩ := pure_some g2
    cases he
    exact Nat.le_refl _
  · obtain ⟨o1, ⟨sx, lx, news⟩, o2, g1, g2, rfl⟩ := bind_some h
    obtain ⟨o3, ⟨⟩, o4, g3, g4, rfl⟩ := bind_some g2
    obtain ⟨_, he⟩ := pure_some g4
    cases he
    simp
  · obtain ⟨o1, ⟨sx, lx, news⟩, o2, g1, g2, rfl⟩ := bind_some h
    obtain ⟨o3, olds, o4, g3, g4, rfl⟩ := bind_some g2
    obtain ⟨o5, ⟨⟩, o6, g5, g6, rfl⟩ := bind_some g4
    obtain ⟨_, he⟩ := pure_some g6
    cases he
    simp
theorem appendB_le {m m' : Mem} {t t' : TypeId} {s x : AV} {ob : List Bool} {av : AV} (h : appendB P m t t' s x = some (ob, (av, m'))) : m.length ≤ m'.length := by
  unfold appendB at h
  split at h
  · rename_i r hr
    rw [← hr] at h
    exact appendR_le h
  split at h
  · rename_i r hr
    rw [← hr] at h
    exact appendA_le h
  · split at h
    · rename_i r hr
      rw [← hr] at h
      exact appendX_le h
    · split at h
      · rename_i r hr
        rw [← hr] at h
        exact appendW_le h
      · exact appendF_le h
theorem sliceOfA_le {m m' : Mem} {t : TypeId} {len : Nat} {parts : List (Nat × AV)} {ob : List Bool} {av : AV} (h : sliceOfA P m t len parts = some (ob, (av, m'))) : m.length ≤ m'.length := by
  unfold sliceOfA at h
  repeat' split at h
  all_goals first | (cases h; done) | skip
  obtain ⟨_, he⟩ := pure_some h
  cases he
  simp
theorem sliceOfB_le {m m' : Mem} {t : TypeId} {len : Nat} {parts : List (Nat × AV)} {ob : List Bool} {av : AV} (h : sliceOfB P m t len parts = some (ob, (av, m'))) : m.length ≤ m'.length := by
  unfold sliceOfB at h
  split at h
  · rename_i r hr
    rw [← hr] at h
    exact sliceOfA_le h
  · split at h
    · rename_i r hr
      rw [← hr] at h
      unfold sliceOfW at h
      repeat' split at h
      all_goals first | (cases h; done) | skip
      obtain ⟨_, he⟩ := pure_some h
      cases he
      simp
    · unfold sliceOfS at h
      repeat' split at h
      all_goals first | (cases h; done) | skip
      obtain ⟨_, he⟩ := pure_some h
      cases he
      simp
/- copy, clear, make -/
theorem setNums_agg {c c' : Cells} {k : IntKind} {s : Bool} {o n : Nat} {xs : List Int} {ob : List Bool} (h : setNums c k s o n xs = some (ob, c')) : setAgg c s o n (.ints k n xs) = some (ob, c') := by
  unfold setNums at h
  split at h
  · split at h
    · rename_i hk
      subst hk
      simpa [setAgg] using h
    · cases h
  · cases h
theorem intRow_some {t : TypeId} {k : IntKind} (h : intRow P t = some k) : ∃ e i, P.underlying t = some (.slice e) ∧ P.underlying e = some (.int k) ∧ P.info? e = some i ∧ i.size = 1 ∧ i.bytes ≤ 8 ∧ i.zero = some (.int k 0) := by
  unfold intRow at h
  split at h
  · rename_i e he
    split at h
    · rename_i k' i h1 h2
      split at h
      · rename_i k2 h3 h4
        split at h
        · rename_i hk
          cases h
          subst hk
          simp only [Bool.and_eq_true, decide_eq_true_eq] at h3
          exact ⟨e, i, he, h1, h2, h3.1, h3.2, h4⟩
        · cases h
      · cases h
    · cases h
  · cases h
theorem sliceLen_some {x : AV} {s : Bool} {len : Nat} (h : sliceLen x = some (s, len)) {vx : Value} (hx : Rep ρ N x vx) : ∃ ad c, vx = .slice (some ad) len c ∧ len ≤ c := by
  unfold sliceLen at h
  split at h
  · cases h
    cases hx
    exact ⟨_, _, rfl, by assumption⟩
  · cases h
    cases hx
    exact ⟨_, _, rfl, by assumption⟩
  · cases h
/-- Numbers written at a slice's beginning. -/
theorem fillA_sound {w0 : World} {S : Nat → Prop} {m m' : Mem} {k : IntKind} {x : AV} {vx : Value} {s : Bool} {cnt : Nat} {xs : List Int} {ob : List Bool} (h : fillA m k x s cnt xs = some (ob, m')) (ho : Paid ob)
    (hx : Rep ρ N x vx) (hl : xs.length = cnt) (hr : ∀ y ∈ xs, inR k y = true) (hi : Inv w0 S N ρ (getName m) w) {ad : Addr} {len c : Nat} (hv : vx = .slice (some ad) len c) (hcl : cnt ≤ c) :
    ∃ w', (storeCells ad (xs.map (Value.int k)) 0).run P w = .ok () w' ∧ Inv w0 S N ρ (getName m') w' ∧ m'.length = m.length := by
  have hrep : Rep ρ N (.ints k cnt xs) (.agg (xs.map (Value.int k)).toArray) := .ints _ _ _ hl hr
  have hrun : ∀ {b off : Nat} {cs : Array Value} {t : TypeId} {lo hi' : Nat}, w.heap[b]? = some (.cells cs t (lo, hi')) → off + cnt ≤ cs.size → (∀ o, o < cs.size → ¬ (lo ≤ o ∧ o < hi')) → (0 < c → ad = ⟨b, off, none⟩) →
      ∃ w' cs', (storeCells ad (xs.map (Value.int k)) 0).run P w = .ok () w' ∧ Stored w w' b cs' t (lo, hi') ∧ cs'.size = cs.size ∧ ∀ j, cs'[j]? = if off ≤ j ∧ j < off + cnt then (xs.map (Value.int k))[j - off]? else cs[j]? := by
    intro b off cs t lo hi' hb hoff hfz had
    by_cases h0 : cnt = 0
    · subst h0
      have : xs = [] := List.eq_nil_of_length_eq_zero hl
      subst this
      exact ⟨w, cs, by simp [storeCells], ⟨hb, fun _ _ => rfl, rfl, rfl, rfl, rfl⟩, rfl, fun j => by rw [if_neg (by omega)]⟩
    · rw [had (by omega)]
      obtain ⟨w', cs', r1, r2, r3, r4⟩ := run_storeCells (P := P) (off := off) (xs.map (Value.int k)) 0 w cs hb (by simp [hl]; omega) hfz one_ints
      exact ⟨w', cs', r1, r2, r3, fun j => by rw [r4 j]; simp [hl]⟩
  unfold fillA at h
  split at h
  · rename_i s' n o len' cap
    split at h
    · rename_i cb hb
      obtain ⟨o1, c', o2, h1, h2, rfl⟩ := bind_some h
      obtain ⟨_, rfl⟩ := pure_some h2
      have h1' := setNums_agg h1
      cases hx with
      | slice _ _ _ _ _ _ c2 ad2 hn hc2 hl2 hw2 had2 =>
      cases hv
      obtain ⟨cs, t', lo', hi', g1, g2, g3, g4, g5⟩ := (hi.sim.blk n _ hb).ex
      simp only at g4
      obtain ⟨a1, a2, a3, a4, a5⟩ := setAgg_sound (cs' := #[]) h1' (paid_append.1 ho).1 hrep g5 (by omega)
      obtain ⟨w', cs', r1, r2, r3, r4⟩ := hrun (off := (ρ n).sh + o) g1 (by omega) (g3 rfl) had2
      obtain ⟨_, _, _, _, a6⟩ := setAgg_sound (cs' := cs') h1' (paid_append.1 ho).1 hrep g5 (by omega)
      exact ⟨w', r1, hi.store hb rfl g1 r2 r3 (by omega) (a6 fun j => by rw [r4 j]; simp [Value.cells]) (fun i bi h => getName_set h), by simp⟩
    · cases h
  · rename_i s' n b o len' cap
    split at h
    · rename_i cw hb
      split at h
      · rename_i cr hrc
        obtain ⟨o1, c', o2, h1, h2, rfl⟩ := bind_some h
        split at h2
        · rename_i bl hput
          obtain ⟨_, rfl⟩ := pure_some h2
          have h1' := setNums_agg h1
          cases hx with
          | wslice _ _ _ _ _ _ c2 ad2 hn hc2 hl2 hw2 had2 =>
          cases hv
          obtain ⟨cs, t', lo', hi', g1, g2, g3, g4, g5⟩ := (hi.sim.blk n _ hb).ex
          obtain ⟨rr1, rr2⟩ := rowC_rep hrc g5
          simp only [← Nat.add_assoc] at rr1
          simp only at g4 rr2
          obtain ⟨a1, a2, a3, a4, a5⟩ := setAgg_sound (cs' := #[]) h1' (paid_append.1 ho).1 hrep rr1 (by omega)
          obtain ⟨w', cs', r1, r2, r3, r4⟩ := hrun (off := (ρ n).sh + (b + o)) g1 (by omega) (g3 rfl) had2
          obtain ⟨_, _, _, _, a6⟩ := setAgg_sound (cs' := cs') h1' (paid_append.1 ho).1 hrep rr1 (by omega)
          have hrow : CRep ρ N c' (fun i => cs'[(ρ n).sh + b + i]?) := a6 fun j => by rw [r4 j]; simp [Value.cells, Nat.add_assoc]
          have hin := setAgg_in h1' (paid_append.1 ho).1 hrc rr1
          obtain ⟨p1, p2, p3⟩ := putC_rep hput hrc g5 a4 hrow (fun j hj => by rw [r4 j, if_neg (by omega)])
          refine ⟨w', r1, hi.store hb rfl g1 r2 r3 (c := bl.c) (by simp only at p2; omega) p3 (fun i bi h => ?_), by simp⟩
          rcases getName_set h with ⟨e1, e2⟩ | e
          · subst e2
            refine Or.inl ⟨e1, ?_⟩
            cases bi
            simp only at p1 ⊢
            rw [p1]
          · exact Or.inr e
        · cases h2
      · cases h
    · cases h
  · cases h
theorem srcA_sound {m : Mem} {k : IntKind} {x : AV} {vx : Value} {ob : List Bool} {s : Bool} {len : Nat} {l : List Int} (h : srcA m k x = some (ob, (s, len, l))) (ho : Paid ob) (hx : Rep ρ N x vx) (hs : Sim ρ N (getName m) w) :
    (Builtin.lenOf vx).run P w = .ok len w ∧ l.length = len ∧ (∀ x ∈ l, inR k x = true) ∧ ∀ n, n ≤ len → (Builtin.firstCells 1 n vx).run P w = .ok ((l.take n).map (Value.int k)).toArray w := by
  unfold srcA at h
  split at h
  · obtain ⟨_, he⟩ := pure_some h
    cases he
    cases hx
    exact ⟨rfl, rfl, (by intro x hx; cases hx), fun n _ => by simp [Builtin.firstCells]⟩
  · rename_i s' l'
    split at h
    · rename_i hk
      subst hk
      obtain ⟨_, he⟩ := pure_some h
      cases he
      cases hx with
      | str _ _ hl =>
      have hz : (mkStr l).size = l.length := by simp [mkStr, ByteArray.size]
      refine ⟨by simp [Builtin.lenOf, hz], rfl, fun x hx => by have := hl x hx; rw [inR_iff]; simp [lo, hi]; omega, fun n hn => ?_⟩
      simp only [Builtin.firstCells, Sem.run_pure]
      congr 1
      apply Array.ext'
      simp only [Array.toList_map]
      have : ((mkStr l).extract 0 n).data.toList = (l.take n).map fun x => UInt8.ofNat x.toNat := by
        simp [mkStr, ByteArray.data_extract, List.map_take]
      rw [this, List.map_map]
      apply List.map_congr_left
      intro y hy
      have := hl y (List.mem_of_mem_take hy)
      simp [UInt8.toNat_ofNat']
      omega
    · cases h
  · obtain ⟨ad, c, rfl, h2, h3, h4, h5⟩ := numsA_sound h ho hx hs
    refine ⟨rfl, h3, h5, fun n hn => ?_⟩
    exact run_firstCells_some (P := P) w 1 n ad len c ((l.take n).map (Value.int k)) (by simp; omega) fun j v hj => h4 j v (by
      have hlt : j < n := by have := (List.getElem?_eq_some_iff.1 hj).1; simp at this; omega
      rw [List.getElem?_map, List.getElem?_take_of_lt hlt] at hj
      rw [List.getElem?_map]; exact hj)
theorem copyA_sound {w0 : World} {S : Nat → Prop} {m m' : Mem} {t ty : TypeId} {ts : Array TypeId} {x y : AV} {vx vy : Value} {ob : List Bool} {av : AV} (h : copyA P m t x y = some (ob, (av, m'))) (ho : Paid ob) (hts : ts[0]? = some t)
    (hx : Rep ρ N x vx) (hy : Rep ρ N y vy) (hi : Inv w0 S N ρ (getName m) w) :
    ∃ v w', (Builtin.copy_ ts ty #[vx, vy]).run P w = .ok v w' ∧ Rep ρ N av v ∧ Inv w0 S N ρ (getName m') w' ∧ m'.length = m.length := by
  unfold copyA at h
  split at h
  · rename_i k hk
    obtain ⟨e, i, i1, i2, i3, i4, i5, i6⟩ := intRow_some hk
    split at h
    · obtain ⟨o1, ⟨sy, ly, l⟩, o2, g1, g2, rfl⟩ := bind_some h
      obtain ⟨_, he⟩ := pure_some g2
      cases he
      cases hx
      obtain ⟨s1, s2, s3, s4⟩ := srcA_sound (P := P) g1 (paid_append.1 ho).1 hy hi.sim
      refine ⟨.int .i64 0, w, ?_, .int _ _ _ (by decide), hi, rfl⟩
      have hmin : Nat.min ly 0 = 0 := Nat.min_zero _
      simp [Builtin.copy_, hts, run_underlying i1, s1, hmin, sizeOf, typeInfo, i3, i4, s4 0 (Nat.zero_le _), goInt]
    · split at h
      · rename_i sx lx hsl
        obtain ⟨o1, ⟨sy, ly, l⟩, o2, g1, g2, rfl⟩ := bind_some h
        obtain ⟨o3, ⟨⟩, o4, g3, g4, rfl⟩ := bind_some g2
        obtain ⟨o5, m1, o6, g5, g6, rfl⟩ := bind_some g4
        obtain ⟨_, he⟩ := pure_some g6
        cases he
        have hp := paid_append.1 ho
        have hp2 := paid_append.1 hp.2
        have hp3 := paid_append.1 hp2.2
        obtain ⟨s1, s2, s3, s4⟩ := srcA_sound (P := P) g1 hp.1 hy hi.sim
        have hlx := chk_some g3 hp2.1
        simp only [decide_eq_true_eq] at hlx
        obtain ⟨ad, c, rfl, hlc⟩ := sliceLen_some hsl hx
        have hm1 : Nat.min ly lx ≤ ly := Nat.min_le_left _ _
        have hm2 : Nat.min ly lx ≤ lx := Nat.min_le_right _ _
        obtain ⟨w', f1, f2, f3⟩ := fillA_sound (P := P) g5 hp3.1 hx (by rw [List.length_take]; omega) (fun z hz => s3 z (List.mem_of_mem_take hz)) hi rfl (by omega)
        refine ⟨.int .i64 (Nat.min ly lx : Nat), w', ?_, .int _ _ _ (by rw [inR_iff]; simp only [Ev.lo, Ev.hi]; omega), f2, f3⟩
        rw [List.map_take] at f1
        simp [Builtin.copy_, hts, run_underlying i1, s1, sizeOf, typeInfo, i3, i4, s4 _ hm1, f1, goInt]
      · cases h
  · cases h
theorem boolRow_some {t e : TypeId} (h : boolRow P t = some e) : ∃ i, P.underlying t = some (.slice e) ∧ P.underlying e = some .bool ∧ P.info? e = some i ∧ i.size = 1 ∧ i.bytes ≤ 8 := by
  unfold boolRow at h
  split at h
  · rename_i e' he
    split at h
    · rename_i i h1 h2
      split at h
      · rename_i h3
        cases h
        simp only [Bool.and_eq_true, decide_eq_true_eq] at h3
        exact ⟨i, he, h1, h2, h3.1, h3.2⟩
      · cases h
    · cases h
  · cases h
theorem copyF_sound {w0 : World} {S : Nat → Prop} {m m' : Mem} {t ty : TypeId} {ts : Array TypeId} {x y : AV} {vx vy : Value} {ob : List Bool} {av : AV} (h : copyF P m t x y = some (ob, (av, m'))) (hts : ts[0]? = some t)
    (hx : Rep ρ N x vx) (hy : Rep ρ N y vy) (hi : Inv w0 S N ρ (getName m) w) :
    ∃ v w', (Builtin.copy_ ts ty #[vx, vy]).run P w = .ok v w' ∧ Rep ρ N av v ∧ Inv w0 S N ρ (getName m') w' ∧ m'.length = m.length := by
  unfold copyF at h
  split at h
  · rename_i e nx lx cap1 ny oy ly cap2 hbr
    obtain ⟨i, i1, i2, i3, i4, i5⟩ := boolRow_some hbr
    split at h
    · rename_i n l0 rw2 n' l hb1 hb2
      split at h
      · rename_i hcond
        simp only [Bool.and_eq_true, decide_eq_true_eq] at hcond
        obtain ⟨⟨⟨⟨⟨c1, c0⟩, c2⟩, c3⟩, c4⟩, c5⟩ := hcond
        obtain ⟨_, he⟩ := pure_some h
        cases he
        subst c2
        cases hx with
        | slice _ _ _ _ _ _ cx adx hnx hcx hlx hwx hadx =>
        cases hy with
        | slice _ _ _ _ _ _ cy ady hny hcy hly hwy hady =>
        obtain ⟨cs1, t1, lo1, hi1, a1, a2, a3, a4, a5⟩ := (hi.sim.blk nx _ hb1).ex
        obtain ⟨cs2, t2, lo2, hi2, b1, b2, b3, b4, b5⟩ := (hi.sim.blk ny _ hb2).ex
        simp only [clen] at a4 b4
        have hq : ((l.drop oy).take lx).length = lx := by have := b5.1; simp; omega
        have hsrc : (Builtin.firstCells 1 lx (.slice (some ady) lx cy)).run P w = .ok (((l.drop oy).take lx).map Value.bool).toArray w := by
          refine run_firstCells_some (P := P) w 1 lx ady lx cy _ (by simp; have := b5.1; omega) fun j v hj => ?_
          rw [List.getElem?_map] at hj
          cases hz : ((l.drop oy).take lx)[j]? with
          | none => simp [hz] at hj
          | some z =>
            simp [hz] at hj
            subst hj
            have hjl : j < lx := by have := (List.getElem?_eq_some_iff.1 hz).1; omega
            rw [List.getElem?_take_of_lt hjl, List.getElem?_drop] at hz
            have := b5.2 _ z hz
            rw [hady (by omega), addr_add, cell_row b1, Nat.add_assoc]
            exact this
        have one : ∀ v ∈ ((l.drop oy).take lx).map Value.bool, v.oneCell' = true := by
          intro v hv
          obtain ⟨x, _, rfl⟩ := List.mem_map.1 hv
          rfl
        obtain ⟨w', cs', r1, r2, r3, r4⟩ := run_storeCells (P := P) (off := (ρ nx).sh) (((l.drop oy).take lx).map Value.bool) 0 w cs1 a1 (by rw [List.length_map, hq]; omega) (a3 rfl) one
        have hst : (storeCells adx (((l.drop oy).take lx).map Value.bool) 0).run P w = .ok () w' := by
          rw [hadx (by omega)]; exact r1
        have hmin : Nat.min lx lx = lx := Nat.min_self lx
        refine ⟨.int .i64 (lx : Nat), w', ?_, .int _ _ _ (by rw [inR_iff]; simp only [Ev.lo, Ev.hi]; omega), hi.store hb1 rfl a1 r2 r3 (c := .bools n ((l.drop oy).take lx)) (by simp only [clen]; omega) ⟨by omega, fun j z hz => ?_⟩ (fun i bi h => getName_set h), by simp⟩
        · rw [List.map_take, List.map_drop] at hst
          simp [Builtin.copy_, hts, run_underlying i1, Builtin.lenOf, sizeOf, typeInfo, i3, i4, hsrc, hst, goInt]
        · have hjl : j < lx := by have := (List.getElem?_eq_some_iff.1 hz).1; omega
          show cs'[(ρ nx).sh + j]? = _
          rw [r4]
          rw [if_pos (by rw [List.length_map, hq]; omega), show (ρ nx).sh + j - ((ρ nx).sh + 0) = j by omega, List.getElem?_map, hz]
          rfl
      · cases h
    · cases h
  · cases h
theorem copyB_sound {w0 : World} {S : Nat → Prop} {m m' : Mem} {t ty : TypeId} {ts : Array TypeId} {x y : AV} {vx vy : Value} {ob : List Bool} {av : AV} (h : copyB P m t x y = some (ob, (av, m'))) (ho : Paid ob) (hts : ts[0]? = some t)
    (hx : Rep ρ N x vx) (hy : Rep ρ N y vy) (hi : Inv w0 S N ρ (getName m) w) :
    ∃ v w', (Builtin.copy_ ts ty #[vx, vy]).run P w = .ok v w' ∧ Rep ρ N av v ∧ Inv w0 S N ρ (getName m') w' ∧ m'.length = m.length := by
  unfold copyB at h
  split at h
  · rename_i hA
    cases h
    exact copyA_sound hA ho hts hx hy hi
  · exact copyF_sound h hts hx hy hi
theorem clearA_sound {w0 : World} {S : Nat → Prop} {m m' : Mem} {t ty : TypeId} {ts : Array TypeId} {x : AV} {vx : Value} {ob : List Bool} {av : AV} (h : clearA P m t x = some (ob, (av, m'))) (ho : Paid ob) (hts : ts[0]? = some t)
    (hx : Rep ρ N x vx) (hi : Inv w0 S N ρ (getName m) w) :
    ∃ v w', (Builtin.clear_ ts ty #[vx]).run P w = .ok v w' ∧ Rep ρ N av v ∧ Inv w0 S N ρ (getName m') w' ∧ m'.length = m.length := by
  unfold clearA at h
  split at h
  · rename_i k hk
    obtain ⟨e, i, i1, i2, i3, i4, i5, i6⟩ := intRow_some hk
    split at h
    · obtain ⟨_, he⟩ := pure_some h
      cases he
      cases hx
      exact ⟨.tuple #[], w, by simp [Builtin.clear_, hts, run_underlying i1], .tuple [] [] .nil, hi, rfl⟩
    · split at h
      · rename_i sx lx hsl
        obtain ⟨o5, m1, o6, g5, g6, rfl⟩ := bind_some h
        obtain ⟨_, he⟩ := pure_some g6
        cases he
        obtain ⟨ad, c, rfl, hlc⟩ := sliceLen_some hsl hx
        obtain ⟨w', f1, f2, f3⟩ := fillA_sound (P := P) g5 (paid_append.1 ho).1 hx (by simp) (fun z hz => by rw [List.eq_of_mem_replicate hz]; cases k <;> decide) hi rfl hlc
        have hz : ((Builtin.zeroCells (Value.int k 0).cells lx).toList) = (List.replicate lx 0).map (Value.int k) := by
          apply List.ext_getElem?
          intro j
          by_cases hj : j < lx
          · simp [Builtin.zeroCells, Value.cells, hj, Nat.mod_one]
          · simp [Builtin.zeroCells, Value.cells, hj]
        refine ⟨.tuple #[], w', ?_, .tuple [] [] .nil, f2, f3⟩
        cases lx with
        | zero =>
          simp [storeCells] at f1
          subst f1
          simp [Builtin.clear_, hts, run_underlying i1]
        | succ lx =>
          rw [← hz] at f1
          simp [Builtin.clear_, hts, run_underlying i1, zeroValue, typeInfo, i3, i6, f1]
      · cases h
  · cases h
theorem makeA_sound {w0 : World} {S : Nat → Prop} {m m' : Mem} {t : TypeId} {x y : AV} {vx vy : Value} {ob : List Bool} {av : AV} (h : makeA P m t x y = some (ob, (av, m'))) (ho : Paid ob)
    (hx : Rep ρ (upto m.length) x vx) (hy : Rep ρ (upto m.length) y vy) (hi : Inv w0 S (upto m.length) ρ (getName m) w) :
    m.length ≤ m'.length ∧ ∃ v w' ρ', (Instr.makeSlice t vx vy).run P w = .ok v w' ∧ Rep ρ' (upto m'.length) av v ∧ Inv w0 S (upto m'.length) ρ' (getName m') w' ∧ Agr ρ ρ' (upto m.length) := by
  have hfresh : ¬ upto m.length m.length := by simp [upto]
  unfold makeA at h
  split at h
  · rename_i k s ka a s' kb b hk
    obtain ⟨e, i, i1, i2, i3, i4, i5, i6⟩ := intRow_some hk
    obtain ⟨hc, o2, h2, _⟩ := chk_bind h ho
    obtain ⟨_, he⟩ := pure_some h2
    cases he
    simp only [Bool.and_eq_true, decide_eq_true_eq] at hc
    obtain ⟨⟨c1, c2⟩, c3⟩ := hc
    cases hx
    cases hy
    have hbytes : (i.bytes : Int) * b ≤ 281474976710656 ∧ b ≤ 281474976710656 := by
      unfold mostMake at c3
      rw [i1] at c3
      simp only [i3] at c3
      split at c3
      · rename_i h1
        have h1' := of_decide_eq_true h1
        rw [h1']
        omega
      · have h1 : (i.bytes : Int) * b ≤ 8 * b := Int.mul_le_mul_of_nonneg_right (by omega) (by omega)
        omega
    have hr := run_make (P := P) w t e i (.int k 0) i1 i3 i6 ka kb a b c1 c2 hbytes.1 (by omega)
    rw [i4, Nat.mul_one] at hr
    have hcells : ∀ j, j < b.toNat → (madeCells (Value.int k 0).cells b.toNat)[j]? = some (.int k 0) := fun j hj => by simp [madeCells, Value.cells, hj, Nat.mod_one]
    have hcr : CRep ρ (upto m.length) (.ints k (szIf (s || s') b.toNat) (List.replicate b.toNat 0)) (fun j => (madeCells (Value.int k 0).cells b.toNat)[j]?) :=
      ints_crep (by simp) (fun z hz => by rw [List.eq_of_mem_replicate hz]; cases k <;> decide) fun j z hz => by
        have hlt : j < b.toNat := by have := (List.getElem?_eq_some_iff.1 hz).1; simpa using this
        have : z = 0 := List.eq_of_mem_replicate (List.mem_of_getElem? hz)
        subst this
        exact hcells j hlt
    have hinv := hi.alloc (rw := true) (N' := upto (m ++ [some (Blk.mk true (.ints k (szIf (s || s') b.toNat) (List.replicate b.toNat 0)))]).length) hfresh e hcr (by rw [ints_clen (by simp), size_madeCells]; exact Nat.le_refl _) (fun i hi => by simp [upto] at *; omega) (by simp [upto]) new_name
    refine ⟨by simp, _, _, _, hr, ?_, hinv, bump_agr hfresh⟩
    refine .slice (s || s') m.length 0 a.toNat _ 1 b.toNat _ (by simp [upto]) (fun c' h => ?_) (by omega) ?_ fun _ => ?_
    · unfold capM at h
      split at h
      · cases h; rfl
      · split at h
        · cases h
        · split at h
          · cases h; rfl
          · cases h
    · rw [bump_at, size_madeCells]; show 0 + b.toNat * 1 ≤ b.toNat; omega
    · rw [bump_at]
  · cases h
theorem bytesA_sound {w0 : World} {S : Nat → Prop} {m m' : Mem} {src dst e : TypeId} {x : AV} {vx : Value} {ob : List Bool} {av : AV} (h : bytesA m x = some (ob, (av, m'))) (h1 : P.underlying src = some .string) (h2 : P.underlying dst = some (.slice e)) (h3 : P.underlying e = some (.int .u8))
    (hx : Rep ρ (upto m.length) x vx) (hi : Inv w0 S (upto m.length) ρ (getName m) w) :
    m.length ≤ m'.length ∧ ∃ v w' ρ', (convert src dst vx).run P w = .ok v w' ∧ Rep ρ' (upto m'.length) av v ∧ Inv w0 S (upto m'.length) ρ' (getName m') w' ∧ Agr ρ ρ' (upto m.length) := by
  have hfresh : ¬ upto m.length m.length := by simp [upto]
  unfold bytesA at h
  split at h
  · rename_i s l
    obtain ⟨_, he⟩ := pure_some h
    cases he
    cases hx with
    | str _ _ hl =>
    have hr := run_bytes_of_string (P := P) w src dst e (mkStr l) h1 h2 h3
    have hz : (mkStr l).size = l.length := by simp [mkStr, ByteArray.size]
    have hge := grownCap_ge w (mkStr l).size 0 e
    generalize hG : grownCap w (mkStr l).size 0 e = G at hr hge
    have hsize : (bytesRow (mkStr l) G).size = G := by simp [bytesRow, mkStr, ByteArray.size] at hge ⊢; omega
    have hcr : CRep ρ (upto m.length) (.ints .u8 (szIf s l.length) l) (fun j => (bytesRow (mkStr l) G)[j]?) :=
      ints_crep rfl (fun z hz => by have := hl z hz; rw [inR_iff]; simp [lo, Ev.hi]; omega) fun j z hz => by
        have hlt : j < l.length := (List.getElem?_eq_some_iff.1 hz).1
        have hb := hl z (List.mem_of_getElem? hz)
        simp only [bytesRow]
        rw [Array.getElem?_append_left (by simpa [mkStr] using hlt)]
        simp [mkStr, hz, UInt8.toNat_ofNat']
        omega
    have hinv := hi.drew.allocF (rw := true) (N' := upto (m ++ [some (Blk.mk true (.ints .u8 (szIf s l.length) l))]).length) hfresh e ((bytesRow (mkStr l) G).size, (bytesRow (mkStr l) G).size + 1) (fun o ho => by simp; omega) hcr (by rw [ints_clen rfl, hsize]; omega) (fun i hi => by simp [upto] at *; omega) (by simp [upto]) new_name
    refine ⟨by simp, _, _, _, hr, ?_, hinv, bump_agr hfresh⟩
    rw [hz]
    refine .slice s m.length 0 l.length none 1 G _ (by simp [upto]) (fun c' h => by cases h) (by omega) ?_ fun _ => ?_
    · rw [bump_at, hsize]; show 0 + G * 1 ≤ G; omega
    · rw [bump_at]; rfl
  · cases h
theorem Inv.frz {w0 : World} {S : Nat → Prop} {N : Nat → Prop} {ρ : Nat → Loc3} {g g' : Nat → Option Blk} {w w' : World} (h : Inv w0 S N ρ g w) {n : Nat} {b : Blk} (hn : g n = some b) (hrw : b.rw = true)
    {cs : Array Value} {t : TypeId} {fr fr' : Nat × Nat} (hb : w.heap[(ρ n).b]? = some (.cells cs t fr)) (hst : Stored w w' (ρ n).b cs t fr')
    (hg : ∀ i bi, g' i = some bi → (i = n ∧ bi = ⟨false, b.c⟩) ∨ (i ≠ n ∧ g i = some bi)) :
    Inv w0 S N ρ g' w' := by
  have hnG : ∀ G c, Held G c → G ≠ (ρ n).b := fun G c hG e => h.sim.apart G c hG n b hn hrw e.symm
  refine ⟨⟨?_, ?_, ?_, h.sim.tab.same fun G c hG _ => hst.others G (hnG G c hG), fun G c hG i bi hi hr => ?_⟩, by rw [hst.size]; exact h.size, ?_, hst.os.trans h.os, hst.tape.trans h.tape, hst.output.trans h.output, ?_⟩
  rotate_left 3
  · rcases hg _ _ hi with ⟨rfl, rfl⟩ | ⟨_, hi⟩
    · cases hr
    · exact h.sim.apart G c hG i bi hi hr
  rotate_right 3
  · intro i bi hi
    rcases hg _ _ hi with ⟨rfl, rfl⟩ | ⟨hne, hi⟩
    · obtain ⟨cs0, t0, lo, hi0, h1, h2, h3, h4, h5⟩ := (h.sim.blk i b hn).ex
      rw [hb] at h1
      cases h1
      exact ⟨cs, t, fr'.1, fr'.2, hst.at', h2, fun hr => (by cases hr), h4, h5⟩
    · obtain ⟨cs0, t0, lo, hi0, h1, h2, h3, h4, h5⟩ := (h.sim.blk i bi hi).ex
      exact ⟨cs0, t0, lo, hi0, by rw [hst.others _ (h.sim.inj n i b bi hn hi (Ne.symm hne) hrw).symm]; exact h1, h2, h3, h4, h5⟩
  · intro i j bi bj hi hj hij hr
    rcases hg _ _ hi with ⟨e1, e2⟩ | ⟨_, hi'⟩
    · subst e2; cases hr
    · rcases hg _ _ hj with ⟨e3, e4⟩ | ⟨_, hj'⟩
      · subst e3; exact h.sim.inj i j bi b hi' hn hij hr
      · exact h.sim.inj i j bi bj hi' hj' hij hr
  · intro i bi hi
    rcases hg _ _ hi with ⟨rfl, rfl⟩ | ⟨_, hi⟩
    · exact h.sim.live i b hn
    · exact h.sim.live i bi hi
  · intro i hi hS
    by_cases hib : i = (ρ n).b
    · subst hib
      rcases h.rws n b hn hrw with hs | hs
      · exact absurd hs hS
      · omega
    · rw [hst.others i hib]; exact h.frame i hi hS
  · intro i bi hi hr
    rcases hg _ _ hi with ⟨rfl, rfl⟩ | ⟨_, hi⟩
    · cases hr
    · exact h.rws i bi hi hr
theorem freeze_stored {w : World} {b k : Nat} {cs : Array Value} {t : TypeId} {fr : Nat × Nat} (hb : w.heap[b]? = some (.cells cs t fr)) : ∃ fr', Stored w (w.freeze ⟨b, k, none⟩ 1) b cs t fr' := by
  obtain ⟨lo, hi⟩ := fr
  refine ⟨if lo == hi then (k, k + 1) else (min lo k, max hi (k + 1)), ?_, ?_, ?_, ?_, ?_, ?_⟩
  · unfold World.freeze
    rw [if_neg (by decide)]
    simp [Array.getElem?_modify, hb]
  · intro i hi
    unfold World.freeze
    rw [if_neg (by decide)]
    simp [Array.getElem?_modify, Ne.symm hi]
  · unfold World.freeze
    rw [if_neg (by decide)]
    simp
  all_goals
    unfold World.freeze
    rw [if_neg (by decide)]
theorem markA_sound {w0 : World} {S : Nat → Prop} {m m' : Mem} {t e : TypeId} {x : AV} {vx : Value} {ob : List Bool} {av : AV} (h : markA m x = some (ob, (av, m'))) (h1 : P.underlying t = some (.slice e)) (h2 : P.underlying e = some (.int .u8))
    (hx : Rep ρ (upto m.length) x vx) (hi : Inv w0 S (upto m.length) ρ (getName m) w) :
    m.length ≤ m'.length ∧ ∃ v w' ρ', (convert t t vx).run P w = .ok v w' ∧ Rep ρ' (upto m'.length) av v ∧ Inv w0 S (upto m'.length) ρ' (getName m') w' ∧ Agr ρ ρ' (upto m.length) := by
  unfold markA at h
  split at h
  · rename_i s n o len cap
    split at h
    · rename_i c hb
      obtain ⟨_, he⟩ := pure_some h
      cases he
      have hx' := hx
      cases hx with
      | slice _ _ _ _ _ _ c' ad hn hc hl hw had =>
      obtain ⟨cs, t', lo', hi', q1, q2, q3, q4, q5⟩ := (hi.sim.blk n _ hb).ex
      have had' := had (by omega)
      have hblk : ad.block = (ρ n).b := by rw [had']
      have hsh : w.shape? ad.block = some (t', cs.size) := by
        unfold World.shape?
        rw [hblk, q1]
      have hr : (convert t t (.slice (some ad) (len + 1) c')).run P w = .ok (.slice (some ad) (len + 1) c') (w.freeze ⟨ad.block, cs.size, none⟩ 1) := by
        simp [convert, run_underlying h1, run_underlying h2, markStringish, hsh]
      obtain ⟨fr', hst⟩ := freeze_stored (k := cs.size) q1
      refine ⟨by simp, _, _, ρ, hr, ?_, ?_, fun _ _ => rfl⟩
      · have e1 : (m.set n (some ⟨false, c⟩)).length = m.length := List.length_set ..
        rw [e1]; exact hx'
      · have e1 : (m.set n (some ⟨false, c⟩)).length = m.length := List.length_set ..
        rw [e1, hblk]
        refine hi.frz hb rfl q1 hst fun i bi hg => ?_
        rcases getName_set hg with ⟨e2, e3⟩ | e4
        · exact Or.inl ⟨e2, e3⟩
        · exact Or.inr e4
    · cases h
  · cases h
theorem markA_le {m m' : Mem} {x : AV} {ob : List Bool} {av : AV} (h : markA m x = some (ob, (av, m'))) : m.length ≤ m'.length := by
  unfold markA at h
  split at h
  · split at h
    · obtain ⟨_, he⟩ := pure_some h
      cases he; simp
    · cases h
  · cases h
theorem fillA_le {m m' : Mem} {k : IntKind} {x : AV} {s : Bool} {cnt : Nat} {xs : List Int} {ob : List Bool} (h : fillA m k x s cnt xs = some (ob, m')) : m.length ≤ m'.length := by
  unfold fillA at h
  split at h
  · split at h
    · obtain ⟨o1, c', o2, h1, h2, rfl⟩ := bind_some h
      obtain ⟨_, rfl⟩ := pure_some h2
      simp
    · cases h
  · split at h
    · split at h
      · obtain ⟨o1, c', o2, h1, h2, rfl⟩ := bind_some h
        split at h2
        · obtain ⟨_, rfl⟩ := pure_some h2
          simp
        · cases h2
      · cases h
    · cases h
  · cases h
theorem copyA_le {m m' : Mem} {t : TypeId} {x y : AV} {ob : List Bool} {av : AV} (h : copyA P m t x y = some (ob, (av, m'))) : m.length ≤ m'.length := by
  unfold copyA at h
  split at h
  · split at h
    · obtain ⟨o1, a, o2, g1, g2, rfl⟩ := bind_some h
      obtain ⟨_, he⟩ := pure_some g2
      cases he; exact Nat.le_refl _
    · split at h
      · obtain ⟨o1, a, o2, g1, g2, rfl⟩ := bind_some h
        obtain ⟨o3, ⟨⟩, o4, g3, g4, rfl⟩ := bind_some g2
        obtain ⟨o5, m1, o6, g5, g6, rfl⟩ := bind_some g4
        obtain ⟨_, he⟩ := pure_some g6
        cases he; exact fillA_le g5
      · cases h
  · cases h
theorem copyB_le {m m' : Mem} {t : TypeId} {x y : AV} {ob : List Bool} {av : AV} (h : copyB P m t x y = some (ob, (av, m'))) : m.length ≤ m'.length := by
  unfold copyB at h
  split at h
  · rename_i hA
    cases h
    exact copyA_le hA
  · unfold copyF at h
    split at h
    · split at h
      · split at h
        · obtain ⟨_, he⟩ := pure_some h
          cases he
          simp
        · cases h
      · cases h
    · cases h
theorem clearA_le {m m' : Mem} {t : TypeId} {x : AV} {ob : List Bool} {av : AV} (h : clearA P m t x = some (ob, (av, m'))) : m.length ≤ m'.length := by
  unfold clearA at h
  split at h
  · split at h
    · obtain ⟨_, he⟩ := pure_some h
      cases he; exact Nat.le_refl _
    · split at h
      · obtain ⟨o5, m1, o6, g5, g6, rfl⟩ := bind_some h
        obtain ⟨_, he⟩ := pure_some g6
        cases he; exact fillA_le g5
      · cases h
  · cases h
theorem makeA_le {m m' : Mem} {t : TypeId} {x y : AV} {ob : List Bool} {av : AV} (h : makeA P m t x y = some (ob, (av, m'))) : m.length ≤ m'.length := by
  unfold makeA at h
  split at h
  · obtain ⟨o1, ⟨⟩, o2, h1, h2, rfl⟩ := bind_some h
    obtain ⟨_, he⟩ := pure_some h2
    cases he; simp
  · cases h
theorem bytesA_le {m m' : Mem} {x : AV} {ob : List Bool} {av : AV} (h : bytesA m x = some (ob, (av, m'))) : m.length ≤ m'.length := by
  unfold bytesA at h
  split at h
  · obtain ⟨_, he⟩ := pure_some h
    cases he; simp
  · cases h
theorem isV_not {m m' : Mem} {ev : Operand → AV} {op : Op} {ob : List Bool} {av : AV} (hv : isV P op = false) (h : opA P ev m op = some (ob, (av, m'))) (h1 : ∀ t, op ≠ .alloc t) (h2 : ∀ t x, op ≠ .box t x) (h3 : ∀ t a x, op ≠ .store t a x) : m.length ≤ m'.length := by
  cases op <;> simp [isV] at hv
  case alloc t => exact absurd rfl (h1 t)
  case box t x => exact absurd rfl (h2 t x)
  case store t a x => exact absurd rfl (h3 t a x)
  case buildSlice t len parts => exact sliceOfB_le h
  case makeSlice t x y => exact makeA_le h
  case convert s d x =>
    unfold opA at h
    simp only at h
    split at h
    · split at h
      · split at h
        · exact bytesA_le h
        · cases h
      · split at h
        · exact markA_le h
        · cases h
      · cases h
    · rename_i hne
      split at hv
      · rename_i e h1; exact (hne _ h1).elim
      · cases hv
  case call c =>
    obtain ⟨callee, args, argTypes⟩ := c
    cases callee with
    | value f => simp [isVc] at hv
    | invoke r n => simp [isVc] at hv
    | builtin b =>
      cases b <;> simp [isVc] at hv
      all_goals
        unfold opA at h
        simp only at h
        split at h
        · first | exact appendB_le h | exact copyB_le h | exact clearA_le h
        · cases h
theorem opA_sound {w0 : World} {S : Nat → Prop} {m m' : Mem} {ev : Operand → AV} {rv : Operand → Value} {o : Oper} {ob : List Bool} {av : AV} (h : opA P ev m o.op = some (ob, (av, m'))) (ho : Paid ob)
    (hev : ∀ x, Rep ρ (upto m.length) (ev x) (rv x)) (hi : Inv w0 S (upto m.length) ρ (getName m) w) : Ran P w0 S ρ m w (execOp rv o) av m' := by
  by_cases hv : isV P o.op = true
  · obtain ⟨rfl, v, h1, h2⟩ := opV_sound h ho hv hev hi.sim
    exact ⟨⟨v, w, ρ, Or.inl h1, h2, hi, fun _ _ => rfl⟩, Nat.le_refl _⟩
  · have hfresh : ¬ upto m.length m.length := by simp [upto]
    have hmono : ∀ {x : Option Blk} (i : Nat), upto m.length i → upto (m ++ [x]).length i := fun i hi => by simp [upto] at *; omega
    cases hop : o.op <;> rw [hop] at hv <;> simp [isV] at hv <;> rw [hop] at h <;> unfold opA at h <;> simp only at h
    case alloc t =>
      split at h
      · rename_i z hz
        obtain ⟨_, he⟩ := pure_some h
        cases he
        obtain ⟨cs, r1, c1, c2⟩ := zero_run (ρ := ρ) (N := upto m.length) (w := w) hz o hop rv
        have := hi.alloc (rw := true) (N' := upto (m ++ [some (Blk.mk true (toCells z))]).length) hfresh t c1 c2 (fun i => hmono i) (by simp [upto]) new_name
        refine ⟨⟨_, _, _, Or.inl r1, ?_, this, bump_agr hfresh⟩, by simp⟩
        have hp := Rep.ptr (ρ := bump ρ m.length ⟨w.heap.size, 0, cs.size⟩) (N := upto (m ++ [some (Blk.mk true (toCells z))]).length) false m.length 0 (by simp [upto])
        rwa [bump_at] at hp
      · cases h
    case box t x =>
      split at h
      · rename_i hal
        obtain ⟨_, he⟩ := pure_some h
        cases he
        obtain ⟨c1, c2⟩ := toCells_rep (hev x) hal
        have := hi.alloc (rw := true) (N' := upto (m ++ [some (Blk.mk true (toCells (ev x)))]).length) hfresh t c1 c2 (fun i => hmono i) (by simp [upto]) new_name
        refine ⟨⟨_, _, _, Or.inl (box_run o hop rv), ?_, this, bump_agr hfresh⟩, by simp⟩
        have hp := Rep.ptr (ρ := bump ρ m.length ⟨w.heap.size, 0, (rv x).cells.size⟩) (N := upto (m ++ [some (Blk.mk true (toCells (ev x)))]).length) false m.length 0 (by simp [upto])
        rwa [bump_at] at hp
      · cases h
    case store t a x =>
      obtain ⟨o1, c, o2, g1, g2, rfl⟩ := bind_some h
      obtain ⟨_, he⟩ := pure_some g2
      cases he
      obtain ⟨w', h1, h2, h3⟩ := storeA_sound g1 (paid_append.1 ho).1 (hev a) (hev x) hi
      exact ⟨⟨undef, w', ρ, Or.inr ⟨by simp [execOp, hop, h1], rfl⟩, .tuple [] [] .nil, by rw [h3]; exact h2, fun _ _ => rfl⟩, by omega⟩
    case makeSlice t x y =>
      obtain ⟨h5, v, w', ρ', g1, g2, g3, g4⟩ := makeA_sound h ho (hev x) (hev y) hi
      exact ⟨⟨v, w', ρ', Or.inl (by simp [execOp, hop, g1]), g2, g3, g4⟩, h5⟩
    case convert s d x =>
      split at h
      · rename_i e h2
        split at h
        · rename_i h1
          split at h
          · rename_i hk
            simp only [Bool.and_eq_true] at hk
            obtain ⟨h5, v, w', ρ', g1, g2, g3, g4⟩ := bytesA_sound h h1 h2 (isK_spec hk.1) (hev x) hi
            exact ⟨⟨v, w', ρ', Or.inl (by simp [execOp, hop, g1]), g2, g3, g4⟩, h5⟩
          · cases h
        · rename_i e1 h1
          split at h
          · rename_i hk
            simp only [Bool.and_eq_true] at hk
            obtain rfl := Nat.eq_of_beq_eq_true hk.1
            obtain ⟨h5, v, w', ρ', g1, g2, g3, g4⟩ := markA_sound h h2 (isK_spec hk.2) (hev x) hi
            exact ⟨⟨v, w', ρ', Or.inl (by simp [execOp, hop, g1]), g2, g3, g4⟩, h5⟩
          · cases h
        · cases h
      · rename_i hne
        split at hv
        · rename_i e h1; exact (hne _ h1).elim
        · cases hv
    case buildSlice t len parts =>
      obtain ⟨h5, v, w', ρ', g1, g2, g3, g4⟩ := sliceOfB_sound (vparts := parts.map fun (i, x) => (i, rv x)) h (by simp) (by
        have : ∀ l : List (Nat × Operand), Reps ρ (upto m.length) ((l.map fun (i, x) => (i, ev x)).map (·.2)) ((l.map fun (i, x) => (i, rv x)).map (·.2)) := by
          intro l
          induction l with
          | nil => exact .nil
          | cons p l ih => exact .cons _ _ _ _ (hev p.2) ih
        simpa using this parts.toList) hi
      exact ⟨⟨v, w', ρ', Or.inl (by simp [execOp, hop, g1]), g2, g3, g4⟩, h5⟩
    case call c =>
      obtain ⟨callee, args, argTypes⟩ := c
      cases callee with
      | value f => simp [isVc] at hv
      | invoke r n => simp [isVc] at hv
      | builtin b =>
        cases b <;> simp [isVc] at hv <;> simp only at h
        case copy =>
          split at h
          · rename_i t r x y ht hx
            have hx' : args = #[x, y] := Array.ext' (by simpa using hx)
            subst hx'
            obtain ⟨v, w', g1, g2, g3, g4⟩ := copyB_sound (ty := o.type) (ts := argTypes) h ho (by rw [← Array.getElem?_toList, ht]; rfl) (hev x) (hev y) hi
            refine ⟨⟨v, w', ρ, Or.inl ?_, by rw [g4]; exact g2, by rw [g4]; exact g3, fun _ _ => rfl⟩, by omega⟩
            have : execOp rv o = (do pure (.value (← Builtin.copy_ argTypes o.type (#[x, y].map rv))) : Sem Next) := by obtain ⟨dst, op, type, pos, after, guard⟩ := o; simp only at hop; subst hop; rfl
            rw [this]
            simp [g1]
          · cases h
        case clear =>
          split at h
          · rename_i t r x ht hx
            have hx' : args = #[x] := Array.ext' (by simpa using hx)
            subst hx'
            obtain ⟨v, w', g1, g2, g3, g4⟩ := clearA_sound (ty := o.type) (ts := argTypes) h ho (by rw [← Array.getElem?_toList, ht]; rfl) (hev x) hi
            refine ⟨⟨v, w', ρ, Or.inl ?_, by rw [g4]; exact g2, by rw [g4]; exact g3, fun _ _ => rfl⟩, by omega⟩
            have : execOp rv o = (do pure (.value (← Builtin.clear_ argTypes o.type (#[x].map rv))) : Sem Next) := by obtain ⟨dst, op, type, pos, after, guard⟩ := o; simp only at hop; subst hop; rfl
            rw [this]
            simp [g1]
          · cases h
        split at h
        · rename_i t t' s x ht hx
          have ht' : argTypes = #[t, t'] := Array.ext' (by simpa using ht)
          have hx' : args = #[s, x] := Array.ext' (by simpa using hx)
          subst ht' hx'
          obtain ⟨h5, v, w', ρ', g1, g2, g3, g4⟩ := appendB_sound h ho (hev s) (hev x) hi o.type
          refine ⟨⟨v, w', ρ', Or.inl ?_, g2, g3, g4⟩, h5⟩
          have : execOp rv o = (do pure (.value (← Builtin.append_ #[t, t'] o.type (#[s, x].map rv))) : Sem Next) := by obtain ⟨dst, op, type, pos, after, guard⟩ := o; simp only at hop; subst hop; rfl
          rw [this]
          simp [g1]
        · cases h
end
end Go.Ev
