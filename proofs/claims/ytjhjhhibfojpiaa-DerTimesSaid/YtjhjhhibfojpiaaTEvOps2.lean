/- Each plain operation of the evaluator is the model's: addresses, parts, calls of len. Own work. -/
import Derived.Test.YtjhjhhibfojpiaaTEvOps
set_option linter.unusedSimpArgs false
set_option linter.unusedVariables false
set_option linter.unusedSectionVars false
namespace Go.Ev
set_option linter.unusedSectionVars false
section
variable [Tab] {P : Program} {ρ : Nat → Loc3} {N : Nat → Prop} {w : World}

theorem inR_u8 {x : Int} (h : inR .u8 x = true) : 0 ≤ x ∧ x < 256 := by
  rw [inR_iff] at h; simp [lo, hi] at h; omega

theorem bytes_loop (msg : String) : ∀ (l : List Int) (s : ByteArray), (∀ x ∈ l, inR .u8 x = true) →
    (forIn (l.map (Value.int .u8)) s fun c (s : ByteArray) =>
      match c with
      | .int .u8 n => pure (ForInStep.yield (s.push (UInt8.ofNat n.toNat)))
      | _ => do
        stuck msg
        pure (ForInStep.yield s) : Sem ByteArray).run P w = .ok ⟨(s.data.toList ++ l.map fun x => UInt8.ofNat x.toNat).toArray⟩ w
  | [], s, _ => by simp
  | x :: l, s, h => by
    have ih := bytes_loop msg l (s.push (UInt8.ofNat x.toNat)) (fun y hy => h y (by simp [hy]))
    simp only [List.map_cons, List.forIn_cons, Sem.run_bind, Sem.run_pure, Result.andThen_ok]
    rw [ih]
    simp [ByteArray.push]

theorem run_bytesToString {a : Addr} {len c : Nat} {l : List Int} (hl : l.length = len) (hcell : ∀ (j : Nat) (v : Value), (l.map (Value.int .u8))[j]? = some v → w.cell? (a.add j) = some v)
    (hr : ∀ x ∈ l, inR .u8 x = true) : (Conv.bytesToString (.slice (some a) len c)).run P w = .ok (.string (mkStr l)) w := by
  have h1 := run_loadCells_list (P := P) w a (l.map (Value.int .u8)) hcell
  rw [List.length_map, hl] at h1
  have h2 := fun msg => bytes_loop (P := P) (w := w) msg l ByteArray.empty hr
  unfold Conv.bytesToString
  simp only [Sem.run_bind, h1, Result.andThen_ok, List.forIn_toArray, Sem.run_pure]
  refine (congrArg (fun r : Result ByteArray => r.andThen fun a w' => Result.ok (Value.string a) w') (h2 _)).trans ?_
  rfl

theorem convA_sound {m : Mem} {src dst : TypeId} {x : AV} {vx : Value} {ob : List Bool} {av : AV} (h : convA P m src dst x = some (ob, av)) (ho : Paid ob)
    (hx : Rep ρ N x vx) (hs : Sim ρ N (getName m) w) : ∃ v, (convert src dst vx).run P w = .ok v w ∧ Rep ρ N av v := by
  unfold convA at h
  split at h
  · rename_i d1 k s k' n h1 h2
    cases hx
    obtain ⟨_, rfl⟩ := pure_some h
    exact ⟨_, by simp only [convert, Sem.run_bind, run_underlying h1, run_underlying h2, Result.andThen_ok]; rfl, .int _ _ _ (inR_wrap _ _)⟩
  · rename_i e s n o len cap es h1 h2
    cases hx with
    | slice _ _ _ _ _ _ c ad hn hc hl hw had =>
    split at h
    · rename_i b h3 hb
      obtain ⟨o1, l, o2, g1, g2, rfl⟩ := bind_some h
      obtain ⟨_, rfl⟩ := pure_some g2
      obtain ⟨cs, t', lo', hi', q1, q2, q3, q4, q5⟩ := (hs.blk n b hb).ex
      obtain ⟨r1, r2, r3⟩ := getNums_sound g1 (paid_append.1 ho).1 q5
      refine ⟨_, ?_, .str _ _ fun x hx => inR_u8 (r3 x hx)⟩
      simp only [convert, Sem.run_bind, run_underlying h1, run_underlying h2, run_underlying h3, Result.andThen_ok]
      refine run_bytesToString r1 (fun j v hj => ?_) r3
      have hlt : j < len := by have := (List.getElem?_eq_some_iff.1 hj).1; simp at this; omega
      rw [had (by omega), addr_add, cell_row q1, Nat.add_assoc]
      simp at hj
      obtain ⟨y, hy, rfl⟩ := hj
      exact r2 j y hy
    · rename_i h3 hb
      split at h
      · obtain ⟨_, rfl⟩ := pure_some h
        refine ⟨_, ?_, .str _ [] fun x hx => by cases hx⟩
        simp only [convert, Sem.run_bind, run_underlying h1, run_underlying h2, run_underlying h3, Result.andThen_ok]
        exact run_bytesToString (l := []) rfl (fun j v hj => by simp at hj) (fun x hx => by cases hx)
      · cases h
    · cases h
  · rename_i e h1 h2
    cases hx
    split at h
    · rename_i h3
      obtain ⟨_, rfl⟩ := pure_some h
      refine ⟨_, ?_, .str false [] (by simp)⟩
      simp only [convert, Sem.run_bind, run_underlying h1, run_underlying h2, run_underlying (isK_spec h3), Result.andThen_ok, Conv.bytesToString, Sem.run_pure]
      rfl
    · cases h
  · rename_i e s n b o len cap h1 h2
    split at h
    · rename_i h3
      obtain ⟨o1, ⟨s', len', l⟩, o2, g1, g2, rfl⟩ := bind_some h
      obtain ⟨_, rfl⟩ := pure_some g2
      obtain ⟨ad, c, rfl, r0, r1, r2, r3⟩ := numsA_sound g1 (paid_append.1 ho).1 hx hs
      refine ⟨_, ?_, .str _ _ fun x hx => inR_u8 (r3 x hx)⟩
      simp only [convert, Sem.run_bind, run_underlying h1, run_underlying h2, run_underlying h3, Result.andThen_ok]
      exact run_bytesToString r1 r2 r3
    · cases h
  · rename_i s l h1 h2
    cases hx with
    | str _ _ hl =>
    obtain ⟨_, rfl⟩ := pure_some h
    exact ⟨_, by simp only [convert, Sem.run_bind, run_underlying h1, run_underlying h2, Result.andThen_ok]; rfl, .str _ _ hl⟩
  · cases h

theorem indexAddrA_sound {m : Mem} {t : TypeId} {x i : AV} {vx vi : Value} {ob : List Bool} {av : AV} (h : indexAddrA P m t x i = some (ob, av)) (ho : Paid ob)
    (hx : Rep ρ N x vx) (hi : Rep ρ N i vi) : ∃ v, (Instr.indexAt t vx vi).run P w = .ok v w ∧ Rep ρ N av v := by
  unfold indexAddrA at h
  split at h
  · rename_i e s n b o len cap s' k i ht
    cases hx with
    | wslice _ _ _ _ _ _ c ad hn hcap hl hw had =>
    cases hi
    split at h
    · rename_i sz hsz
      split at h
      · rename_i hs1
        subst hs1
        obtain ⟨hc, o2, h2, _⟩ := chk_bind h ho
        obtain ⟨_, rfl⟩ := pure_some h2
        simp only [Bool.and_eq_true, decide_eq_true_eq] at hc
        refine ⟨_, ?_, .wptr _ _ _ _ hn⟩
        simp only [Instr.indexAt, asIntOf, Instr.sureAddr, Sem.run_bind, Sem.run_pure, Result.andThen_ok, run_underlying ht, if_pos hc, run_sizeOf hsz]
        rw [had (by omega), addr_add]
        simp only [Nat.add_assoc, Nat.mul_one]
      · cases h
    · cases h
  · rename_i len e s n b o s' k i ht
    cases hx with
    | wptr _ _ _ _ hn =>
    cases hi
    split at h
    · rename_i sz hsz
      obtain ⟨hc, o2, h2, _⟩ := chk_bind h ho
      obtain ⟨_, rfl⟩ := pure_some h2
      simp only [Bool.and_eq_true, decide_eq_true_eq] at hc
      refine ⟨_, ?_, .wptr _ _ _ _ hn⟩
      simp only [Instr.indexAt, asIntOf, Instr.sureAddr, Sem.run_bind, Sem.run_pure, Result.andThen_ok, run_underlying ht, if_pos hc, run_sizeOf hsz]
      rw [addr_add]
      simp only [Nat.add_assoc]
    · cases h
  · rename_i len e s g o s' k i ht
    cases hx with
    | gptr =>
    cases hi
    split at h
    · rename_i sz hsz
      obtain ⟨hc, o2, h2, _⟩ := chk_bind h ho
      obtain ⟨_, rfl⟩ := pure_some h2
      simp only [Bool.and_eq_true, decide_eq_true_eq] at hc
      refine ⟨_, ?_, .gptr _ _ _⟩
      simp only [Instr.indexAt, asIntOf, Instr.sureAddr, Sem.run_bind, Sem.run_pure, Result.andThen_ok, run_underlying ht, if_pos hc, run_sizeOf hsz]
      rw [addr_add]
    · cases h
  · rename_i len e n o k i ht
    cases hx with
    | ptr _ _ _ hn =>
    cases hi
    split at h
    · rename_i sz hsz
      obtain ⟨hc, o2, h2, _⟩ := chk_bind h ho
      obtain ⟨_, rfl⟩ := pure_some h2
      simp only [Bool.and_eq_true, decide_eq_true_eq] at hc
      refine ⟨.pointer (some ⟨(ρ n).b, (ρ n).sh + (o + i.toNat * sz), none⟩), ?_, ?_⟩
      · simp only [Instr.indexAt, asIntOf, Instr.sureAddr, Sem.run_bind, Sem.run_pure, Result.andThen_ok, run_underlying ht, if_pos hc, run_sizeOf hsz]
        rw [addr_add, Nat.add_assoc]
      · split
        · exact .wptr _ _ _ _ hn
        · exact .ptr _ _ _ hn
    · cases h
  · rename_i len e s n o s' k i ht
    cases hx with
    | ptr _ _ _ hn =>
    cases hi
    split at h
    · rename_i sz hsz
      obtain ⟨hc, o2, h2, _⟩ := chk_bind h ho
      obtain ⟨_, rfl⟩ := pure_some h2
      simp only [Bool.and_eq_true, decide_eq_true_eq] at hc
      refine ⟨_, ?_, .ptr _ _ _ hn⟩
      simp only [Instr.indexAt, asIntOf, Instr.sureAddr, Sem.run_bind, Sem.run_pure, Result.andThen_ok, run_underlying ht, if_pos hc, run_sizeOf hsz]
      rw [addr_add, Nat.add_assoc]
    · cases h
  · rename_i e s n o len cap es s' k i ht
    cases hx with
    | slice _ _ _ _ _ _ c ad hn hcap hl hw had =>
    cases hi
    split at h
    · rename_i sz hsz
      split at h
      · obtain ⟨hc, o2, h2, _⟩ := chk_bind h ho
        obtain ⟨_, rfl⟩ := pure_some h2
        simp only [Bool.and_eq_true, decide_eq_true_eq] at hc
        refine ⟨_, ?_, .ptr _ _ _ hn⟩
        simp only [Instr.indexAt, asIntOf, Instr.sureAddr, Sem.run_bind, Sem.run_pure, Result.andThen_ok, run_underlying ht, if_pos hc, run_sizeOf hsz]
        rw [had (by omega), addr_add, Nat.add_assoc]
      · cases h
    · cases h
  · cases h

theorem run_part_row {e e' : TypeId} {n' sz : Nat} {k : IntKind} {l : List Int} {o : Nat} (he : P.underlying e = some (.array n' e')) (hs : szOf P e = some sz) :
    (part e (l.map (Value.int k)).toArray o).run P w = .ok (.agg (((l.drop o).take sz).map (Value.int k)).toArray) w := by
  have hagg : (isAgg e).run P w = .ok true w := by simp [isAgg, run_underlying he]
  simp [part, hagg, run_sizeOf hs, List.map_take, List.map_drop]
theorem rowA_sound {t e : TypeId} {len n : Nat} {k k' : IntKind} {l : List Int} {s' : Bool} {i : Int} {ob : List Bool} {av : AV} (ht : P.underlying t = some (.array len e)) (h : rowA P len e k n l s' i = some (ob, av)) (ho : Paid ob)
    (hn : l.length = n) (hl : ∀ x ∈ l, inR k x = true) : ∃ v, (Instr.index t (.agg (l.map (Value.int k)).toArray) (.int k' i)).run P w = .ok v w ∧ Rep ρ N av v := by
  unfold rowA at h
  split at h
  · rename_i n' e' sz he hs
    split at h
    · rename_i hcond
      simp only [Bool.and_eq_true, decide_eq_true_eq] at hcond
      obtain ⟨hc, o2, h2, _⟩ := chk_bind h ho
      obtain ⟨_, rfl⟩ := pure_some h2
      simp only [Bool.and_eq_true, decide_eq_true_eq] at hc
      have h1 : i.toNat + 1 ≤ len := by omega
      have h3 : i.toNat * sz + sz ≤ l.length := by
        rw [hn, hcond.2, ← Nat.succ_mul]
        exact Nat.mul_le_mul_right sz h1
      refine ⟨_, ?_, .ints _ _ _ ?_ fun x hx => hl x (List.mem_of_mem_drop (List.mem_of_mem_take hx))⟩
      · simp only [Instr.index, asIntOf, Sem.run_bind, Sem.run_pure, Result.andThen_ok, run_underlying ht, if_pos hc, run_sizeOf hs, run_part_row he hs]
      · rw [List.length_take, List.length_drop]; omega
    · cases h
  · cases h
theorem partA_sound {t : TypeId} {cs : List AV} {vs : Array Value} {off : Nat} {ob : List Bool} {av : AV} (h : partA P t cs off = some (ob, av)) (hc : Reps ρ N cs vs.toList) :
    ∃ v, (part t vs off).run P w = .ok v w ∧ Rep ρ N av v := by
  have hlen := hc.length
  unfold partA at h
  split at h
  · rename_i sz hsz
    split at h
    · rename_i hl
      obtain ⟨_, rfl⟩ := pure_some h
      obtain ⟨g1, g2⟩ := run_isAgg (w := w) hsz
      refine ⟨.agg ((vs.toList.drop off).take sz).toArray, ?_, mkAgg_rep ((hc.drop off).take sz)⟩
      simp only [part, Sem.run_bind, g1, Option.isSome_some, Result.andThen_ok, if_true, g2 sz rfl, Sem.run_pure]
      congr 2
      apply Array.ext'
      simp [Array.toList_extract, List.extract_eq_take_drop]
    · cases h
  · rename_i hsz
    split at h
    · rename_i a ha
      obtain ⟨_, rfl⟩ := pure_some h
      obtain ⟨g1, g2⟩ := run_isAgg (w := w) hsz
      obtain ⟨v, h1, h2⟩ := hc.get off _ ha
      refine ⟨v, ?_, h2⟩
      have h3 : vs[off]? = some v := by simpa using h1
      simp [part, g1, h3]
    · cases h
  · cases h
theorem eqFs_sound {d : Nat} {f : TypeId → AV → AV → Option Bool} (hf : ∀ {t x y b vx vy}, f t x y = some b → Rep ρ N x vx → Rep ρ N y vy → (Op.equalIn d t vx vy).run P w = .ok b w) {l q : List AV} {xs ys : Array Value} (hx : Reps ρ N l xs.toList) (hy : Reps ρ N q ys.toList) :
    ∀ {fs : List Field} {b : Bool}, eqFs P f l q fs = some b → (Op.eqFields d xs ys fs).run P w = .ok b w
  | [], b, h => by cases h; rfl
  | g :: gs, b, h => by
    unfold eqFs at h
    unfold Op.eqFields
    split at h
    · rename_i hn
      rw [if_neg (by simpa using hn)]
      exact eqFs_sound hf hx hy h
    · rename_i hn
      rw [if_pos (by simpa using hn)]
      split at h
      · rename_i o1 a o2 b' h1 h2
        split at h
        · rename_i c e hc he
          cases h
          obtain ⟨u, u1, u2⟩ := partA_sound (w := w) h1 hx
          obtain ⟨v, v1, v2⟩ := partA_sound (w := w) h2 hy
          have ih := eqFs_sound hf hx hy he
          simp only [Sem.run_bind, u1, v1, hf hc u2 v2, Result.andThen_ok, Sem.run_ite, ih, Sem.run_pure]
          cases c <;> cases e <;> rfl
        · cases h
      · cases h
theorem eqF_sound : ∀ {d m : Nat} {t : TypeId} {x y : AV} {b : Bool} {vx vy : Value}, eqF P d t x y = some b → Rep ρ N x vx → Rep ρ N y vy → (Op.equalIn (d + (m + 1)) t vx vy).run P w = .ok b w
  | 0, _, _, _, _, _, _, _, h, _, _ => by cases h
  | d + 1, m, t, x, y, b, vx, vy, h, hx, hy => by
    unfold eqF at h
    split at h
    · rename_i ht
      cases h
      cases hx
      cases hy
      rw [show d + 1 + (m + 1) = (d + (m + 1)) + 1 by omega]
      exact run_equalIn_bool ht
    · rename_i ht
      split at h
      · rename_i hk
        cases h
        obtain rfl := of_decide_eq_true hk
        cases hx
        cases hy
        rw [show d + 1 + (m + 1) = (d + (m + 1)) + 1 by omega]
        exact _root_.Go.run_equalIn_int w _ _ _ _ _ _ ht
      · cases h
    · rename_i ht
      split at h
      · rename_i hc
        cases h
        simp only [Bool.and_eq_true, decide_eq_true_eq] at hc
        obtain ⟨⟨⟨⟨hk, h1⟩, h2⟩, h3⟩, h4⟩ := hc
        subst hk
        cases hx with
        | ints _ _ _ hn ha =>
        cases hy with
        | ints _ _ _ hn' hb =>
        rw [show d + 1 + (m + 1) = (d + m) + 2 by omega]
        exact run_equalIn_ints ht (isK_spec h3) (is1_spec h4) (hn.trans h1) (hn'.trans h2)
      · cases h
    · rename_i fs l q ht
      split at h
      · cases h
      · rename_i hs
        cases hx with
        | agg _ us hu =>
        cases hy with
        | agg _ vs hv =>
        have hf : P.fieldsOf t = fs := by unfold Program.fieldsOf; rw [ht]
        rw [show d + 1 + (m + 1) = (d + (m + 1)) + 1 by omega, run_equalIn_struct w _ _ _ _ (by rw [hf]; exact ht) hs, hf]
        exact eqFs_sound (fun h hx hy => eqF_sound h hx hy) (by simpa using hu) (by simpa using hv) h
    · cases h
theorem binS_sound {op : BinOp} {t : TypeId} {x y : AV} {vx vy : Value} {X Y : Operand} {ob : List Bool} {av : AV} (h : binS P op t x y = some (ob, av)) (ho : Paid ob)
    (hx : Rep ρ N x vx) (hy : Rep ρ N y vy) :
    ∃ v, (do eqGuard op t X Y vx vy; binOp op t vx vy : Sem Value).run P w = .ok v w ∧ Rep ρ N av v := by
  unfold binS at h
  split at h
  · rename_i l q
    split at h
    · rename_i b hg hb
      obtain ⟨_, rfl⟩ := pure_some h
      have e := eqF_sound (m := 9990) (w := w) hb hx hy
      cases hx with
      | agg _ us hu =>
      cases hy with
      | agg _ vs hv =>
      have e2 : (Op.equal t (.agg us.toArray) (.agg vs.toArray)).run P w = .ok b w := e
      refine ⟨_, ?_, .bool _ _⟩
      rw [Sem.run_bind, eqGuard_agg hg]
      simp only [Result.andThen_ok, binOp, Sem.run_bind, e2]
      rfl
    · cases h
  · rename_i l q
    split at h
    · rename_i b hg hb
      obtain ⟨_, rfl⟩ := pure_some h
      have e := eqF_sound (m := 9990) (w := w) hb hx hy
      cases hx with
      | agg _ us hu =>
      cases hy with
      | agg _ vs hv =>
      have e2 : (Op.equal t (.agg us.toArray) (.agg vs.toArray)).run P w = .ok b w := e
      refine ⟨_, ?_, .bool _ _⟩
      rw [Sem.run_bind, eqGuard_agg hg]
      simp only [Result.andThen_ok, binOp, Sem.run_bind, e2]
      rfl
    · cases h
  · exact binA_sound h ho hx hy

theorem indexA_sound {t : TypeId} {x i : AV} {vx vi : Value} {ob : List Bool} {av : AV} (h : indexA P t x i = some (ob, av)) (ho : Paid ob)
    (hx : Rep ρ N x vx) (hi : Rep ρ N i vi) : ∃ v, (Instr.index t vx vi).run P w = .ok v w ∧ Rep ρ N av v := by
  unfold indexA at h
  split at h
  · rename_i len e k n l s' k' i ht
    cases hx with
    | ints _ _ _ hn hl =>
    cases hi
    split at h
    · rename_i hcond
      simp only [Bool.and_eq_true, decide_eq_true_eq] at hcond
      obtain ⟨⟨h1, h3⟩, h4⟩ := hcond
      obtain ⟨hc, o2, h2, _⟩ := chk_bind h ho
      obtain ⟨_, rfl⟩ := pure_some h2
      simp only [Bool.and_eq_true, decide_eq_true_eq] at hc
      have hlt : i.toNat < l.length := by omega
      have he := isK_spec h4
      refine ⟨_, ?_, .int _ _ _ ?_⟩
      · simp only [Instr.index, asIntOf, Sem.run_bind, Sem.run_pure, Result.andThen_ok, run_underlying ht, if_pos hc, run_sizeOf (is1_spec h1), Nat.mul_one, run_part_int he hlt]
        rw [List.getD, List.getElem?_eq_getElem hlt, Option.getD_some]
      · rw [List.getD, List.getElem?_eq_getElem hlt, Option.getD_some]
        exact hl _ (List.getElem_mem hlt)
    · exact rowA_sound ht h ho hn hl
  · rename_i s l s' k' i ht
    cases hx with
    | str _ _ hl =>
    cases hi
    obtain ⟨hc, o2, h2, _⟩ := chk_bind h ho
    obtain ⟨_, rfl⟩ := pure_some h2
    simp only [Bool.and_eq_true, decide_eq_true_eq] at hc
    have hlt : i.toNat < l.length := by omega
    have hb := hl _ (List.getElem_mem hlt)
    have hg : l.getD i.toNat 0 = l[i.toNat] := by rw [List.getD, List.getElem?_eq_getElem hlt, Option.getD_some]
    have hb2 : (mkStr l)[i.toNat]? = some (UInt8.ofNat l[i.toNat].toNat) := by
      have hsz : i.toNat < (mkStr l).size := by simp [mkStr, ByteArray.size]; omega
      rw [getElem?_pos (mkStr l) i.toNat hsz]
      congr 1
      show (mkStr l).data[i.toNat]'hsz = _
      simp [mkStr]
    refine ⟨_, ?_, .int _ _ _ ?_⟩
    · simp only [Instr.index, asIntOf, Sem.run_bind, Sem.run_pure, Result.andThen_ok, run_underlying ht, if_pos hc.1, hb2]
      congr 2
      rw [hg, UInt8.toNat_ofNat']
      omega
    · rw [hg, inR_iff]; simp [lo, hi]; omega
  · rename_i len e n l s' k' i ht
    cases hx with
    | bools _ _ hn =>
    cases hi
    split at h
    · rename_i hs he
      split at h
      · rename_i hnl
        obtain ⟨hc, o2, h2, _⟩ := chk_bind h ho
        obtain ⟨_, rfl⟩ := pure_some h2
        simp only [Bool.and_eq_true, decide_eq_true_eq] at hc
        have hlt : i.toNat < l.length := by omega
        have hagg : (isAgg e).run P w = .ok false w := by simp [isAgg, run_underlying he]
        refine ⟨.bool l[i.toNat], ?_, ?_⟩
        · simp [Instr.index, asIntOf, run_underlying ht, if_pos hc, run_sizeOf hs, part, hagg, hlt]
        · rw [List.getD, List.getElem?_eq_getElem hlt, Option.getD_some]
          exact .bool _ _
      · cases h
    · cases h
  · rename_i len e cs k' i ht
    cases hx with
    | agg _ vs hl =>
    cases hi
    split at h
    · rename_i sz hs
      split at h
      · rename_i hc
        simp only [Bool.and_eq_true, decide_eq_true_eq] at hc
        obtain ⟨v, g1, g2⟩ := partA_sound (w := w) (vs := vs.toArray) h (by simpa using hl)
        exact ⟨v, by simp [Instr.index, asIntOf, run_underlying ht, if_pos hc, run_sizeOf hs, g1], g2⟩
      · cases h
    · cases h
  · cases h

theorem capA_sound {t : TypeId} {x : AV} {vx : Value} {ob : List Bool} {av : AV} (h : capA P t x = some (ob, av)) (ho : Paid ob)
    (hx : Rep ρ N x vx) (ty : TypeId) {ts : Array TypeId} {vs : Array Value} (hts : ts[0]? = some t) (hvs : vs[0]? = some vx) : ∃ v, (Builtin.cap_ ts ty vs).run P w = .ok v w ∧ Rep ρ N av v := by
  unfold capA at h
  split at h
  · rename_i e s n o len c es ht
    cases hx with
    | slice _ _ _ _ _ _ c' ad hn hc hl hw had =>
    obtain rfl := hc c rfl
    obtain ⟨hc, o2, h2, _⟩ := chk_bind h ho
    obtain ⟨_, rfl⟩ := pure_some h2
    simp at hc
    refine ⟨_, ?_, .int _ _ _ (by rw [inR_iff]; simp [lo, hi]; omega)⟩
    simp [Builtin.cap_, run_underlying ht, goInt, hts, hvs]
  · rename_i e ht
    cases hx
    obtain ⟨_, rfl⟩ := pure_some h
    refine ⟨_, ?_, .int _ _ _ (by decide)⟩
    simp [Builtin.cap_, run_underlying ht, goInt, hts, hvs]
  · cases h
theorem lenA_sound {t : TypeId} {x : AV} {vx : Value} {ob : List Bool} {av : AV} (h : lenA P t x = some (ob, av)) (ho : Paid ob)
    (hx : Rep ρ N x vx) (ty : TypeId) {ts : Array TypeId} {vs : Array Value} (hts : ts[0]? = some t) (hvs : vs[0]? = some vx) : ∃ v, (Builtin.len_ ts ty vs).run P w = .ok v w ∧ Rep ρ N av v := by
  unfold lenA at h
  split at h
  · rename_i s l ht
    cases hx
    obtain ⟨hc, o2, h2, _⟩ := chk_bind h ho
    obtain ⟨_, rfl⟩ := pure_some h2
    simp at hc
    refine ⟨_, ?_, .int _ _ _ (by rw [inR_iff]; simp [lo, hi]; omega)⟩
    have hz : (mkStr l).size = l.length := by simp [mkStr, ByteArray.size]
    simp [Builtin.len_, run_underlying ht, goInt, hz, hts, hvs]
  · rename_i n e x' ht
    obtain ⟨hc, o2, h2, _⟩ := chk_bind h ho
    obtain ⟨_, rfl⟩ := pure_some h2
    simp at hc
    refine ⟨_, ?_, .int _ _ _ (by rw [inR_iff]; simp [lo, hi]; omega)⟩
    simp [Builtin.len_, run_underlying ht, goInt, hts, hvs]
  · rename_i e s n o len cap es ht
    cases hx
    obtain ⟨hc, o2, h2, _⟩ := chk_bind h ho
    obtain ⟨_, rfl⟩ := pure_some h2
    simp at hc
    refine ⟨_, ?_, .int _ _ _ (by rw [inR_iff]; simp [lo, hi]; omega)⟩
    simp [Builtin.len_, run_underlying ht, goInt, hts, hvs]
  · rename_i e ht
    cases hx
    obtain ⟨_, rfl⟩ := pure_some h
    refine ⟨_, ?_, .int _ _ _ (by decide)⟩
    simp [Builtin.len_, run_underlying ht, goInt, hts, hvs]
  · rename_i e s n b o len cap ht
    cases hx
    obtain ⟨hc, o2, h2, _⟩ := chk_bind h ho
    obtain ⟨_, rfl⟩ := pure_some h2
    simp at hc
    refine ⟨_, ?_, .int _ _ _ (by rw [inR_iff]; simp [lo, hi]; omega)⟩
    simp [Builtin.len_, run_underlying ht, goInt, hts, hvs]
  · cases h

theorem extractA_sound {x : AV} {i : Nat} {vx : Value} {ob : List Bool} {av : AV} (h : extractA x i = some (ob, av)) (hx : Rep ρ N x vx) :
    ∃ v, (Instr.extract vx i).run P w = .ok v w ∧ Rep ρ N av v := by
  unfold extractA at h
  split at h
  · rename_i l
    cases hx with
    | tuple _ vs hl =>
    split at h
    · rename_i a ha
      obtain ⟨_, rfl⟩ := pure_some h
      obtain ⟨v, h1, h2⟩ := hl.get i _ ha
      exact ⟨v, by simp [Instr.extract, h1], h2⟩
    · cases h
  · cases h

theorem pickA_sound {c x y : AV} {vc vx vy : Value} {ob : List Bool} {av : AV} (h : pickA c x y = some (ob, av)) (ho : Paid ob) (hc : Rep ρ N c vc) (hx : Rep ρ N x vx) (hy : Rep ρ N y vy) :
    ∃ b v, vc = .bool b ∧ v = (if b = true then vx else vy) ∧ Rep ρ N av v := by
  unfold pickA at h
  split at h
  · rename_i b
    cases hc
    obtain ⟨_, rfl⟩ := pure_some h
    cases b
    · exact ⟨false, vy, rfl, rfl, hy⟩
    · exact ⟨true, vx, rfl, rfl, hx⟩
  · rename_i b
    cases hc
    split at h
    · cases hx; cases hy
      obtain ⟨_, rfl⟩ := pure_some h
      refine ⟨b, _, rfl, rfl, ?_⟩
      cases b
      · exact .bool _ _
      · exact .bool _ _
    · rename_i g s a s' b'
      cases h
      cases hy
      have h1 := ho (!b || g) (by simp)
      refine ⟨b, _, rfl, rfl, ?_⟩
      cases b
      · exact .bool _ _
      · simp at h1
        subst h1
        cases hx with
        | grdT _ _ hx => cases hx; exact .bool _ _
    · rename_i s a g s' b'
      cases h
      cases hx
      have h1 := ho (b || g) (by simp)
      refine ⟨b, _, rfl, rfl, ?_⟩
      cases b
      · simp at h1
        subst h1
        cases hy with
        | grdT _ _ hy => cases hy; exact .bool _ _
      · exact .bool _ _
    · rename_i s a g g' s' b'
      cases h
      cases hx
      have h1 := ho (b || (g && g')) (by simp)
      refine ⟨b, _, rfl, rfl, ?_⟩
      cases b
      · simp at h1
        obtain ⟨h1, h2⟩ := h1
        subst h1 h2
        cases hy with
        | grdT _ _ hy => cases hy with | grdT _ _ hy => cases hy; exact .bool _ _
      · exact .bool _ _
    · cases h
  · cases h

/- parts of values -/
theorem offOf_some {t : TypeId} {f : Nat} {off : Nat} {ft : TypeId} (h : offOf P t f = some (off, ft)) :
    ∃ (fs : Array Field) (x : Field), P.underlying t = some (.struct fs) ∧ fs[f]? = some x ∧ x.offset = off ∧ x.type = ft := by
  unfold offOf at h
  split at h
  · rename_i fs hfs
    cases hx : fs[f]? with
    | none => simp [hx] at h
    | some x =>
      simp [hx] at h
      exact ⟨fs, x, hfs, hx, h.1, h.2⟩
  · cases h

theorem fieldA_sound {t : TypeId} {x : AV} {f : Nat} {vx : Value} {ob : List Bool} {av : AV} (h : fieldA P t x f = some (ob, av)) (hx : Rep ρ N x vx) :
    ∃ v, (Instr.field t vx f).run P w = .ok v w ∧ Rep ρ N av v := by
  unfold fieldA at h
  split at h
  · rename_i cs off ft hoff
    obtain ⟨fs, y, h1, h2, rfl, rfl⟩ := offOf_some hoff
    cases hx with
    | agg _ vs hl =>
    obtain ⟨v, g1, g2⟩ := partA_sound (w := w) (vs := vs.toArray) h (by simpa using hl)
    exact ⟨v, by simp [Instr.field, run_underlying h1, h2, asAgg, g1], g2⟩
  · rename_i k n l off ft hoff
    obtain ⟨fs, y, h1, h2, rfl, rfl⟩ := offOf_some hoff
    have hr := cellsOf_rep hx rfl
    cases hx with
    | ints _ _ _ hn hl =>
    obtain ⟨v, g1, g2⟩ := partA_sound (w := w) h hr
    simp only [Value.cells] at g1
    exact ⟨v, by simp [Instr.field, run_underlying h1, h2, asAgg, g1], g2⟩
  · rename_i cs off ft hoff
    obtain ⟨fs, y, h1, h2, rfl, rfl⟩ := offOf_some hoff
    cases hx with
    | wagg _ vs hw hl =>
    have hlen := hl.length
    rw [exp_length] at hlen
    suffices hp : ∃ v, (part y.type vs.toArray y.offset).run P w = .ok v w ∧ Rep ρ N av v by
      obtain ⟨v, g1, g2⟩ := hp
      exact ⟨v, by simp [Instr.field, run_underlying h1, h2, asAgg, g1], g2⟩
    split at h
    · rename_i sz hsz
      split at h
      · rename_i q hq
        split at h
        · rename_i r hr
          obtain ⟨_, rfl⟩ := pure_some h
          obtain ⟨d1, d2, d3⟩ := dropW_spec hq
          obtain ⟨t1, t2, t3⟩ := takeW_spec hr
          obtain ⟨g1, g2⟩ := run_isAgg (w := w) hsz
          refine ⟨.agg ((vs.drop y.offset).take sz).toArray, ?_, mkW_rep (by rw [t1, d1]; exact (hl.drop _).take _) (hw.sub fun x hx => d3 _ (t3 _ hx))⟩
          simp only [part, Sem.run_bind, g1, Option.isSome_some, Result.andThen_ok, if_true, g2 sz rfl, Sem.run_pure]
          congr 2
          apply Array.ext'
          simp [List.extract_eq_take_drop]
        · cases h
      · cases h
    · rename_i hsz
      split at h
      · rename_i a j ha
        obtain ⟨_, rfl⟩ := pure_some h
        obtain ⟨g1, g2⟩ := run_isAgg (w := w) hsz
        obtain ⟨v, k1, k2⟩ := hl.get _ _ (locW_spec ha).1
        refine ⟨v, ?_, k2⟩
        have h3 : vs.toArray[y.offset]? = some v := by simpa using k1
        simp [part, g1, h3]
      · cases h
    · cases h
  · cases h

theorem arrayAtA_sound {t : TypeId} {x : AV} {vx : Value} {ob : List Bool} {av : AV} (h : arrayAtA P t x = some (ob, av)) (ho : Paid ob)
    (hx : Rep ρ N x vx) : ∃ v, (Instr.arrayAt t vx).run P w = .ok v w ∧ Rep ρ N av v := by
  unfold arrayAtA at h
  split at h
  · rename_i k e s n o len cap ht
    split at h
    · rename_i hsz hk
      have hk' := of_decide_eq_true hk
      obtain ⟨hc, o2, h2, _⟩ := chk_bind h ho
      obtain ⟨_, rfl⟩ := pure_some h2
      have hc' := of_decide_eq_true hc
      cases hx with
      | slice _ _ _ _ _ _ c ad hn hcap hl hw had =>
      refine ⟨.pointer (some ad), ?_, ?_⟩
      · simp only [Instr.arrayAt, Sem.run_bind, Result.andThen_ok, run_underlying ht]
        rw [if_neg (by omega)]
        rfl
      · rw [had (by omega)]; exact .ptr _ _ _ hn
    · cases h
  · cases h
theorem fieldAddrA_sound {t : TypeId} {x : AV} {f : Nat} {vx : Value} {ob : List Bool} {av : AV} (h : fieldAddrA P t x f = some (ob, av)) (hx : Rep ρ N x vx) :
    ∃ v, (Instr.fieldAt t vx f).run P w = .ok v w ∧ Rep ρ N av v := by
  unfold fieldAddrA at h
  split at h
  · rename_i s n o off ft hoff
    obtain ⟨fs, y, h1, h2, rfl, rfl⟩ := offOf_some hoff
    cases hx with
    | ptr _ _ _ hn =>
    split at h
    · rename_i k hsz
      obtain ⟨_, rfl⟩ := pure_some h
      refine ⟨_, ?_, .ptr _ _ _ hn⟩
      simp [Instr.fieldAt, run_underlying h1, h2, Instr.sureAddr, fieldPlace, run_sizeOf hsz, addr_add, Nat.add_assoc]
    · cases h
  · cases h

/- building -/
theorem ofScalar_rep {v : Value} {a : AV} (h : ofScalar v = some a) : Rep ρ N a v := by
  unfold ofScalar at h
  split at h
  · cases h; exact .bool _ _
  · split at h
    · rename_i hk; cases h; exact .int _ _ _ hk
    · cases h
  · rename_i s
    cases h
    have : mkStr (s.data.toList.map fun b => (b.toNat : Int)) = s := by
      unfold mkStr
      rw [List.map_map]
      have : ((fun x : Int => UInt8.ofNat x.toNat) ∘ fun b : UInt8 => (b.toNat : Int)) = id := by
        funext b; simp
      rw [this]; simp
    have hr := Rep.str (ρ := ρ) (N := N) false (s.data.toList.map fun b => (b.toNat : Int)) (by
      intro x hx
      simp at hx
      obtain ⟨b, _, rfl⟩ := hx
      have := b.toNat_lt
      omega)
    rwa [this] at hr
  · cases h; exact .nilptr
  · cases h; exact .nilslice
  · cases h; exact .nilfunc
  · cases h; exact .niliface
  · cases h

theorem ofScalars_rep : ∀ {vs : List Value} {l : List AV}, ofScalars vs = some l → Reps ρ N l vs
  | [], l, h => by simp [ofScalars] at h; subst h; exact .nil
  | v :: vs, l, h => by
    simp only [ofScalars] at h
    split at h
    · rename_i a q h1 h2
      cases h
      exact .cons _ _ _ _ (ofScalar_rep h1) (ofScalars_rep h2)
    · cases h

theorem ofValue_rep {v : Value} {a : AV} (h : ofValue v = some a) : Rep ρ N a v := by
  unfold ofValue at h
  split at h
  · rename_i cs
    cases hl : ofScalars cs.toList with
    | none => simp [hl] at h
    | some l => simp [hl] at h; subst h; simpa using mkAgg_rep (ofScalars_rep hl)
  · exact ofScalar_rep h

theorem ofScalar_alive {v : Value} {a : AV} (h : ofScalar v = some a) : alive a = true := by
  unfold ofScalar at h
  split at h <;> first | (cases h; rfl) | (split at h <;> cases h; rfl) | cases h
theorem mkAgg_alive (l : List AV) : alive (mkAgg l) = true := by
  unfold mkAgg
  split
  · split
    · split <;> rfl
    · rfl
  · split
    · split <;> rfl
    · rfl
  · rfl
theorem ofValue_alive {v : Value} {a : AV} (h : ofValue v = some a) : alive a = true := by
  unfold ofValue at h
  split at h
  · rename_i cs
    cases hl : ofScalars cs.toList with
    | none => simp [hl] at h
    | some l => simp [hl] at h; subst h; exact mkAgg_alive l
  · exact ofScalar_alive h

theorem oneK_spec {l : List AV} {k : IntKind} {xs : List Int} (h : oneK l = some (k, xs)) {vs : List Value} (hr : Reps ρ N l vs) : vs = xs.map (Value.int k) ∧ (∀ x ∈ xs, inR k x = true) := by
  unfold oneK at h
  split at h
  · rename_i s k' a r
    cases hi : isInts k' (.int s k' a :: r) with
    | none => simp [hi] at h
    | some ns =>
      simp [hi] at h
      obtain ⟨rfl, rfl⟩ := h
      obtain ⟨h1, h2⟩ := isInts_spec hi
      exact h2 hr
  · cases h
theorem reps_spread_of {k : IntKind} {xs : List Int} {n : Nat} (hn : xs.length = n) (h : ∀ x ∈ xs, inR k x = true) : Reps ρ N (spread k n xs) (xs.map (Value.int k)) := by
  refine reps_of (by rw [spread_length]; simp [hn]) fun i a v h1 h2 => ?_
  rw [spread_get] at h1
  split at h1
  · rename_i hi
    cases h1
    have hl : i < xs.length := by omega
    rw [List.getElem?_map, List.getElem?_eq_getElem hl] at h2
    cases h2
    simp only [List.getD, List.getElem?_eq_getElem hl, Option.getD_some]
    exact .int _ _ _ (h _ (List.getElem_mem hl))
  · cases h1
theorem regroup_spec : ∀ {sh : List (Option Nat)} {l q : List AV}, regroup sh l = some q → ∀ {vs : List Value}, Reps ρ N l vs → (∀ x ∈ l, ∀ k n xs, x ≠ .ints k n xs) → Reps ρ N (exp q) vs ∧ WOk q
  | [], [], q, h, vs, hr, _ => by
    simp [regroup] at h; subst h
    cases hr
    exact ⟨.nil, WOk.nil⟩
  | none :: s, a :: l, q, h, vs, hr, hn => by
    simp only [regroup] at h
    cases hq : regroup s l with
    | none => simp [hq] at h
    | some q' =>
      simp [hq] at h
      subst h
      cases hr with
      | cons _ _ v vs hv hvs =>
      obtain ⟨h1, h2⟩ := regroup_spec hq hvs (fun x hx => hn x (List.mem_cons_of_mem _ hx))
      have hna := hn a (List.mem_cons_self ..)
      refine ⟨?_, WOk.cons (fun k n xs e => (hna k n xs e).elim) h2⟩
      have : exp (a :: q') = a :: exp q' := by
        cases a <;> try rfl
        rename_i k n xs
        exact (hna k n xs rfl).elim
      rw [this]
      exact .cons _ _ _ _ hv h1
  | some n :: s, l, q, h, vs, hr, hn => by
    have hh := h
    simp only [regroup] at hh
    split at hh
    · rename_i k xs r h1 h2
      split at hh
      · rename_i hlen
        simp only [decide_eq_true_eq] at hlen
        cases hh
        obtain ⟨g1, g2⟩ := oneK_spec h1 (hr.take n)
        obtain ⟨g3, g4⟩ := regroup_spec h2 (hr.drop n) (fun x hx => hn x (List.mem_of_mem_drop hx))
        refine ⟨?_, WOk.cons (fun k' n' xs' e => by cases e; exact hlen) g4⟩
        have := (reps_spread_of (ρ := ρ) (N := N) hlen g2).append g3
        rw [← g1, List.take_append_drop] at this
        exact this
      · cases hh
    · cases hh
  | [], a :: l, q, h, vs, hr, _ => by simp [regroup] at h
  | none :: s, [], q, h, vs, hr, _ => by simp [regroup] at h
theorem ofScalars_noInts : ∀ {vs : List Value} {l : List AV}, ofScalars vs = some l → ∀ x ∈ l, ∀ k n xs, x ≠ .ints k n xs
  | [], l, h => by simp [ofScalars] at h; subst h; intro x hx; cases hx
  | v :: vs, l, h => by
    simp only [ofScalars] at h
    split at h
    · rename_i a q h1 h2
      cases h
      intro x hx k n xs e
      rcases List.mem_cons.1 hx with rfl | hx
      · subst e
        unfold ofScalar at h1
        split at h1 <;> first | cases h1 | (split at h1 <;> cases h1)
      · exact ofScalars_noInts h2 x hx k n xs e
    · cases h
theorem mkAgg_agg {l cs : List AV} (h : mkAgg l = .agg cs) : l = cs := by
  unfold mkAgg at h
  split at h
  · split at h
    · split at h
      · cases h
      · cases h; rfl
    · cases h; rfl
  · split at h
    · split at h
      · cases h
      · cases h; rfl
    · cases h; rfl
  · cases h; rfl
theorem ofValue_agg {v : Value} {cs : List AV} (h : ofValue v = some (.agg cs)) : ∃ us, v = .agg us ∧ ofScalars us.toList = some cs := by
  unfold ofValue at h
  split at h
  · rename_i us
    cases hl : ofScalars us.toList with
    | none => simp [hl] at h
    | some l =>
      simp [hl] at h
      exact ⟨us, rfl, by rw [hl, mkAgg_agg h]⟩
  · unfold ofScalar at h
    split at h <;> first | cases h | (split at h <;> cases h)
theorem zeroA_sound {t : TypeId} {a : AV} (h : zeroA P t = some a) : ∃ (it : TypeInfo) (z : Value), P.info? t = some it ∧ it.zero = some z ∧ Rep ρ N a z ∧ alive a = true ∧ (zeroValue t).run P w = .ok z w := by
  have plain : zero0 P t = some a → ∃ (it : TypeInfo) (z : Value), P.info? t = some it ∧ it.zero = some z ∧ Rep ρ N a z ∧ alive a = true ∧ (zeroValue t).run P w = .ok z w := fun h => by
    unfold zero0 at h
    split at h
    · rename_i i hi
      split at h
      · rename_i v hv
        exact ⟨i, v, hi, hv, ofValue_rep h, ofValue_alive h, by simp [zeroValue, typeInfo, hi, hv]⟩
      · cases h
    · cases h
  unfold zeroA at h
  split at h
  · rename_i cs hz
    split at h
    · rename_i sh hsh
      split at h
      · cases hq : regroup sh cs with
        | none => simp [hq] at h
        | some q =>
          simp [hq] at h
          subst h
          unfold zero0 at hz
          split at hz
          · rename_i i hi
            split at hz
            · rename_i v hv
              obtain ⟨us, rfl, hus⟩ := ofValue_agg hz
              obtain ⟨r1, r2⟩ := regroup_spec (ρ := ρ) (N := N) hq (ofScalars_rep hus) (ofScalars_noInts hus)
              exact ⟨i, _, hi, hv, by simpa using Rep.wagg q us.toList r2 r1, rfl, by simp [zeroValue, typeInfo, hi, hv]⟩
            · cases hz
          · cases hz
      · cases h; exact plain hz
    · cases h; exact plain hz
  · rename_i x _
    exact plain h
theorem foldl_set (off : Nat) : ∀ (vs : List Value) (j : Nat) (cells : Array Value), off + j + vs.length ≤ cells.size →
    ((vs.zipIdx j).foldl (fun (cs : Array Value) (p : Value × Nat) => cs.setIfInBounds (off + p.2) p.1) cells).toList = cells.toList.take (off + j) ++ vs ++ cells.toList.drop (off + j + vs.length)
  | [], j, cells, h => by simp
  | v :: vs, j, cells, h => by
    simp only [List.length_cons] at h
    rw [List.zipIdx_cons, List.foldl_cons, foldl_set off vs (j + 1) _ (by simp; omega)]
    apply List.ext_getElem?
    intro i
    have hl : (cells.setIfInBounds (off + j) v).toList = cells.toList.set (off + j) v := by simp
    rw [hl]
    have e1 : off + (j + 1) = off + j + 1 := by omega
    rw [e1]
    have hL : (cells.toList.set (off + j) v).length = cells.size := by simp
    rw [getElem?_splice (l := cells.toList.set (off + j) v) (l' := vs) (o := off + j + 1) (n := vs.length) rfl (by rw [hL]; omega)]
    rw [show off + j + (v :: vs).length = off + j + (v :: vs).length from rfl, getElem?_splice (l := cells.toList) (l' := v :: vs) (o := off + j) (n := (v :: vs).length) rfl (by simp; omega)]
    by_cases h1 : i = off + j
    · subst h1
      rw [if_neg (by omega), if_pos (by simp)]
      simp [show off + j < cells.size by omega]
    · by_cases h2 : off + j + 1 ≤ i ∧ i < off + j + 1 + vs.length
      · rw [if_pos h2, if_pos (by simp; omega), show i - (off + j) = (i - (off + j + 1)) + 1 by omega]
        simp
      · rw [if_neg h2, if_neg (by simp; omega), List.getElem?_set_ne (Ne.symm h1)]

theorem fill_sound {pl pl' : Nat → Option (Nat × Nat)} (hpl : ∀ i x, pl i = some x → pl' i = some x) : ∀ {parts : List (Nat × AV)} {vparts : List (Nat × Value)} {cs cs' : List AV} {cells : Array Value},
    splice pl cs parts = some cs' → Reps ρ N cs cells.toList → parts.map (·.1) = vparts.map (·.1) → Reps ρ N (parts.map (·.2)) (vparts.map (·.2)) →
    ∃ cells', Instr.fill pl' cells vparts = some cells' ∧ Reps ρ N cs' cells'.toList
  | [], vparts, cs, cs', cells, h, hc, h1, _ => by
    cases vparts with
    | nil => simp [splice] at h; subst h; exact ⟨cells, rfl, hc⟩
    | cons _ _ => simp at h1
  | (i, a) :: parts, [], cs, cs', cells, h, hc, h1, _ => by simp at h1
  | (i, a) :: parts, (i', v) :: vparts, cs, cs', cells, h, hc, h1, h2 => by
    simp only [List.map_cons, List.cons.injEq] at h1
    obtain ⟨rfl, h1⟩ := h1
    cases h2 with
    | cons _ _ _ _ hv hvs =>
    simp only [splice] at h
    split at h
    · rename_i off sz hpi
      split at h
      · rename_i hcond
        simp only [Bool.and_eq_true, decide_eq_true_eq] at hcond
        obtain ⟨⟨g1, g2⟩, g3⟩ := hcond
        have hcv := cellsOf_rep hv g3
        have hlv := hcv.length
        have hlc := hc.length
        simp at hlv hlc
        have hcond2 : ¬ (v.cells.size ≠ sz ∨ off + v.cells.size > cells.size) := by omega
        have hfold := foldl_set off v.cells.toList 0 cells (by simp; omega)
        simp only [Nat.add_zero] at hfold
        obtain ⟨cells', r1, r2⟩ := fill_sound (pl := pl) (pl' := pl') (cells := v.cells.zipIdx.foldl (fun (cs : Array Value) (p : Value × Nat) => cs.setIfInBounds (off + p.2) p.1) cells) hpl h (by
          rw [← Array.foldl_toList, Array.toList_zipIdx, hfold]
          have e : v.cells.toList.length = sz := by simp; omega
          rw [e]
          exact ((hc.take off).append hcv).append (hc.drop _)) h1 hvs
        refine ⟨cells', ?_, r2⟩
        simp only [Instr.fill, hpl i _ hpi]
        rw [if_neg (by simpa using hcond2)]
        exact r1
      · cases h
    · cases h

theorem spliceW_sound {pl pl' : Nat → Option (Nat × Nat)} (hpl : ∀ i x, pl i = some x → pl' i = some x) : ∀ {parts : List (Nat × AV)} {vparts : List (Nat × Value)} {cs cs' : List AV} {cells : Array Value},
    spliceW pl cs parts = some cs' → Reps ρ N (exp cs) cells.toList → WOk cs → parts.map (·.1) = vparts.map (·.1) → Reps ρ N (parts.map (·.2)) (vparts.map (·.2)) →
    ∃ cells', Instr.fill pl' cells vparts = some cells' ∧ Reps ρ N (exp cs') cells'.toList ∧ WOk cs'
  | [], vparts, cs, cs', cells, h, hc, hw, h1, _ => by
    cases vparts with
    | nil => simp [spliceW] at h; subst h; exact ⟨cells, rfl, hc, hw⟩
    | cons _ _ => simp at h1
  | (i, a) :: parts, [], cs, cs', cells, h, hc, hw, h1, _ => by simp at h1
  | (i, a) :: parts, (i', v) :: vparts, cs, cs', cells, h, hc, hw, h1, h2 => by
    simp only [List.map_cons, List.cons.injEq] at h1
    obtain ⟨rfl, h1⟩ := h1
    cases h2 with
    | cons _ _ _ _ hv hvs =>
    simp only [spliceW] at h
    split at h
    · rename_i off sz hpi
      split at h
      · rename_i cs1 hlay
        obtain ⟨l1, l2, l3, l4, l5, q, l6, l7, l8⟩ := layW_spec hlay hv
        have hlc := hc.length
        rw [exp_length] at hlc
        simp at hlc
        have l1' : v.cells.size = sz := l1
        have hcond2 : ¬ (v.cells.size ≠ sz ∨ off + v.cells.size > cells.size) := by rw [l1']; omega
        have hfold := foldl_set off v.cells.toList 0 cells (by rw [Array.length_toList]; omega)
        simp only [Nat.add_zero] at hfold
        obtain ⟨cells', r1, r2⟩ := spliceW_sound (pl := pl) (pl' := pl') (cells := v.cells.zipIdx.foldl (fun (cs : Array Value) (p : Value × Nat) => cs.setIfInBounds (off + p.2) p.1) cells) hpl h (by
          rw [← Array.foldl_toList, Array.toList_zipIdx, hfold, l8]
          have e : v.cells.toList.length = sz := by rw [Array.length_toList]; exact l1
          rw [e]
          exact ((hc.take off).append l6).append (hc.drop _)) (l5 hw) h1 hvs
        refine ⟨cells', ?_, r2⟩
        simp only [Instr.fill, hpl i _ hpi]
        rw [if_neg (by simpa using hcond2)]
        exact r1
      · cases h
    · cases h

theorem buildA_sound {t : TypeId} {parts : List (Nat × AV)} {vparts : Array (Nat × Value)} {ob : List Bool} {av : AV} (h : buildA P t parts = some (ob, av))
    (h1 : parts.map (·.1) = vparts.toList.map (·.1)) (h2 : Reps ρ N (parts.map (·.2)) (vparts.toList.map (·.2))) :
    ∃ v, (Instr.build t vparts).run P w = .ok v w ∧ Rep ρ N av v := by
  have fin : ∀ {z : AV} {pl : Nat → Option (Nat × Nat)}, zeroA P t = some z → placeA P t = some pl →
      (∀ (zv : Value) (pl' : Nat → Option (Nat × Nat)), Rep ρ N z zv → alive z = true → (∀ i x, pl i = some x → pl' i = some x) → ∃ cells, Instr.fill pl' zv.cells vparts.toList = some cells ∧ Rep ρ N av (.agg cells)) →
      ∃ v, (Instr.build t vparts).run P w = .ok v w ∧ Rep ρ N av v := fun {z pl} hz hpl key => by
    obtain ⟨it, zv, g1, g2, g3, g4, _⟩ := zeroA_sound (ρ := ρ) (N := N) (w := w) hz
    suffices hb : ∃ cells, P.built t vparts.toList = some cells ∧ Rep ρ N av (.agg cells) by
      obtain ⟨cells, q1, q2⟩ := hb
      exact ⟨_, run_build w t vparts cells q1, q2⟩
    unfold placeA at hpl
    unfold Program.built
    split at hpl
    · rename_i fs hu
      cases hp : fs.toList.mapM (fun f => (P.info? f.type).map fun i => (f.offset, i.size)) with
      | none => simp [hp] at hpl
      | some places =>
        simp [hp] at hpl
        subst hpl
        obtain ⟨cells, q1, q2⟩ := key zv (places.toArray[·]?) g3 g4 (fun i x hx => by simpa using hx)
        exact ⟨cells, by simp only [g1, hu, g2, hp]; exact q1, q2⟩
    · rename_i n e hu
      cases hs : P.info? e with
      | none => simp [szOf, hs] at hpl
      | some ie =>
        simp [szOf, hs] at hpl
        subst hpl
        obtain ⟨cells, q1, q2⟩ := key zv (fun i => some (i * ie.size, ie.size)) g3 g4 (fun i x hx => hx)
        exact ⟨cells, by simp only [g1, hu, g2, hs]; exact q1, q2⟩
    · cases hpl
  unfold buildA at h
  split at h
  · rename_i z pl hz hpl
    split at h
    · rename_i cs hcs
      obtain ⟨_, rfl⟩ := pure_some h
      refine fin hz hpl fun zv pl' g3 g4 hp => ?_
      cases g3 with
      | wagg _ vs hw hl =>
      obtain ⟨cells, q1, q2, q3⟩ := spliceW_sound (cells := vs.toArray) hp hcs (by simpa using hl) hw h1 h2
      exact ⟨cells, q1, by simpa using mkW_rep q2 q3⟩
    · cases h
  · rename_i z pl _ hz hpl
    split at h
    · rename_i cs hcs
      obtain ⟨_, rfl⟩ := pure_some h
      refine fin hz hpl fun zv pl' g3 g4 hp => ?_
      obtain ⟨cells, q1, q2⟩ := fill_sound (pl' := pl') hp hcs (cellsOf_rep g3 g4) h1 h2
      exact ⟨cells, q1, by simpa using mkAgg_rep q2⟩
    · cases h
  · cases h

/- slice expressions -/
def ORep (ρ : Nat → Loc3) (N : Nat → Prop) : Option AV → Option Value → Prop
  | none, none => True
  | some a, some v => Rep ρ N a v
  | _, _ => False

theorem boundA_some {y d r : Nat} {sy s : Bool} {x : Option AV} {vx : Option Value} {ob : List Bool} (h : boundA y sy x d = some (ob, (s, r))) (ho : Paid ob) (hx : ORep ρ N x vx) :
    (x = none ∧ vx = none ∧ r = d) ∨ (∃ v, vx = some v ∧ r ≤ y ∧ ∀ (y' : Nat) (code : BoundsCode), y ≤ y' → (Instr.sliceBound v y' code).run P w = .ok r w) := by
  unfold boundA at h
  split at h
  · obtain ⟨_, he⟩ := pure_some h
    cases he
    cases vx with
    | none => exact Or.inl ⟨rfl, rfl, rfl⟩
    | some v => exact hx.elim
  · rename_i s' k i
    obtain ⟨hc, o2, h2, _⟩ := chk_bind h ho
    obtain ⟨_, he⟩ := pure_some h2
    simp at hc
    have hr : r = i.toNat := by
      split at he
      · cases he
        have h1 := hc.2
        simp at h1
        omega
      · cases he; rfl
    subst hr
    cases vx with
    | none => exact hx.elim
    | some v =>
      cases hx
      refine Or.inr ⟨_, rfl, by omega, fun y' code hy => ?_⟩
      simp only [Instr.sliceBound, asIntOf, Sem.run_bind, Sem.run_pure, Result.andThen_ok]
      rw [if_pos ⟨hc.1, by omega⟩]
      rfl
  · cases h

theorem run_sliceBounds {isSlice : Bool} {len cap h l lim : Nat} {lo hi : Option AV} {vlo vhi : Option Value} {sh sl sy : Bool} {o1 o2 : List Bool} (hh : boundA lim sy hi len = some (o1, (sh, h)))
    (hl : boundA h sh lo 0 = some (o2, (sl, l))) (p1 : Paid o1) (p2 : Paid o2) (r1 : ORep ρ N hi vhi) (r2 : ORep ρ N lo vlo) (hlim : lim ≤ cap) (hlen : len ≤ lim) :
    (Instr.sliceBounds isSlice len cap vlo vhi none).run P w = .ok (l, h, cap) w ∧ l ≤ h ∧ h ≤ lim := by
  have a1 := boundA_some (P := P) (w := w) hh p1 r1
  have a2 := boundA_some (P := P) (w := w) hl p2 r2
  have hhl : h ≤ lim := by rcases a1 with ⟨_, _, rfl⟩ | ⟨v, _, h1, _⟩ <;> omega
  have hll : l ≤ h := by rcases a2 with ⟨_, _, rfl⟩ | ⟨v, _, h1, _⟩ <;> omega
  refine ⟨?_, hll, hhl⟩
  unfold Instr.sliceBounds
  rcases a1 with ⟨_, rfl, rfl⟩ | ⟨v, rfl, h1, h2⟩ <;> rcases a2 with ⟨_, rfl, rfl⟩ | ⟨u, rfl, h3, h4⟩
  · simp
  · simp [h4 _ _ (Nat.le_refl _)]
  · simp [h2 _ _ hlim]
  · simp [h2 _ _ hlim, h4 _ _ (Nat.le_refl _)]

theorem clen_le {w : World} {m : Mem} (hs : Sim ρ N (getName m) w) {n : Nat} {b : Blk} (hb : getName m n = some b) : clen b.c ≤ (ρ n).sz := by
  obtain ⟨_, _, _, _, _, _, _, h, _⟩ := (hs.blk n b hb).ex
  exact h

theorem sliceA_sound {m : Mem} {t : TypeId} {x : AV} {lo hi mx : Option AV} {vx : Value} {vlo vhi vmx : Option Value} {ob : List Bool} {av : AV} (h : sliceA P m t x lo hi mx = some (ob, av)) (ho : Paid ob)
    (hx : Rep ρ N x vx) (h1 : ORep ρ N lo vlo) (h2 : ORep ρ N hi vhi) (h3 : ORep ρ N mx vmx) (hs : Sim ρ N (getName m) w) :
    ∃ v, (Instr.sliceAt t vx vlo vhi vmx).run P w = .ok v w ∧ Rep ρ N av v := by
  unfold sliceA at h
  split at h
  · rename_i e ht
    cases hx with
    | nilslice =>
    cases vmx with
    | some v => exact h3.elim
    | none =>
    split at h
    · rename_i sz hsz
      obtain ⟨oa, ⟨sh, hh⟩, ob1, g1, g2, rfl⟩ := bind_some h
      obtain ⟨oc, ⟨sl, l⟩, od, g3, g4, rfl⟩ := bind_some g2
      obtain ⟨_, rfl⟩ := pure_some g4
      have p1 := (paid_append.1 ho).1
      have p2 := (paid_append.1 (paid_append.1 ho).2).1
      obtain ⟨q1, q2, q3⟩ := run_sliceBounds (P := P) (w := w) (isSlice := true) g1 g3 p1 p2 h2 h1 (Nat.le_refl 0) (Nat.le_refl 0)
      have e1 : hh = 0 := by omega
      have e2 : l = 0 := by omega
      subst e1 e2
      refine ⟨.slice none 0 0, ?_, .nilslice⟩
      simp only [Instr.sliceAt, Instr.slice, Sem.run_bind, run_underlying ht, Result.andThen_ok, Sem.run_pure, q1, run_sizeOf hsz]
      rfl
    · cases h
  · rename_i e s nm b o len cap ht
    cases hx with
    | wslice _ _ _ _ _ _ c ad hn hc hl hw had =>
    cases vmx with
    | some v => exact h3.elim
    | none =>
    split at h
    · rename_i sz hsz
      split at h
      · cases h
      · rename_i hes
        simp at hes
        subst hes
        obtain ⟨oa, ⟨sh, hh⟩, ob1, g1, g2, rfl⟩ := bind_some h
        obtain ⟨oc, ⟨sl, l⟩, od, g3, g4, rfl⟩ := bind_some g2
        obtain ⟨_, rfl⟩ := pure_some g4
        have p1 := (paid_append.1 ho).1
        have p2 := (paid_append.1 (paid_append.1 ho).2).1
        obtain ⟨q1, q2, q3⟩ := run_sliceBounds (P := P) (w := w) (isSlice := true) g1 g3 p1 p2 h2 h1 hl (Nat.le_refl len)
        refine ⟨.slice (some (if c = l then ad else ad.add (l * 1))) (hh - l) (c - l), ?_, .wslice _ _ _ _ _ _ (c - l) _ hn (fun c' hc' => ?_) (by omega) (by omega) ?_⟩
        · simp only [Instr.sliceAt, Instr.slice, Sem.run_bind, run_underlying ht, Result.andThen_ok, Sem.run_pure, q1, run_sizeOf hsz]
          by_cases hcl : c = l <;> simp [hcl]
        · cases cap with
          | none => simp at hc'
          | some c0 => simp at hc'; have := hc c0 rfl; omega
        · intro hpos
          rw [if_neg (by omega), had (by omega), addr_add]
          simp only [Nat.mul_one, Nat.add_assoc]
    · cases h
  · rename_i n e s nm o ht
    cases hx with
    | ptr _ _ _ hn =>
    cases vmx with
    | some v => exact h3.elim
    | none =>
    split at h
    · rename_i sz b hsz hb
      split at h
      · rename_i hrow
        simp only [Bool.and_eq_true, decide_eq_true_eq] at hrow
        obtain ⟨⟨_, hs1⟩, _⟩ := hrow
        subst hs1
        split at h
        · cases h
        · rename_i hfit
          simp only [Bool.not_eq_true', decide_eq_false_iff_not, Decidable.not_not] at hfit
          obtain ⟨oa, ⟨sh, hh⟩, ob1, g1, g2, rfl⟩ := bind_some h
          obtain ⟨oc, ⟨sl, l⟩, od, g3, g4, rfl⟩ := bind_some g2
          obtain ⟨_, rfl⟩ := pure_some g4
          have p1 := (paid_append.1 ho).1
          have p2 := (paid_append.1 (paid_append.1 ho).2).1
          obtain ⟨q1, q2, q3⟩ := run_sliceBounds (P := P) (w := w) (isSlice := false) g1 g3 p1 p2 h2 h1 (Nat.le_refl n) (Nat.le_refl n)
          have hcl := clen_le hs hb
          refine ⟨.slice (some (if n = l then ⟨(ρ nm).b, (ρ nm).sh + o, none⟩ else Addr.add ⟨(ρ nm).b, (ρ nm).sh + o, none⟩ (l * 1))) (hh - l) (n - l), ?_, .wslice _ _ _ _ _ _ (n - l) _ hn (fun c' hc' => by cases hc'; rfl) (by omega) (by omega) ?_⟩
          · simp only [Instr.sliceAt, Sem.run_bind, run_underlying ht, Result.andThen_ok, Instr.sureAddr, Sem.run_pure, q1, run_sizeOf hsz]
          · intro hpos
            rw [if_neg (by omega), addr_add]
            simp only [Nat.mul_one, Nat.add_assoc]
      split at h
      · cases h
      · rename_i hcond
        simp only [Bool.or_eq_true, Bool.not_eq_true', decide_eq_false_iff_not, not_or, Decidable.not_not] at hcond
        obtain ⟨_, hfit⟩ := hcond
        obtain ⟨oa, ⟨sh, hh⟩, ob1, g1, g2, rfl⟩ := bind_some h
        obtain ⟨oc, ⟨sl, l⟩, od, g3, g4, rfl⟩ := bind_some g2
        obtain ⟨_, rfl⟩ := pure_some g4
        have p1 := (paid_append.1 ho).1
        have p2 := (paid_append.1 (paid_append.1 ho).2).1
        obtain ⟨q1, q2, q3⟩ := run_sliceBounds (P := P) (w := w) (isSlice := false) g1 g3 p1 p2 h2 h1 (Nat.le_refl n) (Nat.le_refl n)
        have hcl := clen_le hs hb
        refine ⟨.slice (some (if n = l then ⟨(ρ nm).b, (ρ nm).sh + o, none⟩ else Addr.add ⟨(ρ nm).b, (ρ nm).sh + o, none⟩ (l * sz))) (hh - l) (n - l), ?_, .slice _ _ _ _ _ _ (n - l) _ hn (fun c' hc' => by cases hc'; rfl) (by omega) ?_ ?_⟩
        · simp only [Instr.sliceAt, Sem.run_bind, run_underlying ht, Result.andThen_ok, Instr.sureAddr, Sem.run_pure, q1, run_sizeOf hsz]
        · have : l * sz + (n - l) * sz = n * sz := by rw [← Nat.add_mul]; congr 1; omega
          omega
        · intro hpos
          rw [if_neg (by omega), addr_add, Nat.add_assoc]
    · cases h
  · rename_i e s nm o len cap es ht
    cases hx with
    | slice _ _ _ _ _ _ c ad hn hc hl hw had =>
    cases vmx with
    | some v => exact h3.elim
    | none =>
    split at h
    · rename_i sz hsz
      split at h
      · cases h
      · rename_i hes
        simp at hes
        subst hes
        obtain ⟨oa, ⟨sh, hh⟩, ob1, g1, g2, rfl⟩ := bind_some h
        obtain ⟨oc, ⟨sl, l⟩, od, g3, g4, rfl⟩ := bind_some g2
        obtain ⟨_, rfl⟩ := pure_some g4
        have p1 := (paid_append.1 ho).1
        have p2 := (paid_append.1 (paid_append.1 ho).2).1
        obtain ⟨q1, q2, q3⟩ := run_sliceBounds (P := P) (w := w) (isSlice := true) g1 g3 p1 p2 h2 h1 hl (Nat.le_refl len)
        refine ⟨.slice (some (if c = l then ad else ad.add (l * sz))) (hh - l) (c - l), ?_, .slice _ _ _ _ _ _ (c - l) _ hn (fun c' hc' => ?_) (by omega) ?_ ?_⟩
        · simp only [Instr.sliceAt, Instr.slice, Sem.run_bind, run_underlying ht, Result.andThen_ok, Sem.run_pure, q1, run_sizeOf hsz]
          by_cases hcl : c = l <;> simp [hcl]
        · cases cap with
          | none => simp at hc'
          | some c0 => simp at hc'; have := hc c0 rfl; omega
        · have : l * sz + (c - l) * sz = c * sz := by rw [← Nat.add_mul]; congr 1; omega
          omega
        · intro hpos
          rw [if_neg (by omega), had (by omega), addr_add, Nat.add_assoc]
    · cases h
  · cases h

theorem sliceM_sound {t : TypeId} {x : AV} {lo hi : Option AV} {mx : AV} {vx vmx : Value} {vlo vhi : Option Value} {ob : List Bool} {av : AV} (h : sliceM P t x lo hi mx = some (ob, av)) (ho : Paid ob)
    (hx : Rep ρ N x vx) (h1 : ORep ρ N lo vlo) (h2 : ORep ρ N hi vhi) (h3 : ORep ρ N (some mx) (some vmx)) :
    ∃ v, (Instr.sliceAt t vx vlo vhi (some vmx)).run P w = .ok v w ∧ Rep ρ N av v := by
  unfold sliceM at h
  split at h
  · rename_i e s nm o len cap es h0 ht
    cases hx with
    | slice _ _ _ _ _ _ c ad hn hc hl hw had =>
    split at h
    · rename_i sz hsz
      split at h
      · cases h
      · rename_i hes
        simp at hes
        subst hes
        obtain ⟨om, ⟨sm, mm⟩, ob0, f1, f2, rfl⟩ := bind_some h
        obtain ⟨oa, ⟨sh, hh⟩, ob1, g1, g2, rfl⟩ := bind_some f2
        obtain ⟨oc, ⟨sl, l⟩, od, g3, g4, rfl⟩ := bind_some g2
        obtain ⟨_, rfl⟩ := pure_some g4
        have p0 := (paid_append.1 ho).1
        have p1 := (paid_append.1 (paid_append.1 ho).2).1
        have p2 := (paid_append.1 (paid_append.1 (paid_append.1 ho).2).2).1
        have a0 := boundA_some (P := P) (w := w) f1 p0 h3
        have a1 := boundA_some (P := P) (w := w) g1 p1 h2
        have a2 := boundA_some (P := P) (w := w) g3 p2 h1
        rcases a0 with ⟨h, _, _⟩ | ⟨vm, hvm, m1, m2⟩
        · cases h
        · cases hvm
          rcases a1 with ⟨h, _, _⟩ | ⟨vh, hvh, k1, k2⟩
          · cases h
          · subst hvh
            have hll : l ≤ hh := by rcases a2 with ⟨_, _, rfl⟩ | ⟨v, _, h1, _⟩ <;> omega
            have q1 : (Instr.sliceBounds true len c vlo (some vh) (some vmx)).run P w = .ok (l, hh, mm) w := by
              unfold Instr.sliceBounds
              rcases a2 with ⟨_, rfl, rfl⟩ | ⟨u, rfl, h5, h6⟩
              · simp [m2 _ _ hl, k2 _ _ (Nat.le_refl _)]
              · simp [m2 _ _ hl, k2 _ _ (Nat.le_refl _), h6 _ _ (Nat.le_refl _)]
            refine ⟨.slice (some (if mm = l then ad else ad.add (l * sz))) (hh - l) (mm - l), ?_, .slice _ _ _ _ _ _ (mm - l) _ hn (fun c' hc' => by cases hc'; rfl) (by omega) ?_ ?_⟩
            · simp only [Instr.sliceAt, Instr.slice, Sem.run_bind, run_underlying ht, Result.andThen_ok, Sem.run_pure, q1, run_sizeOf hsz]
              by_cases hcl : mm = l <;> simp [hcl]
            · have e1 : l * sz + (mm - l) * sz = mm * sz := by rw [← Nat.add_mul]; congr 1; omega
              have e2 : mm * sz ≤ c * sz := Nat.mul_le_mul_right _ (by omega)
              omega
            · intro hpos
              rw [if_neg (by omega), had (by omega), addr_add, Nat.add_assoc]
    · cases h
  · cases h
theorem sliceB_sound {m : Mem} {t : TypeId} {x : AV} {lo hi mx : Option AV} {vx : Value} {vlo vhi vmx : Option Value} {ob : List Bool} {av : AV} (h : sliceB P m t x lo hi mx = some (ob, av)) (ho : Paid ob)
    (hx : Rep ρ N x vx) (h1 : ORep ρ N lo vlo) (h2 : ORep ρ N hi vhi) (h3 : ORep ρ N mx vmx) (hs : Sim ρ N (getName m) w) :
    ∃ v, (Instr.sliceAt t vx vlo vhi vmx).run P w = .ok v w ∧ Rep ρ N av v := by
  unfold sliceB at h
  split at h
  · cases vmx with
    | none => exact h3.elim
    | some v => exact sliceM_sound h ho hx h1 h2 h3
  · exact sliceA_sound h ho hx h1 h2 h3 hs

theorem toCells_rep {a : AV} {v : Value} (h : Rep ρ N a v) (ha : alive a = true) : CRep ρ N (toCells a) (fun i => v.cells[i]?) ∧ clen (toCells a) ≤ v.cells.size := by
  have hc := cellsOf_rep h ha
  have one : ∀ {a : AV} {v : Value}, Rep ρ N a v → cellsOf a = [a] → toCells a = .vals [a] → Reps ρ N (cellsOf a) v.cells.toList → CRep ρ N (toCells a) (fun i => v.cells[i]?) ∧ clen (toCells a) ≤ v.cells.size := by
    intro a v h e1 e2 hc
    rw [e2]
    rw [e1] at hc
    refine ⟨fun i b hb => ?_, ?_⟩
    · obtain ⟨u, h1, h2⟩ := hc.get i b hb
      exact ⟨u, by simpa using h1, h2⟩
    · have := hc.length; simp [clen] at this ⊢; omega
  cases a <;> simp [alive] at ha <;> try exact one h rfl rfl hc
  case ints k n l =>
    cases h with
    | ints _ _ _ hn hl =>
    refine ⟨⟨fun m hm => by cases hm; exact hn, fun i x hi => ⟨by simp [Value.cells, hi], hl x (List.mem_of_getElem? hi)⟩⟩, by simp [clen, toCells, Value.cells, hn]⟩
  case agg l =>
    refine ⟨fun i b hb => ?_, ?_⟩
    · obtain ⟨u, h1, h2⟩ := hc.get i b hb
      exact ⟨u, by simpa using h1, h2⟩
    · have := hc.length; simp [clen, toCells, cellsOf] at this ⊢; omega
  case bools n l =>
    cases h with
    | bools _ _ hn =>
    exact ⟨⟨hn, fun i x hi => by simp [Value.cells, hi]⟩, by simp [clen, toCells, Value.cells, hn]⟩
  case wagg l =>
    cases h with
    | wagg _ vs hw hl =>
    refine ⟨⟨hw, fun i b hb => ?_⟩, ?_⟩
    · obtain ⟨u, h1, h2⟩ := hl.get i b hb
      exact ⟨u, by simpa [Value.cells] using h1, h2⟩
    · have := hl.length; rw [exp_length] at this; simp [clen, toCells, Value.cells, this]

theorem orep_map {ev : Operand → AV} {rv : Operand → Value} (hev : ∀ x, Rep ρ N (ev x) (rv x)) (x : Option Operand) : ORep ρ N (x.map ev) (x.map rv) := by
  cases x with
  | none => trivial
  | some x => exact hev x

theorem ifaceA_sound {t : TypeId} {a : AV} {v : Value} {ob : List Bool} {av : AV} (h : ifaceA P t a = some (ob, av)) (hr : Rep ρ N a v) : ∃ u, (Instr.makeInterface t v).run P w = .ok u w ∧ Rep ρ N av u := by
  unfold ifaceA at h
  split at h
  · cases h
  · rename_i d hd hu
    obtain ⟨_, rfl⟩ := pure_some h
    refine ⟨.iface t v, ?_, .iface _ _ _ hr⟩
    unfold Instr.makeInterface
    simp only [Sem.run_bind, run_underlying hu, Result.andThen_ok]
    cases d <;> first | rfl | exact (hd _ rfl).elim
  · cases h

theorem opV_sound {m m' : Mem} {ev : Operand → AV} {rv : Operand → Value} {o : Oper} {ob : List Bool} {av : AV} (h : opA P ev m o.op = some (ob, (av, m'))) (ho : Paid ob) (hv : isV P o.op = true)
    (hev : ∀ x, Rep ρ N (ev x) (rv x)) (hs : Sim ρ N (getName m) w) : m' = m ∧ ∃ v, (execOp rv o).run P w = .ok (.value v) w ∧ Rep ρ N av v := by
  have val : ∀ {x : E AV} {s : Sem Value}, (E.bind x fun a => E.pure (a, m)) = some (ob, (av, m')) → (∀ ob av, x = some (ob, av) → Paid ob → ∃ v, s.run P w = .ok v w ∧ Rep ρ N av v) →
      m' = m ∧ ∃ v, (do pure (.value (← s)) : Sem Next).run P w = .ok (.value v) w ∧ Rep ρ N av v := by
    intro x s hx hs
    obtain ⟨o1, a, o2, g1, g2, rfl⟩ := bind_some hx
    obtain ⟨_, he⟩ := pure_some g2
    cases he
    obtain ⟨v, h1, h2⟩ := hs _ _ g1 (paid_append.1 ho).1
    exact ⟨rfl, v, by simp [h1], h2⟩
  obtain ⟨dst, op, type, pos, after, guard⟩ := o
  unfold opA at h
  cases op <;> simp only at h <;> (try (cases h; done)) <;> (try (simp [isV] at hv; done))
  case move x =>
    obtain ⟨_, he⟩ := pure_some h; cases he
    exact ⟨rfl, _, rfl, hev x⟩
  case assign x =>
    obtain ⟨_, he⟩ := pure_some h; cases he
    exact ⟨rfl, _, rfl, hev x⟩
  case pick c a b =>
    obtain ⟨o1, a', o2, g1, g2, rfl⟩ := bind_some h
    obtain ⟨_, he⟩ := pure_some g2
    cases he
    obtain ⟨t, v, h1, h2, h3⟩ := pickA_sound g1 (paid_append.1 ho).1 (hev c) (hev a) (hev b)
    exact ⟨rfl, v, by simp [execOp, h1, asBool, h2], h3⟩
  case build t parts =>
    refine val h fun ob av hb _ => buildA_sound hb (by simp) ?_
    have : ∀ l : List (Nat × Operand), Reps ρ N ((l.map fun (i, x) => (i, ev x)).map (·.2)) ((l.map fun (i, x) => (i, rv x)).map (·.2)) := by
      intro l
      induction l with
      | nil => exact .nil
      | cons p l ih => exact .cons _ _ _ _ (hev p.2) ih
    simpa using this parts.toList
  case load t a =>
    refine val (s := Instr.loadAt t (rv a)) h fun ob av hb hp => ?_
    obtain ⟨v, h1, ⟨x, hx⟩, h2⟩ := loadA_sound hb hp (hev a) hs
    exact ⟨v, by simp [Instr.loadAt, hx, Instr.sureAddr, h1 x hx], h2⟩
  case nilCheck x =>
    split at h
    · rename_i s n off hx
      obtain ⟨_, he⟩ := pure_some h
      cases he
      have hr := hev x
      rw [hx] at hr
      cases hv : rv x <;> rw [hv] at hr <;> try (cases hr; done)
      rename_i a
      refine ⟨rfl, .pointer a, ?_, hr⟩
      cases hr
      simp [execOp, hv]
    · rename_i s n b off hx
      obtain ⟨_, he⟩ := pure_some h
      cases he
      have hr := hev x
      rw [hx] at hr
      cases hv : rv x <;> rw [hv] at hr <;> try (cases hr; done)
      rename_i a
      refine ⟨rfl, .pointer a, ?_, hr⟩
      cases hr
      simp [execOp, hv]
    · rename_i s g off hx
      obtain ⟨_, he⟩ := pure_some h
      cases he
      have hr := hev x
      rw [hx] at hr
      cases hv : rv x <;> rw [hv] at hr <;> try (cases hr; done)
      rename_i a
      refine ⟨rfl, .pointer a, ?_, hr⟩
      cases hr
      simp [execOp, hv]
    · rename_i t a hx
      obtain ⟨_, he⟩ := pure_some h
      cases he
      have hr := hev x
      rw [hx] at hr
      cases hv : rv x <;> rw [hv] at hr <;> try (cases hr; done)
      rename_i t2 u
      exact ⟨rfl, .iface t2 u, by simp [execOp, hv], hr⟩
    · cases h
  case binOp op t x y yt => exact val h fun ob av hb hp => binS_sound hb hp (hev x) (hev y)
  case unOp op t x => exact val h fun ob av hb _ => unA_sound hb (hev x)
  case convert s d x =>
    split at h
    · rename_i e h2
      simp [isV, h2] at hv
    · exact val h fun ob av hb hp => convA_sound hb hp (hev x) hs
  case slice t x lo hi' mx => exact val h fun ob av hb hp => sliceB_sound hb hp (hev x) (orep_map hev lo) (orep_map hev hi') (orep_map hev mx) hs
  case fieldAddr t x f => exact val h fun ob av hb _ => fieldAddrA_sound hb (hev x)
  case sliceToArrayPointer t x => exact val h fun ob av hb hp => arrayAtA_sound hb hp (hev x)
  case makeInterface t x => exact val h fun ob av hb _ => ifaceA_sound hb (hev x)
  case field t x f => exact val h fun ob av hb _ => fieldA_sound hb (hev x)
  case indexAddr t x i => exact val h fun ob av hb hp => indexAddrA_sound hb hp (hev x) (hev i)
  case index t x i => exact val h fun ob av hb hp => indexA_sound hb hp (hev x) (hev i)
  case extract x i => exact val h fun ob av hb _ => extractA_sound hb (hev x)
  case call c =>
    obtain ⟨callee, args, argTypes⟩ := c
    cases callee with
    | value f => cases h
    | invoke r n => cases h
    | builtin b =>
      cases b <;> simp only at h <;> try (cases h; done)
      case len =>
        split at h
        · rename_i t x ht hx
          have := val (s := Builtin.len_ argTypes type (args.map rv)) h fun ob av hb hp => lenA_sound hb hp (hev x) type ht (by simp [hx])
          exact this
        · cases h
      case cap =>
        split at h
        · rename_i t x ht hx
          have := val (s := Builtin.cap_ argTypes type (args.map rv)) h fun ob av hb hp => capA_sound hb hp (hev x) type ht (by simp [hx])
          exact this
        · cases h
      case append => simp [isV, isVc] at hv
      case copy => simp [isV, isVc] at hv
      case clear => simp [isV, isVc] at hv
      case min =>
        split at h
        · rename_i x y hx
          split at h
          · rename_i s k a s' k' b h1 h2
            split at h
            · rename_i hk
              subst hk
              obtain ⟨_, he⟩ := pure_some h
              cases he
              have g1 := hev x
              have g2 := hev y
              rw [h1] at g1
              rw [h2] at g2
              have hx' : args = #[x, y] := Array.ext' (by simpa using hx)
              subst hx'
              generalize hv1 : rv x = v1 at g1
              generalize hv2 : rv y = v2 at g2
              cases g1 with
              | int _ _ _ r1 =>
              cases g2 with
              | int _ _ _ r2 =>
              refine ⟨rfl, .int k' (if b < a then b else a), ?_, .int _ _ _ (by split <;> assumption)⟩
              show (do pure (.value (← Builtin.min_ argTypes type (#[x, y].map rv))) : Sem Next).run P w = _
              simp [hv1, hv2, Builtin.min_, Builtin.min2]
            · cases h
          · cases h
        · rename_i x y z hx
          split at h
          · rename_i s k a s' k' b s2 k2 c h1 h2 h3
            split at h
            · rename_i hk
              obtain ⟨rfl, rfl⟩ := hk
              obtain ⟨_, he⟩ := pure_some h
              cases he
              have g1 := hev x
              have g2 := hev y
              have g3 := hev z
              rw [h1] at g1
              rw [h2] at g2
              rw [h3] at g3
              have hx' : args = #[x, y, z] := Array.ext' (by simpa using hx)
              subst hx'
              generalize hv1 : rv x = v1 at g1
              generalize hv2 : rv y = v2 at g2
              generalize hv3 : rv z = v3 at g3
              cases g1 with
              | int _ _ _ r1 =>
              cases g2 with
              | int _ _ _ r2 =>
              cases g3 with
              | int _ _ _ r3 =>
              refine ⟨rfl, .int _ (min3 a b c), ?_, .int _ _ _ (by unfold min3; split <;> (try split) <;> assumption)⟩
              show (do pure (.value (← Builtin.min_ argTypes type (#[x, y, z].map rv))) : Sem Next).run P w = _
              simp [hv1, hv2, hv3, Builtin.min_, Builtin.min2, min3]
            · cases h
          · cases h
        · cases h
      case max =>
        split at h
        · rename_i x y hx
          split at h
          · rename_i s k a s' k' b h1 h2
            split at h
            · rename_i hk
              subst hk
              obtain ⟨_, he⟩ := pure_some h
              cases he
              have g1 := hev x
              have g2 := hev y
              rw [h1] at g1
              rw [h2] at g2
              have hx' : args = #[x, y] := Array.ext' (by simpa using hx)
              subst hx'
              generalize hv1 : rv x = v1 at g1
              generalize hv2 : rv y = v2 at g2
              cases g1 with
              | int _ _ _ r1 =>
              cases g2 with
              | int _ _ _ r2 =>
              refine ⟨rfl, .int k' (if a < b then b else a), ?_, .int _ _ _ (by split <;> assumption)⟩
              show (do pure (.value (← Builtin.max_ argTypes type (#[x, y].map rv))) : Sem Next).run P w = _
              simp [hv1, hv2, Builtin.max_, Builtin.max2]
            · cases h
          · cases h
        · cases h

/-- An operation's run. -/
structure Ran (P : Program) (w0 : World) (S : Nat → Prop) (ρ : Nat → Loc3) (m : Mem) (w : World) (s : Sem Next) (av : AV) (m' : Mem) : Prop where
  ex : ∃ (v : Value) (w' : World) (ρ' : Nat → Loc3), (s.run P w = .ok (.value v) w' ∨ (s.run P w = .ok .skip w' ∧ v = undef)) ∧ Rep ρ' (upto m'.length) av v ∧
    Inv w0 S (upto m'.length) ρ' (getName m') w' ∧ Agr ρ ρ' (upto m.length)
  le : m.length ≤ m'.length

theorem zero_run {t : TypeId} {z : AV} (hz : zeroA P t = some z) (o : Oper) (ho : o.op = .alloc t) (rv : Operand → Value) :
    ∃ cs : Array Value, (execOp rv o).run P w = .ok (.value (.pointer (some ⟨w.heap.size, 0, none⟩))) (w.alloc (.cells cs t)) ∧ CRep ρ N (toCells z) (fun i => cs[i]?) ∧ clen (toCells z) ≤ cs.size := by
  obtain ⟨it, zv, g1, g2, g3, g4, g5⟩ := zeroA_sound (ρ := ρ) (N := N) (w := w) hz
  obtain ⟨c1, c2⟩ := toCells_rep g3 g4
  refine ⟨zv.cells, ?_, c1, c2⟩
  simp only [execOp, ho, Instr.alloc, Sem.run_bind, g5, Result.andThen_ok, newVar, newRow, run_newObj, Sem.run_pure]
  rfl
theorem box_run {t : TypeId} {x : Operand} (o : Oper) (ho : o.op = .box t x) (rv : Operand → Value) :
    (execOp rv o).run P w = .ok (.value (.pointer (some ⟨w.heap.size, 0, none⟩))) (w.alloc (.cells (rv x).cells t)) := by
  simp only [execOp, ho, Instr.box, Sem.run_bind, Result.andThen_ok, newVar, newRow, run_newObj, Sem.run_pure]
  rfl

theorem new_name {m : Mem} {c : Cells} : ∀ n b, getName (m ++ [some (Blk.mk true c)]) n = some b → getName m n = some b ∨ (n = m.length ∧ b = ⟨true, c⟩) := by
  intro n b h
  rcases getName_append h with h | ⟨h1, h2⟩
  · exact Or.inl h
  · exact Or.inr ⟨h1, by cases h2; rfl⟩

end
end Go.Ev
