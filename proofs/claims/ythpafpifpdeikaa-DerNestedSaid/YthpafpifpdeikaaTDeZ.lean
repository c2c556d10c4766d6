/- Elements one in the other: the loop that reads, as a family. Own work. -/
import Derived.Test.YthpafpifpdeikaaTDeY
set_option linter.unusedSimpArgs false
set_option linter.unusedVariables false
set_option linter.unusedSectionVars false
namespace Go.Proofs.Ythpafpifpdeikaa
open Go.Ev Go.De
set_option maxRecDepth 100000
set_option linter.unusedSimpArgs false
set_option linter.unusedVariables false
variable [Tab]
def twoR (a b n : Nat) : Nat := match Nat.beq n 2 with
  | true => a
  | false => match Nat.beq n 3 with | true => b | false => n
def p2AB (s : p2A) : List Int := [4, 0]
def p2AO (s : p2A) : List Bool := [decide (s.C = nest (p2AB s) s.K.toNat), decide ((p2AB s).length ≤ 210), decide (1 ≤ s.K), decide (s.K ≤ 60), decide (s.o = 0), decide (s.L = s.C.length), decide (s.i = 0)]
def p2AE (s : p2A) (j o L : Nat) : p2A := { s with i := (j : Int), o := o, L := L }
def p2AF (s : p2A) : List (Nat × AV) × Mem := ([(1, s.ka), (6, .ptr false 3 0)], p2AM (p2AE s s.K.toNat (s.C.length - (p2AB s).length) (p2AB s).length))
def p2APat : List AV → Mem → Option p2A
  | [ka, .ptr false 5 0, .int true .i64 K, .int _ .i64 i], [none, none, _, none, some ⟨true, .ints .u8 none C⟩, some ⟨true, .vals [.slice true 4 o L none 1, .bool false false]⟩] => if hk : bndA 2 ka = true then some ⟨K, i, o, L, C, ka, hk⟩ else none
  | _, _ => none
def p2AΛ (Λ : LoopH) : LoopH := famH 2 50 p2ATs p2APat p2AO p2AF Λ
theorem p2A_go {s : p2A} {a b : Nat} {m : Mem} {i : Int} {bi : Bool} {o L : Nat} (hinj : injB (twoR a b) 4 = true) (hf : fixB (twoR a b) 2 = true) (hm1 : m[1]? = some (p2AM s)[1]!) (hma : m[a]? = some (some ⟨true, .ints .u8 none s.C⟩)) (hmb : m[b]? = some (some ⟨true, .vals [.slice true a o L none 1, .bool false false]⟩)) (ho : o = s.o) (hl : L = s.L) (hi : i = s.i) :
    Goes 2 (twoR a b) p2ATs [s.ka, .ptr false b 0, .int true .i64 s.K, .int bi .i64 i] m (zipU p2ATs (p2AV s)) (p2AM s) := by
  subst ho hl hi
  refine Goes.zip ?_ ?_ hinj hf (show 2 ≤ 4 by decide) rfl ?_
  · exact .cons (by rw [renA_fix (k := 2) (fun i hi => fixB_of hf hi) _ s.hk]; exact .refl _) (.cons (.refl _) (.cons (.refl _) (.cons (.int bi true .i64 s.i) .nil)))
  · exact ⟨⟨_, hma, .refl _⟩, ⟨_, hmb, .refl _⟩, trivial⟩
  · simp [p2AM, p2AV, bndL, bndA, bndA_le (show 2 ≤ 4 by decide) _ s.hk]
theorem p2A_lok {Λ : LoopH} (hΛ : LOkN 2 Try.prog (bodyOf Try.prog 10) Λ) : LOkN 2 Try.prog (bodyOf Try.prog 10) (p2AΛ Λ) := by
  refine famR_okx (n := 100) p2AV p2AM (fun s s1 => s.C = nest (p2AB s) s.K.toNat ∧ (p2AB s).length ≤ 210 ∧ 1 ≤ s.K ∧ s.K ≤ 60 ∧ ∃ j o L : Nat, (j : Int) ≤ s.K ∧ List.drop o s.C = nest (p2AB s) (s.K.toNat - j) ∧ L = (nest (p2AB s) (s.K.toNat - j)).length ∧ o + L = s.C.length ∧ s1 = p2AE s j o L) (fun s => (s.K - s.i).toNat) mixed hΛ (by kernel_rfl) (by kernel_rfl) (fun avs m s h ho => ?_) (fun s s1 hJ => ?_)
  · unfold p2APat at h
    split at h
    · split at h
      case isFalse => cases h
      cases h
      have o1 := of_decide_eq_true (ho _ (List.mem_cons_self ..))
      have o2 := of_decide_eq_true (ho _ (List.mem_cons_of_mem _ (List.mem_cons_self ..)))
      have o3 := of_decide_eq_true (ho _ (List.mem_cons_of_mem _ (List.mem_cons_of_mem _ (List.mem_cons_self ..))))
      have o4 := of_decide_eq_true (ho _ (List.mem_cons_of_mem _ (List.mem_cons_of_mem _ (List.mem_cons_of_mem _ (List.mem_cons_self ..)))))
      have o5 := of_decide_eq_true (ho _ (List.mem_cons_of_mem _ (List.mem_cons_of_mem _ (List.mem_cons_of_mem _ (List.mem_cons_of_mem _ (List.mem_cons_self ..))))))
      have o6 := of_decide_eq_true (ho _ (List.mem_cons_of_mem _ (List.mem_cons_of_mem _ (List.mem_cons_of_mem _ (List.mem_cons_of_mem _ (List.mem_cons_of_mem _ (List.mem_cons_self ..)))))))
      have o7 := of_decide_eq_true (ho _ (List.mem_cons_of_mem _ (List.mem_cons_of_mem _ (List.mem_cons_of_mem _ (List.mem_cons_of_mem _ (List.mem_cons_of_mem _ (List.mem_cons_of_mem _ (List.mem_cons_self ..))))))))
      simp only at o5 o6 o7
      refine ⟨⟨_, _, _, _, _, _, (by assumption)⟩, twoR 4 5, p2A_go (s := ⟨_, _, _, _, _, _, (by assumption)⟩) (a := 4) (b := 5) rfl rfl rfl rfl rfl rfl rfl rfl, o1, o2, o3, o4, 0, 0, _, Int.le_trans (show ((0 : Nat) : Int) ≤ 1 by decide) o3, o1, rfl, ?_, ?_⟩
      · rw [Nat.sub_zero, ← o1]; exact Nat.zero_add _
      · subst o5 o6 o7
        show _ = p2AE _ 0 0 _
        unfold p2AE
        rw [Nat.sub_zero, ← o1]
        rfl
    · cases h
  · obtain ⟨h1, h2, h3, h4, j, o, L, hj, hd, hL, hCl, rfl⟩ := hJ
    by_cases hlt : (j : Int) < s.K
    · obtain ⟨r, hr⟩ : ∃ r, s.K.toNat - j = r + 1 := ⟨s.K.toNat - j - 1, by omega⟩
      have hr2 : s.K.toNat - (j + 1) = r := by omega
      have hm := nest_len (p2AB s) r
      rw [hr] at hd hL
      have hd' : List.drop (p2AE s j o L).o (p2AE s j o L).C = putB 48 (nest (p2AB s) r) := hd
      have hm6 : (nest (p2AB s) r).length ≤ 600 := by omega
      have hii : (p2AE s j o L).i < (p2AE s j o L).K := hlt
      have hCl' : (p2AE s j o L).o + (p2AE s j o L).L = (p2AE s j o L).C.length := hCl
      have hw : IntKind.wrap .i64 ((p2AE s j o L).i + 1) = ((j + 1 : Nat) : Int) := by show IntKind.wrap .i64 ((j : Int) + 1) = ((j + 1 : Nat) : Int); rw [wrap64]; omega
      have hmu : ∀ a b : Nat, ((p2AE s (j + 1) a b).K - (p2AE s (j + 1) a b).i).toNat < ((p2AE s j o L).K - (p2AE s j o L).i).toNat := fun a b => by show (s.K - ((j + 1 : Nat) : Int)).toNat < (s.K - (j : Int)).toNat; omega
      have drp : ∀ h : Nat, (putB 48 (nest (p2AB s) r)).length = h + (nest (p2AB s) r).length → List.drop h (putB 48 (nest (p2AB s) r)) = nest (p2AB s) r → ∃ j' o' L' : Nat, (j' : Int) ≤ s.K ∧ List.drop o' s.C = nest (p2AB s) (s.K.toNat - j') ∧ L' = (nest (p2AB s) (s.K.toNat - j')).length ∧ o' + L' = s.C.length ∧ p2AE s (j + 1) (o + h) (nest (p2AB s) r).length = p2AE s j' o' L' := fun h e1 e2 =>
        ⟨j + 1, o + h, (nest (p2AB s) r).length, by omega, by rw [← List.drop_drop, hd, hr2]; exact e2, by rw [hr2], by
          have : L = (putB 48 (nest (p2AB s) r)).length := hL
          omega, rfl⟩
      by_cases hk : (nest (p2AB s) r).length < 128
      · have hE := p2A_e1 (s := p2AE s j o L) hd' hm6 hk
        have hB : putB 48 (nest (p2AB s) r) = 48 :: ([((nest (p2AB s) r).length : Int)] ++ nest (p2AB s) r) := by unfold putB; rw [lenB_1 hk]
        have hBl : (putB 48 (nest (p2AB s) r)).length = 2 + (nest (p2AB s) r).length := by rw [hB]; simp only [List.length_cons, List.length_append, List.length_nil]; omega
        have hLL : L = 2 + (nest (p2AB s) r).length := hL.trans hBl
        have ev := p2A_t1 (p2AE s j o L)
        rw [hE, hw] at ev
        refine ⟨qA, dA (stH 1 n0) 5, fun _ _ => none, dA_ok (stH_ok n0_ok 1) 5, LOkN.none, RoundR.on ev (p2AE s (j + 1) (o + 2) (nest (p2AB s) r).length) (twoR 2 4) (p2AD1_paid hd' hLL hCl' hm6 hii hk)
          (p2A_go (s := p2AE s (j + 1) (o + 2) (nest (p2AB s) r).length) (a := 2) (b := 4) rfl rfl rfl rfl rfl rfl ?_ rfl) ⟨h1, h2, h3, h4, drp 2 hBl (by rw [hB]; rfl)⟩ (hmu _ _)⟩
        show (((2 + (nest (p2AB s) r).length : Nat) : Int)).toNat - 2 = (nest (p2AB s) r).length
        omega
      have hk1 := hk
      clear hk
      by_cases hk : (nest (p2AB s) r).length < 256
      · have hE := p2A_e2 (s := p2AE s j o L) hd' hm6 hk1 hk
        have hB : putB 48 (nest (p2AB s) r) = 48 :: ([129, ((nest (p2AB s) r).length : Int)] ++ nest (p2AB s) r) := by unfold putB; rw [lenB_2 hk1 hk]
        have hBl : (putB 48 (nest (p2AB s) r)).length = 3 + (nest (p2AB s) r).length := by rw [hB]; simp only [List.length_cons, List.length_append, List.length_nil]; omega
        have hLL : L = 3 + (nest (p2AB s) r).length := hL.trans hBl
        have ev := p2A_t2 (p2AE s j o L)
        rw [hE, hw] at ev
        refine ⟨qA, dA (stH 2 n0) 5, fun _ _ => none, dA_ok (stH_ok n0_ok 2) 5, LOkN.none, RoundR.on ev (p2AE s (j + 1) (o + 3) (nest (p2AB s) r).length) (twoR 2 4) (p2AD2_paid hd' hLL hCl' hm6 hii hk1 hk)
          (p2A_go (s := p2AE s (j + 1) (o + 3) (nest (p2AB s) r).length) (a := 2) (b := 4) rfl rfl rfl rfl rfl rfl ?_ rfl) ⟨h1, h2, h3, h4, drp 3 hBl (by rw [hB]; rfl)⟩ (hmu _ _)⟩
        show (((3 + (nest (p2AB s) r).length : Nat) : Int)).toNat - 3 = (nest (p2AB s) r).length
        omega
      have hk2 := hk
      clear hk
      by_cases hk : True
      · have hE := p2A_e3 (s := p2AE s j o L) hd' hm6 hk2
        have hB : putB 48 (nest (p2AB s) r) = 48 :: ([130, ((nest (p2AB s) r).length : Int) / 256, ((nest (p2AB s) r).length : Int) % 256] ++ nest (p2AB s) r) := by unfold putB; rw [lenB_3 hk2]
        have hBl : (putB 48 (nest (p2AB s) r)).length = 4 + (nest (p2AB s) r).length := by rw [hB]; simp only [List.length_cons, List.length_append, List.length_nil]; omega
        have hLL : L = 4 + (nest (p2AB s) r).length := hL.trans hBl
        have ev := p2A_t3 (p2AE s j o L)
        rw [hE, hw] at ev
        refine ⟨qA, dA (stH 3 n0) 5, fun _ _ => none, dA_ok (stH_ok n0_ok 3) 5, LOkN.none, RoundR.on ev (p2AE s (j + 1) (o + 4) (nest (p2AB s) r).length) (twoR 2 4) (p2AD3_paid hd' hLL hCl' hm6 hii hk2)
          (p2A_go (s := p2AE s (j + 1) (o + 4) (nest (p2AB s) r).length) (a := 2) (b := 4) rfl rfl rfl rfl rfl rfl ?_ rfl) ⟨h1, h2, h3, h4, drp 4 hBl (by rw [hB]; rfl)⟩ (hmu _ _)⟩
        show (((4 + (nest (p2AB s) r).length : Nat) : Int)).toNat - 4 = (nest (p2AB s) r).length
        omega
      · exact absurd trivial hk
    · have ej : j = s.K.toNat := by omega
      subst ej
      rw [Nat.sub_self] at hd hL
      have hd0 : List.drop o s.C = p2AB s := hd
      have hL0 : L = (p2AB s).length := hL
      have hoo : o = s.C.length - (p2AB s).length := by omega
      subst hL0 hoo
      refine ⟨qA, dA (stH 1 n0) 5, fun _ _ => none, dA_ok (stH_ok n0_ok 1) 5, LOkN.none, RoundR.out (p2A_f _) rfl (twoR 2 3) (paid_cons (by simp only [Bool.not_eq_true', decide_eq_false_iff_not]; show ¬ ((s.K.toNat : Int) < s.K); omega) fun _ h => by cases h) ?_⟩
      have hg := p2A_go (s := p2AE s s.K.toNat (s.C.length - (p2AB s).length) (p2AB s).length) (a := 2) (b := 3) (m := p2AM (p2AE s s.K.toNat (s.C.length - (p2AB s).length) (p2AB s).length)) (bi := true) rfl rfl rfl rfl rfl rfl rfl rfl
      refine ⟨fun p hp => hg.slots p ?_, hg.pulls, hg.inj, hg.fix, hg.le, hg.bm, ?_⟩
      · simp only [p2AF, List.mem_cons, List.not_mem_nil, or_false] at hp
        rcases hp with rfl | rfl <;> simp [zipU, p2ATs, p2AV, p2AE]
      · simp [p2AF, p2AM, p2AE, bndL, bndA, bndA_le (show 2 ≤ 4 by decide) _ s.hk]
def p2BB (s : p2B) : List Int := putB 4 s.l
def p2BO (s : p2B) : List Bool := [decide (s.C = nest (p2BB s) s.K.toNat), decide ((p2BB s).length ≤ 210), decide (1 ≤ s.K), decide (s.K ≤ 60), decide (s.o = 0), decide (s.L = s.C.length), decide (s.i = 0)]
def p2BE (s : p2B) (j o L : Nat) : p2B := { s with i := (j : Int), o := o, L := L }
def p2BF (s : p2B) : List (Nat × AV) × Mem := ([(1, .slice true 1 0 s.N2 none 1), (6, .ptr false 3 0)], p2BM (p2BE s s.K.toNat (s.C.length - (p2BB s).length) (p2BB s).length))
def p2BPat : List AV → Mem → Option p2B
  | [.slice true 1 0 N2 none 1, .ptr false 5 0, .int true .i64 K, .int _ .i64 i], [none, some ⟨false, .ints .u8 (some N) l⟩, _, none, some ⟨true, .ints .u8 none C⟩, some ⟨true, .vals [.slice true 4 o L none 1, .bool false false]⟩] => some ⟨K, i, o, L, C, N, N2, l⟩
  | _, _ => none
def p2BΛ (Λ : LoopH) : LoopH := famH 2 50 p2BTs p2BPat p2BO p2BF Λ
theorem p2B_go {s : p2B} {a b : Nat} {m : Mem} {i : Int} {bi : Bool} {o L : Nat} (hinj : injB (twoR a b) 4 = true) (hf : fixB (twoR a b) 2 = true) (hm1 : m[1]? = some (p2BM s)[1]!) (hma : m[a]? = some (some ⟨true, .ints .u8 none s.C⟩)) (hmb : m[b]? = some (some ⟨true, .vals [.slice true a o L none 1, .bool false false]⟩)) (ho : o = s.o) (hl : L = s.L) (hi : i = s.i) :
    Goes 2 (twoR a b) p2BTs [.slice true 1 0 s.N2 none 1, .ptr false b 0, .int true .i64 s.K, .int bi .i64 i] m (zipU p2BTs (p2BV s)) (p2BM s) := by
  subst ho hl hi
  refine Goes.zip ?_ ?_ hinj hf (show 2 ≤ 4 by decide) rfl ?_
  · exact .cons (.refl _) (.cons (.refl _) (.cons (.refl _) (.cons (.int bi true .i64 s.i) .nil)))
  · exact ⟨⟨_, hm1, .refl _⟩, ⟨_, hma, .refl _⟩, ⟨_, hmb, .refl _⟩, trivial⟩
  · simp [p2BM, p2BV, bndL, bndA]
theorem p2B_lok {Λ : LoopH} (hΛ : LOkN 2 Try.prog (bodyOf Try.prog 10) Λ) : LOkN 2 Try.prog (bodyOf Try.prog 10) (p2BΛ Λ) := by
  refine famR_okx (n := 100) p2BV p2BM (fun s s1 => s.C = nest (p2BB s) s.K.toNat ∧ (p2BB s).length ≤ 210 ∧ 1 ≤ s.K ∧ s.K ≤ 60 ∧ ∃ j o L : Nat, (j : Int) ≤ s.K ∧ List.drop o s.C = nest (p2BB s) (s.K.toNat - j) ∧ L = (nest (p2BB s) (s.K.toNat - j)).length ∧ o + L = s.C.length ∧ s1 = p2BE s j o L) (fun s => (s.K - s.i).toNat) mixed hΛ (by kernel_rfl) (by kernel_rfl) (fun avs m s h ho => ?_) (fun s s1 hJ => ?_)
  · unfold p2BPat at h
    split at h
    · cases h
      have o1 := of_decide_eq_true (ho _ (List.mem_cons_self ..))
      have o2 := of_decide_eq_true (ho _ (List.mem_cons_of_mem _ (List.mem_cons_self ..)))
      have o3 := of_decide_eq_true (ho _ (List.mem_cons_of_mem _ (List.mem_cons_of_mem _ (List.mem_cons_self ..))))
      have o4 := of_decide_eq_true (ho _ (List.mem_cons_of_mem _ (List.mem_cons_of_mem _ (List.mem_cons_of_mem _ (List.mem_cons_self ..)))))
      have o5 := of_decide_eq_true (ho _ (List.mem_cons_of_mem _ (List.mem_cons_of_mem _ (List.mem_cons_of_mem _ (List.mem_cons_of_mem _ (List.mem_cons_self ..))))))
      have o6 := of_decide_eq_true (ho _ (List.mem_cons_of_mem _ (List.mem_cons_of_mem _ (List.mem_cons_of_mem _ (List.mem_cons_of_mem _ (List.mem_cons_of_mem _ (List.mem_cons_self ..)))))))
      have o7 := of_decide_eq_true (ho _ (List.mem_cons_of_mem _ (List.mem_cons_of_mem _ (List.mem_cons_of_mem _ (List.mem_cons_of_mem _ (List.mem_cons_of_mem _ (List.mem_cons_of_mem _ (List.mem_cons_self ..))))))))
      simp only at o5 o6 o7
      refine ⟨⟨_, _, _, _, _, _, _, _⟩, twoR 4 5, p2B_go (s := ⟨_, _, _, _, _, _, _, _⟩) (a := 4) (b := 5) rfl rfl rfl rfl rfl rfl rfl rfl, o1, o2, o3, o4, 0, 0, _, Int.le_trans (show ((0 : Nat) : Int) ≤ 1 by decide) o3, o1, rfl, ?_, ?_⟩
      · rw [Nat.sub_zero, ← o1]; exact Nat.zero_add _
      · subst o5 o6 o7
        show _ = p2BE _ 0 0 _
        unfold p2BE
        rw [Nat.sub_zero, ← o1]
        rfl
    · cases h
  · obtain ⟨h1, h2, h3, h4, j, o, L, hj, hd, hL, hCl, rfl⟩ := hJ
    by_cases hlt : (j : Int) < s.K
    · obtain ⟨r, hr⟩ : ∃ r, s.K.toNat - j = r + 1 := ⟨s.K.toNat - j - 1, by omega⟩
      have hr2 : s.K.toNat - (j + 1) = r := by omega
      have hm := nest_len (p2BB s) r
      rw [hr] at hd hL
      have hd' : List.drop (p2BE s j o L).o (p2BE s j o L).C = putB 48 (nest (p2BB s) r) := hd
      have hm6 : (nest (p2BB s) r).length ≤ 600 := by omega
      have hii : (p2BE s j o L).i < (p2BE s j o L).K := hlt
      have hCl' : (p2BE s j o L).o + (p2BE s j o L).L = (p2BE s j o L).C.length := hCl
      have hw : IntKind.wrap .i64 ((p2BE s j o L).i + 1) = ((j + 1 : Nat) : Int) := by show IntKind.wrap .i64 ((j : Int) + 1) = ((j + 1 : Nat) : Int); rw [wrap64]; omega
      have hmu : ∀ a b : Nat, ((p2BE s (j + 1) a b).K - (p2BE s (j + 1) a b).i).toNat < ((p2BE s j o L).K - (p2BE s j o L).i).toNat := fun a b => by show (s.K - ((j + 1 : Nat) : Int)).toNat < (s.K - (j : Int)).toNat; omega
      have drp : ∀ h : Nat, (putB 48 (nest (p2BB s) r)).length = h + (nest (p2BB s) r).length → List.drop h (putB 48 (nest (p2BB s) r)) = nest (p2BB s) r → ∃ j' o' L' : Nat, (j' : Int) ≤ s.K ∧ List.drop o' s.C = nest (p2BB s) (s.K.toNat - j') ∧ L' = (nest (p2BB s) (s.K.toNat - j')).length ∧ o' + L' = s.C.length ∧ p2BE s (j + 1) (o + h) (nest (p2BB s) r).length = p2BE s j' o' L' := fun h e1 e2 =>
        ⟨j + 1, o + h, (nest (p2BB s) r).length, by omega, by rw [← List.drop_drop, hd, hr2]; exact e2, by rw [hr2], by
          have : L = (putB 48 (nest (p2BB s) r)).length := hL
          omega, rfl⟩
      by_cases hk : (nest (p2BB s) r).length < 128
      · have hE := p2B_e1 (s := p2BE s j o L) hd' hm6 hk
        have hB : putB 48 (nest (p2BB s) r) = 48 :: ([((nest (p2BB s) r).length : Int)] ++ nest (p2BB s) r) := by unfold putB; rw [lenB_1 hk]
        have hBl : (putB 48 (nest (p2BB s) r)).length = 2 + (nest (p2BB s) r).length := by rw [hB]; simp only [List.length_cons, List.length_append, List.length_nil]; omega
        have hLL : L = 2 + (nest (p2BB s) r).length := hL.trans hBl
        have ev := p2B_t1 (p2BE s j o L)
        rw [hE, hw] at ev
        refine ⟨qA, dA (stH 1 n0) 5, fun _ _ => none, dA_ok (stH_ok n0_ok 1) 5, LOkN.none, RoundR.on ev (p2BE s (j + 1) (o + 2) (nest (p2BB s) r).length) (twoR 2 4) (p2BD1_paid hd' hLL hCl' hm6 hii hk)
          (p2B_go (s := p2BE s (j + 1) (o + 2) (nest (p2BB s) r).length) (a := 2) (b := 4) rfl rfl rfl rfl rfl rfl ?_ rfl) ⟨h1, h2, h3, h4, drp 2 hBl (by rw [hB]; rfl)⟩ (hmu _ _)⟩
        show (((2 + (nest (p2BB s) r).length : Nat) : Int)).toNat - 2 = (nest (p2BB s) r).length
        omega
      have hk1 := hk
      clear hk
      by_cases hk : (nest (p2BB s) r).length < 256
      · have hE := p2B_e2 (s := p2BE s j o L) hd' hm6 hk1 hk
        have hB : putB 48 (nest (p2BB s) r) = 48 :: ([129, ((nest (p2BB s) r).length : Int)] ++ nest (p2BB s) r) := by unfold putB; rw [lenB_2 hk1 hk]
        have hBl : (putB 48 (nest (p2BB s) r)).length = 3 + (nest (p2BB s) r).length := by rw [hB]; simp only [List.length_cons, List.length_append, List.length_nil]; omega
        have hLL : L = 3 + (nest (p2BB s) r).length := hL.trans hBl
        have ev := p2B_t2 (p2BE s j o L)
        rw [hE, hw] at ev
        refine ⟨qA, dA (stH 2 n0) 5, fun _ _ => none, dA_ok (stH_ok n0_ok 2) 5, LOkN.none, RoundR.on ev (p2BE s (j + 1) (o + 3) (nest (p2BB s) r).length) (twoR 2 4) (p2BD2_paid hd' hLL hCl' hm6 hii hk1 hk)
          (p2B_go (s := p2BE s (j + 1) (o + 3) (nest (p2BB s) r).length) (a := 2) (b := 4) rfl rfl rfl rfl rfl rfl ?_ rfl) ⟨h1, h2, h3, h4, drp 3 hBl (by rw [hB]; rfl)⟩ (hmu _ _)⟩
        show (((3 + (nest (p2BB s) r).length : Nat) : Int)).toNat - 3 = (nest (p2BB s) r).length
        omega
      have hk2 := hk
      clear hk
      by_cases hk : True
      · have hE := p2B_e3 (s := p2BE s j o L) hd' hm6 hk2
        have hB : putB 48 (nest (p2BB s) r) = 48 :: ([130, ((nest (p2BB s) r).length : Int) / 256, ((nest (p2BB s) r).length : Int) % 256] ++ nest (p2BB s) r) := by unfold putB; rw [lenB_3 hk2]
        have hBl : (putB 48 (nest (p2BB s) r)).length = 4 + (nest (p2BB s) r).length := by rw [hB]; simp only [List.length_cons, List.length_append, List.length_nil]; omega
        have hLL : L = 4 + (nest (p2BB s) r).length := hL.trans hBl
        have ev := p2B_t3 (p2BE s j o L)
        rw [hE, hw] at ev
        refine ⟨qA, dA (stH 3 n0) 5, fun _ _ => none, dA_ok (stH_ok n0_ok 3) 5, LOkN.none, RoundR.on ev (p2BE s (j + 1) (o + 4) (nest (p2BB s) r).length) (twoR 2 4) (p2BD3_paid hd' hLL hCl' hm6 hii hk2)
          (p2B_go (s := p2BE s (j + 1) (o + 4) (nest (p2BB s) r).length) (a := 2) (b := 4) rfl rfl rfl rfl rfl rfl ?_ rfl) ⟨h1, h2, h3, h4, drp 4 hBl (by rw [hB]; rfl)⟩ (hmu _ _)⟩
        show (((4 + (nest (p2BB s) r).length : Nat) : Int)).toNat - 4 = (nest (p2BB s) r).length
        omega
      · exact absurd trivial hk
    · have ej : j = s.K.toNat := by omega
      subst ej
      rw [Nat.sub_self] at hd hL
      have hd0 : List.drop o s.C = p2BB s := hd
      have hL0 : L = (p2BB s).length := hL
      have hoo : o = s.C.length - (p2BB s).length := by omega
      subst hL0 hoo
      refine ⟨qA, dA (stH 1 n0) 5, fun _ _ => none, dA_ok (stH_ok n0_ok 1) 5, LOkN.none, RoundR.out (p2B_f _) rfl (twoR 2 3) (paid_cons (by simp only [Bool.not_eq_true', decide_eq_false_iff_not]; show ¬ ((s.K.toNat : Int) < s.K); omega) fun _ h => by cases h) ?_⟩
      have hg := p2B_go (s := p2BE s s.K.toNat (s.C.length - (p2BB s).length) (p2BB s).length) (a := 2) (b := 3) (m := p2BM (p2BE s s.K.toNat (s.C.length - (p2BB s).length) (p2BB s).length)) (bi := true) rfl rfl rfl rfl rfl rfl rfl rfl
      refine ⟨fun p hp => hg.slots p ?_, hg.pulls, hg.inj, hg.fix, hg.le, hg.bm, ?_⟩
      · simp only [p2BF, List.mem_cons, List.not_mem_nil, or_false] at hp
        rcases hp with rfl | rfl <;> simp [zipU, p2BTs, p2BV, p2BE]
      · simp [p2BF, p2BM, p2BE, bndL, bndA]
end Go.Proofs.Ythpafpifpdeikaa
