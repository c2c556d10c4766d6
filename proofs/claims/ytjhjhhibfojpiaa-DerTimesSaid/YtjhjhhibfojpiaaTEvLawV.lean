/- Laws whose arguments hold slices. Own work. -/
import Derived.Test.YtjhjhhibfojpiaaTEvView
import Derived.ChangeSlices
set_option linter.unusedSimpArgs false
set_option linter.unusedVariables false
set_option linter.unusedSectionVars false
namespace Go.Ev
set_option linter.unusedSectionVars false
variable [Tab]
open Go.ChangeShapes Go.WideShapes Go.ChangeAt Go.RowKit
/-- What a function is called with, view by view. -/
inductive VOks (W : World) : Nat → List V → List Value → Prop
  | nil (j : Nat) : VOks W j [] []
  | cons (j : Nat) (x : V) (v : Value) (xs : List V) (vs : List Value) (h : ∃ L, VOk W j L x v) (hs : VOks W (j + 1) xs vs) : VOks W j (x :: xs) (v :: vs)

def noW : List V → Bool
  | [] => true
  | .ptw _ :: _ => false
  | _ :: r => noW r
theorem VOks.all {W : World} : ∀ {xs : List V} {j : Nat} {vs : List Value}, VOks W j xs vs → noW xs = true →
    ∃ Ls : Nat → Loc3, (∀ (ρ' : Nat → Loc3) (N' : Nat → Prop), (∀ i, i < xs.length → ρ' (j + i) = Ls i ∧ N' (j + i)) → Reps ρ' N' (cArgs j xs) vs) ∧
      ∀ i b, getName (cMem xs) i = some b → b.rw = false ∧ ∀ (ρ' : Nat → Loc3) (N' : Nat → Prop), ρ' (j + i) = Ls i → BRep ρ' N' W (j + i) b
  | [], j, vs, h, _ => by
    cases h
    exact ⟨fun _ => ⟨0, 0, 0⟩, fun _ _ _ => .nil, fun i b hb => by simp [cMem, getName] at hb⟩
  | x :: xs, j, vs, h, hw => by
    have hx : (∀ c, x ≠ .ptw c) ∧ noW xs = true := by
      cases x <;> simp [noW] at hw <;> exact ⟨(fun c e => by cases e), hw⟩
    cases h with
    | cons _ _ v _ vs h hs =>
      obtain ⟨L, k1, k2⟩ := h
      obtain ⟨Ls, k3, k4⟩ := VOks.all hs hx.2
      refine ⟨fun i => match i with | 0 => L | i + 1 => Ls i, fun ρ' N' hρ => ?_, fun i b hb => ?_⟩
      · refine .cons _ _ _ _ (k1 ρ' N' (hρ 0 (by simp)).1 (hρ 0 (by simp)).2) (k3 ρ' N' fun i hi => ?_)
        have := hρ (i + 1) (by simpa using hi)
        rw [show j + 1 + i = j + (i + 1) by omega]
        exact this
      · cases i with
        | zero =>
          have hb' : cBlk x = some b := by
            unfold getName cMem at hb
            simp at hb
            cases hx : cBlk x <;> simp_all
          refine ⟨?_, (k2 b hb').2⟩
          cases hrw : b.rw with
          | false => rfl
          | true => obtain ⟨c, hc⟩ := (k2 b hb').1 hrw; exact (hx.1 c hc).elim
        | succ i =>
          have hb' : getName (cMem xs) i = some b := by
            unfold getName cMem at hb ⊢
            simpa using hb
          have := k4 i b hb'
          rw [show j + 1 + i = j + (i + 1) by omega] at this
          exact this

theorem VOks.start {W : World} {xs : List V} {vs : List Value} (h : VOks W 0 xs vs) (hw : noW xs = true) (hT : TRep W) : ∃ ρ, Reps ρ (upto (cMem xs).length) (cArgs 0 xs) vs ∧ Inv W (fun _ => False) (upto (cMem xs).length) ρ (getName (cMem xs)) W := by
  obtain ⟨Ls, c1, c2⟩ := h.all hw
  have hcm : (cMem xs).length = xs.length := by simp [cMem]
  rw [hcm]
  refine ⟨Ls, c1 Ls (upto xs.length) fun i hi => by rw [Nat.zero_add]; exact ⟨rfl, hi⟩, ?_⟩
  refine Inv.start _ ⟨fun n b hn => ?_, fun i j bi bj hi hj hij hr => ?_, fun n b hn => ?_, hT, fun G c hG n b hn hr => by rw [(c2 n b hn).1] at hr; cases hr⟩ fun n b hn hr => ?_
  · have := (c2 n b hn).2 Ls (upto xs.length) (by rw [Nat.zero_add])
    rwa [Nat.zero_add] at this
  · rw [(c2 i bi hi).1] at hr; cases hr
  · have := getName_lt hn
    rw [hcm] at this
    exact this
  · rw [(c2 n b hn).1] at hr; cases hr

theorem VOk.plain {W : World} {j : Nat} {a : AV} {v : Value} (h : ∀ (ρ : Nat → Loc3) (N : Nat → Prop), Rep ρ N a v) : ∃ L, VOk W j L (.pl a) v :=
  ⟨⟨0, 0, 0⟩, fun ρ N _ _ => h ρ N, fun b hb => by cases hb⟩
theorem VOk.empty {W : World} {j : Nat} {a : Addr} : ∃ L, VOk W j L .empty (.slice (some a) 0 0) :=
  ⟨⟨0, 0, 0⟩, fun ρ N hρ hN => .slice false j 0 0 none 1 0 a hN (by intro c h; cases h) (Nat.le_refl _) (by simp) (by intro h; omega), fun b hb => by cases hb⟩
/-- A slice of numbers that came in. -/
theorem VOk.slice {W : World} {j : Nat} {a : Addr} {len cap : Nat} {k : IntKind} {zs : List Int} (s : Bool) (hz : zs.length = cap) (hl : len ≤ cap) (h0 : 0 < cap) (hc : ∀ i, i < zs.length → W.cell? (a.add i) = some (.int k (zs.getD i 0)))
    (hw : ∀ n ∈ zs, inR k n = true) : ∃ L, VOk W j L (.buf s k len (zs.take len)) (.slice (some a) len cap) := by
  have h1 := hc 0 (by omega)
  obtain ⟨b, off, spot⟩ := a
  unfold World.cell? at h1
  split at h1
  case h_2 => cases h1
  rename_i cs t fr hh
  split at h1
  · cases h1
  rename_i hsp
  have hsp' : spot = none := by
    cases spot with
    | none => rfl
    | some x => simp [Addr.add] at hsp
  subst hsp'
  have hh' : W.heap[b]? = some (.cells cs t fr) := by
    rw [addr_add] at hh; exact hh
  have cell : ∀ i, i < cap → cs[off + i]? = some (.int k (zs.getD i 0)) := fun i hi => by
    have := hc i (by omega)
    rwa [addr_add, cell_row hh'] at this
  have hsz : off + cap ≤ cs.size := by
    have := (Array.getElem?_eq_some_iff.1 (cell (cap - 1) (by omega))).1
    omega
  refine ⟨⟨b, off, cap⟩, fun ρ N hρ hN => ?_, fun b' hb' => ?_⟩
  · refine .slice s j 0 len none 1 cap _ hN (by intro c h; cases h) hl ?_ ?_
    · rw [hρ]; show 0 + cap * 1 ≤ cap; omega
    · intro _; rw [hρ]; rfl
  · cases hb'
    refine ⟨(fun h => by cases h), fun ρ N hρ => ⟨cs, t, fr.1, fr.2, by rw [hρ]; exact hh', by rw [hρ]; exact hsz, (by intro h; cases h), by rw [hρ]; exact hl, ?_⟩⟩
    refine ⟨(by intro m h; cases h; simp; omega), fun i y hy => ?_⟩
    have hi : i < len := by
      have := (List.getElem?_eq_some_iff.1 hy).1
      simp at this; omega
    rw [List.getElem?_take_of_lt hi] at hy
    refine ⟨?_, hw y (List.mem_of_getElem? hy)⟩
    rw [hρ]
    have := cell i (by omega)
    rw [List.getD, hy] at this
    exact this

section
variable {P : Program} {q : FuncId → Bool} {H : CallH}
end
theorem okWide_slice {P : Program} {W : World} {r : Reach} {base : Nat} {t e : TypeId} {v : Value} (ht : P.underlying t = some (.slice e)) (h : Value.okWide P W r base t v) : ∃ a l c, v = .slice a l c := by
  unfold Value.okWide at h
  rw [ht] at h
  simp only at h
  unfold Cell.okWide at h
  rw [ht] at h
  cases v <;> simp only at h <;> (try (unfold Cell.ok at h; rw [ht] at h; simp only at h)) <;> first | exact ⟨_, _, _, rfl⟩ | exact h.elim
theorem wf_inR' {k : IntKind} {n : Int} (h : (Lit.int k n).wf = true) : inR k n = true := by
  have h' : (decide (k.min ≤ n) && decide (n ≤ k.max)) = true := h
  rw [loP, hiP] at h'
  exact h'
section
variable {H : Type} {enc : TypeId × Value → H} {P : Program}
end
end Go.Ev
