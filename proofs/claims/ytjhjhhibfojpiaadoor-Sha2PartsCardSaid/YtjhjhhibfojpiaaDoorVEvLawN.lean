/- Loops whose variables go over to new blocks, each round by a handler of its own. Own work. -/
import Derived.Test.YtjhjhhibfojpiaaDoorVEvRen
import Derived.Test.YtjhjhhibfojpiaaDoorVEvView
import Derived.ChangeSlices
set_option linter.unusedSimpArgs false
set_option linter.unusedVariables false
set_option linter.unusedSectionVars false
namespace Go.Ev
set_option linter.unusedSectionVars false
variable [Tab]
section
variable {P : Program} {Λ : LoopH} {k0 : Nat}
end
end Go.Ev
namespace Go.Ev
set_option linter.unusedSectionVars false
variable [Tab]
open Go.ChangeShapes Go.WideShapes Go.ChangeAt Go.RowKit
/-- What a function is called with, view by view. -/
inductive VOks (W : World) : Nat → List V → List Value → Prop
  | nil (j : Nat) : VOks W j [] []
  | cons (j : Nat) (x : V) (v : Value) (xs : List V) (vs : List Value) (h : ∃ L, VOk W j L x v) (hs : VOks W (j + 1) xs vs) : VOks W j (x :: xs) (v :: vs)

def noW : List V → Bool
  | [] => true
  | .ptw _ :: _ => false
  | _ :: r => noW r
theorem VOks.all {W : World} : ∀ {xs : List V} {j : Nat} {vs : List Value}, VOks W j xs vs → noW xs = true →
    ∃ Ls : Nat → Loc3, (∀ (ρ' : Nat → Loc3) (N' : Nat → Prop), (∀ i, i < xs.length → ρ' (j + i) = Ls i ∧ N' (j + i)) → Reps ρ' N' (cArgs j xs) vs) ∧
      ∀ i b, getName (cMem xs) i = some b → b.rw = false ∧ ∀ (ρ' : Nat → Loc3) (N' : Nat → Prop), ρ' (j + i) = Ls i → BRep ρ' N' W (j + i) b
  | [], j, vs, h, _ => by
    cases h
    exact ⟨fun _ => ⟨0, 0, 0⟩, fun _ _ _ => .nil, fun i b hb => by simp [cMem, getName] at hb⟩
  | x :: xs, j, vs, h, hw => by
    have hx : (∀ c, x ≠ .ptw c) ∧ noW xs = true := by
      cases x <;> simp [noW] at hw <;> exact ⟨(fun c e => by cases e), hw⟩
    cases h with
    | cons _ _ v _ vs h hs =>
      obtain ⟨L, k1, k2⟩ := h
      obtain ⟨Ls, k3, k4⟩ := VOks.all hs hx.2
      refine ⟨fun i => match i with | 0 => L | i + 1 => Ls i, fun ρ' N' hρ => ?_, fun i b hb => ?_⟩
      · refine .cons _ _ _ _ (k1 ρ' N' (hρ 0 (by simp)).1 (hρ 0 (by simp)).2) (k3 ρ' N' fun i hi => ?_)
        have := hρ (i + 1) (by simpa using hi)
        rw [show j + 1 + i = j + (i + 1) by omega]
        exact this
      · cases i with
        | zero =>
          have hb' : cBlk x = some b := by
            unfold getName cMem at hb
            simp at hb
            cases hx : cBlk x <;> simp_all
          refine ⟨?_, (k2 b hb').2⟩
          cases hrw : b.rw with
          | false => rfl
          | true => obtain ⟨c, hc⟩ := (k2 b hb').1 hrw; exact (hx.1 c hc).elim
        | succ i =>
          have hb' : getName (cMem xs) i = some b := by
            unfold getName cMem at hb ⊢
            simpa using hb
          have := k4 i b hb'
          rw [show j + 1 + i = j + (i + 1) by omega] at this
          exact this

theorem VOks.start {W : World} {xs : List V} {vs : List Value} (h : VOks W 0 xs vs) (hw : noW xs = true) (hT : TRep W) : ∃ ρ, Reps ρ (upto (cMem xs).length) (cArgs 0 xs) vs ∧ Inv W (fun _ => False) (upto (cMem xs).length) ρ (getName (cMem xs)) W := by
  obtain ⟨Ls, c1, c2⟩ := h.all hw
  have hcm : (cMem xs).length = xs.length := by simp [cMem]
  rw [hcm]
  refine ⟨Ls, c1 Ls (upto xs.length) fun i hi => by rw [Nat.zero_add]; exact ⟨rfl, hi⟩, ?_⟩
  refine Inv.start _ ⟨fun n b hn => ?_, fun i j bi bj hi hj hij hr => ?_, fun n b hn => ?_, hT, fun G c hG n b hn hr => by rw [(c2 n b hn).1] at hr; cases hr⟩ fun n b hn hr => ?_
  · have := (c2 n b hn).2 Ls (upto xs.length) (by rw [Nat.zero_add])
    rwa [Nat.zero_add] at this
  · rw [(c2 i bi hi).1] at hr; cases hr
  · have := getName_lt hn
    rw [hcm] at this
    exact this
  · rw [(c2 n b hn).1] at hr; cases hr

theorem VOk.plain {W : World} {j : Nat} {a : AV} {v : Value} (h : ∀ (ρ : Nat → Loc3) (N : Nat → Prop), Rep ρ N a v) : ∃ L, VOk W j L (.pl a) v :=
  ⟨⟨0, 0, 0⟩, fun ρ N _ _ => h ρ N, fun b hb => by cases hb⟩
theorem VOk.empty {W : World} {j : Nat} {a : Addr} : ∃ L, VOk W j L .empty (.slice (some a) 0 0) :=
  ⟨⟨0, 0, 0⟩, fun ρ N hρ hN => .slice false j 0 0 none 1 0 a hN (by intro c h; cases h) (Nat.le_refl _) (by simp) (by intro h; omega), fun b hb => by cases hb⟩
/-- A slice of numbers that came in. -/
theorem VOk.slice {W : World} {j : Nat} {a : Addr} {len cap : Nat} {k : IntKind} {zs : List Int} (s : Bool) (hz : zs.length = cap) (hl : len ≤ cap) (h0 : 0 < cap) (hc : ∀ i, i < zs.length → W.cell? (a.add i) = some (.int k (zs.getD i 0)))
    (hw : ∀ n ∈ zs, inR k n = true) : ∃ L, VOk W j L (.buf s k len (zs.take len)) (.slice (some a) len cap) := by
  have h1 := hc 0 (by omega)
  obtain ⟨b, off, spot⟩ := a
  unfold World.cell? at h1
  split at h1
  case h_2 => cases h1
  rename_i cs t fr hh
  split at h1
  · cases h1
  rename_i hsp
  have hsp' : spot = none := by
    cases spot with
    | none => rfl
    | some x => simp [Addr.add] at hsp
  subst hsp'
  have hh' : W.heap[b]? = some (.cells cs t fr) := by
    rw [addr_add] at hh; exact hh
  have cell : ∀ i, i < cap → cs[off + i]? = some (.int k (zs.getD i 0)) := fun i hi => by
    have := hc i (by omega)
    rwa [addr_add, cell_row hh'] at this
  have hsz : off + cap ≤ cs.size := by
    have := (Array.getElem?_eq_some_iff.1 (cell (cap - 1) (by omega))).1
    omega
  refine ⟨⟨b, off, cap⟩, fun ρ N hρ hN => ?_, fun b' hb' => ?_⟩
  · refine .slice s j 0 len none 1 cap _ hN (by intro c h; cases h) hl ?_ ?_
    · rw [hρ]; show 0 + cap * 1 ≤ cap; omega
    · intro _; rw [hρ]; rfl
  · cases hb'
    refine ⟨(fun h => by cases h), fun ρ N hρ => ⟨cs, t, fr.1, fr.2, by rw [hρ]; exact hh', by rw [hρ]; exact hsz, (by intro h; cases h), by rw [hρ]; exact hl, ?_⟩⟩
    refine ⟨(by intro m h; cases h; simp; omega), fun i y hy => ?_⟩
    have hi : i < len := by
      have := (List.getElem?_eq_some_iff.1 hy).1
      simp at this; omega
    rw [List.getElem?_take_of_lt hi] at hy
    refine ⟨?_, hw y (List.mem_of_getElem? hy)⟩
    rw [hρ]
    have := cell i (by omega)
    rw [List.getD, hy] at this
    exact this

section
variable {P : Program} {q : FuncId → Bool} {H : CallH}
end
theorem okWide_slice {P : Program} {W : World} {r : Reach} {base : Nat} {t e : TypeId} {v : Value} (ht : P.underlying t = some (.slice e)) (h : Value.okWide P W r base t v) : ∃ a l c, v = .slice a l c := by
  unfold Value.okWide at h
  rw [ht] at h
  simp only at h
  unfold Cell.okWide at h
  rw [ht] at h
  cases v <;> simp only at h <;> (try (unfold Cell.ok at h; rw [ht] at h; simp only at h)) <;> first | exact ⟨_, _, _, rfl⟩ | exact h.elim
theorem wf_inR' {k : IntKind} {n : Int} (h : (Lit.int k n).wf = true) : inR k n = true := by
  have h' : (decide (k.min ≤ n) && decide (n ≤ k.max)) = true := h
  rw [loP, hiP] at h'
  exact h'
section
variable {H : Type} {enc : TypeId × Value → H} {P : Program}
end
end Go.Ev
namespace Go.Ev
set_option linter.unusedSectionVars false
variable [Tab]
def seeV (j : Nat) (T : Tree (AV × Mem)) : Option (List Bool × AV × Option (Option Blk)) := match T.flat with | some (o, (v, m)) => some (o, v, m[j]?) | none => none
/-- The names below k stay, the next one is j. -/
def oneR (k j n : Nat) : Nat := match Nat.beq n k with | true => j | false => n
theorem oneR_fix (k j : Nat) : fixB (oneR k j) k = true := List.all_eq_true.2 fun i hi => by
  have := List.mem_range.1 hi
  unfold oneR
  cases hb : Nat.beq i k with
  | true => have := Nat.eq_of_beq_eq_true hb; omega
  | false => exact Nat.beq_refl i
theorem oneR_inj {k j : Nat} (h : k ≤ j) : injB (oneR k j) (k + 1) = true := List.all_eq_true.2 fun a ha => List.all_eq_true.2 fun b hb => by
  have h1 := List.mem_range.1 ha
  have h2 := List.mem_range.1 hb
  have hn : ∀ {x y : Nat}, x ≠ y → Nat.beq x y = false := fun {x y} hxy => by
    cases h : Nat.beq x y with
    | true => exact absurd (Nat.eq_of_beq_eq_true h) hxy
    | false => rfl
  by_cases hab : a = b
  · subst hab; rw [show Nat.beq a a = true from Nat.beq_refl a]; rfl
  · have : oneR k j a ≠ oneR k j b := by
      unfold oneR
      by_cases hak : a = k
      · subst hak
        rw [show Nat.beq a a = true from Nat.beq_refl a, hn (Ne.symm hab)]
        simp only
        omega
      · rw [hn hak]
        by_cases hbk : b = k
        · subst hbk
          rw [show Nat.beq b b = true from Nat.beq_refl b]
          simp only
          omega
        · rw [hn hbk]; exact hab
    rw [hn this]
    cases Nat.beq a b <;> rfl
section
variable {P : Program} {q : FuncId → Bool} {H : CallH} {Λ : LoopH}
theorem viewN_one (hm : P.follows .mixedOrders = true) (hng : noCount P = true) (hH : HOk P H) {n : Nat} {g : FuncId} {xs : List V} (hΛ : ∀ fn c, P.funcs[g]? = some fn → fn.body = some c → LOkN xs.length P c Λ) {o : List Bool} {v v' : AV} {k : IntKind} {sz : Option Nat} {l : List Int} (ds : List Bool) (j : Nat)
    (h : seeV j ((funcL P q H Λ n g (cArgs 0 xs) (cMem xs)).go ds) = some (o, v', some (some ⟨true, .ints k sz l⟩))) (ho : Paid o) (hj : xs.length ≤ j) (hv : v' = renA (oneR xs.length j) (upA xs.length v)) (hba : bndA (xs.length + 1) (upA xs.length v) = true) :
    ViewCall P g xs v [some ⟨true, .ints k sz l⟩] := by
  unfold seeV at h
  split at h
  · rename_i o' v2 m' hf
    simp only [Option.some.injEq, Prod.mk.injEq] at h
    obtain ⟨h1, h2, h3⟩ := h
    subst h1 h2
    have one : oneR xs.length j (0 + xs.length) = j := by
      unfold oneR
      rw [show Nat.beq (0 + xs.length) xs.length = true by rw [Nat.zero_add]; exact Nat.beq_refl _]
    have pulls : ∀ (a b : Nat) (M : Mem), Pulls (oneR xs.length j) m' (b + a) M → Pulls (oneR xs.length j) m' b (List.replicate a none ++ M) := by
      intro a
      induction a with
      | zero => intro b M h; exact h
      | succ a ih =>
        intro b M h
        rw [List.replicate_succ, List.cons_append]
        exact ih (b + 1) M (by rw [show b + 1 + a = b + (a + 1) by omega]; exact h)
    have bnd : ∀ (a k' : Nat) (M : Mem), bndM k' M = true → bndM k' (List.replicate a none ++ M) = true := by
      intro a
      induction a with
      | zero => intro k' M h; exact h
      | succ a ih => intro k' M h; rw [List.replicate_succ, List.cons_append]; exact ih k' M h
    intro ρ vs w ha hi
    exact viewN_of_goR (bs := [some ⟨true, .ints k sz l⟩]) hm hng hH hΛ ds (oneR xs.length j) hf ho hv hba (pulls _ 0 _ ⟨⟨_, by rw [one]; exact h3, .refl _⟩, trivial⟩) (bnd _ _ _ rfl) (oneR_inj hj) (oneR_fix _ _) ha hi
  · cases h
end
/-- An empty slice, whatever its room. -/
theorem VOk.emptyC {W : World} {j : Nat} {a : Addr} {cap : Nat} {k : IntKind} {zs : List Int} (hz : zs.length = cap) (hc : ∀ i, i < zs.length → W.cell? (a.add i) = some (.int k (zs.getD i 0))) : ∃ L, VOk W j L .empty (.slice (some a) 0 cap) := by
  by_cases h0 : cap = 0
  · subst h0; exact VOk.empty
  · have h1 := hc 0 (by omega)
    obtain ⟨b, off, spot⟩ := a
    unfold World.cell? at h1
    split at h1
    case h_2 => cases h1
    rename_i cs t fr hh
    split at h1
    · cases h1
    rename_i hsp
    have hsp' : spot = none := by
      cases spot with
      | none => rfl
      | some x => simp [Addr.add] at hsp
    subst hsp'
    refine ⟨⟨b, off, cap⟩, fun ρ N hρ hN => .slice false j 0 0 none 1 cap _ hN (by intro c h; cases h) (Nat.zero_le _) ?_ fun _ => ?_, fun b' hb' => by cases hb'⟩
    · rw [hρ]; show 0 + cap * 1 ≤ cap; omega
    · rw [hρ]; rfl
/-- Bytes that came in: none, no bytes, or some. -/
theorem VOk.bytes {W : World} (j : Nat) {v : Value} {m : Nat} (hv : v = .slice none 0 0 ∨ ∃ (a : Addr) (len cap : Nat) (zs : List Int), v = .slice (some a) len cap ∧ len ≤ cap ∧ cap ≤ m ∧ zs.length = cap ∧ (∀ i, i < zs.length → W.cell? (a.add i) = some (.int .u8 (zs.getD i 0))) ∧ ∀ n ∈ zs, inR .u8 n = true) :
    (∃ L, VOk W j L (.pl .nilslice) v) ∨ (∃ L, VOk W j L .empty v) ∨ ∃ (n : Nat) (l : List Int), 1 ≤ n ∧ n ≤ m ∧ l.length = n ∧ (∀ x ∈ l, inR .u8 x = true) ∧ ∃ L, VOk W j L (.buf true .u8 n l) v := by
  rcases hv with rfl | ⟨ad, len, cap, zs, rfl, hlen, hcap, hz, hc, hw⟩
  · exact Or.inl (VOk.plain fun ρ N => .nilslice)
  · by_cases h0 : len = 0
    · subst h0; exact Or.inr (Or.inl (VOk.emptyC hz hc))
    · refine Or.inr (Or.inr ⟨len, zs.take len, by omega, by omega, by rw [List.length_take]; omega, fun x hx => hw x (List.mem_of_mem_take hx), VOk.slice true hz hlen (by omega) hc hw⟩)
end Go.Ev
namespace Go.Ev
set_option linter.unusedSectionVars false
variable [Tab]
open Go.ChangeShapes Go.WideShapes Go.ChangeAt Go.RowKit
section
variable {P : Program} {q : FuncId → Bool} {H : CallH} {Λ : LoopH}
end
end Go.Ev
