/- Contracts out of what is seen of a call's end: its value, and one block of numbers. Own work. -/
import Derived.Test.YtjhjhhibfojpiaaTEvRen
import Derived.Test.YtjhjhhibfojpiaaTEvLawV
set_option linter.unusedSimpArgs false
set_option linter.unusedVariables false
set_option linter.unusedSectionVars false
namespace Go.Ev
set_option linter.unusedSectionVars false
variable [Tab]
def seeV (j : Nat) (T : Tree (AV × Mem)) : Option (List Bool × AV × Option (Option Blk)) := match T.flat with | some (o, (v, m)) => some (o, v, m[j]?) | none => none
/-- The names below k stay, the next one is j. -/
def oneR (k j n : Nat) : Nat := match Nat.beq n k with | true => j | false => n
theorem oneR_fix (k j : Nat) : fixB (oneR k j) k = true := List.all_eq_true.2 fun i hi => by
  have := List.mem_range.1 hi
  unfold oneR
  cases hb : Nat.beq i k with
  | true => have := Nat.eq_of_beq_eq_true hb; omega
  | false => exact Nat.beq_refl i
theorem oneR_inj {k j : Nat} (h : k ≤ j) : injB (oneR k j) (k + 1) = true := List.all_eq_true.2 fun a ha => List.all_eq_true.2 fun b hb => by
  have h1 := List.mem_range.1 ha
  have h2 := List.mem_range.1 hb
  have hn : ∀ {x y : Nat}, x ≠ y → Nat.beq x y = false := fun {x y} hxy => by
    cases h : Nat.beq x y with
    | true => exact absurd (Nat.eq_of_beq_eq_true h) hxy
    | false => rfl
  by_cases hab : a = b
  · subst hab; rw [show Nat.beq a a = true from Nat.beq_refl a]; rfl
  · have : oneR k j a ≠ oneR k j b := by
      unfold oneR
      by_cases hak : a = k
      · subst hak
        rw [show Nat.beq a a = true from Nat.beq_refl a, hn (Ne.symm hab)]
        simp only
        omega
      · rw [hn hak]
        by_cases hbk : b = k
        · subst hbk
          rw [show Nat.beq b b = true from Nat.beq_refl b]
          simp only
          omega
        · rw [hn hbk]; exact hab
    rw [hn this]
    cases Nat.beq a b <;> rfl
section
variable {P : Program} {q : FuncId → Bool} {H : CallH} {Λ : LoopH}
theorem viewN_one (hm : P.follows .mixedOrders = true) (hng : noCount P = true) (hH : HOk P H) {n : Nat} {g : FuncId} {xs : List V} (hΛ : ∀ fn c, P.funcs[g]? = some fn → fn.body = some c → LOkN xs.length P c Λ) {o : List Bool} {v v' : AV} {k : IntKind} {sz : Option Nat} {l : List Int} (ds : List Bool) (j : Nat)
    (h : seeV j ((funcL P q H Λ n g (cArgs 0 xs) (cMem xs)).go ds) = some (o, v', some (some ⟨true, .ints k sz l⟩))) (ho : Paid o) (hj : xs.length ≤ j) (hv : v' = renA (oneR xs.length j) (upA xs.length v)) (hba : bndA (xs.length + 1) (upA xs.length v) = true) :
    ViewCall P g xs v [some ⟨true, .ints k sz l⟩] := by
  unfold seeV at h
  split at h
  · rename_i o' v2 m' hf
    simp only [Option.some.injEq, Prod.mk.injEq] at h
    obtain ⟨h1, h2, h3⟩ := h
    subst h1 h2
    have one : oneR xs.length j (0 + xs.length) = j := by
      unfold oneR
      rw [show Nat.beq (0 + xs.length) xs.length = true by rw [Nat.zero_add]; exact Nat.beq_refl _]
    have pulls : ∀ (a b : Nat) (M : Mem), Pulls (oneR xs.length j) m' (b + a) M → Pulls (oneR xs.length j) m' b (List.replicate a none ++ M) := by
      intro a
      induction a with
      | zero => intro b M h; exact h
      | succ a ih =>
        intro b M h
        rw [List.replicate_succ, List.cons_append]
        exact ih (b + 1) M (by rw [show b + 1 + a = b + (a + 1) by omega]; exact h)
    have bnd : ∀ (a k' : Nat) (M : Mem), bndM k' M = true → bndM k' (List.replicate a none ++ M) = true := by
      intro a
      induction a with
      | zero => intro k' M h; exact h
      | succ a ih => intro k' M h; rw [List.replicate_succ, List.cons_append]; exact ih k' M h
    intro ρ vs w ha hi
    exact viewN_of_goR (bs := [some ⟨true, .ints k sz l⟩]) hm hng hH hΛ ds (oneR xs.length j) hf ho hv hba (pulls _ 0 _ ⟨⟨_, by rw [one]; exact h3, .refl _⟩, trivial⟩) (bnd _ _ _ rfl) (oneR_inj hj) (oneR_fix _ _) ha hi
  · cases h
end
/-- An empty slice, whatever its room. -/
theorem VOk.emptyC {W : World} {j : Nat} {a : Addr} {cap : Nat} {k : IntKind} {zs : List Int} (hz : zs.length = cap) (hc : ∀ i, i < zs.length → W.cell? (a.add i) = some (.int k (zs.getD i 0))) : ∃ L, VOk W j L .empty (.slice (some a) 0 cap) := by
  by_cases h0 : cap = 0
  · subst h0; exact VOk.empty
  · have h1 := hc 0 (by omega)
    obtain ⟨b, off, spot⟩ := a
    unfold World.cell? at h1
    split at h1
    case h_2 => cases h1
    rename_i cs t fr hh
    split at h1
    · cases h1
    rename_i hsp
    have hsp' : spot = none := by
      cases spot with
      | none => rfl
      | some x => simp [Addr.add] at hsp
    subst hsp'
    refine ⟨⟨b, off, cap⟩, fun ρ N hρ hN => .slice false j 0 0 none 1 cap _ hN (by intro c h; cases h) (Nat.zero_le _) ?_ fun _ => ?_, fun b' hb' => by cases hb'⟩
    · rw [hρ]; show 0 + cap * 1 ≤ cap; omega
    · rw [hρ]; rfl
/-- Bytes that came in: none, no bytes, or some. -/
theorem VOk.bytes {W : World} (j : Nat) {v : Value} {m : Nat} (hv : v = .slice none 0 0 ∨ ∃ (a : Addr) (len cap : Nat) (zs : List Int), v = .slice (some a) len cap ∧ len ≤ cap ∧ cap ≤ m ∧ zs.length = cap ∧ (∀ i, i < zs.length → W.cell? (a.add i) = some (.int .u8 (zs.getD i 0))) ∧ ∀ n ∈ zs, inR .u8 n = true) :
    (∃ L, VOk W j L (.pl .nilslice) v) ∨ (∃ L, VOk W j L .empty v) ∨ ∃ (n : Nat) (l : List Int), 1 ≤ n ∧ n ≤ m ∧ l.length = n ∧ (∀ x ∈ l, inR .u8 x = true) ∧ ∃ L, VOk W j L (.buf true .u8 n l) v := by
  rcases hv with rfl | ⟨ad, len, cap, zs, rfl, hlen, hcap, hz, hc, hw⟩
  · exact Or.inl (VOk.plain fun ρ N => .nilslice)
  · by_cases h0 : len = 0
    · subst h0; exact Or.inr (Or.inl (VOk.emptyC hz hc))
    · refine Or.inr (Or.inr ⟨len, zs.take len, by omega, by omega, by rw [List.length_take]; omega, fun x hx => hw x (List.mem_of_mem_take hx), VOk.slice true hz hlen (by omega) hc hw⟩)
end Go.Ev
