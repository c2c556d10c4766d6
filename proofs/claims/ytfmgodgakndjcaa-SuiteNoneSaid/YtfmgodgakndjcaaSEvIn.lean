/- Laws whose arguments hold slices. Own work. -/
import Derived.Test.YtfmgodgakndjcaaSEvView
import Derived.ChangeSlices
import Derived.Test.YtfmgodgakndjcaaSEvRen
import Derived.Test.YtfmgodgakndjcaaSChM
import Derived.Test.YtfmgodgakndjcaaSEvLoop
set_option linter.unusedSimpArgs false
set_option linter.unusedVariables false
set_option linter.unusedSectionVars false
namespace Go.Ev
set_option linter.unusedSectionVars false
variable [Tab]
open Go.ChangeShapes Go.WideShapes Go.ChangeAt Go.RowKit
/-- What a function is called with, view by view. -/
inductive VOks (W : World) : Nat → List V → List Value → Prop
  | nil (j : Nat) : VOks W j [] []
  | cons (j : Nat) (x : V) (v : Value) (xs : List V) (vs : List Value) (h : ∃ L, VOk W j L x v) (hs : VOks W (j + 1) xs vs) : VOks W j (x :: xs) (v :: vs)

def noW : List V → Bool
  | [] => true
  | .ptw _ :: _ => false
  | _ :: r => noW r
theorem VOks.all {W : World} : ∀ {xs : List V} {j : Nat} {vs : List Value}, VOks W j xs vs → noW xs = true →
    ∃ Ls : Nat → Loc3, (∀ (ρ' : Nat → Loc3) (N' : Nat → Prop), (∀ i, i < xs.length → ρ' (j + i) = Ls i ∧ N' (j + i)) → Reps ρ' N' (cArgs j xs) vs) ∧
      ∀ i b, getName (cMem xs) i = some b → b.rw = false ∧ ∀ (ρ' : Nat → Loc3) (N' : Nat → Prop), ρ' (j + i) = Ls i → BRep ρ' N' W (j + i) b
  | [], j, vs, h, _ => by
    cases h
    exact ⟨fun _ => ⟨0, 0, 0⟩, fun _ _ _ => .nil, fun i b hb => by simp [cMem, getName] at hb⟩
  | x :: xs, j, vs, h, hw => by
    have hx : (∀ c, x ≠ .ptw c) ∧ noW xs = true := by
      cases x <;> simp [noW] at hw <;> exact ⟨(fun c e => by cases e), hw⟩
    cases h with
    | cons _ _ v _ vs h hs =>
      obtain ⟨L, k1, k2⟩ := h
      obtain ⟨Ls, k3, k4⟩ := VOks.all hs hx.2
      refine ⟨fun i => match i with | 0 => L | i + 1 => Ls i, fun ρ' N' hρ => ?_, fun i b hb => ?_⟩
      · refine .cons _ _ _ _ (k1 ρ' N' (hρ 0 (by simp)).1 (hρ 0 (by simp)).2) (k3 ρ' N' fun i hi => ?_)
        have := hρ (i + 1) (by simpa using hi)
        rw [show j + 1 + i = j + (i + 1) by omega]
        exact this
      · cases i with
        | zero =>
          have hb' : cBlk x = some b := by
            unfold getName cMem at hb
            simp at hb
            cases hx : cBlk x <;> simp_all
          refine ⟨?_, (k2 b hb').2⟩
          cases hrw : b.rw with
          | false => rfl
          | true => obtain ⟨c, hc⟩ := (k2 b hb').1 hrw; exact (hx.1 c hc).elim
        | succ i =>
          have hb' : getName (cMem xs) i = some b := by
            unfold getName cMem at hb ⊢
            simpa using hb
          have := k4 i b hb'
          rw [show j + 1 + i = j + (i + 1) by omega] at this
          exact this

theorem VOks.start {W : World} {xs : List V} {vs : List Value} (h : VOks W 0 xs vs) (hw : noW xs = true) (hT : TRep W) : ∃ ρ, Reps ρ (upto (cMem xs).length) (cArgs 0 xs) vs ∧ Inv W (fun _ => False) (upto (cMem xs).length) ρ (getName (cMem xs)) W := by
  obtain ⟨Ls, c1, c2⟩ := h.all hw
  have hcm : (cMem xs).length = xs.length := by simp [cMem]
  rw [hcm]
  refine ⟨Ls, c1 Ls (upto xs.length) fun i hi => by rw [Nat.zero_add]; exact ⟨rfl, hi⟩, ?_⟩
  refine Inv.start _ ⟨fun n b hn => ?_, fun i j bi bj hi hj hij hr => ?_, fun n b hn => ?_, hT, fun G c hG n b hn hr => by rw [(c2 n b hn).1] at hr; cases hr⟩ fun n b hn hr => ?_
  · have := (c2 n b hn).2 Ls (upto xs.length) (by rw [Nat.zero_add])
    rwa [Nat.zero_add] at this
  · rw [(c2 i bi hi).1] at hr; cases hr
  · have := getName_lt hn
    rw [hcm] at this
    exact this
  · rw [(c2 n b hn).1] at hr; cases hr

theorem VOk.plain {W : World} {j : Nat} {a : AV} {v : Value} (h : ∀ (ρ : Nat → Loc3) (N : Nat → Prop), Rep ρ N a v) : ∃ L, VOk W j L (.pl a) v :=
  ⟨⟨0, 0, 0⟩, fun ρ N _ _ => h ρ N, fun b hb => by cases hb⟩
theorem VOk.empty {W : World} {j : Nat} {a : Addr} : ∃ L, VOk W j L .empty (.slice (some a) 0 0) :=
  ⟨⟨0, 0, 0⟩, fun ρ N hρ hN => .slice false j 0 0 none 1 0 a hN (by intro c h; cases h) (Nat.le_refl _) (by simp) (by intro h; omega), fun b hb => by cases hb⟩
/-- A slice of numbers that came in. -/
theorem VOk.slice {W : World} {j : Nat} {a : Addr} {len cap : Nat} {k : IntKind} {zs : List Int} (s : Bool) (hz : zs.length = cap) (hl : len ≤ cap) (h0 : 0 < cap) (hc : ∀ i, i < zs.length → W.cell? (a.add i) = some (.int k (zs.getD i 0)))
    (hw : ∀ n ∈ zs, inR k n = true) : ∃ L, VOk W j L (.buf s k len (zs.take len)) (.slice (some a) len cap) := by
  have h1 := hc 0 (by omega)
  obtain ⟨b, off, spot⟩ := a
  unfold World.cell? at h1
  split at h1
  case h_2 => cases h1
  rename_i cs t fr hh
  split at h1
  · cases h1
  rename_i hsp
  have hsp' : spot = none := by
    cases spot with
    | none => rfl
    | some x => simp [Addr.add] at hsp
  subst hsp'
  have hh' : W.heap[b]? = some (.cells cs t fr) := by
    rw [addr_add] at hh; exact hh
  have cell : ∀ i, i < cap → cs[off + i]? = some (.int k (zs.getD i 0)) := fun i hi => by
    have := hc i (by omega)
    rwa [addr_add, cell_row hh'] at this
  have hsz : off + cap ≤ cs.size := by
    have := (Array.getElem?_eq_some_iff.1 (cell (cap - 1) (by omega))).1
    omega
  refine ⟨⟨b, off, cap⟩, fun ρ N hρ hN => ?_, fun b' hb' => ?_⟩
  · refine .slice s j 0 len none 1 cap _ hN (by intro c h; cases h) hl ?_ ?_
    · rw [hρ]; show 0 + cap * 1 ≤ cap; omega
    · intro _; rw [hρ]; rfl
  · cases hb'
    refine ⟨(fun h => by cases h), fun ρ N hρ => ⟨cs, t, fr.1, fr.2, by rw [hρ]; exact hh', by rw [hρ]; exact hsz, (by intro h; cases h), by rw [hρ]; exact hl, ?_⟩⟩
    refine ⟨(by intro m h; cases h; simp; omega), fun i y hy => ?_⟩
    have hi : i < len := by
      have := (List.getElem?_eq_some_iff.1 hy).1
      simp at this; omega
    rw [List.getElem?_take_of_lt hi] at hy
    refine ⟨?_, hw y (List.mem_of_getElem? hy)⟩
    rw [hρ]
    have := cell i (by omega)
    rw [List.getD, hy] at this
    exact this

section
variable {P : Program} {q : FuncId → Bool} {H : CallH}
end
theorem okWide_slice {P : Program} {W : World} {r : Reach} {base : Nat} {t e : TypeId} {v : Value} (ht : P.underlying t = some (.slice e)) (h : Value.okWide P W r base t v) : ∃ a l c, v = .slice a l c := by
  unfold Value.okWide at h
  rw [ht] at h
  simp only at h
  unfold Cell.okWide at h
  rw [ht] at h
  cases v <;> simp only at h <;> (try (unfold Cell.ok at h; rw [ht] at h; simp only at h)) <;> first | exact ⟨_, _, _, rfl⟩ | exact h.elim
theorem wf_inR' {k : IntKind} {n : Int} (h : (Lit.int k n).wf = true) : inR k n = true := by
  have h' : (decide (k.min ≤ n) && decide (n ≤ k.max)) = true := h
  rw [loP, hiP] at h'
  exact h'
section
variable {H : Type} {enc : TypeId × Value → H} {P : Program}
end
end Go.Ev
namespace Go.Ev
set_option linter.unusedSectionVars false
variable [Tab]
def seeV (j : Nat) (T : Tree (AV × Mem)) : Option (List Bool × AV × Option (Option Blk)) := match T.flat with | some (o, (v, m)) => some (o, v, m[j]?) | none => none
/-- The names below k stay, the next one is j. -/
def oneR (k j n : Nat) : Nat := match Nat.beq n k with | true => j | false => n
theorem oneR_fix (k j : Nat) : fixB (oneR k j) k = true := List.all_eq_true.2 fun i hi => by
  have := List.mem_range.1 hi
  unfold oneR
  cases hb : Nat.beq i k with
  | true => have := Nat.eq_of_beq_eq_true hb; omega
  | false => exact Nat.beq_refl i
theorem oneR_inj {k j : Nat} (h : k ≤ j) : injB (oneR k j) (k + 1) = true := List.all_eq_true.2 fun a ha => List.all_eq_true.2 fun b hb => by
  have h1 := List.mem_range.1 ha
  have h2 := List.mem_range.1 hb
  have hn : ∀ {x y : Nat}, x ≠ y → Nat.beq x y = false := fun {x y} hxy => by
    cases h : Nat.beq x y with
    | true => exact absurd (Nat.eq_of_beq_eq_true h) hxy
    | false => rfl
  by_cases hab : a = b
  · subst hab; rw [show Nat.beq a a = true from Nat.beq_refl a]; rfl
  · have : oneR k j a ≠ oneR k j b := by
      unfold oneR
      by_cases hak : a = k
      · subst hak
        rw [show Nat.beq a a = true from Nat.beq_refl a, hn (Ne.symm hab)]
        simp only
        omega
      · rw [hn hak]
        by_cases hbk : b = k
        · subst hbk
          rw [show Nat.beq b b = true from Nat.beq_refl b]
          simp only
          omega
        · rw [hn hbk]; exact hab
    rw [hn this]
    cases Nat.beq a b <;> rfl
section
variable {P : Program} {q : FuncId → Bool} {H : CallH} {Λ : LoopH}
theorem viewN_one (hm : P.follows .mixedOrders = true) (hng : noCount P = true) (hH : HOk P H) {n : Nat} {g : FuncId} {xs : List V} (hΛ : ∀ fn c, P.funcs[g]? = some fn → fn.body = some c → LOkN xs.length P c Λ) {o : List Bool} {v v' : AV} {k : IntKind} {sz : Option Nat} {l : List Int} (ds : List Bool) (j : Nat)
    (h : seeV j ((funcL P q H Λ n g (cArgs 0 xs) (cMem xs)).go ds) = some (o, v', some (some ⟨true, .ints k sz l⟩))) (ho : Paid o) (hj : xs.length ≤ j) (hv : v' = renA (oneR xs.length j) (upA xs.length v)) (hba : bndA (xs.length + 1) (upA xs.length v) = true) :
    ViewCall P g xs v [some ⟨true, .ints k sz l⟩] := by
  unfold seeV at h
  split at h
  · rename_i o' v2 m' hf
    simp only [Option.some.injEq, Prod.mk.injEq] at h
    obtain ⟨h1, h2, h3⟩ := h
    subst h1 h2
    have one : oneR xs.length j (0 + xs.length) = j := by
      unfold oneR
      rw [show Nat.beq (0 + xs.length) xs.length = true by rw [Nat.zero_add]; exact Nat.beq_refl _]
    have pulls : ∀ (a b : Nat) (M : Mem), Pulls (oneR xs.length j) m' (b + a) M → Pulls (oneR xs.length j) m' b (List.replicate a none ++ M) := by
      intro a
      induction a with
      | zero => intro b M h; exact h
      | succ a ih =>
        intro b M h
        rw [List.replicate_succ, List.cons_append]
        exact ih (b + 1) M (by rw [show b + 1 + a = b + (a + 1) by omega]; exact h)
    have bnd : ∀ (a k' : Nat) (M : Mem), bndM k' M = true → bndM k' (List.replicate a none ++ M) = true := by
      intro a
      induction a with
      | zero => intro k' M h; exact h
      | succ a ih => intro k' M h; rw [List.replicate_succ, List.cons_append]; exact ih k' M h
    intro ρ vs w ha hi
    exact viewN_of_goR (bs := [some ⟨true, .ints k sz l⟩]) hm hng hH hΛ ds (oneR xs.length j) hf ho hv hba (pulls _ 0 _ ⟨⟨_, by rw [one]; exact h3, .refl _⟩, trivial⟩) (bnd _ _ _ rfl) (oneR_inj hj) (oneR_fix _ _) ha hi
  · cases h
end
/-- An empty slice, whatever its room. -/
theorem VOk.emptyC {W : World} {j : Nat} {a : Addr} {cap : Nat} {k : IntKind} {zs : List Int} (hz : zs.length = cap) (hc : ∀ i, i < zs.length → W.cell? (a.add i) = some (.int k (zs.getD i 0))) : ∃ L, VOk W j L .empty (.slice (some a) 0 cap) := by
  by_cases h0 : cap = 0
  · subst h0; exact VOk.empty
  · have h1 := hc 0 (by omega)
    obtain ⟨b, off, spot⟩ := a
    unfold World.cell? at h1
    split at h1
    case h_2 => cases h1
    rename_i cs t fr hh
    split at h1
    · cases h1
    rename_i hsp
    have hsp' : spot = none := by
      cases spot with
      | none => rfl
      | some x => simp [Addr.add] at hsp
    subst hsp'
    refine ⟨⟨b, off, cap⟩, fun ρ N hρ hN => .slice false j 0 0 none 1 cap _ hN (by intro c h; cases h) (Nat.zero_le _) ?_ fun _ => ?_, fun b' hb' => by cases hb'⟩
    · rw [hρ]; show 0 + cap * 1 ≤ cap; omega
    · rw [hρ]; rfl
/-- Bytes that came in: none, no bytes, or some. -/
theorem VOk.bytes {W : World} (j : Nat) {v : Value} {m : Nat} (hv : v = .slice none 0 0 ∨ ∃ (a : Addr) (len cap : Nat) (zs : List Int), v = .slice (some a) len cap ∧ len ≤ cap ∧ cap ≤ m ∧ zs.length = cap ∧ (∀ i, i < zs.length → W.cell? (a.add i) = some (.int .u8 (zs.getD i 0))) ∧ ∀ n ∈ zs, inR .u8 n = true) :
    (∃ L, VOk W j L (.pl .nilslice) v) ∨ (∃ L, VOk W j L .empty v) ∨ ∃ (n : Nat) (l : List Int), 1 ≤ n ∧ n ≤ m ∧ l.length = n ∧ (∀ x ∈ l, inR .u8 x = true) ∧ ∃ L, VOk W j L (.buf true .u8 n l) v := by
  rcases hv with rfl | ⟨ad, len, cap, zs, rfl, hlen, hcap, hz, hc, hw⟩
  · exact Or.inl (VOk.plain fun ρ N => .nilslice)
  · by_cases h0 : len = 0
    · subst h0; exact Or.inr (Or.inl (VOk.emptyC hz hc))
    · refine Or.inr (Or.inr ⟨len, zs.take len, by omega, by omega, by rw [List.length_take]; omega, fun x hx => hw x (List.mem_of_mem_take hx), VOk.slice true hz hlen (by omega) hc hw⟩)
end Go.Ev
namespace Go.Ch
open Go.Ev Go.Sh
/-- A word of four bytes, as the program reckons it. -/
def w4P (a b c d : Int) : Int := ior .u32 (ior .u32 (ior .u32 (ior .u32 0 (ishl .u32 (IntKind.u32.wrap a) 0)) (ishl .u32 (IntKind.u32.wrap b) 8)) (ishl .u32 (IntKind.u32.wrap c) 16)) (ishl .u32 (IntKind.u32.wrap d) 24)
theorem ior_up {x y : Int} {s : Nat} (hs : s ≤ 24) (hx : 0 ≤ x ∧ x < 2 ^ s) (hy : B8 y) : ior .u32 x (ishl .u32 (IntKind.u32.wrap y) (s : Int)) = x + y * 2 ^ s ∧ x + y * 2 ^ s < 2 ^ (s + 8) := by
  unfold B8 at hy
  have wy : IntKind.u32.wrap y = y := wrap_wd (k := .u32) rfl ⟨hy.1, by show y < 2 ^ 32; omega⟩
  have h1 : s = 0 ∨ s = 8 ∨ s = 16 ∨ s = 24 ∨ True := Or.inr (Or.inr (Or.inr (Or.inr trivial)))
  have hp := pos2 s
  have h24 : (2 : Int) ^ s ≤ 2 ^ 24 := by exact_mod_cast Nat.pow_le_pow_right (by omega : 0 < 2) hs
  have e24 : (2 : Int) ^ 24 = 16777216 := rfl
  have b1 : 0 ≤ y * 2 ^ s := Int.mul_nonneg hy.1 (by omega)
  have b2 : y * 2 ^ s ≤ 255 * 2 ^ s := Int.mul_le_mul_of_nonneg_right (by omega) (by omega)
  have e8 : (2 : Int) ^ (s + 8) = 256 * 2 ^ s := by rw [Int.pow_add]; show 2 ^ s * 256 = _; omega
  rw [wy, sl32 s (by omega), Int.emod_eq_of_lt b1 (by show y * 2 ^ s < 4294967296; omega), e8]
  refine ⟨?_, by omega⟩
  rw [ior_io (k := .u32) rfl ⟨hx.1, by show x < 4294967296; omega⟩ ⟨b1, by show y * 2 ^ s < 4294967296; omega⟩, io_comm, ← ior_io (k := .u32) rfl ⟨b1, by show y * 2 ^ s < 4294967296; omega⟩ ⟨hx.1, by show x < 4294967296; omega⟩,
    ior_add (k := .u32) rfl s b1 (Int.mul_emod_left _ _) hx (by show y * 2 ^ s + x < 4294967296; omega), Int.add_comm]
theorem w4P_eq {a b c d : Int} (ha : B8 a) (hb : B8 b) (hc : B8 c) (hd : B8 d) : w4P a b c d = leW [a, b, c, d] := by
  have h0 := ior_up (x := 0) (s := 0) (by decide) ⟨by decide, by decide⟩ ha
  have e0 : ior .u32 0 (ishl .u32 (IntKind.u32.wrap a) 0) = a := by
    have := h0.1
    simpa using this
  have h1 := ior_up (x := a) (s := 8) (by decide) (by unfold B8 at ha; exact ⟨ha.1, by show a < 256; omega⟩) hb
  have p1 : 0 ≤ a + b * 2 ^ 8 := by unfold B8 at ha hb; omega
  have h2 := ior_up (x := a + b * 2 ^ 8) (s := 16) (by decide) ⟨p1, h1.2⟩ hc
  have p2 : 0 ≤ a + b * 2 ^ 8 + c * 2 ^ 16 := by unfold B8 at ha hb hc; omega
  have h3 := ior_up (x := a + b * 2 ^ 8 + c * 2 ^ 16) (s := 24) (by decide) ⟨p2, h2.2⟩ hd
  unfold w4P
  rw [e0, show ishl .u32 (IntKind.u32.wrap b) 8 = ishl .u32 (IntKind.u32.wrap b) ((8 : Nat) : Int) from rfl, h1.1, show ishl .u32 (IntKind.u32.wrap c) 16 = ishl .u32 (IntKind.u32.wrap c) ((16 : Nat) : Int) from rfl, h2.1, show ishl .u32 (IntKind.u32.wrap d) 24 = ishl .u32 (IntKind.u32.wrap d) ((24 : Nat) : Int) from rfl, h3.1]
  simp only [leW, List.getD_cons_zero, List.getD_cons_succ, Int.reducePow]
  omega
theorem len32 {l : List Int} (h : l.length = 32) : ∃ k0 k1 k2 k3 k4 k5 k6 k7 k8 k9 k10 k11 k12 k13 k14 k15 k16 k17 k18 k19 k20 k21 k22 k23 k24 k25 k26 k27 k28 k29 k30 k31, l = [k0, k1, k2, k3, k4, k5, k6, k7, k8, k9, k10, k11, k12, k13, k14, k15, k16, k17, k18, k19, k20, k21, k22, k23, k24, k25, k26, k27, k28, k29, k30, k31] := by
  match l, h with
  | [k0, k1, k2, k3, k4, k5, k6, k7, k8, k9, k10, k11, k12, k13, k14, k15, k16, k17, k18, k19, k20, k21, k22, k23, k24, k25, k26, k27, k28, k29, k30, k31], _ => exact ⟨k0, k1, k2, k3, k4, k5, k6, k7, k8, k9, k10, k11, k12, k13, k14, k15, k16, k17, k18, k19, k20, k21, k22, k23, k24, k25, k26, k27, k28, k29, k30, k31, rfl⟩
theorem len12 {l : List Int} (h : l.length = 12) : ∃ l0 l1 l2 l3 l4 l5 l6 l7 l8 l9 l10 l11, l = [l0, l1, l2, l3, l4, l5, l6, l7, l8, l9, l10, l11] := by
  match l, h with
  | [l0, l1, l2, l3, l4, l5, l6, l7, l8, l9, l10, l11], _ => exact ⟨l0, l1, l2, l3, l4, l5, l6, l7, l8, l9, l10, l11, rfl⟩
theorem outP_eq (s t : List Int) (n : Nat) : IntKind.u8.wrap (ishr .u32 (IntKind.u32.wrap (s.getD (n / 4) 0 + t.getD (n / 4) 0)) ((8 * (n % 4) : Nat) : Int)) = (s.getD (n / 4) 0 + t.getD (n / 4) 0) / 2 ^ (8 * (n % 4)) % 256 := by
  generalize s.getD (n / 4) 0 + t.getD (n / 4) 0 = z
  have h : n % 4 = 0 ∨ n % 4 = 1 ∨ n % 4 = 2 ∨ n % 4 = 3 := by omega
  rw [sd32 _ (by omega), wrap_u (k := .u8) rfl, wrap_u (k := .u32) rfl]
  simp only [IntKind.bits]
  rcases h with h | h | h | h <;> rw [h] <;> simp only [Int.reducePow, Nat.reduceMul] <;> omega
end Go.Ch
namespace Go.Proofs.Ytfmgodgakndjcaa
open Go.Ev Go.Sh Go.Ch
set_option maxRecDepth 100000
/-- Functions that write what their arguments show are walked in their caller's memory. -/
def qC (f : FuncId) : Bool := !Nat.beq f 1000000000 && !Nat.beq f 98
def qtS : List AV → E AV
  | [.int _ .u32 a, .int _ .u32 b, .int _ .u32 c, .int _ .u32 d] => some ([], .tuple [.int true .u32 (qa a b c d), .int true .u32 (qb a b c d), .int true .u32 (qc a b c d), .int true .u32 (qd a b c d)])
  | _ => none
theorem qt_eval (a b c d : Int) : res (funcA Try.prog qC (deep Try.prog qC hcz 100 3) 100 103 [.int true .u32 a, .int true .u32 b, .int true .u32 c, .int true .u32 d] []) = some ([], .tuple [.int true .u32 (pqa a b c d), .int true .u32 (pqb a b c d), .int true .u32 (pqc a b c d), .int true .u32 (pqd a b c d)]) := by kernel_rfl
theorem u32_wd {ρ : Nat → Loc3} {N : Nat → Prop} {s : Bool} {x : Int} {v : Value} (h : Rep ρ N (.int s .u32 x) v) : Wd 32 x := by
  cases h with | int _ _ _ h => rw [inR_iff] at h; simp only [lo, hi] at h; exact ⟨h.1, by show x < 4294967296; omega⟩
theorem qt_ok {args : List AV} {o : List Bool} {v : AV} (h : qtS args = some (o, v)) : PureCall Try.prog 103 args v := by
  unfold qtS at h
  split at h
  · rename_i s0 a s1 b s2 c s3 d
    cases h
    intro ρ N vs ha
    cases ha with
    | cons _ _ _ _ r0 hb => cases hb with
      | cons _ _ _ _ r1 hb => cases hb with
        | cons _ _ _ _ r2 hb => cases hb with
          | cons _ _ _ _ r3 hb =>
            cases hb
            obtain ⟨e1, e2, e3, e4⟩ := pq_eq (a := a) (c := c) (u32_wd r1) (u32_wd r3)
            exact pure_of_res mixed noCount (hcz_ok.deep mixed noCount 100 3) (by kernel_rfl) (qt_eval a b c d) Paid.nil (by rw [e1, e2, e3, e4]) (by kernel_rfl) (.cons _ _ _ _ (remark r0) (.cons _ _ _ _ (remark r1) (.cons _ _ _ _ (remark r2) (.cons _ _ _ _ (remark r3) .nil))))
  · cases h
def hq1 : CallH := withC 103 qtS hcz
theorem hq1_ok : HOk Try.prog hq1 := hcz_ok.withC fun _ _ _ h _ => qt_ok h
def coS : List AV → E AV
  | [.ints .u32 16 l] => some ([], .ints .u32 16 (colL l))
  | _ => none
theorem co_eval (x0 x1 x2 x3 x4 x5 x6 x7 x8 x9 x10 x11 x12 x13 x14 x15 : Int) : res (funcA Try.prog qC (deep Try.prog qC hq1 100 3) 100 86 [.ints .u32 16 [x0, x1, x2, x3, x4, x5, x6, x7, x8, x9, x10, x11, x12, x13, x14, x15]] []) = some ([], .ints .u32 16 [qa x0 x4 x8 x12, qa x1 x5 x9 x13, qa x2 x6 x10 x14, qa x3 x7 x11 x15, qb x0 x4 x8 x12, qb x1 x5 x9 x13, qb x2 x6 x10 x14, qb x3 x7 x11 x15, qc x0 x4 x8 x12, qc x1 x5 x9 x13, qc x2 x6 x10 x14, qc x3 x7 x11 x15, qd x0 x4 x8 x12, qd x1 x5 x9 x13, qd x2 x6 x10 x14, qd x3 x7 x11 x15]) := by kernel_rfl
theorem co_eq (x0 x1 x2 x3 x4 x5 x6 x7 x8 x9 x10 x11 x12 x13 x14 x15 : Int) : colL [x0, x1, x2, x3, x4, x5, x6, x7, x8, x9, x10, x11, x12, x13, x14, x15] = [qa x0 x4 x8 x12, qa x1 x5 x9 x13, qa x2 x6 x10 x14, qa x3 x7 x11 x15, qb x0 x4 x8 x12, qb x1 x5 x9 x13, qb x2 x6 x10 x14, qb x3 x7 x11 x15, qc x0 x4 x8 x12, qc x1 x5 x9 x13, qc x2 x6 x10 x14, qc x3 x7 x11 x15, qd x0 x4 x8 x12, qd x1 x5 x9 x13, qd x2 x6 x10 x14, qd x3 x7 x11 x15] := by kernel_rfl
theorem co_ok {args : List AV} {o : List Bool} {v : AV} (h : coS args = some (o, v)) : PureCall Try.prog 86 args v := by
  unfold coS at h
  split at h
  · rename_i l
    cases h
    intro ρ N vs ha
    have hb := ha
    cases hb with
    | cons _ _ _ _ r1 hb =>
      cases r1 with
      | ints _ _ _ hn hl =>
        obtain ⟨x0, x1, x2, x3, x4, x5, x6, x7, x8, x9, x10, x11, x12, x13, x14, x15, rfl⟩ := len16 hn
        exact pure_of_res mixed noCount (hq1_ok.deep mixed noCount 100 3) (by kernel_rfl) (co_eval x0 x1 x2 x3 x4 x5 x6 x7 x8 x9 x10 x11 x12 x13 x14 x15) Paid.nil (by rw [co_eq]) (by kernel_rfl) ha
  · cases h
def slS : List AV → E AV
  | [.ints .u32 16 l] => some ([], .ints .u32 16 (slpL l))
  | _ => none
theorem sl_eval (x0 x1 x2 x3 x4 x5 x6 x7 x8 x9 x10 x11 x12 x13 x14 x15 : Int) : res (funcA Try.prog qC (deep Try.prog qC hq1 100 3) 100 87 [.ints .u32 16 [x0, x1, x2, x3, x4, x5, x6, x7, x8, x9, x10, x11, x12, x13, x14, x15]] []) = some ([], .ints .u32 16 [qa x0 x5 x10 x15, qa x1 x6 x11 x12, qa x2 x7 x8 x13, qa x3 x4 x9 x14, qb x3 x4 x9 x14, qb x0 x5 x10 x15, qb x1 x6 x11 x12, qb x2 x7 x8 x13, qc x2 x7 x8 x13, qc x3 x4 x9 x14, qc x0 x5 x10 x15, qc x1 x6 x11 x12, qd x1 x6 x11 x12, qd x2 x7 x8 x13, qd x3 x4 x9 x14, qd x0 x5 x10 x15]) := by kernel_rfl
theorem sl_eq (x0 x1 x2 x3 x4 x5 x6 x7 x8 x9 x10 x11 x12 x13 x14 x15 : Int) : slpL [x0, x1, x2, x3, x4, x5, x6, x7, x8, x9, x10, x11, x12, x13, x14, x15] = [qa x0 x5 x10 x15, qa x1 x6 x11 x12, qa x2 x7 x8 x13, qa x3 x4 x9 x14, qb x3 x4 x9 x14, qb x0 x5 x10 x15, qb x1 x6 x11 x12, qb x2 x7 x8 x13, qc x2 x7 x8 x13, qc x3 x4 x9 x14, qc x0 x5 x10 x15, qc x1 x6 x11 x12, qd x1 x6 x11 x12, qd x2 x7 x8 x13, qd x3 x4 x9 x14, qd x0 x5 x10 x15] := by kernel_rfl
theorem sl_ok {args : List AV} {o : List Bool} {v : AV} (h : slS args = some (o, v)) : PureCall Try.prog 87 args v := by
  unfold slS at h
  split at h
  · rename_i l
    cases h
    intro ρ N vs ha
    have hb := ha
    cases hb with
    | cons _ _ _ _ r1 hb =>
      cases r1 with
      | ints _ _ _ hn hl =>
        obtain ⟨x0, x1, x2, x3, x4, x5, x6, x7, x8, x9, x10, x11, x12, x13, x14, x15, rfl⟩ := len16 hn
        exact pure_of_res mixed noCount (hq1_ok.deep mixed noCount 100 3) (by kernel_rfl) (sl_eval x0 x1 x2 x3 x4 x5 x6 x7 x8 x9 x10 x11 x12 x13 x14 x15) Paid.nil (by rw [sl_eq]) (by kernel_rfl) ha
  · cases h
def hq2 : CallH := withC 87 slS (withC 86 coS hq1)
theorem hq2_ok : HOk Try.prog hq2 := (hq1_ok.withC fun _ _ _ h _ => co_ok h).withC fun _ _ _ h _ => sl_ok h
def blS : List AV → E AV
  | [.ints .u32 16 x, .int _ .u32 c] => some ([], .ints .u8 64 (blkB x c))
  | _ => none
def outP (s t : List Int) : List Int := (List.range 64).map fun n => IntKind.u8.wrap (ishr .u32 (IntKind.u32.wrap (s.getD (n / 4) 0 + t.getD (n / 4) 0)) ((8 * (n % 4) : Nat) : Int))
theorem bl_eval (x : List Int) (c : Int) : res (funcA Try.prog qC (deep Try.prog qC hq2 100 3) 200 67 [.ints .u32 16 x, .int true .u32 c] []) = some ([], .ints .u8 64 (outP (x.set 12 c) (rnd (x.set 12 c) 10))) := by kernel_rfl
theorem bl_ok {args : List AV} {o : List Bool} {v : AV} (h : blS args = some (o, v)) : PureCall Try.prog 67 args v := by
  unfold blS at h
  split at h
  · rename_i x s c
    cases h
    intro ρ N vs ha
    cases ha with
    | cons _ _ _ _ r0 hb => cases hb with
      | cons _ _ _ _ r1 hb =>
        cases hb
        have e : outP (x.set 12 c) (rnd (x.set 12 c) 10) = blkB x c := List.map_congr_left fun n _ => outP_eq _ _ n
        exact pure_of_res mixed noCount (hq2_ok.deep mixed noCount 100 3) (by kernel_rfl) (bl_eval x c) Paid.nil (by rw [e]) (by kernel_rfl) (.cons _ _ _ _ r0 (.cons _ _ _ _ (remark r1) .nil))
  · cases h
def hq3 : CallH := withC 67 blS hq2
theorem hq3_ok : HOk Try.prog hq3 := hq2_ok.withC fun _ _ _ h _ => bl_ok h
-- begun
def beS : List V → E (AV × Mem)
  | [.buf false .u8 32 k, .buf false .u8 12 l] => some ([], (.ints .u32 16 (ini k l), []))
  | _ => none
theorem be_eval (k0 k1 k2 k3 k4 k5 k6 k7 k8 k9 k10 k11 k12 k13 k14 k15 k16 k17 k18 k19 k20 k21 k22 k23 k24 k25 k26 k27 k28 k29 k30 k31 l0 l1 l2 l3 l4 l5 l6 l7 l8 l9 l10 l11 : Int) : res (funcA Try.prog qC (deep Try.prog qC hq3 100 3) 400 48 (cArgs 0 [.buf false .u8 32 [k0, k1, k2, k3, k4, k5, k6, k7, k8, k9, k10, k11, k12, k13, k14, k15, k16, k17, k18, k19, k20, k21, k22, k23, k24, k25, k26, k27, k28, k29, k30, k31], .buf false .u8 12 [l0, l1, l2, l3, l4, l5, l6, l7, l8, l9, l10, l11]]) (cMem [.buf false .u8 32 [k0, k1, k2, k3, k4, k5, k6, k7, k8, k9, k10, k11, k12, k13, k14, k15, k16, k17, k18, k19, k20, k21, k22, k23, k24, k25, k26, k27, k28, k29, k30, k31], .buf false .u8 12 [l0, l1, l2, l3, l4, l5, l6, l7, l8, l9, l10, l11]])) = some ([], .ints .u32 16 [w4P 101 120 112 97, w4P 110 100 32 51, w4P 50 45 98 121, w4P 116 101 32 107, w4P k0 k1 k2 k3, w4P k4 k5 k6 k7, w4P k8 k9 k10 k11, w4P k12 k13 k14 k15, w4P k16 k17 k18 k19, w4P k20 k21 k22 k23, w4P k24 k25 k26 k27, w4P k28 k29 k30 k31, w4P 0 0 0 0, w4P l0 l1 l2 l3, w4P l4 l5 l6 l7, w4P l8 l9 l10 l11]) := by kernel_rfl
theorem be_ok {xs : List V} {o : List Bool} {v : AV} {bs : Mem} (h : beS xs = some (o, (v, bs))) : ViewCall Try.prog 48 xs v bs := by
  unfold beS at h
  split at h
  · rename_i k l
    cases h
    intro ρ vs w ha hi
    obtain ⟨n1, r1⟩ := buf_arg hi 0 rfl
    obtain ⟨n2, r2⟩ := buf_arg hi 1 rfl
    have b1 : ∀ i, B8 (k.getD i 0) := fun i => get_b8 (fun x hx => inR_b8 (r1 x hx)) i
    have b2 : ∀ i, B8 (l.getD i 0) := fun i => get_b8 (fun x hx => inR_b8 (r2 x hx)) i
    obtain ⟨k0, k1, k2, k3, k4, k5, k6, k7, k8, k9, k10, k11, k12, k13, k14, k15, k16, k17, k18, k19, k20, k21, k22, k23, k24, k25, k26, k27, k28, k29, k30, k31, rfl⟩ := len32 n1
    obtain ⟨l0, l1, l2, l3, l4, l5, l6, l7, l8, l9, l10, l11, rfl⟩ := len12 n2
    have ev := be_eval k0 k1 k2 k3 k4 k5 k6 k7 k8 k9 k10 k11 k12 k13 k14 k15 k16 k17 k18 k19 k20 k21 k22 k23 k24 k25 k26 k27 k28 k29 k30 k31 l0 l1 l2 l3 l4 l5 l6 l7 l8 l9 l10 l11
    have c0 : w4P 101 120 112 97 = 1634760805 := by decide +kernel
    have c1 : w4P 110 100 32 51 = 857760878 := by decide +kernel
    have c2 : w4P 50 45 98 121 = 2036477234 := by decide +kernel
    have c3 : w4P 116 101 32 107 = 1797285236 := by decide +kernel
    have z : w4P 0 0 0 0 = 0 := by decide +kernel
    rw [c0, c1, c2, c3, z, show w4P k0 k1 k2 k3 = leW [k0, k1, k2, k3] from w4P_eq (b1 0) (b1 1) (b1 2) (b1 3), show w4P k4 k5 k6 k7 = leW [k4, k5, k6, k7] from w4P_eq (b1 4) (b1 5) (b1 6) (b1 7), show w4P k8 k9 k10 k11 = leW [k8, k9, k10, k11] from w4P_eq (b1 8) (b1 9) (b1 10) (b1 11), show w4P k12 k13 k14 k15 = leW [k12, k13, k14, k15] from w4P_eq (b1 12) (b1 13) (b1 14) (b1 15), show w4P k16 k17 k18 k19 = leW [k16, k17, k18, k19] from w4P_eq (b1 16) (b1 17) (b1 18) (b1 19), show w4P k20 k21 k22 k23 = leW [k20, k21, k22, k23] from w4P_eq (b1 20) (b1 21) (b1 22) (b1 23), show w4P k24 k25 k26 k27 = leW [k24, k25, k26, k27] from w4P_eq (b1 24) (b1 25) (b1 26) (b1 27), show w4P k28 k29 k30 k31 = leW [k28, k29, k30, k31] from w4P_eq (b1 28) (b1 29) (b1 30) (b1 31), show w4P l0 l1 l2 l3 = leW [l0, l1, l2, l3] from w4P_eq (b2 0) (b2 1) (b2 2) (b2 3), show w4P l4 l5 l6 l7 = leW [l4, l5, l6, l7] from w4P_eq (b2 4) (b2 5) (b2 6) (b2 7), show w4P l8 l9 l10 l11 = leW [l8, l9, l10, l11] from w4P_eq (b2 8) (b2 9) (b2 10) (b2 11)] at ev
    exact view_of_res mixed noCount (hq3_ok.deep mixed noCount 100 3) ev Paid.nil rfl (by kernel_rfl) ha hi
  · cases h
def hq4 : CallH := withV 48 beS hq3
theorem hq4_ok : HOk Try.prog hq4 := hq3_ok.withV fun _ _ _ _ h _ => be_ok h
end Go.Proofs.Ytfmgodgakndjcaa
namespace Go.Ev
set_option linter.unusedSectionVars false
variable [Tab]
def turnC (P : Program) (q : FuncId → Bool) (H : CallH) (fuel : Nat) (g : FuncId) (ds : List Bool) (X : CallH) : CallH := fun f args m =>
  match decide (f = g) with
  | true => match ((funcA P q H fuel f args (roAll m)).go ds).flat with
    | some (o, (v, m')) => some (o, (v, m ++ onlyRw (m'.drop m.length)))
    | none => X f args m
  | false => X f args m
section
variable {P : Program} {q : FuncId → Bool} {H X : CallH}
theorem HOk.turn (hm : P.follows .mixedOrders = true) (hng : noCount P = true) (hH : HOk P H) (hX : HOk P X) (fuel : Nat) (g : FuncId) (ds : List Bool) : HOk P (turnC P q H fuel g ds X) := by
  have both : ∀ {f : FuncId} {xs : List AV} {m : Mem} {ob : List Bool} {v : AV} {m' : Mem}, turnC P q H fuel g ds X f xs m = some (ob, (v, m')) → Paid ob →
      m.length ≤ m'.length ∧ ∀ {w0 : World} {S : Nat → Prop} {ρ : Nat → Loc3} {w : World} {vs : List Value}, Reps ρ (upto m.length) xs vs → Inv w0 S (upto m.length) ρ (getName m) w →
      CallRun P f vs.toArray w (fun u w' => ∃ ρ', Rep ρ' (upto m'.length) v u ∧ Inv w0 S (upto m'.length) ρ' (getName m') w' ∧ Agr ρ ρ' (upto m.length)) := by
    intro f xs m ob v m' h ho
    have hl : (roAll m).length = m.length := by simp [roAll]
    unfold turnC at h
    split at h
    · split at h
      · rename_i o1 x m1 hflat
        cases h
        have hsat := go_sound (flat_sound hflat ho)
        refine ⟨by simp, fun {w0 S ρ w vs} ha hi => ?_⟩
        obtain ⟨hf, hc⟩ := funcA_sound hm hH hsat (w0 := w) (S := fun _ => False) (by rw [hl]; exact ha) (ro_start hi)
        refine callRun_of hng hf (hc.mono fun e w' ⟨u, h1, x', m2, ρ', k1, k2, k3, k4, k5⟩ => ⟨u, h1, ρ', ?_⟩)
        cases k1
        rw [hl] at k4 k5
        have hlen : (m ++ onlyRw (m1.drop m.length)).length = m1.length := by simp [onlyRw]; omega
        rw [hlen]
        refine ⟨k2, hi.join k3 (fun _ h => h.elim) (fun i hi => by simp [upto] at *; omega) (fun _ h => h) k4 (fun _ _ => rfl) fun k b hk => ?_, k4⟩
        rw [getName_app] at hk
        split at hk
        · exact Or.inl ⟨hk, fun h => h⟩
        · right
          obtain ⟨g1, g2⟩ := getName_onlyRw hk
          rw [getName_drop, show m.length + (k - m.length) = k by omega] at g1
          exact ⟨g1, g2⟩
      · exact ⟨hX.le h ho, fun ha hi => hX.run h ho ha hi⟩
    · exact ⟨hX.le h ho, fun ha hi => hX.run h ho ha hi⟩
  exact ⟨@fun f xs m ob v m' h ho => (both h ho).1, @fun f xs m ob v m' h ho w0 S ρ w vs ha hi => (both h ho).2 ha hi⟩
end
end Go.Ev
namespace Go.Ev
set_option linter.unusedSectionVars false
variable [Tab]
open Go.ChangeShapes Go.WideShapes Go.ChangeAt Go.RowKit
section
variable {P : Program} {q : FuncId → Bool} {H : CallH} {Λ : LoopH}
end
end Go.Ev
namespace Go.Ev
set_option linter.unusedSectionVars false
variable [Tab]
def inL (P : Program) (q : FuncId → Bool) (H : CallH) (Λ : LoopH) (fuel : Nat) (g : FuncId) (ds : List Bool) (X : CallH) : CallH := fun f xs m =>
  match decide (f = g) with
  | true => match ((funcL P q H Λ fuel f xs m).go ds).flat with
    | some (o, (v, m')) => (match decide (m.length ≤ m'.length) with | true => some (o, (v, m')) | false => none)
    | none => X f xs m
  | false => X f xs m
section
variable {P : Program} {q : FuncId → Bool} {H X : CallH} {Λ : LoopH}
theorem HOk.inL (hm : P.follows .mixedOrders = true) (hng : noCount P = true) (hH : HOk P H) (hX : HOk P X) (fuel : Nat) (g : FuncId) (ds : List Bool) (hΛ : ∀ fn c, P.funcs[g]? = some fn → fn.body = some c → LOk P c Λ) : HOk P (inL P q H Λ fuel g ds X) := by
  have both : ∀ {f : FuncId} {xs : List AV} {m : Mem} {ob : List Bool} {v : AV} {m' : Mem}, Go.Ev.inL P q H Λ fuel g ds X f xs m = some (ob, (v, m')) → Paid ob →
      m.length ≤ m'.length ∧ ∀ {w0 : World} {S : Nat → Prop} {ρ : Nat → Loc3} {w : World} {vs : List Value}, Reps ρ (upto m.length) xs vs → Inv w0 S (upto m.length) ρ (getName m) w →
      CallRun P f vs.toArray w (fun u w' => ∃ ρ', Rep ρ' (upto m'.length) v u ∧ Inv w0 S (upto m'.length) ρ' (getName m') w' ∧ Agr ρ ρ' (upto m.length)) := by
    intro f xs m ob v m' h ho
    unfold Go.Ev.inL at h
    split at h
    · rename_i hf
      have hf' := of_decide_eq_true hf
      subst hf'
      split at h
      · rename_i o1 x m1 hflat
        split at h
        case h_2 => cases h
        rename_i hle
        cases h
        have hsat := go_sound (flat_sound hflat ho)
        refine ⟨by simpa using hle, fun {w0 S ρ w vs} ha hi => ?_⟩
        obtain ⟨hf, hc⟩ := funcL_sound hm hH hΛ hsat (w0 := w0) (S := S) ha hi
        refine callRun_of hng hf (hc.mono fun e w' ⟨u, h1, x', m2, ρ', k1, k2, k3, k4, k5⟩ => ⟨u, h1, ρ', ?_⟩)
        cases k1
        exact ⟨k2, k3, k4⟩
      · exact ⟨hX.le h ho, fun ha hi => hX.run h ho ha hi⟩
    · exact ⟨hX.le h ho, fun ha hi => hX.run h ho ha hi⟩
  exact ⟨@fun f xs m ob v m' h ho => (both h ho).1, @fun f xs m ob v m' h ho w0 S ρ w vs ha hi => (both h ho).2 ha hi⟩
end
end Go.Ev
