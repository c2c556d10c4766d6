/- Unlike blocks are enciphered unlike. Own work. -/
import Derived.Test.YtclkicobnmjpoaaAesB
namespace Go.As
open Go.Ev Go.Sh
def Blk (b : List Int) : Prop := b.length = 16 ∧ ∀ x ∈ b, B8 x
theorem ixor_b8 (x y : Int) : B8 (ixor .u8 x y) := by
  unfold ixor
  rw [wrap_u (k := .u8) rfl]
  exact ⟨Int.emod_nonneg _ (by decide), Int.emod_lt_of_pos _ (by decide)⟩
theorem ixor_inj {x x' y : Int} (hx : B8 x) (hx' : B8 x') (h : ixor .u8 x y = ixor .u8 x' y) : x = x' := by
  have e : ∀ z : Int, ixor .u8 z y = (((BitVec.ofInt 8 z ^^^ BitVec.ofInt 8 y).toNat : Nat) : Int) := fun z => by
    unfold ixor
    rw [wrap_u (k := .u8) rfl]
    refine Int.emod_eq_of_lt (by omega) ?_
    have := (BitVec.ofInt 8 z ^^^ BitVec.ofInt 8 y).isLt
    simp only [IntKind.bits]
    omega
  rw [e, e] at h
  have h1 : BitVec.ofInt 8 x ^^^ BitVec.ofInt 8 y = BitVec.ofInt 8 x' ^^^ BitVec.ofInt 8 y := BitVec.eq_of_toNat_eq (by omega)
  have h2 : BitVec.ofInt 8 x = BitVec.ofInt 8 x' := by
    have := congrArg (· ^^^ BitVec.ofInt 8 y) h1
    simpa [BitVec.xor_assoc] using this
  have h3 := congrArg BitVec.toNat h2
  obtain ⟨a, ha, rfl⟩ := wd_nat (b8_wd hx)
  obtain ⟨c, hc, rfl⟩ := wd_nat (b8_wd hx')
  rw [ofInt_nat ha, ofInt_nat hc] at h3
  omega
theorem two_two (a c : Int) : ix (ix a (ix (dI (dI a)) (ix 0 (dI (dI c))))) (ix (dI (dI (ix a (ix (dI (dI a)) (ix 0 (dI (dI c))))))) (ix 0 (dI (dI (ix c (ix (dI (dI c)) (ix 0 (dI (dI a))))))))) = ix 0 a := by
  simp only [dI_ix, show dI 0 = 0 from rfl]
  generalize dI (dI (dI (dI a))) = a4
  generalize dI (dI (dI (dI c))) = c4
  generalize dI (dI a) = a2
  generalize dI (dI c) = c2
  have h : ∀ x y : Int, (ix x y : Int) = ((x.toNat ^^^ y.toNat : Nat) : Int) := fun _ _ => rfl
  simp only [h, Int.toNat_natCast, Int.toNat_zero, Nat.zero_xor]
  congr 1
  generalize a.toNat = a, c.toNat = c, a2.toNat = a2, c2.toNat = c2, a4.toNat = a4, c4.toNat = c4
  apply Nat.eq_of_testBit_eq
  intro i
  simp only [Nat.testBit_xor]
  generalize a.testBit i = q0, c.testBit i = q1, a2.testBit i = q2, c2.testBit i = q3, a4.testBit i = q4, c4.testBit i = q5
  revert q0 q1 q2 q3 q4 q5
  decide +kernel
theorem mixC_inj {p q r s p' q' r' s' : Int} (hp : B8 p) (hq : B8 q) (hr : B8 r) (hs : B8 s) (hp' : B8 p') (hq' : B8 q') (hr' : B8 r') (hs' : B8 s') (h : mixC p q r s = mixC p' q' r' s') : p = p' ∧ q = q' ∧ r = r' ∧ s = s' := by
  rw [mixC_eq hp hq hr hs, mixC_eq hp' hq' hr' hs'] at h
  simp only [List.cons.injEq, and_true] at h
  obtain ⟨h1, h2, h3, h4⟩ := h
  have t1 := mx_two p q r s
  have t2 := mx_two q r s p
  have t3 := mx_two r s p q
  have t4 := mx_two s p q r
  rw [h1, h2, h3, h4] at t1 t2 t3 t4
  rw [mx_two p' q' r' s'] at t1
  rw [mx_two q' r' s' p'] at t2
  rw [mx_two r' s' p' q'] at t3
  rw [mx_two s' p' q' r'] at t4
  have f : ∀ {a c a' c' : Int}, B8 a → B8 a' → ix a' (ix (dI (dI a')) (ix 0 (dI (dI c')))) = ix a (ix (dI (dI a)) (ix 0 (dI (dI c)))) → ix c' (ix (dI (dI c')) (ix 0 (dI (dI a')))) = ix c (ix (dI (dI c)) (ix 0 (dI (dI a)))) → a = a' := fun {a c a' c'} ha ha' e1 e2 => by
    have k := two_two a c
    rw [← e1, ← e2, two_two a' c', ix_z ha.1, ix_z ha'.1] at k
    exact k.symm
  exact ⟨f hp hp' t1 t3, f hq hq' t2 t4, f hr hr' t3 t1, f hs hs' t4 t2⟩
theorem addB_blk (W : List Int) (n : Nat) (b : List Int) : Blk (addB W n b) := by
  refine ⟨by simp [addB], fun x hx => ?_⟩
  unfold addB at hx
  obtain ⟨i, _, rfl⟩ := List.mem_map.1 hx
  exact ixor_b8 _ _
theorem subB_blk {b : List Int} (h : Blk b) : Blk (subB b) := by
  refine ⟨by simp [subB], fun x hx => ?_⟩
  unfold subB at hx
  obtain ⟨i, _, rfl⟩ := List.mem_map.1 hx
  exact sb_b8 (getD_B8 h.2 _)
theorem mixB_blk (b : List Int) : Blk (mixB b) := by
  refine ⟨rfl, fun x hx => ?_⟩
  simp only [mixB, mixC, List.cons_append, List.nil_append, List.mem_cons, List.not_mem_nil, or_false] at hx
  rcases hx with rfl | rfl | rfl | rfl | rfl | rfl | rfl | rfl | rfl | rfl | rfl | rfl | rfl | rfl | rfl | rfl <;> exact ixor_b8 _ _
theorem blk_ext {b c : List Int} (hb : Blk b) (hc : Blk c) (h : ∀ i, i < 16 → b.getD i 0 = c.getD i 0) : b = c := by
  apply List.ext_getElem (by rw [hb.1, hc.1])
  intro i h1 h2
  have := h i (by rw [hb.1] at h1; exact h1)
  simpa [List.getD, List.getElem?_eq_getElem h1, List.getElem?_eq_getElem h2] using this
theorem map_get {f g : Nat → Int} {n : Nat} (h : (List.range n).map f = (List.range n).map g) {i : Nat} (hi : i < n) : f i = g i := by
  have := congrArg (fun l => l[i]?) h
  simpa [hi] using this
theorem addB_inj {W : List Int} {n : Nat} {b c : List Int} (hb : Blk b) (hc : Blk c) (h : addB W n b = addB W n c) : b = c :=
  blk_ext hb hc fun i hi => ixor_inj (getD_B8 hb.2 i) (getD_B8 hc.2 i) (map_get h hi)
theorem subB_inj {b c : List Int} (hb : Blk b) (hc : Blk c) (h : subB b = subB c) : b = c :=
  blk_ext hb hc fun i hi => by
    have k := map_get h (i := 13 * i % 16) (by omega)
    have e : 5 * (13 * i % 16) % 16 = i := by omega
    rw [e] at k
    exact sb_inj (getD_B8 hb.2 i) (getD_B8 hc.2 i) k
theorem mixB_inj {b c : List Int} (hb : Blk b) (hc : Blk c) (h : mixB b = mixC (c.getD 0 0) (c.getD 1 0) (c.getD 2 0) (c.getD 3 0) ++ mixC (c.getD 4 0) (c.getD 5 0) (c.getD 6 0) (c.getD 7 0) ++ mixC (c.getD 8 0) (c.getD 9 0) (c.getD 10 0) (c.getD 11 0) ++ mixC (c.getD 12 0) (c.getD 13 0) (c.getD 14 0) (c.getD 15 0)) : b = c := by
  unfold mixB at h
  obtain ⟨h, h4⟩ := List.append_inj h rfl
  obtain ⟨h, h3⟩ := List.append_inj h rfl
  obtain ⟨h1, h2⟩ := List.append_inj h rfl
  have B := fun i => getD_B8 hb.2 i
  have C := fun i => getD_B8 hc.2 i
  obtain ⟨a0, a1, a2, a3⟩ := mixC_inj (B _) (B _) (B _) (B _) (C _) (C _) (C _) (C _) h1
  obtain ⟨a4, a5, a6, a7⟩ := mixC_inj (B _) (B _) (B _) (B _) (C _) (C _) (C _) (C _) h2
  obtain ⟨a8, a9, a10, a11⟩ := mixC_inj (B _) (B _) (B _) (B _) (C _) (C _) (C _) (C _) h3
  obtain ⟨a12, a13, a14, a15⟩ := mixC_inj (B _) (B _) (B _) (B _) (C _) (C _) (C _) (C _) h4
  refine blk_ext hb hc fun i hi => ?_
  have e : i = 0 ∨ i = 1 ∨ i = 2 ∨ i = 3 ∨ i = 4 ∨ i = 5 ∨ i = 6 ∨ i = 7 ∨ i = 8 ∨ i = 9 ∨ i = 10 ∨ i = 11 ∨ i = 12 ∨ i = 13 ∨ i = 14 ∨ i = 15 := by omega
  rcases e with rfl | rfl | rfl | rfl | rfl | rfl | rfl | rfl | rfl | rfl | rfl | rfl | rfl | rfl | rfl | rfl <;> assumption
theorem rndB_inj {W : List Int} {b c : List Int} (hb : Blk b) (hc : Blk c) : ∀ n, Blk (rndB W n b) ∧ (rndB W n b = rndB W n c → b = c)
  | 0 => ⟨addB_blk _ _ _, addB_inj hb hc⟩
  | n + 1 => by
    refine ⟨addB_blk _ _ _, fun h => ?_⟩
    have hb' : Blk (rndB W n b) := by cases n <;> exact addB_blk _ _ _
    have hc' : Blk (rndB W n c) := by cases n <;> exact addB_blk _ _ _
    exact (rndB_inj hb hc n).2 (subB_inj hb' hc' (mixB_inj (subB_blk hb') (subB_blk hc') (addB_inj (mixB_blk _) (mixB_blk _) h)))
theorem encB_inj {W : List Int} {b c : List Int} (hb : Blk b) (hc : Blk c) (r : Nat) (h : encB W r b = encB W r c) : b = c := by
  have hb' : Blk (rndB W (r - 1) b) := (rndB_inj (c := b) hb hb _).1
  have hc' : Blk (rndB W (r - 1) c) := (rndB_inj (c := c) hc hc _).1
  exact (rndB_inj hb hc _).2 (subB_inj hb' hc' (addB_inj (subB_blk hb') (subB_blk hc') h))
end Go.As
