/- Any bytes are opened just if their last 16 are the tag that the reference has, and so are sealed ones of which a bit was turned: for every job, bytes and number the law answers true. No condition. -/
import Derived.Test.YtfmgodgakndjcaaQGcOa
import Derived.Test.YtfmgodgakndjcaaQGcOb
import Derived.Test.YtfmgodgakndjcaaQGcOc
import Derived.Test.YtfmgodgakndjcaaQGcOd
import Derived.Test.YtfmgodgakndjcaaQGcOe
import Derived.Test.YtfmgodgakndjcaaQGcOf
import Derived.Test.YtfmgodgakndjcaaQGcOg
import Derived.Test.YtfmgodgakndjcaaQGcOh
import Derived.Test.YtfmgodgakndjcaaQGcOi
set_option linter.unusedSimpArgs false
set_option linter.unusedVariables false
set_option linter.unusedSectionVars false
namespace Go.Proofs.Ytfmgodgakndjcaa
open Go.Ev Go.Sh Go.As Go.Gc
open Go.ChangeShapes Go.WideShapes Go.ChangeAt Go.RowKit
set_option maxRecDepth 100000
theorem co_no_be (r : Bool) (k l : List Int) (m : Nat) (a : List Int) (e2 : Bool) (e3 : Bool) (bit : Int) (b : Bool) : coE .no b true 9 (kV r k) (.buf false .u8 12 l) (.buf true .u8 m a) (eV e2) (eV e3) bit [] = some ([decide (m < 9223372036854775808), decide ((m : Int) ≤ 200), decide ((m : Int) ≤ 200), decide ((m : Int) ≤ 200), decide ((m : Int) ≤ 200), decide ((m : Int) ≤ 200), true == true] ++ (aV true m ++ ((aV true m ++ ([] ++ (aO true m ++ ([] ++ ([] ++ stD 16 bit 16))))) ++ ls16 b r k l true m (aL true m a) (setB (tagB (kW r k) (rds r) l (aL true m a) m [] 0) 16 bit))), .bool true (b == tgC r k l (aL true m a) m (setB (tagB (kW r k) (rds r) l (aL true m a) m [] 0) 16 bit))) := by
  cases e2
  · exact co_no_beE r k l m a e3 bit b
  · exact co_no_beN r k l m a e3 bit b
theorem co_few_be (r : Bool) (k l : List Int) (m : Nat) (a : List Int) (e2 : Bool) (u : Nat) (y : List Int) (bit : Int) (b : Bool) : coE .few b true 9 (kV r k) (.buf false .u8 12 l) (.buf true .u8 m a) (eV e2) (.buf true .u8 u y) bit [false] = some ([decide (m < 9223372036854775808), decide ((m : Int) ≤ 200), decide ((m : Int) ≤ 200), decide ((m : Int) ≤ 200), decide ((m : Int) ≤ 200), decide ((m : Int) ≤ 200), true == true] ++ ([decide (u < 9223372036854775808), !decide ((u : Int) > 300)] ++ (itF true m u ++ ((aV true m ++ ([] ++ (aO true m ++ ([] ++ ([] ++ stD 16 bit 16))))) ++ ls16 b r k l true m (aL true m a) (setB (tagB (kW r k) (rds r) l (aL true m a) m [] 0) 16 bit)))), .bool true (b == tgC r k l (aL true m a) m (setB (tagB (kW r k) (rds r) l (aL true m a) m [] 0) 16 bit))) := by
  cases e2
  · exact co_few_beE r k l m a u y bit b
  · exact co_few_beN r k l m a u y bit b
theorem co_lo_be (r : Bool) (k l : List Int) (m : Nat) (a : List Int) (e2 : Bool) (u : Nat) (y : List Int) (g : Bool) (bit : Int) (b : Bool) : coE (cW g) b true 9 (kV r k) (.buf false .u8 12 l) (.buf true .u8 m a) (eV e2) (.buf true .u8 u y) bit [false] = some ([decide (m < 9223372036854775808), decide ((m : Int) ≤ 200), decide ((m : Int) ≤ 200), decide ((m : Int) ≤ 200), decide ((m : Int) ≤ 200), decide ((m : Int) ≤ 200), true == true] ++ ([decide (u < 9223372036854775808), !decide ((u : Int) > 300)] ++ (itL g r k l true m (aL true m a) y u u ++ ((aV true m ++ ([] ++ (aO true m ++ ([] ++ ([] ++ stD 16 bit 16))))) ++ ls16 b r k l true m (aL true m a) (setB (tagB (kW r k) (rds r) l (aL true m a) m [] 0) 16 bit)))), .bool true (b == tgC r k l (aL true m a) m (setB (tagB (kW r k) (rds r) l (aL true m a) m [] 0) 16 bit))) := by
  cases e2
  · exact co_lo_beE r k l m a u y g bit b
  · exact co_lo_beN r k l m a u y g bit b
theorem co_l6_be (r : Bool) (k l : List Int) (m : Nat) (a : List Int) (e2 : Bool) (y : List Int) (g : Bool) (bit : Int) (b : Bool) : coE (cW g) b true 9 (kV r k) (.buf false .u8 12 l) (.buf true .u8 m a) (eV e2) (.buf false .u8 16 y) bit [] = some ([decide (m < 9223372036854775808), decide ((m : Int) ≤ 200), decide ((m : Int) ≤ 200), decide ((m : Int) ≤ 200), decide ((m : Int) ≤ 200), decide ((m : Int) ≤ 200), true == true] ++ (it16 g r k l true m (aL true m a) y ++ ((aV true m ++ ([] ++ (aO true m ++ ([] ++ ([] ++ stD 16 bit 16))))) ++ ls16 b r k l true m (aL true m a) (setB (tagB (kW r k) (rds r) l (aL true m a) m [] 0) 16 bit))), .bool true (b == tgC r k l (aL true m a) m (setB (tagB (kW r k) (rds r) l (aL true m a) m [] 0) 16 bit))) := by
  cases e2
  · exact co_l6_beE r k l m a y g bit b
  · exact co_l6_beN r k l m a y g bit b
theorem co_big_be (r : Bool) (k l : List Int) (m : Nat) (a : List Int) (e2 : Bool) (u : Nat) (y : List Int) (bit : Int) : coE .no true true 9 (kV r k) (.buf false .u8 12 l) (.buf true .u8 m a) (eV e2) (.buf true .u8 u y) bit [true] = some ([decide (m < 9223372036854775808), decide ((m : Int) ≤ 200), decide ((m : Int) ≤ 200), decide ((m : Int) ≤ 200), decide ((m : Int) ≤ 200), decide ((m : Int) ≤ 200), true == true] ++ [decide (u < 9223372036854775808), decide ((u : Int) > 300)], .bool false true) := by
  cases e2
  · exact co_big_beE r k l m a u y bit
  · exact co_big_beN r k l m a u y bit
theorem co_no_eb (r : Bool) (k l : List Int) (e1 : Bool) (n : Nat) (p : List Int) (e3 : Bool) (bit : Int) (b : Bool) : coE .no b true 9 (kV r k) (.buf false .u8 12 l) (eV e1) (.buf true .u8 n p) (eV e3) bit [] = some ([decide (n < 9223372036854775808), decide ((n : Int) ≤ 300) == true] ++ (aV false 0 ++ ((aV false 0 ++ ([decide (0 + n ≤ n)] ++ (aO false 0 ++ ([decide (n ≤ 140737488351232)] ++ (bitD (n + 16) ++ stD (n + 16) bit (sealB (kW r k) (rds r) l [] 0 ((p.drop 0).take n) n).length))))) ++ lsL b r k l false 0 [] (setB (sealB (kW r k) (rds r) l [] 0 ((p.drop 0).take n) n) (n + 16) bit) (n + 16) (setB (sealB (kW r k) (rds r) l [] 0 ((p.drop 0).take n) n) (n + 16) bit).length)), .bool true (b == tgB r k l [] 0 (setB (sealB (kW r k) (rds r) l [] 0 ((p.drop 0).take n) n) (n + 16) bit) (n + 16))) := by
  cases e1
  · exact co_no_ebE r k l n p e3 bit b
  · exact co_no_ebN r k l n p e3 bit b
theorem co_few_eb (r : Bool) (k l : List Int) (e1 : Bool) (n : Nat) (p : List Int) (u : Nat) (y : List Int) (bit : Int) (b : Bool) : coE .few b true 9 (kV r k) (.buf false .u8 12 l) (eV e1) (.buf true .u8 n p) (.buf true .u8 u y) bit [false] = some ([decide (n < 9223372036854775808), decide ((n : Int) ≤ 300) == true] ++ ([decide (u < 9223372036854775808), !decide ((u : Int) > 300)] ++ (itF false 0 u ++ ((aV false 0 ++ ([decide (0 + n ≤ n)] ++ (aO false 0 ++ ([decide (n ≤ 140737488351232)] ++ (bitD (n + 16) ++ stD (n + 16) bit (sealB (kW r k) (rds r) l [] 0 ((p.drop 0).take n) n).length))))) ++ lsL b r k l false 0 [] (setB (sealB (kW r k) (rds r) l [] 0 ((p.drop 0).take n) n) (n + 16) bit) (n + 16) (setB (sealB (kW r k) (rds r) l [] 0 ((p.drop 0).take n) n) (n + 16) bit).length))), .bool true (b == tgB r k l [] 0 (setB (sealB (kW r k) (rds r) l [] 0 ((p.drop 0).take n) n) (n + 16) bit) (n + 16))) := by
  cases e1
  · exact co_few_ebE r k l n p u y bit b
  · exact co_few_ebN r k l n p u y bit b
theorem co_lo_eb (r : Bool) (k l : List Int) (e1 : Bool) (n : Nat) (p : List Int) (u : Nat) (y : List Int) (g : Bool) (bit : Int) (b : Bool) : coE (cW g) b true 9 (kV r k) (.buf false .u8 12 l) (eV e1) (.buf true .u8 n p) (.buf true .u8 u y) bit [false] = some ([decide (n < 9223372036854775808), decide ((n : Int) ≤ 300) == true] ++ ([decide (u < 9223372036854775808), !decide ((u : Int) > 300)] ++ (itL g r k l false 0 [] y u u ++ ((aV false 0 ++ ([decide (0 + n ≤ n)] ++ (aO false 0 ++ ([decide (n ≤ 140737488351232)] ++ (bitD (n + 16) ++ stD (n + 16) bit (sealB (kW r k) (rds r) l [] 0 ((p.drop 0).take n) n).length))))) ++ lsL b r k l false 0 [] (setB (sealB (kW r k) (rds r) l [] 0 ((p.drop 0).take n) n) (n + 16) bit) (n + 16) (setB (sealB (kW r k) (rds r) l [] 0 ((p.drop 0).take n) n) (n + 16) bit).length))), .bool true (b == tgB r k l [] 0 (setB (sealB (kW r k) (rds r) l [] 0 ((p.drop 0).take n) n) (n + 16) bit) (n + 16))) := by
  cases e1
  · exact co_lo_ebE r k l n p u y g bit b
  · exact co_lo_ebN r k l n p u y g bit b
theorem co_l6_eb (r : Bool) (k l : List Int) (e1 : Bool) (n : Nat) (p : List Int) (y : List Int) (g : Bool) (bit : Int) (b : Bool) : coE (cW g) b true 9 (kV r k) (.buf false .u8 12 l) (eV e1) (.buf true .u8 n p) (.buf false .u8 16 y) bit [] = some ([decide (n < 9223372036854775808), decide ((n : Int) ≤ 300) == true] ++ (it16 g r k l false 0 [] y ++ ((aV false 0 ++ ([decide (0 + n ≤ n)] ++ (aO false 0 ++ ([decide (n ≤ 140737488351232)] ++ (bitD (n + 16) ++ stD (n + 16) bit (sealB (kW r k) (rds r) l [] 0 ((p.drop 0).take n) n).length))))) ++ lsL b r k l false 0 [] (setB (sealB (kW r k) (rds r) l [] 0 ((p.drop 0).take n) n) (n + 16) bit) (n + 16) (setB (sealB (kW r k) (rds r) l [] 0 ((p.drop 0).take n) n) (n + 16) bit).length)), .bool true (b == tgB r k l [] 0 (setB (sealB (kW r k) (rds r) l [] 0 ((p.drop 0).take n) n) (n + 16) bit) (n + 16))) := by
  cases e1
  · exact co_l6_ebE r k l n p y g bit b
  · exact co_l6_ebN r k l n p y g bit b
theorem co_big_eb (r : Bool) (k l : List Int) (e1 : Bool) (n : Nat) (p : List Int) (u : Nat) (y : List Int) (bit : Int) : coE .no true true 9 (kV r k) (.buf false .u8 12 l) (eV e1) (.buf true .u8 n p) (.buf true .u8 u y) bit [true] = some ([decide (n < 9223372036854775808), decide ((n : Int) ≤ 300) == true] ++ [decide (u < 9223372036854775808), decide ((u : Int) > 300)], .bool false true) := by
  cases e1
  · exact co_big_ebE r k l n p u y bit
  · exact co_big_ebN r k l n p u y bit
theorem co_no_ee (r : Bool) (k l : List Int) (e1 : Bool) (e2 : Bool) (e3 : Bool) (bit : Int) (b : Bool) : coE .no b true 9 (kV r k) (.buf false .u8 12 l) (eV e1) (eV e2) (eV e3) bit [] = some ([true == true] ++ (aV false 0 ++ ((aV false 0 ++ ([] ++ (aO false 0 ++ ([] ++ ([] ++ stD 16 bit 16))))) ++ ls16 b r k l false 0 [] (setB (tagB (kW r k) (rds r) l [] 0 [] 0) 16 bit))), .bool true (b == tgC r k l [] 0 (setB (tagB (kW r k) (rds r) l [] 0 [] 0) 16 bit))) := by
  cases e1 <;> cases e2
  · exact co_no_eeEE r k l e3 bit b
  · exact co_no_eeEN r k l e3 bit b
  · exact co_no_eeNE r k l e3 bit b
  · exact co_no_eeNN r k l e3 bit b
theorem co_few_ee (r : Bool) (k l : List Int) (e1 : Bool) (e2 : Bool) (u : Nat) (y : List Int) (bit : Int) (b : Bool) : coE .few b true 9 (kV r k) (.buf false .u8 12 l) (eV e1) (eV e2) (.buf true .u8 u y) bit [false] = some ([true == true] ++ ([decide (u < 9223372036854775808), !decide ((u : Int) > 300)] ++ (itF false 0 u ++ ((aV false 0 ++ ([] ++ (aO false 0 ++ ([] ++ ([] ++ stD 16 bit 16))))) ++ ls16 b r k l false 0 [] (setB (tagB (kW r k) (rds r) l [] 0 [] 0) 16 bit)))), .bool true (b == tgC r k l [] 0 (setB (tagB (kW r k) (rds r) l [] 0 [] 0) 16 bit))) := by
  cases e1 <;> cases e2
  · exact co_few_eeEE r k l u y bit b
  · exact co_few_eeEN r k l u y bit b
  · exact co_few_eeNE r k l u y bit b
  · exact co_few_eeNN r k l u y bit b
theorem co_lo_ee (r : Bool) (k l : List Int) (e1 : Bool) (e2 : Bool) (u : Nat) (y : List Int) (g : Bool) (bit : Int) (b : Bool) : coE (cW g) b true 9 (kV r k) (.buf false .u8 12 l) (eV e1) (eV e2) (.buf true .u8 u y) bit [false] = some ([true == true] ++ ([decide (u < 9223372036854775808), !decide ((u : Int) > 300)] ++ (itL g r k l false 0 [] y u u ++ ((aV false 0 ++ ([] ++ (aO false 0 ++ ([] ++ ([] ++ stD 16 bit 16))))) ++ ls16 b r k l false 0 [] (setB (tagB (kW r k) (rds r) l [] 0 [] 0) 16 bit)))), .bool true (b == tgC r k l [] 0 (setB (tagB (kW r k) (rds r) l [] 0 [] 0) 16 bit))) := by
  cases e1 <;> cases e2
  · exact co_lo_eeEE r k l u y g bit b
  · exact co_lo_eeEN r k l u y g bit b
  · exact co_lo_eeNE r k l u y g bit b
  · exact co_lo_eeNN r k l u y g bit b
theorem co_l6_ee (r : Bool) (k l : List Int) (e1 : Bool) (e2 : Bool) (y : List Int) (g : Bool) (bit : Int) (b : Bool) : coE (cW g) b true 9 (kV r k) (.buf false .u8 12 l) (eV e1) (eV e2) (.buf false .u8 16 y) bit [] = some ([true == true] ++ (it16 g r k l false 0 [] y ++ ((aV false 0 ++ ([] ++ (aO false 0 ++ ([] ++ ([] ++ stD 16 bit 16))))) ++ ls16 b r k l false 0 [] (setB (tagB (kW r k) (rds r) l [] 0 [] 0) 16 bit))), .bool true (b == tgC r k l [] 0 (setB (tagB (kW r k) (rds r) l [] 0 [] 0) 16 bit))) := by
  cases e1 <;> cases e2
  · exact co_l6_eeEE r k l y g bit b
  · exact co_l6_eeEN r k l y g bit b
  · exact co_l6_eeNE r k l y g bit b
  · exact co_l6_eeNN r k l y g bit b
theorem co_big_ee (r : Bool) (k l : List Int) (e1 : Bool) (e2 : Bool) (u : Nat) (y : List Int) (bit : Int) : coE .no true true 9 (kV r k) (.buf false .u8 12 l) (eV e1) (eV e2) (.buf true .u8 u y) bit [true] = some ([true == true] ++ [decide (u < 9223372036854775808), decide ((u : Int) > 300)], .bool false true) := by
  cases e1 <;> cases e2
  · exact co_big_eeEE r k l u y bit
  · exact co_big_eeEN r k l u y bit
  · exact co_big_eeNE r k l u y bit
  · exact co_big_eeNN r k l u y bit
theorem rep_paid {k : Nat} {b : Bool} (h : b = true) : Paid (List.replicate k b) := fun _ hp => by rw [(List.mem_replicate.1 hp).2, h]
theorem aV_paid (e : Bool) (m : Nat) : Paid (aV e m) := by cases e <;> first | exact Paid.nil | exact paid_cons (decide_eq_true (by omega)) Paid.nil
theorem aO_paid {e : Bool} {m : Nat} (h : e = true → m ≤ 200) : Paid (aO e m) := by
  cases e with
  | false => exact Paid.nil
  | true => have := h rfl; exact paid_cons (decide_eq_true (by omega)) Paid.nil
theorem aT_paid {e : Bool} {m : Nat} (h : e = true → m ≤ 200) : Paid (aT e m) := by
  cases e with
  | false => exact Paid.nil
  | true => have := h rfl; exact paid_cons (decide_eq_true (by omega)) Paid.nil
theorem kN_s {N : Nat} (h : 16 ≤ N) (h2 : N ≤ 1000) : (kN N).toNat = N - 16 ∧ decide (kN N ≥ 0) = true ∧ bdN N = true := by
  have e := kN_eq (n := N) (by omega)
  refine ⟨by rw [e]; omega, decide_eq_true (by rw [e]; omega), ?_⟩
  unfold bdN
  rw [e, decide_eq_true (by omega), decide_eq_true (by omega)]; rfl
theorem nk_or (r : Bool) : nk r = 4 ∨ nk r = 8 := by cases r <;> simp [nk]
theorem wD_paid {r : Bool} {k : List Int} (hr : ∀ x ∈ k, B8 x) : Paid (wD r k) := paid_cons (decide_eq_true (specW_len _ _ _)) (paid_cons (List.all_eq_true.2 fun x hx => b8_inR (specW_b8 (nk r) hr _ x hx)) Paid.nil)
theorem tag_s {r : Bool} {k : List Int} (hk : k.length = 4 * nk r) (hr : ∀ x ∈ k, B8 x) (l A : List Int) (m : Nat) (q : List Int) (n : Nat) : tagR (sW r k) (rds r) l A m q n = tagB (kW r k) (rds r) l A m q n := by
  have := tag_same (nk_or r) hk hr l A m q n
  cases r <;> exact this
theorem turn_s {r : Bool} {k : List Int} (hk : k.length = 4 * nk r) (hr : ∀ x ∈ k, B8 x) (l p : List Int) {n : Nat} (hn : n < 1000000000) : tuR (sW r k) (rds r) l p n ((n + 15) / 16) = cvL (kW r k) (rds r) l p n := by
  have := turn_same (nk_or r) hk hr l p hn ((n + 15) / 16) (Nat.le_refl _)
  rw [show min (16 * ((n + 15) / 16)) n = n by omega] at this
  cases r <;> exact this
theorem cvL_take (W : List Int) (rr : Nat) (l q : List Int) (t : Nat) : cvL W rr l (q.take t) t = cvL W rr l q t := by
  unfold cvL
  refine List.map_congr_left fun j hj => ?_
  have := List.mem_range.1 hj
  unfold cvx
  rw [List.getD_eq_getElem?_getD, List.getElem?_take, if_pos this, ← List.getD_eq_getElem?_getD]
theorem tq_s {q : List Int} {N : Nat} (h : 16 ≤ N) (h2 : N ≤ 1000) : tqL q N = q.take (N - 16) := by
  unfold tqL
  rw [(kN_s h h2).1, show 0 + 0 * 1 = 0 by omega, List.drop_zero, Nat.sub_zero]
theorem tg_eq {r : Bool} {k : List Int} (hk : k.length = 4 * nk r) (hr : ∀ x ∈ k, B8 x) (l A : List Int) (m : Nat) {q : List Int} {N : Nat} (hq : q.length = N) (h : 16 ≤ N) (h2 : N ≤ 1000) : tgB r k l A m q N = goodB (kW r k) (rds r) l A m q N := by
  unfold tgB goodB
  rw [tq_s h h2, (kN_s h h2).1, show 0 + (N - 16) * 1 = N - 16 by omega, Nat.sub_zero, tag_s hk hr, List.take_of_length_le (i := N - (N - 16)) (by rw [List.length_drop]; omega)]
  exact decide_eq_decide.2 eq_comm
theorem tgC_eq {r : Bool} {k : List Int} (hk : k.length = 4 * nk r) (hr : ∀ x ∈ k, B8 x) (l A : List Int) (m : Nat) (q : List Int) : tgC r k l A m q = goodB (kW r k) (rds r) l A m q 16 := by
  unfold tgC goodB
  rw [show 16 - 16 = 0 by omega, List.drop_zero, List.take_zero, tag_s hk hr]
  exact decide_eq_decide.2 eq_comm
theorem r10w_paid {T : Bool} (h : T = false) : Paid (r10w T) := by
  subst h
  exact paid_append.2 ⟨paid_cons rfl (paid_cons rfl Paid.nil), paid_append.2 ⟨rep_paid rfl, paid_append.2 ⟨paid_cons rfl (paid_cons rfl (paid_cons rfl Paid.nil)), rep_paid rfl⟩⟩⟩
theorem r10e_paid {T G C : Bool} (h : T = true) (hG : G = true) (hC : C = true) : Paid (r10e T G C) := by
  subst h hG hC
  intro p hp
  simp [r10e] at hp
  exact hp
theorem tgD_paid {r : Bool} {k : List Int} {e : Bool} {m N Z : Nat} (hr : ∀ x ∈ k, B8 x) (he : e = true → m ≤ 200) (h : 17 ≤ N) (h2 : N ≤ 1000) (hZ : Z = N) : Paid (tgD r k e m N Z) := by
  obtain ⟨k1, k2, k3⟩ := kN_s (N := N) (by omega) h2
  unfold tgD
  rw [k1]
  exact paid_append.2 ⟨wD_paid hr, paid_append.2 ⟨aV_paid _ _, paid_append.2 ⟨paid_cons (decide_eq_true (by omega)) Paid.nil, paid_append.2 ⟨aT_paid he, paid_append.2 ⟨paid_cons (decide_eq_true (by omega)) Paid.nil, wD_paid hr⟩⟩⟩⟩⟩
theorem r9_paid {r : Bool} {k : List Int} {e : Bool} {m N Z : Nat} (hr : ∀ x ∈ k, B8 x) (he : e = true → m ≤ 200) (h : 17 ≤ N) (h2 : N ≤ 1000) (hZ : Z = N) : Paid (r9 r k e m N Z) := by
  obtain ⟨k1, k2, k3⟩ := kN_s (N := N) (by omega) h2
  unfold r9
  rw [k1, k2, k3]
  exact paid_append.2 ⟨rep_paid rfl, paid_append.2 ⟨paid_cons rfl (paid_cons rfl Paid.nil), paid_append.2 ⟨tgD_paid hr he h h2 hZ, paid_append.2 ⟨rep_paid rfl, paid_cons rfl (paid_cons rfl (paid_cons (decide_eq_true (by omega)) (paid_cons rfl (paid_cons rfl Paid.nil))))⟩⟩⟩⟩
theorem r10_paid {b r : Bool} {k l A : List Int} {m : Nat} {q : List Int} {N Z : Nat} (hk : k.length = 4 * nk r) (hr : ∀ x ∈ k, B8 x) (hq : q.length = N) (h : 17 ≤ N) (h2 : N ≤ 1000) (hZ : Z = N) (hg : goodB (kW r k) (rds r) l A m q N = b) : Paid (r10 b r k l A m q N Z) := by
  obtain ⟨k1, k2, k3⟩ := kN_s (N := N) (by omega) h2
  have hT : tgB r k l A m q N = b := by rw [tg_eq hk hr l A m hq (by omega) h2, hg]
  cases b with
  | false => exact r10w_paid hT
  | true =>
    have hY : (q.drop 0).take N = q := by rw [List.drop_zero, List.take_of_length_le (by omega)]
    have hU : tuT r k l q N = cvL (kW r k) (rds r) l q (N - 16) := by
      unfold tuT
      rw [tq_s (q := q) (N := N) (by omega) h2, k1, Nat.sub_zero, turn_s hk hr l _ (by omega), cvL_take]
    have hl : ∀ z : List Int, (cvL (kW r k) (rds r) l z (N - 16)).length = N - 16 := fun z => cvL_len _ _ _ _ _
    unfold r10
    simp only
    rw [hT, hU, k1, k3, hY, Nat.sub_zero]
    exact paid_append.2 ⟨paid_cons rfl (paid_cons rfl (paid_cons rfl (paid_cons rfl (paid_cons (decide_eq_true (by rw [hl]; omega)) Paid.nil)))), paid_append.2 ⟨rep_paid rfl, paid_append.2 ⟨paid_cons rfl (paid_cons rfl (paid_cons (decide_eq_true (by omega)) (paid_cons rfl (paid_cons rfl (paid_cons rfl (paid_cons (decide_eq_true (by omega)) (paid_cons (decide_eq_true (by omega)) Paid.nil))))))), paid_append.2 ⟨wD_paid hr, paid_append.2 ⟨paid_cons rfl (paid_cons (decide_eq_true (by rw [hl]; omega)) (paid_cons rfl Paid.nil)), r10e_paid rfl rfl (by rw [decide_eq_true rfl]; rfl)⟩⟩⟩⟩⟩
theorem gD_paid {b g : Bool} (h : g = b) : gD b g = true := by subst h; cases g <;> rfl
theorem opL_paid {b r : Bool} {k l : List Int} {e : Bool} {m : Nat} {A q : List Int} {N Z : Nat} (hq : q.length = N) (h : 17 ≤ N) (h2 : N ≤ 1000) (hZ : Z = N) (he : e = true → m ≤ 200) (hg : goodB (kW r k) (rds r) l A m q N = b) : Paid (opL b r k l e m A q N Z) := by
  have hY : (q.drop 0).take N = q := by rw [List.drop_zero, List.take_of_length_le (by omega)]
  unfold opL
  rw [hY]
  exact paid_append.2 ⟨aV_paid _ _, paid_append.2 ⟨paid_cons (decide_eq_true (by omega)) Paid.nil, paid_append.2 ⟨aO_paid he, paid_cons (decide_eq_true (by omega)) (paid_cons (decide_eq_true (by omega)) (paid_cons (gD_paid hg) Paid.nil))⟩⟩⟩
theorem itL_paid {b r : Bool} {k l : List Int} {e : Bool} {m : Nat} {A q : List Int} {N Z : Nat} (hk : k.length = 4 * nk r) (hr : ∀ x ∈ k, B8 x) (hq : q.length = N) (h : 17 ≤ N) (h2 : N ≤ 1000) (hZ : Z = N) (he : e = true → m ≤ 200) (hg : goodB (kW r k) (rds r) l A m q N = b) : Paid (itL b r k l e m A q N Z) :=
  paid_append.2 ⟨opL_paid hq h h2 hZ he hg, paid_append.2 ⟨paid_cons (decide_eq_true (by omega)) Paid.nil, paid_append.2 ⟨r9_paid hr he h h2 hZ, r10_paid hk hr hq h h2 hZ hg⟩⟩⟩
theorem lsL_paid {b r : Bool} {k l : List Int} {e : Bool} {m : Nat} {A q : List Int} {N Z : Nat} (hr : ∀ x ∈ k, B8 x) (hq : q.length = N) (h : 17 ≤ N) (h2 : N ≤ 1000) (hZ : Z = N) (he : e = true → m ≤ 200) (hg : goodB (kW r k) (rds r) l A m q N = b) : Paid (lsL b r k l e m A q N Z) := by
  obtain ⟨k1, k2, k3⟩ := kN_s (N := N) (by omega) h2
  unfold lsL
  rw [k1, k3]
  exact paid_append.2 ⟨paid_cons (decide_eq_true (by omega)) Paid.nil, paid_append.2 ⟨opL_paid hq h h2 hZ he hg, paid_append.2 ⟨paid_cons rfl Paid.nil, paid_append.2 ⟨tgD_paid hr he h h2 hZ, paid_cons rfl (paid_cons (decide_eq_true (by omega)) Paid.nil)⟩⟩⟩⟩
theorem op16_paid {b r : Bool} {k l : List Int} {e : Bool} {m : Nat} {A q : List Int} (he : e = true → m ≤ 200) (hg : goodB (kW r k) (rds r) l A m q 16 = b) : Paid (op16 b r k l e m A q) :=
  paid_append.2 ⟨aV_paid _ _, paid_append.2 ⟨aO_paid he, paid_cons rfl (paid_cons rfl (paid_cons (gD_paid hg) Paid.nil))⟩⟩
theorem tg16_paid {r : Bool} {k : List Int} {e : Bool} {m : Nat} (hr : ∀ x ∈ k, B8 x) (he : e = true → m ≤ 200) : Paid (tg16 r k e m) :=
  paid_append.2 ⟨wD_paid hr, paid_append.2 ⟨aV_paid _ _, paid_append.2 ⟨aT_paid he, wD_paid hr⟩⟩⟩
theorem ls16_paid {b r : Bool} {k l : List Int} {e : Bool} {m : Nat} {A q : List Int} (hr : ∀ x ∈ k, B8 x) (he : e = true → m ≤ 200) (hg : goodB (kW r k) (rds r) l A m q 16 = b) : Paid (ls16 b r k l e m A q) :=
  paid_append.2 ⟨op16_paid he hg, tg16_paid hr he⟩
theorem it16_paid {b r : Bool} {k l : List Int} {e : Bool} {m : Nat} {A q : List Int} (hk : k.length = 4 * nk r) (hr : ∀ x ∈ k, B8 x) (he : e = true → m ≤ 200) (hg : goodB (kW r k) (rds r) l A m q 16 = b) : Paid (it16 b r k l e m A q) := by
  have hT : tgC r k l A m q = b := by rw [tgC_eq hk hr, hg]
  unfold it16
  rw [hT]
  refine paid_append.2 ⟨op16_paid he hg, paid_append.2 ⟨tg16_paid hr he, ?_⟩⟩
  cases b with
  | false => exact r10w_paid rfl
  | true => exact paid_append.2 ⟨paid_cons rfl (paid_cons rfl (paid_cons rfl (paid_cons rfl (paid_cons (decide_eq_true (by omega)) Paid.nil)))), paid_append.2 ⟨rep_paid rfl, paid_append.2 ⟨paid_cons rfl (paid_cons rfl (paid_cons rfl (paid_cons rfl (paid_cons rfl Paid.nil)))), r10e_paid rfl rfl (by rw [show 16 - 16 = 0 by omega, List.take_zero, decide_eq_true rfl]; rfl)⟩⟩⟩
theorem itF_paid {e : Bool} {m N : Nat} (he : e = true → m ≤ 200) (h : N < 16) : Paid (itF e m N) := by
  have e1 := kN_eq (n := N) (by omega)
  exact paid_append.2 ⟨aV_paid _ _, paid_append.2 ⟨paid_cons (decide_eq_true (by omega)) Paid.nil, paid_append.2 ⟨aO_paid he, paid_append.2 ⟨paid_cons (by rw [decide_eq_false (by omega)]; rfl) Paid.nil, paid_append.2 ⟨paid_cons (decide_eq_true (by omega)) Paid.nil, rep_paid (by rw [e1, decide_eq_false (by omega)]; rfl)⟩⟩⟩⟩⟩
theorem mB_eq {N : Nat} (h2 : N ≤ 1000) : mB N = 8 * (N : Int) := by
  unfold mB IntKind.wrap
  simp [IntKind.bits, IntKind.signed]
  omega
theorem btB_s {N : Nat} (h1 : 1 ≤ N) (h2 : N ≤ 1000) (bit : Int) : 0 ≤ btB N bit ∧ btB N bit < 8 * (N : Int) := by
  unfold btB
  rw [mB_eq h2]
  have hM : (0 : Int) < 8 * (N : Int) := by omega
  have t1 : bit.tmod (8 * (N : Int)) < 8 * (N : Int) := Int.tmod_lt_of_pos _ hM
  have t2 : -(8 * (N : Int)) < bit.tmod (8 * (N : Int)) := Int.lt_tmod_of_pos _ hM
  generalize bit.tmod (8 * (N : Int)) = z at t1 t2
  have w1 : IntKind.i64.wrap (z + 8 * (N : Int)) = z + 8 * (N : Int) := by unfold IntKind.wrap; simp [IntKind.bits, IntKind.signed]; omega
  rw [w1]
  exact ⟨Int.tmod_nonneg _ (by omega), Int.tmod_lt_of_pos _ hM⟩
theorem bitD_paid {N : Nat} (h : 1 ≤ N) (h2 : N ≤ 1000) : Paid (bitD N) := by
  have e1 := mB_eq h2
  have d : decide (N < 9223372036854775808) = true := decide_eq_true (by omega)
  have z : (!decide (mB N = 0)) = true := by rw [e1, decide_eq_false (by omega)]; rfl
  exact paid_cons d (paid_cons z (paid_cons d (paid_cons d (paid_cons z Paid.nil))))
theorem stD_paid {N : Nat} {bit : Int} {Z : Nat} (h1 : 1 ≤ N) (h2 : N ≤ 1000) (hZ : Z = N) : Paid (stD N bit Z) := by
  obtain ⟨b1, b2⟩ := btB_s h1 h2 bit
  have ei : ixB N bit = btB N bit / 8 := by
    unfold ixB
    rw [Int.tdiv_eq_ediv_of_nonneg b1]
    unfold IntKind.wrap; simp [IntKind.bits, IntKind.signed]; omega
  have x1 : (decide (0 ≤ ixB N bit) && decide (ixB N bit < (N : Int))) = true := by rw [ei, decide_eq_true (by omega), decide_eq_true (by omega)]; rfl
  have x2 : decide (0 + (ixB N bit).toNat * 1 + 1 ≤ Z) = true := by rw [ei]; exact decide_eq_true (by omega)
  exact paid_cons x1 (paid_cons x2 (paid_cons (by have := Int.tmod_nonneg 8 b1; rw [decide_eq_false (by omega)]; rfl) (paid_cons x1 (paid_cons x2 Paid.nil))))
theorem setB_len (S : List Int) (N : Nat) (bit : Int) : (setB S N bit).length = S.length := by simp [setB]
theorem bytesE {W : World} (j : Nat) {v : Value} (hv : Nums W .u8 reachBytes v) : (∃ e, ∃ L, VOk W j L (eV e) v) ∨ ∃ (n : Nat) (l : List Int), 1 ≤ n ∧ n ≤ 140737488351232 ∧ l.length = n ∧ (∀ x ∈ l, inR .u8 x = true) ∧ ∃ L, VOk W j L (.buf true .u8 n l) v := by
  rcases VOk.bytes (W := W) j hv with g | g | ⟨n, l, h1, h2, h3, h4, g⟩
  · exact Or.inl ⟨true, g⟩
  · exact Or.inl ⟨false, g⟩
  · exact Or.inr ⟨n, l, h1, h2, h3, h4, g⟩
def okV : V → Bool
  | .ptw _ => false
  | _ => true
theorem anyV {W : World} (j : Nat) {v : Value} (hv : Nums W .u8 reachBytes v) : ∃ x, (∃ L, VOk W j L x v) ∧ okV x = true := by
  rcases bytesE j hv with ⟨e, g⟩ | ⟨n, l, _, _, _, _, g⟩
  · exact ⟨_, g, by cases e <;> rfl⟩
  · exact ⟨_, g, rfl⟩
theorem noW_of : ∀ {xs : List V}, xs.all okV = true → noW xs = true
  | [], _ => rfl
  | x :: xs, h => by
    simp only [List.all_cons, Bool.and_eq_true] at h
    have := noW_of h.2
    cases x <;> first | exact this | (exact absurd h.1 Bool.false_ne_true)
theorem eV_ok (e : Bool) : okV (eV e) = true := by cases e <;> rfl
theorem kV_ok (r : Bool) (k : List Int) : okV (kV r k) = true := by cases r <;> rfl
theorem gcmOpens_calls {vs : List Value} {W0 : World} (k0 : vs.length = 4) (r0 : ∀ (i : Nat) (u : Value), vs[i]? = some u → Nums W0 .u8 reachBytes u) {v4 : Value} (r4 : Nums W0 .u8 reachBytes v4) {bit : Int} (hbit : inR .i64 bit = true) (W : World) (hW : W0 = W := by rfl) :
    Calls Try.prog 3 #[.agg vs.toArray, v4, .int .i64 bit] W (fun e w' => e = .returned (.bool true) ∧ Below W.heap.size W w') := by
  subst hW
  obtain ⟨v0, v1, v2, v3, rfl⟩ : ∃ v0 v1 v2 v3, vs = [v0, v1, v2, v3] := by
    match vs, k0 with
    | [a, b, c, d], _ => exact ⟨a, b, c, d, rfl⟩
  have LO : ∀ (k0 : Nat) (fn : Func) (c : Code), Try.prog.funcs[3]? = some fn → fn.body = some c → LOkN k0 Try.prog c (fun _ _ => none) := fun k0 fn c hf hb => LOkN.none
  have fin : ∀ {c : CB} {b t : Bool} {j : Nat} {ka kn a2 kp B : V} {ds o : List Bool} {s b1 : Bool}, coE c b t j ka kn a2 kp B bit ds = some (o, .bool s b1) → Paid o → b1 = true → (∃ L, VOk W0 0 L ka v0) → (∃ L, VOk W0 1 L kn v1) → (∃ L, VOk W0 2 L a2 v2) → (∃ L, VOk W0 3 L kp v3) → (∃ L, VOk W0 4 L B v4) → [ka, kn, a2, kp, B].all okV = true → Calls Try.prog 3 #[.agg #[v0, v1, v2, v3], v4, .int .i64 bit] W0 (fun e w' => e = .returned (.bool true) ∧ Below W0.heap.size W0 w') := by
    intro c b t j ka kn a2 kp B ds o s b1 h ho hb h0 h1 h2 h3 h4 hw
    unfold coE at h
    refine law_of_goP (xs := [ka, kn, a2, kp, B, .pl (.int true .i64 bit)]) (vs := [v0, v1, v2, v3, v4, .int .i64 bit]) (avs := [.agg #[v0, v1, v2, v3], v4, .int .i64 bit]) mixed ((hOp_ok c b t j).deep mixed noCount 100 5) (LO _) ds h ho hb
      (.cons _ _ _ _ _ h0 (.cons _ _ _ _ _ h1 (.cons _ _ _ _ _ h2 (.cons _ _ _ _ _ h3 (.cons _ _ _ _ _ h4 (.cons _ _ _ _ _ (VOk.plain fun ρ N => .int _ _ _ hbit) (.nil _))))))) (fun ρ N hr => ?_) (noW_of ?_)
    · cases hr with
      | cons _ _ _ _ a0 hr => cases hr with
      | cons _ _ _ _ a1 hr => cases hr with
      | cons _ _ _ _ a2 hr => cases hr with
      | cons _ _ _ _ a3 hr => exact .cons _ _ _ _ (.agg _ [_, _, _, _] (.cons _ _ _ _ a0 (.cons _ _ _ _ a1 (.cons _ _ _ _ a2 (.cons _ _ _ _ a3 .nil))))) hr
    · simp only [List.all_cons, List.all_nil, Bool.and_true, Bool.and_eq_true] at hw ⊢
      exact ⟨hw.1, hw.2.1, hw.2.2.1, hw.2.2.2.1, hw.2.2.2.2, rfl⟩
  obtain ⟨x1, y1, z1⟩ := anyV 1 (r0 1 v1 rfl)
  obtain ⟨x2, y2, z2⟩ := anyV 2 (r0 2 v2 rfl)
  obtain ⟨x3, y3, z3⟩ := anyV 3 (r0 3 v3 rfl)
  obtain ⟨x4, y4, z4⟩ := anyV 4 r4
  have al : ∀ {a b c d e : V}, okV a = true → okV b = true → okV c = true → okV d = true → okV e = true → [a, b, c, d, e].all okV = true := fun h1 h2 h3 h4 h5 => by simp [h1, h2, h3, h4, h5]
  rcases bytesE 0 (r0 0 v0 rfl) with ⟨e, g0⟩ | ⟨i, k, hi1, hi2, hi3, hi4, g0⟩
  · exact fin (cu_k e x1 x2 x3 x4 bit) (paid_cons rfl Paid.nil) rfl g0 y1 y2 y3 y4 (al (eV_ok e) z1 z2 z3 z4)
  have hB : ∀ x ∈ k, B8 x := fun x hx => inR_b8 (hi4 x hx)
  have hkey : (i ≠ 16 ∧ i ≠ 32) ∨ ∃ r, k.length = 4 * nk r ∧ ∃ L, VOk W0 0 L (kV r k) v0 := by
    by_cases h1 : i = 16
    · subst h1; exact Or.inr ⟨false, hi3, unmarkB g0⟩
    · by_cases h2 : i = 32
      · subst h2; exact Or.inr ⟨true, hi3, unmarkB g0⟩
      · exact Or.inl ⟨h1, h2⟩
  rcases hkey with ⟨hk1, hk2⟩ | ⟨r, hk, g0⟩
  · have h : (!((i : Int) == 16)) = true := by simp; omega
    have h' : (!((i : Int) == 32)) = true := by simp; omega
    have hb : decide (i < 9223372036854775808) = true := decide_eq_true (by omega)
    exact fin (cu_k2 i k x1 x2 x3 x4 bit) (paid_cons hb (paid_cons h (paid_cons h (paid_cons h (paid_cons hb (paid_cons h (paid_cons h (paid_cons h' (paid_cons h' (paid_cons h' (paid_cons h' (paid_cons h' (paid_cons rfl Paid.nil))))))))))))) rfl g0 y1 y2 y3 y4 (al rfl z1 z2 z3 z4)
  rcases bytesE 1 (r0 1 v1 rfl) with ⟨e, g1⟩ | ⟨j, l, hj1, hj2, hj3, hj4, g1⟩
  · exact fin (cu_n r k e x2 x3 x4 bit) (paid_cons rfl Paid.nil) rfl g0 g1 y2 y3 y4 (al (kV_ok r k) (eV_ok e) z2 z3 z4)
  by_cases hj0 : j = 12
  case neg =>
    have h : (!((j : Int) == 12)) = true := by simp; omega
    exact fin (cu_n2 r k j l x2 x3 x4 bit) (paid_cons (decide_eq_true (by omega)) (paid_cons h (paid_cons h (paid_cons h (paid_cons h (paid_cons h (paid_cons rfl Paid.nil))))))) rfl g0 g1 y2 y3 y4 (al (kV_ok r k) rfl z2 z3 z4)
  subst hj0
  have g1 := unmarkB g1
  rcases bytesE 2 (r0 2 v2 rfl) with ⟨e1, g2⟩ | ⟨m, a, hm1, hm2, hm3, hm4, g2⟩
  · rcases bytesE 3 (r0 3 v3 rfl) with ⟨e2, g3⟩ | ⟨n, p, hn1, hn2, hn3, hn4, g3⟩
    · have pf : Paid [true == true] := paid_cons (rfl) (Paid.nil)
      have hS : (tagB (kW r k) (rds r) l [] 0 [] 0).length = 16 := tagB_len _ _ _ _ _ _ _
      have hT : (setB (tagB (kW r k) (rds r) l [] 0 [] 0) 16 bit).length = 16 := by rw [setB_len]; exact hS
      have ps := paid_append.2 ⟨aV_paid false 0, paid_append.2 ⟨(Paid.nil : Paid []), paid_append.2 ⟨aO_paid (e := false) (m := 0) (fun h => absurd h Bool.false_ne_true), paid_append.2 ⟨(Paid.nil : Paid []), paid_append.2 ⟨(Paid.nil : Paid []), stD_paid (N := 16) (bit := bit) (Z := 16) (by omega) (by omega) rfl⟩⟩⟩⟩⟩
      have p2 := ls16_paid (r := r) (k := k) (l := l) (e := false) (A := []) (m := 0) (q := setB (tagB (kW r k) (rds r) l [] 0 [] 0) 16 bit) hB (fun h => absurd h Bool.false_ne_true) rfl
      have hv : (goodB (kW r k) (rds r) l [] 0 (setB (tagB (kW r k) (rds r) l [] 0 [] 0) 16 bit) 16 == tgC r k l [] 0 (setB (tagB (kW r k) (rds r) l [] 0 [] 0) 16 bit)) = true := by rw [tgC_eq hk hB]; exact beq_self_eq_true _
      rcases bytesE 4 r4 with ⟨e3, g4⟩ | ⟨u, y, hu1, hu2, hu3, hu4, g4⟩
      · exact fin (co_no_ee r k l e1 e2 e3 bit _) (paid_append.2 ⟨pf, paid_append.2 ⟨aV_paid _ _, paid_append.2 ⟨ps, p2⟩⟩⟩) hv g0 g1 g2 g3 g4 (al (kV_ok r k) rfl (eV_ok e1) (eV_ok e2) (eV_ok e3))
      by_cases hb0 : 300 < u
      · exact fin (co_big_ee r k l e1 e2 u y bit) (paid_append.2 ⟨pf, paid_cons (decide_eq_true (by omega)) (paid_cons (decide_eq_true (by omega)) Paid.nil)⟩) rfl g0 g1 g2 g3 g4 (al (kV_ok r k) rfl (eV_ok e1) (eV_ok e2) rfl)
      have pu : Paid [decide (u < 9223372036854775808), !decide ((u : Int) > 300)] := paid_cons (decide_eq_true (by omega)) (paid_cons (by rw [decide_eq_false (by omega)]; rfl) Paid.nil)
      by_cases hb1 : u < 16
      · exact fin (co_few_ee r k l e1 e2 u y bit _) (paid_append.2 ⟨pf, paid_append.2 ⟨pu, paid_append.2 ⟨itF_paid (fun h => absurd h Bool.false_ne_true) hb1, paid_append.2 ⟨ps, p2⟩⟩⟩⟩) hv g0 g1 g2 g3 g4 (al (kV_ok r k) rfl (eV_ok e1) (eV_ok e2) rfl)
      by_cases hb2 : u = 16
      · subst hb2
        exact fin (co_l6_ee r k l e1 e2 y _ bit _) (paid_append.2 ⟨pf, paid_append.2 ⟨it16_paid hk hB (fun h => absurd h Bool.false_ne_true) rfl, paid_append.2 ⟨ps, p2⟩⟩⟩) hv g0 g1 g2 g3 (unmarkB g4) (al (kV_ok r k) rfl (eV_ok e1) (eV_ok e2) rfl)
      exact fin (co_lo_ee r k l e1 e2 u y _ bit _) (paid_append.2 ⟨pf, paid_append.2 ⟨pu, paid_append.2 ⟨itL_paid hk hB hu3 (by omega) (by omega) rfl (fun h => absurd h Bool.false_ne_true) rfl, paid_append.2 ⟨ps, p2⟩⟩⟩⟩) hv g0 g1 g2 g3 g4 (al (kV_ok r k) rfl (eV_ok e1) (eV_ok e2) rfl)
    · by_cases hnB : n ≤ 300
      case neg => exact fin (cu_p2 r k l e1 n p x4 bit) (paid_cons (decide_eq_true (by omega)) (paid_cons (by rw [decide_eq_false (by omega)]; rfl) Paid.nil)) rfl g0 g1 g2 g3 y4 (al (kV_ok r k) rfl (eV_ok e1) rfl z4)
      have pf : Paid [decide (n < 9223372036854775808), decide ((n : Int) ≤ 300) == true] := paid_cons (decide_eq_true (by omega)) (paid_cons (by rw [decide_eq_true (show ((n : Int) ≤ 300) by omega)]; rfl) (Paid.nil))
      have hS : (sealB (kW r k) (rds r) l [] 0 ((p.drop 0).take n) n).length = (n + 16) := sealB_len _ _ _ _ _ _ _
      have hT : (setB (sealB (kW r k) (rds r) l [] 0 ((p.drop 0).take n) n) (n + 16) bit).length = (n + 16) := by rw [setB_len]; exact hS
      have ps := paid_append.2 ⟨aV_paid false 0, paid_append.2 ⟨(paid_cons (decide_eq_true (by omega)) Paid.nil : Paid [decide (0 + n ≤ n)]), paid_append.2 ⟨aO_paid (e := false) (m := 0) (fun h => absurd h Bool.false_ne_true), paid_append.2 ⟨(paid_cons (decide_eq_true (by omega)) Paid.nil : Paid [decide (n ≤ 140737488351232)]), paid_append.2 ⟨(bitD_paid (by omega) (by omega) : Paid (bitD (n + 16))), stD_paid (N := (n + 16)) (bit := bit) (Z := (sealB (kW r k) (rds r) l [] 0 ((p.drop 0).take n) n).length) (by omega) (by omega) hS⟩⟩⟩⟩⟩
      have p2 := lsL_paid (r := r) (k := k) (l := l) (e := false) (A := []) (m := 0) (Z := (setB (sealB (kW r k) (rds r) l [] 0 ((p.drop 0).take n) n) (n + 16) bit).length) hB hT (by omega) (by omega) hT (fun h => absurd h Bool.false_ne_true) rfl
      have hv : (goodB (kW r k) (rds r) l [] 0 (setB (sealB (kW r k) (rds r) l [] 0 ((p.drop 0).take n) n) (n + 16) bit) (n + 16) == tgB r k l [] 0 (setB (sealB (kW r k) (rds r) l [] 0 ((p.drop 0).take n) n) (n + 16) bit) (n + 16)) = true := by rw [tg_eq hk hB l _ _ hT (by omega) (by omega)]; exact beq_self_eq_true _
      rcases bytesE 4 r4 with ⟨e3, g4⟩ | ⟨u, y, hu1, hu2, hu3, hu4, g4⟩
      · exact fin (co_no_eb r k l e1 n p e3 bit _) (paid_append.2 ⟨pf, paid_append.2 ⟨aV_paid _ _, paid_append.2 ⟨ps, p2⟩⟩⟩) hv g0 g1 g2 g3 g4 (al (kV_ok r k) rfl (eV_ok e1) rfl (eV_ok e3))
      by_cases hb0 : 300 < u
      · exact fin (co_big_eb r k l e1 n p u y bit) (paid_append.2 ⟨pf, paid_cons (decide_eq_true (by omega)) (paid_cons (decide_eq_true (by omega)) Paid.nil)⟩) rfl g0 g1 g2 g3 g4 (al (kV_ok r k) rfl (eV_ok e1) rfl rfl)
      have pu : Paid [decide (u < 9223372036854775808), !decide ((u : Int) > 300)] := paid_cons (decide_eq_true (by omega)) (paid_cons (by rw [decide_eq_false (by omega)]; rfl) Paid.nil)
      by_cases hb1 : u < 16
      · exact fin (co_few_eb r k l e1 n p u y bit _) (paid_append.2 ⟨pf, paid_append.2 ⟨pu, paid_append.2 ⟨itF_paid (fun h => absurd h Bool.false_ne_true) hb1, paid_append.2 ⟨ps, p2⟩⟩⟩⟩) hv g0 g1 g2 g3 g4 (al (kV_ok r k) rfl (eV_ok e1) rfl rfl)
      by_cases hb2 : u = 16
      · subst hb2
        exact fin (co_l6_eb r k l e1 n p y _ bit _) (paid_append.2 ⟨pf, paid_append.2 ⟨it16_paid hk hB (fun h => absurd h Bool.false_ne_true) rfl, paid_append.2 ⟨ps, p2⟩⟩⟩) hv g0 g1 g2 g3 (unmarkB g4) (al (kV_ok r k) rfl (eV_ok e1) rfl rfl)
      exact fin (co_lo_eb r k l e1 n p u y _ bit _) (paid_append.2 ⟨pf, paid_append.2 ⟨pu, paid_append.2 ⟨itL_paid hk hB hu3 (by omega) (by omega) rfl (fun h => absurd h Bool.false_ne_true) rfl, paid_append.2 ⟨ps, p2⟩⟩⟩⟩) hv g0 g1 g2 g3 g4 (al (kV_ok r k) rfl (eV_ok e1) rfl rfl)
  · by_cases hmB : m ≤ 200
    case neg =>
      have h : (!decide ((m : Int) ≤ 200)) = true := by rw [decide_eq_false (by omega)]; rfl
      exact fin (cu_a r k l m a x3 x4 bit) (paid_cons (decide_eq_true (by omega)) (paid_cons h (paid_cons h (paid_cons h (paid_cons h (paid_cons h (paid_cons rfl Paid.nil))))))) rfl g0 g1 g2 y3 y4 (al (kV_ok r k) rfl rfl z3 z4)
    have hL : decide ((m : Int) ≤ 200) = true := decide_eq_true (by omega)
    rcases bytesE 3 (r0 3 v3 rfl) with ⟨e2, g3⟩ | ⟨n, p, hn1, hn2, hn3, hn4, g3⟩
    · have pf : Paid [decide (m < 9223372036854775808), decide ((m : Int) ≤ 200), decide ((m : Int) ≤ 200), decide ((m : Int) ≤ 200), decide ((m : Int) ≤ 200), decide ((m : Int) ≤ 200), true == true] := paid_cons (decide_eq_true (by omega)) (paid_cons (decide_eq_true (show ((m : Int) ≤ 200) by omega)) (paid_cons (decide_eq_true (show ((m : Int) ≤ 200) by omega)) (paid_cons (decide_eq_true (show ((m : Int) ≤ 200) by omega)) (paid_cons (decide_eq_true (show ((m : Int) ≤ 200) by omega)) (paid_cons (decide_eq_true (show ((m : Int) ≤ 200) by omega)) (paid_cons (rfl) (Paid.nil)))))))
      have hS : (tagB (kW r k) (rds r) l (aL true m a) m [] 0).length = 16 := tagB_len _ _ _ _ _ _ _
      have hT : (setB (tagB (kW r k) (rds r) l (aL true m a) m [] 0) 16 bit).length = 16 := by rw [setB_len]; exact hS
      have ps := paid_append.2 ⟨aV_paid true m, paid_append.2 ⟨(Paid.nil : Paid []), paid_append.2 ⟨aO_paid (e := true) (m := m) (fun _ => hmB), paid_append.2 ⟨(Paid.nil : Paid []), paid_append.2 ⟨(Paid.nil : Paid []), stD_paid (N := 16) (bit := bit) (Z := 16) (by omega) (by omega) rfl⟩⟩⟩⟩⟩
      have p2 := ls16_paid (r := r) (k := k) (l := l) (e := true) (A := (aL true m a)) (m := m) (q := setB (tagB (kW r k) (rds r) l (aL true m a) m [] 0) 16 bit) hB (fun _ => hmB) rfl
      have hv : (goodB (kW r k) (rds r) l (aL true m a) m (setB (tagB (kW r k) (rds r) l (aL true m a) m [] 0) 16 bit) 16 == tgC r k l (aL true m a) m (setB (tagB (kW r k) (rds r) l (aL true m a) m [] 0) 16 bit)) = true := by rw [tgC_eq hk hB]; exact beq_self_eq_true _
      rcases bytesE 4 r4 with ⟨e3, g4⟩ | ⟨u, y, hu1, hu2, hu3, hu4, g4⟩
      · exact fin (co_no_be r k l m a e2 e3 bit _) (paid_append.2 ⟨pf, paid_append.2 ⟨aV_paid _ _, paid_append.2 ⟨ps, p2⟩⟩⟩) hv g0 g1 g2 g3 g4 (al (kV_ok r k) rfl rfl (eV_ok e2) (eV_ok e3))
      by_cases hb0 : 300 < u
      · exact fin (co_big_be r k l m a e2 u y bit) (paid_append.2 ⟨pf, paid_cons (decide_eq_true (by omega)) (paid_cons (decide_eq_true (by omega)) Paid.nil)⟩) rfl g0 g1 g2 g3 g4 (al (kV_ok r k) rfl rfl (eV_ok e2) rfl)
      have pu : Paid [decide (u < 9223372036854775808), !decide ((u : Int) > 300)] := paid_cons (decide_eq_true (by omega)) (paid_cons (by rw [decide_eq_false (by omega)]; rfl) Paid.nil)
      by_cases hb1 : u < 16
      · exact fin (co_few_be r k l m a e2 u y bit _) (paid_append.2 ⟨pf, paid_append.2 ⟨pu, paid_append.2 ⟨itF_paid (fun _ => hmB) hb1, paid_append.2 ⟨ps, p2⟩⟩⟩⟩) hv g0 g1 g2 g3 g4 (al (kV_ok r k) rfl rfl (eV_ok e2) rfl)
      by_cases hb2 : u = 16
      · subst hb2
        exact fin (co_l6_be r k l m a e2 y _ bit _) (paid_append.2 ⟨pf, paid_append.2 ⟨it16_paid hk hB (fun _ => hmB) rfl, paid_append.2 ⟨ps, p2⟩⟩⟩) hv g0 g1 g2 g3 (unmarkB g4) (al (kV_ok r k) rfl rfl (eV_ok e2) rfl)
      exact fin (co_lo_be r k l m a e2 u y _ bit _) (paid_append.2 ⟨pf, paid_append.2 ⟨pu, paid_append.2 ⟨itL_paid hk hB hu3 (by omega) (by omega) rfl (fun _ => hmB) rfl, paid_append.2 ⟨ps, p2⟩⟩⟩⟩) hv g0 g1 g2 g3 g4 (al (kV_ok r k) rfl rfl (eV_ok e2) rfl)
    · by_cases hnB : n ≤ 300
      case neg => exact fin (cu_p r k l m a n p x4 bit) (paid_cons (decide_eq_true (by omega)) (paid_cons hL (paid_cons hL (paid_cons hL (paid_cons (decide_eq_true (by omega)) (paid_cons hL (paid_cons hL (paid_cons (by rw [decide_eq_false (by omega)]; rfl) Paid.nil)))))))) rfl g0 g1 g2 g3 y4 (al (kV_ok r k) rfl rfl rfl z4)
      have pf : Paid [decide (m < 9223372036854775808), decide ((m : Int) ≤ 200), decide ((m : Int) ≤ 200), decide ((m : Int) ≤ 200), decide (n < 9223372036854775808), decide ((m : Int) ≤ 200), decide ((m : Int) ≤ 200), decide ((n : Int) ≤ 300) == true] := paid_cons (decide_eq_true (by omega)) (paid_cons (decide_eq_true (show ((m : Int) ≤ 200) by omega)) (paid_cons (decide_eq_true (show ((m : Int) ≤ 200) by omega)) (paid_cons (decide_eq_true (show ((m : Int) ≤ 200) by omega)) (paid_cons (decide_eq_true (by omega)) (paid_cons (decide_eq_true (show ((m : Int) ≤ 200) by omega)) (paid_cons (decide_eq_true (show ((m : Int) ≤ 200) by omega)) (paid_cons (by rw [decide_eq_true (show ((n : Int) ≤ 300) by omega)]; rfl) (Paid.nil))))))))
      have hS : (sealB (kW r k) (rds r) l (aL true m a) m ((p.drop 0).take n) n).length = (n + 16) := sealB_len _ _ _ _ _ _ _
      have hT : (setB (sealB (kW r k) (rds r) l (aL true m a) m ((p.drop 0).take n) n) (n + 16) bit).length = (n + 16) := by rw [setB_len]; exact hS
      have ps := paid_append.2 ⟨aV_paid true m, paid_append.2 ⟨(paid_cons (decide_eq_true (by omega)) Paid.nil : Paid [decide (0 + n ≤ n)]), paid_append.2 ⟨aO_paid (e := true) (m := m) (fun _ => hmB), paid_append.2 ⟨(paid_cons (decide_eq_true (by omega)) Paid.nil : Paid [decide (n ≤ 140737488351232)]), paid_append.2 ⟨(bitD_paid (by omega) (by omega) : Paid (bitD (n + 16))), stD_paid (N := (n + 16)) (bit := bit) (Z := (sealB (kW r k) (rds r) l (aL true m a) m ((p.drop 0).take n) n).length) (by omega) (by omega) hS⟩⟩⟩⟩⟩
      have p2 := lsL_paid (r := r) (k := k) (l := l) (e := true) (A := (aL true m a)) (m := m) (Z := (setB (sealB (kW r k) (rds r) l (aL true m a) m ((p.drop 0).take n) n) (n + 16) bit).length) hB hT (by omega) (by omega) hT (fun _ => hmB) rfl
      have hv : (goodB (kW r k) (rds r) l (aL true m a) m (setB (sealB (kW r k) (rds r) l (aL true m a) m ((p.drop 0).take n) n) (n + 16) bit) (n + 16) == tgB r k l (aL true m a) m (setB (sealB (kW r k) (rds r) l (aL true m a) m ((p.drop 0).take n) n) (n + 16) bit) (n + 16)) = true := by rw [tg_eq hk hB l _ _ hT (by omega) (by omega)]; exact beq_self_eq_true _
      rcases bytesE 4 r4 with ⟨e3, g4⟩ | ⟨u, y, hu1, hu2, hu3, hu4, g4⟩
      · exact fin (co_no_bb r k l m a n p e3 bit _) (paid_append.2 ⟨pf, paid_append.2 ⟨aV_paid _ _, paid_append.2 ⟨ps, p2⟩⟩⟩) hv g0 g1 g2 g3 g4 (al (kV_ok r k) rfl rfl rfl (eV_ok e3))
      by_cases hb0 : 300 < u
      · exact fin (co_big_bb r k l m a n p u y bit) (paid_append.2 ⟨pf, paid_cons (decide_eq_true (by omega)) (paid_cons (decide_eq_true (by omega)) Paid.nil)⟩) rfl g0 g1 g2 g3 g4 (al (kV_ok r k) rfl rfl rfl rfl)
      have pu : Paid [decide (u < 9223372036854775808), !decide ((u : Int) > 300)] := paid_cons (decide_eq_true (by omega)) (paid_cons (by rw [decide_eq_false (by omega)]; rfl) Paid.nil)
      by_cases hb1 : u < 16
      · exact fin (co_few_bb r k l m a n p u y bit _) (paid_append.2 ⟨pf, paid_append.2 ⟨pu, paid_append.2 ⟨itF_paid (fun _ => hmB) hb1, paid_append.2 ⟨ps, p2⟩⟩⟩⟩) hv g0 g1 g2 g3 g4 (al (kV_ok r k) rfl rfl rfl rfl)
      by_cases hb2 : u = 16
      · subst hb2
        exact fin (co_l6_bb r k l m a n p y _ bit _) (paid_append.2 ⟨pf, paid_append.2 ⟨it16_paid hk hB (fun _ => hmB) rfl, paid_append.2 ⟨ps, p2⟩⟩⟩) hv g0 g1 g2 g3 (unmarkB g4) (al (kV_ok r k) rfl rfl rfl rfl)
      exact fin (co_lo_bb r k l m a n p u y _ bit _) (paid_append.2 ⟨pf, paid_append.2 ⟨pu, paid_append.2 ⟨itL_paid hk hB hu3 (by omega) (by omega) rfl (fun _ => hmB) rfl, paid_append.2 ⟨ps, p2⟩⟩⟩⟩) hv g0 g1 g2 g3 g4 (al (kV_ok r k) rfl rfl rfl rfl)

theorem gcmOpens_lifted (os : Os) (started : os.Started) (H : Type) (enc : TypeId × Value → H) :
    ReturnsInHanded {} Try.checked os 3 .any (Rows.gcmOpensSpec.pre6 enc Try.prog Try.f3 Rows.gcmOpensRow.domain false) (Rows.gcmOpensSpec.post enc Try.prog Try.f3 false true false false) := by
  refine returnsInHanded_of_change_sized (C := Try.checked) own started (by kernel_rfl) Try.func3
    (ChangeSpec.witness6 (enc := enc) (C := Try.checked) false ⟨#[], #[.agg #[.slice none 0 0, .slice none 0 0, .slice none 0 0, .slice none 0 0], .slice none 0 0, .int .i64 0], []⟩ 8 (by kernel_rfl) (by kernel_rfl) (by kernel_rfl) (by kernel_rfl)) ?_
  intro W base args ds gs before hval0 hW hcnd hsz0 _
  have hval : ∀ (j : Nat) t v, Try.f3.params[j]? = some t → args[j]? = some v → Value.okWide Try.prog W .any base t v := hval0
  have hW' := hW
  obtain ⟨p, q, hA0, hV, rfl, hfz, hnd⟩ := hW
  have hA : DataW.TrodAll enc Try.prog W 0 (fun _ => true) true Try.f3.params.toList args.toList ds p := hA0
  have hsz := hsz0
  rw [Try.params3] at hA hval
  have hsz : (DataW.weightsEach Try.prog (Try.f3.params.toList ++ Rows.gcmOpensSpec.plain.varTypes Try.prog) (ds ++ gs)).all (· ≤ reachBytes) = true := hsz0
  rw [Try.params3] at hsz
  obtain ⟨v0, v1, v2, d0, d1, d2, p0, p1, p2, hargs, rfl, rfl, g0, g1, g2⟩ := trodAll_three hA
  have hargs' : args = #[v0, v1, v2] := by simpa using hargs
  subst hargs'
  obtain ⟨rfl, rfl⟩ := trodVars_none hV
  obtain ⟨vs0, k0, rfl, r0⟩ := struct_open Try.underlying24 (n := 4) (st := 22) rfl (fun i f h => by rcases i with _ | _ | _ | _ | i <;> simp at h <;> (first | (subst h; exact ⟨rfl, rfl⟩) | (cases h))) (by kernel_rfl) Try.underlying22 (by kernel_rfl) Try.underlying5 (by kernel_rfl) (by kernel_rfl) (hval 0 _ v0 rfl rfl) g0 (arg_sized hsz (j := 0) (t := 24) rfl rfl)
  have hv1 := nums_sized Try.underlying22 Try.underlying5 (by kernel_rfl) (by kernel_rfl) (hval 1 _ v1 rfl rfl) g1 (arg_sized hsz (j := 1) (t := 22) rfl rfl)
  obtain ⟨x2, rfl, rfl, rfl, w2⟩ := open_int Try.underlying3 (hval 2 _ v2 rfl rfl) g2
  refine (gcmOpens_calls k0 r0 hv1 (wf_inR' w2) W).mono fun e W' ⟨he, hb⟩ => ?_
  exact ⟨_, he, post_of_law laidOut (by rw [Try.params3]; decide +kernel) hW' rfl rfl Try.underlying4 rfl rfl rfl hb⟩

theorem gcmOpens_holds : Rows.GcmOpensSaid :=
  OpenClaim.holds_of_wide 3 Try.f3 rfl rfl rfl rfl rfl rfl rfl ⟨rfl, rfl, rfl, rfl, rfl⟩ rfl rfl rfl rfl rfl (by kernel_rfl) Try.func3 (by kernel_rfl)
    (of_decide_eq_true (by kernel_rfl)) (by unfold Func.isWrapper; first | (rw [if_pos (by decide +kernel)]; kernel_rfl) | (rw [if_neg (by decide +kernel)]; exact ⟨rfl, rfl⟩))
    (fun os started H enc _ => gcmOpens_lifted os started H enc)
end Go.Proofs.Ytfmgodgakndjcaa
