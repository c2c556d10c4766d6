/- The program of layer 11 on plain numbers: sums, products, points as it keeps them: it reckons with points. Own work. -/
import Derived.Test.YtapficdphhfpnaaDoorTMyRM
import Derived.Test.YtapficdphhfpnaaDoorTWe2
import Derived.Test.YtapficdphhfpnaaDoorTWe6
import Derived.Test.YtapficdphhfpnaaDoorTWordsN
set_option linter.unusedSimpArgs false
set_option linter.unusedVariables false
set_option linter.unusedSectionVars false
namespace Go.We
open Go.Wn
set_option maxRecDepth 100000
/-- The program's Mod. -/
def PL : List Int := [18446744073709551615, 4294967295, 0, 18446744069414584321, 1, 3, 18446744056529682431, 18446744073709551614, 21474836477]
theorem vPL : val PL = I6 := by decide +kernel
def ok6 (x : Int) : Prop := 0 ≤ x ∧ x < M6
theorem in6_ok {x : Int} (h : in6 x) : ok6 x := ⟨h.1, Int.lt_trans h.2 (by decide +kernel)⟩
def vl (x : Int) : Int := val (limbs x)
theorem vl_ok {x : Int} (h : ok6 x) : vl x = x := by
  unfold vl
  rw [val_limbs]
  exact Int.emod_eq_of_lt h.1 h.2
def aI (x y : Int) : Int := (vl x + vl y) % val PL
def sI (x y : Int) : Int := (vl x - vl y) % val PL
def mI (x y : Int) : Int := (vl x * vl y) % val PL
theorem in6_aI (x y : Int) : in6 (aI x y) := by unfold aI; rw [vPL]; exact in6_mod _
theorem in6_sI (x y : Int) : in6 (sI x y) := by unfold sI; rw [vPL]; exact in6_mod _
theorem in6_mI (x y : Int) : in6 (mI x y) := by unfold mI; rw [vPL]; exact in6_mod _
theorem h6_aI {x y : Int} (hx : in6 x) (hy : in6 y) : h6 (aI x y) = h6 x + h6 y := by unfold aI; rw [vPL, vl_ok (in6_ok hx), vl_ok (in6_ok hy), h6_mod, h6_add]
theorem h6_sI {x y : Int} (hx : in6 x) (hy : in6 y) : h6 (sI x y) = h6 x - h6 y := by unfold sI; rw [vPL, vl_ok (in6_ok hx), vl_ok (in6_ok hy), h6_mod, h6_sub]
theorem h6_mI {x y : Int} (hx : in6 x) (hy : in6 y) : h6 (mI x y) = h6 x * h6 y := by unfold mI; rw [vPL, vl_ok (in6_ok hx), vl_ok (in6_ok hy), h6_mod, h6_mul]
/-- The curve's number. -/
def bI : Int := 41058363725152142129326129780047268409114441015993725554835256314039467401291
theorem bI_in : in6 bI := ⟨by decide, by decide +kernel⟩
theorem bI_h : h6 bI = c6.b := by decide +kernel
/-- X : Y : Z, 0 : Y : 0 the one at infinity. -/
structure R3 where
  x : Int
  y : Int
  z : Int
def R3.none : R3 := ⟨0, 1, 0⟩
def R3.In (p : R3) : Prop := in6 p.x ∧ in6 p.y ∧ in6 p.z
def tI (a : Int) : Int := aI (aI a a) a
def sXX (p q : R3) : Int := mI p.x q.x
def sYY (p q : R3) : Int := mI p.y q.y
def sZZ (p q : R3) : Int := mI p.z q.z
def sXY (p q : R3) : Int := aI (mI p.x q.y) (mI p.y q.x)
def sXZ (p q : R3) : Int := aI (mI p.x q.z) (mI p.z q.x)
def sYZ (p q : R3) : Int := aI (mI p.y q.z) (mI p.z q.y)
def sRi (p q : R3) : Int := tI (sI (sXX p q) (sZZ p q))
def sSh (p q : R3) : Int := tI (sI (mI bI (sZZ p q)) (sXZ p q))
def sCr (p q : R3) : Int := tI (sI (mI bI (sXZ p q)) (aI (sXX p q) (tI (sZZ p q))))
def sMi (p q : R3) : Int := sI (sYY p q) (sSh p q)
def sPl (p q : R3) : Int := aI (sYY p q) (sSh p q)
def rS (p q : R3) : R3 := ⟨sI (mI (sXY p q) (sMi p q)) (mI (sYZ p q) (sCr p q)), aI (mI (sPl p q) (sMi p q)) (mI (sRi p q) (sCr p q)), aI (mI (sYZ p q) (sPl p q)) (mI (sXY p q) (sRi p q))⟩
theorem rS_In (p q : R3) : (rS p q).In := ⟨in6_sI _ _, in6_aI _ _, in6_aI _ _⟩
def R3.R (p : R3) (P : Q P6) : Prop := p.In ∧ PC (h6 p.x) (h6 p.y) (h6 p.z) P
theorem tI_in (a : Int) : in6 (tI a) := in6_aI _ _
theorem tI_h {a : Int} (h : in6 a) : h6 (tI a) = 3 * h6 a := by
  unfold tI
  rw [h6_aI (in6_aI _ _) h, h6_aI h h]
  grind
theorem h6_1 : h6 1 = 1 := by decide +kernel
theorem rnone_R : R3.none.R .o := ⟨⟨in6_0, in6_1, in6_0⟩, h6_0, h6_0, by show h6 1 ≠ 0; rw [h6_1]; exact one_ne⟩
theorem rS_R {p q : R3} {P R : Q P6} (hP : c6.on P) (hR : c6.on R) (h : p.R P) (h' : q.R R) : (rS p q).R (c6.add P R) := by
  obtain ⟨⟨ix, iy, iz⟩, h⟩ := h
  obtain ⟨⟨jx, jy, jz⟩, h'⟩ := h'
  refine ⟨rS_In _ _, ?_⟩
  have k := c6.rcb no2 hP hR h h'
  have eXX : h6 (sXX p q) = h6 p.x * h6 q.x := h6_mI ix jx
  have eYY : h6 (sYY p q) = h6 p.y * h6 q.y := h6_mI iy jy
  have eZZ : h6 (sZZ p q) = h6 p.z * h6 q.z := h6_mI iz jz
  have eXY : h6 (sXY p q) = h6 p.x * h6 q.y + h6 p.y * h6 q.x := by unfold sXY; rw [h6_aI (in6_mI _ _) (in6_mI _ _), h6_mI ix jy, h6_mI iy jx]
  have eXZ : h6 (sXZ p q) = h6 p.x * h6 q.z + h6 p.z * h6 q.x := by unfold sXZ; rw [h6_aI (in6_mI _ _) (in6_mI _ _), h6_mI ix jz, h6_mI iz jx]
  have eYZ : h6 (sYZ p q) = h6 p.y * h6 q.z + h6 p.z * h6 q.y := by unfold sYZ; rw [h6_aI (in6_mI _ _) (in6_mI _ _), h6_mI iy jz, h6_mI iz jy]
  have nXX : in6 (sXX p q) := in6_mI _ _
  have nYY : in6 (sYY p q) := in6_mI _ _
  have nZZ : in6 (sZZ p q) := in6_mI _ _
  have nXY : in6 (sXY p q) := in6_aI _ _
  have nXZ : in6 (sXZ p q) := in6_aI _ _
  have nYZ : in6 (sYZ p q) := in6_aI _ _
  have eRi : h6 (sRi p q) = 3 * (h6 (sXX p q) - h6 (sZZ p q)) := by unfold sRi; rw [tI_h (in6_sI _ _), h6_sI nXX nZZ]
  have eSh : h6 (sSh p q) = 3 * (c6.b * h6 (sZZ p q) - h6 (sXZ p q)) := by unfold sSh; rw [tI_h (in6_sI _ _), h6_sI (in6_mI _ _) nXZ, h6_mI bI_in nZZ, bI_h]
  have eCr : h6 (sCr p q) = 3 * (c6.b * h6 (sXZ p q) - (h6 (sXX p q) + 3 * h6 (sZZ p q))) := by
    unfold sCr; rw [tI_h (in6_sI _ _), h6_sI (in6_mI _ _) (in6_aI _ _), h6_mI bI_in nXZ, h6_aI nXX (tI_in _), tI_h nZZ, bI_h]
  have nRi : in6 (sRi p q) := tI_in _
  have nSh : in6 (sSh p q) := tI_in _
  have nCr : in6 (sCr p q) := tI_in _
  have nMi : in6 (sMi p q) := in6_sI _ _
  have nPl : in6 (sPl p q) := in6_aI _ _
  have eMi : h6 (sMi p q) = h6 (sYY p q) - h6 (sSh p q) := h6_sI nYY nSh
  have ePl : h6 (sPl p q) = h6 (sYY p q) + h6 (sSh p q) := h6_aI nYY nSh
  have x3 : h6 (rS p q).x = c6.X3 (h6 p.x) (h6 p.y) (h6 p.z) (h6 q.x) (h6 q.y) (h6 q.z) := by
    show h6 (sI (mI (sXY p q) (sMi p q)) (mI (sYZ p q) (sCr p q))) = _
    rw [h6_sI (in6_mI _ _) (in6_mI _ _), h6_mI nXY nMi, h6_mI nYZ nCr, eMi, eCr, eSh, eXX, eYY, eZZ, eXY, eXZ, eYZ]
    unfold C.X3
    rw [c6_a]
    generalize h6 p.x = a1; generalize h6 p.y = a2; generalize h6 p.z = a3; generalize h6 q.x = b1; generalize h6 q.y = b2; generalize h6 q.z = b3; generalize c6.b = b
    clear k eXX eYY eZZ eXY eXZ eYZ eRi eSh eCr eMi ePl h h' hP hR nXX nYY nZZ nXY nXZ nYZ nRi nSh nCr nMi nPl ix iy iz jx jy jz
    grind
  have y3 : h6 (rS p q).y = c6.Y3 (h6 p.x) (h6 p.y) (h6 p.z) (h6 q.x) (h6 q.y) (h6 q.z) := by
    show h6 (aI (mI (sPl p q) (sMi p q)) (mI (sRi p q) (sCr p q))) = _
    rw [h6_aI (in6_mI _ _) (in6_mI _ _), h6_mI nPl nMi, h6_mI nRi nCr, eMi, ePl, eCr, eRi, eSh, eXX, eYY, eZZ, eXZ]
    unfold C.Y3
    rw [c6_a]
    generalize h6 p.x = a1; generalize h6 p.y = a2; generalize h6 p.z = a3; generalize h6 q.x = b1; generalize h6 q.y = b2; generalize h6 q.z = b3; generalize c6.b = b
    clear k x3 eXX eYY eZZ eXY eXZ eYZ eRi eSh eCr eMi ePl h h' hP hR nXX nYY nZZ nXY nXZ nYZ nRi nSh nCr nMi nPl ix iy iz jx jy jz
    grind
  have z3 : h6 (rS p q).z = c6.Z3 (h6 p.x) (h6 p.y) (h6 p.z) (h6 q.x) (h6 q.y) (h6 q.z) := by
    show h6 (aI (mI (sYZ p q) (sPl p q)) (mI (sXY p q) (sRi p q))) = _
    rw [h6_aI (in6_mI _ _) (in6_mI _ _), h6_mI nYZ nPl, h6_mI nXY nRi, ePl, eRi, eSh, eXX, eYY, eZZ, eXY, eXZ, eYZ]
    unfold C.Z3
    rw [c6_a]
    generalize h6 p.x = a1; generalize h6 p.y = a2; generalize h6 p.z = a3; generalize h6 q.x = b1; generalize h6 q.y = b2; generalize h6 q.z = b3; generalize c6.b = b
    clear k x3 y3 eXX eYY eZZ eXY eXZ eYZ eRi eSh eCr eMi ePl h h' hP hR nXX nYY nZZ nXY nXZ nYZ nRi nSh nCr nMi nPl ix iy iz jx jy jz
    grind
  rw [x3, y3, z3]
  exact k
/-- So many times by itself, after j steps from the highest bit down. -/
def rPr (N : Int) (p : R3) : Nat → R3
  | 0 => .none
  | j + 1 => if N / 2 ^ (255 - j) % 2 = 1 then rS (rS (rPr N p j) (rPr N p j)) p else rS (rPr N p j) (rPr N p j)
def rMul (N : Int) (p : R3) : R3 := rPr N p 256
theorem rPr_In (N : Int) (p : R3) : ∀ j, (rPr N p j).In
  | 0 => ⟨in6_0, in6_1, in6_0⟩
  | j + 1 => by
    show (if _ then _ else _ : R3).In
    split
    · exact rS_In _ _
    · exact rS_In _ _
theorem rPr_R {N : Nat} (hN : N < 2 ^ 256) {p : R3} {P : Q P6} (hP : c6.on P) (h : p.R P) : ∀ j, j ≤ 256 → (rPr (N : Int) p j).R (c6.mul (N / 2 ^ (256 - j)) P)
  | 0, _ => by
    rw [show N / 2 ^ (256 - 0) = 0 from Nat.div_eq_of_lt hN]
    exact rnone_R
  | j + 1, hj => by
    have ih := rPr_R hN hP h j (by omega)
    have hd : N / 2 ^ (256 - j) = N / 2 ^ (255 - j) / 2 := by
      rw [Nat.div_div_eq_div_mul, ← Nat.pow_succ, show (255 - j).succ = 256 - j by omega]
    have e1 : (N : Int) / 2 ^ (255 - j) % 2 = ((N / 2 ^ (255 - j) % 2 : Nat) : Int) := by
      rw [Int.natCast_emod, Int.natCast_ediv, Int.natCast_pow]
      rfl
    have hO := c6.on_mul (N / 2 ^ (256 - j)) hP
    have k2 := rS_R hO hO ih ih
    rw [← c6.mul_add _ _ hP] at k2
    show (if (N : Int) / 2 ^ (255 - j) % 2 = 1 then rS (rS (rPr N p j) (rPr N p j)) p else rS (rPr N p j) (rPr N p j)).R (c6.mul (N / 2 ^ (256 - (j + 1))) P)
    rw [show 256 - (j + 1) = 255 - j by omega, e1]
    rw [hd] at k2 hO
    generalize N / 2 ^ (255 - j) = m at *
    by_cases hb : ((m % 2 : Nat) : Int) = 1
    · rw [if_pos hb]
      have k3 := rS_R (c6.on_mul _ hP) hP k2 h
      have e : c6.mul m P = c6.add (c6.mul (m / 2 + m / 2) P) P := by
        have := c6.mul_add (m / 2 + m / 2) 1 hP
        rw [c6.mul_one, show m / 2 + m / 2 + 1 = m by omega] at this
        exact this
      rw [e]
      exact k3
    · rw [if_neg hb, show m = m / 2 + m / 2 by omega]
      exact k2
theorem rMul_R {N : Nat} (hN : N < 2 ^ 256) {p : R3} {P : Q P6} (hP : c6.on P) (h : p.R P) : (rMul (N : Int) p).R (c6.mul N P) := by
  have := rPr_R hN hP h 256 (Nat.le_refl _)
  rwa [show N / 2 ^ (256 - 256) = N by rw [Nat.sub_self, Nat.pow_zero, Nat.div_one]] at this
/-- A point, as the program hands it out. -/
structure Pt where
  x : Int
  y : Int
  o : Bool
def Pt.none : Pt := ⟨0, 0, true⟩
def ofQ : Q P6 → Pt
  | .o => .none
  | .p x y => ⟨(x.val : Int), (y.val : Int), false⟩
theorem val_in6 (x : Fin P6) : in6 (x.val : Int) := ⟨Int.natCast_nonneg _, by have := x.isLt; rw [i6_eq]; omega⟩
theorem h6_valF (x : Fin P6) : h6 (x.val : Int) = x := by
  apply Fin.ext
  have := h6_in (val_in6 x)
  omega
def Pt.In (a : Pt) : Prop := in6 a.x ∧ in6 a.y
theorem ofQ_In (P : Q P6) : (ofQ P).In := by
  cases P with
  | o => exact ⟨in6_0, in6_0⟩
  | p x y => exact ⟨val_in6 x, val_in6 y⟩
/-- As the program takes it up. -/
def opn (a : Pt) : R3 := match a.o with
  | true => .none
  | false => ⟨a.x, a.y, 1⟩
theorem opn_R (P : Q P6) : (opn (ofQ P)).R P := by
  cases P with
  | o => exact rnone_R
  | p x y =>
    refine ⟨⟨val_in6 x, val_in6 y, in6_1⟩, ?_⟩
    show h6 1 ≠ 0 ∧ h6 (x.val : Int) = x * h6 1 ∧ h6 (y.val : Int) = y * h6 1
    rw [h6_1, h6_valF, h6_valF]
    exact ⟨one_ne, by grind, by grind⟩
def pI (z : Int) : Int := (vl z ^ (val PL - 2).toNat) % val PL
theorem in6_pI (z : Int) : in6 (pI z) := by unfold pI; rw [vPL]; exact in6_mod _
theorem pE_two : (I6 - 2).toNat = pE := by decide +kernel
theorem h6_pow (z : Int) : ∀ k : Nat, h6 (z ^ k) = ⟨(h6 z).val ^ k % P6, Nat.mod_lt _ p6_pos⟩
  | 0 => by
    apply Fin.ext
    show (h6 (z ^ 0)).val = (h6 z).val ^ 0 % P6
    rw [Int.pow_zero, Nat.pow_zero]
    decide +kernel
  | k + 1 => by
    rw [Int.pow_succ, h6_mul, h6_pow z k]
    apply Fin.ext
    show (h6 z).val ^ k % P6 * (h6 z).val % P6 = (h6 z).val ^ (k + 1) % P6
    rw [Nat.pow_succ, Nat.mod_mul_mod]
theorem pow_inv (z : Int) : h6 (z ^ pE) = c6.inv (h6 z) := h6_pow z pE
theorem h6_pI {z : Int} (h : in6 z) : h6 (pI z) = c6.inv (h6 z) := by
  unfold pI
  rw [vPL, vl_ok (in6_ok h), h6_mod, pE_two, pow_inv]
/-- As the program hands it out. -/
def cls (p : R3) : Pt := if p.z = 0 then .none else ⟨mI p.x (pI p.z), mI p.y (pI p.z), false⟩
theorem quo {x y X Y Z : Fin P6} (hz : Z ≠ 0) (hx : X = x * Z) (hy : Y = y * Z) : X * c6.inv Z = x ∧ Y * c6.inv Z = y := by
  have h := c6.hinv Z hz
  subst hx hy
  constructor <;> grind
theorem cls_R {p : R3} {P : Q P6} (h : p.R P) : cls p = ofQ P := by
  obtain ⟨⟨ix, iy, iz⟩, h⟩ := h
  unfold cls
  cases P with
  | o =>
    rw [if_pos ((h6_z iz).1 h.1)]
    rfl
  | p x y =>
    obtain ⟨hz, hx, hy⟩ := h
    rw [if_neg (fun e => hz ((h6_z iz).2 e))]
    obtain ⟨q1, q2⟩ := quo hz hx hy
    have e1 : mI p.x (pI p.z) = (x.val : Int) := h6_inj (in6_mI _ _) (val_in6 x) (by rw [h6_mI ix (in6_pI _), h6_pI iz, q1, h6_valF])
    have e2 : mI p.y (pI p.z) = (y.val : Int) := h6_inj (in6_mI _ _) (val_in6 y) (by rw [h6_mI iy (in6_pI _), h6_pI iz, q2, h6_valF])
    rw [e1, e2]
    rfl
def addP (a b : Pt) : Pt := cls (rS (opn a) (opn b))
def mulP (n : Int) (a : Pt) : Pt := cls (rMul n (opn a))
theorem addP_Q {P R : Q P6} (hP : c6.on P) (hR : c6.on R) : addP (ofQ P) (ofQ R) = ofQ (c6.add P R) := cls_R (rS_R hP hR (opn_R P) (opn_R R))
theorem mulP_Q {N : Nat} (hN : N < 2 ^ 256) {P : Q P6} (hP : c6.on P) : mulP (N : Int) (ofQ P) = ofQ (c6.mul N P) := cls_R (rMul_R hN hP (opn_R P))
/-- The reference's x and y. -/
def jI (z : Int) : Int := z ^ pE % I6
theorem in6_jI (z : Int) : in6 (jI z) := in6_mod _
theorem h6_jI (z : Int) : h6 (jI z) = c6.inv (h6 z) := by unfold jI; rw [h6_mod, pow_inv]
def jXY (a : J3) : Pt := if a.z = 0 then .none else ⟨mJ a.x (jI a.z), mJ a.y (jI a.z), false⟩
theorem jXY_R {a : J3} {P : Q P6} (h : a.R P) : jXY a = ofQ P := by
  obtain ⟨⟨ix, iy, iz⟩, h⟩ := h
  unfold jXY
  cases P with
  | o =>
    rw [if_pos ((h6_z iz).1 h)]
    rfl
  | p x y =>
    obtain ⟨hz, hx, hy⟩ := h
    rw [if_neg (fun e => hz ((h6_z iz).2 e))]
    obtain ⟨q1, q2⟩ := quo hz hx hy
    have e1 : mJ a.x (jI a.z) = (x.val : Int) := h6_inj (in6_m _ _) (val_in6 x) (by rw [h6_m, h6_jI, q1, h6_valF])
    have e2 : mJ a.y (jI a.z) = (y.val : Int) := h6_inj (in6_m _ _) (val_in6 y) (by rw [h6_m, h6_jI, q2, h6_valF])
    rw [e1, e2]
    rfl
end Go.We
