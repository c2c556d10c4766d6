/- The program of layer 11 on plain numbers: sums, products, points as it keeps them: it reckons with points. Own work. -/
import Derived.Test.YtapficdphhfpnaaDoorSMyRM
import Derived.Test.YtapficdphhfpnaaDoorSWe2
import Derived.Test.YtapficdphhfpnaaDoorSWe6
import Derived.Test.YtapficdphhfpnaaDoorSWordsN
import Derived.Test.YtapficdphhfpnaaDoorSMyMI
import Derived.Test.YtapficdphhfpnaaDoorSEvWr
import Derived.Test.YtapficdphhfpnaaDoorSEvIn
import Derived.Test.YtapficdphhfpnaaDoorSEvOne
set_option linter.unusedSimpArgs false
set_option linter.unusedVariables false
set_option linter.unusedSectionVars false
namespace Go.We
open Go.Wn
set_option maxRecDepth 100000
/-- The program's Mod. -/
def PL : List Int := [18446744073709551615, 4294967295, 0, 18446744069414584321, 1, 3, 18446744056529682431, 18446744073709551614, 21474836477]
theorem vPL : val PL = I6 := by decide +kernel
def ok6 (x : Int) : Prop := 0 ≤ x ∧ x < M6
theorem in6_ok {x : Int} (h : in6 x) : ok6 x := ⟨h.1, Int.lt_trans h.2 (by decide +kernel)⟩
def vl (x : Int) : Int := val (limbs x)
theorem vl_ok {x : Int} (h : ok6 x) : vl x = x := by
  unfold vl
  rw [val_limbs]
  exact Int.emod_eq_of_lt h.1 h.2
def aI (x y : Int) : Int := (vl x + vl y) % val PL
def sI (x y : Int) : Int := (vl x - vl y) % val PL
def mI (x y : Int) : Int := (vl x * vl y) % val PL
theorem in6_aI (x y : Int) : in6 (aI x y) := by unfold aI; rw [vPL]; exact in6_mod _
theorem in6_sI (x y : Int) : in6 (sI x y) := by unfold sI; rw [vPL]; exact in6_mod _
theorem in6_mI (x y : Int) : in6 (mI x y) := by unfold mI; rw [vPL]; exact in6_mod _
theorem h6_aI {x y : Int} (hx : in6 x) (hy : in6 y) : h6 (aI x y) = h6 x + h6 y := by unfold aI; rw [vPL, vl_ok (in6_ok hx), vl_ok (in6_ok hy), h6_mod, h6_add]
theorem h6_sI {x y : Int} (hx : in6 x) (hy : in6 y) : h6 (sI x y) = h6 x - h6 y := by unfold sI; rw [vPL, vl_ok (in6_ok hx), vl_ok (in6_ok hy), h6_mod, h6_sub]
theorem h6_mI {x y : Int} (hx : in6 x) (hy : in6 y) : h6 (mI x y) = h6 x * h6 y := by unfold mI; rw [vPL, vl_ok (in6_ok hx), vl_ok (in6_ok hy), h6_mod, h6_mul]
/-- The curve's number. -/
def bI : Int := 41058363725152142129326129780047268409114441015993725554835256314039467401291
theorem bI_in : in6 bI := ⟨by decide, by decide +kernel⟩
theorem bI_h : h6 bI = c6.b := by decide +kernel
/-- X : Y : Z, 0 : Y : 0 the one at infinity. -/
structure R3 where
  x : Int
  y : Int
  z : Int
def R3.none : R3 := ⟨0, 1, 0⟩
def R3.In (p : R3) : Prop := in6 p.x ∧ in6 p.y ∧ in6 p.z
def tI (a : Int) : Int := aI (aI a a) a
def sXX (p q : R3) : Int := mI p.x q.x
def sYY (p q : R3) : Int := mI p.y q.y
def sZZ (p q : R3) : Int := mI p.z q.z
def sXY (p q : R3) : Int := aI (mI p.x q.y) (mI p.y q.x)
def sXZ (p q : R3) : Int := aI (mI p.x q.z) (mI p.z q.x)
def sYZ (p q : R3) : Int := aI (mI p.y q.z) (mI p.z q.y)
def sRi (p q : R3) : Int := tI (sI (sXX p q) (sZZ p q))
def sSh (p q : R3) : Int := tI (sI (mI bI (sZZ p q)) (sXZ p q))
def sCr (p q : R3) : Int := tI (sI (mI bI (sXZ p q)) (aI (sXX p q) (tI (sZZ p q))))
def sMi (p q : R3) : Int := sI (sYY p q) (sSh p q)
def sPl (p q : R3) : Int := aI (sYY p q) (sSh p q)
def rS (p q : R3) : R3 := ⟨sI (mI (sXY p q) (sMi p q)) (mI (sYZ p q) (sCr p q)), aI (mI (sPl p q) (sMi p q)) (mI (sRi p q) (sCr p q)), aI (mI (sYZ p q) (sPl p q)) (mI (sXY p q) (sRi p q))⟩
theorem rS_In (p q : R3) : (rS p q).In := ⟨in6_sI _ _, in6_aI _ _, in6_aI _ _⟩
def R3.R (p : R3) (P : Q P6) : Prop := p.In ∧ PC (h6 p.x) (h6 p.y) (h6 p.z) P
theorem tI_in (a : Int) : in6 (tI a) := in6_aI _ _
theorem tI_h {a : Int} (h : in6 a) : h6 (tI a) = 3 * h6 a := by
  unfold tI
  rw [h6_aI (in6_aI _ _) h, h6_aI h h]
  grind
theorem h6_1 : h6 1 = 1 := by decide +kernel
theorem rnone_R : R3.none.R .o := ⟨⟨in6_0, in6_1, in6_0⟩, h6_0, h6_0, by show h6 1 ≠ 0; rw [h6_1]; exact one_ne⟩
theorem rS_R {p q : R3} {P R : Q P6} (hP : c6.on P) (hR : c6.on R) (h : p.R P) (h' : q.R R) : (rS p q).R (c6.add P R) := by
  obtain ⟨⟨ix, iy, iz⟩, h⟩ := h
  obtain ⟨⟨jx, jy, jz⟩, h'⟩ := h'
  refine ⟨rS_In _ _, ?_⟩
  have k := c6.rcb no2 hP hR h h'
  have eXX : h6 (sXX p q) = h6 p.x * h6 q.x := h6_mI ix jx
  have eYY : h6 (sYY p q) = h6 p.y * h6 q.y := h6_mI iy jy
  have eZZ : h6 (sZZ p q) = h6 p.z * h6 q.z := h6_mI iz jz
  have eXY : h6 (sXY p q) = h6 p.x * h6 q.y + h6 p.y * h6 q.x := by unfold sXY; rw [h6_aI (in6_mI _ _) (in6_mI _ _), h6_mI ix jy, h6_mI iy jx]
  have eXZ : h6 (sXZ p q) = h6 p.x * h6 q.z + h6 p.z * h6 q.x := by unfold sXZ; rw [h6_aI (in6_mI _ _) (in6_mI _ _), h6_mI ix jz, h6_mI iz jx]
  have eYZ : h6 (sYZ p q) = h6 p.y * h6 q.z + h6 p.z * h6 q.y := by unfold sYZ; rw [h6_aI (in6_mI _ _) (in6_mI _ _), h6_mI iy jz, h6_mI iz jy]
  have nXX : in6 (sXX p q) := in6_mI _ _
  have nYY : in6 (sYY p q) := in6_mI _ _
  have nZZ : in6 (sZZ p q) := in6_mI _ _
  have nXY : in6 (sXY p q) := in6_aI _ _
  have nXZ : in6 (sXZ p q) := in6_aI _ _
  have nYZ : in6 (sYZ p q) := in6_aI _ _
  have eRi : h6 (sRi p q) = 3 * (h6 (sXX p q) - h6 (sZZ p q)) := by unfold sRi; rw [tI_h (in6_sI _ _), h6_sI nXX nZZ]
  have eSh : h6 (sSh p q) = 3 * (c6.b * h6 (sZZ p q) - h6 (sXZ p q)) := by unfold sSh; rw [tI_h (in6_sI _ _), h6_sI (in6_mI _ _) nXZ, h6_mI bI_in nZZ, bI_h]
  have eCr : h6 (sCr p q) = 3 * (c6.b * h6 (sXZ p q) - (h6 (sXX p q) + 3 * h6 (sZZ p q))) := by
    unfold sCr; rw [tI_h (in6_sI _ _), h6_sI (in6_mI _ _) (in6_aI _ _), h6_mI bI_in nXZ, h6_aI nXX (tI_in _), tI_h nZZ, bI_h]
  have nRi : in6 (sRi p q) := tI_in _
  have nSh : in6 (sSh p q) := tI_in _
  have nCr : in6 (sCr p q) := tI_in _
  have nMi : in6 (sMi p q) := in6_sI _ _
  have nPl : in6 (sPl p q) := in6_aI _ _
  have eMi : h6 (sMi p q) = h6 (sYY p q) - h6 (sSh p q) := h6_sI nYY nSh
  have ePl : h6 (sPl p q) = h6 (sYY p q) + h6 (sSh p q) := h6_aI nYY nSh
  have x3 : h6 (rS p q).x = c6.X3 (h6 p.x) (h6 p.y) (h6 p.z) (h6 q.x) (h6 q.y) (h6 q.z) := by
    show h6 (sI (mI (sXY p q) (sMi p q)) (mI (sYZ p q) (sCr p q))) = _
    rw [h6_sI (in6_mI _ _) (in6_mI _ _), h6_mI nXY nMi, h6_mI nYZ nCr, eMi, eCr, eSh, eXX, eYY, eZZ, eXY, eXZ, eYZ]
    unfold C.X3
    rw [c6_a]
    generalize h6 p.x = a1; generalize h6 p.y = a2; generalize h6 p.z = a3; generalize h6 q.x = b1; generalize h6 q.y = b2; generalize h6 q.z = b3; generalize c6.b = b
    clear k eXX eYY eZZ eXY eXZ eYZ eRi eSh eCr eMi ePl h h' hP hR nXX nYY nZZ nXY nXZ nYZ nRi nSh nCr nMi nPl ix iy iz jx jy jz
    grind
  have y3 : h6 (rS p q).y = c6.Y3 (h6 p.x) (h6 p.y) (h6 p.z) (h6 q.x) (h6 q.y) (h6 q.z) := by
    show h6 (aI (mI (sPl p q) (sMi p q)) (mI (sRi p q) (sCr p q))) = _
    rw [h6_aI (in6_mI _ _) (in6_mI _ _), h6_mI nPl nMi, h6_mI nRi nCr, eMi, ePl, eCr, eRi, eSh, eXX, eYY, eZZ, eXZ]
    unfold C.Y3
    rw [c6_a]
    generalize h6 p.x = a1; generalize h6 p.y = a2; generalize h6 p.z = a3; generalize h6 q.x = b1; generalize h6 q.y = b2; generalize h6 q.z = b3; generalize c6.b = b
    clear k x3 eXX eYY eZZ eXY eXZ eYZ eRi eSh eCr eMi ePl h h' hP hR nXX nYY nZZ nXY nXZ nYZ nRi nSh nCr nMi nPl ix iy iz jx jy jz
    grind
  have z3 : h6 (rS p q).z = c6.Z3 (h6 p.x) (h6 p.y) (h6 p.z) (h6 q.x) (h6 q.y) (h6 q.z) := by
    show h6 (aI (mI (sYZ p q) (sPl p q)) (mI (sXY p q) (sRi p q))) = _
    rw [h6_aI (in6_mI _ _) (in6_mI _ _), h6_mI nYZ nPl, h6_mI nXY nRi, ePl, eRi, eSh, eXX, eYY, eZZ, eXY, eXZ, eYZ]
    unfold C.Z3
    rw [c6_a]
    generalize h6 p.x = a1; generalize h6 p.y = a2; generalize h6 p.z = a3; generalize h6 q.x = b1; generalize h6 q.y = b2; generalize h6 q.z = b3; generalize c6.b = b
    clear k x3 y3 eXX eYY eZZ eXY eXZ eYZ eRi eSh eCr eMi ePl h h' hP hR nXX nYY nZZ nXY nXZ nYZ nRi nSh nCr nMi nPl ix iy iz jx jy jz
    grind
  rw [x3, y3, z3]
  exact k
/-- So many times by itself, after j steps from the highest bit down. -/
def rPr (N : Int) (p : R3) : Nat → R3
  | 0 => .none
  | j + 1 => if N / 2 ^ (255 - j) % 2 = 1 then rS (rS (rPr N p j) (rPr N p j)) p else rS (rPr N p j) (rPr N p j)
def rMul (N : Int) (p : R3) : R3 := rPr N p 256
theorem rPr_In (N : Int) (p : R3) : ∀ j, (rPr N p j).In
  | 0 => ⟨in6_0, in6_1, in6_0⟩
  | j + 1 => by
    show (if _ then _ else _ : R3).In
    split
    · exact rS_In _ _
    · exact rS_In _ _
theorem rPr_R {N : Nat} (hN : N < 2 ^ 256) {p : R3} {P : Q P6} (hP : c6.on P) (h : p.R P) : ∀ j, j ≤ 256 → (rPr (N : Int) p j).R (c6.mul (N / 2 ^ (256 - j)) P)
  | 0, _ => by
    rw [show N / 2 ^ (256 - 0) = 0 from Nat.div_eq_of_lt hN]
    exact rnone_R
  | j + 1, hj => by
    have ih := rPr_R hN hP h j (by omega)
    have hd : N / 2 ^ (256 - j) = N / 2 ^ (255 - j) / 2 := by
      rw [Nat.div_div_eq_div_mul, ← Nat.pow_succ, show (255 - j).succ = 256 - j by omega]
    have e1 : (N : Int) / 2 ^ (255 - j) % 2 = ((N / 2 ^ (255 - j) % 2 : Nat) : Int) := by
      rw [Int.natCast_emod, Int.natCast_ediv, Int.natCast_pow]
      rfl
    have hO := c6.on_mul (N / 2 ^ (256 - j)) hP
    have k2 := rS_R hO hO ih ih
    rw [← c6.mul_add _ _ hP] at k2
    show (if (N : Int) / 2 ^ (255 - j) % 2 = 1 then rS (rS (rPr N p j) (rPr N p j)) p else rS (rPr N p j) (rPr N p j)).R (c6.mul (N / 2 ^ (256 - (j + 1))) P)
    rw [show 256 - (j + 1) = 255 - j by omega, e1]
    rw [hd] at k2 hO
    generalize N / 2 ^ (255 - j) = m at *
    by_cases hb : ((m % 2 : Nat) : Int) = 1
    · rw [if_pos hb]
      have k3 := rS_R (c6.on_mul _ hP) hP k2 h
      have e : c6.mul m P = c6.add (c6.mul (m / 2 + m / 2) P) P := by
        have := c6.mul_add (m / 2 + m / 2) 1 hP
        rw [c6.mul_one, show m / 2 + m / 2 + 1 = m by omega] at this
        exact this
      rw [e]
      exact k3
    · rw [if_neg hb, show m = m / 2 + m / 2 by omega]
      exact k2
theorem rMul_R {N : Nat} (hN : N < 2 ^ 256) {p : R3} {P : Q P6} (hP : c6.on P) (h : p.R P) : (rMul (N : Int) p).R (c6.mul N P) := by
  have := rPr_R hN hP h 256 (Nat.le_refl _)
  rwa [show N / 2 ^ (256 - 256) = N by rw [Nat.sub_self, Nat.pow_zero, Nat.div_one]] at this
/-- A point, as the program hands it out. -/
structure Pt where
  x : Int
  y : Int
  o : Bool
def Pt.none : Pt := ⟨0, 0, true⟩
def ofQ : Q P6 → Pt
  | .o => .none
  | .p x y => ⟨(x.val : Int), (y.val : Int), false⟩
theorem val_in6 (x : Fin P6) : in6 (x.val : Int) := ⟨Int.natCast_nonneg _, by have := x.isLt; rw [i6_eq]; omega⟩
theorem h6_valF (x : Fin P6) : h6 (x.val : Int) = x := by
  apply Fin.ext
  have := h6_in (val_in6 x)
  omega
def Pt.In (a : Pt) : Prop := in6 a.x ∧ in6 a.y
theorem ofQ_In (P : Q P6) : (ofQ P).In := by
  cases P with
  | o => exact ⟨in6_0, in6_0⟩
  | p x y => exact ⟨val_in6 x, val_in6 y⟩
/-- As the program takes it up. -/
def opn (a : Pt) : R3 := match a.o with
  | true => .none
  | false => ⟨a.x, a.y, 1⟩
theorem opn_R (P : Q P6) : (opn (ofQ P)).R P := by
  cases P with
  | o => exact rnone_R
  | p x y =>
    refine ⟨⟨val_in6 x, val_in6 y, in6_1⟩, ?_⟩
    show h6 1 ≠ 0 ∧ h6 (x.val : Int) = x * h6 1 ∧ h6 (y.val : Int) = y * h6 1
    rw [h6_1, h6_valF, h6_valF]
    exact ⟨one_ne, by grind, by grind⟩
def pI (z : Int) : Int := (vl z ^ (val PL - 2).toNat) % val PL
theorem in6_pI (z : Int) : in6 (pI z) := by unfold pI; rw [vPL]; exact in6_mod _
theorem pE_two : (I6 - 2).toNat = pE := by decide +kernel
theorem h6_pow (z : Int) : ∀ k : Nat, h6 (z ^ k) = ⟨(h6 z).val ^ k % P6, Nat.mod_lt _ p6_pos⟩
  | 0 => by
    apply Fin.ext
    show (h6 (z ^ 0)).val = (h6 z).val ^ 0 % P6
    rw [Int.pow_zero, Nat.pow_zero]
    decide +kernel
  | k + 1 => by
    rw [Int.pow_succ, h6_mul, h6_pow z k]
    apply Fin.ext
    show (h6 z).val ^ k % P6 * (h6 z).val % P6 = (h6 z).val ^ (k + 1) % P6
    rw [Nat.pow_succ, Nat.mod_mul_mod]
theorem pow_inv (z : Int) : h6 (z ^ pE) = c6.inv (h6 z) := h6_pow z pE
theorem h6_pI {z : Int} (h : in6 z) : h6 (pI z) = c6.inv (h6 z) := by
  unfold pI
  rw [vPL, vl_ok (in6_ok h), h6_mod, pE_two, pow_inv]
/-- As the program hands it out. -/
def cls (p : R3) : Pt := if p.z = 0 then .none else ⟨mI p.x (pI p.z), mI p.y (pI p.z), false⟩
theorem quo {x y X Y Z : Fin P6} (hz : Z ≠ 0) (hx : X = x * Z) (hy : Y = y * Z) : X * c6.inv Z = x ∧ Y * c6.inv Z = y := by
  have h := c6.hinv Z hz
  subst hx hy
  constructor <;> grind
theorem cls_R {p : R3} {P : Q P6} (h : p.R P) : cls p = ofQ P := by
  obtain ⟨⟨ix, iy, iz⟩, h⟩ := h
  unfold cls
  cases P with
  | o =>
    rw [if_pos ((h6_z iz).1 h.1)]
    rfl
  | p x y =>
    obtain ⟨hz, hx, hy⟩ := h
    rw [if_neg (fun e => hz ((h6_z iz).2 e))]
    obtain ⟨q1, q2⟩ := quo hz hx hy
    have e1 : mI p.x (pI p.z) = (x.val : Int) := h6_inj (in6_mI _ _) (val_in6 x) (by rw [h6_mI ix (in6_pI _), h6_pI iz, q1, h6_valF])
    have e2 : mI p.y (pI p.z) = (y.val : Int) := h6_inj (in6_mI _ _) (val_in6 y) (by rw [h6_mI iy (in6_pI _), h6_pI iz, q2, h6_valF])
    rw [e1, e2]
    rfl
def addP (a b : Pt) : Pt := cls (rS (opn a) (opn b))
def mulP (n : Int) (a : Pt) : Pt := cls (rMul n (opn a))
theorem addP_Q {P R : Q P6} (hP : c6.on P) (hR : c6.on R) : addP (ofQ P) (ofQ R) = ofQ (c6.add P R) := cls_R (rS_R hP hR (opn_R P) (opn_R R))
theorem mulP_Q {N : Nat} (hN : N < 2 ^ 256) {P : Q P6} (hP : c6.on P) : mulP (N : Int) (ofQ P) = ofQ (c6.mul N P) := cls_R (rMul_R hN hP (opn_R P))
/-- The reference's x and y. -/
def jI (z : Int) : Int := z ^ pE % I6
theorem in6_jI (z : Int) : in6 (jI z) := in6_mod _
theorem h6_jI (z : Int) : h6 (jI z) = c6.inv (h6 z) := by unfold jI; rw [h6_mod, pow_inv]
def jXY (a : J3) : Pt := if a.z = 0 then .none else ⟨mJ a.x (jI a.z), mJ a.y (jI a.z), false⟩
theorem jXY_R {a : J3} {P : Q P6} (h : a.R P) : jXY a = ofQ P := by
  obtain ⟨⟨ix, iy, iz⟩, h⟩ := h
  unfold jXY
  cases P with
  | o =>
    rw [if_pos ((h6_z iz).1 h)]
    rfl
  | p x y =>
    obtain ⟨hz, hx, hy⟩ := h
    rw [if_neg (fun e => hz ((h6_z iz).2 e))]
    obtain ⟨q1, q2⟩ := quo hz hx hy
    have e1 : mJ a.x (jI a.z) = (x.val : Int) := h6_inj (in6_m _ _) (val_in6 x) (by rw [h6_m, h6_jI, q1, h6_valF])
    have e2 : mJ a.y (jI a.z) = (y.val : Int) := h6_inj (in6_m _ _) (val_in6 y) (by rw [h6_m, h6_jI, q2, h6_valF])
    rw [e1, e2]
    rfl
end Go.We
namespace Go.We
open Go.Ev Go.Wn
def r3L (p : R3) : List Int := limbs p.x ++ limbs p.y ++ limbs p.z
def r3V (l : List Int) : R3 := ⟨val (l.take 4), val ((l.drop 4).take 4), val (l.drop 8)⟩
end Go.We
namespace Go.Proofs.YtapficdphhfpnaaDoor
open Go.Ev Go.Wn Go.We
set_option maxRecDepth 100000
theorem twelve {l : List Int} (h : l.length = 12) : ∃ x0 x1 x2 x3 x4 x5 x6 x7 x8 x9 xa xb, l = [x0, x1, x2, x3, x4, x5, x6, x7, x8, x9, xa, xb] := by
  match l, h with
  | [x0, x1, x2, x3, x4, x5, x6, x7, x8, x9, xa, xb], _ => exact ⟨x0, x1, x2, x3, x4, x5, x6, x7, x8, x9, xa, xb, rfl⟩
theorem r3_back {l : List Int} (h : l.length = 12) (hr : ∀ x ∈ l, inR .u64 x = true) : r3L (r3V l) = l := by
  obtain ⟨x0, x1, x2, x3, x4, x5, x6, x7, x8, x9, xa, xb, rfl⟩ := twelve h
  simp only [List.forall_mem_cons, List.not_mem_nil, false_implies, implies_true, and_true] at hr
  obtain ⟨k0, k1, k2, k3, k4, k5, k6, k7, k8, k9, ka, kb⟩ := hr
  have e0 := limbs_val (inR_W k0) (inR_W k1) (inR_W k2) (inR_W k3)
  have e1 := limbs_val (inR_W k4) (inR_W k5) (inR_W k6) (inR_W k7)
  have e2 := limbs_val (inR_W k8) (inR_W k9) (inR_W ka) (inR_W kb)
  unfold r3L r3V
  simp only [List.take_succ_cons, List.take_zero, List.drop_succ_cons, List.drop_zero]
  rw [e0, e1, e2]
  rfl
theorem r3_ok {p : R3} (h : p.In) : r3V (r3L p) = p := by
  show (⟨vl p.x, vl p.y, vl p.z⟩ : R3) = p
  rw [vl_ok (in6_ok h.1), vl_ok (in6_ok h.2.1), vl_ok (in6_ok h.2.2)]
def qn (f : FuncId) : Bool := !Nat.beq f 1000000000
def hp0 : CallH := withV 47 bigS (withC 48 bytS (withV 56 newG hm11))
theorem hp0_ok : HOk Tryd.prog hp0 := ((hm11_ok.withV fun _ _ _ _ h ho => newG_ok h ho).withC fun _ _ _ h _ => byt_ok h).withV fun _ _ _ _ h ho => big_ok h ho
/-- The Mod, as a curve shows it. -/
def pC : Cells := .ints .u64 (some 9) PL
theorem su_eval (p q : R3) : seeV 0 ((funcL Tryd.prog qn (deep Tryd.prog qn hp0 100 3) (fun _ _ => none) 100 41 (uArgs [.pl (.ints .u64 12 (r3L p)), .pl (.ints .u64 12 (r3L q))]) (uMem pC [.pl (.ints .u64 12 (r3L p)), .pl (.ints .u64 12 (r3L q))])).go []) =
    some (List.replicate 37 true, .ints .u64 12 (r3L (rS p q)), some (some ⟨false, pC⟩)) := by kernel_rfl
def isP (L : List Int) : Bool := decide (L = PL)
def suS : Cells → List V → E (AV × Mem)
  | .ints .u64 (some 9) L, [.pl (.ints .u64 12 p), .pl (.ints .u64 12 q)] => some ([isP L], (.ints .u64 12 (r3L (rS (r3V p) (r3V q))), []))
  | _, _ => none
theorem lo1 (k0 : Nat) {F : FuncId} (fn : Func) (c : Code) (_ : Tryd.prog.funcs[F]? = some fn) (_ : fn.body = some c) : LOkN k0 Tryd.prog c (fun _ _ => none) := LOkN.none
theorem rep_true (k : Nat) : Paid (List.replicate k true) := fun x hx => (List.mem_replicate.1 hx).2
theorem r3_rep {ρ : Nat → Loc3} {N : Nat → Prop} {l : List Int} {v : Value} (h : Rep ρ N (.ints .u64 12 l) v) : r3L (r3V l) = l := by
  cases h with | ints _ _ _ hn hr => exact r3_back hn hr
theorem q_paid {L : List Int} {o : List Bool} (ho : Paid (isP L :: o)) : L = PL := of_decide_eq_true (ho _ (List.mem_cons_self ..))
theorem suS_ok {c : Cells} {xs : List V} {o : List Bool} {v : AV} {bs : Mem} (h : suS c xs = some (o, (v, bs))) (ho : Paid o) : RCall Tryd.prog 41 (uArgs xs) (uMem c xs) v bs := by
  unfold suS at h
  split at h
  · rename_i L p q
    cases h
    obtain rfl := q_paid ho
    intro ρ vs w ha hi
    have h2 := ha
    cases h2 with
    | cons _ _ _ _ _ h2 => cases h2 with
      | cons _ _ _ _ r1 h2 => cases h2 with
        | cons _ _ _ _ r2 h2 =>
          have e := su_eval (r3V p) (r3V q)
          rw [r3_rep r1, r3_rep r2] at e
          exact rcall_none mixed noCount (hp0_ok.deep mixed noCount 100 3) (lo1 _) [] 0 e (rep_true _) rfl rfl rfl rfl ha hi
  · cases h
def hp1 : CallH := withU 41 suS hp0
theorem hp1_ok : HOk Tryd.prog hp1 := hp0_ok.withU fun _ _ _ _ _ h ho => suS_ok h ho
end Go.Proofs.YtapficdphhfpnaaDoor
namespace Go.Proofs.YtapficdphhfpnaaDoor
open Go.Ev Go.Wn Go.We
set_option maxRecDepth 100000
def bitF (b : Int) : List AV → E AV
  | [.ints .u64 4 a, .int _ .i64 i] => some ([decide (bitV a i = b)], .int false .u64 b)
  | _ => none
theorem bitF_ok {b : Int} {args : List AV} {o : List Bool} {v : AV} (h : bitF b args = some (o, v)) (ho : Paid o) : PureCall Tryd.prog 61 args v := by
  unfold bitF at h
  split at h
  · rename_i a s i
    cases h
    have e := of_decide_eq_true (ho _ (List.mem_cons_self ..))
    intro ρ N vs ha w hT
    refine (bit_ok (args := [.ints .u64 4 a, .int s .i64 i]) rfl ha w hT).mono fun u w' ⟨h1, h2⟩ => ⟨fun ρ' N' => ?_, h2⟩
    have h3 := h1 ρ' N'
    rw [e] at h3
    cases h3 with | int _ _ _ h => exact .int _ _ _ h
  · cases h
def hpB (b : Int) : CallH := withC 61 (bitF b) hp1
theorem hpB_ok (b : Int) : HOk Tryd.prog (hpB b) := hp1_ok.withC fun _ _ _ h ho => bitF_ok h ho
structure PrS where
  n : List Int
  p : List Int
  a : List Int
  i : Int
def prTs : List Nat := [3, 4, 5, 6, 7, 10]
def prV (s : PrS) : List AV := [.ptr false 3 0, .ptr false 4 0, .ptr false 5 0, .ptr false 6 0, .ptr false 7 0, .int true .i64 s.i]
def prM (s : PrS) : Mem := [some ⟨false, pC⟩, none, none, some ⟨true, .vals [.ptr false 0 0]⟩, some ⟨true, .ints .u64 (some 4) s.n⟩, some ⟨true, .ints .u64 (some 12) s.p⟩,
  some ⟨true, .ints .u64 (some 12) [0, 0, 0, 0, 0, 0, 0, 0, 0, 0, 0, 0]⟩, some ⟨true, .ints .u64 (some 12) s.a⟩]
def prO (n : List Int) (b i : Int) : List Bool := [decide (i < 256), true, decide (bitV n (IntKind.i64.wrap (255 - i)) = b), true]
def pr0 (a : List Int) : List Int := r3L (rS (r3V a) (r3V a))
def pr1 (a p : List Int) : List Int := r3L (rS (r3V (pr0 a)) (r3V p))
theorem pr_0 (w : Nat → AV) (s : PrS) : seesL prTs ((codeL Tryd.prog qn (deep Tryd.prog qn (hpB 0) 100 3) (fun _ _ => none) 100 (lp (blk 0 (bodyOf Tryd.prog 38))) ⟨tmOf (ups w (zipU prTs (prV s))) 29, prM s⟩).go [true]) =
    some (prO s.n 0 s.i, 0, prV { s with i := IntKind.i64.wrap (s.i + 1) }, 29, prM { s with a := pr0 s.a }) := by
  obtain ⟨n, p, a, i⟩ := s
  kernel_rfl
theorem pr_1 (w : Nat → AV) (s : PrS) : seesL prTs ((codeL Tryd.prog qn (deep Tryd.prog qn (hpB 1) 100 3) (fun _ _ => none) 100 (lp (blk 0 (bodyOf Tryd.prog 38))) ⟨tmOf (ups w (zipU prTs (prV s))) 29, prM s⟩).go [true]) =
    some (prO s.n 1 s.i, 0, prV { s with i := IntKind.i64.wrap (s.i + 1) }, 29, prM { s with a := pr1 s.a s.p }) := by
  obtain ⟨n, p, a, i⟩ := s
  kernel_rfl
theorem pr_f (w : Nat → AV) (s : PrS) : seesL prTs ((codeL Tryd.prog qn (deep Tryd.prog qn (hpB 1) 100 3) (fun _ _ => none) 100 (lp (blk 0 (bodyOf Tryd.prog 38))) ⟨tmOf (ups w (zipU prTs (prV s))) 29, prM s⟩).go [false]) =
    some ([!decide (s.i < 256)], 2, prV s, 29, prM s) := by
  obtain ⟨n, p, a, i⟩ := s
  kernel_rfl
def Z12 : List Int := [0, 0, 0, 0, 0, 0, 0, 0, 0, 0, 0, 0]
def prP : List AV → Mem → Option (PrS × List Bool)
  | [.ptr false 3 0, .ptr false 4 0, .ptr false 5 0, .ptr false 6 0, .ptr false 7 0, .int false .i64 i], [some ⟨false, .ints .u64 (some 9) L⟩, none, none, some ⟨true, .vals [.ptr false 0 0]⟩, some ⟨true, .ints .u64 (some 4) n⟩, some ⟨true, .ints .u64 (some 12) p⟩, some ⟨true, .ints .u64 (some 12) z⟩, some ⟨true, .ints .u64 (some 12) a⟩] =>
    some (⟨n, p, a, 0⟩, [decide (i = 0), decide (L = PL), decide (z = Z12), decide (a = r3L R3.none), decide (limbs (val n) = n)])
  | _, _ => none
def prR (N : Int) (p : List Int) (j : Nat) : List Int := r3L (rPr N (r3V p) j)
def prF (p : PrS × List Bool) : List (Nat × AV) × Mem := ([(6, .ptr false 6 0), (7, .ptr false 7 0)], prM { p.1 with a := prR (val p.1.n) p.1.p 256 })
def prΛ (Λ : LoopH) : LoopH := famH 0 29 prTs prP (fun p => p.2) prF Λ
def prJ (p s : PrS × List Bool) : Prop := limbs (val p.1.n) = p.1.n ∧ ∃ j : Nat, j ≤ 256 ∧ s.1 = { p.1 with a := prR (val p.1.n) p.1.p j, i := (j : Int) }
theorem ld_bit {n : List Int} (h : limbs (val n) = n) {j : Nat} (hj : j < 256) : bitV n (IntKind.i64.wrap (255 - (j : Int))) = val n / 2 ^ (255 - j) % 2 := by
  have e : IntKind.i64.wrap (255 - (j : Int)) = ((255 - j : Nat) : Int) := by
    have := w64_id (x := 255 - (j : Int)) (by omega)
    unfold w64 at this
    rw [this]; omega
  rw [e]
  obtain ⟨e0, e1, e2, e3, he, w0, w1, w2, w3⟩ := limbs_self h
  have hc : bitC ((255 - j : Nat) : Int) = false := by unfold bitC; rw [decide_eq_false (by omega : ¬ ((255 - j : Nat) : Int) < 0), decide_eq_false (by omega : ¬ ((255 - j : Nat) : Int) > 255)]
  unfold bitV
  rw [hc, he]
  exact bit_word w0 w1 w2 w3 (by omega)
theorem pr_step (N : Int) (p : List Int) (j : Nat) : prR N p (j + 1) = if N / 2 ^ (255 - j) % 2 = 1 then pr1 (prR N p j) p else pr0 (prR N p j) := by
  have h1 : r3V (prR N p j) = rPr N (r3V p) j := r3_ok (rPr_In _ _ _)
  unfold pr1 pr0
  rw [h1, r3_ok (rS_In _ _)]
  show r3L (if N / 2 ^ (255 - j) % 2 = 1 then _ else _) = _
  split <;> rfl
theorem pr_lok {Λ : LoopH} (hΛ : LOk Tryd.prog (bodyOf Tryd.prog 38) Λ) : LOk Tryd.prog (bodyOf Tryd.prog 38) (prΛ Λ) := by
  refine fam_okx (q := qn) (n := 100) (fun p : PrS × List Bool => prV p.1) (fun p => prM p.1) prJ (fun s => 256 - s.1.i.toNat) mixed hΛ LOk.none (by kernel_rfl) (by kernel_rfl) (fun s => rfl) (fun s => rfl) (fun avs mm p h ho => ?_) (fun p s hJ w => ?_)
  · unfold prP at h
    split at h
    · rename_i i L n p z a
      cases h
      have p0 := of_decide_eq_true (ho _ (List.mem_cons_self ..))
      have p1 := of_decide_eq_true (ho _ (List.mem_cons_of_mem _ (List.mem_cons_self ..)))
      have p2 := of_decide_eq_true (ho _ (List.mem_cons_of_mem _ (List.mem_cons_of_mem _ (List.mem_cons_self ..))))
      have p3 := of_decide_eq_true (ho _ (List.mem_cons_of_mem _ (List.mem_cons_of_mem _ (List.mem_cons_of_mem _ (List.mem_cons_self ..)))))
      have p4 := of_decide_eq_true (ho _ (List.mem_cons_of_mem _ (List.mem_cons_of_mem _ (List.mem_cons_of_mem _ (List.mem_cons_of_mem _ (List.mem_cons_self ..))))))
      refine ⟨(⟨n, p, a, 0⟩, []), ?_, ?_, p4, 0, Nat.zero_le _, ?_⟩
      · rw [p0]
        exact .cons (.refl _) (.cons (.refl _) (.cons (.refl _) (.cons (.refl _) (.cons (.refl _) (.cons (.int _ _ _) .nil)))))
      · rw [p1, p2]
        rfl
      · rw [p3]
        rfl
    · cases h
  · obtain ⟨hn, j, hj, hs⟩ := hJ
    obtain ⟨p, pb⟩ := p
    obtain ⟨s, sb⟩ := s
    simp only at hs hn
    subst hs
    by_cases hend : j = 256
    · subst hend
      refine ⟨_, (hpB_ok 1).deep (q := qn) mixed noCount 100 3, Round.out (pr_f w _) rfl rfl (paid_cons (by simp) Paid.nil) fun q hq => ?_⟩
      simp only [prF, List.mem_cons, List.not_mem_nil, or_false] at hq
      rcases hq with rfl | rfl
      · exact ⟨_, List.mem_cons_of_mem _ (List.mem_cons_of_mem _ (List.mem_cons_of_mem _ (List.mem_cons_self ..))), .refl _⟩
      · exact ⟨_, List.mem_cons_of_mem _ (List.mem_cons_of_mem _ (List.mem_cons_of_mem _ (List.mem_cons_of_mem _ (List.mem_cons_self ..)))), .refl _⟩
    · have hlt : j < 256 := by omega
      have hb := ld_bit hn hlt
      have hw : IntKind.i64.wrap ((j : Int) + 1) = ((j + 1 : Nat) : Int) := by
        have := w64_id (x := (j : Int) + 1) (by omega)
        unfold w64 at this
        rw [this]; omega
      have hdebt : ∀ b : Int, val p.n / 2 ^ (255 - j) % 2 = b → Paid (prO p.n b (j : Int)) := fun b h => paid_cons (decide_eq_true (by omega)) (paid_cons rfl (paid_cons (decide_eq_true (by rw [hb, h])) (paid_cons rfl Paid.nil)))
      have h01 : val p.n / 2 ^ (255 - j) % 2 = 0 ∨ val p.n / 2 ^ (255 - j) % 2 = 1 := by omega
      have hl := pr_step (val p.n) p.p j
      rcases h01 with h | h
      · refine ⟨_, (hpB_ok 0).deep (q := qn) mixed noCount 100 3, Round.on (pr_0 w _) ({ p with a := prR (val p.n) p.p (j + 1), i := ((j + 1 : Nat) : Int) }, sb) [] ?_ (hdebt 0 h) ?_ ⟨hn, j + 1, by omega, rfl⟩ rfl (by simp only; omega)⟩
        · rw [hl, h, if_neg (by decide), List.append_nil]
          rfl
        · simp only [hw]
          exact LeL.refl _
      · refine ⟨_, (hpB_ok 1).deep (q := qn) mixed noCount 100 3, Round.on (pr_1 w _) ({ p with a := prR (val p.n) p.p (j + 1), i := ((j + 1 : Nat) : Int) }, sb) [] ?_ (hdebt 1 h) ?_ ⟨hn, j + 1, by omega, rfl⟩ rfl (by simp only; omega)⟩
        · rw [hl, h, if_pos rfl, List.append_nil]
          rfl
        · simp only [hw]
          exact LeL.refl _
theorem pr_eval (n p : List Int) : seeV 0 ((funcL Tryd.prog qn (deep Tryd.prog qn hp1 100 3) (prΛ fun _ _ => none) 100 38 (uArgs [.pl (.ints .u64 4 n), .pl (.ints .u64 12 p)]) (uMem pC [.pl (.ints .u64 4 n), .pl (.ints .u64 12 p)])).go []) =
    some ([true, true, true, true, decide (limbs (val n) = n)], .ints .u64 12 (r3L (rMul (val n) (r3V p))), some (some ⟨false, pC⟩)) := by kernel_rfl
def prS : Cells → List V → E (AV × Mem)
  | .ints .u64 (some 9) L, [.pl (.ints .u64 4 n), .pl (.ints .u64 12 p)] => some ([isP L], (.ints .u64 12 (r3L (rMul (val n) (r3V p))), []))
  | _, _ => none
theorem prS_ok {c : Cells} {xs : List V} {o : List Bool} {v : AV} {bs : Mem} (h : prS c xs = some (o, (v, bs))) (ho : Paid o) : RCall Tryd.prog 38 (uArgs xs) (uMem c xs) v bs := by
  unfold prS at h
  split at h
  · rename_i L n p
    cases h
    obtain rfl := q_paid ho
    intro ρ vs w ha hi
    have h2 := ha
    cases h2 with
    | cons _ _ _ _ _ h2 => cases h2 with
      | cons _ _ _ _ r1 h2 =>
        obtain ⟨a, b, c, d, rfl, w0, w1, w2, w3⟩ := num_arg r1
        exact rcall_none mixed noCount (hp1_ok.deep mixed noCount 100 3) (fun fn c hf hb => by rw [bodyOf_eq hf hb]; exact (pr_lok LOk.none).toN) [] 0 (pr_eval [a, b, c, d] p) (paid_cons rfl (paid_cons rfl (paid_cons rfl (paid_cons rfl (paid_cons (decide_eq_true (limbs_val w0 w1 w2 w3)) Paid.nil))))) rfl rfl rfl rfl ha hi
  · cases h
def hp2 : CallH := withU 38 prS hp1
theorem hp2_ok : HOk Tryd.prog hp2 := hp1_ok.withU fun _ _ _ _ _ h ho => prS_ok h ho
end Go.Proofs.YtapficdphhfpnaaDoor
