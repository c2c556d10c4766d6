/- Layer 10: points as the program keeps them (X/Z, Y/Z, T = XY/Z): sums, multiples, what is written. Own work. -/
import Derived.Test.YthelmpjkkkhopaaGreatDoorZEoB
import Derived.Test.YthelmpjkkkhopaaGreatDoorZMyW
set_option linter.unusedSimpArgs false
set_option linter.unusedVariables false
set_option linter.unusedSectionVars false
namespace Go.Ed
section
variable {n : Nat} [NeZero n]
theorem ex_k (x1 y1 z1 x2 y2 z2 : Fin n) : (y1 * z1 + x1 * z1) * (y2 * z2 + x2 * z2) - (y1 * z1 - x1 * z1) * (y2 * z2 - x2 * z2) = (z1 + z1) * z2 * (x1 * y2 + y1 * x2):=by grind
theorem ey_k (x1 y1 z1 x2 y2 z2 : Fin n) : (y1 * z1 + x1 * z1) * (y2 * z2 + x2 * z2) + (y1 * z1 - x1 * z1) * (y2 * z2 - x2 * z2) = (z1 + z1) * z2 * (y1 * y2 + x1 * x2):=by grind
theorem eu_k (x1 y1 z1 x2 y2 z2 d : Fin n) : (z1 + z1) * z2 + (d + d) * (x1 * y1 * z1) * (x2 * y2 * z2) = (z1 + z1) * z2 * (1 + d * x1 * x2 * y1 * y2):=by grind
theorem ev_k (x1 y1 z1 x2 y2 z2 d : Fin n) : (z1 + z1) * z2 - (d + d) * (x1 * y1 * z1) * (x2 * y2 * z2) = (z1 + z1) * z2 * (1 - d * x1 * x2 * y1 * y2):=by grind
theorem ex_x (k a b s t : Fin n) : (k * (s * a)) * (k * b) = s * ((k * a) * (k * b)):=by grind
theorem ex_y (k a b t : Fin n) : (k * (t * b)) * (k * a) = t * ((k * a) * (k * b)):=by grind
theorem ex_t (k a b s t : Fin n) : (k * (s * a)) * (k * (t * b)) = s * t * ((k * a) * (k * b)):=by grind
def C.PT (_ : C n) (X Y Z T : Fin n) (P : Pt n) : Prop:=Z ≠ 0 ∧ X = P.x * Z ∧ Y = P.y * Z ∧ T = P.x * P.y * Z
theorem C.f4a (c : C n) {X1 Y1 Z1 T1 X2 Y2 Z2 T2 : Fin n} {P Q : Pt n} (hP : c.on P) (hQ : c.on Q) (h1 : c.PT X1 Y1 Z1 T1 P) (h2 : c.PT X2 Y2 Z2 T2 Q) :
  c.PT (((Y1 + X1) * (Y2 + X2) - (Y1 - X1) * (Y2 - X2)) * ((Z1 + Z1) * Z2 - (c.D + c.D) * T1 * T2)) (((Y1 + X1) * (Y2 + X2) + (Y1 - X1) * (Y2 - X2)) * ((Z1 + Z1) * Z2 + (c.D + c.D) * T1 * T2))
   (((Z1 + Z1) * Z2 + (c.D + c.D) * T1 * T2) * ((Z1 + Z1) * Z2 - (c.D + c.D) * T1 * T2)) (((Y1 + X1) * (Y2 + X2) - (Y1 - X1) * (Y2 - X2)) * ((Y1 + X1) * (Y2 + X2) + (Y1 - X1) * (Y2 - X2))) (c.add P Q):=by
 obtain ⟨k1,rfl,rfl,rfl⟩:=h1
 obtain ⟨k2,rfl,rfl,rfl⟩:=h2
 have sx:=c.sx hP hQ;have sy:=c.sy hP hQ
 have d1:=c.d1 hP hQ;have d2:=c.d2 hP hQ
 rw [ex_k,ey_k,eu_k,ev_k, ← sx, ← sy]
 have hk : (Z1 + Z1) * Z2 ≠ 0:=c.a1m (fun h=>c.a1m c.two k1 (by grind)) k2
 generalize (Z1 + Z1) * Z2 = k at *
 generalize 1 + c.D * P.x * Q.x * P.y * Q.y = a at *
 generalize 1 - c.D * P.x * Q.x * P.y * Q.y = b at *
 exact ⟨c.a1m (c.a1m hk d1) (c.a1m hk d2),ex_x _ _ _ _ 0,ex_y _ _ _ _,ex_t _ _ _ _ _⟩
theorem C.f4b (c : C n) {X Y Z T : Fin n} {P : Pt n} (h : c.PT X Y Z T P) : X * c.inv Z = P.x ∧ Y * c.inv Z = P.y:=by
 obtain ⟨hz,rfl,rfl,_⟩:=h
 have:=c.hinv Z hz
 exact ⟨by rw [Fin.mul_assoc,this,Fin.mul_one],by rw [Fin.mul_assoc,this,Fin.mul_one]⟩
theorem C.d3t (c : C n) {X Y Z T : Fin n} {P : Pt n} (h : c.PT X Y Z T P) : c.PT (0 - X) Y Z (0 - T) (c.neg P):=by
 obtain ⟨hz,rfl,rfl,rfl⟩:=h
 refine ⟨hz, ?_,rfl, ?_⟩
 ·show 0 - P.x * Z = -P.x * Z
  grind
 ·show 0 - P.x * P.y * Z = -P.x * P.y * Z
  grind
theorem C.PT_O (c : C n) (h1 : (1 : Fin n) ≠ 0) : c.PT 0 1 1 0 c.O:=⟨h1,by show (0 : Fin n) = 0 * 1;grind,by show (1 : Fin n) = 1 * 1;grind,by show (0 : Fin n) = 0 * 1 * 1;grind⟩
theorem C.f4c (c : C n) (h1 : (1 : Fin n) ≠ 0) (P : Pt n) : c.PT P.x P.y 1 (P.x * P.y) P:=⟨h1,(Fin.mul_one _).symm,(Fin.mul_one _).symm,(Fin.mul_one _).symm⟩
end
end Go.Ed
namespace Go.Mo
open Go.Ev Go.Wn Go.Ed
set_option maxRecDepth 100000
structure E4 where
 x : Int
 y : Int
 z : Int
 t : Int
def dI2 : Int:=16295367250680780974490674513165176452449235426866156013048779062215315747161
def eMi (p q : E4) : Int:=mI (sI p.y p.x) (sI q.y q.x)
def ePl (p q : E4) : Int:=mI (aI p.y p.x) (aI q.y q.x)
def eOn (p q : E4) : Int:=mI (aI p.z p.z) q.z
def eMo (p q : E4) : Int:=mI (mI dI2 p.t) q.t
def eX (p q : E4) : Int:=sI (ePl p q) (eMi p q)
def eY (p q : E4) : Int:=aI (ePl p q) (eMi p q)
def eU (p q : E4) : Int:=aI (eOn p q) (eMo p q)
def eV (p q : E4) : Int:=sI (eOn p q) (eMo p q)
def e3y (p q : E4) : E4:=⟨mI (eX p q) (eV p q),mI (eY p q) (eU p q),mI (eU p q) (eV p q),mI (eX p q) (eY p q)⟩
def E4.ok (p : E4) : Prop:=Go.Mo.ok p.x ∧ Go.Mo.ok p.y ∧ Go.Mo.ok p.z ∧ Go.Mo.ok p.t
def E4.R (p : E4) (P : Pt P25) : Prop:=p.ok ∧ cA.PT (ph p.x) (ph p.y) (ph p.z) (ph p.t) P
theorem d3u : ok dI2:=⟨by decide,by decide⟩
theorem f4d : ph dI2 = dA + dA:=by decide +kernel
theorem a7v (p q : E4) : (e3y p q).ok:=⟨a20 _ _,a20 _ _,a20 _ _,a20 _ _⟩
theorem c7c {p q : E4} (hp : p.ok) (hq : q.ok) : ph (eMi p q) = (ph p.y - ph p.x) * (ph q.y - ph q.x):=by
 unfold eMi;rw [e0l (a64 _ _) (a64 _ _),e6o hp.2.1 hp.1,e6o hq.2.1 hq.1]
theorem c7d {p q : E4} (hp : p.ok) (hq : q.ok) : ph (ePl p q) = (ph p.y + ph p.x) * (ph q.y + ph q.x):=by
 unfold ePl;rw [e0l (a95 _ _) (a95 _ _),e7j hp.2.1 hp.1,e7j hq.2.1 hq.1]
theorem c7e {p q : E4} (hp : p.ok) (hq : q.ok) : ph (eOn p q) = (ph p.z + ph p.z) * ph q.z:=by
 unfold eOn;rw [e0l (a95 _ _) hq.2.2.1,e7j hp.2.2.1 hp.2.2.1]
theorem c7f {p q : E4} (hp : p.ok) (hq : q.ok) : ph (eMo p q) = (dA + dA) * ph p.t * ph q.t:=by
 unfold eMo;rw [e0l (a20 _ _) hq.2.2.2,e0l d3u hp.2.2.2,f4d]
theorem c0s {p q : E4} {P Q : Pt P25} (hP : cA.on P) (hQ : cA.on Q) (hp : p.R P) (hq : q.R Q) : (e3y p q).R (cA.add P Q):=by
 refine ⟨a7v p q, ?_⟩
 have h:=cA.f4a hP hQ hp.2 hq.2
 have e1 : ph (eX p q) = (ph p.y + ph p.x) * (ph q.y + ph q.x) - (ph p.y - ph p.x) * (ph q.y - ph q.x):=by
  unfold eX;rw [e6o (show ok (ePl p q) from a20 _ _) (show ok (eMi p q) from a20 _ _),c7d hp.1 hq.1,c7c hp.1 hq.1]
 have e2 : ph (eY p q) = (ph p.y + ph p.x) * (ph q.y + ph q.x) + (ph p.y - ph p.x) * (ph q.y - ph q.x):=by
  unfold eY;rw [e7j (show ok (ePl p q) from a20 _ _) (show ok (eMi p q) from a20 _ _),c7d hp.1 hq.1,c7c hp.1 hq.1]
 have e3 : ph (eU p q) = (ph p.z + ph p.z) * ph q.z + (cA.D + cA.D) * ph p.t * ph q.t:=by
  unfold eU;rw [e7j (show ok (eOn p q) from a20 _ _) (show ok (eMo p q) from a20 _ _),c7e hp.1 hq.1,c7f hp.1 hq.1];rfl
 have e4 : ph (eV p q) = (ph p.z + ph p.z) * ph q.z - (cA.D + cA.D) * ph p.t * ph q.t:=by
  unfold eV;rw [e6o (show ok (eOn p q) from a20 _ _) (show ok (eMo p q) from a20 _ _),c7e hp.1 hq.1,c7f hp.1 hq.1];rfl
 rw [← e1, ← e2, ← e3, ← e4] at h
 have oX : ok (eX p q):=a64 _ _
 have oY : ok (eY p q):=a95 _ _
 have oU : ok (eU p q):=a95 _ _
 have oV : ok (eV p q):=a64 _ _
 show cA.PT (ph (mI (eX p q) (eV p q))) (ph (mI (eY p q) (eU p q))) (ph (mI (eU p q) (eV p q))) (ph (mI (eX p q) (eY p q))) (cA.add P Q)
 rw [e0l oX oV,e0l oY oU,e0l oU oV,e0l oX oY]
 exact h
def eO : E4:=⟨0,1,1,0⟩
theorem f2d : ph 0 = 0:=by decide +kernel
theorem f0v : ph 1 = 1:=by decide +kernel
theorem e7s : (1 : Fin P25) ≠ 0:=by decide +kernel
theorem eO_R : eO.R cA.O:=⟨⟨e7k,e4p,e4p,e7k⟩,by
 show cA.PT (ph 0) (ph 1) (ph 1) (ph 0) cA.O
 rw [f2d,f0v]
 exact cA.PT_O e7s⟩
def ePr (N : Int) (p : E4) : Nat → E4
 | 0=>eO
 | j + 1=>if N / 2 ^ (254 - j) % 2 = 1 then e3y (e3y (ePr N p j) (ePr N p j)) p else e3y (ePr N p j) (ePr N p j)
theorem d3v {p : E4} {P : Pt P25} (hP : cA.on P) (hp : p.R P) {N : Nat} (hN : N < 2 ^ 255) : ∀ j,j ≤ 255 → (ePr (N : Int) p j).R (cA.mul (N / 2 ^ (255 - j)) P)
 | 0,_=>by rw [Nat.sub_zero,Nat.div_eq_of_lt hN];exact eO_R
 | j + 1,hj=>by
  have ih:=d3v hP hp hN j (by omega)
  have e : 255 - j = (254 - j) + 1:=by omega
  rw [e,Nat.pow_succ, ← Nat.div_div_eq_div_mul] at ih
  have e2 : 255 - (j + 1) = 254 - j:=by omega
  rw [e2]
  have eb : ((N : Int) / 2 ^ (254 - j) % 2) = ((N / 2 ^ (254 - j) % 2 : Nat) : Int):=by
   rw [Int.natCast_emod,Int.natCast_ediv,Int.natCast_pow];rfl
  have hd : (e3y (ePr (N : Int) p j) (ePr (N : Int) p j)).R (cA.mul (N / 2 ^ (254 - j) / 2 + N / 2 ^ (254 - j) / 2) P):=by
   rw [cA.add_mul hP]
   exact c0s (cA.a21 hP _) (cA.a21 hP _) ih ih
  show (if (N : Int) / 2 ^ (254 - j) % 2 = 1 then e3y (e3y (ePr N p j) (ePr N p j)) p else e3y (ePr N p j) (ePr N p j)).R _
  rw [eb]
  generalize N / 2 ^ (254 - j) = M at *
  by_cases h : M % 2 = 1
  ·rw [if_pos (by omega)]
   have h2 : M = (M / 2 + M / 2) + 1:=by omega
   rw [h2]
   exact c0s (cA.a21 hP _) hP hd hp
  ·rw [if_neg (by omega)]
   have h2 : M = M / 2 + M / 2:=by omega
   rw [h2]
   exact hd
def e4q (N : Int) (p : E4) : E4:=ePr N p 255
theorem c0t {p : E4} {P : Pt P25} (hP : cA.on P) (hp : p.R P) {N : Nat} (hN : N < 2 ^ 255) : (e4q (N : Int) p).R (cA.mul N P):=by
 have:=d3v hP hp hN 255 (by omega)
 rwa [Nat.sub_self,Nat.pow_zero,Nat.div_one] at this
def ptI (P : Pt P25) : Int:=(P.y.val : Int) + 57896044618658097711785492504343953926634992332820282019728792003956564819968 * ((P.x.val : Int) % 2)
def eWx (p : E4) : Int:=mI p.x (pI p.z)
def eWy (p : E4) : Int:=mI p.y (pI p.z)
theorem a65 (x y : Int) : 0 ≤ mI x y ∧ mI x y < (P25 : Int):=by
 unfold mI
 rw [b4u]
 exact ⟨Int.emod_nonneg _ (by have:=b96;omega),Int.emod_lt_of_pos _ b96⟩
theorem b97 {x : Int} (h : 0 ≤ x ∧ x < (P25 : Int)) : ((ph x).val : Int) = x:=by rw [a63,Int.emod_eq_of_lt h.1 h.2]
theorem d3w (z : Fin P25) : cA.inv z = fp z pE:=rfl
theorem c0u (z : Int) : ok (pI z):=b77 _
theorem f4e {p : E4} {P : Pt P25} (hp : p.R P) : eWx p = (P.x.val : Int) ∧ eWy p = (P.y.val : Int):=by
 obtain ⟨⟨o1,o2,o3,_⟩,h⟩:=hp
 obtain ⟨h1,h2⟩:=cA.f4b h
 rw [d3w, ← f3y o3] at h1 h2
 constructor
 ·rw [← h1, ← e0l o1 (c0u _)];exact (b97 (a65 _ _)).symm
 ·rw [← h2, ← e0l o2 (c0u _)];exact (b97 (a65 _ _)).symm
def eB : E4:=⟨15112221349535400772501151409588531511454012693041857206046113283949847762202,46316835694926478169428394003475163141307993866256225615783033603165251855960,1,46827403850823179245072216630277197565144205554125654976674165829533817101731⟩
theorem f4f : eB.R ptB:=⟨⟨⟨by decide,by decide⟩,⟨by decide,by decide⟩,e4p,⟨by decide,by decide⟩⟩,by
 refine ⟨by decide +kernel,by decide +kernel,by decide +kernel,by decide +kernel⟩⟩
end Go.Mo
namespace Go.Mo
open Go.Ev Go.Wn Go.Ed
set_option maxRecDepth 100000
def d8q : Int:=57896044618658097711785492504343953926634992332820282019728792003956564819968
def dI : Int:=37095705934669439343138083508754565189542113879843219016388785533085940283555
def iI : Int:=19681161376707505956807079304988542015446066515923890162744021073123829784752
def fXX (y : Int) : Int:=mI (sI (mI y y) 1) (pI (aI 1 (mI dI (mI y y))))
def fR (w : Int) : Int:=(vl w ^ p8) % val PL
def fX0 (y : Int) : Int:=fR (fXX y)
def fX (y : Int) : Int:=if mI (fX0 y) (fX0 y) = fXX y then fX0 y else mI (fX0 y) iI
def fOk (y : Int) : Bool:=decide (mI (fX y) (fX y) = fXX y)
def ryB (y o : Int) : Bool:=decide (y < (P25 : Int)) && (fOk y && !(decide (fX y = 0) && decide (o = 1)))
def ryX (y o : Int) : Int:=if (o + fX y) % 2 = 1 then sI 0 (fX y) else fX y
def ryP (y o : Int) : E4:=⟨ryX y o,y,1,mI (ryX y o) y⟩
def inP (x : Int) : Prop:=0 ≤ x ∧ x < (P25 : Int)
theorem a30 {x : Int} (h : inP x) : ok x:=by
 have h2:=h.2
 have h3 : (P25 : Int) < 115792089237316195423570985008687907853269984665640564039457584007913129639936:=by decide
 exact ⟨h.1,by omega⟩
theorem a2h (x y : Int) : inP (mI x y):=a65 x y
theorem b07 (x : Int) : inP (x % val PL):=by rw [b4u];exact ⟨Int.emod_nonneg _ (by have:=b96;omega),Int.emod_lt_of_pos _ b96⟩
theorem d3x : ok dI:=⟨by decide,by decide⟩
theorem ph_d : ph dI = dA:=by decide +kernel
theorem a66 (y : Int) : inP (fX y):=by
 unfold fX
 split
 ·exact b07 _
 ·exact a2h _ _
theorem c0v (y : Int) : inP (fXX y):=a2h _ _
theorem f4g {y : Int} (hy : ok y) : ph (fXX y) = (ph y * ph y - 1) * cA.inv (1 + dA * (ph y * ph y)):=by
 unfold fXX
 rw [e0l (a64 _ _) (c0u _),e6o (a20 _ _) e4p,e0l hy hy,f3y (a95 _ _),e7j e4p (a20 _ _),e0l d3x (a20 _ _),e0l hy hy,f0v,ph_d]
 rfl
theorem dyA (y : Fin P25) : 1 + dA * (y * y) ≠ 0:=by
 have:=cA.dy (y:=y)
 rwa [Fin.mul_assoc] at this
theorem fits {x y : Fin P25} : x * x = (y * y - 1) * cA.inv (1 + dA * (y * y)) ↔ cA.on ⟨x,y⟩:=by
 have hd:=dyA y
 have hi:=cA.hinv _ hd
 unfold C.on
 show _ ↔ y * y = x * x + 1 + dA * x * x * y * y
 generalize cA.inv (1 + dA * (y * y)) = v at *
 generalize dA = d at *
 constructor
 ·intro h;grind
 ·intro h
  have : (y * y - 1) = x * x * (1 + d * (y * y)):=by grind
  rw [this,Fin.mul_assoc,hi,Fin.mul_one]
theorem c0w {x : Int} (h : ok x) : ph (sI 0 x) = - ph x:=by
 rw [e6o e7k h,f2d]
 grind
theorem sI_0 {x : Int} (h : inP x) : sI 0 x = if x = 0 then 0 else (P25 : Int) - x:=by
 unfold sI
 rw [a2m e7k,a2m (a30 h),b4u]
 have hp:=b96
 unfold inP at h
 split
 ·rename_i e;subst e;exact Int.emod_eq_of_lt (by omega) (by omega)
 ·rename_i e
  have : (0 - x) % (P25 : Int) = (0 - x + (P25 : Int)) % (P25 : Int):=by rw [Int.add_emod_right]
  rw [this,Int.emod_eq_of_lt (by omega) (by omega)]
  omega
theorem f4h : (P25 : Int) % 2 = 1:=by decide
theorem b08 (y o : Int) : inP (ryX y o):=by
 unfold ryX
 split
 ·exact b07 _
 ·exact a66 y
theorem c9p {y o : Int} (ho : o = 0 ∨ o = 1) (h : ¬ (fX y = 0 ∧ o = 1)) : ryX y o % 2 = o:=by
 have hx:=a66 y
 have h2:=f4h
 unfold ryX
 rw [sI_0 hx]
 unfold inP at hx
 generalize fX y = x at *
 generalize (P25 : Int) = p at *
 rcases ho with rfl | rfl <;> split <;> (try split) <;> omega
theorem d3y (y o : Int) : ph (ryX y o) = ph (fX y) ∨ ph (ryX y o) = - ph (fX y):=by
 unfold ryX
 split
 ·exact .inr (c0w (a30 (a66 y)))
 ·exact .inl rfl
def ryQ (y o : Int) : Pt P25:=⟨ph (ryX y o),ph y⟩
theorem f4i {y o : Int} (hy : inP y) : (ryP y o).R (ryQ y o):=by
 have oy:=a30 hy
 have ox:=a30 (b08 y o)
 refine ⟨⟨ox,oy,e4p,a20 _ _⟩, ?_⟩
 show cA.PT (ph (ryX y o)) (ph y) (ph 1) (ph (mI (ryX y o) y)) _
 rw [e0l ox oy,f0v]
 exact cA.f4c e7s ⟨ph (ryX y o),ph y⟩
theorem d3z (x : Fin P25) : -x * -x = x * x:=by grind
theorem c0x {y o : Int} : ryB y o = true ↔ y < (P25 : Int) ∧ mI (fX y) (fX y) = fXX y ∧ ¬ (fX y = 0 ∧ o = 1):=by
 unfold ryB fOk
 simp only [Bool.and_eq_true,decide_eq_true_eq,Bool.not_eq_true',Bool.and_eq_false_iff,decide_eq_false_iff_not]
 constructor <;> rintro ⟨a,b,c⟩ <;> refine ⟨a,b, ?_⟩
 ·rintro ⟨h1,h2⟩
  rcases c with h | h
  ·exact h h1
  ·exact h h2
 ·by_cases h1 : fX y = 0
  ·exact .inr fun h2=>c ⟨h1,h2⟩
  ·exact .inl h1
theorem c4d {y o : Int} (hy : 0 ≤ y) (ho : o = 0 ∨ o = 1) (h : ryB y o = true) : cA.on (ryQ y o) ∧ ptI (ryQ y o) = y + d8q * o:=by
 obtain ⟨h1,h2,h3⟩:=c0x.1 h
 have iy : inP y:=⟨hy,h1⟩
 constructor
 ·refine fits.1 ?_
  show ph (ryX y o) * ph (ryX y o) = (ph y * ph y - 1) * cA.inv (1 + dA * (ph y * ph y))
  have e : ph (ryX y o) * ph (ryX y o) = ph (fX y) * ph (fX y):=by
   rcases d3y y o with e | e
   ·rw [e]
   ·rw [e,d3z]
  rw [e, ← f4g (a30 iy), ← h2,e0l (a30 (a66 y)) (a30 (a66 y))]
 ·show ((ph y).val : Int) + 57896044618658097711785492504343953926634992332820282019728792003956564819968 * (((ph (ryX y o)).val : Int) % 2) = y + d8q * o
  rw [b97 iy,b97 (b08 y o),c9p ho h3]
  rfl
end Go.Mo
namespace Go.Mo
open Go.Ev Go.Wn
theorem b79 (x y : Int) : e0h .u64 x y = ((bv x &&& ~~~ bv y).toNat : Int):=by
 have h:=b1a (bv x &&& ~~~ bv y)
 unfold W at h
 exact e2n h
theorem a7w {x : Int} (h : W x) : e0h .u64 x 7 = x - x % 8:=by
 rw [b79]
 have hb:=e7o h
 have e : (bv x &&& ~~~ bv 7) + (bv x &&& bv 7) = bv x:=by
  rw [BitVec.add_eq_or_of_and_eq_zero]
  ·ext i hi;simp;cases (bv x)[i] <;> simp
  ·ext i hi;simp only [BitVec.getElem_and,BitVec.getElem_not,BitVec.getElem_zero];cases (bv x)[i] <;> cases (bv 7)[i] <;> rfl
 have e2 : (bv x &&& bv 7).toNat = (bv x).toNat % 8:=by
  rw [BitVec.toNat_and,show (bv 7).toNat = 2 ^ 3 - 1 by decide,Nat.and_two_pow_sub_one_eq_mod]
 have e3 : (bv x &&& ~~~ bv 7).toNat ≤ (bv x).toNat:=by rw [BitVec.toNat_and];exact Nat.and_le_left
 have e4:=congrArg BitVec.toNat e
 rw [BitVec.toNat_add,e2] at e4
 have:=(bv x).isLt
 unfold W at h
 omega
theorem a7x {x : Int} (h : W x) : e0h .u64 x 9223372036854775808 = x % 9223372036854775808:=by
 rw [b79,BitVec.toNat_and,show (~~~ bv 9223372036854775808).toNat = 2 ^ 63 - 1 by decide,Nat.and_two_pow_sub_one_eq_mod]
 have hb:=e7o h
 unfold W at h
 omega
theorem c0y {y : Int} (h : 0 ≤ y ∧ y < 9223372036854775808) : ior .u64 y 4611686018427387904 = y % 4611686018427387904 + 4611686018427387904:=by
 by_cases hy : y < 4611686018427387904
 ·rw [(a1k (x:=4611686018427387904) (y:=y) (s:=62) (A:=1) (by omega) (by decide) h.1 (by simp only [Int.reducePow];omega) (by omega)).2]
  omega
 ·obtain ⟨Y,rfl⟩:=Int.eq_ofNat_of_zero_le h.1
  obtain ⟨r,rfl⟩ : ∃ r,Y = 2 ^ 62 + r:=⟨Y - 2 ^ 62,by omega⟩
  have hr : r < 2 ^ 62:=by omega
  have e : 2 ^ 62 + r = (2 ^ 62 ||| r):=by
   have:=Nat.shiftLeft_add_eq_or_of_lt hr 1
   simpa [Nat.shiftLeft_eq] using this
  have key : (2 ^ 62 + r) ||| 2 ^ 62 = 2 ^ 62 + r:=by rw [e,Nat.or_comm, ← Nat.or_assoc,Nat.or_self]
  have hb1:=e7o (x:=((2 ^ 62 + r : Nat) : Int)) (by unfold W;omega)
  have hb2 : (bv 4611686018427387904).toNat = 2 ^ 62:=by decide
  unfold ior
  show IntKind.u64.wrap (((bv ((2 ^ 62 + r : Nat) : Int) ||| bv 4611686018427387904).toNat : Nat) : Int) = _
  rw [BitVec.toNat_or,hb2,show (bv ((2 ^ 62 + r : Nat) : Int)).toNat = 2 ^ 62 + r by omega,key,e2n (by omega)]
  omega
end Go.Mo
