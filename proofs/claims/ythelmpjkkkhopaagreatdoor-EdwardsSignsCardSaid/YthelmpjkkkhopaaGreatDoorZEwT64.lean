/- For layer 10: sums of points as fractions. Own work. -/
import Derived.Test.YthelmpjkkkhopaaGreatDoorZEoB
import Derived.Test.YthelmpjkkkhopaaGreatDoorZEwS
import Derived.Test.YthelmpjkkkhopaaGreatDoorZMrA
set_option linter.unusedSimpArgs false
set_option linter.unusedVariables false
set_option linter.unusedSectionVars false
namespace Go.Ed
section
variable {n : Nat} [NeZero n]
def C.PR (_ : C n) (X Y Z : Fin n) (P : Pt n) : Prop:=Z ≠ 0 ∧ X = P.x * Z ∧ Y = P.y * Z
theorem prx (x1 y1 z1 x2 y2 z2 d s : Fin n) (h : s * (1 + d * x1 * x2 * y1 * y2) = x1 * y2 + y1 * x2) :
  (z1 * z2) * (((z1 * z2) * (z1 * z2) - d * ((x1 * z1 * (x2 * z2)) * (y1 * z1 * (y2 * z2)))) * ((x1 * z1 + y1 * z1) * (x2 * z2 + y2 * z2) - x1 * z1 * (x2 * z2) - y1 * z1 * (y2 * z2))) =
   s * (((z1 * z2) * (z1 * z2) - d * ((x1 * z1 * (x2 * z2)) * (y1 * z1 * (y2 * z2)))) * ((z1 * z2) * (z1 * z2) + d * ((x1 * z1 * (x2 * z2)) * (y1 * z1 * (y2 * z2))))):=by
 have e1 : (x1 * z1 + y1 * z1) * (x2 * z2 + y2 * z2) - x1 * z1 * (x2 * z2) - y1 * z1 * (y2 * z2) = (z1 * z2) * (x1 * y2 + y1 * x2):=by grind
 have e2 : (z1 * z2) * (z1 * z2) + d * ((x1 * z1 * (x2 * z2)) * (y1 * z1 * (y2 * z2))) = (z1 * z2) * (z1 * z2) * (1 + d * x1 * x2 * y1 * y2):=by grind
 rw [e1,e2, ← h]
 generalize (z1 * z2) * (z1 * z2) - d * ((x1 * z1 * (x2 * z2)) * (y1 * z1 * (y2 * z2))) = f
 generalize 1 + d * x1 * x2 * y1 * y2 = q
 grind
theorem pry (x1 y1 z1 x2 y2 z2 d s : Fin n) (h : s * (1 - d * x1 * x2 * y1 * y2) = y1 * y2 + x1 * x2) :
  (z1 * z2) * (((z1 * z2) * (z1 * z2) + d * ((x1 * z1 * (x2 * z2)) * (y1 * z1 * (y2 * z2)))) * (y1 * z1 * (y2 * z2) + x1 * z1 * (x2 * z2))) =
   s * (((z1 * z2) * (z1 * z2) - d * ((x1 * z1 * (x2 * z2)) * (y1 * z1 * (y2 * z2)))) * ((z1 * z2) * (z1 * z2) + d * ((x1 * z1 * (x2 * z2)) * (y1 * z1 * (y2 * z2))))):=by
 have e1 : y1 * z1 * (y2 * z2) + x1 * z1 * (x2 * z2) = (z1 * z2) * (y1 * y2 + x1 * x2):=by grind
 have e2 : (z1 * z2) * (z1 * z2) - d * ((x1 * z1 * (x2 * z2)) * (y1 * z1 * (y2 * z2))) = (z1 * z2) * (z1 * z2) * (1 - d * x1 * x2 * y1 * y2):=by grind
 rw [e1,e2, ← h]
 generalize (z1 * z2) * (z1 * z2) + d * ((x1 * z1 * (x2 * z2)) * (y1 * z1 * (y2 * z2))) = g
 generalize 1 - d * x1 * x2 * y1 * y2 = q
 grind
theorem C.d5m (c : C n) {X1 Y1 Z1 X2 Y2 Z2 : Fin n} {P Q : Pt n} (hP : c.on P) (hQ : c.on Q) (h1 : c.PR X1 Y1 Z1 P) (h2 : c.PR X2 Y2 Z2 Q) :
  c.PR ((Z1 * Z2) * (((Z1 * Z2) * (Z1 * Z2) - c.D * ((X1 * X2) * (Y1 * Y2))) * ((X1 + Y1) * (X2 + Y2) - X1 * X2 - Y1 * Y2))) ((Z1 * Z2) * (((Z1 * Z2) * (Z1 * Z2) + c.D * ((X1 * X2) * (Y1 * Y2))) * (Y1 * Y2 + X1 * X2)))
   (((Z1 * Z2) * (Z1 * Z2) - c.D * ((X1 * X2) * (Y1 * Y2))) * ((Z1 * Z2) * (Z1 * Z2) + c.D * ((X1 * X2) * (Y1 * Y2)))) (c.add P Q):=by
 obtain ⟨k1,rfl,rfl⟩:=h1
 obtain ⟨k2,rfl,rfl⟩:=h2
 have sx:=c.sx hP hQ;have sy:=c.sy hP hQ
 have d1:=c.d1 hP hQ;have d2:=c.d2 hP hQ
 refine ⟨?_,prx _ _ _ _ _ _ _ _ sx,pry _ _ _ _ _ _ _ _ sy⟩
 have e1 : (Z1 * Z2) * (Z1 * Z2) - c.D * ((P.x * Z1 * (Q.x * Z2)) * (P.y * Z1 * (Q.y * Z2))) = ((Z1 * Z2) * (Z1 * Z2)) * (1 - c.D * P.x * Q.x * P.y * Q.y):=by
  clear sx sy d1 d2 hP hQ
  grind
 have e2 : (Z1 * Z2) * (Z1 * Z2) + c.D * ((P.x * Z1 * (Q.x * Z2)) * (P.y * Z1 * (Q.y * Z2))) = ((Z1 * Z2) * (Z1 * Z2)) * (1 + c.D * P.x * Q.x * P.y * Q.y):=by
  clear sx sy d1 d2 hP hQ
  grind
 rw [e1,e2]
 have z:=c.a1m (c.a1m k1 k2) (c.a1m k1 k2)
 exact c.a1m (c.a1m z d2) (c.a1m z d1)
theorem C.f5z (c : C n) {X Y Z : Fin n} {P : Pt n} (h : c.PR X Y Z P) : X * c.inv Z = P.x ∧ Y * c.inv Z = P.y:=by
 obtain ⟨hz,rfl,rfl⟩:=h
 have:=c.hinv Z hz
 constructor
 ·rw [Fin.mul_assoc,this,Fin.mul_one]
 ·rw [Fin.mul_assoc,this,Fin.mul_one]
end
end Go.Ed
namespace Go.Mo
open Go.Ev Go.Wn Go.Ed
set_option maxRecDepth 100000
structure E3 where
 x : Int
 y : Int
 z : Int
def fZ (p q : E3) : Int:=mI p.z q.z
def fA (p q : E3) : Int:=mI p.x q.x
def fB (p q : E3) : Int:=mI p.y q.y
def fE (p q : E3) : Int:=mI dI (mI (fA p q) (fB p q))
def fF (p q : E3) : Int:=sI (mI (fZ p q) (fZ p q)) (fE p q)
def fG (p q : E3) : Int:=aI (mI (fZ p q) (fZ p q)) (fE p q)
def fM (p q : E3) : Int:=mI (aI p.x p.y) (aI q.x q.y)
def fC (p q : E3) : Int:=sI (sI (fM p q) (fA p q)) (fB p q)
def e7n (p q : E3) : E3:=⟨mI (fZ p q) (mI (fF p q) (fC p q)),mI (fZ p q) (mI (fG p q) (aI (fB p q) (fA p q))),mI (fF p q) (fG p q)⟩
def E3.ok (p : E3) : Prop:=Go.Mo.ok p.x ∧ Go.Mo.ok p.y ∧ Go.Mo.ok p.z
def E3.R (p : E3) (P : Pt P25) : Prop:=p.ok ∧ cA.PR (ph p.x) (ph p.y) (ph p.z) P
theorem a8z (p q : E3) : (e7n p q).ok:=⟨a20 _ _,a20 _ _,a20 _ _⟩
theorem c2f {p q : E3} {P Q : Pt P25} (hP : cA.on P) (hQ : cA.on Q) (hp : p.R P) (hq : q.R Q) : (e7n p q).R (cA.add P Q):=by
 refine ⟨a8z p q, ?_⟩
 have h:=cA.d5m hP hQ hp.2 hq.2
 obtain ⟨p1,p2,p3⟩:=hp.1
 obtain ⟨q1,q2,q3⟩:=hq.1
 have oZ : ok (fZ p q):=a20 _ _
 have oA : ok (fA p q):=a20 _ _
 have oB : ok (fB p q):=a20 _ _
 have oE : ok (fE p q):=a20 _ _
 have oF : ok (fF p q):=a64 _ _
 have oG : ok (fG p q):=a95 _ _
 have oC : ok (fC p q):=a64 _ _
 have oM : ok (fM p q):=a20 _ _
 have eZ : ph (fZ p q) = ph p.z * ph q.z:=e0l p3 q3
 have eA : ph (fA p q) = ph p.x * ph q.x:=e0l p1 q1
 have eB : ph (fB p q) = ph p.y * ph q.y:=e0l p2 q2
 have eE : ph (fE p q) = cA.D * (ph p.x * ph q.x * (ph p.y * ph q.y)):=by
  unfold fE;rw [e0l d3x (a20 _ _),e0l oA oB,eA,eB,ph_d];rfl
 have eF : ph (fF p q) = ph p.z * ph q.z * (ph p.z * ph q.z) - cA.D * (ph p.x * ph q.x * (ph p.y * ph q.y)):=by
  unfold fF;rw [e6o (a20 _ _) oE,e0l oZ oZ,eZ,eE]
 have eG : ph (fG p q) = ph p.z * ph q.z * (ph p.z * ph q.z) + cA.D * (ph p.x * ph q.x * (ph p.y * ph q.y)):=by
  unfold fG;rw [e7j (a20 _ _) oE,e0l oZ oZ,eZ,eE]
 have eM : ph (fM p q) = (ph p.x + ph p.y) * (ph q.x + ph q.y):=by
  unfold fM;rw [e0l (a95 _ _) (a95 _ _),e7j p1 p2,e7j q1 q2]
 have eC : ph (fC p q) = (ph p.x + ph p.y) * (ph q.x + ph q.y) - ph p.x * ph q.x - ph p.y * ph q.y:=by
  unfold fC;rw [e6o (a64 _ _) oB,e6o oM oA,eM,eA,eB]
 show cA.PR (ph (mI (fZ p q) (mI (fF p q) (fC p q)))) (ph (mI (fZ p q) (mI (fG p q) (aI (fB p q) (fA p q))))) (ph (mI (fF p q) (fG p q))) _
 rw [e0l oZ (a20 _ _),e0l oF oC,e0l oZ (a20 _ _),e0l oG (a95 _ _),e7j oB oA,e0l oF oG,eZ,eF,eG,eC,eA,eB]
 exact h
def f1 : E3:=⟨0,1,1⟩
theorem f1_R : f1.R cA.O:=⟨⟨e7k,e4p,e4p⟩,by
 show cA.PR (ph 0) (ph 1) (ph 1) cA.O
 rw [f2d,f0v]
 exact ⟨e7s,by show (0 : Fin P25) = 0 * 1;decide +kernel,by show (1 : Fin P25) = 1 * 1;decide +kernel⟩⟩
def fTa (p : E3) : Nat → E3
 | 0=>p
 | j + 1=>e7n (fTa p j) (fTa p j)
def fTr (N : Int) (p : E3) : Nat → E3
 | 0=>f1
 | j + 1=>if N / 2 ^ j % 2 = 1 then e7n (fTr N p j) (fTa p j) else fTr N p j
theorem d1i {p : E3} {P : Pt P25} (hP : cA.on P) (hp : p.R P) : ∀ j,(fTa p j).R (cA.mul (2 ^ j) P)
 | 0=>by rw [Nat.pow_zero,cA.mul_one];exact hp
 | j + 1=>by
  rw [Nat.pow_succ,Nat.mul_two,cA.add_mul hP]
  exact c2f (cA.a21 hP _) (cA.a21 hP _) (d1i hP hp j) (d1i hP hp j)
theorem d5n {p : E3} {P : Pt P25} (hP : cA.on P) (hp : p.R P) (N : Nat) : ∀ j,(fTr (N : Int) p j).R (cA.mul (N % 2 ^ j) P)
 | 0=>by rw [Nat.pow_zero,Nat.mod_one];exact f1_R
 | j + 1=>by
  have ih:=d5n hP hp N j
  have eb : ((N : Int) / 2 ^ j % 2) = ((N / 2 ^ j % 2 : Nat) : Int):=by
   rw [Int.natCast_emod,Int.natCast_ediv,Int.natCast_pow];rfl
  have em : N % 2 ^ (j + 1) = N % 2 ^ j + 2 ^ j * (N / 2 ^ j % 2):=by rw [Nat.pow_succ,Nat.mod_mul]
  show (if (N : Int) / 2 ^ j % 2 = 1 then e7n (fTr N p j) (fTa p j) else fTr N p j).R _
  rw [eb,em]
  by_cases h : N / 2 ^ j % 2 = 1
  ·rw [if_pos (by omega),h,Nat.mul_one,cA.add_mul hP]
   exact c2f (cA.a21 hP _) (cA.a21 hP _) ih (d1i hP hp j)
  ·rw [if_neg (by omega),show N / 2 ^ j % 2 = 0 by omega,Nat.mul_zero,Nat.add_zero]
   exact ih
def fMul (N : Int) (p : E3) : E3:=fTr N p 256
theorem c2g {p : E3} {P : Pt P25} (hP : cA.on P) (hp : p.R P) {N : Nat} (hN : N < 2 ^ 256) : (fMul (N : Int) p).R (cA.mul N P):=by
 have:=d5n hP hp N 256
 rwa [Nat.mod_eq_of_lt hN] at this
def e3L (e : E3) : List Int:=limbs e.x ++ limbs e.y ++ limbs e.z
def e3V (l : List Int) : E3:=⟨val (l.take 4),val ((l.drop 4).take 4),val (l.drop 8)⟩
theorem b0w {e : E3} (h : e.ok) : e3V (e3L e) = e:=by
 show (⟨vl e.x,vl e.y,vl e.z⟩ : E3) = e
 rw [a2m h.1,a2m h.2.1,a2m h.2.2]
def fW (p : E3) : Int:=mI p.y (pI p.z) + d8q * (mI p.x (pI p.z) % 2)
theorem d5o {p : E3} {P : Pt P25} (h : p.R P) : fW p = ptI P:=by
 obtain ⟨⟨o1,o2,o3⟩,h⟩:=h
 obtain ⟨h1,h2⟩:=cA.f5z h
 rw [d3w, ← f3y o3] at h1 h2
 have e1 : mI p.x (pI p.z) = (P.x.val : Int):=by rw [← h1, ← e0l o1 (c0u _)];exact (b97 (a65 _ _)).symm
 have e2 : mI p.y (pI p.z) = (P.y.val : Int):=by rw [← h2, ← e0l o2 (c0u _)];exact (b97 (a65 _ _)).symm
 unfold fW ptI
 rw [e1,e2]
 rfl
end Go.Mo
namespace Go.Proofs.YthelmpjkkkhopaaGreatDoor
open Go.Ev Go.Wn Go.Mo
set_option maxRecDepth 100000
def ltP (x : Int) : Bool:=decide (val (limbs x) < pN)
theorem a7k {x : Int} (h : inP x) : ltP x = true:=decide_eq_true (by rw [d1f h];exact h.2)
theorem d1j (p q : E3) : d92 0 ((d8a Tryz.prog qn (deep Tryz.prog qn ht3 100 4) (fun _ _=>none) 200 42 (d7z 0 [.pl (.ints .u64 12 (e3L p)), .pl (.ints .u64 12 (e3L q)), .pl (.ints .u64 4 dL)]) (d87 [.pl (.ints .u64 12 (e3L p)), .pl (.ints .u64 12 (e3L q)), .pl (.ints .u64 4 dL)])).go []) =
  some ([ltP (mI (fZ p q) (fZ p q)),ltP (fE p q),ltP (fM p q),ltP (fA p q),ltP (sI (fM p q) (fA p q)),ltP (fB p q)], .ints .u64 12 (e3L (e7n p q)),some none):=by kernel_rfl
theorem twelve {l : List Int} (h : l.length = 12) : ∃ x0 x1 x2 x3 x4 x5 x6 x7 x8 x9 xa xb,l = [x0,x1,x2,x3,x4,x5,x6,x7,x8,x9,xa,xb]:=by
 match l,h with
 | [x0,x1,x2,x3,x4,x5,x6,x7,x8,x9,xa,xb],_=>exact ⟨x0,x1,x2,x3,x4,x5,x6,x7,x8,x9,xa,xb,rfl⟩
theorem b7x {ρ : Nat → d8c} {N : Nat → Prop} {l : List Int} {v : Value} (h : Rep ρ N (.ints .u64 12 l) v) : e3L (e3V l) = l:=by
 cases h with
 | ints _ _ _ hn hr =>
  obtain ⟨x0,x1,x2,x3,x4,x5,x6,x7,x8,x9,xa,xb,rfl⟩:=twelve hn
  simp only [List.forall_mem_cons,List.not_mem_nil,false_implies,implies_true,and_true] at hr
  obtain ⟨k0,k1,k2,k3,k4,k5,k6,k7,k8,k9,ka,kb⟩:=hr
  have e0:=a0w (a1d k0) (a1d k1) (a1d k2) (a1d k3)
  have e1:=a0w (a1d k4) (a1d k5) (a1d k6) (a1d k7)
  have e2:=a0w (a1d k8) (a1d k9) (a1d ka) (a1d kb)
  unfold e3L e3V
  simp only [List.take_succ_cons,List.take_zero,List.drop_succ_cons,List.drop_zero]
  rw [e0,e1,e2]
  rfl
def plS : List V → E (AV × Mem)
 | [.pl (.ints .u64 12 p), .pl (.ints .u64 12 q), .pl (.ints .u64 4 d)]=>some ([decide (d = dL)],(.ints .u64 12 (e3L (e7n (e3V p) (e3V q))),[]))
 | _=>none
theorem f6a {xs : List V} {o : List Bool} {v : AV} {bs : Mem} (h : plS xs = some (o,(v,bs))) (ho : d7x o) : d7y Tryz.prog 42 xs v bs:=by
 unfold plS at h
 split at h
 ·rename_i p q d
  cases h
  obtain rfl:=f9c (ho _ (f9b ..))
  intro ρ vs w ha hi
  have h2:=ha
  cases h2 with
  | cons _ _ _ _ r1 h2=>cases h2 with
   | cons _ _ _ _ r2 h2 =>
    have e:=d1j (e3V p) (e3V q)
    rw [b7x r1,b7x r2,a7k (x:=mI (fZ (e3V p) (e3V q)) (fZ (e3V p) (e3V q))) (a2h _ _),a7k (x:=fE (e3V p) (e3V q)) (a2h _ _),a7k (x:=fM (e3V p) (e3V q)) (a2h _ _),a7k (x:=fA (e3V p) (e3V q)) (a2h _ _),a7k (x:=sI (fM (e3V p) (e3V q)) (fA (e3V p) (e3V q))) (b07 _),a7k (x:=fB (e3V p) (e3V q)) (a2h _ _)] at e
    exact a0a mixed d7w (c8a.deep mixed d7w 100 4) (lo1 _) [] 0 e (List.all_eq_true.1 rfl) rfl rfl rfl rfl ha hi
 ·cases h
def ht4 : d82:=d84 42 plS ht3
theorem c2h : HOk Tryz.prog ht4:=c8a.d84 fun _ _ _ _ h ho=>f6a h ho
structure TmS where
 n : List Int
 a : List Int
 r : List Int
 i : Int
def e8t : List Nat:=[2,3,4,5,6,7]
def tmV (s : TmS) : List AV:=[.ptr false 2 0, .ptr false 3 0, .ptr false 4 0, .ptr false 5 0, .ptr false 6 0, .int true .i64 s.i]
def tmM (s : TmS) : Mem:=[none,none,some ⟨true, .ints .u64 (some 4) s.n⟩,some ⟨true, .ints .u64 (some 12) s.a⟩,some ⟨true, .ints .u64 (some 12) Z12⟩,some ⟨true, .ints .u64 (some 4) dL⟩,some ⟨true, .ints .u64 (some 12) s.r⟩]
def fs (p q : List Int) : List Int:=e3L (e7n (e3V p) (e3V q))
theorem tm_1 (w : Nat → AV) (s : TmS) : d8p e8t ((d8d Tryz.prog qn (deep Tryz.prog qn ht4 100 4) (fun _ _=>none) 100 (lp (blk 0 (d80 Tryz.prog 22))) ⟨d8m (ups w (d8o e8t (tmV s))) 34,tmM s⟩).go [true,true]) =
  some (pwO s.n s.i ((pwQ s.n s.i).tmod 2 == 1) ++ [true,true],0,tmV { s with i:=IntKind.i64.wrap (s.i + 1) },34,tmM { s with a:=fs s.a s.a,r:=fs s.r s.a }):=by
 obtain ⟨n,a,r,i⟩:=s
 kernel_rfl
theorem tm_0 (w : Nat → AV) (s : TmS) : d8p e8t ((d8d Tryz.prog qn (deep Tryz.prog qn ht4 100 4) (fun _ _=>none) 100 (lp (blk 0 (d80 Tryz.prog 22))) ⟨d8m (ups w (d8o e8t (tmV s))) 34,tmM s⟩).go [true,false]) =
  some (pwO s.n s.i (!((pwQ s.n s.i).tmod 2 == 1)) ++ [true],0,tmV { s with i:=IntKind.i64.wrap (s.i + 1) },34,tmM { s with a:=fs s.a s.a }):=by
 obtain ⟨n,a,r,i⟩:=s
 kernel_rfl
theorem tm_f (w : Nat → AV) (s : TmS) : d8p e8t ((d8d Tryz.prog qn (deep Tryz.prog qn ht4 100 4) (fun _ _=>none) 100 (lp (blk 0 (d80 Tryz.prog 22))) ⟨d8m (ups w (d8o e8t (tmV s))) 34,tmM s⟩).go [false]) =
  some ([!decide (s.i < 256)],2,tmV s,34,tmM s):=by
 obtain ⟨n,a,r,i⟩:=s
 kernel_rfl
def tmP : List AV → Mem → Option (TmS × List Bool)
 | [.ptr false 2 0, .ptr false 3 0, .ptr false 4 0, .ptr false 5 0, .ptr false 6 0, .int false .i64 i],[none,none,some ⟨true, .ints .u64 (some 4) n⟩,some ⟨true, .ints .u64 (some 12) a⟩,some ⟨true, .ints .u64 (some 12) z⟩,some ⟨true, .ints .u64 (some 4) d⟩,some ⟨true, .ints .u64 (some 12) r⟩] =>
  some (⟨n,a,r,0⟩,[decide (i = 0),decide (z = Z12),decide (d = dL),decide (r = e3L f1),decide (limbs (val n) = n),decide (a = e3L (e3V a))])
 | _,_=>none
def taL (p : List Int) (j : Nat) : List Int:=e3L (fTa (e3V p) j)
def trL (N : Int) (p : List Int) (j : Nat) : List Int:=e3L (fTr N (e3V p) j)
def tmF (p : TmS × List Bool) : List (Nat × AV) × Mem:=([(4, .ptr false 4 0),(6, .ptr false 6 0)],tmM { p.1 with a:=taL p.1.a 256,r:=trL (val p.1.n) p.1.a 256 })
def tmJ (p s : TmS × List Bool) : Prop:=limbs (val p.1.n) = p.1.n ∧ e3L (e3V p.1.a) = p.1.a ∧ ∃ j : Nat,j ≤ 256 ∧ s.1 = { p.1 with a:=taL p.1.a j,r:=trL (val p.1.n) p.1.a j,i:=(j : Int) }
theorem c2i {p : E3} (h : p.ok) : ∀ j,(fTa p j).ok
 | 0=>h
 | j + 1=>a8z _ _
theorem b66 (N : Int) (p : E3) : ∀ j,(fTr N p j).ok
 | 0=>⟨e7k,e4p,e4p⟩
 | j + 1=>by
  show (if _ then _ else _ : E3).ok
  split
  ·exact a8z _ _
  ·exact b66 N p j
theorem d1k {p : E3} : e3V (e3L p) = ⟨vl p.x,vl p.y,vl p.z⟩:=rfl
theorem d1l {p : List Int} (h : (e3V p).ok) (j : Nat) : taL p (j + 1) = fs (taL p j) (taL p j):=by
 unfold taL fs
 rw [b0w (c2i h j)]
 rfl
theorem d1m {p : List Int} (h : (e3V p).ok) (N : Int) (j : Nat) : trL N p (j + 1) = if N / 2 ^ j % 2 = 1 then fs (trL N p j) (taL p j) else trL N p j:=by
 unfold trL taL fs
 rw [b0w (c2i h j),b0w (b66 N _ j)]
 show e3L (if N / 2 ^ j % 2 = 1 then _ else _) = _
 split <;> rfl
theorem d1n {p : List Int} (h : e3L (e3V p) = p) : (e3V p).ok:=by
 have e : e3V p = e3V (e3L (e3V p)):=by rw [h]
 rw [e,d1k]
 exact ⟨⟨(e8o _).1,(e8o _).2⟩,⟨(e8o _).1,(e8o _).2⟩,⟨(e8o _).1,(e8o _).2⟩⟩
theorem d5p {Λ : d8r} (hΛ : LOk Tryz.prog (d80 Tryz.prog 22) Λ) : LOk Tryz.prog (d80 Tryz.prog 22) (e0p 0 34 e8t tmP (fun p=>p.2) tmF Λ):=by
 refine a29 (q:=qn) (n:=100) (fun p : TmS × List Bool=>tmV p.1) (fun p=>tmM p.1) tmJ (fun s=>256 - s.1.i.toNat) mixed (c2h.deep (q:=qn) mixed d7w 100 4) hΛ LOk.none (by kernel_rfl) (by kernel_rfl) (fun s=>rfl) (fun s=>rfl) (fun avs mm p h ho => ?_) (fun p s hJ w => ?_)
 ·unfold tmP at h
  split at h
  ·rename_i i n a z d r
   cases h
   have p0:=f9c (ho _ (f9b ..))
   have p1:=f9c (ho _ (f9a _ (f9b ..)))
   have p2:=f9c (ho _ (f9a _ (f9a _ (f9b ..))))
   have p3:=f9c (ho _ (f9a _ (f9a _ (f9a _ (f9b ..)))))
   have p4:=f9c (ho _ (f9a _ (f9a _ (f9a _ (f9a _ (f9b ..))))))
   have p5:=f9c (ho _ (f9a _ (f9a _ (f9a _ (f9a _ (f9a _ (f9b ..)))))))
   refine ⟨(⟨n,a,r,0⟩,[]), ?_, ?_,p4,p5.symm,0,Nat.zero_le _, ?_⟩
   ·rw [p0]
    exact .cons (.refl _) (.cons (.refl _) (.cons (.refl _) (.cons (.refl _) (.cons (.refl _) (.cons (.int _ _ _) .nil)))))
   ·rw [p1,p2]
    rfl
   ·have ea : taL a 0 = a:=p5.symm
    have er : trL (val n) a 0 = e3L f1:=rfl
    simp only
    rw [ea,er, ← p3]
    rfl
  ·cases h
 ·obtain ⟨h1,h2,j,hj,hs⟩:=hJ
  obtain ⟨⟨n,a,r,i⟩,pb⟩:=p
  obtain ⟨s,sb⟩:=s
  simp only at h1 h2 hs
  subst hs
  have hok:=d1n h2
  by_cases hend : j = 256
  ·subst hend
   refine Round.out (tm_f w _) rfl rfl (a00 rfl d7x.nil) fun q hq => ?_
   simp only [tmF,List.mem_cons,List.not_mem_nil,or_false] at hq
   rcases hq with rfl | rfl
   ·exact ⟨_,f9a _ (f9a _ (f9b ..)), .refl _⟩
   ·exact ⟨_,f9a _ (f9a _ (f9a _ (f9a _ (f9b ..)))), .refl _⟩
  ·have hlt : j < 256:=by omega
   obtain ⟨hb,hd⟩:=c84 h1 hlt
   have hw : IntKind.i64.wrap ((j : Int) + 1) = ((j + 1 : Nat) : Int):=by
    have:=a28 (x:=(j : Int) + 1) (by omega)
    unfold w64 at this
    rw [this];omega
   have ha:=d1l hok j
   have hr:=d1m hok (val n) j
   by_cases h : val n / 2 ^ j % 2 = 1
   ·rw [if_pos h] at hr
    refine Round.on (tm_1 w _) ({ n:=n,a:=taL a (j + 1),r:=trL (val n) a (j + 1),i:=((j + 1 : Nat) : Int) },sb) [] ?_ (a01.2 ⟨hd _ (by rw [hb];exact decide_eq_true h),List.all_eq_true.1 rfl⟩) ?_ ⟨h1,h2,j + 1,by omega,rfl⟩ rfl (by simp only;omega)
    ·rw [ha,hr,List.append_nil]
     rfl
    ·simp only [hw]
     exact LeL.refl _
   ·rw [if_neg h] at hr
    refine Round.on (tm_0 w _) ({ n:=n,a:=taL a (j + 1),r:=trL (val n) a (j + 1),i:=((j + 1 : Nat) : Int) },sb) [] ?_ (a01.2 ⟨hd _ (by rw [hb,decide_eq_false h];rfl),List.all_eq_true.1 rfl⟩) ?_ ⟨h1,h2,j + 1,by omega,rfl⟩ rfl (by simp only;omega)
    ·rw [ha,hr,List.append_nil]
     rfl
    ·simp only [hw]
     exact LeL.refl _
theorem d1o (n p : List Int) : d92 0 ((d8a Tryz.prog qn (deep Tryz.prog qn ht4 100 4) (e0p 0 34 e8t tmP (fun p=>p.2) tmF fun _ _=>none) 100 22 (d7z 0 [.pl (.ints .u64 4 n), .pl (.ints .u64 12 p)]) (d87 [.pl (.ints .u64 4 n), .pl (.ints .u64 12 p)])).go []) =
  some ([true,true,true,true,decide (limbs (val n) = n),decide (p = e3L (e3V p))], .ints .u64 12 (e3L (fMul (val n) (e3V p))),some none):=by kernel_rfl
def f6b : List V → E (AV × Mem)
 | [.pl (.ints .u64 4 n), .pl (.ints .u64 12 p)]=>some ([],(.ints .u64 12 (e3L (fMul (val n) (e3V p))),[]))
 | _=>none
theorem f6c {xs : List V} {o : List Bool} {v : AV} {bs : Mem} (h : f6b xs = some (o,(v,bs))) : d7y Tryz.prog 22 xs v bs:=by
 unfold f6b at h
 split at h
 ·rename_i n p
  cases h
  intro ρ vs w ha hi
  have h2:=ha
  cases h2 with
  | cons _ _ _ _ r1 h2=>cases h2 with
   | cons _ _ _ _ r2 h2 =>
    obtain ⟨a,b,c,d,rfl,w0,w1,w2,w3⟩:=a0g r1
    exact a0a mixed d7w (c2h.deep mixed d7w 100 4) (fun fn c hf hb=>by rw [a0r hf hb];exact (d5p LOk.none).toN) [] 0 (d1o [a,b,c,d] p) (a00 rfl (a00 rfl (a00 rfl (a00 rfl (a00 (decide_eq_true (a0w w0 w1 w2 w3)) (a00 (decide_eq_true (b7x r2).symm) d7x.nil)))))) rfl rfl rfl rfl ha hi
 ·cases h
def ht5 : d82:=d84 22 f6b ht4
theorem d5q : HOk Tryz.prog ht5:=c2h.d84 fun _ _ _ _ h _=>f6c h
end Go.Proofs.YthelmpjkkkhopaaGreatDoor
namespace Go.Mo
open Go.Ev Go.Wn
def byR (l : List Int) : List Int:=[IntKind.u8.wrap (IntKind.i64.wrap (((e0e l).getD 15 0).tdiv 256)),IntKind.u8.wrap (((e0e l).getD 15 0).tmod 256),IntKind.u8.wrap (IntKind.i64.wrap (((e0e l).getD 14 0).tdiv 256)),IntKind.u8.wrap (((e0e l).getD 14 0).tmod 256),IntKind.u8.wrap (IntKind.i64.wrap (((e0e l).getD 13 0).tdiv 256)),IntKind.u8.wrap (((e0e l).getD 13 0).tmod 256),IntKind.u8.wrap (IntKind.i64.wrap (((e0e l).getD 12 0).tdiv 256)),IntKind.u8.wrap (((e0e l).getD 12 0).tmod 256),IntKind.u8.wrap (IntKind.i64.wrap (((e0e l).getD 11 0).tdiv 256)),IntKind.u8.wrap (((e0e l).getD 11 0).tmod 256),IntKind.u8.wrap (IntKind.i64.wrap (((e0e l).getD 10 0).tdiv 256)),IntKind.u8.wrap (((e0e l).getD 10 0).tmod 256),IntKind.u8.wrap (IntKind.i64.wrap (((e0e l).getD 9 0).tdiv 256)),IntKind.u8.wrap (((e0e l).getD 9 0).tmod 256),IntKind.u8.wrap (IntKind.i64.wrap (((e0e l).getD 8 0).tdiv 256)),IntKind.u8.wrap (((e0e l).getD 8 0).tmod 256),IntKind.u8.wrap (IntKind.i64.wrap (((e0e l).getD 7 0).tdiv 256)),IntKind.u8.wrap (((e0e l).getD 7 0).tmod 256),IntKind.u8.wrap (IntKind.i64.wrap (((e0e l).getD 6 0).tdiv 256)),IntKind.u8.wrap (((e0e l).getD 6 0).tmod 256),IntKind.u8.wrap (IntKind.i64.wrap (((e0e l).getD 5 0).tdiv 256)),IntKind.u8.wrap (((e0e l).getD 5 0).tmod 256),IntKind.u8.wrap (IntKind.i64.wrap (((e0e l).getD 4 0).tdiv 256)),IntKind.u8.wrap (((e0e l).getD 4 0).tmod 256),IntKind.u8.wrap (IntKind.i64.wrap (((e0e l).getD 3 0).tdiv 256)),IntKind.u8.wrap (((e0e l).getD 3 0).tmod 256),IntKind.u8.wrap (IntKind.i64.wrap (((e0e l).getD 2 0).tdiv 256)),IntKind.u8.wrap (((e0e l).getD 2 0).tmod 256),IntKind.u8.wrap (IntKind.i64.wrap (((e0e l).getD 1 0).tdiv 256)),IntKind.u8.wrap (((e0e l).getD 1 0).tmod 256),IntKind.u8.wrap (IntKind.i64.wrap (((e0e l).getD 0 0).tdiv 256)),IntKind.u8.wrap (((e0e l).getD 0 0).tmod 256)]
theorem u8w {x : Int} (h : 0 ≤ x ∧ x < 256) : IntKind.u8.wrap x = x:=by
 unfold IntKind.wrap;simp [IntKind.bits,IntKind.signed];omega
theorem f6d {x : Int} (hx : 0 ≤ x ∧ x < 65536) : IntKind.u8.wrap (IntKind.i64.wrap (x.tdiv 256)) = x / 256:=by
 rw [Int.tdiv_eq_ediv_of_nonneg hx.1]
 have : IntKind.i64.wrap (x / 256) = x / 256:=a28 (x:=x / 256) (by omega)
 rw [this,u8w (by omega)]
theorem f6e {x : Int} (hx : 0 ≤ x ∧ x < 65536) : IntKind.u8.wrap (x.tmod 256) = x % 256:=by
 rw [Int.tmod_eq_emod_of_nonneg hx.1,u8w (by omega)]
end Go.Mo
namespace Go.Proofs.YthelmpjkkkhopaaGreatDoor
open Go.Ev Go.Wn Go.Mo
set_option maxRecDepth 100000
theorem u8w {x : Int} (h : 0 ≤ x ∧ x < 256) : IntKind.u8.wrap x = x:=by
 unfold IntKind.wrap;simp [IntKind.bits,IntKind.signed];omega
theorem d5r {a b c d : Int} (ha : W a) (hb : W b) (hc : W c) (hd : W d) : byR [a,b,c,d] = (d8l [a,b,c,d]).reverse:=by
 have e : (d8l [a,b,c,d]).reverse = [d8f d 56,d8f d 48,d8f d 40,d8f d 32,d8f d 24,d8f d 16,d8f d 8,d8f d 0,d8f c 56,d8f c 48,d8f c 40,d8f c 32,d8f c 24,d8f c 16,d8f c 8,d8f c 0,d8f b 56,d8f b 48,d8f b 40,d8f b 32,d8f b 24,d8f b 16,d8f b 8,d8f b 0,d8f a 56,d8f a 48,d8f a 40,d8f a 32,d8f a 24,d8f a 16,d8f a 8,d8f a 0]:=rfl
 rw [e]
 unfold byR
 simp only [e0e,List.getD_cons_zero,List.getD_cons_succ]
 unfold W at *
 simp only [List.cons.injEq,and_true]
 refine ⟨?_, ?_, ?_, ?_, ?_, ?_, ?_, ?_, ?_, ?_, ?_, ?_, ?_, ?_, ?_, ?_, ?_, ?_, ?_, ?_, ?_, ?_, ?_, ?_, ?_, ?_, ?_, ?_, ?_, ?_, ?_, ?_⟩
 all_goals (first | rw [f6d (by omega)] | rw [f6e (by omega)])
 all_goals (unfold d8f;simp only [Int.reducePow];omega)
def ybS : List V → E (AV × Mem)
 | [.pl (.ints .u64 4 l)]=>some ([],(.slice false 0 0 32 none 1,[some ⟨true, .ints .u8 (some 32) (d8l l).reverse⟩]))
 | _=>none
theorem d1p (l : List Int) : d92 34 ((d8a Tryz.prog qn (deep Tryz.prog qn hr4 100 3) (fun _ _=>none) 200 32 (d7z 0 [.pl (.ints .u64 4 l)]) (d87 [.pl (.ints .u64 4 l)])).go []) = some ([], .slice false 34 0 32 none 1,some (some ⟨true, .ints .u8 (some 32) (byR l)⟩)):=by kernel_rfl
theorem f6f {xs : List V} {o : List Bool} {v : AV} {bs : Mem} (h : ybS xs = some (o,(v,bs))) : d7y Tryz.prog 32 xs v bs:=by
 unfold ybS at h
 split at h
 ·rename_i l
  cases h
  intro ρ vs w ha hi
  have hb:=ha
  cases hb with
  | cons _ _ _ _ r0 hb =>
   obtain ⟨a,b,c,d,rfl,w0,w1,w2,w3⟩:=a0g r0
   have ev:=d1p [a,b,c,d]
   rw [d5r w0 w1 w2 w3] at ev
   exact a12 mixed d7w (c2c.deep (q:=qn) mixed d7w 100 3) (lo1 _) [] 34 ev d7x.nil (by show 1 ≤ 34;decide) rfl rfl ha hi
 ·cases h
def ht6 : d82:=d84 32 ybS ht5
theorem c8b : HOk Tryz.prog ht6:=d5q.d84 fun _ _ _ _ h _=>f6f h
end Go.Proofs.YthelmpjkkkhopaaGreatDoor
namespace Go.Mo
open Go.Ev Go.Wn
def bX (p : E3) : Int:=(vl p.x * vl (fP (vl p.z) pE)) % pN
def bY (p : E3) : Int:=(vl p.y * vl (fP (vl p.z) pE)) % pN
theorem d5s (z : Int) : fP (vl z) pE = pI z:=by
 have e : (val PL - 2).toNat = pE:=by decide +kernel
 unfold fP pI
 rw [e,a8y]
theorem f6g (p : E3) : bX p = mI p.x (pI p.z):=by unfold bX mI;rw [d5s,a8y]
theorem f6h (p : E3) : bY p = mI p.y (pI p.z):=by unfold bY mI;rw [d5s,a8y]
def f2m (l : List Int) : List Int:=l.set 31 (IntKind.u8.wrap (l.getD 31 0 + 128))
theorem d1q {x : Int} (h : 0 ≤ x ∧ x < 9223372036854775808) : d8f (x + 9223372036854775808) 56 = d8f x 56 + 128 ∧ d8f x 56 < 128 ∧ 0 ≤ d8f x 56 ∧ d8f (x + 9223372036854775808) 48 = d8f x 48 ∧ d8f (x + 9223372036854775808) 40 = d8f x 40 ∧ d8f (x + 9223372036854775808) 32 = d8f x 32 ∧ d8f (x + 9223372036854775808) 24 = d8f x 24 ∧ d8f (x + 9223372036854775808) 16 = d8f x 16 ∧ d8f (x + 9223372036854775808) 8 = d8f x 8 ∧ d8f (x + 9223372036854775808) 0 = d8f x 0:=by
 unfold d8f
 simp only [Int.reducePow]
 omega
end Go.Mo
namespace Go.Proofs.YthelmpjkkkhopaaGreatDoor
open Go.Ev Go.Wn Go.Mo
set_option maxRecDepth 100000
theorem d1r {y : Int} (h : inP y) : f2m (d8l (limbs y)) = d8l (limbs (y + d8q)):=by
 have hp : (P25 : Int) < 57896044618658097711785492504343953926634992332820282019728792003956564819968:=by decide
 unfold inP at h
 have e0 : limbs (y + d8q) = [(limbs y).getD 0 0,(limbs y).getD 1 0,(limbs y).getD 2 0,(limbs y).getD 3 0 + 9223372036854775808]:=by
  unfold limbs d8q
  simp only [List.getD_cons_zero,List.getD_cons_succ,List.cons.injEq,and_true]
  refine ⟨?_, ?_, ?_, ?_⟩ <;> omega
 have e1 : limbs y = [(limbs y).getD 0 0,(limbs y).getD 1 0,(limbs y).getD 2 0,(limbs y).getD 3 0]:=rfl
 have b3 : 0 ≤ (limbs y).getD 3 0 ∧ (limbs y).getD 3 0 < 9223372036854775808:=by
  unfold limbs
  simp only [List.getD_cons_zero,List.getD_cons_succ]
  omega
 rw [e0,e1]
 generalize (limbs y).getD 0 0 = a at *
 generalize (limbs y).getD 1 0 = b at *
 generalize (limbs y).getD 2 0 = c at *
 generalize (limbs y).getD 3 0 = d at *
 obtain ⟨q1,q2,q3,r6,r5,r4,r3,r2,r1,r0⟩:=d1q b3
 have w : IntKind.u8.wrap (d8f d 56 + 128) = d8f d 56 + 128:=by
  unfold IntKind.wrap
  simp [IntKind.bits,IntKind.signed]
  omega
 unfold f2m d8l
 simp only [List.getD_cons_zero,List.getD_cons_succ,List.set_cons_succ,List.set_cons_zero]
 rw [q1,r6,r5,r4,r3,r2,r1,r0,w]
theorem f6i (p : E3) : d8l (limbs (fW p)) = if bX p % 2 = 1 then f2m (d8l (limbs (bY p))) else d8l (limbs (bY p)):=by
 have hy:=a2h p.y (pI p.z)
 unfold fW
 rw [f6g,f6h]
 generalize mI p.x (pI p.z) = x at *
 split
 ·rename_i h
  rw [d1r hy,h,Int.mul_one]
 ·rename_i h
  rw [show x % 2 = 0 by omega,Int.mul_zero,Int.add_zero]
def f2n (p : E3) : Bool:=((limbs (bX p)).getD 0 0).tmod 2 == 1
theorem fb_t (p : E3) : d92 6 ((d8a Tryz.prog qn (deep Tryz.prog qn ht6 100 4) (fun _ _=>none) 400 21 (d7z 0 [.pl (.ints .u64 12 (e3L p))]) (d87 [.pl (.ints .u64 12 (e3L p))])).go [true]) =
  some ([ltP p.z,f2n p], .slice false 6 0 32 none 1,some (some ⟨true, .ints .u8 (some 32) (f2m (d8l (limbs (bY p))).reverse.reverse)⟩)):=by kernel_rfl
theorem fb_f (p : E3) : d92 6 ((d8a Tryz.prog qn (deep Tryz.prog qn ht6 100 4) (fun _ _=>none) 400 21 (d7z 0 [.pl (.ints .u64 12 (e3L p))]) (d87 [.pl (.ints .u64 12 (e3L p))])).go [false]) =
  some ([ltP p.z, !f2n p], .slice false 6 0 32 none 1,some (some ⟨true, .ints .u8 (some 32) (d8l (limbs (bY p))).reverse.reverse⟩)):=by kernel_rfl
def fbS : List V → E (AV × Mem)
 | [.pl (.ints .u64 12 p)]=>some ([ltP (e3V p).z],(.slice false 0 0 32 none 1,[some ⟨true, .ints .u8 (some 32) (d8l (limbs (fW (e3V p))))⟩]))
 | _=>none
theorem d1s (p : E3) : f2n p = decide (bX p % 2 = 1):=by
 unfold f2n
 have : ((limbs (bX p)).getD 0 0).tmod 2 = bX p % 2:=by
  show (bX p % 18446744073709551616).tmod 2 = _
  rw [Int.tmod_eq_emod_of_nonneg (by omega)]
  omega
 rw [this,Bool.eq_iff_iff]
 simp
theorem f6j {xs : List V} {o : List Bool} {v : AV} {bs : Mem} (h : fbS xs = some (o,(v,bs))) (ho : d7x o) : d7y Tryz.prog 21 xs v bs:=by
 have D:=c8b.deep (q:=qn) mixed d7w 100 4
 unfold fbS at h
 split at h
 ·rename_i p
  cases h
  have hz:=ho _ (f9b ..)
  intro ρ vs w ha hi
  have h2:=ha
  cases h2 with
  | cons _ _ _ _ r1 h2 =>
   have e1:=fb_t (e3V p);have e2:=fb_f (e3V p)
   rw [b7x r1,List.reverse_reverse,hz,d1s] at e1 e2
   have ew:=f6i (e3V p)
   by_cases hc : bX (e3V p) % 2 = 1
   ·rw [if_pos hc] at ew
    rw [decide_eq_true hc, ← ew] at e1
    exact a12 mixed d7w D (lo1 _) [true] 6 e1 (List.all_eq_true.1 rfl) (by show 1 ≤ 6;decide) rfl rfl ha hi
   ·rw [if_neg hc] at ew
    rw [decide_eq_false hc, ← ew] at e2
    exact a12 mixed d7w D (lo1 _) [false] 6 e2 (List.all_eq_true.1 rfl) (by show 1 ≤ 6;decide) rfl rfl ha hi
 ·cases h
def ht7 : d82:=d84 21 fbS ht6
theorem c8c : HOk Tryz.prog ht7:=c8b.d84 fun _ _ _ _ h ho=>f6j h ho
end Go.Proofs.YthelmpjkkkhopaaGreatDoor
namespace Go.Proofs.YthelmpjkkkhopaaGreatDoor
open Go.Ev Go.Wn Go.Mo
set_option maxRecDepth 100000
theorem sixty {l : List Int} (h : l.length = 64) : ∃ b0 b1 b2 b3 b4 b5 b6 b7 b8 b9 b10 b11 b12 b13 b14 b15 b16 b17 b18 b19 b20 b21 b22 b23 b24 b25 b26 b27 b28 b29 b30 b31 b32 b33 b34 b35 b36 b37 b38 b39 b40 b41 b42 b43 b44 b45 b46 b47 b48 b49 b50 b51 b52 b53 b54 b55 b56 b57 b58 b59 b60 b61 b62 b63,l = [b0,b1,b2,b3,b4,b5,b6,b7,b8,b9,b10,b11,b12,b13,b14,b15,b16,b17,b18,b19,b20,b21,b22,b23,b24,b25,b26,b27,b28,b29,b30,b31,b32,b33,b34,b35,b36,b37,b38,b39,b40,b41,b42,b43,b44,b45,b46,b47,b48,b49,b50,b51,b52,b53,b54,b55,b56,b57,b58,b59,b60,b61,b62,b63]:=by
 obtain ⟨b0,b1,b2,b3,b4,b5,b6,b7,b8,b9,b10,b11,b12,b13,b14,b15,b16,b17,b18,b19,b20,b21,b22,b23,b24,b25,b26,b27,b28,b29,b30,b31,e1⟩:=thirty (l:=l.take 32) (by rw [List.length_take,h];rfl)
 obtain ⟨b32,b33,b34,b35,b36,b37,b38,b39,b40,b41,b42,b43,b44,b45,b46,b47,b48,b49,b50,b51,b52,b53,b54,b55,b56,b57,b58,b59,b60,b61,b62,b63,e2⟩:=thirty (l:=l.drop 32) (by rw [List.length_drop,h])
 have e:=List.take_append_drop 32 l
 rw [e1,e2] at e
 exact ⟨b0,b1,b2,b3,b4,b5,b6,b7,b8,b9,b10,b11,b12,b13,b14,b15,b16,b17,b18,b19,b20,b21,b22,b23,b24,b25,b26,b27,b28,b29,b30,b31,b32,b33,b34,b35,b36,b37,b38,b39,b40,b41,b42,b43,b44,b45,b46,b47,b48,b49,b50,b51,b52,b53,b54,b55,b56,b57,b58,b59,b60,b61,b62,b63,e.symm⟩
theorem d1t (b0 b1 b2 b3 b4 b5 b6 b7 b8 b9 b10 b11 b12 b13 b14 b15 b16 b17 b18 b19 b20 b21 b22 b23 b24 b25 b26 b27 b28 b29 b30 b31 b32 b33 b34 b35 b36 b37 b38 b39 b40 b41 b42 b43 b44 b45 b46 b47 b48 b49 b50 b51 b52 b53 b54 b55 b56 b57 b58 b59 b60 b61 b62 b63 : Int) : d92 128 ((d8a Tryz.prog qn (fun _ _ _=>none) (fun _ _=>none) 200 31 (d7z 0 [.buf false .u8 64 [b0,b1,b2,b3,b4,b5,b6,b7,b8,b9,b10,b11,b12,b13,b14,b15,b16,b17,b18,b19,b20,b21,b22,b23,b24,b25,b26,b27,b28,b29,b30,b31,b32,b33,b34,b35,b36,b37,b38,b39,b40,b41,b42,b43,b44,b45,b46,b47,b48,b49,b50,b51,b52,b53,b54,b55,b56,b57,b58,b59,b60,b61,b62,b63]]) (d87 [.buf false .u8 64 [b0,b1,b2,b3,b4,b5,b6,b7,b8,b9,b10,b11,b12,b13,b14,b15,b16,b17,b18,b19,b20,b21,b22,b23,b24,b25,b26,b27,b28,b29,b30,b31,b32,b33,b34,b35,b36,b37,b38,b39,b40,b41,b42,b43,b44,b45,b46,b47,b48,b49,b50,b51,b52,b53,b54,b55,b56,b57,b58,b59,b60,b61,b62,b63]])).go []) =
  some ([], .slice false 128 0 64 none 1,some (some ⟨true, .ints .u8 (some 64) [b63,b62,b61,b60,b59,b58,b57,b56,b55,b54,b53,b52,b51,b50,b49,b48,b47,b46,b45,b44,b43,b42,b41,b40,b39,b38,b37,b36,b35,b34,b33,b32,b31,b30,b29,b28,b27,b26,b25,b24,b23,b22,b21,b20,b19,b18,b17,b16,b15,b14,b13,b12,b11,b10,b9,b8,b7,b6,b5,b4,b3,b2,b1,b0]⟩)):=by kernel_rfl
def tvS : List V → E (AV × Mem)
 | [.buf false .u8 64 l]=>some ([],(.slice false 0 0 64 none 1,[some ⟨true, .ints .u8 (some 64) l.reverse⟩]))
 | _=>none
theorem f6k {xs : List V} {o : List Bool} {v : AV} {bs : Mem} (h : tvS xs = some (o,(v,bs))) : d7y Tryz.prog 31 xs v bs:=by
 unfold tvS at h
 split at h
 ·rename_i l
  cases h
  intro ρ vs w ha hi
  obtain ⟨hl,_⟩:=a0l hi 0 rfl
  obtain ⟨b0,b1,b2,b3,b4,b5,b6,b7,b8,b9,b10,b11,b12,b13,b14,b15,b16,b17,b18,b19,b20,b21,b22,b23,b24,b25,b26,b27,b28,b29,b30,b31,b32,b33,b34,b35,b36,b37,b38,b39,b40,b41,b42,b43,b44,b45,b46,b47,b48,b49,b50,b51,b52,b53,b54,b55,b56,b57,b58,b59,b60,b61,b62,b63,rfl⟩:=sixty hl
  exact a12 mixed d7w HOk.none (lo1 _) [] 128 (d1t b0 b1 b2 b3 b4 b5 b6 b7 b8 b9 b10 b11 b12 b13 b14 b15 b16 b17 b18 b19 b20 b21 b22 b23 b24 b25 b26 b27 b28 b29 b30 b31 b32 b33 b34 b35 b36 b37 b38 b39 b40 b41 b42 b43 b44 b45 b46 b47 b48 b49 b50 b51 b52 b53 b54 b55 b56 b57 b58 b59 b60 b61 b62 b63) d7x.nil (by show 1 ≤ 128;decide) rfl rfl ha hi
 ·cases h
end Go.Proofs.YthelmpjkkkhopaaGreatDoor
