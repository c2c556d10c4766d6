/- Layer 10: an x of a y, and points off their bytes, of the program. Own work. -/
import Derived.Test.YthelmpjkkkhopaaGreatDoorZEwC
import Derived.Test.YthelmpjkkkhopaaGreatDoorZEvOne
set_option linter.unusedSimpArgs false
set_option linter.unusedVariables false
set_option linter.unusedSectionVars false
namespace Go.Proofs.YthelmpjkkkhopaaGreatDoor
open Go.Ev Go.Wn Go.Mo Go.Sh
set_option maxRecDepth 100000
theorem ft_t (T : List Int) (y : Int) : d92 0 ((d8a Tryz.prog qn (deep Tryz.prog qn hn2 100 3) (fun _ _=>none) 100 68 (e06 [.pl (.ints .u64 4 (limbs y))]) (e1p pC (oC T) [.pl (.ints .u64 4 (limbs y))])).go [true]) =
  some (List.replicate 8 true ++ [!decide (limbs (mI (fX0 y) (fX0 y)) = limbs (fXX y)),true,true], .tuple [.ints .u64 4 (limbs (mI (fX0 y) iI)), .bool true (decide (limbs (mI (mI (fX0 y) iI) (mI (fX0 y) iI)) = limbs (fXX y)))],some (some ⟨false,pC⟩)):=by kernel_rfl
theorem ft_f (T : List Int) (y : Int) : d92 0 ((d8a Tryz.prog qn (deep Tryz.prog qn hn2 100 3) (fun _ _=>none) 100 68 (e06 [.pl (.ints .u64 4 (limbs y))]) (e1p pC (oC T) [.pl (.ints .u64 4 (limbs y))])).go [false]) =
  some (List.replicate 8 true ++ [!!decide (limbs (mI (fX0 y) (fX0 y)) = limbs (fXX y)),true], .tuple [.ints .u64 4 (limbs (fX0 y)), .bool true (decide (limbs (mI (fX0 y) (fX0 y)) = limbs (fXX y)))],some (some ⟨false,pC⟩)):=by kernel_rfl
theorem a27 {x y : Int} (hx : inP x) (hy : inP y) : limbs x = limbs y ↔ x = y:=by
 refine ⟨fun h => ?_,fun h=>by rw [h]⟩
 have h1 : vl x = vl y:=by unfold vl;rw [h]
 rwa [a2m (a30 hx),a2m (a30 hy)] at h1
def ftS : Cells → Cells → List V → E (AV × Mem)
 | .ints .u64 (some 9) L, .ints .u64 (some 9) _,[.pl (.ints .u64 4 y)]=>some ([isP L],(.tuple [.ints .u64 4 (limbs (fX (val y))), .bool true (fOk (val y))],[]))
 | _,_,_=>none
theorem d73 {c d : Cells} {xs : List V} {o : List Bool} {v : AV} {bs : Mem} (h : ftS c d xs = some (o,(v,bs))) (ho : d7x o) : e0t Tryz.prog 68 (e06 xs) (e1p c d xs) v bs:=by
 unfold ftS at h
 split at h
 ·rename_i L T y
  cases h
  obtain rfl:=a6n ho
  intro ρ vs w ha hi
  have h2:=ha
  cases h2 with
  | cons _ _ _ _ _ h2=>cases h2 with
   | cons _ _ _ _ r1 h2 =>
    obtain ⟨a,b,c,d,rfl,w0,w1,w2,w3⟩:=a0g r1
    have e:=a0w w0 w1 w2 w3
    generalize val [a,b,c,d] = z at *
    rw [← e] at ha hi ⊢
    have i0:=a2h (fX0 z) (fX0 z)
    have i1:=c0v z
    by_cases hc : mI (fX0 z) (fX0 z) = fXX z
    ·have hx : fX z = fX0 z:=by unfold fX;rw [if_pos hc]
     have hd : decide (limbs (mI (fX0 z) (fX0 z)) = limbs (fXX z)) = true:=decide_eq_true ((a27 i0 i1).2 hc)
     have ev:=ft_f T z
     rw [hd] at ev
     rw [show fOk z = true by unfold fOk;rw [hx];exact decide_eq_true hc,hx]
     exact a18 mixed d7w (c1v.deep mixed d7w 100 3) (lo1 _) [false] 0 ev (a01.2 ⟨a10 _,a00 rfl (a00 rfl d7x.nil)⟩) rfl rfl rfl rfl ha hi
    ·have hx : fX z = mI (fX0 z) iI:=by unfold fX;rw [if_neg hc]
     have hd : decide (limbs (mI (fX0 z) (fX0 z)) = limbs (fXX z)) = false:=decide_eq_false fun h=>hc ((a27 i0 i1).1 h)
     have ev:=ft_t T z
     rw [hd] at ev
     have hk : decide (limbs (mI (mI (fX0 z) iI) (mI (fX0 z) iI)) = limbs (fXX z)) = fOk z:=by
      unfold fOk
      rw [hx]
      exact decide_eq_decide.2 (a27 (a2h _ _) i1)
     rw [hk] at ev
     rw [hx]
     exact a18 mixed d7w (c1v.deep mixed d7w 100 3) (lo1 _) [true] 0 ev (a01.2 ⟨a10 _,a00 rfl (a00 rfl (a00 rfl d7x.nil))⟩) rfl rfl rfl rfl ha hi
 ·cases h
def hn3 : d82:=e0j 68 ftS hn2
theorem c8v : HOk Tryz.prog hn3:=c1v.e0j fun _ _ _ _ _ _ h ho=>d73 h ho
end Go.Proofs.YthelmpjkkkhopaaGreatDoor
namespace Go.Proofs.YthelmpjkkkhopaaGreatDoor
open Go.Ev Go.Wn Go.Mo Go.Sh
set_option maxRecDepth 100000
def pY (b : List Int) : List Int:=uwL (e1s b)
def pX (b : List Int) : List Int:=e2i (e0b .u64 (e3a (e1s b) 255) ((limbs (fX (val (pY b)))).getD 0 0)) (limbs (sI 0 (fX (val (pY b))))) (limbs (fX (val (pY b))))
def g4 (l : List Int) : List Int:=[l.getD 0 0,l.getD 1 0,l.getD 2 0,l.getD 3 0]
def ptL (b : List Int) : List Int:=g4 (pX b) ++ g4 (pY b) ++ [1,0,0,0] ++ g4 (limbs (val (pX b) * val (pY b) % val PL))
def g7 (f z : Bool) : List Bool:=[true, !(!(!f)) || !(!f), !(!(!f)) || !(!f), !(!(!f)) || !(!f), !(!(!f) && z) || (!(!f) && z), !(!(!f)) || (!z || (!(!f) && z)), !(!(!f)) || !(!f), !f || !(!f)]
def e2s (f z c : Bool) : Bool:=match !f with
 | true=>true
 | false=>match z with
  | true=>c
  | false=>false
def rdz (b : List Int) : Bool:=decide (limbs (fX (val (pY b))) = [0,0,0,0])
def rdc (b : List Int) : Bool:=e3a (e1s b) 255 == 1
theorem f8o (T b : List Int) : d92 0 ((d8a Tryz.prog qn (deep Tryz.prog qn hn3 100 3) (fun _ _=>none) 100 33 (e06 [.buf false .u8 32 b]) (e1p pC (oC T) [.buf false .u8 32 b])).go [true]) =
  some ([!decide (val (pY b) < val e0f)], .tuple [.ints .u64 16 Z16, .bool false false],some (some ⟨false,pC⟩)):=by kernel_rfl
theorem d74 (T b : List Int) : d92 0 ((d8a Tryz.prog qn (deep Tryz.prog qn hn3 100 3) (fun _ _=>none) 100 33 (e06 [.buf false .u8 32 b]) (e1p pC (oC T) [.buf false .u8 32 b])).go [false,true]) =
  some ((!(!decide (val (pY b) < val e0f))) :: (g7 (fOk (val (pY b))) (rdz b) ++ [e2s (fOk (val (pY b))) (rdz b) (rdc b)]), .tuple [.ints .u64 16 Z16, .bool false false],some (some ⟨false,pC⟩)):=by kernel_rfl
theorem d75 (T b : List Int) : d92 0 ((d8a Tryz.prog qn (deep Tryz.prog qn hn3 100 3) (fun _ _=>none) 100 33 (e06 [.buf false .u8 32 b]) (e1p pC (oC T) [.buf false .u8 32 b])).go [false,false]) =
  some ((!(!decide (val (pY b) < val e0f))) :: (g7 (fOk (val (pY b))) (rdz b) ++ [!e2s (fOk (val (pY b))) (rdz b) (rdc b),true,true]), .tuple [.ints .u64 16 (ptL b), .bool false true],some (some ⟨false,pC⟩)):=by kernel_rfl
theorem d2s (T : List Int) : d92 0 ((d8a Tryz.prog qn (deep Tryz.prog qn hn3 100 3) (fun _ _=>none) 100 33 (e06 [.pl .nilslice]) (e1p pC (oC T) [.pl .nilslice])).go []) =
  some ([], .tuple [.ints .u64 16 Z16, .bool false false],some (some ⟨false,pC⟩)):=by kernel_rfl
theorem d2t (T : List Int) : d92 0 ((d8a Tryz.prog qn (deep Tryz.prog qn hn3 100 3) (fun _ _=>none) 100 33 (e06 [.empty]) (e1p pC (oC T) [.empty])).go []) =
  some ([], .tuple [.ints .u64 16 Z16, .bool false false],some (some ⟨false,pC⟩)):=by kernel_rfl
theorem d2u (T b : List Int) (n : Nat) : d92 0 ((d8a Tryz.prog qn (deep Tryz.prog qn hn3 100 3) (fun _ _=>none) 100 33 (e06 [.buf true .u8 n b]) (e1p pC (oC T) [.buf true .u8 n b])).go []) =
  some ([decide (0 + n ≤ n), !decide ((n : Int) = 32),decide (n < 9223372036854775808)], .tuple [.ints .u64 16 Z16, .bool false false],some (some ⟨false,pC⟩)):=by kernel_rfl
def d9c (b : List Int) : Bool:=ryB (leI b % d8q) (leI b / d8q)
def rdL (b : List Int) : List Int:=match d9c b with
 | true=>e4L (ryP (leI b % d8q) (leI b / d8q))
 | false=>Z16
theorem c3h (f z : Bool) : d7x (g7 f z):=by cases f <;> cases z <;> exact List.all_eq_true.1 rfl
theorem c6n {b : List Int} (h : okb b) : val (pY b) = leI b % d8q ∧ limbs (val (pY b)) = pY b:=by
 obtain ⟨h1,h2,_⟩:=f8r h.1 h.2
 exact ⟨h1,h2⟩
theorem e92 {b : List Int} (h : okb b) : e3a (e1s b) 255 = leI b / d8q:=by
 obtain ⟨x0,x1,x2,x3,e,w0,w1,w2,w3⟩:=a6v h.1 h.2
 have hr:=a08 w0 w1 w2 w3
 have hv : leI b = val [x0,x1,x2,x3]:=by unfold leI;rw [e]
 rw [e,hv]
 have h1:=a6u w0 w1 w2 w3 (k:=255) (by omega)
 show f1l [x0,x1,x2,x3] ((255 : Nat) : Int) = _
 rw [h1]
 unfold d8q
 omega
theorem d76 {x y : Int} (hx : W x) (hy : W y) : e0b .u64 x y % 2 = (x + y) % 2:=by
 rw [b1c,BitVec.toNat_xor]
 have h1:=e7o hx;have h2:=e7o hy
 have h3:=Nat.xor_mod_two_pow (a:=(bv x).toNat) (b:=(bv y).toNat) (n:=1)
 rw [Nat.pow_one] at h3
 rcases Nat.mod_two_eq_zero_or_one (bv x).toNat with e1 | e1 <;> rcases Nat.mod_two_eq_zero_or_one (bv y).toNat with e2 | e2 <;> rw [e1,e2] at h3
 ·have : (0 ^^^ 0 : Nat) = 0:=rfl
  omega
 ·have : (0 ^^^ 1 : Nat) = 1:=rfl
  omega
 ·have : (1 ^^^ 0 : Nat) = 1:=rfl
  omega
 ·have : (1 ^^^ 1 : Nat) = 0:=rfl
  omega
theorem f8p {b : List Int} (h : okb b) : pX b = limbs (ryX (leI b % d8q) (leI b / d8q)):=by
 have hr:=a4d h
 have ho : leI b / d8q = 0 ∨ leI b / d8q = 1:=by unfold d8q;omega
 unfold pX ryX
 rw [e92 h,(c6n h).1]
 generalize leI b / d8q = o at *
 have hx:=a66 (leI b % d8q)
 generalize fX (leI b % d8q) = x at *
 have hw : W ((limbs x).getD 0 0):=b6x x _ (by unfold limbs;simp)
 have e : e0b .u64 o ((limbs x).getD 0 0) % 2 = (o + x) % 2:=by
  rw [d76 (by unfold W;omega) hw]
  show (o + x % 18446744073709551616) % 2 = _
  omega
 unfold e2i
 rw [e]
 split <;> rfl
theorem b1q (x : Int) : g4 (limbs x) = limbs x:=rfl
theorem d77 {b : List Int} (h : okb b) : ptL b = e4L (ryP (leI b % d8q) (leI b / d8q)):=by
 obtain ⟨h1,h2⟩:=c6n h
 unfold ptL
 rw [f8p h, ← h2,h1,b1q,b1q,b1q]
 rfl
theorem d78 : val e0f = (P25 : Int):=by decide +kernel
theorem b8a {f z c : Bool} : e2s f z c = !(f && !(z && c)):=by cases f <;> cases z <;> cases c <;> rfl
theorem d2v {b : List Int} (h : okb b) : d9c b = (decide (val (pY b) < val e0f) && !e2s (fOk (val (pY b))) (rdz b) (rdc b)):=by
 have hz : rdz b = decide (fX (leI b % d8q) = 0):=by
  unfold rdz
  rw [(c6n h).1]
  exact decide_eq_decide.2 (a27 (x:=fX (leI b % d8q)) (y:=0) (a66 _) ⟨by decide,by decide⟩)
 have hc : rdc b = decide (leI b / d8q = 1):=by
  unfold rdc
  rw [e92 h]
  rw [Bool.eq_iff_iff]
  simp
 unfold d9c ryB
 rw [hz,hc,(c6n h).1,d78,b8a,Bool.not_not]
def rdS : Cells → Cells → List V → E (AV × Mem)
 | .ints .u64 (some 9) L, .ints .u64 (some 9) _,[.buf false .u8 32 b]=>some ([isP L],(.tuple [.ints .u64 16 (rdL b), .bool true (d9c b)],[]))
 | .ints .u64 (some 9) L, .ints .u64 (some 9) _,[.buf true .u8 n _]=>some ([isP L, !decide ((n : Int) = 32),decide (n < 9223372036854775808)],(.tuple [.ints .u64 16 Z16, .bool false false],[]))
 | .ints .u64 (some 9) L, .ints .u64 (some 9) _,[.pl .nilslice]=>some ([isP L],(.tuple [.ints .u64 16 Z16, .bool false false],[]))
 | .ints .u64 (some 9) L, .ints .u64 (some 9) _,[.empty]=>some ([isP L],(.tuple [.ints .u64 16 Z16, .bool false false],[]))
 | _,_,_=>none
theorem a7a {g : FuncId} {cas : List AV} {M : Mem} {l : List Int} {c : Bool} (h : e0t Tryz.prog g cas M (.tuple [.ints .u64 16 l, .bool false c]) []) : e0t Tryz.prog g cas M (.tuple [.ints .u64 16 l, .bool true c]) []:=by
 intro ρ vs w ha hi
 refine (h ha hi).mono fun u w' ⟨ρ',r,k⟩=>⟨ρ', ?_,k⟩
 have r' : Rep ρ' (upto (M.length + 0)) (.tuple [.ints .u64 16 l, .bool false c]) u:=r
 show Rep ρ' (upto (M.length + 0)) (.tuple [.ints .u64 16 l, .bool true c]) u
 cases r' with
 | tuple _ vs hs=>cases hs with
  | cons _ _ _ _ r1 hs=>cases hs with
   | cons _ _ _ _ r2 hs =>
    cases hs
    cases r2
    exact .tuple _ _ (.cons _ _ _ _ r1 (.cons _ _ _ _ (.bool _ _) .nil))
theorem d79 {c d : Cells} {xs : List V} {o : List Bool} {v : AV} {bs : Mem} (h : rdS c d xs = some (o,(v,bs))) (ho : d7x o) : e0t Tryz.prog 33 (e06 xs) (e1p c d xs) v bs:=by
 have D:=c8v.deep (q:=qn) mixed d7w 100 3
 unfold rdS at h
 split at h
 ·rename_i L T b
  cases h
  obtain rfl:=a6n ho
  intro ρ vs w ha hi
  have hb : okb b:=by
   obtain ⟨cs,t,lo',hi',b1,b2,b3,b4,b5⟩:=(hi.sim.blk 2 _ rfl).ex
   exact ⟨b5.1 _ rfl,a3c b5⟩
  have hk:=d2v hb
  cases hl : decide (val (pY b) < val e0f) with
  | false =>
   rw [hl,Bool.false_and] at hk
   have e:=f8o T b
   rw [hl] at e
   unfold rdL
   rw [hk]
   exact a7a (fun ha hi=>a18 mixed d7w D (lo1 _) [true] 0 e (a00 rfl d7x.nil) rfl rfl rfl rfl ha hi) ha hi
  | true =>
   rw [hl,Bool.true_and] at hk
   cases hm : e2s (fOk (val (pY b))) (rdz b) (rdc b) with
   | true =>
    rw [hm] at hk
    have e:=d74 T b
    rw [hl,hm] at e
    unfold rdL
    rw [hk]
    exact a7a (fun ha hi=>a18 mixed d7w D (lo1 _) [false,true] 0 e (a00 rfl (a01.2 ⟨c3h _ _,a00 rfl d7x.nil⟩)) rfl rfl rfl rfl ha hi) ha hi
   | false =>
    rw [hm] at hk
    have e:=d75 T b
    rw [hl,hm,d77 hb] at e
    unfold rdL
    rw [hk]
    exact a7a (fun ha hi=>a18 mixed d7w D (lo1 _) [false,false] 0 e (a00 rfl (a01.2 ⟨c3h _ _,a00 rfl (a00 rfl (a00 rfl d7x.nil))⟩)) rfl rfl rfl rfl ha hi) ha hi
 ·rename_i L T n b
  cases h
  obtain rfl:=a6n ho
  intro ρ vs w ha hi
  exact a18 mixed d7w D (lo1 _) [] 0 (d2u T b n) (a00 (decide_eq_true (by omega)) fun x hx=>ho x (f9a _ hx)) rfl rfl rfl rfl ha hi
 ·rename_i L T
  cases h
  obtain rfl:=a6n ho
  intro ρ vs w ha hi
  exact a18 mixed d7w D (lo1 _) [] 0 (d2s T) d7x.nil rfl rfl rfl rfl ha hi
 ·rename_i L T
  cases h
  obtain rfl:=a6n ho
  intro ρ vs w ha hi
  exact a18 mixed d7w D (lo1 _) [] 0 (d2t T) d7x.nil rfl rfl rfl rfl ha hi
 ·cases h
def hn4 : d82:=e0j 33 rdS hn3
theorem d7a : HOk Tryz.prog hn4:=c8v.e0j fun _ _ _ _ _ _ h ho=>d79 h ho
end Go.Proofs.YthelmpjkkkhopaaGreatDoor
namespace Go.Ev
variable [Tab]
def e4n (P : Program) (q : FuncId → Bool) (H : d82) (fuel : Nat) (g : FuncId) (ds : List Bool) (X : d82) : d82:=fun f args m =>
 match decide (f = g) with
 | true=>match ((d81 P q H fuel f args (d96 m)).go ds).flat with
  | some (o,(v,m'))=>some (o,(v,m ++ d8b (m'.drop m.length)))
  | none=>X f args m
 | false=>X f args m
section
variable {P : Program} {q : FuncId → Bool} {H X : d82}
theorem HOk.turn (hm : P.follows .mixedOrders = true) (hng : d7w P = true) (hH : HOk P H) (hX : HOk P X) (fuel : Nat) (g : FuncId) (ds : List Bool) : HOk P (e4n P q H fuel g ds X):=by
 have both : ∀ {f : FuncId} {xs : List AV} {m : Mem} {ob : List Bool} {v : AV} {m' : Mem},e4n P q H fuel g ds X f xs m = some (ob,(v,m')) → d7x ob →
   m.length ≤ m'.length ∧ ∀ {w0 : World} {S : Nat → Prop} {ρ : Nat → d8c} {w : World} {vs : List Value},d8i ρ (upto m.length) xs vs → Inv w0 S (upto m.length) ρ (getName m) w →
   d8t P f vs.toArray w (fun u w' => ∃ ρ',Rep ρ' (upto m'.length) v u ∧ Inv w0 S (upto m'.length) ρ' (getName m') w' ∧ Agr ρ ρ' (upto m.length)):=by
  intro f xs m ob v m' h ho
  have hl : (d96 m).length = m.length:=by simp [d96]
  unfold e4n at h
  split at h
  ·split at h
   ·rename_i o1 x m1 hflat
    cases h
    have hsat:=a13 (a0x hflat ho)
    refine ⟨by simp,fun {w0 S ρ w vs} ha hi => ?_⟩
    obtain ⟨hf,hc⟩:=a14 hm hH hsat (w0:=w) (S:=fun _=>False) (by rw [hl];exact ha) (b0j hi)
    refine a0y hng hf (hc.mono fun e w' ⟨u,h1,x',m2,ρ',k1,k2,k3,k4,k5⟩=>⟨u,h1,ρ', ?_⟩)
    cases k1
    rw [hl] at k4 k5
    have hlen : (m ++ d8b (m1.drop m.length)).length = m1.length:=by simp [d8b];omega
    rw [hlen]
    refine ⟨k2,hi.join k3 (fun _ h=>h.elim) (fun i hi=>by simp [upto] at *;omega) (fun _ h=>h) k4 (fun _ _=>rfl) fun k b hk => ?_,k4⟩
    rw [a07] at hk
    split at hk
    ·exact Or.inl ⟨hk,fun h=>h⟩
    ·right
     obtain ⟨g1,g2⟩:=a0d hk
     rw [a1b,show m.length + (k - m.length) = k by omega] at g1
     exact ⟨g1,g2⟩
   ·exact ⟨hX.le h ho,fun ha hi=>hX.run h ho ha hi⟩
  ·exact ⟨hX.le h ho,fun ha hi=>hX.run h ho ha hi⟩
 exact ⟨@fun f xs m ob v m' h ho=>(both h ho).1, @fun f xs m ob v m' h ho w0 S ρ w vs ha hi=>(both h ho).2 ha hi⟩
end
end Go.Ev
namespace Go.Ev
variable [Tab]
def fixC (P : Program) (q : FuncId → Bool) (H : d82) (fuel : Nat) (g : FuncId) (b : Bool) (X : d82) : d82:=fun f args m =>
 match decide (f = g) with
 | true=>match ((d81 P q H fuel f args (d96 m)).go []).flat with
  | some (o,(.bool _ c,m'))=>some (o ++ [c == b],(.bool false b,m ++ d8b (m'.drop m.length)))
  | _=>X f args m
 | false=>X f args m
section
variable {P : Program} {q : FuncId → Bool} {H X : d82}
theorem HOk.fix (hm : P.follows .mixedOrders = true) (hng : d7w P = true) (hH : HOk P H) (hX : HOk P X) (fuel : Nat) (g : FuncId) (b : Bool) : HOk P (fixC P q H fuel g b X):=by
 have hT:=HOk.turn (q:=q) hm hng hH hX fuel g []
 have key : ∀ {f : FuncId} {xs : List AV} {m : Mem} {ob : List Bool} {v : AV} {m' : Mem},fixC P q H fuel g b X f xs m = some (ob,(v,m')) → d7x ob →
   (X f xs m = some (ob,(v,m'))) ∨ (∃ o s c,e4n P q H fuel g [] X f xs m = some (o,(.bool s c,m')) ∧ d7x o ∧ c = b ∧ v = .bool false b):=by
  intro f xs m ob v m' h ho
  unfold fixC at h
  split at h
  ·rename_i hf
   split at h
   ·rename_i o s c m1 hflat
    cases h
    obtain ⟨p1,p2⟩:=a01.1 ho
    have hc:=p2 _ (f9b ..)
    simp only [beq_iff_eq] at hc
    refine Or.inr ⟨o,s,c, ?_,p1,hc,rfl⟩
    unfold e4n
    simp only [hf,hflat]
   ·exact Or.inl h
  ·exact Or.inl h
 refine ⟨@fun f xs m ob v m' h ho => ?_, @fun f xs m ob v m' h ho w0 S ρ w vs ha hi => ?_⟩
 ·rcases key h ho with h1 | ⟨o,s,c,h1,h2,_,_⟩
  ·exact hX.le h1 ho
  ·exact hT.le h1 h2
 ·rcases key h ho with h1 | ⟨o,s,c,h1,h2,h3,h4⟩
  ·exact hX.run h1 ho ha hi
  ·subst h3 h4
   refine (hT.run h1 h2 ha hi).mono fun u w' ⟨ρ',k1,k2⟩=>⟨ρ', ?_,k2⟩
   cases k1
   exact .bool _ _
end
end Go.Ev
namespace Go.Ev
variable [Tab]
def orH (X Y : d82) : d82:=fun f xs m =>
 match X f xs m with
 | some r=>some r
 | none=>Y f xs m
section
variable {P : Program} {X Y : d82}
theorem HOk.or (hX : HOk P X) (hY : HOk P Y) : HOk P (orH X Y):=by
 refine ⟨@fun f xs m ob v m' h ho => ?_, @fun f xs m ob v m' h ho w0 S ρ w vs ha hi => ?_⟩
 ·unfold orH at h
  split at h
  ·rename_i r hr;cases h;exact hX.le hr ho
  ·exact hY.le h ho
 ·unfold orH at h
  split at h
  ·rename_i r hr;cases h;exact hX.run hr ho ha hi
  ·exact hY.run h ho ha hi
end
end Go.Ev
namespace Go.Sh
open Go.Ev
theorem b8b {w N B : Nat} : ∀ {l ws op : List Int} {c : Int},ws.length = 8 → (∀ x ∈ ws,Wd w x) → 0 ≤ c ∧ c < 2 ^ 64 →
  (stW w N B ws op c l).1.length = 8 ∧ (∀ x ∈ (stW w N B ws op c l).1,Wd w x) ∧ 0 ≤ (stW w N B ws op c l).2.2 ∧ (stW w N B ws op c l).2.2 < 2 ^ 64
 | [],ws,op,c,h1,h2,h3=>⟨h1,h2,h3⟩
 | x :: l,ws,op,c,h1,h2,h3=>by
  have e : stW w N B ws op c (x :: l) = stW w N B (d9w w N B (ws,op,c) x).1 (d9w w N B (ws,op,c) x).2.1 (d9w w N B (ws,op,c) x).2.2 l:=rfl
  have hc : 0 ≤ (c + 1) % 2 ^ 64 ∧ (c + 1) % 2 ^ 64 < 2 ^ 64:=⟨by omega,by omega⟩
  rw [e]
  unfold d9w
  split
  ·have hb:=b1o (w:=w) (N:=N) (l:=op.set (c % (B : Int)).toNat x) h1 h2
   exact b8b (l:=l) hb.1 hb.2 hc
  ·exact b8b (l:=l) h1 h2 hc
end Go.Sh
namespace Go.Proofs.YthelmpjkkkhopaaGreatDoor
open Go.Ev Go.Sh
set_option maxRecDepth 100000
theorem c3i : ∀ x ∈ d9g,Wd 64 x:=a4c (by kernel_rfl)
end Go.Proofs.YthelmpjkkkhopaaGreatDoor
