/- The reference of layer 9: a number made lower than the prime. Own work. -/
import Derived.Test.YthelmpjkkkhopaaGreatDoorZMrA
set_option linter.unusedSimpArgs false
set_option linter.unusedVariables false
set_option linter.unusedSectionVars false
namespace Go.Mo
open Go.Ev Go.Wn
def PN : List Int:=[18446744073709551597,18446744073709551615,18446744073709551615,9223372036854775807]
def pN : Int:=57896044618658097711785492504343953926634992332820282019728792003956564819949
theorem vPN : val PN = pN:=by decide +kernel
structure LwS where
 x : Int
 v : Int
def WW : Int:=115792089237316195423570985008687907853269984665640564039457584007913129639936
def e4j (x v : Int) : Int:=if x + 38 * v < WW then x + 38 * v else x + 38 * v - WW + 38
def q1 (x v : Int) : Int:=(limbs x).getD 0 0 + IntKind.u64.wrap (38 * v) + 0
def q2 (x v : Int) : Int:=(limbs x).getD 1 0 + 0 + q1 x v / 18446744073709551616
def q3 (x v : Int) : Int:=(limbs x).getD 2 0 + 0 + q2 x v / 18446744073709551616
def q4 (x v : Int) : Int:=(limbs x).getD 3 0 + 0 + q3 x v / 18446744073709551616
def lwL (x v : Int) : List Int:=[q1 x v % 18446744073709551616,q2 x v % 18446744073709551616,q3 x v % 18446744073709551616,q4 x v % 18446744073709551616]
def lwV (x v : Int) : Int:=q4 x v / 18446744073709551616
theorem f6w {x v : Int} (hx : 0 ≤ x ∧ x < WW) (hv : 0 ≤ v ∧ v < 1000) : lwL x v = limbs ((x + 38 * v) % WW) ∧ lwV x v = (x + 38 * v) / WW ∧ q1 x v / 18446744073709551616 ≤ 1 ∧ q2 x v / 18446744073709551616 ≤ 1 ∧ q3 x v / 18446744073709551616 ≤ 1:=by
 have hw : IntKind.u64.wrap (38 * v) = 38 * v:=e2n (by omega)
 have hW:=b6x x
 have hv2 : val (limbs x) = x:=by rw [a1f];exact Int.emod_eq_of_lt hx.1 hx.2
 unfold lwL lwV q4 q3 q2 q1
 rw [hw]
 obtain ⟨a0,a1,a2,a3,e⟩ : ∃ a0 a1 a2 a3,limbs x = [a0,a1,a2,a3]:=⟨_,_,_,_,rfl⟩
 rw [e] at hW hv2 ⊢
 have z : W 0:=by unfold W;omega
 obtain ⟨k1,k2,k3,k4,k5⟩:=a6y (hW a0 (by simp)) (hW a1 (by simp)) (hW a2 (by simp)) (hW a3 (by simp)) (show W (38 * v) by unfold W;omega) z z z
 have hb : val [38 * v,0,0,0] = 38 * v:=by unfold val;simp only [List.getD_cons_zero,List.getD_cons_succ];omega
 rw [hb,hv2] at k1 k2
 refine ⟨?_,k2,k3,k4,k5⟩
 have e3 : limbs ((x + 38 * v) % WW) = limbs (x + 38 * v):=a37 (Int.emod_emod_of_dvd _ (Int.dvd_refl _))
 rw [e3, ← k1]
 rfl
end Go.Mo
namespace Go.Proofs.YthelmpjkkkhopaaGreatDoor
open Go.Ev Go.Wn Go.Mo
set_option maxRecDepth 100000
def f0l : List Nat:=[1,2,4]
def lwA (s : LwS) : List AV:=[.int true .u64 s.v, .ptr false 2 0, .ptr false 3 0]
def lwM (s : LwS) : Mem:=[none,none,some ⟨true, .ints .u64 (some 4) (limbs s.x)⟩,some ⟨true, .ints .u64 (some 4) [0,0,0,0]⟩]
def lwO (x v : Int) : List Bool:=[decide (v > 0),true,decide (q1 x v / 18446744073709551616 ≤ 1),decide (q2 x v / 18446744073709551616 ≤ 1),decide (q3 x v / 18446744073709551616 ≤ 1)]
theorem lw_t (w : Nat → AV) (s : LwS) : d8p f0l ((d8d Tryz.prog qn (deep Tryz.prog qn hr0 100 3) (fun _ _=>none) 100 (lp (blk 0 (d80 Tryz.prog 108))) ⟨d8m (ups w (d8o f0l (lwA s))) 44,lwM s⟩).go [true]) =
  some (lwO s.x s.v,0,[.int true .u64 (lwV s.x s.v), .ptr false 2 0, .ptr false 3 0],44,[none,none,some ⟨true, .ints .u64 (some 4) (lwL s.x s.v)⟩,some ⟨true, .ints .u64 (some 4) [0,0,0,0]⟩]):=by
 obtain ⟨x,v⟩:=s
 kernel_rfl
theorem lw_f (w : Nat → AV) (s : LwS) : d8p f0l ((d8d Tryz.prog qn (deep Tryz.prog qn hr0 100 3) (fun _ _=>none) 100 (lp (blk 0 (d80 Tryz.prog 108))) ⟨d8m (ups w (d8o f0l (lwA s))) 44,lwM s⟩).go [false]) =
  some ([!decide (s.v > 0)],2,lwA s,44,lwM s):=by
 obtain ⟨x,v⟩:=s
 kernel_rfl
def e5z : List Nat:=[2,4]
def f1n : List AV:=[.ptr false 2 0, .ptr false 3 0]
theorem f6x (w : Nat → AV) (s : LwS) : d8p e5z ((d8d Tryz.prog qn (deep Tryz.prog qn hr0 100 3) (fun _ _=>none) 100 (lp (blk 4 (d80 Tryz.prog 108))) ⟨d8m (ups w (d8o e5z f1n)) 44,lwM s⟩).go [true]) =
  some ([!decide (vl s.x < val PN)],0,f1n,44,lwM { s with x:=vl s.x - val PN }):=by
 obtain ⟨x,v⟩:=s
 kernel_rfl
theorem f6y (w : Nat → AV) (s : LwS) : d8p e5z ((d8d Tryz.prog qn (deep Tryz.prog qn hr0 100 3) (fun _ _=>none) 100 (lp (blk 4 (d80 Tryz.prog 108))) ⟨d8m (ups w (d8o e5z f1n)) 44,lwM s⟩).go [false]) =
  some ([!(!decide (vl s.x < val PN))],6,f1n,44,lwM s):=by
 obtain ⟨x,v⟩:=s
 kernel_rfl
def lwP : List AV → Mem → Option (LwS × List Bool)
 | [.int _ .u64 v, .ptr false 2 0, .ptr false 3 0],[none,none,some ⟨true, .ints .u64 (some 4) a⟩,some ⟨true, .ints .u64 (some 4) z⟩]=>some (⟨val a,v⟩,[decide (a = limbs (val a)),decide (z = [0,0,0,0]),decide (0 ≤ v),decide (v < 1000),decide (0 ≤ val a),decide (val a < WW)])
 | _,_=>none
def f6z : List AV → Mem → Option (LwS × List Bool)
 | [.ptr false 2 0, .ptr false 3 0],[none,none,some ⟨true, .ints .u64 (some 4) a⟩,some ⟨true, .ints .u64 (some 4) z⟩]=>some (⟨val a,0⟩,[decide (a = limbs (val a)),decide (z = [0,0,0,0]),decide (0 ≤ val a),decide (val a < WW)])
 | _,_=>none
def lwF (p : LwS × List Bool) : List (Nat × AV) × Mem:=([(2, .ptr false 2 0),(4, .ptr false 3 0)],lwM ⟨e4j p.1.x p.1.v,0⟩)
def f7a (p : LwS × List Bool) : List (Nat × AV) × Mem:=([(2, .ptr false 2 0),(4, .ptr false 3 0)],lwM ⟨p.1.x % pN,0⟩)
def lwN (s : LwS) : LwS:=⟨(s.x + 38 * s.v) % WW,(s.x + 38 * s.v) / WW⟩
def lwJ (p s : LwS × List Bool) : Prop:=0 ≤ p.1.x ∧ p.1.x < WW ∧ 0 ≤ p.1.v ∧ p.1.v < 1000 ∧ (s.1 = p.1 ∨ s.1 = lwN p.1 ∨ s.1 = lwN (lwN p.1))
def lwJ2 (p s : LwS × List Bool) : Prop:=0 ≤ p.1.x ∧ p.1.x < WW ∧ 0 ≤ s.1.x ∧ s.1.x < WW ∧ s.1.x % pN = p.1.x % pN
def f1o (s : LwS × List Bool) : Nat:=if s.1.v = 0 then 0 else if s.1.x < 38000 then 1 else 2
theorem d63 {Λ : d8r} (hΛ : LOk Tryz.prog (d80 Tryz.prog 108) Λ) : LOk Tryz.prog (d80 Tryz.prog 108) (e0p 0 44 f0l lwP (fun p=>p.2) lwF Λ):=by
 refine a29 (q:=qn) (n:=100) (fun p : LwS × List Bool=>lwA p.1) (fun p=>lwM p.1) lwJ f1o mixed (b7z.deep (q:=qn) mixed d7w 100 3) hΛ LOk.none (by kernel_rfl) (by kernel_rfl) (fun s=>rfl) (fun s=>rfl) (fun avs mm p h ho => ?_) (fun p s hJ w => ?_)
 ·unfold lwP at h
  split at h
  ·rename_i sb v a z
   cases h
   have p0:=f9c (ho _ (f9b ..))
   have p1:=f9c (ho _ (f9a _ (f9b ..)))
   have p2:=f9c (ho _ (f9a _ (f9a _ (f9b ..))))
   have p3:=f9c (ho _ (f9a _ (f9a _ (f9a _ (f9b ..)))))
   have p4:=f9c (ho _ (f9a _ (f9a _ (f9a _ (f9a _ (f9b ..))))))
   have p5:=f9c (ho _ (f9a _ (f9a _ (f9a _ (f9a _ (f9a _ (f9b ..)))))))
   refine ⟨(⟨val a,v⟩,[]), ?_, ?_,p4,p5,p2,p3, .inl rfl⟩
   ·cases sb
    ·exact .cons (.int _ _ _) (.cons (.refl _) (.cons (.refl _) .nil))
    ·exact .cons (.refl _) (.cons (.refl _) (.cons (.refl _) .nil))
   ·rw [p1]
    unfold lwM
    simp only
    rw [← p0]
  ·cases h
 ·obtain ⟨h1,h2,h3,h4,hs⟩:=hJ
  obtain ⟨⟨x,v⟩,pb⟩:=p
  obtain ⟨⟨y,u⟩,sb⟩:=s
  simp only at h1 h2 h3 h4 hs
  have hr : (0 ≤ y ∧ y < WW) ∧ (0 ≤ u ∧ u < 1000) ∧ (u = 0 → y = e4j x v) ∧ (u ≠ 0 → lwJ (⟨x,v⟩,pb) (lwN ⟨y,u⟩,sb) ∧ f1o (lwN ⟨y,u⟩,sb) < f1o (⟨y,u⟩,sb)):=by
   rcases hs with hs | hs | hs
   ·cases hs
    refine ⟨⟨h1,h2⟩,⟨h3,h4⟩,fun h0 => ?_,fun h0=>⟨⟨h1,h2,h3,h4, .inr (.inl rfl)⟩, ?_⟩⟩
    ·unfold e4j WW at *;rw [if_pos (by omega)];omega
    ·unfold f1o lwN WW at *
     simp only
     rw [if_neg h0]
     split
     ·split <;> omega
     ·split <;> split <;> omega
   ·unfold lwN at hs
    cases hs
    simp only
    refine ⟨by unfold WW at *;omega,by unfold WW at *;omega,fun h0 => ?_,fun h0=>⟨⟨h1,h2,h3,h4, .inr (.inr rfl)⟩, ?_⟩⟩
    ·unfold e4j WW at *;split <;> omega
    ·unfold f1o lwN WW at *
     simp only
     rw [if_neg h0]
     split
     ·split <;> omega
     ·split <;> split <;> omega
   ·unfold lwN at hs
    cases hs
    simp only
    have e0 : ((x + 38 * v) % WW + 38 * ((x + 38 * v) / WW)) / WW = 0:=by unfold WW at *;omega
    refine ⟨by unfold WW at *;omega,by unfold WW at *;omega,fun h0 => ?_,fun h0=>absurd e0 h0⟩
    ·unfold e4j WW at *;split <;> omega
  obtain ⟨r1,r2,r3,r4⟩:=hr
  by_cases h0 : u = 0
  ·subst h0
   refine Round.out (lw_f w _) rfl (by show lwM ⟨y,0⟩ = lwM ⟨e4j x v,0⟩;rw [← r3 rfl]) (a00 rfl d7x.nil) fun q hq => ?_
   simp only [lwF,List.mem_cons,List.not_mem_nil,or_false] at hq
   rcases hq with rfl | rfl
   ·exact ⟨_,f9a _ (f9b ..), .refl _⟩
   ·exact ⟨_,f9a _ (f9a _ (f9b ..)), .refl _⟩
  ·obtain ⟨e1,e2,e3,e4,e5⟩:=f6w r1 r2
   obtain ⟨j1,j2⟩:=r4 h0
   refine Round.on (lw_t w ⟨y,u⟩) (lwN ⟨y,u⟩,sb) [] ?_ (a00 (decide_eq_true (by simp only;omega)) (a00 rfl (a00 (decide_eq_true e3) (a00 (decide_eq_true e4) (a00 (decide_eq_true e5) d7x.nil))))) ?_ j1 rfl j2
   ·simp only [List.append_nil]
    rw [e1]
    rfl
   ·rw [e2]
    exact LeL.refl _
theorem d21 {Λ : d8r} (hΛ : LOk Tryz.prog (d80 Tryz.prog 108) Λ) : LOk Tryz.prog (d80 Tryz.prog 108) (e0p 4 44 e5z f6z (fun p=>p.2) f7a Λ):=by
 refine a29 (q:=qn) (n:=100) (fun p : LwS × List Bool=>f1n) (fun p=>lwM p.1) lwJ2 (fun s=>s.1.x.toNat) mixed (b7z.deep (q:=qn) mixed d7w 100 3) hΛ LOk.none (by kernel_rfl) (by kernel_rfl) (fun s=>rfl) (fun s=>rfl) (fun avs mm p h ho => ?_) (fun p s hJ w => ?_)
 ·unfold f6z at h
  split at h
  ·rename_i a z
   cases h
   have p0:=f9c (ho _ (f9b ..))
   have p1:=f9c (ho _ (f9a _ (f9b ..)))
   have p2:=f9c (ho _ (f9a _ (f9a _ (f9b ..))))
   have p3:=f9c (ho _ (f9a _ (f9a _ (f9a _ (f9b ..)))))
   refine ⟨(⟨val a,0⟩,[]), .cons (.refl _) (.cons (.refl _) .nil), ?_,p2,p3,p2,p3,rfl⟩
   rw [p1]
   unfold lwM
   simp only
   rw [← p0]
  ·cases h
 ·obtain ⟨h1,h2,h3,h4,hs⟩:=hJ
  obtain ⟨⟨x,v⟩,pb⟩:=p
  obtain ⟨⟨y,u⟩,sb⟩:=s
  simp only at h1 h2 h3 h4 hs
  have hv : vl y = y:=a2m ⟨h3,h4⟩
  have hP : pN = 57896044618658097711785492504343953926634992332820282019728792003956564819949:=rfl
  by_cases hlt : y < pN
  ·refine Round.out (f6y w _) rfl ?_ (a00 (by simp only;rw [hv,vPN,decide_eq_true hlt];rfl) d7x.nil) fun q hq => ?_
   ·show lwM ⟨y,u⟩ = lwM ⟨x % pN,0⟩
    rw [← hs,Int.emod_eq_of_lt h3 hlt]
    rfl
   ·simp only [f7a,List.mem_cons,List.not_mem_nil,or_false] at hq
    rcases hq with rfl | rfl
    ·exact ⟨_,f9b .., .refl _⟩
    ·exact ⟨_,f9a _ (f9b ..), .refl _⟩
  ·refine Round.on (f6x w ⟨y,u⟩) (⟨y - pN,u⟩,sb) [] ?_ (a00 (by simp only;rw [hv,vPN,decide_eq_false hlt];rfl) d7x.nil) (LeL.refl _) ⟨h1,h2,by simp only;omega,by simp only;omega, ?_⟩ rfl (by simp only;omega)
   ·simp only [List.append_nil]
    rw [hv,vPN]
   ·simp only
    rw [← hs,Int.sub_emod,Int.emod_self,Int.sub_zero,Int.emod_emod_of_dvd _ (Int.dvd_refl _)]
def lwΛ : d8r:=e0p 4 44 e5z f6z (fun p=>p.2) f7a (e0p 0 44 f0l lwP (fun p=>p.2) lwF (fun _ _=>none))
theorem lwΛ_ok : LOk Tryz.prog (d80 Tryz.prog 108) lwΛ:=d21 (d63 LOk.none)
def lwO1 (a : List Int) (v : Int) : List Bool:=[decide (a = limbs (val a)),true,decide (0 ≤ v),decide (v < 1000),decide (0 ≤ val a),decide (val a < WW),decide (limbs (e4j (val a) v) = limbs (val (limbs (e4j (val a) v)))),true,decide (0 ≤ val (limbs (e4j (val a) v))),decide (val (limbs (e4j (val a) v)) < WW)]
theorem c5f (a0 a1 a2 a3 v : Int) (s : Bool) : res (d8a Tryz.prog qn (deep Tryz.prog qn hr0 100 3) lwΛ 100 108 (d7z 0 [.pl (.ints .u64 4 [a0,a1,a2,a3]), .pl (.int s .u64 v)]) (d87 [.pl (.ints .u64 4 [a0,a1,a2,a3]), .pl (.int s .u64 v)])) =
  some (lwO1 [a0,a1,a2,a3] v, .ints .u64 4 (limbs (val (limbs (e4j (val [a0,a1,a2,a3]) v)) % pN))):=by kernel_rfl
end Go.Proofs.YthelmpjkkkhopaaGreatDoor
namespace Go.Mo
open Go.Ev Go.Wn
theorem d22 {x v : Int} (hx : 0 ≤ x ∧ x < WW) (hv : 0 ≤ v ∧ v < 1000) : (0 ≤ e4j x v ∧ e4j x v < WW) ∧ e4j x v % pN = (x + v * WW) % pN:=by
 unfold e4j WW pN at *
 refine ⟨by split <;> omega,by split <;> omega⟩
def pYy (a b t c : Int) : Int:=((a * b % 18446744073709551616 + t + 0) % 18446744073709551616 + c + 0) % 18446744073709551616
def pCc (a b t c : Int) : Int:=IntKind.u64.wrap (IntKind.u64.wrap (a * b / 18446744073709551616 + (a * b % 18446744073709551616 + t + 0) / 18446744073709551616) + ((a * b % 18446744073709551616 + t + 0) % 18446744073709551616 + c + 0) / 18446744073709551616)
theorem pYC {a b t c : Int} (ha : W a) (hb : W b) (ht : W t) (hc : W c) : W (pYy a b t c) ∧ W (pCc a b t c) ∧ a * b + t + c = 18446744073709551616 * pCc a b t c + pYy a b t c:=by
 obtain ⟨_,e1,e2⟩:=b69 ha hb ht hc
 obtain ⟨h1,h2,h3⟩:=b3t ha hb ht hc
 unfold pYy pCc
 rw [e1,e2]
 exact ⟨h2,h1,h3⟩
structure Rw where
 y0 : Int
 y1 : Int
 y2 : Int
 y3 : Int
 c : Int
def rwR (a b0 b1 b2 b3 t0 t1 t2 t3 : Int) : Rw:=
 ⟨pYy a b0 t0 0,pYy a b1 t1 (pCc a b0 t0 0),pYy a b2 t2 (pCc a b1 t1 (pCc a b0 t0 0)),pYy a b3 t3 (pCc a b2 t2 (pCc a b1 t1 (pCc a b0 t0 0))),pCc a b3 t3 (pCc a b2 t2 (pCc a b1 t1 (pCc a b0 t0 0)))⟩
theorem b1g {a b0 b1 b2 b3 t0 t1 t2 t3 : Int} (ha : W a) (h0 : W b0) (h1 : W b1) (h2 : W b2) (h3 : W b3) (k0 : W t0) (k1 : W t1) (k2 : W t2) (k3 : W t3) :
  (W (rwR a b0 b1 b2 b3 t0 t1 t2 t3).y0 ∧ W (rwR a b0 b1 b2 b3 t0 t1 t2 t3).y1 ∧ W (rwR a b0 b1 b2 b3 t0 t1 t2 t3).y2 ∧ W (rwR a b0 b1 b2 b3 t0 t1 t2 t3).y3 ∧ W (rwR a b0 b1 b2 b3 t0 t1 t2 t3).c) ∧
  (rwR a b0 b1 b2 b3 t0 t1 t2 t3).y0 + 18446744073709551616 * (rwR a b0 b1 b2 b3 t0 t1 t2 t3).y1 + 340282366920938463463374607431768211456 * (rwR a b0 b1 b2 b3 t0 t1 t2 t3).y2 + 6277101735386680763835789423207666416102355444464034512896 * (rwR a b0 b1 b2 b3 t0 t1 t2 t3).y3 + 115792089237316195423570985008687907853269984665640564039457584007913129639936 * (rwR a b0 b1 b2 b3 t0 t1 t2 t3).c =
   a * b0 + 18446744073709551616 * (a * b1) + 340282366920938463463374607431768211456 * (a * b2) + 6277101735386680763835789423207666416102355444464034512896 * (a * b3) + (t0 + 18446744073709551616 * t1 + 340282366920938463463374607431768211456 * t2 + 6277101735386680763835789423207666416102355444464034512896 * t3):=by
 have z : W 0:=by unfold W;omega
 obtain ⟨w0,v0,e0⟩:=pYC ha h0 k0 z
 obtain ⟨w1,v1,e1⟩:=pYC ha h1 k1 v0
 obtain ⟨w2,v2,e2⟩:=pYC ha h2 k2 v1
 obtain ⟨w3,v3,e3⟩:=pYC ha h3 k3 v2
 refine ⟨⟨w0,w1,w2,w3,v3⟩, ?_⟩
 unfold rwR
 simp only
 generalize pCc a b3 t3 (pCc a b2 t2 (pCc a b1 t1 (pCc a b0 t0 0))) = c4 at *
 generalize pYy a b3 t3 (pCc a b2 t2 (pCc a b1 t1 (pCc a b0 t0 0))) = y3 at *
 generalize pCc a b2 t2 (pCc a b1 t1 (pCc a b0 t0 0)) = c3 at *
 generalize pYy a b2 t2 (pCc a b1 t1 (pCc a b0 t0 0)) = y2 at *
 generalize pCc a b1 t1 (pCc a b0 t0 0) = c2 at *
 generalize pYy a b1 t1 (pCc a b0 t0 0) = y1 at *
 generalize pCc a b0 t0 0 = c1 at *
 generalize pYy a b0 t0 0 = y0 at *
 generalize a * b0 = m0 at *
 generalize a * b1 = m1 at *
 generalize a * b2 = m2 at *
 generalize a * b3 = m3 at *
 clear w0 w1 w2 w3 v0 v1 v2 v3 ha h0 h1 h2 h3 k0 k1 k2 k3
 omega
def r1 (a0 b0 b1 b2 b3 : Int) : Rw:=rwR a0 b0 b1 b2 b3 0 0 0 0
def r2 (a0 a1 b0 b1 b2 b3 : Int) : Rw:=rwR a1 b0 b1 b2 b3 (r1 a0 b0 b1 b2 b3).y1 (r1 a0 b0 b1 b2 b3).y2 (r1 a0 b0 b1 b2 b3).y3 (r1 a0 b0 b1 b2 b3).c
def r3 (a0 a1 a2 b0 b1 b2 b3 : Int) : Rw:=rwR a2 b0 b1 b2 b3 (r2 a0 a1 b0 b1 b2 b3).y1 (r2 a0 a1 b0 b1 b2 b3).y2 (r2 a0 a1 b0 b1 b2 b3).y3 (r2 a0 a1 b0 b1 b2 b3).c
def r4 (a0 a1 a2 a3 b0 b1 b2 b3 : Int) : Rw:=rwR a3 b0 b1 b2 b3 (r3 a0 a1 a2 b0 b1 b2 b3).y1 (r3 a0 a1 a2 b0 b1 b2 b3).y2 (r3 a0 a1 a2 b0 b1 b2 b3).y3 (r3 a0 a1 a2 b0 b1 b2 b3).c
def fdR (l0 l1 l2 l3 h0 h1 h2 h3 : Int) : Rw:=
 ⟨pYy h0 38 0 l0,pYy h1 38 (pCc h0 38 0 l0) l1,pYy h2 38 (pCc h1 38 (pCc h0 38 0 l0) l1) l2,pYy h3 38 (pCc h2 38 (pCc h1 38 (pCc h0 38 0 l0) l1) l2) l3,pCc h3 38 (pCc h2 38 (pCc h1 38 (pCc h0 38 0 l0) l1) l2) l3⟩
def muR (a0 a1 a2 a3 b0 b1 b2 b3 : Int) : Rw:=fdR (r1 a0 b0 b1 b2 b3).y0 (r2 a0 a1 b0 b1 b2 b3).y0 (r3 a0 a1 a2 b0 b1 b2 b3).y0 (r4 a0 a1 a2 a3 b0 b1 b2 b3).y0 (r4 a0 a1 a2 a3 b0 b1 b2 b3).y1 (r4 a0 a1 a2 a3 b0 b1 b2 b3).y2 (r4 a0 a1 a2 a3 b0 b1 b2 b3).y3 (r4 a0 a1 a2 a3 b0 b1 b2 b3).c
theorem d23 {l0 l1 l2 l3 h0 h1 h2 h3 : Int} (w0 : W l0) (w1 : W l1) (w2 : W l2) (w3 : W l3) (k0 : W h0) (k1 : W h1) (k2 : W h2) (k3 : W h3) :
  (W (fdR l0 l1 l2 l3 h0 h1 h2 h3).y0 ∧ W (fdR l0 l1 l2 l3 h0 h1 h2 h3).y1 ∧ W (fdR l0 l1 l2 l3 h0 h1 h2 h3).y2 ∧ W (fdR l0 l1 l2 l3 h0 h1 h2 h3).y3 ∧ 0 ≤ (fdR l0 l1 l2 l3 h0 h1 h2 h3).c ∧ (fdR l0 l1 l2 l3 h0 h1 h2 h3).c < 1000) ∧
  (fdR l0 l1 l2 l3 h0 h1 h2 h3).y0 + 18446744073709551616 * (fdR l0 l1 l2 l3 h0 h1 h2 h3).y1 + 340282366920938463463374607431768211456 * (fdR l0 l1 l2 l3 h0 h1 h2 h3).y2 + 6277101735386680763835789423207666416102355444464034512896 * (fdR l0 l1 l2 l3 h0 h1 h2 h3).y3 + 115792089237316195423570985008687907853269984665640564039457584007913129639936 * (fdR l0 l1 l2 l3 h0 h1 h2 h3).c =
   (l0 + 18446744073709551616 * l1 + 340282366920938463463374607431768211456 * l2 + 6277101735386680763835789423207666416102355444464034512896 * l3) + 38 * (h0 + 18446744073709551616 * h1 + 340282366920938463463374607431768211456 * h2 + 6277101735386680763835789423207666416102355444464034512896 * h3):=by
 have z : W 0:=by unfold W;omega
 have q : W 38:=by unfold W;omega
 obtain ⟨x0,v0,e0⟩:=pYC k0 q z w0
 obtain ⟨x1,v1,e1⟩:=pYC k1 q v0 w1
 obtain ⟨x2,v2,e2⟩:=pYC k2 q v1 w2
 obtain ⟨x3,v3,e3⟩:=pYC k3 q v2 w3
 unfold fdR
 simp only
 generalize pCc h3 38 (pCc h2 38 (pCc h1 38 (pCc h0 38 0 l0) l1) l2) l3 = c4 at *
 generalize pYy h3 38 (pCc h2 38 (pCc h1 38 (pCc h0 38 0 l0) l1) l2) l3 = y3 at *
 generalize pCc h2 38 (pCc h1 38 (pCc h0 38 0 l0) l1) l2 = c3 at *
 generalize pYy h2 38 (pCc h1 38 (pCc h0 38 0 l0) l1) l2 = y2 at *
 generalize pCc h1 38 (pCc h0 38 0 l0) l1 = c2 at *
 generalize pYy h1 38 (pCc h0 38 0 l0) l1 = y1 at *
 generalize pCc h0 38 0 l0 = c1 at *
 generalize pYy h0 38 0 l0 = y0 at *
 refine ⟨⟨x0,x1,x2,x3,v3.1, ?_⟩, ?_⟩
 ·unfold W at *
  omega
 ·clear x0 x1 x2 x3 v0 v1 v2 v3 w0 w1 w2 w3 k0 k1 k2 k3
  omega
theorem d24 {a0 a1 a2 a3 b0 b1 b2 b3 : Int} (ha0 : W a0) (ha1 : W a1) (ha2 : W a2) (ha3 : W a3) (hb0 : W b0) (hb1 : W b1) (hb2 : W b2) (hb3 : W b3) :
  (0 ≤ (muR a0 a1 a2 a3 b0 b1 b2 b3).c ∧ (muR a0 a1 a2 a3 b0 b1 b2 b3).c < 1000) ∧
  (val [(muR a0 a1 a2 a3 b0 b1 b2 b3).y0,(muR a0 a1 a2 a3 b0 b1 b2 b3).y1,(muR a0 a1 a2 a3 b0 b1 b2 b3).y2,(muR a0 a1 a2 a3 b0 b1 b2 b3).y3] + (muR a0 a1 a2 a3 b0 b1 b2 b3).c * WW) % pN = (val [a0,a1,a2,a3] * val [b0,b1,b2,b3]) % pN:=by
 have z : W 0:=by unfold W;omega
 obtain ⟨⟨u0,u1,u2,u3,u4⟩,e1⟩:=b1g ha0 hb0 hb1 hb2 hb3 z z z z
 obtain ⟨⟨v0,v1,v2,v3,v4⟩,e2⟩:=b1g ha1 hb0 hb1 hb2 hb3 u1 u2 u3 u4
 obtain ⟨⟨w0,w1,w2,w3,w4⟩,e3⟩:=b1g ha2 hb0 hb1 hb2 hb3 v1 v2 v3 v4
 obtain ⟨⟨x0,x1,x2,x3,x4⟩,e4⟩:=b1g ha3 hb0 hb1 hb2 hb3 w1 w2 w3 w4
 obtain ⟨⟨y0,y1,y2,y3,y4⟩,e5⟩:=d23 u0 v0 w0 x0 x1 x2 x3 x4
 refine ⟨y4, ?_⟩
 have e6 : val [a0,a1,a2,a3] * val [b0,b1,b2,b3] = (a0 * b0 + 18446744073709551616 * (a0 * b1) + 340282366920938463463374607431768211456 * (a0 * b2) + 6277101735386680763835789423207666416102355444464034512896 * (a0 * b3)) + 18446744073709551616 * (a1 * b0 + 18446744073709551616 * (a1 * b1) + 340282366920938463463374607431768211456 * (a1 * b2) + 6277101735386680763835789423207666416102355444464034512896 * (a1 * b3)) + 340282366920938463463374607431768211456 * (a2 * b0 + 18446744073709551616 * (a2 * b1) + 340282366920938463463374607431768211456 * (a2 * b2) + 6277101735386680763835789423207666416102355444464034512896 * (a2 * b3)) + 6277101735386680763835789423207666416102355444464034512896 * (a3 * b0 + 18446744073709551616 * (a3 * b1) + 340282366920938463463374607431768211456 * (a3 * b2) + 6277101735386680763835789423207666416102355444464034512896 * (a3 * b3)):=by
  unfold val
  simp only [List.getD_cons_zero,List.getD_cons_succ]
  grind
 rw [e6]
 unfold muR val
 simp only [List.getD_cons_zero,List.getD_cons_succ]
 unfold r4 r3 r2 r1 at *
 generalize hR1 : rwR a0 b0 b1 b2 b3 0 0 0 0 = R1 at *
 generalize hR2 : rwR a1 b0 b1 b2 b3 R1.y1 R1.y2 R1.y3 R1.c = R2 at *
 generalize hR3 : rwR a2 b0 b1 b2 b3 R2.y1 R2.y2 R2.y3 R2.c = R3 at *
 generalize hR4 : rwR a3 b0 b1 b2 b3 R3.y1 R3.y2 R3.y3 R3.c = R4 at *
 generalize fdR R1.y0 R2.y0 R3.y0 R4.y0 R4.y1 R4.y2 R4.y3 R4.c = R5 at *
 clear hR1 hR2 hR3 hR4 u0 u1 u2 u3 u4 v0 v1 v2 v3 v4 w0 w1 w2 w3 w4 x0 x1 x2 x3 x4 y0 y1 y2 y3 y4 ha0 ha1 ha2 ha3 hb0 hb1 hb2 hb3 z
 rw [← Int.sub_zero (a0 * b0 + _ + _ + _)] at *
 unfold WW pN
 omega
end Go.Mo
namespace Go.Proofs.YthelmpjkkkhopaaGreatDoor
open Go.Ev Go.Wn Go.Mo
set_option maxRecDepth 100000
def f7b : List V → E (AV × Mem)
 | [.pl (.ints .u64 4 a), .pl (.int _ .u64 v)]=>some ([decide (0 ≤ v),decide (v < 1000)],(.ints .u64 4 (limbs ((val a + v * WW) % pN)),[]))
 | _=>none
theorem d25 {xs : List V} {o : List Bool} {v : AV} {bs : Mem} (h : f7b xs = some (o,(v,bs))) (ho : d7x o) : d7y Tryz.prog 108 xs v bs:=by
 unfold f7b at h
 split at h
 ·rename_i a s v
  cases h
  have h1:=f9c (ho _ (f9b ..))
  have h2:=f9c (ho _ (f9a _ (f9b ..)))
  intro ρ vs w ha hi
  have hb:=ha
  cases hb with
  | cons _ _ _ _ r0 hb =>
   obtain ⟨a0,a1,a2,a3,rfl,w0,w1,w2,w3⟩:=a0g r0
   have hr:=a08 w0 w1 w2 w3
   have hl:=a3j w0 w1 w2 w3
   obtain ⟨l1,l2⟩:=d22 (x:=val [a0,a1,a2,a3]) hr ⟨h1,h2⟩
   have hv : val (limbs (e4j (val [a0,a1,a2,a3]) v)) = e4j (val [a0,a1,a2,a3]) v:=a2m l1
   have ev:=c5f a0 a1 a2 a3 v s
   refine a3b mixed d7w (b7z.deep (q:=qn) mixed d7w 100 3) (fun fn c hf hb=>by rw [a0r hf hb];exact lwΛ_ok) ev ?_ (by rw [hv,l2]) (by kernel_rfl) ha hi
   unfold lwO1
   rw [hv]
   exact a00 (decide_eq_true hl.symm) (a00 rfl (a00 (decide_eq_true h1) (a00 (decide_eq_true h2) (a00 (decide_eq_true hr.1) (a00 (decide_eq_true hr.2) (a00 (decide_eq_true rfl) (a00 rfl (a00 (decide_eq_true l1.1) (a00 (decide_eq_true l1.2) d7x.nil)))))))))
 ·cases h
def hr1 : d82:=d84 108 f7b hr0
theorem b3w : HOk Tryz.prog hr1:=b7z.d84 fun _ _ _ _ h ho=>d25 h ho
def rwl (r : Rw) : List Int:=[r.y0,r.y1,r.y2,r.y3]
theorem d26 (a0 a1 a2 a3 b0 b1 b2 b3 : Int) : res (d81 Tryz.prog qn (deep Tryz.prog qn hr1 100 3) 200 93 [.ints .u64 4 [a0,a1,a2,a3], .ints .u64 4 [b0,b1,b2,b3]] []) =
  some (List.replicate 40 true ++ [decide (0 ≤ (muR a0 a1 a2 a3 b0 b1 b2 b3).c),decide ((muR a0 a1 a2 a3 b0 b1 b2 b3).c < 1000)], .ints .u64 4 (limbs ((val (rwl (muR a0 a1 a2 a3 b0 b1 b2 b3)) + (muR a0 a1 a2 a3 b0 b1 b2 b3).c * WW) % pN))):=by kernel_rfl
def rmS : List AV → E AV
 | [.ints .u64 4 a, .ints .u64 4 b]=>some ([], .ints .u64 4 (limbs ((val a * val b) % pN)))
 | _=>none
theorem f7c {args : List AV} {o : List Bool} {v : AV} (h : rmS args = some (o,v)) : d86 Tryz.prog 93 args v:=by
 unfold rmS at h
 split at h
 ·rename_i a b
  cases h
  intro ρ N vs ha
  have hb:=ha
  cases hb with
  | cons _ _ _ _ r1 hb=>cases hb with
   | cons _ _ _ _ r2 hb =>
    obtain ⟨a0,a1,a2,a3,rfl,wa0,wa1,wa2,wa3⟩:=a0g r1
    obtain ⟨b0,b1,b2,b3,rfl,wb0,wb1,wb2,wb3⟩:=a0g r2
    obtain ⟨m1,m2⟩:=d24 wa0 wa1 wa2 wa3 wb0 wb1 wb2 wb3
    exact a0b mixed d7w (b3w.deep (q:=qn) mixed d7w 100 3) (by kernel_rfl) (d26 a0 a1 a2 a3 b0 b1 b2 b3)
     (a01.2 ⟨fun x hx=>(List.mem_replicate.1 hx).2,a00 (decide_eq_true m1.1) (a00 (decide_eq_true m1.2) d7x.nil)⟩) (by rw [← m2];rfl) (by kernel_rfl) ha
 ·cases h
def raS : List AV → E AV
 | [.ints .u64 4 a, .ints .u64 4 b]=>some ([], .ints .u64 4 (limbs ((val a + val b) % pN)))
 | _=>none
theorem d27 (a b : List Int) : res (d81 Tryz.prog qn (deep Tryz.prog qn hr1 100 3) 200 102 [.ints .u64 4 a, .ints .u64 4 b] []) =
  some ([decide (0 ≤ (val a + val b) / 115792089237316195423570985008687907853269984665640564039457584007913129639936),decide ((val a + val b) / 115792089237316195423570985008687907853269984665640564039457584007913129639936 < 1000)], .ints .u64 4 (limbs ((val (limbs (val a + val b)) + (val a + val b) / 115792089237316195423570985008687907853269984665640564039457584007913129639936 * WW) % pN))):=by kernel_rfl
theorem f7d {args : List AV} {o : List Bool} {v : AV} (h : raS args = some (o,v)) : d86 Tryz.prog 102 args v:=by
 unfold raS at h
 split at h
 ·rename_i a b
  cases h
  intro ρ N vs ha
  have hb:=ha
  cases hb with
  | cons _ _ _ _ r1 hb=>cases hb with
   | cons _ _ _ _ r2 hb =>
    obtain ⟨a0,a1,a2,a3,ea,wa0,wa1,wa2,wa3⟩:=a0g r1
    obtain ⟨b0,b1,b2,b3,eb,wb0,wb1,wb2,wb3⟩:=a0g r2
    have h1 : 0 ≤ val a ∧ val a < WW:=by rw [ea];exact a08 wa0 wa1 wa2 wa3
    have h2 : 0 ≤ val b ∧ val b < WW:=by rw [eb];exact a08 wb0 wb1 wb2 wb3
    have ev:=d27 a b
    rw [a1f] at ev
    generalize val a = x at *
    generalize val b = y at *
    have e : (x + y) % 115792089237316195423570985008687907853269984665640564039457584007913129639936 + (x + y) / 115792089237316195423570985008687907853269984665640564039457584007913129639936 * WW = x + y:=by unfold WW at *;omega
    rw [e] at ev
    exact a0b mixed d7w (b3w.deep (q:=qn) mixed d7w 100 3) (by kernel_rfl) ev
     (a00 (decide_eq_true (by unfold WW at *;omega)) (a00 (decide_eq_true (by unfold WW at *;omega)) d7x.nil)) rfl (by kernel_rfl) ha
 ·cases h
theorem f7e {x y : Int} (h1 : 0 ≤ x ∧ x < WW) (h2 : 0 ≤ y ∧ y < WW) (l1 : x < pN) (l2 : y < pN) (h : x < y) : limbs (val (limbs (x - y)) + val PN) = limbs ((x - y) % pN):=by
 rw [a1f,vPN]
 refine a37 ?_
 unfold WW pN W4 at *
 omega
theorem f7f {x y : Int} (h1 : 0 ≤ x ∧ x < WW) (h2 : 0 ≤ y ∧ y < WW) (l1 : x < pN) (l2 : y < pN) (h : ¬ x < y) : limbs (x - y) = limbs ((x - y) % pN):=by
 refine a37 ?_
 unfold WW pN W4 at *
 omega
def rsS : List AV → E AV
 | [.ints .u64 4 a, .ints .u64 4 b]=>some ([decide (val a < pN),decide (val b < pN)], .ints .u64 4 (limbs ((val a - val b) % pN)))
 | _=>none
theorem rs_t (a b : List Int) : res ((d81 Tryz.prog qn (deep Tryz.prog qn hr1 100 3) 200 101 [.ints .u64 4 a, .ints .u64 4 b] []).go [true]) =
  some ([decide ((if val a < val b then (1 : Int) else 0) > 0)], .ints .u64 4 (limbs (val (limbs (val a - val b)) + val PN))):=by kernel_rfl
theorem rs_f (a b : List Int) : res ((d81 Tryz.prog qn (deep Tryz.prog qn hr1 100 3) 200 101 [.ints .u64 4 a, .ints .u64 4 b] []).go [false]) =
  some ([!decide ((if val a < val b then (1 : Int) else 0) > 0)], .ints .u64 4 (limbs (val a - val b))):=by kernel_rfl
theorem f7g {args : List AV} {o : List Bool} {v : AV} (h : rsS args = some (o,v)) (ho : d7x o) : d86 Tryz.prog 101 args v:=by
 unfold rsS at h
 split at h
 ·rename_i a b
  cases h
  have l1:=f9c (ho _ (f9b ..))
  have l2:=f9c (ho _ (f9a _ (f9b ..)))
  intro ρ N vs ha
  have hb:=ha
  cases hb with
  | cons _ _ _ _ r1 hb=>cases hb with
   | cons _ _ _ _ r2 hb =>
    obtain ⟨a0,a1,a2,a3,ea,wa0,wa1,wa2,wa3⟩:=a0g r1
    obtain ⟨b0,b1,b2,b3,eb,wb0,wb1,wb2,wb3⟩:=a0g r2
    have h1 : 0 ≤ val a ∧ val a < WW:=by rw [ea];exact a08 wa0 wa1 wa2 wa3
    have h2 : 0 ≤ val b ∧ val b < WW:=by rw [eb];exact a08 wb0 wb1 wb2 wb3
    by_cases hlt : val a < val b
    ·have ev:=rs_t a b
     rw [if_pos hlt] at ev
     refine a0k mixed d7w (b3w.deep (q:=qn) mixed d7w 100 3) [true] (by kernel_rfl) ev (a00 rfl d7x.nil) ?_ (by kernel_rfl) ha
     rw [f7e h1 h2 l1 l2 hlt]
    ·have ev:=rs_f a b
     rw [if_neg hlt] at ev
     refine a0k mixed d7w (b3w.deep (q:=qn) mixed d7w 100 3) [false] (by kernel_rfl) ev (a00 rfl d7x.nil) ?_ (by kernel_rfl) ha
     rw [f7f h1 h2 l1 l2 hlt]
 ·cases h
def hr2 : d82:=d8g 93 rmS (d8g 102 raS (d8g 101 rsS hr1))
theorem c2o : HOk Tryz.prog hr2:=((b3w.d8g fun _ _ _ h ho=>f7g h ho).d8g fun _ _ _ h _=>f7d h).d8g fun _ _ _ h _=>f7c h
end Go.Proofs.YthelmpjkkkhopaaGreatDoor
namespace Go.Mo
open Go.Ev Go.Wn
structure PwS where
 a0 : List Int
 e : List Int
 A : Int
 R : Int
 i : Int
def nM (x y : Int) : Int:=(vl x * vl y) % pN
end Go.Mo
namespace Go.Proofs.YthelmpjkkkhopaaGreatDoor
open Go.Ev Go.Wn Go.Mo
set_option maxRecDepth 100000
def e8u : List Nat:=[2,3,4,5,6]
def pwV (s : PwS) : List AV:=[.ptr false 2 0, .ptr false 3 0, .ptr false 4 0, .ptr false 5 0, .int true .i64 s.i]
def pwM (s : PwS) : Mem:=[none,none,some ⟨true, .ints .u64 (some 4) (limbs s.A)⟩,some ⟨true, .ints .u64 (some 4) s.e⟩,some ⟨true, .ints .u64 (some 4) [0,0,0,0]⟩,some ⟨true, .ints .u64 (some 4) (limbs s.R)⟩]
end Go.Proofs.YthelmpjkkkhopaaGreatDoor
