/- What the library's long division answers. Own work. -/
import Derived.Test.YthelmpjkkkhopaaGreatDoorZEeDivC
import Derived.Test.YthelmpjkkkhopaaGreatDoorZMyW
import Derived.Test.YthelmpjkkkhopaaGreatDoorZMyRd
import Derived.Test.YthelmpjkkkhopaaGreatDoorZMyPr
set_option linter.unusedSimpArgs false
set_option linter.unusedVariables false
set_option linter.unusedSectionVars false
namespace Go.Proofs.YthelmpjkkkhopaaGreatDoor
open Go.Ev Go.Wn
set_option maxRecDepth 100000
def hv2 : d82:=d8g 98 lz0 hv1
theorem c76 : HOk Tryz.prog hv2:=a9f.d8g fun _ _ _ h ho=>d3g h ho
def dq (H y1 : Int) : Int:=IntKind.u64.wrap (H.tdiv y1)
def dr (H y1 : Int) : Int:=IntKind.u64.wrap (H - IntKind.u64.wrap (dq H y1 * y1))
def dQ (H y c : Int) : Int:=e07 (dq H (d88 .u64 y 32)) (dr H (d88 .u64 y 32)) (d88 .u64 y 32) (d98 .u64 y 4294967295) c
def dU (H y c : Int) : Int:=IntKind.u64.wrap (IntKind.u64.wrap (IntKind.u64.wrap (H * 4294967296) + c) - IntKind.u64.wrap (dQ H y c * y))
def dIv (H y c : Int) : Bool:=decide (e6e (dq H (d88 .u64 y 32)) (dr H (d88 .u64 y 32)) (d88 .u64 y 32) (d98 .u64 y 4294967295) c)
def f3e (H L y : Int) : AV := .tuple [.int true .u64 (IntKind.u64.wrap (IntKind.u64.wrap (dQ H y (d88 .u64 L 32) * 4294967296) + dQ (dU H y (d88 .u64 L 32)) y (d98 .u64 L 4294967295))), .int true .u64 (d88 .u64 (dU (dU H y (d88 .u64 L 32)) y (d98 .u64 L 4294967295)) 0)]
def divO (H L y : Int) : List Bool:=[!decide (d88 .u64 y 32 = 0),dIv H y (d88 .u64 L 32), !decide (d88 .u64 y 32 = 0),dIv (dU H y (d88 .u64 L 32)) y (d98 .u64 L 4294967295)]
theorem c46 (hi lo y : Int) : res ((d8a Tryz.prog d93 hv2 divΛ 100 99 (d7z 0 [.pl (.int true .u64 hi), .pl (.int true .u64 lo), .pl (.int true .u64 y)]) (d87 [.pl (.int true .u64 hi), .pl (.int true .u64 lo), .pl (.int true .u64 y)])).go [false,false,false]) =
  some ([!(y == 0), !decide (y ≤ hi), !(hi == 0),decide (9223372036854775808 ≤ y)] ++ divO (ior .u64 (d9l .u64 hi 0) (d88 .u64 lo 64)) (d9l .u64 lo 0) (d9l .u64 y 0),f3e (ior .u64 (d9l .u64 hi 0) (d88 .u64 lo 64)) (d9l .u64 lo 0) (d9l .u64 y 0)):=by kernel_rfl
theorem c0m (hi lo y : Int) : res ((d8a Tryz.prog d93 hv2 divΛ 100 99 (d7z 0 [.pl (.int true .u64 hi), .pl (.int true .u64 lo), .pl (.int true .u64 y)]) (d87 [.pl (.int true .u64 hi), .pl (.int true .u64 lo), .pl (.int true .u64 y)])).go [false,false,true]) =
  some ([!(y == 0), !decide (y ≤ hi),hi == 0, !decide (y = 0), !decide (y = 0)], .tuple [.int true .u64 (IntKind.u64.wrap (lo.tdiv y)), .int true .u64 (lo.tmod y)]):=by kernel_rfl
theorem e97 {x : Int} (h : W x) : d9l .u64 x 0 = x:=by
 unfold d9l
 rw [show (min (Int.toNat 0) IntKind.u64.bits) = 0 from rfl,Int.pow_zero,Int.mul_one]
 exact e2n h
theorem f3f {x : Int} : d88 .u64 x 0 = x:=by
 have : d88 .u64 x 0 = x / 2 ^ 0:=a2c (r:=0) (by simp [IntKind.bits])
 rw [this,Int.pow_zero,Int.ediv_one]
theorem f0t {x : Int} (h : W x) : d88 .u64 x 64 = 0:=by
 have : d88 .u64 x 64 = x / 2 ^ 64:=a2c (r:=64) (by simp [IntKind.bits])
 rw [this]
 exact Int.ediv_eq_zero_of_lt h.1 (by simpa using h.2)
theorem ior0 {x : Int} (h : W x) : ior .u64 x 0 = x:=by
 have h2:=h.2
 have:=(a1k (x:=x) (y:=0) (s:=0) (A:=x) h.1 (by rw [Int.pow_zero,Int.mul_one]) (Int.le_refl 0) (by decide) (by omega)).1
 rw [this,Int.add_zero]
theorem b1z {H y c : Int} (hy : 9223372036854775808 ≤ y ∧ y < 18446744073709551616) (hH : 0 ≤ H ∧ H < y) (hc : 0 ≤ c ∧ c < 4294967296) :
  dIv H y c = true ∧ dQ H y c = (H * 4294967296 + c) / y ∧ dU H y c = (H * 4294967296 + c) % y ∧ 0 ≤ dQ H y c ∧ dQ H y c < 4294967296:=by
 have wy : W y:=⟨by omega,hy.2⟩
 have e1 : d88 .u64 y 32 = y / 4294967296:=e1j
 have e0 : d98 .u64 y 4294967295 = y % 4294967296:=a6s wy
 have h1 : 2147483648 ≤ y / 4294967296 ∧ y / 4294967296 < 4294967296:=by omega
 have h0 : 0 ≤ y % 4294967296 ∧ y % 4294967296 < 4294967296:=by omega
 have ey : y / 4294967296 * 4294967296 + y % 4294967296 = y:=by omega
 obtain ⟨f1,f2,f3,f4,f5,f6,f7⟩:=b4o h1 h0 hc (H:=H) (by rw [ey];exact hH)
 have q1 : dq H (y / 4294967296) = H / (y / 4294967296):=by
  unfold dq
  rw [Int.tdiv_eq_ediv_of_nonneg hH.1]
  exact e2n (by omega)
 have hm : 0 ≤ H / (y / 4294967296) * (y / 4294967296):=Int.mul_nonneg f2 (by omega)
 have r1 : dr H (y / 4294967296) = H - H / (y / 4294967296) * (y / 4294967296):=by
  unfold dr
  rw [q1,e2n (y:=H / (y / 4294967296) * (y / 4294967296)) (by omega)]
  exact e2n (by omega)
 have eQ : e07 (H / (y / 4294967296)) (H - H / (y / 4294967296) * (y / 4294967296)) (y / 4294967296) (y % 4294967296) c = (H * 4294967296 + c) / y:=by
  unfold e07
  rw [ey,show H / (y / 4294967296) * (y / 4294967296) + (H - H / (y / 4294967296) * (y / 4294967296)) = H by omega]
 rw [ey] at f1 f6 f7
 have hQ : dQ H y c = (H * 4294967296 + c) / y:=by
  unfold dQ
  rw [e1,e0,q1,r1,eQ]
 refine ⟨?_,hQ, ?_,by rw [hQ];exact f6,by rw [hQ];exact f7⟩
 ·unfold dIv
  rw [e1,e0,q1,r1]
  exact decide_eq_true ⟨h1.1,h1.2,h0.1,h0.2,hc.1,hc.2,f4,by omega,f2,f3,by rw [eQ];exact f1,by rw [eQ];exact f7⟩
 ·unfold dU
  rw [hQ]
  have g1:=Int.emod_add_mul_ediv (H * 4294967296 + c) y
  have g2:=Int.emod_nonneg (H * 4294967296 + c) (show y ≠ 0 by omega)
  have g3:=Int.emod_lt_of_pos (H * 4294967296 + c) (show 0 < y by omega)
  have g4 : (H * 4294967296 + c) / y * y = y * ((H * 4294967296 + c) / y):=Int.mul_comm _ _
  simp only [a25]
  rw [g4]
  generalize y * ((H * 4294967296 + c) / y) = z at *
  omega
def f3g : List V → E (AV × Mem)
 | [.pl (.int _ .u64 hi), .pl (.int _ .u64 lo), .pl (.int _ .u64 y)]=>some ([decide (hi < y),decide (9223372036854775808 ≤ y)],(.tuple [.int true .u64 ((hi * 18446744073709551616 + lo) / y), .int true .u64 ((hi * 18446744073709551616 + lo) % y)],[]))
 | _=>none
theorem c9f {H L y q1 q0 u r : Int} (h1 : dQ H y (d88 .u64 L 32) = q1) (h2 : dU H y (d88 .u64 L 32) = u) (h3 : dQ u y (d98 .u64 L 4294967295) = q0) (h4 : dU u y (d98 .u64 L 4294967295) = r) (g1 : 0 ≤ q1 ∧ q1 < 4294967296) (g0 : 0 ≤ q0 ∧ q0 < 4294967296) :
  f3e H L y = .tuple [.int true .u64 (q1 * 4294967296 + q0), .int true .u64 r]:=by
 unfold f3e
 rw [h2,h1,h3,h4,f3f,e2n (y:=q1 * 4294967296) (by omega),e2n (y:=q1 * 4294967296 + q0) (by omega)]
theorem d3h {xs : List V} {o : List Bool} {v : AV} {bs : Mem} (h : f3g xs = some (o,(v,bs))) (ho : d7x o) : d7y Tryz.prog 99 xs v bs:=by
 unfold f3g at h
 split at h
 ·rename_i s1 hi s2 lo s3 y
  cases h
  have h1:=ho _ (f9b ..)
  have h2:=ho _ (f9a _ (f9b ..))
  rw [decide_eq_true_eq] at h1 h2
  intro ρ vs w ha hi'
  have hb:=ha
  cases hb with
  | cons _ _ _ _ r0 hb=>cases hb with
   | cons _ _ _ _ r1 hb=>cases hb with
    | cons _ _ _ _ r2 hb =>
     cases hb
     have wh:=a2d r0;have wl:=a2d r1;have wy:=a2d r2
     have ha' : d8i ρ (upto 3) (d7z 0 [.pl (.int true .u64 hi), .pl (.int true .u64 lo), .pl (.int true .u64 y)]) _ := .cons _ _ _ _ (remark r0) (.cons _ _ _ _ (remark r1) (.cons _ _ _ _ (remark r2) .nil))
     have y0 : (!(y == 0)) = true:=by
      have : ¬ y = 0:=by omega
      simpa using this
     have yh : (!decide (y ≤ hi)) = true:=by rw [decide_eq_false (by omega)];rfl
     rcases Classical.em (hi = 0) with hz | hz
     ·subst hz
      have yz : (!decide (y = 0)) = true:=by rw [decide_eq_false (by omega)];rfl
      refine a1u mixed d7w c76 (fun fn c hf hb=>by rw [a0r hf hb];exact c0j) [false,false,true] (c0m 0 lo y) (a00 y0 (a00 yh (a00 rfl (a00 yz (a00 yz d7x.nil))))) ?_ (by kernel_rfl) ha' hi'
      have hd : 0 ≤ lo / y ∧ lo / y ≤ lo:=⟨Int.ediv_nonneg wl.1 (by omega),Int.ediv_le_self y wl.1⟩
      have hl2:=wl.2
      rw [Int.tdiv_eq_ediv_of_nonneg wl.1,Int.tmod_eq_emod_of_nonneg wl.1,e2n (y:=lo / y) (by omega),Int.zero_mul,Int.zero_add]
     ·have hl1:=wl.1;have hl2:=wl.2;have hh1:=wh.1;have hy2:=wy.2
      have c1 : d88 .u64 lo 32 = lo / 4294967296:=e1j
      have c0 : d98 .u64 lo 4294967295 = lo % 4294967296:=a6s wl
      obtain ⟨a1,a2,a3,a4,a5⟩:=b1z (H:=hi) (y:=y) (c:=lo / 4294967296) ⟨h2,hy2⟩ ⟨hh1,h1⟩ (by omega)
      obtain ⟨b1,b2,b3,b4,b5⟩:=b1z (H:=(hi * 4294967296 + lo / 4294967296) % y) (y:=y) (c:=lo % 4294967296) ⟨h2,hy2⟩ ⟨Int.emod_nonneg _ (by omega),Int.emod_lt_of_pos _ (by omega)⟩ (by omega)
      obtain ⟨t1,t2⟩:=b92 (hi:=hi) (lo:=lo) (y:=y) (by omega) (lo / 4294967296) (lo % 4294967296) (by omega)
      have a2' : dQ hi y (d88 .u64 lo 32) = (hi * 4294967296 + lo / 4294967296) / y:=by rw [c1];exact a2
      have a3' : dU hi y (d88 .u64 lo 32) = (hi * 4294967296 + lo / 4294967296) % y:=by rw [c1];exact a3
      have b2' : dQ ((hi * 4294967296 + lo / 4294967296) % y) y (d98 .u64 lo 4294967295) = ((hi * 4294967296 + lo / 4294967296) % y * 4294967296 + lo % 4294967296) / y:=by rw [c0];exact b2
      have b3' : dU ((hi * 4294967296 + lo / 4294967296) % y) y (d98 .u64 lo 4294967295) = ((hi * 4294967296 + lo / 4294967296) % y * 4294967296 + lo % 4294967296) % y:=by rw [c0];exact b3
      rw [a2] at a4 a5
      rw [b2] at b4 b5
      have ev:=c46 hi lo y
      rw [e97 wh,e97 wl,e97 wy,f0t wl,ior0 wh] at ev
      have yq : (!decide (d88 .u64 y 32 = 0)) = true:=by
       rw [show d88 .u64 y 32 = y / 4294967296 from e1j,decide_eq_false (by omega)];rfl
      refine a1u mixed d7w c76 (fun fn c hf hb=>by rw [a0r hf hb];exact c0j) [false,false,false] ev (a01.2 ⟨a00 y0 (a00 yh (a00 (by simpa using hz) (a00 (decide_eq_true h2) d7x.nil))), ?_⟩) ?_ (by kernel_rfl) ha' hi'
      ·unfold divO
       rw [c1,c0,a3]
       exact a00 yq (a00 a1 (a00 yq (a00 b1 d7x.nil)))
      ·rw [c9f a2' a3' b2' b3' ⟨a4,a5⟩ ⟨b4,b5⟩,t1,t2]
 ·cases h
end Go.Proofs.YthelmpjkkkhopaaGreatDoor
namespace Go.Ev
def exN : Ex → Nat
 | .normal=>0
 | .ret=>1
 | .exit id=>id + 2
def obs (ts : List Nat) (T : Tree (Ex × St)) : Option (List Bool × Nat × List AV × Nat × Mem):=
 match T.flat with
 | some (o,(e,st))=>some (o,exN e,ts.map (fun t=>st.tm.getD t .top),st.tm.length,st.mem)
 | none=>none
theorem a7u {ts : List Nat} {T : Tree (Ex × St)} {ds : List Bool} {o : List Bool} {k n : Nat} {avs : List AV} {m : Mem} {K : Ex × St → Prop} (h : obs ts (T.go ds) = some (o,k,avs,n,m)) (ho : d7x o)
  (hk : ∀ e st,exN e = k → ts.map (fun t=>st.tm.getD t .top) = avs → st.tm.length = n → st.mem = m → K (e,st)) : T.Sat K:=by
 unfold obs at h
 split at h
 ·rename_i o' e st hf
  simp only [Option.some.injEq,Prod.mk.injEq] at h
  obtain ⟨h1,h2,h3,h4,h5⟩:=h
  rw [← h1] at ho
  exact a13 (a2f (fun p hp=>by rw [hp];exact hk e st h2 h3 h4 h5) (a0x hf ho))
 ·cases h
end Go.Ev
namespace Go.Proofs.YthelmpjkkkhopaaGreatDoor
open Go.Ev Go.Wn
set_option maxRecDepth 100000
def hv3 : d82:=d84 99 f3g (d8g 98 lzS hv1)
theorem a9g : HOk Tryz.prog hv3:=(a9f.d8g fun _ _ _ h ho=>f3d h ho).d84 fun _ _ _ _ h ho=>d3h h ho
def e1u (u m r b a : List Int) : Mem:=[none,none,some ⟨true, .ints .u64 (some 9) u⟩,some ⟨true, .ints .u64 (some 4) m⟩,some ⟨true, .ints .u64 (some 4) r⟩,some ⟨true, .ints .u64 (some 5) b⟩,some ⟨true, .ints .u64 (some 10) a⟩]
def e8m (n : Nat) (j bo : Int) : List (Nat × AV):=[(5, .int false .i64 n),(7, .ptr false 5 0),(8, .ptr false 6 0),(11, .int true .i64 j),(13, .int true .u64 bo)]
def dIx (j : Int) (i : Nat) : Bool:=decide (0 ≤ IntKind.i64.wrap (j + (i : Int))) && decide (IntKind.i64.wrap (j + (i : Int)) < ((10 : Nat) : Int))
def jx (j : Int) (i : Nat) : Nat:=0 + (IntKind.i64.wrap (j + (i : Int))).toNat * 1
def dJ (j : Int) (i : Nat) (p : Bool) : List Bool:=[dIx j i,decide (jx j i + 1 ≤ 10),p,dIx j i,decide (jx j i + 1 ≤ 10)]
def dAB (b a : List Int) (j : Int) : Nat → List Bool
 | 0=>[]
 | i + 1=>dAB b a j i ++ dJ j i (decide ((abN b (jx j) a i).2 ≤ 1))
def e3v (b a : List Int) (j : Int) (n : Nat) : Int:=(abN b (jx j) a n).1.getD (jx j n) 0 + 0 + (abN b (jx j) a n).2
def e5m (b a : List Int) (j : Int) (n : Nat) : List Int:=(abN b (jx j) a n).1.set (jx j n) (e3v b a j n % 18446744073709551616)
def R10 (n : Nat) : Prop := ∀ (x : Nat → AV) (j bo : Int) (u m r b a : List Int),
 obs [4,5,6,7,8,11,13] ((d8d Tryz.prog d93 hv3 (fun _ _=>none) 100 (lp (blk 10 (d80 Tryz.prog 65))) ⟨d8m (ups x (e8m n j bo)) 239,e1u u m r b a⟩).go [true]) =
  some (decide (bo > 0) :: (dAB b a j n ++ dJ j n (decide ((abN b (jx j) a n).2 ≤ 1))),0,[x 4, .int false .i64 n,x 6, .ptr false 5 0, .ptr false 6 0, .int true .i64 j, .int true .u64 (IntKind.u64.wrap (bo - e3v b a j n / 18446744073709551616))],239,e1u u m r b (e5m b a j n)) ∧
 obs [4,5,6,7,8,11,13] ((d8d Tryz.prog d93 hv3 (fun _ _=>none) 100 (lp (blk 10 (d80 Tryz.prog 65))) ⟨d8m (ups x (e8m n j bo)) 239,e1u u m r b a⟩).go [false]) =
  some ([!decide (bo > 0)],12,[x 4, .int false .i64 n,x 6, .ptr false 5 0, .ptr false 6 0, .int true .i64 j, .int true .u64 bo],239,e1u u m r b a)
theorem f3h : R10 1:=fun x j bo u m r b a=>⟨by kernel_rfl,by kernel_rfl⟩
theorem f3i : R10 2:=fun x j bo u m r b a=>⟨by kernel_rfl,by kernel_rfl⟩
theorem f3j : R10 3:=fun x j bo u m r b a=>⟨by kernel_rfl,by kernel_rfl⟩
theorem f3k : R10 4:=fun x j bo u m r b a=>⟨by kernel_rfl,by kernel_rfl⟩
def e8n (l : List Int) : Bool:=l.all fun x=>decide (0 ≤ x) && decide (x < 18446744073709551616)
theorem a7p {l : List Int} (h : e8n l = true) (t : Nat) : W (l.getD t 0):=by
 rw [e8n,List.all_eq_true] at h
 by_cases ht : t < l.length
 ·have:=h l[t] (List.getElem_mem ht)
  simp only [Bool.and_eq_true,decide_eq_true_eq] at this
  rw [List.getD,List.getElem?_eq_getElem ht]
  exact this
 ·rw [List.getD,List.getElem?_eq_none (by omega)]
  exact ⟨by decide,by decide⟩
def e6n : AV → Option Nat
 | .int false .i64 (.ofNat n)=>some n
 | _=>none
theorem b02 {a : AV} {n : Nat} (h : e6n a = some n) : a = .int false .i64 (n : Int):=by
 unfold e6n at h
 split at h
 ·cases h;rfl
 ·cases h
def e98 : AV → Option Int
 | .int true .i64 n=>some n
 | _=>none
theorem c47 {a : AV} {n : Int} (h : e98 a = some n) : a = .int true .i64 n:=by
 unfold e98 at h
 split at h
 ·cases h;rfl
 ·cases h
def f0f (k : Nat) : AV → Bool
 | .ptr false n 0=>Nat.beq n k
 | _=>false
theorem b70 {k : Nat} {a : AV} (h : f0f k a = true) : a = .ptr false k 0:=by
 unfold f0f at h
 split at h
 ·rw [Nat.eq_of_beq_eq_true h]
 ·cases h
structure RemS where
 u : List Int
 m : List Int
 r : List Int
 b : List Int
 a : List Int
def e7r : Mem → Option RemS
 | [none,none,some ⟨true, .ints .u64 (some 9) u⟩,some ⟨true, .ints .u64 (some 4) m⟩,some ⟨true, .ints .u64 (some 4) r⟩,some ⟨true, .ints .u64 (some 5) b⟩,some ⟨true, .ints .u64 (some 10) a⟩]=>some ⟨u,m,r,b,a⟩
 | _=>none
theorem b71 {m : Mem} {s : RemS} (h : e7r m = some s) : m = e1u s.u s.m s.r s.b s.a:=by
 unfold e7r at h
 split at h
 ·cases h;rfl
 ·cases h
def e2q (a : List Int) (j bo : Int) (n : Nat) : Int:=sg (fun t=>a.getD (j.toNat + t) 0) (n + 1) - bo * 18446744073709551616 ^ (n + 1)
def d9a (b : List Int) (n : Nat) : Int:=sg (fun t=>b.getD t 0) n
def e3x (n : Nat) (j bo : Int) (b a : List Int) : List Int:=e0g a j.toNat (e2q a j bo n % d9a b n) (n + 1)
def o10 (n : Nat) (j bo : Int) (b a : List Int) : List Bool:=[decide (1 ≤ n ∧ n ≤ 4),decide (0 ≤ j ∧ j + n ≤ 9),decide (0 ≤ bo ∧ bo ≤ 1),decide (a.length = 10),e8n a,e8n b,decide (0 < d9a b n),decide (e2q a j bo n < d9a b n)]
def remΛ1 : d8r:=fun id st=>match id with
 | 10=>match e6n (st.tm.getD 5 .top),e98 (st.tm.getD 11 .top),intOf (st.tm.getD 13 .top),e7r st.mem,f0f 5 (st.tm.getD 7 .top) && f0f 6 (st.tm.getD 8 .top) && Nat.beq st.tm.length 239 with
  | some n,some j,some bo,some s,true=>some (o10 n j bo s.b s.a,⟨d8m (ups (fun _ => .top) [(4,st.tm.getD 4 .top),(5, .int false .i64 n),(6,st.tm.getD 6 .top),(7, .ptr false 5 0),(8, .ptr false 6 0),(11, .int true .i64 j)]) 239,e1u s.u s.m s.r s.b (e3x n j bo s.b s.a)⟩)
  | _,_,_,_,_=>none
 | _=>none
theorem b93 {j : Int} {n : Nat} (h : 0 ≤ j ∧ j + n ≤ 9) : ∀ i,i ≤ n → jx j i = j.toNat + i:=fun i hi=>by
 unfold jx
 have hw : IntKind.i64.wrap (j + (i : Int)) = j + (i : Int):=a28 (by omega)
 rw [hw]
 omega
theorem b72 {j : Int} {n : Nat} (h : 0 ≤ j ∧ j + n ≤ 9) {i : Nat} (hi : i ≤ n) : dIx j i = true:=by
 have hw : IntKind.i64.wrap (j + (i : Int)) = j + (i : Int):=a28 (by omega)
 unfold dIx
 rw [hw,decide_eq_true (by omega : 0 ≤ j + (i : Int)),decide_eq_true (by omega : j + (i : Int) < ((10 : Nat) : Int))]
 rfl
theorem b03 {j : Int} {n : Nat} (h : 0 ≤ j ∧ j + n ≤ 9) {i : Nat} (hi : i ≤ n) {p : Bool} (hp : p = true) : d7x (dJ j i p):=by
 have e:=b72 h hi
 have g : decide (jx j i + 1 ≤ 10) = true:=decide_eq_true (by rw [b93 h i hi];omega)
 exact a00 e (a00 g (a00 hp (a00 e (a00 g d7x.nil))))
theorem b73 {b a : List Int} {j : Int} {n : Nat} (h : 0 ≤ j ∧ j + n ≤ 9) (hc : ∀ i,i ≤ n → (abN b (jx j) a i).2 ≤ 1) : ∀ i,i ≤ n → d7x (dAB b a j i)
 | 0,_=>d7x.nil
 | i + 1,hi=>a01.2 ⟨b73 h hc i (by omega),b03 h (by omega) (decide_eq_true (hc i (by omega)))⟩
theorem c48 {n : Nat} {j bo : Int} {b al : List Int} (h : 0 ≤ j ∧ j + n ≤ 9) (hl : al.length = 10) (hw : ∀ t,W (al.getD t 0)) (hb : ∀ t,W (b.getD t 0)) :
  (e5m b al j n).length = 10 ∧ (∀ t,W ((e5m b al j n).getD t 0)) ∧ (∀ t,t < j.toNat ∨ j.toNat + (n + 1) ≤ t → (e5m b al j n).getD t 0 = al.getD t 0) ∧ (0 ≤ e3v b al j n / 18446744073709551616 ∧ e3v b al j n / 18446744073709551616 ≤ 1) ∧
   e2q (e5m b al j n) j (bo - e3v b al j n / 18446744073709551616) n = e2q al j bo n + d9a b n ∧ ∀ i,i ≤ n → (abN b (jx j) al i).2 ≤ 1:=by
 have hs:=c35 hl hw hb (b93 h) (J:=j.toNat) (by omega)
 obtain ⟨e1,e2,e3,e4,e6⟩:=hs n (Nat.le_refl _)
 have hx:=b93 h n (Nat.le_refl _)
 have hk : j.toNat + n < (abN b (jx j) al n).1.length:=by omega
 have c2 : (abN b (jx j) al n).1.getD (j.toNat + n) 0 = al.getD (j.toNat + n) 0:=e3 _ (by omega)
 have w1:=hw (j.toNat + n)
 have hT : e3v b al j n = al.getD (j.toNat + n) 0 + (abN b (jx j) al n).2:=by unfold e3v;rw [hx,c2];omega
 have g : W (e3v b al j n % 18446744073709551616) ∧ (0 ≤ e3v b al j n / 18446744073709551616 ∧ e3v b al j n / 18446744073709551616 ≤ 1) ∧
   al.getD (j.toNat + n) 0 + (abN b (jx j) al n).2 = e3v b al j n % 18446744073709551616 + e3v b al j n / 18446744073709551616 * 18446744073709551616:=by
  rw [hT];unfold W at *;omega
 obtain ⟨g1,g2,g3⟩:=g
 refine ⟨by unfold e5m;simp [e1],by unfold e5m;exact b9q e2 g1,fun t ht => ?_,g2, ?_,fun i hi=>(hs i hi).2.2.2.1.2⟩
 ·unfold e5m
  rw [hx,a0j hk,if_neg (by omega)]
  exact e3 t (by omega)
 ·have c1 : sg (fun t=>(e5m b al j n).getD (j.toNat + t) 0) n = sg (fun t=>(abN b (jx j) al n).1.getD (j.toNat + t) 0) n:=
   a4b fun t ht=>by unfold e5m;rw [hx,a0j hk,if_neg (by omega)]
  have c3 : (e5m b al j n).getD (j.toNat + n) 0 = e3v b al j n % 18446744073709551616:=by unfold e5m;rw [hx,a0j hk,if_pos rfl]
  unfold e2q d9a
  simp only [sg]
  rw [c1,c3,Int.pow_succ]
  generalize e3v b al j n % 18446744073709551616 = X at *
  generalize e3v b al j n / 18446744073709551616 = c' at *
  generalize al.getD (j.toNat + n) 0 = x at *
  generalize (18446744073709551616 : Int) ^ n = p at *
  generalize sg (fun t=>al.getD (j.toNat + t) 0) n = A at *
  generalize sg (fun t=>b.getD t 0) n = Bs at *
  generalize sg (fun t=>(abN b (jx j) al n).1.getD (j.toNat + t) 0) n = A' at *
  generalize (abN b (jx j) al n).2 = cc at *
  grind
theorem c9g {n : Nat} (h : 1 ≤ n ∧ n ≤ 4) : R10 n:=by
 match n,h with
 | 1,_=>exact f3h
 | 2,_=>exact f3i
 | 3,_=>exact f3j
 | 4,_=>exact f3k
 | 0,h=>exact absurd h.1 (by decide)
 | k + 5,h=>exact absurd h.2 (by omega)
end Go.Proofs.YthelmpjkkkhopaaGreatDoor
