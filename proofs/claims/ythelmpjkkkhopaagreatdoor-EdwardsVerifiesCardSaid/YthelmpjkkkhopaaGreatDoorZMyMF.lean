/- What the program's functions of layer 2 answer, given a modulus: once, sum, shrunk, grown, rest. Own work. -/
import Derived.Test.YthelmpjkkkhopaaGreatDoorZMyMC
import Derived.Test.YthelmpjkkkhopaaGreatDoorZEvLoop
set_option linter.unusedSimpArgs false
set_option linter.unusedVariables false
set_option linter.unusedSectionVars false
namespace Go.Wn
open Go.Ev
def W4 : Int:=115792089237316195423570985008687907853269984665640564039457584007913129639936
def good (L : List Int) : Bool:=
 decide (val L % 2 = 1) && decide (1 < val L) && decide ((L.getD 0 0 * L.getD 4 0 + 1) % 18446744073709551616 = 0) && decide (val (L.drop 5) = (2 ^ 256 * 2 ^ 256) % val L)
theorem a26 {L : List Int} : good L = true ↔ val L % 2 = 1 ∧ 1 < val L ∧ (L.getD 0 0 * L.getD 4 0 + 1) % 18446744073709551616 = 0 ∧ val (L.drop 5) = (2 ^ 256 * 2 ^ 256) % val L:=by
 simp [good,and_assoc]
theorem c2t {c : Int} (hc : c = 0 ∨ c = 1) (p : Bool) : e0h .u64 (match p with | true=>1 | false=>0) c = (match p with | true=>1 - c | false=>0):=by
 rcases hc with rfl | rfl <;> cases p <;> decide
theorem b3x (x : Int) : limbs (x % W4) = limbs x:=by
 unfold limbs W4
 congr 1
 ·omega
 congr 1
 ·omega
 congr 1
 ·omega
 congr 1
 omega
theorem a37 {x y : Int} (h : x % W4 = y % W4) : limbs x = limbs y:=by
 rw [← b3x x,h,b3x]
theorem d2c {n : List Int} {c M : Int} (hn : ∃ a b e d,n = [a,b,e,d] ∧ W a ∧ W b ∧ W e ∧ W d) (hc : W c) (hM : 0 < M ∧ M < W4) (h : val n + W4 * c < 2 * M) :
  (if e0h .u64 (if val n < M then 1 else 0) c % 2 = 1 then n else limbs (val n - M)) = limbs ((val n + W4 * c) % M):=by
 obtain ⟨a0,a1,a2,a3,rfl,h0,h1,h2,h3⟩:=hn
 have hr:=a08 h0 h1 h2 h3
 have hl:=a0w h0 h1 h2 h3
 generalize val [a0,a1,a2,a3] = N at *
 unfold W at hc
 simp only [W4] at *
 have hc' : c = 0 ∨ c = 1:=by omega
 have hi:=c2t hc' (decide (N < M))
 by_cases hlt : N < M
 ·rw [decide_eq_true hlt] at hi
  simp only at hi
  rw [if_pos hlt,hi]
  rcases hc' with rfl | rfl
  ·rw [if_pos (by decide), ← hl,Int.mul_zero,Int.add_zero,Int.emod_eq_of_lt hr.1 hlt]
  ·rw [if_neg (by decide)]
   apply a37
   have e : (N + 115792089237316195423570985008687907853269984665640564039457584007913129639936 * 1) % M = N + 115792089237316195423570985008687907853269984665640564039457584007913129639936 * 1 - M:=by
    rw [← Int.sub_emod_right,Int.emod_eq_of_lt (by omega) (by omega)]
   rw [e]
   simp only [W4]
   omega
 ·rw [decide_eq_false hlt] at hi
  simp only at hi
  rw [if_neg hlt,hi,if_neg (by decide)]
  rcases hc' with rfl | rfl
  ·rw [Int.mul_zero,Int.add_zero, ← Int.sub_emod_right N M,Int.emod_eq_of_lt (by omega) (by omega)]
  ·exfalso;omega
end Go.Wn
namespace Go.Proofs.YthelmpjkkkhopaaGreatDoor
open Go.Ev Go.Wn
set_option maxRecDepth 100000
theorem nine {L : List Int} (h : L.length = 9) : ∃ a b c d e f g i j,L = [a,b,c,d,e,f,g,i,j]:=by
 match L,h with
 | [a,b,c,d,e,f,g,i,j],_=>exact ⟨a,b,c,d,e,f,g,i,j,rfl⟩
theorem a2n {ρ : Nat → d8c} {N : Nat → Prop} {w : World} {xs : List V} (hi : Inv w (fun _=>False) N ρ (getName (d87 xs)) w) {L : List Int} {r : List V} (hx : xs = .pt (.ints .u64 (some 9) L) :: r) :
  ∃ m0 m1 m2 m3 ni s0 s1 s2 s3,L = [m0,m1,m2,m3,ni,s0,s1,s2,s3] ∧ W m0 ∧ W m1 ∧ W m2 ∧ W m3 ∧ W ni ∧ W s0 ∧ W s1 ∧ W s2 ∧ W s3:=by
 obtain ⟨h1,h2⟩:=d4f hi 0 (by rw [hx];rfl)
 obtain ⟨a,b,c,d,e,f,g,i,j,rfl⟩:=nine (h1 9 rfl)
 exact ⟨a,b,c,d,e,f,g,i,j,rfl,a1d (h2 _ (by simp)),a1d (h2 _ (by simp)),a1d (h2 _ (by simp)),a1d (h2 _ (by simp)),a1d (h2 _ (by simp)),a1d (h2 _ (by simp)),a1d (h2 _ (by simp)),a1d (h2 _ (by simp)),a1d (h2 _ (by simp))⟩
theorem a6t (m0 m1 m2 m3 : Int) (r : List Int) : val (m0 :: m1 :: m2 :: m3 :: r) = val [m0,m1,m2,m3]:=rfl
def f7r : List V → E (AV × Mem)
 | [.pt (.ints .u64 (some 9) L), .pl (.ints .u64 4 n), .pl (.int _ .u64 c)]=>some ([decide (0 < val L),decide (val n + W4 * c < 2 * val L)],(.ints .u64 4 (limbs ((val n + W4 * c) % val L)),[]))
 | _=>none
theorem c5r (m0 m1 m2 m3 ni s0 s1 s2 s3 : Int) (n : List Int) (s : Bool) (c : Int) : res (d81 Tryz.prog d93 hm2 100 90 (d7z 0 [.pt (.ints .u64 (some 9) [m0,m1,m2,m3,ni,s0,s1,s2,s3]), .pl (.ints .u64 4 n), .pl (.int s .u64 c)]) (d87 [.pt (.ints .u64 (some 9) [m0,m1,m2,m3,ni,s0,s1,s2,s3]), .pl (.ints .u64 4 n), .pl (.int s .u64 c)])) =
  some ([], .ints .u64 4 (e2i (e0h .u64 (if val n < val [m0,m1,m2,m3] then 1 else 0) c) n (limbs (val n - val [m0,m1,m2,m3])))):=by kernel_rfl
theorem d6d {xs : List V} {o : List Bool} {v : AV} {bs : Mem} (h : f7r xs = some (o,(v,bs))) (ho : d7x o) : d7y Tryz.prog 90 xs v bs:=by
 unfold f7r at h
 split at h
 ·rename_i L n s c
  cases h
  have hp:=ho _ (f9b ..)
  have hd:=ho _ (f9a _ (f9b ..))
  rw [decide_eq_true_eq] at hd hp
  intro ρ vs w ha hi
  obtain ⟨m0,m1,m2,m3,ni,s0,s1,s2,s3,rfl,w0,w1,w2,w3,_⟩:=a2n hi rfl
  have hb:=ha
  cases hb with
  | cons _ _ _ _ r0 hb=>cases hb with
   | cons _ _ _ _ r1 hb=>cases hb with
    | cons _ _ _ _ r2 hb =>
     have hM:=a08 w0 w1 w2 w3
     have e:=d2c (a0g r1) (a2d r2) (M:=val [m0,m1,m2,m3]) ⟨hp,hM.2⟩ hd
     exact a16 mixed d7w c8j (c5r m0 m1 m2 m3 ni s0 s1 s2 s3 n s c) d7x.nil (by rw [a6t m0 m1 m2 m3 [ni,s0,s1,s2,s3]];unfold e2i;rw [e]) (by kernel_rfl) ha hi
 ·cases h
def hm3 : d82:=d84 90 f7r hm2
theorem c8k : HOk Tryz.prog hm3:=c8j.d84 fun _ _ _ _ h ho=>d6d h ho
def f7s : List V → E (AV × Mem)
 | [.pt (.ints .u64 (some 9) L), .pl (.ints .u64 4 a), .pl (.ints .u64 4 b)]=>some ([decide (val L % 2 = 1),decide ((L.getD 0 0 * L.getD 4 0 + 1) % 18446744073709551616 = 0),decide (val b < val L)],(.ints .u64 4 (limbs (mont (val a) (val b) (val L))),[]))
 | _=>none
theorem c5s (m0 m1 m2 m3 ni s0 s1 s2 s3 a0 a1 a2 a3 b0 b1 b2 b3 : Int) : res (d81 Tryz.prog d93 hm3 100 56 (d7z 0 [.pt (.ints .u64 (some 9) [m0, m1, m2, m3, ni, s0, s1, s2, s3]), .pl (.ints .u64 4 [a0, a1, a2, a3]), .pl (.ints .u64 4 [b0, b1, b2, b3])])
   (d87 [.pt (.ints .u64 (some 9) [m0,m1,m2,m3,ni,s0,s1,s2,s3]), .pl (.ints .u64 4 [a0,a1,a2,a3]), .pl (.ints .u64 4 [b0,b1,b2,b3])])) =
  some ([true,true,true,true,true,true,true,true,decide (0 < val [m0,m1,m2,m3]),decide (v5 (turns [m0,m1,m2,m3] [b0,b1,b2,b3] ni a0 a1 a2 a3) < 2 * val [m0,m1,m2,m3])],
   .ints .u64 4 (limbs (v5 (turns [m0,m1,m2,m3] [b0,b1,b2,b3] ni a0 a1 a2 a3) % val [m0,m1,m2,m3]))):=by kernel_rfl
theorem d6e {xs : List V} {o : List Bool} {v : AV} {bs : Mem} (h : f7s xs = some (o,(v,bs))) (ho : d7x o) : d7y Tryz.prog 56 xs v bs:=by
 unfold f7s at h
 split at h
 ·rename_i L a b
  cases h
  have h1:=ho _ (f9b ..)
  have h2:=ho _ (f9a _ (f9b ..))
  have h3:=ho _ (f9a _ (f9a _ (f9b ..)))
  rw [decide_eq_true_eq] at h1 h2 h3
  intro ρ vs w ha hi
  obtain ⟨m0,m1,m2,m3,ni,s0,s1,s2,s3,rfl,w0,w1,w2,w3,wi,_⟩:=a2n hi rfl
  have hb:=ha
  cases hb with
  | cons _ _ _ _ r0 hb=>cases hb with
   | cons _ _ _ _ r1 hb=>cases hb with
    | cons _ _ _ _ r2 hb =>
     obtain ⟨a0,a1,a2,a3,rfl,u0,u1,u2,u3⟩:=a0g r1
     obtain ⟨b0,b1,b2,b3,rfl,x0,x1,x2,x3⟩:=a0g r2
     rw [a6t m0 m1 m2 m3 [ni,s0,s1,s2,s3]] at h1 h3
     rw [a6t m0 m1 m2 m3 [ni,s0,s1,s2,s3]]
     have hB:=a08 x0 x1 x2 x3
     obtain ⟨t1,t2,t3⟩:=b9o (ni:=ni) w0 w1 w2 w3 x0 x1 x2 x3 u0 u1 u2 u3 h2 h3
     have e:=d1v h1 t3
     exact a16 mixed d7w c8k (c5s m0 m1 m2 m3 ni s0 s1 s2 s3 a0 a1 a2 a3 b0 b1 b2 b3)
      (a7q rfl (a00 (decide_eq_true (by omega)) (a00 (decide_eq_true (by omega)) d7x.nil)) 8) (by rw [e]) (by kernel_rfl) ha hi
 ·cases h
def hm4 : d82:=d84 56 f7s hm3
theorem c2u : HOk Tryz.prog hm4:=c8k.d84 fun _ _ _ _ h ho=>d6e h ho
def f7t : List V → E (AV × Mem)
 | [.pt (.ints .u64 (some 9) L), .pl (.ints .u64 4 a), .pl (.ints .u64 4 b)]=>some ([decide (0 < val L),decide (val a + val b < 2 * val L)],(.ints .u64 4 (limbs ((val a + val b) % val L)),[]))
 | _=>none
theorem c5t (m0 m1 m2 m3 ni s0 s1 s2 s3 : Int) (a b : List Int) : res (d81 Tryz.prog d93 hm4 100 54 (d7z 0 [.pt (.ints .u64 (some 9) [m0,m1,m2,m3,ni,s0,s1,s2,s3]), .pl (.ints .u64 4 a), .pl (.ints .u64 4 b)]) (d87 [.pt (.ints .u64 (some 9) [m0,m1,m2,m3,ni,s0,s1,s2,s3]), .pl (.ints .u64 4 a), .pl (.ints .u64 4 b)])) =
  some ([decide (0 < val [m0,m1,m2,m3]),decide (val (limbs (val a + val b)) + W4 * ((val a + val b) / W4) < 2 * val [m0,m1,m2,m3])], .ints .u64 4 (limbs ((val (limbs (val a + val b)) + W4 * ((val a + val b) / W4)) % val [m0,m1,m2,m3]))):=by kernel_rfl
theorem d6f {xs : List V} {o : List Bool} {v : AV} {bs : Mem} (h : f7t xs = some (o,(v,bs))) (ho : d7x o) : d7y Tryz.prog 54 xs v bs:=by
 unfold f7t at h
 split at h
 ·rename_i L a b
  cases h
  have h1:=ho _ (f9b ..)
  have h2:=ho _ (f9a _ (f9b ..))
  rw [decide_eq_true_eq] at h1 h2
  intro ρ vs w ha hi
  obtain ⟨m0,m1,m2,m3,ni,s0,s1,s2,s3,rfl,w0,w1,w2,w3,wi,_⟩:=a2n hi rfl
  rw [a6t m0 m1 m2 m3 [ni,s0,s1,s2,s3]] at h1 h2
  rw [a6t m0 m1 m2 m3 [ni,s0,s1,s2,s3]]
  have e : val (limbs (val a + val b)) + W4 * ((val a + val b) / W4) = val a + val b:=by rw [a1f];unfold W4;omega
  exact a16 mixed d7w c2u (c5t m0 m1 m2 m3 ni s0 s1 s2 s3 a b) (a00 (decide_eq_true h1) (a00 (decide_eq_true (by rw [e];exact h2)) d7x.nil)) (by rw [e]) (by kernel_rfl) ha hi
 ·cases h
def f7u : List V → E (AV × Mem)
 | [.pt (.ints .u64 (some 9) L), .pl (.ints .u64 4 a)]=>some ([good L],(.ints .u64 4 (limbs ((val a * 2 ^ 256) % val L)),[]))
 | _=>none
theorem c5u (m0 m1 m2 m3 ni s0 s1 s2 s3 : Int) (a : List Int) : res (d81 Tryz.prog d93 hm4 100 57 (d7z 0 [.pt (.ints .u64 (some 9) [m0,m1,m2,m3,ni,s0,s1,s2,s3]), .pl (.ints .u64 4 a)]) (d87 [.pt (.ints .u64 (some 9) [m0,m1,m2,m3,ni,s0,s1,s2,s3]), .pl (.ints .u64 4 a)])) =
  some ([decide (val [m0,m1,m2,m3,ni,s0,s1,s2,s3] % 2 = 1),decide ((m0 * ni + 1) % 18446744073709551616 = 0),decide (val [s0,s1,s2,s3] < val [m0,m1,m2,m3,ni,s0,s1,s2,s3])], .ints .u64 4 (limbs (mont (val a) (val [s0,s1,s2,s3]) (val [m0,m1,m2,m3,ni,s0,s1,s2,s3])))):=by kernel_rfl
theorem d6g {xs : List V} {o : List Bool} {v : AV} {bs : Mem} (h : f7u xs = some (o,(v,bs))) (ho : d7x o) : d7y Tryz.prog 57 xs v bs:=by
 unfold f7u at h
 split at h
 ·rename_i L a
  cases h
  obtain ⟨h1,h2,h3,h4⟩:=a26.1 (ho _ (f9b ..))
  intro ρ vs w ha hi
  obtain ⟨m0,m1,m2,m3,ni,s0,s1,s2,s3,rfl,w0,w1,w2,w3,wi,_⟩:=a2n hi rfl
  have h4' : val [s0,s1,s2,s3] = (2 ^ 256 * 2 ^ 256) % val [m0,m1,m2,m3,ni,s0,s1,s2,s3]:=h4
  have hs : val [s0,s1,s2,s3] < val [m0,m1,m2,m3,ni,s0,s1,s2,s3]:=by rw [h4'];exact Int.emod_lt_of_pos _ (by omega)
  have e:=b67 (a:=val a) (b:=val [s0,s1,s2,s3]) h1 (by rw [h4',Int.emod_emod_of_dvd _ (Int.dvd_refl _)])
  exact a16 mixed d7w c2u (c5u m0 m1 m2 m3 ni s0 s1 s2 s3 a) (a00 (decide_eq_true h1) (a00 (decide_eq_true h3) (a00 (decide_eq_true hs) d7x.nil))) (by rw [e]) (by kernel_rfl) ha hi
 ·cases h
def hm5 : d82:=d84 57 f7u (d84 54 f7t hm4)
theorem c8l : HOk Tryz.prog hm5:=(c2u.d84 fun _ _ _ _ h ho=>d6f h ho).d84 fun _ _ _ _ h ho=>d6g h ho
def f7v : List V → E (AV × Mem)
 | [.pt (.ints .u64 (some 9) L), .pl (.ints .u64 4 a)]=>some ([good L],(.ints .u64 4 (limbs (val a % val L)),[]))
 | _=>none
def rst1 (M : Int) (a : List Int) : List Int:=limbs (mont (val [1,0,0,0]) (val (limbs ((val a * 2 ^ 256) % M))) M)
theorem c5v (m0 m1 m2 m3 ni s0 s1 s2 s3 : Int) (a : List Int) : ((d81 Tryz.prog d93 hm5 100 55 (d7z 0 [.pt (.ints .u64 (some 9) [m0,m1,m2,m3,ni,s0,s1,s2,s3]), .pl (.ints .u64 4 a)]) (d87 [.pt (.ints .u64 (some 9) [m0,m1,m2,m3,ni,s0,s1,s2,s3]), .pl (.ints .u64 4 a)]))).mix =
  some ([decide (val a < val [m0,m1,m2,m3,ni,s0,s1,s2,s3]) || good [m0,m1,m2,m3,ni,s0,s1,s2,s3],decide (val a < val [m0,m1,m2,m3,ni,s0,s1,s2,s3]) || decide (val [m0,m1,m2,m3,ni,s0,s1,s2,s3] % 2 = 1),decide (val a < val [m0,m1,m2,m3,ni,s0,s1,s2,s3]) || decide ((m0 * ni + 1) % 18446744073709551616 = 0),decide (val a < val [m0,m1,m2,m3,ni,s0,s1,s2,s3]) || decide (val (limbs ((val a * 2 ^ 256) % val [m0,m1,m2,m3,ni,s0,s1,s2,s3])) < val [m0,m1,m2,m3,ni,s0,s1,s2,s3])],
   .ints .u64 4 (match decide (val a < val [m0,m1,m2,m3]) with | true=>a | false=>rst1 (val [m0,m1,m2,m3,ni,s0,s1,s2,s3]) a)):=by kernel_rfl
theorem d6h {xs : List V} {o : List Bool} {v : AV} {bs : Mem} (h : f7v xs = some (o,(v,bs))) (ho : d7x o) : d7y Tryz.prog 55 xs v bs:=by
 unfold f7v at h
 split at h
 ·rename_i L a
  cases h
  have hg:=ho _ (f9b ..)
  obtain ⟨h1,h2,h3,h4⟩:=a26.1 hg
  intro ρ vs w ha hi
  obtain ⟨m0,m1,m2,m3,ni,s0,s1,s2,s3,rfl,w0,w1,w2,w3,wi,_⟩:=a2n hi rfl
  have hb:=ha
  cases hb with
  | cons _ _ _ _ r0 hb=>cases hb with
   | cons _ _ _ _ r1 hb =>
    obtain ⟨a0,a1,a2,a3,rfl,u0,u1,u2,u3⟩:=a0g r1
    have hM : 0 < val [m0,m1,m2,m3,ni,s0,s1,s2,s3] ∧ val [m0,m1,m2,m3,ni,s0,s1,s2,s3] < W4:=⟨by omega,(a08 w0 w1 w2 w3).2⟩
    have hA:=a08 u0 u1 u2 u3
    have hgr : val (limbs ((val [a0,a1,a2,a3] * 2 ^ 256) % val [m0,m1,m2,m3,ni,s0,s1,s2,s3])) = (val [a0,a1,a2,a3] * 2 ^ 256) % val [m0,m1,m2,m3,ni,s0,s1,s2,s3]:=by
     rw [a1f]
     exact Int.emod_eq_of_lt (Int.emod_nonneg _ (by omega)) (Int.lt_trans (Int.emod_lt_of_pos _ hM.1) hM.2)
    refine b5t mixed d7w c8l (c5v m0 m1 m2 m3 ni s0 s1 s2 s3 [a0,a1,a2,a3]) (a00 (by rw [hg];simp) (a00 (by rw [decide_eq_true h1];simp) (a00 ?_ (a00 ?_ d7x.nil)))) ?_ (by kernel_rfl) ha hi
    ·rw [decide_eq_true (show (m0 * ni + 1) % 18446744073709551616 = 0 from h3)];simp
    ·rw [hgr,decide_eq_true (Int.emod_lt_of_pos _ hM.1)];simp
    ·by_cases hlt : val [a0,a1,a2,a3] < val [m0,m1,m2,m3,ni,s0,s1,s2,s3]
     ·rw [decide_eq_true (show val [a0,a1,a2,a3] < val [m0,m1,m2,m3] from hlt),Int.emod_eq_of_lt hA.1 hlt,a0w u0 u1 u2 u3]
     ·rw [decide_eq_false (show ¬ val [a0,a1,a2,a3] < val [m0,m1,m2,m3] from hlt)]
      unfold rst1
      rw [hgr,a3t h1,show val [1,0,0,0] = 1 from rfl,Int.one_mul]
 ·cases h
def hm6 : d82:=d84 55 f7v hm5
theorem c2v : HOk Tryz.prog hm6:=c8l.d84 fun _ _ _ _ h ho=>d6h h ho
end Go.Proofs.YthelmpjkkkhopaaGreatDoor
namespace Go.Ev
section
variable {P : Program} {q : FuncId → Bool} {H : d82}
end
end Go.Ev
namespace Go.Wn
open Go.Ev
def e4l (n v : Int) : Int:=IntKind.u64.wrap (v * IntKind.u64.wrap (2 - IntKind.u64.wrap (n * v)))
def e6k (n : Int) : Int:=e4l n (e4l n (e4l n (e4l n (e4l n n))))
theorem c5w (n v : Int) : e4l n v = (v * (2 - n * v)) % 18446744073709551616:=by
 unfold e4l
 simp only [a25]
 rw [a1c]
 have e : (2 - n * v % 18446744073709551616) % 18446744073709551616 = (2 - n * v) % 18446744073709551616:=by omega
 rw [← a1c v (2 - n * v % 18446744073709551616),e,a1c]
theorem a3v {n v d : Int} (e : Int) (hd : d ∣ n * v - 1) (he : d * d = e ∨ (∃ c,d * d = c * e)) (hb : e ∣ 18446744073709551616) : e ∣ n * e4l n v - 1:=by
 rw [c5w]
 obtain ⟨x,hx⟩:=hd
 obtain ⟨y,hy⟩:=hb
 have e1 : v * (2 - n * v) % 18446744073709551616 = v * (2 - n * v) - 18446744073709551616 * (v * (2 - n * v) / 18446744073709551616):=by
  have:=Int.emod_add_mul_ediv (v * (2 - n * v)) 18446744073709551616
  omega
 rw [e1,hy]
 generalize v * (2 - n * v) / (e * y) = k
 have hv : n * v = d * x + 1:=by omega
 have e2 : n * (v * (2 - n * v) - e * y * k) - 1 = -(d * d) * (x * x) - e * (n * y * k):=by
  have : n * (v * (2 - n * v) - e * y * k) = (n * v) * (2 - n * v) - e * (n * y * k):=by grind
  rw [this,hv]
  grind
 rw [e2]
 have hdd : e ∣ d * d:=by
  rcases he with h | ⟨c,h⟩
  ·exact ⟨1,by rw [h,Int.mul_one]⟩
  ·exact ⟨c,by rw [h,Int.mul_comm]⟩
 exact Int.dvd_sub (Int.dvd_mul_of_dvd_left (Int.dvd_neg.2 hdd)) (Int.dvd_mul_right _ _)
theorem c2w {n : Int} (h : n % 2 = 1) : (n * e6k n - 1) % 18446744073709551616 = 0:=by
 have h0 : (8 : Int) ∣ n * n - 1:=by
  obtain ⟨k,rfl⟩ : ∃ k,n = 2 * k + 1:=⟨n / 2,by omega⟩
  have e : (2 * k + 1) * (2 * k + 1) - 1 = 4 * (k * (k + 1)):=by grind
  rw [e]
  have : k % 2 = 0 ∨ k % 2 = 1:=by omega
  rcases this with hk | hk
  ·obtain ⟨j,rfl⟩ : ∃ j,k = 2 * j:=⟨k / 2,by omega⟩
   exact ⟨j * (2 * j + 1),by grind⟩
  ·obtain ⟨j,rfl⟩ : ∃ j,k = 2 * j + 1:=⟨k / 2,by omega⟩
   exact ⟨(2 * j + 1) * (j + 1),by grind⟩
 have h1:=a3v 64 h0 (Or.inl rfl) ⟨288230376151711744,by decide⟩
 have h2:=a3v 4096 h1 (Or.inl rfl) ⟨4503599627370496,by decide⟩
 have h3:=a3v 16777216 h2 (Or.inl rfl) ⟨1099511627776,by decide⟩
 have h4:=a3v 281474976710656 h3 (Or.inl rfl) ⟨65536,by decide⟩
 have h5:=a3v 18446744073709551616 h4 (Or.inr ⟨4294967296,by decide⟩) ⟨1,by decide⟩
 exact Int.emod_eq_zero_of_dvd h5
def hiF (b : Int → Int) : Nat → Int
 | 0=>0
 | k + 1=>match b (k + 1) == 0 with | true=>hiF b k | false=>k + 1
theorem b80 {M : Int} (h0 : 0 ≤ M) (b : Int → Int) (hb : ∀ k : Nat,k ≤ 255 → b k = M / 2 ^ k % 2) : ∀ k : Nat,k ≤ 255 → M < 2 ^ (k + 1) →
  ∃ i : Nat,hiF b k = i ∧ i ≤ k ∧ M < 2 ^ (i + 1) ∧ (i = 0 ∨ 2 ^ i ≤ M)
 | 0,_,hM=>⟨0,rfl,Nat.le_refl _,hM,Or.inl rfl⟩
 | k + 1,hk,hM=>by
  have e:=hb (k + 1) hk
  have hp : (0 : Int) < 2 ^ (k + 1):=Int.pow_pos (by omega)
  unfold hiF
  cases hc : b ((k : Int) + 1) == 0 with
  | true =>
   simp only
   have hz : M / 2 ^ (k + 1) % 2 = 0:=by
    rw [← e];simpa using hc
   have hlt : M / 2 ^ (k + 1) < 2:=by
    apply Int.ediv_lt_of_lt_mul hp
    rw [Int.pow_succ] at hM
    omega
   have hge : 0 ≤ M / 2 ^ (k + 1):=Int.ediv_nonneg h0 (by omega)
   have hq : M / 2 ^ (k + 1) = 0:=by omega
   have hM' : M < 2 ^ (k + 1):=by
    have:=Int.lt_ediv_add_one_mul_self M hp
    rw [hq] at this
    omega
   obtain ⟨i,h1,h2,h3,h4⟩:=b80 h0 b hb k (by omega) hM'
   exact ⟨i,h1,by omega,h3,h4⟩
  | false =>
   simp only
   have hz : M / 2 ^ (k + 1) % 2 ≠ 0:=by
    rw [← e];simpa using hc
   refine ⟨k + 1,rfl,Nat.le_refl _,hM,Or.inr ?_⟩
   rcases Int.lt_or_le M (2 ^ (k + 1)) with hlt | hge
   ·rw [Int.ediv_eq_zero_of_lt h0 hlt] at hz
    exact absurd rfl hz
   ·exact hge
theorem d6i {a y : Int} {r : Nat} (hr : r < 64) : (a + 18446744073709551616 * y) / 2 ^ r % 2 = a / 2 ^ r % 2:=by
 have e : (18446744073709551616 : Int) = 2 ^ r * (2 * 2 ^ (63 - r)):=by
  rw [← Int.mul_assoc,Int.mul_comm (2 ^ r) 2,Int.mul_assoc, ← Int.pow_add,show r + (63 - r) = 63 by omega]
  rfl
 rw [e,Int.mul_assoc,Int.add_mul_ediv_left _ _ (Int.ne_of_gt (Int.pow_pos (by omega))),Int.mul_assoc,Int.add_mul_emod_self_left]
theorem a6u {a0 a1 a2 a3 : Int} (h0 : W a0) (h1 : W a1) (h2 : W a2) (h3 : W a3) {k : Nat} (hk : k ≤ 255) : f1l [a0,a1,a2,a3] k = val [a0,a1,a2,a3] / 2 ^ k % 2:=by
 unfold f1l
 have e1 : ((k : Int)).tdiv 64 = ((k / 64 : Nat) : Int):=by rw [Int.tdiv_eq_ediv_of_nonneg (by omega)];omega
 have e2 : ((k : Int)).tmod 64 = ((k % 64 : Nat) : Int):=by rw [Int.tmod_eq_emod_of_nonneg (by omega)];omega
 rw [e1,e2,a28 (by omega),Int.toNat_natCast,Nat.mul_one,Nat.zero_add]
 have hq : k / 64 = 0 ∨ k / 64 = 1 ∨ k / 64 = 2 ∨ k / 64 = 3:=by omega
 have key : ∀ {x : Int} (_ : W x) (P : Int) (y : Int),(2 : Int) ^ (64 * (k / 64)) = P → val [a0,a1,a2,a3] / P = x + 18446744073709551616 * y → d98 .u64 (d88 .u64 x ((k % 64 : Nat) : Int)) 1 = val [a0,a1,a2,a3] / 2 ^ k % 2:=by
  intro x hx P y hP hd
  have hr : k % 64 < 64:=by omega
  rw [c57 hx hr,show (2 : Int) ^ k = P * 2 ^ (k % 64) by rw [← hP, ← Int.pow_add];congr 1;omega,
   ← Int.ediv_ediv_of_nonneg (by rw [← hP];exact Int.le_of_lt (Int.pow_pos (by omega))),hd,d6i hr]
 unfold W at h0 h1 h2 h3
 rcases hq with h | h | h | h
 ·rw [h];exact key h0 1 (a1 + 18446744073709551616 * a2 + 340282366920938463463374607431768211456 * a3) (by rw [h];rfl) (by simp [val];omega)
 ·rw [h];exact key h1 18446744073709551616 (a2 + 18446744073709551616 * a3) (by rw [h];rfl) (by simp [val];omega)
 ·rw [h];exact key h2 340282366920938463463374607431768211456 a3 (by rw [h];rfl) (by simp [val];omega)
 ·rw [h];exact key h3 6277101735386680763835789423207666416102355444464034512896 0 (by rw [h];rfl) (by simp [val];omega)
end Go.Wn
namespace Go.Proofs.YthelmpjkkkhopaaGreatDoor
open Go.Ev Go.Wn
set_option maxRecDepth 100000
def invS : List AV → E AV
 | [.int _ .u64 n]=>some ([], .int true .u64 (e6k n))
 | _=>none
theorem c5x (n : Int) : res (d81 Tryz.prog d93 hm6 100 78 [.int true .u64 n] []) = some ([], .int true .u64 (e6k n)):=by kernel_rfl
theorem d6j {args : List AV} {o : List Bool} {v : AV} (h : invS args = some (o,v)) : d86 Tryz.prog 78 args v:=by
 unfold invS at h
 split at h
 ·rename_i s n
  cases h
  intro ρ N vs ha
  cases ha with
  | cons _ _ _ _ r0 hb =>
   cases hb
   exact a0b mixed d7w c2v (by kernel_rfl) (c5x n) d7x.nil rfl (by kernel_rfl) (.cons _ _ _ _ (remark r0) .nil)
 ·cases h
def f7w : List AV → E AV
 | [.ints .u64 4 a]=>some ([], .int true .i64 (hiF (e3a a) 255))
 | _=>none
theorem c5y (a : List Int) : (d81 Tryz.prog d93 hm6 400 104 [.ints .u64 4 a] []).mix = some ([], .int true .i64 (hiF (e3a a) 255)):=by kernel_rfl
theorem d6k {args : List AV} {o : List Bool} {v : AV} (h : f7w args = some (o,v)) : d86 Tryz.prog 104 args v:=by
 unfold f7w at h
 split at h
 ·rename_i a
  cases h
  exact a41 mixed d7w c2v (by kernel_rfl) (c5y a) d7x.nil rfl
 ·cases h
def hm7 : d82:=d8g 104 f7w (d8g 78 invS hm6)
theorem c2x : HOk Tryz.prog hm7:=(c2v.d8g fun _ _ _ h _=>d6j h).d8g fun _ _ _ h _=>d6k h
end Go.Proofs.YthelmpjkkkhopaaGreatDoor
namespace Go.Wn
open Go.Ev
def e9r (L : List Int) : Nat → List Int → List Bool
 | 0,_=>[]
 | r + 1,n=>decide (val L % 2 = 1) :: decide ((L.getD 0 0 * L.getD 4 0 + 1) % 18446744073709551616 = 0) :: decide (val n < val L) :: e9r L r (limbs (mont (val n) (val n) (val L)))
def e67 (L : List Int) : Nat → List Int → List Int
 | 0,n=>n
 | r + 1,n=>e67 L r (limbs (mont (val n) (val n) (val L)))
theorem lv {x M : Int} (hM : 0 < M ∧ M < W4) : val (limbs (x % M)) = x % M:=by
 rw [a1f]
 exact Int.emod_eq_of_lt (Int.emod_nonneg _ (by omega)) (Int.lt_trans (Int.emod_lt_of_pos _ hM.1) hM.2)
theorem b81 {M : Int} (hM : M % 2 = 1) (j : Nat) : mont (2 ^ (256 + j) % M) (2 ^ (256 + j) % M) M = 2 ^ (256 + 2 * j) % M:=by
 have h : (2 : Int) ^ (256 + j) % M = (2 ^ j * 2 ^ 256) % M:=by rw [← Int.pow_add,Nat.add_comm]
 rw [h,a3t hM, ← h,Int.mul_comm,a1c, ← Int.pow_add]
 congr 2
 omega
theorem b3y {L : List Int} (h1 : val L % 2 = 1) (h2 : (L.getD 0 0 * L.getD 4 0 + 1) % 18446744073709551616 = 0) (hM : 0 < val L ∧ val L < W4) : ∀ (r j : Nat) (n : List Int),val n = 2 ^ (256 + j) % val L →
  d7x (e9r L r n) ∧ (r = 0 ∨ e67 L r n = limbs (2 ^ (256 + 2 ^ r * j) % val L))
 | 0,j,n,_=>⟨d7x.nil,Or.inl rfl⟩
 | r + 1,j,n,hn=>by
  have hn' : val (limbs (mont (val n) (val n) (val L))) = 2 ^ (256 + 2 * j) % val L:=by rw [hn,b81 h1,lv hM]
  obtain ⟨g1,g2⟩:=b3y h1 h2 hM r (2 * j) (limbs (mont (val n) (val n) (val L))) hn'
  refine ⟨a00 (decide_eq_true h1) (a00 (decide_eq_true h2) (a00 (decide_eq_true (by rw [hn];exact Int.emod_lt_of_pos _ hM.1)) g1)),Or.inr ?_⟩
  unfold e67
  rcases g2 with rfl | g2
  ·unfold e67
   rw [hn,b81 h1]
  ·rw [g2]
   congr 3
   rw [Nat.pow_succ,Nat.mul_assoc]
def nn0 (i : Int) : List Int:=[0,0,0,0].set (0 + (IntKind.i64.wrap (i.tdiv 64)).toNat * 1) (d9l .u64 1 (i.tmod 64))
theorem d2d {i : Nat} (hi : i ≤ 255) : val (nn0 i) = 2 ^ i ∧ limbs (2 ^ i) = nn0 i:=by
 have e1 : ((i : Int)).tdiv 64 = ((i / 64 : Nat) : Int):=by rw [Int.tdiv_eq_ediv_of_nonneg (by omega)];omega
 have e2 : ((i : Int)).tmod 64 = ((i % 64 : Nat) : Int):=by rw [Int.tmod_eq_emod_of_nonneg (by omega)];omega
 unfold nn0
 rw [e1,e2]
 have e3 : (IntKind.i64.wrap ((i / 64 : Nat) : Int)).toNat = i / 64:=by
  have : IntKind.i64.wrap ((i / 64 : Nat) : Int) = ((i / 64 : Nat) : Int):=a28 (by omega)
  rw [this,Int.toNat_natCast]
 rw [e3,Nat.mul_one,Nat.zero_add]
 have hr : i % 64 < 64:=by omega
 have hsh : d9l .u64 1 ((i % 64 : Nat) : Int) = 2 ^ (i % 64):=by
  unfold d9l
  rw [Int.one_mul,Int.toNat_natCast,show min (i % 64) IntKind.u64.bits = i % 64 by simp [IntKind.bits];omega]
  refine e2n ⟨Int.le_of_lt (Int.pow_pos (by omega)), ?_⟩
  have : (2 : Int) ^ (i % 64) ≤ 2 ^ 63:=by exact_mod_cast Nat.pow_le_pow_right (by omega : 0 < 2) (by omega : i % 64 ≤ 63)
  have h63 : (2 : Int) ^ 63 = 9223372036854775808:=rfl
  omega
 rw [hsh]
 have hq : i / 64 = 0 ∨ i / 64 = 1 ∨ i / 64 = 2 ∨ i / 64 = 3:=by omega
 have hi2 : (2 : Int) ^ i = 2 ^ (64 * (i / 64)) * 2 ^ (i % 64):=by rw [← Int.pow_add];congr 1;omega
 have hp : W (2 ^ (i % 64)):=by
  refine ⟨Int.le_of_lt (Int.pow_pos (by omega)), ?_⟩
  have : (2 : Int) ^ (i % 64) ≤ 2 ^ 63:=by exact_mod_cast Nat.pow_le_pow_right (by omega : 0 < 2) (by omega : i % 64 ≤ 63)
  have h63 : (2 : Int) ^ 63 = 9223372036854775808:=rfl
  omega
 have z : W 0:=by unfold W;omega
 rw [hi2]
 generalize (2 : Int) ^ (i % 64) = y at *
 have fin : ∀ l : List Int,(∃ a b c d,l = [a,b,c,d] ∧ W a ∧ W b ∧ W c ∧ W d) → ∀ x,val l = x → val l = x ∧ limbs x = l:=by
  rintro l ⟨a,b,c,d,rfl,h0,h1,h2,h3⟩ x rfl
  exact ⟨rfl,a0w h0 h1 h2 h3⟩
 rcases hq with h | h | h | h <;> rw [h]
 ·exact fin _ ⟨y,0,0,0,rfl,hp,z,z,z⟩ _ (by simp [val])
 ·exact fin _ ⟨0,y,0,0,rfl,z,hp,z,z⟩ _ (by simp [val])
 ·exact fin _ ⟨0,0,y,0,rfl,z,z,hp,z⟩ _ (by simp [val])
 ·exact fin _ ⟨0,0,0,y,rfl,z,z,z,hp⟩ _ (by simp [val])
end Go.Wn
namespace Go.Proofs.YthelmpjkkkhopaaGreatDoor
open Go.Ev Go.Wn
set_option maxRecDepth 100000
def e76 (L z n : List Int) : Mem:=[some ⟨false, .ints .u64 (some 9) L⟩,some ⟨true, .ints .u64 (some 4) z⟩,some ⟨true, .ints .u64 (some 4) n⟩]
def twoΛ : d8r:=fun id st=>match id with
 | 0=>match st.mem,st.tm.getD 18 .top,st.tm.getD 19 .top,st.tm.getD 0 .top,st.tm.getD 2 .top,st.tm.getD 4 .top,Nat.beq st.tm.length 35 with
  | [some ⟨false, .ints .u64 (some 9) L⟩,some ⟨true, .ints .u64 (some 4) z⟩,some ⟨true, .ints .u64 (some 4) n⟩], .int true .i64 T, .int false .i64 0, .ptr false 0 0, .ptr false 1 0, .ptr false 2 0,true =>
   some ([decide (0 < val L ∧ val L < W4),decide (val n < val L),decide (0 ≤ val n),decide (limbs (val n) = n),decide (0 ≤ T),decide (T ≤ 1000)],
    ⟨d8m (ups (fun _ => .top) [(0, .ptr false 0 0),(2, .ptr false 1 0),(4, .ptr false 2 0)]) 35,e76 L z (limbs ((val n * 2 ^ T.toNat) % val L))⟩)
  | _,_,_,_,_,_,_=>none
 | _=>none
def e8a (T k : Int) : List (Nat × AV):=[(18, .int true .i64 T),(19, .int true .i64 k),(0, .ptr false 0 0),(2, .ptr false 1 0),(4, .ptr false 2 0)]
theorem c2y (x : Nat → AV) (T k : Int) (L z n : List Int) : d8d Tryz.prog d93 hm7 (fun _ _=>none) 100 (lp (blk 0 (d80 Tryz.prog 79))) ⟨d8m (ups x (e8a T k)) 35,e76 L z n⟩ =
  .ite (decide (k < T)) (.need (decide (0 < val L)) (.need (decide (val n + val n < 2 * val L)) (.leaf (.normal,⟨d8m (ups x ([(20, .bool true (decide (k < T))),(21, .ptr false 0 0),(22, .ints .u64 4 n),(23, .ints .u64 4 n),(24, .ints .u64 4 (limbs ((val n + val n) % val L))),(25, .int true .i64 (IntKind.i64.wrap (k + 1)))] ++ e8a T (IntKind.i64.wrap (k + 1)))) 35,e76 L z (limbs ((val n + val n) % val L))⟩))))
   (.leaf (.exit 0,⟨d8m (ups x ((20, .bool true (decide (k < T))) :: e8a T k)) 35,e76 L z n⟩)):=by kernel_rfl
theorem d2e : LOk Tryz.prog (d80 Tryz.prog 79) twoΛ:=by
 refine ⟨fun {id c st st' o} hc hl ho => ?_⟩
 unfold twoΛ at hl
 split at hl
 case h_2=>cases hl
 split at hl
 case h_2=>cases hl
 rename_i L z n T hmem h18 h19 h0 h2 h4 hlen
 cases hl
 have hlen':=Nat.eq_of_beq_eq_true hlen
 have p1:=ho _ (f9b ..)
 have p2:=ho _ (f9a _ (f9b ..))
 have p3:=ho _ (f9a _ (f9a _ (f9b ..)))
 have p4:=ho _ (f9a _ (f9a _ (f9a _ (f9b ..))))
 have p5:=ho _ (f9a _ (f9a _ (f9a _ (f9a _ (f9b ..)))))
 have p6:=ho _ (f9a _ (f9a _ (f9a _ (f9a _ (f9a _ (f9b ..))))))
 rw [decide_eq_true_eq] at p1 p2 p3 p4 p5 p6
 clear ho
 have hU : ∀ (x : Nat → AV) (k : Int),(∀ p ∈ e8a T k,x p.1 = p.2) ↔ x 18 = .int true .i64 T ∧ x 19 = .int true .i64 k ∧ x 0 = .ptr false 0 0 ∧ x 2 = .ptr false 1 0 ∧ x 4 = .ptr false 2 0:=fun x k=>by simp [e8a]
 refine a2w (q:=d93) mixed c2x LOk.none (n:=100) (σ:=Nat) (inv:=fun k st1=>(k : Int) ≤ T ∧ st1.tm.length = 35 ∧ (∀ p ∈ e8a T k,st1.tm.getD p.1 .top = p.2) ∧ st1.mem = e76 L z (limbs ((val n * 2 ^ k) % val L))) (μ:=fun k=>(T - k).toNat) hc (by kernel_rfl) (by kernel_rfl)
  (fun k st1 hi => ?_) 0 st ⟨d8m (ups (fun t=>st.tm.getD t .top) (e8a T 0)) 35,e76 L z n⟩ ?_ (Wk.head hlen' hmem.symm ?_)
 ·obtain ⟨i1,i2,i3,i4⟩:=hi
  have e : st1 = ⟨d8m (ups (fun t=>st1.tm.getD t .top) (e8a T k)) 35,e76 L z (limbs ((val n * 2 ^ k) % val L))⟩:=by
   obtain ⟨tm,mem⟩:=st1
   simp only at i2 i3 i4
   rw [i4]
   congr 1
   exact a9p i2 i3
  rw [e]
  generalize (fun t=>st1.tm.getD t .top) = x
  rw [c2y]
  have hv:=lv (x:=val n * 2 ^ k) p1
  have hlt:=Int.emod_lt_of_pos (val n * 2 ^ k) p1.1
  refine ⟨fun hk=>⟨decide_eq_true p1.1,decide_eq_true (by rw [hv];omega),k + 1, ?_, ?_⟩,fun hk => ?_⟩
  ·rw [decide_eq_true_eq] at hk
   have hw : IntKind.i64.wrap ((k : Int) + 1) = (k : Int) + 1:=a28 (by omega)
   refine ⟨by omega,a1a, ?_, ?_⟩
   ·rw [show ((k + 1 : Nat) : Int) = (k : Int) + 1 by omega,hw]
    refine (hU (fun t=>(d8m _ 35).getD t .top) _).2 ⟨?_, ?_, ?_, ?_, ?_⟩ <;> simp only [a04 (show 18 < 35 by omega),a04 (show 19 < 35 by omega),a04 (show 0 < 35 by omega),a04 (show 2 < 35 by omega),a04 (show 4 < 35 by omega)] <;> rfl
   ·show e76 L z _ = e76 L z _
    congr 2
    rw [hv, ← Int.add_emod,Int.pow_succ, ← Int.mul_assoc,show ∀ y : Int,y * 2 = y + y from fun y=>by omega]
  ·rw [decide_eq_true_eq] at hk
   show (T - ((k + 1 : Nat) : Int)).toNat < (T - (k : Int)).toNat
   omega
  ·rw [decide_eq_false_iff_not] at hk
   have hT : T.toNat = k:=by omega
   refine ⟨_,rfl,Wk.tail ?_ ?_⟩
   ·rw [hT]
   ·intro p hp
    simp only [List.mem_cons,List.not_mem_nil,or_false] at hp
    rcases hp with rfl | rfl | rfl <;> rfl
 ·refine ⟨by simpa using p5,a1a, ?_, ?_⟩
  ·refine (hU (fun t=>(d8m _ 35).getD t .top) _).2 ⟨?_, ?_, ?_, ?_, ?_⟩ <;> simp only [a04 (show 18 < 35 by omega),a04 (show 19 < 35 by omega),a04 (show 0 < 35 by omega),a04 (show 2 < 35 by omega),a04 (show 4 < 35 by omega)] <;> rfl
  ·show e76 L z n = e76 L z _
   rw [Int.pow_zero,Int.mul_one,Int.emod_eq_of_lt p3 p2,p4]
 ·intro p hp ρ N v hr
  simp only [e8a,List.mem_cons,List.not_mem_nil,or_false] at hp
  rcases hp with rfl | rfl | rfl | rfl | rfl
  ·rw [h18] at hr;exact hr
  ·rw [h19] at hr;cases hr with | int _ _ _ h=>exact .int _ _ _ h
  ·rw [h0] at hr;exact hr
  ·rw [h2] at hr;exact hr
  ·rw [h4] at hr;exact hr
def f7x : List V → E (AV × Mem)
 | [.pt (.ints .u64 (some 9) L)]=>some ([decide (val L % 2 = 1),decide (1 < val L),decide ((L.getD 0 0 * L.getD 4 0 + 1) % 18446744073709551616 = 0)],(.ints .u64 4 (limbs ((2 ^ 256 * 2 ^ 256) % val L)),[]))
 | _=>none
def f0o (L : List Int) (i : Int) : List Int:=limbs ((val (nn0 i) * 2 ^ (IntKind.i64.wrap (257 - i)).toNat) % val L)
def f7y (L : List Int) (i : Int) : List Bool:=[!decide (i.tmod 64 < 0),decide (0 ≤ IntKind.i64.wrap (i.tdiv 64)) && decide (IntKind.i64.wrap (i.tdiv 64) < ((4 : Nat) : Int)),decide (0 + (IntKind.i64.wrap (i.tdiv 64)).toNat * 1 + 1 ≤ 4),
 decide (0 < val L ∧ val L < W4),decide (val (nn0 i) < val L),decide (0 ≤ val (nn0 i)),decide (limbs (val (nn0 i)) = nn0 i),decide (0 ≤ IntKind.i64.wrap (257 - i)),decide (IntKind.i64.wrap (257 - i) ≤ 1000)]
theorem c5z (m0 m1 m2 m3 ni s0 s1 s2 s3 : Int) : res (d8a Tryz.prog d93 hm7 twoΛ 100 79 (d7z 0 [.pt (.ints .u64 (some 9) [m0,m1,m2,m3,ni,s0,s1,s2,s3])]) (d87 [.pt (.ints .u64 (some 9) [m0,m1,m2,m3,ni,s0,s1,s2,s3])])) =
  some (f7y [m0,m1,m2,m3,ni,s0,s1,s2,s3] (hiF (e3a [m0,m1,m2,m3]) 255) ++ e9r [m0,m1,m2,m3,ni,s0,s1,s2,s3] 8 (f0o [m0,m1,m2,m3,ni,s0,s1,s2,s3] (hiF (e3a [m0,m1,m2,m3]) 255)),
   .ints .u64 4 (e67 [m0,m1,m2,m3,ni,s0,s1,s2,s3] 8 (f0o [m0,m1,m2,m3,ni,s0,s1,s2,s3] (hiF (e3a [m0,m1,m2,m3]) 255)))):=by kernel_rfl
theorem d6l {xs : List V} {o : List Bool} {v : AV} {bs : Mem} (h : f7x xs = some (o,(v,bs))) (ho : d7x o) : d7y Tryz.prog 79 xs v bs:=by
 unfold f7x at h
 split at h
 ·rename_i L
  cases h
  have h1:=ho _ (f9b ..)
  have h2:=ho _ (f9a _ (f9b ..))
  have h3:=ho _ (f9a _ (f9a _ (f9b ..)))
  rw [decide_eq_true_eq] at h1 h2 h3
  intro ρ vs w ha hi
  obtain ⟨m0,m1,m2,m3,ni,s0,s1,s2,s3,rfl,w0,w1,w2,w3,wi,_⟩:=a2n hi rfl
  have hM : 0 < val [m0,m1,m2,m3,ni,s0,s1,s2,s3] ∧ val [m0,m1,m2,m3,ni,s0,s1,s2,s3] < W4:=⟨by omega,(a08 w0 w1 w2 w3).2⟩
  have hb : ∀ k : Nat,k ≤ 255 → e3a [m0,m1,m2,m3] k = val [m0,m1,m2,m3,ni,s0,s1,s2,s3] / 2 ^ k % 2:=fun k hk=>by
   have hc : e5c (k : Int) = false:=by unfold e5c;rw [decide_eq_false (by omega : ¬ (k : Int) < 0),decide_eq_false (by omega : ¬ (k : Int) > 255)]
   unfold e3a
   rw [hc]
   exact a6u w0 w1 w2 w3 hk
  obtain ⟨i,e1,e2,e3,e4⟩:=b80 (by omega) _ hb 255 (Nat.le_refl _) (by
   have hw : W4 = 2 ^ (255 + 1):=by rfl
   rw [← hw];exact hM.2)
  have ev:=c5z m0 m1 m2 m3 ni s0 s1 s2 s3
  rw [e1] at ev
  obtain ⟨n1,n2⟩:=d2d e2
  generalize [m0,m1,m2,m3,ni,s0,s1,s2,s3] = L at *
  have hi1 : 1 ≤ i:=by
   rcases Nat.eq_zero_or_pos i with rfl | h
   ·have : (2 : Int) ^ (0 + 1) = 2:=rfl
    omega
   ·exact h
  have hlt : (2 : Int) ^ i < val L:=by
   rcases e4 with h | h
   ·omega
   ·have : (2 : Int) ^ i % 2 = 0:=by
     obtain ⟨j,rfl⟩ : ∃ j,i = j + 1:=⟨i - 1,by omega⟩
     rw [Int.pow_succ];omega
    omega
  have hw : IntKind.i64.wrap (257 - (i : Int)) = 257 - (i : Int):=a28 (by omega)
  have hN : f0o L i = limbs (2 ^ (256 + 1) % val L):=by
   unfold f0o
   rw [n1,hw, ← Int.pow_add,show i + (257 - (i : Int)).toNat = 256 + 1 by omega]
  have t1 : ((i : Int)).tmod 64 = ((i % 64 : Nat) : Int):=by rw [Int.tmod_eq_emod_of_nonneg (by omega)];omega
  have t2 : ((i : Int)).tdiv 64 = ((i / 64 : Nat) : Int):=by rw [Int.tdiv_eq_ediv_of_nonneg (by omega)];omega
  have t3 : IntKind.i64.wrap ((i / 64 : Nat) : Int) = ((i / 64 : Nat) : Int):=a28 (by omega)
  have hO : d7x (f7y L i):=by
   unfold f7y
   rw [t1,t2,t3,hw,n1,n2]
   refine a00 (by rw [decide_eq_false (by omega)];rfl) (a00 (by rw [decide_eq_true (by omega : 0 ≤ ((i / 64 : Nat) : Int)),decide_eq_true (by omega : ((i / 64 : Nat) : Int) < ((4 : Nat) : Int))];rfl)
    (a00 (decide_eq_true (by rw [Int.toNat_natCast];omega)) (a00 (decide_eq_true hM) (a00 (decide_eq_true hlt) (a00 (decide_eq_true (Int.le_of_lt (Int.pow_pos (by omega)))) (a00 (decide_eq_true rfl)
    (a00 (decide_eq_true (by omega)) (a00 (decide_eq_true (by omega)) d7x.nil))))))))
  obtain ⟨x1,x2⟩:=b3y h1 h3 hM 8 1 (f0o L i) (by rw [hN,lv hM])
  have hE : e67 L 8 (f0o L i) = limbs ((2 ^ 256 * 2 ^ 256) % val L):=by
   rcases x2 with h | h
   ·cases h
   ·rw [h, ← Int.pow_add]
  exact a3b mixed d7w c2x (fun fn c hf hb=>by rw [a0r hf hb];exact d2e) ev (a01.2 ⟨hO,x1⟩) (by rw [hE]) (by kernel_rfl) ha hi
 ·cases h
def hm8 : d82:=d84 79 f7x hm7
theorem b3z : HOk Tryz.prog hm8:=c2x.d84 fun _ _ _ _ h ho=>d6l h ho
def newL : List Int → List Int
 | [a,b,c,d]=>[a,b,c,d,IntKind.u64.wrap (0 - e6k a)] ++ limbs ((2 ^ 256 * 2 ^ 256) % val [a,b,c,d])
 | l=>l
end Go.Proofs.YthelmpjkkkhopaaGreatDoor
