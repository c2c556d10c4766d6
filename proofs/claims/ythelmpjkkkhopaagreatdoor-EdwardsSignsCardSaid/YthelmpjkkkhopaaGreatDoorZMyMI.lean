/- A Mod that is made, and its sums, differences and products. Own work. -/
import Derived.Test.YthelmpjkkkhopaaGreatDoorZMyMF
set_option linter.unusedSimpArgs false
set_option linter.unusedVariables false
set_option linter.unusedSectionVars false
namespace Go.Ev
section
variable {P : Program} {q : FuncId → Bool} {H : d82}
theorem a9d (hm : P.follows .mixedOrders = true) (hng : d7w P = true) (hH : HOk P H) {n : Nat} {g : FuncId} {xs : List V} {o : List Bool} {v v' : AV} {m' bs : Mem} (ds : List Bool)
  (h : ((d81 P q H n g (d7z 0 xs) (d87 xs)).go ds).flat = some (o,(v',m'))) (ho : d7x o) (hv : v' = upA xs.length v) (hb : m'.drop xs.length = bs.map (upB xs.length)) (hle : m'.length = xs.length + bs.length) : d7y P g xs v bs:=by
 intro ρ vs w ha hi
 have hcm : (d87 xs).length = xs.length:=by simp [d87]
 have ha' : d8i ρ (upto (d87 xs).length) (d7z 0 xs) vs:=by rw [hcm];exact ha
 have hi' : Inv w (fun _=>False) (upto (d87 xs).length) ρ (getName (d87 xs)) w:=by rw [hcm];exact hi
 obtain ⟨hf,hc⟩:=a14 hm hH (a13 (a0x h ho)) ha' hi'
 refine a0y hng hf (hc.mono fun e w' ⟨u,h1,x',m2,ρ',k1,k2,k3,k4,k5⟩=>⟨u,h1,ρ', ?_, ?_⟩)
 ·cases k1
  rw [← hle, ← hv];exact k2
 ·cases k1
  have hlen : xs.length + bs.length = m'.length:=hle.symm
  rw [hlen]
  have k4' : Agr ρ ρ' (upto xs.length):=by rw [hcm] at k4;exact k4
  refine hi.join (S1:=fun _=>False) k3 (fun _ h=>h.elim) (fun i hi=>by simp [upto] at *;omega) (fun _ h=>h) k4' (fun _ _=>rfl) fun n b hn => ?_
  rw [a07] at hn
  split at hn
  ·exact Or.inl ⟨hn,fun h=>h⟩
  ·rename_i hlt
   obtain ⟨g1,g2⟩:=a0d hn
   rw [← hb,a1b,hcm,show xs.length + (n - xs.length) = n by rw [hcm] at hlt;omega] at g1
   exact Or.inr ⟨g1,g2⟩
end
end Go.Ev
namespace Go.Wn
open Go.Ev
theorem c2z {m0 m1 m2 m3 : Int} (h0 : W m0) (h1 : W m1) (h2 : W m2) (h3 : W m3) (ho : val [m0,m1,m2,m3] % 2 = 1) (hm : 1 < val [m0,m1,m2,m3]) : good (Go.Proofs.YthelmpjkkkhopaaGreatDoor.newL [m0,m1,m2,m3]) = true:=by
 have hr:=a08 h0 h1 h2 h3
 have hodd : m0 % 2 = 1:=by simp [val] at ho;omega
 refine a26.2 ⟨ho,hm, ?_, ?_⟩
 ·show (m0 * IntKind.u64.wrap (0 - e6k m0) + 1) % 18446744073709551616 = 0
  have e:=c2w hodd
  have e2 : (m0 * IntKind.u64.wrap (0 - e6k m0)) % 18446744073709551616 = (m0 * (0 - e6k m0)) % 18446744073709551616:=by rw [a25,a1c]
  have e3 : m0 * (0 - e6k m0) = - (m0 * e6k m0):=by rw [Int.mul_sub,Int.mul_zero];omega
  rw [e3] at e2
  generalize m0 * IntKind.u64.wrap (0 - e6k m0) = x at *
  generalize m0 * e6k m0 = y at *
  omega
 ·show val (limbs ((2 ^ 256 * 2 ^ 256) % val [m0,m1,m2,m3])) = _
  exact lv ⟨by omega,hr.2⟩
end Go.Wn
namespace Go.Proofs.YthelmpjkkkhopaaGreatDoor
open Go.Ev Go.Wn
set_option maxRecDepth 100000
def e77 (a b c d : Int) : Bool:=match d98 .u64 a 1 == 0 with | true=>true | false=>decide ([a,b,c,d] = [1,0,0,0])
theorem c60 (a b c d : Int) : ((d81 Tryz.prog d93 hm8 100 44 (d7z 0 [.pl (.ints .u64 4 [a,b,c,d])]) (d87 [.pl (.ints .u64 4 [a,b,c,d])])).go [false]).flat =
  some ([!(!(d98 .u64 a 1 == 0)) || !(d98 .u64 a 1 == 0), !(!(d98 .u64 a 1 == 0)) || !(d98 .u64 a 1 == 0),(d98 .u64 a 1 == 0) || !(d98 .u64 a 1 == 0), !e77 a b c d,decide (val [a,b,c,d] % 2 = 1),decide (1 < val [a,b,c,d]),decide ((a * IntKind.u64.wrap (0 - e6k a) + 1) % 18446744073709551616 = 0)],
   (.tuple [.ptr false 2 0, .int false .i64 0],[none,some ⟨true, .ints .u64 (some 4) [a,b,c,d]⟩,some ⟨true, .ints .u64 (some 9) (newL [a,b,c,d])⟩])):=by kernel_rfl
theorem c30 {a b c d : Int} (ha : W a) (hb : W b) (hc : W c) (hd : W d) : e77 a b c d = true ↔ (val [a,b,c,d] % 2 = 0 ∨ val [a,b,c,d] = 1):=by
 unfold e77
 rw [a7r ha]
 unfold W at *
 cases h : (a % 2 == 0) with
 | true =>
  have : a % 2 = 0:=by simpa using h
  simp [val];omega
 | false =>
  have : ¬ a % 2 = 0:=by simpa using h
  simp only [decide_eq_true_eq,List.cons.injEq,and_true]
  simp [val]
  omega
def newG : List V → E (AV × Mem)
 | [.pl (.ints .u64 4 m)]=>some ([decide (val m % 2 = 1),decide (1 < val m)],(.tuple [.ptr false 1 0, .int false .i64 0],[some ⟨true, .ints .u64 (some 4) m⟩,some ⟨true, .ints .u64 (some 9) (newL m)⟩]))
 | _=>none
theorem f1p (p : Bool) : d7x [!(!p) || !p, !(!p) || !p,p || !p]:=by cases p <;> exact a00 rfl (a00 rfl (a00 rfl d7x.nil))
theorem d2f {xs : List V} {o : List Bool} {v : AV} {bs : Mem} (h : newG xs = some (o,(v,bs))) (ho : d7x o) : d7y Tryz.prog 44 xs v bs:=by
 unfold newG at h
 split at h
 ·rename_i m
  cases h
  have h1:=ho _ (f9b ..)
  have h2:=ho _ (f9a _ (f9b ..))
  rw [decide_eq_true_eq] at h1 h2
  intro ρ vs w ha hi
  have hb:=ha
  cases hb with
  | cons _ _ _ _ r0 hb =>
   obtain ⟨a,b,c,d,rfl,wa,wb,wc,wd⟩:=a0g r0
   have hg:=a26.1 (c2z wa wb wc wd h1 h2)
   have he : e77 a b c d = false:=by
    cases h : e77 a b c d with
    | true=>have:=(c30 wa wb wc wd).1 h;omega
    | false=>rfl
   exact a9d mixed d7w b3z [false] (c60 a b c d) (a01.2 ⟨f1p _,a00 (by rw [he];rfl) (a00 (decide_eq_true h1) (a00 (decide_eq_true h2) (a00 (decide_eq_true hg.2.2.1) d7x.nil)))⟩) rfl rfl rfl ha hi
 ·cases h
end Go.Proofs.YthelmpjkkkhopaaGreatDoor
namespace Go.Proofs.YthelmpjkkkhopaaGreatDoor
open Go.Ev Go.Wn
set_option maxRecDepth 100000
theorem b1k {M : Int} (hM : 0 < M) (a : Int) : 0 ≤ a % M ∧ a % M < M:=⟨Int.emod_nonneg _ (by omega),Int.emod_lt_of_pos _ hM⟩
theorem c61 {M x y : Int} (_hM : 0 < M ∧ M < W4) (hx : 0 ≤ x ∧ x < M) (hy : 0 ≤ y ∧ y < M) : e2i (if x < y then 1 else 0) (limbs (val (limbs (x - y)) + M)) (limbs (x - y)) = limbs ((x - y) % M):=by
 unfold e2i
 by_cases h : x < y
 ·rw [if_pos h,if_pos (by decide)]
  have e : (x - y) % M = x - y + M:=by rw [← Int.add_emod_right,Int.emod_eq_of_lt (by omega) (by omega)]
  rw [e,a1f]
  apply a37
  unfold W4
  omega
 ·rw [if_neg h,if_neg (by decide),Int.emod_eq_of_lt (by omega) (by omega)]
def f7z : List V → E (AV × Mem)
 | [.pt (.ints .u64 (some 9) L), .pl (.ints .u64 4 a), .pl (.ints .u64 4 b)]=>some ([good L],(.ints .u64 4 (limbs ((val a + val b) % val L)),[]))
 | _=>none
theorem c62 (m0 m1 m2 m3 ni s0 s1 s2 s3 : Int) (a b : List Int) : res (d81 Tryz.prog d93 hm8 100 19 (d7z 0 [.pt (.ints .u64 (some 9) [m0,m1,m2,m3,ni,s0,s1,s2,s3]), .pl (.ints .u64 4 a), .pl (.ints .u64 4 b)]) (d87 [.pt (.ints .u64 (some 9) [m0,m1,m2,m3,ni,s0,s1,s2,s3]), .pl (.ints .u64 4 a), .pl (.ints .u64 4 b)])) =
  some ([good [m0,m1,m2,m3,ni,s0,s1,s2,s3],good [m0,m1,m2,m3,ni,s0,s1,s2,s3],decide (0 < val [m0,m1,m2,m3,ni,s0,s1,s2,s3]),decide (val (limbs (val a % val [m0,m1,m2,m3,ni,s0,s1,s2,s3])) + val (limbs (val b % val [m0,m1,m2,m3,ni,s0,s1,s2,s3])) < 2 * val [m0,m1,m2,m3,ni,s0,s1,s2,s3])], .ints .u64 4 (limbs ((val (limbs (val a % val [m0,m1,m2,m3,ni,s0,s1,s2,s3])) + val (limbs (val b % val [m0,m1,m2,m3,ni,s0,s1,s2,s3]))) % val [m0,m1,m2,m3,ni,s0,s1,s2,s3]))):=by kernel_rfl
theorem d6m {xs : List V} {o : List Bool} {v : AV} {bs : Mem} (h : f7z xs = some (o,(v,bs))) (ho : d7x o) : d7y Tryz.prog 19 xs v bs:=by
 unfold f7z at h
 split at h
 ·rename_i L a b
  cases h
  have hg:=ho _ (f9b ..)
  obtain ⟨h1,h2,h3,h4⟩:=a26.1 hg
  intro ρ vs w ha hi
  obtain ⟨m0,m1,m2,m3,ni,s0,s1,s2,s3,rfl,w0,w1,w2,w3,wi,_⟩:=a2n hi rfl
  have hM : 0 < val [m0,m1,m2,m3,ni,s0,s1,s2,s3] ∧ val [m0,m1,m2,m3,ni,s0,s1,s2,s3] < W4:=⟨by omega,(a08 w0 w1 w2 w3).2⟩
  have ev:=c62 m0 m1 m2 m3 ni s0 s1 s2 s3 a b
  generalize [m0,m1,m2,m3,ni,s0,s1,s2,s3] = L at *
  rw [lv hM,lv hM] at ev
  have x:=b1k hM.1 (val a);have y:=b1k hM.1 (val b)
  exact a16 mixed d7w b3z ev (a00 hg (a00 hg (a00 (decide_eq_true hM.1) (a00 (decide_eq_true (by omega)) d7x.nil)))) (by rw [← Int.add_emod]) (by kernel_rfl) ha hi
 ·cases h
def f8a : List V → E (AV × Mem)
 | [.pt (.ints .u64 (some 9) L), .pl (.ints .u64 4 a), .pl (.ints .u64 4 b)]=>some ([good L],(.ints .u64 4 (limbs ((val a - val b) % val L)),[]))
 | _=>none
theorem c63 (m0 m1 m2 m3 ni s0 s1 s2 s3 : Int) (a b : List Int) : res (d81 Tryz.prog d93 hm8 100 70 (d7z 0 [.pt (.ints .u64 (some 9) [m0,m1,m2,m3,ni,s0,s1,s2,s3]), .pl (.ints .u64 4 a), .pl (.ints .u64 4 b)]) (d87 [.pt (.ints .u64 (some 9) [m0,m1,m2,m3,ni,s0,s1,s2,s3]), .pl (.ints .u64 4 a), .pl (.ints .u64 4 b)])) =
  some ([good [m0,m1,m2,m3,ni,s0,s1,s2,s3],good [m0,m1,m2,m3,ni,s0,s1,s2,s3]], .ints .u64 4 (e2i (if val (limbs (val a % val [m0,m1,m2,m3,ni,s0,s1,s2,s3])) < val (limbs (val b % val [m0,m1,m2,m3,ni,s0,s1,s2,s3])) then 1 else 0) (limbs (val (limbs (val (limbs (val a % val [m0,m1,m2,m3,ni,s0,s1,s2,s3])) - val (limbs (val b % val [m0,m1,m2,m3,ni,s0,s1,s2,s3])))) + val [m0,m1,m2,m3,ni,s0,s1,s2,s3])) (limbs (val (limbs (val a % val [m0,m1,m2,m3,ni,s0,s1,s2,s3])) - val (limbs (val b % val [m0,m1,m2,m3,ni,s0,s1,s2,s3])))))):=by kernel_rfl
theorem d6n {xs : List V} {o : List Bool} {v : AV} {bs : Mem} (h : f8a xs = some (o,(v,bs))) (ho : d7x o) : d7y Tryz.prog 70 xs v bs:=by
 unfold f8a at h
 split at h
 ·rename_i L a b
  cases h
  have hg:=ho _ (f9b ..)
  obtain ⟨h1,h2,h3,h4⟩:=a26.1 hg
  intro ρ vs w ha hi
  obtain ⟨m0,m1,m2,m3,ni,s0,s1,s2,s3,rfl,w0,w1,w2,w3,wi,_⟩:=a2n hi rfl
  have hM : 0 < val [m0,m1,m2,m3,ni,s0,s1,s2,s3] ∧ val [m0,m1,m2,m3,ni,s0,s1,s2,s3] < W4:=⟨by omega,(a08 w0 w1 w2 w3).2⟩
  have ev:=c63 m0 m1 m2 m3 ni s0 s1 s2 s3 a b
  generalize [m0,m1,m2,m3,ni,s0,s1,s2,s3] = L at *
  rw [lv hM,lv hM] at ev
  exact a16 mixed d7w b3z ev (a00 hg (a00 hg d7x.nil)) (by rw [c61 hM (b1k hM.1 _) (b1k hM.1 _), ← Int.sub_emod]) (by kernel_rfl) ha hi
 ·cases h
def f8b : List V → E (AV × Mem)
 | [.pt (.ints .u64 (some 9) L), .pl (.ints .u64 4 a), .pl (.ints .u64 4 b)]=>some ([good L],(.ints .u64 4 (limbs ((val a * val b) % val L)),[]))
 | _=>none
theorem c64 (m0 m1 m2 m3 ni s0 s1 s2 s3 : Int) (a b : List Int) : res (d81 Tryz.prog d93 hm8 100 20 (d7z 0 [.pt (.ints .u64 (some 9) [m0,m1,m2,m3,ni,s0,s1,s2,s3]), .pl (.ints .u64 4 a), .pl (.ints .u64 4 b)]) (d87 [.pt (.ints .u64 (some 9) [m0,m1,m2,m3,ni,s0,s1,s2,s3]), .pl (.ints .u64 4 a), .pl (.ints .u64 4 b)])) =
  some ([good [m0,m1,m2,m3,ni,s0,s1,s2,s3],decide (val [m0,m1,m2,m3,ni,s0,s1,s2,s3] % 2 = 1),decide ((m0 * ni + 1) % 18446744073709551616 = 0),decide (val (limbs ((val a * 2 ^ 256) % val [m0,m1,m2,m3,ni,s0,s1,s2,s3])) < val [m0,m1,m2,m3,ni,s0,s1,s2,s3])], .ints .u64 4 (limbs (mont (val b) (val (limbs ((val a * 2 ^ 256) % val [m0,m1,m2,m3,ni,s0,s1,s2,s3]))) (val [m0,m1,m2,m3,ni,s0,s1,s2,s3])))):=by kernel_rfl
theorem d6o {xs : List V} {o : List Bool} {v : AV} {bs : Mem} (h : f8b xs = some (o,(v,bs))) (ho : d7x o) : d7y Tryz.prog 20 xs v bs:=by
 unfold f8b at h
 split at h
 ·rename_i L a b
  cases h
  have hg:=ho _ (f9b ..)
  obtain ⟨h1,h2,h3,h4⟩:=a26.1 hg
  intro ρ vs w ha hi
  obtain ⟨m0,m1,m2,m3,ni,s0,s1,s2,s3,rfl,w0,w1,w2,w3,wi,_⟩:=a2n hi rfl
  have hM : 0 < val [m0,m1,m2,m3,ni,s0,s1,s2,s3] ∧ val [m0,m1,m2,m3,ni,s0,s1,s2,s3] < W4:=⟨by omega,(a08 w0 w1 w2 w3).2⟩
  have ev:=c64 m0 m1 m2 m3 ni s0 s1 s2 s3 a b
  rw [lv hM] at ev
  exact a16 mixed d7w b3z ev (a00 hg (a00 (decide_eq_true h1) (a00 (decide_eq_true h3) (a00 (decide_eq_true (Int.emod_lt_of_pos _ hM.1)) d7x.nil)))) (by rw [a3t h1,Int.mul_comm]) (by kernel_rfl) ha hi
 ·cases h
def hm9 : d82:=d84 20 f8b (d84 70 f8a (d84 19 f7z hm8))
theorem c31 : HOk Tryz.prog hm9:=((b3z.d84 fun _ _ _ _ h ho=>d6m h ho).d84 fun _ _ _ _ h ho=>d6n h ho).d84 fun _ _ _ _ h ho=>d6o h ho
end Go.Proofs.YthelmpjkkkhopaaGreatDoor
namespace Go.Wn
open Go.Ev
theorem b82 {x y M : Int} (hM : M % 2 = 1) : mont ((x * 2 ^ 256) % M) ((y * 2 ^ 256) % M) M = ((x * y) * 2 ^ 256) % M:=by
 rw [a3t hM,Int.mul_comm,a1c, ← Int.mul_assoc,Int.mul_comm y x]
theorem a3w {e : List Int} (h : limbs (val e) = e) : ∃ a b c d,e = [a,b,c,d] ∧ W a ∧ W b ∧ W c ∧ W d:=by
 have hw:=b6x (val e)
 rw [h] at hw
 have hl : e.length = 4:=by rw [← h];rfl
 match e,hl with
 | [a,b,c,d],_=>exact ⟨a,b,c,d,rfl,hw a (by simp),hw b (by simp),hw c (by simp),hw d (by simp)⟩
theorem c65 {A E M : Int} {k : Nat} (hM : M % 2 = 1) (hE : 0 ≤ E) (bit : Int) (hb : bit = E / 2 ^ k % 2) :
  (if bit % 2 = 1 then limbs (mont ((A ^ (E / 2 ^ (k + 1)).toNat * A ^ (E / 2 ^ (k + 1)).toNat * 2 ^ 256) % M) ((A * 2 ^ 256) % M) M) else limbs ((A ^ (E / 2 ^ (k + 1)).toNat * A ^ (E / 2 ^ (k + 1)).toNat * 2 ^ 256) % M)) =
   limbs ((A ^ (E / 2 ^ k).toNat * 2 ^ 256) % M):=by
 have e1 : E / 2 ^ (k + 1) = E / 2 ^ k / 2:=by
  rw [Int.pow_succ, ← Int.ediv_ediv_of_nonneg (Int.le_of_lt (Int.pow_pos (by omega)))]
 have h0 : 0 ≤ E / 2 ^ k:=Int.ediv_nonneg hE (Int.le_of_lt (Int.pow_pos (by omega)))
 rw [e1,hb]
 generalize E / 2 ^ k = q at *
 rw [← Int.pow_add,b82 hM]
 have hq : q % 2 = 0 ∨ q % 2 = 1:=by omega
 rcases hq with h | h
 ·rw [if_neg (by omega),show (q / 2).toNat + (q / 2).toNat = q.toNat by omega]
 ·rw [if_pos (by omega),show q.toNat = ((q / 2).toNat + (q / 2).toNat) + 1 by omega,Int.pow_succ A]
end Go.Wn
namespace Go.Proofs.YthelmpjkkkhopaaGreatDoor
open Go.Ev Go.Wn
set_option maxRecDepth 100000
def e78 (L a e r b p : List Int) : Mem:=[some ⟨false, .ints .u64 (some 9) L⟩,none,none,some ⟨true, .ints .u64 (some 4) a⟩,some ⟨true, .ints .u64 (some 4) e⟩,some ⟨true, .ints .u64 (some 4) r⟩,some ⟨true, .ints .u64 (some 4) b⟩,some ⟨true, .ints .u64 (some 4) p⟩]
def e8b (i : Int) : List (Nat × AV):=[(9, .int true .i64 i),(0, .ptr false 0 0),(5, .ptr false 4 0),(6, .ptr false 5 0),(7, .ptr false 6 0),(8, .ptr false 7 0)]
def powΛ : d8r:=fun id st=>match id with
 | 0=>match st.mem,st.tm.getD 9 .top,st.tm.getD 0 .top,st.tm.getD 5 .top,st.tm.getD 6 .top,st.tm.getD 7 .top,st.tm.getD 8 .top,Nat.beq st.tm.length 40 with
  | [some ⟨false, .ints .u64 (some 9) L⟩,none,none,some ⟨true, .ints .u64 (some 4) a⟩,some ⟨true, .ints .u64 (some 4) e⟩,some ⟨true, .ints .u64 (some 4) r⟩,some ⟨true, .ints .u64 (some 4) b⟩,some ⟨true, .ints .u64 (some 4) p⟩], .int false .i64 255, .ptr false 0 0, .ptr false 4 0, .ptr false 5 0, .ptr false 6 0, .ptr false 7 0,true =>
   some ([decide (0 < val L ∧ val L < W4),decide (val L % 2 = 1),decide ((L.getD 0 0 * L.getD 4 0 + 1) % 18446744073709551616 = 0),decide (limbs (val e) = e),decide (b = limbs ((val a * 2 ^ 256) % val L)),decide (p = limbs ((1 * 2 ^ 256) % val L))],
    ⟨d8m (ups (fun _ => .top) [(0, .ptr false 0 0),(6, .ptr false 5 0),(8, .ptr false 7 0)]) 40,e78 L a e r b (limbs ((val a ^ (val e).toNat * 2 ^ 256) % val L))⟩)
  | _,_,_,_,_,_,_,_=>none
 | _=>none
def e5d (L p : List Int) : List Int:=limbs (mont (val p) (val p) (val L))
def e9s (L e b p : List Int) (i : Int) : List Int:=e2i (e3a e i) (limbs (mont (val (e5d L p)) (val b) (val L))) (e5d L p)
theorem c32 (x : Nat → AV) (i : Int) (L a e r b p : List Int) : d8d Tryz.prog d93 hm9 (fun _ _=>none) 100 (lp (blk 0 (d80 Tryz.prog 80))) ⟨d8m (ups x (e8b i)) 40,e78 L a e r b p⟩ =
  .ite (decide (i ≥ 0)) (.need (decide (val L % 2 = 1)) (.need (decide ((L.getD 0 0 * L.getD 4 0 + 1) % 18446744073709551616 = 0)) (.need (decide (val p < val L)) (.need (decide (val L % 2 = 1)) (.need (decide ((L.getD 0 0 * L.getD 4 0 + 1) % 18446744073709551616 = 0)) (.need (decide (val b < val L))
   (.leaf (.normal,⟨d8m (ups x ([(19, .int true .i64 i),(20, .bool true (decide (i ≥ 0))),(23, .ptr false 0 0),(24, .ints .u64 4 p),(25, .ints .u64 4 p),(26, .ints .u64 4 (e5d L p)),(27, .ints .u64 4 e),(28, .int true .i64 i),(29, .int true .u64 (e3a e i)),(30, .ptr false 0 0),
    (31, .ints .u64 4 (e5d L p)),(32, .ints .u64 4 b),(33, .ints .u64 4 (limbs (mont (val (e5d L p)) (val b) (val L)))),(34, .ints .u64 4 (e5d L p)),(35, .ints .u64 4 (e9s L e b p i)),(21, .int true .i64 i),(22, .int true .i64 (IntKind.i64.wrap (i - 1)))] ++ e8b (IntKind.i64.wrap (i - 1)))) 40,e78 L a e r b (e9s L e b p i)⟩))))))))
   (.leaf (.exit 0,⟨d8m (ups x ([(19, .int true .i64 i),(20, .bool true (decide (i ≥ 0)))] ++ e8b i)) 40,e78 L a e r b p⟩)):=by kernel_rfl
theorem d2g : LOk Tryz.prog (d80 Tryz.prog 80) powΛ:=by
 refine ⟨fun {id c st st' o} hc hl ho => ?_⟩
 unfold powΛ at hl
 split at hl
 case h_2=>cases hl
 split at hl
 case h_2=>cases hl
 rename_i L a e r b p hmem h9 h0 h5 h6 h7 h8 hlen
 cases hl
 have hlen':=Nat.eq_of_beq_eq_true hlen
 have p1:=ho _ (f9b ..)
 have p2:=ho _ (f9a _ (f9b ..))
 have p3:=ho _ (f9a _ (f9a _ (f9b ..)))
 have p4:=ho _ (f9a _ (f9a _ (f9a _ (f9b ..))))
 have p5:=ho _ (f9a _ (f9a _ (f9a _ (f9a _ (f9b ..)))))
 have p6:=ho _ (f9a _ (f9a _ (f9a _ (f9a _ (f9a _ (f9b ..))))))
 rw [decide_eq_true_eq] at p1 p2 p3 p4 p5 p6
 clear ho
 obtain ⟨e0,e1,e2,e3,he,w0,w1,w2,w3⟩:=a3w p4
 have hE : 0 ≤ val e ∧ val e < W4:=by rw [he];exact a08 w0 w1 w2 w3
 have hbit : ∀ k : Nat,k ≤ 255 → e3a e k = val e / 2 ^ k % 2:=fun k hk=>by
  have hc : e5c (k : Int) = false:=by unfold e5c;rw [decide_eq_false (by omega : ¬ (k : Int) < 0),decide_eq_false (by omega : ¬ (k : Int) > 255)]
  unfold e3a
  rw [hc,he]
  exact a6u w0 w1 w2 w3 hk
 have hU : ∀ (x : Nat → AV) (k : Int),(∀ p ∈ e8b k,x p.1 = p.2) ↔ x 9 = .int true .i64 k ∧ x 0 = .ptr false 0 0 ∧ x 5 = .ptr false 4 0 ∧ x 6 = .ptr false 5 0 ∧ x 7 = .ptr false 6 0 ∧ x 8 = .ptr false 7 0:=fun x k=>by simp [e8b]
 refine a2w (q:=d93) mixed c31 LOk.none (n:=100) (σ:=Nat) (inv:=fun k st1=>k ≤ 256 ∧ st1.tm.length = 40 ∧ (∀ p ∈ e8b ((k : Int) - 1),st1.tm.getD p.1 .top = p.2) ∧ st1.mem = e78 L a e r b (limbs ((val a ^ (val e / 2 ^ k).toNat * 2 ^ 256) % val L))) (μ:=fun k=>k) hc (by kernel_rfl) (by kernel_rfl)
  (fun k st1 hi => ?_) 256 st ⟨d8m (ups (fun t=>st.tm.getD t .top) (e8b 255)) 40,e78 L a e r b p⟩ ?_ (Wk.head hlen' hmem.symm ?_)
 ·obtain ⟨i1,i2,i3,i4⟩:=hi
  have ee : st1 = ⟨d8m (ups (fun t=>st1.tm.getD t .top) (e8b ((k : Int) - 1))) 40,e78 L a e r b (limbs ((val a ^ (val e / 2 ^ k).toNat * 2 ^ 256) % val L))⟩:=by
   obtain ⟨tm,mem⟩:=st1
   simp only at i2 i3 i4
   rw [i4]
   congr 1
   exact a9p i2 i3
  rw [ee]
  generalize (fun t=>st1.tm.getD t .top) = x
  rw [c32]
  have hv:=lv (x:=val a ^ (val e / 2 ^ k).toNat * 2 ^ 256) p1
  have hvb : val b = (val a * 2 ^ 256) % val L:=by rw [p5,lv p1]
  refine ⟨fun hk=>⟨decide_eq_true p2,decide_eq_true p3,decide_eq_true (by rw [hv];exact Int.emod_lt_of_pos _ p1.1),decide_eq_true p2,decide_eq_true p3,decide_eq_true (by rw [hvb];exact Int.emod_lt_of_pos _ p1.1), ?_⟩,fun hk => ?_⟩
  ·rw [decide_eq_true_eq] at hk
   obtain ⟨j,rfl⟩ : ∃ j,k = j + 1:=⟨k - 1,by omega⟩
   have hj : ((j + 1 : Nat) : Int) - 1 = (j : Int):=by omega
   have hw : IntKind.i64.wrap (((j + 1 : Nat) : Int) - 1 - 1) = (j : Int) - 1:=by rw [hj];exact a28 (by omega)
   refine ⟨j,⟨by omega,a1a, ?_, ?_⟩,by show j < j + 1;omega⟩
   ·rw [hw]
    refine (hU (fun t=>(d8m _ 40).getD t .top) _).2 ⟨?_, ?_, ?_, ?_, ?_, ?_⟩ <;> simp only [a04 (show 9 < 40 by omega),a04 (show 0 < 40 by omega),a04 (show 5 < 40 by omega),a04 (show 6 < 40 by omega),a04 (show 7 < 40 by omega),a04 (show 8 < 40 by omega)] <;> rfl
   ·show e78 L a e r b _ = e78 L a e r b _
    congr 1
    unfold e9s e5d e2i
    rw [hj,hv,hvb,b82 p2,lv p1]
    exact c65 p2 hE.1 _ (hbit j (by omega))
  ·rw [decide_eq_false_iff_not] at hk
   have hk0 : k = 0:=by omega
   subst hk0
   refine ⟨_,rfl,Wk.tail ?_ ?_⟩
   ·rw [Int.pow_zero,Int.ediv_one]
   ·intro p hp
    simp only [List.mem_cons,List.not_mem_nil,or_false] at hp
    rcases hp with rfl | rfl | rfl <;> rfl
 ·refine ⟨Nat.le_refl _,a1a, ?_, ?_⟩
  ·refine (hU (fun t=>(d8m _ 40).getD t .top) _).2 ⟨?_, ?_, ?_, ?_, ?_, ?_⟩ <;> simp only [a04 (show 9 < 40 by omega),a04 (show 0 < 40 by omega),a04 (show 5 < 40 by omega),a04 (show 6 < 40 by omega),a04 (show 7 < 40 by omega),a04 (show 8 < 40 by omega)] <;> rfl
  ·show e78 L a e r b p = e78 L a e r b _
   have : val e / 2 ^ 256 = 0:=Int.ediv_eq_zero_of_lt hE.1 (by
    have hw : W4 = 2 ^ 256:=by rfl
    rw [← hw];exact hE.2)
   rw [this,p6,show Int.toNat 0 = 0 from rfl,Int.pow_zero (val a)]
 ·intro p hp ρ N v hr
  simp only [e8b,List.mem_cons,List.not_mem_nil,or_false] at hp
  rcases hp with rfl | rfl | rfl | rfl | rfl | rfl
  ·rw [h9] at hr;cases hr with | int _ _ _ h=>exact .int _ _ _ h
  ·rw [h0] at hr;exact hr
  ·rw [h5] at hr;exact hr
  ·rw [h6] at hr;exact hr
  ·rw [h7] at hr;exact hr
  ·rw [h8] at hr;exact hr
def f8c : List V → E (AV × Mem)
 | [.pt (.ints .u64 (some 9) L), .pl (.ints .u64 4 a), .pl (.ints .u64 4 e)]=>some ([good L],(.ints .u64 4 (limbs ((val a ^ (val e).toNat) % val L)),[]))
 | _=>none
def powO (L a e : List Int) : List Bool:=[good L,good L,decide (0 < val L ∧ val L < W4),decide (val L % 2 = 1),decide ((L.getD 0 0 * L.getD 4 0 + 1) % 18446744073709551616 = 0),decide (limbs (val e) = e),decide (limbs ((val a * 2 ^ 256) % val L) = limbs ((val a * 2 ^ 256) % val L)),decide (limbs ((val [1,0,0,0] * 2 ^ 256) % val L) = limbs ((1 * 2 ^ 256) % val L)),
 decide (val L % 2 = 1),decide ((L.getD 0 0 * L.getD 4 0 + 1) % 18446744073709551616 = 0),decide (val (limbs ((val a ^ (val e).toNat * 2 ^ 256) % val L)) < val L)]
theorem c66 (m0 m1 m2 m3 ni s0 s1 s2 s3 : Int) (a e : List Int) : res (d8a Tryz.prog d93 hm9 powΛ 100 80 (d7z 0 [.pt (.ints .u64 (some 9) [m0,m1,m2,m3,ni,s0,s1,s2,s3]), .pl (.ints .u64 4 a), .pl (.ints .u64 4 e)]) (d87 [.pt (.ints .u64 (some 9) [m0,m1,m2,m3,ni,s0,s1,s2,s3]), .pl (.ints .u64 4 a), .pl (.ints .u64 4 e)])) =
  some (powO [m0,m1,m2,m3,ni,s0,s1,s2,s3] a e, .ints .u64 4 (limbs (mont (val [1,0,0,0]) (val (limbs ((val a ^ (val e).toNat * 2 ^ 256) % val [m0,m1,m2,m3,ni,s0,s1,s2,s3]))) (val [m0,m1,m2,m3,ni,s0,s1,s2,s3])))):=by kernel_rfl
theorem d6p {xs : List V} {o : List Bool} {v : AV} {bs : Mem} (h : f8c xs = some (o,(v,bs))) (ho : d7x o) : d7y Tryz.prog 80 xs v bs:=by
 unfold f8c at h
 split at h
 ·rename_i L a e
  cases h
  have hg:=ho _ (f9b ..)
  obtain ⟨h1,h2,h3,h4⟩:=a26.1 hg
  intro ρ vs w ha hi
  obtain ⟨m0,m1,m2,m3,ni,s0,s1,s2,s3,rfl,w0,w1,w2,w3,wi,_⟩:=a2n hi rfl
  have hM : 0 < val [m0,m1,m2,m3,ni,s0,s1,s2,s3] ∧ val [m0,m1,m2,m3,ni,s0,s1,s2,s3] < W4:=⟨by omega,(a08 w0 w1 w2 w3).2⟩
  have hb:=ha
  cases hb with
  | cons _ _ _ _ r0 hb=>cases hb with
   | cons _ _ _ _ r1 hb=>cases hb with
    | cons _ _ _ _ r2 hb =>
     have he : limbs (val e) = e:=by
      obtain ⟨e0,e1,e2,e3,rfl,u0,u1,u2,u3⟩:=a0g r2
      exact a0w u0 u1 u2 u3
     have ev:=c66 m0 m1 m2 m3 ni s0 s1 s2 s3 a e
     generalize [m0,m1,m2,m3,ni,s0,s1,s2,s3] = L at *
     have one : val [1,0,0,0] = 1:=rfl
     rw [lv hM,a3t h1,one,Int.one_mul] at ev
     refine a3b mixed d7w c31 (fun fn c hf hb=>by rw [a0r hf hb];exact d2g) ev ?_ rfl (by kernel_rfl) ha hi
     unfold powO
     rw [lv hM,one]
     exact a00 hg (a00 hg (a00 (decide_eq_true hM) (a00 (decide_eq_true h1) (a00 (decide_eq_true h3) (a00 (decide_eq_true he) (a00 (decide_eq_true rfl) (a00 (decide_eq_true rfl)
      (a00 (decide_eq_true h1) (a00 (decide_eq_true h3) (a00 (decide_eq_true (Int.emod_lt_of_pos _ hM.1)) d7x.nil))))))))))
 ·cases h
def f8d : d82:=d84 80 f8c hm9
theorem c33 : HOk Tryz.prog f8d:=c31.d84 fun _ _ _ _ h ho=>d6p h ho
def f8e : List V → E (AV × Mem)
 | [.pt (.ints .u64 (some 9) L), .pl (.ints .u64 4 a)]=>some ([good L],(.ints .u64 4 (limbs ((val a ^ (val L - 2).toNat) % val L)),[]))
 | _=>none
theorem c67 (m0 m1 m2 m3 ni s0 s1 s2 s3 : Int) (a : List Int) : res (d81 Tryz.prog d93 f8d 100 46 (d7z 0 [.pt (.ints .u64 (some 9) [m0,m1,m2,m3,ni,s0,s1,s2,s3]), .pl (.ints .u64 4 a)]) (d87 [.pt (.ints .u64 (some 9) [m0,m1,m2,m3,ni,s0,s1,s2,s3]), .pl (.ints .u64 4 a)])) =
  some ([good [m0,m1,m2,m3,ni,s0,s1,s2,s3]], .ints .u64 4 (limbs ((val a ^ (val (limbs (val [m0,m1,m2,m3,ni,s0,s1,s2,s3] - val [2,0,0,0]))).toNat) % val [m0,m1,m2,m3,ni,s0,s1,s2,s3]))):=by kernel_rfl
theorem d6q {xs : List V} {o : List Bool} {v : AV} {bs : Mem} (h : f8e xs = some (o,(v,bs))) (ho : d7x o) : d7y Tryz.prog 46 xs v bs:=by
 unfold f8e at h
 split at h
 ·rename_i L a
  cases h
  have hg:=ho _ (f9b ..)
  obtain ⟨h1,h2,h3,h4⟩:=a26.1 hg
  intro ρ vs w ha hi
  obtain ⟨m0,m1,m2,m3,ni,s0,s1,s2,s3,rfl,w0,w1,w2,w3,wi,_⟩:=a2n hi rfl
  have hM : 0 < val [m0,m1,m2,m3,ni,s0,s1,s2,s3] ∧ val [m0,m1,m2,m3,ni,s0,s1,s2,s3] < W4:=⟨by omega,(a08 w0 w1 w2 w3).2⟩
  have ev:=c67 m0 m1 m2 m3 ni s0 s1 s2 s3 a
  generalize [m0,m1,m2,m3,ni,s0,s1,s2,s3] = L at *
  have e : val (limbs (val L - val [2,0,0,0])) = val L - 2:=by
   rw [a1f,show val [2,0,0,0] = 2 from rfl]
   have:=hM.2
   unfold W4 at this
   omega
  rw [e] at ev
  exact a16 mixed d7w c33 ev (a00 hg d7x.nil) rfl (by kernel_rfl) ha hi
 ·cases h
def f2r : d82:=d84 46 f8e f8d
theorem b6a : HOk Tryz.prog f2r:=c33.d84 fun _ _ _ _ h ho=>d6q h ho
end Go.Proofs.YthelmpjkkkhopaaGreatDoor
