/- Layer 10: bytes that came in, by cases. Own work. -/
import Derived.Test.YthelmpjkkkhopaaGreatDoorZEvLawN
import Derived.Test.YthelmpjkkkhopaaGreatDoorZEvPut
import Derived.Test.YthelmpjkkkhopaaGreatDoorZMyMC
import Derived.Test.YthelmpjkkkhopaaGreatDoorZEvLoop
set_option linter.unusedSimpArgs false
set_option linter.unusedVariables false
set_option linter.unusedSectionVars false
namespace Go.Proofs.YthelmpjkkkhopaaGreatDoor
open Go.Ev Go.Wn Go.Mo
set_option maxRecDepth 100000
theorem e6m {W : World} {j n : Nat} {k : IntKind} {l : List Int} {v : Value} (h : ∃ L,VOk W j L (.buf true k n l) v) : ∃ L,VOk W j L (.buf false k n l) v:=by
 obtain ⟨L,h1,h2⟩:=h
 refine ⟨L,fun ρ N hρ hN => ?_,fun b hb=>⟨fun hrw => ?_,(h2 b hb).2⟩⟩
 ·have hr:=h1 ρ N hρ hN
  cases hr with
  | slice _ _ _ _ _ _ c ad hn hc hl hw had=>exact .slice false _ _ _ _ _ c ad hn hc hl hw had
 ·cases hb;cases hrw
theorem a3l {W : World} (j : Nat) {v : Value} (hv : v = .slice none 0 0 ∨ ∃ (a : Addr) (len cap : Nat) (zs : List Int),v = .slice (some a) len cap ∧ len ≤ cap ∧ cap ≤ maxLen ∧ zs.length = cap ∧ (∀ i,i < zs.length → W.cell? (a.add i) = some (.int .u8 (zs.getD i 0))) ∧ ∀ n ∈ zs,inR .u8 n = true) :
  (∃ L,VOk W j L (.pl .nilslice) v) ∨ (∃ L,VOk W j L .empty v) ∨ (∃ (n : Nat) (l : List Int),n < 9223372036854775808 ∧ (n : Int) ≠ 32 ∧ ∃ L,VOk W j L (.buf true .u8 n l) v) ∨ ∃ l : List Int,okb l ∧ ∃ L,VOk W j L (.buf false .u8 32 l) v:=by
 rcases VOk.bytes j hv with h | h | ⟨n,l,h1,h2,h3,h4,h5⟩
 ·exact .inl h
 ·exact .inr (.inl h)
 ·by_cases h32 : n = 32
  ·subst h32
   exact .inr (.inr (.inr ⟨l,⟨h3,h4⟩,e6m h5⟩))
  ·exact .inr (.inr (.inl ⟨n,l,by unfold maxLen at h2;omega,by omega,h5⟩))
theorem a9e {W : World} (j : Nat) {v : Value} (hv : v = .slice none 0 0 ∨ ∃ (a : Addr) (len cap : Nat) (zs : List Int),v = .slice (some a) len cap ∧ len ≤ cap ∧ cap ≤ maxLen ∧ zs.length = cap ∧ (∀ i,i < zs.length → W.cell? (a.add i) = some (.int .u8 (zs.getD i 0))) ∧ ∀ n ∈ zs,inR .u8 n = true) :
  (∃ L,VOk W j L (.pl .nilslice) v) ∨ (∃ L,VOk W j L .empty v) ∨ ∃ (n : Nat) (l : List Int),n < 9223372036854775808 ∧ ∃ L,VOk W j L (.buf true .u8 n l) v:=by
 rcases VOk.bytes j hv with h | h | ⟨n,l,h1,h2,h3,h4,h5⟩
 ·exact .inl h
 ·exact .inr (.inl h)
 ·exact .inr (.inr ⟨n,l,by unfold maxLen at h2;omega,h5⟩)
theorem a2r {W : World} (j : Nat) {v : Value} (hv : v = .slice none 0 0 ∨ ∃ (a : Addr) (len cap : Nat) (zs : List Int),v = .slice (some a) len cap ∧ len ≤ cap ∧ cap ≤ maxLen ∧ zs.length = cap ∧ (∀ i,i < zs.length → W.cell? (a.add i) = some (.int .u8 (zs.getD i 0))) ∧ ∀ n ∈ zs,inR .u8 n = true) :
  ∃ B : V,isW B = false ∧ ∃ L,VOk W j L B v:=by
 rcases VOk.bytes j hv with h | h | ⟨n,l,h1,h2,h3,h4,h5⟩
 ·exact ⟨_,rfl,h⟩
 ·exact ⟨_,rfl,h⟩
 ·exact ⟨_,rfl,h5⟩
theorem b01 {B : V} {r : List V} (h : isW B = false) : noW (B :: r) = noW r:=by
 cases B <;> first | rfl | cases h
def gP (t : Bool) : List Bool:=[!(!t) || !t, !(!t) || !t,t || !t]
def gB (t : Bool) (k : Nat) : List Bool:=(!(!t) || decide (k < 9223372036854775808)) :: gP t
def orM (t x : Bool) : Bool:=match t with | true=>true | false=>x
theorem a1i {t : Bool} : d7x (gP t):=by cases t <;> exact a00 rfl (a00 rfl (a00 rfl d7x.nil))
theorem a6z {t : Bool} {k : Nat} (h : k < 9223372036854775808) : d7x (gB t k):=a00 (by rw [decide_eq_true h,Bool.or_true]) a1i
end Go.Proofs.YthelmpjkkkhopaaGreatDoor
namespace Go.Wn
open Go.Ev
def e1m (x : Int) : Int:=if x ≤ 0 then 0 else (Nat.log2 x.toNat : Int) + 1
theorem c0k {x : Int} {n : Nat} (h1 : 2 ^ n ≤ x) (h2 : x < 2 ^ (n + 1)) : e1m x = n + 1:=by
 have hp : (0 : Int) < 2 ^ n:=Int.pow_pos (by omega)
 unfold e1m
 rw [if_neg (by omega)]
 obtain ⟨X,rfl⟩:=Int.eq_ofNat_of_zero_le (show 0 ≤ x by omega)
 have h1' : 2 ^ n ≤ X:=by exact_mod_cast h1
 have h2' : X < 2 ^ (n + 1):=by exact_mod_cast h2
 rw [Int.toNat_natCast]
 have : X.log2 = n:=(Nat.log2_eq_iff (by have:=Nat.pow_pos (n:=n) (show 0 < 2 by omega);omega)).2 ⟨h1',h2'⟩
 rw [this]
theorem a62 {x : Int} (h : 0 < x) : ∃ n : Nat,e1m x = n + 1 ∧ 2 ^ n ≤ x ∧ x < 2 ^ (n + 1):=by
 obtain ⟨X,rfl⟩:=Int.eq_ofNat_of_zero_le (show 0 ≤ x by omega)
 have hX : X ≠ 0:=by omega
 obtain ⟨h1,h2⟩:=(Nat.log2_eq_iff hX).1 rfl
 refine ⟨X.log2, ?_,by exact_mod_cast h1,by exact_mod_cast h2⟩
 unfold e1m
 rw [if_neg (by omega),Int.toNat_natCast]
def e1t : List Int:=(List.range 256).map fun (b : Nat)=>e1m b
theorem c45 {b : Nat} (h : b < 256) : e1t.getD b 0 = e1m b:=by
 unfold e1t
 simp [List.getD,h]
theorem b90 {x : Int} {k : Nat} (h : 0 < x / 2 ^ k) : e1m x = k + e1m (x / 2 ^ k):=by
 have hp : (0 : Int) < 2 ^ k:=Int.pow_pos (by omega)
 obtain ⟨n,e,h1,h2⟩:=a62 h
 rw [e]
 have a1 : 2 ^ (k + n) ≤ x:=by
  rw [Int.pow_add]
  have:=Int.mul_le_mul_of_nonneg_left h1 (Int.le_of_lt hp)
  have:=Int.mul_ediv_self_le (x:=x) (k:=2 ^ k) (Int.ne_of_gt hp)
  omega
 have a2 : x < 2 ^ (k + n + 1):=by
  rw [Nat.add_assoc,Int.pow_add,Int.mul_comm]
  exact Int.lt_mul_of_ediv_lt hp h2
 rw [c0k a1 a2]
 omega
theorem b1w {H c q r y1 y0 : Int} (hy : 0 < y1 * 4294967296 + y0) (hr : r = H - q * y1) (h : q * y0 ≤ 4294967296 * r + c) : q ≤ (H * 4294967296 + c) / (y1 * 4294967296 + y0):=by
 apply Int.le_ediv_of_mul_le hy
 have e : q * (y1 * 4294967296 + y0) = 4294967296 * (q * y1) + q * y0:=by grind
 rw [e]
 generalize q * y1 = A at *
 generalize q * y0 = B at *
 omega
theorem b91 {H c q r y1 y0 : Int} (hy : 0 < y1 * 4294967296 + y0) (hr : r = H - q * y1) (h : 4294967296 * r + c < q * y0) : (H * 4294967296 + c) / (y1 * 4294967296 + y0) < q:=by
 apply Int.ediv_lt_of_lt_mul hy
 have e : q * (y1 * 4294967296 + y0) = 4294967296 * (q * y1) + q * y0:=by grind
 rw [e]
 generalize q * y1 = A at *
 generalize q * y0 = B at *
 omega
theorem b4o {H c y1 y0 : Int} (h1 : 2147483648 ≤ y1 ∧ y1 < 4294967296) (h0 : 0 ≤ y0 ∧ y0 < 4294967296) (hc : 0 ≤ c ∧ c < 4294967296) (hH : 0 ≤ H ∧ H < y1 * 4294967296 + y0) :
  (H * 4294967296 + c) / (y1 * 4294967296 + y0) ≤ H / y1 ∧ 0 ≤ H / y1 ∧ H / y1 ≤ 4294967297 ∧ 0 ≤ H - H / y1 * y1 ∧ H - H / y1 * y1 < y1 ∧ 0 ≤ (H * 4294967296 + c) / (y1 * 4294967296 + y0) ∧ (H * 4294967296 + c) / (y1 * 4294967296 + y0) < 4294967296:=by
 have hy : 0 < y1 * 4294967296 + y0:=by omega
 have e1:=Int.emod_add_mul_ediv H y1
 have e2:=Int.emod_nonneg H (show y1 ≠ 0 by omega)
 have e3:=Int.emod_lt_of_pos H (show 0 < y1 by omega)
 have e4 : H / y1 * y1 = y1 * (H / y1):=Int.mul_comm _ _
 refine ⟨?_,Int.ediv_nonneg hH.1 (by omega), ?_,by omega,by omega,Int.ediv_nonneg (by omega) (by omega), ?_⟩
 ·apply Int.le_ediv_of_mul_le (by omega)
  have hq:=Int.ediv_mul_le (H * 4294967296 + c) (Int.ne_of_gt hy)
  have hq0:=Int.ediv_nonneg (show 0 ≤ H * 4294967296 + c by omega) (Int.le_of_lt hy)
  generalize (H * 4294967296 + c) / (y1 * 4294967296 + y0) = Q at *
  have e : Q * (y1 * 4294967296 + y0) = 4294967296 * (Q * y1) + Q * y0:=by grind
  have hz:=Int.mul_nonneg hq0 h0.1
  rw [e] at hq
  generalize Q * y1 = A at *
  generalize Q * y0 = B at *
  omega
 ·have : H / y1 < 4294967298:=by
   apply Int.ediv_lt_of_lt_mul (by omega)
   omega
  omega
 ·apply Int.ediv_lt_of_lt_mul hy
  generalize y1 * 4294967296 + y0 = y at *
  omega
theorem b4p {q r c y0 : Int} (h0 : 0 ≤ y0 ∧ y0 < 4294967296) (hc : 0 ≤ c) (hq : 0 ≤ q ∧ q ≤ 4294967296) (hr : 4294967296 ≤ r) : q * y0 ≤ 4294967296 * r + c:=by
 have : q * y0 ≤ 4294967296 * y0:=Int.mul_le_mul_of_nonneg_right hq.2 h0.1
 omega
theorem b92 {hi lo y : Int} (hy : 0 < y) (un1 un0 : Int) (hl : lo = un1 * 4294967296 + un0) :
  (hi * 18446744073709551616 + lo) / y = (hi * 4294967296 + un1) / y * 4294967296 + (((hi * 4294967296 + un1) % y) * 4294967296 + un0) / y ∧
  (hi * 18446744073709551616 + lo) % y = (((hi * 4294967296 + un1) % y) * 4294967296 + un0) % y:=by
 have e1:=Int.emod_add_mul_ediv (hi * 4294967296 + un1) y
 generalize (hi * 4294967296 + un1) % y = r at *
 generalize (hi * 4294967296 + un1) / y = q at *
 have e : hi * 18446744073709551616 + lo = (r * 4294967296 + un0) + y * (q * 4294967296):=by
  have : y * (q * 4294967296) = (y * q) * 4294967296:=by rw [Int.mul_assoc]
  rw [this]
  generalize y * q = A at *
  omega
 rw [e,Int.add_mul_ediv_left _ _ (Int.ne_of_gt hy),Int.add_mul_emod_self_left]
 exact ⟨by omega,rfl⟩
end Go.Wn
namespace Go.Ev
theorem b1x {P : Program} {q : FuncId → Bool} {H : d82} (hm : P.follows .mixedOrders = true) (hng : d7w P = true) (hH : HOk P H) {n : Nat} {g : FuncId} {args : List AV} {o : List Bool} {v v' : AV} (hp : args.all d9e = true)
  (h : res (d81 P q H n g args []) = some (o,v)) (ho : d7x o) (hv : ∀ {ρ ρ' : Nat → d8c} {N N' : Nat → Prop} {u : Value},Rep ρ N v u → Rep ρ' N' v' u) : d86 P g args v':=
 a2i hm hng hH hp (a89 h ho hv)
end Go.Ev
namespace Go.Proofs.YthelmpjkkkhopaaGreatDoor
open Go.Ev Go.Wn
set_option maxRecDepth 100000
theorem a39 {x : Int} {k : Nat} (hk : k ≤ 56) (h0 : 0 ≤ x / 2 ^ k) (h1 : x / 2 ^ k < 256) (h2 : k = 0 ∨ 0 < x / 2 ^ k) :
  (decide (0 ≤ IntKind.u8.wrap (x / 2 ^ k)) && decide (IntKind.u8.wrap (x / 2 ^ k) < (e1t.length : Int))) = true ∧
  IntKind.i64.wrap ((k : Int) + IntKind.i64.wrap (e1t.getD (IntKind.u8.wrap (x / 2 ^ k)).toNat 0)) = e1m x:=by
 have hl : e1t.length = 256:=by simp [e1t]
 have hw : IntKind.u8.wrap (x / 2 ^ k) = x / 2 ^ k:=by
  generalize x / 2 ^ k = b at *
  unfold IntKind.wrap;simp [IntKind.bits,IntKind.signed];omega
 have hb : 0 ≤ e1m (x / 2 ^ k) ∧ e1m (x / 2 ^ k) ≤ 8:=by
  rcases Int.le_iff_lt_or_eq.1 h0 with h | h
  ·obtain ⟨n,e,g1,g2⟩:=a62 h
   rw [e]
   have : n < 8:=by
    rcases Nat.lt_or_ge n 8 with h8 | h8
    ·exact h8
    ·have : (2 : Int) ^ 8 ≤ 2 ^ n:=by exact_mod_cast Nat.pow_le_pow_right (by omega : 0 < 2) h8
     have h256 : (2 : Int) ^ 8 = 256:=rfl
     omega
   omega
  ·rw [← h];decide
 have hx : e1m x = k + e1m (x / 2 ^ k):=by
  rcases h2 with rfl | h2
  ·rw [Int.pow_zero,Int.ediv_one];simp
  ·exact b90 h2
 rw [hw,hl,decide_eq_true h0,decide_eq_true (by omega : x / 2 ^ k < ((256 : Nat) : Int))]
 refine ⟨rfl, ?_⟩
 have ht : e1t.getD (x / 2 ^ k).toNat 0 = e1m (x / 2 ^ k):=by
  rw [c45 (by omega),Int.toNat_of_nonneg h0]
 rw [ht,hx]
 generalize e1m (x / 2 ^ k) = t at *
 have w : ∀ {z : Int}, -9223372036854775808 ≤ z ∧ z < 9223372036854775808 → IntKind.i64.wrap z = z:=by
  intro z hz;unfold IntKind.wrap;simp [IntKind.bits,IntKind.signed];omega
 rw [w (z:=t) (by omega),w (by omega)]
theorem b4q {x : Int} (a b : Nat) (ha : a ≤ 64) (hb : b ≤ 64) : d88 .u64 (d88 .u64 x (a : Int)) (b : Int) = x / 2 ^ (a + b):=by
 rw [a2c (by simp [IntKind.bits];omega),a2c (by simp [IntKind.bits];omega),Int.ediv_ediv_of_nonneg (Int.le_of_lt (Int.pow_pos (by omega))), ← Int.pow_add]
theorem c97 (x : Int) : res ((d81 Tryz.prog d93 h0 100 110 [.int true .u64 x] []).go [true,true,true]) =
  some ([decide (x ≥ 4294967296),decide ((d88 .u64 x 32) ≥ 65536),decide ((d88 .u64 (d88 .u64 x 32) 16) ≥ 256),decide (0 ≤ IntKind.u8.wrap (d88 .u64 (d88 .u64 (d88 .u64 x 32) 16) 8)) && decide (IntKind.u8.wrap (d88 .u64 (d88 .u64 (d88 .u64 x 32) 16) 8) < (e1t.length : Int))], .int true .i64 (IntKind.i64.wrap (((56 : Nat) : Int) + IntKind.i64.wrap (e1t.getD (IntKind.u8.wrap (d88 .u64 (d88 .u64 (d88 .u64 x 32) 16) 8)).toNat 0)))):=by kernel_rfl
theorem c98 (x : Int) : res ((d81 Tryz.prog d93 h0 100 110 [.int true .u64 x] []).go [true,true,false]) =
  some ([decide (x ≥ 4294967296),decide ((d88 .u64 x 32) ≥ 65536), !decide ((d88 .u64 (d88 .u64 x 32) 16) ≥ 256),decide (0 ≤ IntKind.u8.wrap (d88 .u64 (d88 .u64 x 32) 16)) && decide (IntKind.u8.wrap (d88 .u64 (d88 .u64 x 32) 16) < (e1t.length : Int))], .int true .i64 (IntKind.i64.wrap (((48 : Nat) : Int) + IntKind.i64.wrap (e1t.getD (IntKind.u8.wrap (d88 .u64 (d88 .u64 x 32) 16)).toNat 0)))):=by kernel_rfl
theorem c99 (x : Int) : res ((d81 Tryz.prog d93 h0 100 110 [.int true .u64 x] []).go [true,false,true]) =
  some ([decide (x ≥ 4294967296), !decide ((d88 .u64 x 32) ≥ 65536),decide ((d88 .u64 x 32) ≥ 256),decide (0 ≤ IntKind.u8.wrap (d88 .u64 (d88 .u64 x 32) 8)) && decide (IntKind.u8.wrap (d88 .u64 (d88 .u64 x 32) 8) < (e1t.length : Int))], .int true .i64 (IntKind.i64.wrap (((40 : Nat) : Int) + IntKind.i64.wrap (e1t.getD (IntKind.u8.wrap (d88 .u64 (d88 .u64 x 32) 8)).toNat 0)))):=by kernel_rfl
theorem c9a (x : Int) : res ((d81 Tryz.prog d93 h0 100 110 [.int true .u64 x] []).go [true,false,false]) =
  some ([decide (x ≥ 4294967296), !decide ((d88 .u64 x 32) ≥ 65536), !decide ((d88 .u64 x 32) ≥ 256),decide (0 ≤ IntKind.u8.wrap (d88 .u64 x 32)) && decide (IntKind.u8.wrap (d88 .u64 x 32) < (e1t.length : Int))], .int true .i64 (IntKind.i64.wrap (((32 : Nat) : Int) + IntKind.i64.wrap (e1t.getD (IntKind.u8.wrap (d88 .u64 x 32)).toNat 0)))):=by kernel_rfl
theorem c9b (x : Int) : res ((d81 Tryz.prog d93 h0 100 110 [.int true .u64 x] []).go [false,true,true]) =
  some ([!decide (x ≥ 4294967296),decide (x ≥ 65536),decide ((d88 .u64 x 16) ≥ 256),decide (0 ≤ IntKind.u8.wrap (d88 .u64 (d88 .u64 x 16) 8)) && decide (IntKind.u8.wrap (d88 .u64 (d88 .u64 x 16) 8) < (e1t.length : Int))], .int true .i64 (IntKind.i64.wrap (((24 : Nat) : Int) + IntKind.i64.wrap (e1t.getD (IntKind.u8.wrap (d88 .u64 (d88 .u64 x 16) 8)).toNat 0)))):=by kernel_rfl
theorem c9c (x : Int) : res ((d81 Tryz.prog d93 h0 100 110 [.int true .u64 x] []).go [false,true,false]) =
  some ([!decide (x ≥ 4294967296),decide (x ≥ 65536), !decide ((d88 .u64 x 16) ≥ 256),decide (0 ≤ IntKind.u8.wrap (d88 .u64 x 16)) && decide (IntKind.u8.wrap (d88 .u64 x 16) < (e1t.length : Int))], .int true .i64 (IntKind.i64.wrap (((16 : Nat) : Int) + IntKind.i64.wrap (e1t.getD (IntKind.u8.wrap (d88 .u64 x 16)).toNat 0)))):=by kernel_rfl
theorem c9d (x : Int) : res ((d81 Tryz.prog d93 h0 100 110 [.int true .u64 x] []).go [false,false,true]) =
  some ([!decide (x ≥ 4294967296), !decide (x ≥ 65536),decide (x ≥ 256),decide (0 ≤ IntKind.u8.wrap (d88 .u64 x 8)) && decide (IntKind.u8.wrap (d88 .u64 x 8) < (e1t.length : Int))], .int true .i64 (IntKind.i64.wrap (((8 : Nat) : Int) + IntKind.i64.wrap (e1t.getD (IntKind.u8.wrap (d88 .u64 x 8)).toNat 0)))):=by kernel_rfl
theorem c9e (x : Int) : res ((d81 Tryz.prog d93 h0 100 110 [.int true .u64 x] []).go [false,false,false]) =
  some ([!decide (x ≥ 4294967296), !decide (x ≥ 65536), !decide (x ≥ 256),decide (0 ≤ IntKind.u8.wrap x) && decide (IntKind.u8.wrap x < (e1t.length : Int))], .int true .i64 (IntKind.i64.wrap (((0 : Nat) : Int) + IntKind.i64.wrap (e1t.getD (IntKind.u8.wrap x).toNat 0)))):=by kernel_rfl
def f3c : List AV → E AV
 | [.int _ .u64 x]=>some ([], .int true .i64 (e1m x))
 | _=>none
theorem a2l {x y : Int} (h : x ≥ y) : decide (x ≥ y) = true:=decide_eq_true h
theorem a1x {x y : Int} (h : ¬ x ≥ y) : (!decide (x ≥ y)) = true:=by rw [decide_eq_false h];rfl
theorem d3f {args : List AV} {o : List Bool} {v : AV} (h : f3c args = some (o,v)) : d86 Tryz.prog 110 args v:=by
 unfold f3c at h
 split at h
 ·rename_i s x
  cases h
  intro ρ N vs ha
  cases ha with
  | cons _ _ _ _ r0 hb =>
   cases hb
   have wx:=a2d r0
   obtain ⟨x0,x1⟩:=wx
   have ha':=d8i.cons _ _ _ _ (remark r0) (.nil (ρ:=ρ) (N:=N))
   have s32 : d88 .u64 x 32 = x / 2 ^ 32:=a2c (r:=32) (by simp [IntKind.bits])
   have s16 : d88 .u64 x 16 = x / 2 ^ 16:=a2c (r:=16) (by simp [IntKind.bits])
   have s8 : d88 .u64 x 8 = x / 2 ^ 8:=a2c (r:=8) (by simp [IntKind.bits])
   have s3216 : d88 .u64 (d88 .u64 x 32) 16 = x / 2 ^ 48:=b4q 32 16 (by omega) (by omega)
   have s328 : d88 .u64 (d88 .u64 x 32) 8 = x / 2 ^ 40:=b4q 32 8 (by omega) (by omega)
   have s168 : d88 .u64 (d88 .u64 x 16) 8 = x / 2 ^ 24:=b4q 16 8 (by omega) (by omega)
   have s32168 : d88 .u64 (d88 .u64 (d88 .u64 x 32) 16) 8 = x / 2 ^ 56:=by
    rw [s3216]
    have : d88 .u64 (x / 2 ^ 48) 8 = x / 2 ^ 48 / 2 ^ 8:=a2c (r:=8) (by simp [IntKind.bits])
    rw [this,Int.ediv_ediv_of_nonneg (Int.le_of_lt (Int.pow_pos (by omega))), ← Int.pow_add]
   have s0 : x = x / 2 ^ 0:=by rw [Int.pow_zero,Int.ediv_one]
   by_cases h32 : x ≥ 4294967296
   ·by_cases h16 : x / 2 ^ 32 ≥ 65536
    ·by_cases h8 : x / 2 ^ 48 ≥ 256
     ·have ev:=c97 x
      rw [s32168,s3216,s32] at ev
      obtain ⟨t1,t2⟩:=a39 (x:=x) (k:=56) (by omega) (by omega) (by omega) (Or.inr (by omega))
      exact a0k mixed d7w a36 [true,true,true] (by kernel_rfl) ev (a00 (a2l h32) (a00 (a2l h16) (a00 (a2l h8) (a00 t1 d7x.nil)))) (by rw [t2]) (by kernel_rfl) ha'
     ·have ev:=c98 x
      rw [s3216,s32] at ev
      obtain ⟨t1,t2⟩:=a39 (x:=x) (k:=48) (by omega) (by omega) (by omega) (Or.inr (by omega))
      exact a0k mixed d7w a36 [true,true,false] (by kernel_rfl) ev (a00 (a2l h32) (a00 (a2l h16) (a00 (a1x h8) (a00 t1 d7x.nil)))) (by rw [t2]) (by kernel_rfl) ha'
    ·by_cases h8 : x / 2 ^ 32 ≥ 256
     ·have ev:=c99 x
      rw [s328,s32] at ev
      obtain ⟨t1,t2⟩:=a39 (x:=x) (k:=40) (by omega) (by omega) (by omega) (Or.inr (by omega))
      exact a0k mixed d7w a36 [true,false,true] (by kernel_rfl) ev (a00 (a2l h32) (a00 (a1x h16) (a00 (a2l h8) (a00 t1 d7x.nil)))) (by rw [t2]) (by kernel_rfl) ha'
     ·have ev:=c9a x
      rw [s32] at ev
      obtain ⟨t1,t2⟩:=a39 (x:=x) (k:=32) (by omega) (by omega) (by omega) (Or.inr (by omega))
      exact a0k mixed d7w a36 [true,false,false] (by kernel_rfl) ev (a00 (a2l h32) (a00 (a1x h16) (a00 (a1x h8) (a00 t1 d7x.nil)))) (by rw [t2]) (by kernel_rfl) ha'
   ·by_cases h16 : x ≥ 65536
    ·by_cases h8 : x / 2 ^ 16 ≥ 256
     ·have ev:=c9b x
      rw [s168,s16] at ev
      obtain ⟨t1,t2⟩:=a39 (x:=x) (k:=24) (by omega) (by omega) (by omega) (Or.inr (by omega))
      exact a0k mixed d7w a36 [false,true,true] (by kernel_rfl) ev (a00 (a1x h32) (a00 (a2l h16) (a00 (a2l h8) (a00 t1 d7x.nil)))) (by rw [t2]) (by kernel_rfl) ha'
     ·have ev:=c9c x
      rw [s16] at ev
      obtain ⟨t1,t2⟩:=a39 (x:=x) (k:=16) (by omega) (by omega) (by omega) (Or.inr (by omega))
      exact a0k mixed d7w a36 [false,true,false] (by kernel_rfl) ev (a00 (a1x h32) (a00 (a2l h16) (a00 (a1x h8) (a00 t1 d7x.nil)))) (by rw [t2]) (by kernel_rfl) ha'
    ·by_cases h8 : x ≥ 256
     ·have ev:=c9d x
      rw [s8] at ev
      obtain ⟨t1,t2⟩:=a39 (x:=x) (k:=8) (by omega) (by omega) (by omega) (Or.inr (by omega))
      exact a0k mixed d7w a36 [false,false,true] (by kernel_rfl) ev (a00 (a1x h32) (a00 (a1x h16) (a00 (a2l h8) (a00 t1 d7x.nil)))) (by rw [t2]) (by kernel_rfl) ha'
     ·have ev:=c9e x
      obtain ⟨t1,t2⟩:=a39 (x:=x) (k:=0) (by omega) (by rw [← s0];exact x0) (by rw [← s0];omega) (Or.inl rfl)
      rw [← s0] at t1 t2
      exact a0k mixed d7w a36 [false,false,false] (by kernel_rfl) ev (a00 (a1x h32) (a00 (a1x h16) (a00 (a1x h8) (a00 t1 d7x.nil)))) (by rw [t2]) (by kernel_rfl) ha'
 ·cases h
def hv1 : d82:=d8g 110 f3c hm1
theorem a9f : HOk Tryz.prog hv1:=c2s.d8g fun _ _ _ h _=>d3f h
def lzS : List AV → E AV
 | [.int _ .u64 x]=>some ([decide (0 < x)], .int true .i64 (64 - e1m x))
 | _=>none
def lz0 : List AV → E AV
 | [.int _ .u64 x]=>some ([decide (9223372036854775808 ≤ x)], .int false .i64 0)
 | _=>none
theorem c0l (x : Int) : res (d81 Tryz.prog d93 hv1 100 98 [.int true .u64 x] []) = some ([], .int true .i64 (IntKind.i64.wrap (64 - e1m x))):=by kernel_rfl
theorem b1y {x : Int} (h : W x) (h0 : 0 < x) : 1 ≤ e1m x ∧ e1m x ≤ 64:=by
 obtain ⟨n,e,h1,h2⟩:=a62 h0
 obtain ⟨g1,g2⟩:=h
 have : n < 64:=by
  rcases Nat.lt_or_ge n 64 with h8 | h8
  ·exact h8
  ·have : (2 : Int) ^ 64 ≤ 2 ^ n:=by exact_mod_cast Nat.pow_le_pow_right (by omega : 0 < 2) h8
   have h256 : (2 : Int) ^ 64 = 18446744073709551616:=rfl
   omega
 omega
theorem f3d {args : List AV} {o : List Bool} {v : AV} (h : lzS args = some (o,v)) (ho : d7x o) : d86 Tryz.prog 98 args v:=by
 unfold lzS at h
 split at h
 ·rename_i s x
  cases h
  have h1:=ho _ (f9b ..)
  rw [decide_eq_true_eq] at h1
  intro ρ N vs ha
  cases ha with
  | cons _ _ _ _ r0 hb =>
   cases hb
   have hb:=b1y (a2d r0) h1
   have hw : IntKind.i64.wrap (64 - e1m x) = 64 - e1m x:=a28 (by omega)
   exact a0b mixed d7w a9f (by kernel_rfl) (c0l x) d7x.nil (by rw [hw]) (by kernel_rfl) (.cons _ _ _ _ (remark r0) .nil)
 ·cases h
theorem e96 {k : IntKind} {n m : Int} (hnm : n = m) {ρ ρ' : Nat → d8c} {N N' : Nat → Prop} {u : Value} (h : Rep ρ N (.int true k n) u) : Rep ρ' N' (.int false k m) u:=by
 subst hnm;cases h with | int _ _ _ h=>exact .int _ _ _ h
theorem d3g {args : List AV} {o : List Bool} {v : AV} (h : lz0 args = some (o,v)) (ho : d7x o) : d86 Tryz.prog 98 args v:=by
 unfold lz0 at h
 split at h
 ·rename_i s x
  cases h
  have h1:=ho _ (f9b ..)
  rw [decide_eq_true_eq] at h1
  intro ρ N vs ha
  cases ha with
  | cons _ _ _ _ r0 hb =>
   cases hb
   have hx:=a2d r0
   obtain ⟨x0,x1⟩:=hx
   have hb : e1m x = (63 : Nat) + 1:=c0k (by simpa using h1) (by simpa using x1)
   have hw : IntKind.i64.wrap (64 - e1m x) = 0:=by rw [hb];decide
   exact b1x mixed d7w a9f (by kernel_rfl) (c0l x) d7x.nil (e96 hw) (.cons _ _ _ _ (remark r0) .nil)
 ·cases h
end Go.Proofs.YthelmpjkkkhopaaGreatDoor
