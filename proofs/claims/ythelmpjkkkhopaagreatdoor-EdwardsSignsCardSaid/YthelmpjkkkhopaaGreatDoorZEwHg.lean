/- The reference of layer 10: hashes as numbers, the same as the program's. Own work. -/
import Derived.Test.YthelmpjkkkhopaaGreatDoorZEwHa
import Derived.Test.YthelmpjkkkhopaaGreatDoorZEvLawN
import Derived.Test.YthelmpjkkkhopaaGreatDoorZEeLenC
import Derived.Test.YthelmpjkkkhopaaGreatDoorZShaF
set_option linter.unusedSimpArgs false
set_option linter.unusedVariables false
set_option linter.unusedSectionVars false
namespace Go.Proofs.YthelmpjkkkhopaaGreatDoor
open Go.Ev Go.Wn Go.Mo
set_option maxRecDepth 100000
def rnm (l : List Int) : List Int:=limbs (be (Go.Sh.d9f 64 8 (Go.Sh.e3u 64 80 128 Go.Sh.d9g l)).reverse % val e00)
def haT (n : Nat) (x : List Int) : List Bool:=[decide (0 + n ≤ n),decide (32 + n ≤ 1000000000),decide (0 + (32 + n) ≤ x.length),decide (32 + n + 0 ≤ 1000000000),decide (0 + (32 + n + 0) ≤ ((x.drop 0).take (32 + n) ++ ([] : List Int)).length),decide (1 ≤ 32 + n + 0),decide (32 + n + 0 ≤ 400000000),true,true]
theorem ha_1 (a m : List Int) (n : Nat) : d92 0 ((d8a Tryz.prog qn (deep Tryz.prog qn hu0 100 4) (fun _ _=>none) 400 27 (d7z 0 [.buf false .u8 32 a, .buf true .u8 n m, .pl .nilslice]) (d87 [.buf false .u8 32 a, .buf true .u8 n m, .pl .nilslice])).go []) =
  some (haT n (a ++ (m.drop 0).take n), .ints .u64 4 (rnm ((((((a ++ (m.drop 0).take n).drop 0).take (32 + n)) ++ []).drop 0).take (32 + n + 0))),some (some ⟨false, .ints .u8 (some 32) a⟩)):=by kernel_rfl
theorem ha_2 (a : List Int) : d92 0 ((d8a Tryz.prog qn (deep Tryz.prog qn hu0 100 4) (fun _ _=>none) 400 27 (d7z 0 [.buf false .u8 32 a, .pl .nilslice, .pl .nilslice]) (d87 [.buf false .u8 32 a, .pl .nilslice, .pl .nilslice])).go []) =
  some ([true,true,true,true], .ints .u64 4 (rnm (a ++ [] ++ [])),some (some ⟨false, .ints .u8 (some 32) a⟩)):=by kernel_rfl
theorem ha_3 (a : List Int) : d92 0 ((d8a Tryz.prog qn (deep Tryz.prog qn hu0 100 4) (fun _ _=>none) 400 27 (d7z 0 [.buf false .u8 32 a, .empty, .pl .nilslice]) (d87 [.buf false .u8 32 a, .empty, .pl .nilslice])).go []) =
  some ([true,true,true,true], .ints .u64 4 (rnm (a ++ [] ++ [])),some (some ⟨false, .ints .u8 (some 32) a⟩)):=by kernel_rfl
def haU (n : Nat) (x : List Int) : List Bool:=[decide (0 + n ≤ n),decide (32 + 32 + n ≤ 1000000000),decide (0 + (32 + 32 + n) ≤ x.length),decide (1 ≤ 32 + 32 + n),decide (32 + 32 + n ≤ 400000000),true,true]
theorem ha_4 (a b m : List Int) (n : Nat) : d92 0 ((d8a Tryz.prog qn (deep Tryz.prog qn hu0 100 4) (fun _ _=>none) 400 27 (d7z 0 [.buf false .u8 32 a, .buf false .u8 32 b, .buf true .u8 n m]) (d87 [.buf false .u8 32 a, .buf false .u8 32 b, .buf true .u8 n m])).go []) =
  some (haU n (a ++ b ++ (m.drop 0).take n), .ints .u64 4 (rnm (((a ++ b ++ (m.drop 0).take n).drop 0).take (32 + 32 + n))),some (some ⟨false, .ints .u8 (some 32) a⟩)):=by kernel_rfl
theorem ha_5 (a b : List Int) : d92 0 ((d8a Tryz.prog qn (deep Tryz.prog qn hu0 100 4) (fun _ _=>none) 400 27 (d7z 0 [.buf false .u8 32 a, .buf false .u8 32 b, .pl .nilslice]) (d87 [.buf false .u8 32 a, .buf false .u8 32 b, .pl .nilslice])).go []) =
  some ([true,true,true,true], .ints .u64 4 (rnm (a ++ b ++ [])),some (some ⟨false, .ints .u8 (some 32) a⟩)):=by kernel_rfl
theorem ha_6 (a b : List Int) : d92 0 ((d8a Tryz.prog qn (deep Tryz.prog qn hu0 100 4) (fun _ _=>none) 400 27 (d7z 0 [.buf false .u8 32 a, .buf false .u8 32 b, .empty]) (d87 [.buf false .u8 32 a, .buf false .u8 32 b, .empty])).go []) =
  some ([true,true,true,true], .ints .u64 4 (rnm (a ++ b ++ [])),some (some ⟨false, .ints .u8 (some 32) a⟩)):=by kernel_rfl
def haS : List V → E (AV × Mem)
 | [.buf false .u8 32 a, .buf true .u8 n m, .pl .nilslice]=>some ([decide (n ≤ 1000)],(.ints .u64 4 (rnm (a ++ m)),[]))
 | [.buf false .u8 32 a, .pl .nilslice, .pl .nilslice]=>some ([],(.ints .u64 4 (rnm a),[]))
 | [.buf false .u8 32 a, .empty, .pl .nilslice]=>some ([],(.ints .u64 4 (rnm a),[]))
 | [.buf false .u8 32 a, .buf false .u8 32 b, .buf true .u8 n m]=>some ([decide (n ≤ 1000)],(.ints .u64 4 (rnm (a ++ b ++ m)),[]))
 | [.buf false .u8 32 a, .buf false .u8 32 b, .pl .nilslice]=>some ([],(.ints .u64 4 (rnm (a ++ b)),[]))
 | [.buf false .u8 32 a, .buf false .u8 32 b, .empty]=>some ([],(.ints .u64 4 (rnm (a ++ b)),[]))
 | _=>none
theorem tk {l : List Int} {n : Nat} (h : l.length = n) : (l.drop 0).take n = l:=by rw [List.drop_zero,List.take_of_length_le (by omega)]
theorem f5f {xs : List V} {o : List Bool} {v : AV} {bs : Mem} (h : haS xs = some (o,(v,bs))) (ho : d7x o) : d7y Tryz.prog 27 xs v bs:=by
 have D:=c7t.deep (q:=qn) mixed d7w 100 4
 unfold haS at h
 split at h
 ·rename_i a n m
  cases h
  have hn:=f9c (ho _ (f9b ..))
  intro ρ vs w ha hi
  obtain ⟨la,_⟩:=a0l hi 0 rfl
  obtain ⟨lm,_⟩:=a0l hi 1 rfl
  have e:=ha_1 a m n
  have l1 : (a ++ m).length = 32 + n:=by rw [List.length_append,la,lm]
  rw [tk lm,tk l1,List.append_nil,Nat.add_zero,tk l1] at e
  exact a0a mixed d7w D (lo1 _) [] 0 e (by
   unfold haT
   rw [tk l1,List.append_nil,l1]
   exact a00 (decide_eq_true (by omega)) (a00 (decide_eq_true (by omega)) (a00 (decide_eq_true (by omega)) (a00 (decide_eq_true (by omega)) (a00 (decide_eq_true (by omega)) (a00 (decide_eq_true (by omega)) (a00 (decide_eq_true (by omega)) (a00 rfl (a00 rfl d7x.nil))))))))) rfl rfl rfl rfl ha hi
 ·rename_i a
  cases h
  intro ρ vs w ha hi
  have e:=ha_2 a
  rw [List.append_nil,List.append_nil] at e
  exact a0a mixed d7w D (lo1 _) [] 0 e (List.all_eq_true.1 rfl) rfl rfl rfl rfl ha hi
 ·rename_i a
  cases h
  intro ρ vs w ha hi
  have e:=ha_3 a
  rw [List.append_nil,List.append_nil] at e
  exact a0a mixed d7w D (lo1 _) [] 0 e (List.all_eq_true.1 rfl) rfl rfl rfl rfl ha hi
 ·rename_i a b n m
  cases h
  have hn:=f9c (ho _ (f9b ..))
  intro ρ vs w ha hi
  obtain ⟨la,_⟩:=a0l hi 0 rfl
  obtain ⟨lb,_⟩:=a0l hi 1 rfl
  obtain ⟨lm,_⟩:=a0l hi 2 rfl
  have e:=ha_4 a b m n
  have l1 : (a ++ b ++ m).length = 32 + 32 + n:=by rw [List.length_append,List.length_append,la,lb,lm]
  rw [tk lm,tk l1] at e
  exact a0a mixed d7w D (lo1 _) [] 0 e (by
   unfold haU
   rw [l1]
   exact a00 (decide_eq_true (by omega)) (a00 (decide_eq_true (by omega)) (a00 (decide_eq_true (by omega)) (a00 (decide_eq_true (by omega)) (a00 (decide_eq_true (by omega)) (a00 rfl (a00 rfl d7x.nil))))))) rfl rfl rfl rfl ha hi
 ·rename_i a b
  cases h
  intro ρ vs w ha hi
  have e:=ha_5 a b
  rw [List.append_nil] at e
  exact a0a mixed d7w D (lo1 _) [] 0 e (List.all_eq_true.1 rfl) rfl rfl rfl rfl ha hi
 ·rename_i a b
  cases h
  intro ρ vs w ha hi
  have e:=ha_6 a b
  rw [List.append_nil] at e
  exact a0a mixed d7w D (lo1 _) [] 0 e (List.all_eq_true.1 rfl) rfl rfl rfl rfl ha hi
 ·cases h
def hu1 : d82:=d84 27 haS hu0
theorem c7u : HOk Tryz.prog hu1:=c7t.d84 fun _ _ _ _ h ho=>f5f h ho
theorem d0i {l : List Int} (h : l.length = 64) : revL l = l.reverse:=by
 obtain ⟨b0,b1,b2,b3,b4,b5,b6,b7,b8,b9,b10,b11,b12,b13,b14,b15,b16,b17,b18,b19,b20,b21,b22,b23,b24,b25,b26,b27,b28,b29,b30,b31,b32,b33,b34,b35,b36,b37,b38,b39,b40,b41,b42,b43,b44,b45,b46,b47,b48,b49,b50,b51,b52,b53,b54,b55,b56,b57,b58,b59,b60,b61,b62,b63,rfl⟩:=sixty h
 kernel_rfl
theorem c4y (ws : List Int) : (Go.Sh.d9f 64 8 ws).length = 64:=by unfold Go.Sh.d9f;simp
theorem b5y (a b : List Int) (st : St5) : sgF b (sgF a st) = sgF (a ++ b) st:=by
 unfold sgF Go.Sh.stW
 rw [List.foldl_append]
theorem c1y {l : List Int} (h : l.length < 2 ^ 60) : nmL (e5 (sgF l st5)) = rnm l:=by
 have hs:=Go.Sh.b4n (w:=64) (N:=80) (B:=128) (by decide) (by decide) (v:=Go.Sh.d9g) (l:=l) h
 have e : e5 (sgF l st5) = Go.Sh.d9f 64 8 (Go.Sh.e3u 64 80 128 Go.Sh.d9g l):=by
  unfold e5 sgF st5
  simp only
  rw [hs]
 unfold nmL rnm
 rw [e,d0i (c4y _),b7v,show val e00 = (L25 : Int) by decide +kernel]
theorem f5g (s : List Int) : sgA s = sgF (pfx s) st5:=a9x (b64 s)
theorem c4z {m s : List Int} (h : m.length < 2 ^ 50) : sgR (sgF m) s = rnm (pfx s ++ m):=by
 unfold sgR
 rw [f5g,b5y]
 exact c1y (by rw [List.length_append,b64];omega)
theorem b7u {m R A : List Int} (hR : R.length = 32) (hA : A.length = 32) (h : m.length < 2 ^ 50) : sgK (sgF m) R A = rnm (R ++ A ++ m):=by
 have e1 : e8s R = sgF R st5:=a9x hR
 have e2 : e88 R A = sgF A (e8s R):=a9x hA
 unfold sgK
 rw [e2,e1,b5y,b5y,List.append_assoc]
 exact c1y (by rw [List.length_append,List.length_append,hR,hA];omega)
theorem c50 {k : List Int} (h : okb k) : okb (cbL k) ∧ e1s (cbL k) = kwL (e1s k):=by
 obtain ⟨hl,hr⟩:=h
 obtain ⟨b0,b1,b2,b3,b4,b5,b6,b7,b8,b9,b10,b11,b12,b13,b14,b15,b16,b17,b18,b19,b20,b21,b22,b23,b24,b25,b26,b27,b28,b29,b30,b31,rfl⟩:=thirty hl
 simp only [List.forall_mem_cons,List.not_mem_nil,false_implies,implies_true,and_true] at hr
 obtain ⟨k0,k1,k2,k3,k4,k5,k6,k7,k8,k9,k10,k11,k12,k13,k14,k15,k16,k17,k18,k19,k20,k21,k22,k23,k24,k25,k26,k27,k28,k29,k30,k31⟩:=hr
 have q0:=a03 k0;have q31:=a03 k31
 unfold B8 at q0 q31
 have e : cbL [b0,b1,b2,b3,b4,b5,b6,b7,b8,b9,b10,b11,b12,b13,b14,b15,b16,b17,b18,b19,b20,b21,b22,b23,b24,b25,b26,b27,b28,b29,b30,b31] = [b0 / 8 * 8,b1,b2,b3,b4,b5,b6,b7,b8,b9,b10,b11,b12,b13,b14,b15,b16,b17,b18,b19,b20,b21,b22,b23,b24,b25,b26,b27,b28,b29,b30,b31 % 64 + 64]:=by
  have e1 : IntKind.u8.wrap (IntKind.u8.wrap (b0.tdiv 8) * 8) = b0 / 8 * 8:=by rw [Int.tdiv_eq_ediv_of_nonneg q0.1,u8w (x:=b0 / 8) (by omega),u8w (by omega)]
  have e2 : IntKind.u8.wrap (b31.tmod 64 + 64) = b31 % 64 + 64:=by rw [Int.tmod_eq_emod_of_nonneg q31.1,u8w (by omega)]
  rw [← e1, ← e2]
  rfl
 have hb : ∀ x : Int,0 ≤ x ∧ x < 256 → inR .u8 x = true:=fun x hx=>by rw [a15];simp only [lo,hi];omega
 rw [e]
 refine ⟨⟨rfl, ?_⟩, ?_⟩
 ·simp only [List.forall_mem_cons,List.not_mem_nil,false_implies,implies_true,and_true]
  exact ⟨hb _ (by omega),k1,k2,k3,k4,k5,k6,k7,k8,k9,k10,k11,k12,k13,k14,k15,k16,k17,k18,k19,k20,k21,k22,k23,k24,k25,k26,k27,k28,k29,k30,hb _ (by omega)⟩
 ·have w0:=e4u (a03 k7) (a03 k6) (a03 k5) (a03 k4) (a03 k3) (a03 k2) (a03 k1) (a03 k0)
  have w3:=e4u (a03 k31) (a03 k30) (a03 k29) (a03 k28) (a03 k27) (a03 k26) (a03 k25) (a03 k24)
  have e2 : kwL (e1s [b0,b1,b2,b3,b4,b5,b6,b7,b8,b9,b10,b11,b12,b13,b14,b15,b16,b17,b18,b19,b20,b21,b22,b23,b24,b25,b26,b27,b28,b29,b30,b31]) = [e0h .u64 (W8 b7 b6 b5 b4 b3 b2 b1 b0) 7,W8 b15 b14 b13 b12 b11 b10 b9 b8,W8 b23 b22 b21 b20 b19 b18 b17 b16,ior .u64 (e0h .u64 (W8 b31 b30 b29 b28 b27 b26 b25 b24) 9223372036854775808) 4611686018427387904]:=rfl
  rw [e2,a7w w0,a7x w3,c0y (by omega)]
  have q1:=a03 k1;have q2:=a03 k2;have q3:=a03 k3;have q4:=a03 k4;have q5:=a03 k5;have q6:=a03 k6;have q7:=a03 k7
  have q24:=a03 k24;have q25:=a03 k25;have q26:=a03 k26;have q27:=a03 k27;have q28:=a03 k28;have q29:=a03 k29;have q30:=a03 k30
  simp only [e1s,List.cons.injEq,and_true,true_and]
  unfold W8 B8 at *
  constructor <;> omega
end Go.Proofs.YthelmpjkkkhopaaGreatDoor
namespace Go.Proofs.YthelmpjkkkhopaaGreatDoor
open Go.Ev Go.Wn Go.Mo
set_option maxRecDepth 100000
def rH (s : List Int) : List Int:=Go.Sh.d9f 64 8 (Go.Sh.e3u 64 80 128 Go.Sh.d9g s)
def rN (s : List Int) : List Int:=e4m (cbL (((rH s).drop 0).take 32)).reverse
def rPt (n : List Int) : E3:=e3V (e3L (fMul (val n) (e3V (e3L fB))))
theorem c51 (s : List Int) : d92 3 ((d8a Tryz.prog qn (deep Tryz.prog qn hu1 100 4) (fun _ _=>none) 400 8 (d7z 0 [.buf false .u8 32 s]) (d87 [.buf false .u8 32 s])).go []) =
  some ([true,true,ltP (rPt (rN s)).z], .slice false 3 0 32 none 1,some (some ⟨true, .ints .u8 (some 32) (d8l (limbs (fW (rPt (rN s)))))⟩)):=by kernel_rfl
theorem f5h : fB.ok:=f5d.1
theorem c1z (N : Int) (p : E3) : (fMul N p).ok:=b66 N p 256
theorem c20 (n : List Int) : rPt n = fMul (val n) fB:=by unfold rPt;rw [b0w f5h,b0w (c1z _ _)]
theorem d4w (N : Int) (p : E3) : ∀ j,inP (fTr N p j).z
 | 0=>show inP 1 from ⟨by decide,by decide⟩
 | j + 1=>by
  show inP (if _ then _ else _ : E3).z
  split
  ·exact a2h _ _
  ·exact d4w N p j
theorem c52 (n : List Int) : ltP (rPt n).z = true:=by rw [c20];exact a7k (d4w _ _ 256)
theorem c21 {n : List Int} {N : Nat} (h : val n = (N : Int)) (hN : N < 2 ^ 255) : d8l (limbs (fW (rPt n))) = e87 n:=by
 have h1:=d5o (c2g a9j f5d (N:=N) (Nat.lt_trans hN (by decide)))
 rw [c20,h,h1,c4i,h,d7e hN]
theorem d0j {l : List Int} (h : l.length < 2 ^ 60) : e5 (sgF l st5) = rH l:=by
 have hs:=Go.Sh.b4n (w:=64) (N:=80) (B:=128) (by decide) (by decide) (v:=Go.Sh.d9g) (l:=l) h
 unfold e5 sgF st5 rH
 simp only
 rw [hs]
theorem c22 {s : List Int} (h : s.length = 32) : sdH s = rH s:=by
 unfold sdH
 rw [show w5 st5 s 32 = sgF s st5 from a9x h]
 exact d0j (by omega)
theorem c7v {s : List Int} (h : s.length = 32) : rN s = sdL s:=by
 have hk:=b7f s
 rw [c22 h] at hk
 obtain ⟨o1,o2⟩:=c50 hk
 unfold rN sdL
 rw [c22 h,b6n o1.1,o2]
theorem d0k {s : List Int} (h : s.length = 32) : d8l (limbs (fW (rPt (rN s)))) = e1f s:=by
 obtain ⟨N,hN,hN2⟩:=d48 s
 rw [c7v h]
 exact c21 hN hN2
def f5i : List V → E (AV × Mem)
 | [.buf false .u8 32 s]=>some ([],(.slice false 0 0 32 none 1,[some ⟨true, .ints .u8 (some 32) (e1f s)⟩]))
 | _=>none
theorem c7w {xs : List V} {o : List Bool} {v : AV} {bs : Mem} (h : f5i xs = some (o,(v,bs))) : d7y Tryz.prog 8 xs v bs:=by
 unfold f5i at h
 split at h
 ·rename_i s
  cases h
  intro ρ vs w ha hi
  obtain ⟨hl,_⟩:=a0l hi 0 rfl
  have e:=c51 s
  rw [d0k hl,c52] at e
  exact a12 mixed d7w (c7u.deep mixed d7w 100 4) (lo1 _) [] 3 e (List.all_eq_true.1 rfl) (by show 1 ≤ 3;decide) rfl rfl ha hi
 ·cases h
def hu2 : d82:=d84 8 f5i hu1
theorem c23 : HOk Tryz.prog hu2:=c7u.d84 fun _ _ _ _ h _=>c7w h
end Go.Proofs.YthelmpjkkkhopaaGreatDoor
namespace Go.Proofs.YthelmpjkkkhopaaGreatDoor
open Go.Ev Go.Wn Go.Mo Go.Ed
set_option maxRecDepth 100000
def rpf (s : List Int) : List Int:=((rH s).drop 32).take 32
def rsB (r : List Int) : List Int:=d8l (limbs (fW (rPt r)))
def rsX (r k s : List Int) : List Int:=limbs ((val r + val (limbs ((val k * val (rN s)) % val e00))) % val e00)
def rsG (r k s : List Int) : List Int:=rsB r ++ (d8l (rsX r k s)).reverse.reverse
theorem d4x (s m : List Int) (n : Nat) : d92 12 ((d8a Tryz.prog qn (deep Tryz.prog qn hu2 100 4) (fun _ _=>none) 400 9 (d7z 0 [.buf false .u8 32 s, .buf true .u8 n m]) (d87 [.buf false .u8 32 s, .buf true .u8 n m])).go []) =
  some ([true,true,decide (0 + n ≤ n),decide (n ≤ 1000),ltP (rPt (rnm (rpf s ++ (m.drop 0).take n))).z,decide (0 + n ≤ n),decide (n ≤ 1000),true,true], .slice false 12 0 64 none 1,
   some (some ⟨true, .ints .u8 (some 64) (rsG (rnm (rpf s ++ (m.drop 0).take n)) (rnm (rsB (rnm (rpf s ++ (m.drop 0).take n)) ++ e1f s ++ (m.drop 0).take n)) s)⟩)):=by kernel_rfl
theorem d4y (s : List Int) : d92 12 ((d8a Tryz.prog qn (deep Tryz.prog qn hu2 100 4) (fun _ _=>none) 400 9 (d7z 0 [.buf false .u8 32 s, .pl .nilslice]) (d87 [.buf false .u8 32 s, .pl .nilslice])).go []) =
  some ([true,true,ltP (rPt (rnm (rpf s))).z,true,true], .slice false 12 0 64 none 1,some (some ⟨true, .ints .u8 (some 64) (rsG (rnm (rpf s)) (rnm (rsB (rnm (rpf s)) ++ e1f s)) s)⟩)):=by kernel_rfl
theorem d4z (s : List Int) : d92 12 ((d8a Tryz.prog qn (deep Tryz.prog qn hu2 100 4) (fun _ _=>none) 400 9 (d7z 0 [.buf false .u8 32 s, .empty]) (d87 [.buf false .u8 32 s, .empty])).go []) =
  some ([true,true,ltP (rPt (rnm (rpf s))).z,true,true], .slice false 12 0 64 none 1,some (some ⟨true, .ints .u8 (some 64) (rsG (rnm (rpf s)) (rnm (rsB (rnm (rpf s)) ++ e1f s)) s)⟩)):=by kernel_rfl
theorem f5j {s : List Int} (h : s.length = 32) : pfx s = rpf s:=by unfold pfx rpf;rw [c22 h]
theorem d50 {r : List Int} {N : Nat} (h : val r = (N : Int)) (hN : N < 2 ^ 255) : rsB r = e87 r:=c21 h hN
theorem c24 (l : List Int) : ∃ r : Nat,val (rnm l) = (r : Int) ∧ r < L25:=by
 have e : val e00 = val OL:=by rw [b7v];decide +kernel
 obtain ⟨r,h1,h2⟩:=d4a (be (Go.Sh.d9f 64 8 (Go.Sh.e3u 64 80 128 Go.Sh.d9g l)).reverse)
 exact ⟨r,by unfold rnm;rw [e,f4u,h1],h2⟩
theorem f5k : L25 < 2 ^ 255:=c3j
theorem c25 {m s : List Int} (hs : s.length = 32) (hm : m.length < 2 ^ 50) : rsG (rnm (rpf s ++ m)) (rnm (rsB (rnm (rpf s ++ m)) ++ e1f s ++ m)) s = e6j (sgF m) s:=by
 have e : val e00 = val OL:=by rw [b7v];decide +kernel
 have hr:=c4z (s:=s) hm
 rw [f5j hs] at hr
 obtain ⟨r,h1,h2⟩:=c24 (rpf s ++ m)
 have hP : rsB (rnm (rpf s ++ m)) = sgP (sgF m) s:=by
  rw [d50 h1 (Nat.lt_trans h2 f5k)]
  unfold sgP
  rw [hr]
 have hk:=b7u (m:=m) (R:=sgP (sgF m) s) (A:=e1f s) (a3h _) (a3h _) hm
 unfold rsG e6j rsX sgS
 rw [hP,List.reverse_reverse,hr,hk,c7v hs,e]
def rsgS : List V → E (AV × Mem)
 | [.buf false .u8 32 s, .buf true .u8 n m]=>some ([decide (n ≤ 1000)],(.slice false 0 0 64 none 1,[some ⟨true, .ints .u8 (some 64) (e6j (sgF m) s)⟩]))
 | [.buf false .u8 32 s, .pl .nilslice]=>some ([],(.slice false 0 0 64 none 1,[some ⟨true, .ints .u8 (some 64) (e6j (sgF []) s)⟩]))
 | [.buf false .u8 32 s, .empty]=>some ([],(.slice false 0 0 64 none 1,[some ⟨true, .ints .u8 (some 64) (e6j (sgF []) s)⟩]))
 | _=>none
theorem c26 {xs : List V} {o : List Bool} {v : AV} {bs : Mem} (h : rsgS xs = some (o,(v,bs))) (ho : d7x o) : d7y Tryz.prog 9 xs v bs:=by
 have D:=c23.deep (q:=qn) mixed d7w 100 4
 unfold rsgS at h
 split at h
 ·rename_i s n m
  cases h
  have hn:=f9c (ho _ (f9b ..))
  intro ρ vs w ha hi
  obtain ⟨hl,_⟩:=a0l hi 0 rfl
  obtain ⟨lm,_⟩:=a0l hi 1 rfl
  have e:=d4x s m n
  rw [tk lm,c25 hl (by omega),c52] at e
  exact a12 mixed d7w D (lo1 _) [] 12 e (a00 rfl (a00 rfl (a00 (decide_eq_true (by omega)) (a00 (decide_eq_true hn) (a00 rfl (a00 (decide_eq_true (by omega)) (a00 (decide_eq_true hn) (a00 rfl (a00 rfl d7x.nil))))))))) (by show 2 ≤ 12;decide) rfl rfl ha hi
 ·rename_i s
  cases h
  intro ρ vs w ha hi
  obtain ⟨hl,_⟩:=a0l hi 0 rfl
  have e:=d4y s
  have g:=c25 (m:=[]) hl (by decide)
  rw [List.append_nil,List.append_nil] at g
  rw [g,c52] at e
  exact a12 mixed d7w D (lo1 _) [] 12 e (List.all_eq_true.1 rfl) (by show 2 ≤ 12;decide) rfl rfl ha hi
 ·rename_i s
  cases h
  intro ρ vs w ha hi
  obtain ⟨hl,_⟩:=a0l hi 0 rfl
  have e:=d4z s
  have g:=c25 (m:=[]) hl (by decide)
  rw [List.append_nil,List.append_nil] at g
  rw [g,c52] at e
  exact a12 mixed d7w D (lo1 _) [] 12 e (List.all_eq_true.1 rfl) (by show 2 ≤ 12;decide) rfl rfl ha hi
 ·cases h
def rvA (p : List Int) : List Int:=(rrL p).take 0 ++ limbs ((0 - val (((rrL p).drop 0).take 4)) % val PN) ++ (rrL p).drop 4
def rvS (g : List Int) : List Int:=e4m (((g.drop 32).take 32).reverse)
def rvP (k p g : List Int) : E3:=e3V (e3L (e7n (rPt (rvS g)) (e3V (e3L (fMul (val k) (e3V (rvA p)))))))
def v4 (f : Bool) : List Bool:=[!(!(!f)) || !(!f), !(!(!f)) || !(!f), !(!(!f)) || !(!f), !f || !(!f)]
def rvL (g : List Int) : Bool:=decide (val (rvS g) < val e00)
def rvD (k p g : List Int) : Bool:=decide (d8l (limbs (fW (rvP k p g))) = (g.drop 0).take 32)
theorem d0l (p m g : List Int) (n : Nat) : d92 0 ((d8a Tryz.prog qn (deep Tryz.prog qn hu2 100 4) (fun _ _=>none) 400 11 (d7z 0 [.buf false .u8 32 p, .buf true .u8 n m, .buf false .u8 64 g]) (d87 [.buf false .u8 32 p, .buf true .u8 n m, .buf false .u8 64 g])).go [true]) =
  some (v4 (d9c p) ++ [vM (d9c p) (rvL g)], .bool false false,some (some ⟨false, .ints .u8 (some 32) p⟩)):=by kernel_rfl
theorem d0m (p m g : List Int) (n : Nat) : d92 0 ((d8a Tryz.prog qn (deep Tryz.prog qn hu2 100 4) (fun _ _=>none) 400 11 (d7z 0 [.buf false .u8 32 p, .buf true .u8 n m, .buf false .u8 64 g]) (d87 [.buf false .u8 32 p, .buf true .u8 n m, .buf false .u8 64 g])).go [false]) =
  some (v4 (d9c p) ++ [!vM (d9c p) (rvL g)] ++ [decide (0 + n ≤ n),decide (n ≤ 1000),true,true,ltP (rvP (rnm ((g.drop 0).take 32 ++ p ++ (m.drop 0).take n)) p g).z], .bool true (rvD (rnm ((g.drop 0).take 32 ++ p ++ (m.drop 0).take n)) p g),some (some ⟨false, .ints .u8 (some 32) p⟩)):=by kernel_rfl
theorem d0n (p g : List Int) : d92 0 ((d8a Tryz.prog qn (deep Tryz.prog qn hu2 100 4) (fun _ _=>none) 400 11 (d7z 0 [.buf false .u8 32 p, .pl .nilslice, .buf false .u8 64 g]) (d87 [.buf false .u8 32 p, .pl .nilslice, .buf false .u8 64 g])).go [true]) =
  some (v4 (d9c p) ++ [vM (d9c p) (rvL g)], .bool false false,some (some ⟨false, .ints .u8 (some 32) p⟩)):=by kernel_rfl
theorem d0o (p g : List Int) : d92 0 ((d8a Tryz.prog qn (deep Tryz.prog qn hu2 100 4) (fun _ _=>none) 400 11 (d7z 0 [.buf false .u8 32 p, .pl .nilslice, .buf false .u8 64 g]) (d87 [.buf false .u8 32 p, .pl .nilslice, .buf false .u8 64 g])).go [false]) =
  some (v4 (d9c p) ++ [!vM (d9c p) (rvL g)] ++ [true,true,ltP (rvP (rnm ((g.drop 0).take 32 ++ p)) p g).z], .bool true (rvD (rnm ((g.drop 0).take 32 ++ p)) p g),some (some ⟨false, .ints .u8 (some 32) p⟩)):=by kernel_rfl
theorem d0p (p g : List Int) : d92 0 ((d8a Tryz.prog qn (deep Tryz.prog qn hu2 100 4) (fun _ _=>none) 400 11 (d7z 0 [.buf false .u8 32 p, .empty, .buf false .u8 64 g]) (d87 [.buf false .u8 32 p, .empty, .buf false .u8 64 g])).go [true]) =
  some (v4 (d9c p) ++ [vM (d9c p) (rvL g)], .bool false false,some (some ⟨false, .ints .u8 (some 32) p⟩)):=by kernel_rfl
theorem d0q (p g : List Int) : d92 0 ((d8a Tryz.prog qn (deep Tryz.prog qn hu2 100 4) (fun _ _=>none) 400 11 (d7z 0 [.buf false .u8 32 p, .empty, .buf false .u8 64 g]) (d87 [.buf false .u8 32 p, .empty, .buf false .u8 64 g])).go [false]) =
  some (v4 (d9c p) ++ [!vM (d9c p) (rvL g)] ++ [true,true,ltP (rvP (rnm ((g.drop 0).take 32 ++ p)) p g).z], .bool true (rvD (rnm ((g.drop 0).take 32 ++ p)) p g),some (some ⟨false, .ints .u8 (some 32) p⟩)):=by kernel_rfl
end Go.Proofs.YthelmpjkkkhopaaGreatDoor
namespace Go.Proofs.YthelmpjkkkhopaaGreatDoor
open Go.Ev Go.Wn Go.Mo Go.Ed
set_option maxRecDepth 100000
theorem f5l (X y : Int) : ((limbs X ++ limbs y ++ [1,0,0,0]).take 0 ++ limbs ((0 - val (((limbs X ++ limbs y ++ [1,0,0,0]).drop 0).take 4)) % val PN) ++ (limbs X ++ limbs y ++ [1,0,0,0]).drop 4) = e3L ⟨sI 0 X,y,1⟩:=by kernel_rfl
theorem f5m {b : List Int} (h : d9c b = true) : rrL b = limbs (ryX (leI b % d8q) (leI b / d8q)) ++ limbs (leI b % d8q) ++ [1,0,0,0]:=b7t h
theorem d51 {p : List Int} (h : d9c p = true) : rvA p = e3L ⟨sI 0 (ryX (leI p % d8q) (leI p / d8q)),leI p % d8q,1⟩:=by
 unfold rvA
 rw [f5m h]
 exact f5l _ _
theorem c7x {g : List Int} (h : g.length = 64) : rvS g = veS g:=by
 unfold rvS veS
 exact b6n (by rw [List.length_take,List.length_drop,h];rfl)
theorem f5n {g : List Int} (h : g.length = 64) (hr : ∀ x ∈ g,inR .u8 x = true) : okb ((g.drop 32).take 32):=
 ⟨by rw [List.length_take,List.length_drop,h];rfl,fun x hx=>hr x (List.mem_of_mem_drop (List.mem_of_mem_take hx))⟩
theorem d0r {p g kl : List Int} {S k : Nat} (hp : okb p) (h : d9c p = true) (hS : val (veS g) = (S : Int)) (hS2 : S < 2 ^ 255) (hg : g.length = 64) (hk : val kl = (k : Int)) (hk2 : k < 2 ^ 255) :
  fW (rvP kl p g) = wnI (e3y (e4q (S : Int) eB) (e4q (k : Int) (e93 (ryP (leI p % d8q) (leI p / d8q))))):=by
 have hr:=a4d hp
 have hy : 0 ≤ leI p % d8q ∧ leI p % d8q < d8q:=by unfold d8q;omega
 have ho : leI p / d8q = 0 ∨ leI p / d8q = 1:=by unfold d8q;omega
 have hb : ryB (leI p % d8q) (leI p / d8q) = true:=h
 have iy : inP (leI p % d8q):=⟨hy.1,(c0x.1 hb).1⟩
 obtain ⟨on,_⟩:=c4d hy.1 ho hb
 have hR:=f4i (o:=leI p / d8q) iy
 have hx:=b08 (leI p % d8q) (leI p / d8q)
 have hA : (⟨sI 0 (ryX (leI p % d8q) (leI p / d8q)),leI p % d8q,1⟩ : E3).R (cA.neg (ryQ (leI p % d8q) (leI p / d8q))):=by
  refine ⟨⟨a64 _ _,a30 iy,e4p⟩, ?_⟩
  show cA.PR (ph (sI 0 (ryX (leI p % d8q) (leI p / d8q)))) (ph (leI p % d8q)) (ph 1) _
  rw [c0w (a30 hx),f0v]
  exact ⟨e7s,(Fin.mul_one _).symm,(Fin.mul_one _).symm⟩
 have e : rvP kl p g = e7n (fMul (S : Int) fB) (fMul (k : Int) ⟨sI 0 (ryX (leI p % d8q) (leI p / d8q)),leI p % d8q,1⟩):=by
  unfold rvP
  rw [d51 h,b0w (e:=⟨sI 0 (ryX (leI p % d8q) (leI p / d8q)),leI p % d8q,1⟩) ⟨a64 _ _,a30 iy,e4p⟩,b0w (c1z _ _),c20,c7x hg,hS,hk,b0w (a8z _ _)]
 have r1:=c2f (cA.a21 a9j S) (cA.a21 (cA.a3m on) k) (c2g a9j f5d (N:=S) (Nat.lt_trans hS2 (by decide))) (c2g (cA.a3m on) hA (N:=k) (Nat.lt_trans hk2 (by decide)))
 have r2:=c0s (cA.a21 a9j S) (cA.a21 (cA.a3m on) k) (c0t a9j f4f hS2) (c0t (cA.a3m on) (d7d hR) hk2)
 rw [d7c r2,e,d5o r1]
end Go.Proofs.YthelmpjkkkhopaaGreatDoor
namespace Go.Proofs.YthelmpjkkkhopaaGreatDoor
open Go.Ev Go.Wn Go.Mo
set_option maxRecDepth 100000
theorem d0s {g : List Int} (h : g.length = 64) (hr : ∀ x ∈ g,inR .u8 x = true) : ∃ S : Nat,val (veS g) = (S : Int):=by
 have:=a4d (f5n h hr)
 exact ⟨(val (veS g)).toNat,by show leI ((g.drop 32).take 32) = _;rw [show val (veS g) = leI ((g.drop 32).take 32) from rfl];omega⟩
theorem d0t {m p g kl : List Int} (hp : okb p) (hg : g.length = 64) (hr : ∀ x ∈ g,inR .u8 x = true) (hk : rnm (veR g ++ p ++ m) = kl) (hm : m.length < 2 ^ 50) (h : d9c p = true) (hb : veB g = true) :
  rvD kl p g = decide (veP (sgF m) p g = veR g):=by
 obtain ⟨S,hS⟩:=d0s hg hr
 have hlt:=f9c hb
 rw [hS,show val e00 = (L25 : Int) by decide +kernel] at hlt
 have hS2 : S < 2 ^ 255:=Nat.lt_trans (by omega) c3j
 obtain ⟨k,hk1,hk2⟩:=c24 (veR g ++ p ++ m)
 have hK : veK (sgF m) p g = kl:=by
  unfold veK
  rw [b7u (a8x hg) hp.1 hm,hk]
 rw [hk] at hk1
 have e:=d0r hp h hS hS2 hg hk1 (Nat.lt_trans hk2 c3j)
 unfold rvD
 rw [e,c7m hp h,hK,hS,hk1]
 rfl
theorem d0u (f : Bool) : d7x (v4 f):=by cases f <;> exact List.all_eq_true.1 rfl
theorem a9w {g : FuncId} {xs : List V} {c : Bool} (h : d7y Tryz.prog g xs (.bool false c) []) : d7y Tryz.prog g xs (.bool true c) []:=by
 intro ρ vs w ha hi
 refine (h ha hi).mono fun u w' ⟨ρ',r,k⟩=>⟨ρ', ?_,k⟩
 have r' : Rep ρ' (upto (xs.length + 0)) (.bool false c) u:=r
 show Rep ρ' (upto (xs.length + 0)) (.bool true c) u
 cases r'
 exact .bool _ _
theorem b5z {xs : List V} {m p g kl : List Int} {mid : List Bool} {b : Option (Option Blk)}
  (h1 : d92 0 ((d8a Tryz.prog qn (deep Tryz.prog qn hu2 100 4) (fun _ _=>none) 400 11 (d7z 0 xs) (d87 xs)).go [true]) = some (v4 (d9c p) ++ [vM (d9c p) (rvL g)], .bool false false,b))
  (h2 : d92 0 ((d8a Tryz.prog qn (deep Tryz.prog qn hu2 100 4) (fun _ _=>none) 400 11 (d7z 0 xs) (d87 xs)).go [false]) = some (v4 (d9c p) ++ [!vM (d9c p) (rvL g)] ++ mid, .bool true (rvD kl p g),b))
  (hp : okb p) (hg : g.length = 64) (hr : ∀ x ∈ g,inR .u8 x = true) (hk : rnm (veR g ++ p ++ m) = kl) (hm : m.length < 2 ^ 50) (hmid : d7x mid)
  (hinj : e6h id (xs.length + 0) = true) (hfix : e7m id xs.length = true) : d7y Tryz.prog 11 xs (.bool true (e5x (sgF m) p g)) []:=by
 have D:=c23.deep (q:=qn) mixed d7w 100 4
 have hv:=d0u (d9c p)
 have eB : rvL g = veB g:=by unfold rvL veB;rw [c7x hg]
 rw [eB] at h1 h2
 unfold e5x
 cases ha : d9c p with
 | false =>
  rw [ha] at h1 hv
  exact @a9w _ _ _ (fun hx hi=>a0a mixed d7w D (lo1 _) [true] 0 h1 (a01.2 ⟨hv,a00 rfl d7x.nil⟩) rfl rfl hinj hfix hx hi)
 | true =>
  cases hb : veB g with
  | false =>
   rw [ha,hb] at h1
   rw [ha] at hv
   exact @a9w _ _ _ (fun hx hi=>a0a mixed d7w D (lo1 _) [true] 0 h1 (a01.2 ⟨hv,a00 rfl d7x.nil⟩) rfl rfl hinj hfix hx hi)
  | true =>
   rw [d0t hp hg hr hk hm ha hb,ha,hb] at h2
   rw [ha] at hv
   intro ρ vs w hx hi
   exact a0a mixed d7w D (lo1 _) [false] 0 h2 (a01.2 ⟨a01.2 ⟨hv,a00 rfl d7x.nil⟩,hmid⟩) rfl rfl hinj hfix hx hi
theorem d0v (k p g : List Int) : ltP (rvP k p g).z = true:=by
 unfold rvP
 rw [b0w (a8z _ _)]
 exact a7k (a2h _ _)
def rvSp : List V → E (AV × Mem)
 | [.buf false .u8 32 p, .buf true .u8 n m, .buf false .u8 64 g]=>some ([decide (n ≤ 1000)],(.bool true (e5x (sgF m) p g),[]))
 | [.buf false .u8 32 p, .pl .nilslice, .buf false .u8 64 g]=>some ([],(.bool true (e5x (sgF []) p g),[]))
 | [.buf false .u8 32 p, .empty, .buf false .u8 64 g]=>some ([],(.bool true (e5x (sgF []) p g),[]))
 | _=>none
theorem d0w {xs : List V} {o : List Bool} {v : AV} {bs : Mem} (h : rvSp xs = some (o,(v,bs))) (ho : d7x o) : d7y Tryz.prog 11 xs v bs:=by
 unfold rvSp at h
 split at h
 ·rename_i p n m g
  cases h
  have hn:=f9c (ho _ (f9b ..))
  intro ρ vs w ha hi
  have hp:=a0l hi 0 rfl
  obtain ⟨lm,_⟩:=a0l hi 1 rfl
  obtain ⟨hg,hr⟩:=a0l hi 2 rfl
  have e2:=d0m p m g n
  rw [tk lm,d0v] at e2
  exact b5z (d0l p m g n) e2 hp hg hr rfl (by omega) (a00 (decide_eq_true (by omega)) (a00 (decide_eq_true hn) (List.all_eq_true.1 rfl))) rfl rfl ha hi
 ·rename_i p g
  cases h
  intro ρ vs w ha hi
  have hp:=a0l hi 0 rfl
  obtain ⟨hg,hr⟩:=a0l hi 2 rfl
  have e2:=d0o p g
  rw [d0v] at e2
  exact b5z (m:=[]) (d0n p g) e2 hp hg hr (by rw [List.append_nil];rfl) (by decide) (List.all_eq_true.1 rfl) rfl rfl ha hi
 ·rename_i p g
  cases h
  intro ρ vs w ha hi
  have hp:=a0l hi 0 rfl
  obtain ⟨hg,hr⟩:=a0l hi 2 rfl
  have e2:=d0q p g
  rw [d0v] at e2
  exact b5z (m:=[]) (d0p p g) e2 hp hg hr (by rw [List.append_nil];rfl) (by decide) (List.all_eq_true.1 rfl) rfl rfl ha hi
 ·cases h
end Go.Proofs.YthelmpjkkkhopaaGreatDoor
namespace Go.Proofs.YthelmpjkkkhopaaGreatDoor
open Go.Ev Go.Wn Go.Mo
set_option maxRecDepth 100000
def sgW (fs : List Int → List Int → List Int) : List V → E (AV × Mem)
 | [.buf false .u8 32 s, .buf _ .u8 n m]=>some ([decide (n < 9223372036854775808)],(.tuple [.slice false 0 0 64 none 1, .int false .i64 0],[some ⟨true, .ints .u8 (some 64) (fs m s)⟩]))
 | [.buf false .u8 32 s, .pl .nilslice]=>some ([],(.tuple [.slice false 0 0 64 none 1, .int false .i64 0],[some ⟨true, .ints .u8 (some 64) (fs [] s)⟩]))
 | [.buf false .u8 32 s, .empty]=>some ([],(.tuple [.slice false 0 0 64 none 1, .int false .i64 0],[some ⟨true, .ints .u8 (some 64) (fs [] s)⟩]))
 | _=>none
def veW (fv : List Int → List Int → List Int → Bool) : List V → E (AV × Mem)
 | [.buf false .u8 32 p, .buf _ .u8 n m, .buf false .u8 64 g]=>some ([decide (n < 9223372036854775808)],(.int true .i64 (e4s (fv m p g)),[]))
 | [.buf false .u8 32 p, .pl .nilslice, .buf false .u8 64 g]=>some ([],(.int true .i64 (e4s (fv [] p g)),[]))
 | [.buf false .u8 32 p, .empty, .buf false .u8 64 g]=>some ([],(.int true .i64 (e4s (fv [] p g)),[]))
 | _=>none
def rpuV (fp : List Int → List Int) : List V → E (AV × Mem)
 | [.buf false .u8 32 s]=>some ([],(.slice false 0 0 32 none 1,[some ⟨true, .ints .u8 (some 32) (fp s)⟩]))
 | _=>none
def rsgV (fs : List Int → List Int → List Int) : List V → E (AV × Mem)
 | [.buf false .u8 32 s, .buf true .u8 n m]=>some ([decide (n ≤ 1000)],(.slice false 0 0 64 none 1,[some ⟨true, .ints .u8 (some 64) (fs m s)⟩]))
 | [.buf false .u8 32 s, .pl .nilslice]=>some ([],(.slice false 0 0 64 none 1,[some ⟨true, .ints .u8 (some 64) (fs [] s)⟩]))
 | [.buf false .u8 32 s, .empty]=>some ([],(.slice false 0 0 64 none 1,[some ⟨true, .ints .u8 (some 64) (fs [] s)⟩]))
 | _=>none
def rvV (fv : List Int → List Int → List Int → Bool) : List V → E (AV × Mem)
 | [.buf false .u8 32 p, .buf true .u8 n m, .buf false .u8 64 g]=>some ([decide (n ≤ 1000)],(.bool true (fv m p g),[]))
 | [.buf false .u8 32 p, .pl .nilslice, .buf false .u8 64 g]=>some ([],(.bool true (fv [] p g),[]))
 | [.buf false .u8 32 p, .empty, .buf false .u8 64 g]=>some ([],(.bool true (fv [] p g),[]))
 | _=>none
def hSg (fp : List Int → List Int) (fs : List Int → List Int → List Int) (fv : List Int → List Int → List Int → Bool) : d82:=
 orH (d8g 5 f2k (d84 10 (veW fv) (d84 6 (puV fp) (d84 7 (sgW fs) hE1))))
  (d84 11 (rvV fv) (d84 8 (rpuV fp) (d84 9 (rsgV fs) hu2)))
theorem c7y : HOk Tryz.prog (hSg e1f fsB fvB):=by
 refine ((((a8v.d84 fun xs o v bs h ho => ?_).d84 fun xs o v bs h ho => ?_).d84 fun xs o v bs h ho => ?_).d8g fun _ _ _ h _=>c7o h).or (((c23.d84 fun xs o v bs h ho => ?_).d84 fun xs o v bs h ho => ?_).d84 fun xs o v bs h ho => ?_)
 ·unfold sgW at h
  split at h
  ·rename_i s b n m;cases h;exact c29 (xs:=[.buf false .u8 32 s, .buf b .u8 n m]) (o:=[decide (n < 9223372036854775808)]) rfl ho
  ·rename_i s;cases h;exact c29 (xs:=[.buf false .u8 32 s, .pl .nilslice]) (o:=[]) rfl ho
  ·rename_i s;cases h;exact c29 (xs:=[.buf false .u8 32 s, .empty]) (o:=[]) rfl ho
  ·cases h
 ·unfold puV at h
  split at h
  ·rename_i s;cases h;exact d0z (xs:=[.buf false .u8 32 s]) (o:=[]) rfl ho
  ·cases h
 ·unfold veW at h
  split at h
  ·rename_i p b n m g;cases h;exact c2a (xs:=[.buf false .u8 32 p, .buf b .u8 n m, .buf false .u8 64 g]) (o:=[decide (n < 9223372036854775808)]) rfl ho
  ·rename_i p g;cases h;exact c2a (xs:=[.buf false .u8 32 p, .pl .nilslice, .buf false .u8 64 g]) (o:=[]) rfl ho
  ·rename_i p g;cases h;exact c2a (xs:=[.buf false .u8 32 p, .empty, .buf false .u8 64 g]) (o:=[]) rfl ho
  ·cases h
 ·unfold rsgV at h
  split at h
  ·rename_i s n m;cases h;exact c26 (xs:=[.buf false .u8 32 s, .buf true .u8 n m]) (o:=[decide (n ≤ 1000)]) rfl ho
  ·rename_i s;cases h;exact c26 (xs:=[.buf false .u8 32 s, .pl .nilslice]) (o:=[]) rfl ho
  ·rename_i s;cases h;exact c26 (xs:=[.buf false .u8 32 s, .empty]) (o:=[]) rfl ho
  ·cases h
 ·unfold rpuV at h
  split at h
  ·rename_i s;cases h;exact c7w (xs:=[.buf false .u8 32 s]) (o:=[]) rfl
  ·cases h
 ·unfold rvV at h
  split at h
  ·rename_i p n m g;cases h;exact d0w (xs:=[.buf false .u8 32 p, .buf true .u8 n m, .buf false .u8 64 g]) (o:=[decide (n ≤ 1000)]) rfl ho
  ·rename_i p g;cases h;exact d0w (xs:=[.buf false .u8 32 p, .pl .nilslice, .buf false .u8 64 g]) (o:=[]) rfl ho
  ·rename_i p g;cases h;exact d0w (xs:=[.buf false .u8 32 p, .empty, .buf false .u8 64 g]) (o:=[]) rfl ho
  ·cases h
noncomputable def hWr : d82:=e4n Tryz.prog qE (deep Tryz.prog qE hE4 100 4) 100 10 [true] (e4n Tryz.prog qE (deep Tryz.prog qE hE4 100 4) 100 6 [true] (e4n Tryz.prog qE (deep Tryz.prog qE hE4 100 4) 100 7 [true] hE4))
theorem c7z : HOk Tryz.prog hWr:=by
 have D:=c7p.deep (q:=qE) mixed d7w 100 4
 exact HOk.turn mixed d7w D (HOk.turn mixed d7w D (HOk.turn mixed d7w D c7p 100 _ [true]) 100 _ [true]) 100 _ [true]
end Go.Proofs.YthelmpjkkkhopaaGreatDoor
