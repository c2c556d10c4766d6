/- The program's filling, the words' bytes, and Sum. Own work. -/
import Derived.Test.YthelmpjkkkhopaaGreatDoorZShaC
import Derived.Test.YthelmpjkkkhopaaGreatDoorZMyRd
import Derived.Test.YthelmpjkkkhopaaGreatDoorZShaN
set_option linter.unusedSimpArgs false
set_option linter.unusedVariables false
set_option linter.unusedSectionVars false
namespace Go.Ev
section
variable [Tab] {P : Program} {q : FuncId → Bool} {H : d82}
theorem a17 (hm : P.follows .mixedOrders = true) (hng : d7w P = true) (hH : HOk P H) {n : Nat} {g : FuncId} {xs : List V} {o : List Bool} {v v' : AV} {m' bs : Mem} (ds : List Bool)
  (h : ((d81 P q H n g (d7z 0 xs) (d87 xs)).go ds).flat = some (o,(v',m'))) (ho : d7x o) (hv : v' = upA xs.length v) (hb : m'.drop xs.length = bs.map (upB xs.length)) (hle : m'.length = xs.length + bs.length) : d7y P g xs v bs:=by
 intro ρ vs w ha hi
 have hcm : (d87 xs).length = xs.length:=by simp [d87]
 have ha' : d8i ρ (upto (d87 xs).length) (d7z 0 xs) vs:=by rw [hcm];exact ha
 have hi' : Inv w (fun _=>False) (upto (d87 xs).length) ρ (getName (d87 xs)) w:=by rw [hcm];exact hi
 obtain ⟨hf,hc⟩:=a14 hm hH (a13 (a0x h ho)) ha' hi'
 refine a0y hng hf (hc.mono fun e w' ⟨u,h1,x',m2,ρ',k1,k2,k3,k4,k5⟩=>⟨u,h1,ρ', ?_, ?_⟩)
 ·cases k1
  rw [← hle, ← hv];exact k2
 ·cases k1
  have hlen : xs.length + bs.length = m'.length:=hle.symm
  rw [hlen]
  have k4' : Agr ρ ρ' (upto xs.length):=by rw [hcm] at k4;exact k4
  refine hi.join (S1:=fun _=>False) k3 (fun _ h=>h.elim) (fun i hi=>by simp [upto] at *;omega) (fun _ h=>h) k4' (fun _ _=>rfl) fun n b hn => ?_
  rw [a07] at hn
  split at hn
  ·exact Or.inl ⟨hn,fun h=>h⟩
  ·rename_i hlt
   obtain ⟨g1,g2⟩:=a0d hn
   rw [← hb,a1b,hcm,show xs.length + (n - xs.length) = n by rw [hcm] at hlt;omega] at g1
   exact Or.inr ⟨g1,g2⟩
theorem a2z {g : FuncId} {B : AV} {s : Bool} {k : IntKind} {c : Int} {v : AV} {bs : Mem} (h : d7y P g [.pl B, .pl (.int true k c)] v bs) : d7y P g [.pl B, .pl (.int s k c)] v bs:=by
 intro ρ vs w ha hi
 refine h (ρ:=ρ) ?_ hi
 cases ha with
 | cons _ _ _ _ r0 hr=>cases hr with
  | cons _ _ _ _ r1 hr=>cases hr with
   | nil=>cases r1 with
    | int _ _ _ h=>exact .cons _ _ _ _ r0 (.cons _ _ _ _ (.int _ _ _ h) .nil)
def e1d (T : Tree (AV × Mem)) : Option (Bool × (AV × Mem)):=match T.flat with | some (o,p)=>some (all1 o,p) | none=>none
end
end Go.Ev
namespace Go.Sh
open Go.Ev
def d85 (B : Nat) (c : Int) : Nat:=if B - (c % (B : Int)).toNat < 1 + B / 8 then B - (c % (B : Int)).toNat + B else B - (c % (B : Int)).toNat
def d8s (n : Nat) (c : Int) : Nat → List Int
 | 0=>128 :: List.replicate (n - 1) 0
 | i + 1=>(d8s n c i).set (n - 1 - i) (c * 8 / 2 ^ (8 * i) % 256)
theorem a1t {n : Nat} {c : Int} (hn : 0 < n) : ∀ i,(d8s n c i).length = n
 | 0=>by simp [d8s];omega
 | i + 1=>by simp only [d8s,List.length_set];exact a1t hn i
theorem a0s {B : Nat} (hB : 8 ≤ B) (c : Int) : 0 < d85 B c ∧ B / 8 < d85 B c ∧ d85 B c ≤ B + B / 8:=by
 unfold d85
 have h0S:=Int.emod_nonneg c (show (B : Int) ≠ 0 by omega)
 have h2:=Int.emod_lt_of_pos c (show (0 : Int) < B by omega)
 split <;> omega
def e04 (B : Int) (t : Bool) (c : Int) : Int:=match t with
 | true=>IntKind.i64.wrap (IntKind.i64.wrap (B - IntKind.i64.wrap (c.tmod (IntKind.u64.wrap B))) + B)
 | false=>IntKind.i64.wrap (B - IntKind.i64.wrap (c.tmod (IntKind.u64.wrap B)))
def e3o (n i : Int) : Int:=IntKind.i64.wrap (IntKind.i64.wrap (n - 1) - i)
def e9l (c i : Int) : Int:=IntKind.u8.wrap (d88 .u64 (IntKind.u64.wrap (8 * c)) (IntKind.i64.wrap (8 * i)))
def e4i (n c : Int) : Nat → List Int
 | 0=>(List.replicate n.toNat 0).set 0 128
 | i + 1=>(e4i n c i).set (0 + (e3o n i).toNat * 1) (e9l c i)
def e4z (n c : Int) : Nat → List Bool
 | 0=>[decide (0 ≤ n) && decide (n ≤ n) && decide (n ≤ 281474976710656),decide ((0 : Int) ≤ 0) && decide ((0 : Int) < ((n.toNat : Nat) : Int)),decide (0 + 0 + 1 ≤ (List.replicate n.toNat (0 : Int)).length)]
 | i + 1=>e4z n c i ++ [decide (0 ≤ e3o n i) && decide (e3o n i < ((n.toNat : Nat) : Int)),decide (0 + (e3o n i).toNat * 1 + 1 ≤ (e4i n c i).length)]
theorem e09 {x : Int} (h : -9223372036854775808 ≤ x ∧ x < 9223372036854775808) : IntKind.i64.wrap x = x:=by
 unfold IntKind.wrap
 simp [IntKind.bits,IntKind.signed]
 omega
theorem b3n {B : Nat} (hB : 0 < B ∧ B ≤ 128) {c : Int} (h : 0 ≤ c ∧ c < 18446744073709551616) : IntKind.i64.wrap (c.tmod (IntKind.u64.wrap (B : Int))) = c % (B : Int):=by
 have e1 : IntKind.u64.wrap (B : Int) = B:=a4e (k := .u64) rfl ⟨by omega,by simp only [IntKind.bits];omega⟩
 have h1:=Int.emod_nonneg c (show (B : Int) ≠ 0 by omega)
 have h2:=Int.emod_lt_of_pos c (show (0 : Int) < B by omega)
 rw [e1,Int.tmod_eq_emod_of_nonneg h.1,e09 (by omega)]
theorem a5t {B : Nat} (hB : 8 ≤ B ∧ B ≤ 128) {c : Int} (h : 0 ≤ c ∧ c < 18446744073709551616) : e04 (B : Int) (decide (B - (c % (B : Int)).toNat < 1 + B / 8)) c = (d85 B c : Int):=by
 have h1:=Int.emod_nonneg c (show (B : Int) ≠ 0 by omega)
 have h2:=Int.emod_lt_of_pos c (show (0 : Int) < B by omega)
 unfold e04 d85
 by_cases hc : B - (c % (B : Int)).toNat < 1 + B / 8
 ·rw [decide_eq_true hc,if_pos hc]
  simp only
  rw [b3n ⟨by omega,hB.2⟩ h,e09 (x:=(B : Int) - c % (B : Int)) (by omega),e09 (by omega)]
  omega
 ·rw [decide_eq_false hc,if_neg hc]
  simp only
  rw [b3n ⟨by omega,hB.2⟩ h,e09 (by omega)]
  omega
theorem a5u {n i : Nat} (hn : n < 1000000) (hi : i < n) : e3o (n : Int) (i : Int) = ((n - 1 - i : Nat) : Int):=by
 unfold e3o
 rw [e09 (x:=(n : Int) - 1) (by omega),e09 (by omega)]
 omega
theorem b5v {c : Int} (h : 0 ≤ c) {i : Nat} (hi : i < 8) : e9l c (i : Int) = c * 8 / 2 ^ (8 * i) % 256:=by
 have e1 : IntKind.i64.wrap (8 * (i : Int)) = ((8 * i : Nat) : Int):=by rw [e09 (by omega)];omega
 have e2 : IntKind.u64.wrap (8 * c) = (8 * c) % 2 ^ 64:=a0m (k := .u64) rfl _
 unfold e9l
 rw [e1,e2,a0m (k := .u8) rfl]
 have e3 : d88 .u64 (8 * c % 2 ^ 64) ((8 * i : Nat) : Int) = 8 * c % 2 ^ 64 / 2 ^ (8 * i):=e7q (8 * i) (by omega)
 rw [e3]
 simp only [IntKind.bits]
 have : i = 0 ∨ i = 1 ∨ i = 2 ∨ i = 3 ∨ i = 4 ∨ i = 5 ∨ i = 6 ∨ i = 7:=by omega
 rcases this with rfl | rfl | rfl | rfl | rfl | rfl | rfl | rfl <;> omega
theorem a35 {n : Nat} {c : Int} (hc : 0 ≤ c) (hn : 8 < n ∧ n < 1000000) : ∀ i,i ≤ 8 → e4i (n : Int) c i = d8s n c i
 | 0,_=>by
  unfold e4i d8s
  rw [Int.toNat_natCast]
  match n,hn with
  | n + 1,_=>simp [List.replicate_succ]
 | i + 1,h=>by
  unfold e4i d8s
  rw [a35 hc hn i (by omega),a5u hn.2 (by omega),b5v hc (by omega),Int.toNat_natCast,Nat.zero_add,Nat.mul_one]
theorem a24 {n : Nat} {c : Int} (hc : 0 ≤ c) (hn : 8 < n ∧ n < 1000000) : ∀ i,i ≤ 8 → d7x (e4z (n : Int) c i)
 | 0,_=>by
  unfold e4z
  refine a00 ?_ (a00 ?_ (a00 ?_ d7x.nil)) <;> simp <;> omega
 | i + 1,h=>by
  unfold e4z
  refine a01.2 ⟨a24 hc hn i (by omega),a00 ?_ (a00 ?_ d7x.nil)⟩
  ·rw [a5u hn.2 (by omega)];simp;omega
  ·rw [a5u hn.2 (by omega),a35 hc hn i (by omega),a1t (by omega),Int.toNat_natCast];simp;omega
def d9f (n z : Nat) (ws : List Int) : List Int:=(List.range n).map fun i=>IntKind.u8.wrap (d88 .u64 (ws.getD (i / z) 0) ((8 * (z - 1 - i % z) : Nat) : Int))
end Go.Sh
namespace Go.Proofs.YthelmpjkkkhopaaGreatDoor
open Go.Ev Go.Sh
set_option maxRecDepth 100000
def e9m : List V → E (AV × Mem)
 | [.pl (.int false .i64 128), .pl (.int _ .u64 c)]=>some ([decide (0 ≤ c ∧ c < 18446744073709551616)],(.slice true 0 0 (d85 128 c) none 1,[some ⟨true, .ints .u8 none (d8s (d85 128 c) c 8)⟩]))
 | _=>none
theorem a5v (c : Int) : ((d81 Tryz.prog qS hS4 100 86 (d7z 0 [.pl (.int false .i64 128), .pl (.int true .u64 c)]) (d87 [.pl (.int false .i64 128), .pl (.int true .u64 c)])).go [true]).flat =
  some ((decide (IntKind.i64.wrap (128 - IntKind.i64.wrap (c.tmod (IntKind.u64.wrap 128))) < IntKind.i64.wrap (1 + IntKind.i64.wrap (Int.tdiv 128 8)))) :: e4z (e04 128 true c) c 8,(.slice true 2 0 (e04 128 true c).toNat none 1,[none,none,some ⟨true, .ints .u8 none (e4i (e04 128 true c) c 8)⟩])):=by kernel_rfl
theorem a4u (c : Int) : ((d81 Tryz.prog qS hS4 100 86 (d7z 0 [.pl (.int false .i64 128), .pl (.int true .u64 c)]) (d87 [.pl (.int false .i64 128), .pl (.int true .u64 c)])).go [false]).flat =
  some ((!decide (IntKind.i64.wrap (128 - IntKind.i64.wrap (c.tmod (IntKind.u64.wrap 128))) < IntKind.i64.wrap (1 + IntKind.i64.wrap (Int.tdiv 128 8)))) :: e4z (e04 128 false c) c 8,(.slice true 2 0 (e04 128 false c).toNat none 1,[none,none,some ⟨true, .ints .u8 none (e4i (e04 128 false c) c 8)⟩])):=by kernel_rfl
theorem c1r {xs : List V} {o : List Bool} {v : AV} {bs : Mem} (h : e9m xs = some (o,(v,bs))) (ho : d7x o) : d7y Tryz.prog 86 xs v bs:=by
 unfold e9m at h
 split at h
 ·rename_i s c
  cases h
  have o1:=f9c (ho _ (f9b ..))
  have hr:=a0s (B:=128) (by decide) c
  have hc : IntKind.i64.wrap (128 - IntKind.i64.wrap (c.tmod (IntKind.u64.wrap 128))) = ((128 - (c % (128 : Int)).toNat : Nat) : Int):=by
   have:=b3n (B:=128) (by decide) o1
   rw [show ((128 : Nat) : Int) = 128 from rfl] at this
   rw [this,e09 (by omega)];omega
  refine @a2z _ _ _ _ _ _ _ _ _ ?_
  by_cases hk : 128 - (c % ((128 : Nat) : Int)).toNat < 1 + 128 / 8
  ·have e:=a5t (B:=128) (by decide) o1
   rw [decide_eq_true hk] at e
   refine a17 d89 d83 a5g [true] (a5v c) ?_ ?_ ?_ rfl
   ·rw [show e04 128 _ c = (d85 128 c : Int) from e]
    exact a00 (decide_eq_true (by rw [hc];show _ < (17 : Int);omega)) (a24 o1.1 (by omega) 8 (by decide))
   ·rw [show e04 128 _ c = (d85 128 c : Int) from e,Int.toNat_natCast];rfl
   ·rw [show e04 128 _ c = (d85 128 c : Int) from e,a35 o1.1 (by omega) 8 (by decide)];rfl
  ·have e:=a5t (B:=128) (by decide) o1
   rw [decide_eq_false hk] at e
   refine a17 d89 d83 a5g [false] (a4u c) ?_ ?_ ?_ rfl
   ·rw [show e04 128 _ c = (d85 128 c : Int) from e]
    exact a00 (by rw [hc];simp only [Bool.not_eq_true',decide_eq_false_iff_not];show ¬ (_ < (17 : Int));omega) (a24 o1.1 (by omega) 8 (by decide))
   ·rw [show e04 128 _ c = (d85 128 c : Int) from e,Int.toNat_natCast];rfl
   ·rw [show e04 128 _ c = (d85 128 c : Int) from e,a35 o1.1 (by omega) 8 (by decide)];rfl
 ·cases h
theorem a4v (ws op : List Int) (s : Bool) (c : Int) : e1d (d81 Tryz.prog qS hS4 200 87 (d7z 0 [.pt (d8j 512 ws op s c)]) (d87 [.pt (d8j 512 ws op s c)])) =
  some (true,(.slice false 1 0 64 (some 64) 1,[some ⟨false,d8j 512 ws op s c⟩,some ⟨true, .ints .u8 (some 64) (d9f 64 8 ws)⟩])):=by kernel_rfl
theorem a2u {T : Tree (AV × Mem)} {p : AV × Mem} (h : e1d T = some (true,p)) : ∃ o,T.flat = some (o,p) ∧ d7x o:=by
 unfold e1d at h
 split at h
 ·rename_i o p' hf
  obtain ⟨h1,rfl⟩:=Prod.mk.inj (Option.some.inj h)
  exact ⟨o,hf,a88 h1⟩
 ·cases h
def e5a : List V → E (AV × Mem)
 | [.pt (.wide [.int false .i64 512, .ints .u64 8 ws, .ints .u8 128 _, .int _ .u64 _])]=>some ([],(.slice false 0 0 64 (some 64) 1,[some ⟨true, .ints .u8 (some 64) (d9f 64 8 ws)⟩]))
 | _=>none
theorem b5w {xs : List V} {o : List Bool} {v : AV} {bs : Mem} (h : e5a xs = some (o,(v,bs))) (_ : d7x o) : d7y Tryz.prog 87 xs v bs:=by
 unfold e5a at h
 split at h
 ·rename_i ws op s c
  cases h
  obtain ⟨o,h1,h2⟩:=a2u (a4v ws op s c)
  exact a0u d89 d83 a5g h1 h2 rfl rfl rfl
 ·cases h
def hs5 : d82:=d84 86 e9m (d84 87 e5a hs4)
theorem b3o : HOk Tryz.prog hs5:=(c3g.d84 fun _ _ _ _ h ho=>b5w h ho).d84 fun _ _ _ _ h ho=>c1r h ho
noncomputable def hS5 : d82:=deep Tryz.prog qS hs5 100 3
theorem a6m : HOk Tryz.prog hS5:=b3o.deep d89 d83 100 3
end Go.Proofs.YthelmpjkkkhopaaGreatDoor
namespace Go.Sh
open Go.Ev
def d9g : List Int:=[7640891576956012808,13503953896175478587,4354685564936845355,11912009170470909681,5840696475078001361,11170449401992604703,2270897969802886507,6620516959819538809]
def stW (w N B : Nat) (ws op : List Int) (c : Int) (l : List Int) : List Int × List Int × Int:=l.foldl (d9w w N B) (ws,op,c)
def e2r (w N B : Nat) (ws op : List Int) (c : Int) : List Int × List Int × Int:=stW w N B ws op c (d8s (d85 B c) c 8)
end Go.Sh
namespace Go.Proofs.YthelmpjkkkhopaaGreatDoor
open Go.Ev Go.Sh
set_option maxRecDepth 100000
def newS : List V → E (AV × Mem)
 | [.pl (.int false .i64 512)]=>some ([],(.ptr false 0 0,[some ⟨true,d8j 512 d9g e1l false 0⟩]))
 | _=>none
theorem a5w : e1d (d81 Tryz.prog qS hS5 200 49 (d7z 0 [.pl (.int false .i64 512)]) (d87 [.pl (.int false .i64 512)])) = some (true,(.ptr false 1 0,[none,some ⟨true,d8j 512 d9g e1l false 0⟩])):=by kernel_rfl
theorem c1s {xs : List V} {o : List Bool} {v : AV} {bs : Mem} (h : newS xs = some (o,(v,bs))) (_ : d7x o) : d7y Tryz.prog 49 xs v bs:=by
 unfold newS at h
 split at h
 ·cases h
  obtain ⟨o,h1,h2⟩:=a2u a5w
  exact a0u d89 d83 a6m h1 h2 rfl rfl rfl
 ·cases h
def e0o (ws op : List Int) (c : Int) : Mem:=[some ⟨true,d8j 512 (e2r 64 80 128 ws op c).1 (e2r 64 80 128 ws op c).2.1 true (e2r 64 80 128 ws op c).2.2⟩,some ⟨true, .ints .u8 none (d8s (d85 128 c) c 8)⟩,some ⟨true, .ints .u8 (some 64) (d9f 64 8 (e2r 64 80 128 ws op c).1)⟩]
theorem a5x (ws op : List Int) (s : Bool) (c : Int) : (d81 Tryz.prog qS hS5 100 51 (d7z 0 [.pt (d8j 512 ws op s c)]) (d87 [.pt (d8j 512 ws op s c)])).flat =
  some ([decide (0 ≤ c ∧ c < 18446744073709551616),decide (0 + d85 128 c ≤ (d8s (d85 128 c) c 8).length),e03 ws,decide (0 ≤ c ∧ c < 18446744073709551616),decide (d85 128 c < 9223372036854775808)],
   (.slice false 3 0 64 (some 64) 1,[some ⟨false,d8j 512 ws op s c⟩,some ⟨true,d8j 512 (d8h (wrI ws op c (((d8s (d85 128 c) c 8).drop 0).take (d85 128 c)) (d85 128 c))).1 (d8h (wrI ws op c (((d8s (d85 128 c) c 8).drop 0).take (d85 128 c)) (d85 128 c))).2.1 true (d8h (wrI ws op c (((d8s (d85 128 c) c 8).drop 0).take (d85 128 c)) (d85 128 c))).2.2⟩,
    some ⟨true, .ints .u8 none (d8s (d85 128 c) c 8)⟩,some ⟨true, .ints .u8 (some 64) (d9f 64 8 (d8h (wrI ws op c (((d8s (d85 128 c) c 8).drop 0).take (d85 128 c)) (d85 128 c))).1)⟩])):=by kernel_rfl
theorem a3g {ws op l : List Int} {c : Int} {n : Nat} (h : l.length = n) : d8h (wrI ws op c ((l.drop 0).take n) n) = stW 64 80 128 ws op c l:=by
 have e1 : (l.drop 0).take n = l:=by rw [List.drop_zero,List.take_of_length_le (by omega)]
 rw [e1]
 unfold d8h wrI stW
 simp only
 rw [e1]
def e5b : List V → E (AV × Mem)
 | [.pt (.wide [.int false .i64 512, .ints .u64 8 ws, .ints .u8 128 op, .int _ .u64 c])]=>some ([e03 ws,decide (0 ≤ c ∧ c < 18446744073709551616)],(.slice false 2 0 64 (some 64) 1,e0o ws op c))
 | _=>none
theorem b5x {xs : List V} {o : List Bool} {v : AV} {bs : Mem} (h : e5b xs = some (o,(v,bs))) (ho : d7x o) : d7y Tryz.prog 51 xs v bs:=by
 unfold e5b at h
 split at h
 ·rename_i ws op s c
  cases h
  have o1:=ho _ (f9b ..)
  have o2:=ho _ (f9a _ (f9b ..))
  have hr:=a0s (B:=128) (by decide) c
  have hl : (d8s (d85 128 c) c 8).length = d85 128 c:=a1t hr.1 8
  have he:=a3g (ws:=ws) (op:=op) (c:=c) hl
  have ev:=a5x ws op s c
  rw [he] at ev
  show d7y Tryz.prog 51 [.pt (d8j 512 ws op s c)] (.slice false 2 0 64 (some 64) 1) (e0o ws op c)
  exact a0u (v := .slice false 2 0 64 (some 64) 1) (bs:=e0o ws op c) d89 d83 a6m ev (a00 o2 (a00 (decide_eq_true (by rw [hl];omega)) (a00 o1 (a00 o2 (a00 (decide_eq_true (by omega)) d7x.nil))))) rfl rfl rfl
 ·cases h
def hs6 : d82:=d84 49 newS (d84 51 e5b hs5)
theorem c7r : HOk Tryz.prog hs6:=(b3o.d84 fun _ _ _ _ h ho=>b5x h ho).d84 fun _ _ _ _ h ho=>c1s h ho
end Go.Proofs.YthelmpjkkkhopaaGreatDoor
namespace Go.Mo
open Go.Ev Go.Wn
def e4L (e : E4) : List Int:=limbs e.x ++ limbs e.y ++ limbs e.z ++ limbs e.t
def e4V (l : List Int) : E4:=⟨val (l.take 4),val ((l.drop 4).take 4),val ((l.drop 8).take 4),val (l.drop 12)⟩
end Go.Mo
namespace Go.Proofs.YthelmpjkkkhopaaGreatDoor
open Go.Ev Go.Wn Go.Mo Go.Sh
set_option maxRecDepth 100000
theorem d06 {l : List Int} (h : l.length = 16) (hr : ∀ x ∈ l,inR .u64 x = true) : e4L (e4V l) = l:=by
 obtain ⟨x0,x1,x2,x3,x4,x5,x6,x7,x8,x9,xa,xb,xc,xd,xe,xf,rfl⟩:=sixteen h
 simp only [List.forall_mem_cons,List.not_mem_nil,false_implies,implies_true,and_true] at hr
 obtain ⟨k0,k1,k2,k3,k4,k5,k6,k7,k8,k9,ka,kb,kc,kd,ke,kf⟩:=hr
 have e0:=a0w (a1d k0) (a1d k1) (a1d k2) (a1d k3)
 have e1:=a0w (a1d k4) (a1d k5) (a1d k6) (a1d k7)
 have e2:=a0w (a1d k8) (a1d k9) (a1d ka) (a1d kb)
 have e3:=a0w (a1d kc) (a1d kd) (a1d ke) (a1d kf)
 unfold e4L e4V
 simp only [List.take_succ_cons,List.take_zero,List.drop_succ_cons,List.drop_zero]
 rw [e0,e1,e2,e3]
 rfl
def qn (f : FuncId) : Bool:=!Nat.beq f 1000000000
def f4v : List V → E (AV × Mem)
 | [.pt (.ints .u64 (some 9) L), .buf false .u8 n l]=>some ([good L,decide (n < 9223372036854775808)],(.ints .u64 4 (limbs (be l % val L)),[]))
 | _=>none
theorem d07 {xs : List V} {o : List Bool} {v : AV} {bs : Mem} (h : f4v xs = some (o,(v,bs))) (ho : d7x o) : d7y Tryz.prog 53 xs v bs:=by
 unfold f4v at h
 split at h
 ·rename_i L n l
  cases h
  intro ρ vs w ha hi
  have hb : d8i ρ (upto 2) (d7z 0 [.pt (.ints .u64 (some 9) L), .buf true .u8 n l]) vs:=by
   cases ha with
   | cons _ _ _ _ r0 hr=>cases hr with
    | cons _ _ _ _ r1 hr=>cases hr with
     | nil=>cases r1 with
      | slice _ _ _ _ _ _ c ad hn hc hl hw had=>exact .cons _ _ _ _ r0 (.cons _ _ _ _ (.slice true 1 0 n none 1 c ad hn hc hl hw had) .nil)
  exact c8o (xs:=[.pt (.ints .u64 (some 9) L), .buf true .u8 n l]) (o:=[good L,decide (n < 9223372036854775808)]) rfl ho hb hi
 ·cases h
def hn0 : d82:=d84 34 f2w (d8g 18 f2v (d84 44 newG (d84 53 f4v hd1)))
theorem b7r : HOk Tryz.prog hn0:=(((d6s.d84 fun _ _ _ _ h ho=>d07 h ho).d84 fun _ _ _ _ h ho=>d2f h ho).d8g fun _ _ _ h _=>c8p h).d84 fun _ _ _ _ h ho=>d6u h ho
def pC : Cells := .ints .u64 (some 9) PL
def oC (T : List Int) : Cells := .ints .u64 (some 9) T
end Go.Proofs.YthelmpjkkkhopaaGreatDoor
namespace Go.Mo
open Go.Ev Go.Wn
def wnL (p : E4) : List Int:=(limbs (eWy p)).set 3 (ior .u64 ((limbs (eWy p)).getD 3 0) (d9l .u64 ((limbs (eWx p)).getD 0 0) 63))
theorem d4g (p : E4) : wnL p = limbs (wnI p):=by
 have hx:=a2h p.x (pI p.z)
 have hy:=a2h p.y (pI p.z)
 have h25 : (P25 : Int) < 57896044618658097711785492504343953926634992332820282019728792003956564819968:=by decide
 unfold wnL wnI
 rw [show eWx p = mI p.x (pI p.z) from rfl,show eWy p = mI p.y (pI p.z) from rfl]
 unfold inP at hx hy
 generalize mI p.x (pI p.z) = x at *
 generalize mI p.y (pI p.z) = y at *
 have e1 : d9l .u64 ((limbs x).getD 0 0) 63 = (x % 2) * 2 ^ 63:=by
  unfold limbs d9l
  simp only [List.getD_cons_zero]
  show IntKind.u64.wrap (x % 18446744073709551616 * 2 ^ (min (Int.toNat 63) 64)) = _
  rw [show min (Int.toNat 63) 64 = 63 by decide,a25]
  omega
 have e2 : (limbs y).getD 3 0 = y / 6277101735386680763835789423207666416102355444464034512896 % 18446744073709551616:=rfl
 rw [e1,e2]
 have e3:=(a1k (x:=(x % 2) * 2 ^ 63) (y:=y / 6277101735386680763835789423207666416102355444464034512896 % 18446744073709551616) (s:=63) (A:=x % 2) (by omega) rfl (by omega) (by omega) (by omega)).2
 rw [e3]
 unfold limbs d8q
 simp only [List.set_cons_succ,List.set_cons_zero,List.cons.injEq,and_true]
 refine ⟨?_, ?_, ?_, ?_⟩ <;> omega
end Go.Mo
namespace Go.Proofs.YthelmpjkkkhopaaGreatDoor
open Go.Ev Go.Wn Go.Mo Go.Sh
set_option maxRecDepth 100000
theorem d08 (T : List Int) (p q : E4) : d92 0 ((d8a Tryz.prog qn (deep Tryz.prog qn hn0 100 3) (fun _ _=>none) 100 36 (e06 [.pl (.ints .u64 16 (e4L p)), .pl (.ints .u64 16 (e4L q))]) (e1p pC (oC T) [.pl (.ints .u64 16 (e4L p)), .pl (.ints .u64 16 (e4L q))])).go []) =
  some (List.replicate 18 true, .ints .u64 16 (e4L (e3y p q)),some (some ⟨false,pC⟩)):=by kernel_rfl
theorem d09 (T : List Int) (p : E4) : d92 0 ((d8a Tryz.prog qn (deep Tryz.prog qn hn0 100 3) (fun _ _=>none) 100 37 (e06 [.pl (.ints .u64 16 (e4L p))]) (e1p pC (oC T) [.pl (.ints .u64 16 (e4L p))])).go []) =
  some (List.replicate 2 true, .ints .u64 16 (e4L (e93 p)),some (some ⟨false,pC⟩)):=by kernel_rfl
theorem d0a (T : List Int) (p : E4) : d92 0 ((d8a Tryz.prog qn (deep Tryz.prog qn hn0 100 3) (fun _ _=>none) 100 15 (e06 [.pl (.ints .u64 16 (e4L p))]) (e1p pC (oC T) [.pl (.ints .u64 16 (e4L p))])).go []) =
  some (List.replicate 3 true, .ints .u8 32 (d8l (wnL p)),some (some ⟨false,pC⟩)):=by kernel_rfl
def isP (L : List Int) : Bool:=decide (L = PL)
def suS : Cells → Cells → List V → E (AV × Mem)
 | .ints .u64 (some 9) L, .ints .u64 (some 9) _,[.pl (.ints .u64 16 p), .pl (.ints .u64 16 q)]=>some ([isP L],(.ints .u64 16 (e4L (e3y (e4V p) (e4V q))),[]))
 | _,_,_=>none
def ngS : Cells → Cells → List V → E (AV × Mem)
 | .ints .u64 (some 9) L, .ints .u64 (some 9) _,[.pl (.ints .u64 16 p)]=>some ([isP L],(.ints .u64 16 (e4L (e93 (e4V p))),[]))
 | _,_,_=>none
def wrS : Cells → Cells → List V → E (AV × Mem)
 | .ints .u64 (some 9) L, .ints .u64 (some 9) _,[.pl (.ints .u64 16 p)]=>some ([isP L],(.ints .u8 32 (d8l (limbs (wnI (e4V p)))),[]))
 | _,_,_=>none
theorem lo1 (k0 : Nat) {F : FuncId} (fn : Func) (c : Code) (_ : Tryz.prog.funcs[F]? = some fn) (_ : fn.body = some c) : e2m k0 Tryz.prog c (fun _ _=>none):=e2m.none
theorem a10 (k : Nat) : d7x (List.replicate k true):=fun x hx=>(List.mem_replicate.1 hx).2
theorem b7s {ρ : Nat → d8c} {N : Nat → Prop} {l : List Int} {v : Value} (h : Rep ρ N (.ints .u64 16 l) v) : e4L (e4V l) = l:=by
 cases h with | ints _ _ _ hn hr=>exact d06 hn hr
theorem a6n {L : List Int} {o : List Bool} (ho : d7x (isP L :: o)) : L = PL:=f9c (ho _ (f9b ..))
theorem d4h {c d : Cells} {xs : List V} {o : List Bool} {v : AV} {bs : Mem} (h : suS c d xs = some (o,(v,bs))) (ho : d7x o) : e0t Tryz.prog 36 (e06 xs) (e1p c d xs) v bs:=by
 unfold suS at h
 split at h
 ·rename_i L T p q
  cases h
  obtain rfl:=a6n ho
  intro ρ vs w ha hi
  have h2:=ha
  cases h2 with
  | cons _ _ _ _ _ h2=>cases h2 with
   | cons _ _ _ _ r1 h2=>cases h2 with
    | cons _ _ _ _ r2 h2 =>
     have e:=d08 T (e4V p) (e4V q)
     rw [b7s r1,b7s r2] at e
     exact a18 mixed d7w (b7r.deep mixed d7w 100 3) (lo1 _) [] 0 e (a10 _) rfl rfl rfl rfl ha hi
 ·cases h
theorem d4i {c d : Cells} {xs : List V} {o : List Bool} {v : AV} {bs : Mem} (h : ngS c d xs = some (o,(v,bs))) (ho : d7x o) : e0t Tryz.prog 37 (e06 xs) (e1p c d xs) v bs:=by
 unfold ngS at h
 split at h
 ·rename_i L T p
  cases h
  obtain rfl:=a6n ho
  intro ρ vs w ha hi
  have h2:=ha
  cases h2 with
  | cons _ _ _ _ _ h2=>cases h2 with
   | cons _ _ _ _ r1 h2 =>
    have e:=d09 T (e4V p)
    rw [b7s r1] at e
    exact a18 mixed d7w (b7r.deep mixed d7w 100 3) (lo1 _) [] 0 e (a10 _) rfl rfl rfl rfl ha hi
 ·cases h
theorem d4j {c d : Cells} {xs : List V} {o : List Bool} {v : AV} {bs : Mem} (h : wrS c d xs = some (o,(v,bs))) (ho : d7x o) : e0t Tryz.prog 15 (e06 xs) (e1p c d xs) v bs:=by
 unfold wrS at h
 split at h
 ·rename_i L T p
  cases h
  obtain rfl:=a6n ho
  intro ρ vs w ha hi
  have h2:=ha
  cases h2 with
  | cons _ _ _ _ _ h2=>cases h2 with
   | cons _ _ _ _ r1 h2 =>
    have e:=d0a T (e4V p)
    rw [b7s r1,d4g] at e
    exact a18 mixed d7w (b7r.deep mixed d7w 100 3) (lo1 _) [] 0 e (a10 _) rfl rfl rfl rfl ha hi
 ·cases h
def hn1 : d82:=e0j 36 suS (e0j 37 ngS (e0j 15 wrS hn0))
theorem c1t : HOk Tryz.prog hn1:=((b7r.e0j fun _ _ _ _ _ _ h ho=>d4j h ho).e0j fun _ _ _ _ _ _ h ho=>d4i h ho).e0j fun _ _ _ _ _ _ h ho=>d4h h ho
end Go.Proofs.YthelmpjkkkhopaaGreatDoor
namespace Go.Proofs.YthelmpjkkkhopaaGreatDoor
open Go.Ev Go.Wn Go.Mo Go.Sh
set_option maxRecDepth 100000
def f4w (b : Int) : List AV → E AV
 | [.ints .u64 4 a, .int _ .i64 i]=>some ([decide (e3a a i = b)], .int false .u64 b)
 | _=>none
theorem d0b {b : Int} {args : List AV} {o : List Bool} {v : AV} (h : f4w b args = some (o,v)) (ho : d7x o) : d86 Tryz.prog 48 args v:=by
 unfold f4w at h
 split at h
 ·rename_i a s i
  cases h
  have e:=f9c (ho _ (f9b ..))
  intro ρ N vs ha w hT
  refine (c8i (args:=[.ints .u64 4 a, .int s .i64 i]) rfl ha w hT).mono fun u w' ⟨h1,h2⟩=>⟨fun ρ' N' => ?_,h2⟩
  have h3:=h1 ρ' N'
  rw [e] at h3
  cases h3 with | int _ _ _ h=>exact .int _ _ _ h
 ·cases h
def hnB (b : Int) : d82:=d8g 48 (f4w b) hn1
theorem c1u (b : Int) : HOk Tryz.prog (hnB b):=c1t.d8g fun _ _ _ h ho=>d0b h ho
structure PrS where
 T : List Int
 n : List Int
 p : List Int
 a : List Int
 i : Int
def e9n : List Nat:=[3,4,5,6,7,12]
def prV (s : PrS) : List AV:=[.ptr false 4 0, .ptr false 5 0, .ptr false 6 0, .ptr false 7 0, .ptr false 8 0, .int true .i64 s.i]
def prM (s : PrS) : Mem:=[some ⟨false,pC⟩,some ⟨false,oC s.T⟩,none,none,some ⟨true, .vals [.ptr false 0 0, .ptr false 1 0]⟩,some ⟨true, .ints .u64 (some 4) s.n⟩,some ⟨true, .ints .u64 (some 16) s.p⟩,
 some ⟨true, .ints .u64 (some 16) [0,0,0,0,0,0,0,0,0,0,0,0,0,0,0,0]⟩,some ⟨true, .ints .u64 (some 16) s.a⟩]
def prO (n : List Int) (b i : Int) : List Bool:=[decide (i < 255),true,decide (e3a n (IntKind.i64.wrap (254 - i)) = b),true]
def pr0 (a : List Int) : List Int:=e4L (e3y (e4V a) (e4V a))
def pr1 (a p : List Int) : List Int:=e4L (e3y (e4V (pr0 a)) (e4V p))
theorem pr_0 (w : Nat → AV) (s : PrS) : d8p e9n ((d8d Tryz.prog qn (deep Tryz.prog qn (hnB 0) 100 3) (fun _ _=>none) 100 (lp (blk 0 (d80 Tryz.prog 16))) ⟨d8m (ups w (d8o e9n (prV s))) 31,prM s⟩).go [true]) =
  some (prO s.n 0 s.i,0,prV { s with i:=IntKind.i64.wrap (s.i + 1) },31,prM { s with a:=pr0 s.a }):=by
 obtain ⟨T,n,p,a,i⟩:=s
 kernel_rfl
theorem pr_1 (w : Nat → AV) (s : PrS) : d8p e9n ((d8d Tryz.prog qn (deep Tryz.prog qn (hnB 1) 100 3) (fun _ _=>none) 100 (lp (blk 0 (d80 Tryz.prog 16))) ⟨d8m (ups w (d8o e9n (prV s))) 31,prM s⟩).go [true]) =
  some (prO s.n 1 s.i,0,prV { s with i:=IntKind.i64.wrap (s.i + 1) },31,prM { s with a:=pr1 s.a s.p }):=by
 obtain ⟨T,n,p,a,i⟩:=s
 kernel_rfl
theorem pr_f (w : Nat → AV) (s : PrS) : d8p e9n ((d8d Tryz.prog qn (deep Tryz.prog qn (hnB 1) 100 3) (fun _ _=>none) 100 (lp (blk 0 (d80 Tryz.prog 16))) ⟨d8m (ups w (d8o e9n (prV s))) 31,prM s⟩).go [false]) =
  some ([!decide (s.i < 255)],2,prV s,31,prM s):=by
 obtain ⟨T,n,p,a,i⟩:=s
 kernel_rfl
def Z16 : List Int:=[0,0,0,0,0,0,0,0,0,0,0,0,0,0,0,0]
def prP : List AV → Mem → Option (PrS × List Bool)
 | [.ptr false 4 0, .ptr false 5 0, .ptr false 6 0, .ptr false 7 0, .ptr false 8 0, .int false .i64 i],[some ⟨false, .ints .u64 (some 9) L⟩,some ⟨false, .ints .u64 (some 9) T⟩,none,none,some ⟨true, .vals [.ptr false 0 0, .ptr false 1 0]⟩,some ⟨true, .ints .u64 (some 4) n⟩,some ⟨true, .ints .u64 (some 16) p⟩,some ⟨true, .ints .u64 (some 16) z⟩,some ⟨true, .ints .u64 (some 16) a⟩] =>
  some (⟨T,n,p,a,0⟩,[decide (i = 0),decide (L = PL),decide (z = Z16),decide (a = e4L eO),decide (limbs (val n) = n)])
 | _,_=>none
def prR (N : Int) (p : List Int) (j : Nat) : List Int:=e4L (ePr N (e4V p) j)
def prF (p : PrS × List Bool) : List (Nat × AV) × Mem:=([(6, .ptr false 7 0),(7, .ptr false 8 0)],prM { p.1 with a:=prR (val p.1.n) p.1.p 255 })
def prΛ (Λ : d8r) : d8r:=e0p 0 31 e9n prP (fun p=>p.2) prF Λ
def prJ (p s : PrS × List Bool) : Prop:=limbs (val p.1.n) = p.1.n ∧ ∃ j : Nat,j ≤ 255 ∧ s.1 = { p.1 with a:=prR (val p.1.n) p.1.p j,i:=(j : Int) }
theorem d4k {n : List Int} (h : limbs (val n) = n) {j : Nat} (hj : j < 255) : e3a n (IntKind.i64.wrap (254 - (j : Int))) = val n / 2 ^ (254 - j) % 2:=by
 have e : IntKind.i64.wrap (254 - (j : Int)) = ((254 - j : Nat) : Int):=by
  have:=a28 (x:=254 - (j : Int)) (by omega)
  unfold w64 at this
  rw [this];omega
 rw [e]
 obtain ⟨e0,e1,e2,e3,he,w0,w1,w2,w3⟩:=a3w h
 have hc : e5c ((254 - j : Nat) : Int) = false:=by unfold e5c;rw [decide_eq_false (by omega : ¬ ((254 - j : Nat) : Int) < 0),decide_eq_false (by omega : ¬ ((254 - j : Nat) : Int) > 255)]
 unfold e3a
 rw [hc,he]
 exact a6u w0 w1 w2 w3 (by omega)
theorem c7s (N : Int) (p : E4) : ∀ j,(ePr N p j).ok
 | 0=>⟨e7k,e4p,e4p,e7k⟩
 | j + 1=>by
  show (if _ then _ else _ : E4).ok
  split
  ·exact a7v _ _
  ·exact a7v _ _
theorem b0t {e : E4} (h : e.ok) : e4V (e4L e) = e:=by
 show (⟨vl e.x,vl e.y,vl e.z,vl e.t⟩ : E4) = e
 rw [a2m h.1,a2m h.2.1,a2m h.2.2.1,a2m h.2.2.2]
theorem d0c (N : Int) (p : List Int) (j : Nat) : prR N p (j + 1) = if N / 2 ^ (254 - j) % 2 = 1 then pr1 (prR N p j) p else pr0 (prR N p j):=by
 have h1 : e4V (prR N p j) = ePr N (e4V p) j:=b0t (c7s _ _ _)
 unfold pr1 pr0
 rw [h1,b0t (a7v _ _)]
 show e4L (if N / 2 ^ (254 - j) % 2 = 1 then _ else _) = _
 split <;> rfl
theorem d4l {Λ : d8r} (hΛ : LOk Tryz.prog (d80 Tryz.prog 16) Λ) : LOk Tryz.prog (d80 Tryz.prog 16) (prΛ Λ):=by
 refine d2w (q:=qn) (n:=100) (fun p : PrS × List Bool=>prV p.1) (fun p=>prM p.1) prJ (fun s=>255 - s.1.i.toNat) mixed hΛ LOk.none (by kernel_rfl) (by kernel_rfl) (fun s=>rfl) (fun s=>rfl) (fun avs mm p h ho => ?_) (fun p s hJ w => ?_)
 ·unfold prP at h
  split at h
  ·rename_i i L T n p z a
   cases h
   have p0:=f9c (ho _ (f9b ..))
   have p1:=f9c (ho _ (f9a _ (f9b ..)))
   have p2:=f9c (ho _ (f9a _ (f9a _ (f9b ..))))
   have p3:=f9c (ho _ (f9a _ (f9a _ (f9a _ (f9b ..)))))
   have p4:=f9c (ho _ (f9a _ (f9a _ (f9a _ (f9a _ (f9b ..))))))
   refine ⟨(⟨T,n,p,a,0⟩,[]), ?_, ?_,p4,0,Nat.zero_le _, ?_⟩
   ·rw [p0]
    exact .cons (.refl _) (.cons (.refl _) (.cons (.refl _) (.cons (.refl _) (.cons (.refl _) (.cons (.int _ _ _) .nil)))))
   ·rw [p1,p2]
    rfl
   ·rw [p3]
    rfl
  ·cases h
 ·obtain ⟨hn,j,hj,hs⟩:=hJ
  obtain ⟨p,pb⟩:=p
  obtain ⟨s,sb⟩:=s
  simp only at hs hn
  subst hs
  by_cases hend : j = 255
  ·subst hend
   refine ⟨_,(c1u 1).deep (q:=qn) mixed d7w 100 3,Round.out (pr_f w _) rfl rfl (a00 (by simp) d7x.nil) fun q hq => ?_⟩
   simp only [prF,List.mem_cons,List.not_mem_nil,or_false] at hq
   rcases hq with rfl | rfl
   ·exact ⟨_,f9a _ (f9a _ (f9a _ (f9b ..))), .refl _⟩
   ·exact ⟨_,f9a _ (f9a _ (f9a _ (f9a _ (f9b ..)))), .refl _⟩
  ·have hlt : j < 255:=by omega
   have hb:=d4k hn hlt
   have hw : IntKind.i64.wrap ((j : Int) + 1) = ((j + 1 : Nat) : Int):=by
    have:=a28 (x:=(j : Int) + 1) (by omega)
    unfold w64 at this
    rw [this];omega
   have hdebt : ∀ b : Int,val p.n / 2 ^ (254 - j) % 2 = b → d7x (prO p.n b (j : Int)):=fun b h=>a00 (decide_eq_true (by omega)) (a00 rfl (a00 (decide_eq_true (by rw [hb,h])) (a00 rfl d7x.nil)))
   have h01 : val p.n / 2 ^ (254 - j) % 2 = 0 ∨ val p.n / 2 ^ (254 - j) % 2 = 1:=by omega
   have hl:=d0c (val p.n) p.p j
   rcases h01 with h | h
   ·refine ⟨_,(c1u 0).deep (q:=qn) mixed d7w 100 3,Round.on (pr_0 w _) ({ p with a:=prR (val p.n) p.p (j + 1),i:=((j + 1 : Nat) : Int) },sb) [] ?_ (hdebt 0 h) ?_ ⟨hn,j + 1,by omega,rfl⟩ rfl (by simp only;omega)⟩
    ·rw [hl,h,if_neg (by decide),List.append_nil]
     rfl
    ·simp only [hw]
     exact LeL.refl _
   ·refine ⟨_,(c1u 1).deep (q:=qn) mixed d7w 100 3,Round.on (pr_1 w _) ({ p with a:=prR (val p.n) p.p (j + 1),i:=((j + 1 : Nat) : Int) },sb) [] ?_ (hdebt 1 h) ?_ ⟨hn,j + 1,by omega,rfl⟩ rfl (by simp only;omega)⟩
    ·rw [hl,h,if_pos rfl,List.append_nil]
     rfl
    ·simp only [hw]
     exact LeL.refl _
theorem d0d (T n p : List Int) : d92 0 ((d8a Tryz.prog qn (deep Tryz.prog qn hn1 100 3) (prΛ fun _ _=>none) 100 16 (e06 [.pl (.ints .u64 4 n), .pl (.ints .u64 16 p)]) (e1p pC (oC T) [.pl (.ints .u64 4 n), .pl (.ints .u64 16 p)])).go []) =
  some ([true,true,true,true,decide (limbs (val n) = n)], .ints .u64 16 (e4L (e4q (val n) (e4V p))),some (some ⟨false,pC⟩)):=by kernel_rfl
def prS : Cells → Cells → List V → E (AV × Mem)
 | .ints .u64 (some 9) L, .ints .u64 (some 9) _,[.pl (.ints .u64 4 n), .pl (.ints .u64 16 p)]=>some ([isP L],(.ints .u64 16 (e4L (e4q (val n) (e4V p))),[]))
 | _,_,_=>none
theorem d4m {c d : Cells} {xs : List V} {o : List Bool} {v : AV} {bs : Mem} (h : prS c d xs = some (o,(v,bs))) (ho : d7x o) : e0t Tryz.prog 16 (e06 xs) (e1p c d xs) v bs:=by
 unfold prS at h
 split at h
 ·rename_i L T n p
  cases h
  obtain rfl:=a6n ho
  intro ρ vs w ha hi
  have h2:=ha
  cases h2 with
  | cons _ _ _ _ _ h2=>cases h2 with
   | cons _ _ _ _ r1 h2 =>
    obtain ⟨a,b,c,d,rfl,w0,w1,w2,w3⟩:=a0g r1
    exact a18 mixed d7w (c1t.deep mixed d7w 100 3) (fun fn c hf hb=>by rw [a0r hf hb];exact (d4l LOk.none).toN) [] 0 (d0d T [a,b,c,d] p) (a00 rfl (a00 rfl (a00 rfl (a00 rfl (a00 (decide_eq_true (a0w w0 w1 w2 w3)) d7x.nil))))) rfl rfl rfl rfl ha hi
 ·cases h
def hn2 : d82:=e0j 16 prS hn1
theorem c1v : HOk Tryz.prog hn2:=c1t.e0j fun _ _ _ _ _ _ h ho=>d4m h ho
end Go.Proofs.YthelmpjkkkhopaaGreatDoor
