/- Layer 10: hashes as numbers: slices.Reverse. Own work. -/
import Derived.Test.YthelmpjkkkhopaaGreatDoorZShaF
import Derived.Test.YthelmpjkkkhopaaGreatDoorZEvOne
import Derived.Test.YthelmpjkkkhopaaGreatDoorZEvNone
set_option linter.unusedSimpArgs false
set_option linter.unusedVariables false
set_option linter.unusedSectionVars false
namespace Go.Proofs.YthelmpjkkkhopaaGreatDoor
open Go.Ev Go.Wn Go.Mo
set_option maxRecDepth 100000
def qE (f : FuncId) : Bool:=qS f && !Nat.beq f 52
def hE0 : d82:=orH hn4 hs6
theorem c80 : HOk Tryz.prog hE0:=d7a.or c7r
def swp (l : List Int) (i : Nat) : List Int:=(l.set i (l.getD (63 - i) 0)).set (63 - i) (l.getD i 0)
def revL (l : List Int) : List Int:=(List.range 32).foldl swp l
def w5 (st : List Int × List Int × Int) (l : List Int) (n : Nat) : List Int × List Int × Int:=d8h (wrI st.1 st.2.1 st.2.2 l n)
def e5 (st : List Int × List Int × Int) : List Int:=Go.Sh.d9f 64 8 (Go.Sh.e2r 64 80 128 st.1 st.2.1 st.2.2).1
def st5 : List Int × List Int × Int:=(Go.Sh.d9g,Go.Sh.e1l,0)
def sdH (s : List Int) : List Int:=e5 (w5 st5 s 32)
def sdL (s : List Int) : List Int:=kwL (e1s (((sdH s).drop 0).take 32))
def okS (st : List Int × List Int × Int) : List Bool:=[e03 st.1,decide (0 ≤ st.2.2 ∧ st.2.2 < 18446744073709551616)]
theorem d0x (s : List Int) : d92 5 ((d8a Tryz.prog qE (deep Tryz.prog qE hE0 400 4) (fun _ _=>none) 400 14 (d7z 0 [.buf false .u8 32 s]) (d87 [.buf false .u8 32 s])).go []) =
  some ([true,true,true] ++ okS (w5 st5 s 32), .tuple [.ints .u64 4 (sdL s), .slice false 5 32 32 (some 32) 1],some (some ⟨true, .ints .u8 (some 64) (sdH s)⟩)):=by kernel_rfl
def e86 (st : List Int × List Int × Int) : Prop:=st.1.length = 8 ∧ (∀ x ∈ st.1,Go.Sh.Wd 64 x) ∧ 0 ≤ st.2.2 ∧ st.2.2 < 2 ^ 64
theorem c27 : e86 st5:=⟨rfl,c3i,by decide,by decide⟩
theorem a9x {st : List Int × List Int × Int} {l : List Int} {n : Nat} (h : l.length = n) : w5 st l n = Go.Sh.stW 64 80 128 st.1 st.2.1 st.2.2 l:=by
 have:=a3g (ws:=st.1) (op:=st.2.1) (c:=st.2.2) h
 rwa [List.drop_zero,List.take_of_length_le (by omega)] at this
theorem c53 {st : List Int × List Int × Int} {l : List Int} {n : Nat} (h : e86 st) (hl : l.length = n) : e86 (w5 st l n):=by
 rw [a9x hl]
 exact Go.Sh.b8b h.1 h.2.1 h.2.2
theorem a1o {st : List Int × List Int × Int} (h : e86 st) : d7x (okS st):=
 a00 (b1p h.2.1) (a00 (decide_eq_true ⟨h.2.2.1,by have:=h.2.2.2;omega⟩) d7x.nil)
theorem c81 (st : List Int × List Int × Int) : (e5 st).length = 64:=by unfold e5 Go.Sh.d9f;simp
theorem e5_b (st : List Int × List Int × Int) : ∀ x ∈ e5 st,inR .u8 x = true:=by
 unfold e5 Go.Sh.d9f
 intro x hx
 obtain ⟨i,_,rfl⟩:=List.mem_map.1 hx
 rw [a15]
 unfold IntKind.wrap
 simp only [lo,hi,IntKind.signed,IntKind.bits]
 simp
 omega
def opS : List V → E (AV × Mem)
 | [.buf false .u8 32 s]=>some ([],(.tuple [.ints .u64 4 (sdL s), .slice false 0 32 32 (some 32) 1],[some ⟨true, .ints .u8 (some 64) (sdH s)⟩]))
 | _=>none
theorem f5o {xs : List V} {o : List Bool} {v : AV} {bs : Mem} (h : opS xs = some (o,(v,bs))) : d7y Tryz.prog 14 xs v bs:=by
 unfold opS at h
 split at h
 ·rename_i s
  cases h
  intro ρ vs w ha hi
  obtain ⟨hl,_⟩:=a0l hi 0 rfl
  exact a12 mixed d7w (c80.deep mixed d7w 400 4) (lo1 _) [] 5 (d0x s) (a00 rfl (a00 rfl (a00 rfl (a1o (c53 c27 hl))))) (by show 1 ≤ 5;decide) rfl rfl ha hi
 ·cases h
def hE1 : d82:=d84 14 opS hE0
theorem a8v : HOk Tryz.prog hE1:=c80.d84 fun _ _ _ _ h _=>f5o h
end Go.Proofs.YthelmpjkkkhopaaGreatDoor
namespace Go.Proofs.YthelmpjkkkhopaaGreatDoor
open Go.Ev Go.Wn Go.Mo
set_option maxRecDepth 100000
def OL : List Int:=[6346243789798364141,1503914060200516822,0,1152921504606846976,15183074304973897243,11819153939886771969,14991950615390032711,14910419812499177061,259310039853996605]
theorem b7v : val OL = (L25 : Int):=by decide +kernel
def nmL (h : List Int) : List Int:=limbs (be (revL h) % val OL)
def e87 (n : List Int) : List Int:=d8l (limbs (wnI (e4V (e4L (e4q (val n) (e4V e2h))))))
def e1f (s : List Int) : List Int:=e87 (sdL s)
def pfx (s : List Int) : List Int:=((sdH s).drop 32).take 32
abbrev St5:=List Int × List Int × Int
def sgA (s : List Int) : St5:=w5 st5 (pfx s) 32
def sgR (f : St5 → St5) (s : List Int) : List Int:=nmL (e5 (f (sgA s)))
def sgP (f : St5 → St5) (s : List Int) : List Int:=e87 (sgR f s)
def e8s (R : List Int) : St5:=w5 st5 R 32
def e88 (R A : List Int) : St5:=w5 (e8s R) A 32
def sgK (f : St5 → St5) (R A : List Int) : List Int:=nmL (e5 (f (e88 R A)))
def sgS (f : St5 → St5) (s : List Int) : List Int:=limbs ((val (sgR f s) + val (limbs (val (sgK f (sgP f s) (e1f s)) * val (sdL s) % val OL))) % val OL)
def e6j (f : St5 → St5) (s : List Int) : List Int:=sgP f s ++ d8l (sgS f s)
theorem d0y (s : List Int) : d92 9 ((d8a Tryz.prog qE (deep Tryz.prog qE hE1 400 4) (fun _ _=>none) 400 6 (d7z 0 [.buf false .u8 32 s]) (d87 [.buf false .u8 32 s])).go []) =
  some (List.replicate 6 true, .tuple [.slice false 9 0 32 (some 32) 1, .int false .i64 0],some (some ⟨true, .ints .u8 (some 32) (e1f s)⟩)):=by kernel_rfl
def sgM (m : List Int) (n : Nat) (st : St5) : St5:=w5 st ((m.drop 0).take n) n
def sgO (f : St5 → St5) (s : List Int) (n : Nat) : List Bool:=List.replicate 9 true ++ [decide (0 + n ≤ n)] ++ okS (sgA s) ++ [decide (n < 9223372036854775808)] ++ okS (f (sgA s)) ++ List.replicate 7 true ++ okS (e8s (sgP f s)) ++ [true,decide (0 + n ≤ n)] ++ okS (e88 (sgP f s) (e1f s)) ++ [decide (n < 9223372036854775808)] ++ okS (f (e88 (sgP f s) (e1f s))) ++ List.replicate 4 true
def f2l (s : List Int) : List Bool:=List.replicate 9 true ++ okS (sgA s) ++ List.replicate 7 true ++ okS (e8s (sgP id s)) ++ [true] ++ okS (e88 (sgP id s) (e1f s)) ++ List.replicate 4 true
theorem d52 (s m : List Int) (n : Nat) : d92 17 ((d8a Tryz.prog qE (deep Tryz.prog qE hE1 400 4) (fun _ _=>none) 400 7 (d7z 0 [.buf false .u8 32 s, .buf true .u8 n m]) (d87 [.buf false .u8 32 s, .buf true .u8 n m])).go []) =
  some (sgO (sgM m n) s n, .tuple [.slice false 17 0 64 none 1, .int false .i64 0],some (some ⟨true, .ints .u8 (some 64) (e6j (sgM m n) s)⟩)):=by kernel_rfl
theorem d53 (s : List Int) : d92 17 ((d8a Tryz.prog qE (deep Tryz.prog qE hE1 400 4) (fun _ _=>none) 400 7 (d7z 0 [.buf false .u8 32 s, .pl .nilslice]) (d87 [.buf false .u8 32 s, .pl .nilslice])).go []) =
  some (f2l s, .tuple [.slice false 17 0 64 none 1, .int false .i64 0],some (some ⟨true, .ints .u8 (some 64) (e6j id s)⟩)):=by kernel_rfl
theorem d54 (s : List Int) : d92 17 ((d8a Tryz.prog qE (deep Tryz.prog qE hE1 400 4) (fun _ _=>none) 400 7 (d7z 0 [.buf false .u8 32 s, .empty]) (d87 [.buf false .u8 32 s, .empty])).go []) =
  some (f2l s, .tuple [.slice false 17 0 64 none 1, .int false .i64 0],some (some ⟨true, .ints .u8 (some 64) (e6j id s)⟩)):=by kernel_rfl
end Go.Proofs.YthelmpjkkkhopaaGreatDoor
namespace Go.Proofs.YthelmpjkkkhopaaGreatDoor
open Go.Ev Go.Wn Go.Mo
set_option maxRecDepth 100000
def sgF (m : List Int) (st : St5) : St5:=Go.Sh.stW 64 80 128 st.1 st.2.1 st.2.2 m
theorem d55 {m : List Int} {n : Nat} (h : m.length = n) : sgM m n = sgF m:=by
 funext st
 unfold sgM
 rw [List.drop_zero,List.take_of_length_le (by omega)]
 exact a9x h
theorem c28 {m : List Int} {st : St5} (h : e86 st) : e86 (sgF m st):=Go.Sh.b8b h.1 h.2.1 h.2.2
theorem b9m (l : List Int) (h : l.length = 4) : (d8l l).length = 32:=by
 obtain ⟨a,b,c,d,rfl⟩:=four h
 rfl
theorem a3h (n : List Int) : (e87 n).length = 32:=b9m _ rfl
theorem b64 (s : List Int) : (pfx s).length = 32:=by
 unfold pfx
 rw [List.length_take,List.length_drop,show (sdH s).length = 64 from c81 _]
 rfl
theorem c82 (s : List Int) : e86 (sgA s):=c53 c27 (b64 s)
theorem a8w {R : List Int} (h : R.length = 32) : e86 (e8s R):=c53 c27 h
theorem b0u {R A : List Int} (h : R.length = 32) (h2 : A.length = 32) : e86 (e88 R A):=c53 (a8w h) h2
theorem c54 {m s : List Int} {n : Nat} (hn : n < 9223372036854775808) : d7x (sgO (sgF m) s n):=by
 unfold sgO
 have p : d7x [decide (0 + n ≤ n)]:=a00 (decide_eq_true (by omega)) d7x.nil
 have q : d7x [decide (n < 9223372036854775808)]:=a00 (decide_eq_true hn) d7x.nil
 have r : d7x [true,decide (0 + n ≤ n)]:=a00 rfl p
 have a:=c82 s
 have b1:=a8w (a3h (sgR (sgF m) s))
 have b2:=b0u (a3h (sgR (sgF m) s)) (a3h (sdL s))
 exact a01.2 ⟨a01.2 ⟨a01.2 ⟨a01.2 ⟨a01.2 ⟨a01.2 ⟨a01.2 ⟨a01.2 ⟨a01.2 ⟨a01.2 ⟨a01.2 ⟨a10 _,p⟩,a1o a⟩,q⟩,a1o (c28 a)⟩,a10 _⟩,a1o b1⟩,r⟩,a1o b2⟩,q⟩,a1o (c28 b2)⟩,a10 _⟩
theorem b3p (s : List Int) : d7x (f2l s):=by
 unfold f2l
 have r : d7x [true]:=a00 rfl d7x.nil
 have a:=c82 s
 have b1:=a8w (a3h (sgR id s))
 have b2:=b0u (a3h (sgR id s)) (a3h (sdL s))
 exact a01.2 ⟨a01.2 ⟨a01.2 ⟨a01.2 ⟨a01.2 ⟨a01.2 ⟨a10 _,a1o a⟩,a10 _⟩,a1o b1⟩,r⟩,a1o b2⟩,a10 _⟩
theorem d56 (s : List Int) (n : Nat) : d92 0 ((d8a Tryz.prog qE (deep Tryz.prog qE hE1 400 4) (fun _ _=>none) 400 6 (d7z 0 [.buf true .u8 n s]) (d87 [.buf true .u8 n s])).go [true]) =
  some ([decide (n < 9223372036854775808),(n : Int) != 32], .tuple [.nilslice, .int false .i64 2],some (some ⟨false, .ints .u8 (some n) s⟩)):=by kernel_rfl
theorem d57 : d92 0 ((d8a Tryz.prog qE (deep Tryz.prog qE hE1 400 4) (fun _ _=>none) 400 6 (d7z 0 [.pl .nilslice]) (d87 [.pl .nilslice])).go []) =
  some ([], .tuple [.nilslice, .int false .i64 2],some none):=by kernel_rfl
theorem d58 : d92 0 ((d8a Tryz.prog qE (deep Tryz.prog qE hE1 400 4) (fun _ _=>none) 400 6 (d7z 0 [.empty]) (d87 [.empty])).go []) =
  some ([], .tuple [.nilslice, .int false .i64 2],some none):=by kernel_rfl
def pubA (s : List Int) : AV × Mem:=(.tuple [.slice false 0 0 32 (some 32) 1, .int false .i64 0],[some ⟨true, .ints .u8 (some 32) (e1f s)⟩])
def noA : AV × Mem:=(.tuple [.nilslice, .int false .i64 2],[])
def puS : List V → E (AV × Mem)
 | [.buf false .u8 32 s]=>some ([],pubA s)
 | [.buf true .u8 n _]=>some ([decide (n < 9223372036854775808),(n : Int) != 32],noA)
 | [.pl .nilslice]=>some ([],noA)
 | [.empty]=>some ([],noA)
 | _=>none
theorem d0z {xs : List V} {o : List Bool} {v : AV} {bs : Mem} (h : puS xs = some (o,(v,bs))) (ho : d7x o) : d7y Tryz.prog 6 xs v bs:=by
 have D:=a8v.deep (q:=qE) mixed d7w 400 4
 unfold puS at h
 split at h
 ·rename_i s
  cases h
  intro ρ vs w ha hi
  exact a12 mixed d7w D (lo1 _) [] 9 (d0y s) (a10 _) (by show 1 ≤ 9;decide) rfl rfl ha hi
 ·rename_i n s
  cases h
  intro ρ vs w ha hi
  exact a0a mixed d7w D (lo1 _) [true] 0 (d56 s n) ho rfl rfl rfl rfl ha hi
 ·cases h
  intro ρ vs w ha hi
  exact a0a mixed d7w D (lo1 _) [] 0 d57 ho rfl rfl rfl rfl ha hi
 ·cases h
  intro ρ vs w ha hi
  exact a0a mixed d7w D (lo1 _) [] 0 d58 ho rfl rfl rfl rfl ha hi
 ·cases h
def f5p (m s : List Int) : AV × Mem:=(.tuple [.slice false 0 0 64 none 1, .int false .i64 0],[some ⟨true, .ints .u8 (some 64) (e6j (sgF m) s)⟩])
def f5q : List V → E (AV × Mem)
 | [.buf false .u8 32 s, .buf _ .u8 n m]=>some ([decide (n < 9223372036854775808)],f5p m s)
 | [.buf false .u8 32 s, .pl .nilslice]=>some ([],f5p [] s)
 | [.buf false .u8 32 s, .empty]=>some ([],f5p [] s)
 | _=>none
theorem c29 {xs : List V} {o : List Bool} {v : AV} {bs : Mem} (h : f5q xs = some (o,(v,bs))) (ho : d7x o) : d7y Tryz.prog 7 xs v bs:=by
 have D:=a8v.deep (q:=qE) mixed d7w 400 4
 unfold f5q at h
 split at h
 ·rename_i s b n m
  cases h
  have hn:=f9c (ho _ (f9b ..))
  intro ρ vs w ha hi
  obtain ⟨hl,_⟩:=a0l hi 1 rfl
  have ha2 : d8i ρ (upto 2) (d7z 0 [.buf false .u8 32 s, .buf true .u8 n m]) vs:=by
   cases ha with
   | cons _ _ _ _ r0 hr=>cases hr with
    | cons _ _ _ _ r1 hr=>cases hr with
     | nil=>cases r1 with
      | slice _ _ _ _ _ _ c ad hn hc hl hw had=>exact .cons _ _ _ _ r0 (.cons _ _ _ _ (.slice true 1 0 n none 1 c ad hn hc hl hw had) .nil)
  have e:=d52 s m n
  rw [d55 hl] at e
  exact a12 mixed d7w D (lo1 _) [] 17 e (c54 hn) (by show 2 ≤ 17;decide) rfl rfl ha2 hi
 ·rename_i s
  cases h
  intro ρ vs w ha hi
  exact a12 mixed d7w D (lo1 _) [] 17 (d53 s) (b3p s) (by show 2 ≤ 17;decide) rfl rfl ha hi
 ·rename_i s
  cases h
  intro ρ vs w ha hi
  exact a12 mixed d7w D (lo1 _) [] 17 (d54 s) (b3p s) (by show 2 ≤ 17;decide) rfl rfl ha hi
 ·cases h
def hE2 : d82:=d84 6 puS (d84 7 f5q hE1)
theorem d59 : HOk Tryz.prog hE2:=(a8v.d84 fun _ _ _ _ h ho=>c29 h ho).d84 fun _ _ _ _ h ho=>d0z h ho
end Go.Proofs.YthelmpjkkkhopaaGreatDoor
namespace Go.Proofs.YthelmpjkkkhopaaGreatDoor
open Go.Ev Go.Wn Go.Mo
set_option maxRecDepth 100000
def veR (g : List Int) : List Int:=(g.drop 0).take 32
def veS (g : List Int) : List Int:=e1s ((g.drop 32).take 32)
def veK (f : St5 → St5) (p g : List Int) : List Int:=sgK f (veR g) p
def veP (f : St5 → St5) (p g : List Int) : List Int:=d8l (limbs (wnI (e4V (e4L (e3y (e4V (e4L (e4q (val (veS g)) (e4V e2h)))) (e4V (e4L (e4q (val (veK f p g)) (e4V (e4L (e93 (e4V (rdL p)))))))))))) )
def v5 (a : Bool) : List Bool:=[true,true,true,true,true, !(!(!a)) || !(!a), !(!(!a)) || !(!a), !(!(!a)) || !(!a), !a || !(!a)]
def vM (a s : Bool) : Bool:=match !a with
 | true=>true
 | false=>!s
def veB (g : List Int) : Bool:=decide (val (veS g) < val e00)
def vmO (f : St5 → St5) (p g : List Int) (n : Nat) : List Bool:=[true,true,true] ++ okS (e8s (veR g)) ++ [true,decide (0 + n ≤ n)] ++ okS (e88 (veR g) p) ++ [decide (n < 9223372036854775808)] ++ okS (f (e88 (veR g) p)) ++ List.replicate 7 true
def f1h (p g : List Int) : List Bool:=[true,true,true] ++ okS (e8s (veR g)) ++ [true] ++ okS (e88 (veR g) p) ++ List.replicate 7 true
theorem d10 (p m g : List Int) (n : Nat) : d92 0 ((d8a Tryz.prog qE (deep Tryz.prog qE hE1 400 4) (fun _ _=>none) 400 10 (d7z 0 [.buf false .u8 32 p, .buf true .u8 n m, .buf false .u8 64 g]) (d87 [.buf false .u8 32 p, .buf true .u8 n m, .buf false .u8 64 g])).go [true]) =
  some (v5 (d9c p) ++ [vM (d9c p) (veB g)], .int false .i64 6,some (some ⟨false, .ints .u8 (some 32) p⟩)):=by kernel_rfl
theorem d11 (p m g : List Int) (n : Nat) : d92 0 ((d8a Tryz.prog qE (deep Tryz.prog qE hE1 400 4) (fun _ _=>none) 400 10 (d7z 0 [.buf false .u8 32 p, .buf true .u8 n m, .buf false .u8 64 g]) (d87 [.buf false .u8 32 p, .buf true .u8 n m, .buf false .u8 64 g])).go [false,true]) =
  some (v5 (d9c p) ++ [!vM (d9c p) (veB g)] ++ vmO (sgM m n) p g n ++ [!decide (veP (sgM m n) p g = veR g)], .int false .i64 6,some (some ⟨false, .ints .u8 (some 32) p⟩)):=by kernel_rfl
theorem d12 (p m g : List Int) (n : Nat) : d92 0 ((d8a Tryz.prog qE (deep Tryz.prog qE hE1 400 4) (fun _ _=>none) 400 10 (d7z 0 [.buf false .u8 32 p, .buf true .u8 n m, .buf false .u8 64 g]) (d87 [.buf false .u8 32 p, .buf true .u8 n m, .buf false .u8 64 g])).go [false,false]) =
  some (v5 (d9c p) ++ [!vM (d9c p) (veB g)] ++ vmO (sgM m n) p g n ++ [!(!decide (veP (sgM m n) p g = veR g))], .int false .i64 0,some (some ⟨false, .ints .u8 (some 32) p⟩)):=by kernel_rfl
theorem d13 (p g : List Int) : d92 0 ((d8a Tryz.prog qE (deep Tryz.prog qE hE1 400 4) (fun _ _=>none) 400 10 (d7z 0 [.buf false .u8 32 p, .pl .nilslice, .buf false .u8 64 g]) (d87 [.buf false .u8 32 p, .pl .nilslice, .buf false .u8 64 g])).go [true]) =
  some (v5 (d9c p) ++ [vM (d9c p) (veB g)], .int false .i64 6,some (some ⟨false, .ints .u8 (some 32) p⟩)):=by kernel_rfl
theorem d14 (p g : List Int) : d92 0 ((d8a Tryz.prog qE (deep Tryz.prog qE hE1 400 4) (fun _ _=>none) 400 10 (d7z 0 [.buf false .u8 32 p, .pl .nilslice, .buf false .u8 64 g]) (d87 [.buf false .u8 32 p, .pl .nilslice, .buf false .u8 64 g])).go [false,true]) =
  some (v5 (d9c p) ++ [!vM (d9c p) (veB g)] ++ f1h p g ++ [!decide (veP id p g = veR g)], .int false .i64 6,some (some ⟨false, .ints .u8 (some 32) p⟩)):=by kernel_rfl
theorem d15 (p g : List Int) : d92 0 ((d8a Tryz.prog qE (deep Tryz.prog qE hE1 400 4) (fun _ _=>none) 400 10 (d7z 0 [.buf false .u8 32 p, .pl .nilslice, .buf false .u8 64 g]) (d87 [.buf false .u8 32 p, .pl .nilslice, .buf false .u8 64 g])).go [false,false]) =
  some (v5 (d9c p) ++ [!vM (d9c p) (veB g)] ++ f1h p g ++ [!(!decide (veP id p g = veR g))], .int false .i64 0,some (some ⟨false, .ints .u8 (some 32) p⟩)):=by kernel_rfl
theorem d16 (p g : List Int) : d92 0 ((d8a Tryz.prog qE (deep Tryz.prog qE hE1 400 4) (fun _ _=>none) 400 10 (d7z 0 [.buf false .u8 32 p, .empty, .buf false .u8 64 g]) (d87 [.buf false .u8 32 p, .empty, .buf false .u8 64 g])).go [true]) =
  some (v5 (d9c p) ++ [vM (d9c p) (veB g)], .int false .i64 6,some (some ⟨false, .ints .u8 (some 32) p⟩)):=by kernel_rfl
theorem d17 (p g : List Int) : d92 0 ((d8a Tryz.prog qE (deep Tryz.prog qE hE1 400 4) (fun _ _=>none) 400 10 (d7z 0 [.buf false .u8 32 p, .empty, .buf false .u8 64 g]) (d87 [.buf false .u8 32 p, .empty, .buf false .u8 64 g])).go [false,true]) =
  some (v5 (d9c p) ++ [!vM (d9c p) (veB g)] ++ f1h p g ++ [!decide (veP id p g = veR g)], .int false .i64 6,some (some ⟨false, .ints .u8 (some 32) p⟩)):=by kernel_rfl
theorem d18 (p g : List Int) : d92 0 ((d8a Tryz.prog qE (deep Tryz.prog qE hE1 400 4) (fun _ _=>none) 400 10 (d7z 0 [.buf false .u8 32 p, .empty, .buf false .u8 64 g]) (d87 [.buf false .u8 32 p, .empty, .buf false .u8 64 g])).go [false,false]) =
  some (v5 (d9c p) ++ [!vM (d9c p) (veB g)] ++ f1h p g ++ [!(!decide (veP id p g = veR g))], .int false .i64 0,some (some ⟨false, .ints .u8 (some 32) p⟩)):=by kernel_rfl
theorem d19 (a : Bool) : d7x (v5 a):=by cases a <;> exact List.all_eq_true.1 rfl
def e5x (f : St5 → St5) (p g : List Int) : Bool:=d9c p && (veB g && decide (veP f p g = veR g))
def e4s (b : Bool) : Int:=match b with
 | true=>0
 | false=>6
theorem a8x {g : List Int} (h : g.length = 64) : (veR g).length = 32:=by unfold veR;rw [List.length_take,List.drop_zero,h];rfl
theorem c55 {m p g : List Int} {n : Nat} (hp : p.length = 32) (hg : g.length = 64) (hn : n < 9223372036854775808) : d7x (vmO (sgF m) p g n):=by
 have a : d7x [true,decide (0 + n ≤ n)]:=a00 rfl (a00 (decide_eq_true (by omega)) d7x.nil)
 have q : d7x [decide (n < 9223372036854775808)]:=a00 (decide_eq_true hn) d7x.nil
 have t : d7x [true,true,true]:=a10 3
 have b1:=a8w (a8x hg)
 have b2:=b0u (a8x hg) hp
 exact a01.2 ⟨a01.2 ⟨a01.2 ⟨a01.2 ⟨a01.2 ⟨a01.2 ⟨t,a1o b1⟩,a⟩,a1o b2⟩,q⟩,a1o (c28 b2)⟩,a10 _⟩
theorem b3q {p g : List Int} (hp : p.length = 32) (hg : g.length = 64) : d7x (f1h p g):=by
 have a : d7x [true]:=a00 rfl d7x.nil
 have t : d7x [true,true,true]:=a10 3
 have b1:=a8w (a8x hg)
 have b2:=b0u (a8x hg) hp
 exact a01.2 ⟨a01.2 ⟨a01.2 ⟨a01.2 ⟨t,a1o b1⟩,a⟩,a1o b2⟩,a10 _⟩
theorem a6o {g : FuncId} {xs : List V} {n : Int} (h : d7y Tryz.prog g xs (.int false .i64 n) []) : d7y Tryz.prog g xs (.int true .i64 n) []:=by
 intro ρ vs w ha hi
 refine (h ha hi).mono fun u w' ⟨ρ',r,k⟩=>⟨ρ', ?_,k⟩
 have r' : Rep ρ' (upto (xs.length + 0)) (.int false .i64 n) u:=r
 show Rep ρ' (upto (xs.length + 0)) (.int true .i64 n) u
 cases r' with | int _ _ _ h=>exact .int _ _ _ h
theorem b65 {xs : List V} {a s e : Bool} {mid : List Bool} {b : Option (Option Blk)}
  (h1 : d92 0 ((d8a Tryz.prog qE (deep Tryz.prog qE hE1 400 4) (fun _ _=>none) 400 10 (d7z 0 xs) (d87 xs)).go [true]) = some (v5 a ++ [vM a s], .int false .i64 6,b))
  (h2 : d92 0 ((d8a Tryz.prog qE (deep Tryz.prog qE hE1 400 4) (fun _ _=>none) 400 10 (d7z 0 xs) (d87 xs)).go [false,true]) = some (v5 a ++ [!vM a s] ++ mid ++ [!e], .int false .i64 6,b))
  (h3 : d92 0 ((d8a Tryz.prog qE (deep Tryz.prog qE hE1 400 4) (fun _ _=>none) 400 10 (d7z 0 xs) (d87 xs)).go [false,false]) = some (v5 a ++ [!vM a s] ++ mid ++ [!(!e)], .int false .i64 0,b))
  (hm : d7x mid) (hinj : e6h id (xs.length + 0) = true) (hfix : e7m id xs.length = true) : d7y Tryz.prog 10 xs (.int true .i64 (e4s (a && (s && e)))) []:=by
 have D:=a8v.deep (q:=qE) mixed d7w 400 4
 have hv:=d19 a
 cases a with
 | false=>exact @a6o _ _ _ (fun ha hi=>a0a mixed d7w D (lo1 _) [true] 0 h1 (a01.2 ⟨hv,a00 rfl d7x.nil⟩) rfl rfl hinj hfix ha hi)
 | true=>cases s with
  | false=>exact @a6o _ _ _ (fun ha hi=>a0a mixed d7w D (lo1 _) [true] 0 h1 (a01.2 ⟨hv,a00 rfl d7x.nil⟩) rfl rfl hinj hfix ha hi)
  | true =>
   have p1 : d7x (v5 true ++ [!vM true true] ++ mid):=a01.2 ⟨a01.2 ⟨hv,a00 rfl d7x.nil⟩,hm⟩
   cases e with
   | false=>exact @a6o _ _ _ (fun ha hi=>a0a mixed d7w D (lo1 _) [false,true] 0 h2 (a01.2 ⟨p1,a00 rfl d7x.nil⟩) rfl rfl hinj hfix ha hi)
   | true=>exact @a6o _ _ _ (fun ha hi=>a0a mixed d7w D (lo1 _) [false,false] 0 h3 (a01.2 ⟨p1,a00 rfl d7x.nil⟩) rfl rfl hinj hfix ha hi)
def f5r : List V → E (AV × Mem)
 | [.buf false .u8 32 p, .buf _ .u8 n m, .buf false .u8 64 g]=>some ([decide (n < 9223372036854775808)],(.int true .i64 (e4s (e5x (sgF m) p g)),[]))
 | [.buf false .u8 32 p, .pl .nilslice, .buf false .u8 64 g]=>some ([],(.int true .i64 (e4s (e5x (sgF []) p g)),[]))
 | [.buf false .u8 32 p, .empty, .buf false .u8 64 g]=>some ([],(.int true .i64 (e4s (e5x (sgF []) p g)),[]))
 | _=>none
theorem c2a {xs : List V} {o : List Bool} {v : AV} {bs : Mem} (h : f5r xs = some (o,(v,bs))) (ho : d7x o) : d7y Tryz.prog 10 xs v bs:=by
 unfold f5r at h
 split at h
 ·rename_i p b n m g
  cases h
  have hn:=f9c (ho _ (f9b ..))
  intro ρ vs w ha hi
  obtain ⟨hp,_⟩:=a0l hi 0 rfl
  obtain ⟨hl,_⟩:=a0l hi 1 rfl
  obtain ⟨hg,_⟩:=a0l hi 2 rfl
  have ha2 : d8i ρ (upto 3) (d7z 0 [.buf false .u8 32 p, .buf true .u8 n m, .buf false .u8 64 g]) vs:=by
   cases ha with
   | cons _ _ _ _ r0 hr=>cases hr with
    | cons _ _ _ _ r1 hr=>cases r1 with
     | slice _ _ _ _ _ _ c ad hn hc hl hw had=>exact .cons _ _ _ _ r0 (.cons _ _ _ _ (.slice true 1 0 n none 1 c ad hn hc hl hw had) hr)
  have e1:=d10 p m g n
  have e2:=d11 p m g n
  have e3:=d12 p m g n
  rw [d55 hl] at e2 e3
  exact b65 e1 e2 e3 (c55 hp hg hn) rfl rfl ha2 hi
 ·rename_i p g
  cases h
  intro ρ vs w ha hi
  obtain ⟨hp,_⟩:=a0l hi 0 rfl
  obtain ⟨hg,_⟩:=a0l hi 2 rfl
  exact b65 (d13 p g) (d14 p g) (d15 p g) (b3q hp hg) rfl rfl ha hi
 ·rename_i p g
  cases h
  intro ρ vs w ha hi
  obtain ⟨hp,_⟩:=a0l hi 0 rfl
  obtain ⟨hg,_⟩:=a0l hi 2 rfl
  exact b65 (d16 p g) (d17 p g) (d18 p g) (b3q hp hg) rfl rfl ha hi
 ·cases h
def hE3 : d82:=d84 10 f5r hE2
theorem d5a : HOk Tryz.prog hE3:=d59.d84 fun _ _ _ _ h ho=>c2a h ho
end Go.Proofs.YthelmpjkkkhopaaGreatDoor
