/- Layer 10: the anchor. Own work. -/
import Derived.Test.YthelmpjkkkhopaaGreatDoorZEwI
import Derived.Test.YthelmpjkkkhopaaGreatDoorCards
import Derived.Test.YthelmpjkkkhopaaGreatDoorTie
import Derived.Test.YthelmpjkkkhopaaGreatDoorZMyMC
import Derived.Test.YthelmpjkkkhopaaGreatDoorZEvOne
import Derived.ProofKit
import Derived.OpenShut
import Derived.LaidMore
import Derived.Lay
import Derived.SevenTiedAt
import Derived.SizedLaws
import Derived.ChangeSlices
set_option linter.unusedSimpArgs false
set_option linter.unusedVariables false
set_option linter.unusedSectionVars false
namespace Go.Mo
open Go.Ev Go.Wn
def wnF (p : E4) : Int:=mI p.y (pF p.z) + d8q * (mI p.x (pF p.z) % 2)
theorem c7g (p : E4) : wnI p = wnF p:=by unfold wnI wnF eWx eWy;rw [d3k]
def fRF (w : Int) : Int:=((pw 57896044618658097711785492504343953926634992332820282019728792003956564819949 256 (vl w).toNat p8 1 : Nat) : Int)
theorem c7h (w : Int) : fR w = fRF w:=by
 have he : p8 < 2 ^ 256:=by decide +kernel
 unfold fR fRF
 generalize p8 = e at *
 rw [vPL]
 have h:=e8o w
 generalize vl w = y at *
 obtain ⟨n,rfl⟩:=Int.eq_ofNat_of_zero_le h.1
 rw [c0p n he,Int.toNat_natCast]
def e81 (y : Int) : Int:=mI (sI (mI y y) 1) (pF (aI 1 (mI dI (mI y y))))
def fXF (y : Int) : Int:=if mI (fRF (e81 y)) (fRF (e81 y)) = e81 y then fRF (e81 y) else mI (fRF (e81 y)) iI
theorem c7i (y : Int) : fX y = fXF y ∧ fXX y = e81 y:=by
 have h : fXX y = e81 y:=by unfold fXX e81;rw [d3k]
 refine ⟨?_,h⟩
 unfold fX fXF fX0
 rw [h,c7h]
def ryF (y o : Int) : Bool:=decide (y < (P25 : Int)) && (decide (mI (fXF y) (fXF y) = e81 y) && !(decide (fXF y = 0) && decide (o = 1)))
theorem c7j (y o : Int) : ryB y o = ryF y o:=by
 obtain ⟨h1,h2⟩:=c7i y
 unfold ryB ryF fOk
 rw [h1,h2]
def f2j (y o : Int) : Int:=if (o + fXF y) % 2 = 1 then sI 0 (fXF y) else fXF y
theorem c17 (y o : Int) : ryX y o = f2j y o:=by
 unfold ryX f2j
 rw [(c7i y).1]
end Go.Mo
namespace Go.Proofs.YthelmpjkkkhopaaGreatDoor
open Go.Ev Go.Wn Go.Mo
set_option maxRecDepth 100000
theorem c7k : e4V e2h = eB:=by
 have h1 : e4L eB = e2h:=by decide +kernel
 rw [← h1]
 exact b0t f4f.1
theorem b5i (N : Int) (p : E4) : (e4q N p).ok:=c7s N p 255
theorem c18 (n : List Int) : e87 n = d8l (limbs (wnI (e4q (val n) eB))):=by
 unfold e87
 rw [c7k,b0t (b5i _ _)]
def ptF (n : List Int) : List Int:=d8l (limbs (wnF (e4q (val n) eB)))
theorem c7l (n : List Int) : e87 n = ptF n:=by rw [c18,c7g];rfl
def ryPF (p : List Int) : E4:=⟨f2j (leI p % d8q) (leI p / d8q),leI p % d8q,1,mI (f2j (leI p % d8q) (leI p / d8q)) (leI p % d8q)⟩
theorem c7m {f : St5 → St5} {p g : List Int} (hp : okb p) (h : d9c p = true) : veP f p g = d8l (limbs (wnI (e3y (e4q (val (veS g)) eB) (e4q (val (veK f p g)) (e93 (ryP (leI p % d8q) (leI p / d8q))))))):=by
 have hl : rdL p = e4L (ryP (leI p % d8q) (leI p / d8q)):=by unfold rdL;rw [h]
 have hr:=a4d hp
 have o1 : (ryP (leI p % d8q) (leI p / d8q)).ok:=⟨a30 (b08 _ _),⟨by show 0 ≤ leI p % d8q;unfold d8q;omega,by show leI p % d8q < _;unfold d8q;omega⟩,e4p,a20 _ _⟩
 have o2 : (e93 (ryP (leI p % d8q) (leI p / d8q))).ok:=⟨a64 _ _,o1.2.1,o1.2.2.1,a64 _ _⟩
 unfold veP
 rw [hl,c7k,b0t o1,b0t o2,b0t (b5i _ _),b0t (b5i _ _),b0t (a7v _ _)]
def veF (k S p : List Int) : List Int:=d8l (limbs (wnF (e3y (e4q (val S) eB) (e4q (val k) (e93 (ryPF p))))))
theorem c7n {f : St5 → St5} {p g k S : List Int} (hp : okb p) (h : d9c p = true) (hk : veK f p g = k) (hS : veS g = S) : veP f p g = veF k S p:=by
 rw [c7m hp h,c7g,hk,hS]
 unfold veF ryPF ryP
 rw [c17]
def sd0 : List Int:=List.replicate 32 0
def sdL0 : List Int:=[9671665861578802768,4486363481191951227,10410676049338283352,6264937311002196469]
def e5v : List Int:=[59,106,39,188,206,182,164,45,98,163,168,208,42,111,13,115,101,50,21,119,29,226,67,166,58,192,72,161,139,89,218,41]
def sgR0 : List Int:=[9564151600438377273,495160968050693096,13759262623946944591,545360850824873473]
def sgP0 : List Int:=[247,244,149,243,4,33,124,74,253,75,81,100,34,217,101,111,166,16,62,142,249,56,56,94,192,74,155,147,187,50,194,83]
def sgK0 : List Int:=[185221042343802021,12533257155103701717,1471220743615447814,982592495398673762]
def e82 : List Int:=[247,244,149,243,4,33,124,74,253,75,81,100,34,217,101,111,166,16,62,142,249,56,56,94,192,74,155,147,187,50,194,83,104,139,141,186,210,24,114,19,173,221,214,27,249,188,205,65,30,10,243,133,166,159,215,35,213,181,199,143,21,68,212,3]
def fx : St5 → St5:=sgF [120]
def fy : St5 → St5:=sgF [121]
theorem d41 : sdL sd0 = sdL0:=by decide +kernel
theorem d42 : e1f sd0 = e5v:=by unfold e1f;rw [d41,c7l];decide +kernel
theorem a_r : sgR fx sd0 = sgR0:=by decide +kernel
theorem a_P : sgP fx sd0 = sgP0:=by unfold sgP;rw [a_r,c7l];decide +kernel
theorem a_k : sgK fx sgP0 e5v = sgK0:=by decide +kernel
theorem f4s : e6j fx sd0 = e82:=by
 unfold e6j sgS
 rw [a_P,d42,a_r,a_k,d41]
 decide +kernel
theorem d43 : okb e5v:=⟨rfl,List.all_eq_true.1 (by decide +kernel : (e5v.all fun x=>inR .u8 x) = true)⟩
theorem f0z : d9c e5v = true:=by unfold d9c;rw [c7j];decide +kernel
def sgKy : List Int:=[12845223308347299634,14551830953460402320,9458529875620425974,136706214894498238]
theorem a_ky : veK fy e5v e82 = sgKy:=by decide +kernel
theorem a_kx : veK fx e5v e82 = sgK0:=by decide +kernel
def sgS0 : List Int:=[1401209727417682792,4741653760790945197,2582708448880953886,275920336573674965]
theorem a_S : veS e82 = sgS0:=by decide +kernel
theorem a_vx : e5x fx e5v e82 = true:=by
 unfold e5x
 rw [f0z,c7n d43 f0z a_kx a_S]
 decide +kernel
theorem a_vy : e5x fy e5v e82 = false:=by
 unfold e5x
 rw [f0z,c7n d43 f0z a_ky a_S]
 decide +kernel
end Go.Proofs.YthelmpjkkkhopaaGreatDoor
namespace Go.Proofs.YthelmpjkkkhopaaGreatDoor
open Go.Ev Go.Wn Go.Mo
set_option maxRecDepth 100000
theorem c9r (b : List Int) : d92 0 ((d8a Tryz.prog qE (deep Tryz.prog qE hE1 400 4) (fun _ _=>none) 400 12 (d7z 0 [.buf false .u8 32 b]) (d87 [.buf false .u8 32 b])).go []) =
  some (List.replicate 5 true, .bool true (d9c b),some (some ⟨false, .ints .u8 (some 32) b⟩)):=by kernel_rfl
theorem d44 (n : Nat) (b : List Int) : d92 0 ((d8a Tryz.prog qE (deep Tryz.prog qE hE1 400 4) (fun _ _=>none) 400 12 (d7z 0 [.buf true .u8 n b]) (d87 [.buf true .u8 n b])).go []) =
  some (List.replicate 4 true ++ [decide (0 + n ≤ n),true, !decide ((n : Int) = 32),decide (n < 9223372036854775808)], .bool false false,some (some ⟨false, .ints .u8 (some n) b⟩)):=by kernel_rfl
theorem d45 : d92 0 ((d8a Tryz.prog qE (deep Tryz.prog qE hE1 400 4) (fun _ _=>none) 400 12 (d7z 0 [.pl .nilslice]) (d87 [.pl .nilslice])).go []) =
  some (List.replicate 5 true, .bool false false,some none):=by kernel_rfl
theorem d46 : d92 0 ((d8a Tryz.prog qE (deep Tryz.prog qE hE1 400 4) (fun _ _=>none) 400 12 (d7z 0 [.empty]) (d87 [.empty])).go []) =
  some (List.replicate 5 true, .bool false false,some none):=by kernel_rfl
def poS : List V → E (AV × Mem)
 | [.buf false .u8 32 b]=>some ([],(.bool true (d9c b),[]))
 | [.buf true .u8 n _]=>some ([!decide ((n : Int) = 32),decide (n < 9223372036854775808)],(.bool false false,[]))
 | [.pl .nilslice]=>some ([],(.bool false false,[]))
 | [.empty]=>some ([],(.bool false false,[]))
 | _=>none
theorem d47 {xs : List V} {o : List Bool} {v : AV} {bs : Mem} (h : poS xs = some (o,(v,bs))) (ho : d7x o) : d7y Tryz.prog 12 xs v bs:=by
 have D:=a8v.deep (q:=qE) mixed d7w 400 4
 unfold poS at h
 split at h
 ·rename_i b
  cases h
  intro ρ vs w ha hi
  exact a0a mixed d7w D (lo1 _) [] 0 (c9r b) (a10 _) rfl rfl rfl rfl ha hi
 ·rename_i n b
  cases h
  intro ρ vs w ha hi
  exact a0a mixed d7w D (lo1 _) [] 0 (d44 n b) (a01.2 ⟨a10 _,a00 (decide_eq_true (by omega)) (a00 rfl ho)⟩) rfl rfl rfl rfl ha hi
 ·cases h
  intro ρ vs w ha hi
  exact a0a mixed d7w D (lo1 _) [] 0 d45 (a10 _) rfl rfl rfl rfl ha hi
 ·cases h
  intro ρ vs w ha hi
  exact a0a mixed d7w D (lo1 _) [] 0 d46 (a10 _) rfl rfl rfl rfl ha hi
 ·cases h
def puV (fp : List Int → List Int) : List V → E (AV × Mem)
 | [.buf false .u8 32 s]=>some ([],(.tuple [.slice false 0 0 32 (some 32) 1, .int false .i64 0],[some ⟨true, .ints .u8 (some 32) (fp s)⟩]))
 | _=>none
def sgV (fs : List Int → List Int → List Int) : List V → E (AV × Mem)
 | [.buf false .u8 32 s, .buf _ .u8 n m]=>some ([decide (n < 9223372036854775808)],(.tuple [.slice false 0 0 64 none 1, .int false .i64 0],[some ⟨true, .ints .u8 (some 64) (fs m s)⟩]))
 | _=>none
def poV (fr : List Int → Bool) : List V → E (AV × Mem)
 | [.buf false .u8 32 b]=>some ([],(.bool true (fr b),[]))
 | _=>none
def veV (fv : List Int → List Int → List Int → Bool) : List V → E (AV × Mem)
 | [.buf false .u8 32 p, .buf _ .u8 n m, .buf false .u8 64 g]=>some ([decide (n < 9223372036854775808)],(.int true .i64 (e4s (fv m p g)),[]))
 | _=>none
def hA (fp : List Int → List Int) (fs : List Int → List Int → List Int) (fr : List Int → Bool) (fv : List Int → List Int → List Int → Bool) : d82:=
 d84 10 (veV fv) (d84 12 (poV fr) (d84 6 (puV fp) (d84 7 (sgV fs) hE1)))
def qAs (_ : FuncId) : Bool:=true
def soO (a b c : Bool) : List Bool:=[true,a,a,a,b,b,b,b,b,true,b,b,c,c,c,c,c,true,c,c]
theorem c9s (fp : List Int → List Int) (fs : List Int → List Int → List Int) (fr : List Int → Bool) (fv : List Int → List Int → List Int → Bool) : res (d81 Tryz.prog qAs (deep Tryz.prog qE (hA fp fs fr fv) 100 5) 200 5 [] []) =
  some (soO ((fp sd0).getD 0 0 == 59) (fr (fp sd0)) (e4s (fv [120] (fp sd0) (fs [120] sd0)) == 0), .bool true (e4s (fv [121] (fp sd0) (fs [120] sd0)) == 6)):=by kernel_rfl
def fsB (m s : List Int) : List Int:=e6j (sgF m) s
def fvB (m p g : List Int) : Bool:=e5x (sgF m) p g
theorem f4t : HOk Tryz.prog (hA e1f fsB d9c fvB):=by
 refine (((a8v.d84 fun xs o v bs h ho => ?_).d84 fun xs o v bs h ho => ?_).d84 fun xs o v bs h ho => ?_).d84 fun xs o v bs h ho => ?_
 ·unfold sgV at h
  split at h
  ·rename_i s b n m;cases h;exact c29 (xs:=[.buf false .u8 32 s, .buf b .u8 n m]) (o:=[decide (n < 9223372036854775808)]) rfl ho
  ·cases h
 ·unfold puV at h
  split at h
  ·rename_i s;cases h;exact d0z (xs:=[.buf false .u8 32 s]) (o:=[]) rfl ho
  ·cases h
 ·unfold poV at h
  split at h
  ·rename_i s;cases h;exact d47 (xs:=[.buf false .u8 32 s]) (o:=[]) rfl ho
  ·cases h
 ·unfold veV at h
  split at h
  ·rename_i p b n m g;cases h;exact c2a (xs:=[.buf false .u8 32 p, .buf b .u8 n m, .buf false .u8 64 g]) (o:=[decide (n < 9223372036854775808)]) rfl ho
  ·cases h
theorem so_f (fp : List Int → List Int) (fs : List Int → List Int → List Int) (fr : List Int → Bool) (fv : List Int → List Int → List Int → Bool) (h1 : fp sd0 = e5v) (h2 : fs [120] sd0 = e82) (h3 : fr e5v = true) (h4 : fv [120] e5v e82 = true) (h5 : fv [121] e5v e82 = false) :
  res (d81 Tryz.prog qAs (deep Tryz.prog qE (hA fp fs fr fv) 100 5) 200 5 [] []) = some (soO true true true, .bool true true):=by
 have h:=c9s fp fs fr fv
 rw [h1,h2,h3,h4,h5] at h
 exact h
theorem b2o {P : Program} {q : FuncId → Bool} {H : d82} (hm : P.follows .mixedOrders = true) (hng : Go.Ev.d7w P = true) (hH : HOk P H) {n : Nat} {g : FuncId} {args : List AV} {b : Bool} {o : List Bool} (hp : args.all d9e = true)
  (h : res (d81 P q H n g args []) = some (o, .bool true b)) (ho : d7x o) : d86 P g args (.bool false b):=
 a2i hm hng hH hp (a89 h ho f0y)
def f2k : List AV → E AV
 | []=>some ([], .bool false true)
 | _=>none
theorem c7o {args : List AV} {o : List Bool} {v : AV} (h : f2k args = some (o,v)) : d86 Tryz.prog 5 args v:=by
 unfold f2k at h
 split at h
 ·cases h
  exact b2o mixed d7w (f4t.deep (q:=qE) mixed d7w 100 5) (by kernel_rfl) (so_f e1f fsB d9c fvB d42 f4s f0z a_vx a_vy) (List.all_eq_true.1 rfl)
 ·cases h
def hE4 : d82:=d8g 5 f2k (d84 12 poS hE3)
theorem c7p : HOk Tryz.prog hE4:=(d5a.d84 fun _ _ _ _ h ho=>d47 h ho).d8g fun _ _ _ h _=>c7o h
end Go.Proofs.YthelmpjkkkhopaaGreatDoor
namespace Go.Proofs.YthelmpjkkkhopaaGreatDoor
open Go.Ev Go.Wn Go.Mo
set_option maxRecDepth 100000
theorem c4i (n : List Int) : e87 n = d8l (limbs (pubI (val n))):=c18 n
theorem b7f (s : List Int) : okb (((sdH s).drop 0).take 32):=by
 refine ⟨?_,fun x hx=>e5_b _ x (List.mem_of_mem_drop (List.mem_of_mem_take hx))⟩
 rw [List.length_take,List.drop_zero,show (sdH s).length = 64 from c81 _]
 rfl
theorem d48 (s : List Int) : ∃ N : Nat,val (sdL s) = (N : Int) ∧ N < 2 ^ 255:=by
 obtain ⟨N,h1,h2,_⟩:=d7b (b7f s)
 refine ⟨N, ?_,h2⟩
 unfold sdL
 rw [(f8q (b7f s).1 (b7f s).2).1,h1]
theorem d49 : (0 : Int) < (L25 : Int):=by decide
theorem d4a (x : Int) : ∃ r : Nat,x % val OL = (r : Int) ∧ r < L25:=by
 rw [b7v]
 have h1:=Int.emod_nonneg x (by have:=d49;omega : (L25 : Int) ≠ 0)
 have h2:=Int.emod_lt_of_pos x d49
 obtain ⟨r,hr⟩:=Int.eq_ofNat_of_zero_le h1
 rw [hr] at h2 ⊢
 exact ⟨r,rfl,by omega⟩
theorem f4u {x : Int} : val (limbs (x % val OL)) = x % val OL:=by
 obtain ⟨r,h1,h2⟩:=d4a x
 rw [h1]
 have h3 : L25 < 115792089237316195423570985008687907853269984665640564039457584007913129639936:=by decide
 exact a2m ⟨by omega,by omega⟩
end Go.Proofs.YthelmpjkkkhopaaGreatDoor
namespace Go.Proofs.YthelmpjkkkhopaaGreatDoor
open Go.Ev
open Go.ChangeShapes Go.WideShapes Go.ChangeAt Go.RowKit
set_option maxRecDepth 100000
theorem own : ownKnob Tryz.prog.godebug = none:=by kernel_rfl
theorem laidOut : laidOutB Tryz.prog = true:=by kernel_rfl
theorem a4n {P : Program} {w : World} {n : String} {g t e fuel N : Nat} {cs : Array Value} {L : List Int} {p : List MemPlace} (hu : P.underlying t = some (.array N e)) (he : P.underlying e = some (.int .u64)) (c1 : P.cellsOf e = 1) (ct : P.cellsOf t = N)
  (hN : L.length = N) (hr : ∀ x ∈ L,inR .u64 x = true) (hg : P.globalNamed n = some g) (hv : w.var? P n = some cs)
  (hd : DataW.trod (fun _=>()) P w 0 (fun _=>true) false fuel t cs.toList = some (.agg (L.map fun z => .lit (.int .u64 z)),p)) :
  ∃ (cs : Array Value) (t : TypeId) (fr : Nat × Nat),w.heap[g]? = some (.cells cs t fr) ∧ N ≤ cs.size ∧ d90 (fun _=>⟨0,0,0⟩) (fun _=>False) (.ints .u64 (some N) L) (fun i=>cs[i]?):=by
 obtain ⟨xs,m,_,ex,hcl,hl,hel⟩:=DataW.trod_array hu hd
 have hh : ∃ t' fr,w.heap[g]? = some (.cells cs t' fr):=by
  simp only [World.var?,hg,Option.bind_some] at hv
  split at hv
  ·rename_i cs' t' fr' hc
   cases hv
   exact ⟨t',fr',hc⟩
  ·cases hv
 obtain ⟨t',fr,hh⟩:=hh
 refine ⟨cs,t',fr,hh,by rw [ct] at hcl;simpa using Nat.le_of_eq hcl.symm,fun m' hm'=>by cases hm';exact hN,fun i x hx => ?_⟩
 obtain ⟨hi,hix⟩:=List.getElem?_eq_some_iff.1 hx
 have hE:=hel i (by omega)
 rw [c1,Nat.mul_one,List.getElem?_eq_getElem (by omega)] at hE
 obtain ⟨z,e1,e2,_⟩:=DataW.trod_int he hE
 have e3 : (xs.map (·.1)) = L.map fun z => .lit (.int .u64 z):=(DataW.agg.inj (Prod.mk.inj ex).1).symm
 have e4 : (xs.map (·.1))[i]? = (L.map fun z=>(DataW.lit (.int .u64 z) : DataW Unit))[i]? := by rw [e3]
 rw [List.getElem?_map,List.getElem?_map,List.getElem?_eq_getElem (by omega : i < xs.length),List.getElem?_eq_getElem hi,e2] at e4
 have hz : z = x:=by
  simp only [Option.map_some,Option.some.injEq,DataW.lit.injEq,Lit.int.injEq,true_and] at e4
  rw [e4,hix]
 subst hz
 refine ⟨?_,hr z (by rw [← hix];exact List.getElem_mem hi)⟩
 have : cs.toList[i]? = some (.int .u64 z):=by
  have h0 : ((cs.toList.drop i).take 1)[0]? = some (.int .u64 z):=by rw [e1];rfl
  simpa using h0
 simpa using this
theorem c19 {P : Program} {w : World} {t e fuel N : Nat} {cs : List Value} {L : List Int} {d : DataW Unit} {p : List MemPlace} (hu : P.underlying t = some (.array N e)) (he : P.underlying e = some (.int .u64)) (c1 : P.cellsOf e = 1) (ct : P.cellsOf t = N)
  (hN : L.length = N) (hd : DataW.trod (fun _=>()) P w 0 (fun _=>true) false fuel t cs = some (d,p)) (hdd : d = .agg (L.map fun z => .lit (.int .u64 z))) : ∀ (i : Nat) (x : Int),L[i]? = some x → cs[i]? = some (Value.int .u64 x):=by
 obtain ⟨xs,m,_,ex,hcl,hl,hel⟩:=DataW.trod_array hu hd
 intro i x hx
 obtain ⟨hi,hix⟩:=List.getElem?_eq_some_iff.1 hx
 have hE:=hel i (by omega)
 rw [c1,Nat.mul_one,List.getElem?_eq_getElem (by omega)] at hE
 obtain ⟨z,e1,e2,_⟩:=DataW.trod_int he hE
 have e3 : (xs.map (·.1)) = L.map fun z => .lit (.int .u64 z):=(DataW.agg.inj ((Prod.mk.inj ex).1.symm.trans hdd))
 have e4 : (xs.map (·.1))[i]? = (L.map fun z=>(DataW.lit (.int .u64 z) : DataW Unit))[i]? := by rw [e3]
 rw [List.getElem?_map,List.getElem?_map,List.getElem?_eq_getElem (by omega : i < xs.length),List.getElem?_eq_getElem hi,e2] at e4
 have hz : z = x:=by
  simp only [Option.map_some,Option.some.injEq,DataW.lit.injEq,Lit.int.injEq,true_and] at e4
  rw [e4,hix]
 subst hz
 have h0 : ((cs.drop i).take 1)[0]? = some (Value.int .u64 z):=by rw [e1];rfl
 simpa using h0
theorem a52 {P : Program} {w : World} {e fuel : Nat} {cs : List Value} {L : List Int} {y : DataW Unit × List MemPlace} {f : Field} {o : Nat} (ho : f.offset = o) (hu : P.underlying f.type = some (.array 4 e)) (he : P.underlying e = some (.int .u64)) (c1 : P.cellsOf e = 1) (ct : P.cellsOf f.type = 4)
  (hN : L.length = 4) (hd : DataW.trod (fun _=>()) P w 0 (fun _=>true) false fuel f.type ((cs.drop f.offset).take (P.cellsOf f.type)) = some y) (hdd : y.1 = .agg (L.map fun z => .lit (.int .u64 z))) : ∀ (i : Nat) (x : Int),L[i]? = some x → cs[o + i]? = some (Value.int .u64 x):=by
 intro i x hx
 obtain ⟨d,p⟩:=y
 have h:=c19 hu he c1 ct hN hd hdd i x hx
 obtain ⟨hi,_⟩:=List.getElem?_eq_some_iff.1 hx
 rw [ct,ho,List.getElem?_take_of_lt (by omega),List.getElem?_drop] at h
 exact h
theorem d4b {P : Program} {w : World} {n : String} {g t e fuel : Nat} {cs : Array Value} {L0 L1 L2 L3 : List Int} {p : List MemPlace} {f0 f1 f2 f3 : Field} (hu : P.underlying t = some (.struct #[f0,f1,f2,f3])) (o0 : f0.offset = 0) (o1 : f1.offset = 4) (o2 : f2.offset = 8) (o3 : f3.offset = 12)
  (u0 : P.underlying f0.type = some (.array 4 e)) (u1 : P.underlying f1.type = some (.array 4 e)) (u2 : P.underlying f2.type = some (.array 4 e)) (u3 : P.underlying f3.type = some (.array 4 e)) (he : P.underlying e = some (.int .u64)) (c1 : P.cellsOf e = 1)
  (k0 : P.cellsOf f0.type = 4) (k1 : P.cellsOf f1.type = 4) (k2 : P.cellsOf f2.type = 4) (k3 : P.cellsOf f3.type = 4) (ct : P.cellsOf t = 16)
  (n0 : L0.length = 4) (n1 : L1.length = 4) (n2 : L2.length = 4) (n3 : L3.length = 4) (hr : ∀ x ∈ L0 ++ L1 ++ L2 ++ L3,inR .u64 x = true) (hg : P.globalNamed n = some g) (hv : w.var? P n = some cs)
  (hd : DataW.trod (fun _=>()) P w 0 (fun _=>true) false fuel t cs.toList = some (.agg [.agg (L0.map fun z => .lit (.int .u64 z)), .agg (L1.map fun z => .lit (.int .u64 z)), .agg (L2.map fun z => .lit (.int .u64 z)), .agg (L3.map fun z => .lit (.int .u64 z))],p)) :
  ∃ (cs : Array Value) (t : TypeId) (fr : Nat × Nat),w.heap[g]? = some (.cells cs t fr) ∧ 16 ≤ cs.size ∧ d90 (fun _=>⟨0,0,0⟩) (fun _=>False) (.ints .u64 (some 16) (L0 ++ L1 ++ L2 ++ L3)) (fun i=>cs[i]?):=by
 obtain ⟨xs,m,_,ex,hcl,hl,hel⟩:=DataW.trod_struct hu hd
 have hh : ∃ t' fr,w.heap[g]? = some (.cells cs t' fr):=by
  simp only [World.var?,hg,Option.bind_some] at hv
  split at hv
  ·rename_i cs' t' fr' hc
   cases hv
   exact ⟨t',fr',hc⟩
  ·cases hv
 obtain ⟨t',fr,hh⟩:=hh
 match xs,hl with
 | [y0,y1,y2,y3],_ =>
  have ey:=DataW.agg.inj (Prod.mk.inj ex).1
  simp only [List.map_cons,List.map_nil,List.cons.injEq,and_true] at ey
  obtain ⟨e0,e1,e2,e3⟩:=ey
  have h0:=a52 o0 u0 he c1 k0 n0 (hel 0 f0 rfl) e0.symm
  have h1:=a52 o1 u1 he c1 k1 n1 (hel 1 f1 rfl) e1.symm
  have h2:=a52 o2 u2 he c1 k2 n2 (hel 2 f2 rfl) e2.symm
  have h3:=a52 o3 u3 he c1 k3 n3 (hel 3 f3 rfl) e3.symm
  refine ⟨cs,t',fr,hh,by rw [ct] at hcl;simpa using Nat.le_of_eq hcl.symm,fun m' hm'=>by cases hm';simp [n0,n1,n2,n3],fun i x hx => ?_⟩
  obtain ⟨hi,hix⟩:=List.getElem?_eq_some_iff.1 hx
  refine ⟨?_,hr x (by rw [← hix];exact List.getElem_mem hi)⟩
  show cs[i]? = some (Value.int .u64 x)
  have key : cs.toList[i]? = some (Value.int .u64 x):=by
   have hlen : (L0 ++ L1 ++ L2 ++ L3).length = 16:=by simp [n0,n1,n2,n3]
   have l2 : (L0 ++ L1 ++ L2).length = 12:=by simp [n0,n1,n2]
   have l1 : (L0 ++ L1).length = 8:=by simp [n0,n1]
   by_cases c3 : i < 12
   ·rw [List.getElem?_append_left (by omega)] at hx
    by_cases c2 : i < 8
    ·rw [List.getElem?_append_left (by omega)] at hx
     by_cases c0 : i < 4
     ·rw [List.getElem?_append_left (by omega)] at hx
      have:=h0 i x hx
      rwa [Nat.zero_add] at this
     ·rw [List.getElem?_append_right (by omega),n0] at hx
      have:=h1 (i - 4) x hx
      rwa [show 4 + (i - 4) = i by omega] at this
    ·rw [List.getElem?_append_right (by omega),l1] at hx
     have:=h2 (i - 8) x hx
     rwa [show 8 + (i - 8) = i by omega] at this
   ·rw [List.getElem?_append_right (by omega),l2] at hx
    have:=h3 (i - 12) x hx
    rwa [show 12 + (i - 12) = i by omega] at this
  simpa using key
theorem c9t : (Rows.laid_cartouche_sha2_cubeRoots : DataW Unit) = .agg (d9k.map fun z => .lit (.int .u64 z)):=by kernel_rfl
theorem c9u : (Rows.laid_cartouche_sha2_squareRoots : DataW Unit) = .agg (e2g.map fun z => .lit (.int .u64 z)):=by kernel_rfl
theorem c9v : (Rows.laid_cartouche_edwards_prime : DataW Unit) = .agg (e0f.map fun z => .lit (.int .u64 z)):=by kernel_rfl
theorem c9w : (Rows.laid_cartouche_edwards_order : DataW Unit) = .agg (e00.map fun z => .lit (.int .u64 z)):=by kernel_rfl
theorem c9x : (Rows.laid_cartouche_edwards_d : DataW Unit) = .agg (dL.map fun z => .lit (.int .u64 z)):=by kernel_rfl
theorem c9y : (Rows.laid_cartouche_edwards_twiceD : DataW Unit) = .agg (e74.map fun z => .lit (.int .u64 z)):=by kernel_rfl
theorem c9z : (Rows.laid_cartouche_edwards_eighth : DataW Unit) = .agg (e0q.map fun z => .lit (.int .u64 z)):=by kernel_rfl
theorem d00 : (Rows.laid_cartouche_edwards_imaginary : DataW Unit) = .agg (e75.map fun z => .lit (.int .u64 z)):=by kernel_rfl
def bs0 : List Int:=e2h.take 4
def bs1 : List Int:=(e2h.drop 4).take 4
def bs2 : List Int:=(e2h.drop 8).take 4
def bs3 : List Int:=(e2h.drop 12).take 4
theorem d01 : (Rows.laid_cartouche_edwards_base : DataW Unit) = .agg [.agg (bs0.map fun z => .lit (.int .u64 z)), .agg (bs1.map fun z => .lit (.int .u64 z)), .agg (bs2.map fun z => .lit (.int .u64 z)), .agg (bs3.map fun z => .lit (.int .u64 z))]:=by kernel_rfl
theorem d4c : bs0 ++ bs1 ++ bs2 ++ bs3 = e2h:=by decide +kernel
theorem c1a {W : World} (h : laidMetH Tryz.prog Rows.edwardsSignsRow.laid W) : e4r W:=by
 rw [MakeChecks.laidMetH_plain _ _ _ (by kernel_rfl)] at h
 obtain ⟨ps,⟨g0,t0,cs0,f0,p0,q0,hg0,ht0,hv0,hd0,⟨g1,t1,cs1,f1,p1,q1,hg1,ht1,hv1,hd1,⟨g2,t2,cs2,f2,p2,q2,hg2,ht2,hv2,hd2,⟨g3,t3,cs3,f3,p3,q3,hg3,ht3,hv3,hd3,⟨g4,t4,cs4,f4,p4,q4,hg4,ht4,hv4,hd4,⟨g5,t5,cs5,f5,p5,q5,hg5,ht5,hv5,hd5,⟨g6,t6,cs6,f6,p6,q6,hg6,ht6,hv6,hd6,⟨g7,t7,cs7,f7,p7,q7,hg7,ht7,hv7,hd7,⟨g8,t8,cs8,f8,p8,q8,hg8,ht8,hv8,hd8,_,_⟩,_⟩,_⟩,_⟩,_⟩,_⟩,_⟩,_⟩,_⟩,_,_⟩:=h
 have hT0 : (Tryz.prog.globals[10]?).map (·.type) = some 111:=by kernel_rfl
 obtain rfl : g0 = 10:=Option.some.inj (hg0.symm.trans (by kernel_rfl))
 obtain rfl:=Option.some.inj (hT0.symm.trans ht0)
 rw [c9t] at hd0
 have k0:=a4n (L:=d9k) Tryz.underlying111 Tryz.underlying38 (by kernel_rfl) (by kernel_rfl) (by kernel_rfl) (List.all_eq_true.1 (by kernel_rfl : (d9k.all fun x=>inR .u64 x) = true)) hg0 hv0 hd0
 have hT1 : (Tryz.prog.globals[7]?).map (·.type) = some 83:=by kernel_rfl
 obtain rfl : g1 = 7:=Option.some.inj (hg1.symm.trans (by kernel_rfl))
 obtain rfl:=Option.some.inj (hT1.symm.trans ht1)
 rw [c9u] at hd1
 have k1:=a4n (L:=e2g) Tryz.underlying83 Tryz.underlying38 (by kernel_rfl) (by kernel_rfl) (by kernel_rfl) (List.all_eq_true.1 (by kernel_rfl : (e2g.all fun x=>inR .u64 x) = true)) hg1 hv1 hd1
 have hT2 : (Tryz.prog.globals[2]?).map (·.type) = some 40:=by kernel_rfl
 obtain rfl : g2 = 2:=Option.some.inj (hg2.symm.trans (by kernel_rfl))
 obtain rfl:=Option.some.inj (hT2.symm.trans ht2)
 rw [c9v] at hd2
 have k2:=a4n (L:=e0f) Tryz.underlying40 Tryz.underlying38 (by kernel_rfl) (by kernel_rfl) (by kernel_rfl) (List.all_eq_true.1 (by kernel_rfl : (e0f.all fun x=>inR .u64 x) = true)) hg2 hv2 hd2
 have hT3 : (Tryz.prog.globals[1]?).map (·.type) = some 40:=by kernel_rfl
 obtain rfl : g3 = 1:=Option.some.inj (hg3.symm.trans (by kernel_rfl))
 obtain rfl:=Option.some.inj (hT3.symm.trans ht3)
 rw [c9w] at hd3
 have k3:=a4n (L:=e00) Tryz.underlying40 Tryz.underlying38 (by kernel_rfl) (by kernel_rfl) (by kernel_rfl) (List.all_eq_true.1 (by kernel_rfl : (e00.all fun x=>inR .u64 x) = true)) hg3 hv3 hd3
 have hT4 : (Tryz.prog.globals[4]?).map (·.type) = some 40:=by kernel_rfl
 obtain rfl : g4 = 4:=Option.some.inj (hg4.symm.trans (by kernel_rfl))
 obtain rfl:=Option.some.inj (hT4.symm.trans ht4)
 rw [c9x] at hd4
 have k4:=a4n (L:=dL) Tryz.underlying40 Tryz.underlying38 (by kernel_rfl) (by kernel_rfl) (by kernel_rfl) (List.all_eq_true.1 (by kernel_rfl : (dL.all fun x=>inR .u64 x) = true)) hg4 hv4 hd4
 have hT5 : (Tryz.prog.globals[3]?).map (·.type) = some 40:=by kernel_rfl
 obtain rfl : g5 = 3:=Option.some.inj (hg5.symm.trans (by kernel_rfl))
 obtain rfl:=Option.some.inj (hT5.symm.trans ht5)
 rw [c9y] at hd5
 have k5:=a4n (L:=e74) Tryz.underlying40 Tryz.underlying38 (by kernel_rfl) (by kernel_rfl) (by kernel_rfl) (List.all_eq_true.1 (by kernel_rfl : (e74.all fun x=>inR .u64 x) = true)) hg5 hv5 hd5
 have hT6 : (Tryz.prog.globals[5]?).map (·.type) = some 40:=by kernel_rfl
 obtain rfl : g6 = 5:=Option.some.inj (hg6.symm.trans (by kernel_rfl))
 obtain rfl:=Option.some.inj (hT6.symm.trans ht6)
 rw [c9z] at hd6
 have k6:=a4n (L:=e0q) Tryz.underlying40 Tryz.underlying38 (by kernel_rfl) (by kernel_rfl) (by kernel_rfl) (List.all_eq_true.1 (by kernel_rfl : (e0q.all fun x=>inR .u64 x) = true)) hg6 hv6 hd6
 have hT7 : (Tryz.prog.globals[6]?).map (·.type) = some 40:=by kernel_rfl
 obtain rfl : g7 = 6:=Option.some.inj (hg7.symm.trans (by kernel_rfl))
 obtain rfl:=Option.some.inj (hT7.symm.trans ht7)
 rw [d00] at hd7
 have k7:=a4n (L:=e75) Tryz.underlying40 Tryz.underlying38 (by kernel_rfl) (by kernel_rfl) (by kernel_rfl) (List.all_eq_true.1 (by kernel_rfl : (e75.all fun x=>inR .u64 x) = true)) hg7 hv7 hd7
 have hT8 : (Tryz.prog.globals[0]?).map (·.type) = some 46:=by kernel_rfl
 obtain rfl : g8 = 0:=Option.some.inj (hg8.symm.trans (by kernel_rfl))
 obtain rfl:=Option.some.inj (hT8.symm.trans ht8)
 rw [d01] at hd8
 have k8:=d4b (e:=38) Tryz.underlying46 rfl rfl rfl rfl (by kernel_rfl) (by kernel_rfl) (by kernel_rfl) (by kernel_rfl) Tryz.underlying38 (by kernel_rfl) (by kernel_rfl) (by kernel_rfl) (by kernel_rfl) (by kernel_rfl) (by kernel_rfl) (by kernel_rfl) (by kernel_rfl) (by kernel_rfl) (by kernel_rfl) (List.all_eq_true.1 (by kernel_rfl : ((bs0 ++ bs1 ++ bs2 ++ bs3).all fun x=>inR .u64 x) = true)) hg8 hv8 hd8
 rw [d4c] at k8
 intro G c hG
 have hG' : (match Nat.beq G 10 with
  | true=>some (Cells.ints .u64 (some 80) d9k)
  | false=>match Nat.beq G 7 with
  | true=>some (Cells.ints .u64 (some 16) e2g)
  | false=>match Nat.beq G 2 with
  | true=>some (Cells.ints .u64 (some 4) e0f)
  | false=>match Nat.beq G 1 with
  | true=>some (Cells.ints .u64 (some 4) e00)
  | false=>match Nat.beq G 4 with
  | true=>some (Cells.ints .u64 (some 4) dL)
  | false=>match Nat.beq G 3 with
  | true=>some (Cells.ints .u64 (some 4) e74)
  | false=>match Nat.beq G 5 with
  | true=>some (Cells.ints .u64 (some 4) e0q)
  | false=>match Nat.beq G 6 with
  | true=>some (Cells.ints .u64 (some 4) e75)
  | false=>match Nat.beq G 0 with
  | true=>some (Cells.ints .u64 (some 16) e2h)
  | false=>none) = some c:=hG
 split at hG'
 ·rename_i hb
  obtain rfl:=Nat.eq_of_beq_eq_true hb
  cases hG'
  exact k0
 ·skip
  split at hG'
  ·rename_i hb
   obtain rfl:=Nat.eq_of_beq_eq_true hb
   cases hG'
   exact k1
  ·skip
   split at hG'
   ·rename_i hb
    obtain rfl:=Nat.eq_of_beq_eq_true hb
    cases hG'
    exact k2
   ·skip
    split at hG'
    ·rename_i hb
     obtain rfl:=Nat.eq_of_beq_eq_true hb
     cases hG'
     exact k3
    ·skip
     split at hG'
     ·rename_i hb
      obtain rfl:=Nat.eq_of_beq_eq_true hb
      cases hG'
      exact k4
     ·skip
      split at hG'
      ·rename_i hb
       obtain rfl:=Nat.eq_of_beq_eq_true hb
       cases hG'
       exact k5
      ·skip
       split at hG'
       ·rename_i hb
        obtain rfl:=Nat.eq_of_beq_eq_true hb
        cases hG'
        exact k6
       ·skip
        split at hG'
        ·rename_i hb
         obtain rfl:=Nat.eq_of_beq_eq_true hb
         cases hG'
         exact k7
        ·skip
         split at hG'
         ·rename_i hb
          obtain rfl:=Nat.eq_of_beq_eq_true hb
          cases hG'
          exact k8
         ·cases hG'
end Go.Proofs.YthelmpjkkkhopaaGreatDoor
namespace Go.Ev
variable [Tab]
open Go.ChangeShapes Go.WideShapes Go.ChangeAt Go.RowKit
section
variable {P : Program} {q : FuncId → Bool} {H : d82} {Λ : d8r}
end
end Go.Ev
