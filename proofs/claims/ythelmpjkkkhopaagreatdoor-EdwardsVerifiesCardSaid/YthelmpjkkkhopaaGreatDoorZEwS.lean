/- The reference of layer 9: powers: the loop as a family, Inv's contract. Own work. -/
import Derived.Test.YthelmpjkkkhopaaGreatDoorZMrE0
import Derived.Test.YthelmpjkkkhopaaGreatDoorZEvLawN
import Derived.Test.YthelmpjkkkhopaaGreatDoorZEvNone
set_option linter.unusedSimpArgs false
set_option linter.unusedVariables false
set_option linter.unusedSectionVars false
namespace Go.Mo
open Go.Ev Go.Wn
def fP (x : Int) (n : Nat) : Int:=x ^ n % pN
theorem d5b : 0 < pN:=by decide
theorem b7w (x : Int) (n : Nat) : 0 ≤ fP x n ∧ fP x n < pN:=⟨Int.emod_nonneg _ (by decide),Int.emod_lt_of_pos _ d5b⟩
theorem d5c {x : Int} (h : 0 ≤ x ∧ x < pN) : vl x = x:=a2m ⟨h.1,by unfold pN at h;omega⟩
theorem c83 (x : Int) (m n : Nat) : nM (fP x m) (fP x n) = fP x (m + n):=by
 unfold nM
 rw [d5c (b7w _ _),d5c (b7w _ _)]
 unfold fP
 rw [← Int.mul_emod, ← Int.pow_add]
def pwQ (e : List Int) (i : Int) : Int:=d88 .u64 (e.getD (0 + (IntKind.i64.wrap (i.tdiv 64)).toNat * 1) 0) (i.tmod 64)
def pwO (e : List Int) (i : Int) (b : Bool) : List Bool:=[decide (i < 256),decide (0 ≤ IntKind.i64.wrap (i.tdiv 64)) && decide (IntKind.i64.wrap (i.tdiv 64) < ((4 : Nat) : Int)),decide (0 + (IntKind.i64.wrap (i.tdiv 64)).toNat * 1 + 1 ≤ 4), !decide (i.tmod 64 < 0),b]
theorem c84 {e : List Int} (h : limbs (val e) = e) {i : Nat} (hi : i < 256) : ((pwQ e i).tmod 2 == 1) = decide (val e / 2 ^ i % 2 = 1) ∧ ∀ b,b = true → d7x (pwO e i b):=by
 obtain ⟨a0,a1,a2,a3,rfl,w0,w1,w2,w3⟩:=a3w h
 have hb:=a6u w0 w1 w2 w3 (k:=i) (by omega)
 have e1 : ((i : Int)).tdiv 64 = ((i / 64 : Nat) : Int):=by rw [Int.tdiv_eq_ediv_of_nonneg (by omega)];omega
 have e2 : ((i : Int)).tmod 64 = ((i % 64 : Nat) : Int):=by rw [Int.tmod_eq_emod_of_nonneg (by omega)];omega
 have e3 : IntKind.i64.wrap (((i / 64 : Nat) : Int)) = ((i / 64 : Nat) : Int):=by
  have:=a28 (x:=((i / 64 : Nat) : Int)) (by omega)
  exact this
 refine ⟨?_,fun b hbt => ?_⟩
 ·have hq : f1l [a0,a1,a2,a3] i = d98 .u64 (pwQ [a0,a1,a2,a3] i) 1:=rfl
  have hW : W (pwQ [a0,a1,a2,a3] i):=by
   unfold pwQ
   rw [e1,e2,e3]
   have hx : ∀ j,W (([a0,a1,a2,a3] : List Int).getD j 0):=fun j=>by
    have z : W 0:=by unfold W;omega
    rcases j with _ | _ | _ | _ | j
    ·exact w0
    ·exact w1
    ·exact w2
    ·exact w3
    ·simpa using z
   have hj:=hx (0 + ((i / 64 : Nat) : Int).toNat * 1)
   generalize ([a0,a1,a2,a3] : List Int).getD (0 + ((i / 64 : Nat) : Int).toNat * 1) 0 = x at *
   rw [a2c (by simp [IntKind.bits];omega)]
   have hp : (0 : Int) < 2 ^ (i % 64):=Int.pow_pos (by omega)
   unfold W at *
   exact ⟨Int.ediv_nonneg hj.1 (by omega),Int.lt_of_le_of_lt (Int.ediv_le_self _ hj.1) hj.2⟩
  rw [hq,a7r hW] at hb
  rw [← hb,Int.tmod_eq_emod_of_nonneg hW.1]
  by_cases h1 : pwQ [a0,a1,a2,a3] i % 2 = 1
  ·rw [decide_eq_true h1,h1];rfl
  ·rw [decide_eq_false h1]
   simpa using h1
 ·unfold pwO
  rw [e1,e2,e3]
  exact a00 (decide_eq_true (by omega)) (a00 (by rw [decide_eq_true (by omega),decide_eq_true (by omega)];rfl) (a00 (decide_eq_true (by omega)) (a00 (by rw [decide_eq_false (by omega)];rfl) (a00 hbt d7x.nil))))
end Go.Mo
namespace Go.Proofs.YthelmpjkkkhopaaGreatDoor
open Go.Ev Go.Wn Go.Mo
set_option maxRecDepth 100000
theorem pw_1 (w : Nat → AV) (s : PwS) : d8p e8u ((d8d Tryz.prog qn (deep Tryz.prog qn hr2 100 3) (fun _ _=>none) 100 (lp (blk 0 (d80 Tryz.prog 103))) ⟨d8m (ups w (d8o e8u (pwV s))) 28,pwM s⟩).go [true,true]) =
  some (pwO s.e s.i ((pwQ s.e s.i).tmod 2 == 1),0,pwV { s with i:=IntKind.i64.wrap (s.i + 1) },28,pwM { s with A:=nM s.A s.A,R:=nM s.R s.A }):=by
 obtain ⟨a0,e,A,R,i⟩:=s
 kernel_rfl
theorem pw_0 (w : Nat → AV) (s : PwS) : d8p e8u ((d8d Tryz.prog qn (deep Tryz.prog qn hr2 100 3) (fun _ _=>none) 100 (lp (blk 0 (d80 Tryz.prog 103))) ⟨d8m (ups w (d8o e8u (pwV s))) 28,pwM s⟩).go [true,false]) =
  some (pwO s.e s.i (!((pwQ s.e s.i).tmod 2 == 1)),0,pwV { s with i:=IntKind.i64.wrap (s.i + 1) },28,pwM { s with A:=nM s.A s.A }):=by
 obtain ⟨a0,e,A,R,i⟩:=s
 kernel_rfl
theorem pw_f (w : Nat → AV) (s : PwS) : d8p e8u ((d8d Tryz.prog qn (deep Tryz.prog qn hr2 100 3) (fun _ _=>none) 100 (lp (blk 0 (d80 Tryz.prog 103))) ⟨d8m (ups w (d8o e8u (pwV s))) 28,pwM s⟩).go [false]) =
  some ([!decide (s.i < 256)],2,pwV s,28,pwM s):=by
 obtain ⟨a0,e,A,R,i⟩:=s
 kernel_rfl
def pwP : List AV → Mem → Option (PwS × List Bool)
 | [.ptr false 2 0, .ptr false 3 0, .ptr false 4 0, .ptr false 5 0, .int false .i64 i],[none,none,some ⟨true, .ints .u64 (some 4) a⟩,some ⟨true, .ints .u64 (some 4) e⟩,some ⟨true, .ints .u64 (some 4) z⟩,some ⟨true, .ints .u64 (some 4) r⟩] =>
  some (⟨a,e,val a,1,0⟩,[decide (i = 0),decide (z = [0,0,0,0]),decide (r = limbs 1),decide (limbs (val e) = e),decide (a = limbs (val a)),decide (0 ≤ val a),decide (val a < pN)])
 | _,_=>none
def pwF (p : PwS × List Bool) : List (Nat × AV) × Mem:=([(2, .ptr false 2 0),(4, .ptr false 4 0),(5, .ptr false 5 0)],pwM { p.1 with A:=fP p.1.A (2 ^ 256),R:=fP p.1.A (val p.1.e).toNat })
def pwJ (p s : PwS × List Bool) : Prop:=limbs (val p.1.e) = p.1.e ∧ 0 ≤ p.1.A ∧ p.1.A < pN ∧ ∃ j : Nat,j ≤ 256 ∧ s.1 = { p.1 with A:=fP p.1.A (2 ^ j),R:=fP p.1.A ((val p.1.e).toNat % 2 ^ j),i:=(j : Int) }
theorem d5d {Λ : d8r} (hΛ : LOk Tryz.prog (d80 Tryz.prog 103) Λ) : LOk Tryz.prog (d80 Tryz.prog 103) (e0p 0 28 e8u pwP (fun p=>p.2) pwF Λ):=by
 refine a29 (q:=qn) (n:=100) (fun p : PwS × List Bool=>pwV p.1) (fun p=>pwM p.1) pwJ (fun s=>256 - s.1.i.toNat) mixed (c2o.deep (q:=qn) mixed d7w 100 3) hΛ LOk.none (by kernel_rfl) (by kernel_rfl) (fun s=>rfl) (fun s=>rfl) (fun avs mm p h ho => ?_) (fun p s hJ w => ?_)
 ·unfold pwP at h
  split at h
  ·rename_i i a e z r
   cases h
   have p0:=f9c (ho _ (f9b ..))
   have p1:=f9c (ho _ (f9a _ (f9b ..)))
   have p2:=f9c (ho _ (f9a _ (f9a _ (f9b ..))))
   have p3:=f9c (ho _ (f9a _ (f9a _ (f9a _ (f9b ..)))))
   have p4:=f9c (ho _ (f9a _ (f9a _ (f9a _ (f9a _ (f9b ..))))))
   have p5:=f9c (ho _ (f9a _ (f9a _ (f9a _ (f9a _ (f9a _ (f9b ..)))))))
   have p6:=f9c (ho _ (f9a _ (f9a _ (f9a _ (f9a _ (f9a _ (f9a _ (f9b ..))))))))
   refine ⟨(⟨a,e,val a,1,0⟩,[]), ?_, ?_,p3,p5,p6,0,Nat.zero_le _, ?_⟩
   ·rw [p0]
    exact .cons (.refl _) (.cons (.refl _) (.cons (.refl _) (.cons (.refl _) (.cons (.int _ _ _) .nil))))
   ·rw [p1,p2]
    unfold pwM
    simp only
    rw [← p4]
   ·unfold fP
    rw [Nat.pow_zero,Nat.mod_one,Int.pow_zero]
    have e1 : (1 : Int) % pN = 1:=by decide
    rw [e1,show val a ^ 1 % pN = val a by rw [Int.pow_succ,Int.pow_zero,Int.one_mul];exact Int.emod_eq_of_lt p5 p6]
    rfl
  ·cases h
 ·obtain ⟨h1,h2,h3,j,hj,hs⟩:=hJ
  obtain ⟨⟨a0,e,A,R,i⟩,pb⟩:=p
  obtain ⟨s,sb⟩:=s
  simp only at h1 h2 h3 hs
  subst hs
  by_cases hend : j = 256
  ·subst hend
   have hE : (val e).toNat % 2 ^ 256 = (val e).toNat:=by
    obtain ⟨e0,e1,e2,e3,he,w0,w1,w2,w3⟩:=a3w h1
    have hr : 0 ≤ val e ∧ val e < 115792089237316195423570985008687907853269984665640564039457584007913129639936:=by rw [he];exact a08 w0 w1 w2 w3
    exact Nat.mod_eq_of_lt (by omega)
   refine Round.out (pw_f w _) rfl ?_ (a00 rfl d7x.nil) fun q hq => ?_
   ·unfold pwF
    simp only
    rw [hE]
    rfl
   ·simp only [pwF,List.mem_cons,List.not_mem_nil,or_false] at hq
    rcases hq with rfl | rfl | rfl
    ·exact ⟨_,f9b .., .refl _⟩
    ·exact ⟨_,f9a _ (f9a _ (f9b ..)), .refl _⟩
    ·exact ⟨_,f9a _ (f9a _ (f9a _ (f9b ..))), .refl _⟩
  ·have hlt : j < 256:=by omega
   obtain ⟨hb,hd⟩:=c84 h1 hlt
   have hw : IntKind.i64.wrap ((j : Int) + 1) = ((j + 1 : Nat) : Int):=by
    have:=a28 (x:=(j : Int) + 1) (by omega)
    unfold w64 at this
    rw [this];omega
   have hE : 0 ≤ val e:=by
    obtain ⟨e0,e1,e2,e3,he,w0,w1,w2,w3⟩:=a3w h1
    rw [he];exact (a08 w0 w1 w2 w3).1
   have hA : nM (fP A (2 ^ j)) (fP A (2 ^ j)) = fP A (2 ^ (j + 1)):=by rw [c83,Nat.pow_succ,Nat.mul_two]
   have hm : (val e).toNat % 2 ^ (j + 1) = (val e).toNat % 2 ^ j + 2 ^ j * ((val e).toNat / 2 ^ j % 2):=by
    rw [Nat.pow_succ,Nat.mod_mul]
   have hbn : (val e / 2 ^ j % 2 = 1) ↔ (val e).toNat / 2 ^ j % 2 = 1:=by
    obtain ⟨n,hn⟩:=Int.eq_ofNat_of_zero_le hE
    rw [hn,Int.toNat_natCast]
    have : ((n : Int) / 2 ^ j % 2) = ((n / 2 ^ j % 2 : Nat) : Int):=by rw [Int.natCast_emod,Int.natCast_ediv,Int.natCast_pow];rfl
    rw [this]
    omega
   by_cases h : val e / 2 ^ j % 2 = 1
   ·have hN:=hbn.1 h
    rw [decide_eq_true h] at hb
    refine Round.on (pw_1 w ⟨a0,e,_,_,j⟩) (⟨a0,e,fP A (2 ^ (j + 1)),fP A ((val e).toNat % 2 ^ (j + 1)),((j + 1 : Nat) : Int)⟩,sb) [] ?_ (hd _ hb) ?_ ⟨h1,h2,h3,j + 1,by omega,rfl⟩ rfl (by simp only;omega)
    ·simp only [List.append_nil]
     rw [hA,c83,hm,hN,Nat.mul_one]
     rfl
    ·simp only [hw]
     exact LeL.refl _
   ·have hN : (val e).toNat / 2 ^ j % 2 = 0:=by
     have : ¬ (val e).toNat / 2 ^ j % 2 = 1:=fun h2=>h (hbn.2 h2)
     omega
    rw [decide_eq_false h] at hb
    refine Round.on (pw_0 w ⟨a0,e,_,_,j⟩) (⟨a0,e,fP A (2 ^ (j + 1)),fP A ((val e).toNat % 2 ^ (j + 1)),((j + 1 : Nat) : Int)⟩,sb) [] ?_ (hd _ (by rw [hb];rfl)) ?_ ⟨h1,h2,h3,j + 1,by omega,rfl⟩ rfl (by simp only;omega)
    ·simp only [List.append_nil]
     rw [hA,hm,hN,Nat.mul_zero,Nat.add_zero]
     rfl
    ·simp only [hw]
     exact LeL.refl _
end Go.Proofs.YthelmpjkkkhopaaGreatDoor
namespace Go.Proofs.YthelmpjkkkhopaaGreatDoor
open Go.Ev Go.Wn Go.Mo
set_option maxRecDepth 100000
def powS : List V → E (AV × Mem)
 | [.pl (.ints .u64 4 a), .pl (.ints .u64 4 e)]=>some ([decide (limbs (val e) = e),decide (val a < pN)],(.ints .u64 4 (limbs (fP (val a) (val e).toNat)),[]))
 | _=>none
def rpO (a e : List Int) : List Bool:=[decide ((0 : Int) = 0),true,true,decide (limbs (val e) = e),decide (a = limbs (val a)),decide (0 ≤ val a),decide (val a < pN)]
theorem d1a (a e : List Int) : res (d8a Tryz.prog qn (deep Tryz.prog qn hr2 100 3) (e0p 0 28 e8u pwP (fun p=>p.2) pwF (fun _ _=>none)) 100 103 (d7z 0 [.pl (.ints .u64 4 a), .pl (.ints .u64 4 e)]) (d87 [.pl (.ints .u64 4 a), .pl (.ints .u64 4 e)])) =
  some (rpO a e, .ints .u64 4 (limbs (fP (val a) (val e).toNat))):=by kernel_rfl
theorem c2b {xs : List V} {o : List Bool} {v : AV} {bs : Mem} (h : powS xs = some (o,(v,bs))) (ho : d7x o) : d7y Tryz.prog 103 xs v bs:=by
 unfold powS at h
 split at h
 ·rename_i a e
  cases h
  have h1:=ho _ (f9b ..)
  have h2:=ho _ (f9a _ (f9b ..))
  intro ρ vs w ha hi
  have hb:=ha
  cases hb with
  | cons _ _ _ _ r0 hb =>
   obtain ⟨a0,a1,a2,a3,ea,w0,w1,w2,w3⟩:=a0g r0
   have hr : 0 ≤ val a:=by rw [ea];exact (a08 w0 w1 w2 w3).1
   have hl : a = limbs (val a):=by rw [ea];exact (a3j w0 w1 w2 w3).symm
   refine a3b mixed d7w (c2o.deep (q:=qn) mixed d7w 100 3) (fun fn c hf hb=>by rw [a0r hf hb];exact d5d LOk.none) (d1a a e) ?_ rfl (by kernel_rfl) ha hi
   exact a00 (decide_eq_true rfl) (a00 rfl (a00 rfl (a00 h1 (a00 (decide_eq_true hl) (a00 (decide_eq_true hr) (a00 h2 d7x.nil))))))
 ·cases h
def hr3 : d82:=d84 103 powS hr2
theorem c85 : HOk Tryz.prog hr3:=c2o.d84 fun _ _ _ _ h ho=>c2b h ho
def f5s : List AV → E AV
 | [.ints .u64 4 a]=>some ([decide (val a < pN)], .ints .u64 4 (limbs (fP (val a) pE)))
 | _=>none
theorem d1b (a : List Int) : res (d81 Tryz.prog qn (deep Tryz.prog qn hr3 100 3) 100 92 [.ints .u64 4 a] []) =
  some ([true,decide (val a < pN)], .ints .u64 4 (limbs (fP (val a) (val (limbs (val PN - val [2,0,0,0]))).toNat))):=by kernel_rfl
theorem d1c {args : List AV} {o : List Bool} {v : AV} (h : f5s args = some (o,v)) (ho : d7x o) : d86 Tryz.prog 92 args v:=by
 unfold f5s at h
 split at h
 ·rename_i a
  cases h
  have ev:=d1b a
  rw [show (val (limbs (val PN - val [2,0,0,0]))).toNat = pE by decide +kernel] at ev
  intro ρ N vs ha
  exact a0b mixed d7w (c85.deep (q:=qn) mixed d7w 100 3) (by kernel_rfl) ev (a00 rfl ho) rfl (by kernel_rfl) ha
 ·cases h
def hr4 : d82:=d8g 92 f5s hr3
theorem c2c : HOk Tryz.prog hr4:=c85.d8g fun _ _ _ h ho=>d1c h ho
end Go.Proofs.YthelmpjkkkhopaaGreatDoor
namespace Go.Mo
open Go.Ev Go.Wn
theorem a8y : pN = val PL:=vPL.symm
def rX (w : Int) : Int:=if mI (fR w) (fR w) = w then fR w else mI (fR w) iI
def rK (w : Int) : Bool:=decide (mI (rX w) (rX w) = w)
theorem d1d (n : Nat) {e : Nat} (he : e < 2 ^ 256) : fP (n : Int) e = ((pw 57896044618658097711785492504343953926634992332820282019728792003956564819949 256 n e 1 : Nat) : Int):=c0p n he
end Go.Mo
namespace Go.Proofs.YthelmpjkkkhopaaGreatDoor
open Go.Ev Go.Wn Go.Mo
set_option maxRecDepth 100000
def iL : List Int:=[14190309331451158704,3405592160176694392,3120150775007532967,3135389899092516619]
def e4c : List Int:=[18446744073709551611,18446744073709551615,18446744073709551615,2305843009213693951]
def v66 : List Int:=[8496970652267935908,31536524315187371,10144147576115030168,5909686906226998899]
theorem f5t : limbs (fP (val [2,0,0,0]) (val e4c).toNat) = iL:=by
 have h : (val e4c).toNat < 2 ^ 256:=by decide +kernel
 rw [show val [2,0,0,0] = ((2 : Nat) : Int) from rfl,d1d 2 h]
 decide +kernel
theorem i_66 : limbs (fP (val [121666,0,0,0]) pE) = v66:=by
 have h : pE < 2 ^ 256:=by decide +kernel
 rw [show val [121666,0,0,0] = ((121666 : Nat) : Int) from rfl,d1d 121666 h]
 decide +kernel
def f5u : List V → E (AV × Mem)
 | [.pl (.ints .u64 4 a), .pl (.ints .u64 4 e)]=>match decide (e = e4c) with
  | true=>some ([decide (a = [2,0,0,0])],(.ints .u64 4 iL,[]))
  | false=>none
 | _=>none
theorem d5e {xs : List V} {o : List Bool} {v : AV} {bs : Mem} (h : f5u xs = some (o,(v,bs))) (ho : d7x o) : d7y Tryz.prog 103 xs v bs:=by
 unfold f5u at h
 split at h
 ·rename_i a e
  split at h
  ·rename_i he
   cases h
   have he':=f9c he
   have ha:=f9c (ho _ (f9b ..))
   subst he' ha
   rw [← f5t]
   intro ρ vs w ha hi
   exact c2b (xs:=[.pl (.ints .u64 4 [2,0,0,0]), .pl (.ints .u64 4 e4c)]) (o:=[decide (limbs (val e4c) = e4c),decide (val [2,0,0,0] < pN)]) rfl (a00 (by decide +kernel) (a00 (by decide +kernel) d7x.nil)) ha hi
  ·cases h
 ·cases h
def f5v : List AV → E AV
 | [.ints .u64 4 [121666,0,0,0]]=>some ([], .ints .u64 4 v66)
 | _=>none
theorem d5f {args : List AV} {o : List Bool} {v : AV} (h : f5v args = some (o,v)) : d86 Tryz.prog 92 args v:=by
 unfold f5v at h
 split at h
 ·cases h
  rw [← i_66]
  exact d1c (args:=[.ints .u64 4 [121666,0,0,0]]) (o:=[decide (val [121666,0,0,0] < pN)]) rfl (a00 (by decide +kernel) d7x.nil)
 ·cases h
def ht0 : d82:=d8g 92 f5v hr4
theorem d5g : HOk Tryz.prog ht0:=c2c.d8g fun _ _ _ h _=>d5f h
theorem d1e : res (d81 Tryz.prog qn (deep Tryz.prog qn ht0 100 4) 100 43 [] []) = some ([true], .ints .u64 4 dL):=by kernel_rfl
def ddS : List AV → E AV
 | []=>some ([], .ints .u64 4 dL)
 | _=>none
theorem f5w {args : List AV} {o : List Bool} {v : AV} (h : ddS args = some (o,v)) : d86 Tryz.prog 43 args v:=by
 unfold ddS at h
 split at h
 ·cases h
  exact a0b mixed d7w (d5g.deep (q:=qn) mixed d7w 100 4) (by kernel_rfl) d1e (a00 rfl d7x.nil) rfl (by kernel_rfl)
 ·cases h
def ht1 : d82:=d8g 43 ddS (d84 103 f5u hr4)
theorem c86 : HOk Tryz.prog ht1:=(c2c.d84 fun _ _ _ _ h ho=>d5e h ho).d8g fun _ _ _ h _=>f5w h
def qX (w : Int) : Int:=fP (val (limbs w)) (val e0q).toNat
def qM (a b : Int) : Int:=(val (limbs a) * val (limbs b)) % pN
theorem rt_1 (w : Int) : res ((d81 Tryz.prog qn (deep Tryz.prog qn ht1 100 4) 100 74 [.ints .u64 4 (limbs w)] []).go [true]) =
  some ([decide (limbs w = [0,0,0,0])], .tuple [.ints .u64 4 (limbs w), .bool false true]):=by kernel_rfl
theorem rt_2 (w : Int) : res ((d81 Tryz.prog qn (deep Tryz.prog qn ht1 100 4) 100 74 [.ints .u64 4 (limbs w)] []).go [false,true]) =
  some ([!decide (limbs w = [0,0,0,0]),true,decide (val (limbs w) < pN),true,decide (limbs (qM (qX w) (qX w)) = limbs w)], .tuple [.ints .u64 4 (limbs (qX w)), .bool false true]):=by kernel_rfl
theorem rt_3 (w : Int) : res ((d81 Tryz.prog qn (deep Tryz.prog qn ht1 100 4) 100 74 [.ints .u64 4 (limbs w)] []).go [false,false]) =
  some ([!decide (limbs w = [0,0,0,0]),true,decide (val (limbs w) < pN),true, !decide (limbs (qM (qX w) (qX w)) = limbs w)], .tuple [.ints .u64 4 (limbs (qM (qX w) iI)), .bool true (decide (limbs (qM (qM (qX w) iI) (qM (qX w) iI)) = limbs w))]):=by kernel_rfl
theorem q_X {w : Int} (h : inP w) : qX w = fR w:=by
 have e : (val e0q).toNat = p8:=by decide +kernel
 unfold qX fR fP
 rw [e, ← a8y]
 rfl
theorem q_M (a b : Int) : qM a b = mI a b:=by unfold qM mI;rw [a8y];rfl
def rtS : List AV → E AV
 | [.ints .u64 4 a]=>some ([decide (val a < pN)], .tuple [.ints .u64 4 (limbs (rX (val a))), .bool true (rK (val a))])
 | _=>none
theorem b3r {g : FuncId} {args : List AV} {l : List Int} {c : Bool} (h : d86 Tryz.prog g args (.tuple [.ints .u64 4 l, .bool false c])) : d86 Tryz.prog g args (.tuple [.ints .u64 4 l, .bool true c]):=by
 intro ρ N vs ha w hT
 refine (h ha w hT).mono fun u w' ⟨h1,h2⟩=>⟨fun ρ' N' => ?_,h2⟩
 have r:=h1 ρ' N'
 cases r with
 | tuple _ vs hs=>cases hs with
  | cons _ _ _ _ r1 hs=>cases hs with
   | cons _ _ _ _ r2 hs =>
    cases hs
    cases r2
    exact .tuple _ _ (.cons _ _ _ _ r1 (.cons _ _ _ _ (.bool _ _) .nil))
theorem fR_0 : fR 0 = 0:=by rw [c7h];decide +kernel
theorem f5x {args : List AV} {o : List Bool} {v : AV} (h : rtS args = some (o,v)) (ho : d7x o) : d86 Tryz.prog 74 args v:=by
 have D:=c86.deep (q:=qn) mixed d7w 100 4
 unfold rtS at h
 split at h
 ·rename_i a
  cases h
  have hp:=ho _ (f9b ..)
  have hp':=f9c hp
  intro ρ N vs ha
  have hb:=ha
  cases hb with
  | cons _ _ _ _ r1 hb =>
   obtain ⟨a0,a1,a2,a3,rfl,w0,w1,w2,w3⟩:=a0g r1
   have e:=a0w w0 w1 w2 w3
   have hr:=a08 w0 w1 w2 w3
   have hw : inP (val [a0,a1,a2,a3]):=⟨hr.1,hp'⟩
   generalize val [a0,a1,a2,a3] = w at *
   rw [← e] at ha
   have h1:=rt_1 w;have h2:=rt_2 w;have h3:=rt_3 w
   rw [q_X hw,q_M] at h2
   rw [q_X hw,q_M,q_M,q_M] at h3
   rw [show decide (val (limbs w) < pN) = true from decide_eq_true (by rw [show val (limbs w) = vl w from rfl,a2m (a30 hw)];exact hp')] at h2 h3
   by_cases hz : w = 0
   ·subst hz
    have e0 : mI (fR 0) (fR 0) = 0:=by rw [fR_0];decide +kernel
    have ex : rX 0 = 0:=by unfold rX;rw [if_pos e0,fR_0]
    have ek : rK 0 = true:=by unfold rK;rw [ex];decide +kernel
    rw [ex,ek]
    exact b3r (a0k mixed d7w D [true] (by kernel_rfl) h1 (a00 rfl d7x.nil) rfl (by kernel_rfl)) ha
   ·have hz' : decide (limbs w = [0,0,0,0]) = false:=decide_eq_false fun h=>hz ((a27 hw (y:=0) ⟨by decide,by decide⟩).1 h)
    rw [hz'] at h2 h3
    by_cases hc : mI (fR w) (fR w) = w
    ·have ex : rX w = fR w:=by unfold rX;rw [if_pos hc]
     have ek : rK w = true:=by unfold rK;rw [ex];exact decide_eq_true hc
     rw [decide_eq_true ((a27 (a2h _ _) hw).2 hc)] at h2
     rw [ex,ek]
     exact b3r (a0k mixed d7w D [false,true] (by kernel_rfl) h2 (List.all_eq_true.1 rfl) rfl (by kernel_rfl)) ha
    ·have ex : rX w = mI (fR w) iI:=by unfold rX;rw [if_neg hc]
     have ek : decide (limbs (mI (mI (fR w) iI) (mI (fR w) iI)) = limbs w) = rK w:=by
      unfold rK
      rw [ex]
      exact decide_eq_decide.2 (a27 (a2h _ _) hw)
     rw [decide_eq_false fun h=>hc ((a27 (a2h _ _) hw).1 h),ek] at h3
     rw [ex]
     exact a0k mixed d7w D [false,false] (by kernel_rfl) h3 (List.all_eq_true.1 rfl) rfl (by kernel_rfl) ha
 ·cases h
def ht2 : d82:=d8g 74 rtS ht1
theorem c87 : HOk Tryz.prog ht2:=c86.d8g fun _ _ _ h ho=>f5x h ho
end Go.Proofs.YthelmpjkkkhopaaGreatDoor
namespace Go.Mo
open Go.Ev Go.Wn
def ubL (u : List Int) : List Int:=u.set 31 ((u.getD 31 0).tmod 128)
end Go.Mo
namespace Go.Proofs.YthelmpjkkkhopaaGreatDoor
open Go.Ev Go.Wn Go.Mo
set_option maxRecDepth 100000
theorem c88 {u : List Int} (h : okb u) : val (e4m (ubL u).reverse) = upI (leI u):=by
 obtain ⟨hl,hr⟩:=h
 have hu : (ubL u).length = 32:=by unfold ubL;rw [List.length_set];exact hl
 rw [b6n hu]
 obtain ⟨b0,b1,b2,b3,b4,b5,b6,b7,b8,b9,b10,b11,b12,b13,b14,b15,b16,b17,b18,b19,b20,b21,b22,b23,b24,b25,b26,b27,b28,b29,b30,b31,rfl⟩:=thirty hl
 have q31:=a03 (hr b31 (by simp))
 have q24:=a03 (hr b24 (by simp));have q25:=a03 (hr b25 (by simp));have q26:=a03 (hr b26 (by simp));have q27:=a03 (hr b27 (by simp));have q28:=a03 (hr b28 (by simp));have q29:=a03 (hr b29 (by simp));have q30:=a03 (hr b30 (by simp))
 have w0:=e4u (a03 (hr b7 (by simp))) (a03 (hr b6 (by simp))) (a03 (hr b5 (by simp))) (a03 (hr b4 (by simp))) (a03 (hr b3 (by simp))) (a03 (hr b2 (by simp))) (a03 (hr b1 (by simp))) (a03 (hr b0 (by simp)))
 have w1:=e4u (a03 (hr b15 (by simp))) (a03 (hr b14 (by simp))) (a03 (hr b13 (by simp))) (a03 (hr b12 (by simp))) (a03 (hr b11 (by simp))) (a03 (hr b10 (by simp))) (a03 (hr b9 (by simp))) (a03 (hr b8 (by simp)))
 have w2:=e4u (a03 (hr b23 (by simp))) (a03 (hr b22 (by simp))) (a03 (hr b21 (by simp))) (a03 (hr b20 (by simp))) (a03 (hr b19 (by simp))) (a03 (hr b18 (by simp))) (a03 (hr b17 (by simp))) (a03 (hr b16 (by simp)))
 clear hl hr hu
 unfold B8 at q31 q24 q25 q26 q27 q28 q29 q30
 have e : ubL [b0,b1,b2,b3,b4,b5,b6,b7,b8,b9,b10,b11,b12,b13,b14,b15,b16,b17,b18,b19,b20,b21,b22,b23,b24,b25,b26,b27,b28,b29,b30,b31] = [b0,b1,b2,b3,b4,b5,b6,b7,b8,b9,b10,b11,b12,b13,b14,b15,b16,b17,b18,b19,b20,b21,b22,b23,b24,b25,b26,b27,b28,b29,b30,b31 % 128]:=by
  rw [← Int.tmod_eq_emod_of_nonneg q31.1]
  rfl
 rw [e]
 unfold upI leI e1s
 simp only
 generalize W8 b7 b6 b5 b4 b3 b2 b1 b0 = x0 at *
 generalize W8 b15 b14 b13 b12 b11 b10 b9 b8 = x1 at *
 generalize W8 b23 b22 b21 b20 b19 b18 b17 b16 = x2 at *
 unfold W8 val W at *
 simp only [List.getD_cons_zero,List.getD_cons_succ]
 omega
theorem c2d {u : List Int} (h : okb u) : decide (u.getD 31 0 ≥ 128) = decide (leI u / d8q = 1):=by
 obtain ⟨hl,hr⟩:=h
 obtain ⟨b0,b1,b2,b3,b4,b5,b6,b7,b8,b9,b10,b11,b12,b13,b14,b15,b16,b17,b18,b19,b20,b21,b22,b23,b24,b25,b26,b27,b28,b29,b30,b31,rfl⟩:=thirty hl
 have q31:=a03 (hr b31 (by simp))
 have q24:=a03 (hr b24 (by simp));have q25:=a03 (hr b25 (by simp));have q26:=a03 (hr b26 (by simp));have q27:=a03 (hr b27 (by simp));have q28:=a03 (hr b28 (by simp));have q29:=a03 (hr b29 (by simp));have q30:=a03 (hr b30 (by simp))
 have w0:=e4u (a03 (hr b7 (by simp))) (a03 (hr b6 (by simp))) (a03 (hr b5 (by simp))) (a03 (hr b4 (by simp))) (a03 (hr b3 (by simp))) (a03 (hr b2 (by simp))) (a03 (hr b1 (by simp))) (a03 (hr b0 (by simp)))
 have w1:=e4u (a03 (hr b15 (by simp))) (a03 (hr b14 (by simp))) (a03 (hr b13 (by simp))) (a03 (hr b12 (by simp))) (a03 (hr b11 (by simp))) (a03 (hr b10 (by simp))) (a03 (hr b9 (by simp))) (a03 (hr b8 (by simp)))
 have w2:=e4u (a03 (hr b23 (by simp))) (a03 (hr b22 (by simp))) (a03 (hr b21 (by simp))) (a03 (hr b20 (by simp))) (a03 (hr b19 (by simp))) (a03 (hr b18 (by simp))) (a03 (hr b17 (by simp))) (a03 (hr b16 (by simp)))
 clear hl hr
 unfold B8 at q31 q24 q25 q26 q27 q28 q29 q30
 show decide (b31 ≥ 128) = _
 refine decide_eq_decide.2 ?_
 unfold leI e1s d8q
 simp only
 generalize W8 b7 b6 b5 b4 b3 b2 b1 b0 = x0 at *
 generalize W8 b15 b14 b13 b12 b11 b10 b9 b8 = x1 at *
 generalize W8 b23 b22 b21 b20 b19 b18 b17 b16 = x2 at *
 unfold W8 val W at *
 simp only [List.getD_cons_zero,List.getD_cons_succ]
 omega
def rrl (b : List Int) : List Int:=e4m (ubL b).reverse
def rYY (Y : Int) : Int:=(Y * Y) % pN
def rNn (Y : Int) : Int:=(val (limbs (rYY Y)) - val [1,0,0,0]) % pN
def rDd (Y : Int) : Int:=(val (limbs ((val dL * val (limbs (rYY Y))) % pN)) + val [1,0,0,0]) % pN
def rXX (Y : Int) : Int:=(val (limbs (rNn Y)) * val (limbs (fP (val (limbs (rDd Y))) pE))) % pN
def rrf (b : List Int) : Bool:=rK (val (limbs (rXX (val (rrl b)))))
def rrx (b : List Int) : Int:=rX (val (limbs (rXX (val (rrl b)))))
def rrz (b : List Int) : Bool:=decide (limbs (rrx b) = [0,0,0,0])
def rrc (b : List Int) : Bool:=decide (b.getD 31 0 ≥ 128)
def rre (b : List Int) : Bool:=((limbs (rrx b)).getD 0 0).tmod 2 == 1
def g6 (f z : Bool) : List Bool:=[!(!(!f)) || !(!f), !(!(!f)) || !(!f), !(!(!f)) || !(!f), !(!(!f)) || (!z || (!(!f) && z)), !(!(!f)) || !(!f), !f || !(!f)]
def rrO (b : List Int) : List Bool:=[!(!decide (val (rrl b) < val PN)),decide (val (limbs (rYY (val (rrl b)))) < pN),true,decide (val (limbs (rDd (val (rrl b)))) < pN),decide (val (limbs (rXX (val (rrl b)))) < pN)] ++ g6 (rrf b) (rrz b)
def Z12 : List Int:=[0,0,0,0,0,0,0,0,0,0,0,0]
theorem rr_1 (b : List Int) : d92 0 ((d8a Tryz.prog qn (deep Tryz.prog qn ht2 100 4) (fun _ _=>none) 200 38 (d7z 0 [.buf false .u8 32 b]) (d87 [.buf false .u8 32 b])).go [true]) =
  some ([!decide (val (rrl b) < val PN)], .tuple [.ints .u64 12 Z12, .bool false false],some (some ⟨false, .ints .u8 (some 32) b⟩)):=by kernel_rfl
theorem rr_2 (b : List Int) : d92 0 ((d8a Tryz.prog qn (deep Tryz.prog qn ht2 100 4) (fun _ _=>none) 200 38 (d7z 0 [.buf false .u8 32 b]) (d87 [.buf false .u8 32 b])).go [false,true]) =
  some (rrO b ++ [e2s (rrf b) (rrz b) (rrc b)], .tuple [.ints .u64 12 Z12, .bool false false],some (some ⟨false, .ints .u8 (some 32) b⟩)):=by kernel_rfl
theorem rr_3 (b : List Int) : d92 0 ((d8a Tryz.prog qn (deep Tryz.prog qn ht2 100 4) (fun _ _=>none) 200 38 (d7z 0 [.buf false .u8 32 b]) (d87 [.buf false .u8 32 b])).go [false,false,true]) =
  some (rrO b ++ [!e2s (rrf b) (rrz b) (rrc b), !(rre b == rrc b),true], .tuple [.ints .u64 12 (limbs ((0 - val (limbs (rrx b))) % val PN) ++ g4 (rrl b) ++ [1,0,0,0]), .bool false true],some (some ⟨false, .ints .u8 (some 32) b⟩)):=by kernel_rfl
theorem rr_4 (b : List Int) : d92 0 ((d8a Tryz.prog qn (deep Tryz.prog qn ht2 100 4) (fun _ _=>none) 200 38 (d7z 0 [.buf false .u8 32 b]) (d87 [.buf false .u8 32 b])).go [false,false,false]) =
  some (rrO b ++ [!e2s (rrf b) (rrz b) (rrc b), !(!(rre b == rrc b))], .tuple [.ints .u64 12 (limbs (rrx b) ++ g4 (rrl b) ++ [1,0,0,0]), .bool false true],some (some ⟨false, .ints .u8 (some 32) b⟩)):=by kernel_rfl
theorem d1f {x : Int} (h : inP x) : val (limbs x) = x:=a2m (a30 h)
theorem d1g (x : Int) : inP (x % pN):=by rw [a8y];exact b07 x
theorem c89 {y : Int} (h : ok y) : rYY y = mI y y:=by unfold rYY mI;rw [a2m h,a8y]
theorem d5h {y : Int} (h : ok y) : rNn y = sI (mI y y) 1:=by
 unfold rNn
 rw [c89 h,a8y]
 rfl
theorem d5i {y : Int} (h : ok y) : rDd y = aI 1 (mI dI (mI y y)):=by
 have e : val dL = vl dI:=by decide +kernel
 unfold rDd
 rw [c89 h,e,a8y]
 show (vl (mI dI (mI y y)) + vl 1) % val PL = (vl 1 + vl (mI dI (mI y y))) % val PL
 rw [Int.add_comm]
theorem d5j {y : Int} (h : ok y) : rXX y = fXX y:=by
 have e : (val PL - 2).toNat = pE:=by decide +kernel
 unfold rXX fXX
 rw [d5h h,d5i h,a8y]
 unfold mI pI fP
 rw [e,a8y]
 rfl
theorem c2e {b : List Int} (h : okb b) : val (rrl b) = leI b % d8q:=c88 h
theorem b3s {b : List Int} (h : okb b) : g4 (rrl b) = limbs (leI b % d8q):=by
 have e:=c88 h
 have hu : (ubL b).reverse.length = 32:=by rw [List.length_reverse];unfold ubL;rw [List.length_set];exact h.1
 have hr : ∀ x ∈ (ubL b).reverse,inR .u8 x = true:=fun x hx=>by
  have hx':=List.mem_reverse.1 hx
  unfold ubL at hx'
  rcases List.mem_or_eq_of_mem_set hx' with h1 | h1
  ·exact h.2 x h1
  ·have q:=a03 (h.2 (b.getD 31 0) (by
    rw [List.getD_eq_getElem?_getD,List.getElem?_eq_getElem (by rw [h.1];decide : 31 < b.length)]
    exact List.getElem_mem _))
   unfold B8 at q
   rw [h1,a15,Int.tmod_eq_emod_of_nonneg q.1]
   simp only [lo,hi]
   omega
 obtain ⟨b0,b1,b2,b3,b4,b5,b6,b7,b8,b9,b10,b11,b12,b13,b14,b15,b16,b17,b18,b19,b20,b21,b22,b23,b24,b25,b26,b27,b28,b29,b30,b31,hb⟩:=thirty hu
 rw [hb] at hr
 simp only [List.forall_mem_cons,List.not_mem_nil,false_implies,implies_true,and_true] at hr
 obtain ⟨k0,k1,k2,k3,k4,k5,k6,k7,k8,k9,k10,k11,k12,k13,k14,k15,k16,k17,k18,k19,k20,k21,k22,k23,k24,k25,k26,k27,k28,k29,k30,k31⟩:=hr
 have e' : val (rrl b) = leI b % d8q:=e
 rw [← e']
 unfold rrl
 rw [hb]
 exact (a0w (e4u (a03 k24) (a03 k25) (a03 k26) (a03 k27) (a03 k28) (a03 k29) (a03 k30) (a03 k31)) (e4u (a03 k16) (a03 k17) (a03 k18) (a03 k19) (a03 k20) (a03 k21) (a03 k22) (a03 k23)) (e4u (a03 k8) (a03 k9) (a03 k10) (a03 k11) (a03 k12) (a03 k13) (a03 k14) (a03 k15)) (e4u (a03 k0) (a03 k1) (a03 k2) (a03 k3) (a03 k4) (a03 k5) (a03 k6) (a03 k7))).symm
theorem d1h (f z : Bool) : d7x (g6 f z):=by cases f <;> cases z <;> exact List.all_eq_true.1 rfl
theorem y_ok {b : List Int} (h : okb b) : ok (leI b % d8q):=by
 have:=a4d h
 unfold ok d8q
 omega
theorem b0v {b : List Int} (h : okb b) : rrf b = fOk (leI b % d8q) ∧ rrx b = fX (leI b % d8q):=by
 unfold rrf rrx
 rw [c2e h,d5j (y_ok h),d1f (c0v _)]
 exact ⟨rfl,rfl⟩
theorem c56 {b : List Int} (h : okb b) (hl : decide (val (rrl b) < val PN) = true) : d7x (rrO b):=by
 unfold rrO
 have lt : ∀ x,inP x → decide (val (limbs x) < pN) = true:=fun x hx=>decide_eq_true (by rw [d1f hx];exact hx.2)
 rw [hl,lt (rYY (val (rrl b))) (d1g _),lt (rDd (val (rrl b))) (d1g _),lt (rXX (val (rrl b))) (d1g _)]
 exact a01.2 ⟨List.all_eq_true.1 rfl,d1h _ _⟩
def rrL (b : List Int) : List Int:=match d9c b with
 | true=>limbs (ryX (leI b % d8q) (leI b / d8q)) ++ limbs (leI b % d8q) ++ [1,0,0,0]
 | false=>Z12
theorem f5y {b : List Int} (h : okb b) : d9c b = (decide (val (rrl b) < val PN) && !e2s (rrf b) (rrz b) (rrc b)):=by
 obtain ⟨e1,e2⟩:=b0v h
 have hz : rrz b = decide (fX (leI b % d8q) = 0):=by
  unfold rrz
  rw [e2]
  exact decide_eq_decide.2 (a27 (x:=fX (leI b % d8q)) (y:=0) (a66 _) ⟨by decide,by decide⟩)
 have hc : rrc b = decide (leI b / d8q = 1):=c2d h
 unfold d9c ryB
 rw [hz,hc,e1,c2e h,show val PN = (P25 : Int) by decide +kernel,b8a,Bool.not_not]
theorem d5k {b : List Int} (h : okb b) : (rre b == rrc b) = !decide ((leI b / d8q + fX (leI b % d8q)) % 2 = 1):=by
 have hr:=a4d h
 have ho : leI b / d8q = 0 ∨ leI b / d8q = 1:=by unfold d8q;omega
 have hc : rrc b = decide (leI b / d8q = 1):=c2d h
 have hx:=a66 (leI b % d8q)
 have he : rre b = decide (fX (leI b % d8q) % 2 = 1):=by
  unfold rre
  rw [(b0v h).2]
  generalize fX (leI b % d8q) = x at *
  have : ((limbs x).getD 0 0).tmod 2 = x % 2:=by
   show (x % 18446744073709551616).tmod 2 = _
   rw [Int.tmod_eq_emod_of_nonneg (by omega)]
   omega
  rw [this,Bool.eq_iff_iff]
  simp
 rw [he,hc]
 generalize fX (leI b % d8q) = x at *
 rcases ho with e | e <;> rw [e] <;> rcases (by omega : x % 2 = 0 ∨ x % 2 = 1) with k | k
 ·rw [k,decide_eq_false (show ¬ (0 + x) % 2 = 1 by omega)];rfl
 ·rw [k,decide_eq_true (show (0 + x) % 2 = 1 by omega)];rfl
 ·rw [k,decide_eq_true (show (1 + x) % 2 = 1 by omega)];rfl
 ·rw [k,decide_eq_false (show ¬ (1 + x) % 2 = 1 by omega)];rfl
def rrS : List V → E (AV × Mem)
 | [.buf false .u8 32 b]=>some ([],(.tuple [.ints .u64 12 (rrL b), .bool true (d9c b)],[]))
 | _=>none
theorem a2z {g : FuncId} {xs : List V} {l : List Int} {c : Bool} (h : d7y Tryz.prog g xs (.tuple [.ints .u64 12 l, .bool false c]) []) : d7y Tryz.prog g xs (.tuple [.ints .u64 12 l, .bool true c]) []:=by
 intro ρ vs w ha hi
 refine (h ha hi).mono fun u w' ⟨ρ',r,k⟩=>⟨ρ', ?_,k⟩
 have r' : Rep ρ' (upto (xs.length + 0)) (.tuple [.ints .u64 12 l, .bool false c]) u:=r
 show Rep ρ' (upto (xs.length + 0)) (.tuple [.ints .u64 12 l, .bool true c]) u
 cases r' with
 | tuple _ vs hs=>cases hs with
  | cons _ _ _ _ r1 hs=>cases hs with
   | cons _ _ _ _ r2 hs =>
    cases hs
    cases r2
    exact .tuple _ _ (.cons _ _ _ _ r1 (.cons _ _ _ _ (.bool _ _) .nil))
theorem d5l {xs : List V} {o : List Bool} {v : AV} {bs : Mem} (h : rrS xs = some (o,(v,bs))) : d7y Tryz.prog 38 xs v bs:=by
 have D:=c87.deep (q:=qn) mixed d7w 100 4
 unfold rrS at h
 split at h
 ·rename_i b
  cases h
  intro ρ vs w ha hi
  have hb : okb b:=a0l hi 0 rfl
  have hk:=f5y hb
  refine a2z (fun ha hi => ?_) ha hi
  cases hl : decide (val (rrl b) < val PN) with
  | false =>
   rw [hl,Bool.false_and] at hk
   have e:=rr_1 b
   rw [hl] at e
   unfold rrL
   rw [hk]
   exact a0a mixed d7w D (lo1 _) [true] 0 e (a00 rfl d7x.nil) rfl rfl rfl rfl ha hi
  | true =>
   have hO:=c56 hb hl
   rw [hl,Bool.true_and] at hk
   cases hm : e2s (rrf b) (rrz b) (rrc b) with
   | true =>
    rw [hm] at hk
    have e:=rr_2 b
    rw [hm] at e
    unfold rrL
    rw [hk]
    exact a0a mixed d7w D (lo1 _) [false,true] 0 e (a01.2 ⟨hO,a00 rfl d7x.nil⟩) rfl rfl rfl rfl ha hi
   | false =>
    rw [hm] at hk
    have hp:=d5k hb
    unfold rrL
    rw [hk]
    cases hx : decide ((leI b / d8q + fX (leI b % d8q)) % 2 = 1) with
    | true =>
     have e:=rr_3 b
     rw [hx] at hp
     rw [hm,hp,b3s hb,(b0v hb).2] at e
     have ex : ryX (leI b % d8q) (leI b / d8q) = sI 0 (fX (leI b % d8q)):=by unfold ryX;rw [if_pos (f9c hx)]
     rw [Bool.not_false,ex]
     exact a0a mixed d7w D (lo1 _) [false,false,true] 0 e (a01.2 ⟨hO,List.all_eq_true.1 rfl⟩) rfl rfl rfl rfl ha hi
    | false =>
     have e:=rr_4 b
     rw [hx] at hp
     rw [hm,hp,b3s hb,(b0v hb).2] at e
     have ex : ryX (leI b % d8q) (leI b / d8q) = fX (leI b % d8q):=by unfold ryX;rw [if_neg (of_decide_eq_false hx)]
     rw [Bool.not_false,ex]
     exact a0a mixed d7w D (lo1 _) [false,false,false] 0 e (a01.2 ⟨hO,List.all_eq_true.1 rfl⟩) rfl rfl rfl rfl ha hi
 ·cases h
def ht3 : d82:=d84 38 rrS ht2
theorem c8a : HOk Tryz.prog ht3:=c87.d84 fun _ _ _ _ h _=>d5l h
end Go.Proofs.YthelmpjkkkhopaaGreatDoor
