/- The program's words of a block: its two loops by families of heads. Own work. -/
import Derived.Test.YthelmpjkkkhopaaGreatDoorZMyMC
import Derived.Test.YthelmpjkkkhopaaGreatDoorZShaN
import Derived.Test.YthelmpjkkkhopaaGreatDoorRows
set_option linter.unusedSimpArgs false
set_option linter.unusedVariables false
set_option linter.unusedSectionVars false
namespace Go.Proofs.YthelmpjkkkhopaaGreatDoor
open Go.Ev Go.Sh
set_option maxRecDepth 100000
theorem d89 : Tryz.prog.follows .mixedOrders = true:=by kernel_rfl
theorem d83 : Go.Ev.d7w Tryz.prog = true:=by kernel_rfl
def qS (f : FuncId) : Bool:=!(Nat.beq f 50 || Nat.beq f 85 || Nat.beq f 114 || Nat.beq f 117 || Nat.beq f 1000000000)
def h0S : d82:=fun _ _ _=>none
theorem a2p : HOk Tryz.prog h0S:=HOk.none
structure ScS where
 l : List Int
 z : List Int
 w : List Int
 i : Int
def d9p : List Nat:=[0,2,3,11]
def d9v : List Nat:=[0,2,3,6]
def scV (s : ScS) : List AV:=[.slice false 0 0 128 none 1, .ptr false 1 0, .ptr false 2 0, .int true .i64 s.i]
def pJ (i d : Int) : Nat:=(IntKind.i64.wrap (i - d)).toNat
def d95 (i : Int) : Nat:=(IntKind.i64.wrap (8 * i)).toNat
def e2j (i : Int) : Nat:=(IntKind.i64.wrap (IntKind.i64.wrap (8 * i) + 8)).toNat
def d97 (s : ScS) : Mem:=[some ⟨false, .ints .u8 (some 128) s.l⟩,some ⟨true, .ints .u64 (some 80) s.z⟩,some ⟨true, .ints .u64 (some 80) s.w⟩]
def e3r : List AV → Mem → Option ScS
 | [.slice false 0 0 128 none 1, .ptr false 1 0, .ptr false 2 0, .int _ .i64 i],[some ⟨false, .ints .u8 (some 128) l⟩,some ⟨true, .ints .u64 (some 80) z⟩,some ⟨true, .ints .u64 (some 80) w⟩]=>some ⟨l,z,w,i⟩
 | _,_=>none
theorem b6c (x : Nat → AV) (s : ScS) : d8p d9p ((d8d Tryz.prog qS (deep Tryz.prog qS h0S 100 3) (fun _ _=>none) 100 (lp (blk 0 (d80 Tryz.prog 115))) ⟨d8m (ups x (d8o d9p (scV s))) 114,d97 s⟩).go [true]) = some ([decide (s.i < 16),decide (0 ≤ IntKind.i64.wrap (IntKind.i64.wrap (8 * s.i) + 8)) && decide (IntKind.i64.wrap (IntKind.i64.wrap (8 * s.i) + 8) ≤ ((128 : Nat) : Int)),decide (0 ≤ IntKind.i64.wrap (8 * s.i)) && decide (IntKind.i64.wrap (8 * s.i) ≤ ((e2j s.i : Nat) : Int)),decide ((0 : Int) ≤ 0) && decide ((0 : Int) < ((e2j s.i - d95 s.i : Nat) : Int)),decide (0 + d95 s.i * 1 + 0 * 1 + 1 ≤ 128),decide ((0 : Int) ≤ 1) && decide ((1 : Int) < ((e2j s.i - d95 s.i : Nat) : Int)),decide (0 + d95 s.i * 1 + 1 * 1 + 1 ≤ 128),decide ((0 : Int) ≤ 2) && decide ((2 : Int) < ((e2j s.i - d95 s.i : Nat) : Int)),decide (0 + d95 s.i * 1 + 2 * 1 + 1 ≤ 128),decide ((0 : Int) ≤ 3) && decide ((3 : Int) < ((e2j s.i - d95 s.i : Nat) : Int)),decide (0 + d95 s.i * 1 + 3 * 1 + 1 ≤ 128),decide ((0 : Int) ≤ 4) && decide ((4 : Int) < ((e2j s.i - d95 s.i : Nat) : Int)),decide (0 + d95 s.i * 1 + 4 * 1 + 1 ≤ 128),decide ((0 : Int) ≤ 5) && decide ((5 : Int) < ((e2j s.i - d95 s.i : Nat) : Int)),decide (0 + d95 s.i * 1 + 5 * 1 + 1 ≤ 128),decide ((0 : Int) ≤ 6) && decide ((6 : Int) < ((e2j s.i - d95 s.i : Nat) : Int)),decide (0 + d95 s.i * 1 + 6 * 1 + 1 ≤ 128),decide ((0 : Int) ≤ 7) && decide ((7 : Int) < ((e2j s.i - d95 s.i : Nat) : Int)),decide (0 + d95 s.i * 1 + 7 * 1 + 1 ≤ 128),decide (0 ≤ s.i) && decide (s.i < ((80 : Nat) : Int)),decide (0 + s.i.toNat * 1 + 1 ≤ 80)],0,[.slice false 0 0 128 none 1, .ptr false 1 0, .ptr false 2 0, .int true .i64 (IntKind.i64.wrap (s.i + 1))],114,d97 { s with w:=s.w.set (0 + s.i.toNat * 1) (w8 (s.l.getD (0 + d95 s.i * 1 + 0 * 1) 0) (s.l.getD (0 + d95 s.i * 1 + 1 * 1) 0) (s.l.getD (0 + d95 s.i * 1 + 2 * 1) 0) (s.l.getD (0 + d95 s.i * 1 + 3 * 1) 0) (s.l.getD (0 + d95 s.i * 1 + 4 * 1) 0) (s.l.getD (0 + d95 s.i * 1 + 5 * 1) 0) (s.l.getD (0 + d95 s.i * 1 + 6 * 1) 0) (s.l.getD (0 + d95 s.i * 1 + 7 * 1) 0)) }):=by kernel_rfl
theorem b6d (x : Nat → AV) (s : ScS) : d8p d9p ((d8d Tryz.prog qS (deep Tryz.prog qS h0S 100 3) (fun _ _=>none) 100 (lp (blk 0 (d80 Tryz.prog 115))) ⟨d8m (ups x (d8o d9p (scV s))) 114,d97 s⟩).go [false]) = some ([!decide (s.i < 16)],2,scV s,114,d97 s):=by kernel_rfl
theorem b6e (x : Nat → AV) (s : ScS) : d8p d9v ((d8d Tryz.prog qS (deep Tryz.prog qS h0S 100 3) (fun _ _=>none) 100 (lp (blk 2 (d80 Tryz.prog 115))) ⟨d8m (ups x (d8o d9v (scV s))) 114,d97 s⟩).go [true]) = some ([decide (s.i < 80),decide (0 ≤ IntKind.i64.wrap (s.i - 15)) && decide (IntKind.i64.wrap (s.i - 15) < ((80 : Nat) : Int)),decide (0 + pJ s.i 15 * 1 + 1 ≤ 80),decide (0 ≤ IntKind.i64.wrap (s.i - 2)) && decide (IntKind.i64.wrap (s.i - 2) < ((80 : Nat) : Int)),decide (0 + pJ s.i 2 * 1 + 1 ≤ 80),decide (0 ≤ IntKind.i64.wrap (s.i - 16)) && decide (IntKind.i64.wrap (s.i - 16) < ((80 : Nat) : Int)),decide (0 + pJ s.i 16 * 1 + 1 ≤ 80),decide (0 ≤ IntKind.i64.wrap (s.i - 7)) && decide (IntKind.i64.wrap (s.i - 7) < ((80 : Nat) : Int)),decide (0 + pJ s.i 7 * 1 + 1 ≤ 80),decide (0 ≤ s.i) && decide (s.i < ((80 : Nat) : Int)),decide (0 + s.i.toNat * 1 + 1 ≤ 80)],0,[.slice false 0 0 128 none 1, .ptr false 1 0, .ptr false 2 0, .int true .i64 (IntKind.i64.wrap (s.i + 1))],114,d97 { s with w:=s.w.set (0 + s.i.toNat * 1) (IntKind.u64.wrap (IntKind.u64.wrap (IntKind.u64.wrap (s.w.getD (0 + pJ s.i 16 * 1) 0 + b9x (s.w.getD (0 + pJ s.i 15 * 1) 0)) + s.w.getD (0 + pJ s.i 7 * 1) 0) + b9y (s.w.getD (0 + pJ s.i 2 * 1) 0))) }):=by kernel_rfl
theorem b6f (x : Nat → AV) (s : ScS) : d8p d9v ((d8d Tryz.prog qS (deep Tryz.prog qS h0S 100 3) (fun _ _=>none) 100 (lp (blk 2 (d80 Tryz.prog 115))) ⟨d8m (ups x (d8o d9v (scV s))) 114,d97 s⟩).go [false]) = some ([!decide (s.i < 80)],4,scV s,114,d97 s):=by kernel_rfl
theorem e7a {l : List Int} (hl : l.length = 128) (hb : ∀ x ∈ l,B8S x) {n : Nat} (hn : n < 16) : (l.drop (64 / 8 * n)).take (64 / 8) = [l.getD (8 * n) 0,l.getD (8 * n + 1) 0,l.getD (8 * n + 2) 0,l.getD (8 * n + 3) 0,l.getD (8 * n + 4) 0,l.getD (8 * n + 5) 0,l.getD (8 * n + 6) 0,l.getD (8 * n + 7) 0] ∧ Wd 64 (beS ((l.drop (64 / 8 * n)).take (64 / 8))):=by
 have e : (l.drop (64 / 8 * n)).take (64 / 8) = [l.getD (8 * n) 0,l.getD (8 * n + 1) 0,l.getD (8 * n + 2) 0,l.getD (8 * n + 3) 0,l.getD (8 * n + 4) 0,l.getD (8 * n + 5) 0,l.getD (8 * n + 6) 0,l.getD (8 * n + 7) 0]:=by
  rw [b1r (by rw [hl];omega)]
  rfl
 refine ⟨e, ?_⟩
 rw [e]
 exact (c6r (a0i hb _) (a0i hb _) (a0i hb _) (a0i hb _) (a0i hb _) (a0i hb _) (a0i hb _) (a0i hb _)).2
structure e3s (b : Int) (s0 s : ScS) : Prop where
 hl : s.l = s0.l
 hz : s.z = s0.z
 len : s.l.length = 128
 byte : ∀ x ∈ s.l,B8S x
 lo : 0 ≤ s.i
 hi : s.i ≤ b
 w : s.w = d8e 80 64 s.l s.i.toNat
def e2k (a : Int) (s : ScS) : List Bool:=[decide (s.i = a),decide (s.l.length = 128),s.l.all (inR .u8),decide (s.w = d8e 80 64 s.l s.i.toNat)]
def e1g (slots : List (Nat × AV)) (b : Nat) (s : ScS) : List (Nat × AV) × Mem:=(slots,d97 { s with w:=d8e 80 64 s.l b })
def scΛ64 : d8r:=e0p 0 114 d9p e3r (e2k 0) (e1g [(0, .slice false 0 0 128 none 1),(2, .ptr false 1 0),(3, .ptr false 2 0)] 16) (e0p 2 114 d9v e3r (e2k 16) (e1g [(2, .ptr false 1 0),(3, .ptr false 2 0)] 80) fun _ _=>none)
theorem a4y {a b : Int} (hab : 0 ≤ a ∧ a ≤ b) {avs : List AV} {m : Mem} {s : ScS} (h : e3r avs m = some s) (ho : d7x (e2k a s)) : LeL avs (scV s) ∧ m = d97 s ∧ e3s b s s:=by
 unfold e3r at h
 split at h
 ·cases h
  have o1:=f9c (ho _ (f9b ..))
  have o2:=f9c (ho _ (f9a _ (f9b ..)))
  have o3:=ho _ (f9a _ (f9a _ (f9b ..)))
  have o4:=f9c (ho _ (f9a _ (f9a _ (f9a _ (f9b ..)))))
  simp only at o1 o2 o3 o4
  exact ⟨.cons (.refl _) (.cons (.refl _) (.cons (.refl _) (.cons (.int _ _ _) .nil))),rfl,⟨rfl,rfl,o2,fun x hx=>a6f (List.all_eq_true.1 o3 x hx),by simp only;omega,by simp only;omega,o4⟩⟩
 ·cases h
theorem b1m : LOk Tryz.prog (d80 Tryz.prog 115) scΛ64:=by
 have out : ∀ {s0 s : ScS} {b : Nat} {sl : List (Nat × AV)},e3s b s0 s → s.i = b → d97 s = (e1g sl b s0).2:=fun {s0 s b sl} hJ hb=>by
  obtain ⟨hl,hz,len,byte,lo,hi,w⟩:=hJ
  obtain ⟨l,z,w',i⟩:=s
  obtain ⟨l0,z0,w0,i0⟩:=s0
  simp only at hl hz w hb
  subst hl hz hb w
  simp only [e1g,d97,Int.toNat_natCast]
 refine a29 (q:=qS) (n:=100) scV d97 (e3s 16) (fun s=>16 - s.i.toNat) d89 (a2p.deep (q:=qS) d89 d83 100 3) ?_ LOk.none (by kernel_rfl) (by kernel_rfl) (fun s=>rfl) (fun s=>rfl) (fun avs m s h ho=>⟨s,a4y ⟨by omega,by omega⟩ h ho⟩) (fun s0 s hJ x => ?_)
 ·refine a29 (q:=qS) (n:=100) scV d97 (fun s0 s=>e3s 80 s0 s ∧ 16 ≤ s.i) (fun s=>80 - s.i.toNat) d89 (a2p.deep (q:=qS) d89 d83 100 3) LOk.none LOk.none (by kernel_rfl) (by kernel_rfl) (fun s=>rfl) (fun s=>rfl) (fun avs m s h ho => ?_) (fun s0 s hJ x => ?_)
  ·obtain ⟨a1,a2,a3⟩:=a4y (b:=80) ⟨by omega,by omega⟩ h ho
   have o1:=f9c (ho _ (f9b ..))
   exact ⟨s,a1,a2,a3,by omega⟩
  ·obtain ⟨hJ,h16⟩:=hJ
   have hJ':=hJ
   obtain ⟨hl,hz,len,byte,lo,hi,w⟩:=hJ
   by_cases hk : s.i = 80
   ·refine Round.out (b6f x s) rfl (out (b:=80) hJ' hk) (a00 (by rw [hk];rfl) d7x.nil) fun p hp => ?_
    simp only [e1g,List.mem_cons,List.not_mem_nil,or_false] at hp
    rcases hp with rfl | rfl
    ·exact ⟨_,by simp [d9v,scV,d8o],Le1.refl _⟩
    ·exact ⟨_,by simp [d9v,scV,d8o],Le1.refl _⟩
   ·obtain ⟨l,z,w',i⟩:=s
    simp only at hl hz len byte lo hi w hk h16
    subst w
    have hN : i < 80:=by omega
    have pj : ∀ d : Int,0 ≤ d ∧ d ≤ 16 → IntKind.i64.wrap (i - d) = i - d:=fun d hd=>by
     unfold IntKind.wrap;simp [IntKind.bits,IntKind.signed];omega
    have hwd:=a5a (w:=64) (b:=l) (fun n hn=>(e7a len byte hn).2) i.toNat
    have gt : ∀ d : Int,2 ≤ d ∧ d ≤ 16 → (d8e 80 64 l i.toNat).getD (0 + pJ i d * 1) 0 = (d8k 64 l i.toNat).getD (i.toNat - d.toNat) 0:=fun d hd=>by
     have e : pJ i d = i.toNat - d.toNat:=by unfold pJ;rw [pj d (by omega)];omega
     rw [e,Nat.zero_add,Nat.mul_one,a4f (by omega)]
    have hv : d9r 64 l (d8k 64 l i.toNat) = IntKind.u64.wrap (IntKind.u64.wrap (IntKind.u64.wrap ((d8e 80 64 l i.toNat).getD (0 + pJ i 16 * 1) 0 + b9x ((d8e 80 64 l i.toNat).getD (0 + pJ i 15 * 1) 0)) + (d8e 80 64 l i.toNat).getD (0 + pJ i 7 * 1) 0) + b9y ((d8e 80 64 l i.toNat).getD (0 + pJ i 2 * 1) 0)):=by
     rw [gt 16 (by omega),gt 15 (by omega),gt 7 (by omega),gt 2 (by omega),b8d (a50 hwd _),b8e (a50 hwd _),a0m (k := .u64) rfl,a0m (k := .u64) rfl,a0m (k := .u64) rfl]
     unfold d9r
     rw [a0p,if_neg (by omega)]
     simp only [IntKind.bits,show Int.toNat 16 = 16 from rfl,show Int.toNat 15 = 15 from rfl,show Int.toNat 7 = 7 from rfl,show Int.toNat 2 = 2 from rfl]
     omega
    have hw : IntKind.i64.wrap (i + 1) = i + 1:=by
     unfold IntKind.wrap;simp [IntKind.bits,IntKind.signed];omega
    have ht : (i + 1).toNat = i.toNat + 1:=by omega
    refine Round.on (b6e x ⟨l,z,_,i⟩) ⟨l,z,d8e 80 64 l (i.toNat + 1),i + 1⟩ [] ?_ ?_ (by simp only [hw];exact LeL.refl _) ⟨⟨hl,hz,len,byte,by simp only;omega,by simp only;omega,by simp only [ht]⟩,by simp only;omega⟩ rfl (by simp only;omega)
    ·simp only [d97, ← hv,List.append_nil]
     rw [show 0 + i.toNat * 1 = i.toNat by omega,a2g (show i.toNat < 80 by omega)]
    ·have e : ∀ d : Int,2 ≤ d ∧ d ≤ 16 → pJ i d = i.toNat - d.toNat:=fun d hd=>by unfold pJ;rw [pj d (by omega)];omega
     simp only [pj 15 (by omega),pj 2 (by omega),pj 16 (by omega),pj 7 (by omega),e 15 (by omega),e 2 (by omega),e 16 (by omega),e 7 (by omega),show Int.toNat 16 = 16 from rfl,show Int.toNat 15 = 15 from rfl,show Int.toNat 7 = 7 from rfl,show Int.toNat 2 = 2 from rfl]
     repeat' first | exact d7x.nil | refine a00 ?_ ?_
     all_goals (simp;try omega)
 ·have hJ':=hJ
  obtain ⟨hl,hz,len,byte,lo,hi,w⟩:=hJ
  by_cases hk : s.i = 16
  ·refine Round.out (b6d x s) rfl (out (b:=16) hJ' hk) (a00 (by rw [hk];rfl) d7x.nil) fun p hp => ?_
   simp only [e1g,List.mem_cons,List.not_mem_nil,or_false] at hp
   rcases hp with rfl | rfl | rfl
   ·exact ⟨_,by simp [d9p,scV,d8o],Le1.refl _⟩
   ·exact ⟨_,by simp [d9p,scV,d8o],Le1.refl _⟩
   ·exact ⟨_,by simp [d9p,scV,d8o],Le1.refl _⟩
  ·obtain ⟨l,z,w',i⟩:=s
   simp only at hl hz len byte lo hi w hk
   subst w
   have pa : d95 i = 8 * i.toNat:=by
    unfold d95 IntKind.wrap;simp [IntKind.bits,IntKind.signed];omega
   have pb : e2j i = 8 * i.toNat + 8:=by
    unfold e2j IntKind.wrap;simp [IntKind.bits,IntKind.signed];omega
   have pc : IntKind.i64.wrap (8 * i) = 8 * i:=by
    unfold IntKind.wrap;simp [IntKind.bits,IntKind.signed];omega
   have pd : IntKind.i64.wrap (8 * i + 8) = 8 * i + 8:=by
    unfold IntKind.wrap;simp [IntKind.bits,IntKind.signed];omega
   have hv : d9r 64 l (d8k 64 l i.toNat) = w8 (l.getD (0 + d95 i * 1 + 0 * 1) 0) (l.getD (0 + d95 i * 1 + 1 * 1) 0) (l.getD (0 + d95 i * 1 + 2 * 1) 0) (l.getD (0 + d95 i * 1 + 3 * 1) 0) (l.getD (0 + d95 i * 1 + 4 * 1) 0) (l.getD (0 + d95 i * 1 + 5 * 1) 0) (l.getD (0 + d95 i * 1 + 6 * 1) 0) (l.getD (0 + d95 i * 1 + 7 * 1) 0):=by
    rw [(c6r (a0i byte _) (a0i byte _) (a0i byte _) (a0i byte _) (a0i byte _) (a0i byte _) (a0i byte _) (a0i byte _)).1,pa]
    unfold d9r
    rw [a0p,if_pos (by omega),(e7a len byte (show i.toNat < 16 by omega)).1]
    simp only [Nat.zero_add,Nat.mul_one,Nat.add_zero]
   have hw : IntKind.i64.wrap (i + 1) = i + 1:=by
    unfold IntKind.wrap;simp [IntKind.bits,IntKind.signed];omega
   have ht : (i + 1).toNat = i.toNat + 1:=by omega
   refine Round.on (b6c x ⟨l,z,_,i⟩) ⟨l,z,d8e 80 64 l (i.toNat + 1),i + 1⟩ [] ?_ ?_ (by simp only [hw];exact LeL.refl _) ⟨hl,hz,len,byte,by simp only;omega,by simp only;omega,by simp only [ht]⟩ rfl (by simp only;omega)
   ·simp only [d97, ← hv,List.append_nil]
    rw [show 0 + i.toNat * 1 = i.toNat by omega,a2g (show i.toNat < 80 by omega)]
   ·simp only [pa,pb,pc,pd]
    repeat' first | exact d7x.nil | refine a00 ?_ ?_
    all_goals (simp;try omega)
def e3c : List V → E (AV × Mem)
 | [.buf false .u8 128 l]=>some ([],(.ints .u64 80 (d8k 64 l 80),[]))
 | _=>none
theorem a78 (l : List Int) : res ((d8a Tryz.prog qS (deep Tryz.prog qS h0S 100 3) scΛ64 100 115 (d7z 0 [.buf false .u8 128 l]) (d87 [.buf false .u8 128 l])).go []) =
  some (e2k 0 ⟨l,List.replicate 80 0,List.replicate 80 0,0⟩ ++ e2k 16 ⟨l,List.replicate 80 0,d8e 80 64 l 16,16⟩, .ints .u64 80 (d8e 80 64 l 80)):=by kernel_rfl
theorem b88 {xs : List V} {o : List Bool} {v : AV} {bs : Mem} (h : e3c xs = some (o,(v,bs))) (ho : d7x o) : d7y Tryz.prog 115 xs v bs:=by
 unfold e3c at h
 split at h
 ·rename_i l
  cases h
  intro ρ vs w ha hi
  obtain ⟨hl,hr⟩:=a0l hi 0 rfl
  have ha' : l.all (inR .u8) = true:=List.all_eq_true.2 hr
  refine a1v d89 d83 (a2p.deep (q:=qS) d89 d83 100 3) (fun fn c hf hb=>by rw [a0r hf hb];exact b1m) (by rfl) (a13 (a5d (a78 l) ?_ ?_ (by rfl))) ha hi
  ·refine a01.2 ⟨?_, ?_⟩
   ·exact a00 rfl (a00 (decide_eq_true hl) (a00 ha' (a00 (decide_eq_true (by simp [d8e,d8k])) d7x.nil)))
   ·exact a00 rfl (a00 (decide_eq_true hl) (a00 ha' (a00 (decide_eq_true rfl) d7x.nil)))
  ·simp [d8e]
 ·cases h
end Go.Proofs.YthelmpjkkkhopaaGreatDoor
namespace Go.Ev
theorem b1n {P : Program} {q : FuncId → Bool} {H : d82} {Λ : d8r} (hm : P.follows .mixedOrders = true) (hng : d7w P = true) (hH : HOk P H) {n : Nat} {g : FuncId} (hΛ : ∀ fn c,P.funcs[g]? = some fn → fn.body = some c → LOk P c Λ) {xs : List V} {o : List Bool} {v v' : AV} (ds : List Bool)
  (h : res ((d8a P q H Λ n g (d7z 0 xs) (d87 xs)).go ds) = some (o,v)) (ho : d7x o) (hv : v = v') (hpl : d8z v' = true) : d7y P g xs v' []:=
 a1v hm hng hH hΛ hpl (a13 (a5d h ho hv hpl))
end Go.Ev
namespace Go.Sh
open Go.Ev
def KL (w : Nat) : List Int:=if w = 32 then d9k.map (fun k=>k / 2 ^ 32) else d9k
theorem kl32 (i : Nat) : IntKind.u32.wrap (d88 .u64 (d9k.getD i 0) 32) % 2 ^ 32 = (KL 32).getD i 0 % 2 ^ 32:=by
 have e : (KL 32).getD i 0 = d9k.getD i 0 / 2 ^ 32:=by
  unfold KL
  rw [if_pos rfl,List.getD,List.getD,List.getElem?_map]
  cases d9k[i]? <;> simp
 rw [e,a0m (k := .u32) rfl,show d88 .u64 (d9k.getD i 0) 32 = d9k.getD i 0 / 2 ^ 32 from e7q 32 (by decide)]
 simp only [IntKind.bits]
 omega
theorem kl64 (i : Nat) : d9k.getD i 0 % 2 ^ 64 = (KL 64).getD i 0 % 2 ^ 64:=by
 unfold KL;rw [if_neg (by decide)]
def d8u (w N : Nat) (b v : List Int) : Nat → List Int
 | 0=>v
 | n + 1=>e0a w ((KL w).getD n 0) ((d8k w b N).getD n 0) (d8u w N b v n)
def d91 (w N : Nat) (v b : List Int) : List Int:=List.zipWith (fun x y=>(x + y) % 2 ^ w) v (d8u w N b v N)
theorem eight {l : List Int} (h : l.length = 8) : ∃ a b c d e f g i,l = [a,b,c,d,e,f,g,i]:=by
 match l,h with
 | [a,b,c,d,e,f,g,i],_=>exact ⟨a,b,c,d,e,f,g,i,rfl⟩
theorem c3e (w : Nat) (x : Int) : Wd w (x % 2 ^ w):=⟨Int.emod_nonneg _ (Int.ne_of_gt (pos2 w)),Int.emod_lt_of_pos _ (pos2 w)⟩
theorem a1h {w n : Nat} {b v : List Int} (hl : v.length = 8) (hw : ∀ x ∈ v,Wd w x) : ∀ i, ∃ a1 a2 a3 a4 a5 a6 a7 a8,d8u w n b v i = [a1,a2,a3,a4,a5,a6,a7,a8] ∧ Wd w a1 ∧ Wd w a2 ∧ Wd w a3 ∧ Wd w a4 ∧ Wd w a5 ∧ Wd w a6 ∧ Wd w a7 ∧ Wd w a8
 | 0=>by
  obtain ⟨a1,a2,a3,a4,a5,a6,a7,a8,rfl⟩:=eight hl
  exact ⟨a1,a2,a3,a4,a5,a6,a7,a8,rfl,hw _ (by simp),hw _ (by simp),hw _ (by simp),hw _ (by simp),hw _ (by simp),hw _ (by simp),hw _ (by simp),hw _ (by simp)⟩
 | i + 1=>by
  obtain ⟨a1,a2,a3,a4,a5,a6,a7,a8,h,w1,w2,w3,w4S,w5,w6,w7,w8⟩:=a1h (b:=b) (n:=n) hl hw i
  refine ⟨_,_,_,_,_,_,_,_,by unfold d8u;rw [h];rfl,c3e _ _,w1,w2,w3,c3e _ _,w5,w6,w7⟩
end Go.Sh
namespace Go.Proofs.YthelmpjkkkhopaaGreatDoor
open Go.Ev Go.Sh
set_option maxRecDepth 100000
def hs1 : d82:=d84 115 e3c h0S
theorem c8q : HOk Tryz.prog hs1:=a2p.d84 fun _ _ _ _ h ho=>b88 h ho
noncomputable def hS1 : d82:=deep Tryz.prog qS hs1 100 3
theorem c8r : HOk Tryz.prog hS1:=c8q.deep d89 d83 100 3
structure RoS where
 B : List Int
 l : List Int
 z : List Int
 v : List Int
 ws : List Int
 i : Int
def e1k : List Nat:=[2,4,5,16,17]
def e5e (s : RoS) : List AV:=[.ptr false 2 0, .ptr false 3 0, .ptr false 4 0, .ints .u64 80 s.ws, .int true .i64 s.i]
def e5f (s : RoS) : Mem:=[none,some ⟨false, .ints .u8 (some 128) s.l⟩,some ⟨true, .ints .u64 (some 8) s.B⟩,some ⟨true, .ints .u64 (some 8) s.z⟩,some ⟨true, .ints .u64 (some 8) s.v⟩]
def e7b (l : List Int) : Bool:=l.all fun x=>decide (0 ≤ x) && decide (x < 4294967296)
theorem b89 {l : List Int} (h : e7b l = true) : ∀ x ∈ l,Wd 32 x:=fun x hx=>by
 have:=List.all_eq_true.1 h x hx
 simp only [Bool.and_eq_true,decide_eq_true_eq] at this
 exact ⟨this.1,by have:=this.2;omega⟩
def e7c (B V : List Int) : List Int:=[IntKind.u64.wrap (B.getD 0 0 + V.getD 0 0),IntKind.u64.wrap (B.getD 1 0 + V.getD 1 0),IntKind.u64.wrap (B.getD 2 0 + V.getD 2 0),IntKind.u64.wrap (B.getD 3 0 + V.getD 3 0),IntKind.u64.wrap (B.getD 4 0 + V.getD 4 0),IntKind.u64.wrap (B.getD 5 0 + V.getD 5 0),IntKind.u64.wrap (B.getD 6 0 + V.getD 6 0),IntKind.u64.wrap (B.getD 7 0 + V.getD 7 0)]
theorem c6h {l B : List Int} (hB : B.length = 8) (wd : ∀ x ∈ B,Wd 64 x) : e7c B (d8u 64 80 l B 80) = d91 64 80 B l:=by
 obtain ⟨a,b,c,d,e,f,g,h,hv,wa,wb,wc,wd',we,wf,wg,wh⟩:=a1h (w:=64) (n:=80) (b:=l) hB wd 80
 unfold d91
 rw [hv]
 obtain ⟨b0,b1,b2,b3,b4,b5,b6,b7,rfl⟩:=eight hB
 unfold e7c
 simp only [List.zipWith_cons_cons,List.zipWith_nil_left,List.getD_cons_zero,List.getD_cons_succ,a0m (k := .u64) rfl,IntKind.bits,Int.reducePow]
 skip
def e8f (K x : Int) : List Int → List Int
 | [a,b,c,d,e,f,g,h]=>[IntKind.u64.wrap (IntKind.u64.wrap (IntKind.u64.wrap (IntKind.u64.wrap (h + c6o e) + ior .u64 (d98 .u64 e f) (d98 .u64 (e0b .u64 18446744073709551615 e) g)) + IntKind.u64.wrap (K + x)) + IntKind.u64.wrap (d2z a + ior .u64 (ior .u64 (d98 .u64 a b) (d98 .u64 a c)) (d98 .u64 b c))),a,b,c,
   IntKind.u64.wrap (d + IntKind.u64.wrap (IntKind.u64.wrap (IntKind.u64.wrap (h + c6o e) + ior .u64 (d98 .u64 e f) (d98 .u64 (e0b .u64 18446744073709551615 e) g)) + IntKind.u64.wrap (K + x))),e,f,g]
 | l=>l
theorem f1v {x : Int} (h : Wd 64 x) : e0b .u64 18446744073709551615 x = 2 ^ 64 - 1 - x:=by
 obtain ⟨a,ha,rfl⟩:=a2q h
 unfold e0b
 have e : BitVec.ofInt 64 18446744073709551615 = BitVec.allOnes 64:=by decide
 have e2 : (BitVec.ofInt 64 (a : Int)).toNat = a:=a38 ha
 show IntKind.u64.wrap ((BitVec.ofInt 64 18446744073709551615 ^^^ BitVec.ofInt 64 (a : Int)).toNat : Int) = _
 rw [e]
 show IntKind.u64.wrap ((BitVec.allOnes 64 ^^^ BitVec.ofInt 64 (a : Int)).toNat : Int) = _
 rw [BitVec.allOnes_xor,BitVec.toNat_not,e2,a4e (k := .u64) rfl]
 ·have : a ≤ 2 ^ 64 - 1:=by omega
  omega
 ·refine ⟨by omega, ?_⟩
  show ((2 ^ 64 - 1 - a : Nat) : Int) < 2 ^ 64
  omega
theorem c6i {K K' x a b c d e f g h : Int} (hK : K % 2 ^ 64 = K' % 2 ^ 64) (ha : Wd 64 a) (hb : Wd 64 b) (hc : Wd 64 c) (he : Wd 64 e) (hf : Wd 64 f) (hg : Wd 64 g) :
  e8f K x [a,b,c,d,e,f,g,h] = e0a 64 K' x [a,b,c,d,e,f,g,h]:=by
 have hn : Wd 64 (2 ^ 64 - 1 - e):=⟨by have:=he.2;omega,by have:=he.1;omega⟩
 have e1 : ior .u64 (d98 .u64 e f) (d98 .u64 (e0b .u64 18446744073709551615 e) g) = cho 64 e f g:=by
  rw [f1v he,a3k (k := .u64) rfl he hf,a3k (k := .u64) rfl hn hg,a6w (k := .u64) rfl (a5y he) (a5y hn)];rfl
 have e2 : ior .u64 (ior .u64 (d98 .u64 a b) (d98 .u64 a c)) (d98 .u64 b c) = maj a b c:=by
  rw [a3k (k := .u64) rfl ha hb,a3k (k := .u64) rfl ha hc,a3k (k := .u64) rfl hb hc,a6w (k := .u64) rfl (a5y ha) (a5y ha),a6w (k := .u64) rfl (d2x (a5y ha) (a5y ha)) (a5y hb)];rfl
 unfold e8f e0a
 simp only
 rw [e1,e2,c6q he,c6p ha]
 simp only [a0m (k := .u64) rfl,IntKind.bits]
 generalize e7e 64 e = p1
 generalize e7p 64 a = p2
 generalize cho 64 e f g = p3
 generalize maj a b c = p4
 simp only [Int.reducePow] at hK ⊢
 congr 1
 ·omega
 ·congr 1
  congr 1
  congr 1
  congr 1
  omega
def f1w : List AV → Mem → Option RoS
 | [.ptr false 2 0, .ptr false 3 0, .ptr false 4 0, .ints .u64 80 ws, .int _ .i64 i],[none,some ⟨false, .ints .u8 (some 128) l⟩,some ⟨true, .ints .u64 (some 8) B⟩,some ⟨true, .ints .u64 (some 8) z⟩,some ⟨true, .ints .u64 (some 8) v⟩]=>some ⟨B,l,z,v,ws,i⟩
 | _,_=>none
theorem d6v (x : Nat → AV) (s : RoS) (a b c d e f g h : Int) : d8p e1k ((d8d Tryz.prog qS hS1 (fun _ _=>none) 100 (lp (blk 0 (d80 Tryz.prog 106))) ⟨d8m (ups x (d8o e1k (e5e { s with v:=[a,b,c,d,e,f,g,h] }))) 63,e5f { s with v:=[a,b,c,d,e,f,g,h] }⟩).go [true]) =
  some ([decide (s.i < 80),decide (0 ≤ s.i) && decide (s.i < ((80 : Nat) : Int)),decide (0 ≤ s.i) && decide (s.i < ((80 : Nat) : Int)),decide (0 + s.i.toNat * 1 + 1 ≤ 80)],0,
   [.ptr false 2 0, .ptr false 3 0, .ptr false 4 0, .ints .u64 80 s.ws, .int true .i64 (IntKind.i64.wrap (s.i + 1))],63,e5f { s with v:=e8f (d9k.getD (0 + s.i.toNat * 1) 0) (s.ws.getD s.i.toNat 0) [a,b,c,d,e,f,g,h] }):=by kernel_rfl
theorem d6w (x : Nat → AV) (s : RoS) : d8p e1k ((d8d Tryz.prog qS hS1 (fun _ _=>none) 100 (lp (blk 0 (d80 Tryz.prog 106))) ⟨d8m (ups x (d8o e1k (e5e s))) 63,e5f s⟩).go [false]) = some ([!decide (s.i < 80)],2,e5e s,63,e5f s):=by kernel_rfl
structure f8k (B l : List Int) (s0 s : RoS) : Prop where
 hB : s.B = s0.B
 hl : s.l = s0.l
 hz : s.z = s0.z
 hw : s.ws = s0.ws
 ws : s.ws = d8k 64 l 80
 lo : 0 ≤ s.i
 hi : s.i ≤ 80
 v : s.v = d8u 64 80 l B s.i.toNat
 len : B.length = 8
 wd : ∀ x ∈ B,Wd 64 x
def e03 (l : List Int) : Bool:=l.all fun x=>decide (0 ≤ x) && decide (x < 18446744073709551616)
theorem a4c {l : List Int} (h : e03 l = true) : ∀ x ∈ l,Wd 64 x:=fun x hx=>by
 have:=List.all_eq_true.1 h x hx
 simp only [Bool.and_eq_true,decide_eq_true_eq] at this
 exact ⟨this.1,by have:=this.2;omega⟩
def e8g (s : RoS) : List Bool:=[decide (s.i = 0),decide (s.ws = d8k 64 s.l 80),decide (s.v = s.B),decide (s.B.length = 8),e03 s.B]
def f1x (s : RoS) : List (Nat × AV) × Mem:=([(2, .ptr false 2 0),(4, .ptr false 3 0),(5, .ptr false 4 0)],e5f { s with v:=d8u 64 80 s.l s.B 80 })
def roΛ64 : d8r:=e0p 0 63 e1k f1w e8g f1x fun _ _=>none
set_option maxHeartbeats 1000000 in
theorem c6j : LOk Tryz.prog (d80 Tryz.prog 106) roΛ64:=by
 refine a29 (q:=qS) (n:=100) e5e e5f (fun s0 s=>f8k s0.B s0.l s0 s) (fun s=>80 - s.i.toNat) d89 c8r LOk.none LOk.none (by kernel_rfl) (by kernel_rfl) (fun s=>rfl) (fun s=>rfl) (fun avs m s h ho => ?_) (fun s0 s hJ x => ?_)
 ·unfold f1w at h
  split at h
  ·cases h
   have o1:=f9c (ho _ (f9b ..))
   have o2:=f9c (ho _ (f9a _ (f9b ..)))
   have o3:=f9c (ho _ (f9a _ (f9a _ (f9b ..))))
   have o4:=f9c (ho _ (f9a _ (f9a _ (f9a _ (f9b ..)))))
   have o5:=ho _ (f9a _ (f9a _ (f9a _ (f9a _ (f9b ..)))))
   simp only at o1 o2 o3 o4 o5
   refine ⟨_, .cons (.refl _) (.cons (.refl _) (.cons (.refl _) (.cons (.refl _) (.cons (.int _ _ _) .nil)))),rfl,⟨rfl,rfl,rfl,rfl,o2,by simp only;omega,by simp only;omega, ?_,o4,a4c o5⟩⟩
   simp only [o1,o3]
   rfl
  ·cases h
 ·have hJ':=hJ
  obtain ⟨hB,hl,hz,hw,ws,lo,hi,v,len,wd⟩:=hJ
  by_cases hk : s.i = 80
  ·refine Round.out (d6w x s) rfl ?_ (a00 (by rw [hk];rfl) d7x.nil) fun p hp => ?_
   ·obtain ⟨B,l,z,v',ws',i⟩:=s
    simp only at hB hl hz hw v hk
    subst hk v hB hl hz
    rfl
   ·simp only [f1x,List.mem_cons,List.not_mem_nil,or_false] at hp
    rcases hp with rfl | rfl | rfl
    ·exact ⟨_,by simp [e1k,e5e,d8o],Le1.refl _⟩
    ·exact ⟨_,by simp [e1k,e5e,d8o],Le1.refl _⟩
    ·exact ⟨_,by simp [e1k,e5e,d8o],Le1.refl _⟩
  ·obtain ⟨a,b,c,d,e,f,g,h,hv,wa,wb,wc,wd',we,wf,wg,wh⟩:=a1h (w:=64) (n:=80) (b:=s0.l) len wd s.i.toNat
   have hs : s = { s with v:=[a,b,c,d,e,f,g,h] }:=by
    obtain ⟨B,l,z,v',ws',i⟩:=s
    simp only at v hv ⊢
    rw [v,hv]
   have key:=d6v x s a b c d e f g h
   rw [← hs] at key
   have hi' : s.i < 80:=by omega
   have hw1 : IntKind.i64.wrap (s.i + 1) = s.i + 1:=by
    unfold IntKind.wrap;simp [IntKind.bits,IntKind.signed];omega
   have ht : (s.i + 1).toNat = s.i.toNat + 1:=by omega
   have hr : e8f (d9k.getD (0 + s.i.toNat * 1) 0) (s.ws.getD s.i.toNat 0) [a,b,c,d,e,f,g,h] = d8u 64 80 s0.l s0.B (s.i.toNat + 1):=by
    rw [c6i (K':=(KL 64).getD s.i.toNat 0) ?_ wa wb wc we wf wg]
    ·show _ = e0a _ _ _ _
     rw [hv,ws]
    ·rw [Nat.zero_add,Nat.mul_one]
     exact kl64 s.i.toNat
   refine Round.on key { s with v:=d8u 64 80 s0.l s0.B (s.i.toNat + 1),i:=s.i + 1 } [] ?_ ?_ (by simp only [hw1];exact LeL.refl _) ⟨hB,hl,hz,hw,ws,by simp only;omega,by simp only;omega,by simp only [ht],len,wd⟩ rfl (by simp only;omega)
   ·rw [hr];simp [e5f]
   ·exact a00 (decide_eq_true hi') (a00 (by simp;omega) (a00 (by simp;omega) (a00 (decide_eq_true (by omega)) d7x.nil)))
def e7d : List V → E (AV × Mem)
 | [.pl (.ints .u64 8 B), .buf false .u8 128 l]=>some ([e03 B],(.ints .u64 8 (d91 64 80 B l),[]))
 | _=>none
theorem b9v (b0 b1 b2 b3 b4 b5 b6 b7 : Int) (l : List Int) : res ((d8a Tryz.prog qS hS1 roΛ64 100 106 (d7z 0 [.pl (.ints .u64 8 [b0,b1,b2,b3,b4,b5,b6,b7]), .buf false .u8 128 l]) (d87 [.pl (.ints .u64 8 [b0,b1,b2,b3,b4,b5,b6,b7]), .buf false .u8 128 l])).go []) =
  some (e8g ⟨[b0,b1,b2,b3,b4,b5,b6,b7],l,List.replicate 8 0,[b0,b1,b2,b3,b4,b5,b6,b7],d8k 64 l 80,0⟩, .ints .u64 8 (e7c [b0,b1,b2,b3,b4,b5,b6,b7] (d8u 64 80 l [b0,b1,b2,b3,b4,b5,b6,b7] 80))):=by kernel_rfl
theorem c6k {xs : List V} {o : List Bool} {v : AV} {bs : Mem} (h : e7d xs = some (o,(v,bs))) (ho : d7x o) : d7y Tryz.prog 106 xs v bs:=by
 unfold e7d at h
 split at h
 ·rename_i B l
  cases h
  have hB:=ho _ (f9b ..)
  intro ρ vs w ha hi
  have hlen : B.length = 8:=by
   have hb:=ha
   cases hb with
   | cons _ _ _ _ r0 hb=>exact r0.wok
  have wd:=a4c hB
  obtain ⟨b0,b1,b2,b3,b4,b5,b6,b7,rfl⟩:=eight hlen
  have hp : d7x (e8g ⟨[b0,b1,b2,b3,b4,b5,b6,b7],l,List.replicate 8 0,[b0,b1,b2,b3,b4,b5,b6,b7],d8k 64 l 80,0⟩):=by
   unfold e8g
   have hv0 : [b0,b1,b2,b3,b4,b5,b6,b7] = [b0,b1,b2,b3,b4,b5,b6,b7]:=by
    rfl
   exact a00 (decide_eq_true (Eq.refl (0 : Int))) (a00 (decide_eq_true (Eq.refl (d8k 64 l 80))) (a00 (decide_eq_true hv0) (a00 (decide_eq_true hlen) (a00 hB d7x.nil))))
  exact b1n d89 d83 c8r (fun fn c hf hb=>by rw [a0r hf hb];exact c6j) [] (b9v b0 b1 b2 b3 b4 b5 b6 b7 l) hp (congrArg (AV.ints .u64 8) (c6h hlen wd)) rfl ha hi
 ·cases h
end Go.Proofs.YthelmpjkkkhopaaGreatDoor
