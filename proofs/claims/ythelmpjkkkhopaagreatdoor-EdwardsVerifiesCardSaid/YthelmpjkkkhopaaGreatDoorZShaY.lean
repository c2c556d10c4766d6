/- The reference's rounds. Own work. -/
import Derived.Test.YthelmpjkkkhopaaGreatDoorZShaU
import Derived.Test.YthelmpjkkkhopaaGreatDoorZEwC
set_option linter.unusedSimpArgs false
set_option linter.unusedVariables false
set_option linter.unusedSectionVars false
namespace Go.Proofs.YthelmpjkkkhopaaGreatDoor
open Go.Ev Go.Sh
set_option maxRecDepth 100000
structure f8y (s0 s : RcS) : Prop where
 hh : s.h = s0.h
 hl : s.l = s0.l
 hn : s.n = s0.n
 hx : s.x = s0.x
 x : s.x = d8e 80 32 s0.l 64
 lo : 0 ≤ s.i
 hi : s.i ≤ 64
 v : s.v = d8u 32 64 s0.l s0.h s.i.toNat
 len : s0.h.length = 8
 wd : ∀ y ∈ s0.h,Wd 32 y
def f2a : List AV → Mem → Option RcS
 | [.int false .i64 32, .ptr false 3 0, .ptr false 4 0, .ptr false 5 0, .int false .i64 64, .ptr false 6 0, .ptr false 7 0, .ptr false 8 0, .int _ .i64 i],[none,some ⟨false, .ints .u8 (some n) l⟩,none,some ⟨true, .ints .u64 (some 8) h⟩,some ⟨true, .ints .u64 (some 8) z⟩,some ⟨true, .ints .u64 (some 80) c⟩,some ⟨true, .ints .i64 (some 12) t⟩,some ⟨true, .ints .u64 (some 80) x⟩,some ⟨true, .ints .u64 (some 8) v⟩] =>
  match decide (z = [0,0,0,0,0,0,0,0]),decide (c = d9k),decide (t = d9i) with
  | true,true,true=>some ⟨h,l,n,x,v,i⟩
  | _,_,_=>none
 | _,_=>none
def f0b (s : RcS) : List Bool:=[decide (s.i = 0),decide (s.x = d8e 80 32 s.l 64),decide (s.v = s.h),decide (s.h.length = 8),e7b s.h]
def f0c (s : RcS) : List (Nat × AV) × Mem:=([(2, .int false .i64 32),(3, .ptr false 3 0),(6, .ptr false 4 0),(7, .ptr false 5 0),(8, .int false .i64 64),(9, .ptr false 6 0),(10, .ptr false 7 0),(13, .ptr false 8 0)],rcM d9i { s with v:=d8u 32 64 s.l s.h 64 })
def rdΛ32 (Λ : d8r) : d8r:=e0p 4 230 e6l f2a f0b f0c Λ
theorem c72 {Λ : d8r} (hΛ : LOk Tryz.prog (d80 Tryz.prog 62) Λ) : LOk Tryz.prog (d80 Tryz.prog 62) (rdΛ32 Λ):=by
 refine a29 (q:=qS) (n:=100) (rcV 32 64) (rcM d9i) f8y (fun s=>64 - s.i.toNat) d89 a9y hΛ LOk.none (by kernel_rfl) (by kernel_rfl) (fun s=>rfl) (fun s=>rfl) (fun avs m s h ho => ?_) (fun s0 s hJ x => ?_)
 ·unfold f2a at h
  split at h
  ·split at h
   ·rename_i e1 e2 e3
    cases h
    have e1':=f9c e1
    have e2':=f9c e2
    have e3':=f9c e3
    subst e1' e2' e3'
    have o1:=f9c (ho _ (f9b ..))
    have o2:=f9c (ho _ (f9a _ (f9b ..)))
    have o3:=f9c (ho _ (f9a _ (f9a _ (f9b ..))))
    have o4:=f9c (ho _ (f9a _ (f9a _ (f9a _ (f9b ..)))))
    have o5:=ho _ (f9a _ (f9a _ (f9a _ (f9a _ (f9b ..)))))
    simp only at o1 o2 o3 o4 o5
    refine ⟨_, .cons (.refl _) (.cons (.refl _) (.cons (.refl _) (.cons (.refl _) (.cons (.refl _) (.cons (.refl _) (.cons (.refl _) (.cons (.refl _) (.cons (.int _ _ _) .nil)))))))),rfl,⟨rfl,rfl,rfl,rfl,o2,by simp only;omega,by simp only;omega, ?_,o4,b89 o5⟩⟩
    simp only [o1,o3]
    rfl
   ·cases h
  ·cases h
 ·obtain ⟨hh,hl,hn,hx,xe,lo,hi,v,len,wd⟩:=hJ
  by_cases hk : s.i = 64
  ·refine Round.out (d7r x s) rfl ?_ (a00 (by rw [hk];rfl) d7x.nil) fun p hp => ?_
   ·unfold f0c rcM
    simp only [hh,hl,hn,hx,v,hk,show Int.toNat 64 = 64 from rfl]
   ·simp only [f0c,List.mem_cons,List.not_mem_nil,or_false] at hp
    rcases hp with rfl | rfl | rfl | rfl | rfl | rfl | rfl | rfl <;> exact ⟨_,by simp [e6l,rcV,d8o],Le1.refl _⟩
  ·obtain ⟨a,b,c,d,e,f,g,h,hv,wa,wb,wc,wd',we,wf,wg,wh⟩:=a1h (w:=32) (n:=64) (b:=s0.l) len wd s.i.toNat
   have hs : s = { s with v:=[a,b,c,d,e,f,g,h] }:=by
    obtain ⟨h',l,n,x',v',i⟩:=s
    simp only at v hv ⊢
    rw [v,hv]
   have key:=d7q x s a b c d e f g h
   rw [← hs] at key
   have hi' : s.i < 64:=by omega
   have hw1 : IntKind.i64.wrap (s.i + 1) = s.i + 1:=e09 (by omega)
   have ht : (s.i + 1).toNat = s.i.toNat + 1:=by omega
   have hr:=d3c (s:=s) (K':=(KL 32).getD s.i.toNat 0) (d:=d) (h:=h) (by have h:=kl32 s.i.toNat;rw [a0m (k := .u32) rfl] at h;simp only [IntKind.bits] at h;rw [Nat.zero_add,Nat.mul_one];omega) wa wb wc we wf wg
   have hxi : s.x.getD (0 + s.i.toNat * 1) 0 = (d8k 32 s0.l 64).getD s.i.toNat 0:=by
    rw [xe,Nat.zero_add,Nat.mul_one,a4f (by omega)]
   have f01 : e0a 32 ((KL 32).getD s.i.toNat 0) (s.x.getD (0 + s.i.toNat * 1) 0) [a,b,c,d,e,f,g,h] = d8u 32 64 s0.l s0.h (s.i.toNat + 1):=by
    show _ = e0a _ _ _ _
    rw [hv,hxi]
   rw [hr,f01] at key
   unfold Wd at we wa
   refine Round.on key { s with v:=d8u 32 64 s0.l s0.h (s.i.toNat + 1),i:=s.i + 1 } [] (by simp [rcM]) ?_ (by simp only [rcV,hw1];exact LeL.refl _) ⟨hh,hl,hn,hx,xe,by simp only;omega,by simp only;omega,by simp only [ht],len,wd⟩ rfl (by show 64 - (s.i + 1).toNat < 64 - s.i.toNat;omega)
   repeat' first | exact d7x.nil | refine a00 ?_ ?_
   all_goals first | rfl | exact decide_eq_true ⟨we.1,by have:=we.2;omega⟩ | exact decide_eq_true ⟨wa.1,by have:=wa.2;omega⟩ | exact decide_eq_true (by unfold e3t;rw [a0m (k := .u64) rfl];exact Int.emod_nonneg _ (by decide)) | exact decide_eq_true (by unfold e6c;rw [a0m (k := .u64) rfl];exact Int.emod_nonneg _ (by decide)) | exact decide_eq_true (by rw [a0m (k := .u64) rfl];exact Int.emod_nonneg _ (by decide)) | (simp;omega) | exact decide_eq_true (by omega)
structure f8z (s0 s : RcS) : Prop where
 hh : s.h = s0.h
 hl : s.l = s0.l
 hn : s.n = s0.n
 hx : s.x = s0.x
 x : s.x = d8e 80 64 s0.l 80
 lo : 0 ≤ s.i
 hi : s.i ≤ 80
 v : s.v = d8u 64 80 s0.l s0.h s.i.toNat
 len : s0.h.length = 8
 wd : ∀ y ∈ s0.h,Wd 64 y
def f2b : List AV → Mem → Option RcS
 | [.int false .i64 64, .ptr false 3 0, .ptr false 4 0, .ptr false 5 0, .int false .i64 80, .ptr false 6 0, .ptr false 7 0, .ptr false 8 0, .int _ .i64 i],[none,some ⟨false, .ints .u8 (some n) l⟩,none,some ⟨true, .ints .u64 (some 8) h⟩,some ⟨true, .ints .u64 (some 8) z⟩,some ⟨true, .ints .u64 (some 80) c⟩,some ⟨true, .ints .i64 (some 12) t⟩,some ⟨true, .ints .u64 (some 80) x⟩,some ⟨true, .ints .u64 (some 8) v⟩] =>
  match decide (z = [0,0,0,0,0,0,0,0]),decide (c = d9k),decide (t = d9j) with
  | true,true,true=>some ⟨h,l,n,x,v,i⟩
  | _,_,_=>none
 | _,_=>none
def f0d (s : RcS) : List Bool:=[decide (s.i = 0),decide (s.x = d8e 80 64 s.l 80),decide (s.v = s.h),decide (s.h.length = 8),e03 s.h]
def f0e (s : RcS) : List (Nat × AV) × Mem:=([(2, .int false .i64 64),(3, .ptr false 3 0),(6, .ptr false 4 0),(7, .ptr false 5 0),(8, .int false .i64 80),(9, .ptr false 6 0),(10, .ptr false 7 0),(13, .ptr false 8 0)],rcM d9j { s with v:=d8u 64 80 s.l s.h 80 })
def rdΛ64 (Λ : d8r) : d8r:=e0p 4 230 e6l f2b f0d f0e Λ
theorem c73 {Λ : d8r} (hΛ : LOk Tryz.prog (d80 Tryz.prog 62) Λ) : LOk Tryz.prog (d80 Tryz.prog 62) (rdΛ64 Λ):=by
 refine a29 (q:=qS) (n:=100) (rcV 64 80) (rcM d9j) f8z (fun s=>80 - s.i.toNat) d89 a9y hΛ LOk.none (by kernel_rfl) (by kernel_rfl) (fun s=>rfl) (fun s=>rfl) (fun avs m s h ho => ?_) (fun s0 s hJ x => ?_)
 ·unfold f2b at h
  split at h
  ·split at h
   ·rename_i e1 e2 e3
    cases h
    have e1':=f9c e1
    have e2':=f9c e2
    have e3':=f9c e3
    subst e1' e2' e3'
    have o1:=f9c (ho _ (f9b ..))
    have o2:=f9c (ho _ (f9a _ (f9b ..)))
    have o3:=f9c (ho _ (f9a _ (f9a _ (f9b ..))))
    have o4:=f9c (ho _ (f9a _ (f9a _ (f9a _ (f9b ..)))))
    have o5:=ho _ (f9a _ (f9a _ (f9a _ (f9a _ (f9b ..)))))
    simp only at o1 o2 o3 o4 o5
    refine ⟨_, .cons (.refl _) (.cons (.refl _) (.cons (.refl _) (.cons (.refl _) (.cons (.refl _) (.cons (.refl _) (.cons (.refl _) (.cons (.refl _) (.cons (.int _ _ _) .nil)))))))),rfl,⟨rfl,rfl,rfl,rfl,o2,by simp only;omega,by simp only;omega, ?_,o4,a4c o5⟩⟩
    simp only [o1,o3]
    rfl
   ·cases h
  ·cases h
 ·obtain ⟨hh,hl,hn,hx,xe,lo,hi,v,len,wd⟩:=hJ
  by_cases hk : s.i = 80
  ·refine Round.out (d7t x s) rfl ?_ (a00 (by rw [hk];rfl) d7x.nil) fun p hp => ?_
   ·unfold f0e rcM
    simp only [hh,hl,hn,hx,v,hk,show Int.toNat 80 = 80 from rfl]
   ·simp only [f0e,List.mem_cons,List.not_mem_nil,or_false] at hp
    rcases hp with rfl | rfl | rfl | rfl | rfl | rfl | rfl | rfl <;> exact ⟨_,by simp [e6l,rcV,d8o],Le1.refl _⟩
  ·obtain ⟨a,b,c,d,e,f,g,h,hv,wa,wb,wc,wd',we,wf,wg,wh⟩:=a1h (w:=64) (n:=80) (b:=s0.l) len wd s.i.toNat
   have hs : s = { s with v:=[a,b,c,d,e,f,g,h] }:=by
    obtain ⟨h',l,n,x',v',i⟩:=s
    simp only at v hv ⊢
    rw [v,hv]
   have key:=d7s x s a b c d e f g h
   rw [← hs] at key
   have hi' : s.i < 80:=by omega
   have hw1 : IntKind.i64.wrap (s.i + 1) = s.i + 1:=e09 (by omega)
   have ht : (s.i + 1).toNat = s.i.toNat + 1:=by omega
   have hr:=d3d (s:=s) (K':=(KL 64).getD s.i.toNat 0) (d:=d) (h:=h) (by rw [Nat.zero_add,Nat.mul_one];exact kl64 s.i.toNat) wa wb wc we wf wg
   have hxi : s.x.getD (0 + s.i.toNat * 1) 0 = (d8k 64 s0.l 80).getD s.i.toNat 0:=by
    rw [xe,Nat.zero_add,Nat.mul_one,a4f (by omega)]
   have f01 : e0a 64 ((KL 64).getD s.i.toNat 0) (s.x.getD (0 + s.i.toNat * 1) 0) [a,b,c,d,e,f,g,h] = d8u 64 80 s0.l s0.h (s.i.toNat + 1):=by
    show _ = e0a _ _ _ _
    rw [hv,hxi]
   rw [hr,f01] at key
   unfold Wd at we wa
   refine Round.on key { s with v:=d8u 64 80 s0.l s0.h (s.i.toNat + 1),i:=s.i + 1 } [] (by simp [rcM]) ?_ (by simp only [rcV,hw1];exact LeL.refl _) ⟨hh,hl,hn,hx,xe,by simp only;omega,by simp only;omega,by simp only [ht],len,wd⟩ rfl (by show 80 - (s.i + 1).toNat < 80 - s.i.toNat;omega)
   repeat' first | exact d7x.nil | refine a00 ?_ ?_
   all_goals first | rfl | exact decide_eq_true ⟨we.1,by have:=we.2;omega⟩ | exact decide_eq_true ⟨wa.1,by have:=wa.2;omega⟩ | exact decide_eq_true (by unfold e6d;rw [a0m (k := .u64) rfl];exact Int.emod_nonneg _ (by decide)) | exact decide_eq_true (by unfold e8l;rw [a0m (k := .u64) rfl];exact Int.emod_nonneg _ (by decide)) | exact decide_eq_true (by rw [a0m (k := .u64) rfl];exact Int.emod_nonneg _ (by decide)) | (simp;omega) | exact decide_eq_true (by omega)
end Go.Proofs.YthelmpjkkkhopaaGreatDoor
namespace Go.Proofs.YthelmpjkkkhopaaGreatDoor
open Go.Ev Go.Sh
set_option maxRecDepth 100000
def e3e (B V : List Int) : Nat → List Int
 | 0=>V
 | k + 1=>(e3e B V k).set (0 + k * 1) (IntKind.u64.wrap ((e3e B V k).getD (0 + k * 1) 0 + B.getD (0 + k * 1) 0) % 2 ^ 32)
def e7h (B V : List Int) : Nat → List Bool
 | 0=>[]
 | k + 1=>e7h B V k ++ [decide (0 ≤ IntKind.u64.wrap ((e3e B V k).getD (0 + k * 1) 0 + B.getD (0 + k * 1) 0))]
theorem c01 (b0 b1 b2 b3 b4 b5 b6 b7 : Int) (l : List Int) (n : Nat) : res ((d8a Tryz.prog qS hR2 (rbΛ32 (rdΛ32 (fun _ _=>none))) 100 62 (d7z 0 [.pl (.ints .u64 8 [b0,b1,b2,b3,b4,b5,b6,b7]), .buf true .u8 n l, .pl (.int false .i64 32)]) (d87 [.pl (.ints .u64 8 [b0,b1,b2,b3,b4,b5,b6,b7]), .buf true .u8 n l, .pl (.int false .i64 32)])).go []) =
  some (f05 ⟨[b0,b1,b2,b3,b4,b5,b6,b7],l,n,n,List.replicate 80 0,0⟩ ++ (f0b ⟨[b0,b1,b2,b3,b4,b5,b6,b7],l,n,d8e 80 32 l 64,[b0,b1,b2,b3,b4,b5,b6,b7],0⟩ ++ e7h [b0,b1,b2,b3,b4,b5,b6,b7] (d8u 32 64 l [b0,b1,b2,b3,b4,b5,b6,b7] 64) 8), .ints .u64 8 (e3e [b0,b1,b2,b3,b4,b5,b6,b7] (d8u 32 64 l [b0,b1,b2,b3,b4,b5,b6,b7] 64) 8)):=by kernel_rfl
def e4o (B V : List Int) : Nat → List Int
 | 0=>V
 | k + 1=>(e4o B V k).set (0 + k * 1) (IntKind.u64.wrap ((e4o B V k).getD (0 + k * 1) 0 + B.getD (0 + k * 1) 0))
theorem c02 (b0 b1 b2 b3 b4 b5 b6 b7 : Int) (l : List Int) (n : Nat) : res ((d8a Tryz.prog qS hR2 (rbΛ64 (rdΛ64 (fun _ _=>none))) 100 62 (d7z 0 [.pl (.ints .u64 8 [b0,b1,b2,b3,b4,b5,b6,b7]), .buf true .u8 n l, .pl (.int false .i64 64)]) (d87 [.pl (.ints .u64 8 [b0,b1,b2,b3,b4,b5,b6,b7]), .buf true .u8 n l, .pl (.int false .i64 64)])).go []) =
  some (f08 ⟨[b0,b1,b2,b3,b4,b5,b6,b7],l,n,n,List.replicate 80 0,0⟩ ++ (f0d ⟨[b0,b1,b2,b3,b4,b5,b6,b7],l,n,d8e 80 64 l 80,[b0,b1,b2,b3,b4,b5,b6,b7],0⟩ ++ []), .ints .u64 8 (e4o [b0,b1,b2,b3,b4,b5,b6,b7] (d8u 64 80 l [b0,b1,b2,b3,b4,b5,b6,b7] 80) 8)):=by kernel_rfl
end Go.Proofs.YthelmpjkkkhopaaGreatDoor
namespace Go.Proofs.YthelmpjkkkhopaaGreatDoor
open Go.Ev Go.Sh
set_option maxRecDepth 100000
theorem c74 (b0 b1 b2 b3 b4 b5 b6 b7 a0 a1 a2 a3 a4 a5 a6 a7 : Int) : e3e [b0,b1,b2,b3,b4,b5,b6,b7] [a0,a1,a2,a3,a4,a5,a6,a7] 8 = [IntKind.u64.wrap (a0 + b0) % 2 ^ 32,IntKind.u64.wrap (a1 + b1) % 2 ^ 32,IntKind.u64.wrap (a2 + b2) % 2 ^ 32,IntKind.u64.wrap (a3 + b3) % 2 ^ 32,IntKind.u64.wrap (a4 + b4) % 2 ^ 32,IntKind.u64.wrap (a5 + b5) % 2 ^ 32,IntKind.u64.wrap (a6 + b6) % 2 ^ 32,IntKind.u64.wrap (a7 + b7) % 2 ^ 32]:=by kernel_rfl
theorem c3u {l B : List Int} (hB : B.length = 8) (wd : ∀ x ∈ B,Wd 32 x) : e3e B (d8u 32 64 l B 64) 8 = d91 32 64 B l:=by
 obtain ⟨a,b,c,d,e,f,g,h,hv,wa,wb,wc,wd',we,wf,wg,wh⟩:=a1h (w:=32) (n:=64) (b:=l) hB wd 64
 unfold d91
 rw [hv]
 obtain ⟨b0,b1,b2,b3,b4,b5,b6,b7,rfl⟩:=eight hB
 rw [c74]
 simp only [List.zipWith_cons_cons,List.zipWith_nil_left,a0m (k := .u64) rfl,IntKind.bits,Int.reducePow,List.cons.injEq,and_true]
 refine ⟨?_, ?_, ?_, ?_, ?_, ?_, ?_, ?_⟩ <;> omega
theorem c75 (b0 b1 b2 b3 b4 b5 b6 b7 a0 a1 a2 a3 a4 a5 a6 a7 : Int) : e4o [b0,b1,b2,b3,b4,b5,b6,b7] [a0,a1,a2,a3,a4,a5,a6,a7] 8 = [IntKind.u64.wrap (a0 + b0),IntKind.u64.wrap (a1 + b1),IntKind.u64.wrap (a2 + b2),IntKind.u64.wrap (a3 + b3),IntKind.u64.wrap (a4 + b4),IntKind.u64.wrap (a5 + b5),IntKind.u64.wrap (a6 + b6),IntKind.u64.wrap (a7 + b7)]:=by kernel_rfl
theorem c3v {l B : List Int} (hB : B.length = 8) (wd : ∀ x ∈ B,Wd 64 x) : e4o B (d8u 64 80 l B 80) 8 = d91 64 80 B l:=by
 obtain ⟨a,b,c,d,e,f,g,h,hv,wa,wb,wc,wd',we,wf,wg,wh⟩:=a1h (w:=64) (n:=80) (b:=l) hB wd 80
 unfold d91
 rw [hv]
 obtain ⟨b0,b1,b2,b3,b4,b5,b6,b7,rfl⟩:=eight hB
 rw [c75]
 simp only [List.zipWith_cons_cons,List.zipWith_nil_left,a0m (k := .u64) rfl,IntKind.bits,Int.reducePow,List.cons.injEq,and_true]
 refine ⟨?_, ?_, ?_, ?_, ?_, ?_, ?_, ?_⟩ <;> omega
theorem a93 (B V : List Int) : ∀ k,d7x (e7h B V k)
 | 0=>d7x.nil
 | k + 1=>a01.2 ⟨a93 B V k,a00 (decide_eq_true (by rw [a0m (k := .u64) rfl];exact Int.emod_nonneg _ (by decide))) d7x.nil⟩
def f98 : List V → E (AV × Mem)
 | [.pl (.ints .u64 8 B), .buf true .u8 n l, .pl (.int false .i64 32)]=>some ([e7b B,decide (n = 64)],(.ints .u64 8 (d91 32 64 B l),[]))
 | [.pl (.ints .u64 8 B), .buf true .u8 n l, .pl (.int false .i64 64)]=>some ([e03 B,decide (n = 128)],(.ints .u64 8 (d91 64 80 B l),[]))
 | _=>none
theorem d7v {xs : List V} {o : List Bool} {v : AV} {bs : Mem} (h : f98 xs = some (o,(v,bs))) (ho : d7x o) : d7y Tryz.prog 62 xs v bs:=by
 unfold f98 at h
 split at h
 ·rename_i B n l
  cases h
  have hB:=ho _ (f9b ..)
  have hn:=f9c (ho _ (f9a _ (f9b ..)))
  subst hn
  intro ρ vs w ha hi
  have hlen : B.length = 8:=by
   have hb:=ha
   cases hb with
   | cons _ _ _ _ r0 hb=>exact r0.wok
  obtain ⟨cs2,t2,lo2,hi2,c1,c2,c3,c4,c5⟩:=(hi.sim.blk 1 _ rfl).ex
  have hl : l.length = 64:=c5.1 _ rfl
  have hin : ∀ x ∈ l,inR .u8 x = true:=a3c c5
  have wd:=b89 hB
  obtain ⟨b0,b1,b2,b3,b4,b5,b6,b7,rfl⟩:=eight hlen
  have hp1 : d7x (f05 ⟨[b0,b1,b2,b3,b4,b5,b6,b7],l,64,64,List.replicate 80 0,0⟩):=
   a00 (decide_eq_true (Eq.refl (0 : Int))) (a00 (decide_eq_true (Eq.refl (64 : Nat))) (a00 (decide_eq_true (Eq.refl (64 : Nat))) (a00 (decide_eq_true hl) (a00 (List.all_eq_true.2 hin) (a00 (decide_eq_true (Eq.refl (List.replicate 80 (0 : Int)))) d7x.nil)))))
  have hp2 : d7x (f0b ⟨[b0,b1,b2,b3,b4,b5,b6,b7],l,64,d8e 80 32 l 64,[b0,b1,b2,b3,b4,b5,b6,b7],0⟩):=
   a00 (decide_eq_true (Eq.refl (0 : Int))) (a00 (decide_eq_true (Eq.refl (d8e 80 32 l 64))) (a00 (decide_eq_true (Eq.refl [b0,b1,b2,b3,b4,b5,b6,b7])) (a00 (decide_eq_true hlen) (a00 hB d7x.nil))))
  exact b1n d89 d83 a9y (fun fn c hf hb=>by rw [a0r hf hb];exact c70 (c72 LOk.none)) [] (c01 b0 b1 b2 b3 b4 b5 b6 b7 l 64) (a01.2 ⟨hp1,a01.2 ⟨hp2,a93 _ _ 8⟩⟩) (congrArg (AV.ints .u64 8) (c3u hlen wd)) rfl ha hi
 ·rename_i B n l
  cases h
  have hB:=ho _ (f9b ..)
  have hn:=f9c (ho _ (f9a _ (f9b ..)))
  subst hn
  intro ρ vs w ha hi
  have hlen : B.length = 8:=by
   have hb:=ha
   cases hb with
   | cons _ _ _ _ r0 hb=>exact r0.wok
  obtain ⟨cs2,t2,lo2,hi2,c1,c2,c3,c4,c5⟩:=(hi.sim.blk 1 _ rfl).ex
  have hl : l.length = 128:=c5.1 _ rfl
  have hin : ∀ x ∈ l,inR .u8 x = true:=a3c c5
  have wd:=a4c hB
  obtain ⟨b0,b1,b2,b3,b4,b5,b6,b7,rfl⟩:=eight hlen
  have hp1 : d7x (f08 ⟨[b0,b1,b2,b3,b4,b5,b6,b7],l,128,128,List.replicate 80 0,0⟩):=
   a00 (decide_eq_true (Eq.refl (0 : Int))) (a00 (decide_eq_true (Eq.refl (128 : Nat))) (a00 (decide_eq_true (Eq.refl (128 : Nat))) (a00 (decide_eq_true hl) (a00 (List.all_eq_true.2 hin) (a00 (decide_eq_true (Eq.refl (List.replicate 80 (0 : Int)))) d7x.nil)))))
  have hp2 : d7x (f0d ⟨[b0,b1,b2,b3,b4,b5,b6,b7],l,128,d8e 80 64 l 80,[b0,b1,b2,b3,b4,b5,b6,b7],0⟩):=
   a00 (decide_eq_true (Eq.refl (0 : Int))) (a00 (decide_eq_true (Eq.refl (d8e 80 64 l 80))) (a00 (decide_eq_true (Eq.refl [b0,b1,b2,b3,b4,b5,b6,b7])) (a00 (decide_eq_true hlen) (a00 hB d7x.nil))))
  exact b1n d89 d83 a9y (fun fn c hf hb=>by rw [a0r hf hb];exact c71 (c73 LOk.none)) [] (c02 b0 b1 b2 b3 b4 b5 b6 b7 l 128) (a01.2 ⟨hp1,a01.2 ⟨hp2,d7x.nil⟩⟩) (congrArg (AV.ints .u64 8) (c3v hlen wd)) rfl ha hi
 ·cases h
def hr3S : d82:=d84 62 f98 f01
theorem d3e : HOk Tryz.prog hr3S:=c3o.d84 fun _ _ _ _ h ho=>d7v h ho
noncomputable def e95 : d82:=deep Tryz.prog qS hr3S 100 3
theorem b6w : HOk Tryz.prog e95:=d3e.deep d89 d83 100 3
end Go.Proofs.YthelmpjkkkhopaaGreatDoor
namespace Go.Sh
open Go.Ev
theorem b4k {w : Nat} {p q : List Int} (hp : w / 8 * 16 ≤ p.length) : ∀ n,d8k w (p ++ q) n = d8k w p n
 | 0=>rfl
 | n + 1=>by
  unfold d8k
  rw [b4k hp n]
  congr 2
  unfold d9r
  split
  ·rename_i h
   have h1 : w / 8 * (d8k w p n).length + w / 8 ≤ w / 8 * 16:=by
    have:=Nat.mul_le_mul_left (w / 8) (show (d8k w p n).length + 1 ≤ 16 by omega)
    rw [Nat.mul_add,Nat.mul_one] at this
    exact this
   rw [List.drop_append_of_le_length (by omega),List.take_append_of_le_length (by rw [List.length_drop];omega)]
  ·rfl
theorem a9z {w N : Nat} {p q v : List Int} (hp : w / 8 * 16 ≤ p.length) : ∀ n,d8u w N (p ++ q) v n = d8u w N p v n
 | 0=>rfl
 | n + 1=>by unfold d8u;rw [a9z hp n,b4k hp]
theorem c3w {w N : Nat} {p q v : List Int} (hp : w / 8 * 16 ≤ p.length) : d91 w N v (p ++ q) = d91 w N v p:=by
 unfold d91;rw [a9z hp]
def e1q (w N B : Nat) (v l : List Int) : Nat → List Int
 | 0=>v
 | i + 1=>d91 w N (e1q w N B v l i) ((l.drop (B * i)).take B)
theorem b8f {w N B : Nat} {v l : List Int} (hv : v.length = 8) (wd : ∀ x ∈ v,Wd w x) : ∀ i,(e1q w N B v l i).length = 8 ∧ ∀ x ∈ e1q w N B v l i,Wd w x
 | 0=>⟨hv,wd⟩
 | i + 1=>by
  obtain ⟨h1,h2⟩:=b8f (N:=N) (B:=B) (l:=l) hv wd i
  exact b1o h1 h2
theorem b00 {w N B : Nat} (hB : 0 < B) (hB2 : B ≤ 128) (hw : w / 8 * 16 ≤ B) (hd : (2 : Int) ^ 64 % (B : Int) = 0) {v l : List Int} : ∀ k,B * k ≤ l.length →
  stW w N B v e1l 0 (l.take (B * k)) = (e1q w N B v l k,e1l,((B * k : Nat) : Int) % 2 ^ 64)
 | 0,_=>by simp [stW,e1q]
 | k + 1,h=>by
  have hk : B * k + B ≤ l.length:=by rw [Nat.mul_add,Nat.mul_one] at h;exact h
  have ih:=b00 (N:=N) hB hB2 hw hd (v:=v) (l:=l) k (by omega)
  have hsp : l.take (B * (k + 1)) = l.take (B * k) ++ (l.drop (B * k)).take B:=by
   rw [Nat.mul_add,Nat.mul_one,List.take_add]
  have hlen : ((l.drop (B * k)).take B).length = B:=by rw [List.length_take,List.length_drop];omega
  unfold stW at ih ⊢
  rw [hsp,List.foldl_append,ih]
  have hc0 : ((B * k : Nat) : Int) % 2 ^ 64 % (B : Int) = 0:=by
   rw [Int.emod_emod_of_dvd _ (Int.dvd_of_emod_eq_zero hd),Int.natCast_mul,Int.mul_emod_right]
  have hc1 : 0 ≤ ((B * k : Nat) : Int) % 2 ^ 64 ∧ ((B * k : Nat) : Int) % 2 ^ 64 < 2 ^ 64:=⟨Int.emod_nonneg _ (by decide),Int.emod_lt_of_pos _ (by decide)⟩
  rw [a79 hB hB2 hd (by unfold e1l;exact List.length_replicate) hc1 (by intro h0S;rw [h0S] at hlen;simp at hlen;omega) (by rw [hc0,hlen];simp)]
  rw [hc0,hlen]
  simp only [Int.toNat_zero,Nat.zero_add,if_true,List.take_zero,List.nil_append]
  rw [c3w (by rw [hlen];exact hw)]
  refine Prod.ext rfl (Prod.ext rfl ?_)
  show (((B * k : Nat) : Int) % 2 ^ 64 + (B : Int)) % 2 ^ 64 = ((B * (k + 1) : Nat) : Int) % 2 ^ 64
  rw [Nat.mul_add,Nat.mul_one]
  omega
theorem b4l {w N B : Nat} : ∀ (l ws op : List Int) (c : Int),0 ≤ c ∧ c < 2 ^ 64 → (stW w N B ws op c l).2.2 = (c + (l.length : Int)) % 2 ^ 64
 | [],ws,op,c,h=>by
  show c = (c + 0) % 2 ^ 64
  omega
 | x :: l,ws,op,c,h=>by
  have hb : (d9w w N B (ws,op,c) x).2.2 = (c + 1) % 2 ^ 64:=by unfold d9w;split <;> rfl
  have ih:=b4l (w:=w) (N:=N) (B:=B) l (d9w w N B (ws,op,c) x).1 (d9w w N B (ws,op,c) x).2.1 (d9w w N B (ws,op,c) x).2.2 (by rw [hb];omega)
  have e : stW w N B ws op c (x :: l) = stW w N B (d9w w N B (ws,op,c) x).1 (d9w w N B (ws,op,c) x).2.1 (d9w w N B (ws,op,c) x).2.2 l:=rfl
  rw [e,ih,hb,List.length_cons]
  omega
def e0v (B : Nat) (l : List Int) : List Int:=l ++ d8s (d85 B (l.length : Int)) (l.length : Int) 8
theorem b4m {B : Nat} (hB : B = 64 ∨ B = 128) (l : List Int) : (e0v B l).length % B = 0 ∧ (e0v B l).length = l.length + d85 B (l.length : Int):=by
 have hr:=a0s (B:=B) (by omega) (l.length : Int)
 have e : (e0v B l).length = l.length + d85 B (l.length : Int):=by unfold e0v;rw [List.length_append,a1t hr.1]
 refine ⟨?_,e⟩
 rw [e]
 unfold d85
 rcases hB with rfl | rfl <;> split <;> omega
def e3u (w N B : Nat) (v l : List Int) : List Int:=e1q w N B v (e0v B l) ((e0v B l).length / B)
theorem b4n {w N B : Nat} (hB : B = 64 ∨ B = 128) (hw : w / 8 * 16 ≤ B) {v l : List Int} (hl : l.length < 2 ^ 60) :
  (e2r w N B (stW w N B v e1l 0 l).1 (stW w N B v e1l 0 l).2.1 (stW w N B v e1l 0 l).2.2).1 = e3u w N B v l:=by
 have hc : (stW w N B v e1l 0 l).2.2 = (l.length : Int):=by
  rw [b4l _ _ _ _ (by omega)];omega
 have e : e2r w N B (stW w N B v e1l 0 l).1 (stW w N B v e1l 0 l).2.1 (stW w N B v e1l 0 l).2.2 = stW w N B v e1l 0 (e0v B l):=by
  unfold e2r e0v
  rw [hc]
  conv=>rhs;unfold stW;rw [List.foldl_append]
  conv=>lhs;unfold stW
  congr 1
  exact Prod.ext rfl (Prod.ext rfl hc.symm)
 rw [e]
 obtain ⟨h1,h2⟩:=b4m hB l
 have hk : B * ((e0v B l).length / B) = (e0v B l).length:=by rcases hB with rfl | rfl <;> omega
 have:=b00 (w:=w) (N:=N) (B:=B) (by omega) (by omega) hw (by rcases hB with rfl | rfl <;> decide) (v:=v) (l:=e0v B l) ((e0v B l).length / B) (by omega)
 rw [hk,List.take_of_length_le (Nat.le_refl _)] at this
 rw [this]
 rfl
end Go.Sh
