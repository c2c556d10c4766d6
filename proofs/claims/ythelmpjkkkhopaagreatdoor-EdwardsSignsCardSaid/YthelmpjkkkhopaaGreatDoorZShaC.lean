/- The program's hashes under way: blocks that became whole, bytes that are written. Own work. -/
import Derived.Test.YthelmpjkkkhopaaGreatDoorZShaB
set_option linter.unusedSimpArgs false
set_option linter.unusedVariables false
set_option linter.unusedSectionVars false
namespace Go.Sh
open Go.Ev
def e1l : List Int:=List.replicate 128 0
def d9w (w N B : Nat) (st : List Int × List Int × Int) (x : Int) : List Int × List Int × Int:=
 if (st.2.2 % (B : Int)).toNat + 1 = B then (d91 w N st.1 (st.2.1.set (st.2.2 % (B : Int)).toNat x),e1l,(st.2.2 + 1) % 2 ^ 64) else (st.1,st.2.1.set (st.2.2 % (B : Int)).toNat x,(st.2.2 + 1) % 2 ^ 64)
theorem b4e {l : List Int} {i : Nat} {x : Int} (h : i < l.length) : l.set i x = l.take i ++ [x] ++ l.drop (i + 1):=by
 rw [List.set_eq_take_append_cons_drop,if_pos h];simp
theorem d2r {B : Nat} (hB : 0 < B) (hd : (2 : Int) ^ 64 % (B : Int) = 0) {c : Int} (h : 0 ≤ c) (hlt : (c % (B : Int)).toNat + 1 < B) : ((c + 1) % 2 ^ 64 % (B : Int)).toNat = (c % (B : Int)).toNat + 1:=by
 have hB' : (0 : Int) < B:=by omega
 have h0S:=Int.emod_nonneg c (Int.ne_of_gt hB')
 rw [Int.emod_emod_of_dvd _ (Int.dvd_of_emod_eq_zero hd),Int.add_emod]
 have h1 : (1 : Int) % B = 1:=Int.emod_eq_of_lt (by omega) (by omega)
 rw [h1,Int.emod_eq_of_lt (by omega) (by omega)]
 omega
theorem a79 {w N B : Nat} (hB : 0 < B) (hB2 : B ≤ 128) (hd : (2 : Int) ^ 64 % (B : Int) = 0) : ∀ {p ws op : List Int} {c : Int},op.length = 128 → 0 ≤ c ∧ c < 2 ^ 64 → p ≠ [] → (c % (B : Int)).toNat + p.length ≤ B →
  p.foldl (d9w w N B) (ws,op,c) = if (c % (B : Int)).toNat + p.length = B then (d91 w N ws (op.take (c % (B : Int)).toNat ++ p ++ op.drop ((c % (B : Int)).toNat + p.length)),e1l,(c + (p.length : Int)) % 2 ^ 64)
   else (ws,op.take (c % (B : Int)).toNat ++ p ++ op.drop ((c % (B : Int)).toNat + p.length),(c + (p.length : Int)) % 2 ^ 64)
 | [],ws,op,c,hop,hc,hp,hle=>absurd rfl hp
 | [x],ws,op,c,hop,hc,hp,hle=>by
  simp only [List.length_cons,List.length_nil] at hle
  simp only [List.foldl_cons,List.foldl_nil,d9w,List.length_cons,List.length_nil]
  rw [b4e (show (c % (B : Int)).toNat < op.length by omega)]
  rfl
 | x :: y :: q,ws,op,c,hop,hc,hp,hle=>by
  simp only [List.length_cons] at hle
  have hlt : (c % (B : Int)).toNat + 1 < B:=by omega
  have hat:=d2r hB hd hc.1 hlt
  have hne : ¬ (c % (B : Int)).toNat + 1 = B:=by omega
  have e : (x :: y :: q).foldl (d9w w N B) (ws,op,c) = (y :: q).foldl (d9w w N B) (ws,op.set (c % (B : Int)).toNat x,(c + 1) % 2 ^ 64):=by
   rw [List.foldl_cons]
   congr 1
   simp only [d9w,if_neg hne]
  have ih:=a79 (w:=w) (N:=N) hB hB2 hd (p:=y :: q) (ws:=ws) (op:=op.set (c % (B : Int)).toNat x) (c:=(c + 1) % 2 ^ 64) (by simp [hop]) ⟨by omega,by omega⟩ (by simp) (by rw [hat];simp only [List.length_cons];omega)
  rw [e,ih,hat]
  generalize hA : (c % (B : Int)).toNat = A at *
  have h1 : (op.set A x).take (A + 1) = op.take A ++ [x]:=by
   rw [b4e (by omega),List.append_assoc,List.take_append,List.length_take,show min A op.length = A by omega,List.take_of_length_le (by rw [List.length_take];omega),show A + 1 - A = 1 by omega]
   simp
  have h2 : (op.set A x).drop (A + 1 + (y :: q).length) = op.drop (A + 1 + (y :: q).length):=by
   rw [List.drop_set_of_lt (by omega)]
  have h3 : ((c + 1) % 2 ^ 64 + ((y :: q).length : Int)) % 2 ^ 64 = (c + ((x :: y :: q).length : Int)) % 2 ^ 64:=by
   simp only [List.length_cons];omega
  have h4 : A + 1 + (y :: q).length = A + (x :: y :: q).length:=by simp only [List.length_cons];omega
  rw [h1,h2,h3,h4]
  simp
theorem b1o {w N : Nat} {v l : List Int} (hv : v.length = 8) (wd : ∀ x ∈ v,Wd w x) : (d91 w N v l).length = 8 ∧ ∀ x ∈ d91 w N v l,Wd w x:=by
 obtain ⟨a,b,c,d,e,f,g,h,hr,_⟩:=a1h (w:=w) (n:=N) (b:=l) hv wd N
 unfold d91
 rw [hr]
 obtain ⟨b0,b1,b2,b3,b4,b5,b6,b7,rfl⟩:=eight hv
 refine ⟨rfl,fun x hx => ?_⟩
 simp only [List.zipWith_cons_cons,List.zipWith_nil_left,List.mem_cons,List.not_mem_nil,or_false] at hx
 rcases hx with rfl | rfl | rfl | rfl | rfl | rfl | rfl | rfl <;> exact c3e _ _
end Go.Sh
namespace Go.Ev
theorem Inv.mark [Tab] {w0 : World} {S N : Nat → Prop} {ρ : Nat → d8c} {g g' : Nat → Option Blk} {w : World} (h : Inv w0 S N ρ g w)
  (hg : ∀ n b,g' n = some b → ∃ b',g n = some b' ∧ b.rw = b'.rw ∧ d8x b.c = d8x b'.c ∧ ∀ (f : Nat → Option Value),d90 ρ N b'.c f → d90 ρ N b.c f) : Inv w0 S N ρ g' w:=by
 refine ⟨⟨fun n b hn => ?_,fun i j bi bj hi hj hij hr => ?_,fun n b hn => ?_,h.sim.tab,fun G c hG n b hn hr => ?_⟩,h.size,h.frame,h.os,h.tape,h.output,fun n b hn hr => ?_⟩
 ·obtain ⟨b',h1,h2,h3,h4⟩:=hg n b hn
  obtain ⟨cs,t,lo,hi,a1,a2,a3,a4,a5⟩:=(h.sim.blk n b' h1).ex
  exact ⟨cs,t,lo,hi,a1,a2,fun hr=>a3 (by rw [← h2];exact hr),by rw [h3];exact a4,h4 _ a5⟩
 ·obtain ⟨bi',h1,h2,_⟩:=hg i bi hi
  obtain ⟨bj',h4,_⟩:=hg j bj hj
  exact h.sim.inj i j bi' bj' h1 h4 hij (by rw [← h2];exact hr)
 ·obtain ⟨b',h1,_⟩:=hg n b hn
  exact h.sim.live n b' h1
 ·obtain ⟨b',h1,h2,_⟩:=hg n b hn
  exact h.sim.apart G c hG n b' h1 (by rw [← h2];exact hr)
 ·obtain ⟨b',h1,h2,_⟩:=hg n b hn
  exact h.rws n b' h1 (by rw [← h2];exact hr)
end Go.Ev
namespace Go.Proofs.YthelmpjkkkhopaaGreatDoor
open Go.Ev Go.Sh
set_option maxRecDepth 100000
def hs2 : d82:=d84 106 e7d hs1
theorem c8s : HOk Tryz.prog hs2:=c8q.d84 fun _ _ _ _ h ho=>c6k h ho
noncomputable def hS2 : d82:=deep Tryz.prog qS hs2 100 3
theorem d6x : HOk Tryz.prog hS2:=c8s.deep d89 d83 100 3
def d8j (k : Int) (ws op : List Int) (s : Bool) (c : Int) : Cells := .wide [.int false .i64 k, .ints .u64 8 ws, .ints .u8 128 op, .int s .u64 c]
theorem c6l (ws op : List Int) (s : Bool) (c : Int) : (d8a Tryz.prog qS hS2 (fun _ _=>none) 100 85 (d7z 0 [.ptw (d8j 512 ws op s c)]) (d87 [.ptw (d8j 512 ws op s c)])).flat =
  some ([e03 ws],(.tuple [],[some ⟨true,d8j 512 (d91 64 80 ws op) e1l s c⟩])):=by kernel_rfl
def f8l : List V → E (AV × List Cells × Mem)
 | [.ptw (.wide [.int false .i64 512, .ints .u64 8 ws, .ints .u8 128 op, .int s .u64 c])]=>some ([e03 ws],(.tuple [],[d8j 512 (d91 64 80 ws op) e1l s c],[]))
 | _=>none
theorem d6y {xs : List V} {o : List Bool} {v : AV} {cs : List Cells} {bs : Mem} (h : f8l xs = some (o,(v,cs,bs))) (ho : d7x o) : d99 Tryz.prog 85 xs v cs bs:=by
 unfold f8l at h
 split at h
 ·cases h
  exact a6l d89 d83 d6x (fun _ _ _ _=>LOk.none) (c6l _ _ _ _) ho rfl rfl
 ·cases h
def hs3 : d82:=e4h 85 [true] f8l hs2
theorem c8t : HOk Tryz.prog hs3:=c8s.e4h fun _ _ _ _ _ h ho=>d6y h ho
noncomputable def hS3 : d82:=deep Tryz.prog qS hs3 100 3
theorem c8u : HOk Tryz.prog hS3:=c8t.deep d89 d83 100 3
theorem b1p {l : List Int} (h : ∀ x ∈ l,Wd 64 x) : e03 l = true:=List.all_eq_true.2 fun x hx=>by
 have:=h x hx
 simp only [Bool.and_eq_true,decide_eq_true_eq]
 exact ⟨this.1,by have:=this.2;omega⟩
structure WrS where
 ws : List Int
 op : List Int
 c : Int
 n : Nat
 l : List Int
 o : Nat
 m : Nat
def e9x : List Nat:=[0,1,4]
def wrV (B : Int) (s : WrS) : List AV:=[.ptr false 0 0, .slice true 1 s.o s.m none 1, .int false .i64 B]
def wrM (k : Int) (s : WrS) : Mem:=[some ⟨true,d8j k s.ws s.op true s.c⟩,some ⟨false, .ints .u8 (some s.n) s.l⟩]
def aW (B : Int) (s : WrS) : Int:=IntKind.i64.wrap (s.c.tmod (IntKind.u64.wrap B))
def nW (B : Int) (s : WrS) : Nat:=Nat.min s.m (B.toNat - (aW B s).toNat)
def oW (B : Int) (s : WrS) : List Int:=s.op.take (aW B s).toNat ++ (((s.l.drop s.o).take s.m).take (nW B s)) ++ s.op.drop ((aW B s).toNat + nW B s)
def cW (B : Int) (s : WrS) : Int:=IntKind.u64.wrap (s.c + IntKind.u64.wrap ((nW B s : Nat) : Int))
def dW (B : Int) (s : WrS) : List Bool:=[decide (s.m < 9223372036854775808),decide ((s.m : Int) > 0),decide (0 ≤ aW B s) && decide (aW B s ≤ ((B.toNat : Nat) : Int)),decide (s.o + s.m ≤ s.n),decide (B.toNat - (aW B s).toNat < 9223372036854775808),decide ((aW B s).toNat + nW B s ≤ 128),decide (0 ≤ ((nW B s : Nat) : Int)) && decide (((nW B s : Nat) : Int) ≤ ((s.m : Nat) : Int))]
structure WrJ (w N B : Nat) (s0 s : WrS) : Prop where
 hn : s.n = s0.n
 hl : s.l = s0.l
 len : s.l.length = s.n
 small : s.n < 9223372036854775808
 op : s.op.length = 128
 ws : s.ws.length = 8
 wd : ∀ x ∈ s.ws,Wd w x
 c0 : 0 ≤ s.c ∧ s.c < 2 ^ 64
 le : s.o + s.m ≤ s.n
 same : ((s.l.drop s.o).take s.m).foldl (d9w w N B) (s.ws,s.op,s.c) = ((s0.l.drop s0.o).take s0.m).foldl (d9w w N B) (s0.ws,s0.op,s0.c)
theorem f8m {B : Nat} (hB : 0 < B ∧ B ≤ 128) {s : WrS} (h : 0 ≤ s.c ∧ s.c < 2 ^ 64) : aW (B : Int) s = ((s.c % (B : Int)).toNat : Nat) ∧ (s.c % (B : Int)).toNat < B:=by
 have e1 : IntKind.u64.wrap (B : Int) = B:=a4e (k := .u64) rfl ⟨by omega,by simp only [IntKind.bits];omega⟩
 have h1:=Int.emod_nonneg s.c (show (B : Int) ≠ 0 by omega)
 have h2:=Int.emod_lt_of_pos s.c (show (0 : Int) < B by omega)
 unfold aW
 rw [e1,Int.tmod_eq_emod_of_nonneg h.1]
 refine ⟨?_,by omega⟩
 unfold IntKind.wrap
 simp [IntKind.bits,IntKind.signed]
 omega
theorem d6z (x : Nat → AV) (s : WrS) : d8p e9x ((d8d Tryz.prog qS hS3 (fun _ _=>none) 100 (lp (blk 0 (d80 Tryz.prog 50))) ⟨d8m (ups x (d8o e9x (wrV 128 s))) 53,wrM 512 s⟩).go [true,true]) = some (dW 128 s ++ [(IntKind.i64.wrap (aW 128 s + ((nW 128 s : Nat) : Int)) == 128),e03 s.ws],0,[.ptr false 0 0, .slice true 1 (s.o + ((nW 128 s : Nat) : Int).toNat * 1) (s.m - ((nW 128 s : Nat) : Int).toNat) none 1, .int false .i64 128],53,wrM 512 { s with ws:=d91 64 80 s.ws (oW 128 s),op:=e1l,c:=cW 128 s }):=by kernel_rfl
theorem d70 (x : Nat → AV) (s : WrS) : d8p e9x ((d8d Tryz.prog qS hS3 (fun _ _=>none) 100 (lp (blk 0 (d80 Tryz.prog 50))) ⟨d8m (ups x (d8o e9x (wrV 128 s))) 53,wrM 512 s⟩).go [true,false]) = some (dW 128 s ++ [!(IntKind.i64.wrap (aW 128 s + ((nW 128 s : Nat) : Int)) == 128)],0,[.ptr false 0 0, .slice true 1 (s.o + ((nW 128 s : Nat) : Int).toNat * 1) (s.m - ((nW 128 s : Nat) : Int).toNat) none 1, .int false .i64 128],53,wrM 512 { s with op:=oW 128 s,c:=cW 128 s }):=by kernel_rfl
theorem d71 (x : Nat → AV) (s : WrS) : d8p e9x ((d8d Tryz.prog qS hS3 (fun _ _=>none) 100 (lp (blk 0 (d80 Tryz.prog 50))) ⟨d8m (ups x (d8o e9x (wrV 128 s))) 53,wrM 512 s⟩).go [false]) = some ([decide (s.m < 9223372036854775808), !decide ((s.m : Int) > 0)],2,wrV 128 s,53,wrM 512 s):=by kernel_rfl
def e8x : List AV → Mem → Option WrS
 | [.ptr false 0 0, .slice true 1 o m none 1, .int false .i64 128],[some ⟨true, .wide [.int false .i64 512, .ints .u64 8 ws, .ints .u8 128 op, .int true .u64 c]⟩,some ⟨false, .ints .u8 (some n) l⟩]=>some ⟨ws,op,c,n,l,o,m⟩
 | _,_=>none
def e8y (s : WrS) : List Bool:=[decide (s.l.length = s.n),decide (s.n < 9223372036854775808),decide (s.op.length = 128),decide (s.ws.length = 8),e03 s.ws,decide (0 ≤ s.c ∧ s.c < 18446744073709551616),decide (s.o + s.m ≤ s.n)]
def d8h (s : WrS) : List Int × List Int × Int:=((s.l.drop s.o).take s.m).foldl (d9w 64 80 128) (s.ws,s.op,s.c)
def e8z (s : WrS) : List (Nat × AV) × Mem:=([],wrM 512 { s with ws:=(d8h s).1,op:=(d8h s).2.1,c:=(d8h s).2.2 })
def wrΛ512 : d8r:=e0p 0 53 e9x e8x e8y e8z fun _ _=>none
set_option maxHeartbeats 1000000 in
theorem c3f : LOk Tryz.prog (d80 Tryz.prog 50) wrΛ512:=by
 refine a29 (q:=qS) (n:=100) (wrV 128) (wrM 512) (WrJ 64 80 128) (fun s=>s.m) d89 c8u LOk.none LOk.none (by kernel_rfl) (by kernel_rfl) (fun s=>rfl) (fun s=>rfl) (fun avs m s h ho => ?_) (fun s0 s hJ x => ?_)
 ·unfold e8x at h
  split at h
  ·cases h
   have o1:=f9c (ho _ (f9b ..))
   have o2:=f9c (ho _ (f9a _ (f9b ..)))
   have o3:=f9c (ho _ (f9a _ (f9a _ (f9b ..))))
   have o4:=f9c (ho _ (f9a _ (f9a _ (f9a _ (f9b ..)))))
   have o5:=ho _ (f9a _ (f9a _ (f9a _ (f9a _ (f9b ..)))))
   have o6:=f9c (ho _ (f9a _ (f9a _ (f9a _ (f9a _ (f9a _ (f9b ..)))))))
   have o7:=f9c (ho _ (f9a _ (f9a _ (f9a _ (f9a _ (f9a _ (f9a _ (f9b ..))))))))
   exact ⟨_,LeL.refl _,rfl,⟨rfl,rfl,o1,o2,o3,o4,a4c o5,⟨o6.1,by have:=o6.2;omega⟩,o7,rfl⟩⟩
  ·cases h
 ·have hJ':=hJ
  obtain ⟨hn,hl,len,small,op,ws,wd,c0,le,same⟩:=hJ
  by_cases hk : s.m = 0
  ·refine Round.out (d71 x s) rfl ?_ (a00 (by rw [hk];rfl) (a00 (by rw [hk];rfl) d7x.nil)) (fun p hp=>by cases hp)
   rw [hk,List.take_zero,List.foldl_nil] at same
   obtain ⟨ws',op',c,n,l,o,m⟩:=s
   simp only at hn hl same
   subst hn hl
   simp only [e8z,d8h, ← same]
   rfl
  ·obtain ⟨ha,hab⟩:=f8m (B:=128) (by decide) c0
   have ha' : aW 128 s = ((s.c % (128 : Int)).toNat : Nat):=ha
   have hat : (aW 128 s).toNat = (s.c % (128 : Int)).toNat:=by rw [ha'];rfl
   have hnw : nW 128 s = min s.m (128 - (s.c % (128 : Int)).toNat):=by
    unfold nW;rw [hat];rfl
   generalize hA : (s.c % (128 : Int)).toNat = A at ha' hat hnw hab
   have hAB : A < 128:=hab
   have hn1 : nW 128 s ≤ s.m:=by rw [hnw];exact Nat.min_le_left _ _
   have hn2 : A + nW 128 s ≤ 128:=by rw [hnw];omega
   have hn0 : 0 < nW 128 s:=by rw [hnw];omega
   have hp : (((s.l.drop s.o).take s.m).take (nW 128 s)).length = nW 128 s:=by
    rw [List.length_take,List.length_take,List.length_drop];omega
   have hsplit : (s.l.drop s.o).take s.m = ((s.l.drop s.o).take s.m).take (nW 128 s) ++ (s.l.drop (s.o + nW 128 s)).take (s.m - nW 128 s):=by
    have h1:=List.take_append_drop (nW 128 s) ((s.l.drop s.o).take s.m)
    rw [List.drop_take,List.drop_drop] at h1
    exact h1.symm
   have hfold:=a79 (w:=64) (N:=80) (B:=128) (by decide) (by decide) (by decide) (p:=((s.l.drop s.o).take s.m).take (nW 128 s)) (ws:=s.ws) (op:=s.op) (c:=s.c) op c0 (by intro h;rw [h] at hp;simp at hp;omega) (by rw [hp];show (s.c % (128 : Int)).toNat + _ ≤ 128;rw [hA];exact hn2)
   rw [hp,show (s.c % ((128 : Nat) : Int)).toNat = A from hA] at hfold
   have hc : cW 128 s = (s.c + ((nW 128 s : Nat) : Int)) % 2 ^ 64:=by
    unfold cW
    have e : IntKind.u64.wrap ((nW 128 s : Nat) : Int) = ((nW 128 s : Nat) : Int):=a4e (k := .u64) rfl ⟨by omega,by simp only [IntKind.bits];omega⟩
    rw [e,a0m (k := .u64) rfl]
    rfl
   have ho : oW 128 s = s.op.take A ++ ((s.l.drop s.o).take s.m).take (nW 128 s) ++ s.op.drop (A + nW 128 s):=by
    unfold oW;rw [hat]
   have hol : (oW 128 s).length = 128:=by
    rw [ho,List.length_append,List.length_append,hp,List.length_take,List.length_drop,op];omega
   have hcr : 0 ≤ (s.c + ((nW 128 s : Nat) : Int)) % 2 ^ 64 ∧ (s.c + ((nW 128 s : Nat) : Int)) % 2 ^ 64 < 2 ^ 64:=⟨by omega,by omega⟩
   have hsl : ([.ptr false 0 0, .slice true 1 (s.o + ((nW 128 s : Nat) : Int).toNat * 1) (s.m - ((nW 128 s : Nat) : Int).toNat) none 1, .int false .i64 128] : List AV) = [.ptr false 0 0, .slice true 1 (s.o + nW 128 s) (s.m - nW 128 s) none 1, .int false .i64 128]:=by
    rw [Int.toNat_natCast,Nat.mul_one]
   have hend : IntKind.i64.wrap (aW 128 s + ((nW 128 s : Nat) : Int)) = ((A + nW 128 s : Nat) : Int):=by
    rw [ha'];unfold IntKind.wrap;simp [IntKind.bits,IntKind.signed];omega
   have pd : d7x (dW 128 s):=by
    unfold dW
    rw [ha']
    refine a00 (decide_eq_true (by omega)) (a00 (decide_eq_true (by omega)) (a00 ?_ (a00 (decide_eq_true le) (a00 (decide_eq_true (by show 128 - _ < _;omega)) (a00 (decide_eq_true ?_) (a00 ?_ d7x.nil))))))
    ·simp;omega
    ·rw [Int.toNat_natCast];omega
    ·simp;omega
   by_cases hfull : A + nW 128 s = 128
   ·rw [if_pos hfull] at hfold
    have hb:=b1o (w:=64) (N:=80) (l:=oW 128 s) ws wd
    refine Round.on (d6z x s) ⟨d91 64 80 s.ws (oW 128 s),e1l,cW 128 s,s.n,s.l,s.o + nW 128 s,s.m - nW 128 s⟩ [] (by simp [wrM]) (a01.2 ⟨pd,a00 ?_ (a00 (b1p wd) d7x.nil)⟩) (by rw [hsl];exact LeL.refl _)
     ⟨hn,hl,len,small,rfl,hb.1,hb.2,by simp only [hc];exact hcr,by simp only;omega, ?_⟩ rfl (by simp only;omega)
    ·rw [hend,hfull];rfl
    ·rw [← same]
     simp only
     rw [hsplit,List.foldl_append,hfold, ← ho, ← hc]
   ·rw [if_neg hfull] at hfold
    refine Round.on (d70 x s) ⟨s.ws,oW 128 s,cW 128 s,s.n,s.l,s.o + nW 128 s,s.m - nW 128 s⟩ [] (by simp [wrM]) (a01.2 ⟨pd,a00 ?_ d7x.nil⟩) (by rw [hsl];exact LeL.refl _)
     ⟨hn,hl,len,small,hol,ws,wd,by simp only [hc];exact hcr,by simp only;omega, ?_⟩ rfl (by simp only;omega)
    ·rw [hend]
     have : ¬ (((A + nW 128 s : Nat) : Int) = 128):=by omega
     simpa using this
    ·rw [← same]
     simp only
     rw [hsplit,List.foldl_append,hfold, ← ho, ← hc]
theorem b6g (ws op : List Int) (c : Int) (n : Nat) (l : List Int) : (d8a Tryz.prog qS hS3 wrΛ512 100 50 (d7z 0 [.ptw (d8j 512 ws op true c), .buf true .u8 n l]) (d87 [.ptw (d8j 512 ws op true c), .buf true .u8 n l])).flat =
  some (e8y ⟨ws,op,c,n,l,0,n⟩,(.tuple [],wrM 512 ⟨(d8h ⟨ws,op,c,n,l,0,n⟩).1,(d8h ⟨ws,op,c,n,l,0,n⟩).2.1,(d8h ⟨ws,op,c,n,l,0,n⟩).2.2,n,l,0,n⟩)):=by kernel_rfl
theorem b6h {k : Int} {ws op : List Int} {s s2 : Bool} {c : Int} {n : Nat} {l : List Int} {v : AV} {cs : List Cells} (h : d99 Tryz.prog 50 [.ptw (d8j k ws op true c), .buf true .u8 n l] v cs []) :
  d99 Tryz.prog 50 [.ptw (d8j k ws op s c), .buf s2 .u8 n l] v cs []:=by
 intro ρ vs w ha hi
 have ha' : d8i ρ (upto 2) (d7z 0 [.ptw (d8j k ws op true c), .buf true .u8 n l]) vs:=by
  cases ha with
  | cons _ _ _ _ r0 hr=>cases hr with
   | cons _ _ _ _ r1 hr=>cases hr with
    | nil=>cases r1 with
     | slice _ _ _ _ _ _ c ad hn hc hl hw had=>exact .cons _ _ _ _ r0 (.cons _ _ _ _ (.slice true 1 0 n none 1 c ad hn hc hl hw had) .nil)
 have sw : ∀ b,SW ρ [.ptw (d8j k ws op s c), .buf s2 .u8 n l] b ↔ SW ρ [.ptw (d8j k ws op true c), .buf true .u8 n l] b:=fun b=>by
  constructor
  ·rintro ⟨j,c',hj,hb⟩
   match j with
   | 0=>exact ⟨0,_,rfl,hb⟩
   | 1=>simp at hj
   | j + 2=>simp at hj
  ·rintro ⟨j,c',hj,hb⟩
   match j with
   | 0=>exact ⟨0,_,rfl,hb⟩
   | 1=>simp at hj
   | j + 2=>simp at hj
 have swe : SW ρ [.ptw (d8j k ws op s c), .buf s2 .u8 n l] = SW ρ [.ptw (d8j k ws op true c), .buf true .u8 n l]:=funext fun b=>propext (sw b)
 rw [swe] at hi ⊢
 have hi' : Inv w (SW ρ [.ptw (d8j k ws op true c), .buf true .u8 n l]) (upto 2) ρ (getName (d87 [.ptw (d8j k ws op true c), .buf true .u8 n l])) w:=by
  refine hi.mark fun n' b hn => ?_
  match n' with
  | 0 =>
   cases hn
   refine ⟨_,rfl,rfl,rfl,fun f hf => ?_⟩
   have e : ∀ s',exp [.int false .i64 k, .ints .u64 8 ws, .ints .u8 128 op, .int s' .u64 c] = exp [.int false .i64 k, .ints .u64 8 ws, .ints .u8 128 op] ++ [.int s' .u64 c]:=fun s'=>by
    rw [show ([.int false .i64 k, .ints .u64 8 ws, .ints .u8 128 op, .int s' .u64 c] : List AV) = [.int false .i64 k, .ints .u64 8 ws, .ints .u8 128 op] ++ [.int s' .u64 c] from rfl,a0t];rfl
   refine ⟨fun k' n' xs hm=>hf.1 k' n' xs (by simpa using hm),fun i a ha => ?_⟩
   have h2:=hf.2
   rw [e] at ha h2
   generalize exp [.int false .i64 k, .ints .u64 8 ws, .ints .u8 128 op] = pre at ha h2
   by_cases hi2 : i < pre.length
   ·rw [List.getElem?_append_left hi2] at ha
    exact h2 i a (by rw [List.getElem?_append_left hi2];exact ha)
   ·have hi3 : i = pre.length:=by
     have:=(List.getElem?_eq_some_iff.1 ha).1
     simp at this;omega
    subst hi3
    rw [List.getElem?_append_right (Nat.le_refl _),Nat.sub_self] at ha
    cases ha
    obtain ⟨v,h3,h4⟩:=h2 pre.length (.int s .u64 c) (by rw [List.getElem?_append_right (Nat.le_refl _),Nat.sub_self];rfl)
    exact ⟨v,h3,by cases h4 with | int _ _ _ h=>exact .int _ _ _ h⟩
  | 1=>exact ⟨b,hn,rfl,rfl,fun _ h=>h⟩
  | n' + 2=>simp [d87,getName] at hn
 have e2 : ∀ k',e3n k' [.ptw (d8j k ws op s c), .buf s2 .u8 n l] cs = e3n k' [.ptw (d8j k ws op true c), .buf true .u8 n l] cs:=fun k'=>by cases cs <;> rfl
 rw [e2]
 exact h ha' hi'
def wrI (ws op : List Int) (c : Int) (l : List Int) (n : Nat) : WrS:=⟨ws,op,c,n,l,0,n⟩
def f8n : List V → E (AV × List Cells × Mem)
 | [.ptw (.wide [.int false .i64 512, .ints .u64 8 ws, .ints .u8 128 op, .int _ .u64 c]), .buf _ .u8 n l]=>some ([e03 ws,decide (0 ≤ c ∧ c < 18446744073709551616),decide (n < 9223372036854775808)],(.tuple [],[d8j 512 (d8h (wrI ws op c l n)).1 (d8h (wrI ws op c l n)).2.1 true (d8h (wrI ws op c l n)).2.2],[]))
 | _=>none
theorem c6m {k : Int} {ws op : List Int} {c : Int} {n : Nat} {l : List Int} {ρ : Nat → d8c} {S N : Nat → Prop} {w w0 : World} (hi : Inv w0 S N ρ (getName (d87 [.ptw (d8j k ws op true c), .buf true .u8 n l])) w) :
  ws.length = 8 ∧ op.length = 128 ∧ l.length = n ∧ ∀ x ∈ l,inR .u8 x = true:=by
 obtain ⟨cs,t,lo',hi',b1,b2,b3,b4,b5⟩:=(hi.sim.blk 0 _ rfl).ex
 obtain ⟨cs2,t2,lo2,hi2,c1,c2,c3,c4,c5⟩:=(hi.sim.blk 1 _ rfl).ex
 exact ⟨b5.1 .u64 8 ws (by simp),b5.1 .u8 128 op (by simp),c5.1 _ rfl,a3c c5⟩
theorem d72 {xs : List V} {o : List Bool} {v : AV} {cs : List Cells} {bs : Mem} (h : f8n xs = some (o,(v,cs,bs))) (ho : d7x o) : d99 Tryz.prog 50 xs v cs bs:=by
 have fin : ∀ {k : Int} {ws op : List Int} {c : Int} {n : Nat} {l : List Int} {v : AV} {cs : List Cells},(ws.length = 8 → op.length = 128 → l.length = n → d99 Tryz.prog 50 [.ptw (d8j k ws op true c), .buf true .u8 n l] v cs []) →
   d99 Tryz.prog 50 [.ptw (d8j k ws op true c), .buf true .u8 n l] v cs []:=fun hw=>by
  intro ρ vs w ha hi
  obtain ⟨h1,h2,h3,h4⟩:=c6m hi
  exact hw h1 h2 h3 ha hi
 unfold f8n at h
 split at h
 ·rename_i ws op s c s2 n l
  cases h
  have o1:=ho _ (f9b ..)
  have o2:=f9c (ho _ (f9a _ (f9b ..)))
  have o3:=f9c (ho _ (f9a _ (f9a _ (f9b ..))))
  refine @b6h 512 ws op s s2 c n l (.tuple []) [d8j 512 (d8h (wrI ws op c l n)).1 (d8h (wrI ws op c l n)).2.1 true (d8h (wrI ws op c l n)).2.2] (@fin 512 ws op c n l (.tuple []) [d8j 512 (d8h (wrI ws op c l n)).1 (d8h (wrI ws op c l n)).2.1 true (d8h (wrI ws op c l n)).2.2] fun h1 h2 h3 => ?_)
  exact a6l d89 d83 c8u (fun fn c hf hb=>by rw [a0r hf hb];exact c3f) (b6g ws op c n l) (a00 (decide_eq_true h3) (a00 (decide_eq_true o3) (a00 (decide_eq_true h2) (a00 (decide_eq_true h1) (a00 o1 (a00 (decide_eq_true o2) (a00 (decide_eq_true (Nat.le_of_eq (Nat.zero_add n))) d7x.nil))))))) rfl rfl
 ·cases h
def hs4 : d82:=e4h 50 [true,false] f8n hs3
theorem c3g : HOk Tryz.prog hs4:=c8t.e4h fun _ _ _ _ _ h ho=>d72 h ho
noncomputable def hS4 : d82:=deep Tryz.prog qS hs4 100 3
theorem a5g : HOk Tryz.prog hS4:=c3g.deep d89 d83 100 3
end Go.Proofs.YthelmpjkkkhopaaGreatDoor
