/- The program's hashes under way: blocks that became whole, bytes that are written. Own work. -/
import Derived.Test.YtjhjhhibfojpiaaDoorVShaB
set_option linter.unusedSimpArgs false
set_option linter.unusedVariables false
set_option linter.unusedSectionVars false
namespace Go.Sh
open Go.Ev
def Z128 : List Int := List.replicate 128 0
/-- One byte more. -/
def byteS (w N B : Nat) (st : List Int × List Int × Int) (x : Int) : List Int × List Int × Int :=
  if (st.2.2 % (B : Int)).toNat + 1 = B then (blockW w N st.1 (st.2.1.set (st.2.2 % (B : Int)).toNat x), Z128, (st.2.2 + 1) % 2 ^ 64) else (st.1, st.2.1.set (st.2.2 % (B : Int)).toNat x, (st.2.2 + 1) % 2 ^ 64)
theorem set_split {l : List Int} {i : Nat} {x : Int} (h : i < l.length) : l.set i x = l.take i ++ [x] ++ l.drop (i + 1) := by
  rw [List.set_eq_take_append_cons_drop, if_pos h]; simp
theorem next_at {B : Nat} (hB : 0 < B) (hd : (2 : Int) ^ 64 % (B : Int) = 0) {c : Int} (h : 0 ≤ c) (hlt : (c % (B : Int)).toNat + 1 < B) : ((c + 1) % 2 ^ 64 % (B : Int)).toNat = (c % (B : Int)).toNat + 1 := by
  have hB' : (0 : Int) < B := by omega
  have h0 := Int.emod_nonneg c (Int.ne_of_gt hB')
  rw [Int.emod_emod_of_dvd _ (Int.dvd_of_emod_eq_zero hd), Int.add_emod]
  have h1 : (1 : Int) % B = 1 := Int.emod_eq_of_lt (by omega) (by omega)
  rw [h1, Int.emod_eq_of_lt (by omega) (by omega)]
  omega
theorem fold_chunk {w N B : Nat} (hB : 0 < B) (hB2 : B ≤ 128) (hd : (2 : Int) ^ 64 % (B : Int) = 0) : ∀ {p ws op : List Int} {c : Int}, op.length = 128 → 0 ≤ c ∧ c < 2 ^ 64 → p ≠ [] → (c % (B : Int)).toNat + p.length ≤ B →
    p.foldl (byteS w N B) (ws, op, c) = if (c % (B : Int)).toNat + p.length = B then (blockW w N ws (op.take (c % (B : Int)).toNat ++ p ++ op.drop ((c % (B : Int)).toNat + p.length)), Z128, (c + (p.length : Int)) % 2 ^ 64)
      else (ws, op.take (c % (B : Int)).toNat ++ p ++ op.drop ((c % (B : Int)).toNat + p.length), (c + (p.length : Int)) % 2 ^ 64)
  | [], ws, op, c, hop, hc, hp, hle => absurd rfl hp
  | [x], ws, op, c, hop, hc, hp, hle => by
    simp only [List.length_cons, List.length_nil] at hle
    simp only [List.foldl_cons, List.foldl_nil, byteS, List.length_cons, List.length_nil]
    rw [set_split (show (c % (B : Int)).toNat < op.length by omega)]
    rfl
  | x :: y :: q, ws, op, c, hop, hc, hp, hle => by
    simp only [List.length_cons] at hle
    have hlt : (c % (B : Int)).toNat + 1 < B := by omega
    have hat := next_at hB hd hc.1 hlt
    have hne : ¬ (c % (B : Int)).toNat + 1 = B := by omega
    have e : (x :: y :: q).foldl (byteS w N B) (ws, op, c) = (y :: q).foldl (byteS w N B) (ws, op.set (c % (B : Int)).toNat x, (c + 1) % 2 ^ 64) := by
      rw [List.foldl_cons]
      congr 1
      simp only [byteS, if_neg hne]
    have ih := fold_chunk (w := w) (N := N) hB hB2 hd (p := y :: q) (ws := ws) (op := op.set (c % (B : Int)).toNat x) (c := (c + 1) % 2 ^ 64) (by simp [hop]) ⟨by omega, by omega⟩ (by simp) (by rw [hat]; simp only [List.length_cons]; omega)
    rw [e, ih, hat]
    generalize hA : (c % (B : Int)).toNat = A at *
    have h1 : (op.set A x).take (A + 1) = op.take A ++ [x] := by
      rw [set_split (by omega), List.append_assoc, List.take_append, List.length_take, show min A op.length = A by omega, List.take_of_length_le (by rw [List.length_take]; omega), show A + 1 - A = 1 by omega]
      simp
    have h2 : (op.set A x).drop (A + 1 + (y :: q).length) = op.drop (A + 1 + (y :: q).length) := by
      rw [List.drop_set_of_lt (by omega)]
    have h3 : ((c + 1) % 2 ^ 64 + ((y :: q).length : Int)) % 2 ^ 64 = (c + ((x :: y :: q).length : Int)) % 2 ^ 64 := by
      simp only [List.length_cons]; omega
    have h4 : A + 1 + (y :: q).length = A + (x :: y :: q).length := by simp only [List.length_cons]; omega
    rw [h1, h2, h3, h4]
    simp
theorem block_ok {w N : Nat} {v l : List Int} (hv : v.length = 8) (wd : ∀ x ∈ v, Wd w x) : (blockW w N v l).length = 8 ∧ ∀ x ∈ blockW w N v l, Wd w x := by
  obtain ⟨a, b, c, d, e, f, g, h, hr, _⟩ := rounds_eight (w := w) (n := N) (b := l) hv wd N
  unfold blockW
  rw [hr]
  obtain ⟨b0, b1, b2, b3, b4, b5, b6, b7, rfl⟩ := eight hv
  refine ⟨rfl, fun x hx => ?_⟩
  simp only [List.zipWith_cons_cons, List.zipWith_nil_left, List.mem_cons, List.not_mem_nil, or_false] at hx
  rcases hx with rfl | rfl | rfl | rfl | rfl | rfl | rfl | rfl <;> exact mod_wd _ _
end Go.Sh
namespace Go.Ev
/-- Cells that say the same, but for marks. -/
theorem Inv.mark [Tab] {w0 : World} {S N : Nat → Prop} {ρ : Nat → Loc3} {g g' : Nat → Option Blk} {w : World} (h : Inv w0 S N ρ g w)
    (hg : ∀ n b, g' n = some b → ∃ b', g n = some b' ∧ b.rw = b'.rw ∧ clen b.c = clen b'.c ∧ ∀ (f : Nat → Option Value), CRep ρ N b'.c f → CRep ρ N b.c f) : Inv w0 S N ρ g' w := by
  refine ⟨⟨fun n b hn => ?_, fun i j bi bj hi hj hij hr => ?_, fun n b hn => ?_, h.sim.tab, fun G c hG n b hn hr => ?_⟩, h.size, h.frame, h.os, h.tape, h.output, fun n b hn hr => ?_⟩
  · obtain ⟨b', h1, h2, h3, h4⟩ := hg n b hn
    obtain ⟨cs, t, lo, hi, a1, a2, a3, a4, a5⟩ := (h.sim.blk n b' h1).ex
    exact ⟨cs, t, lo, hi, a1, a2, fun hr => a3 (by rw [← h2]; exact hr), by rw [h3]; exact a4, h4 _ a5⟩
  · obtain ⟨bi', h1, h2, _⟩ := hg i bi hi
    obtain ⟨bj', h4, _⟩ := hg j bj hj
    exact h.sim.inj i j bi' bj' h1 h4 hij (by rw [← h2]; exact hr)
  · obtain ⟨b', h1, _⟩ := hg n b hn
    exact h.sim.live n b' h1
  · obtain ⟨b', h1, h2, _⟩ := hg n b hn
    exact h.sim.apart G c hG n b' h1 (by rw [← h2]; exact hr)
  · obtain ⟨b', h1, h2, _⟩ := hg n b hn
    exact h.rws n b' h1 (by rw [← h2]; exact hr)
end Go.Ev
namespace Go.Proofs.YtjhjhhibfojpiaaDoor
variable [Go.Ev.RowTab]
open Go.Ev Go.Sh
set_option maxRecDepth 100000
def hs2 : CallH := withV 37 blkS32 (withV 38 blkS64 hs1)
theorem hs2_ok : HOk Tryd.prog hs2 := (hs1_ok.withV fun _ _ _ _ h ho => blk64_ok h ho).withV fun _ _ _ _ h ho => blk32_ok h ho
noncomputable def hS2 : CallH := deep Tryd.prog qS hs2 100 3
theorem hS2_ok : HOk Tryd.prog hS2 := hs2_ok.deep mixed noCount 100 3
def hashC (k : Int) (ws op : List Int) (s : Bool) (c : Int) : Cells := .wide [.int false .i64 k, .ints .u64 8 ws, .ints .u8 128 op, .int s .u64 c]
theorem take_256 (ws op : List Int) (s : Bool) (c : Int) : (funcL Tryd.prog qS hS2 (fun _ _ => none) 100 29 (cArgs 0 [.ptw (hashC 256 ws op s c)]) (cMem [.ptw (hashC 256 ws op s c)])).flat =
    some ([all32 ws], (.tuple [], [some ⟨true, hashC 256 (blockW 32 64 ws op) Z128 s c⟩])) := by kernel_rfl
theorem take_384 (ws op : List Int) (s : Bool) (c : Int) : (funcL Tryd.prog qS hS2 (fun _ _ => none) 100 29 (cArgs 0 [.ptw (hashC 384 ws op s c)]) (cMem [.ptw (hashC 384 ws op s c)])).flat =
    some ([all64 ws], (.tuple [], [some ⟨true, hashC 384 (blockW 64 80 ws op) Z128 s c⟩])) := by kernel_rfl
theorem take_512 (ws op : List Int) (s : Bool) (c : Int) : (funcL Tryd.prog qS hS2 (fun _ _ => none) 100 29 (cArgs 0 [.ptw (hashC 512 ws op s c)]) (cMem [.ptw (hashC 512 ws op s c)])).flat =
    some ([all64 ws], (.tuple [], [some ⟨true, hashC 512 (blockW 64 80 ws op) Z128 s c⟩])) := by kernel_rfl
def takS : List V → E (AV × List Cells × Mem)
  | [.ptw (.wide [.int false .i64 256, .ints .u64 8 ws, .ints .u8 128 op, .int s .u64 c])] => some ([all32 ws], (.tuple [], [hashC 256 (blockW 32 64 ws op) Z128 s c], []))
  | [.ptw (.wide [.int false .i64 384, .ints .u64 8 ws, .ints .u8 128 op, .int s .u64 c])] => some ([all64 ws], (.tuple [], [hashC 384 (blockW 64 80 ws op) Z128 s c], []))
  | [.ptw (.wide [.int false .i64 512, .ints .u64 8 ws, .ints .u8 128 op, .int s .u64 c])] => some ([all64 ws], (.tuple [], [hashC 512 (blockW 64 80 ws op) Z128 s c], []))
  | _ => none
theorem tak_ok {xs : List V} {o : List Bool} {v : AV} {cs : List Cells} {bs : Mem} (h : takS xs = some (o, (v, cs, bs))) (ho : Paid o) : WriteCall Tryd.prog 29 xs v cs bs := by
  unfold takS at h
  split at h
  · cases h
    exact write_of_flat mixed noCount hS2_ok (fun _ _ _ _ => LOk.none) (take_256 _ _ _ _) ho rfl rfl
  · cases h
    exact write_of_flat mixed noCount hS2_ok (fun _ _ _ _ => LOk.none) (take_384 _ _ _ _) ho rfl rfl
  · cases h
    exact write_of_flat mixed noCount hS2_ok (fun _ _ _ _ => LOk.none) (take_512 _ _ _ _) ho rfl rfl
  · cases h
def hs3 : CallH := withW 29 [true] takS hs2
theorem hs3_ok : HOk Tryd.prog hs3 := hs2_ok.withW fun _ _ _ _ _ h ho => tak_ok h ho
noncomputable def hS3 : CallH := deep Tryd.prog qS hs3 100 3
theorem hS3_ok : HOk Tryd.prog hS3 := hs3_ok.deep mixed noCount 100 3

theorem all32_of {l : List Int} (h : ∀ x ∈ l, Wd 32 x) : all32 l = true := List.all_eq_true.2 fun x hx => by
  have := h x hx
  simp only [Bool.and_eq_true, decide_eq_true_eq]
  exact ⟨this.1, by have := this.2; omega⟩
theorem all64_of {l : List Int} (h : ∀ x ∈ l, Wd 64 x) : all64 l = true := List.all_eq_true.2 fun x hx => by
  have := h x hx
  simp only [Bool.and_eq_true, decide_eq_true_eq]
  exact ⟨this.1, by have := this.2; omega⟩
structure WrS where
  ws : List Int
  op : List Int
  c : Int
  n : Nat
  l : List Int
  o : Nat
  m : Nat
def wrTs : List Nat := [0, 1, 4]
def wrV (B : Int) (s : WrS) : List AV := [.ptr false 0 0, .slice true 1 s.o s.m none 1, .int false .i64 B]
def wrM (k : Int) (s : WrS) : Mem := [some ⟨true, hashC k s.ws s.op true s.c⟩, some ⟨false, .ints .u8 (some s.n) s.l⟩]
/-- Where in the block, and how many bytes at once: as the program reckons. -/
def aW (B : Int) (s : WrS) : Int := IntKind.i64.wrap (s.c.tmod (IntKind.u64.wrap B))
def nW (B : Int) (s : WrS) : Nat := Nat.min s.m (B.toNat - (aW B s).toNat)
def oW (B : Int) (s : WrS) : List Int := s.op.take (aW B s).toNat ++ (((s.l.drop s.o).take s.m).take (nW B s)) ++ s.op.drop ((aW B s).toNat + nW B s)
def cW (B : Int) (s : WrS) : Int := IntKind.u64.wrap (s.c + IntKind.u64.wrap ((nW B s : Nat) : Int))
def dW (B : Int) (s : WrS) : List Bool := [decide (s.m < 9223372036854775808), decide ((s.m : Int) > 0), decide (0 ≤ aW B s) && decide (aW B s ≤ ((B.toNat : Nat) : Int)), decide (s.o + s.m ≤ s.n), decide (B.toNat - (aW B s).toNat < 9223372036854775808), decide ((aW B s).toNat + nW B s ≤ 128), decide (0 ≤ ((nW B s : Nat) : Int)) && decide (((nW B s : Nat) : Int) ≤ ((s.m : Nat) : Int))]
structure WrJ (w N B : Nat) (s0 s : WrS) : Prop where
  hn : s.n = s0.n
  hl : s.l = s0.l
  len : s.l.length = s.n
  small : s.n < 9223372036854775808
  op : s.op.length = 128
  ws : s.ws.length = 8
  wd : ∀ x ∈ s.ws, Wd w x
  c0 : 0 ≤ s.c ∧ s.c < 2 ^ 64
  le : s.o + s.m ≤ s.n
  same : ((s.l.drop s.o).take s.m).foldl (byteS w N B) (s.ws, s.op, s.c) = ((s0.l.drop s0.o).take s0.m).foldl (byteS w N B) (s0.ws, s0.op, s0.c)
theorem aW_eq {B : Nat} (hB : 0 < B ∧ B ≤ 128) {s : WrS} (h : 0 ≤ s.c ∧ s.c < 2 ^ 64) : aW (B : Int) s = ((s.c % (B : Int)).toNat : Nat) ∧ (s.c % (B : Int)).toNat < B := by
  have e1 : IntKind.u64.wrap (B : Int) = B := wrap_wd (k := .u64) rfl ⟨by omega, by simp only [IntKind.bits]; omega⟩
  have h1 := Int.emod_nonneg s.c (show (B : Int) ≠ 0 by omega)
  have h2 := Int.emod_lt_of_pos s.c (show (0 : Int) < B by omega)
  unfold aW
  rw [e1, Int.tmod_eq_emod_of_nonneg h.1]
  refine ⟨?_, by omega⟩
  unfold IntKind.wrap
  simp [IntKind.bits, IntKind.signed]
  omega

/- kind 256 -/
theorem w256_t (x : Nat → AV) (s : WrS) : seesL wrTs ((codeL Tryd.prog qS hS3 (fun _ _ => none) 100 (lp (blk 0 (bodyOf Tryd.prog 12))) ⟨tmOf (ups x (zipU wrTs (wrV 64 s))) 53, wrM 256 s⟩).go [true, true]) = some (dW 64 s ++ [(IntKind.i64.wrap (aW 64 s + ((nW 64 s : Nat) : Int)) == 64), all32 s.ws], 0, [.ptr false 0 0, .slice true 1 (s.o + ((nW 64 s : Nat) : Int).toNat * 1) (s.m - ((nW 64 s : Nat) : Int).toNat) none 1, .int false .i64 64], 53, wrM 256 { s with ws := blockW 32 64 s.ws (oW 64 s), op := Z128, c := cW 64 s }) := by kernel_rfl
theorem w256_n (x : Nat → AV) (s : WrS) : seesL wrTs ((codeL Tryd.prog qS hS3 (fun _ _ => none) 100 (lp (blk 0 (bodyOf Tryd.prog 12))) ⟨tmOf (ups x (zipU wrTs (wrV 64 s))) 53, wrM 256 s⟩).go [true, false]) = some (dW 64 s ++ [!(IntKind.i64.wrap (aW 64 s + ((nW 64 s : Nat) : Int)) == 64)], 0, [.ptr false 0 0, .slice true 1 (s.o + ((nW 64 s : Nat) : Int).toNat * 1) (s.m - ((nW 64 s : Nat) : Int).toNat) none 1, .int false .i64 64], 53, wrM 256 { s with op := oW 64 s, c := cW 64 s }) := by kernel_rfl
theorem w256_f (x : Nat → AV) (s : WrS) : seesL wrTs ((codeL Tryd.prog qS hS3 (fun _ _ => none) 100 (lp (blk 0 (bodyOf Tryd.prog 12))) ⟨tmOf (ups x (zipU wrTs (wrV 64 s))) 53, wrM 256 s⟩).go [false]) = some ([decide (s.m < 9223372036854775808), !decide ((s.m : Int) > 0)], 2, wrV 64 s, 53, wrM 256 s) := by kernel_rfl
def wrP256 : List AV → Mem → Option WrS
  | [.ptr false 0 0, .slice true 1 o m none 1, .int false .i64 64], [some ⟨true, .wide [.int false .i64 256, .ints .u64 8 ws, .ints .u8 128 op, .int true .u64 c]⟩, some ⟨false, .ints .u8 (some n) l⟩] => some ⟨ws, op, c, n, l, o, m⟩
  | _, _ => none
def wrO256 (s : WrS) : List Bool := [decide (s.l.length = s.n), decide (s.n < 9223372036854775808), decide (s.op.length = 128), decide (s.ws.length = 8), all32 s.ws, decide (0 ≤ s.c ∧ s.c < 18446744073709551616), decide (s.o + s.m ≤ s.n)]
def wrEnd256 (s : WrS) : List Int × List Int × Int := ((s.l.drop s.o).take s.m).foldl (byteS 32 64 64) (s.ws, s.op, s.c)
def wrF256 (s : WrS) : List (Nat × AV) × Mem := ([], wrM 256 { s with ws := (wrEnd256 s).1, op := (wrEnd256 s).2.1, c := (wrEnd256 s).2.2 })
def wrΛ256 : LoopH := famH 0 53 wrTs wrP256 wrO256 wrF256 fun _ _ => none
set_option maxHeartbeats 1000000 in
theorem wr256_lok : LOk Tryd.prog (bodyOf Tryd.prog 12) wrΛ256 := by
  refine fam_ok (q := qS) (n := 100) (wrV 64) (wrM 256) (WrJ 32 64 64) (fun s => s.m) mixed hS3_ok LOk.none LOk.none (by kernel_rfl) (by kernel_rfl) (fun s => rfl) (fun s => rfl) (fun avs m s h ho => ?_) (fun s0 s hJ x => ?_)
  · unfold wrP256 at h
    split at h
    · cases h
      have o1 := of_decide_eq_true (ho _ (List.mem_cons_self ..))
      have o2 := of_decide_eq_true (ho _ (List.mem_cons_of_mem _ (List.mem_cons_self ..)))
      have o3 := of_decide_eq_true (ho _ (List.mem_cons_of_mem _ (List.mem_cons_of_mem _ (List.mem_cons_self ..))))
      have o4 := of_decide_eq_true (ho _ (List.mem_cons_of_mem _ (List.mem_cons_of_mem _ (List.mem_cons_of_mem _ (List.mem_cons_self ..)))))
      have o5 := ho _ (List.mem_cons_of_mem _ (List.mem_cons_of_mem _ (List.mem_cons_of_mem _ (List.mem_cons_of_mem _ (List.mem_cons_self ..)))))
      have o6 := of_decide_eq_true (ho _ (List.mem_cons_of_mem _ (List.mem_cons_of_mem _ (List.mem_cons_of_mem _ (List.mem_cons_of_mem _ (List.mem_cons_of_mem _ (List.mem_cons_self ..)))))))
      have o7 := of_decide_eq_true (ho _ (List.mem_cons_of_mem _ (List.mem_cons_of_mem _ (List.mem_cons_of_mem _ (List.mem_cons_of_mem _ (List.mem_cons_of_mem _ (List.mem_cons_of_mem _ (List.mem_cons_self ..))))))))
      exact ⟨_, LeL.refl _, rfl, ⟨rfl, rfl, o1, o2, o3, o4, all32_wd o5, ⟨o6.1, by have := o6.2; omega⟩, o7, rfl⟩⟩
    · cases h
  · have hJ' := hJ
    obtain ⟨hn, hl, len, small, op, ws, wd, c0, le, same⟩ := hJ
    by_cases hk : s.m = 0
    · refine Round.out (w256_f x s) rfl ?_ (paid_cons (by rw [hk]; rfl) (paid_cons (by rw [hk]; rfl) Paid.nil)) (fun p hp => by cases hp)
      rw [hk, List.take_zero, List.foldl_nil] at same
      obtain ⟨ws', op', c, n, l, o, m⟩ := s
      simp only at hn hl same
      subst hn hl
      simp only [wrF256, wrEnd256, ← same]
      rfl
    · obtain ⟨ha, hab⟩ := aW_eq (B := 64) (by decide) c0
      have ha' : aW 64 s = ((s.c % (64 : Int)).toNat : Nat) := ha
      have hat : (aW 64 s).toNat = (s.c % (64 : Int)).toNat := by rw [ha']; rfl
      have hnw : nW 64 s = min s.m (64 - (s.c % (64 : Int)).toNat) := by
        unfold nW; rw [hat]; rfl
      generalize hA : (s.c % (64 : Int)).toNat = A at ha' hat hnw hab
      have hAB : A < 64 := hab
      have hn1 : nW 64 s ≤ s.m := by rw [hnw]; exact Nat.min_le_left _ _
      have hn2 : A + nW 64 s ≤ 64 := by rw [hnw]; omega
      have hn0 : 0 < nW 64 s := by rw [hnw]; omega
      have hp : (((s.l.drop s.o).take s.m).take (nW 64 s)).length = nW 64 s := by
        rw [List.length_take, List.length_take, List.length_drop]; omega
      have hsplit : (s.l.drop s.o).take s.m = ((s.l.drop s.o).take s.m).take (nW 64 s) ++ (s.l.drop (s.o + nW 64 s)).take (s.m - nW 64 s) := by
        have h1 := List.take_append_drop (nW 64 s) ((s.l.drop s.o).take s.m)
        rw [List.drop_take, List.drop_drop] at h1
        exact h1.symm
      have hfold := fold_chunk (w := 32) (N := 64) (B := 64) (by decide) (by decide) (by decide) (p := ((s.l.drop s.o).take s.m).take (nW 64 s)) (ws := s.ws) (op := s.op) (c := s.c) op c0 (by intro h; rw [h] at hp; simp at hp; omega) (by rw [hp]; show (s.c % (64 : Int)).toNat + _ ≤ 64; rw [hA]; exact hn2)
      rw [hp, show (s.c % ((64 : Nat) : Int)).toNat = A from hA] at hfold
      have hc : cW 64 s = (s.c + ((nW 64 s : Nat) : Int)) % 2 ^ 64 := by
        unfold cW
        have e : IntKind.u64.wrap ((nW 64 s : Nat) : Int) = ((nW 64 s : Nat) : Int) := wrap_wd (k := .u64) rfl ⟨by omega, by simp only [IntKind.bits]; omega⟩
        rw [e, wrap_u (k := .u64) rfl]
        rfl
      have ho : oW 64 s = s.op.take A ++ ((s.l.drop s.o).take s.m).take (nW 64 s) ++ s.op.drop (A + nW 64 s) := by
        unfold oW; rw [hat]
      have hol : (oW 64 s).length = 128 := by
        rw [ho, List.length_append, List.length_append, hp, List.length_take, List.length_drop, op]; omega
      have hcr : 0 ≤ (s.c + ((nW 64 s : Nat) : Int)) % 2 ^ 64 ∧ (s.c + ((nW 64 s : Nat) : Int)) % 2 ^ 64 < 2 ^ 64 := ⟨by omega, by omega⟩
      have hsl : ([.ptr false 0 0, .slice true 1 (s.o + ((nW 64 s : Nat) : Int).toNat * 1) (s.m - ((nW 64 s : Nat) : Int).toNat) none 1, .int false .i64 64] : List AV) = [.ptr false 0 0, .slice true 1 (s.o + nW 64 s) (s.m - nW 64 s) none 1, .int false .i64 64] := by
        rw [Int.toNat_natCast, Nat.mul_one]
      have hend : IntKind.i64.wrap (aW 64 s + ((nW 64 s : Nat) : Int)) = ((A + nW 64 s : Nat) : Int) := by
        rw [ha']; unfold IntKind.wrap; simp [IntKind.bits, IntKind.signed]; omega
      have pd : Paid (dW 64 s) := by
        unfold dW
        rw [ha']
        refine paid_cons (decide_eq_true (by omega)) (paid_cons (decide_eq_true (by omega)) (paid_cons ?_ (paid_cons (decide_eq_true le) (paid_cons (decide_eq_true (by show 64 - _ < _; omega)) (paid_cons (decide_eq_true ?_) (paid_cons ?_ Paid.nil))))))
        · simp; omega
        · rw [Int.toNat_natCast]; omega
        · simp; omega
      by_cases hfull : A + nW 64 s = 64
      · rw [if_pos hfull] at hfold
        have hb := block_ok (w := 32) (N := 64) (l := oW 64 s) ws wd
        refine Round.on (w256_t x s) ⟨blockW 32 64 s.ws (oW 64 s), Z128, cW 64 s, s.n, s.l, s.o + nW 64 s, s.m - nW 64 s⟩ [] (by simp [wrM]) (paid_append.2 ⟨pd, paid_cons ?_ (paid_cons (all32_of wd) Paid.nil)⟩) (by rw [hsl]; exact LeL.refl _)
          ⟨hn, hl, len, small, rfl, hb.1, hb.2, by simp only [hc]; exact hcr, by simp only; omega, ?_⟩ rfl (by simp only; omega)
        · rw [hend, hfull]; rfl
        · rw [← same]
          simp only
          rw [hsplit, List.foldl_append, hfold, ← ho, ← hc]
      · rw [if_neg hfull] at hfold
        refine Round.on (w256_n x s) ⟨s.ws, oW 64 s, cW 64 s, s.n, s.l, s.o + nW 64 s, s.m - nW 64 s⟩ [] (by simp [wrM]) (paid_append.2 ⟨pd, paid_cons ?_ Paid.nil⟩) (by rw [hsl]; exact LeL.refl _)
          ⟨hn, hl, len, small, hol, ws, wd, by simp only [hc]; exact hcr, by simp only; omega, ?_⟩ rfl (by simp only; omega)
        · rw [hend]
          have : ¬ (((A + nW 64 s : Nat) : Int) = 64) := by omega
          simpa using this
        · rw [← same]
          simp only
          rw [hsplit, List.foldl_append, hfold, ← ho, ← hc]
theorem wri256_eval (ws op : List Int) (c : Int) (n : Nat) (l : List Int) : (funcL Tryd.prog qS hS3 wrΛ256 100 12 (cArgs 0 [.ptw (hashC 256 ws op true c), .buf true .u8 n l]) (cMem [.ptw (hashC 256 ws op true c), .buf true .u8 n l])).flat =
    some (wrO256 ⟨ws, op, c, n, l, 0, n⟩, (.tuple [], wrM 256 ⟨(wrEnd256 ⟨ws, op, c, n, l, 0, n⟩).1, (wrEnd256 ⟨ws, op, c, n, l, 0, n⟩).2.1, (wrEnd256 ⟨ws, op, c, n, l, 0, n⟩).2.2, n, l, 0, n⟩)) := by kernel_rfl

/- kind 384 -/
theorem w384_t (x : Nat → AV) (s : WrS) : seesL wrTs ((codeL Tryd.prog qS hS3 (fun _ _ => none) 100 (lp (blk 0 (bodyOf Tryd.prog 12))) ⟨tmOf (ups x (zipU wrTs (wrV 128 s))) 53, wrM 384 s⟩).go [true, true]) = some (dW 128 s ++ [(IntKind.i64.wrap (aW 128 s + ((nW 128 s : Nat) : Int)) == 128), all64 s.ws], 0, [.ptr false 0 0, .slice true 1 (s.o + ((nW 128 s : Nat) : Int).toNat * 1) (s.m - ((nW 128 s : Nat) : Int).toNat) none 1, .int false .i64 128], 53, wrM 384 { s with ws := blockW 64 80 s.ws (oW 128 s), op := Z128, c := cW 128 s }) := by kernel_rfl
theorem w384_n (x : Nat → AV) (s : WrS) : seesL wrTs ((codeL Tryd.prog qS hS3 (fun _ _ => none) 100 (lp (blk 0 (bodyOf Tryd.prog 12))) ⟨tmOf (ups x (zipU wrTs (wrV 128 s))) 53, wrM 384 s⟩).go [true, false]) = some (dW 128 s ++ [!(IntKind.i64.wrap (aW 128 s + ((nW 128 s : Nat) : Int)) == 128)], 0, [.ptr false 0 0, .slice true 1 (s.o + ((nW 128 s : Nat) : Int).toNat * 1) (s.m - ((nW 128 s : Nat) : Int).toNat) none 1, .int false .i64 128], 53, wrM 384 { s with op := oW 128 s, c := cW 128 s }) := by kernel_rfl
theorem w384_f (x : Nat → AV) (s : WrS) : seesL wrTs ((codeL Tryd.prog qS hS3 (fun _ _ => none) 100 (lp (blk 0 (bodyOf Tryd.prog 12))) ⟨tmOf (ups x (zipU wrTs (wrV 128 s))) 53, wrM 384 s⟩).go [false]) = some ([decide (s.m < 9223372036854775808), !decide ((s.m : Int) > 0)], 2, wrV 128 s, 53, wrM 384 s) := by kernel_rfl
def wrP384 : List AV → Mem → Option WrS
  | [.ptr false 0 0, .slice true 1 o m none 1, .int false .i64 128], [some ⟨true, .wide [.int false .i64 384, .ints .u64 8 ws, .ints .u8 128 op, .int true .u64 c]⟩, some ⟨false, .ints .u8 (some n) l⟩] => some ⟨ws, op, c, n, l, o, m⟩
  | _, _ => none
def wrO384 (s : WrS) : List Bool := [decide (s.l.length = s.n), decide (s.n < 9223372036854775808), decide (s.op.length = 128), decide (s.ws.length = 8), all64 s.ws, decide (0 ≤ s.c ∧ s.c < 18446744073709551616), decide (s.o + s.m ≤ s.n)]
def wrEnd384 (s : WrS) : List Int × List Int × Int := ((s.l.drop s.o).take s.m).foldl (byteS 64 80 128) (s.ws, s.op, s.c)
def wrF384 (s : WrS) : List (Nat × AV) × Mem := ([], wrM 384 { s with ws := (wrEnd384 s).1, op := (wrEnd384 s).2.1, c := (wrEnd384 s).2.2 })
def wrΛ384 : LoopH := famH 0 53 wrTs wrP384 wrO384 wrF384 fun _ _ => none
set_option maxHeartbeats 1000000 in
theorem wr384_lok : LOk Tryd.prog (bodyOf Tryd.prog 12) wrΛ384 := by
  refine fam_ok (q := qS) (n := 100) (wrV 128) (wrM 384) (WrJ 64 80 128) (fun s => s.m) mixed hS3_ok LOk.none LOk.none (by kernel_rfl) (by kernel_rfl) (fun s => rfl) (fun s => rfl) (fun avs m s h ho => ?_) (fun s0 s hJ x => ?_)
  · unfold wrP384 at h
    split at h
    · cases h
      have o1 := of_decide_eq_true (ho _ (List.mem_cons_self ..))
      have o2 := of_decide_eq_true (ho _ (List.mem_cons_of_mem _ (List.mem_cons_self ..)))
      have o3 := of_decide_eq_true (ho _ (List.mem_cons_of_mem _ (List.mem_cons_of_mem _ (List.mem_cons_self ..))))
      have o4 := of_decide_eq_true (ho _ (List.mem_cons_of_mem _ (List.mem_cons_of_mem _ (List.mem_cons_of_mem _ (List.mem_cons_self ..)))))
      have o5 := ho _ (List.mem_cons_of_mem _ (List.mem_cons_of_mem _ (List.mem_cons_of_mem _ (List.mem_cons_of_mem _ (List.mem_cons_self ..)))))
      have o6 := of_decide_eq_true (ho _ (List.mem_cons_of_mem _ (List.mem_cons_of_mem _ (List.mem_cons_of_mem _ (List.mem_cons_of_mem _ (List.mem_cons_of_mem _ (List.mem_cons_self ..)))))))
      have o7 := of_decide_eq_true (ho _ (List.mem_cons_of_mem _ (List.mem_cons_of_mem _ (List.mem_cons_of_mem _ (List.mem_cons_of_mem _ (List.mem_cons_of_mem _ (List.mem_cons_of_mem _ (List.mem_cons_self ..))))))))
      exact ⟨_, LeL.refl _, rfl, ⟨rfl, rfl, o1, o2, o3, o4, all64_wd o5, ⟨o6.1, by have := o6.2; omega⟩, o7, rfl⟩⟩
    · cases h
  · have hJ' := hJ
    obtain ⟨hn, hl, len, small, op, ws, wd, c0, le, same⟩ := hJ
    by_cases hk : s.m = 0
    · refine Round.out (w384_f x s) rfl ?_ (paid_cons (by rw [hk]; rfl) (paid_cons (by rw [hk]; rfl) Paid.nil)) (fun p hp => by cases hp)
      rw [hk, List.take_zero, List.foldl_nil] at same
      obtain ⟨ws', op', c, n, l, o, m⟩ := s
      simp only at hn hl same
      subst hn hl
      simp only [wrF384, wrEnd384, ← same]
      rfl
    · obtain ⟨ha, hab⟩ := aW_eq (B := 128) (by decide) c0
      have ha' : aW 128 s = ((s.c % (128 : Int)).toNat : Nat) := ha
      have hat : (aW 128 s).toNat = (s.c % (128 : Int)).toNat := by rw [ha']; rfl
      have hnw : nW 128 s = min s.m (128 - (s.c % (128 : Int)).toNat) := by
        unfold nW; rw [hat]; rfl
      generalize hA : (s.c % (128 : Int)).toNat = A at ha' hat hnw hab
      have hAB : A < 128 := hab
      have hn1 : nW 128 s ≤ s.m := by rw [hnw]; exact Nat.min_le_left _ _
      have hn2 : A + nW 128 s ≤ 128 := by rw [hnw]; omega
      have hn0 : 0 < nW 128 s := by rw [hnw]; omega
      have hp : (((s.l.drop s.o).take s.m).take (nW 128 s)).length = nW 128 s := by
        rw [List.length_take, List.length_take, List.length_drop]; omega
      have hsplit : (s.l.drop s.o).take s.m = ((s.l.drop s.o).take s.m).take (nW 128 s) ++ (s.l.drop (s.o + nW 128 s)).take (s.m - nW 128 s) := by
        have h1 := List.take_append_drop (nW 128 s) ((s.l.drop s.o).take s.m)
        rw [List.drop_take, List.drop_drop] at h1
        exact h1.symm
      have hfold := fold_chunk (w := 64) (N := 80) (B := 128) (by decide) (by decide) (by decide) (p := ((s.l.drop s.o).take s.m).take (nW 128 s)) (ws := s.ws) (op := s.op) (c := s.c) op c0 (by intro h; rw [h] at hp; simp at hp; omega) (by rw [hp]; show (s.c % (128 : Int)).toNat + _ ≤ 128; rw [hA]; exact hn2)
      rw [hp, show (s.c % ((128 : Nat) : Int)).toNat = A from hA] at hfold
      have hc : cW 128 s = (s.c + ((nW 128 s : Nat) : Int)) % 2 ^ 64 := by
        unfold cW
        have e : IntKind.u64.wrap ((nW 128 s : Nat) : Int) = ((nW 128 s : Nat) : Int) := wrap_wd (k := .u64) rfl ⟨by omega, by simp only [IntKind.bits]; omega⟩
        rw [e, wrap_u (k := .u64) rfl]
        rfl
      have ho : oW 128 s = s.op.take A ++ ((s.l.drop s.o).take s.m).take (nW 128 s) ++ s.op.drop (A + nW 128 s) := by
        unfold oW; rw [hat]
      have hol : (oW 128 s).length = 128 := by
        rw [ho, List.length_append, List.length_append, hp, List.length_take, List.length_drop, op]; omega
      have hcr : 0 ≤ (s.c + ((nW 128 s : Nat) : Int)) % 2 ^ 64 ∧ (s.c + ((nW 128 s : Nat) : Int)) % 2 ^ 64 < 2 ^ 64 := ⟨by omega, by omega⟩
      have hsl : ([.ptr false 0 0, .slice true 1 (s.o + ((nW 128 s : Nat) : Int).toNat * 1) (s.m - ((nW 128 s : Nat) : Int).toNat) none 1, .int false .i64 128] : List AV) = [.ptr false 0 0, .slice true 1 (s.o + nW 128 s) (s.m - nW 128 s) none 1, .int false .i64 128] := by
        rw [Int.toNat_natCast, Nat.mul_one]
      have hend : IntKind.i64.wrap (aW 128 s + ((nW 128 s : Nat) : Int)) = ((A + nW 128 s : Nat) : Int) := by
        rw [ha']; unfold IntKind.wrap; simp [IntKind.bits, IntKind.signed]; omega
      have pd : Paid (dW 128 s) := by
        unfold dW
        rw [ha']
        refine paid_cons (decide_eq_true (by omega)) (paid_cons (decide_eq_true (by omega)) (paid_cons ?_ (paid_cons (decide_eq_true le) (paid_cons (decide_eq_true (by show 128 - _ < _; omega)) (paid_cons (decide_eq_true ?_) (paid_cons ?_ Paid.nil))))))
        · simp; omega
        · rw [Int.toNat_natCast]; omega
        · simp; omega
      by_cases hfull : A + nW 128 s = 128
      · rw [if_pos hfull] at hfold
        have hb := block_ok (w := 64) (N := 80) (l := oW 128 s) ws wd
        refine Round.on (w384_t x s) ⟨blockW 64 80 s.ws (oW 128 s), Z128, cW 128 s, s.n, s.l, s.o + nW 128 s, s.m - nW 128 s⟩ [] (by simp [wrM]) (paid_append.2 ⟨pd, paid_cons ?_ (paid_cons (all64_of wd) Paid.nil)⟩) (by rw [hsl]; exact LeL.refl _)
          ⟨hn, hl, len, small, rfl, hb.1, hb.2, by simp only [hc]; exact hcr, by simp only; omega, ?_⟩ rfl (by simp only; omega)
        · rw [hend, hfull]; rfl
        · rw [← same]
          simp only
          rw [hsplit, List.foldl_append, hfold, ← ho, ← hc]
      · rw [if_neg hfull] at hfold
        refine Round.on (w384_n x s) ⟨s.ws, oW 128 s, cW 128 s, s.n, s.l, s.o + nW 128 s, s.m - nW 128 s⟩ [] (by simp [wrM]) (paid_append.2 ⟨pd, paid_cons ?_ Paid.nil⟩) (by rw [hsl]; exact LeL.refl _)
          ⟨hn, hl, len, small, hol, ws, wd, by simp only [hc]; exact hcr, by simp only; omega, ?_⟩ rfl (by simp only; omega)
        · rw [hend]
          have : ¬ (((A + nW 128 s : Nat) : Int) = 128) := by omega
          simpa using this
        · rw [← same]
          simp only
          rw [hsplit, List.foldl_append, hfold, ← ho, ← hc]
theorem wri384_eval (ws op : List Int) (c : Int) (n : Nat) (l : List Int) : (funcL Tryd.prog qS hS3 wrΛ384 100 12 (cArgs 0 [.ptw (hashC 384 ws op true c), .buf true .u8 n l]) (cMem [.ptw (hashC 384 ws op true c), .buf true .u8 n l])).flat =
    some (wrO384 ⟨ws, op, c, n, l, 0, n⟩, (.tuple [], wrM 384 ⟨(wrEnd384 ⟨ws, op, c, n, l, 0, n⟩).1, (wrEnd384 ⟨ws, op, c, n, l, 0, n⟩).2.1, (wrEnd384 ⟨ws, op, c, n, l, 0, n⟩).2.2, n, l, 0, n⟩)) := by kernel_rfl

/- kind 512 -/
theorem w512_t (x : Nat → AV) (s : WrS) : seesL wrTs ((codeL Tryd.prog qS hS3 (fun _ _ => none) 100 (lp (blk 0 (bodyOf Tryd.prog 12))) ⟨tmOf (ups x (zipU wrTs (wrV 128 s))) 53, wrM 512 s⟩).go [true, true]) = some (dW 128 s ++ [(IntKind.i64.wrap (aW 128 s + ((nW 128 s : Nat) : Int)) == 128), all64 s.ws], 0, [.ptr false 0 0, .slice true 1 (s.o + ((nW 128 s : Nat) : Int).toNat * 1) (s.m - ((nW 128 s : Nat) : Int).toNat) none 1, .int false .i64 128], 53, wrM 512 { s with ws := blockW 64 80 s.ws (oW 128 s), op := Z128, c := cW 128 s }) := by kernel_rfl
theorem w512_n (x : Nat → AV) (s : WrS) : seesL wrTs ((codeL Tryd.prog qS hS3 (fun _ _ => none) 100 (lp (blk 0 (bodyOf Tryd.prog 12))) ⟨tmOf (ups x (zipU wrTs (wrV 128 s))) 53, wrM 512 s⟩).go [true, false]) = some (dW 128 s ++ [!(IntKind.i64.wrap (aW 128 s + ((nW 128 s : Nat) : Int)) == 128)], 0, [.ptr false 0 0, .slice true 1 (s.o + ((nW 128 s : Nat) : Int).toNat * 1) (s.m - ((nW 128 s : Nat) : Int).toNat) none 1, .int false .i64 128], 53, wrM 512 { s with op := oW 128 s, c := cW 128 s }) := by kernel_rfl
theorem w512_f (x : Nat → AV) (s : WrS) : seesL wrTs ((codeL Tryd.prog qS hS3 (fun _ _ => none) 100 (lp (blk 0 (bodyOf Tryd.prog 12))) ⟨tmOf (ups x (zipU wrTs (wrV 128 s))) 53, wrM 512 s⟩).go [false]) = some ([decide (s.m < 9223372036854775808), !decide ((s.m : Int) > 0)], 2, wrV 128 s, 53, wrM 512 s) := by kernel_rfl
def wrP512 : List AV → Mem → Option WrS
  | [.ptr false 0 0, .slice true 1 o m none 1, .int false .i64 128], [some ⟨true, .wide [.int false .i64 512, .ints .u64 8 ws, .ints .u8 128 op, .int true .u64 c]⟩, some ⟨false, .ints .u8 (some n) l⟩] => some ⟨ws, op, c, n, l, o, m⟩
  | _, _ => none
def wrO512 (s : WrS) : List Bool := [decide (s.l.length = s.n), decide (s.n < 9223372036854775808), decide (s.op.length = 128), decide (s.ws.length = 8), all64 s.ws, decide (0 ≤ s.c ∧ s.c < 18446744073709551616), decide (s.o + s.m ≤ s.n)]
def wrEnd512 (s : WrS) : List Int × List Int × Int := ((s.l.drop s.o).take s.m).foldl (byteS 64 80 128) (s.ws, s.op, s.c)
def wrF512 (s : WrS) : List (Nat × AV) × Mem := ([], wrM 512 { s with ws := (wrEnd512 s).1, op := (wrEnd512 s).2.1, c := (wrEnd512 s).2.2 })
def wrΛ512 : LoopH := famH 0 53 wrTs wrP512 wrO512 wrF512 fun _ _ => none
set_option maxHeartbeats 1000000 in
theorem wr512_lok : LOk Tryd.prog (bodyOf Tryd.prog 12) wrΛ512 := by
  refine fam_ok (q := qS) (n := 100) (wrV 128) (wrM 512) (WrJ 64 80 128) (fun s => s.m) mixed hS3_ok LOk.none LOk.none (by kernel_rfl) (by kernel_rfl) (fun s => rfl) (fun s => rfl) (fun avs m s h ho => ?_) (fun s0 s hJ x => ?_)
  · unfold wrP512 at h
    split at h
    · cases h
      have o1 := of_decide_eq_true (ho _ (List.mem_cons_self ..))
      have o2 := of_decide_eq_true (ho _ (List.mem_cons_of_mem _ (List.mem_cons_self ..)))
      have o3 := of_decide_eq_true (ho _ (List.mem_cons_of_mem _ (List.mem_cons_of_mem _ (List.mem_cons_self ..))))
      have o4 := of_decide_eq_true (ho _ (List.mem_cons_of_mem _ (List.mem_cons_of_mem _ (List.mem_cons_of_mem _ (List.mem_cons_self ..)))))
      have o5 := ho _ (List.mem_cons_of_mem _ (List.mem_cons_of_mem _ (List.mem_cons_of_mem _ (List.mem_cons_of_mem _ (List.mem_cons_self ..)))))
      have o6 := of_decide_eq_true (ho _ (List.mem_cons_of_mem _ (List.mem_cons_of_mem _ (List.mem_cons_of_mem _ (List.mem_cons_of_mem _ (List.mem_cons_of_mem _ (List.mem_cons_self ..)))))))
      have o7 := of_decide_eq_true (ho _ (List.mem_cons_of_mem _ (List.mem_cons_of_mem _ (List.mem_cons_of_mem _ (List.mem_cons_of_mem _ (List.mem_cons_of_mem _ (List.mem_cons_of_mem _ (List.mem_cons_self ..))))))))
      exact ⟨_, LeL.refl _, rfl, ⟨rfl, rfl, o1, o2, o3, o4, all64_wd o5, ⟨o6.1, by have := o6.2; omega⟩, o7, rfl⟩⟩
    · cases h
  · have hJ' := hJ
    obtain ⟨hn, hl, len, small, op, ws, wd, c0, le, same⟩ := hJ
    by_cases hk : s.m = 0
    · refine Round.out (w512_f x s) rfl ?_ (paid_cons (by rw [hk]; rfl) (paid_cons (by rw [hk]; rfl) Paid.nil)) (fun p hp => by cases hp)
      rw [hk, List.take_zero, List.foldl_nil] at same
      obtain ⟨ws', op', c, n, l, o, m⟩ := s
      simp only at hn hl same
      subst hn hl
      simp only [wrF512, wrEnd512, ← same]
      rfl
    · obtain ⟨ha, hab⟩ := aW_eq (B := 128) (by decide) c0
      have ha' : aW 128 s = ((s.c % (128 : Int)).toNat : Nat) := ha
      have hat : (aW 128 s).toNat = (s.c % (128 : Int)).toNat := by rw [ha']; rfl
      have hnw : nW 128 s = min s.m (128 - (s.c % (128 : Int)).toNat) := by
        unfold nW; rw [hat]; rfl
      generalize hA : (s.c % (128 : Int)).toNat = A at ha' hat hnw hab
      have hAB : A < 128 := hab
      have hn1 : nW 128 s ≤ s.m := by rw [hnw]; exact Nat.min_le_left _ _
      have hn2 : A + nW 128 s ≤ 128 := by rw [hnw]; omega
      have hn0 : 0 < nW 128 s := by rw [hnw]; omega
      have hp : (((s.l.drop s.o).take s.m).take (nW 128 s)).length = nW 128 s := by
        rw [List.length_take, List.length_take, List.length_drop]; omega
      have hsplit : (s.l.drop s.o).take s.m = ((s.l.drop s.o).take s.m).take (nW 128 s) ++ (s.l.drop (s.o + nW 128 s)).take (s.m - nW 128 s) := by
        have h1 := List.take_append_drop (nW 128 s) ((s.l.drop s.o).take s.m)
        rw [List.drop_take, List.drop_drop] at h1
        exact h1.symm
      have hfold := fold_chunk (w := 64) (N := 80) (B := 128) (by decide) (by decide) (by decide) (p := ((s.l.drop s.o).take s.m).take (nW 128 s)) (ws := s.ws) (op := s.op) (c := s.c) op c0 (by intro h; rw [h] at hp; simp at hp; omega) (by rw [hp]; show (s.c % (128 : Int)).toNat + _ ≤ 128; rw [hA]; exact hn2)
      rw [hp, show (s.c % ((128 : Nat) : Int)).toNat = A from hA] at hfold
      have hc : cW 128 s = (s.c + ((nW 128 s : Nat) : Int)) % 2 ^ 64 := by
        unfold cW
        have e : IntKind.u64.wrap ((nW 128 s : Nat) : Int) = ((nW 128 s : Nat) : Int) := wrap_wd (k := .u64) rfl ⟨by omega, by simp only [IntKind.bits]; omega⟩
        rw [e, wrap_u (k := .u64) rfl]
        rfl
      have ho : oW 128 s = s.op.take A ++ ((s.l.drop s.o).take s.m).take (nW 128 s) ++ s.op.drop (A + nW 128 s) := by
        unfold oW; rw [hat]
      have hol : (oW 128 s).length = 128 := by
        rw [ho, List.length_append, List.length_append, hp, List.length_take, List.length_drop, op]; omega
      have hcr : 0 ≤ (s.c + ((nW 128 s : Nat) : Int)) % 2 ^ 64 ∧ (s.c + ((nW 128 s : Nat) : Int)) % 2 ^ 64 < 2 ^ 64 := ⟨by omega, by omega⟩
      have hsl : ([.ptr false 0 0, .slice true 1 (s.o + ((nW 128 s : Nat) : Int).toNat * 1) (s.m - ((nW 128 s : Nat) : Int).toNat) none 1, .int false .i64 128] : List AV) = [.ptr false 0 0, .slice true 1 (s.o + nW 128 s) (s.m - nW 128 s) none 1, .int false .i64 128] := by
        rw [Int.toNat_natCast, Nat.mul_one]
      have hend : IntKind.i64.wrap (aW 128 s + ((nW 128 s : Nat) : Int)) = ((A + nW 128 s : Nat) : Int) := by
        rw [ha']; unfold IntKind.wrap; simp [IntKind.bits, IntKind.signed]; omega
      have pd : Paid (dW 128 s) := by
        unfold dW
        rw [ha']
        refine paid_cons (decide_eq_true (by omega)) (paid_cons (decide_eq_true (by omega)) (paid_cons ?_ (paid_cons (decide_eq_true le) (paid_cons (decide_eq_true (by show 128 - _ < _; omega)) (paid_cons (decide_eq_true ?_) (paid_cons ?_ Paid.nil))))))
        · simp; omega
        · rw [Int.toNat_natCast]; omega
        · simp; omega
      by_cases hfull : A + nW 128 s = 128
      · rw [if_pos hfull] at hfold
        have hb := block_ok (w := 64) (N := 80) (l := oW 128 s) ws wd
        refine Round.on (w512_t x s) ⟨blockW 64 80 s.ws (oW 128 s), Z128, cW 128 s, s.n, s.l, s.o + nW 128 s, s.m - nW 128 s⟩ [] (by simp [wrM]) (paid_append.2 ⟨pd, paid_cons ?_ (paid_cons (all64_of wd) Paid.nil)⟩) (by rw [hsl]; exact LeL.refl _)
          ⟨hn, hl, len, small, rfl, hb.1, hb.2, by simp only [hc]; exact hcr, by simp only; omega, ?_⟩ rfl (by simp only; omega)
        · rw [hend, hfull]; rfl
        · rw [← same]
          simp only
          rw [hsplit, List.foldl_append, hfold, ← ho, ← hc]
      · rw [if_neg hfull] at hfold
        refine Round.on (w512_n x s) ⟨s.ws, oW 128 s, cW 128 s, s.n, s.l, s.o + nW 128 s, s.m - nW 128 s⟩ [] (by simp [wrM]) (paid_append.2 ⟨pd, paid_cons ?_ Paid.nil⟩) (by rw [hsl]; exact LeL.refl _)
          ⟨hn, hl, len, small, hol, ws, wd, by simp only [hc]; exact hcr, by simp only; omega, ?_⟩ rfl (by simp only; omega)
        · rw [hend]
          have : ¬ (((A + nW 128 s : Nat) : Int) = 128) := by omega
          simpa using this
        · rw [← same]
          simp only
          rw [hsplit, List.foldl_append, hfold, ← ho, ← hc]
theorem wri512_eval (ws op : List Int) (c : Int) (n : Nat) (l : List Int) : (funcL Tryd.prog qS hS3 wrΛ512 100 12 (cArgs 0 [.ptw (hashC 512 ws op true c), .buf true .u8 n l]) (cMem [.ptw (hashC 512 ws op true c), .buf true .u8 n l])).flat =
    some (wrO512 ⟨ws, op, c, n, l, 0, n⟩, (.tuple [], wrM 512 ⟨(wrEnd512 ⟨ws, op, c, n, l, 0, n⟩).1, (wrEnd512 ⟨ws, op, c, n, l, 0, n⟩).2.1, (wrEnd512 ⟨ws, op, c, n, l, 0, n⟩).2.2, n, l, 0, n⟩)) := by kernel_rfl

/-- Whatever the marks. -/
theorem write_marks {k : Int} {ws op : List Int} {s s2 : Bool} {c : Int} {n : Nat} {l : List Int} {v : AV} {cs : List Cells} (h : WriteCall Tryd.prog 12 [.ptw (hashC k ws op true c), .buf true .u8 n l] v cs []) :
    WriteCall Tryd.prog 12 [.ptw (hashC k ws op s c), .buf s2 .u8 n l] v cs [] := by
  intro ρ vs w ha hi
  have ha' : Reps ρ (upto 2) (cArgs 0 [.ptw (hashC k ws op true c), .buf true .u8 n l]) vs := by
    cases ha with
    | cons _ _ _ _ r0 hr => cases hr with
      | cons _ _ _ _ r1 hr => cases hr with
        | nil => cases r1 with
          | slice _ _ _ _ _ _ c ad hn hc hl hw had => exact .cons _ _ _ _ r0 (.cons _ _ _ _ (.slice true 1 0 n none 1 c ad hn hc hl hw had) .nil)
  have sw : ∀ b, SW ρ [.ptw (hashC k ws op s c), .buf s2 .u8 n l] b ↔ SW ρ [.ptw (hashC k ws op true c), .buf true .u8 n l] b := fun b => by
    constructor
    · rintro ⟨j, c', hj, hb⟩
      match j with
      | 0 => exact ⟨0, _, rfl, hb⟩
      | 1 => simp at hj
      | j + 2 => simp at hj
    · rintro ⟨j, c', hj, hb⟩
      match j with
      | 0 => exact ⟨0, _, rfl, hb⟩
      | 1 => simp at hj
      | j + 2 => simp at hj
  have swe : SW ρ [.ptw (hashC k ws op s c), .buf s2 .u8 n l] = SW ρ [.ptw (hashC k ws op true c), .buf true .u8 n l] := funext fun b => propext (sw b)
  rw [swe] at hi ⊢
  have hi' : Inv w (SW ρ [.ptw (hashC k ws op true c), .buf true .u8 n l]) (upto 2) ρ (getName (cMem [.ptw (hashC k ws op true c), .buf true .u8 n l])) w := by
    refine hi.mark fun n' b hn => ?_
    match n' with
    | 0 =>
      cases hn
      refine ⟨_, rfl, rfl, rfl, fun f hf => ?_⟩
      have e : ∀ s', exp [.int false .i64 k, .ints .u64 8 ws, .ints .u8 128 op, .int s' .u64 c] = exp [.int false .i64 k, .ints .u64 8 ws, .ints .u8 128 op] ++ [.int s' .u64 c] := fun s' => by
        rw [show ([.int false .i64 k, .ints .u64 8 ws, .ints .u8 128 op, .int s' .u64 c] : List AV) = [.int false .i64 k, .ints .u64 8 ws, .ints .u8 128 op] ++ [.int s' .u64 c] from rfl, exp_append]; rfl
      refine ⟨fun k' n' xs hm => hf.1 k' n' xs (by simpa using hm), fun i a ha => ?_⟩
      have h2 := hf.2
      rw [e] at ha h2
      generalize exp [.int false .i64 k, .ints .u64 8 ws, .ints .u8 128 op] = pre at ha h2
      by_cases hi2 : i < pre.length
      · rw [List.getElem?_append_left hi2] at ha
        exact h2 i a (by rw [List.getElem?_append_left hi2]; exact ha)
      · have hi3 : i = pre.length := by
          have := (List.getElem?_eq_some_iff.1 ha).1
          simp at this; omega
        subst hi3
        rw [List.getElem?_append_right (Nat.le_refl _), Nat.sub_self] at ha
        cases ha
        obtain ⟨v, h3, h4⟩ := h2 pre.length (.int s .u64 c) (by rw [List.getElem?_append_right (Nat.le_refl _), Nat.sub_self]; rfl)
        exact ⟨v, h3, by cases h4 with | int _ _ _ h => exact .int _ _ _ h⟩
    | 1 => exact ⟨b, hn, rfl, rfl, fun _ h => h⟩
    | n' + 2 => simp [cMem, getName] at hn
  have e2 : ∀ k', wMem k' [.ptw (hashC k ws op s c), .buf s2 .u8 n l] cs = wMem k' [.ptw (hashC k ws op true c), .buf true .u8 n l] cs := fun k' => by cases cs <;> rfl
  rw [e2]
  exact h ha' hi'
def wrI (ws op : List Int) (c : Int) (l : List Int) (n : Nat) : WrS := ⟨ws, op, c, n, l, 0, n⟩
def wriS : List V → E (AV × List Cells × Mem)
  | [.ptw (.wide [.int false .i64 256, .ints .u64 8 ws, .ints .u8 128 op, .int _ .u64 c]), .buf _ .u8 n l] => some ([all32 ws, decide (0 ≤ c ∧ c < 18446744073709551616), decide (n < 9223372036854775808)], (.tuple [], [hashC 256 (wrEnd256 (wrI ws op c l n)).1 (wrEnd256 (wrI ws op c l n)).2.1 true (wrEnd256 (wrI ws op c l n)).2.2], []))
  | [.ptw (.wide [.int false .i64 384, .ints .u64 8 ws, .ints .u8 128 op, .int _ .u64 c]), .buf _ .u8 n l] => some ([all64 ws, decide (0 ≤ c ∧ c < 18446744073709551616), decide (n < 9223372036854775808)], (.tuple [], [hashC 384 (wrEnd384 (wrI ws op c l n)).1 (wrEnd384 (wrI ws op c l n)).2.1 true (wrEnd384 (wrI ws op c l n)).2.2], []))
  | [.ptw (.wide [.int false .i64 512, .ints .u64 8 ws, .ints .u8 128 op, .int _ .u64 c]), .buf _ .u8 n l] => some ([all64 ws, decide (0 ≤ c ∧ c < 18446744073709551616), decide (n < 9223372036854775808)], (.tuple [], [hashC 512 (wrEnd512 (wrI ws op c l n)).1 (wrEnd512 (wrI ws op c l n)).2.1 true (wrEnd512 (wrI ws op c l n)).2.2], []))
  | _ => none
theorem hash_arg {k : Int} {ws op : List Int} {c : Int} {n : Nat} {l : List Int} {ρ : Nat → Loc3} {S N : Nat → Prop} {w w0 : World} (hi : Inv w0 S N ρ (getName (cMem [.ptw (hashC k ws op true c), .buf true .u8 n l])) w) :
    ws.length = 8 ∧ op.length = 128 ∧ l.length = n ∧ ∀ x ∈ l, inR .u8 x = true := by
  obtain ⟨cs, t, lo', hi', b1, b2, b3, b4, b5⟩ := (hi.sim.blk 0 _ rfl).ex
  obtain ⟨cs2, t2, lo2, hi2, c1, c2, c3, c4, c5⟩ := (hi.sim.blk 1 _ rfl).ex
  exact ⟨b5.1 .u64 8 ws (by simp), b5.1 .u8 128 op (by simp), c5.1 _ rfl, crep_all c5⟩
theorem wri_ok {xs : List V} {o : List Bool} {v : AV} {cs : List Cells} {bs : Mem} (h : wriS xs = some (o, (v, cs, bs))) (ho : Paid o) : WriteCall Tryd.prog 12 xs v cs bs := by
  have fin : ∀ {k : Int} {ws op : List Int} {c : Int} {n : Nat} {l : List Int} {v : AV} {cs : List Cells}, (ws.length = 8 → op.length = 128 → l.length = n → WriteCall Tryd.prog 12 [.ptw (hashC k ws op true c), .buf true .u8 n l] v cs []) →
      WriteCall Tryd.prog 12 [.ptw (hashC k ws op true c), .buf true .u8 n l] v cs [] := fun hw => by
    intro ρ vs w ha hi
    obtain ⟨h1, h2, h3, h4⟩ := hash_arg hi
    exact hw h1 h2 h3 ha hi
  unfold wriS at h
  split at h
  · rename_i ws op s c s2 n l
    cases h
    have o1 := ho _ (List.mem_cons_self ..)
    have o2 := of_decide_eq_true (ho _ (List.mem_cons_of_mem _ (List.mem_cons_self ..)))
    have o3 := of_decide_eq_true (ho _ (List.mem_cons_of_mem _ (List.mem_cons_of_mem _ (List.mem_cons_self ..))))
    refine @write_marks _ 256 ws op s s2 c n l (.tuple []) [hashC 256 (wrEnd256 (wrI ws op c l n)).1 (wrEnd256 (wrI ws op c l n)).2.1 true (wrEnd256 (wrI ws op c l n)).2.2] (@fin 256 ws op c n l (.tuple []) [hashC 256 (wrEnd256 (wrI ws op c l n)).1 (wrEnd256 (wrI ws op c l n)).2.1 true (wrEnd256 (wrI ws op c l n)).2.2] fun h1 h2 h3 => ?_)
    exact write_of_flat mixed noCount hS3_ok (fun fn c hf hb => by rw [bodyOf_eq hf hb]; exact wr256_lok) (wri256_eval ws op c n l) (paid_cons (decide_eq_true h3) (paid_cons (decide_eq_true o3) (paid_cons (decide_eq_true h2) (paid_cons (decide_eq_true h1) (paid_cons o1 (paid_cons (decide_eq_true o2) (paid_cons (decide_eq_true (Nat.le_of_eq (Nat.zero_add n))) Paid.nil))))))) rfl rfl
  · rename_i ws op s c s2 n l
    cases h
    have o1 := ho _ (List.mem_cons_self ..)
    have o2 := of_decide_eq_true (ho _ (List.mem_cons_of_mem _ (List.mem_cons_self ..)))
    have o3 := of_decide_eq_true (ho _ (List.mem_cons_of_mem _ (List.mem_cons_of_mem _ (List.mem_cons_self ..))))
    refine @write_marks _ 384 ws op s s2 c n l (.tuple []) [hashC 384 (wrEnd384 (wrI ws op c l n)).1 (wrEnd384 (wrI ws op c l n)).2.1 true (wrEnd384 (wrI ws op c l n)).2.2] (@fin 384 ws op c n l (.tuple []) [hashC 384 (wrEnd384 (wrI ws op c l n)).1 (wrEnd384 (wrI ws op c l n)).2.1 true (wrEnd384 (wrI ws op c l n)).2.2] fun h1 h2 h3 => ?_)
    exact write_of_flat mixed noCount hS3_ok (fun fn c hf hb => by rw [bodyOf_eq hf hb]; exact wr384_lok) (wri384_eval ws op c n l) (paid_cons (decide_eq_true h3) (paid_cons (decide_eq_true o3) (paid_cons (decide_eq_true h2) (paid_cons (decide_eq_true h1) (paid_cons o1 (paid_cons (decide_eq_true o2) (paid_cons (decide_eq_true (Nat.le_of_eq (Nat.zero_add n))) Paid.nil))))))) rfl rfl
  · rename_i ws op s c s2 n l
    cases h
    have o1 := ho _ (List.mem_cons_self ..)
    have o2 := of_decide_eq_true (ho _ (List.mem_cons_of_mem _ (List.mem_cons_self ..)))
    have o3 := of_decide_eq_true (ho _ (List.mem_cons_of_mem _ (List.mem_cons_of_mem _ (List.mem_cons_self ..))))
    refine @write_marks _ 512 ws op s s2 c n l (.tuple []) [hashC 512 (wrEnd512 (wrI ws op c l n)).1 (wrEnd512 (wrI ws op c l n)).2.1 true (wrEnd512 (wrI ws op c l n)).2.2] (@fin 512 ws op c n l (.tuple []) [hashC 512 (wrEnd512 (wrI ws op c l n)).1 (wrEnd512 (wrI ws op c l n)).2.1 true (wrEnd512 (wrI ws op c l n)).2.2] fun h1 h2 h3 => ?_)
    exact write_of_flat mixed noCount hS3_ok (fun fn c hf hb => by rw [bodyOf_eq hf hb]; exact wr512_lok) (wri512_eval ws op c n l) (paid_cons (decide_eq_true h3) (paid_cons (decide_eq_true o3) (paid_cons (decide_eq_true h2) (paid_cons (decide_eq_true h1) (paid_cons o1 (paid_cons (decide_eq_true o2) (paid_cons (decide_eq_true (Nat.le_of_eq (Nat.zero_add n))) Paid.nil))))))) rfl rfl
  · cases h
def hs4 : CallH := withW 12 [true, false] wriS hs3
theorem hs4_ok : HOk Tryd.prog hs4 := hs3_ok.withW fun _ _ _ _ _ h ho => wri_ok h ho
noncomputable def hS4 : CallH := deep Tryd.prog qS hs4 100 3
theorem hS4_ok : HOk Tryd.prog hS4 := hs4_ok.deep mixed noCount 100 3
end Go.Proofs.YtjhjhhibfojpiaaDoor
