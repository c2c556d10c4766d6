/- The reference's reduction of bytes, byte by byte. Own work. -/
import Derived.Test.YtdpaedcgbhlibaaRedC
namespace Go.Proofs.Ytdpaedcgbhlibaa
open Go.Ev Go.Wn
set_option maxRecDepth 100000
structure RrS where
  m : List Int
  n : Nat
  l : List Int
  r : List Int
  z : List Int
  i : Int
  q : Nat
def rrTs : List Nat := [0, 3, 4, 5, 6]
def rrV (s : RrS) : List AV := [.slice true 0 0 s.q none 1, .ptr false 2 0, .ptr false 3 0, .ptr false 4 0, .int true .i64 s.i]
def rrM (s : RrS) : Mem := [some ⟨false, .ints .u8 (some s.n) s.l⟩, none, some ⟨true, .ints .u64 (some 4) s.m⟩, some ⟨true, .ints .u64 (some 4) s.z⟩, some ⟨true, .ints .u64 (some 4) s.r⟩]
def rrP : List AV → Mem → Option RrS
  | [.slice true 0 0 q none 1, .ptr false 2 0, .ptr false 3 0, .ptr false 4 0, .int _ .i64 i], [some ⟨false, .ints .u8 (some n) l⟩, none, some ⟨true, .ints .u64 (some 4) m⟩, some ⟨true, .ints .u64 (some 4) z⟩, some ⟨true, .ints .u64 (some 4) r⟩] => some ⟨m, n, l, r, z, i, q⟩
  | _, _ => none
def rrW (s : RrS) : List Int :=
  [IntKind.u64.wrap (ishl .u64 (s.r.getD 0 0) 8 + IntKind.u64.wrap (s.l.getD (0 + s.i.toNat * 1) 0)), IntKind.u64.wrap (ishl .u64 (s.r.getD 1 0) 8 + ishr .u64 (s.r.getD 0 0) 56), IntKind.u64.wrap (ishl .u64 (s.r.getD 2 0) 8 + ishr .u64 (s.r.getD 1 0) 56), IntKind.u64.wrap (ishl .u64 (s.r.getD 3 0) 8 + ishr .u64 (s.r.getD 2 0) 56), ishr .u64 (s.r.getD 3 0) 56, 0, 0, 0, 0]
def rrN (s : RrS) : List Int := limbs (sg (fun t => (rrW s).getD t 0) 9 % val s.m)
theorem rr_t (x : Nat → AV) (s : RrS) : seesL rrTs ((codeL Try.prog qAll hf4 (fun _ _ => none) 100 (lp (blk 0 (bodyOf Try.prog 48))) ⟨tmOf (ups x (zipU rrTs (rrV s))) 50, rrM s⟩).go [true]) =
    some ([decide (s.q < 9223372036854775808), decide (s.i < s.q), decide (0 ≤ s.i) && decide (s.i < s.q), decide (0 + s.i.toNat * 1 + 1 ≤ s.n), decide (0 < val s.m)], 0,
      [.slice true 0 0 s.q none 1, .ptr false 2 0, .ptr false 3 0, .ptr false 4 0, .int true .i64 (IntKind.i64.wrap (s.i + 1))], 50, rrM { s with r := rrN s } ++ []) := by kernel_rfl
theorem rr_f (x : Nat → AV) (s : RrS) : seesL rrTs ((codeL Try.prog qAll hf4 (fun _ _ => none) 100 (lp (blk 0 (bodyOf Try.prog 48))) ⟨tmOf (ups x (zipU rrTs (rrV s))) 50, rrM s⟩).go [false]) =
    some ([decide (s.q < 9223372036854775808), !decide (s.i < s.q)], 2, rrV s, 50, rrM s) := by kernel_rfl
theorem wr64 (x : Int) : IntKind.u64.wrap x = x % 18446744073709551616 := by
  unfold IntKind.wrap; simp [IntKind.bits, IntKind.signed]
theorem shl8 (x : Int) : ishl .u64 x 8 = x * 256 % 18446744073709551616 := by
  unfold ishl
  rw [wr64]
  have : (2 : Int) ^ (min (Int.toNat 8) (IntKind.bits .u64)) = 256 := by decide
  rw [this]
theorem shr56 (x : Int) : ishr .u64 x 56 = x / 72057594037927936 := by
  unfold ishr
  have : (2 : Int) ^ (min (Int.toNat 56) (IntKind.bits .u64)) = 72057594037927936 := by decide
  rw [this, Int.fdiv_eq_ediv_of_nonneg _ (by omega)]
theorem rr_word {a b c d x : Int} (ha : W a) (hb : W b) (hc : W c) (hd : W d) (hx : 0 ≤ x ∧ x < 256) (s : RrS) (hs : s.r = [a, b, c, d]) (hl : s.l.getD (0 + s.i.toNat * 1) 0 = x) :
    sg (fun t => (rrW s).getD t 0) 9 = val [a, b, c, d] * 256 + x := by
  unfold W at ha hb hc hd
  unfold rrW
  rw [hs, hl]
  simp only [List.getD_cons_zero, List.getD_cons_succ]
  rw [sg9, shl8, shl8, shl8, shl8, shr56, shr56, shr56, shr56, wr64, wr64, wr64, wr64, wr64]
  simp only [val, W4, List.getD_cons_zero, List.getD_cons_succ]
  omega
structure RrJ (s0 s : RrS) : Prop where
  hm : s.m = s0.m
  hn : s.n = s0.n
  hl : s.l = s0.l
  hz : s.z = s0.z
  pos : 0 < val s.m
  g4 : val s.m < W4
  i0 : 0 ≤ s.i
  le : s.i ≤ s.n
  len : s.l.length = s.n
  byte : ∀ x ∈ s.l, inR .u8 x = true
  small : s.n < 9223372036854775808
  r : s.r = limbs (be (s.l.take s.i.toNat) % val s.m)
  qn : s.q = s.n
def rrO (s : RrS) : List Bool := [decide (s.i = 0), decide (s.r = [0, 0, 0, 0]), decide (0 < val s.m), decide (val s.m < W4), decide (s.l.length = s.n), s.l.all (inR .u8), decide (s.n < 9223372036854775808), decide (s.q = s.n)]
def rrF (s : RrS) : List (Nat × AV) × Mem := ([(4, .ptr false 3 0), (5, .ptr false 4 0)], rrM { s with r := limbs (be s.l % val s.m) })
def rrΛ : LoopH := famH 0 50 rrTs rrP rrO rrF fun _ _ => none
set_option maxHeartbeats 1000000 in
theorem rr_lok : LOk Try.prog (bodyOf Try.prog 48) rrΛ := by
  refine fam_ok (q := qAll) (n := 100) rrV rrM RrJ (fun s => s.n - s.i.toNat) mixed hf4_ok LOk.none LOk.none (by kernel_rfl) (by kernel_rfl) (fun s => rfl) (fun s => rfl) (fun avs m s h ho => ?_) (fun s0 s hJ x => ?_)
  · unfold rrP at h
    split at h
    · rename_i q sm i n l m z r
      cases h
      simp only [rrO] at ho
      have o1 := of_decide_eq_true (ho _ (List.mem_cons_self ..))
      have o2 := of_decide_eq_true (ho _ (List.mem_cons_of_mem _ (List.mem_cons_self ..)))
      have o3 := of_decide_eq_true (ho _ (List.mem_cons_of_mem _ (List.mem_cons_of_mem _ (List.mem_cons_self ..))))
      have o4 := of_decide_eq_true (ho _ (List.mem_cons_of_mem _ (List.mem_cons_of_mem _ (List.mem_cons_of_mem _ (List.mem_cons_self ..)))))
      have o5 := of_decide_eq_true (ho _ (List.mem_cons_of_mem _ (List.mem_cons_of_mem _ (List.mem_cons_of_mem _ (List.mem_cons_of_mem _ (List.mem_cons_self ..))))))
      have o6 := ho _ (List.mem_cons_of_mem _ (List.mem_cons_of_mem _ (List.mem_cons_of_mem _ (List.mem_cons_of_mem _ (List.mem_cons_of_mem _ (List.mem_cons_self ..))))))
      have o7 := of_decide_eq_true (ho _ (List.mem_cons_of_mem _ (List.mem_cons_of_mem _ (List.mem_cons_of_mem _ (List.mem_cons_of_mem _ (List.mem_cons_of_mem _ (List.mem_cons_of_mem _ (List.mem_cons_self ..))))))))
      have o8 := of_decide_eq_true (ho _ (List.mem_cons_of_mem _ (List.mem_cons_of_mem _ (List.mem_cons_of_mem _ (List.mem_cons_of_mem _ (List.mem_cons_of_mem _ (List.mem_cons_of_mem _ (List.mem_cons_of_mem _ (List.mem_cons_self ..)))))))))
      refine ⟨⟨m, n, l, r, z, i, q⟩, .cons (.refl _) (.cons (.refl _) (.cons (.refl _) (.cons (.refl _) (.cons (.int _ _ _) .nil)))), rfl, ⟨rfl, rfl, rfl, rfl, o3, o4, by simp only at o1 ⊢; omega, by simp only at o1 ⊢; omega, o5, fun x hx => List.all_eq_true.1 o6 x hx, o7, ?_, o8⟩⟩
      rw [o1, o2]
      show [0, 0, 0, 0] = limbs (be (l.take 0) % val m)
      simp [be, limbs]
    · cases h
  · obtain ⟨m, n, l, r, z, i, q⟩ := s
    obtain ⟨m0, n0, l0, r0, z0, i00, q0⟩ := s0
    obtain ⟨hm, hn, hl, hz, pos, g4, i0, le, len, byte, small, hr, qn⟩ := hJ
    simp only at hm hn hl hz pos g4 i0 le len byte small hr qn
    subst hm hn hl hz qn
    by_cases hk : i = q
    · subst hk
      have ho : l.take (Int.toNat (q : Int)) = l := List.take_of_length_le (by omega)
      rw [ho] at hr
      refine Round.out (rr_f x ⟨m, q, l, r, z, q, q⟩) rfl (by simp only [rrF, hr]; rfl) (paid_cons (decide_eq_true small) (paid_cons (by simp) Paid.nil)) fun p hp => ?_
      simp only [rrF, List.mem_cons, List.not_mem_nil, or_false] at hp
      rcases hp with rfl | rfl
      · exact ⟨_, by simp [rrTs, rrV, zipU], Le1.refl _⟩
      · exact ⟨_, by simp [rrTs, rrV, zipU], Le1.refl _⟩
    · have hlt : i < q := by omega
      have hit : i.toNat < l.length := by omega
      have hb : 0 ≤ l[i.toNat] ∧ l[i.toNat] < 256 := inR_u8 (byte _ (List.getElem_mem hit))
      have hd : l.getD (0 + i.toNat * 1) 0 = l[i.toNat] := by rw [Nat.zero_add, Nat.mul_one, List.getD, List.getElem?_eq_getElem hit, Option.getD_some]
      have hrr : ∃ a b c d, r = [a, b, c, d] ∧ W a ∧ W b ∧ W c ∧ W d := by
        rw [hr]
        exact ⟨_, _, _, _, rfl, by unfold W; omega, by unfold W; omega, by unfold W; omega, by unfold W; omega⟩
      obtain ⟨a, b, c, d, hr4, wa, wb, wc, wd⟩ := hrr
      have hvr : val [a, b, c, d] = be (l.take i.toNat) % val m := by rw [← hr4, hr]; exact val_limbs_mod pos g4
      have hN : rrN ⟨m, q, l, r, z, i, q⟩ = limbs (be (l.take (i.toNat + 1)) % val m) := by
        unfold rrN
        rw [rr_word wa wb wc wd hb ⟨m, q, l, r, z, i, q⟩ hr4 hd, hvr]
        have : be (l.take (i.toNat + 1)) = be (l.take i.toNat) * 256 + l[i.toNat] := by
          rw [List.take_add_one, be_append, List.getElem?_eq_getElem hit]
          simp [be]
        simp only
        rw [this, Int.add_emod, Int.mul_emod, Int.emod_emod_of_dvd _ (Int.dvd_refl _), ← Int.mul_emod, ← Int.add_emod]
      have hw : IntKind.i64.wrap (i + 1) = i + 1 := by
        unfold IntKind.wrap; simp [IntKind.bits, IntKind.signed]; omega
      have ht : (i + 1).toNat = i.toNat + 1 := by omega
      refine Round.on (rr_t x ⟨m, q, l, r, z, i, q⟩) ⟨m, q, l, limbs (be (l.take (i.toNat + 1)) % val m), z, i + 1, q⟩ [] (by simp only [rrM, hN]) ?_ (by simp only [hw]; exact LeL.refl _)
        ⟨rfl, rfl, rfl, rfl, pos, g4, by simp only; omega, by simp only; omega, len, byte, small, by simp only [ht], rfl⟩ rfl (by simp only; omega)
      exact paid_cons (decide_eq_true small) (paid_cons (decide_eq_true hlt) (paid_cons (by simp; omega) (paid_cons (decide_eq_true (by simp only; omega)) (paid_cons (decide_eq_true pos) Paid.nil))))
def rrdS : List V → E (AV × Mem)
  | [.buf true .u8 n l, .pl (.ints .u64 4 m)] => some ([decide (0 < val m), decide (n < 9223372036854775808)], (.ints .u64 4 (limbs (be l % val m)), []))
  | _ => none
theorem rrd_eval (n : Nat) (l m : List Int) : res ((funcL Try.prog qAll hf4 rrΛ 100 48 (cArgs 0 [.buf true .u8 n l, .pl (.ints .u64 4 m)]) (cMem [.buf true .u8 n l, .pl (.ints .u64 4 m)])).go []) =
    some (rrO ⟨m, n, l, [0, 0, 0, 0], [0, 0, 0, 0], 0, n⟩, .ints .u64 4 (limbs (be l % val m))) := by kernel_rfl
theorem rrd_ok {xs : List V} {o : List Bool} {v : AV} {bs : Mem} (h : rrdS xs = some (o, (v, bs))) (ho : Paid o) : ViewCall Try.prog 48 xs v bs := by
  unfold rrdS at h
  split at h
  · rename_i n l m
    cases h
    have hp := of_decide_eq_true (ho _ (List.mem_cons_self ..))
    have hn := of_decide_eq_true (ho _ (List.mem_cons_of_mem _ (List.mem_cons_self ..)))
    intro ρ vs w ha hi
    obtain ⟨hl, hr⟩ := buf_arg hi 0 rfl
    have hm : val m < W4 := by
      cases ha with
      | cons _ _ _ _ r0 hb => cases hb with
        | cons _ _ _ _ r1 hb =>
          obtain ⟨a, b, c, d, rfl, w0, w1, w2, w3⟩ := num_arg r1
          exact (val_range w0 w1 w2 w3).2
    exact view_of_goL mixed noCount hf4_ok (fun fn c hf hb => by rw [bodyOf_eq hf hb]; exact rr_lok) [] (rrd_eval n l m) (paid_cons rfl (paid_cons rfl (paid_cons (decide_eq_true hp) (paid_cons (decide_eq_true hm) (paid_cons (decide_eq_true hl) (paid_cons (List.all_eq_true.2 hr) (paid_cons (decide_eq_true hn) (paid_cons (decide_eq_true rfl) Paid.nil)))))))) rfl (by kernel_rfl) ha hi
  · cases h
/-- The reference's number of 32 bytes, in whatever way they are marked. -/
def rbigT : List V → E (AV × Mem)
  | [.buf true .u8 n l] => some ([decide (n = 32)], (.ints .u64 4 (bigL l), []))
  | [.pl .nilslice] => some ([false], (.ints .u64 4 [], []))
  | [.empty] => some ([false], (.ints .u64 4 [], []))
  | _ => none
theorem rbigT_ok {xs : List V} {o : List Bool} {v : AV} {bs : Mem} (h : rbigT xs = some (o, (v, bs))) (ho : Paid o) : ViewCall Try.prog 28 xs v bs := by
  unfold rbigT at h
  split at h
  · rename_i n l
    cases h
    have hn := of_decide_eq_true (ho _ (List.mem_cons_self ..))
    subst hn
    intro ρ vs w ha hi
    have hb : Reps ρ (upto 1) (cArgs 0 [.buf false .u8 32 l]) vs := by
      cases ha with
      | cons _ _ _ _ r0 hr => cases hr with
        | nil => cases r0 with
          | slice _ _ _ _ _ _ c ad hn hc hl hw had => exact .cons _ _ _ _ (.slice false 0 0 32 none 1 c ad hn hc hl hw had) .nil
    exact rbig_ok (xs := [.buf false .u8 32 l]) (o := []) rfl hb hi
  · cases h
    exact absurd (ho _ (List.mem_cons_self ..)) (by decide)
  · cases h
    exact absurd (ho _ (List.mem_cons_self ..)) (by decide)
  · cases h
def hdR : CallH := withV 28 rbigT (withV 48 rrdS hd1)
theorem hdR_ok : HOk Try.prog hdR := (hd1_ok.withV fun _ _ _ _ h ho => rrd_ok h ho).withV fun _ _ _ _ h ho => rbigT_ok h ho
def hdA : CallH := withC 32 soundS (withV 33 newG hdR)
theorem hdA_ok : HOk Try.prog hdA := (hdR_ok.withV fun _ _ _ _ h ho => newG_ok h ho).withC fun _ _ _ h _ => msound_ok h
def hdB : CallH := withC 32 soundS (withV 33 newB hdR)
theorem hdB_ok : HOk Try.prog hdB := (hdR_ok.withV fun _ _ _ _ h ho => newB_ok h ho).withC fun _ _ _ h _ => msound_ok h
end Go.Proofs.Ytdpaedcgbhlibaa
