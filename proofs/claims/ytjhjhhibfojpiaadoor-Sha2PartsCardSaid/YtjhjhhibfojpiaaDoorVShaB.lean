/- The program's rounds of a block, and a block, both widths. Own work. -/
import Derived.Test.YtjhjhhibfojpiaaDoorVShaA
set_option linter.unusedSimpArgs false
set_option linter.unusedVariables false
set_option linter.unusedSectionVars false
namespace Go.Ev
theorem view_goL [Tab] {P : Program} {q : FuncId → Bool} {H : CallH} {Λ : LoopH} (hm : P.follows .mixedOrders = true) (hng : noCount P = true) (hH : HOk P H) {n : Nat} {g : FuncId} (hΛ : ∀ fn c, P.funcs[g]? = some fn → fn.body = some c → LOk P c Λ) {xs : List V} {o : List Bool} {v v' : AV} (ds : List Bool)
    (h : res ((funcL P q H Λ n g (cArgs 0 xs) (cMem xs)).go ds) = some (o, v)) (ho : Paid o) (hv : v = v') (hpl : plainAs v' = true) : ViewCall P g xs v' [] :=
  view_of_evalL hm hng hH hΛ hpl (go_sound (sat_eq h ho hv hpl))
end Go.Ev
namespace Go.Sh
open Go.Ev
def KL (w : Nat) : List Int := if w = 32 then cubeL.map (fun k => k / 2 ^ 32) else cubeL
theorem kl32 (i : Nat) : IntKind.u32.wrap (ishr .u64 (cubeL.getD i 0) 32) % 2 ^ 32 = (KL 32).getD i 0 % 2 ^ 32 := by
  have e : (KL 32).getD i 0 = cubeL.getD i 0 / 2 ^ 32 := by
    unfold KL
    rw [if_pos rfl, List.getD, List.getD, List.getElem?_map]
    cases cubeL[i]? <;> simp
  rw [e, wrap_u (k := .u32) rfl, show ishr .u64 (cubeL.getD i 0) 32 = cubeL.getD i 0 / 2 ^ 32 from sd64 32 (by decide)]
  simp only [IntKind.bits]
  omega
theorem kl64 (i : Nat) : cubeL.getD i 0 % 2 ^ 64 = (KL 64).getD i 0 % 2 ^ 64 := by
  unfold KL; rw [if_neg (by decide)]
/-- The rounds, one after the other. -/
def roundsV (w N : Nat) (b v : List Int) : Nat → List Int
  | 0 => v
  | n + 1 => roundW w ((KL w).getD n 0) ((wordsW w b N).getD n 0) (roundsV w N b v n)
/-- A block. -/
def blockW (w N : Nat) (v b : List Int) : List Int := List.zipWith (fun x y => (x + y) % 2 ^ w) v (roundsV w N b v N)
theorem eight {l : List Int} (h : l.length = 8) : ∃ a b c d e f g i, l = [a, b, c, d, e, f, g, i] := by
  match l, h with
  | [a, b, c, d, e, f, g, i], _ => exact ⟨a, b, c, d, e, f, g, i, rfl⟩
theorem mod_wd (w : Nat) (x : Int) : Wd w (x % 2 ^ w) := ⟨Int.emod_nonneg _ (Int.ne_of_gt (pos2 w)), Int.emod_lt_of_pos _ (pos2 w)⟩
theorem rounds_eight {w n : Nat} {b v : List Int} (hl : v.length = 8) (hw : ∀ x ∈ v, Wd w x) : ∀ i, ∃ a1 a2 a3 a4 a5 a6 a7 a8, roundsV w n b v i = [a1, a2, a3, a4, a5, a6, a7, a8] ∧ Wd w a1 ∧ Wd w a2 ∧ Wd w a3 ∧ Wd w a4 ∧ Wd w a5 ∧ Wd w a6 ∧ Wd w a7 ∧ Wd w a8
  | 0 => by
    obtain ⟨a1, a2, a3, a4, a5, a6, a7, a8, rfl⟩ := eight hl
    exact ⟨a1, a2, a3, a4, a5, a6, a7, a8, rfl, hw _ (by simp), hw _ (by simp), hw _ (by simp), hw _ (by simp), hw _ (by simp), hw _ (by simp), hw _ (by simp), hw _ (by simp)⟩
  | i + 1 => by
    obtain ⟨a1, a2, a3, a4, a5, a6, a7, a8, h, w1, w2, w3, w4, w5, w6, w7, w8⟩ := rounds_eight (b := b) (n := n) hl hw i
    refine ⟨_, _, _, _, _, _, _, _, by unfold roundsV; rw [h]; rfl, mod_wd _ _, w1, w2, w3, mod_wd _ _, w5, w6, w7⟩
end Go.Sh
namespace Go.Proofs.YtjhjhhibfojpiaaDoor
variable [Go.Ev.RowTab]
open Go.Ev Go.Sh
set_option maxRecDepth 100000
def hs1 : CallH := withV 42 schS32 (withV 45 schS64 h0)
theorem hs1_ok : HOk Tryd.prog hs1 := (h0_ok.withV fun _ _ _ _ h ho => sch64_ok h ho).withV fun _ _ _ _ h ho => sch32_ok h ho
noncomputable def hS1 : CallH := deep Tryd.prog qS hs1 100 3
theorem hS1_ok : HOk Tryd.prog hS1 := hs1_ok.deep mixed noCount 100 3
structure RoS where
  B : List Int
  l : List Int
  z : List Int
  v : List Int
  ws : List Int
  i : Int
def roTs32 : List Nat := [2, 4, 5, 27, 28]
def roV32 (s : RoS) : List AV := [.ptr false 2 0, .ptr false 3 0, .ptr false 4 0, .ints .u32 64 s.ws, .int true .i64 s.i]
def roM32 (s : RoS) : Mem := [none, some ⟨false, .ints .u8 (some 128) s.l⟩, some ⟨true, .ints .u64 (some 8) s.B⟩, some ⟨true, .ints .u64 (some 8) s.z⟩, some ⟨true, .ints .u32 (some 8) s.v⟩]
def roTs64 : List Nat := [2, 4, 5, 16, 17]
def roV64 (s : RoS) : List AV := [.ptr false 2 0, .ptr false 3 0, .ptr false 4 0, .ints .u64 80 s.ws, .int true .i64 s.i]
def roM64 (s : RoS) : Mem := [none, some ⟨false, .ints .u8 (some 128) s.l⟩, some ⟨true, .ints .u64 (some 8) s.B⟩, some ⟨true, .ints .u64 (some 8) s.z⟩, some ⟨true, .ints .u64 (some 8) s.v⟩]

def finL32 (B V : List Int) : List Int := [IntKind.u64.wrap (IntKind.u32.wrap (IntKind.u32.wrap (B.getD 0 0) + V.getD 0 0)), IntKind.u64.wrap (IntKind.u32.wrap (IntKind.u32.wrap (B.getD 1 0) + V.getD 1 0)), IntKind.u64.wrap (IntKind.u32.wrap (IntKind.u32.wrap (B.getD 2 0) + V.getD 2 0)), IntKind.u64.wrap (IntKind.u32.wrap (IntKind.u32.wrap (B.getD 3 0) + V.getD 3 0)), IntKind.u64.wrap (IntKind.u32.wrap (IntKind.u32.wrap (B.getD 4 0) + V.getD 4 0)), IntKind.u64.wrap (IntKind.u32.wrap (IntKind.u32.wrap (B.getD 5 0) + V.getD 5 0)), IntKind.u64.wrap (IntKind.u32.wrap (IntKind.u32.wrap (B.getD 6 0) + V.getD 6 0)), IntKind.u64.wrap (IntKind.u32.wrap (IntKind.u32.wrap (B.getD 7 0) + V.getD 7 0))]
theorem fin32_eq {l B : List Int} (hB : B.length = 8) (wd : ∀ x ∈ B, Wd 32 x) : finL32 B (roundsV 32 64 l B 64) = blockW 32 64 B l := by
  obtain ⟨a, b, c, d, e, f, g, h, hv, wa, wb, wc, wd', we, wf, wg, wh⟩ := rounds_eight (w := 32) (n := 64) (b := l) hB wd 64
  unfold blockW
  rw [hv]
  obtain ⟨b0, b1, b2, b3, b4, b5, b6, b7, rfl⟩ := eight hB
  unfold finL32
  simp only [List.zipWith_cons_cons, List.zipWith_nil_left, List.getD_cons_zero, List.getD_cons_succ, wrap_u (k := .u64) rfl, wrap_u (k := .u32) rfl, IntKind.bits, Int.reducePow, List.cons.injEq, and_true]
  refine ⟨?_, ?_, ?_, ?_, ?_, ?_, ?_, ?_⟩ <;> omega

/- 32 bits -/
def raw32 (K x : Int) : List Int → List Int
  | [a, b, c, d, e, f, g, h] => [IntKind.u32.wrap (IntKind.u32.wrap (IntKind.u32.wrap (IntKind.u32.wrap (h + S1_32 e) + ior .u32 (iand .u32 e f) (iand .u32 (ixor .u32 4294967295 e) g)) + IntKind.u32.wrap (K + x)) + IntKind.u32.wrap (S0_32 a + ior .u32 (ior .u32 (iand .u32 a b) (iand .u32 a c)) (iand .u32 b c))), a, b, c,
      IntKind.u32.wrap (d + IntKind.u32.wrap (IntKind.u32.wrap (IntKind.u32.wrap (h + S1_32 e) + ior .u32 (iand .u32 e f) (iand .u32 (ixor .u32 4294967295 e) g)) + IntKind.u32.wrap (K + x))), e, f, g]
  | l => l
theorem not32 {x : Int} (h : Wd 32 x) : ixor .u32 4294967295 x = 2 ^ 32 - 1 - x := by
  obtain ⟨a, ha, rfl⟩ := wd_nat h
  unfold ixor
  have e : BitVec.ofInt 32 4294967295 = BitVec.allOnes 32 := by decide
  have e2 : (BitVec.ofInt 32 (a : Int)).toNat = a := ofInt_nat ha
  show IntKind.u32.wrap ((BitVec.ofInt 32 4294967295 ^^^ BitVec.ofInt 32 (a : Int)).toNat : Int) = _
  rw [e]
  show IntKind.u32.wrap ((BitVec.allOnes 32 ^^^ BitVec.ofInt 32 (a : Int)).toNat : Int) = _
  rw [BitVec.allOnes_xor, BitVec.toNat_not, e2, wrap_wd (k := .u32) rfl]
  · have : a ≤ 2 ^ 32 - 1 := by omega
    omega
  · refine ⟨by omega, ?_⟩
    show ((2 ^ 32 - 1 - a : Nat) : Int) < 2 ^ 32
    omega
theorem raw32_eq {K K' x a b c d e f g h : Int} (hK : K % 2 ^ 32 = K' % 2 ^ 32) (ha : Wd 32 a) (hb : Wd 32 b) (hc : Wd 32 c) (he : Wd 32 e) (hf : Wd 32 f) (hg : Wd 32 g) :
    raw32 K x [a, b, c, d, e, f, g, h] = roundW 32 K' x [a, b, c, d, e, f, g, h] := by
  have hn : Wd 32 (2 ^ 32 - 1 - e) := ⟨by have := he.2; omega, by have := he.1; omega⟩
  have e1 : ior .u32 (iand .u32 e f) (iand .u32 (ixor .u32 4294967295 e) g) = cho 32 e f g := by
    rw [not32 he, iand_ia (k := .u32) rfl he hf, iand_ia (k := .u32) rfl hn hg, ior_io (k := .u32) rfl (ia_wd he) (ia_wd hn)]; rfl
  have e2 : ior .u32 (ior .u32 (iand .u32 a b) (iand .u32 a c)) (iand .u32 b c) = maj a b c := by
    rw [iand_ia (k := .u32) rfl ha hb, iand_ia (k := .u32) rfl ha hc, iand_ia (k := .u32) rfl hb hc, ior_io (k := .u32) rfl (ia_wd ha) (ia_wd ha), ior_io (k := .u32) rfl (io_wd (ia_wd ha) (ia_wd ha)) (ia_wd hb)]; rfl
  unfold raw32 roundW
  simp only
  rw [e1, e2, S1_32_eq he, S0_32_eq ha]
  simp only [wrap_u (k := .u32) rfl, IntKind.bits]
  generalize big1 32 e = p1
  generalize big0 32 a = p2
  generalize cho 32 e f g = p3
  generalize maj a b c = p4
  simp only [Int.reducePow] at hK ⊢
  congr 1
  · omega
  · congr 1
    congr 1
    congr 1
    congr 1
    omega
def roP32 : List AV → Mem → Option RoS
  | [.ptr false 2 0, .ptr false 3 0, .ptr false 4 0, .ints .u32 64 ws, .int _ .i64 i], [none, some ⟨false, .ints .u8 (some 128) l⟩, some ⟨true, .ints .u64 (some 8) B⟩, some ⟨true, .ints .u64 (some 8) z⟩, some ⟨true, .ints .u32 (some 8) v⟩] => some ⟨B, l, z, v, ws, i⟩
  | _, _ => none
theorem ro32_t (x : Nat → AV) (s : RoS) (a b c d e f g h : Int) : seesL roTs32 ((codeL Tryd.prog qS hS1 (fun _ _ => none) 100 (lp (blk 2 (bodyOf Tryd.prog 37))) ⟨tmOf (ups x (zipU roTs32 (roV32 { s with v := [a, b, c, d, e, f, g, h] }))) 79, roM32 { s with v := [a, b, c, d, e, f, g, h] }⟩).go [true]) =
    some ([decide (s.i < 64), decide (0 ≤ s.i) && decide (s.i < ((64 : Nat) : Int)), decide (0 ≤ s.i) && decide (s.i < ((80 : Nat) : Int)), decide (0 + s.i.toNat * 1 + 1 ≤ 80)], 0,
      [.ptr false 2 0, .ptr false 3 0, .ptr false 4 0, .ints .u32 64 s.ws, .int true .i64 (IntKind.i64.wrap (s.i + 1))], 79, roM32 { s with v := raw32 (IntKind.u32.wrap (ishr .u64 (cubeL.getD (0 + s.i.toNat * 1) 0) 32)) (s.ws.getD s.i.toNat 0) [a, b, c, d, e, f, g, h] }) := by kernel_rfl
theorem ro32_f (x : Nat → AV) (s : RoS) : seesL roTs32 ((codeL Tryd.prog qS hS1 (fun _ _ => none) 100 (lp (blk 2 (bodyOf Tryd.prog 37))) ⟨tmOf (ups x (zipU roTs32 (roV32 s))) 79, roM32 s⟩).go [false]) = some ([!decide (s.i < 64)], 4, roV32 s, 79, roM32 s) := by kernel_rfl
structure RoJ32 (B l : List Int) (s0 s : RoS) : Prop where
  hB : s.B = s0.B
  hl : s.l = s0.l
  hz : s.z = s0.z
  hw : s.ws = s0.ws
  ws : s.ws = wordsW 32 l 64
  lo : 0 ≤ s.i
  hi : s.i ≤ 64
  v : s.v = roundsV 32 64 l B s.i.toNat
  len : B.length = 8
  wd : ∀ x ∈ B, Wd 32 x
def all32 (l : List Int) : Bool := l.all fun x => decide (0 ≤ x) && decide (x < 4294967296)
theorem all32_wd {l : List Int} (h : all32 l = true) : ∀ x ∈ l, Wd 32 x := fun x hx => by
  have := List.all_eq_true.1 h x hx
  simp only [Bool.and_eq_true, decide_eq_true_eq] at this
  exact ⟨this.1, by have := this.2; omega⟩
def roO32 (s : RoS) : List Bool := [decide (s.i = 0), decide (s.ws = wordsW 32 s.l 64), decide (s.v = s.B), decide (s.B.length = 8), all32 s.B]
def roF32 (s : RoS) : List (Nat × AV) × Mem := ([(2, .ptr false 2 0), (4, .ptr false 3 0), (5, .ptr false 4 0)], roM32 { s with v := roundsV 32 64 s.l s.B 64 })
def roΛ32 : LoopH := famH 2 79 roTs32 roP32 roO32 roF32 fun _ _ => none
set_option maxHeartbeats 1000000 in
theorem ro32_lok : LOk Tryd.prog (bodyOf Tryd.prog 37) roΛ32 := by
  refine fam_ok (q := qS) (n := 100) roV32 roM32 (fun s0 s => RoJ32 s0.B s0.l s0 s) (fun s => 64 - s.i.toNat) mixed hS1_ok LOk.none LOk.none (by kernel_rfl) (by kernel_rfl) (fun s => rfl) (fun s => rfl) (fun avs m s h ho => ?_) (fun s0 s hJ x => ?_)
  · unfold roP32 at h
    split at h
    · cases h
      have o1 := of_decide_eq_true (ho _ (List.mem_cons_self ..))
      have o2 := of_decide_eq_true (ho _ (List.mem_cons_of_mem _ (List.mem_cons_self ..)))
      have o3 := of_decide_eq_true (ho _ (List.mem_cons_of_mem _ (List.mem_cons_of_mem _ (List.mem_cons_self ..))))
      have o4 := of_decide_eq_true (ho _ (List.mem_cons_of_mem _ (List.mem_cons_of_mem _ (List.mem_cons_of_mem _ (List.mem_cons_self ..)))))
      have o5 := ho _ (List.mem_cons_of_mem _ (List.mem_cons_of_mem _ (List.mem_cons_of_mem _ (List.mem_cons_of_mem _ (List.mem_cons_self ..)))))
      simp only at o1 o2 o3 o4 o5
      refine ⟨_, .cons (.refl _) (.cons (.refl _) (.cons (.refl _) (.cons (.refl _) (.cons (.int _ _ _) .nil)))), rfl, ⟨rfl, rfl, rfl, rfl, o2, by simp only; omega, by simp only; omega, ?_, o4, all32_wd o5⟩⟩
      simp only [o1, o3]
      rfl
    · cases h
  · have hJ' := hJ
    obtain ⟨hB, hl, hz, hw, ws, lo, hi, v, len, wd⟩ := hJ
    by_cases hk : s.i = 64
    · refine Round.out (ro32_f x s) rfl ?_ (paid_cons (by rw [hk]; rfl) Paid.nil) fun p hp => ?_
      · obtain ⟨B, l, z, v', ws', i⟩ := s
        simp only at hB hl hz hw v hk
        subst hk v hB hl hz
        rfl
      · simp only [roF32, List.mem_cons, List.not_mem_nil, or_false] at hp
        rcases hp with rfl | rfl | rfl
        · exact ⟨_, by simp [roTs32, roV32, zipU], Le1.refl _⟩
        · exact ⟨_, by simp [roTs32, roV32, zipU], Le1.refl _⟩
        · exact ⟨_, by simp [roTs32, roV32, zipU], Le1.refl _⟩
    · obtain ⟨a, b, c, d, e, f, g, h, hv, wa, wb, wc, wd', we, wf, wg, wh⟩ := rounds_eight (w := 32) (n := 64) (b := s0.l) len wd s.i.toNat
      have hs : s = { s with v := [a, b, c, d, e, f, g, h] } := by
        obtain ⟨B, l, z, v', ws', i⟩ := s
        simp only at v hv ⊢
        rw [v, hv]
      have key := ro32_t x s a b c d e f g h
      rw [← hs] at key
      have hi' : s.i < 64 := by omega
      have hw1 : IntKind.i64.wrap (s.i + 1) = s.i + 1 := by
        unfold IntKind.wrap; simp [IntKind.bits, IntKind.signed]; omega
      have ht : (s.i + 1).toNat = s.i.toNat + 1 := by omega
      have hr : raw32 (IntKind.u32.wrap (ishr .u64 (cubeL.getD (0 + s.i.toNat * 1) 0) 32)) (s.ws.getD s.i.toNat 0) [a, b, c, d, e, f, g, h] = roundsV 32 64 s0.l s0.B (s.i.toNat + 1) := by
        rw [raw32_eq (K' := (KL 32).getD s.i.toNat 0) ?_ wa wb wc we wf wg]
        · show _ = roundW _ _ _ _
          rw [hv, ws]
        · rw [Nat.zero_add, Nat.mul_one]
          exact kl32 s.i.toNat
      refine Round.on key { s with v := roundsV 32 64 s0.l s0.B (s.i.toNat + 1), i := s.i + 1 } [] ?_ ?_ (by simp only [hw1]; exact LeL.refl _) ⟨hB, hl, hz, hw, ws, by simp only; omega, by simp only; omega, by simp only [ht], len, wd⟩ rfl (by simp only; omega)
      · rw [hr]; simp [roM32]
      · exact paid_cons (decide_eq_true hi') (paid_cons (by simp; omega) (paid_cons (by simp; omega) (paid_cons (decide_eq_true (by omega)) Paid.nil)))
def blkS32 : List V → E (AV × Mem)
  | [.pl (.ints .u64 8 B), .buf false .u8 128 l] => some ([all32 B], (.ints .u64 8 (blockW 32 64 B l), []))
  | _ => none
theorem blk32_eval (b0 b1 b2 b3 b4 b5 b6 b7 : Int) (l : List Int) : res ((funcL Tryd.prog qS hS1 roΛ32 100 37 (cArgs 0 [.pl (.ints .u64 8 [b0, b1, b2, b3, b4, b5, b6, b7]), .buf false .u8 128 l]) (cMem [.pl (.ints .u64 8 [b0, b1, b2, b3, b4, b5, b6, b7]), .buf false .u8 128 l])).go []) =
    some (roO32 ⟨[b0, b1, b2, b3, b4, b5, b6, b7], l, List.replicate 8 0, [IntKind.u32.wrap b0, IntKind.u32.wrap b1, IntKind.u32.wrap b2, IntKind.u32.wrap b3, IntKind.u32.wrap b4, IntKind.u32.wrap b5, IntKind.u32.wrap b6, IntKind.u32.wrap b7], wordsW 32 l 64, 0⟩, .ints .u64 8 (finL32 [b0, b1, b2, b3, b4, b5, b6, b7] (roundsV 32 64 l [b0, b1, b2, b3, b4, b5, b6, b7] 64))) := by kernel_rfl
theorem blk32_ok {xs : List V} {o : List Bool} {v : AV} {bs : Mem} (h : blkS32 xs = some (o, (v, bs))) (ho : Paid o) : ViewCall Tryd.prog 37 xs v bs := by
  unfold blkS32 at h
  split at h
  · rename_i B l
    cases h
    have hB := ho _ (List.mem_cons_self ..)
    intro ρ vs w ha hi
    have hlen : B.length = 8 := by
      have hb := ha
      cases hb with
      | cons _ _ _ _ r0 hb => exact r0.wok
    have wd := all32_wd hB
    obtain ⟨b0, b1, b2, b3, b4, b5, b6, b7, rfl⟩ := eight hlen
    have hp : Paid (roO32 ⟨[b0, b1, b2, b3, b4, b5, b6, b7], l, List.replicate 8 0, [IntKind.u32.wrap b0, IntKind.u32.wrap b1, IntKind.u32.wrap b2, IntKind.u32.wrap b3, IntKind.u32.wrap b4, IntKind.u32.wrap b5, IntKind.u32.wrap b6, IntKind.u32.wrap b7], wordsW 32 l 64, 0⟩) := by
      unfold roO32
      have hv0 : [IntKind.u32.wrap b0, IntKind.u32.wrap b1, IntKind.u32.wrap b2, IntKind.u32.wrap b3, IntKind.u32.wrap b4, IntKind.u32.wrap b5, IntKind.u32.wrap b6, IntKind.u32.wrap b7] = [b0, b1, b2, b3, b4, b5, b6, b7] := by
        simp only [List.forall_mem_cons] at wd
        obtain ⟨w0, w1, w2, w3, w4, w5, w6, w7, _⟩ := wd
        rw [wrap_wd (k := .u32) rfl w0, wrap_wd (k := .u32) rfl w1, wrap_wd (k := .u32) rfl w2, wrap_wd (k := .u32) rfl w3, wrap_wd (k := .u32) rfl w4, wrap_wd (k := .u32) rfl w5, wrap_wd (k := .u32) rfl w6, wrap_wd (k := .u32) rfl w7]
      exact paid_cons (decide_eq_true (Eq.refl (0 : Int))) (paid_cons (decide_eq_true (Eq.refl (wordsW 32 l 64))) (paid_cons (decide_eq_true hv0) (paid_cons (decide_eq_true hlen) (paid_cons hB Paid.nil))))
    exact view_goL mixed noCount hS1_ok (fun fn c hf hb => by rw [bodyOf_eq hf hb]; exact ro32_lok) [] (blk32_eval b0 b1 b2 b3 b4 b5 b6 b7 l) hp (congrArg (AV.ints .u64 8) (fin32_eq hlen wd)) rfl ha hi
  · cases h

def finL64 (B V : List Int) : List Int := [IntKind.u64.wrap (B.getD 0 0 + V.getD 0 0), IntKind.u64.wrap (B.getD 1 0 + V.getD 1 0), IntKind.u64.wrap (B.getD 2 0 + V.getD 2 0), IntKind.u64.wrap (B.getD 3 0 + V.getD 3 0), IntKind.u64.wrap (B.getD 4 0 + V.getD 4 0), IntKind.u64.wrap (B.getD 5 0 + V.getD 5 0), IntKind.u64.wrap (B.getD 6 0 + V.getD 6 0), IntKind.u64.wrap (B.getD 7 0 + V.getD 7 0)]
theorem fin64_eq {l B : List Int} (hB : B.length = 8) (wd : ∀ x ∈ B, Wd 64 x) : finL64 B (roundsV 64 80 l B 80) = blockW 64 80 B l := by
  obtain ⟨a, b, c, d, e, f, g, h, hv, wa, wb, wc, wd', we, wf, wg, wh⟩ := rounds_eight (w := 64) (n := 80) (b := l) hB wd 80
  unfold blockW
  rw [hv]
  obtain ⟨b0, b1, b2, b3, b4, b5, b6, b7, rfl⟩ := eight hB
  unfold finL64
  simp only [List.zipWith_cons_cons, List.zipWith_nil_left, List.getD_cons_zero, List.getD_cons_succ, wrap_u (k := .u64) rfl, IntKind.bits, Int.reducePow]
  skip

/- 64 bits -/
def raw64 (K x : Int) : List Int → List Int
  | [a, b, c, d, e, f, g, h] => [IntKind.u64.wrap (IntKind.u64.wrap (IntKind.u64.wrap (IntKind.u64.wrap (h + S1_64 e) + ior .u64 (iand .u64 e f) (iand .u64 (ixor .u64 18446744073709551615 e) g)) + IntKind.u64.wrap (K + x)) + IntKind.u64.wrap (S0_64 a + ior .u64 (ior .u64 (iand .u64 a b) (iand .u64 a c)) (iand .u64 b c))), a, b, c,
      IntKind.u64.wrap (d + IntKind.u64.wrap (IntKind.u64.wrap (IntKind.u64.wrap (h + S1_64 e) + ior .u64 (iand .u64 e f) (iand .u64 (ixor .u64 18446744073709551615 e) g)) + IntKind.u64.wrap (K + x))), e, f, g]
  | l => l
theorem not64 {x : Int} (h : Wd 64 x) : ixor .u64 18446744073709551615 x = 2 ^ 64 - 1 - x := by
  obtain ⟨a, ha, rfl⟩ := wd_nat h
  unfold ixor
  have e : BitVec.ofInt 64 18446744073709551615 = BitVec.allOnes 64 := by decide
  have e2 : (BitVec.ofInt 64 (a : Int)).toNat = a := ofInt_nat ha
  show IntKind.u64.wrap ((BitVec.ofInt 64 18446744073709551615 ^^^ BitVec.ofInt 64 (a : Int)).toNat : Int) = _
  rw [e]
  show IntKind.u64.wrap ((BitVec.allOnes 64 ^^^ BitVec.ofInt 64 (a : Int)).toNat : Int) = _
  rw [BitVec.allOnes_xor, BitVec.toNat_not, e2, wrap_wd (k := .u64) rfl]
  · have : a ≤ 2 ^ 64 - 1 := by omega
    omega
  · refine ⟨by omega, ?_⟩
    show ((2 ^ 64 - 1 - a : Nat) : Int) < 2 ^ 64
    omega
theorem raw64_eq {K K' x a b c d e f g h : Int} (hK : K % 2 ^ 64 = K' % 2 ^ 64) (ha : Wd 64 a) (hb : Wd 64 b) (hc : Wd 64 c) (he : Wd 64 e) (hf : Wd 64 f) (hg : Wd 64 g) :
    raw64 K x [a, b, c, d, e, f, g, h] = roundW 64 K' x [a, b, c, d, e, f, g, h] := by
  have hn : Wd 64 (2 ^ 64 - 1 - e) := ⟨by have := he.2; omega, by have := he.1; omega⟩
  have e1 : ior .u64 (iand .u64 e f) (iand .u64 (ixor .u64 18446744073709551615 e) g) = cho 64 e f g := by
    rw [not64 he, iand_ia (k := .u64) rfl he hf, iand_ia (k := .u64) rfl hn hg, ior_io (k := .u64) rfl (ia_wd he) (ia_wd hn)]; rfl
  have e2 : ior .u64 (ior .u64 (iand .u64 a b) (iand .u64 a c)) (iand .u64 b c) = maj a b c := by
    rw [iand_ia (k := .u64) rfl ha hb, iand_ia (k := .u64) rfl ha hc, iand_ia (k := .u64) rfl hb hc, ior_io (k := .u64) rfl (ia_wd ha) (ia_wd ha), ior_io (k := .u64) rfl (io_wd (ia_wd ha) (ia_wd ha)) (ia_wd hb)]; rfl
  unfold raw64 roundW
  simp only
  rw [e1, e2, S1_64_eq he, S0_64_eq ha]
  simp only [wrap_u (k := .u64) rfl, IntKind.bits]
  generalize big1 64 e = p1
  generalize big0 64 a = p2
  generalize cho 64 e f g = p3
  generalize maj a b c = p4
  simp only [Int.reducePow] at hK ⊢
  congr 1
  · omega
  · congr 1
    congr 1
    congr 1
    congr 1
    omega
def roP64 : List AV → Mem → Option RoS
  | [.ptr false 2 0, .ptr false 3 0, .ptr false 4 0, .ints .u64 80 ws, .int _ .i64 i], [none, some ⟨false, .ints .u8 (some 128) l⟩, some ⟨true, .ints .u64 (some 8) B⟩, some ⟨true, .ints .u64 (some 8) z⟩, some ⟨true, .ints .u64 (some 8) v⟩] => some ⟨B, l, z, v, ws, i⟩
  | _, _ => none
theorem ro64_t (x : Nat → AV) (s : RoS) (a b c d e f g h : Int) : seesL roTs64 ((codeL Tryd.prog qS hS1 (fun _ _ => none) 100 (lp (blk 0 (bodyOf Tryd.prog 38))) ⟨tmOf (ups x (zipU roTs64 (roV64 { s with v := [a, b, c, d, e, f, g, h] }))) 63, roM64 { s with v := [a, b, c, d, e, f, g, h] }⟩).go [true]) =
    some ([decide (s.i < 80), decide (0 ≤ s.i) && decide (s.i < ((80 : Nat) : Int)), decide (0 ≤ s.i) && decide (s.i < ((80 : Nat) : Int)), decide (0 + s.i.toNat * 1 + 1 ≤ 80)], 0,
      [.ptr false 2 0, .ptr false 3 0, .ptr false 4 0, .ints .u64 80 s.ws, .int true .i64 (IntKind.i64.wrap (s.i + 1))], 63, roM64 { s with v := raw64 (cubeL.getD (0 + s.i.toNat * 1) 0) (s.ws.getD s.i.toNat 0) [a, b, c, d, e, f, g, h] }) := by kernel_rfl
theorem ro64_f (x : Nat → AV) (s : RoS) : seesL roTs64 ((codeL Tryd.prog qS hS1 (fun _ _ => none) 100 (lp (blk 0 (bodyOf Tryd.prog 38))) ⟨tmOf (ups x (zipU roTs64 (roV64 s))) 63, roM64 s⟩).go [false]) = some ([!decide (s.i < 80)], 2, roV64 s, 63, roM64 s) := by kernel_rfl
structure RoJ64 (B l : List Int) (s0 s : RoS) : Prop where
  hB : s.B = s0.B
  hl : s.l = s0.l
  hz : s.z = s0.z
  hw : s.ws = s0.ws
  ws : s.ws = wordsW 64 l 80
  lo : 0 ≤ s.i
  hi : s.i ≤ 80
  v : s.v = roundsV 64 80 l B s.i.toNat
  len : B.length = 8
  wd : ∀ x ∈ B, Wd 64 x
def all64 (l : List Int) : Bool := l.all fun x => decide (0 ≤ x) && decide (x < 18446744073709551616)
theorem all64_wd {l : List Int} (h : all64 l = true) : ∀ x ∈ l, Wd 64 x := fun x hx => by
  have := List.all_eq_true.1 h x hx
  simp only [Bool.and_eq_true, decide_eq_true_eq] at this
  exact ⟨this.1, by have := this.2; omega⟩
def roO64 (s : RoS) : List Bool := [decide (s.i = 0), decide (s.ws = wordsW 64 s.l 80), decide (s.v = s.B), decide (s.B.length = 8), all64 s.B]
def roF64 (s : RoS) : List (Nat × AV) × Mem := ([(2, .ptr false 2 0), (4, .ptr false 3 0), (5, .ptr false 4 0)], roM64 { s with v := roundsV 64 80 s.l s.B 80 })
def roΛ64 : LoopH := famH 0 63 roTs64 roP64 roO64 roF64 fun _ _ => none
set_option maxHeartbeats 1000000 in
theorem ro64_lok : LOk Tryd.prog (bodyOf Tryd.prog 38) roΛ64 := by
  refine fam_ok (q := qS) (n := 100) roV64 roM64 (fun s0 s => RoJ64 s0.B s0.l s0 s) (fun s => 80 - s.i.toNat) mixed hS1_ok LOk.none LOk.none (by kernel_rfl) (by kernel_rfl) (fun s => rfl) (fun s => rfl) (fun avs m s h ho => ?_) (fun s0 s hJ x => ?_)
  · unfold roP64 at h
    split at h
    · cases h
      have o1 := of_decide_eq_true (ho _ (List.mem_cons_self ..))
      have o2 := of_decide_eq_true (ho _ (List.mem_cons_of_mem _ (List.mem_cons_self ..)))
      have o3 := of_decide_eq_true (ho _ (List.mem_cons_of_mem _ (List.mem_cons_of_mem _ (List.mem_cons_self ..))))
      have o4 := of_decide_eq_true (ho _ (List.mem_cons_of_mem _ (List.mem_cons_of_mem _ (List.mem_cons_of_mem _ (List.mem_cons_self ..)))))
      have o5 := ho _ (List.mem_cons_of_mem _ (List.mem_cons_of_mem _ (List.mem_cons_of_mem _ (List.mem_cons_of_mem _ (List.mem_cons_self ..)))))
      simp only at o1 o2 o3 o4 o5
      refine ⟨_, .cons (.refl _) (.cons (.refl _) (.cons (.refl _) (.cons (.refl _) (.cons (.int _ _ _) .nil)))), rfl, ⟨rfl, rfl, rfl, rfl, o2, by simp only; omega, by simp only; omega, ?_, o4, all64_wd o5⟩⟩
      simp only [o1, o3]
      rfl
    · cases h
  · have hJ' := hJ
    obtain ⟨hB, hl, hz, hw, ws, lo, hi, v, len, wd⟩ := hJ
    by_cases hk : s.i = 80
    · refine Round.out (ro64_f x s) rfl ?_ (paid_cons (by rw [hk]; rfl) Paid.nil) fun p hp => ?_
      · obtain ⟨B, l, z, v', ws', i⟩ := s
        simp only at hB hl hz hw v hk
        subst hk v hB hl hz
        rfl
      · simp only [roF64, List.mem_cons, List.not_mem_nil, or_false] at hp
        rcases hp with rfl | rfl | rfl
        · exact ⟨_, by simp [roTs64, roV64, zipU], Le1.refl _⟩
        · exact ⟨_, by simp [roTs64, roV64, zipU], Le1.refl _⟩
        · exact ⟨_, by simp [roTs64, roV64, zipU], Le1.refl _⟩
    · obtain ⟨a, b, c, d, e, f, g, h, hv, wa, wb, wc, wd', we, wf, wg, wh⟩ := rounds_eight (w := 64) (n := 80) (b := s0.l) len wd s.i.toNat
      have hs : s = { s with v := [a, b, c, d, e, f, g, h] } := by
        obtain ⟨B, l, z, v', ws', i⟩ := s
        simp only at v hv ⊢
        rw [v, hv]
      have key := ro64_t x s a b c d e f g h
      rw [← hs] at key
      have hi' : s.i < 80 := by omega
      have hw1 : IntKind.i64.wrap (s.i + 1) = s.i + 1 := by
        unfold IntKind.wrap; simp [IntKind.bits, IntKind.signed]; omega
      have ht : (s.i + 1).toNat = s.i.toNat + 1 := by omega
      have hr : raw64 (cubeL.getD (0 + s.i.toNat * 1) 0) (s.ws.getD s.i.toNat 0) [a, b, c, d, e, f, g, h] = roundsV 64 80 s0.l s0.B (s.i.toNat + 1) := by
        rw [raw64_eq (K' := (KL 64).getD s.i.toNat 0) ?_ wa wb wc we wf wg]
        · show _ = roundW _ _ _ _
          rw [hv, ws]
        · rw [Nat.zero_add, Nat.mul_one]
          exact kl64 s.i.toNat
      refine Round.on key { s with v := roundsV 64 80 s0.l s0.B (s.i.toNat + 1), i := s.i + 1 } [] ?_ ?_ (by simp only [hw1]; exact LeL.refl _) ⟨hB, hl, hz, hw, ws, by simp only; omega, by simp only; omega, by simp only [ht], len, wd⟩ rfl (by simp only; omega)
      · rw [hr]; simp [roM64]
      · exact paid_cons (decide_eq_true hi') (paid_cons (by simp; omega) (paid_cons (by simp; omega) (paid_cons (decide_eq_true (by omega)) Paid.nil)))
def blkS64 : List V → E (AV × Mem)
  | [.pl (.ints .u64 8 B), .buf false .u8 128 l] => some ([all64 B], (.ints .u64 8 (blockW 64 80 B l), []))
  | _ => none
theorem blk64_eval (b0 b1 b2 b3 b4 b5 b6 b7 : Int) (l : List Int) : res ((funcL Tryd.prog qS hS1 roΛ64 100 38 (cArgs 0 [.pl (.ints .u64 8 [b0, b1, b2, b3, b4, b5, b6, b7]), .buf false .u8 128 l]) (cMem [.pl (.ints .u64 8 [b0, b1, b2, b3, b4, b5, b6, b7]), .buf false .u8 128 l])).go []) =
    some (roO64 ⟨[b0, b1, b2, b3, b4, b5, b6, b7], l, List.replicate 8 0, [b0, b1, b2, b3, b4, b5, b6, b7], wordsW 64 l 80, 0⟩, .ints .u64 8 (finL64 [b0, b1, b2, b3, b4, b5, b6, b7] (roundsV 64 80 l [b0, b1, b2, b3, b4, b5, b6, b7] 80))) := by kernel_rfl
theorem blk64_ok {xs : List V} {o : List Bool} {v : AV} {bs : Mem} (h : blkS64 xs = some (o, (v, bs))) (ho : Paid o) : ViewCall Tryd.prog 38 xs v bs := by
  unfold blkS64 at h
  split at h
  · rename_i B l
    cases h
    have hB := ho _ (List.mem_cons_self ..)
    intro ρ vs w ha hi
    have hlen : B.length = 8 := by
      have hb := ha
      cases hb with
      | cons _ _ _ _ r0 hb => exact r0.wok
    have wd := all64_wd hB
    obtain ⟨b0, b1, b2, b3, b4, b5, b6, b7, rfl⟩ := eight hlen
    have hp : Paid (roO64 ⟨[b0, b1, b2, b3, b4, b5, b6, b7], l, List.replicate 8 0, [b0, b1, b2, b3, b4, b5, b6, b7], wordsW 64 l 80, 0⟩) := by
      unfold roO64
      have hv0 : [b0, b1, b2, b3, b4, b5, b6, b7] = [b0, b1, b2, b3, b4, b5, b6, b7] := by
        rfl
      exact paid_cons (decide_eq_true (Eq.refl (0 : Int))) (paid_cons (decide_eq_true (Eq.refl (wordsW 64 l 80))) (paid_cons (decide_eq_true hv0) (paid_cons (decide_eq_true hlen) (paid_cons hB Paid.nil))))
    exact view_goL mixed noCount hS1_ok (fun fn c hf hb => by rw [bodyOf_eq hf hb]; exact ro64_lok) [] (blk64_eval b0 b1 b2 b3 b4 b5 b6 b7 l) hp (congrArg (AV.ints .u64 8) (fin64_eq hlen wd)) rfl ha hi
  · cases h
end Go.Proofs.YtjhjhhibfojpiaaDoor
