/- The program's words of a block: its two loops by families of heads. Own work. -/
import Derived.Test.YtjhjhhibfojpiaaDoorVShaM
import Derived.Test.YtjhjhhibfojpiaaDoorVShaN
import Derived.Test.YtjhjhhibfojpiaaDoorRows
set_option linter.unusedSimpArgs false
set_option linter.unusedVariables false
set_option linter.unusedSectionVars false
namespace Go.Proofs.YtjhjhhibfojpiaaDoor
variable [Go.Ev.RowTab]
open Go.Ev Go.Sh
set_option maxRecDepth 100000
theorem mixed : Tryd.prog.follows .mixedOrders = true := by kernel_rfl
theorem noCount : Go.Ev.noCount Tryd.prog = true := by kernel_rfl
/-- These write what their arguments point to. -/
def qS (f : FuncId) : Bool := !(Nat.beq f 12 || Nat.beq f 29 || Nat.beq f 44 || Nat.beq f 47 || Nat.beq f 1000000000)
def h0 : CallH := fun _ _ _ => none
theorem h0_ok : HOk Tryd.prog h0 := HOk.none
structure ScS where
  l : List Int
  z : List Int
  w : List Int
  i : Int
def scTs1 : List Nat := [0, 2, 3, 11]
def scTs2 : List Nat := [0, 2, 3, 6]
def scV (s : ScS) : List AV := [.slice false 0 0 128 none 1, .ptr false 1 0, .ptr false 2 0, .int true .i64 s.i]
def pJ (i d : Int) : Nat := (IntKind.i64.wrap (i - d)).toNat

/- 32 bits -/
def p32A (i : Int) : Nat := (IntKind.i64.wrap (4 * i)).toNat
def p32B (i : Int) : Nat := (IntKind.i64.wrap (IntKind.i64.wrap (4 * i) + 4)).toNat
def scM32 (s : ScS) : Mem := [some ⟨false, .ints .u8 (some 128) s.l⟩, some ⟨true, .ints .u32 (some 64) s.z⟩, some ⟨true, .ints .u32 (some 64) s.w⟩]
def scP32 : List AV → Mem → Option ScS
  | [.slice false 0 0 128 none 1, .ptr false 1 0, .ptr false 2 0, .int _ .i64 i], [some ⟨false, .ints .u8 (some 128) l⟩, some ⟨true, .ints .u32 (some 64) z⟩, some ⟨true, .ints .u32 (some 64) w⟩] => some ⟨l, z, w, i⟩
  | _, _ => none
theorem sc32_t1 (x : Nat → AV) (s : ScS) : seesL scTs1 ((codeL Tryd.prog qS (deep Tryd.prog qS h0 100 3) (fun _ _ => none) 100 (lp (blk 0 (bodyOf Tryd.prog 42))) ⟨tmOf (ups x (zipU scTs1 (scV s))) 90, scM32 s⟩).go [true]) = some ([decide (s.i < 16), decide (0 ≤ IntKind.i64.wrap (IntKind.i64.wrap (4 * s.i) + 4)) && decide (IntKind.i64.wrap (IntKind.i64.wrap (4 * s.i) + 4) ≤ ((128 : Nat) : Int)), decide (0 ≤ IntKind.i64.wrap (4 * s.i)) && decide (IntKind.i64.wrap (4 * s.i) ≤ ((p32B s.i : Nat) : Int)), decide ((0 : Int) ≤ 0) && decide ((0 : Int) < ((p32B s.i - p32A s.i : Nat) : Int)), decide (0 + p32A s.i * 1 + 0 * 1 + 1 ≤ 128), decide ((0 : Int) ≤ 1) && decide ((1 : Int) < ((p32B s.i - p32A s.i : Nat) : Int)), decide (0 + p32A s.i * 1 + 1 * 1 + 1 ≤ 128), decide ((0 : Int) ≤ 2) && decide ((2 : Int) < ((p32B s.i - p32A s.i : Nat) : Int)), decide (0 + p32A s.i * 1 + 2 * 1 + 1 ≤ 128), decide ((0 : Int) ≤ 3) && decide ((3 : Int) < ((p32B s.i - p32A s.i : Nat) : Int)), decide (0 + p32A s.i * 1 + 3 * 1 + 1 ≤ 128), decide (0 ≤ s.i) && decide (s.i < ((64 : Nat) : Int)), decide (0 + s.i.toNat * 1 + 1 ≤ 64)], 0, [.slice false 0 0 128 none 1, .ptr false 1 0, .ptr false 2 0, .int true .i64 (IntKind.i64.wrap (s.i + 1))], 90, scM32 { s with w := s.w.set (0 + s.i.toNat * 1) (w4 (s.l.getD (0 + p32A s.i * 1 + 0 * 1) 0) (s.l.getD (0 + p32A s.i * 1 + 1 * 1) 0) (s.l.getD (0 + p32A s.i * 1 + 2 * 1) 0) (s.l.getD (0 + p32A s.i * 1 + 3 * 1) 0)) }) := by kernel_rfl
theorem sc32_f1 (x : Nat → AV) (s : ScS) : seesL scTs1 ((codeL Tryd.prog qS (deep Tryd.prog qS h0 100 3) (fun _ _ => none) 100 (lp (blk 0 (bodyOf Tryd.prog 42))) ⟨tmOf (ups x (zipU scTs1 (scV s))) 90, scM32 s⟩).go [false]) = some ([!decide (s.i < 16)], 2, scV s, 90, scM32 s) := by kernel_rfl
theorem sc32_t2 (x : Nat → AV) (s : ScS) : seesL scTs2 ((codeL Tryd.prog qS (deep Tryd.prog qS h0 100 3) (fun _ _ => none) 100 (lp (blk 2 (bodyOf Tryd.prog 42))) ⟨tmOf (ups x (zipU scTs2 (scV s))) 90, scM32 s⟩).go [true]) = some ([decide (s.i < 64), decide (0 ≤ IntKind.i64.wrap (s.i - 15)) && decide (IntKind.i64.wrap (s.i - 15) < ((64 : Nat) : Int)), decide (0 + pJ s.i 15 * 1 + 1 ≤ 64), decide (0 ≤ IntKind.i64.wrap (s.i - 2)) && decide (IntKind.i64.wrap (s.i - 2) < ((64 : Nat) : Int)), decide (0 + pJ s.i 2 * 1 + 1 ≤ 64), decide (0 ≤ IntKind.i64.wrap (s.i - 16)) && decide (IntKind.i64.wrap (s.i - 16) < ((64 : Nat) : Int)), decide (0 + pJ s.i 16 * 1 + 1 ≤ 64), decide (0 ≤ IntKind.i64.wrap (s.i - 7)) && decide (IntKind.i64.wrap (s.i - 7) < ((64 : Nat) : Int)), decide (0 + pJ s.i 7 * 1 + 1 ≤ 64), decide (0 ≤ s.i) && decide (s.i < ((64 : Nat) : Int)), decide (0 + s.i.toNat * 1 + 1 ≤ 64)], 0, [.slice false 0 0 128 none 1, .ptr false 1 0, .ptr false 2 0, .int true .i64 (IntKind.i64.wrap (s.i + 1))], 90, scM32 { s with w := s.w.set (0 + s.i.toNat * 1) (IntKind.u32.wrap (IntKind.u32.wrap (IntKind.u32.wrap (s.w.getD (0 + pJ s.i 16 * 1) 0 + s0_32 (s.w.getD (0 + pJ s.i 15 * 1) 0)) + s.w.getD (0 + pJ s.i 7 * 1) 0) + s1_32 (s.w.getD (0 + pJ s.i 2 * 1) 0))) }) := by kernel_rfl
theorem sc32_f2 (x : Nat → AV) (s : ScS) : seesL scTs2 ((codeL Tryd.prog qS (deep Tryd.prog qS h0 100 3) (fun _ _ => none) 100 (lp (blk 2 (bodyOf Tryd.prog 42))) ⟨tmOf (ups x (zipU scTs2 (scV s))) 90, scM32 s⟩).go [false]) = some ([!decide (s.i < 64)], 4, scV s, 90, scM32 s) := by kernel_rfl
theorem byt32 {l : List Int} (hl : l.length = 128) (hb : ∀ x ∈ l, B8 x) {n : Nat} (hn : n < 16) : (l.drop (32 / 8 * n)).take (32 / 8) = [l.getD (4 * n) 0, l.getD (4 * n + 1) 0, l.getD (4 * n + 2) 0, l.getD (4 * n + 3) 0] ∧ Wd 32 (be ((l.drop (32 / 8 * n)).take (32 / 8))) := by
  have e : (l.drop (32 / 8 * n)).take (32 / 8) = [l.getD (4 * n) 0, l.getD (4 * n + 1) 0, l.getD (4 * n + 2) 0, l.getD (4 * n + 3) 0] := by
    rw [bytes_at (by rw [hl]; omega)]
    rfl
  refine ⟨e, ?_⟩
  rw [e]
  exact (w4_eq (getD_B8 hb _) (getD_B8 hb _) (getD_B8 hb _) (getD_B8 hb _)).2
structure ScJ32 (b : Int) (s0 s : ScS) : Prop where
  hl : s.l = s0.l
  hz : s.z = s0.z
  len : s.l.length = 128
  byte : ∀ x ∈ s.l, B8 x
  lo : 0 ≤ s.i
  hi : s.i ≤ b
  w : s.w = fillW 64 32 s.l s.i.toNat
def scO32 (a : Int) (s : ScS) : List Bool := [decide (s.i = a), decide (s.l.length = 128), s.l.all (inR .u8), decide (s.w = fillW 64 32 s.l s.i.toNat)]
def scF32 (slots : List (Nat × AV)) (b : Nat) (s : ScS) : List (Nat × AV) × Mem := (slots, scM32 { s with w := fillW 64 32 s.l b })
def scΛ32 : LoopH := famH 0 90 scTs1 scP32 (scO32 0) (scF32 [(0, .slice false 0 0 128 none 1), (2, .ptr false 1 0), (3, .ptr false 2 0)] 16) (famH 2 90 scTs2 scP32 (scO32 16) (scF32 [(2, .ptr false 1 0), (3, .ptr false 2 0)] 64) fun _ _ => none)
theorem sc32_open {a b : Int} (hab : 0 ≤ a ∧ a ≤ b) {avs : List AV} {m : Mem} {s : ScS} (h : scP32 avs m = some s) (ho : Paid (scO32 a s)) : LeL avs (scV s) ∧ m = scM32 s ∧ ScJ32 b s s := by
  unfold scP32 at h
  split at h
  · cases h
    have o1 := of_decide_eq_true (ho _ (List.mem_cons_self ..))
    have o2 := of_decide_eq_true (ho _ (List.mem_cons_of_mem _ (List.mem_cons_self ..)))
    have o3 := ho _ (List.mem_cons_of_mem _ (List.mem_cons_of_mem _ (List.mem_cons_self ..)))
    have o4 := of_decide_eq_true (ho _ (List.mem_cons_of_mem _ (List.mem_cons_of_mem _ (List.mem_cons_of_mem _ (List.mem_cons_self ..)))))
    simp only at o1 o2 o3 o4
    exact ⟨.cons (.refl _) (.cons (.refl _) (.cons (.refl _) (.cons (.int _ _ _) .nil))), rfl, ⟨rfl, rfl, o2, fun x hx => inR_u8 (List.all_eq_true.1 o3 x hx), by simp only; omega, by simp only; omega, o4⟩⟩
  · cases h
theorem sc32_lok : LOk Tryd.prog (bodyOf Tryd.prog 42) scΛ32 := by
  have out : ∀ {s0 s : ScS} {b : Nat} {sl : List (Nat × AV)}, ScJ32 b s0 s → s.i = b → scM32 s = (scF32 sl b s0).2 := fun {s0 s b sl} hJ hb => by
    obtain ⟨hl, hz, len, byte, lo, hi, w⟩ := hJ
    obtain ⟨l, z, w', i⟩ := s
    obtain ⟨l0, z0, w0, i0⟩ := s0
    simp only at hl hz w hb
    subst hl hz hb w
    simp only [scF32, scM32, Int.toNat_natCast]
  refine fam_ok (q := qS) (n := 100) scV scM32 (ScJ32 16) (fun s => 16 - s.i.toNat) mixed (h0_ok.deep (q := qS) mixed noCount 100 3) ?_ LOk.none (by kernel_rfl) (by kernel_rfl) (fun s => rfl) (fun s => rfl) (fun avs m s h ho => ⟨s, sc32_open ⟨by omega, by omega⟩ h ho⟩) (fun s0 s hJ x => ?_)
  · refine fam_ok (q := qS) (n := 100) scV scM32 (fun s0 s => ScJ32 64 s0 s ∧ 16 ≤ s.i) (fun s => 64 - s.i.toNat) mixed (h0_ok.deep (q := qS) mixed noCount 100 3) LOk.none LOk.none (by kernel_rfl) (by kernel_rfl) (fun s => rfl) (fun s => rfl) (fun avs m s h ho => ?_) (fun s0 s hJ x => ?_)
    · obtain ⟨a1, a2, a3⟩ := sc32_open (b := 64) ⟨by omega, by omega⟩ h ho
      have o1 := of_decide_eq_true (ho _ (List.mem_cons_self ..))
      exact ⟨s, a1, a2, a3, by omega⟩
    · obtain ⟨hJ, h16⟩ := hJ
      have hJ' := hJ
      obtain ⟨hl, hz, len, byte, lo, hi, w⟩ := hJ
      by_cases hk : s.i = 64
      · refine Round.out (sc32_f2 x s) rfl (out (b := 64) hJ' hk) (paid_cons (by rw [hk]; rfl) Paid.nil) fun p hp => ?_
        simp only [scF32, List.mem_cons, List.not_mem_nil, or_false] at hp
        rcases hp with rfl | rfl
        · exact ⟨_, by simp [scTs2, scV, zipU], Le1.refl _⟩
        · exact ⟨_, by simp [scTs2, scV, zipU], Le1.refl _⟩
      · obtain ⟨l, z, w', i⟩ := s
        simp only at hl hz len byte lo hi w hk h16
        subst w
        have hN : i < 64 := by omega
        have pj : ∀ d : Int, 0 ≤ d ∧ d ≤ 16 → IntKind.i64.wrap (i - d) = i - d := fun d hd => by
          unfold IntKind.wrap; simp [IntKind.bits, IntKind.signed]; omega
        have hwd := words_wd (w := 32) (b := l) (fun n hn => (byt32 len byte hn).2) i.toNat
        have gt : ∀ d : Int, 2 ≤ d ∧ d ≤ 16 → (fillW 64 32 l i.toNat).getD (0 + pJ i d * 1) 0 = (wordsW 32 l i.toNat).getD (i.toNat - d.toNat) 0 := fun d hd => by
          have e : pJ i d = i.toNat - d.toNat := by unfold pJ; rw [pj d (by omega)]; omega
          rw [e, Nat.zero_add, Nat.mul_one, fill_get (by omega)]
        have hv : nextW 32 l (wordsW 32 l i.toNat) = IntKind.u32.wrap (IntKind.u32.wrap (IntKind.u32.wrap ((fillW 64 32 l i.toNat).getD (0 + pJ i 16 * 1) 0 + s0_32 ((fillW 64 32 l i.toNat).getD (0 + pJ i 15 * 1) 0)) + (fillW 64 32 l i.toNat).getD (0 + pJ i 7 * 1) 0) + s1_32 ((fillW 64 32 l i.toNat).getD (0 + pJ i 2 * 1) 0)) := by
          rw [gt 16 (by omega), gt 15 (by omega), gt 7 (by omega), gt 2 (by omega), s0_32_eq (getD_wd hwd _), s1_32_eq (getD_wd hwd _), wrap_u (k := .u32) rfl, wrap_u (k := .u32) rfl, wrap_u (k := .u32) rfl]
          unfold nextW
          rw [words_len, if_neg (by omega)]
          simp only [IntKind.bits, show Int.toNat 16 = 16 from rfl, show Int.toNat 15 = 15 from rfl, show Int.toNat 7 = 7 from rfl, show Int.toNat 2 = 2 from rfl]
          omega
        have hw : IntKind.i64.wrap (i + 1) = i + 1 := by
          unfold IntKind.wrap; simp [IntKind.bits, IntKind.signed]; omega
        have ht : (i + 1).toNat = i.toNat + 1 := by omega
        refine Round.on (sc32_t2 x ⟨l, z, _, i⟩) ⟨l, z, fillW 64 32 l (i.toNat + 1), i + 1⟩ [] ?_ ?_ (by simp only [hw]; exact LeL.refl _) ⟨⟨hl, hz, len, byte, by simp only; omega, by simp only; omega, by simp only [ht]⟩, by simp only; omega⟩ rfl (by simp only; omega)
        · simp only [scM32, ← hv, List.append_nil]
          rw [show 0 + i.toNat * 1 = i.toNat by omega, fill_set (show i.toNat < 64 by omega)]
        · have e : ∀ d : Int, 2 ≤ d ∧ d ≤ 16 → pJ i d = i.toNat - d.toNat := fun d hd => by unfold pJ; rw [pj d (by omega)]; omega
          simp only [pj 15 (by omega), pj 2 (by omega), pj 16 (by omega), pj 7 (by omega), e 15 (by omega), e 2 (by omega), e 16 (by omega), e 7 (by omega), show Int.toNat 16 = 16 from rfl, show Int.toNat 15 = 15 from rfl, show Int.toNat 7 = 7 from rfl, show Int.toNat 2 = 2 from rfl]
          repeat' first | exact Paid.nil | refine paid_cons ?_ ?_
          all_goals (simp; try omega)
  · have hJ' := hJ
    obtain ⟨hl, hz, len, byte, lo, hi, w⟩ := hJ
    by_cases hk : s.i = 16
    · refine Round.out (sc32_f1 x s) rfl (out (b := 16) hJ' hk) (paid_cons (by rw [hk]; rfl) Paid.nil) fun p hp => ?_
      simp only [scF32, List.mem_cons, List.not_mem_nil, or_false] at hp
      rcases hp with rfl | rfl | rfl
      · exact ⟨_, by simp [scTs1, scV, zipU], Le1.refl _⟩
      · exact ⟨_, by simp [scTs1, scV, zipU], Le1.refl _⟩
      · exact ⟨_, by simp [scTs1, scV, zipU], Le1.refl _⟩
    · obtain ⟨l, z, w', i⟩ := s
      simp only at hl hz len byte lo hi w hk
      subst w
      have pa : p32A i = 4 * i.toNat := by
        unfold p32A IntKind.wrap; simp [IntKind.bits, IntKind.signed]; omega
      have pb : p32B i = 4 * i.toNat + 4 := by
        unfold p32B IntKind.wrap; simp [IntKind.bits, IntKind.signed]; omega
      have pc : IntKind.i64.wrap (4 * i) = 4 * i := by
        unfold IntKind.wrap; simp [IntKind.bits, IntKind.signed]; omega
      have pd : IntKind.i64.wrap (4 * i + 4) = 4 * i + 4 := by
        unfold IntKind.wrap; simp [IntKind.bits, IntKind.signed]; omega
      have hv : nextW 32 l (wordsW 32 l i.toNat) = w4 (l.getD (0 + p32A i * 1 + 0 * 1) 0) (l.getD (0 + p32A i * 1 + 1 * 1) 0) (l.getD (0 + p32A i * 1 + 2 * 1) 0) (l.getD (0 + p32A i * 1 + 3 * 1) 0) := by
        rw [(w4_eq (getD_B8 byte _) (getD_B8 byte _) (getD_B8 byte _) (getD_B8 byte _)).1, pa]
        unfold nextW
        rw [words_len, if_pos (by omega), (byt32 len byte (show i.toNat < 16 by omega)).1]
        simp only [Nat.zero_add, Nat.mul_one, Nat.add_zero]
      have hw : IntKind.i64.wrap (i + 1) = i + 1 := by
        unfold IntKind.wrap; simp [IntKind.bits, IntKind.signed]; omega
      have ht : (i + 1).toNat = i.toNat + 1 := by omega
      refine Round.on (sc32_t1 x ⟨l, z, _, i⟩) ⟨l, z, fillW 64 32 l (i.toNat + 1), i + 1⟩ [] ?_ ?_ (by simp only [hw]; exact LeL.refl _) ⟨hl, hz, len, byte, by simp only; omega, by simp only; omega, by simp only [ht]⟩ rfl (by simp only; omega)
      · simp only [scM32, ← hv, List.append_nil]
        rw [show 0 + i.toNat * 1 = i.toNat by omega, fill_set (show i.toNat < 64 by omega)]
      · simp only [pa, pb, pc, pd]
        repeat' first | exact Paid.nil | refine paid_cons ?_ ?_
        all_goals (simp; try omega)
def schS32 : List V → E (AV × Mem)
  | [.buf false .u8 128 l] => some ([], (.ints .u32 64 (wordsW 32 l 64), []))
  | _ => none
theorem sch32_eval (l : List Int) : res ((funcL Tryd.prog qS (deep Tryd.prog qS h0 100 3) scΛ32 100 42 (cArgs 0 [.buf false .u8 128 l]) (cMem [.buf false .u8 128 l])).go []) =
    some (scO32 0 ⟨l, List.replicate 64 0, List.replicate 64 0, 0⟩ ++ scO32 16 ⟨l, List.replicate 64 0, fillW 64 32 l 16, 16⟩, .ints .u32 64 (fillW 64 32 l 64)) := by kernel_rfl
theorem sch32_ok {xs : List V} {o : List Bool} {v : AV} {bs : Mem} (h : schS32 xs = some (o, (v, bs))) (ho : Paid o) : ViewCall Tryd.prog 42 xs v bs := by
  unfold schS32 at h
  split at h
  · rename_i l
    cases h
    intro ρ vs w ha hi
    obtain ⟨hl, hr⟩ := buf_arg hi 0 rfl
    have ha' : l.all (inR .u8) = true := List.all_eq_true.2 hr
    refine view_of_evalL mixed noCount (h0_ok.deep (q := qS) mixed noCount 100 3) (fun fn c hf hb => by rw [bodyOf_eq hf hb]; exact sc32_lok) (by rfl) (go_sound (sat_eq (sch32_eval l) ?_ ?_ (by rfl))) ha hi
    · refine paid_append.2 ⟨?_, ?_⟩
      · exact paid_cons rfl (paid_cons (decide_eq_true hl) (paid_cons ha' (paid_cons (decide_eq_true (by simp [fillW, wordsW])) Paid.nil)))
      · exact paid_cons rfl (paid_cons (decide_eq_true hl) (paid_cons ha' (paid_cons (decide_eq_true rfl) Paid.nil)))
    · simp [fillW]
  · cases h

/- 64 bits -/
def p64A (i : Int) : Nat := (IntKind.i64.wrap (8 * i)).toNat
def p64B (i : Int) : Nat := (IntKind.i64.wrap (IntKind.i64.wrap (8 * i) + 8)).toNat
def scM64 (s : ScS) : Mem := [some ⟨false, .ints .u8 (some 128) s.l⟩, some ⟨true, .ints .u64 (some 80) s.z⟩, some ⟨true, .ints .u64 (some 80) s.w⟩]
def scP64 : List AV → Mem → Option ScS
  | [.slice false 0 0 128 none 1, .ptr false 1 0, .ptr false 2 0, .int _ .i64 i], [some ⟨false, .ints .u8 (some 128) l⟩, some ⟨true, .ints .u64 (some 80) z⟩, some ⟨true, .ints .u64 (some 80) w⟩] => some ⟨l, z, w, i⟩
  | _, _ => none
theorem sc64_t1 (x : Nat → AV) (s : ScS) : seesL scTs1 ((codeL Tryd.prog qS (deep Tryd.prog qS h0 100 3) (fun _ _ => none) 100 (lp (blk 0 (bodyOf Tryd.prog 45))) ⟨tmOf (ups x (zipU scTs1 (scV s))) 114, scM64 s⟩).go [true]) = some ([decide (s.i < 16), decide (0 ≤ IntKind.i64.wrap (IntKind.i64.wrap (8 * s.i) + 8)) && decide (IntKind.i64.wrap (IntKind.i64.wrap (8 * s.i) + 8) ≤ ((128 : Nat) : Int)), decide (0 ≤ IntKind.i64.wrap (8 * s.i)) && decide (IntKind.i64.wrap (8 * s.i) ≤ ((p64B s.i : Nat) : Int)), decide ((0 : Int) ≤ 0) && decide ((0 : Int) < ((p64B s.i - p64A s.i : Nat) : Int)), decide (0 + p64A s.i * 1 + 0 * 1 + 1 ≤ 128), decide ((0 : Int) ≤ 1) && decide ((1 : Int) < ((p64B s.i - p64A s.i : Nat) : Int)), decide (0 + p64A s.i * 1 + 1 * 1 + 1 ≤ 128), decide ((0 : Int) ≤ 2) && decide ((2 : Int) < ((p64B s.i - p64A s.i : Nat) : Int)), decide (0 + p64A s.i * 1 + 2 * 1 + 1 ≤ 128), decide ((0 : Int) ≤ 3) && decide ((3 : Int) < ((p64B s.i - p64A s.i : Nat) : Int)), decide (0 + p64A s.i * 1 + 3 * 1 + 1 ≤ 128), decide ((0 : Int) ≤ 4) && decide ((4 : Int) < ((p64B s.i - p64A s.i : Nat) : Int)), decide (0 + p64A s.i * 1 + 4 * 1 + 1 ≤ 128), decide ((0 : Int) ≤ 5) && decide ((5 : Int) < ((p64B s.i - p64A s.i : Nat) : Int)), decide (0 + p64A s.i * 1 + 5 * 1 + 1 ≤ 128), decide ((0 : Int) ≤ 6) && decide ((6 : Int) < ((p64B s.i - p64A s.i : Nat) : Int)), decide (0 + p64A s.i * 1 + 6 * 1 + 1 ≤ 128), decide ((0 : Int) ≤ 7) && decide ((7 : Int) < ((p64B s.i - p64A s.i : Nat) : Int)), decide (0 + p64A s.i * 1 + 7 * 1 + 1 ≤ 128), decide (0 ≤ s.i) && decide (s.i < ((80 : Nat) : Int)), decide (0 + s.i.toNat * 1 + 1 ≤ 80)], 0, [.slice false 0 0 128 none 1, .ptr false 1 0, .ptr false 2 0, .int true .i64 (IntKind.i64.wrap (s.i + 1))], 114, scM64 { s with w := s.w.set (0 + s.i.toNat * 1) (w8 (s.l.getD (0 + p64A s.i * 1 + 0 * 1) 0) (s.l.getD (0 + p64A s.i * 1 + 1 * 1) 0) (s.l.getD (0 + p64A s.i * 1 + 2 * 1) 0) (s.l.getD (0 + p64A s.i * 1 + 3 * 1) 0) (s.l.getD (0 + p64A s.i * 1 + 4 * 1) 0) (s.l.getD (0 + p64A s.i * 1 + 5 * 1) 0) (s.l.getD (0 + p64A s.i * 1 + 6 * 1) 0) (s.l.getD (0 + p64A s.i * 1 + 7 * 1) 0)) }) := by kernel_rfl
theorem sc64_f1 (x : Nat → AV) (s : ScS) : seesL scTs1 ((codeL Tryd.prog qS (deep Tryd.prog qS h0 100 3) (fun _ _ => none) 100 (lp (blk 0 (bodyOf Tryd.prog 45))) ⟨tmOf (ups x (zipU scTs1 (scV s))) 114, scM64 s⟩).go [false]) = some ([!decide (s.i < 16)], 2, scV s, 114, scM64 s) := by kernel_rfl
theorem sc64_t2 (x : Nat → AV) (s : ScS) : seesL scTs2 ((codeL Tryd.prog qS (deep Tryd.prog qS h0 100 3) (fun _ _ => none) 100 (lp (blk 2 (bodyOf Tryd.prog 45))) ⟨tmOf (ups x (zipU scTs2 (scV s))) 114, scM64 s⟩).go [true]) = some ([decide (s.i < 80), decide (0 ≤ IntKind.i64.wrap (s.i - 15)) && decide (IntKind.i64.wrap (s.i - 15) < ((80 : Nat) : Int)), decide (0 + pJ s.i 15 * 1 + 1 ≤ 80), decide (0 ≤ IntKind.i64.wrap (s.i - 2)) && decide (IntKind.i64.wrap (s.i - 2) < ((80 : Nat) : Int)), decide (0 + pJ s.i 2 * 1 + 1 ≤ 80), decide (0 ≤ IntKind.i64.wrap (s.i - 16)) && decide (IntKind.i64.wrap (s.i - 16) < ((80 : Nat) : Int)), decide (0 + pJ s.i 16 * 1 + 1 ≤ 80), decide (0 ≤ IntKind.i64.wrap (s.i - 7)) && decide (IntKind.i64.wrap (s.i - 7) < ((80 : Nat) : Int)), decide (0 + pJ s.i 7 * 1 + 1 ≤ 80), decide (0 ≤ s.i) && decide (s.i < ((80 : Nat) : Int)), decide (0 + s.i.toNat * 1 + 1 ≤ 80)], 0, [.slice false 0 0 128 none 1, .ptr false 1 0, .ptr false 2 0, .int true .i64 (IntKind.i64.wrap (s.i + 1))], 114, scM64 { s with w := s.w.set (0 + s.i.toNat * 1) (IntKind.u64.wrap (IntKind.u64.wrap (IntKind.u64.wrap (s.w.getD (0 + pJ s.i 16 * 1) 0 + s0_64 (s.w.getD (0 + pJ s.i 15 * 1) 0)) + s.w.getD (0 + pJ s.i 7 * 1) 0) + s1_64 (s.w.getD (0 + pJ s.i 2 * 1) 0))) }) := by kernel_rfl
theorem sc64_f2 (x : Nat → AV) (s : ScS) : seesL scTs2 ((codeL Tryd.prog qS (deep Tryd.prog qS h0 100 3) (fun _ _ => none) 100 (lp (blk 2 (bodyOf Tryd.prog 45))) ⟨tmOf (ups x (zipU scTs2 (scV s))) 114, scM64 s⟩).go [false]) = some ([!decide (s.i < 80)], 4, scV s, 114, scM64 s) := by kernel_rfl
theorem byt64 {l : List Int} (hl : l.length = 128) (hb : ∀ x ∈ l, B8 x) {n : Nat} (hn : n < 16) : (l.drop (64 / 8 * n)).take (64 / 8) = [l.getD (8 * n) 0, l.getD (8 * n + 1) 0, l.getD (8 * n + 2) 0, l.getD (8 * n + 3) 0, l.getD (8 * n + 4) 0, l.getD (8 * n + 5) 0, l.getD (8 * n + 6) 0, l.getD (8 * n + 7) 0] ∧ Wd 64 (be ((l.drop (64 / 8 * n)).take (64 / 8))) := by
  have e : (l.drop (64 / 8 * n)).take (64 / 8) = [l.getD (8 * n) 0, l.getD (8 * n + 1) 0, l.getD (8 * n + 2) 0, l.getD (8 * n + 3) 0, l.getD (8 * n + 4) 0, l.getD (8 * n + 5) 0, l.getD (8 * n + 6) 0, l.getD (8 * n + 7) 0] := by
    rw [bytes_at (by rw [hl]; omega)]
    rfl
  refine ⟨e, ?_⟩
  rw [e]
  exact (w8_eq (getD_B8 hb _) (getD_B8 hb _) (getD_B8 hb _) (getD_B8 hb _) (getD_B8 hb _) (getD_B8 hb _) (getD_B8 hb _) (getD_B8 hb _)).2
structure ScJ64 (b : Int) (s0 s : ScS) : Prop where
  hl : s.l = s0.l
  hz : s.z = s0.z
  len : s.l.length = 128
  byte : ∀ x ∈ s.l, B8 x
  lo : 0 ≤ s.i
  hi : s.i ≤ b
  w : s.w = fillW 80 64 s.l s.i.toNat
def scO64 (a : Int) (s : ScS) : List Bool := [decide (s.i = a), decide (s.l.length = 128), s.l.all (inR .u8), decide (s.w = fillW 80 64 s.l s.i.toNat)]
def scF64 (slots : List (Nat × AV)) (b : Nat) (s : ScS) : List (Nat × AV) × Mem := (slots, scM64 { s with w := fillW 80 64 s.l b })
def scΛ64 : LoopH := famH 0 114 scTs1 scP64 (scO64 0) (scF64 [(0, .slice false 0 0 128 none 1), (2, .ptr false 1 0), (3, .ptr false 2 0)] 16) (famH 2 114 scTs2 scP64 (scO64 16) (scF64 [(2, .ptr false 1 0), (3, .ptr false 2 0)] 80) fun _ _ => none)
theorem sc64_open {a b : Int} (hab : 0 ≤ a ∧ a ≤ b) {avs : List AV} {m : Mem} {s : ScS} (h : scP64 avs m = some s) (ho : Paid (scO64 a s)) : LeL avs (scV s) ∧ m = scM64 s ∧ ScJ64 b s s := by
  unfold scP64 at h
  split at h
  · cases h
    have o1 := of_decide_eq_true (ho _ (List.mem_cons_self ..))
    have o2 := of_decide_eq_true (ho _ (List.mem_cons_of_mem _ (List.mem_cons_self ..)))
    have o3 := ho _ (List.mem_cons_of_mem _ (List.mem_cons_of_mem _ (List.mem_cons_self ..)))
    have o4 := of_decide_eq_true (ho _ (List.mem_cons_of_mem _ (List.mem_cons_of_mem _ (List.mem_cons_of_mem _ (List.mem_cons_self ..)))))
    simp only at o1 o2 o3 o4
    exact ⟨.cons (.refl _) (.cons (.refl _) (.cons (.refl _) (.cons (.int _ _ _) .nil))), rfl, ⟨rfl, rfl, o2, fun x hx => inR_u8 (List.all_eq_true.1 o3 x hx), by simp only; omega, by simp only; omega, o4⟩⟩
  · cases h
theorem sc64_lok : LOk Tryd.prog (bodyOf Tryd.prog 45) scΛ64 := by
  have out : ∀ {s0 s : ScS} {b : Nat} {sl : List (Nat × AV)}, ScJ64 b s0 s → s.i = b → scM64 s = (scF64 sl b s0).2 := fun {s0 s b sl} hJ hb => by
    obtain ⟨hl, hz, len, byte, lo, hi, w⟩ := hJ
    obtain ⟨l, z, w', i⟩ := s
    obtain ⟨l0, z0, w0, i0⟩ := s0
    simp only at hl hz w hb
    subst hl hz hb w
    simp only [scF64, scM64, Int.toNat_natCast]
  refine fam_ok (q := qS) (n := 100) scV scM64 (ScJ64 16) (fun s => 16 - s.i.toNat) mixed (h0_ok.deep (q := qS) mixed noCount 100 3) ?_ LOk.none (by kernel_rfl) (by kernel_rfl) (fun s => rfl) (fun s => rfl) (fun avs m s h ho => ⟨s, sc64_open ⟨by omega, by omega⟩ h ho⟩) (fun s0 s hJ x => ?_)
  · refine fam_ok (q := qS) (n := 100) scV scM64 (fun s0 s => ScJ64 80 s0 s ∧ 16 ≤ s.i) (fun s => 80 - s.i.toNat) mixed (h0_ok.deep (q := qS) mixed noCount 100 3) LOk.none LOk.none (by kernel_rfl) (by kernel_rfl) (fun s => rfl) (fun s => rfl) (fun avs m s h ho => ?_) (fun s0 s hJ x => ?_)
    · obtain ⟨a1, a2, a3⟩ := sc64_open (b := 80) ⟨by omega, by omega⟩ h ho
      have o1 := of_decide_eq_true (ho _ (List.mem_cons_self ..))
      exact ⟨s, a1, a2, a3, by omega⟩
    · obtain ⟨hJ, h16⟩ := hJ
      have hJ' := hJ
      obtain ⟨hl, hz, len, byte, lo, hi, w⟩ := hJ
      by_cases hk : s.i = 80
      · refine Round.out (sc64_f2 x s) rfl (out (b := 80) hJ' hk) (paid_cons (by rw [hk]; rfl) Paid.nil) fun p hp => ?_
        simp only [scF64, List.mem_cons, List.not_mem_nil, or_false] at hp
        rcases hp with rfl | rfl
        · exact ⟨_, by simp [scTs2, scV, zipU], Le1.refl _⟩
        · exact ⟨_, by simp [scTs2, scV, zipU], Le1.refl _⟩
      · obtain ⟨l, z, w', i⟩ := s
        simp only at hl hz len byte lo hi w hk h16
        subst w
        have hN : i < 80 := by omega
        have pj : ∀ d : Int, 0 ≤ d ∧ d ≤ 16 → IntKind.i64.wrap (i - d) = i - d := fun d hd => by
          unfold IntKind.wrap; simp [IntKind.bits, IntKind.signed]; omega
        have hwd := words_wd (w := 64) (b := l) (fun n hn => (byt64 len byte hn).2) i.toNat
        have gt : ∀ d : Int, 2 ≤ d ∧ d ≤ 16 → (fillW 80 64 l i.toNat).getD (0 + pJ i d * 1) 0 = (wordsW 64 l i.toNat).getD (i.toNat - d.toNat) 0 := fun d hd => by
          have e : pJ i d = i.toNat - d.toNat := by unfold pJ; rw [pj d (by omega)]; omega
          rw [e, Nat.zero_add, Nat.mul_one, fill_get (by omega)]
        have hv : nextW 64 l (wordsW 64 l i.toNat) = IntKind.u64.wrap (IntKind.u64.wrap (IntKind.u64.wrap ((fillW 80 64 l i.toNat).getD (0 + pJ i 16 * 1) 0 + s0_64 ((fillW 80 64 l i.toNat).getD (0 + pJ i 15 * 1) 0)) + (fillW 80 64 l i.toNat).getD (0 + pJ i 7 * 1) 0) + s1_64 ((fillW 80 64 l i.toNat).getD (0 + pJ i 2 * 1) 0)) := by
          rw [gt 16 (by omega), gt 15 (by omega), gt 7 (by omega), gt 2 (by omega), s0_64_eq (getD_wd hwd _), s1_64_eq (getD_wd hwd _), wrap_u (k := .u64) rfl, wrap_u (k := .u64) rfl, wrap_u (k := .u64) rfl]
          unfold nextW
          rw [words_len, if_neg (by omega)]
          simp only [IntKind.bits, show Int.toNat 16 = 16 from rfl, show Int.toNat 15 = 15 from rfl, show Int.toNat 7 = 7 from rfl, show Int.toNat 2 = 2 from rfl]
          omega
        have hw : IntKind.i64.wrap (i + 1) = i + 1 := by
          unfold IntKind.wrap; simp [IntKind.bits, IntKind.signed]; omega
        have ht : (i + 1).toNat = i.toNat + 1 := by omega
        refine Round.on (sc64_t2 x ⟨l, z, _, i⟩) ⟨l, z, fillW 80 64 l (i.toNat + 1), i + 1⟩ [] ?_ ?_ (by simp only [hw]; exact LeL.refl _) ⟨⟨hl, hz, len, byte, by simp only; omega, by simp only; omega, by simp only [ht]⟩, by simp only; omega⟩ rfl (by simp only; omega)
        · simp only [scM64, ← hv, List.append_nil]
          rw [show 0 + i.toNat * 1 = i.toNat by omega, fill_set (show i.toNat < 80 by omega)]
        · have e : ∀ d : Int, 2 ≤ d ∧ d ≤ 16 → pJ i d = i.toNat - d.toNat := fun d hd => by unfold pJ; rw [pj d (by omega)]; omega
          simp only [pj 15 (by omega), pj 2 (by omega), pj 16 (by omega), pj 7 (by omega), e 15 (by omega), e 2 (by omega), e 16 (by omega), e 7 (by omega), show Int.toNat 16 = 16 from rfl, show Int.toNat 15 = 15 from rfl, show Int.toNat 7 = 7 from rfl, show Int.toNat 2 = 2 from rfl]
          repeat' first | exact Paid.nil | refine paid_cons ?_ ?_
          all_goals (simp; try omega)
  · have hJ' := hJ
    obtain ⟨hl, hz, len, byte, lo, hi, w⟩ := hJ
    by_cases hk : s.i = 16
    · refine Round.out (sc64_f1 x s) rfl (out (b := 16) hJ' hk) (paid_cons (by rw [hk]; rfl) Paid.nil) fun p hp => ?_
      simp only [scF64, List.mem_cons, List.not_mem_nil, or_false] at hp
      rcases hp with rfl | rfl | rfl
      · exact ⟨_, by simp [scTs1, scV, zipU], Le1.refl _⟩
      · exact ⟨_, by simp [scTs1, scV, zipU], Le1.refl _⟩
      · exact ⟨_, by simp [scTs1, scV, zipU], Le1.refl _⟩
    · obtain ⟨l, z, w', i⟩ := s
      simp only at hl hz len byte lo hi w hk
      subst w
      have pa : p64A i = 8 * i.toNat := by
        unfold p64A IntKind.wrap; simp [IntKind.bits, IntKind.signed]; omega
      have pb : p64B i = 8 * i.toNat + 8 := by
        unfold p64B IntKind.wrap; simp [IntKind.bits, IntKind.signed]; omega
      have pc : IntKind.i64.wrap (8 * i) = 8 * i := by
        unfold IntKind.wrap; simp [IntKind.bits, IntKind.signed]; omega
      have pd : IntKind.i64.wrap (8 * i + 8) = 8 * i + 8 := by
        unfold IntKind.wrap; simp [IntKind.bits, IntKind.signed]; omega
      have hv : nextW 64 l (wordsW 64 l i.toNat) = w8 (l.getD (0 + p64A i * 1 + 0 * 1) 0) (l.getD (0 + p64A i * 1 + 1 * 1) 0) (l.getD (0 + p64A i * 1 + 2 * 1) 0) (l.getD (0 + p64A i * 1 + 3 * 1) 0) (l.getD (0 + p64A i * 1 + 4 * 1) 0) (l.getD (0 + p64A i * 1 + 5 * 1) 0) (l.getD (0 + p64A i * 1 + 6 * 1) 0) (l.getD (0 + p64A i * 1 + 7 * 1) 0) := by
        rw [(w8_eq (getD_B8 byte _) (getD_B8 byte _) (getD_B8 byte _) (getD_B8 byte _) (getD_B8 byte _) (getD_B8 byte _) (getD_B8 byte _) (getD_B8 byte _)).1, pa]
        unfold nextW
        rw [words_len, if_pos (by omega), (byt64 len byte (show i.toNat < 16 by omega)).1]
        simp only [Nat.zero_add, Nat.mul_one, Nat.add_zero]
      have hw : IntKind.i64.wrap (i + 1) = i + 1 := by
        unfold IntKind.wrap; simp [IntKind.bits, IntKind.signed]; omega
      have ht : (i + 1).toNat = i.toNat + 1 := by omega
      refine Round.on (sc64_t1 x ⟨l, z, _, i⟩) ⟨l, z, fillW 80 64 l (i.toNat + 1), i + 1⟩ [] ?_ ?_ (by simp only [hw]; exact LeL.refl _) ⟨hl, hz, len, byte, by simp only; omega, by simp only; omega, by simp only [ht]⟩ rfl (by simp only; omega)
      · simp only [scM64, ← hv, List.append_nil]
        rw [show 0 + i.toNat * 1 = i.toNat by omega, fill_set (show i.toNat < 80 by omega)]
      · simp only [pa, pb, pc, pd]
        repeat' first | exact Paid.nil | refine paid_cons ?_ ?_
        all_goals (simp; try omega)
def schS64 : List V → E (AV × Mem)
  | [.buf false .u8 128 l] => some ([], (.ints .u64 80 (wordsW 64 l 80), []))
  | _ => none
theorem sch64_eval (l : List Int) : res ((funcL Tryd.prog qS (deep Tryd.prog qS h0 100 3) scΛ64 100 45 (cArgs 0 [.buf false .u8 128 l]) (cMem [.buf false .u8 128 l])).go []) =
    some (scO64 0 ⟨l, List.replicate 80 0, List.replicate 80 0, 0⟩ ++ scO64 16 ⟨l, List.replicate 80 0, fillW 80 64 l 16, 16⟩, .ints .u64 80 (fillW 80 64 l 80)) := by kernel_rfl
theorem sch64_ok {xs : List V} {o : List Bool} {v : AV} {bs : Mem} (h : schS64 xs = some (o, (v, bs))) (ho : Paid o) : ViewCall Tryd.prog 45 xs v bs := by
  unfold schS64 at h
  split at h
  · rename_i l
    cases h
    intro ρ vs w ha hi
    obtain ⟨hl, hr⟩ := buf_arg hi 0 rfl
    have ha' : l.all (inR .u8) = true := List.all_eq_true.2 hr
    refine view_of_evalL mixed noCount (h0_ok.deep (q := qS) mixed noCount 100 3) (fun fn c hf hb => by rw [bodyOf_eq hf hb]; exact sc64_lok) (by rfl) (go_sound (sat_eq (sch64_eval l) ?_ ?_ (by rfl))) ha hi
    · refine paid_append.2 ⟨?_, ?_⟩
      · exact paid_cons rfl (paid_cons (decide_eq_true hl) (paid_cons ha' (paid_cons (decide_eq_true (by simp [fillW, wordsW])) Paid.nil)))
      · exact paid_cons rfl (paid_cons (decide_eq_true hl) (paid_cons ha' (paid_cons (decide_eq_true rfl) Paid.nil)))
    · simp [fillW]
  · cases h
end Go.Proofs.YtjhjhhibfojpiaaDoor
