/- The program's block cipher: contract of New. Own work. -/
import Derived.Test.YtljndahfackolaaQAesC
set_option linter.unusedSimpArgs false
set_option linter.unusedVariables false
set_option linter.unusedSectionVars false
namespace Go.Proofs.Ytljndahfackolaa
open Go.Ev Go.Sh Go.As
set_option maxRecDepth 100000
theorem new4_eval (l : List Int) : ((funcL Try.prog qP (deep Try.prog qP ha5 100 3) (kyΛ4 fun _ _ => none) 100 11 (cArgs 0 [.buf false .u8 16 l]) (cMem [.buf false .u8 16 l])).go []).flat =
    some ([decide ((4 : Int) = 4), decide ((keyG 4 l 0).1 = (keyG 4 l 0).1), decide ((1 : Int) = 1)], (.tuple [.ptr false 1 0, .int false .i64 0], [some ⟨false, .ints .u8 (some 16) l⟩, some ⟨true, .wide [.int false .i64 10, .ints .u8 240 (keyL 4 l)]⟩])) := by kernel_rfl
theorem new8_eval (l : List Int) : ((funcL Try.prog qP (deep Try.prog qP ha5 100 3) (kyΛ8 fun _ _ => none) 100 11 (cArgs 0 [.buf false .u8 32 l]) (cMem [.buf false .u8 32 l])).go []).flat =
    some ([decide ((8 : Int) = 8), decide ((keyG 8 l 0).1 = (keyG 8 l 0).1), decide ((1 : Int) = 1)], (.tuple [.ptr false 1 0, .int false .i64 0], [some ⟨false, .ints .u8 (some 32) l⟩, some ⟨true, .wide [.int false .i64 14, .ints .u8 240 (keyL 8 l)]⟩])) := by kernel_rfl
theorem newX_eval (n : Nat) (l : List Int) : ((funcL Try.prog qP (deep Try.prog qP ha5 100 3) (fun _ _ => none) 100 11 (cArgs 0 [.buf true .u8 n l]) (cMem [.buf true .u8 n l])).go [true]).flat =
    some ([decide (n < 9223372036854775808), !((n : Int) != 16) || decide (n < 9223372036854775808), !((n : Int) != 16) || ((n : Int) != 16), !((n : Int) != 16) || ((n : Int) != 16), !((n : Int) != 16) || ((n : Int) != 16), match ((n : Int) != 16) with | true => ((n : Int) != 32) | false => false], (.tuple [.nilptr, .int false .i64 2], cMem [.buf true .u8 n l])) := by kernel_rfl
def keyV (N : Nat) (l : List Int) : AV × Mem := (.tuple [.ptr false 0 0, .int false .i64 0], [some ⟨true, .wide [.int false .i64 ((N : Int) + 6), .ints .u8 240 (keyL N l)]⟩])
/-- Of 16 bytes, of 32. -/
def newS : List V → E (AV × Mem)
  | [.buf false .u8 16 l] => some ([], keyV 4 l)
  | [.buf false .u8 32 l] => some ([], keyV 8 l)
  | _ => none
theorem new_ok {xs : List V} {o : List Bool} {v : AV} {bs : Mem} (h : newS xs = some (o, (v, bs))) : ViewCall Try.prog 11 xs v bs := by
  unfold newS at h
  split at h
  · rename_i l
    cases h
    exact @viewN_of_go _ _ _ _ _ mixed noCount (ha5_ok.deep mixed noCount 100 3) _ _ _ (fun fn c hf hb => by rw [bodyOf_eq hf hb]; exact (ky4_lok LOk.none).toN) _ _ _ _ _ [] (new4_eval l) (paid_cons rfl (paid_cons (decide_eq_true rfl) (paid_cons rfl Paid.nil))) rfl rfl rfl
  · rename_i l
    cases h
    exact @viewN_of_go _ _ _ _ _ mixed noCount (ha5_ok.deep mixed noCount 100 3) _ _ _ (fun fn c hf hb => by rw [bodyOf_eq hf hb]; exact (ky8_lok LOk.none).toN) _ _ _ _ _ [] (new8_eval l) (paid_cons rfl (paid_cons (decide_eq_true rfl) (paid_cons rfl Paid.nil))) rfl rfl rfl
  · cases h
/-- A slice's length is what it is, marked or not. -/
theorem ViewCall.mark {g : FuncId} {k : IntKind} {n : Nat} {l : List Int} {v : AV} {bs : Mem} (h : ViewCall Try.prog g [.buf false k n l] v bs) : ViewCall Try.prog g [.buf true k n l] v bs := by
  intro ρ vs w ha hi
  refine h (ρ := ρ) (vs := vs) (w := w) ?_ hi
  cases ha with
  | cons _ _ u us hu hus =>
    cases hus
    refine .cons _ _ _ _ ?_ .nil
    cases hu with
    | slice _ _ _ _ _ _ c ad hn hc hl hw had => exact .slice false _ _ _ _ _ c ad hn hc hl hw had
def newS16 : List V → E (AV × Mem)
  | [.buf true .u8 n l] => some ([decide (n = 16)], keyV 4 l)
  | xs => newS xs
def newS32 : List V → E (AV × Mem)
  | [.buf true .u8 n l] => some ([decide (n = 32)], keyV 8 l)
  | xs => newS xs
def newSX : List V → E (AV × Mem)
  | [.buf true .u8 n _] => some ([!decide (n = 16), !decide (n = 32), decide (n < 9223372036854775808)], (.tuple [.nilptr, .int false .i64 2], []))
  | xs => newS xs
theorem new16_ok {xs : List V} {o : List Bool} {v : AV} {bs : Mem} (h : newS16 xs = some (o, (v, bs))) (ho : Paid o) : ViewCall Try.prog 11 xs v bs := by
  unfold newS16 at h
  split at h
  · rename_i n l
    cases h
    obtain rfl := of_decide_eq_true (ho _ (List.mem_cons_self ..))
    exact @ViewCall.mark _ _ _ _ _ _ (@new_ok [.buf false .u8 16 l] [] _ _ rfl)
  · exact @new_ok _ _ _ _ h
theorem new32_ok {xs : List V} {o : List Bool} {v : AV} {bs : Mem} (h : newS32 xs = some (o, (v, bs))) (ho : Paid o) : ViewCall Try.prog 11 xs v bs := by
  unfold newS32 at h
  split at h
  · rename_i n l
    cases h
    obtain rfl := of_decide_eq_true (ho _ (List.mem_cons_self ..))
    exact @ViewCall.mark _ _ _ _ _ _ (@new_ok [.buf false .u8 32 l] [] _ _ rfl)
  · exact @new_ok _ _ _ _ h
theorem newX_ok {xs : List V} {o : List Bool} {v : AV} {bs : Mem} (h : newSX xs = some (o, (v, bs))) (ho : Paid o) : ViewCall Try.prog 11 xs v bs := by
  unfold newSX at h
  split at h
  · rename_i n l
    cases h
    have o1 := ho _ (List.mem_cons_self ..)
    have o2 := ho _ (List.mem_cons_of_mem _ (List.mem_cons_self ..))
    have o3 := ho _ (List.mem_cons_of_mem _ (List.mem_cons_of_mem _ (List.mem_cons_self ..)))
    have e1 : ((n : Int) != 16) = true := by simp at o1 ⊢; omega
    have e2 : ((n : Int) != 32) = true := by simp at o2 ⊢; omega
    have ev := newX_eval n l
    rw [e1, e2, o3] at ev
    exact @viewN_of_go _ _ _ _ _ mixed noCount (ha5_ok.deep mixed noCount 100 3) _ _ _ (fun fn c hf hb => LOkN.none) _ _ _ _ _ [true] ev (all1_paid rfl) rfl rfl rfl
  · exact @new_ok _ _ _ _ h
def hb16 : CallH := withV 11 newS16 ha5
def hb32 : CallH := withV 11 newS32 ha5
def hbX : CallH := withV 11 newSX ha5
theorem hb16_ok : HOk Try.prog hb16 := ha5_ok.withV fun _ _ _ _ h ho => new16_ok h ho
theorem hb32_ok : HOk Try.prog hb32 := ha5_ok.withV fun _ _ _ _ h ho => new32_ok h ho
theorem hbX_ok : HOk Try.prog hbX := ha5_ok.withV fun _ _ _ _ h ho => newX_ok h ho
end Go.Proofs.Ytljndahfackolaa
namespace Go.Gc
open Go.Ev Go.Sh
structure MuS where
  bits : Int
  qh : Int
  qt : Int
  sh : Int
  st : Int
/-- One round of a product. -/
def mu1 (s : MuS) : MuS :=
  ⟨ishl .u64 s.bits 1, ixor .u64 (ishr .u64 s.qh 1) (iand .u64 16212958658533785600 (IntKind.u64.wrap (0 - iand .u64 s.qt 1))), ior .u64 (ishl .u64 s.qh 63) (ishr .u64 s.qt 1),
    ixor .u64 s.sh (iand .u64 s.qh (IntKind.u64.wrap (0 - ishr .u64 s.bits 63))), ixor .u64 s.st (iand .u64 s.qt (IntKind.u64.wrap (0 - ishr .u64 s.bits 63)))⟩
def muN : Nat → MuS → MuS
  | 0, s => s
  | n + 1, s => mu1 (muN n s)
structure MuF where
  ph : Int
  pt : Int
  a : Int
  b : Int
  s : MuS
  z : Bool
  y : Bool
  o : Int
  i : Int
def mul2 (s : MuS) (pt : Int) : MuS := muN 64 ⟨pt, s.qh, s.qt, s.sh, s.st⟩
def mulW (ph pt qh qt : Int) : MuS := mul2 (muN 64 ⟨ph, qh, qt, 0, 0⟩) pt
/-- Eight bytes as a number. -/
def rd8 (b : List Int) (o : Nat) : Int := (List.range 8).foldl (fun a i => ior .u64 (ishl .u64 a 8) (IntKind.u64.wrap (b.getD (o + i) 0))) 0
/-- A polynomial's block. -/
def blkP (h t : Int) : List Int := (List.range 8).map (fun i => IntKind.u8.wrap (ishr .u64 h (((56 - 8 * i : Nat) : Int)))) ++ (List.range 8).map (fun i => IntKind.u8.wrap (ishr .u64 t (((56 - 8 * i : Nat) : Int))))
end Go.Gc
namespace Go.Proofs.Ytljndahfackolaa
open Go.Ev Go.Sh Go.As Go.Gc
set_option maxRecDepth 100000
def muTs : List Nat := [3, 4, 5, 7, 13, 14, 17]
def muV (s : MuF) : List AV := [.ptr false 3 0, .ptr false 4 0, .ptr false 5 0, .int true .u64 s.s.bits, .agg [.int true .u64 s.ph, .int true .u64 s.pt], .int false .i64 s.o, .int true .i64 s.i]
def muM (s : MuF) : Mem := [none, none, some ⟨true, .vals [.int true .u64 s.a, .int true .u64 s.b]⟩, some ⟨true, .vals [.int true .u64 s.s.qh, .int true .u64 s.s.qt]⟩, some ⟨true, .vals [.int false .u64 0, .int false .u64 0]⟩, some ⟨true, .vals [.int s.z .u64 s.s.sh, .int s.y .u64 s.s.st]⟩]
def muP : List AV → Mem → Option MuF
  | [.ptr false 3 0, .ptr false 4 0, .ptr false 5 0, .int true .u64 bits, .agg [.int true .u64 ph, .int true .u64 pt], .int false .i64 o, .int false .i64 i],
    [none, none, some ⟨true, .vals [.int true .u64 a, .int true .u64 b]⟩, some ⟨true, .vals [.int true .u64 qh, .int true .u64 qt]⟩, some ⟨true, .vals [.int false .u64 0, .int false .u64 0]⟩, some ⟨true, .vals [.int z .u64 sh, .int y .u64 st]⟩] =>
    some ⟨ph, pt, a, b, ⟨bits, qh, qt, sh, st⟩, z, y, o, i⟩
  | _, _ => none
def muO (s : MuF) : List Bool := [decide (s.i = 0)]
def muF (s : MuF) : List (Nat × AV) × Mem := ([(3, .ptr false 3 0), (4, .ptr false 4 0), (5, .ptr false 5 0), (13, .agg [.int true .u64 s.ph, .int true .u64 s.pt]), (14, .int false .i64 s.o)], muM { s with s := muN 64 s.s, z := true, y := true })
def muΛ (Λ : LoopH) : LoopH := famH 2 40 muTs muP muO muF Λ
theorem mu_t (x : Nat → AV) (s : MuF) : seesL muTs ((codeL Try.prog qP (deep Try.prog qP a0 100 3) (fun _ _ => none) 100 (lp (blk 2 (bodyOf Try.prog 23))) ⟨tmOf (ups x (zipU muTs (muV s))) 40, muM s⟩).go [true]) =
    some ([decide (s.i < 64)], 0, muV { s with s := mu1 s.s, z := true, y := true, i := IntKind.i64.wrap (s.i + 1) }, 40, muM { s with s := mu1 s.s, z := true, y := true, i := IntKind.i64.wrap (s.i + 1) }) := by
  obtain ⟨ph, pt, a, b, s, z, y, o, i⟩ := s
  cases z <;> cases y <;> kernel_rfl
theorem mu_f (x : Nat → AV) (s : MuF) : seesL muTs ((codeL Try.prog qP (deep Try.prog qP a0 100 3) (fun _ _ => none) 100 (lp (blk 2 (bodyOf Try.prog 23))) ⟨tmOf (ups x (zipU muTs (muV s))) 40, muM s⟩).go [false]) =
    some ([!decide (s.i < 64)], 4, muV s, 40, muM s) := by kernel_rfl
theorem mu_lok {Λ : LoopH} (hΛ : LOk Try.prog (bodyOf Try.prog 23) Λ) : LOk Try.prog (bodyOf Try.prog 23) (muΛ Λ) := by
  refine fam_ok (q := qP) (n := 100) muV muM (fun s0 s => ∃ j : Nat, j ≤ 64 ∧ s.ph = s0.ph ∧ s.pt = s0.pt ∧ s.a = s0.a ∧ s.b = s0.b ∧ s.o = s0.o ∧ s.s = muN j s0.s ∧ s.i = (j : Int) ∧ (0 < j → s.z = true ∧ s.y = true)) (fun s => 64 - s.i.toNat) mixed (a0_ok.deep (q := qP) mixed noCount 100 3) hΛ LOk.none (by kernel_rfl) (by kernel_rfl) (fun s => rfl) (fun s => rfl) (fun avs m s h ho => ?_) (fun s0 s hJ x => ?_)
  · unfold muP at h
    split at h
    · cases h
      have o1 := of_decide_eq_true (ho _ (List.mem_cons_self ..))
      exact ⟨_, .cons (.refl _) (.cons (.refl _) (.cons (.refl _) (.cons (.refl _) (.cons (.refl _) (.cons (.refl _) (.cons (.int _ _ _) .nil)))))), rfl, 0, by omega, rfl, rfl, rfl, rfl, rfl, rfl, o1, fun h => by omega⟩
    · cases h
  · obtain ⟨j, hj, e1, e2, e3, e4, e5, e6, e7, e8⟩ := hJ
    obtain ⟨ph, pt, a, b, s, z, y, o, i⟩ := s
    simp only at e1 e2 e3 e4 e5 e6 e7 e8
    subst e1 e2 e3 e4 e5 e6 e7
    by_cases hend : j = 64
    · subst hend
      obtain ⟨rfl, rfl⟩ := e8 (by omega)
      refine Round.out (mu_f x _) rfl rfl (paid_cons (by simp) Paid.nil) fun p hp => ?_
      simp only [muF, List.mem_cons, List.not_mem_nil, or_false] at hp
      rcases hp with rfl | rfl | rfl | rfl | rfl
      · exact ⟨_, by simp [muTs, muV, zipU], Le1.refl _⟩
      · exact ⟨_, by simp [muTs, muV, zipU], Le1.refl _⟩
      · exact ⟨_, by simp [muTs, muV, zipU], Le1.refl _⟩
      · exact ⟨.agg [.int true .u64 s0.ph, .int true .u64 s0.pt], by simp [muTs, muV, zipU], Le1.refl _⟩
      · exact ⟨.int false .i64 s0.o, by simp [muTs, muV, zipU], Le1.refl _⟩
    · have hw : IntKind.i64.wrap ((j : Int) + 1) = ((j + 1 : Nat) : Int) := by
        unfold IntKind.wrap; simp [IntKind.bits, IntKind.signed]; omega
      refine Round.on (mu_t x _) ⟨s0.ph, s0.pt, s0.a, s0.b, muN (j + 1) s0.s, true, true, s0.o, ((j + 1 : Nat) : Int)⟩ [] ?_ (paid_cons (decide_eq_true (by simp only; omega)) Paid.nil) ?_ ⟨j + 1, by omega, rfl, rfl, rfl, rfl, rfl, rfl, rfl, fun _ => ⟨rfl, rfl⟩⟩ rfl (by simp only; omega)
      · simp only [hw]
        rw [List.append_nil]
        rfl
      · simp only [hw]; exact LeL.refl _
-- contracts
theorem times_eval (ph pt qh qt : Int) : ((funcL Try.prog qP (deep Try.prog qP a0 100 3) (muΛ fun _ _ => none) 100 23 (cArgs 0 [.pl (.agg [.int true .u64 ph, .int true .u64 pt]), .pl (.agg [.int true .u64 qh, .int true .u64 qt])]) (cMem [.pl (.agg [.int true .u64 ph, .int true .u64 pt]), .pl (.agg [.int true .u64 qh, .int true .u64 qt])])).go []).flat =
    some ([decide ((0 : Int) = 0), decide ((0 : Int) = 0)], (.agg [.int true .u64 (mulW ph pt qh qt).sh, .int true .u64 (mulW ph pt qh qt).st], [none, none, some ⟨true, .vals [.int true .u64 ph, .int true .u64 pt]⟩, some ⟨true, .vals [.int true .u64 (mulW ph pt qh qt).qh, .int true .u64 (mulW ph pt qh qt).qt]⟩, some ⟨true, .vals [.int true .u64 (mulW ph pt qh qt).sh, .int true .u64 (mulW ph pt qh qt).st]⟩, some ⟨true, .vals [.int true .u64 (mulW ph pt qh qt).sh, .int true .u64 (mulW ph pt qh qt).st]⟩])) := by kernel_rfl
theorem of_eval (b : List Int) : res (funcA Try.prog qP a0 100 19 (cArgs 0 [.pl (.ints .u8 16 b)]) (cMem [.pl (.ints .u8 16 b)])) = some ([], .agg [.int true .u64 (rd8 b 0), .int true .u64 (rd8 b 8)]) := by kernel_rfl
theorem blkP_eval (h t : Int) : res (funcA Try.prog qP a0 100 24 (cArgs 0 [.pl (.agg [.int true .u64 h, .int true .u64 t])]) (cMem [.pl (.agg [.int true .u64 h, .int true .u64 t])])) = some ([], .ints .u8 16 (blkP h t)) := by kernel_rfl
end Go.Proofs.Ytljndahfackolaa
