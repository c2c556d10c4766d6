/- The program's block cipher: contract of New. Own work. -/
import Derived.Test.YtfmgodgakndjcaaSKAesC
set_option linter.unusedSimpArgs false
set_option linter.unusedVariables false
set_option linter.unusedSectionVars false
namespace Go.Proofs.Ytfmgodgakndjcaa
open Go.Ev Go.Sh Go.As
set_option maxRecDepth 100000
theorem new4_eval (l : List Int) : ((funcL Try.prog qP (deep Try.prog qP ha5 100 3) (kyΛ4 fun _ _ => none) 100 11 (cArgs 0 [.buf false .u8 16 l]) (cMem [.buf false .u8 16 l])).go []).flat =
    some ([decide ((4 : Int) = 4), decide ((keyG 4 l 0).1 = (keyG 4 l 0).1), decide ((1 : Int) = 1)], (.tuple [.ptr false 1 0, .int false .i64 0], [some ⟨false, .ints .u8 (some 16) l⟩, some ⟨true, .wide [.int false .i64 10, .ints .u8 240 (keyL 4 l)]⟩])) := by kernel_rfl
theorem new8_eval (l : List Int) : ((funcL Try.prog qP (deep Try.prog qP ha5 100 3) (kyΛ8 fun _ _ => none) 100 11 (cArgs 0 [.buf false .u8 32 l]) (cMem [.buf false .u8 32 l])).go []).flat =
    some ([decide ((8 : Int) = 8), decide ((keyG 8 l 0).1 = (keyG 8 l 0).1), decide ((1 : Int) = 1)], (.tuple [.ptr false 1 0, .int false .i64 0], [some ⟨false, .ints .u8 (some 32) l⟩, some ⟨true, .wide [.int false .i64 14, .ints .u8 240 (keyL 8 l)]⟩])) := by kernel_rfl
def keyV (N : Nat) (l : List Int) : AV × Mem := (.tuple [.ptr false 0 0, .int false .i64 0], [some ⟨true, .wide [.int false .i64 ((N : Int) + 6), .ints .u8 240 (keyL N l)]⟩])
/-- Of 16 bytes, of 32. -/
def newS : List V → E (AV × Mem)
  | [.buf false .u8 16 l] => some ([], keyV 4 l)
  | [.buf false .u8 32 l] => some ([], keyV 8 l)
  | _ => none
theorem new_ok {xs : List V} {o : List Bool} {v : AV} {bs : Mem} (h : newS xs = some (o, (v, bs))) : ViewCall Try.prog 11 xs v bs := by
  unfold newS at h
  split at h
  · rename_i l
    cases h
    exact @viewN_of_go _ _ _ _ _ mixed noCount (ha5_ok.deep mixed noCount 100 3) _ _ _ (fun fn c hf hb => by rw [bodyOf_eq hf hb]; exact (ky4_lok LOk.none).toN) _ _ _ _ _ [] (new4_eval l) (paid_cons rfl (paid_cons (decide_eq_true rfl) (paid_cons rfl Paid.nil))) rfl rfl rfl
  · rename_i l
    cases h
    exact @viewN_of_go _ _ _ _ _ mixed noCount (ha5_ok.deep mixed noCount 100 3) _ _ _ (fun fn c hf hb => by rw [bodyOf_eq hf hb]; exact (ky8_lok LOk.none).toN) _ _ _ _ _ [] (new8_eval l) (paid_cons rfl (paid_cons (decide_eq_true rfl) (paid_cons rfl Paid.nil))) rfl rfl rfl
  · cases h
end Go.Proofs.Ytfmgodgakndjcaa
namespace Go.Gc
open Go.Ev Go.Sh
structure MuS where
  bits : Int
  qh : Int
  qt : Int
  sh : Int
  st : Int
/-- One round of a product. -/
def mu1 (s : MuS) : MuS :=
  ⟨ishl .u64 s.bits 1, ixor .u64 (ishr .u64 s.qh 1) (iand .u64 16212958658533785600 (IntKind.u64.wrap (0 - iand .u64 s.qt 1))), ior .u64 (ishl .u64 s.qh 63) (ishr .u64 s.qt 1),
    ixor .u64 s.sh (iand .u64 s.qh (IntKind.u64.wrap (0 - ishr .u64 s.bits 63))), ixor .u64 s.st (iand .u64 s.qt (IntKind.u64.wrap (0 - ishr .u64 s.bits 63)))⟩
def muN : Nat → MuS → MuS
  | 0, s => s
  | n + 1, s => mu1 (muN n s)
structure MuF where
  ph : Int
  pt : Int
  a : Int
  b : Int
  s : MuS
  z : Bool
  y : Bool
  o : Int
  i : Int
def mul2 (s : MuS) (pt : Int) : MuS := muN 64 ⟨pt, s.qh, s.qt, s.sh, s.st⟩
def mulW (ph pt qh qt : Int) : MuS := mul2 (muN 64 ⟨ph, qh, qt, 0, 0⟩) pt
/-- Eight bytes as a number. -/
def rd8 (b : List Int) (o : Nat) : Int := (List.range 8).foldl (fun a i => ior .u64 (ishl .u64 a 8) (IntKind.u64.wrap (b.getD (o + i) 0))) 0
/-- A polynomial's block. -/
def blkP (h t : Int) : List Int := (List.range 8).map (fun i => IntKind.u8.wrap (ishr .u64 h (((56 - 8 * i : Nat) : Int)))) ++ (List.range 8).map (fun i => IntKind.u8.wrap (ishr .u64 t (((56 - 8 * i : Nat) : Int))))
end Go.Gc
namespace Go.Proofs.Ytfmgodgakndjcaa
open Go.Ev Go.Sh Go.As Go.Gc
set_option maxRecDepth 100000
def muTs : List Nat := [3, 4, 5, 7, 13, 14, 17]
def muV (s : MuF) : List AV := [.ptr false 3 0, .ptr false 4 0, .ptr false 5 0, .int true .u64 s.s.bits, .agg [.int true .u64 s.ph, .int true .u64 s.pt], .int false .i64 s.o, .int true .i64 s.i]
def muM (s : MuF) : Mem := [none, none, some ⟨true, .vals [.int true .u64 s.a, .int true .u64 s.b]⟩, some ⟨true, .vals [.int true .u64 s.s.qh, .int true .u64 s.s.qt]⟩, some ⟨true, .vals [.int false .u64 0, .int false .u64 0]⟩, some ⟨true, .vals [.int s.z .u64 s.s.sh, .int s.y .u64 s.s.st]⟩]
def muP : List AV → Mem → Option MuF
  | [.ptr false 3 0, .ptr false 4 0, .ptr false 5 0, .int true .u64 bits, .agg [.int true .u64 ph, .int true .u64 pt], .int false .i64 o, .int false .i64 i],
    [none, none, some ⟨true, .vals [.int true .u64 a, .int true .u64 b]⟩, some ⟨true, .vals [.int true .u64 qh, .int true .u64 qt]⟩, some ⟨true, .vals [.int false .u64 0, .int false .u64 0]⟩, some ⟨true, .vals [.int z .u64 sh, .int y .u64 st]⟩] =>
    some ⟨ph, pt, a, b, ⟨bits, qh, qt, sh, st⟩, z, y, o, i⟩
  | _, _ => none
def muO (s : MuF) : List Bool := [decide (s.i = 0)]
def muF (s : MuF) : List (Nat × AV) × Mem := ([(3, .ptr false 3 0), (4, .ptr false 4 0), (5, .ptr false 5 0), (13, .agg [.int true .u64 s.ph, .int true .u64 s.pt]), (14, .int false .i64 s.o)], muM { s with s := muN 64 s.s, z := true, y := true })
def muΛ (Λ : LoopH) : LoopH := famH 2 40 muTs muP muO muF Λ
theorem mu_t (x : Nat → AV) (s : MuF) : seesL muTs ((codeL Try.prog qP (deep Try.prog qP a0 100 3) (fun _ _ => none) 100 (lp (blk 2 (bodyOf Try.prog 80))) ⟨tmOf (ups x (zipU muTs (muV s))) 40, muM s⟩).go [true]) =
    some ([decide (s.i < 64)], 0, muV { s with s := mu1 s.s, z := true, y := true, i := IntKind.i64.wrap (s.i + 1) }, 40, muM { s with s := mu1 s.s, z := true, y := true, i := IntKind.i64.wrap (s.i + 1) }) := by
  obtain ⟨ph, pt, a, b, s, z, y, o, i⟩ := s
  cases z <;> cases y <;> kernel_rfl
theorem mu_f (x : Nat → AV) (s : MuF) : seesL muTs ((codeL Try.prog qP (deep Try.prog qP a0 100 3) (fun _ _ => none) 100 (lp (blk 2 (bodyOf Try.prog 80))) ⟨tmOf (ups x (zipU muTs (muV s))) 40, muM s⟩).go [false]) =
    some ([!decide (s.i < 64)], 4, muV s, 40, muM s) := by kernel_rfl
theorem mu_lok {Λ : LoopH} (hΛ : LOk Try.prog (bodyOf Try.prog 80) Λ) : LOk Try.prog (bodyOf Try.prog 80) (muΛ Λ) := by
  refine fam_ok (q := qP) (n := 100) muV muM (fun s0 s => ∃ j : Nat, j ≤ 64 ∧ s.ph = s0.ph ∧ s.pt = s0.pt ∧ s.a = s0.a ∧ s.b = s0.b ∧ s.o = s0.o ∧ s.s = muN j s0.s ∧ s.i = (j : Int) ∧ (0 < j → s.z = true ∧ s.y = true)) (fun s => 64 - s.i.toNat) mixed (a0_ok.deep (q := qP) mixed noCount 100 3) hΛ LOk.none (by kernel_rfl) (by kernel_rfl) (fun s => rfl) (fun s => rfl) (fun avs m s h ho => ?_) (fun s0 s hJ x => ?_)
  · unfold muP at h
    split at h
    · cases h
      have o1 := of_decide_eq_true (ho _ (List.mem_cons_self ..))
      exact ⟨_, .cons (.refl _) (.cons (.refl _) (.cons (.refl _) (.cons (.refl _) (.cons (.refl _) (.cons (.refl _) (.cons (.int _ _ _) .nil)))))), rfl, 0, by omega, rfl, rfl, rfl, rfl, rfl, rfl, o1, fun h => by omega⟩
    · cases h
  · obtain ⟨j, hj, e1, e2, e3, e4, e5, e6, e7, e8⟩ := hJ
    obtain ⟨ph, pt, a, b, s, z, y, o, i⟩ := s
    simp only at e1 e2 e3 e4 e5 e6 e7 e8
    subst e1 e2 e3 e4 e5 e6 e7
    by_cases hend : j = 64
    · subst hend
      obtain ⟨rfl, rfl⟩ := e8 (by omega)
      refine Round.out (mu_f x _) rfl rfl (paid_cons (by simp) Paid.nil) fun p hp => ?_
      simp only [muF, List.mem_cons, List.not_mem_nil, or_false] at hp
      rcases hp with rfl | rfl | rfl | rfl | rfl
      · exact ⟨_, by simp [muTs, muV, zipU], Le1.refl _⟩
      · exact ⟨_, by simp [muTs, muV, zipU], Le1.refl _⟩
      · exact ⟨_, by simp [muTs, muV, zipU], Le1.refl _⟩
      · exact ⟨.agg [.int true .u64 s0.ph, .int true .u64 s0.pt], by simp [muTs, muV, zipU], Le1.refl _⟩
      · exact ⟨.int false .i64 s0.o, by simp [muTs, muV, zipU], Le1.refl _⟩
    · have hw : IntKind.i64.wrap ((j : Int) + 1) = ((j + 1 : Nat) : Int) := by
        unfold IntKind.wrap; simp [IntKind.bits, IntKind.signed]; omega
      refine Round.on (mu_t x _) ⟨s0.ph, s0.pt, s0.a, s0.b, muN (j + 1) s0.s, true, true, s0.o, ((j + 1 : Nat) : Int)⟩ [] ?_ (paid_cons (decide_eq_true (by simp only; omega)) Paid.nil) ?_ ⟨j + 1, by omega, rfl, rfl, rfl, rfl, rfl, rfl, rfl, fun _ => ⟨rfl, rfl⟩⟩ rfl (by simp only; omega)
      · simp only [hw]
        rw [List.append_nil]
        rfl
      · simp only [hw]; exact LeL.refl _
-- contracts
theorem of_eval (b : List Int) : res (funcA Try.prog qP a0 100 76 (cArgs 0 [.pl (.ints .u8 16 b)]) (cMem [.pl (.ints .u8 16 b)])) = some ([], .agg [.int true .u64 (rd8 b 0), .int true .u64 (rd8 b 8)]) := by kernel_rfl
end Go.Proofs.Ytfmgodgakndjcaa
namespace Go.Gc
open Go.Ev Go.Sh
theorem mk2 {ρ : Nat → Loc3} {N : Nat → Prop} {s t : Bool} {k : IntKind} {a b : Int} {v : Value} (h : Rep ρ N (.agg [.int s k a, .int t k b]) v) : Rep ρ N (.agg [.int true k a, .int true k b]) v := by
  cases h with
  | agg _ vs h =>
    cases h with
    | cons _ _ _ _ h1 hs =>
      cases hs with
      | cons _ _ _ _ h2 hn =>
        cases hn
        cases h1 with
        | int _ _ _ r1 => cases h2 with
          | int _ _ _ r2 => exact .agg _ _ (.cons _ _ _ _ (.int _ _ _ r1) (.cons _ _ _ _ (.int _ _ _ r2) .nil))
structure AbS where
  n : Nat
  l : List Int
  o : Nat
  k : Nat
  ph : Int
  pt : Int
  qh : Int
  qt : Int
def Z16 : List Int := List.replicate 16 0
/-- A text's block from a place on, filled up with zeros; k bytes are left. -/
def blkT (l : List Int) (o k : Nat) : List Int := Z16.take 0 ++ ((l.drop o).take k).take (Nat.min k 16) ++ Z16.drop (0 + Nat.min k 16)
def mulX (h : Int × Int) (p : Int × Int) (b : List Int) : Int × Int := ((mulW (ixor .u64 p.1 (rd8 b 0)) (ixor .u64 p.2 (rd8 b 8)) h.1 h.2).sh, (mulW (ixor .u64 p.1 (rd8 b 0)) (ixor .u64 p.2 (rd8 b 8)) h.1 h.2).st)
/-- After j blocks. -/
def absN (l : List Int) (n : Nat) (h p : Int × Int) : Nat → Int × Int
  | 0 => p
  | j + 1 => mulX h (absN l n h p j) (blkT l (16 * j) (n - 16 * j))
def absW (l : List Int) (n : Nat) (h p : Int × Int) : Int × Int := absN l n h p ((n + 15) / 16)
theorem marked {ρ : Nat → Loc3} {N : Nat → Prop} {s : Bool} (t : Bool) {n o len e : Nat} {v : Value} (h : Rep ρ N (.slice s n o len none e) v) : Rep ρ N (.slice t n o len none e) v := by
  cases h with
  | slice _ _ _ _ _ _ c ad hn hc hl hw had => exact .slice t _ _ _ _ _ c ad hn hc hl hw had
end Go.Gc
namespace Go.Proofs.Ytfmgodgakndjcaa
open Go.Ev Go.Sh Go.As Go.Gc
set_option maxRecDepth 100000
def mulSK : List V → E (AV × Mem)
  | [.pl (.agg [.int _ .u64 ph, .int _ .u64 pt]), .pl (.agg [.int _ .u64 qh, .int _ .u64 qt])] => some ([], (.agg [.int true .u64 (mulW ph pt qh qt).sh, .int true .u64 (mulW ph pt qh qt).st], []))
  | _ => none
theorem mul_okK {xs : List V} {o : List Bool} {v : AV} {bs : Mem} (h : mulSK xs = some (o, (v, bs))) : ViewCall Try.prog 80 xs v bs := by
  unfold mulSK at h
  split at h
  · rename_i s1 ph s2 pt s3 qh s4 qt
    cases h
    intro ρ vs w ha hi
    cases ha with
    | cons _ _ u us h1 hs =>
    cases hs with
    | cons _ _ u2 us2 h2 hn =>
    cases hn
    have ev : res (funcL Try.prog qP (deep Try.prog qP a0 100 3) (muΛ fun _ _ => none) 100 80 (cArgs 0 [.pl (.agg [.int true .u64 ph, .int true .u64 pt]), .pl (.agg [.int true .u64 qh, .int true .u64 qt])]) (cMem [.pl (.agg [.int true .u64 ph, .int true .u64 pt]), .pl (.agg [.int true .u64 qh, .int true .u64 qt])])) =
      some ([decide ((0 : Int) = 0), decide ((0 : Int) = 0)], .agg [.int true .u64 (mulW ph pt qh qt).sh, .int true .u64 (mulW ph pt qh qt).st]) := by kernel_rfl
    exact view_of_resL mixed noCount (a0_ok.deep mixed noCount 100 3) (fun fn c hf hb => by rw [bodyOf_eq hf hb]; exact mu_lok LOk.none) ev (paid_cons rfl (paid_cons rfl Paid.nil)) rfl rfl (.cons _ _ _ _ (mk2 h1) (.cons _ _ _ _ (mk2 h2) .nil)) hi
  · cases h
def ofS : List V → E (AV × Mem)
  | [.pl (.ints .u8 16 b)] => some ([], (.agg [.int true .u64 (rd8 b 0), .int true .u64 (rd8 b 8)], []))
  | _ => none
theorem of_ok {xs : List V} {o : List Bool} {v : AV} {bs : Mem} (h : ofS xs = some (o, (v, bs))) : ViewCall Try.prog 76 xs v bs := by
  unfold ofS at h
  split at h
  · rename_i b
    cases h
    exact @view_of_res _ _ _ _ mixed noCount a0_ok _ _ _ _ _ _ (of_eval b) Paid.nil rfl rfl
  · cases h
def hg1 : CallH := withV 80 mulSK (withV 76 ofS ha5)
theorem hg1_ok : HOk Try.prog hg1 := (ha5_ok.withV fun _ _ _ _ h _ => of_ok h).withV fun _ _ _ _ h _ => mul_okK h
def abTs : List Nat := [1, 3, 5, 6]
def abV (s : AbS) : List AV := [.slice true 1 s.o s.k none 1, .ptr false 3 0, .ptr false 4 0, .ptr false 5 0]
def abM (s : AbS) : Mem := [none, some ⟨false, .ints .u8 (some s.n) s.l⟩, none, some ⟨true, .vals [.int true .u64 s.ph, .int true .u64 s.pt]⟩, some ⟨true, .vals [.int true .u64 s.qh, .int true .u64 s.qt]⟩, some ⟨true, .vals [.int false .u64 0, .int false .u64 0]⟩]
def abNx (s : AbS) : AbS := { s with o := s.o + Nat.min s.k 16 * 1, k := s.k - Nat.min s.k 16, ph := (mulX (s.qh, s.qt) (s.ph, s.pt) (blkT s.l s.o s.k)).1, pt := (mulX (s.qh, s.qt) (s.ph, s.pt) (blkT s.l s.o s.k)).2 }
theorem ab_t (x : Nat → AV) (s : AbS) : seesL abTs ((codeL Try.prog qP (deep Try.prog qP hg1 100 3) (fun _ _ => none) 100 (lp (blk 0 (bodyOf Try.prog 77))) ⟨tmOf (ups x (zipU abTs (abV s))) 25, abM s⟩).go [true]) =
    some ([decide (s.k < 9223372036854775808), decide ((s.k : Int) > 0), decide (s.o + s.k ≤ s.n), decide (0 + 0 * 1 + Nat.min s.k 16 ≤ 16), decide ((0 : Int) ≤ ((Nat.min s.k 16 : Nat) : Int)) && decide (((Nat.min s.k 16 : Nat) : Int) ≤ (s.k : Int))], 0, abV (abNx s), 25, abM (abNx s) ++ [some ⟨true, .ints .u8 (some 16) (blkT s.l s.o s.k)⟩]) := by kernel_rfl
theorem ab_f (x : Nat → AV) (s : AbS) : seesL abTs ((codeL Try.prog qP (deep Try.prog qP hg1 100 3) (fun _ _ => none) 100 (lp (blk 0 (bodyOf Try.prog 77))) ⟨tmOf (ups x (zipU abTs (abV s))) 25, abM s⟩).go [false]) =
    some ([decide (s.k < 9223372036854775808), !decide ((s.k : Int) > 0)], 2, abV s, 25, abM s) := by kernel_rfl
def abP : List AV → Mem → Option AbS
  | [.slice true 1 o k none 1, .ptr false 3 0, .ptr false 4 0, .ptr false 5 0], [none, some ⟨false, .ints .u8 (some n) l⟩, none, some ⟨true, .vals [.int true .u64 ph, .int true .u64 pt]⟩, some ⟨true, .vals [.int true .u64 qh, .int true .u64 qt]⟩, some ⟨true, .vals [.int false .u64 0, .int false .u64 0]⟩] =>
    some ⟨n, l, o, k, ph, pt, qh, qt⟩
  | _, _ => none
def abO (s : AbS) : List Bool := [decide (s.o = 0), decide (s.k = s.n), decide (s.n < 9223372036854775808)]
def abF (s : AbS) : List (Nat × AV) × Mem := ([(3, .ptr false 3 0), (6, .ptr false 5 0)], abM { s with ph := (absW s.l s.n (s.qh, s.qt) (s.ph, s.pt)).1, pt := (absW s.l s.n (s.qh, s.qt) (s.ph, s.pt)).2 })
def abΛ (Λ : LoopH) : LoopH := famH 0 25 abTs abP abO abF Λ
theorem ab_lok {Λ : LoopH} (hΛ : LOk Try.prog (bodyOf Try.prog 77) Λ) : LOk Try.prog (bodyOf Try.prog 77) (abΛ Λ) := by
  refine fam_ok (q := qP) (n := 100) abV abM (fun s0 s => ∃ j : Nat, j ≤ (s0.n + 15) / 16 ∧ s0.n < 9223372036854775808 ∧ s.n = s0.n ∧ s.l = s0.l ∧ s.qh = s0.qh ∧ s.qt = s0.qt ∧ s.o = min (16 * j) s0.n ∧ s.k = s0.n - min (16 * j) s0.n ∧ (s.ph, s.pt) = absN s0.l s0.n (s0.qh, s0.qt) (s0.ph, s0.pt) j) (fun s => s.k) mixed (hg1_ok.deep (q := qP) mixed noCount 100 3) hΛ LOk.none (by kernel_rfl) (by kernel_rfl) (fun s => rfl) (fun s => rfl) (fun avs m s h ho => ?_) (fun s0 s hJ x => ?_)
  · unfold abP at h
    split at h
    · cases h
      have o1 := of_decide_eq_true (ho _ (List.mem_cons_self ..))
      have o2 := of_decide_eq_true (ho _ (List.mem_cons_of_mem _ (List.mem_cons_self ..)))
      have o3 := of_decide_eq_true (ho _ (List.mem_cons_of_mem _ (List.mem_cons_of_mem _ (List.mem_cons_self ..))))
      simp only at o1 o2 o3
      exact ⟨_, .cons (.refl _) (.cons (.refl _) (.cons (.refl _) (.cons (.refl _) .nil))), rfl, 0, by omega, o3, rfl, rfl, rfl, rfl, by simp only; omega, by simp only; omega, rfl⟩
    · cases h
  · obtain ⟨j, hj, hn, e1, e2, e3, e4, e5, e6, e7⟩ := hJ
    obtain ⟨n, l, o, k, ph, pt, qh, qt⟩ := s
    simp only at e1 e2 e3 e4 e5 e6 e7
    subst e1 e2 e3 e4
    by_cases hend : j = (s0.n + 15) / 16
    · have hk : k = 0 := by omega
      subst hk
      refine Round.out (ab_f x _) rfl ?_ (paid_cons (by simp) (paid_cons (by simp) Paid.nil)) fun p hp => ?_
      · simp only [abF, absW, ← hend, ← e7]
        rfl
      · simp only [abF, List.mem_cons, List.not_mem_nil, or_false] at hp
        rcases hp with rfl | rfl
        · exact ⟨_, by simp [abTs, abV, zipU], Le1.refl _⟩
        · exact ⟨_, by simp [abTs, abV, zipU], Le1.refl _⟩
    · have h1 : 16 * j < s0.n := by omega
      have ho : o = 16 * j := by omega
      have hk : k = s0.n - 16 * j := by omega
      clear e5 e6
      subst ho hk
      have hc : Nat.min (s0.n - 16 * j) 16 ≤ s0.n - 16 * j := Nat.min_le_left _ _
      have hc2 : Nat.min (s0.n - 16 * j) 16 ≤ 16 := Nat.min_le_right _ _
      have hc3 : Nat.min (s0.n - 16 * j) 16 = if s0.n - 16 * j ≤ 16 then s0.n - 16 * j else 16 := Nat.min_def ..
      refine Round.on (ab_t x _) (abNx ⟨s0.n, s0.l, 16 * j, s0.n - 16 * j, ph, pt, s0.qh, s0.qt⟩) [some ⟨true, .ints .u8 (some 16) (blkT s0.l (16 * j) (s0.n - 16 * j))⟩] rfl
        (paid_cons (decide_eq_true (by simp only; omega)) (paid_cons (decide_eq_true (by simp only; omega)) (paid_cons (decide_eq_true (by simp only; omega)) (paid_cons (decide_eq_true (by simp only; omega)) (paid_cons (by simp only [Bool.and_eq_true, decide_eq_true_eq]; omega) Paid.nil)))))
        (LeL.refl _) ⟨j + 1, by omega, hn, rfl, rfl, rfl, rfl, ?_, ?_, ?_⟩ rfl ?_
      · simp only [abNx]; split at hc3 <;> omega
      · simp only [abNx]; split at hc3 <;> omega
      · simp only [abNx, absN, ← e7]
      · simp only [abNx]; split at hc3 <;> omega
def abArgs (ph pt : Int) (t : V) (qh qt : Int) : List V := [.pl (.agg [.int true .u64 ph, .int true .u64 pt]), t, .pl (.agg [.int true .u64 qh, .int true .u64 qt])]
theorem abs_buf (ph pt qh qt : Int) (n : Nat) (l : List Int) : res (funcL Try.prog qP (deep Try.prog qP hg1 100 3) (abΛ fun _ _ => none) 100 77 (cArgs 0 (abArgs ph pt (.buf true .u8 n l) qh qt)) (cMem (abArgs ph pt (.buf true .u8 n l) qh qt))) =
    some ([true, decide (n = n), decide (n < 9223372036854775808)], .agg [.int true .u64 (absW l n (qh, qt) (ph, pt)).1, .int true .u64 (absW l n (qh, qt) (ph, pt)).2]) := by kernel_rfl
theorem abs_nil (ph pt qh qt : Int) : res (funcL Try.prog qP (deep Try.prog qP hg1 100 3) (abΛ fun _ _ => none) 100 77 (cArgs 0 (abArgs ph pt (.pl .nilslice) qh qt)) (cMem (abArgs ph pt (.pl .nilslice) qh qt))) =
    some ([], .agg [.int true .u64 ph, .int true .u64 pt]) := by kernel_rfl
theorem abs_emp (ph pt qh qt : Int) : res (funcL Try.prog qP (deep Try.prog qP hg1 100 3) (abΛ fun _ _ => none) 100 77 (cArgs 0 (abArgs ph pt .empty qh qt)) (cMem (abArgs ph pt .empty qh qt))) =
    some ([], .agg [.int true .u64 ph, .int true .u64 pt]) := by kernel_rfl
def absS : List V → E (AV × Mem)
  | [.pl (.agg [.int _ .u64 ph, .int _ .u64 pt]), .buf _ .u8 n l, .pl (.agg [.int _ .u64 qh, .int _ .u64 qt])] => some ([decide (n < 9223372036854775808)], (.agg [.int true .u64 (absW l n (qh, qt) (ph, pt)).1, .int true .u64 (absW l n (qh, qt) (ph, pt)).2], []))
  | [.pl (.agg [.int _ .u64 ph, .int _ .u64 pt]), .pl .nilslice, .pl (.agg [.int _ .u64 _, .int _ .u64 _])] => some ([], (.agg [.int true .u64 ph, .int true .u64 pt], []))
  | [.pl (.agg [.int _ .u64 ph, .int _ .u64 pt]), .empty, .pl (.agg [.int _ .u64 _, .int _ .u64 _])] => some ([], (.agg [.int true .u64 ph, .int true .u64 pt], []))
  | _ => none
theorem abs_ok {xs : List V} {o : List Bool} {v : AV} {bs : Mem} (h : absS xs = some (o, (v, bs))) (ho : Paid o) : ViewCall Try.prog 77 xs v bs := by
  unfold absS at h
  split at h
  · rename_i s1 ph s2 pt s5 n l s3 qh s4 qt
    cases h
    have o1 := of_decide_eq_true (ho _ (List.mem_cons_self ..))
    intro ρ vs w ha hi
    cases ha with
    | cons _ _ u us h1 hs =>
    cases hs with
    | cons _ _ u2 us2 h2 hs =>
    cases hs with
    | cons _ _ u3 us3 h3 hn =>
    cases hn
    exact view_of_resL mixed noCount (hg1_ok.deep mixed noCount 100 3) (fun fn c hf hb => by rw [bodyOf_eq hf hb]; exact ab_lok LOk.none) (abs_buf ph pt qh qt n l) (paid_cons rfl (paid_cons (decide_eq_true rfl) (paid_cons (decide_eq_true o1) Paid.nil))) rfl rfl (.cons _ _ _ _ (mk2 h1) (.cons _ _ _ _ (marked true h2) (.cons _ _ _ _ (mk2 h3) .nil))) hi
  · rename_i s1 ph s2 pt s3 qh s4 qt
    cases h
    intro ρ vs w ha hi
    cases ha with
    | cons _ _ u us h1 hs =>
    cases hs with
    | cons _ _ u2 us2 h2 hs =>
    cases hs with
    | cons _ _ u3 us3 h3 hn =>
    cases hn
    exact view_of_resL mixed noCount (hg1_ok.deep mixed noCount 100 3) (fun fn c hf hb => by rw [bodyOf_eq hf hb]; exact ab_lok LOk.none) (abs_nil ph pt qh qt) Paid.nil rfl rfl (.cons _ _ _ _ (mk2 h1) (.cons _ _ _ _ h2 (.cons _ _ _ _ (mk2 h3) .nil))) hi
  · rename_i s1 ph s2 pt s3 qh s4 qt
    cases h
    intro ρ vs w ha hi
    cases ha with
    | cons _ _ u us h1 hs =>
    cases hs with
    | cons _ _ u2 us2 h2 hs =>
    cases hs with
    | cons _ _ u3 us3 h3 hn =>
    cases hn
    exact view_of_resL mixed noCount (hg1_ok.deep mixed noCount 100 3) (fun fn c hf hb => by rw [bodyOf_eq hf hb]; exact ab_lok LOk.none) (abs_emp ph pt qh qt) Paid.nil rfl rfl (.cons _ _ _ _ (mk2 h1) (.cons _ _ _ _ h2 (.cons _ _ _ _ (mk2 h3) .nil))) hi
  · cases h
def hg2 : CallH := withV 77 absS hg1
theorem hg2_ok : HOk Try.prog hg2 := hg1_ok.withV fun _ _ _ _ h ho => abs_ok h ho
end Go.Proofs.Ytfmgodgakndjcaa
namespace Go.Gc
open Go.Ev Go.Sh
def lenW (n : Nat) : Int := IntKind.u64.wrap (8 * IntKind.u64.wrap (n : Int))
def keyG (h : List Int) : Int × Int := (rd8 h 0, rd8 h 8)
def mulX0 (h p : Int × Int) (a b : Int) : Int × Int := ((mulW (ixor .u64 p.1 a) (ixor .u64 p.2 b) h.1 h.2).sh, (mulW (ixor .u64 p.1 a) (ixor .u64 p.2 b) h.1 h.2).st)
/-- The hash of two texts of n and m bytes. -/
def hashG (h l : List Int) (n : Nat) (q : List Int) (m : Nat) : List Int :=
  blkP (mulX0 (keyG h) (absW q m (keyG h) (absW l n (keyG h) (0, 0))) (lenW n) (lenW m)).1 (mulX0 (keyG h) (absW q m (keyG h) (absW l n (keyG h) (0, 0))) (lenW n) (lenW m)).2
def txt : V → Option (List Bool × Nat × List Int)
  | .buf _ .u8 n l => some ([decide (n < 9223372036854775808)], n, l)
  | .pl .nilslice => some ([], 0, [])
  | .empty => some ([], 0, [])
  | _ => none
end Go.Gc
namespace Go.Proofs.Ytfmgodgakndjcaa
open Go.Ev Go.Sh Go.As Go.Gc
set_option maxRecDepth 100000
theorem hash_bufbuf (h : List Int) (n : Nat) (l : List Int) (m : Nat) (q : List Int) : res (funcA Try.prog qP (deep Try.prog qP hg2 100 3) 100 61 (cArgs 0 [.pl (.ints .u8 16 h), .buf true .u8 n l, .buf true .u8 m q]) (cMem [.pl (.ints .u8 16 h), .buf true .u8 n l, .buf true .u8 m q])) = some ([decide (0 + n ≤ n), decide (n < 9223372036854775808), decide (0 + m ≤ m), decide (m < 9223372036854775808), decide (n < 9223372036854775808), decide (m < 9223372036854775808)], .ints .u8 16 (hashG h ((l.drop 0).take n) n ((q.drop 0).take m) m)) := by kernel_rfl
theorem hash_bufnil (h : List Int) (n : Nat) (l : List Int) : res (funcA Try.prog qP (deep Try.prog qP hg2 100 3) 100 61 (cArgs 0 [.pl (.ints .u8 16 h), .buf true .u8 n l, .pl .nilslice]) (cMem [.pl (.ints .u8 16 h), .buf true .u8 n l, .pl .nilslice])) = some ([decide (0 + n ≤ n), decide (n < 9223372036854775808), decide (n < 9223372036854775808)], .ints .u8 16 (hashG h ((l.drop 0).take n) n [] 0)) := by kernel_rfl
theorem hash_bufemp (h : List Int) (n : Nat) (l : List Int) : res (funcA Try.prog qP (deep Try.prog qP hg2 100 3) 100 61 (cArgs 0 [.pl (.ints .u8 16 h), .buf true .u8 n l, .empty]) (cMem [.pl (.ints .u8 16 h), .buf true .u8 n l, .empty])) = some ([decide (0 + n ≤ n), decide (n < 9223372036854775808), decide (n < 9223372036854775808)], .ints .u8 16 (hashG h ((l.drop 0).take n) n [] 0)) := by kernel_rfl
theorem hash_nilbuf (h : List Int) (m : Nat) (q : List Int) : res (funcA Try.prog qP (deep Try.prog qP hg2 100 3) 100 61 (cArgs 0 [.pl (.ints .u8 16 h), .pl .nilslice, .buf true .u8 m q]) (cMem [.pl (.ints .u8 16 h), .pl .nilslice, .buf true .u8 m q])) = some ([decide (0 + m ≤ m), decide (m < 9223372036854775808), decide (m < 9223372036854775808)], .ints .u8 16 (hashG h [] 0 ((q.drop 0).take m) m)) := by kernel_rfl
theorem hash_nilnil (h : List Int) : res (funcA Try.prog qP (deep Try.prog qP hg2 100 3) 100 61 (cArgs 0 [.pl (.ints .u8 16 h), .pl .nilslice, .pl .nilslice]) (cMem [.pl (.ints .u8 16 h), .pl .nilslice, .pl .nilslice])) = some ([], .ints .u8 16 (hashG h [] 0 [] 0)) := by kernel_rfl
theorem hash_nilemp (h : List Int) : res (funcA Try.prog qP (deep Try.prog qP hg2 100 3) 100 61 (cArgs 0 [.pl (.ints .u8 16 h), .pl .nilslice, .empty]) (cMem [.pl (.ints .u8 16 h), .pl .nilslice, .empty])) = some ([], .ints .u8 16 (hashG h [] 0 [] 0)) := by kernel_rfl
theorem hash_empbuf (h : List Int) (m : Nat) (q : List Int) : res (funcA Try.prog qP (deep Try.prog qP hg2 100 3) 100 61 (cArgs 0 [.pl (.ints .u8 16 h), .empty, .buf true .u8 m q]) (cMem [.pl (.ints .u8 16 h), .empty, .buf true .u8 m q])) = some ([decide (0 + m ≤ m), decide (m < 9223372036854775808), decide (m < 9223372036854775808)], .ints .u8 16 (hashG h [] 0 ((q.drop 0).take m) m)) := by kernel_rfl
theorem hash_empnil (h : List Int) : res (funcA Try.prog qP (deep Try.prog qP hg2 100 3) 100 61 (cArgs 0 [.pl (.ints .u8 16 h), .empty, .pl .nilslice]) (cMem [.pl (.ints .u8 16 h), .empty, .pl .nilslice])) = some ([], .ints .u8 16 (hashG h [] 0 [] 0)) := by kernel_rfl
theorem hash_empemp (h : List Int) : res (funcA Try.prog qP (deep Try.prog qP hg2 100 3) 100 61 (cArgs 0 [.pl (.ints .u8 16 h), .empty, .empty]) (cMem [.pl (.ints .u8 16 h), .empty, .empty])) = some ([], .ints .u8 16 (hashG h [] 0 [] 0)) := by kernel_rfl
def hashS : List V → E (AV × Mem)
  | [.pl (.ints .u8 16 h), x, y] => match txt x, txt y with
    | some (o, n, l), some (p, m, q) => some (o ++ p, (.ints .u8 16 (hashG h l n q m), []))
    | _, _ => none
  | _ => none
theorem txt_cases {x : V} {o : List Bool} {n : Nat} {l : List Int} (h : txt x = some (o, n, l)) : (∃ s, x = .buf s .u8 n l ∧ o = [decide (n < 9223372036854775808)]) ∨ (x = .pl .nilslice ∧ o = [] ∧ n = 0 ∧ l = []) ∨ (x = .empty ∧ o = [] ∧ n = 0 ∧ l = []) := by
  unfold txt at h
  split at h
  · cases h; exact Or.inl ⟨_, rfl, rfl⟩
  · cases h; exact Or.inr (Or.inl ⟨rfl, rfl, rfl, rfl⟩)
  · cases h; exact Or.inr (Or.inr ⟨rfl, rfl, rfl, rfl⟩)
  · cases h
theorem buf_len {xs : List V} {i : Nat} {s : Bool} {n : Nat} {l : List Int} {ρ : Nat → Loc3} {S N : Nat → Prop} {w w0 : World} (hi : Inv w0 S N ρ (getName (cMem xs)) w) (hx : xs[i]? = some (.buf s .u8 n l)) : l.length = n ∧ (l.drop 0).take n = l := by
  obtain ⟨cs2, t2, lo2, hi2, c1, c2, c3, c4, c5⟩ := (hi.sim.blk i _ (cMem_get hx rfl)).ex
  have h : l.length = n := c5.1 _ rfl
  exact ⟨h, by rw [List.drop_zero, List.take_of_length_le (by omega)]⟩
theorem hash_ok {xs : List V} {o : List Bool} {v : AV} {bs : Mem} (h : hashS xs = some (o, (v, bs))) (ho : Paid o) : ViewCall Try.prog 61 xs v bs := by
  unfold hashS at h
  split at h
  · rename_i h0 x y
    split at h
    · rename_i o1 n l o2 m q h1 h2
      cases h
      obtain ⟨p1, p2⟩ := paid_append.1 ho
      intro ρ vs w ha hi
      cases ha with
      | cons _ _ u us a1 hs =>
      cases hs with
      | cons _ _ u2 us2 a2 hs =>
      cases hs with
      | cons _ _ u3 us3 a3 hn =>
      cases hn
      rcases txt_cases h1 with ⟨s, rfl, rfl⟩ | ⟨rfl, rfl, rfl, rfl⟩ | ⟨rfl, rfl, rfl, rfl⟩ <;> rcases txt_cases h2 with ⟨s2, rfl, rfl⟩ | ⟨rfl, rfl, rfl, rfl⟩ | ⟨rfl, rfl, rfl, rfl⟩
      · obtain ⟨e1, e2⟩ := buf_len hi (i := 1) rfl
        have d1 := p1 _ (List.mem_cons_self ..)
        have z1 : decide (0 + n ≤ n) = true := decide_eq_true (by omega)
        obtain ⟨e3, e4⟩ := buf_len hi (i := 2) rfl
        have d2 := p2 _ (List.mem_cons_self ..)
        have z2 : decide (0 + m ≤ m) = true := decide_eq_true (by omega)
        have ev := hash_bufbuf h0 n l m q
        rw [e2, e4] at ev
        exact view_of_res mixed noCount (hg2_ok.deep mixed noCount 100 3) ev (paid_cons z1 (paid_cons d1 (paid_cons z2 (paid_cons d2 (paid_cons d1 (paid_cons d2 Paid.nil)))))) rfl rfl (.cons _ _ _ _ a1 (.cons _ _ _ _ (marked true a2) (.cons _ _ _ _ (marked true a3) .nil))) hi
      · obtain ⟨e1, e2⟩ := buf_len hi (i := 1) rfl
        have d1 := p1 _ (List.mem_cons_self ..)
        have z1 : decide (0 + n ≤ n) = true := decide_eq_true (by omega)
        have ev := hash_bufnil h0 n l
        rw [e2] at ev
        exact view_of_res mixed noCount (hg2_ok.deep mixed noCount 100 3) ev (paid_cons z1 (paid_cons d1 (paid_cons d1 Paid.nil))) rfl rfl (.cons _ _ _ _ a1 (.cons _ _ _ _ (marked true a2) (.cons _ _ _ _ a3 .nil))) hi
      · obtain ⟨e1, e2⟩ := buf_len hi (i := 1) rfl
        have d1 := p1 _ (List.mem_cons_self ..)
        have z1 : decide (0 + n ≤ n) = true := decide_eq_true (by omega)
        have ev := hash_bufemp h0 n l
        rw [e2] at ev
        exact view_of_res mixed noCount (hg2_ok.deep mixed noCount 100 3) ev (paid_cons z1 (paid_cons d1 (paid_cons d1 Paid.nil))) rfl rfl (.cons _ _ _ _ a1 (.cons _ _ _ _ (marked true a2) (.cons _ _ _ _ a3 .nil))) hi
      · obtain ⟨e3, e4⟩ := buf_len hi (i := 2) rfl
        have d2 := p2 _ (List.mem_cons_self ..)
        have z2 : decide (0 + m ≤ m) = true := decide_eq_true (by omega)
        have ev := hash_nilbuf h0 m q
        rw [e4] at ev
        exact view_of_res mixed noCount (hg2_ok.deep mixed noCount 100 3) ev (paid_cons z2 (paid_cons d2 (paid_cons d2 Paid.nil))) rfl rfl (.cons _ _ _ _ a1 (.cons _ _ _ _ a2 (.cons _ _ _ _ (marked true a3) .nil))) hi
      · have ev := hash_nilnil h0
        exact view_of_res mixed noCount (hg2_ok.deep mixed noCount 100 3) ev Paid.nil rfl rfl (.cons _ _ _ _ a1 (.cons _ _ _ _ a2 (.cons _ _ _ _ a3 .nil))) hi
      · have ev := hash_nilemp h0
        exact view_of_res mixed noCount (hg2_ok.deep mixed noCount 100 3) ev Paid.nil rfl rfl (.cons _ _ _ _ a1 (.cons _ _ _ _ a2 (.cons _ _ _ _ a3 .nil))) hi
      · obtain ⟨e3, e4⟩ := buf_len hi (i := 2) rfl
        have d2 := p2 _ (List.mem_cons_self ..)
        have z2 : decide (0 + m ≤ m) = true := decide_eq_true (by omega)
        have ev := hash_empbuf h0 m q
        rw [e4] at ev
        exact view_of_res mixed noCount (hg2_ok.deep mixed noCount 100 3) ev (paid_cons z2 (paid_cons d2 (paid_cons d2 Paid.nil))) rfl rfl (.cons _ _ _ _ a1 (.cons _ _ _ _ a2 (.cons _ _ _ _ (marked true a3) .nil))) hi
      · have ev := hash_empnil h0
        exact view_of_res mixed noCount (hg2_ok.deep mixed noCount 100 3) ev Paid.nil rfl rfl (.cons _ _ _ _ a1 (.cons _ _ _ _ a2 (.cons _ _ _ _ a3 .nil))) hi
      · have ev := hash_empemp h0
        exact view_of_res mixed noCount (hg2_ok.deep mixed noCount 100 3) ev Paid.nil rfl rfl (.cons _ _ _ _ a1 (.cons _ _ _ _ a2 (.cons _ _ _ _ a3 .nil))) hi
    · cases h
  · cases h
def hg3 : CallH := withV 61 hashS hg2
theorem hg3_ok : HOk Try.prog hg3 := hg2_ok.withV fun _ _ _ _ h ho => hash_ok h ho
end Go.Proofs.Ytfmgodgakndjcaa
