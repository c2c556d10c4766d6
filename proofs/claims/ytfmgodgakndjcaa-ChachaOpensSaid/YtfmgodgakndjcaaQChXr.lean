/- The reference's Xor: its loops as families, its contract. Own work. -/
import Derived.Test.YtfmgodgakndjcaaQEvPre
set_option linter.unusedSimpArgs false
set_option linter.unusedVariables false
set_option linter.unusedSectionVars false
namespace Go.Ev
theorem goes_mem {k0 : Nat} {pre m' rest : Mem} (hl : pre.length = k0) (hb : bndM k0 pre = true) (hp : Pulls id (pre ++ m') k0 rest) : Pulls id (pre ++ m') 0 (pre ++ rest) := by
  have := pulls_pre (g := id) (fun i _ => rfl) (m' := m') (rest := rest) pre [] (by simp; omega) hb (by simpa [hl] using hp)
  simpa using this
theorem goes_bnd {k0 : Nat} {pre rest : Mem} (hl : pre.length = k0) (hb : bndM k0 pre = true) (hr : bndM (k0 + rest.length) rest = true) : bndM (pre ++ rest).length (pre ++ rest) = true := by
  rw [List.length_append, hl, bndM_append, bndM_le (by omega) hb, hr]; rfl
end Go.Ev
namespace Go.Ch
open Go.Ev Go.Sh
structure XrS where
  k : List Int
  c : Int
  l : List Int
  n : Nat
  nb : Nat
  p : List Int
  e : Bool
  o : List Int
  b : List Int
  i : Int
  j : Int
def hiX (n : Nat) (i : Int) : Int := if (n : Int) < IntKind.i64.wrap (i + 64) then (n : Int) else IntKind.i64.wrap (i + 64)
def eX (n : Nat) (i : Int) : Nat := (hiX n i).toNat - i.toNat
def cvP (p c : List Int) (a t : Nat) : List Int := (List.range t).map fun q => ixor .u8 (p.getD (a + q) 0) (c.getD q 0)
theorem cvP_succ (p c : List Int) (a t : Nat) : cvP p c a (t + 1) = cvP p c a t ++ [ixor .u8 (p.getD (a + t) 0) (c.getD t 0)] := by unfold cvP; rw [List.range_succ, List.map_append]; rfl
/-- The text turned, after so many blocks. -/
def xoR (x : List Int) (c : Int) (p : List Int) (n : Nat) : Nat → List Int
  | 0 => []
  | a + 1 => xoR x c p n a ++ cvP p (mkB x c (a : Int)) (64 * a) (eX n ((64 * a : Nat) : Int))
theorem hiX_of (n a : Nat) (hn : n < 1000000000) (ha : a < n) : hiX n (a : Int) = ((a + eX n (a : Int) : Nat) : Int) := by
  have hw : IntKind.i64.wrap ((a : Int) + 64) = (a : Int) + 64 := by unfold IntKind.wrap; simp [IntKind.bits, IntKind.signed]; omega
  unfold eX hiX
  rw [hw]
  split <;> omega
theorem eX_of (n a : Nat) (hn : n < 1000000000) (ha : a < n) : 1 ≤ eX n (a : Int) ∧ eX n (a : Int) ≤ 64 ∧ a + eX n (a : Int) ≤ n ∧ (eX n (a : Int) = 64 ∨ a + eX n (a : Int) = n) := by
  have hw : IntKind.i64.wrap ((a : Int) + 64) = (a : Int) + 64 := by unfold IntKind.wrap; simp [IntKind.bits, IntKind.signed]; omega
  unfold eX hiX
  rw [hw]
  split <;> omega
theorem xoR_len (x : List Int) (c : Int) (p : List Int) {n : Nat} (hn : n < 1000000000) : ∀ a, a ≤ (n + 63) / 64 → (xoR x c p n a).length = min (64 * a) n
  | 0, _ => by simp [xoR]
  | a + 1, h => by
    have e := eX_of n (64 * a) hn (by omega)
    unfold xoR
    rw [List.length_append, xoR_len x c p hn a (by omega)]
    simp only [cvP, List.length_map, List.length_range]
    omega
theorem xoR_eq (x : List Int) (c : Int) (p : List Int) {n : Nat} (hn : n < 1000000000) : ∀ a, a ≤ (n + 63) / 64 → xoR x c p n a = cvL x c p (min (64 * a) n)
  | 0, _ => by simp [xoR, cvL]
  | a + 1, h => by
    have e := eX_of n (64 * a) hn (by omega)
    unfold xoR
    rw [xoR_eq x c p hn a (by omega)]
    have e1 : min (64 * a) n = 64 * a := by omega
    have e2 : min (64 * (a + 1)) n = 64 * a + eX n ((64 * a : Nat) : Int) := by omega
    rw [e1, e2]
    generalize hT : eX n ((64 * a : Nat) : Int) = T at e e2
    unfold cvL cvP
    rw [List.range_add, List.map_append, List.map_map]
    refine congrArg (fun z => List.map (cvx x c p) (List.range (64 * a)) ++ z) ?_
    refine List.map_congr_left fun q hq => ?_
    have hq' := List.mem_range.1 hq
    show _ = cvx _ _ _ (64 * a + q)
    unfold cvx
    rw [show (64 * a + q) / 64 = a by omega, show (64 * a + q) % 64 = q by omega]
def xiD (s : XrS) : List Bool := [decide (s.n < 9223372036854775808), decide (s.j < hiX s.n s.i), decide (0 ≤ s.j) && decide (s.j < (s.n : Int)), decide (0 + s.j.toNat * 1 + 1 ≤ s.nb), decide (0 ≤ IntKind.i64.wrap (s.j - s.i)) && decide (IntKind.i64.wrap (s.j - s.i) < ((64 : Nat) : Int)), decide (0 + (IntKind.i64.wrap (s.j - s.i)).toNat * 1 + 1 ≤ 64)]
def xiX (s : XrS) : Int := ixor .u8 (s.p.getD (0 + s.j.toNat * 1) 0) (s.b.getD (0 + (IntKind.i64.wrap (s.j - s.i)).toNat * 1) 0)
def plJ : V → Option Int
  | .pl (.int _ .u32 c) => some c
  | _ => none
theorem plJ_ok {x : V} {c : Int} (h : plJ x = some c) : ∃ s, x = .pl (.int s .u32 c) := by unfold plJ at h; split at h <;> cases h; exact ⟨_, rfl⟩
end Go.Ch
namespace Go.Proofs.Ytfmgodgakndjcaa
open Go.Ev Go.Sh Go.Ch
set_option maxRecDepth 100000
theorem mark3 {ρ : Nat → Loc3} {N : Nat → Prop} {A : V} {s : Bool} {c : Int} {r : List V} {vs : List Value} (h : Reps ρ N (cArgs 0 (A :: .pl (.int s .u32 c) :: r)) vs) : Reps ρ N (cArgs 0 (A :: .pl (.int true .u32 c) :: r)) vs := by
  cases h with
  | cons _ _ u us a0 hs =>
  cases hs with
  | cons _ _ u1 us1 a1 hs => exact .cons _ _ _ _ a0 (.cons _ _ _ _ (remark a1) hs)
def rbS2 : List V → E (AV × Mem)
  | [K, C, N] => match plJ C with
    | some c => rbS [K, .pl (.int true .u32 c), N]
    | none => none
  | _ => none
theorem rb2_ok {xs : List V} {o : List Bool} {v : AV} {bs : Mem} (h : rbS2 xs = some (o, (v, bs))) : ViewCall Try.prog 53 xs v bs := by
  unfold rbS2 at h
  split at h
  case h_2 => cases h
  rename_i K C N
  split at h
  case h_2 => cases h
  rename_i c hc
  obtain ⟨s, rfl⟩ := plJ_ok hc
  intro ρ vs w ha hi
  exact (rb_ok h) (mark3 ha) hi
def hx0 : CallH := withV 53 rbS2 hy5
theorem hx0_ok : HOk Try.prog hx0 := hy5_ok.withV fun _ _ _ _ h _ => rb2_ok h
def xiTs : List Nat := [0, 1, 2, 3, 9, 10, 11, 12]
def xoTs : List Nat := [0, 1, 2, 3, 9, 10]
def preX (s : XrS) : Mem := [some ⟨false, .ints .u8 (some 32) s.k⟩, none, some ⟨false, .ints .u8 (some 12) s.l⟩, some ⟨false, .ints .u8 (some s.nb) s.p⟩]
theorem preX_len (s : XrS) : (preX s).length = 4 := rfl
theorem preX_b (s : XrS) : bndM 4 (preX s) = true := rfl
def outX (s : XrS) : AV := match s.e with | true => .slice true 4 0 s.o.length none 1 | false => .nilslice
def xiV (s : XrS) : List AV := [.slice false 0 0 32 none 1, .int true .u32 s.c, .slice false 2 0 12 none 1, .slice true 3 0 s.n none 1, outX s, .int true .i64 s.i, .slice false (match s.e with | true => 5 | false => 4) 0 64 none 1, .int true .i64 s.j]
def xiM (s : XrS) : Mem := preX s ++ (match s.e with | true => [some ⟨true, .ints .u8 none s.o⟩, some ⟨true, .ints .u8 (some 64) s.b⟩] | false => [some ⟨true, .ints .u8 (some 64) s.b⟩])
def xoV (s : XrS) : List AV := [.slice false 0 0 32 none 1, .int true .u32 s.c, .slice false 2 0 12 none 1, .slice true 3 0 s.n none 1, outX s, .int true .i64 s.i]
def xoM (s : XrS) : Mem := preX s ++ (match s.e with | true => [some ⟨true, .ints .u8 none s.o⟩] | false => [])
def xiP : List AV → Mem → Option (XrS × List Bool)
  | [.slice false 0 0 32 none 1, .int true .u32 c, .slice false 2 0 12 none 1, .slice true 3 0 n none 1, .slice true 4 0 on none 1, .int true .i64 i, .slice false 5 0 64 none 1, .int true .i64 j], [some ⟨false, .ints .u8 (some 32) k⟩, none, some ⟨false, .ints .u8 (some 12) l⟩, some ⟨false, .ints .u8 (some nb) p⟩, some ⟨true, .ints .u8 none o⟩, some ⟨true, .ints .u8 (some 64) b⟩] =>
    some (⟨k, c, l, n, nb, p, true, o, b, i, j⟩, [decide (on = o.length), decide (j = i), decide (0 ≤ i), decide (i < (n : Int)), decide (n < 1000000000), decide (n ≤ nb), decide ((o.length : Int) = i)])
  | [.slice false 0 0 32 none 1, .int true .u32 c, .slice false 2 0 12 none 1, .slice true 3 0 n none 1, .nilslice, .int true .i64 i, .slice false 4 0 64 none 1, .int true .i64 j], [some ⟨false, .ints .u8 (some 32) k⟩, none, some ⟨false, .ints .u8 (some 12) l⟩, some ⟨false, .ints .u8 (some nb) p⟩, some ⟨true, .ints .u8 (some 64) b⟩] =>
    some (⟨k, c, l, n, nb, p, false, [], b, i, j⟩, [decide (0 = 0), decide (j = i), decide (0 ≤ i), decide (i < (n : Int)), decide (n < 1000000000), decide (n ≤ nb), decide ((0 : Int) = i)])
  | _, _ => none
def xiE (s : XrS) : XrS := { s with e := true, o := s.o ++ cvP s.p s.b s.i.toNat (eX s.n s.i) }
def xiF (q : XrS × List Bool) : List (Nat × AV) × Mem := (zipU xoTs (xoV (xiE q.1)), xiM (xiE q.1))
def xiΛ (Λ : LoopH) : LoopH := famH 2 52 xiTs xiP (fun q => q.2) xiF Λ
theorem xi_t0 (s : XrS) (hs : s.e = false) : seesL xiTs ((codeL Try.prog qD (deep Try.prog qD hx0 100 3) (fun _ _ => none) 100 (lp (blk 2 (bodyOf Try.prog 22))) ⟨tmOf (ups (fun _ => .top) (zipU xiTs (xiV s))) 52, xiM s⟩).go [true]) = some (xiD s, 0, [.slice false 0 0 32 none 1, .int true .u32 s.c, .slice false 2 0 12 none 1, .slice true 3 0 s.n none 1, .slice false 6 0 1 none 1, .int true .i64 s.i, .slice false 4 0 64 none 1, .int true .i64 (IntKind.i64.wrap (s.j + 1))], 52,
    preX s ++ [some ⟨true, .ints .u8 (some 64) s.b⟩, some ⟨true, .vals [.int true .u8 (xiX s)]⟩, some ⟨true, .ints .u8 (some 1) [xiX s]⟩]) := by
  obtain ⟨k, c, l, n, nb, p, e, o, b, i, j⟩ := s
  simp only at hs
  subst hs
  kernel_rfl
theorem xi_t1 (s : XrS) (hs : s.e = true) : seesL xiTs ((codeL Try.prog qD (deep Try.prog qD hx0 100 3) (fun _ _ => none) 100 (lp (blk 2 (bodyOf Try.prog 22))) ⟨tmOf (ups (fun _ => .top) (zipU xiTs (xiV s))) 52, xiM s⟩).go [true]) = some (xiD s ++ [decide (0 + s.o.length ≤ s.o.length), decide (s.o.length + 1 ≤ 1000000000)], 0, [.slice false 0 0 32 none 1, .int true .u32 s.c, .slice false 2 0 12 none 1, .slice true 3 0 s.n none 1, .slice true 7 0 (s.o.length + 1) none 1, .int true .i64 s.i, .slice false 5 0 64 none 1, .int true .i64 (IntKind.i64.wrap (s.j + 1))], 52,
    preX s ++ [none, some ⟨true, .ints .u8 (some 64) s.b⟩, some ⟨true, .vals [.int true .u8 (xiX s)]⟩, some ⟨true, .ints .u8 none ((s.o.drop 0).take s.o.length ++ [xiX s])⟩]) := by
  obtain ⟨k, c, l, n, nb, p, e, o, b, i, j⟩ := s
  simp only at hs
  subst hs
  kernel_rfl
theorem xi_f (s : XrS) (hs : s.e = true) : seesL xiTs ((codeL Try.prog qD (deep Try.prog qD hx0 100 3) (fun _ _ => none) 100 (lp (blk 2 (bodyOf Try.prog 22))) ⟨tmOf (ups (fun _ => .top) (zipU xiTs (xiV s))) 52, xiM s⟩).go [false]) = some ([decide (s.n < 9223372036854775808), !decide (s.j < hiX s.n s.i)], 4, xiV s, 52, xiM s) := by
  obtain ⟨k, c, l, n, nb, p, e, o, b, i, j⟩ := s
  simp only at hs
  subst hs
  kernel_rfl
structure XiJ (q s : XrS) (a t : Nat) : Prop where
  hi : q.i = (a : Int)
  ha : a < q.n
  hn : q.n < 1000000000
  hnb : q.n ≤ q.nb
  ho : q.o.length = a
  ht : t ≤ eX q.n q.i
  same : s = { q with e := s.e, o := q.o ++ cvP q.p q.b a t, j := ((a + t : Nat) : Int) }
  e0 : t = 0 → s.e = q.e
  e1 : 0 < t → s.e = true
  e2 : q.e = false → q.o = []
set_option maxHeartbeats 2000000 in
theorem xi_lok {Λ : LoopH} (hΛ : LOkN 4 Try.prog (bodyOf Try.prog 22) Λ) : LOkN 4 Try.prog (bodyOf Try.prog 22) (xiΛ Λ) := by
  show LOkN 4 _ _ (famH 2 52 xiTs xiP (fun q => q.2) xiF Λ)
  refine famR_ok (q := qD) (H := deep Try.prog qD hx0 100 3) (Λ0 := fun _ _ => none) (n := 100) (fun q : XrS × List Bool => xiV q.1) (fun q => xiM q.1) (fun q s => ∃ a t, XiJ q.1 s.1 a t) (fun s => (hiX s.1.n s.1.i - s.1.j).toNat) mixed (hx0_ok.deep (q := qD) mixed noCount 100 3) hΛ LOkN.none (by kernel_rfl) (by kernel_rfl) (fun avs m q h ho => ?_) (fun q s hJ => ?_)
  · unfold xiP at h
    split at h
    · rename_i c n on i j k l nb p o b
      cases h
      have o0 := of_decide_eq_true (ho _ (List.mem_cons_self ..))
      have o1 := of_decide_eq_true (ho _ (List.mem_cons_of_mem _ (List.mem_cons_self ..)))
      have o2 := of_decide_eq_true (ho _ (List.mem_cons_of_mem _ (List.mem_cons_of_mem _ (List.mem_cons_self ..))))
      have o3 := of_decide_eq_true (ho _ (List.mem_cons_of_mem _ (List.mem_cons_of_mem _ (List.mem_cons_of_mem _ (List.mem_cons_self ..)))))
      have o4 := of_decide_eq_true (ho _ (List.mem_cons_of_mem _ (List.mem_cons_of_mem _ (List.mem_cons_of_mem _ (List.mem_cons_of_mem _ (List.mem_cons_self ..))))))
      have o5 := of_decide_eq_true (ho _ (List.mem_cons_of_mem _ (List.mem_cons_of_mem _ (List.mem_cons_of_mem _ (List.mem_cons_of_mem _ (List.mem_cons_of_mem _ (List.mem_cons_self ..)))))))
      have o6 := of_decide_eq_true (ho _ (List.mem_cons_of_mem _ (List.mem_cons_of_mem _ (List.mem_cons_of_mem _ (List.mem_cons_of_mem _ (List.mem_cons_of_mem _ (List.mem_cons_of_mem _ (List.mem_cons_self ..))))))))
      subst o0 o1
      refine ⟨(⟨k, c, l, n, nb, p, true, o, b, j, j⟩, []), id, ?_, _, 0, ⟨(Int.toNat_of_nonneg o2).symm, by simp only; omega, o4, o5, by simp only at o6 ⊢; omega, Nat.zero_le _, by simp only [Nat.add_zero, Int.toNat_of_nonneg o2, cvP, List.range_zero, List.map_nil, List.append_nil], fun _ => rfl, fun h => by omega, fun h => by cases h⟩⟩
      exact goes_pre (g := id) (vals := [.slice false 0 0 32 none 1, .int true .u32 c, .slice false 2 0 12 none 1, .slice true 3 0 n none 1, .slice true 4 0 o.length none 1, .int true .i64 j, .slice false 5 0 64 none 1, .int true .i64 j]) (pre := preX ⟨k, c, l, n, nb, p, true, o, b, j, j⟩) (m' := [some ⟨true, .ints .u8 none o⟩, some ⟨true, .ints .u8 (some 64) b⟩]) (rest := [some ⟨true, .ints .u8 none o⟩, some ⟨true, .ints .u8 (some 64) b⟩]) (.cons (.refl _) (.cons (.refl _) (.cons (.refl _) (.cons (.refl _) (.cons (.refl _) (.cons (.refl _) (.cons (.refl _) (.cons (.refl _) .nil)))))))) (preX_len _) (preX_b _) ⟨⟨_, rfl, .refl _⟩, ⟨_, rfl, .refl _⟩, trivial⟩ rfl rfl rfl rfl
    · rename_i c n i j k l nb p b
      cases h
      have o1 := of_decide_eq_true (ho _ (List.mem_cons_of_mem _ (List.mem_cons_self ..)))
      have o2 := of_decide_eq_true (ho _ (List.mem_cons_of_mem _ (List.mem_cons_of_mem _ (List.mem_cons_self ..))))
      have o3 := of_decide_eq_true (ho _ (List.mem_cons_of_mem _ (List.mem_cons_of_mem _ (List.mem_cons_of_mem _ (List.mem_cons_self ..)))))
      have o4 := of_decide_eq_true (ho _ (List.mem_cons_of_mem _ (List.mem_cons_of_mem _ (List.mem_cons_of_mem _ (List.mem_cons_of_mem _ (List.mem_cons_self ..))))))
      have o5 := of_decide_eq_true (ho _ (List.mem_cons_of_mem _ (List.mem_cons_of_mem _ (List.mem_cons_of_mem _ (List.mem_cons_of_mem _ (List.mem_cons_of_mem _ (List.mem_cons_self ..)))))))
      have o6 := of_decide_eq_true (ho _ (List.mem_cons_of_mem _ (List.mem_cons_of_mem _ (List.mem_cons_of_mem _ (List.mem_cons_of_mem _ (List.mem_cons_of_mem _ (List.mem_cons_of_mem _ (List.mem_cons_self ..))))))))
      subst o1
      refine ⟨(⟨k, c, l, n, nb, p, false, [], b, j, j⟩, []), id, ?_, _, 0, ⟨(Int.toNat_of_nonneg o2).symm, by simp only; omega, o4, o5, by simp only [List.length_nil]; omega, Nat.zero_le _, by simp only [Nat.add_zero, Int.toNat_of_nonneg o2, cvP, List.range_zero, List.map_nil, List.append_nil], fun _ => rfl, fun h => by omega, fun h => rfl⟩⟩
      exact goes_pre (g := id) (vals := [.slice false 0 0 32 none 1, .int true .u32 c, .slice false 2 0 12 none 1, .slice true 3 0 n none 1, .nilslice, .int true .i64 j, .slice false 4 0 64 none 1, .int true .i64 j]) (pre := preX ⟨k, c, l, n, nb, p, false, [], b, j, j⟩) (m' := [some ⟨true, .ints .u8 (some 64) b⟩]) (rest := [some ⟨true, .ints .u8 (some 64) b⟩]) (.cons (.refl _) (.cons (.refl _) (.cons (.refl _) (.cons (.refl _) (.cons (.refl _) (.cons (.refl _) (.cons (.refl _) (.cons (.refl _) .nil)))))))) (preX_len _) (preX_b _) ⟨⟨_, rfl, .refl _⟩, trivial⟩ rfl rfl rfl rfl
    · cases h
  · obtain ⟨a, t, hi, ha, hn, hnb, hol, ht, same, e0, e1, e2⟩ := hJ
    obtain ⟨q, bq⟩ := q
    obtain ⟨s, bs⟩ := s
    obtain ⟨k, c, l, n, nb, p, e, o, b, i, j⟩ := q
    simp only at hi ha hn hnb hol ht same e0 e1 e2
    obtain ⟨se, hse⟩ : ∃ x, s.e = x := ⟨_, rfl⟩
    rw [hse] at same e0 e1
    subst same hi
    have hE := eX_of n a hn ha
    have hH := hiX_of n a hn ha
    by_cases hend : t = eX n (a : Int)
    · have hse1 : se = true := e1 (by omega)
      subst hse1
      refine RoundR.out (xi_f _ rfl) rfl id (paid_cons (decide_eq_true (by simp only; omega)) (paid_cons (by simp only [hH, Bool.not_eq_true', decide_eq_false_iff_not]; omega) Paid.nil)) ?_
      have fe : xiE ⟨k, c, l, n, nb, p, e, o, b, (a : Int), j⟩ = ⟨k, c, l, n, nb, p, true, o ++ cvP p b a t, b, (a : Int), j⟩ := by
        unfold xiE
        simp only [hend, Int.toNat_natCast]
      show Goes 4 id xiTs _ _ (zipU xoTs (xoV (xiE ⟨k, c, l, n, nb, p, e, o, b, (a : Int), j⟩))) (xiM (xiE ⟨k, c, l, n, nb, p, e, o, b, (a : Int), j⟩))
      rw [fe]
      exact ⟨fun p0 hp => by
        simp only [xoTs, xoV, zipU, List.mem_cons, List.not_mem_nil, or_false] at hp
        rcases hp with rfl | rfl | rfl | rfl | rfl | rfl
        · exact ⟨.slice false 0 0 32 none 1, by simp [xiTs, xiV, zipU], .refl _⟩
        · exact ⟨.int true .u32 c, by simp [xiTs, xiV, zipU], .refl _⟩
        · exact ⟨.slice false 2 0 12 none 1, by simp [xiTs, xiV, zipU], .refl _⟩
        · exact ⟨.slice true 3 0 n none 1, by simp [xiTs, xiV, zipU], .refl _⟩
        · exact ⟨.slice true 4 0 (o ++ cvP p b a t).length none 1, by simp [xiTs, xiV, zipU, outX], .refl _⟩
        · exact ⟨.int true .i64 (a : Int), by simp [xiTs, xiV, zipU], .refl _⟩, goes_mem (preX_len _) (preX_b _) ⟨⟨_, rfl, .refl _⟩, ⟨_, rfl, .refl _⟩, trivial⟩, rfl, rfl, Nat.le_of_ble_eq_true rfl, goes_bnd (preX_len _) (preX_b _) rfl, rfl⟩
    · have hw : IntKind.i64.wrap (((a + t : Nat) : Int) + 1) = ((a + (t + 1) : Nat) : Int) := by unfold IntKind.wrap; simp [IntKind.bits, IntKind.signed]; omega
      have hs2 : IntKind.i64.wrap (((a + t : Nat) : Int) - (a : Int)) = (t : Int) := by unfold IntKind.wrap; simp [IntKind.bits, IntKind.signed]; omega
      have hD : ∀ e', Paid (xiD ⟨k, c, l, n, nb, p, e', o ++ cvP p b a t, b, (a : Int), ((a + t : Nat) : Int)⟩) := fun e' => by
        unfold xiD
        simp only [hs2, hH]
        exact paid_cons (decide_eq_true (by omega)) (paid_cons (decide_eq_true (by omega)) (paid_cons (by rw [decide_eq_true (by omega), decide_eq_true (by omega)]; rfl) (paid_cons (decide_eq_true (by omega)) (paid_cons (by rw [decide_eq_true (by omega), decide_eq_true (by omega)]; rfl) (paid_cons (decide_eq_true (by omega)) Paid.nil)))))
      have hX : ∀ e', xiX ⟨k, c, l, n, nb, p, e', o ++ cvP p b a t, b, (a : Int), ((a + t : Nat) : Int)⟩ = ixor .u8 (p.getD (a + t) 0) (b.getD t 0) := fun e' => by
        unfold xiX
        simp only [hs2]
        rw [show 0 + ((a + t : Nat) : Int).toNat * 1 = a + t by omega, show 0 + ((t : Nat) : Int).toNat * 1 = t by omega]
      have hL : cvP p b a (t + 1) = cvP p b a t ++ [ixor .u8 (p.getD (a + t) 0) (b.getD t 0)] := cvP_succ p b a t
      cases se with
      | false =>
        have ht0 : t = 0 := by
          by_cases h : t = 0
          · exact h
          · have := e1 (by omega); cases this
        subst ht0
        have he := (e0 rfl).symm
        subst he
        obtain rfl := e2 rfl
        refine RoundR.on (xi_t0 _ rfl) (⟨k, c, l, n, nb, p, true, [] ++ cvP p b a (0 + 1), b, (a : Int), ((a + (0 + 1) : Nat) : Int)⟩, bs) (fun n => [0, 1, 2, 3, 6, 4].getD n 0) (hD false) ?_ ⟨a, 1, rfl, ha, hn, hnb, hol, by simp only; omega, rfl, fun h => by omega, fun _ => rfl, e2⟩ (by simp only [hH]; omega)
        rw [hX]
        simp only [hL]
        exact goes_pre (pre := preX ⟨k, c, l, n, nb, p, true, [], b, (a : Int), ((a + (0 + 1) : Nat) : Int)⟩) (.cons (.refl _) (.cons (.refl _) (.cons (.refl _) (.cons (.refl _) (.cons (.slice _ _ _ _ _ _ _ _ (Or.inl rfl)) (.cons (.refl _) (.cons (.refl _) (.cons (by simp only [hw]; exact .refl _) .nil)))))))) (preX_len _) (preX_b _) ⟨⟨_, rfl, .free _ _ _⟩, ⟨_, rfl, .refl _⟩, trivial⟩ rfl rfl rfl rfl
      | true =>
        have hlen : (o ++ cvP p b a t).length = a + t := by rw [List.length_append, hol]; simp [cvP]
        refine RoundR.on (xi_t1 _ rfl) (⟨k, c, l, n, nb, p, true, o ++ cvP p b a (t + 1), b, (a : Int), ((a + (t + 1) : Nat) : Int)⟩, bs) (fun n => [0, 1, 2, 3, 7, 5].getD n 0) (paid_append.2 ⟨hD true, paid_cons (decide_eq_true (by simp only; omega)) (paid_cons (decide_eq_true (by simp only [hlen]; omega)) Paid.nil)⟩) ?_ ⟨a, t + 1, rfl, ha, hn, hnb, hol, by simp only; omega, rfl, fun h => by omega, fun _ => rfl, e2⟩ (by simp only [hH]; omega)
        rw [hX]
        have hll : (o ++ cvP p b a t).length + 1 = (o ++ cvP p b a (t + 1)).length := by rw [hL]; simp [Nat.add_assoc]
        have hcc : ((o ++ cvP p b a t).drop 0).take (o ++ cvP p b a t).length ++ [ixor .u8 (p.getD (a + t) 0) (b.getD t 0)] = o ++ cvP p b a (t + 1) := by rw [List.drop_zero, List.take_of_length_le (Nat.le_refl _), hL, List.append_assoc]
        simp only [hll, hcc]
        exact goes_pre (pre := preX ⟨k, c, l, n, nb, p, true, [], b, (a : Int), ((a + (t + 1) : Nat) : Int)⟩) (.cons (.refl _) (.cons (.refl _) (.cons (.refl _) (.cons (.refl _) (.cons (.refl _) (.cons (.refl _) (.cons (.refl _) (.cons (by simp only [hw]; exact .refl _) .nil)))))))) (preX_len _) (preX_b _) ⟨⟨_, rfl, .refl _⟩, ⟨_, rfl, .refl _⟩, trivial⟩ rfl rfl rfl rfl

def xoP : List AV → Mem → Option (XrS × List Bool)
  | [.slice false 0 0 32 none 1, .int true .u32 c, .slice false 2 0 12 none 1, .slice true 3 0 n none 1, .nilslice, .int false .i64 i], [some ⟨false, .ints .u8 (some 32) k⟩, none, some ⟨false, .ints .u8 (some 12) l⟩, some ⟨false, .ints .u8 (some nb) p⟩] =>
    some (⟨k, c, l, n, nb, p, false, [], [], i, 0⟩, [decide (i = 0), decide (1 ≤ n), decide (n < 1000000000), decide (n ≤ nb)])
  | _, _ => none
def xoE (s : XrS) : XrS := { s with e := true, o := xoR (ini s.k s.l) s.c s.p s.n ((s.n + 63) / 64) }
def xoF (q : XrS × List Bool) : List (Nat × AV) × Mem := ([(9, .slice true 4 0 (xoE q.1).o.length none 1)], xoM (xoE q.1))
def xoΛ (Λ : LoopH) : LoopH := famH 0 52 xoTs xoP (fun q => q.2) xoF Λ
def xoN (s : XrS) : XrS := { s with e := true, o := s.o ++ cvP s.p (mkB (ini s.k s.l) s.c (s.i.tdiv 64)) s.i.toNat (eX s.n s.i), i := IntKind.i64.wrap (s.i + 64) }
def xoD (s : XrS) : List Bool := [decide (s.n < 9223372036854775808), decide (s.i < (s.n : Int)), decide (s.o.length = s.o.length), decide (s.i = s.i), decide (0 ≤ s.i), decide (s.i < (s.n : Int)), decide (s.n < 1000000000), decide (s.n ≤ s.nb), decide ((s.o.length : Int) = s.i)]
theorem xo_t0 (s : XrS) (hs : s.e = false) (h0 : s.o = []) : seesL xoTs ((codeL Try.prog qD (deep Try.prog qD hx0 100 3) (xiΛ fun _ _ => none) 100 (lp (blk 0 (bodyOf Try.prog 22))) ⟨tmOf (ups (fun _ => .top) (zipU xoTs (xoV s))) 52, xoM s⟩).go [true]) = some (xoD s, 0, xoV (xoN s), 52, preX s ++ [some ⟨true, .ints .u8 none (xoN s).o⟩, some ⟨true, .ints .u8 (some 64) (mkB (ini s.k s.l) s.c (s.i.tdiv 64))⟩]) := by
  obtain ⟨k, c, l, n, nb, p, e, o, b, i, j⟩ := s
  simp only at hs h0
  subst hs h0
  kernel_rfl
theorem xo_t1 (s : XrS) (hs : s.e = true) : seesL xoTs ((codeL Try.prog qD (deep Try.prog qD hx0 100 3) (xiΛ fun _ _ => none) 100 (lp (blk 0 (bodyOf Try.prog 22))) ⟨tmOf (ups (fun _ => .top) (zipU xoTs (xoV s))) 52, xoM s⟩).go [true]) = some (xoD s, 0, xoV (xoN s), 52, preX s ++ [some ⟨true, .ints .u8 none (xoN s).o⟩, some ⟨true, .ints .u8 (some 64) (mkB (ini s.k s.l) s.c (s.i.tdiv 64))⟩]) := by
  obtain ⟨k, c, l, n, nb, p, e, o, b, i, j⟩ := s
  simp only at hs
  subst hs
  kernel_rfl
theorem xo_f (s : XrS) (hs : s.e = true) : seesL xoTs ((codeL Try.prog qD (deep Try.prog qD hx0 100 3) (xiΛ fun _ _ => none) 100 (lp (blk 0 (bodyOf Try.prog 22))) ⟨tmOf (ups (fun _ => .top) (zipU xoTs (xoV s))) 52, xoM s⟩).go [false]) = some ([decide (s.n < 9223372036854775808), !decide (s.i < (s.n : Int))], 2, xoV s, 52, xoM s) := by
  obtain ⟨k, c, l, n, nb, p, e, o, b, i, j⟩ := s
  simp only at hs
  subst hs
  kernel_rfl
structure XoJ (q s : XrS) (a : Nat) : Prop where
  h1 : 1 ≤ q.n
  hn : q.n < 1000000000
  hnb : q.n ≤ q.nb
  ha : a ≤ (q.n + 63) / 64
  same : s = { q with e := s.e, o := xoR (ini q.k q.l) q.c q.p q.n a, i := ((64 * a : Nat) : Int) }
  e0 : a = 0 → s.e = false
  e1 : 0 < a → s.e = true
theorem xo_lok {Λ : LoopH} (hΛ : LOkN 4 Try.prog (bodyOf Try.prog 22) Λ) : LOkN 4 Try.prog (bodyOf Try.prog 22) (xoΛ Λ) := by
  show LOkN 4 _ _ (famH 0 52 xoTs xoP (fun q => q.2) xoF Λ)
  refine famR_ok (q := qD) (H := deep Try.prog qD hx0 100 3) (Λ0 := xiΛ fun _ _ => none) (n := 100) (fun q : XrS × List Bool => xoV q.1) (fun q => xoM q.1) (fun q s => ∃ a, XoJ q.1 s.1 a) (fun s => s.1.n + 63 - s.1.i.toNat) mixed (hx0_ok.deep (q := qD) mixed noCount 100 3) hΛ (xi_lok LOkN.none) (by kernel_rfl) (by kernel_rfl) (fun avs m q h ho => ?_) (fun q s hJ => ?_)
  · unfold xoP at h
    split at h
    · rename_i c n i k l nb p
      cases h
      have o0 := of_decide_eq_true (ho _ (List.mem_cons_self ..))
      have o1 := of_decide_eq_true (ho _ (List.mem_cons_of_mem _ (List.mem_cons_self ..)))
      have o2 := of_decide_eq_true (ho _ (List.mem_cons_of_mem _ (List.mem_cons_of_mem _ (List.mem_cons_self ..))))
      have o3 := of_decide_eq_true (ho _ (List.mem_cons_of_mem _ (List.mem_cons_of_mem _ (List.mem_cons_of_mem _ (List.mem_cons_self ..)))))
      subst o0
      refine ⟨(⟨k, c, l, n, nb, p, false, [], [], 0, 0⟩, []), id, ?_, 0, o1, o2, o3, Nat.zero_le _, rfl, fun _ => rfl, fun h => by omega⟩
      exact goes_pre (g := id) (vals := [.slice false 0 0 32 none 1, .int true .u32 c, .slice false 2 0 12 none 1, .slice true 3 0 n none 1, .nilslice, .int true .i64 0]) (pre := preX ⟨k, c, l, n, nb, p, false, [], [], 0, 0⟩) (m' := []) (rest := []) (.cons (.refl _) (.cons (.refl _) (.cons (.refl _) (.cons (.refl _) (.cons (.refl _) (.cons (.int _ _ _ _) .nil)))))) (preX_len _) (preX_b _) trivial rfl rfl rfl rfl
    · cases h
  · obtain ⟨a, h1, hn, hnb, ha, same, e0, e1⟩ := hJ
    obtain ⟨q, bq⟩ := q
    obtain ⟨s, bs⟩ := s
    obtain ⟨k, c, l, n, nb, p, e, o, b, i, j⟩ := q
    simp only at h1 hn hnb ha same e0 e1
    obtain ⟨se, hse⟩ : ∃ x, s.e = x := ⟨_, rfl⟩
    rw [hse] at same e0 e1
    subst same
    have hlen := xoR_len (ini k l) c p hn a ha
    by_cases hend : a = (n + 63) / 64
    · have hse1 : se = true := e1 (by omega)
      subst hse1
      refine RoundR.out (xo_f _ rfl) rfl id (paid_cons (decide_eq_true (by simp only; omega)) (paid_cons (by simp only [Bool.not_eq_true', decide_eq_false_iff_not]; omega) Paid.nil)) ?_
      have fe : xoE ⟨k, c, l, n, nb, p, e, o, b, i, j⟩ = ⟨k, c, l, n, nb, p, true, xoR (ini k l) c p n a, b, i, j⟩ := by
        unfold xoE
        simp only [hend]
      show Goes 4 id xoTs _ _ [(9, .slice true 4 0 (xoE ⟨k, c, l, n, nb, p, e, o, b, i, j⟩).o.length none 1)] (xoM (xoE ⟨k, c, l, n, nb, p, e, o, b, i, j⟩))
      rw [fe]
      exact ⟨fun p0 hp => by
        simp only [List.mem_cons, List.not_mem_nil, or_false] at hp
        subst hp
        exact ⟨.slice true 4 0 (xoR (ini k l) c p n a).length none 1, by simp [xoTs, xoV, zipU, outX], .refl _⟩, goes_mem (pre := preX ⟨k, c, l, n, nb, p, true, xoR (ini k l) c p n a, b, i, j⟩) (preX_len _) (preX_b _) ⟨⟨_, rfl, .refl _⟩, trivial⟩, rfl, rfl, Nat.le_of_ble_eq_true rfl, goes_bnd (pre := preX ⟨k, c, l, n, nb, p, true, xoR (ini k l) c p n a, b, i, j⟩) (preX_len _) (preX_b _) rfl, rfl⟩
    · have h64 : 64 * a < n := by omega
      have hw : IntKind.i64.wrap (((64 * a : Nat) : Int) + 64) = ((64 * (a + 1) : Nat) : Int) := by unfold IntKind.wrap; simp [IntKind.bits, IntKind.signed]; omega
      have hdv : ((64 * a : Nat) : Int).tdiv 64 = (a : Int) := by rw [Int.tdiv_eq_ediv_of_nonneg (by omega)]; omega
      have hD : ∀ e', Paid (xoD ⟨k, c, l, n, nb, p, e', xoR (ini k l) c p n a, b, ((64 * a : Nat) : Int), j⟩) := fun e' => by
        unfold xoD
        simp only
        exact paid_cons (decide_eq_true (by omega)) (paid_cons (decide_eq_true (by omega)) (paid_cons (rfl) (paid_cons (by simp) (paid_cons (decide_eq_true (by omega)) (paid_cons (decide_eq_true (by omega)) (paid_cons (decide_eq_true hn) (paid_cons (decide_eq_true hnb) (paid_cons (decide_eq_true (by rw [hlen]; omega)) Paid.nil))))))))
      have hN : ∀ e', xoN ⟨k, c, l, n, nb, p, e', xoR (ini k l) c p n a, b, ((64 * a : Nat) : Int), j⟩ = ⟨k, c, l, n, nb, p, true, xoR (ini k l) c p n (a + 1), b, ((64 * (a + 1) : Nat) : Int), j⟩ := fun e' => by
        unfold xoN
        simp only [hdv, hw, xoR, Int.toNat_natCast]
      cases se with
      | false =>
        have ha0 : a = 0 := by
          by_cases h : a = 0
          · exact h
          · have := e1 (by omega); cases this
        subst ha0
        refine RoundR.on (xo_t0 _ rfl rfl) (⟨k, c, l, n, nb, p, true, xoR (ini k l) c p n (0 + 1), b, ((64 * (0 + 1) : Nat) : Int), j⟩, bs) id (hD false) ?_ ⟨0 + 1, h1, hn, hnb, by simp only; omega, rfl, fun h => by omega, fun _ => rfl⟩ (by simp only; omega)
        rw [hN]
        exact goes_pre (g := id) (vals := xoV ⟨k, c, l, n, nb, p, true, xoR (ini k l) c p n (0 + 1), b, ((64 * (0 + 1) : Nat) : Int), j⟩) (pre := preX ⟨k, c, l, n, nb, p, true, xoR (ini k l) c p n (0 + 1), b, ((64 * (0 + 1) : Nat) : Int), j⟩) (rest := [some ⟨true, .ints .u8 none (xoR (ini k l) c p n (0 + 1))⟩]) (.cons (.refl _) (.cons (.refl _) (.cons (.refl _) (.cons (.refl _) (.cons (.refl _) (.cons (.refl _) .nil)))))) (preX_len _) (preX_b _) ⟨⟨_, rfl, .refl _⟩, trivial⟩ rfl rfl rfl rfl
      | true =>
        refine RoundR.on (xo_t1 _ rfl) (⟨k, c, l, n, nb, p, true, xoR (ini k l) c p n (a + 1), b, ((64 * (a + 1) : Nat) : Int), j⟩, bs) id (hD true) ?_ ⟨a + 1, h1, hn, hnb, by simp only; omega, rfl, fun h => by omega, fun _ => rfl⟩ (by simp only; omega)
        rw [hN]
        exact goes_pre (g := id) (vals := xoV ⟨k, c, l, n, nb, p, true, xoR (ini k l) c p n (a + 1), b, ((64 * (a + 1) : Nat) : Int), j⟩) (pre := preX ⟨k, c, l, n, nb, p, true, xoR (ini k l) c p n (a + 1), b, ((64 * (a + 1) : Nat) : Int), j⟩) (rest := [some ⟨true, .ints .u8 none (xoR (ini k l) c p n (a + 1))⟩]) (.cons (.refl _) (.cons (.refl _) (.cons (.refl _) (.cons (.refl _) (.cons (.refl _) (.cons (.refl _) .nil)))))) (preX_len _) (preX_b _) ⟨⟨_, rfl, .refl _⟩, trivial⟩ rfl rfl rfl rfl
theorem xr_b (k : List Int) (c : Int) (l : List Int) (n : Nat) (p : List Int) : seeV 4 ((funcL Try.prog qD (deep Try.prog qD hx0 100 3) (xoΛ fun _ _ => none) 100 22 (cArgs 0 [.buf false .u8 32 k, .pl (.int true .u32 c), .buf false .u8 12 l, .buf true .u8 n p]) (cMem [.buf false .u8 32 k, .pl (.int true .u32 c), .buf false .u8 12 l, .buf true .u8 n p])).go []) = some ([true, decide (1 ≤ n), decide (n < 1000000000), decide (n ≤ n)], .slice true 4 0 (xoR (ini k l) c p n ((n + 63) / 64)).length none 1, some (some ⟨true, .ints .u8 none (xoR (ini k l) c p n ((n + 63) / 64))⟩)) := by kernel_rfl
theorem xr_n (k : List Int) (c : Int) (l : List Int) : seeV 50 ((funcL Try.prog qD (deep Try.prog qD hx0 100 3) (xoΛ fun _ _ => none) 100 22 (cArgs 0 [.buf false .u8 32 k, .pl (.int true .u32 c), .buf false .u8 12 l, .pl .nilslice]) (cMem [.buf false .u8 32 k, .pl (.int true .u32 c), .buf false .u8 12 l, .pl .nilslice])).go []) = some ([], .nilslice, none) := by kernel_rfl
theorem xr_e (k : List Int) (c : Int) (l : List Int) : seeV 50 ((funcL Try.prog qD (deep Try.prog qD hx0 100 3) (xoΛ fun _ _ => none) 100 22 (cArgs 0 [.buf false .u8 32 k, .pl (.int true .u32 c), .buf false .u8 12 l, .empty]) (cMem [.buf false .u8 32 k, .pl (.int true .u32 c), .buf false .u8 12 l, .empty])).go []) = some ([], .nilslice, none) := by kernel_rfl
def rxS : List V → E (AV × Mem)
  | [K, C, N, .buf _ .u8 n p] => match isK K, plJ C, isN N with
    | some k, some c, some l => some ([decide (1 ≤ n), decide (n ≤ 900000000)], (.slice true 0 0 n none 1, [some ⟨true, .ints .u8 none (cvL (ini k l) c p n)⟩]))
    | _, _, _ => none
  | [K, C, N, B] => match isK K, plJ C, isN N, nonE B with
    | some _, some _, some _, true => some ([], (.nilslice, []))
    | _, _, _, _ => none
  | _ => none
theorem rx_ok {xs : List V} {o : List Bool} {v : AV} {bs : Mem} (h : rxS xs = some (o, (v, bs))) (ho : Paid o) : ViewCall Try.prog 22 xs v bs := by
  have hΛ : ∀ (fn : Func) (c : Code), Try.prog.funcs[22]? = some fn → fn.body = some c → LOkN 4 Try.prog c (xoΛ fun _ _ => none) := fun fn c hf hb => by rw [bodyOf_eq hf hb]; exact xo_lok LOkN.none
  unfold rxS at h
  split at h
  · rename_i K C N s n p
    split at h
    case h_2 => cases h
    rename_i k c l hK hC hN
    obtain rfl := isK_ok hK
    obtain ⟨sc, rfl⟩ := plJ_ok hC
    obtain rfl := isN_ok hN
    cases h
    have o0 := of_decide_eq_true (ho _ (List.mem_cons_self ..))
    have o1 := of_decide_eq_true (ho _ (List.mem_cons_of_mem _ (List.mem_cons_self ..)))
    intro ρ vs w ha hi
    have ev := xr_b k c l n p
    have hl := xoR_len (ini k l) c p (show n < 1000000000 by omega) ((n + 63) / 64) (Nat.le_refl _)
    have he := xoR_eq (ini k l) c p (show n < 1000000000 by omega) ((n + 63) / 64) (Nat.le_refl _)
    rw [show min (64 * ((n + 63) / 64)) n = n by omega] at hl he
    rw [hl, he] at ev
    exact viewN_one mixed noCount (hx0_ok.deep mixed noCount 100 3) hΛ (v := .slice true 0 0 n none 1) [] 4 ev (paid_cons rfl (paid_cons (decide_eq_true o0) (paid_cons (decide_eq_true (by omega)) (paid_cons (decide_eq_true (Nat.le_refl _)) Paid.nil)))) (Nat.le_refl _) rfl rfl (markL (mark3 ha)) hi
  · split at h
    case h_2 => cases h
    rename_i k c l hK hC hN hB
    obtain rfl := isK_ok hK
    obtain ⟨sc, rfl⟩ := plJ_ok hC
    obtain rfl := isN_ok hN
    cases h
    intro ρ vs w ha hi
    rcases nonE_ok hB with rfl | rfl
    · exact viewN_none mixed noCount (hx0_ok.deep mixed noCount 100 3) hΛ [] 50 (xr_n k c l) Paid.nil rfl rfl rfl rfl (mark3 ha) hi
    · exact viewN_none mixed noCount (hx0_ok.deep mixed noCount 100 3) hΛ [] 50 (xr_e k c l) Paid.nil rfl rfl rfl rfl (mark3 ha) hi
  · cases h
def hx1 : CallH := withV 22 rxS hx0
theorem hx1_ok : HOk Try.prog hx1 := hx0_ok.withV fun _ _ _ _ h ho => rx_ok h ho
end Go.Proofs.Ytfmgodgakndjcaa
