/- The reference's Turn: its loops as families, its contract. Own work. -/
import Derived.Test.YtfmgodgakndjcaaQGcJ
import Derived.Test.YtfmgodgakndjcaaQAesVg
import Derived.Test.YtfmgodgakndjcaaQEvCan
import Derived.Test.YtfmgodgakndjcaaQEvPre
set_option linter.unusedSimpArgs false
set_option linter.unusedVariables false
set_option linter.unusedSectionVars false
namespace Go.Gc
open Go.Ev Go.Sh Go.As
def kwN (r : Bool) : Nat := match r with | true => 60 | false => 44
def kNr (r : Bool) : Int := match r with | true => 8 | false => 4
def kbN (r : Bool) : Nat := match r with | true => 32 | false => 16
def krN (r : Bool) : Int := match r with | true => 14 | false => 10
def cvP (p c : List Int) (a t : Nat) : List Int := (List.range t).map fun q => ixor .u8 (p.getD (a + q) 0) (c.getD q 0)
theorem cvP_succ (p c : List Int) (a t : Nat) : cvP p c a (t + 1) = cvP p c a t ++ [ixor .u8 (p.getD (a + t) 0) (c.getD t 0)] := by unfold cvP; rw [List.range_succ, List.map_append]; rfl
def ctrR (l : List Int) (N : Int) : List Int := ((((l.take 12 ++ [0, 0, 0, 0]).set 15 (IntKind.u8.wrap (ishr .u32 N 0))).set 14 (IntKind.u8.wrap (ishr .u32 N 8))).set 13 (IntKind.u8.wrap (ishr .u32 N 16))).set 12 (IntKind.u8.wrap (ishr .u32 N 24))
def mkR (w : List Int) (rr : Nat) (l : List Int) (b : Int) : List Int := encB w rr (ctrR l (IntKind.u32.wrap (IntKind.i64.wrap (2 + IntKind.i64.wrap b))))
/-- The text turned, after so many blocks. -/
def tuR (w : List Int) (rr : Nat) (l p : List Int) (n : Nat) : Nat → List Int
  | 0 => []
  | a + 1 => tuR w rr l p n a ++ cvP p (mkR w rr l (a : Int)) (16 * a) (eT n ((16 * a : Nat) : Int))
theorem hiT_of (n a : Nat) (hn : n < 1000000000) (ha : a < n) : hiT n (a : Int) = ((a + eT n (a : Int) : Nat) : Int) := by
  have hw : IntKind.i64.wrap ((a : Int) + 16) = (a : Int) + 16 := by unfold IntKind.wrap; simp [IntKind.bits, IntKind.signed]; omega
  unfold eT hiT
  rw [hw]
  split <;> omega
theorem eT_of (n a : Nat) (hn : n < 1000000000) (ha : a < n) : 1 ≤ eT n (a : Int) ∧ eT n (a : Int) ≤ 16 ∧ a + eT n (a : Int) ≤ n ∧ (eT n (a : Int) = 16 ∨ a + eT n (a : Int) = n) := by
  have hw : IntKind.i64.wrap ((a : Int) + 16) = (a : Int) + 16 := by unfold IntKind.wrap; simp [IntKind.bits, IntKind.signed]; omega
  unfold eT hiT
  rw [hw]
  split <;> omega

theorem tuR_len (w : List Int) (rr : Nat) (l p : List Int) {n : Nat} (hn : n < 1000000000) : ∀ a, a ≤ (n + 15) / 16 → (tuR w rr l p n a).length = min (16 * a) n
  | 0, _ => by simp [tuR]
  | a + 1, h => by
    have e := eT_of n (16 * a) hn (by omega)
    unfold tuR
    rw [List.length_append, tuR_len w rr l p hn a (by omega)]
    simp only [cvP, List.length_map, List.length_range]
    omega
theorem goes_memZ [Tab] {k0 : Nat} {pre m' rest : Mem} (hl : pre.length = k0) (hb : bndM k0 pre = true) (hp : Pulls id (pre ++ m') k0 rest) : Pulls id (pre ++ m') 0 (pre ++ rest) := by
  have := pulls_pre (g := id) (fun i _ => rfl) (m' := m') (rest := rest) pre [] (by simp; omega) hb (by simpa [hl] using hp)
  simpa using this
theorem goes_bndZ [Tab] {k0 : Nat} {pre rest : Mem} (hl : pre.length = k0) (hb : bndM k0 pre = true) (hr : bndM (k0 + rest.length) rest = true) : bndM (pre ++ rest).length (pre ++ rest) = true := by
  rw [List.length_append, hl, bndM_append, bndM_le (by omega) hb, hr]; rfl
structure TzS where
  r : Bool
  w : List Int
  l : List Int
  n : Nat
  nb : Nat
  p : List Int
  e : Bool
  o : List Int
  b : List Int
  i : Int
  j : Int
def tzD (s : TzS) : List Bool := [decide (s.n < 9223372036854775808), decide (s.j < hiT s.n s.i), decide (0 ≤ s.j) && decide (s.j < (s.n : Int)), decide (0 + s.j.toNat * 1 + 1 ≤ s.nb), decide (0 ≤ IntKind.i64.wrap (s.j - s.i)) && decide (IntKind.i64.wrap (s.j - s.i) < ((16 : Nat) : Int)), decide (0 + (IntKind.i64.wrap (s.j - s.i)).toNat * 1 + 1 ≤ 16)]
def tzX (s : TzS) : Int := ixor .u8 (s.p.getD (0 + s.j.toNat * 1) 0) (s.b.getD (0 + (IntKind.i64.wrap (s.j - s.i)).toNat * 1) 0)
end Go.Gc
namespace Go.Proofs.Ytfmgodgakndjcaa
open Go.Ev Go.Sh Go.As Go.Gc
set_option maxRecDepth 100000
def hz0 : CallH := withV 12 rnewS (withT 45 rblkS hsS)
theorem hz0_ok : HOk Try.prog hz0 := (hsS_ok.withT fun _ _ _ _ _ _ h ho => rblk_ok h ho).withV fun _ _ _ _ h _ => rnew_ok h
def ziTs : List Nat := [0, 1, 2, 7, 8, 9, 10]
def zoTs : List Nat := [0, 1, 2, 7, 8]
def kyB (r : Bool) : Blk := ⟨false, .wide [.slice true 1 0 (kwN r) none 4, .ints .i64 256 sboxL, .int false .i64 (kNr r)]⟩
def preZ (s : TzS) : Mem := [some (kyB s.r), some ⟨false, .ints .i64 none s.w⟩, some ⟨false, .ints .u8 (some 12) s.l⟩, some ⟨false, .ints .u8 (some s.nb) s.p⟩]
theorem preZ_len (s : TzS) : (preZ s).length = 4 := rfl
theorem preZ_b (s : TzS) : bndM 4 (preZ s) = true := rfl
def outZ (s : TzS) : AV := match s.e with | true => .slice true 4 0 s.o.length none 1 | false => .nilslice
def ziV (s : TzS) : List AV := [.ptr false 0 0, .slice false 2 0 12 none 1, .slice true 3 0 s.n none 1, outZ s, .int true .i64 s.i, .ptr false (match s.e with | true => 5 | false => 4) 0, .int true .i64 s.j]
def ziM (s : TzS) : Mem := preZ s ++ (match s.e with | true => [some ⟨true, .ints .u8 none s.o⟩, some ⟨true, .ints .u8 (some 16) s.b⟩] | false => [some ⟨true, .ints .u8 (some 16) s.b⟩])
def zoV (s : TzS) : List AV := [.ptr false 0 0, .slice false 2 0 12 none 1, .slice true 3 0 s.n none 1, outZ s, .int true .i64 s.i]
def zoM (s : TzS) : Mem := preZ s ++ (match s.e with | true => [some ⟨true, .ints .u8 none s.o⟩] | false => [])
/-- The key's block: its length tells which. -/
def kyP : Option Blk → Option (Bool × List Bool)
  | some ⟨false, .wide [.slice true 1 0 K none 4, .ints .i64 256 T, .int false .i64 R]⟩ => some (Nat.beq K 60, [decide (K = kwN (Nat.beq K 60)), decide (R = kNr (Nat.beq K 60)), decide (T = sboxL)])
  | _ => none
theorem kyP_ok {x : Option Blk} {r : Bool} {o : List Bool} (h : kyP x = some (r, o)) (ho : Paid o) : x = some (kyB r) := by
  unfold kyP at h
  split at h
  · cases h
    have h1 := of_decide_eq_true (ho _ (List.mem_cons_self ..))
    have h2 := of_decide_eq_true (ho _ (List.mem_cons_of_mem _ (List.mem_cons_self ..)))
    have h3 := of_decide_eq_true (ho _ (List.mem_cons_of_mem _ (List.mem_cons_of_mem _ (List.mem_cons_self ..))))
    unfold kyB
    rw [← h1, ← h2, ← h3]
  · cases h
def ziP : List AV → Mem → Option (TzS × List Bool)
  | [.ptr false 0 0, .slice false 2 0 12 none 1, .slice true 3 0 n none 1, .slice true 4 0 on none 1, .int true .i64 i, .ptr false 5 0, .int true .i64 j], [kb, some ⟨false, .ints .i64 none w⟩, some ⟨false, .ints .u8 (some 12) l⟩, some ⟨false, .ints .u8 (some nb) p⟩, some ⟨true, .ints .u8 none o⟩, some ⟨true, .ints .u8 (some 16) b⟩] =>
    match kyP kb with
    | some (r, ok) => some (⟨r, w, l, n, nb, p, true, o, b, i, j⟩, [decide (on = o.length), decide (j = i), decide (0 ≤ i), decide (i < (n : Int)), decide (n < 1000000000), decide (n ≤ nb), decide ((o.length : Int) = i)] ++ ok)
    | none => none
  | [.ptr false 0 0, .slice false 2 0 12 none 1, .slice true 3 0 n none 1, .nilslice, .int true .i64 i, .ptr false 4 0, .int true .i64 j], [kb, some ⟨false, .ints .i64 none w⟩, some ⟨false, .ints .u8 (some 12) l⟩, some ⟨false, .ints .u8 (some nb) p⟩, some ⟨true, .ints .u8 (some 16) b⟩] =>
    match kyP kb with
    | some (r, ok) => some (⟨r, w, l, n, nb, p, false, [], b, i, j⟩, [decide (0 = 0), decide (j = i), decide (0 ≤ i), decide (i < (n : Int)), decide (n < 1000000000), decide (n ≤ nb), decide ((0 : Int) = i)] ++ ok)
    | none => none
  | _, _ => none
def ziE (s : TzS) : TzS := { s with e := true, o := s.o ++ cvP s.p s.b s.i.toNat (eT s.n s.i) }
def ziF (q : TzS × List Bool) : List (Nat × AV) × Mem := (zipU zoTs (zoV (ziE q.1)), ziM (ziE q.1))
def ziΛ (Λ : LoopH) : LoopH := famH 2 48 ziTs ziP (fun q => q.2) ziF Λ
theorem zi_t0 (s : TzS) (hs : s.e = false) : seesL ziTs ((codeL Try.prog qP (deep Try.prog qP hz0 100 3) (fun _ _ => none) 100 (lp (blk 2 (bodyOf Try.prog 15))) ⟨tmOf (ups (fun _ => .top) (zipU ziTs (ziV s))) 48, ziM s⟩).go [true]) = some (tzD s, 0, [.ptr false 0 0, .slice false 2 0 12 none 1, .slice true 3 0 s.n none 1, .slice false 6 0 1 none 1, .int true .i64 s.i, .ptr false 4 0, .int true .i64 (IntKind.i64.wrap (s.j + 1))], 48,
    preZ s ++ [some ⟨true, .ints .u8 (some 16) s.b⟩, some ⟨true, .vals [.int true .u8 (tzX s)]⟩, some ⟨true, .ints .u8 (some 1) [tzX s]⟩]) := by
  obtain ⟨r, w, l, n, nb, p, e, o, b, i, j⟩ := s
  simp only at hs
  subst hs
  cases r <;> kernel_rfl
theorem zi_t1 (s : TzS) (hs : s.e = true) : seesL ziTs ((codeL Try.prog qP (deep Try.prog qP hz0 100 3) (fun _ _ => none) 100 (lp (blk 2 (bodyOf Try.prog 15))) ⟨tmOf (ups (fun _ => .top) (zipU ziTs (ziV s))) 48, ziM s⟩).go [true]) = some (tzD s ++ [decide (0 + s.o.length ≤ s.o.length), decide (s.o.length + 1 ≤ 1000000000)], 0, [.ptr false 0 0, .slice false 2 0 12 none 1, .slice true 3 0 s.n none 1, .slice true 7 0 (s.o.length + 1) none 1, .int true .i64 s.i, .ptr false 5 0, .int true .i64 (IntKind.i64.wrap (s.j + 1))], 48,
    preZ s ++ [none, some ⟨true, .ints .u8 (some 16) s.b⟩, some ⟨true, .vals [.int true .u8 (tzX s)]⟩, some ⟨true, .ints .u8 none ((s.o.drop 0).take s.o.length ++ [tzX s])⟩]) := by
  obtain ⟨r, w, l, n, nb, p, e, o, b, i, j⟩ := s
  simp only at hs
  subst hs
  cases r <;> kernel_rfl
theorem zi_f (s : TzS) (hs : s.e = true) : seesL ziTs ((codeL Try.prog qP (deep Try.prog qP hz0 100 3) (fun _ _ => none) 100 (lp (blk 2 (bodyOf Try.prog 15))) ⟨tmOf (ups (fun _ => .top) (zipU ziTs (ziV s))) 48, ziM s⟩).go [false]) = some ([decide (s.n < 9223372036854775808), !decide (s.j < hiT s.n s.i)], 4, ziV s, 48, ziM s) := by
  obtain ⟨r, w, l, n, nb, p, e, o, b, i, j⟩ := s
  simp only at hs
  subst hs
  cases r <;> kernel_rfl
structure ZiJ (q s : TzS) (a t : Nat) : Prop where
  hi : q.i = (a : Int)
  ha : a < q.n
  hn : q.n < 1000000000
  hnb : q.n ≤ q.nb
  ho : q.o.length = a
  ht : t ≤ eT q.n q.i
  same : s = { q with e := s.e, o := q.o ++ cvP q.p q.b a t, j := ((a + t : Nat) : Int) }
  e0 : t = 0 → s.e = q.e
  e1 : 0 < t → s.e = true
  e2 : q.e = false → q.o = []
set_option maxHeartbeats 2000000 in
theorem zi_lok {Λ : LoopH} (hΛ : LOkN 4 Try.prog (bodyOf Try.prog 15) Λ) : LOkN 4 Try.prog (bodyOf Try.prog 15) (ziΛ Λ) := by
  show LOkN 4 _ _ (famH 2 48 ziTs ziP (fun q => q.2) ziF Λ)
  refine famR_ok (q := qP) (H := deep Try.prog qP hz0 100 3) (Λ0 := fun _ _ => none) (n := 100) (fun q : TzS × List Bool => ziV q.1) (fun q => ziM q.1) (fun q s => ∃ a t, ZiJ q.1 s.1 a t) (fun s => (hiT s.1.n s.1.i - s.1.j).toNat) mixed (hz0_ok.deep (q := qP) mixed noCount 100 3) hΛ LOkN.none (by kernel_rfl) (by kernel_rfl) (fun avs m q h ho => ?_) (fun q s hJ => ?_)
  · unfold ziP at h
    split at h
    · rename_i n on i j kb w l nb p o b
      split at h
      case h_2 => cases h
      rename_i r ok hkb
      cases h
      obtain ⟨ho, hok⟩ := paid_append.1 ho
      obtain rfl := kyP_ok hkb hok
      have o0 := of_decide_eq_true (ho _ (List.mem_cons_self ..))
      have o1 := of_decide_eq_true (ho _ (List.mem_cons_of_mem _ (List.mem_cons_self ..)))
      have o2 := of_decide_eq_true (ho _ (List.mem_cons_of_mem _ (List.mem_cons_of_mem _ (List.mem_cons_self ..))))
      have o3 := of_decide_eq_true (ho _ (List.mem_cons_of_mem _ (List.mem_cons_of_mem _ (List.mem_cons_of_mem _ (List.mem_cons_self ..)))))
      have o4 := of_decide_eq_true (ho _ (List.mem_cons_of_mem _ (List.mem_cons_of_mem _ (List.mem_cons_of_mem _ (List.mem_cons_of_mem _ (List.mem_cons_self ..))))))
      have o5 := of_decide_eq_true (ho _ (List.mem_cons_of_mem _ (List.mem_cons_of_mem _ (List.mem_cons_of_mem _ (List.mem_cons_of_mem _ (List.mem_cons_of_mem _ (List.mem_cons_self ..)))))))
      have o6 := of_decide_eq_true (ho _ (List.mem_cons_of_mem _ (List.mem_cons_of_mem _ (List.mem_cons_of_mem _ (List.mem_cons_of_mem _ (List.mem_cons_of_mem _ (List.mem_cons_of_mem _ (List.mem_cons_self ..))))))))
      subst o0 o1
      refine ⟨(⟨r, w, l, n, nb, p, true, o, b, j, j⟩, []), id, ?_, _, 0, ⟨(Int.toNat_of_nonneg o2).symm, by simp only; omega, o4, o5, by simp only at o6 ⊢; omega, Nat.zero_le _, by simp only [Nat.add_zero, Int.toNat_of_nonneg o2, cvP, List.range_zero, List.map_nil, List.append_nil], fun _ => rfl, fun h => by omega, fun h => by cases h⟩⟩
      exact goes_pre (g := id) (vals := [.ptr false 0 0, .slice false 2 0 12 none 1, .slice true 3 0 n none 1, .slice true 4 0 o.length none 1, .int true .i64 j, .ptr false 5 0, .int true .i64 j]) (pre := preZ ⟨r, w, l, n, nb, p, true, o, b, j, j⟩) (m' := [some ⟨true, .ints .u8 none o⟩, some ⟨true, .ints .u8 (some 16) b⟩]) (rest := [some ⟨true, .ints .u8 none o⟩, some ⟨true, .ints .u8 (some 16) b⟩]) (.cons (.refl _) (.cons (.refl _) (.cons (.refl _) (.cons (.refl _) (.cons (.refl _) (.cons (.refl _) (.cons (.refl _) (.nil)))))))) (preZ_len _) (preZ_b _) ⟨⟨_, rfl, .refl _⟩, ⟨_, rfl, .refl _⟩, trivial⟩ rfl rfl rfl rfl
    · rename_i n i j kb w l nb p b
      split at h
      case h_2 => cases h
      rename_i r ok hkb
      cases h
      obtain ⟨ho, hok⟩ := paid_append.1 ho
      obtain rfl := kyP_ok hkb hok
      have o1 := of_decide_eq_true (ho _ (List.mem_cons_of_mem _ (List.mem_cons_self ..)))
      have o2 := of_decide_eq_true (ho _ (List.mem_cons_of_mem _ (List.mem_cons_of_mem _ (List.mem_cons_self ..))))
      have o3 := of_decide_eq_true (ho _ (List.mem_cons_of_mem _ (List.mem_cons_of_mem _ (List.mem_cons_of_mem _ (List.mem_cons_self ..)))))
      have o4 := of_decide_eq_true (ho _ (List.mem_cons_of_mem _ (List.mem_cons_of_mem _ (List.mem_cons_of_mem _ (List.mem_cons_of_mem _ (List.mem_cons_self ..))))))
      have o5 := of_decide_eq_true (ho _ (List.mem_cons_of_mem _ (List.mem_cons_of_mem _ (List.mem_cons_of_mem _ (List.mem_cons_of_mem _ (List.mem_cons_of_mem _ (List.mem_cons_self ..)))))))
      have o6 := of_decide_eq_true (ho _ (List.mem_cons_of_mem _ (List.mem_cons_of_mem _ (List.mem_cons_of_mem _ (List.mem_cons_of_mem _ (List.mem_cons_of_mem _ (List.mem_cons_of_mem _ (List.mem_cons_self ..))))))))
      subst o1
      refine ⟨(⟨r, w, l, n, nb, p, false, [], b, j, j⟩, []), id, ?_, _, 0, ⟨(Int.toNat_of_nonneg o2).symm, by simp only; omega, o4, o5, by simp only [List.length_nil]; omega, Nat.zero_le _, by simp only [Nat.add_zero, Int.toNat_of_nonneg o2, cvP, List.range_zero, List.map_nil, List.append_nil], fun _ => rfl, fun h => by omega, fun h => rfl⟩⟩
      exact goes_pre (g := id) (vals := [.ptr false 0 0, .slice false 2 0 12 none 1, .slice true 3 0 n none 1, .nilslice, .int true .i64 j, .ptr false 4 0, .int true .i64 j]) (pre := preZ ⟨r, w, l, n, nb, p, false, [], b, j, j⟩) (m' := [some ⟨true, .ints .u8 (some 16) b⟩]) (rest := [some ⟨true, .ints .u8 (some 16) b⟩]) (.cons (.refl _) (.cons (.refl _) (.cons (.refl _) (.cons (.refl _) (.cons (.refl _) (.cons (.refl _) (.cons (.refl _) (.nil)))))))) (preZ_len _) (preZ_b _) ⟨⟨_, rfl, .refl _⟩, trivial⟩ rfl rfl rfl rfl
    · cases h
  · obtain ⟨a, t, hi, ha, hn, hnb, hol, ht, same, e0, e1, e2⟩ := hJ
    obtain ⟨q, bq⟩ := q
    obtain ⟨s, bs⟩ := s
    obtain ⟨r, w, l, n, nb, p, e, o, b, i, j⟩ := q
    simp only at hi ha hn hnb hol ht same e0 e1 e2
    obtain ⟨se, hse⟩ : ∃ x, s.e = x := ⟨_, rfl⟩
    rw [hse] at same e0 e1
    subst same hi
    have hE := eT_of n a hn ha
    have hH := hiT_of n a hn ha
    by_cases hend : t = eT n (a : Int)
    · have hse1 : se = true := e1 (by omega)
      subst hse1
      refine RoundR.out (zi_f _ rfl) rfl id (paid_cons (decide_eq_true (by simp only; omega)) (paid_cons (by simp only [hH, Bool.not_eq_true', decide_eq_false_iff_not]; omega) Paid.nil)) ?_
      have fe : ziE ⟨r, w, l, n, nb, p, e, o, b, (a : Int), j⟩ = ⟨r, w, l, n, nb, p, true, o ++ cvP p b a t, b, (a : Int), j⟩ := by
        unfold ziE
        simp only [hend, Int.toNat_natCast]
      show Goes 4 id ziTs _ _ (zipU zoTs (zoV (ziE ⟨r, w, l, n, nb, p, e, o, b, (a : Int), j⟩))) (ziM (ziE ⟨r, w, l, n, nb, p, e, o, b, (a : Int), j⟩))
      rw [fe]
      exact ⟨fun p0 hp => by
        simp only [zoTs, zoV, zipU, List.mem_cons, List.not_mem_nil, or_false] at hp
        rcases hp with rfl | rfl | rfl | rfl | rfl
        · exact ⟨.ptr false 0 0, by simp [ziTs, ziV, zipU], .refl _⟩
        · exact ⟨.slice false 2 0 12 none 1, by simp [ziTs, ziV, zipU], .refl _⟩
        · exact ⟨.slice true 3 0 n none 1, by simp [ziTs, ziV, zipU], .refl _⟩
        · exact ⟨.slice true 4 0 (o ++ cvP p b a t).length none 1, by simp [ziTs, ziV, zipU, outZ], .refl _⟩
        · exact ⟨.int true .i64 (a : Int), by simp [ziTs, ziV, zipU], .refl _⟩, goes_memZ (preZ_len _) (preZ_b _) ⟨⟨_, rfl, .refl _⟩, ⟨_, rfl, .refl _⟩, trivial⟩, rfl, rfl, Nat.le_of_ble_eq_true rfl, goes_bndZ (preZ_len _) (preZ_b _) rfl, rfl⟩
    · have hw : IntKind.i64.wrap (((a + t : Nat) : Int) + 1) = ((a + (t + 1) : Nat) : Int) := by unfold IntKind.wrap; simp [IntKind.bits, IntKind.signed]; omega
      have hs2 : IntKind.i64.wrap (((a + t : Nat) : Int) - (a : Int)) = (t : Int) := by unfold IntKind.wrap; simp [IntKind.bits, IntKind.signed]; omega
      have hD : ∀ e', Paid (tzD ⟨r, w, l, n, nb, p, e', o ++ cvP p b a t, b, (a : Int), ((a + t : Nat) : Int)⟩) := fun e' => by
        unfold tzD
        simp only [hs2, hH]
        exact paid_cons (decide_eq_true (by omega)) (paid_cons (decide_eq_true (by omega)) (paid_cons (by rw [decide_eq_true (by omega), decide_eq_true (by omega)]; rfl) (paid_cons (decide_eq_true (by omega)) (paid_cons (by rw [decide_eq_true (by omega), decide_eq_true (by omega)]; rfl) (paid_cons (decide_eq_true (by omega)) Paid.nil)))))
      have hX : ∀ e', tzX ⟨r, w, l, n, nb, p, e', o ++ cvP p b a t, b, (a : Int), ((a + t : Nat) : Int)⟩ = ixor .u8 (p.getD (a + t) 0) (b.getD t 0) := fun e' => by
        unfold tzX
        simp only [hs2]
        rw [show 0 + ((a + t : Nat) : Int).toNat * 1 = a + t by omega, show 0 + ((t : Nat) : Int).toNat * 1 = t by omega]
      have hL : cvP p b a (t + 1) = cvP p b a t ++ [ixor .u8 (p.getD (a + t) 0) (b.getD t 0)] := cvP_succ p b a t
      cases se with
      | false =>
        have ht0 : t = 0 := by
          by_cases h : t = 0
          · exact h
          · have := e1 (by omega); cases this
        subst ht0
        have he := (e0 rfl).symm
        subst he
        obtain rfl := e2 rfl
        refine RoundR.on (zi_t0 _ rfl) (⟨r, w, l, n, nb, p, true, [] ++ cvP p b a (0 + 1), b, (a : Int), ((a + (0 + 1) : Nat) : Int)⟩, bs) (fun n => [0, 1, 2, 3, 6, 4].getD n 0) (hD false) ?_ ⟨a, 1, rfl, ha, hn, hnb, hol, by simp only; omega, rfl, fun h => by omega, fun _ => rfl, e2⟩ (by simp only [hH]; omega)
        rw [hX]
        simp only [hL]
        exact goes_pre (pre := preZ ⟨r, w, l, n, nb, p, true, [], b, (a : Int), ((a + (0 + 1) : Nat) : Int)⟩) (.cons (.refl _) (.cons (.refl _) (.cons (.refl _) (.cons (.slice _ _ _ _ _ _ _ _ (Or.inl rfl)) (.cons (.refl _) (.cons (.refl _) (.cons (by simp only [hw]; exact .refl _) .nil))))))) (preZ_len _) (preZ_b _) ⟨⟨_, rfl, .free _ _ _⟩, ⟨_, rfl, .refl _⟩, trivial⟩ rfl rfl rfl rfl
      | true =>
        have hlen : (o ++ cvP p b a t).length = a + t := by rw [List.length_append, hol]; simp [cvP]
        refine RoundR.on (zi_t1 _ rfl) (⟨r, w, l, n, nb, p, true, o ++ cvP p b a (t + 1), b, (a : Int), ((a + (t + 1) : Nat) : Int)⟩, bs) (fun n => [0, 1, 2, 3, 7, 5].getD n 0) (paid_append.2 ⟨hD true, paid_cons (decide_eq_true (by simp only; omega)) (paid_cons (decide_eq_true (by simp only [hlen]; omega)) Paid.nil)⟩) ?_ ⟨a, t + 1, rfl, ha, hn, hnb, hol, by simp only; omega, rfl, fun h => by omega, fun _ => rfl, e2⟩ (by simp only [hH]; omega)
        rw [hX]
        have hll : (o ++ cvP p b a t).length + 1 = (o ++ cvP p b a (t + 1)).length := by rw [hL]; simp [Nat.add_assoc]
        have hcc : ((o ++ cvP p b a t).drop 0).take (o ++ cvP p b a t).length ++ [ixor .u8 (p.getD (a + t) 0) (b.getD t 0)] = o ++ cvP p b a (t + 1) := by rw [List.drop_zero, List.take_of_length_le (Nat.le_refl _), hL, List.append_assoc]
        simp only [hll, hcc]
        exact goes_pre (pre := preZ ⟨r, w, l, n, nb, p, true, [], b, (a : Int), ((a + (t + 1) : Nat) : Int)⟩) (.cons (.refl _) (.cons (.refl _) (.cons (.refl _) (.cons (.refl _) (.cons (.refl _) (.cons (.refl _) (.cons (by simp only [hw]; exact .refl _) .nil))))))) (preZ_len _) (preZ_b _) ⟨⟨_, rfl, .refl _⟩, ⟨_, rfl, .refl _⟩, trivial⟩ rfl rfl rfl rfl
def zoP : List AV → Mem → Option (TzS × List Bool)
  | [.ptr false 0 0, .slice false 2 0 12 none 1, .slice true 3 0 n none 1, .nilslice, .int false .i64 i], [kb, some ⟨false, .ints .i64 none w⟩, some ⟨false, .ints .u8 (some 12) l⟩, some ⟨false, .ints .u8 (some nb) p⟩] =>
    match kyP kb with
    | some (r, ok) => some (⟨r, w, l, n, nb, p, false, [], [], i, 0⟩, [decide (i = 0), decide (1 ≤ n), decide (n < 1000000000), decide (n ≤ nb), decide (w.length = 4 * kwN r), w.all (inR .u8)] ++ ok)
    | none => none
  | _, _ => none
def zoE (s : TzS) : TzS := { s with e := true, o := tuR s.w (rds s.r) s.l s.p s.n ((s.n + 15) / 16) }
def zoF (q : TzS × List Bool) : List (Nat × AV) × Mem := ([(7, .slice true 4 0 (zoE q.1).o.length none 1)], zoM (zoE q.1))
def zoΛ (Λ : LoopH) : LoopH := famH 0 48 zoTs zoP (fun q => q.2) zoF Λ
def zoN (s : TzS) : TzS := { s with e := true, o := s.o ++ cvP s.p (mkR s.w (rds s.r) s.l (s.i.tdiv 16)) s.i.toNat (eT s.n s.i), i := IntKind.i64.wrap (s.i + 16) }
def zoD (s : TzS) : List Bool := [decide (s.n < 9223372036854775808), decide (s.i < (s.n : Int)), decide (s.w.length = 4 * kwN s.r), s.w.all (inR .u8), decide (s.o.length = s.o.length), decide (s.i = s.i), decide (0 ≤ s.i), decide (s.i < (s.n : Int)), decide (s.n < 1000000000), decide (s.n ≤ s.nb), decide ((s.o.length : Int) = s.i), true, true, true]
theorem zo_t0 (s : TzS) (hs : s.e = false) (h0 : s.o = []) : seesL zoTs ((codeL Try.prog qP (deep Try.prog qP hz0 100 3) (ziΛ fun _ _ => none) 100 (lp (blk 0 (bodyOf Try.prog 15))) ⟨tmOf (ups (fun _ => .top) (zipU zoTs (zoV s))) 48, zoM s⟩).go [true]) = some (zoD s, 0, zoV (zoN s), 48, preZ s ++ [some ⟨true, .ints .u8 none (zoN s).o⟩, some ⟨true, .ints .u8 (some 16) (mkR s.w (rds s.r) s.l (s.i.tdiv 16))⟩]) := by
  obtain ⟨r, w, l, n, nb, p, e, o, b, i, j⟩ := s
  simp only at hs h0
  subst hs h0
  cases r <;> kernel_rfl
theorem zo_t1 (s : TzS) (hs : s.e = true) : seesL zoTs ((codeL Try.prog qP (deep Try.prog qP hz0 100 3) (ziΛ fun _ _ => none) 100 (lp (blk 0 (bodyOf Try.prog 15))) ⟨tmOf (ups (fun _ => .top) (zipU zoTs (zoV s))) 48, zoM s⟩).go [true]) = some (zoD s, 0, zoV (zoN s), 48, preZ s ++ [some ⟨true, .ints .u8 none (zoN s).o⟩, some ⟨true, .ints .u8 (some 16) (mkR s.w (rds s.r) s.l (s.i.tdiv 16))⟩]) := by
  obtain ⟨r, w, l, n, nb, p, e, o, b, i, j⟩ := s
  simp only at hs
  subst hs
  cases r <;> kernel_rfl
theorem zo_f (s : TzS) (hs : s.e = true) : seesL zoTs ((codeL Try.prog qP (deep Try.prog qP hz0 100 3) (ziΛ fun _ _ => none) 100 (lp (blk 0 (bodyOf Try.prog 15))) ⟨tmOf (ups (fun _ => .top) (zipU zoTs (zoV s))) 48, zoM s⟩).go [false]) = some ([decide (s.n < 9223372036854775808), !decide (s.i < (s.n : Int))], 2, zoV s, 48, zoM s) := by
  obtain ⟨r, w, l, n, nb, p, e, o, b, i, j⟩ := s
  simp only at hs
  subst hs
  cases r <;> kernel_rfl
structure ZoJ (q s : TzS) (a : Nat) : Prop where
  h1 : 1 ≤ q.n
  hn : q.n < 1000000000
  hnb : q.n ≤ q.nb
  hw : q.w.length = 4 * kwN q.r
  hr : q.w.all (inR .u8) = true
  ha : a ≤ (q.n + 15) / 16
  same : s = { q with e := s.e, o := tuR q.w (rds q.r) q.l q.p q.n a, i := ((16 * a : Nat) : Int) }
  e0 : a = 0 → s.e = false
  e1 : 0 < a → s.e = true
theorem zo_lok {Λ : LoopH} (hΛ : LOkN 4 Try.prog (bodyOf Try.prog 15) Λ) : LOkN 4 Try.prog (bodyOf Try.prog 15) (zoΛ Λ) := by
  show LOkN 4 _ _ (famH 0 48 zoTs zoP (fun q => q.2) zoF Λ)
  refine famR_ok (q := qP) (H := deep Try.prog qP hz0 100 3) (Λ0 := ziΛ fun _ _ => none) (n := 100) (fun q : TzS × List Bool => zoV q.1) (fun q => zoM q.1) (fun q s => ∃ a, ZoJ q.1 s.1 a) (fun s => s.1.n + 15 - s.1.i.toNat) mixed (hz0_ok.deep (q := qP) mixed noCount 100 3) hΛ (zi_lok LOkN.none) (by kernel_rfl) (by kernel_rfl) (fun avs m q h ho => ?_) (fun q s hJ => ?_)
  · unfold zoP at h
    split at h
    · rename_i n i kb w l nb p
      split at h
      case h_2 => cases h
      rename_i r ok hkb
      cases h
      obtain ⟨ho, hok⟩ := paid_append.1 ho
      obtain rfl := kyP_ok hkb hok
      have o0 := of_decide_eq_true (ho _ (List.mem_cons_self ..))
      have o1 := of_decide_eq_true (ho _ (List.mem_cons_of_mem _ (List.mem_cons_self ..)))
      have o2 := of_decide_eq_true (ho _ (List.mem_cons_of_mem _ (List.mem_cons_of_mem _ (List.mem_cons_self ..))))
      have o3 := of_decide_eq_true (ho _ (List.mem_cons_of_mem _ (List.mem_cons_of_mem _ (List.mem_cons_of_mem _ (List.mem_cons_self ..)))))
      have o4 := of_decide_eq_true (ho _ (List.mem_cons_of_mem _ (List.mem_cons_of_mem _ (List.mem_cons_of_mem _ (List.mem_cons_of_mem _ (List.mem_cons_self ..))))))
      have o5 := ho _ (List.mem_cons_of_mem _ (List.mem_cons_of_mem _ (List.mem_cons_of_mem _ (List.mem_cons_of_mem _ (List.mem_cons_of_mem _ (List.mem_cons_self ..))))))
      subst o0
      refine ⟨(⟨r, w, l, n, nb, p, false, [], [], 0, 0⟩, []), id, ?_, 0, o1, o2, o3, o4, o5, Nat.zero_le _, rfl, fun _ => rfl, fun h => by omega⟩
      exact goes_pre (g := id) (vals := [.ptr false 0 0, .slice false 2 0 12 none 1, .slice true 3 0 n none 1, .nilslice, .int true .i64 0]) (pre := preZ ⟨r, w, l, n, nb, p, false, [], [], 0, 0⟩) (m' := []) (rest := []) (.cons (.refl _) (.cons (.refl _) (.cons (.refl _) (.cons (.refl _) (.cons (.int _ _ _ _) .nil))))) (preZ_len _) (preZ_b _) trivial rfl rfl rfl rfl
    · cases h
  · obtain ⟨a, h1, hn, hnb, hwl, hwr, ha, same, e0, e1⟩ := hJ
    obtain ⟨q, bq⟩ := q
    obtain ⟨s, bs⟩ := s
    obtain ⟨r, w, l, n, nb, p, e, o, b, i, j⟩ := q
    simp only at h1 hn hnb hwl hwr ha same e0 e1
    obtain ⟨se, hse⟩ : ∃ x, s.e = x := ⟨_, rfl⟩
    rw [hse] at same e0 e1
    subst same
    have hlen := tuR_len w (rds r) l p hn a ha
    by_cases hend : a = (n + 15) / 16
    · have hse1 : se = true := e1 (by omega)
      subst hse1
      refine RoundR.out (zo_f _ rfl) rfl id (paid_cons (decide_eq_true (by simp only; omega)) (paid_cons (by simp only [Bool.not_eq_true', decide_eq_false_iff_not]; omega) Paid.nil)) ?_
      have fe : zoE ⟨r, w, l, n, nb, p, e, o, b, i, j⟩ = ⟨r, w, l, n, nb, p, true, tuR w (rds r) l p n a, b, i, j⟩ := by
        unfold zoE
        simp only [hend]
      show Goes 4 id zoTs _ _ [(7, .slice true 4 0 (zoE ⟨r, w, l, n, nb, p, e, o, b, i, j⟩).o.length none 1)] (zoM (zoE ⟨r, w, l, n, nb, p, e, o, b, i, j⟩))
      rw [fe]
      exact ⟨fun p0 hp => by
        simp only [List.mem_cons, List.not_mem_nil, or_false] at hp
        subst hp
        exact ⟨.slice true 4 0 (tuR w (rds r) l p n a).length none 1, by simp [zoTs, zoV, zipU, outZ], .refl _⟩, goes_memZ (pre := preZ ⟨r, w, l, n, nb, p, true, tuR w (rds r) l p n a, b, i, j⟩) (preZ_len _) (preZ_b _) ⟨⟨_, rfl, .refl _⟩, trivial⟩, rfl, rfl, Nat.le_of_ble_eq_true rfl, goes_bndZ (pre := preZ ⟨r, w, l, n, nb, p, true, tuR w (rds r) l p n a, b, i, j⟩) (preZ_len _) (preZ_b _) rfl, rfl⟩
    · have h16 : 16 * a < n := by omega
      have hw : IntKind.i64.wrap (((16 * a : Nat) : Int) + 16) = ((16 * (a + 1) : Nat) : Int) := by unfold IntKind.wrap; simp [IntKind.bits, IntKind.signed]; omega
      have hdv : ((16 * a : Nat) : Int).tdiv 16 = (a : Int) := by rw [Int.tdiv_eq_ediv_of_nonneg (by omega)]; omega
      have hD : ∀ e', Paid (zoD ⟨r, w, l, n, nb, p, e', tuR w (rds r) l p n a, b, ((16 * a : Nat) : Int), j⟩) := fun e' => by
        unfold zoD
        simp only
        exact paid_cons (decide_eq_true (by omega)) (paid_cons (decide_eq_true (by omega)) (paid_cons (decide_eq_true hwl) (paid_cons hwr (paid_cons (by simp) (paid_cons (by simp) (paid_cons (decide_eq_true (by omega)) (paid_cons (decide_eq_true (by omega)) (paid_cons (decide_eq_true hn) (paid_cons (decide_eq_true hnb) (paid_cons (decide_eq_true (by rw [hlen]; omega)) (paid_cons rfl (paid_cons rfl (paid_cons rfl Paid.nil)))))))))))))
      have hN : ∀ e', zoN ⟨r, w, l, n, nb, p, e', tuR w (rds r) l p n a, b, ((16 * a : Nat) : Int), j⟩ = ⟨r, w, l, n, nb, p, true, tuR w (rds r) l p n (a + 1), b, ((16 * (a + 1) : Nat) : Int), j⟩ := fun e' => by
        unfold zoN
        simp only [hdv, hw, tuR, Int.toNat_natCast]
      cases se with
      | false =>
        have ha0 : a = 0 := by
          by_cases h : a = 0
          · exact h
          · have := e1 (by omega); cases this
        subst ha0
        refine RoundR.on (zo_t0 _ rfl rfl) (⟨r, w, l, n, nb, p, true, tuR w (rds r) l p n (0 + 1), b, ((16 * (0 + 1) : Nat) : Int), j⟩, bs) id (hD false) ?_ ⟨0 + 1, h1, hn, hnb, hwl, hwr, by simp only; omega, rfl, fun h => by omega, fun _ => rfl⟩ (by simp only; omega)
        rw [hN]
        exact goes_pre (g := id) (vals := zoV ⟨r, w, l, n, nb, p, true, tuR w (rds r) l p n (0 + 1), b, ((16 * (0 + 1) : Nat) : Int), j⟩) (pre := preZ ⟨r, w, l, n, nb, p, true, tuR w (rds r) l p n (0 + 1), b, ((16 * (0 + 1) : Nat) : Int), j⟩) (rest := [some ⟨true, .ints .u8 none (tuR w (rds r) l p n (0 + 1))⟩]) (.cons (.refl _) (.cons (.refl _) (.cons (.refl _) (.cons (.refl _) (.cons (.refl _) (.nil)))))) (preZ_len _) (preZ_b _) ⟨⟨_, rfl, .refl _⟩, trivial⟩ rfl rfl rfl rfl
      | true =>
        refine RoundR.on (zo_t1 _ rfl) (⟨r, w, l, n, nb, p, true, tuR w (rds r) l p n (a + 1), b, ((16 * (a + 1) : Nat) : Int), j⟩, bs) id (hD true) ?_ ⟨a + 1, h1, hn, hnb, hwl, hwr, by simp only; omega, rfl, fun h => by omega, fun _ => rfl⟩ (by simp only; omega)
        rw [hN]
        exact goes_pre (g := id) (vals := zoV ⟨r, w, l, n, nb, p, true, tuR w (rds r) l p n (a + 1), b, ((16 * (a + 1) : Nat) : Int), j⟩) (pre := preZ ⟨r, w, l, n, nb, p, true, tuR w (rds r) l p n (a + 1), b, ((16 * (a + 1) : Nat) : Int), j⟩) (rest := [some ⟨true, .ints .u8 none (tuR w (rds r) l p n (a + 1))⟩]) (.cons (.refl _) (.cons (.refl _) (.cons (.refl _) (.cons (.refl _) (.cons (.refl _) (.nil)))))) (preZ_len _) (preZ_b _) ⟨⟨_, rfl, .refl _⟩, trivial⟩ rfl rfl rfl rfl
theorem tn_b (r : Bool) (w l : List Int) (n : Nat) (p : List Int) : seeV 4 ((funcL Try.prog qP (deep Try.prog qP hz0 100 3) (zoΛ fun _ _ => none) 100 15 (eArgs [.buf false .u8 12 l, .buf true .u8 n p]) (eMem (.slice true 1 0 (kwN r) none 4) [.ints .i64 256 sboxL, .int false .i64 (kNr r)] (.ints .i64 none w) [.buf false .u8 12 l, .buf true .u8 n p])).go []) = some ([true, decide (1 ≤ n), decide (n < 1000000000), decide (n ≤ n), decide (w.length = 4 * kwN r), w.all (inR .u8), true, true, true], .slice true 4 0 (tuR w (rds r) l p n ((n + 15) / 16)).length none 1, some (some ⟨true, .ints .u8 none (tuR w (rds r) l p n ((n + 15) / 16))⟩)) := by cases r <;> kernel_rfl
theorem tn_n (r : Bool) (w l : List Int) : seeV 50 ((funcL Try.prog qP (deep Try.prog qP hz0 100 3) (zoΛ fun _ _ => none) 100 15 (eArgs [.buf false .u8 12 l, .pl .nilslice]) (eMem (.slice true 1 0 (kwN r) none 4) [.ints .i64 256 sboxL, .int false .i64 (kNr r)] (.ints .i64 none w) [.buf false .u8 12 l, .pl .nilslice])).go []) = some ([], .nilslice, none) := by cases r <;> kernel_rfl
theorem tn_e (r : Bool) (w l : List Int) : seeV 50 ((funcL Try.prog qP (deep Try.prog qP hz0 100 3) (zoΛ fun _ _ => none) 100 15 (eArgs [.buf false .u8 12 l, .empty]) (eMem (.slice true 1 0 (kwN r) none 4) [.ints .i64 256 sboxL, .int false .i64 (kNr r)] (.ints .i64 none w) [.buf false .u8 12 l, .empty])).go []) = some ([], .nilslice, none) := by cases r <;> kernel_rfl
def tnS : AV → List AV → Cells → List V → E (AV × Mem)
  | .slice true 1 0 K none 4, [.ints .i64 256 T, .int false .i64 R], .ints .i64 none w, [.buf false .u8 12 l, B] => match kyP (some ⟨false, .wide [.slice true 1 0 K none 4, .ints .i64 256 T, .int false .i64 R]⟩) with
    | some (r, ok) => (match B with
      | .buf _ .u8 n p => some (ok ++ [decide (1 ≤ n), decide (n ≤ 900000000), decide (w.length = 4 * kwN r), w.all (inR .u8)], (.slice true 0 0 n none 1, [some ⟨true, .ints .u8 none (tuR w (rds r) l p n ((n + 15) / 16))⟩]))
      | .pl .nilslice => some (ok, (.nilslice, []))
      | .empty => some (ok, (.nilslice, []))
      | _ => none)
    | none => none
  | _, _, _, _ => none
theorem mark_e {ρ : Nat → Loc3} {N : Nat → Prop} {s : Bool} {n : Nat} {l p : List Int} {vs : List Value} (h : Reps ρ N (eArgs [.buf false .u8 12 l, .buf s .u8 n p]) vs) : Reps ρ N (eArgs [.buf false .u8 12 l, .buf true .u8 n p]) vs := by
  cases h with
  | cons _ _ u us a0 hs =>
  cases hs with
  | cons _ _ u1 us1 a1 hs =>
  cases hs with
  | cons _ _ u2 us2 a2 hs => exact .cons _ _ _ _ a0 (.cons _ _ _ _ a1 (.cons _ _ _ _ (marked true a2) hs))
theorem tn_ok {sl : AV} {r : List AV} {d : Cells} {xs : List V} {o : List Bool} {v : AV} {bs : Mem} (h : tnS sl r d xs = some (o, (v, bs))) (ho : Paid o) : RCall Try.prog 15 (eArgs xs) (eMem sl r d xs) v bs := by
  have hΛ : ∀ (fn : Func) (c : Code), Try.prog.funcs[15]? = some fn → fn.body = some c → LOkN 4 Try.prog c (zoΛ fun _ _ => none) := fun fn c hf hb => by rw [bodyOf_eq hf hb]; exact zo_lok LOkN.none
  unfold tnS at h
  split at h
  case h_2 => cases h
  rename_i K T R w l B
  split at h
  case h_2 => cases h
  rename_i r ok hk
  split at h
  · rename_i s n p
    cases h
    obtain ⟨q1, q2⟩ := paid_append.1 ho
    have ek := kyP_ok hk q1
    have o0 := of_decide_eq_true (q2 _ (List.mem_cons_self ..))
    have o1 := of_decide_eq_true (q2 _ (List.mem_cons_of_mem _ (List.mem_cons_self ..)))
    have o2 := q2 _ (List.mem_cons_of_mem _ (List.mem_cons_of_mem _ (List.mem_cons_self ..)))
    have o3 := q2 _ (List.mem_cons_of_mem _ (List.mem_cons_of_mem _ (List.mem_cons_of_mem _ (List.mem_cons_self ..))))
    simp only [kyB, Option.some.injEq, Blk.mk.injEq, Cells.wide.injEq, List.cons.injEq, AV.slice.injEq, AV.ints.injEq, AV.int.injEq, true_and, and_true] at ek
    obtain ⟨rfl, rfl, rfl⟩ := ek
    intro ρ vs W ha hi
    have ev := tn_b r w l n p
    rw [tuR_len w (rds r) l p (show n < 1000000000 by omega) ((n + 15) / 16) (Nat.le_refl _), show min (16 * ((n + 15) / 16)) n = n by omega] at ev
    exact rcall_one (cas := eArgs [.buf false .u8 12 l, .buf true .u8 n p]) (M := eMem (.slice true 1 0 (kwN r) none 4) [.ints .i64 256 sboxL, .int false .i64 (kNr r)] (.ints .i64 none w) [.buf false .u8 12 l, .buf true .u8 n p]) mixed noCount (hz0_ok.deep (q := qP) mixed noCount 100 3) hΛ (v := .slice true 0 0 n none 1) [] 4 ev (paid_cons rfl (paid_cons (decide_eq_true o0) (paid_cons (decide_eq_true (by omega)) (paid_cons (decide_eq_true (Nat.le_refl _)) (paid_cons o2 (paid_cons o3 (paid_cons rfl (paid_cons rfl (paid_cons rfl Paid.nil))))))))) (Nat.le_refl _) rfl rfl (mark_e ha) hi
  · cases h
    have ek := kyP_ok hk ho
    simp only [kyB, Option.some.injEq, Blk.mk.injEq, Cells.wide.injEq, List.cons.injEq, AV.slice.injEq, AV.ints.injEq, AV.int.injEq, true_and, and_true] at ek
    obtain ⟨rfl, rfl, rfl⟩ := ek
    intro ρ vs W ha hi
    exact rcall_none mixed noCount (hz0_ok.deep (q := qP) mixed noCount 100 3) hΛ [] 50 (tn_n r w l) Paid.nil rfl rfl rfl rfl ha hi
  · cases h
    have ek := kyP_ok hk ho
    simp only [kyB, Option.some.injEq, Blk.mk.injEq, Cells.wide.injEq, List.cons.injEq, AV.slice.injEq, AV.ints.injEq, AV.int.injEq, true_and, and_true] at ek
    obtain ⟨rfl, rfl, rfl⟩ := ek
    intro ρ vs W ha hi
    exact rcall_none mixed noCount (hz0_ok.deep (q := qP) mixed noCount 100 3) hΛ [] 50 (tn_e r w l) Paid.nil rfl rfl rfl rfl ha hi
  · cases h
def hz1 : CallH := withE 15 tnS hz0
theorem hz1_ok : HOk Try.prog hz1 := hz0_ok.withE fun _ _ _ _ _ _ _ h ho => tn_ok h ho
end Go.Proofs.Ytfmgodgakndjcaa
namespace Go.Gc
open Go.Ev Go.Sh Go.As
theorem shr3 (N : Int) (h : 0 ≤ N) : ishr .u32 (ishr .u32 N 8) 8 = ishr .u32 N 16 ∧ ishr .u32 (ishr .u32 (ishr .u32 N 8) 8) 8 = ishr .u32 N 24 ∧ ishr .u32 N 0 = N := by
  have e : ∀ (x : Int) (s : Nat), s ≤ 32 → ishr .u32 x (s : Int) = x.fdiv (2 ^ s) := fun x s hs => by
    unfold ishr
    rw [show min ((s : Int).toNat) IntKind.u32.bits = s by show min _ 32 = s; omega]
  have e8 : ∀ x : Int, ishr .u32 x 8 = x.fdiv 256 := fun x => e x 8 (by omega)
  have e16 : ishr .u32 N 16 = N.fdiv 65536 := e N 16 (by omega)
  have e24 : ishr .u32 N 24 = N.fdiv 16777216 := e N 24 (by omega)
  have e0 : ishr .u32 N 0 = N.fdiv 1 := e N 0 (by omega)
  rw [e8, e8, e8, e16, e24, e0]
  simp only [Int.fdiv_eq_ediv_of_nonneg _ (show (0 : Int) ≤ 256 by decide), Int.fdiv_eq_ediv_of_nonneg _ (show (0 : Int) ≤ 65536 by decide), Int.fdiv_eq_ediv_of_nonneg _ (show (0 : Int) ≤ 16777216 by decide), Int.fdiv_eq_ediv_of_nonneg _ (show (0 : Int) ≤ 1 by decide)]
  omega
theorem ctr_same (l : List Int) (N : Int) (h : 0 ≤ N) : ctrR l N = ctrB l N := by
  obtain ⟨h1, h2, h3⟩ := shr3 N h
  unfold ctrR ctrB
  rw [h1, h3]
  rw [← h1, h2]
theorem mk_same {N : Nat} (hN : N = 4 ∨ N = 8) {k : List Int} (hk : k.length = 4 * N) (hr : ∀ x ∈ k, B8 x) (l : List Int) (a : Nat) (ha : a < 100000000) : mkR (specW N k (4 * (N + 7))) (N + 6) l (a : Int) = mkB (keyL N k) (N + 6) l (a : Int) := by
  have e1 : IntKind.i64.wrap (a : Int) = (a : Int) := by unfold IntKind.wrap; simp [IntKind.bits, IntKind.signed]; omega
  have e2 : IntKind.i64.wrap (2 + (a : Int)) = 2 + (a : Int) := by unfold IntKind.wrap; simp [IntKind.bits, IntKind.signed]; omega
  have e3 : IntKind.u32.wrap (2 + (a : Int)) = 2 + (a : Int) := by unfold IntKind.wrap; simp [IntKind.bits, IntKind.signed]; omega
  have e4 : IntKind.u32.wrap (a : Int) = (a : Int) := by unfold IntKind.wrap; simp [IntKind.bits, IntKind.signed]; omega
  unfold mkR mkB
  rw [e1, e2, e4, e3, ctr_same _ _ (by omega), enc_same hN hk hr]
theorem turn_same {N : Nat} (hN : N = 4 ∨ N = 8) {k : List Int} (hk : k.length = 4 * N) (hr : ∀ x ∈ k, B8 x) (l p : List Int) {n : Nat} (hn : n < 1000000000) : ∀ a, a ≤ (n + 15) / 16 → tuR (specW N k (4 * (N + 7))) (N + 6) l p n a = cvL (keyL N k) (N + 6) l p (min (16 * a) n)
  | 0, _ => by simp [tuR, cvL]
  | a + 1, h => by
    have e := eT_of n (16 * a) hn (by omega)
    unfold tuR
    rw [turn_same hN hk hr l p hn a (by omega), mk_same hN hk hr l a (by omega)]
    have e1 : min (16 * a) n = 16 * a := by omega
    have e2 : min (16 * (a + 1)) n = 16 * a + eT n ((16 * a : Nat) : Int) := by omega
    rw [e1, e2]
    generalize hT : eT n ((16 * a : Nat) : Int) = T at e e2
    unfold cvL cvP
    rw [List.range_add, List.map_append, List.map_map]
    refine congrArg (fun z => List.map (cvx (keyL N k) (N + 6) l p) (List.range (16 * a)) ++ z) ?_
    refine List.map_congr_left fun q hq => ?_
    have hq' := List.mem_range.1 hq
    show _ = cvx _ _ _ _ (16 * a + q)
    unfold cvx
    rw [show (16 * a + q) / 16 = a by omega, show (16 * a + q) % 16 = q by omega]
/-- The reference's tag. -/
def tagR (w : List Int) (rr : Nat) (l a : List Int) (m : Nat) (q : List Int) (n : Nat) : List Int := x16 (hashG (encB w rr Z16) a m q n) (encB w rr (ctrR l 1))
theorem tag_same {N : Nat} (hN : N = 4 ∨ N = 8) {k : List Int} (hk : k.length = 4 * N) (hr : ∀ x ∈ k, B8 x) (l a : List Int) (m : Nat) (q : List Int) (n : Nat) : tagR (specW N k (4 * (N + 7))) (N + 6) l a m q n = tagB (keyL N k) (N + 6) l a m q n := by
  unfold tagR tagB
  rw [ctr_same _ _ (by decide), enc_same hN hk hr, enc_same hN hk hr]
end Go.Gc
