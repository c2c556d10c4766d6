/- The law of linear hashes: its loop as a family. Own work. -/
import Derived.Test.YtljndahfackolaaQGcD
import Derived.Test.YtljndahfackolaaQEvIn
set_option linter.unusedSimpArgs false
set_option linter.unusedVariables false
set_option linter.unusedSectionVars false
namespace Go.Gc
open Go.Ev Go.Sh
structure LnS where
  nh : List Int
  n : Nat
  l : List Int
  m : Nat
  q : List Int
  k : Nat
  d : Int
  e : Bool
  c : List Int
  cl : Nat
  i : Int
def xr (l q : List Int) (i : Nat) : Int := ixor .u8 (l.getD (0 + i * 1) 0) (q.getD (0 + i * 1) 0)
def xrL (l q : List Int) (k : Nat) : List Int := (List.range k).map (xr l q)
theorem xrL_succ (l q : List Int) (k : Nat) : xrL l q (k + 1) = xrL l q k ++ [xr l q k] := by unfold xrL; rw [List.range_succ, List.map_append]; rfl
end Go.Gc
namespace Go.Proofs.Ytljndahfackolaa
open Go.Ev Go.Sh Go.As Go.Gc
set_option maxRecDepth 100000
def hgL : CallH := withC 8 gsS hg3
theorem hgL_ok : HOk Try.prog hgL := hg3_ok.withC fun _ _ _ h _ => gsound_ok h
def lnTs : List Nat := [1, 2, 3, 7, 8, 28, 29]
def lnV (s : LnS) : List AV := [.slice true 1 0 s.k none 1, .slice true 2 0 s.k none 1, .ptr false 3 0, .int true .i64 s.d, (match s.e with | true => .slice true 4 0 s.cl none 1 | false => .nilslice), .int true .i64 s.d, .int true .i64 s.i]
def lnM (s : LnS) : Mem := match s.e with
  | true => [none, some ⟨false, .ints .u8 (some s.n) s.l⟩, some ⟨false, .ints .u8 (some s.m) s.q⟩, some ⟨true, .ints .u8 (some 16) s.nh⟩, some ⟨true, .ints .u8 none s.c⟩]
  | false => [none, some ⟨false, .ints .u8 (some s.n) s.l⟩, some ⟨false, .ints .u8 (some s.m) s.q⟩, some ⟨true, .ints .u8 (some 16) s.nh⟩]
def lnP : List AV → Mem → Option (LnS × List Bool)
  | [.slice true 1 0 k none 1, .slice true 2 0 k2 none 1, .ptr false 3 0, .int true .i64 d, .nilslice, .int true .i64 d2, .int false .i64 i], [none, some ⟨false, .ints .u8 (some n) l⟩, some ⟨false, .ints .u8 (some m) q⟩, some ⟨true, .ints .u8 (some 16) h⟩] =>
    some (⟨h, n, l, m, q, k, d, false, [], 0, i⟩, [decide (k2 = k), decide (d2 = d)])
  | _, _ => none
def lnO (p : LnS × List Bool) : List Bool := p.2 ++ [decide (p.1.i = 0), decide (p.1.d = (p.1.k : Int)), decide (1 ≤ p.1.k), decide (p.1.k ≤ p.1.n), decide (p.1.k ≤ p.1.m), decide (p.1.k ≤ 200)]
def lnE (s : LnS) : LnS := { s with e := true, c := xrL s.l s.q s.k, cl := s.k }
def lnF (p : LnS × List Bool) : List (Nat × AV) × Mem := ([(1, .slice true 1 0 p.1.k none 1), (2, .slice true 2 0 p.1.k none 1), (3, .ptr false 3 0), (7, .int true .i64 p.1.d), (8, .slice true 4 0 p.1.k none 1)], lnM (lnE p.1))
def lnΛ : LoopH := famH 0 77 lnTs lnP lnO lnF fun _ _ => none
def lnD (s : LnS) : List Bool := [decide (s.i < s.d), decide (0 ≤ s.i) && decide (s.i < (s.k : Int)), decide (0 + s.i.toNat * 1 + 1 ≤ s.n), decide (0 ≤ s.i) && decide (s.i < (s.k : Int)), decide (0 + s.i.toNat * 1 + 1 ≤ s.m)]
theorem ln_t0 (s : LnS) (hs : s.e = false) : seesL lnTs ((codeL Try.prog qP (deep Try.prog qP hgL 100 3) (fun _ _ => none) 100 (lp (blk 0 (bodyOf Try.prog 7))) ⟨tmOf (ups (fun _ => .top) (zipU lnTs (lnV s))) 77, lnM s⟩).go [true]) =
    some (lnD s, 0, [.slice true 1 0 s.k none 1, .slice true 2 0 s.k none 1, .ptr false 3 0, .int true .i64 s.d, .slice false 5 0 1 none 1, .int true .i64 s.d, .int true .i64 (IntKind.i64.wrap (s.i + 1))], 77,
      [none, some ⟨false, .ints .u8 (some s.n) s.l⟩, some ⟨false, .ints .u8 (some s.m) s.q⟩, some ⟨true, .ints .u8 (some 16) s.nh⟩, some ⟨true, .vals [.int true .u8 (xr s.l s.q s.i.toNat)]⟩, some ⟨true, .ints .u8 (some 1) [xr s.l s.q s.i.toNat]⟩]) := by
  obtain ⟨nh, n, l, m, q, k, d, e, c, cl, i⟩ := s
  simp only at hs
  subst hs
  kernel_rfl
theorem ln_t1 (s : LnS) (hs : s.e = true) : seesL lnTs ((codeL Try.prog qP (deep Try.prog qP hgL 100 3) (fun _ _ => none) 100 (lp (blk 0 (bodyOf Try.prog 7))) ⟨tmOf (ups (fun _ => .top) (zipU lnTs (lnV s))) 77, lnM s⟩).go [true]) =
    some (lnD s ++ [decide (0 + s.cl ≤ s.c.length), decide (s.cl + 1 ≤ 1000000000)], 0, [.slice true 1 0 s.k none 1, .slice true 2 0 s.k none 1, .ptr false 3 0, .int true .i64 s.d, .slice true 6 0 (s.cl + 1) none 1, .int true .i64 s.d, .int true .i64 (IntKind.i64.wrap (s.i + 1))], 77,
      [none, some ⟨false, .ints .u8 (some s.n) s.l⟩, some ⟨false, .ints .u8 (some s.m) s.q⟩, some ⟨true, .ints .u8 (some 16) s.nh⟩, none, some ⟨true, .vals [.int true .u8 (xr s.l s.q s.i.toNat)]⟩, some ⟨true, .ints .u8 none ((s.c.drop 0).take s.cl ++ [xr s.l s.q s.i.toNat])⟩]) := by
  obtain ⟨nh, n, l, m, q, k, d, e, c, cl, i⟩ := s
  simp only at hs
  subst hs
  kernel_rfl
theorem ln_f (s : LnS) (hs : s.e = true) : seesL lnTs ((codeL Try.prog qP (deep Try.prog qP hgL 100 3) (fun _ _ => none) 100 (lp (blk 0 (bodyOf Try.prog 7))) ⟨tmOf (ups (fun _ => .top) (zipU lnTs (lnV s))) 77, lnM s⟩).go [false]) = some ([!decide (s.i < s.d)], 2, lnV s, 77, lnM s) := by
  obtain ⟨nh, n, l, m, q, k, d, e, c, cl, i⟩ := s
  simp only at hs
  subst hs
  kernel_rfl
structure LnJ (s0 s : LnS) (j : Nat) : Prop where
  hj : j ≤ s0.k
  same : s = { s0 with e := s.e, c := s.c, cl := s.cl, i := (j : Int) }
  e0 : j = 0 → s.e = false
  e1 : 0 < j → s.e = true ∧ s.c = xrL s0.l s0.q j ∧ s.cl = j
  hd : s0.d = (s0.k : Int)
  h1 : 1 ≤ s0.k
  hn : s0.k ≤ s0.n
  hm : s0.k ≤ s0.m
  h2 : s0.k ≤ 200
theorem ln_lok : LOkN 3 Try.prog (bodyOf Try.prog 7) lnΛ := by
  refine famR_ok (q := qP) (H := deep Try.prog qP hgL 100 3) (Λ0 := fun _ _ => none) (n := 100) (fun p : LnS × List Bool => lnV p.1) (fun p => lnM p.1) (fun p s => ∃ j, LnJ p.1 s.1 j) (fun s => 1000 - s.1.i.toNat) mixed (hgL_ok.deep mixed noCount 100 3) LOkN.none LOkN.none (by kernel_rfl) (by kernel_rfl) (fun avs m p h ho => ?_) (fun p s hJ => ?_)
  · unfold lnP at h
    split at h
    · cases h
      have o1 := of_decide_eq_true (ho _ (List.mem_cons_self ..))
      have o2 := of_decide_eq_true (ho _ (List.mem_cons_of_mem _ (List.mem_cons_self ..)))
      have o3 := of_decide_eq_true (ho _ (List.mem_cons_of_mem _ (List.mem_cons_of_mem _ (List.mem_cons_self ..))))
      have o4 := of_decide_eq_true (ho _ (List.mem_cons_of_mem _ (List.mem_cons_of_mem _ (List.mem_cons_of_mem _ (List.mem_cons_self ..)))))
      have o5 := of_decide_eq_true (ho _ (List.mem_cons_of_mem _ (List.mem_cons_of_mem _ (List.mem_cons_of_mem _ (List.mem_cons_of_mem _ (List.mem_cons_self ..))))))
      have o6 := of_decide_eq_true (ho _ (List.mem_cons_of_mem _ (List.mem_cons_of_mem _ (List.mem_cons_of_mem _ (List.mem_cons_of_mem _ (List.mem_cons_of_mem _ (List.mem_cons_self ..)))))))
      have o7 := of_decide_eq_true (ho _ (List.mem_cons_of_mem _ (List.mem_cons_of_mem _ (List.mem_cons_of_mem _ (List.mem_cons_of_mem _ (List.mem_cons_of_mem _ (List.mem_cons_of_mem _ (List.mem_cons_self ..))))))))
      have o8 := of_decide_eq_true (ho _ (List.mem_cons_of_mem _ (List.mem_cons_of_mem _ (List.mem_cons_of_mem _ (List.mem_cons_of_mem _ (List.mem_cons_of_mem _ (List.mem_cons_of_mem _ (List.mem_cons_of_mem _ (List.mem_cons_self ..)))))))))
      simp only at o3 o4 o5 o6 o7 o8
      subst o1 o2 o3
      refine ⟨(⟨_, _, _, _, _, _, _, false, [], 0, 0⟩, []), id, Goes.zip (.cons (.refl _) (.cons (.refl _) (.cons (.refl _) (.cons (.refl _) (.cons (.refl _) (.cons (.refl _) (.cons (.int _ _ _ _) .nil))))))) ⟨⟨_, rfl, .refl _⟩, ⟨_, rfl, .refl _⟩, ⟨_, rfl, .refl _⟩, trivial⟩ rfl rfl (Nat.le_of_ble_eq_true rfl) rfl rfl, 0, ⟨Nat.zero_le _, rfl, fun _ => rfl, fun h => by omega, o4, o5, o6, o7, o8⟩⟩
    · cases h
  · obtain ⟨j, hj, same, e0, e1, hd, h1, hn, hm, h2⟩ := hJ
    obtain ⟨s0, b0⟩ := p
    obtain ⟨s, b⟩ := s
    simp only at hj same e0 e1 hd h1 hn hm h2
    obtain ⟨nh, n, l, m, q, k, d, e, c, cl, i⟩ := s
    obtain ⟨nh0, n0, l0, m0, q0, k0, d0, e00, c0, cl0, i0⟩ := s0
    simp only at hj same e0 e1 hd h1 hn hm h2
    injection same with a1 a2 a3 a4 a5 a6 a7 a8 a9 a10 a11
    subst a1 a2 a3 a4 a5 a6 a7 a11
    subst hd
    have hw : IntKind.i64.wrap ((j : Int) + 1) = ((j + 1 : Nat) : Int) := by
      unfold IntKind.wrap; simp [IntKind.bits, IntKind.signed]; omega
    by_cases hend : j = k
    · subst hend
      obtain ⟨rfl, rfl, rfl⟩ := e1 (by omega)
      refine RoundR.out (ln_f _ rfl) rfl id (paid_cons (by simp) Paid.nil) ?_
      exact ⟨fun p hp => by
        simp only [lnF, List.mem_cons, List.not_mem_nil, or_false] at hp
        rcases hp with rfl | rfl | rfl | rfl | rfl
        · exact ⟨.slice true 1 0 cl none 1, by simp [lnTs, lnV, zipU], .refl _⟩
        · exact ⟨.slice true 2 0 cl none 1, by simp [lnTs, lnV, zipU], .refl _⟩
        · exact ⟨.ptr false 3 0, by simp [lnTs, lnV, zipU], .refl _⟩
        · exact ⟨.int true .i64 (cl : Int), by simp [lnTs, lnV, zipU], .refl _⟩
        · exact ⟨.slice true 4 0 cl none 1, by simp [lnTs, lnV, zipU], .refl _⟩, ⟨⟨_, rfl, .refl _⟩, ⟨_, rfl, .refl _⟩, ⟨_, rfl, .refl _⟩, ⟨_, rfl, .refl _⟩, trivial⟩, rfl, rfl, Nat.le_of_ble_eq_true rfl, rfl, rfl⟩
    · have hD : Paid (lnD ⟨nh, n, l, m, q, k, (k : Int), e, c, cl, (j : Int)⟩) := by
        have b1 : decide ((j : Int) < (k : Int)) = true := decide_eq_true (by omega)
        have b2 : (decide ((0 : Int) ≤ (j : Int)) && decide ((j : Int) < (k : Int))) = true := by simp; omega
        have b3 : decide (0 + (j : Int).toNat * 1 + 1 ≤ n) = true := decide_eq_true (by omega)
        have b4 : decide (0 + (j : Int).toNat * 1 + 1 ≤ m) = true := decide_eq_true (by omega)
        exact paid_cons b1 (paid_cons b2 (paid_cons b3 (paid_cons b2 (paid_cons b4 Paid.nil))))
      by_cases h0 : j = 0
      · subst h0
        obtain rfl := e0 rfl
        refine RoundR.on (ln_t0 _ rfl) (⟨nh, n, l, m, q, k, (k : Int), true, xrL l q 1, 1, ((1 : Nat) : Int)⟩, []) (fun n => [0, 1, 2, 3, 5].getD n 0) hD ?_ ⟨1, ⟨by omega, rfl, fun h => by omega, fun _ => ⟨rfl, rfl, rfl⟩, rfl, h1, hn, hm, h2⟩⟩ (by simp)
        exact Goes.zip (.cons (.refl _) (.cons (.refl _) (.cons (.refl _) (.cons (.refl _) (.cons (.slice _ _ _ _ _ _ _ _ (Or.inl rfl)) (.cons (.refl _) (.cons (by simp only [hw]; exact .refl _) .nil))))))) ⟨⟨_, rfl, .refl _⟩, ⟨_, rfl, .refl _⟩, ⟨_, rfl, .refl _⟩, ⟨_, rfl, .free _ _ _⟩, trivial⟩ rfl rfl (Nat.le_of_ble_eq_true rfl) rfl rfl
      · obtain ⟨rfl, rfl, rfl⟩ := e1 (by omega)
        have hlen : (xrL l q cl).length = cl := by simp [xrL]
        refine RoundR.on (ln_t1 _ rfl) (⟨nh, n, l, m, q, k, (k : Int), true, xrL l q (cl + 1), cl + 1, ((cl + 1 : Nat) : Int)⟩, []) (fun n => [0, 1, 2, 3, 6].getD n 0) (paid_append.2 ⟨hD, paid_cons (decide_eq_true (by simp only [hlen]; omega)) (paid_cons (decide_eq_true (by simp only; omega)) Paid.nil)⟩) ?_ ⟨cl + 1, ⟨by show cl + 1 ≤ k; omega, rfl, fun h => by omega, fun _ => ⟨rfl, rfl, rfl⟩, rfl, h1, hn, hm, h2⟩⟩ (by simp; omega)
        have ex : ((xrL l q cl).drop 0).take cl ++ [xr l q ((cl : Int)).toNat] = xrL l q (cl + 1) := by
          rw [List.drop_zero, List.take_of_length_le (by omega), xrL_succ]; rfl
        simp only [ex]
        exact Goes.zip (.cons (.refl _) (.cons (.refl _) (.cons (.refl _) (.cons (.refl _) (.cons (.refl _) (.cons (.refl _) (.cons (by simp only [hw]; exact .refl _) .nil))))))) ⟨⟨_, rfl, .refl _⟩, ⟨_, rfl, .refl _⟩, ⟨_, rfl, .refl _⟩, ⟨_, rfl, .refl _⟩, trivial⟩ rfl rfl (Nat.le_of_ble_eq_true rfl) rfl rfl
end Go.Proofs.Ytljndahfackolaa
