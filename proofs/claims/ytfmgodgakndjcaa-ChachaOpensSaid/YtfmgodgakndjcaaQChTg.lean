/- The reference's pad and Tag: contracts. Own work. -/
import Derived.Test.YtfmgodgakndjcaaQChXr
set_option linter.unusedSimpArgs false
set_option linter.unusedVariables false
set_option linter.unusedSectionVars false
namespace Go.Ch
open Go.Ev Go.Sh
structure PaS where
  nb : Nat
  p : List Int
  m : List Int
  n : Nat
end Go.Ch
namespace Go.Proofs.Ytfmgodgakndjcaa
open Go.Ev Go.Sh Go.Ch
set_option maxRecDepth 100000
def paV (s : PaS) : List AV := [.slice true 1 0 s.n none 1]
def paM (s : PaS) : Mem := [some ⟨false, .ints .u8 (some s.nb) s.p⟩, some ⟨true, .ints .u8 none s.m⟩]
theorem pa_t (s : PaS) : seesL [3] ((codeL Try.prog qD (deep Try.prog qD hx1 100 3) (fun _ _ => none) 100 (lp (blk 0 (bodyOf Try.prog 51))) ⟨tmOf (ups (fun _ => .top) (zipU [3] (paV s))) 14, paM s⟩).go [true]) = some ([decide (s.n < 9223372036854775808), ((s.n : Int).tmod 16 != 0), decide (0 + s.n ≤ s.m.length), decide (s.n + 1 ≤ 1000000000)], 0, [.slice true 3 0 (s.n + 1) none 1], 14,
    [some ⟨false, .ints .u8 (some s.nb) s.p⟩, none, some ⟨true, .vals [.int false .u8 0]⟩, some ⟨true, .ints .u8 none ((s.m.drop 0).take s.n ++ [0])⟩]) := by
  obtain ⟨nb, p, m, n⟩ := s
  kernel_rfl
theorem pa_f (s : PaS) : seesL [3] ((codeL Try.prog qD (deep Try.prog qD hx1 100 3) (fun _ _ => none) 100 (lp (blk 0 (bodyOf Try.prog 51))) ⟨tmOf (ups (fun _ => .top) (zipU [3] (paV s))) 14, paM s⟩).go [false]) = some ([decide (s.n < 9223372036854775808), !((s.n : Int).tmod 16 != 0)], 2, paV s, 14, paM s) := by
  obtain ⟨nb, p, m, n⟩ := s
  kernel_rfl
def paP : List AV → Mem → Option (PaS × List Bool)
  | [.slice true 1 0 n none 1], [some ⟨false, .ints .u8 (some nb) p⟩, some ⟨true, .ints .u8 none m⟩] => some (⟨nb, p, m, n⟩, [decide (m.length = n), decide (n ≤ 900000000)])
  | _, _ => none
def paE (s : PaS) : PaS := { s with m := s.m ++ List.replicate (pz s.n) 0, n := s.n + pz s.n }
def paF (q : PaS × List Bool) : List (Nat × AV) × Mem := ([(3, .slice true 1 0 (q.1.n + pz q.1.n) none 1)], paM (paE q.1))
def paΛ (Λ : LoopH) : LoopH := famH 0 14 [3] paP (fun q => q.2) paF Λ
structure PaJ (q s : PaS) (k : Nat) : Prop where
  hl : q.m.length = q.n
  hn : q.n ≤ 900000000
  hk : k ≤ pz q.n
  same : s = { q with m := q.m ++ List.replicate k 0, n := q.n + k }
theorem pa_lok {Λ : LoopH} (hΛ : LOkN 1 Try.prog (bodyOf Try.prog 51) Λ) : LOkN 1 Try.prog (bodyOf Try.prog 51) (paΛ Λ) := by
  refine famR_ok (q := qD) (H := deep Try.prog qD hx1 100 3) (Λ0 := fun _ _ => none) (n := 100) (fun q : PaS × List Bool => paV q.1) (fun q => paM q.1) (fun q s => ∃ k, PaJ q.1 s.1 k) (fun s => pz s.1.n) mixed (hx1_ok.deep (q := qD) mixed noCount 100 3) hΛ LOkN.none (by kernel_rfl) (by kernel_rfl) (fun avs m q h ho => ?_) (fun q s hJ => ?_)
  · unfold paP at h
    split at h
    · rename_i n nb p m
      cases h
      have o0 := of_decide_eq_true (ho _ (List.mem_cons_self ..))
      have o1 := of_decide_eq_true (ho _ (List.mem_cons_of_mem _ (List.mem_cons_self ..)))
      refine ⟨(⟨nb, p, m, n⟩, []), id, ?_, 0, o0, o1, Nat.zero_le _, by simp⟩
      exact goes_pre (g := id) (vals := [.slice true 1 0 n none 1]) (pre := [some ⟨false, .ints .u8 (some nb) p⟩]) (m' := [some ⟨true, .ints .u8 none m⟩]) (rest := [some ⟨true, .ints .u8 none m⟩]) (.cons (.refl _) .nil) rfl rfl ⟨⟨_, rfl, .refl _⟩, trivial⟩ rfl rfl rfl rfl
    · cases h
  · obtain ⟨k, hl, hn, hk, same⟩ := hJ
    obtain ⟨q, bq⟩ := q
    obtain ⟨s, bs⟩ := s
    obtain ⟨nb, p, m, n⟩ := q
    simp only at hl hn hk same
    subst same
    have hpz : pz n ≤ 15 := pz_le n
    have et : ((n + k : Nat) : Int).tmod 16 = (((n + k) % 16 : Nat) : Int) := by rw [Int.tmod_eq_emod_of_nonneg (by omega)]; omega
    by_cases hend : k = pz n
    · subst hend
      have e0 : (n + pz n) % 16 = 0 := pz_mod n
      refine RoundR.out (pa_f _) rfl id (paid_cons (decide_eq_true (by simp only; omega)) (paid_cons (by simp only [et, e0]; rfl) Paid.nil)) ?_
      exact ⟨fun p0 hp => by
        simp only [paF, List.mem_cons, List.not_mem_nil, or_false] at hp
        subst hp
        exact ⟨_, List.mem_cons_self .., .refl _⟩, goes_mem (pre := [some ⟨false, .ints .u8 (some nb) p⟩]) rfl rfl ⟨⟨_, rfl, .refl _⟩, trivial⟩, rfl, rfl, Nat.le_of_ble_eq_true rfl, goes_bnd (pre := [some ⟨false, .ints .u8 (some nb) p⟩]) rfl rfl rfl, rfl⟩
    · have hlk : (m ++ List.replicate k 0).length = n + k := by simp [hl]
      have hne : (n + k) % 16 ≠ 0 := by unfold pz at hk hend; omega
      refine RoundR.on (pa_t ⟨nb, p, m ++ List.replicate k 0, n + k⟩) (⟨nb, p, m ++ List.replicate (k + 1) 0, n + (k + 1)⟩, bs) (fun n => [0, 3].getD n 0) (paid_cons (decide_eq_true (by simp only; omega)) (paid_cons (by simp only [et]; simp; omega) (paid_cons (decide_eq_true (by simp only [hlk]; omega)) (paid_cons (decide_eq_true (by simp only; omega)) Paid.nil)))) ?_ ⟨k + 1, hl, hn, by simp only; omega, rfl⟩ (by simp only; unfold pz at *; omega)
      simp only [List.drop_zero, List.take_of_length_le (Nat.le_of_eq hlk), List.append_assoc]
      rw [show List.replicate k (0 : Int) ++ [0] = List.replicate (k + 1) 0 from List.replicate_succ'.symm]
      exact goes_pre (pre := [some ⟨false, .ints .u8 (some nb) p⟩]) (.cons (.refl _) .nil) rfl rfl ⟨⟨_, rfl, .refl _⟩, trivial⟩ rfl rfl rfl rfl
theorem pd_b (n : Nat) (p : List Int) : seeV 1 ((funcL Try.prog qD (deep Try.prog qD hx1 100 3) (paΛ fun _ _ => none) 100 51 (cArgs 0 [.buf true .u8 n p]) (cMem [.buf true .u8 n p])).go []) = some ([decide (0 + n ≤ n), decide (1 ≤ n) && decide (n ≤ 1000000000), decide (((p.drop 0).take n).length = n), decide (n ≤ 900000000)], .slice true 1 0 (n + pz n) none 1, some (some ⟨true, .ints .u8 none ((p.drop 0).take n ++ List.replicate (pz n) 0)⟩)) := by kernel_rfl
theorem pd_n : seeV 50 ((funcL Try.prog qD (deep Try.prog qD hx1 100 3) (paΛ fun _ _ => none) 100 51 (cArgs 0 [.pl .nilslice]) (cMem [.pl .nilslice])).go []) = some ([], .nilslice, none) := by kernel_rfl
theorem pd_e : seeV 50 ((funcL Try.prog qD (deep Try.prog qD hx1 100 3) (paΛ fun _ _ => none) 100 51 (cArgs 0 [.empty]) (cMem [.empty])).go []) = some ([], .nilslice, none) := by kernel_rfl
def pdS : List V → E (AV × Mem)
  | [.buf _ .u8 n p] => some ([decide (1 ≤ n), decide (n ≤ 900000000)], (.slice true 0 0 (n + pz n) none 1, [some ⟨true, .ints .u8 none (p ++ List.replicate (pz n) 0)⟩]))
  | [.pl .nilslice] => some ([], (.nilslice, []))
  | [.empty] => some ([], (.nilslice, []))
  | _ => none
theorem pd_ok {xs : List V} {o : List Bool} {v : AV} {bs : Mem} (h : pdS xs = some (o, (v, bs))) (ho : Paid o) : ViewCall Try.prog 51 xs v bs := by
  have hΛ : ∀ (fn : Func) (c : Code), Try.prog.funcs[51]? = some fn → fn.body = some c → LOkN 1 Try.prog c (paΛ fun _ _ => none) := fun fn c hf hb => by rw [bodyOf_eq hf hb]; exact pa_lok LOkN.none
  unfold pdS at h
  split at h
  · rename_i s n p
    cases h
    have o0 := of_decide_eq_true (ho _ (List.mem_cons_self ..))
    have o1 := of_decide_eq_true (ho _ (List.mem_cons_of_mem _ (List.mem_cons_self ..)))
    intro ρ vs w ha hi
    obtain ⟨n1, _⟩ := buf_arg hi 0 rfl
    have ha2 : Reps ρ (upto 1) (cArgs 0 [.buf true .u8 n p]) vs := by
      cases ha with | cons _ _ u us a0 hs => exact .cons _ _ _ _ (markedS a0) hs
    have ev := pd_b n p
    rw [List.drop_zero, List.take_of_length_le (Nat.le_of_eq n1)] at ev
    exact viewN_one mixed noCount (hx1_ok.deep mixed noCount 100 3) hΛ (v := .slice true 0 0 (n + pz n) none 1) [] 1 ev (paid_cons (decide_eq_true (by omega)) (paid_cons (by rw [decide_eq_true (by omega), decide_eq_true (by omega)]; rfl) (paid_cons (decide_eq_true n1) (paid_cons (decide_eq_true o1) Paid.nil)))) (Nat.le_refl _) rfl rfl ha2 hi
  · cases h
    intro ρ vs w ha hi
    exact viewN_none mixed noCount (hx1_ok.deep mixed noCount 100 3) hΛ [] 50 pd_n Paid.nil rfl rfl rfl rfl ha hi
  · cases h
    intro ρ vs w ha hi
    exact viewN_none mixed noCount (hx1_ok.deep mixed noCount 100 3) hΛ [] 50 pd_e Paid.nil rfl rfl rfl rfl ha hi
  · cases h
def hx2 : CallH := withV 51 pdS hx1
theorem hx2_ok : HOk Try.prog hx2 := hx1_ok.withV fun _ _ _ _ h ho => pd_ok h ho
end Go.Proofs.Ytfmgodgakndjcaa
namespace Go.Ch
open Go.Ev Go.Sh
def dwR (B : List Bool) (s : List Int × Nat) (v : Int) : Nat → List Bool
  | 0 => []
  | i + 1 => dwR B s v i ++ (B ++ dpa 1000000000 (wl s v i) 1)
theorem dwR_paid {B : List Bool} (hB : Paid B) {s : List Int × Nat} (h : s.1.length = s.2) {n : Nat} (hn : n < 18446744073709551616) : ∀ i, i ≤ 8 → s.2 + i ≤ 1000000000 → Paid (dwR B s (n : Int) i)
  | 0, _, _ => Paid.nil
  | i + 1, hi, hc => by
    unfold dwR
    refine paid_append.2 ⟨dwR_paid hB h hn i (by omega) (by omega), paid_append.2 ⟨hB, ?_⟩⟩
    unfold dpa
    rw [wl_eq h hn i (by omega)]
    exact paid_cons (decide_eq_true (by simp [h])) (paid_cons (decide_eq_true (by simp only; omega)) Paid.nil)
/-- A text on zeros. -/
def pdT (a : List Int) (m : Nat) : List Int × Nat := ((a.drop 0).take m ++ List.replicate (pz m) 0, m + pz m)
def sBB (a : List Int) (m : Nat) (q : List Int) (n : Nat) : List Int × Nat := pa (pdT a m) (((pdT q n).1.drop 0).take (pdT q n).2) (pdT q n).2
def sBN (a : List Int) (m : Nat) : List Int × Nat := pa (pdT a m) [] 0
def sNB (q : List Int) (n : Nat) : List Int × Nat := (((pdT q n).1.drop 0).take (pdT q n).2, (pdT q n).2)
def wl2 (s : List Int × Nat) (x y : Int) : List Int × Nat := wl (wl s x 8) y 8
def hdT (a : List Int) (m : Nat) : List Bool := [decide (0 + m ≤ m), decide (1 ≤ m), decide (m ≤ 900000000)]
def lnT (t : List Int × Nat) : Bool := decide (0 + t.2 ≤ t.1.length)
def big63 (m : Nat) : Bool := decide (m < 9223372036854775808)
def tlT (s : List Int × Nat) : List Bool := [lnT s, decide (s.2 ≤ 140737488351232)]
def dBB (a : List Int) (m : Nat) (q : List Int) (n : Nat) : List Bool := hdT a m ++ (hdT q n ++ (lnT (pdT q n) :: (dpa 1000000000 (pdT a m) (pdT q n).2 ++ (dwR [big63 m] (sBB a m q n) m 8 ++ (dwR [big63 n] (wl (sBB a m q n) m 8) n 8 ++ tlT (wl2 (sBB a m q n) m n))))))
def dBN (a : List Int) (m : Nat) : List Bool := hdT a m ++ (dpa 1000000000 (pdT a m) 0 ++ (dwR [big63 m] (sBN a m) m 8 ++ (dwR [] (wl (sBN a m) m 8) 0 8 ++ tlT (wl2 (sBN a m) m 0))))
def dNB (q : List Int) (n : Nat) : List Bool := hdT q n ++ (lnT (pdT q n) :: ((decide (1 ≤ (pdT q n).2) && decide ((pdT q n).2 ≤ 1000000000)) :: (dwR [] (sNB q n) 0 8 ++ (dwR [big63 n] (wl (sNB q n) 0 8) n 8 ++ tlT (wl2 (sNB q n) 0 n)))))
theorem pdT_eq {a : List Int} {m : Nat} (h : a.length = m) : pdT a m = (a ++ List.replicate (pz m) 0, m + pz m) := by
  unfold pdT
  rw [List.drop_zero, List.take_of_length_le (Nat.le_of_eq h)]
theorem pdT_len {a : List Int} {m : Nat} (h : a.length = m) : (pdT a m).1.length = (pdT a m).2 := by rw [pdT_eq h]; simp [h]
theorem pdT_take {a : List Int} {m : Nat} (h : a.length = m) : (((pdT a m).1.drop 0).take (pdT a m).2) = a ++ List.replicate (pz m) 0 := by
  rw [List.drop_zero, List.take_of_length_le (Nat.le_of_eq (pdT_len h)), pdT_eq h]
theorem sBB_eq {a : List Int} {m : Nat} (h : a.length = m) {q : List Int} {n : Nat} (hq : q.length = n) : sBB a m q n = (a ++ List.replicate (pz m) 0 ++ (q ++ List.replicate (pz n) 0), m + pz m + (n + pz n)) := by
  unfold sBB
  rw [pa_eq (pdT_len h), pdT_take hq, pdT_eq h, pdT_eq hq]
theorem sBN_eq {a : List Int} {m : Nat} (h : a.length = m) : sBN a m = (a ++ List.replicate (pz m) 0, m + pz m) := by
  unfold sBN
  rw [pa_eq (pdT_len h), pdT_eq h, List.append_nil, Nat.add_zero]
theorem sNB_eq {a : List Int} {m : Nat} (h : a.length = m) : sNB a m = (a ++ List.replicate (pz m) 0, m + pz m) := by
  unfold sNB
  rw [pdT_take h, pdT_eq h]
theorem wl2_eq {s : List Int × Nat} (h : s.1.length = s.2) {m n : Nat} (hm : m < 18446744073709551616) (hn : n < 18446744073709551616) : wl2 s m n = (s.1 ++ le8 m ++ le8 n, s.2 + 8 + 8) := by
  unfold wl2
  have e1 := wl_eq h hm 8 (Nat.le_refl _)
  rw [wl_eq (by rw [e1]; simp [h]) hn 8 (Nat.le_refl _), e1]
  rfl
theorem wl_len {s : List Int × Nat} (h : s.1.length = s.2) {m : Nat} (hm : m < 18446744073709551616) : (wl s (m : Int) 8).1.length = (wl s (m : Int) 8).2 ∧ (wl s (m : Int) 8).2 = s.2 + 8 := by
  rw [wl_eq h hm 8 (Nat.le_refl _)]
  exact ⟨by simp [h], rfl⟩
theorem le8_len (v : Int) : (le8 v).length = 8 := by simp [le8]
theorem fin_take {s : List Int × Nat} (h : s.1.length = s.2) {m n : Nat} (hm : m < 18446744073709551616) (hn : n < 18446744073709551616) : ((wl2 s m n).1.drop 0).take (wl2 s m n).2 = s.1 ++ le8 m ++ le8 n := by
  rw [wl2_eq h hm hn, List.drop_zero, List.take_of_length_le (by simp [h, le8_len])]
theorem tl_paid {s : List Int × Nat} (h : s.1.length = s.2) {m n : Nat} (hm : m < 18446744073709551616) (hn : n < 18446744073709551616) (hs : s.2 ≤ 900000100) : Paid (tlT (wl2 s m n)) := by
  rw [wl2_eq h hm hn]
  exact paid_cons (decide_eq_true (by simp [h, le8_len])) (paid_cons (decide_eq_true (by simp only; omega)) Paid.nil)
theorem hd_paid {a : List Int} {m : Nat} (h1 : 1 ≤ m) (h2 : m ≤ 400000000) : Paid (hdT a m) := paid_cons (decide_eq_true (by omega)) (paid_cons (decide_eq_true h1) (paid_cons (decide_eq_true (by omega)) Paid.nil))
theorem ln_paid {a : List Int} {m : Nat} (h : a.length = m) : lnT (pdT a m) = true := decide_eq_true (by rw [pdT_len h]; omega)
theorem b63 {m : Nat} (h : m ≤ 400000000) : Paid [big63 m] := paid_cons (decide_eq_true (by omega)) Paid.nil
theorem dBB_paid {a : List Int} {m : Nat} (h : a.length = m) {q : List Int} {n : Nat} (hq : q.length = n) (h1 : 1 ≤ m) (h2 : m ≤ 400000000) (h3 : 1 ≤ n) (h4 : n ≤ 400000000) : Paid (dBB a m q n) := by
  have p1 := pz_le m
  have p2 := pz_le n
  have hs : (sBB a m q n).1.length = (sBB a m q n).2 := by rw [sBB_eq h hq]; simp [h, hq]; omega
  have hs2 : (sBB a m q n).2 ≤ 800000030 := by rw [sBB_eq h hq]; simp only; omega
  obtain ⟨hw, hw2⟩ := wl_len hs (m := m) (by omega)
  unfold dBB
  refine paid_append.2 ⟨hd_paid h1 h2, paid_append.2 ⟨hd_paid h3 h4, paid_cons (ln_paid hq) (paid_append.2 ⟨?_, paid_append.2 ⟨dwR_paid (b63 h2) hs (by omega) 8 (Nat.le_refl _) (by omega), paid_append.2 ⟨dwR_paid (b63 h4) hw (by omega) 8 (Nat.le_refl _) (by omega), tl_paid hs (by omega) (by omega) (by omega)⟩⟩⟩)⟩⟩
  exact paid_cons (decide_eq_true (by rw [pdT_len h]; omega)) (paid_cons (decide_eq_true (by rw [pdT_eq h, pdT_eq hq]; simp only; omega)) Paid.nil)
theorem dBN_paid {a : List Int} {m : Nat} (h : a.length = m) (h1 : 1 ≤ m) (h2 : m ≤ 400000000) : Paid (dBN a m) := by
  have p1 := pz_le m
  have hs : (sBN a m).1.length = (sBN a m).2 := by rw [sBN_eq h]; simp [h]
  have hs2 : (sBN a m).2 ≤ 800000030 := by rw [sBN_eq h]; simp only; omega
  obtain ⟨hw, hw2⟩ := wl_len hs (m := m) (by omega)
  unfold dBN
  refine paid_append.2 ⟨hd_paid h1 h2, paid_append.2 ⟨?_, paid_append.2 ⟨dwR_paid (b63 h2) hs (by omega) 8 (Nat.le_refl _) (by omega), paid_append.2 ⟨dwR_paid (n := 0) Paid.nil hw (by omega) 8 (Nat.le_refl _) (by omega), tl_paid (n := 0) hs (by omega) (by omega) (by omega)⟩⟩⟩⟩
  exact paid_cons (decide_eq_true (by rw [pdT_len h]; omega)) (paid_cons (decide_eq_true (by rw [pdT_eq h]; simp only; omega)) Paid.nil)
theorem dNB_paid {q : List Int} {n : Nat} (hq : q.length = n) (h3 : 1 ≤ n) (h4 : n ≤ 400000000) : Paid (dNB q n) := by
  have p2 := pz_le n
  have hs : (sNB q n).1.length = (sNB q n).2 := by rw [sNB_eq hq]; simp [hq]
  have hs2 : (sNB q n).2 ≤ 800000030 := by rw [sNB_eq hq]; simp only; omega
  obtain ⟨hw, hw2⟩ := wl_len hs (m := 0) (by omega)
  unfold dNB
  refine paid_append.2 ⟨hd_paid h3 h4, paid_cons (ln_paid hq) (paid_cons (by rw [pdT_eq hq, decide_eq_true (by simp only; omega), decide_eq_true (by simp only; omega)]; rfl) (paid_append.2 ⟨dwR_paid (n := 0) Paid.nil hs (by omega) 8 (Nat.le_refl _) (by omega), paid_append.2 ⟨dwR_paid (b63 h4) hw (by omega) 8 (Nat.le_refl _) (by omega), tl_paid (m := 0) hs (by omega) (by omega) (by omega)⟩⟩))⟩
theorem msgBB {a : List Int} {m : Nat} (h : a.length = m) {q : List Int} {n : Nat} (hq : q.length = n) (h2 : m ≤ 400000000) (h4 : n ≤ 400000000) : ((wl2 (sBB a m q n) m n).1.drop 0).take (wl2 (sBB a m q n) m n).2 = msgB a q := by
  rw [fin_take (by rw [sBB_eq h hq]; simp [h, hq]; omega) (by omega) (by omega), sBB_eq h hq]
  unfold msgB
  rw [h, hq]
  simp only [List.append_assoc]
theorem msgBN {a : List Int} {m : Nat} (h : a.length = m) (h2 : m ≤ 400000000) : ((wl2 (sBN a m) m 0).1.drop 0).take (wl2 (sBN a m) m 0).2 = msgB a [] := by
  have e := fin_take (s := sBN a m) (by rw [sBN_eq h]; simp [h]) (m := m) (n := 0) (by omega) (by omega)
  refine e.trans ?_
  rw [sBN_eq h]
  unfold msgB
  rw [h]
  simp [show pz 0 = 0 from rfl]
theorem msgNB {q : List Int} {n : Nat} (hq : q.length = n) (h4 : n ≤ 400000000) : ((wl2 (sNB q n) 0 n).1.drop 0).take (wl2 (sNB q n) 0 n).2 = msgB [] q := by
  have e := fin_take (s := sNB q n) (by rw [sNB_eq hq]; simp [hq]) (m := 0) (n := n) (by omega) (by omega)
  refine e.trans ?_
  rw [sNB_eq hq]
  unfold msgB
  rw [hq]
  simp [show pz 0 = 0 from rfl]
end Go.Ch
namespace Go.Proofs.Ytfmgodgakndjcaa
open Go.Ev Go.Sh Go.Ch
set_option maxRecDepth 100000
theorem tr_bufbuf (k l : List Int) (m : Nat) (a : List Int) (n : Nat) (q : List Int) : seeV 40 ((funcL Try.prog qD (deep Try.prog qD hx2 100 3) (fun _ _ => none) 100 21 (cArgs 0 [.buf false .u8 32 k, .buf false .u8 12 l, .buf true .u8 m a, .buf true .u8 n q]) (cMem [.buf false .u8 32 k, .buf false .u8 12 l, .buf true .u8 m a, .buf true .u8 n q])).go []) = some (dBB a m q n, .slice false 40 0 16 (some 16) 1, some (some ⟨true, .ints .u8 (some 16) (codB ((blkB (ini k l) 0).take 32) (((wl2 (sBB a m q n) m n).1.drop 0).take (wl2 (sBB a m q n) m n).2))⟩)) := by kernel_rfl
theorem tr_bufnil (k l : List Int) (m : Nat) (a : List Int) : seeV 39 ((funcL Try.prog qD (deep Try.prog qD hx2 100 3) (fun _ _ => none) 100 21 (cArgs 0 [.buf false .u8 32 k, .buf false .u8 12 l, .buf true .u8 m a, .pl .nilslice]) (cMem [.buf false .u8 32 k, .buf false .u8 12 l, .buf true .u8 m a, .pl .nilslice])).go []) = some (dBN a m, .slice false 39 0 16 (some 16) 1, some (some ⟨true, .ints .u8 (some 16) (codB ((blkB (ini k l) 0).take 32) (((wl2 (sBN a m) m 0).1.drop 0).take (wl2 (sBN a m) m 0).2))⟩)) := by kernel_rfl
theorem tr_bufemp (k l : List Int) (m : Nat) (a : List Int) : seeV 39 ((funcL Try.prog qD (deep Try.prog qD hx2 100 3) (fun _ _ => none) 100 21 (cArgs 0 [.buf false .u8 32 k, .buf false .u8 12 l, .buf true .u8 m a, .empty]) (cMem [.buf false .u8 32 k, .buf false .u8 12 l, .buf true .u8 m a, .empty])).go []) = some (dBN a m, .slice false 39 0 16 (some 16) 1, some (some ⟨true, .ints .u8 (some 16) (codB ((blkB (ini k l) 0).take 32) (((wl2 (sBN a m) m 0).1.drop 0).take (wl2 (sBN a m) m 0).2))⟩)) := by kernel_rfl
theorem tr_nilbuf (k l : List Int) (n : Nat) (q : List Int) : seeV 39 ((funcL Try.prog qD (deep Try.prog qD hx2 100 3) (fun _ _ => none) 100 21 (cArgs 0 [.buf false .u8 32 k, .buf false .u8 12 l, .pl .nilslice, .buf true .u8 n q]) (cMem [.buf false .u8 32 k, .buf false .u8 12 l, .pl .nilslice, .buf true .u8 n q])).go []) = some (dNB q n, .slice false 39 0 16 (some 16) 1, some (some ⟨true, .ints .u8 (some 16) (codB ((blkB (ini k l) 0).take 32) (((wl2 (sNB q n) 0 n).1.drop 0).take (wl2 (sNB q n) 0 n).2))⟩)) := by kernel_rfl
theorem tr_nilnil (k l : List Int) : seeV 37 ((funcL Try.prog qD (deep Try.prog qD hx2 100 3) (fun _ _ => none) 100 21 (cArgs 0 [.buf false .u8 32 k, .buf false .u8 12 l, .pl .nilslice, .pl .nilslice]) (cMem [.buf false .u8 32 k, .buf false .u8 12 l, .pl .nilslice, .pl .nilslice])).go []) = some ([true], .slice false 37 0 16 (some 16) 1, some (some ⟨true, .ints .u8 (some 16) (codB ((blkB (ini k l) 0).take 32) (msgB [] []))⟩)) := by kernel_rfl
theorem tr_nilemp (k l : List Int) : seeV 37 ((funcL Try.prog qD (deep Try.prog qD hx2 100 3) (fun _ _ => none) 100 21 (cArgs 0 [.buf false .u8 32 k, .buf false .u8 12 l, .pl .nilslice, .empty]) (cMem [.buf false .u8 32 k, .buf false .u8 12 l, .pl .nilslice, .empty])).go []) = some ([true], .slice false 37 0 16 (some 16) 1, some (some ⟨true, .ints .u8 (some 16) (codB ((blkB (ini k l) 0).take 32) (msgB [] []))⟩)) := by kernel_rfl
theorem tr_empbuf (k l : List Int) (n : Nat) (q : List Int) : seeV 39 ((funcL Try.prog qD (deep Try.prog qD hx2 100 3) (fun _ _ => none) 100 21 (cArgs 0 [.buf false .u8 32 k, .buf false .u8 12 l, .empty, .buf true .u8 n q]) (cMem [.buf false .u8 32 k, .buf false .u8 12 l, .empty, .buf true .u8 n q])).go []) = some (dNB q n, .slice false 39 0 16 (some 16) 1, some (some ⟨true, .ints .u8 (some 16) (codB ((blkB (ini k l) 0).take 32) (((wl2 (sNB q n) 0 n).1.drop 0).take (wl2 (sNB q n) 0 n).2))⟩)) := by kernel_rfl
theorem tr_empnil (k l : List Int) : seeV 37 ((funcL Try.prog qD (deep Try.prog qD hx2 100 3) (fun _ _ => none) 100 21 (cArgs 0 [.buf false .u8 32 k, .buf false .u8 12 l, .empty, .pl .nilslice]) (cMem [.buf false .u8 32 k, .buf false .u8 12 l, .empty, .pl .nilslice])).go []) = some ([true], .slice false 37 0 16 (some 16) 1, some (some ⟨true, .ints .u8 (some 16) (codB ((blkB (ini k l) 0).take 32) (msgB [] []))⟩)) := by kernel_rfl
theorem tr_empemp (k l : List Int) : seeV 37 ((funcL Try.prog qD (deep Try.prog qD hx2 100 3) (fun _ _ => none) 100 21 (cArgs 0 [.buf false .u8 32 k, .buf false .u8 12 l, .empty, .empty]) (cMem [.buf false .u8 32 k, .buf false .u8 12 l, .empty, .empty])).go []) = some ([true], .slice false 37 0 16 (some 16) 1, some (some ⟨true, .ints .u8 (some 16) (codB ((blkB (ini k l) 0).take 32) (msgB [] []))⟩)) := by kernel_rfl
def txD : V → Option (List Bool × List Int)
  | .buf _ .u8 n l => some ([decide (1 ≤ n), decide (n ≤ 400000000)], l)
  | .pl .nilslice => some ([], [])
  | .empty => some ([], [])
  | _ => none
theorem txD_ok {x : V} {o : List Bool} {l : List Int} (h : txD x = some (o, l)) : (x = .pl .nilslice ∧ o = [] ∧ l = []) ∨ (x = .empty ∧ o = [] ∧ l = []) ∨ ∃ s n, x = .buf s .u8 n l ∧ o = [decide (1 ≤ n), decide (n ≤ 400000000)] := by
  unfold txD at h
  split at h <;> cases h
  · exact Or.inr (Or.inr ⟨_, _, rfl, rfl⟩)
  · exact Or.inl ⟨rfl, rfl, rfl⟩
  · exact Or.inr (Or.inl ⟨rfl, rfl, rfl⟩)
def trS : List V → E (AV × Mem)
  | [K, N, A, Q] => match isK K, isN N, txD A, txD Q with
    | some k, some l, some (o1, a), some (o2, q) => some (o1 ++ o2, (.slice false 0 0 16 (some 16) 1, [some ⟨true, .ints .u8 (some 16) (tagC (ini k l) a q)⟩]))
    | _, _, _, _ => none
  | _ => none
theorem tr_ok {xs : List V} {o : List Bool} {v : AV} {bs : Mem} (h : trS xs = some (o, (v, bs))) (ho : Paid o) : ViewCall Try.prog 21 xs v bs := by
  have hΛ : ∀ (fn : Func) (c : Code), Try.prog.funcs[21]? = some fn → fn.body = some c → LOkN 4 Try.prog c (fun _ _ => none) := fun fn c hf hb => LOkN.none
  unfold trS at h
  split at h
  case h_2 => cases h
  rename_i K N A Q
  split at h
  case h_2 => cases h
  rename_i k l o1 a o2 q hK hN hA hQ
  obtain rfl := isK_ok hK
  obtain rfl := isN_ok hN
  cases h
  obtain ⟨ho1, ho2⟩ := paid_append.1 ho
  intro ρ vs w ha hi
  rcases txD_ok hA with ⟨rfl, rfl, rfl⟩ | ⟨rfl, rfl, rfl⟩ | ⟨s, m, rfl, rfl⟩ <;> rcases txD_ok hQ with ⟨rfl, rfl, rfl⟩ | ⟨rfl, rfl, rfl⟩ | ⟨s', n, rfl, rfl⟩
  · have ev := tr_nilnil k l
    have ha2 : Reps ρ (upto 4) (cArgs 0 [.buf false .u8 32 k, .buf false .u8 12 l, .pl .nilslice, .pl .nilslice]) vs := by
      cases ha with | cons _ _ u0 us0 a0 hs => cases hs with | cons _ _ u1 us1 a1 hs => cases hs with | cons _ _ u2 us2 a2 hs => cases hs with | cons _ _ u3 us3 a3 hs => exact .cons _ _ _ _ a0 (.cons _ _ _ _ a1 (.cons _ _ _ _ a2 (.cons _ _ _ _ a3 hs)))
    exact viewN_one mixed noCount (hx2_ok.deep mixed noCount 100 3) hΛ (v := .slice false 0 0 16 (some 16) 1) [] 37 ev (paid_cons rfl Paid.nil) (Nat.le_of_ble_eq_true rfl) rfl rfl ha2 hi
  · have ev := tr_nilemp k l
    have ha2 : Reps ρ (upto 4) (cArgs 0 [.buf false .u8 32 k, .buf false .u8 12 l, .pl .nilslice, .empty]) vs := by
      cases ha with | cons _ _ u0 us0 a0 hs => cases hs with | cons _ _ u1 us1 a1 hs => cases hs with | cons _ _ u2 us2 a2 hs => cases hs with | cons _ _ u3 us3 a3 hs => exact .cons _ _ _ _ a0 (.cons _ _ _ _ a1 (.cons _ _ _ _ a2 (.cons _ _ _ _ a3 hs)))
    exact viewN_one mixed noCount (hx2_ok.deep mixed noCount 100 3) hΛ (v := .slice false 0 0 16 (some 16) 1) [] 37 ev (paid_cons rfl Paid.nil) (Nat.le_of_ble_eq_true rfl) rfl rfl ha2 hi
  · have n1 := of_decide_eq_true (ho2 _ (List.mem_cons_self ..))
    have n2 := of_decide_eq_true (ho2 _ (List.mem_cons_of_mem _ (List.mem_cons_self ..)))
    obtain ⟨qn, _⟩ := buf_arg hi 3 rfl
    have ev := tr_nilbuf k l n q
    rw [msgNB qn n2] at ev
    have ha2 : Reps ρ (upto 4) (cArgs 0 [.buf false .u8 32 k, .buf false .u8 12 l, .pl .nilslice, .buf true .u8 n q]) vs := by
      cases ha with | cons _ _ u0 us0 a0 hs => cases hs with | cons _ _ u1 us1 a1 hs => cases hs with | cons _ _ u2 us2 a2 hs => cases hs with | cons _ _ u3 us3 a3 hs => exact .cons _ _ _ _ a0 (.cons _ _ _ _ a1 (.cons _ _ _ _ a2 (.cons _ _ _ _ (markedS a3) hs)))
    exact viewN_one mixed noCount (hx2_ok.deep mixed noCount 100 3) hΛ (v := .slice false 0 0 16 (some 16) 1) [] 39 ev (dNB_paid qn n1 n2) (Nat.le_of_ble_eq_true rfl) rfl rfl ha2 hi
  · have ev := tr_empnil k l
    have ha2 : Reps ρ (upto 4) (cArgs 0 [.buf false .u8 32 k, .buf false .u8 12 l, .empty, .pl .nilslice]) vs := by
      cases ha with | cons _ _ u0 us0 a0 hs => cases hs with | cons _ _ u1 us1 a1 hs => cases hs with | cons _ _ u2 us2 a2 hs => cases hs with | cons _ _ u3 us3 a3 hs => exact .cons _ _ _ _ a0 (.cons _ _ _ _ a1 (.cons _ _ _ _ a2 (.cons _ _ _ _ a3 hs)))
    exact viewN_one mixed noCount (hx2_ok.deep mixed noCount 100 3) hΛ (v := .slice false 0 0 16 (some 16) 1) [] 37 ev (paid_cons rfl Paid.nil) (Nat.le_of_ble_eq_true rfl) rfl rfl ha2 hi
  · have ev := tr_empemp k l
    have ha2 : Reps ρ (upto 4) (cArgs 0 [.buf false .u8 32 k, .buf false .u8 12 l, .empty, .empty]) vs := by
      cases ha with | cons _ _ u0 us0 a0 hs => cases hs with | cons _ _ u1 us1 a1 hs => cases hs with | cons _ _ u2 us2 a2 hs => cases hs with | cons _ _ u3 us3 a3 hs => exact .cons _ _ _ _ a0 (.cons _ _ _ _ a1 (.cons _ _ _ _ a2 (.cons _ _ _ _ a3 hs)))
    exact viewN_one mixed noCount (hx2_ok.deep mixed noCount 100 3) hΛ (v := .slice false 0 0 16 (some 16) 1) [] 37 ev (paid_cons rfl Paid.nil) (Nat.le_of_ble_eq_true rfl) rfl rfl ha2 hi
  · have n1 := of_decide_eq_true (ho2 _ (List.mem_cons_self ..))
    have n2 := of_decide_eq_true (ho2 _ (List.mem_cons_of_mem _ (List.mem_cons_self ..)))
    obtain ⟨qn, _⟩ := buf_arg hi 3 rfl
    have ev := tr_empbuf k l n q
    rw [msgNB qn n2] at ev
    have ha2 : Reps ρ (upto 4) (cArgs 0 [.buf false .u8 32 k, .buf false .u8 12 l, .empty, .buf true .u8 n q]) vs := by
      cases ha with | cons _ _ u0 us0 a0 hs => cases hs with | cons _ _ u1 us1 a1 hs => cases hs with | cons _ _ u2 us2 a2 hs => cases hs with | cons _ _ u3 us3 a3 hs => exact .cons _ _ _ _ a0 (.cons _ _ _ _ a1 (.cons _ _ _ _ a2 (.cons _ _ _ _ (markedS a3) hs)))
    exact viewN_one mixed noCount (hx2_ok.deep mixed noCount 100 3) hΛ (v := .slice false 0 0 16 (some 16) 1) [] 39 ev (dNB_paid qn n1 n2) (Nat.le_of_ble_eq_true rfl) rfl rfl ha2 hi
  · have m1 := of_decide_eq_true (ho1 _ (List.mem_cons_self ..))
    have m2 := of_decide_eq_true (ho1 _ (List.mem_cons_of_mem _ (List.mem_cons_self ..)))
    obtain ⟨am, _⟩ := buf_arg hi 2 rfl
    have ev := tr_bufnil k l m a
    rw [msgBN am m2] at ev
    have ha2 : Reps ρ (upto 4) (cArgs 0 [.buf false .u8 32 k, .buf false .u8 12 l, .buf true .u8 m a, .pl .nilslice]) vs := by
      cases ha with | cons _ _ u0 us0 a0 hs => cases hs with | cons _ _ u1 us1 a1 hs => cases hs with | cons _ _ u2 us2 a2 hs => cases hs with | cons _ _ u3 us3 a3 hs => exact .cons _ _ _ _ a0 (.cons _ _ _ _ a1 (.cons _ _ _ _ (markedS a2) (.cons _ _ _ _ a3 hs)))
    exact viewN_one mixed noCount (hx2_ok.deep mixed noCount 100 3) hΛ (v := .slice false 0 0 16 (some 16) 1) [] 39 ev (dBN_paid am m1 m2) (Nat.le_of_ble_eq_true rfl) rfl rfl ha2 hi
  · have m1 := of_decide_eq_true (ho1 _ (List.mem_cons_self ..))
    have m2 := of_decide_eq_true (ho1 _ (List.mem_cons_of_mem _ (List.mem_cons_self ..)))
    obtain ⟨am, _⟩ := buf_arg hi 2 rfl
    have ev := tr_bufemp k l m a
    rw [msgBN am m2] at ev
    have ha2 : Reps ρ (upto 4) (cArgs 0 [.buf false .u8 32 k, .buf false .u8 12 l, .buf true .u8 m a, .empty]) vs := by
      cases ha with | cons _ _ u0 us0 a0 hs => cases hs with | cons _ _ u1 us1 a1 hs => cases hs with | cons _ _ u2 us2 a2 hs => cases hs with | cons _ _ u3 us3 a3 hs => exact .cons _ _ _ _ a0 (.cons _ _ _ _ a1 (.cons _ _ _ _ (markedS a2) (.cons _ _ _ _ a3 hs)))
    exact viewN_one mixed noCount (hx2_ok.deep mixed noCount 100 3) hΛ (v := .slice false 0 0 16 (some 16) 1) [] 39 ev (dBN_paid am m1 m2) (Nat.le_of_ble_eq_true rfl) rfl rfl ha2 hi
  · have m1 := of_decide_eq_true (ho1 _ (List.mem_cons_self ..))
    have m2 := of_decide_eq_true (ho1 _ (List.mem_cons_of_mem _ (List.mem_cons_self ..)))
    obtain ⟨am, _⟩ := buf_arg hi 2 rfl
    have n1 := of_decide_eq_true (ho2 _ (List.mem_cons_self ..))
    have n2 := of_decide_eq_true (ho2 _ (List.mem_cons_of_mem _ (List.mem_cons_self ..)))
    obtain ⟨qn, _⟩ := buf_arg hi 3 rfl
    have ev := tr_bufbuf k l m a n q
    rw [msgBB am qn m2 n2] at ev
    have ha2 : Reps ρ (upto 4) (cArgs 0 [.buf false .u8 32 k, .buf false .u8 12 l, .buf true .u8 m a, .buf true .u8 n q]) vs := by
      cases ha with | cons _ _ u0 us0 a0 hs => cases hs with | cons _ _ u1 us1 a1 hs => cases hs with | cons _ _ u2 us2 a2 hs => cases hs with | cons _ _ u3 us3 a3 hs => exact .cons _ _ _ _ a0 (.cons _ _ _ _ a1 (.cons _ _ _ _ (markedS a2) (.cons _ _ _ _ (markedS a3) hs)))
    exact viewN_one mixed noCount (hx2_ok.deep mixed noCount 100 3) hΛ (v := .slice false 0 0 16 (some 16) 1) [] 40 ev (dBB_paid am qn m1 m2 n1 n2) (Nat.le_of_ble_eq_true rfl) rfl rfl ha2 hi
def hx3 : CallH := withV 21 trS hx2
theorem hx3_ok : HOk Try.prog hx3 := hx2_ok.withV fun _ _ _ _ h ho => tr_ok h ho
end Go.Proofs.Ytfmgodgakndjcaa
