/- The reference's pad and Tag: contracts. Own work. -/
import Derived.Test.YtpbemjifhampcaaQCChXr
set_option linter.unusedSimpArgs false
set_option linter.unusedVariables false
set_option linter.unusedSectionVars false
namespace Go.Ch
open Go.Ev Go.Sh
structure PaS where
  nb : Nat
  p : List Int
  m : List Int
  n : Nat
end Go.Ch
namespace Go.Proofs.Ytpbemjifhampcaa
open Go.Ev Go.Sh Go.Ch
set_option maxRecDepth 100000
def paV (s : PaS) : List AV := [.slice true 1 0 s.n none 1]
def paM (s : PaS) : Mem := [some ⟨false, .ints .u8 (some s.nb) s.p⟩, some ⟨true, .ints .u8 none s.m⟩]
theorem pa_t (s : PaS) : seesL [3] ((codeL Try.prog qD (deep Try.prog qD hx1 100 3) (fun _ _ => none) 100 (lp (blk 0 (bodyOf Try.prog 53))) ⟨tmOf (ups (fun _ => .top) (zipU [3] (paV s))) 14, paM s⟩).go [true]) = some ([decide (s.n < 9223372036854775808), ((s.n : Int).tmod 16 != 0), decide (0 + s.n ≤ s.m.length), decide (s.n + 1 ≤ 1000000000)], 0, [.slice true 3 0 (s.n + 1) none 1], 14,
    [some ⟨false, .ints .u8 (some s.nb) s.p⟩, none, some ⟨true, .vals [.int false .u8 0]⟩, some ⟨true, .ints .u8 none ((s.m.drop 0).take s.n ++ [0])⟩]) := by
  obtain ⟨nb, p, m, n⟩ := s
  kernel_rfl
theorem pa_f (s : PaS) : seesL [3] ((codeL Try.prog qD (deep Try.prog qD hx1 100 3) (fun _ _ => none) 100 (lp (blk 0 (bodyOf Try.prog 53))) ⟨tmOf (ups (fun _ => .top) (zipU [3] (paV s))) 14, paM s⟩).go [false]) = some ([decide (s.n < 9223372036854775808), !((s.n : Int).tmod 16 != 0)], 2, paV s, 14, paM s) := by
  obtain ⟨nb, p, m, n⟩ := s
  kernel_rfl
def paP : List AV → Mem → Option (PaS × List Bool)
  | [.slice true 1 0 n none 1], [some ⟨false, .ints .u8 (some nb) p⟩, some ⟨true, .ints .u8 none m⟩] => some (⟨nb, p, m, n⟩, [decide (m.length = n), decide (n ≤ 900000000)])
  | _, _ => none
def paE (s : PaS) : PaS := { s with m := s.m ++ List.replicate (pz s.n) 0, n := s.n + pz s.n }
def paF (q : PaS × List Bool) : List (Nat × AV) × Mem := ([(3, .slice true 1 0 (q.1.n + pz q.1.n) none 1)], paM (paE q.1))
def paΛ (Λ : LoopH) : LoopH := famH 0 14 [3] paP (fun q => q.2) paF Λ
structure PaJ (q s : PaS) (k : Nat) : Prop where
  hl : q.m.length = q.n
  hn : q.n ≤ 900000000
  hk : k ≤ pz q.n
  same : s = { q with m := q.m ++ List.replicate k 0, n := q.n + k }
theorem pa_lok {Λ : LoopH} (hΛ : LOkN 1 Try.prog (bodyOf Try.prog 53) Λ) : LOkN 1 Try.prog (bodyOf Try.prog 53) (paΛ Λ) := by
  refine famR_ok (q := qD) (H := deep Try.prog qD hx1 100 3) (Λ0 := fun _ _ => none) (n := 100) (fun q : PaS × List Bool => paV q.1) (fun q => paM q.1) (fun q s => ∃ k, PaJ q.1 s.1 k) (fun s => pz s.1.n) mixed (hx1_ok.deep (q := qD) mixed noCount 100 3) hΛ LOkN.none (by kernel_rfl) (by kernel_rfl) (fun avs m q h ho => ?_) (fun q s hJ => ?_)
  · unfold paP at h
    split at h
    · rename_i n nb p m
      cases h
      have o0 := of_decide_eq_true (ho _ (List.mem_cons_self ..))
      have o1 := of_decide_eq_true (ho _ (List.mem_cons_of_mem _ (List.mem_cons_self ..)))
      refine ⟨(⟨nb, p, m, n⟩, []), id, ?_, 0, o0, o1, Nat.zero_le _, by simp⟩
      exact goes_pre (g := id) (vals := [.slice true 1 0 n none 1]) (pre := [some ⟨false, .ints .u8 (some nb) p⟩]) (m' := [some ⟨true, .ints .u8 none m⟩]) (rest := [some ⟨true, .ints .u8 none m⟩]) (.cons (.refl _) .nil) rfl rfl ⟨⟨_, rfl, .refl _⟩, trivial⟩ rfl rfl rfl rfl
    · cases h
  · obtain ⟨k, hl, hn, hk, same⟩ := hJ
    obtain ⟨q, bq⟩ := q
    obtain ⟨s, bs⟩ := s
    obtain ⟨nb, p, m, n⟩ := q
    simp only at hl hn hk same
    subst same
    have hpz : pz n ≤ 15 := pz_le n
    have et : ((n + k : Nat) : Int).tmod 16 = (((n + k) % 16 : Nat) : Int) := by rw [Int.tmod_eq_emod_of_nonneg (by omega)]; omega
    by_cases hend : k = pz n
    · subst hend
      have e0 : (n + pz n) % 16 = 0 := pz_mod n
      refine RoundR.out (pa_f _) rfl id (paid_cons (decide_eq_true (by simp only; omega)) (paid_cons (by simp only [et, e0]; rfl) Paid.nil)) ?_
      exact ⟨fun p0 hp => by
        simp only [paF, List.mem_cons, List.not_mem_nil, or_false] at hp
        subst hp
        exact ⟨_, List.mem_cons_self .., .refl _⟩, goes_mem (pre := [some ⟨false, .ints .u8 (some nb) p⟩]) rfl rfl ⟨⟨_, rfl, .refl _⟩, trivial⟩, rfl, rfl, Nat.le_of_ble_eq_true rfl, goes_bnd (pre := [some ⟨false, .ints .u8 (some nb) p⟩]) rfl rfl rfl, rfl⟩
    · have hlk : (m ++ List.replicate k 0).length = n + k := by simp [hl]
      have hne : (n + k) % 16 ≠ 0 := by unfold pz at hk hend; omega
      refine RoundR.on (pa_t ⟨nb, p, m ++ List.replicate k 0, n + k⟩) (⟨nb, p, m ++ List.replicate (k + 1) 0, n + (k + 1)⟩, bs) (fun n => [0, 3].getD n 0) (paid_cons (decide_eq_true (by simp only; omega)) (paid_cons (by simp only [et]; simp; omega) (paid_cons (decide_eq_true (by simp only [hlk]; omega)) (paid_cons (decide_eq_true (by simp only; omega)) Paid.nil)))) ?_ ⟨k + 1, hl, hn, by simp only; omega, rfl⟩ (by simp only; unfold pz at *; omega)
      simp only [List.drop_zero, List.take_of_length_le (Nat.le_of_eq hlk), List.append_assoc]
      rw [show List.replicate k (0 : Int) ++ [0] = List.replicate (k + 1) 0 from List.replicate_succ'.symm]
      exact goes_pre (pre := [some ⟨false, .ints .u8 (some nb) p⟩]) (.cons (.refl _) .nil) rfl rfl ⟨⟨_, rfl, .refl _⟩, trivial⟩ rfl rfl rfl rfl
theorem pd_b (n : Nat) (p : List Int) : seeV 1 ((funcL Try.prog qD (deep Try.prog qD hx1 100 3) (paΛ fun _ _ => none) 100 53 (cArgs 0 [.buf true .u8 n p]) (cMem [.buf true .u8 n p])).go []) = some ([decide (0 + n ≤ n), decide (1 ≤ n) && decide (n ≤ 1000000000), decide (((p.drop 0).take n).length = n), decide (n ≤ 900000000)], .slice true 1 0 (n + pz n) none 1, some (some ⟨true, .ints .u8 none ((p.drop 0).take n ++ List.replicate (pz n) 0)⟩)) := by kernel_rfl
theorem pd_n : seeV 50 ((funcL Try.prog qD (deep Try.prog qD hx1 100 3) (paΛ fun _ _ => none) 100 53 (cArgs 0 [.pl .nilslice]) (cMem [.pl .nilslice])).go []) = some ([], .nilslice, none) := by kernel_rfl
theorem pd_e : seeV 50 ((funcL Try.prog qD (deep Try.prog qD hx1 100 3) (paΛ fun _ _ => none) 100 53 (cArgs 0 [.empty]) (cMem [.empty])).go []) = some ([], .nilslice, none) := by kernel_rfl
def pdS : List V → E (AV × Mem)
  | [.buf _ .u8 n p] => some ([decide (1 ≤ n), decide (n ≤ 900000000)], (.slice true 0 0 (n + pz n) none 1, [some ⟨true, .ints .u8 none (p ++ List.replicate (pz n) 0)⟩]))
  | [.pl .nilslice] => some ([], (.nilslice, []))
  | [.empty] => some ([], (.nilslice, []))
  | _ => none
theorem pd_ok {xs : List V} {o : List Bool} {v : AV} {bs : Mem} (h : pdS xs = some (o, (v, bs))) (ho : Paid o) : ViewCall Try.prog 53 xs v bs := by
  have hΛ : ∀ (fn : Func) (c : Code), Try.prog.funcs[53]? = some fn → fn.body = some c → LOkN 1 Try.prog c (paΛ fun _ _ => none) := fun fn c hf hb => by rw [bodyOf_eq hf hb]; exact pa_lok LOkN.none
  unfold pdS at h
  split at h
  · rename_i s n p
    cases h
    have o0 := of_decide_eq_true (ho _ (List.mem_cons_self ..))
    have o1 := of_decide_eq_true (ho _ (List.mem_cons_of_mem _ (List.mem_cons_self ..)))
    intro ρ vs w ha hi
    obtain ⟨n1, _⟩ := buf_arg hi 0 rfl
    have ha2 : Reps ρ (upto 1) (cArgs 0 [.buf true .u8 n p]) vs := by
      cases ha with | cons _ _ u us a0 hs => exact .cons _ _ _ _ (markedS a0) hs
    have ev := pd_b n p
    rw [List.drop_zero, List.take_of_length_le (Nat.le_of_eq n1)] at ev
    exact viewN_one mixed noCount (hx1_ok.deep mixed noCount 100 3) hΛ (v := .slice true 0 0 (n + pz n) none 1) [] 1 ev (paid_cons (decide_eq_true (by omega)) (paid_cons (by rw [decide_eq_true (by omega), decide_eq_true (by omega)]; rfl) (paid_cons (decide_eq_true n1) (paid_cons (decide_eq_true o1) Paid.nil)))) (Nat.le_refl _) rfl rfl ha2 hi
  · cases h
    intro ρ vs w ha hi
    exact viewN_none mixed noCount (hx1_ok.deep mixed noCount 100 3) hΛ [] 50 pd_n Paid.nil rfl rfl rfl rfl ha hi
  · cases h
    intro ρ vs w ha hi
    exact viewN_none mixed noCount (hx1_ok.deep mixed noCount 100 3) hΛ [] 50 pd_e Paid.nil rfl rfl rfl rfl ha hi
  · cases h
def hx2 : CallH := withV 53 pdS hx1
theorem hx2_ok : HOk Try.prog hx2 := hx1_ok.withV fun _ _ _ _ h ho => pd_ok h ho
end Go.Proofs.Ytpbemjifhampcaa
