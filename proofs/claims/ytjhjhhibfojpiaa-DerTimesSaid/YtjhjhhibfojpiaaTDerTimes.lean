/- Times are written as the document has it, and read as they were; any bytes are a time, or not: for all times, tags and bytes the law answers true. No condition. -/
import Derived.Test.YtjhjhhibfojpiaaTDtR
import Derived.Test.YtjhjhhibfojpiaaTAesL
set_option linter.unusedSimpArgs false
set_option linter.unusedVariables false
set_option linter.unusedSectionVars false
namespace Go.Proofs.Ytjhjhhibfojpiaa
open Go.Ev Go.De Go.Dt
open Go.ChangeShapes Go.WideShapes Go.ChangeAt Go.RowKit
set_option maxRecDepth 100000
theorem inR64 {t : Int} (h : inR .u64 t = true) : 0 ≤ t ∧ t < 18446744073709551616 := by
  rw [inR_iff] at h
  simp only [lo, hi] at h
  omega
theorem unmarkT {W : World} {j n : Nat} {k : IntKind} {l : List Int} {v : Value} (h : ∃ L, VOk W j L (.buf true k n l) v) : ∃ L, VOk W j L (.buf false k n l) v := by
  obtain ⟨L, h1, h2⟩ := h
  refine ⟨L, fun ρ N hρ hN => ?_, fun b hb => ⟨fun hrw => ?_, (h2 b hb).2⟩⟩
  · have hr := h1 ρ N hρ hN
    cases hr with
    | slice _ _ _ _ _ _ c ad hn hc hl hw had => exact .slice false _ _ _ _ _ c ad hn hc hl hw had
  · cases hb; cases hrw
theorem times_run {W : World} {t tag : Int} (ht : inR .u64 t = true) (hg : inR .u8 tag = true) {v : Value} {x : V} (g : ∃ L, VOk W 2 L x v) {P R : CallH} (hP : HOk Try.prog P) (hR : HOk Try.prog R) {c j2 : Nat} {ds o : List Bool} {s b : Bool}
    (ev : res ((funcL Try.prog (qX [] [43]) (lwH c j2 P R) (fun _ _ => none) 200 4 (cArgs 0 [.pl (.int true .u64 t), .pl (.int true .u8 tag), x]) (cMem [.pl (.int true .u64 t), .pl (.int true .u8 tag), x])).go ds) = some (o, .bool s b)) (po : Paid o) (hb : b = true) (hn : noW [V.pl (.int true .u64 t), V.pl (.int true .u8 tag), x] = true := by rfl) :
    Calls Try.prog 4 #[.int .u64 t, .int .u8 tag, v] W (fun e w' => e = .returned (.bool true) ∧ Below W.heap.size W w') :=
  law_of_goP (xs := [.pl (.int true .u64 t), .pl (.int true .u8 tag), x]) (vs := [.int .u64 t, .int .u8 tag, v]) (avs := [.int .u64 t, .int .u8 tag, v]) mixed (lwH_ok hP hR c j2) (fun _ _ _ _ => LOkN.none) ds ev po hb (.cons _ _ _ _ _ (VOk.plain fun ρ N => .int _ _ _ ht) (.cons _ _ _ _ _ (VOk.plain fun ρ N => .int _ _ _ hg) (.cons _ _ _ _ _ g (.nil _)))) (fun _ _ hr => hr) hn
theorem times_n {W : World} {t tag : Int} (ht : inR .u64 t = true) (hg : inR .u8 tag = true) {v : Value} (g : ∃ L, VOk W 2 L (.pl .nilslice) v) : Calls Try.prog 4 #[.int .u64 t, .int .u8 tag, v] W (fun e w' => e = .returned (.bool true) ∧ Below W.heap.size W w') := by
  obtain ⟨h0, h1⟩ := inR64 ht
  by_cases h2 : 253402300800 ≤ t
  · exact times_run ht hg g (htx_ok n0_ok) (hrx_ok n0_ok) (lw024n_eval t tag ) (lw024n_paid h0 h1 h2 ) (decide_eq_true h2)
  have h1 : t < 253402300800 := by omega
  by_cases h3 : yearOf (t.toNat / 86400) ≤ 2049
  · by_cases hy : yearOf (t.toNat / 86400) < 2000
    · obtain ⟨s1, s2, s3, s4⟩ := sec119 h0 h1 h3 hy
      exact times_run ht hg g (htx_ok n0_ok) (hrx_ok n0_ok) (lw119n_eval t tag ) (lw119n_paid h0 h1 h3  s1 s2 s3) s4
    · obtain ⟨s1, s2, s3, s4⟩ := sec120 h0 h1 h3 (by omega)
      exact times_run ht hg g (htx_ok n0_ok) (hrx_ok n0_ok) (lw120n_eval t tag ) (lw120n_paid h0 h1 h3  s1 s2 s3) s4
  · obtain ⟨s1, s2, s4⟩ := sec224 h0 h1 h3
    exact times_run ht hg g (htx_ok n0_ok) (hrx_ok n0_ok) (lw224n_eval t tag ) (lw224n_paid h0 h1 h3  s1 s2) s4
theorem times_e {W : World} {t tag : Int} (ht : inR .u64 t = true) (hg : inR .u8 tag = true) {v : Value} (g : ∃ L, VOk W 2 L (.empty) v) : Calls Try.prog 4 #[.int .u64 t, .int .u8 tag, v] W (fun e w' => e = .returned (.bool true) ∧ Below W.heap.size W w') := by
  obtain ⟨h0, h1⟩ := inR64 ht
  by_cases h2 : 253402300800 ≤ t
  · exact times_run ht hg g (htx_ok n0_ok) (hrx_ok n0_ok) (lw024e_eval t tag ) (lw024e_paid h0 h1 h2 ) (decide_eq_true h2)
  have h1 : t < 253402300800 := by omega
  by_cases h3 : yearOf (t.toNat / 86400) ≤ 2049
  · by_cases hy : yearOf (t.toNat / 86400) < 2000
    · obtain ⟨s1, s2, s3, s4⟩ := sec119 h0 h1 h3 hy
      exact times_run ht hg g (htx_ok n0_ok) (hrx_ok n0_ok) (lw119e_eval t tag ) (lw119e_paid h0 h1 h3  s1 s2 s3) s4
    · obtain ⟨s1, s2, s3, s4⟩ := sec120 h0 h1 h3 (by omega)
      exact times_run ht hg g (htx_ok n0_ok) (hrx_ok n0_ok) (lw120e_eval t tag ) (lw120e_paid h0 h1 h3  s1 s2 s3) s4
  · obtain ⟨s1, s2, s4⟩ := sec224 h0 h1 h3
    exact times_run ht hg g (htx_ok n0_ok) (hrx_ok n0_ok) (lw224e_eval t tag ) (lw224e_paid h0 h1 h3  s1 s2) s4
theorem times_x {W : World} {t tag : Int} {n : Nat} {l : List Int} (ht : inR .u64 t = true) (hg : inR .u8 tag = true) {v : Value} (g : ∃ L, VOk W 2 L (.buf true .u8 n l) v) (hn1 : 1 ≤ n) (hn : n ≤ 100) (hb : badT tag n (List.take n (List.drop 0 l)) = true) : Calls Try.prog 4 #[.int .u64 t, .int .u8 tag, v] W (fun e w' => e = .returned (.bool true) ∧ Below W.heap.size W w') := by
  obtain ⟨h0, h1⟩ := inR64 ht
  by_cases h2 : 253402300800 ≤ t
  · exact times_run ht hg g (htx_ok n0_ok) (hrx_ok n0_ok) (lw024x_eval t tag n l) (lw024x_paid h0 h1 h2 hn1 hn hb) (decide_eq_true h2)
  have h1 : t < 253402300800 := by omega
  by_cases h3 : yearOf (t.toNat / 86400) ≤ 2049
  · by_cases hy : yearOf (t.toNat / 86400) < 2000
    · obtain ⟨s1, s2, s3, s4⟩ := sec119 h0 h1 h3 hy
      exact times_run ht hg g (htx_ok n0_ok) (hrx_ok n0_ok) (lw119x_eval t tag n l) (lw119x_paid h0 h1 h3 hn1 hn hb s1 s2 s3) s4
    · obtain ⟨s1, s2, s3, s4⟩ := sec120 h0 h1 h3 (by omega)
      exact times_run ht hg g (htx_ok n0_ok) (hrx_ok n0_ok) (lw120x_eval t tag n l) (lw120x_paid h0 h1 h3 hn1 hn hb s1 s2 s3) s4
  · obtain ⟨s1, s2, s4⟩ := sec224 h0 h1 h3
    exact times_run ht hg g (htx_ok n0_ok) (hrx_ok n0_ok) (lw224x_eval t tag n l) (lw224x_paid h0 h1 h3 hn1 hn hb s1 s2) s4
theorem times_24t {W : World} {t tag : Int} {a0 a1 a2 a3 a4 a5 a6 a7 a8 a9 a10 a11 a12 a13 a14 : Int} (ht : inR .u64 t = true) (hg : inR .u8 tag = true) {v : Value} (g : ∃ L, VOk W 2 L (.buf false .u8 15 [a0, a1, a2, a3, a4, a5, a6, a7, a8, a9, a10, a11, a12, a13, a14]) v) (htg : tag = 24) (hz : a14 = 90) (hd : digs [a0, a1, a2, a3, a4, a5, a6, a7, a8, a9, a10, a11, a12, a13] = true) (hth : there (100 * tw a0 a1 + tw a2 a3) (tw a4 a5) (tw a6 a7) (tw a8 a9) (tw a10 a11) (tw a12 a13) = true) : Calls Try.prog 4 #[.int .u64 t, .int .u8 tag, v] W (fun e w' => e = .returned (.bool true) ∧ Below W.heap.size W w') := by
  obtain ⟨h0, h1⟩ := inR64 ht
  by_cases h2 : 253402300800 ≤ t
  · exact times_run ht hg g (htm_ok n0_ok 24 true) (hrt_ok n0_ok 24 true) (lw02424t_eval t tag a0 a1 a2 a3 a4 a5 a6 a7 a8 a9 a10 a11 a12 a13 a14) (lw02424t_paid h0 h1 h2 htg hz hd hth) (decide_eq_true h2)
  have h1 : t < 253402300800 := by omega
  by_cases h3 : yearOf (t.toNat / 86400) ≤ 2049
  · by_cases hy : yearOf (t.toNat / 86400) < 2000
    · obtain ⟨s1, s2, s3, s4⟩ := sec119 h0 h1 h3 hy
      exact times_run ht hg g (htm_ok n0_ok 24 true) (hrt_ok n0_ok 24 true) (lw11924t_eval t tag a0 a1 a2 a3 a4 a5 a6 a7 a8 a9 a10 a11 a12 a13 a14) (lw11924t_paid h0 h1 h3 htg hz hd hth s1 s2 s3) s4
    · obtain ⟨s1, s2, s3, s4⟩ := sec120 h0 h1 h3 (by omega)
      exact times_run ht hg g (htm_ok n0_ok 24 true) (hrt_ok n0_ok 24 true) (lw12024t_eval t tag a0 a1 a2 a3 a4 a5 a6 a7 a8 a9 a10 a11 a12 a13 a14) (lw12024t_paid h0 h1 h3 htg hz hd hth s1 s2 s3) s4
  · obtain ⟨s1, s2, s4⟩ := sec224 h0 h1 h3
    exact times_run ht hg g (htm_ok n0_ok 24 true) (hrt_ok n0_ok 24 true) (lw22424t_eval t tag a0 a1 a2 a3 a4 a5 a6 a7 a8 a9 a10 a11 a12 a13 a14) (lw22424t_paid h0 h1 h3 htg hz hd hth s1 s2) s4
theorem times_24f {W : World} {t tag : Int} {a0 a1 a2 a3 a4 a5 a6 a7 a8 a9 a10 a11 a12 a13 a14 : Int} (ht : inR .u64 t = true) (hg : inR .u8 tag = true) {v : Value} (g : ∃ L, VOk W 2 L (.buf false .u8 15 [a0, a1, a2, a3, a4, a5, a6, a7, a8, a9, a10, a11, a12, a13, a14]) v) (htg : tag = 24) (hz : a14 = 90) (hd : digs [a0, a1, a2, a3, a4, a5, a6, a7, a8, a9, a10, a11, a12, a13] = true) (hth : there (100 * tw a0 a1 + tw a2 a3) (tw a4 a5) (tw a6 a7) (tw a8 a9) (tw a10 a11) (tw a12 a13) = false) : Calls Try.prog 4 #[.int .u64 t, .int .u8 tag, v] W (fun e w' => e = .returned (.bool true) ∧ Below W.heap.size W w') := by
  obtain ⟨h0, h1⟩ := inR64 ht
  by_cases h2 : 253402300800 ≤ t
  · exact times_run ht hg g (htm_ok n0_ok 24 false) (hrt_ok n0_ok 24 false) (lw02424f_eval t tag a0 a1 a2 a3 a4 a5 a6 a7 a8 a9 a10 a11 a12 a13 a14) (lw02424f_paid h0 h1 h2 htg hz hd hth) (decide_eq_true h2)
  have h1 : t < 253402300800 := by omega
  by_cases h3 : yearOf (t.toNat / 86400) ≤ 2049
  · by_cases hy : yearOf (t.toNat / 86400) < 2000
    · obtain ⟨s1, s2, s3, s4⟩ := sec119 h0 h1 h3 hy
      exact times_run ht hg g (htm_ok n0_ok 24 false) (hrt_ok n0_ok 24 false) (lw11924f_eval t tag a0 a1 a2 a3 a4 a5 a6 a7 a8 a9 a10 a11 a12 a13 a14) (lw11924f_paid h0 h1 h3 htg hz hd hth s1 s2 s3) s4
    · obtain ⟨s1, s2, s3, s4⟩ := sec120 h0 h1 h3 (by omega)
      exact times_run ht hg g (htm_ok n0_ok 24 false) (hrt_ok n0_ok 24 false) (lw12024f_eval t tag a0 a1 a2 a3 a4 a5 a6 a7 a8 a9 a10 a11 a12 a13 a14) (lw12024f_paid h0 h1 h3 htg hz hd hth s1 s2 s3) s4
  · obtain ⟨s1, s2, s4⟩ := sec224 h0 h1 h3
    exact times_run ht hg g (htm_ok n0_ok 24 false) (hrt_ok n0_ok 24 false) (lw22424f_eval t tag a0 a1 a2 a3 a4 a5 a6 a7 a8 a9 a10 a11 a12 a13 a14) (lw22424f_paid h0 h1 h3 htg hz hd hth s1 s2) s4
theorem times_19t {W : World} {t tag : Int} {a0 a1 a2 a3 a4 a5 a6 a7 a8 a9 a10 a11 a12 : Int} (ht : inR .u64 t = true) (hg : inR .u8 tag = true) {v : Value} (g : ∃ L, VOk W 2 L (.buf false .u8 13 [a0, a1, a2, a3, a4, a5, a6, a7, a8, a9, a10, a11, a12]) v) (htg : tag = 23) (hz : a12 = 90) (hd : digs [a0, a1, a2, a3, a4, a5, a6, a7, a8, a9, a10, a11] = true) (hj : a0 ≥ 53) (hth : there (1900 + tw a0 a1) (tw a2 a3) (tw a4 a5) (tw a6 a7) (tw a8 a9) (tw a10 a11) = true) : Calls Try.prog 4 #[.int .u64 t, .int .u8 tag, v] W (fun e w' => e = .returned (.bool true) ∧ Below W.heap.size W w') := by
  obtain ⟨h0, h1⟩ := inR64 ht
  by_cases h2 : 253402300800 ≤ t
  · exact times_run ht hg g (htm_ok n0_ok 19 true) (hrt_ok n0_ok 19 true) (lw02419t_eval t tag a0 a1 a2 a3 a4 a5 a6 a7 a8 a9 a10 a11 a12) (lw02419t_paid h0 h1 h2 htg hz hd hj hth) (decide_eq_true h2)
  have h1 : t < 253402300800 := by omega
  by_cases h3 : yearOf (t.toNat / 86400) ≤ 2049
  · by_cases hy : yearOf (t.toNat / 86400) < 2000
    · obtain ⟨s1, s2, s3, s4⟩ := sec119 h0 h1 h3 hy
      exact times_run ht hg g (htm_ok n0_ok 19 true) (hrt_ok n0_ok 19 true) (lw11919t_eval t tag a0 a1 a2 a3 a4 a5 a6 a7 a8 a9 a10 a11 a12) (lw11919t_paid h0 h1 h3 htg hz hd hj hth s1 s2 s3) s4
    · obtain ⟨s1, s2, s3, s4⟩ := sec120 h0 h1 h3 (by omega)
      exact times_run ht hg g (htm_ok n0_ok 19 true) (hrt_ok n0_ok 19 true) (lw12019t_eval t tag a0 a1 a2 a3 a4 a5 a6 a7 a8 a9 a10 a11 a12) (lw12019t_paid h0 h1 h3 htg hz hd hj hth s1 s2 s3) s4
  · obtain ⟨s1, s2, s4⟩ := sec224 h0 h1 h3
    exact times_run ht hg g (htm_ok n0_ok 19 true) (hrt_ok n0_ok 19 true) (lw22419t_eval t tag a0 a1 a2 a3 a4 a5 a6 a7 a8 a9 a10 a11 a12) (lw22419t_paid h0 h1 h3 htg hz hd hj hth s1 s2) s4
theorem times_19f {W : World} {t tag : Int} {a0 a1 a2 a3 a4 a5 a6 a7 a8 a9 a10 a11 a12 : Int} (ht : inR .u64 t = true) (hg : inR .u8 tag = true) {v : Value} (g : ∃ L, VOk W 2 L (.buf false .u8 13 [a0, a1, a2, a3, a4, a5, a6, a7, a8, a9, a10, a11, a12]) v) (htg : tag = 23) (hz : a12 = 90) (hd : digs [a0, a1, a2, a3, a4, a5, a6, a7, a8, a9, a10, a11] = true) (hj : a0 ≥ 53) (hth : there (1900 + tw a0 a1) (tw a2 a3) (tw a4 a5) (tw a6 a7) (tw a8 a9) (tw a10 a11) = false) : Calls Try.prog 4 #[.int .u64 t, .int .u8 tag, v] W (fun e w' => e = .returned (.bool true) ∧ Below W.heap.size W w') := by
  obtain ⟨h0, h1⟩ := inR64 ht
  by_cases h2 : 253402300800 ≤ t
  · exact times_run ht hg g (htm_ok n0_ok 19 false) (hrt_ok n0_ok 19 false) (lw02419f_eval t tag a0 a1 a2 a3 a4 a5 a6 a7 a8 a9 a10 a11 a12) (lw02419f_paid h0 h1 h2 htg hz hd hj hth) (decide_eq_true h2)
  have h1 : t < 253402300800 := by omega
  by_cases h3 : yearOf (t.toNat / 86400) ≤ 2049
  · by_cases hy : yearOf (t.toNat / 86400) < 2000
    · obtain ⟨s1, s2, s3, s4⟩ := sec119 h0 h1 h3 hy
      exact times_run ht hg g (htm_ok n0_ok 19 false) (hrt_ok n0_ok 19 false) (lw11919f_eval t tag a0 a1 a2 a3 a4 a5 a6 a7 a8 a9 a10 a11 a12) (lw11919f_paid h0 h1 h3 htg hz hd hj hth s1 s2 s3) s4
    · obtain ⟨s1, s2, s3, s4⟩ := sec120 h0 h1 h3 (by omega)
      exact times_run ht hg g (htm_ok n0_ok 19 false) (hrt_ok n0_ok 19 false) (lw12019f_eval t tag a0 a1 a2 a3 a4 a5 a6 a7 a8 a9 a10 a11 a12) (lw12019f_paid h0 h1 h3 htg hz hd hj hth s1 s2 s3) s4
  · obtain ⟨s1, s2, s4⟩ := sec224 h0 h1 h3
    exact times_run ht hg g (htm_ok n0_ok 19 false) (hrt_ok n0_ok 19 false) (lw22419f_eval t tag a0 a1 a2 a3 a4 a5 a6 a7 a8 a9 a10 a11 a12) (lw22419f_paid h0 h1 h3 htg hz hd hj hth s1 s2) s4
theorem times_20t {W : World} {t tag : Int} {a0 a1 a2 a3 a4 a5 a6 a7 a8 a9 a10 a11 a12 : Int} (ht : inR .u64 t = true) (hg : inR .u8 tag = true) {v : Value} (g : ∃ L, VOk W 2 L (.buf false .u8 13 [a0, a1, a2, a3, a4, a5, a6, a7, a8, a9, a10, a11, a12]) v) (htg : tag = 23) (hz : a12 = 90) (hd : digs [a0, a1, a2, a3, a4, a5, a6, a7, a8, a9, a10, a11] = true) (hj : ¬ a0 ≥ 53) (hth : there (2000 + tw a0 a1) (tw a2 a3) (tw a4 a5) (tw a6 a7) (tw a8 a9) (tw a10 a11) = true) : Calls Try.prog 4 #[.int .u64 t, .int .u8 tag, v] W (fun e w' => e = .returned (.bool true) ∧ Below W.heap.size W w') := by
  obtain ⟨h0, h1⟩ := inR64 ht
  by_cases h2 : 253402300800 ≤ t
  · exact times_run ht hg g (htm_ok n0_ok 20 true) (hrt_ok n0_ok 20 true) (lw02420t_eval t tag a0 a1 a2 a3 a4 a5 a6 a7 a8 a9 a10 a11 a12) (lw02420t_paid h0 h1 h2 htg hz hd hj hth) (decide_eq_true h2)
  have h1 : t < 253402300800 := by omega
  by_cases h3 : yearOf (t.toNat / 86400) ≤ 2049
  · by_cases hy : yearOf (t.toNat / 86400) < 2000
    · obtain ⟨s1, s2, s3, s4⟩ := sec119 h0 h1 h3 hy
      exact times_run ht hg g (htm_ok n0_ok 20 true) (hrt_ok n0_ok 20 true) (lw11920t_eval t tag a0 a1 a2 a3 a4 a5 a6 a7 a8 a9 a10 a11 a12) (lw11920t_paid h0 h1 h3 htg hz hd hj hth s1 s2 s3) s4
    · obtain ⟨s1, s2, s3, s4⟩ := sec120 h0 h1 h3 (by omega)
      exact times_run ht hg g (htm_ok n0_ok 20 true) (hrt_ok n0_ok 20 true) (lw12020t_eval t tag a0 a1 a2 a3 a4 a5 a6 a7 a8 a9 a10 a11 a12) (lw12020t_paid h0 h1 h3 htg hz hd hj hth s1 s2 s3) s4
  · obtain ⟨s1, s2, s4⟩ := sec224 h0 h1 h3
    exact times_run ht hg g (htm_ok n0_ok 20 true) (hrt_ok n0_ok 20 true) (lw22420t_eval t tag a0 a1 a2 a3 a4 a5 a6 a7 a8 a9 a10 a11 a12) (lw22420t_paid h0 h1 h3 htg hz hd hj hth s1 s2) s4
theorem times_20f {W : World} {t tag : Int} {a0 a1 a2 a3 a4 a5 a6 a7 a8 a9 a10 a11 a12 : Int} (ht : inR .u64 t = true) (hg : inR .u8 tag = true) {v : Value} (g : ∃ L, VOk W 2 L (.buf false .u8 13 [a0, a1, a2, a3, a4, a5, a6, a7, a8, a9, a10, a11, a12]) v) (htg : tag = 23) (hz : a12 = 90) (hd : digs [a0, a1, a2, a3, a4, a5, a6, a7, a8, a9, a10, a11] = true) (hj : ¬ a0 ≥ 53) (hth : there (2000 + tw a0 a1) (tw a2 a3) (tw a4 a5) (tw a6 a7) (tw a8 a9) (tw a10 a11) = false) : Calls Try.prog 4 #[.int .u64 t, .int .u8 tag, v] W (fun e w' => e = .returned (.bool true) ∧ Below W.heap.size W w') := by
  obtain ⟨h0, h1⟩ := inR64 ht
  by_cases h2 : 253402300800 ≤ t
  · exact times_run ht hg g (htm_ok n0_ok 20 false) (hrt_ok n0_ok 20 false) (lw02420f_eval t tag a0 a1 a2 a3 a4 a5 a6 a7 a8 a9 a10 a11 a12) (lw02420f_paid h0 h1 h2 htg hz hd hj hth) (decide_eq_true h2)
  have h1 : t < 253402300800 := by omega
  by_cases h3 : yearOf (t.toNat / 86400) ≤ 2049
  · by_cases hy : yearOf (t.toNat / 86400) < 2000
    · obtain ⟨s1, s2, s3, s4⟩ := sec119 h0 h1 h3 hy
      exact times_run ht hg g (htm_ok n0_ok 20 false) (hrt_ok n0_ok 20 false) (lw11920f_eval t tag a0 a1 a2 a3 a4 a5 a6 a7 a8 a9 a10 a11 a12) (lw11920f_paid h0 h1 h3 htg hz hd hj hth s1 s2 s3) s4
    · obtain ⟨s1, s2, s3, s4⟩ := sec120 h0 h1 h3 (by omega)
      exact times_run ht hg g (htm_ok n0_ok 20 false) (hrt_ok n0_ok 20 false) (lw12020f_eval t tag a0 a1 a2 a3 a4 a5 a6 a7 a8 a9 a10 a11 a12) (lw12020f_paid h0 h1 h3 htg hz hd hj hth s1 s2 s3) s4
  · obtain ⟨s1, s2, s4⟩ := sec224 h0 h1 h3
    exact times_run ht hg g (htm_ok n0_ok 20 false) (hrt_ok n0_ok 20 false) (lw22420f_eval t tag a0 a1 a2 a3 a4 a5 a6 a7 a8 a9 a10 a11 a12) (lw22420f_paid h0 h1 h3 htg hz hd hj hth s1 s2) s4
theorem derTimes_calls {W0 : World} {t tag : Int} (ht : inR .u64 t = true) (hg : inR .u8 tag = true) {v : Value} (r : Nums W0 .u8 reachBytes v) (W : World) (hW : W0 = W := by rfl) : Calls Try.prog 4 #[.int .u64 t, .int .u8 tag, v] W (fun e w' => e = .returned (.bool true) ∧ Below W.heap.size W w') := by
  subst hW
  rcases VOk.bytes (W := W0) 2 r with g | g | ⟨n, l, h1, hm, hl, hr, g⟩
  · exact times_n ht hg g
  · exact times_e ht hg g
  by_cases hn : n ≤ 100
  · cases hb : badT tag n l with
    | true => exact times_x ht hg g h1 hn (by rw [List.drop_zero, List.take_of_length_le (by omega)]; exact hb)
    | false =>
      unfold badT at hb
      rw [Bool.not_eq_false'] at hb
      simp only [Bool.and_eq_true, Bool.or_eq_true, decide_eq_true_eq] at hb
      obtain ⟨⟨hz, hd⟩, ⟨htg, hnn⟩ | ⟨htg, hnn⟩⟩ := hb
      · subst hnn
        obtain ⟨a0, a1, a2, a3, a4, a5, a6, a7, a8, a9, a10, a11, a12, a13, a14, rfl⟩ := len15 hl
        have g2 := unmarkT g
        have hz2 : a14 = 90 := hz
        have hd2 : digs [a0, a1, a2, a3, a4, a5, a6, a7, a8, a9, a10, a11, a12, a13] = true := hd
        cases hth : there (100 * tw a0 a1 + tw a2 a3) (tw a4 a5) (tw a6 a7) (tw a8 a9) (tw a10 a11) (tw a12 a13) with
        | true => exact times_24t ht hg g2 htg hz2 hd2 hth
        | false => exact times_24f ht hg g2 htg hz2 hd2 hth
      · subst hnn
        obtain ⟨a0, a1, a2, a3, a4, a5, a6, a7, a8, a9, a10, a11, a12, rfl⟩ := len13 hl
        have g2 := unmarkT g
        have hz2 : a12 = 90 := hz
        have hd2 : digs [a0, a1, a2, a3, a4, a5, a6, a7, a8, a9, a10, a11] = true := hd
        by_cases hj : a0 ≥ 53
        · skip
          cases hth : there (1900 + tw a0 a1) (tw a2 a3) (tw a4 a5) (tw a6 a7) (tw a8 a9) (tw a10 a11) with
          | true => exact times_19t ht hg g2 htg hz2 hd2 hj hth
          | false => exact times_19f ht hg g2 htg hz2 hd2 hj hth
        · skip
          cases hth : there (2000 + tw a0 a1) (tw a2 a3) (tw a4 a5) (tw a6 a7) (tw a8 a9) (tw a10 a11) with
          | true => exact times_20t ht hg g2 htg hz2 hd2 hj hth
          | false => exact times_20f ht hg g2 htg hz2 hd2 hj hth
  · exact times_run ht hg g (htx_ok n0_ok) (hrx_ok n0_ok) (lwL_eval t tag n l) (by
      have hb : n < 9223372036854775808 := by have : (reachBytes : Nat) < 9223372036854775808 := by decide
                                              omega
      exact paid_cons (decide_eq_true hb) (paid_cons (decide_eq_true (by omega)) fun _ h => by cases h)) rfl

theorem derTimes_lifted (os : Os) (started : os.Started) (H : Type) (enc : TypeId × Value → H) :
    ReturnsInHanded {} Try.checked os 4 .any (Rows.derTimesSpec.pre6 enc Try.prog Try.f4 Rows.derTimesRow.domain false) (Rows.derTimesSpec.post enc Try.prog Try.f4 false true false false) := by
  refine returnsInHanded_of_change_sized (C := Try.checked) own started (by kernel_rfl) Try.func4
    (ChangeSpec.witness6 (enc := enc) (C := Try.checked) false ⟨#[], #[.int .u64 0, .int .u8 0, .slice none 0 0], []⟩ 8 (by kernel_rfl) (by kernel_rfl) (by kernel_rfl) (by kernel_rfl)) ?_
  intro W base args ds gs before hval0 hW hcnd hsz0 _
  have hval : ∀ (j : Nat) t v, Try.f4.params[j]? = some t → args[j]? = some v → Value.okWide Try.prog W .any base t v := hval0
  have hW' := hW
  obtain ⟨p, q, hA0, hV, rfl, hfz, hnd⟩ := hW
  have hA : DataW.TrodAll enc Try.prog W 0 (fun _ => true) true Try.f4.params.toList args.toList ds p := hA0
  have hsz := hsz0
  rw [Try.params4] at hA hval
  have hsz : (DataW.weightsEach Try.prog (Try.f4.params.toList ++ Rows.derTimesSpec.plain.varTypes Try.prog) (ds ++ gs)).all (· ≤ reachBytes) = true := hsz0
  rw [Try.params4] at hsz
  obtain ⟨v0, v1, v2, d0, d1, d2, p0, p1, p2, hargs, rfl, rfl, g0, g1, g2⟩ := trodAll_three hA
  have hargs' : args = #[v0, v1, v2] := by simpa using hargs
  subst hargs'
  obtain ⟨rfl, rfl⟩ := trodVars_none hV
  obtain ⟨x0, rfl, rfl, rfl, w0⟩ := open_int Try.underlying32 (hval 0 _ v0 rfl rfl) g0
  obtain ⟨x1, rfl, rfl, rfl, w1⟩ := open_int Try.underlying5 (hval 1 _ v1 rfl rfl) g1
  have hv2 := nums_sized Try.underlying22 Try.underlying5 (by kernel_rfl) (by kernel_rfl) (hval 2 _ v2 rfl rfl) g2 (arg_sized hsz (j := 2) (t := 22) rfl rfl)
  refine (derTimes_calls (wf_inR' w0) (wf_inR' w1) hv2 W).mono fun e W' ⟨he, hb⟩ => ?_
  exact ⟨_, he, post_of_law laidOut (by rw [Try.params4]; decide +kernel) hW' rfl rfl Try.underlying4 rfl rfl rfl hb⟩

theorem derTimes_holds : Rows.DerTimesSaid :=
  OpenClaim.holds_of_wide 4 Try.f4 rfl rfl rfl rfl rfl rfl rfl ⟨rfl, rfl, rfl, rfl, rfl⟩ rfl rfl rfl rfl rfl (by kernel_rfl) Try.func4 (by kernel_rfl)
    (of_decide_eq_true (by kernel_rfl)) (by unfold Func.isWrapper; first | (rw [if_pos (by decide +kernel)]; kernel_rfl) | (rw [if_neg (by decide +kernel)]; exact ⟨rfl, rfl⟩))
    (fun os started H enc _ => derTimes_lifted os started H enc)
end Go.Proofs.Ytjhjhhibfojpiaa
