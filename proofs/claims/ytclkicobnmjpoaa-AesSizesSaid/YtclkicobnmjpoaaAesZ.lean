/- A law's loop that makes a key of so many bytes: families. Own work. -/
import Derived.Test.YtclkicobnmjpoaaAesV
import Derived.Test.YtclkicobnmjpoaaAesL
import Derived.Test.YtclkicobnmjpoaaEvLawN
namespace Go.As
open Go.Ev Go.Sh
structure ZzS where
  n : Int
  b : List Int
  d : List Int
  N : Nat
  i : Int
def zf (b : List Int) (j : Nat) : Int := ixor .u8 (IntKind.u8.wrap (j : Int)) (b.getD (0 + ((j : Int).tmod 16).toNat * 1) 0)
def zl (b : List Int) (N i : Nat) : List Int := (List.range i).map (zf b) ++ List.replicate (N - i) 0
theorem zl_len {b : List Int} {N i : Nat} (h : i ≤ N) : (zl b N i).length = N := by simp [zl]; omega
theorem zl_set {b : List Int} {N i : Nat} (h : i < N) : (zl b N i).set (0 + i * 1) (zf b i) = zl b N (i + 1) := by
  unfold zl
  rw [Nat.zero_add, Nat.mul_one, List.set_append_right _ _ (by simp), List.range_succ, List.map_append]
  simp only [List.length_map, List.length_range, Nat.sub_self, List.map_cons, List.map_nil, List.append_assoc]
  congr 1
  rw [show N - i = (N - (i + 1)) + 1 by omega, List.replicate_succ]
  rfl
def kz (b : List Int) (N : Nat) : List Int := (List.range N).map (zf b)
theorem zl_end (b : List Int) (N : Nat) : zl b N N = kz b N := by unfold zl kz; rw [Nat.sub_self, List.replicate_zero, List.append_nil]
theorem kz_len (b : List Int) (N : Nat) : (kz b N).length = N := by simp [kz]
theorem kz_b8 (b : List Int) (N : Nat) : ∀ x ∈ kz b N, B8 x := fun x hx => by
  unfold kz at hx
  obtain ⟨i, _, rfl⟩ := List.mem_map.1 hx
  exact ixor_b8 _ _
theorem kz_take (b : List Int) : (kz b 32).take 16 = kz b 16 := by unfold kz; rw [← List.map_take, List.take_range]; rfl
end Go.As
namespace Go.Proofs.Ytclkicobnmjpoaa
open Go.Ev Go.Sh Go.As
set_option maxRecDepth 100000
def zzTs : List Nat := [0, 3, 5, 22, 23]
def zzV (s : ZzS) : List AV := [.int true .i64 s.n, .ptr false 2 0, .slice true 3 0 s.N none 1, .int true .i64 s.N, .int true .i64 s.i]
def zzM (s : ZzS) : Mem := [none, none, some ⟨true, .ints .u8 (some 16) s.b⟩, some ⟨true, .ints .u8 none s.d⟩]
theorem zz_t (s : ZzS) : seesL zzTs ((codeL Try.prog qP (deep Try.prog qP hdX 100 3) (fun _ _ => none) 100 (lp (blk 0 (bodyOf Try.prog 6))) ⟨tmOf (ups (fun _ => .top) (zipU zzTs (zzV s))) 89, zzM s⟩).go [true]) = some ([decide (s.i < (s.N : Int)), decide (0 ≤ s.i.tmod 16) && decide (s.i.tmod 16 < ((16 : Nat) : Int)), decide (0 + (s.i.tmod 16).toNat * 1 + 1 ≤ 16), decide (0 ≤ s.i) && decide (s.i < (s.N : Int)), decide (0 + s.i.toNat * 1 + 1 ≤ s.d.length)], 0, zzV { s with i := IntKind.i64.wrap (s.i + 1) }, 89, zzM { s with d := s.d.set (0 + s.i.toNat * 1) (ixor .u8 (IntKind.u8.wrap s.i) (s.b.getD (0 + (s.i.tmod 16).toNat * 1) 0)) }) := by kernel_rfl
theorem zz_f (s : ZzS) : seesL zzTs ((codeL Try.prog qP (deep Try.prog qP hdX 100 3) (fun _ _ => none) 100 (lp (blk 0 (bodyOf Try.prog 6))) ⟨tmOf (ups (fun _ => .top) (zipU zzTs (zzV s))) 89, zzM s⟩).go [false]) = some ([!decide (s.i < (s.N : Int))], 2, zzV s, 89, zzM s) := by kernel_rfl
def zzP : List AV → Mem → Option (ZzS × List Bool)
  | [.int true .i64 n, .ptr false 2 0, .slice true 3 0 N none 1, .int true .i64 m, .int _ .i64 i], [none, none, some ⟨true, .ints .u8 (some 16) b⟩, some ⟨true, .ints .u8 none d⟩] => some (⟨n, b, d, N, i⟩, [decide (m = (N : Int))])
  | _, _ => none
def zzB (p : ZzS × List Bool) : List Bool := p.2 ++ [decide (p.1.i = 0), decide (p.1.d = List.replicate p.1.N 0), decide (p.1.N ≤ 100)]
def zzO16 (p : ZzS × List Bool) : List Bool := zzB p ++ [decide (p.1.N = 16), decide (p.1.n = 16)]
def zzF16 (p : ZzS × List Bool) : List (Nat × AV) × Mem := ([(0, .int false .i64 16), (3, .ptr false 2 0), (5, .slice false 3 0 16 none 1)], [none, none, some ⟨true, .ints .u8 (some 16) p.1.b⟩, some ⟨true, .ints .u8 (some 16) (kz p.1.b 16)⟩])
def zzΛ16 : LoopH := famH 0 89 zzTs zzP zzO16 zzF16 fun _ _ => none
theorem zz16_lok : LOkN 2 Try.prog (bodyOf Try.prog 6) zzΛ16 := by
  refine famR_ok (q := qP) (H := deep Try.prog qP hdX 100 3) (Λ0 := fun _ _ => none) (n := 100) (fun p : ZzS × List Bool => zzV p.1) (fun p => zzM p.1) (fun p s => (p.1.N = 16 ∧ p.1.n = 16) ∧ ∃ j : Nat, j ≤ p.1.N ∧ p.1.N ≤ 100 ∧ s = ({ p.1 with d := zl p.1.b p.1.N j, i := (j : Int) }, [])) (fun s => s.1.N - s.1.i.toNat) mixed (hdX_ok.deep (q := qP) mixed noCount 100 3) LOkN.none LOkN.none (by kernel_rfl) (by kernel_rfl) (fun avs m p h ho => ?_) (fun p s hJ => ?_)
  · unfold zzP at h
    split at h
    · rename_i n N m s1 i b d
      cases h
      have o1 := of_decide_eq_true (ho _ (List.mem_cons_self ..))
      have o2 := of_decide_eq_true (ho _ (List.mem_cons_of_mem _ (List.mem_cons_self ..)))
      have o3 := of_decide_eq_true (ho _ (List.mem_cons_of_mem _ (List.mem_cons_of_mem _ (List.mem_cons_self ..))))
      have o4 := of_decide_eq_true (ho _ (List.mem_cons_of_mem _ (List.mem_cons_of_mem _ (List.mem_cons_of_mem _ (List.mem_cons_self ..)))))
      have o5 := of_decide_eq_true (ho _ (List.mem_cons_of_mem _ (List.mem_cons_of_mem _ (List.mem_cons_of_mem _ (List.mem_cons_of_mem _ (List.mem_cons_self ..))))))
      have o6 := of_decide_eq_true (ho _ (List.mem_cons_of_mem _ (List.mem_cons_of_mem _ (List.mem_cons_of_mem _ (List.mem_cons_of_mem _ (List.mem_cons_of_mem _ (List.mem_cons_self ..)))))))
      simp only at o5 o6
      simp only at o2 o3 o4
      have o1 := o1.symm
      have o2 := o2.symm
      have o3 := o3.symm
      subst o1 o2 o3
      refine ⟨(⟨n, b, List.replicate N 0, N, 0⟩, []), fun n => n, Goes.zip (.cons (.refl _) (.cons (.refl _) (.cons (.refl _) (.cons (.refl _) (.cons (.int _ _ _ _) .nil))))) ⟨⟨_, rfl, .refl _⟩, ⟨_, rfl, .refl _⟩, trivial⟩ rfl rfl (Nat.le_of_ble_eq_true rfl) rfl rfl, ⟨o5, o6⟩, 0, Nat.zero_le _, o4, ?_⟩
      simp [zl]
    · cases h
  · obtain ⟨⟨g1, g2⟩, j, h1, h3, rfl⟩ := hJ
    obtain ⟨⟨n, b, d, N, i⟩, bs⟩ := p
    simp only at h1 h3 g1 g2
    by_cases hj : j = N
    · subst hj
      refine RoundR.out (zz_f _) rfl (fun n => n) (paid_cons (by simp) Paid.nil) ?_
      subst g1 g2
      refine ⟨fun p hp => ?_, ⟨⟨_, rfl, .refl _⟩, ⟨_, rfl, by rw [zl_end]; exact .bound _ _ _ (kz_len _ _)⟩, trivial⟩, rfl, rfl, Nat.le_of_ble_eq_true rfl, rfl, rfl⟩
      simp only [zzF16, List.mem_cons, List.not_mem_nil, or_false] at hp
      rcases hp with rfl | rfl | rfl
      · exact ⟨.int true .i64 16, by simp [zzTs, zzV, zipU], .int _ _ _ _⟩
      · exact ⟨.ptr false 2 0, by simp [zzTs, zzV, zipU], .refl _⟩
      · exact ⟨.slice true 3 0 16 none 1, by simp [zzTs, zzV, zipU], .slice _ _ _ _ _ _ _ _ (Or.inl rfl)⟩
    · have ew : IntKind.i64.wrap ((j : Int) + 1) = ((j + 1 : Nat) : Int) := by rw [w64i (by omega)]; omega
      have hb : (decide (0 ≤ (j : Int)) && decide ((j : Int) < (N : Int))) = true := by rw [decide_eq_true (show (0 : Int) ≤ (j : Int) by omega), decide_eq_true (show (j : Int) < (N : Int) by omega)]; rfl
      have hm : (j : Int).tmod 16 = ((j % 16 : Nat) : Int) := by rw [Int.tmod_eq_emod_of_nonneg (by omega)]; omega
      have hm2 : (decide (0 ≤ (j : Int).tmod 16) && decide ((j : Int).tmod 16 < ((16 : Nat) : Int))) = true := by rw [hm, decide_eq_true (show (0 : Int) ≤ ((j % 16 : Nat) : Int) by omega), decide_eq_true (show ((j % 16 : Nat) : Int) < ((16 : Nat) : Int) by omega)]; rfl
      have key := zz_t ⟨n, b, zl b N j, N, j⟩
      have e : (zl b N j).set (0 + (j : Int).toNat * 1) (ixor .u8 (IntKind.u8.wrap (j : Int)) (b.getD (0 + ((j : Int).tmod 16).toNat * 1) 0)) = zl b N (j + 1) := zl_set (by omega)
      simp only [ew, e] at key
      refine RoundR.on key (⟨n, b, zl b N (j + 1), N, ((j + 1 : Nat) : Int)⟩, []) (fun n => n) (paid_cons (decide_eq_true (by omega)) (paid_cons hm2 (paid_cons (decide_eq_true (by rw [hm]; omega)) (paid_cons hb (paid_cons (decide_eq_true (by rw [zl_len h1]; omega)) Paid.nil))))) ?_ ⟨⟨g1, g2⟩, j + 1, by simp only; omega, h3, rfl⟩ (by simp only; omega)
      exact Goes.zip (.cons (.refl _) (.cons (.refl _) (.cons (.refl _) (.cons (.refl _) (.cons (.refl _) .nil))))) ⟨⟨_, rfl, .refl _⟩, ⟨_, rfl, .refl _⟩, trivial⟩ rfl rfl (Nat.le_of_ble_eq_true rfl) rfl rfl
def zzO32 (p : ZzS × List Bool) : List Bool := zzB p ++ [decide (p.1.N = 32), decide (p.1.n = 32)]
def zzF32 (p : ZzS × List Bool) : List (Nat × AV) × Mem := ([(0, .int false .i64 32), (3, .ptr false 2 0), (5, .slice false 3 0 32 none 1)], [none, none, some ⟨true, .ints .u8 (some 16) p.1.b⟩, some ⟨true, .ints .u8 (some 32) (kz p.1.b 32)⟩])
def zzΛ32 : LoopH := famH 0 89 zzTs zzP zzO32 zzF32 fun _ _ => none
theorem zz32_lok : LOkN 2 Try.prog (bodyOf Try.prog 6) zzΛ32 := by
  refine famR_ok (q := qP) (H := deep Try.prog qP hdX 100 3) (Λ0 := fun _ _ => none) (n := 100) (fun p : ZzS × List Bool => zzV p.1) (fun p => zzM p.1) (fun p s => (p.1.N = 32 ∧ p.1.n = 32) ∧ ∃ j : Nat, j ≤ p.1.N ∧ p.1.N ≤ 100 ∧ s = ({ p.1 with d := zl p.1.b p.1.N j, i := (j : Int) }, [])) (fun s => s.1.N - s.1.i.toNat) mixed (hdX_ok.deep (q := qP) mixed noCount 100 3) LOkN.none LOkN.none (by kernel_rfl) (by kernel_rfl) (fun avs m p h ho => ?_) (fun p s hJ => ?_)
  · unfold zzP at h
    split at h
    · rename_i n N m s1 i b d
      cases h
      have o1 := of_decide_eq_true (ho _ (List.mem_cons_self ..))
      have o2 := of_decide_eq_true (ho _ (List.mem_cons_of_mem _ (List.mem_cons_self ..)))
      have o3 := of_decide_eq_true (ho _ (List.mem_cons_of_mem _ (List.mem_cons_of_mem _ (List.mem_cons_self ..))))
      have o4 := of_decide_eq_true (ho _ (List.mem_cons_of_mem _ (List.mem_cons_of_mem _ (List.mem_cons_of_mem _ (List.mem_cons_self ..)))))
      have o5 := of_decide_eq_true (ho _ (List.mem_cons_of_mem _ (List.mem_cons_of_mem _ (List.mem_cons_of_mem _ (List.mem_cons_of_mem _ (List.mem_cons_self ..))))))
      have o6 := of_decide_eq_true (ho _ (List.mem_cons_of_mem _ (List.mem_cons_of_mem _ (List.mem_cons_of_mem _ (List.mem_cons_of_mem _ (List.mem_cons_of_mem _ (List.mem_cons_self ..)))))))
      simp only at o5 o6
      simp only at o2 o3 o4
      have o1 := o1.symm
      have o2 := o2.symm
      have o3 := o3.symm
      subst o1 o2 o3
      refine ⟨(⟨n, b, List.replicate N 0, N, 0⟩, []), fun n => n, Goes.zip (.cons (.refl _) (.cons (.refl _) (.cons (.refl _) (.cons (.refl _) (.cons (.int _ _ _ _) .nil))))) ⟨⟨_, rfl, .refl _⟩, ⟨_, rfl, .refl _⟩, trivial⟩ rfl rfl (Nat.le_of_ble_eq_true rfl) rfl rfl, ⟨o5, o6⟩, 0, Nat.zero_le _, o4, ?_⟩
      simp [zl]
    · cases h
  · obtain ⟨⟨g1, g2⟩, j, h1, h3, rfl⟩ := hJ
    obtain ⟨⟨n, b, d, N, i⟩, bs⟩ := p
    simp only at h1 h3 g1 g2
    by_cases hj : j = N
    · subst hj
      refine RoundR.out (zz_f _) rfl (fun n => n) (paid_cons (by simp) Paid.nil) ?_
      subst g1 g2
      refine ⟨fun p hp => ?_, ⟨⟨_, rfl, .refl _⟩, ⟨_, rfl, by rw [zl_end]; exact .bound _ _ _ (kz_len _ _)⟩, trivial⟩, rfl, rfl, Nat.le_of_ble_eq_true rfl, rfl, rfl⟩
      simp only [zzF32, List.mem_cons, List.not_mem_nil, or_false] at hp
      rcases hp with rfl | rfl | rfl
      · exact ⟨.int true .i64 32, by simp [zzTs, zzV, zipU], .int _ _ _ _⟩
      · exact ⟨.ptr false 2 0, by simp [zzTs, zzV, zipU], .refl _⟩
      · exact ⟨.slice true 3 0 32 none 1, by simp [zzTs, zzV, zipU], .slice _ _ _ _ _ _ _ _ (Or.inl rfl)⟩
    · have ew : IntKind.i64.wrap ((j : Int) + 1) = ((j + 1 : Nat) : Int) := by rw [w64i (by omega)]; omega
      have hb : (decide (0 ≤ (j : Int)) && decide ((j : Int) < (N : Int))) = true := by rw [decide_eq_true (show (0 : Int) ≤ (j : Int) by omega), decide_eq_true (show (j : Int) < (N : Int) by omega)]; rfl
      have hm : (j : Int).tmod 16 = ((j % 16 : Nat) : Int) := by rw [Int.tmod_eq_emod_of_nonneg (by omega)]; omega
      have hm2 : (decide (0 ≤ (j : Int).tmod 16) && decide ((j : Int).tmod 16 < ((16 : Nat) : Int))) = true := by rw [hm, decide_eq_true (show (0 : Int) ≤ ((j % 16 : Nat) : Int) by omega), decide_eq_true (show ((j % 16 : Nat) : Int) < ((16 : Nat) : Int) by omega)]; rfl
      have key := zz_t ⟨n, b, zl b N j, N, j⟩
      have e : (zl b N j).set (0 + (j : Int).toNat * 1) (ixor .u8 (IntKind.u8.wrap (j : Int)) (b.getD (0 + ((j : Int).tmod 16).toNat * 1) 0)) = zl b N (j + 1) := zl_set (by omega)
      simp only [ew, e] at key
      refine RoundR.on key (⟨n, b, zl b N (j + 1), N, ((j + 1 : Nat) : Int)⟩, []) (fun n => n) (paid_cons (decide_eq_true (by omega)) (paid_cons hm2 (paid_cons (decide_eq_true (by rw [hm]; omega)) (paid_cons hb (paid_cons (decide_eq_true (by rw [zl_len h1]; omega)) Paid.nil))))) ?_ ⟨⟨g1, g2⟩, j + 1, by simp only; omega, h3, rfl⟩ (by simp only; omega)
      exact Goes.zip (.cons (.refl _) (.cons (.refl _) (.cons (.refl _) (.cons (.refl _) (.cons (.refl _) .nil))))) ⟨⟨_, rfl, .refl _⟩, ⟨_, rfl, .refl _⟩, trivial⟩ rfl rfl (Nat.le_of_ble_eq_true rfl) rfl rfl
def zzOX (p : ZzS × List Bool) : List Bool := zzB p
def zzFX (p : ZzS × List Bool) : List (Nat × AV) × Mem := ([(0, .int true .i64 p.1.n), (3, .ptr false 2 0), (5, .slice true 3 0 p.1.N none 1)], [none, none, some ⟨true, .ints .u8 (some 16) p.1.b⟩, some ⟨true, .ints .u8 none (kz p.1.b p.1.N)⟩])
def zzΛX : LoopH := famH 0 89 zzTs zzP zzOX zzFX fun _ _ => none
theorem zzX_lok : LOkN 2 Try.prog (bodyOf Try.prog 6) zzΛX := by
  refine famR_ok (q := qP) (H := deep Try.prog qP hdX 100 3) (Λ0 := fun _ _ => none) (n := 100) (fun p : ZzS × List Bool => zzV p.1) (fun p => zzM p.1) (fun p s => ∃ j : Nat, j ≤ p.1.N ∧ p.1.N ≤ 100 ∧ s = ({ p.1 with d := zl p.1.b p.1.N j, i := (j : Int) }, [])) (fun s => s.1.N - s.1.i.toNat) mixed (hdX_ok.deep (q := qP) mixed noCount 100 3) LOkN.none LOkN.none (by kernel_rfl) (by kernel_rfl) (fun avs m p h ho => ?_) (fun p s hJ => ?_)
  · unfold zzP at h
    split at h
    · rename_i n N m s1 i b d
      cases h
      have o1 := of_decide_eq_true (ho _ (List.mem_cons_self ..))
      have o2 := of_decide_eq_true (ho _ (List.mem_cons_of_mem _ (List.mem_cons_self ..)))
      have o3 := of_decide_eq_true (ho _ (List.mem_cons_of_mem _ (List.mem_cons_of_mem _ (List.mem_cons_self ..))))
      have o4 := of_decide_eq_true (ho _ (List.mem_cons_of_mem _ (List.mem_cons_of_mem _ (List.mem_cons_of_mem _ (List.mem_cons_self ..)))))
      simp only at o2 o3 o4
      have o1 := o1.symm
      have o2 := o2.symm
      have o3 := o3.symm
      subst o1 o2 o3
      refine ⟨(⟨n, b, List.replicate N 0, N, 0⟩, []), fun n => n, Goes.zip (.cons (.refl _) (.cons (.refl _) (.cons (.refl _) (.cons (.refl _) (.cons (.int _ _ _ _) .nil))))) ⟨⟨_, rfl, .refl _⟩, ⟨_, rfl, .refl _⟩, trivial⟩ rfl rfl (Nat.le_of_ble_eq_true rfl) rfl rfl, 0, Nat.zero_le _, o4, ?_⟩
      simp [zl]
    · cases h
  · obtain ⟨j, h1, h3, rfl⟩ := hJ
    obtain ⟨⟨n, b, d, N, i⟩, bs⟩ := p
    simp only at h1 h3
    by_cases hj : j = N
    · subst hj
      refine RoundR.out (zz_f _) rfl (fun n => n) (paid_cons (by simp) Paid.nil) ?_
      refine ⟨fun p hp => ?_, ⟨⟨_, rfl, .refl _⟩, ⟨_, rfl, by rw [zl_end]; exact .refl _⟩, trivial⟩, rfl, rfl, Nat.le_of_ble_eq_true rfl, rfl, rfl⟩
      simp only [zzFX, List.mem_cons, List.not_mem_nil, or_false] at hp
      rcases hp with rfl | rfl | rfl
      · exact ⟨.int true .i64 n, by simp [zzTs, zzV, zipU], .refl _⟩
      · exact ⟨.ptr false 2 0, by simp [zzTs, zzV, zipU], .refl _⟩
      · exact ⟨.slice true 3 0 j none 1, by simp [zzTs, zzV, zipU], .refl _⟩
    · have ew : IntKind.i64.wrap ((j : Int) + 1) = ((j + 1 : Nat) : Int) := by rw [w64i (by omega)]; omega
      have hb : (decide (0 ≤ (j : Int)) && decide ((j : Int) < (N : Int))) = true := by rw [decide_eq_true (show (0 : Int) ≤ (j : Int) by omega), decide_eq_true (show (j : Int) < (N : Int) by omega)]; rfl
      have hm : (j : Int).tmod 16 = ((j % 16 : Nat) : Int) := by rw [Int.tmod_eq_emod_of_nonneg (by omega)]; omega
      have hm2 : (decide (0 ≤ (j : Int).tmod 16) && decide ((j : Int).tmod 16 < ((16 : Nat) : Int))) = true := by rw [hm, decide_eq_true (show (0 : Int) ≤ ((j % 16 : Nat) : Int) by omega), decide_eq_true (show ((j % 16 : Nat) : Int) < ((16 : Nat) : Int) by omega)]; rfl
      have key := zz_t ⟨n, b, zl b N j, N, j⟩
      have e : (zl b N j).set (0 + (j : Int).toNat * 1) (ixor .u8 (IntKind.u8.wrap (j : Int)) (b.getD (0 + ((j : Int).tmod 16).toNat * 1) 0)) = zl b N (j + 1) := zl_set (by omega)
      simp only [ew, e] at key
      refine RoundR.on key (⟨n, b, zl b N (j + 1), N, ((j + 1 : Nat) : Int)⟩, []) (fun n => n) (paid_cons (decide_eq_true (by omega)) (paid_cons hm2 (paid_cons (decide_eq_true (by rw [hm]; omega)) (paid_cons hb (paid_cons (decide_eq_true (by rw [zl_len h1]; omega)) Paid.nil))))) ?_ ⟨j + 1, by simp only; omega, h3, rfl⟩ (by simp only; omega)
      exact Goes.zip (.cons (.refl _) (.cons (.refl _) (.cons (.refl _) (.cons (.refl _) (.cons (.refl _) .nil))))) ⟨⟨_, rfl, .refl _⟩, ⟨_, rfl, .refl _⟩, trivial⟩ rfl rfl (Nat.le_of_ble_eq_true rfl) rfl rfl
end Go.Proofs.Ytclkicobnmjpoaa
