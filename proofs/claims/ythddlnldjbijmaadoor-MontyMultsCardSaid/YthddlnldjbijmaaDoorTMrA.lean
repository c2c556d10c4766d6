/- Layer 9: the bytes that Mult answers, as numbers; bytes that came in, by cases. Own work. -/
import Derived.Test.YthddlnldjbijmaaDoorTMoL
import Derived.Test.YthddlnldjbijmaaDoorTEvPut
set_option linter.unusedSimpArgs false
set_option linter.unusedVariables false
set_option linter.unusedSectionVars false
namespace Go.Proofs.YthddlnldjbijmaaDoor
open Go.Ev Go.Wn Go.Mo
set_option maxRecDepth 100000
theorem byteW_b {x : Int} (s : Nat) : inR .u8 (byteW x s) = true := by
  rw [inR_iff]
  simp only [lo, hi]
  unfold byteW
  omega
theorem W8_back {a : Int} (ha : W a) : W8 (byteW a 56) (byteW a 48) (byteW a 40) (byteW a 32) (byteW a 24) (byteW a 16) (byteW a 8) (byteW a 0) = a := by
  unfold W8 byteW W at *
  simp only [Int.reducePow]
  omega
theorem tb_ok {x : Int} (h : ok x) : (turnedL (limbs x)).length = 32 ∧ (∀ y ∈ turnedL (limbs x), inR .u8 y = true) ∧ leI (turnedL (limbs x)) = x := by
  have hw := limbs_W x
  have hv : val (limbs x) = x := vl_ok h
  obtain ⟨a, b, c, d, e⟩ := four (show (limbs x).length = 4 from rfl)
  rw [e] at hw hv ⊢
  have wa := hw a (by simp); have wb := hw b (by simp); have wc := hw c (by simp); have wd := hw d (by simp)
  refine ⟨rfl, fun y hy => ?_, ?_⟩
  · simp only [turnedL, List.mem_cons, List.not_mem_nil, or_false] at hy
    rcases hy with rfl | rfl | rfl | rfl | rfl | rfl | rfl | rfl | rfl | rfl | rfl | rfl | rfl | rfl | rfl | rfl | rfl | rfl | rfl | rfl | rfl | rfl | rfl | rfl | rfl | rfl | rfl | rfl | rfl | rfl | rfl | rfl <;> exact byteW_b _
  · unfold leI turnedL litL
    simp only
    rw [W8_back wa, W8_back wb, W8_back wc, W8_back wd]
    exact hv
def okb (l : List Int) : Prop := l.length = 32 ∧ ∀ x ∈ l, inR .u8 x = true
theorem mulB_val {k u : List Int} (hk : okb k) (hu : okb u) : mulB k u = turnedL (limbs (resI (clI (leI k)) (upI (leI u)))) := by
  unfold mulB
  rw [(kw_eq hk.1 hk.2).1, (uw_eq hu.1 hu.2).1]
theorem mulB_ok {k u : List Int} (hk : okb k) (hu : okb u) : okb (mulB k u) ∧ leI (mulB k u) = resI (clI (leI k)) (upI (leI u)) := by
  rw [mulB_val hk hu]
  have := tb_ok (res_ok (clI (leI k)) (upI (leI u)))
  exact ⟨⟨this.1, this.2.1⟩, this.2.2⟩
theorem le_range {l : List Int} (h : okb l) : 0 ≤ leI l ∧ leI l < 115792089237316195423570985008687907853269984665640564039457584007913129639936 := by
  obtain ⟨a, b, c, d, e, ha, hb, hc, hd⟩ := lit_words h.1 h.2
  unfold leI
  rw [e]
  exact val_range ha hb hc hd
theorem cl_nat {l : List Int} (h : okb l) : ∃ N : Nat, clI (leI l) = (N : Int) ∧ N < 2 ^ 255 ∧ N % 8 = 0 ∧ 0 < N := by
  have hr := le_range h
  generalize leI l = K at *
  have h1 : 0 < clI K ∧ clI K < 57896044618658097711785492504343953926634992332820282019728792003956564819968 ∧ clI K % 8 = 0 := by unfold clI; omega
  generalize clI K = x at *
  obtain ⟨N, rfl⟩ := Int.eq_ofNat_of_zero_le (by omega : 0 ≤ x)
  have hN : N < 57896044618658097711785492504343953926634992332820282019728792003956564819968 := by omega
  exact ⟨N, rfl, hN, by omega, by omega⟩
theorem up_ok {l : List Int} : ok (upI (leI l)) := by unfold ok upI; omega
theorem up_res (N U : Int) : upI (resI N U) = resI N U := by
  have h := res_range N U
  have hp : (P25 : Int) = 57896044618658097711785492504343953926634992332820282019728792003956564819949 := by decide +kernel
  unfold upI
  omega
/-- Of any point two secrets make the same. -/
theorem mul_comm9 {a b u : List Int} (ha : okb a) (hb : okb b) (hu : okb u) : mulB b (mulB a u) = mulB a (mulB b u) := by
  obtain ⟨k1, k2⟩ := mulB_ok ha hu
  obtain ⟨k3, k4⟩ := mulB_ok hb hu
  rw [mulB_val hb k1, mulB_val ha k3, k2, k4, up_res, up_res]
  obtain ⟨N, e1, n1, n2, n3⟩ := cl_nat ha
  obtain ⟨K, e2, m1, m2, m3⟩ := cl_nat hb
  rw [e1, e2, res_comm m1 n1 (by omega) (by omega) up_ok]
theorem unmarkV {W : World} {j n : Nat} {k : IntKind} {l : List Int} {v : Value} (h : ∃ L, VOk W j L (.buf true k n l) v) : ∃ L, VOk W j L (.buf false k n l) v := by
  obtain ⟨L, h1, h2⟩ := h
  refine ⟨L, fun ρ N hρ hN => ?_, fun b hb => ⟨fun hrw => ?_, (h2 b hb).2⟩⟩
  · have hr := h1 ρ N hρ hN
    cases hr with
    | slice _ _ _ _ _ _ c ad hn hc hl hw had => exact .slice false _ _ _ _ _ c ad hn hc hl hw had
  · cases hb; cases hrw
/-- Bytes that came in: none, empty, not 32, 32. -/
theorem four_ways {W : World} (j : Nat) {v : Value} (hv : v = .slice none 0 0 ∨ ∃ (a : Addr) (len cap : Nat) (zs : List Int), v = .slice (some a) len cap ∧ len ≤ cap ∧ cap ≤ maxLen ∧ zs.length = cap ∧ (∀ i, i < zs.length → W.cell? (a.add i) = some (.int .u8 (zs.getD i 0))) ∧ ∀ n ∈ zs, inR .u8 n = true) :
    (∃ L, VOk W j L (.pl .nilslice) v) ∨ (∃ L, VOk W j L .empty v) ∨ (∃ (n : Nat) (l : List Int), n < 9223372036854775808 ∧ (n : Int) ≠ 32 ∧ ∃ L, VOk W j L (.buf true .u8 n l) v) ∨ ∃ l : List Int, okb l ∧ ∃ L, VOk W j L (.buf false .u8 32 l) v := by
  rcases VOk.bytes j hv with h | h | ⟨n, l, h1, h2, h3, h4, h5⟩
  · exact .inl h
  · exact .inr (.inl h)
  · by_cases h32 : n = 32
    · subst h32
      exact .inr (.inr (.inr ⟨l, ⟨h3, h4⟩, unmarkV h5⟩))
    · exact .inr (.inr (.inl ⟨n, l, by unfold maxLen at h2; omega, by omega, h5⟩))
def hl9 : CallH := withC 8 sndS hn1
theorem hl9_ok : HOk Tryd.prog hl9 := hn1_ok.withC fun _ _ _ h _ => snd_ok h
theorem some_way {W : World} (j : Nat) {v : Value} (hv : v = .slice none 0 0 ∨ ∃ (a : Addr) (len cap : Nat) (zs : List Int), v = .slice (some a) len cap ∧ len ≤ cap ∧ cap ≤ maxLen ∧ zs.length = cap ∧ (∀ i, i < zs.length → W.cell? (a.add i) = some (.int .u8 (zs.getD i 0))) ∧ ∀ n ∈ zs, inR .u8 n = true) :
    ∃ B : V, isW B = false ∧ ∃ L, VOk W j L B v := by
  rcases VOk.bytes j hv with h | h | ⟨n, l, h1, h2, h3, h4, h5⟩
  · exact ⟨_, rfl, h⟩
  · exact ⟨_, rfl, h⟩
  · exact ⟨_, rfl, h5⟩
theorem noW_c {B : V} {r : List V} (h : isW B = false) : noW (B :: r) = noW r := by
  cases B <;> first | rfl | cases h
end Go.Proofs.YthddlnldjbijmaaDoor
namespace Go.Mo
open Go.Ev Go.Wn
/-- A secret's bytes, as the reference leaves bits out. -/
def cbL (k : List Int) : List Int := (k.set 0 (IntKind.u8.wrap (IntKind.u8.wrap ((k.getD 0 0).tdiv 8) * 8))).set 31 (IntKind.u8.wrap (((k.set 0 (IntKind.u8.wrap (IntKind.u8.wrap ((k.getD 0 0).tdiv 8) * 8))).getD 31 0).tmod 64 + 64))
end Go.Mo
namespace Go.Proofs.YthddlnldjbijmaaDoor
open Go.Ev Go.Wn Go.Mo
set_option maxRecDepth 100000
def tuS : List V → E (AV × Mem)
  | [.buf false .u8 32 l] => some ([], (.slice false 0 0 32 none 1, [some ⟨true, .ints .u8 (some 32) l.reverse⟩]))
  | _ => none
theorem tu_eval (b0 b1 b2 b3 b4 b5 b6 b7 b8 b9 b10 b11 b12 b13 b14 b15 b16 b17 b18 b19 b20 b21 b22 b23 b24 b25 b26 b27 b28 b29 b30 b31 : Int) : seeV 64 ((funcL Tryd.prog qn (fun _ _ _ => none) (fun _ _ => none) 200 17 (cArgs 0 [.buf false .u8 32 [b0, b1, b2, b3, b4, b5, b6, b7, b8, b9, b10, b11, b12, b13, b14, b15, b16, b17, b18, b19, b20, b21, b22, b23, b24, b25, b26, b27, b28, b29, b30, b31]]) (cMem [.buf false .u8 32 [b0, b1, b2, b3, b4, b5, b6, b7, b8, b9, b10, b11, b12, b13, b14, b15, b16, b17, b18, b19, b20, b21, b22, b23, b24, b25, b26, b27, b28, b29, b30, b31]])).go []) = some ([], .slice false 64 0 32 none 1, some (some ⟨true, .ints .u8 (some 32) [b31, b30, b29, b28, b27, b26, b25, b24, b23, b22, b21, b20, b19, b18, b17, b16, b15, b14, b13, b12, b11, b10, b9, b8, b7, b6, b5, b4, b3, b2, b1, b0]⟩)) := by kernel_rfl
theorem tu_ok {xs : List V} {o : List Bool} {v : AV} {bs : Mem} (h : tuS xs = some (o, (v, bs))) : ViewCall Tryd.prog 17 xs v bs := by
  unfold tuS at h
  split at h
  · rename_i l
    cases h
    intro ρ vs w ha hi
    obtain ⟨hl, _⟩ := buf_arg hi 0 rfl
    obtain ⟨b0, b1, b2, b3, b4, b5, b6, b7, b8, b9, b10, b11, b12, b13, b14, b15, b16, b17, b18, b19, b20, b21, b22, b23, b24, b25, b26, b27, b28, b29, b30, b31, rfl⟩ := thirty hl
    exact viewN_one mixed noCount HOk.none (lo1 _) [] 64 (tu_eval b0 b1 b2 b3 b4 b5 b6 b7 b8 b9 b10 b11 b12 b13 b14 b15 b16 b17 b18 b19 b20 b21 b22 b23 b24 b25 b26 b27 b28 b29 b30 b31) Paid.nil (by show 1 ≤ 64; decide) rfl rfl ha hi
  · cases h
def rcS : List V → E (AV × Mem)
  | [.buf false .u8 32 k] => some ([], (.slice false 0 0 32 none 1, [some ⟨true, .ints .u8 (some 32) (cbL k)⟩]))
  | _ => none
theorem rc_eval (k : List Int) : seeV 1 ((funcL Tryd.prog qn (fun _ _ _ => none) (fun _ _ => none) 200 15 (cArgs 0 [.buf false .u8 32 k]) (cMem [.buf false .u8 32 k])).go []) = some ([], .slice false 1 0 32 none 1, some (some ⟨true, .ints .u8 (some 32) (cbL k)⟩)) := by kernel_rfl
theorem rc_ok {xs : List V} {o : List Bool} {v : AV} {bs : Mem} (h : rcS xs = some (o, (v, bs))) : ViewCall Tryd.prog 15 xs v bs := by
  unfold rcS at h
  split at h
  · rename_i k
    cases h
    intro ρ vs w ha hi
    exact viewN_one mixed noCount HOk.none (lo1 _) [] 1 (rc_eval k) Paid.nil (by show 1 ≤ 1; decide) rfl rfl ha hi
  · cases h
def hr9 : CallH := withV 15 rcS (withV 17 tuS (withV 16 rbigS hl9))
theorem hr9_ok : HOk Tryd.prog hr9 := ((hl9_ok.withV fun _ _ _ _ h _ => rbig_ok h).withV fun _ _ _ _ h _ => tu_ok h).withV fun _ _ _ _ h _ => rc_ok h
end Go.Proofs.YthddlnldjbijmaaDoor
namespace Go.Proofs.YthddlnldjbijmaaDoor
open Go.Ev Go.Wn Go.Mo
set_option maxRecDepth 100000
theorem pn_eval (a0 a1 a2 a3 b0 b1 b2 b3 : Int) : res (funcA Tryd.prog qAll h0 100 66 [.ints .u64 4 [a0, a1, a2, a3], .ints .u64 4 [b0, b1, b2, b3]] []) =
    some ([decide ((0 : Int) ≤ 1), decide (cy a0 b0 0 ≤ 1), decide (cy a1 b1 (cy a0 b0 0) ≤ 1), decide (cy a2 b2 (cy a1 b1 (cy a0 b0 0)) ≤ 1)],
      .tuple [.ints .u64 4 [sm a0 b0 0, sm a1 b1 (cy a0 b0 0), sm a2 b2 (cy a1 b1 (cy a0 b0 0)), sm a3 b3 (cy a2 b2 (cy a1 b1 (cy a0 b0 0)))], .int true .u64 (cy a3 b3 (cy a2 b2 (cy a1 b1 (cy a0 b0 0))))]) := by kernel_rfl
theorem pn_ok {args : List AV} {o : List Bool} {v : AV} (h : addS args = some (o, v)) : PureCall Tryd.prog 66 args v := by
  unfold addS at h
  split at h
  · rename_i a b
    cases h
    intro ρ N vs ha
    have hb := ha
    cases hb with
    | cons _ _ _ _ r1 hb => cases hb with
      | cons _ _ _ _ r2 hb =>
        obtain ⟨a0, a1, a2, a3, rfl, wa0, wa1, wa2, wa3⟩ := num_arg r1
        obtain ⟨b0, b1, b2, b3, rfl, wb0, wb1, wb2, wb3⟩ := num_arg r2
        obtain ⟨k1, k2, k3, k4, k5⟩ := add_chain wa0 wa1 wa2 wa3 wb0 wb1 wb2 wb3
        exact pure_of_res mixed noCount h0_ok (by kernel_rfl) (pn_eval a0 a1 a2 a3 b0 b1 b2 b3)
          (paid_cons (by kernel_rfl) (paid_cons (decide_eq_true k3) (paid_cons (decide_eq_true k4) (paid_cons (decide_eq_true k5) Paid.nil)))) (by rw [k1, k2]) (by kernel_rfl) ha
  · cases h

theorem mi_eval (a0 a1 a2 a3 b0 b1 b2 b3 : Int) : res (funcA Tryd.prog qAll h0 100 40 [.ints .u64 4 [a0, a1, a2, a3], .ints .u64 4 [b0, b1, b2, b3]] []) =
    some ([decide ((0 : Int) ≤ 1), decide (bw a0 b0 0 ≤ 1), decide (bw a1 b1 (bw a0 b0 0) ≤ 1), decide (bw a2 b2 (bw a1 b1 (bw a0 b0 0)) ≤ 1)],
      .tuple [.ints .u64 4 [df a0 b0 0, df a1 b1 (bw a0 b0 0), df a2 b2 (bw a1 b1 (bw a0 b0 0)), df a3 b3 (bw a2 b2 (bw a1 b1 (bw a0 b0 0)))], .int true .u64 (bw a3 b3 (bw a2 b2 (bw a1 b1 (bw a0 b0 0))))]) := by kernel_rfl
theorem mi_ok {args : List AV} {o : List Bool} {v : AV} (h : subS args = some (o, v)) : PureCall Tryd.prog 40 args v := by
  unfold subS at h
  split at h
  · rename_i a b
    cases h
    intro ρ N vs ha
    have hb := ha
    cases hb with
    | cons _ _ _ _ r1 hb => cases hb with
      | cons _ _ _ _ r2 hb =>
        obtain ⟨a0, a1, a2, a3, rfl, wa0, wa1, wa2, wa3⟩ := num_arg r1
        obtain ⟨b0, b1, b2, b3, rfl, wb0, wb1, wb2, wb3⟩ := num_arg r2
        obtain ⟨k1, k2, k3, k4, k5⟩ := sub_chain wa0 wa1 wa2 wa3 wb0 wb1 wb2 wb3
        exact pure_of_res mixed noCount h0_ok (by kernel_rfl) (mi_eval a0 a1 a2 a3 b0 b1 b2 b3)
          (paid_cons (by kernel_rfl) (paid_cons (decide_eq_true k3) (paid_cons (decide_eq_true k4) (paid_cons (decide_eq_true k5) Paid.nil)))) (by rw [k1, k2]) (by kernel_rfl) ha
  · cases h

def hr0 : CallH := withC 40 subS (withC 66 addS hr9)
theorem hr0_ok : HOk Tryd.prog hr0 := (hr9_ok.withC fun _ _ _ h _ => pn_ok h).withC fun _ _ _ h _ => mi_ok h
end Go.Proofs.YthddlnldjbijmaaDoor
