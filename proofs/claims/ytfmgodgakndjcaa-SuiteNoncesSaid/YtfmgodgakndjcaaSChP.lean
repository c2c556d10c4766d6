/- The program's code for one use: contracts of its numbers. Own work. -/
import Derived.Test.YtfmgodgakndjcaaSChN
set_option linter.unusedSimpArgs false
set_option linter.unusedVariables false
set_option linter.unusedSectionVars false
namespace Go.Ch
open Go.Ev Go.Sh
theorem len8 {l : List Int} (h : l.length = 8) : ∃ a0 a1 a2 a3 a4 a5 a6 a7, l = [a0, a1, a2, a3, a4, a5, a6, a7] := by
  match l, h with
  | [a0, a1, a2, a3, a4, a5, a6, a7], _ => exact ⟨a0, a1, a2, a3, a4, a5, a6, a7, rfl⟩
def ag3 (v : Int) : AV := .agg [.int true .u64 (g0 v), .int true .u64 (g1 v), .int true .u64 (g2 v)]
/-- 16 bytes of a number, the lowest first. -/
def by16 (v : Int) : List Int := (List.range 16).map fun i => v / 2 ^ (8 * i) % 256
theorem leN_W {l : List Int} (h : l.length = 8) (hb : ∀ x ∈ l, B8 x) : Go.Wn.W (leN l) := by
  have := leN_bound hb
  rw [h] at this
  exact ⟨this.1, this.2⟩
theorem by16_eq {a b c : Int} (ha : Go.Wn.W a) (hb : Go.Wn.W b) (i : Nat) (hi : i < 16) :
    (match decide (i < 8) with | true => IntKind.u8.wrap (ishr .u64 a ((8 * i : Nat) : Int)) | false => IntKind.u8.wrap (ishr .u64 b ((8 * (i - 8) : Nat) : Int))) = v3 a b c / 2 ^ (8 * i) % 256 := by
  unfold Go.Wn.W at *
  have h : ∀ {x : Int} {s : Nat}, s ≤ 56 → IntKind.u8.wrap (ishr .u64 x (s : Int)) = x / 2 ^ s % 256 := fun {x s} hs => by
    rw [sd64 s (by omega), wrap_u (k := .u8) rfl]; rfl
  have hc : i = 0 ∨ i = 1 ∨ i = 2 ∨ i = 3 ∨ i = 4 ∨ i = 5 ∨ i = 6 ∨ i = 7 ∨ i = 8 ∨ i = 9 ∨ i = 10 ∨ i = 11 ∨ i = 12 ∨ i = 13 ∨ i = 14 ∨ i = 15 := by omega
  unfold v3
  rcases hc with rfl | rfl | rfl | rfl | rfl | rfl | rfl | rfl | rfl | rfl | rfl | rfl | rfl | rfl | rfl | rfl
  all_goals first | (rw [show decide _ = true from rfl]; simp only; rw [h (by omega)]; simp only [Nat.reduceMul, Int.reducePow]; omega) | (rw [show decide _ = false from rfl]; simp only; rw [h (by omega)]; simp only [Nat.reduceSub, Nat.reduceMul, Int.reducePow]; omega)
end Go.Ch
namespace Go.Proofs.Ytfmgodgakndjcaa
open Go.Ev Go.Sh Go.Ch
set_option maxRecDepth 100000
theorem u64_W {ρ : Nat → Loc3} {N : Nat → Prop} {s : Bool} {x : Int} {v : Value} (h : Rep ρ N (.int s .u64 x) v) : Go.Wn.W x := by
  cases h with | int _ _ _ h => exact inR_W h
/-- Three words in a struct, their marks aside. -/
theorem agg3 {ρ : Nat → Loc3} {N : Nat → Prop} {s0 s1 s2 : Bool} {a b c : Int} {v : Value} (h : Rep ρ N (.agg [.int s0 .u64 a, .int s1 .u64 b, .int s2 .u64 c]) v) : Rep ρ N (.agg [.int true .u64 a, .int true .u64 b, .int true .u64 c]) v ∧ Go.Wn.W a ∧ Go.Wn.W b ∧ Go.Wn.W c := by
  cases h with
  | agg _ vs hs =>
    cases hs with
    | cons _ _ _ _ r0 hs => cases hs with
      | cons _ _ _ _ r1 hs => cases hs with
        | cons _ _ _ _ r2 hs =>
          cases hs
          exact ⟨.agg _ _ (.cons _ _ _ _ (remark r0) (.cons _ _ _ _ (remark r1) (.cons _ _ _ _ (remark r2) .nil))), u64_W r0, u64_W r1, u64_W r2⟩
theorem agg2 {ρ : Nat → Loc3} {N : Nat → Prop} {s0 s1 : Bool} {a b : Int} {v : Value} (h : Rep ρ N (.agg [.int s0 .u64 a, .int s1 .u64 b]) v) : Rep ρ N (.agg [.int true .u64 a, .int true .u64 b]) v ∧ Go.Wn.W a ∧ Go.Wn.W b := by
  cases h with
  | agg _ vs hs =>
    cases hs with
    | cons _ _ _ _ r0 hs => cases hs with
      | cons _ _ _ _ r1 hs =>
        cases hs
        exact ⟨.agg _ _ (.cons _ _ _ _ (remark r0) (.cons _ _ _ _ (remark r1) .nil)), u64_W r0, u64_W r1⟩
-- little
def liS : List V → E (AV × Mem)
  | [.buf false .u8 8 l] => some ([], (.int true .u64 (leN l), []))
  | _ => none
theorem li_eval (a0 a1 a2 a3 a4 a5 a6 a7 : Int) : res (funcA Try.prog qC (deep Try.prog qC hq5 100 3) 100 88 (cArgs 0 [.buf false .u8 8 [a0, a1, a2, a3, a4, a5, a6, a7]]) (cMem [.buf false .u8 8 [a0, a1, a2, a3, a4, a5, a6, a7]])) = some ([], .int true .u64 (Go.Wn.orL a0 a1 a2 a3 a4 a5 a6 a7)) := by kernel_rfl
theorem li_ok {xs : List V} {o : List Bool} {v : AV} {bs : Mem} (h : liS xs = some (o, (v, bs))) : ViewCall Try.prog 88 xs v bs := by
  unfold liS at h
  split at h
  · rename_i l
    cases h
    intro ρ vs w ha hi
    obtain ⟨n1, r1⟩ := buf_arg hi 0 rfl
    have b1 : ∀ i, Go.Wn.B8 (l.getD i 0) := fun i => get_b8 (fun x hx => inR_b8 (r1 x hx)) i
    obtain ⟨a0, a1, a2, a3, a4, a5, a6, a7, rfl⟩ := len8 n1
    have e : Go.Wn.orL a0 a1 a2 a3 a4 a5 a6 a7 = leN [a0, a1, a2, a3, a4, a5, a6, a7] := by
      rw [show Go.Wn.orL a0 a1 a2 a3 a4 a5 a6 a7 = Go.Wn.W8 a7 a6 a5 a4 a3 a2 a1 a0 from Go.Wn.orL_eq (b1 0) (b1 1) (b1 2) (b1 3) (b1 4) (b1 5) (b1 6) (b1 7)]
      unfold Go.Wn.W8
      simp only [leN]
      omega
    exact view_of_res mixed noCount (hq5_ok.deep mixed noCount 100 3) (li_eval a0 a1 a2 a3 a4 a5 a6 a7) Paid.nil (by rw [e]) (by kernel_rfl) ha hi
  · cases h
-- sums
def plS : List AV → E AV
  | [.agg [.int _ .u64 a0, .int _ .u64 a1, .int _ .u64 a2], .agg [.int _ .u64 b0, .int _ .u64 b1, .int _ .u64 b2]] => some ([], ag3 (v3 a0 a1 a2 + v3 b0 b1 b2))
  | _ => none
theorem pl_eval (a0 a1 a2 b0 b1 b2 : Int) : res (funcA Try.prog qC (deep Try.prog qC hq5 100 3) 100 89 [.agg [.int true .u64 a0, .int true .u64 a1, .int true .u64 a2], .agg [.int true .u64 b0, .int true .u64 b1, .int true .u64 b2]] []) = some ([decide ((0 : Int) ≤ 1), decide ((a0 + b0 + 0) / 18446744073709551616 ≤ 1)], .agg [.int true .u64 ((a0 + b0 + 0) % 18446744073709551616), .int true .u64 ((a1 + b1 + (a0 + b0 + 0) / 18446744073709551616) % 18446744073709551616), .int true .u64 (IntKind.u64.wrap (IntKind.u64.wrap (a2 + b2) + (a1 + b1 + (a0 + b0 + 0) / 18446744073709551616) / 18446744073709551616))]) := by kernel_rfl
theorem pl_ok {args : List AV} {o : List Bool} {v : AV} (h : plS args = some (o, v)) : PureCall Try.prog 89 args v := by
  unfold plS at h
  split at h
  · rename_i s0 a0 s1 a1 s2 a2 t0 b0 t1 b1 t2 b2
    cases h
    intro ρ N vs ha
    cases ha with
    | cons _ _ _ _ r0 hb => cases hb with
      | cons _ _ _ _ r1 hb =>
        cases hb
        obtain ⟨x, wa0, wa1, wa2⟩ := agg3 r0
        obtain ⟨y, wb0, wb1, wb2⟩ := agg3 r1
        obtain ⟨e1, e2, e3, e4⟩ := plus_eq wa0 wa1 wa2 wb0 wb1 wb2
        exact pure_of_res mixed noCount (hq5_ok.deep mixed noCount 100 3) (by kernel_rfl) (pl_eval a0 a1 a2 b0 b1 b2) (paid_cons rfl (paid_cons (decide_eq_true e4) Paid.nil)) (by rw [e1, e2, e3]; rfl) (by kernel_rfl) (.cons _ _ _ _ x (.cons _ _ _ _ y .nil))
  · cases h
-- a factor's products
def ftS : List AV → E AV
  | [.agg [.int _ .u64 r0, .int _ .u64 r1], .int _ .u64 x] => some ([], ag3 ((r0 + 18446744073709551616 * r1) * x))
  | _ => none
theorem ft_eval (r0 r1 x : Int) : res (funcA Try.prog qC (deep Try.prog qC hq5 100 3) 100 99 [.agg [.int true .u64 r0, .int true .u64 r1], .int true .u64 x] []) = some ([decide ((0 : Int) ≤ 1)], .agg [.int true .u64 (r0 * x % 18446744073709551616), .int true .u64 ((r1 * x % 18446744073709551616 + r0 * x / 18446744073709551616 + 0) % 18446744073709551616), .int true .u64 (IntKind.u64.wrap (r1 * x / 18446744073709551616 + (r1 * x % 18446744073709551616 + r0 * x / 18446744073709551616 + 0) / 18446744073709551616))]) := by kernel_rfl
theorem ft_ok {args : List AV} {o : List Bool} {v : AV} (h : ftS args = some (o, v)) : PureCall Try.prog 99 args v := by
  unfold ftS at h
  split at h
  · rename_i s0 r0 s1 r1 t x
    cases h
    intro ρ N vs ha
    cases ha with
    | cons _ _ _ _ k0 hb => cases hb with
      | cons _ _ _ _ k1 hb =>
        cases hb
        obtain ⟨y, w0, w1⟩ := agg2 k0
        obtain ⟨e1, e2, e3⟩ := row_eq w0 w1 (u64_W k1)
        exact pure_of_res mixed noCount (hq5_ok.deep mixed noCount 100 3) (by kernel_rfl) (ft_eval r0 r1 x) (paid_cons rfl Paid.nil) (by rw [e1, e2, e3]; rfl) (by kernel_rfl) (.cons _ _ _ _ y (.cons _ _ _ _ (remark k1) .nil))
  · cases h
def hp1 : CallH := withC 99 ftS (withC 89 plS (withV 88 liS hq5))
theorem hp1_ok : HOk Try.prog hp1 := ((hq5_ok.withV fun _ _ _ _ h _ => li_ok h).withC fun _ _ _ h _ => pl_ok h).withC fun _ _ _ h _ => ft_ok h
-- products
def tmS : List AV → E AV
  | [.agg [.int _ .u64 a0, .int _ .u64 a1, .int _ .u64 a2], .agg [.int _ .u64 r0, .int _ .u64 r1]] =>
    some ([decide (v3 a0 a1 a2 < 5444517870735015415413993718908291383296), decide (r0 + 18446744073709551616 * r1 < 21267647932558653966460912964485513216)], ag3 (fold5 ((r0 + 18446744073709551616 * r1) * v3 a0 a1 a2)))
  | _ => none
theorem tm_eval (a0 a1 a2 r0 r1 : Int) : res (funcA Try.prog qC (deep Try.prog qC hp1 100 3) 100 90 [.agg [.int true .u64 a0, .int true .u64 a1, .int true .u64 a2], .agg [.int true .u64 r0, .int true .u64 r1]] []) =
    some ([decide ((0 : Int) ≤ 1), decide (tM ((r0 + 18446744073709551616 * r1) * a0) ((r0 + 18446744073709551616 * r1) * a1) / 18446744073709551616 ≤ 1), decide ((0 : Int) ≤ 1)],
      ag3 (v3 (g0 (tR ((r0 + 18446744073709551616 * r1) * a0) ((r0 + 18446744073709551616 * r1) * a1) ((r0 + 18446744073709551616 * r1) * a2))) (g1 (tR ((r0 + 18446744073709551616 * r1) * a0) ((r0 + 18446744073709551616 * r1) * a1) ((r0 + 18446744073709551616 * r1) * a2))) (g2 (tR ((r0 + 18446744073709551616 * r1) * a0) ((r0 + 18446744073709551616 * r1) * a1) ((r0 + 18446744073709551616 * r1) * a2))) + tO ((r0 + 18446744073709551616 * r1) * a0) ((r0 + 18446744073709551616 * r1) * a1) ((r0 + 18446744073709551616 * r1) * a2))) := by kernel_rfl
theorem tm_val {a0 a1 a2 r0 r1 : Int} (ha0 : Go.Wn.W a0) (ha1 : Go.Wn.W a1) (ha2 : Go.Wn.W a2) (h0 : Go.Wn.W r0) (h1 : Go.Wn.W r1) (hv : v3 a0 a1 a2 < 5444517870735015415413993718908291383296) (hr : r0 + 18446744073709551616 * r1 < 21267647932558653966460912964485513216) :
    v3 (g0 (tR ((r0 + 18446744073709551616 * r1) * a0) ((r0 + 18446744073709551616 * r1) * a1) ((r0 + 18446744073709551616 * r1) * a2))) (g1 (tR ((r0 + 18446744073709551616 * r1) * a0) ((r0 + 18446744073709551616 * r1) * a1) ((r0 + 18446744073709551616 * r1) * a2))) (g2 (tR ((r0 + 18446744073709551616 * r1) * a0) ((r0 + 18446744073709551616 * r1) * a1) ((r0 + 18446744073709551616 * r1) * a2))) + tO ((r0 + 18446744073709551616 * r1) * a0) ((r0 + 18446744073709551616 * r1) * a1) ((r0 + 18446744073709551616 * r1) * a2) = fold5 ((r0 + 18446744073709551616 * r1) * v3 a0 a1 a2) ∧
      tM ((r0 + 18446744073709551616 * r1) * a0) ((r0 + 18446744073709551616 * r1) * a1) / 18446744073709551616 ≤ 1 := by
  have r00 : 0 ≤ r0 + 18446744073709551616 * r1 := by unfold Go.Wn.W at *; omega
  have e : (r0 + 18446744073709551616 * r1) * v3 a0 a1 a2 = (r0 + 18446744073709551616 * r1) * a0 + 18446744073709551616 * ((r0 + 18446744073709551616 * r1) * a1) + 340282366920938463463374607431768211456 * ((r0 + 18446744073709551616 * r1) * a2) := by
    generalize r0 + 18446744073709551616 * r1 = r
    unfold v3
    rw [Int.mul_add, Int.mul_add, Int.mul_left_comm, Int.mul_left_comm r]
  have v0 : 0 ≤ v3 a0 a1 a2 := by unfold Go.Wn.W at *; unfold v3; omega
  have h2 : a2 ≤ 15 := by unfold Go.Wn.W at *; unfold v3 at hv; omega
  generalize r0 + 18446744073709551616 * r1 = r at *
  have bnd : ∀ {x m : Int}, 0 ≤ x → x ≤ m → 0 ≤ r * x ∧ r * x ≤ 21267647932558653966460912964485513215 * m := fun {x m} hx hm => by
    refine ⟨Int.mul_nonneg r00 hx, ?_⟩
    have k1 : r * x ≤ 21267647932558653966460912964485513215 * x := Int.mul_le_mul_of_nonneg_right (by omega) hx
    have k2 : 21267647932558653966460912964485513215 * x ≤ 21267647932558653966460912964485513215 * m := Int.mul_le_mul_of_nonneg_left hm (by decide)
    omega
  have b0 := bnd (x := a0) (m := 18446744073709551615) ha0.1 (by have := ha0.2; omega)
  have b1 := bnd (x := a1) (m := 18446744073709551615) ha1.1 (by have := ha1.2; omega)
  have b2 := bnd (x := a2) (m := 15) ha2.1 h2
  have b3 := bnd (x := v3 a0 a1 a2) (m := 5444517870735015415413993718908291383295) v0 (by omega)
  rw [e] at b3 ⊢
  generalize r * a0 = F at *
  generalize r * a1 = S at *
  generalize r * a2 = T at *
  clear e v0 h2 bnd hv hr
  exact times_eq (by omega) (by omega) (by omega) (by omega)
theorem tm_ok {args : List AV} {o : List Bool} {v : AV} (h : tmS args = some (o, v)) (ho : Paid o) : PureCall Try.prog 90 args v := by
  unfold tmS at h
  split at h
  · rename_i s0 a0 s1 a1 s2 a2 t0 r0 t1 r1
    cases h
    have o1 := of_decide_eq_true (ho _ (List.mem_cons_self ..))
    have o2 := of_decide_eq_true (ho _ (List.mem_cons_of_mem _ (List.mem_cons_self ..)))
    intro ρ N vs ha
    cases ha with
    | cons _ _ _ _ k0 hb => cases hb with
      | cons _ _ _ _ k1 hb =>
        cases hb
        obtain ⟨x, wa0, wa1, wa2⟩ := agg3 k0
        obtain ⟨y, w0, w1⟩ := agg2 k1
        obtain ⟨e1, e2⟩ := tm_val wa0 wa1 wa2 w0 w1 o1 o2
        exact pure_of_res mixed noCount (hp1_ok.deep mixed noCount 100 3) (by kernel_rfl) (tm_eval a0 a1 a2 r0 r1) (paid_cons rfl (paid_cons (decide_eq_true e2) (paid_cons rfl Paid.nil))) (by rw [e1]) (by kernel_rfl) (.cons _ _ _ _ x (.cons _ _ _ _ y .nil))
  · cases h
-- the least
def leS : List AV → E AV
  | [.agg [.int _ .u64 a, .int _ .u64 b, .int _ .u64 c]] => some ([decide (v3 a b c < 2722258935367507707706996859454145691638)], ag3 (v3 a b c % 1361129467683753853853498429727072845819))
  | _ => none
def lsU (a b c : Int) : Int := v3 a b c + v3 5 0 0
def lsC (a b c : Int) : Int := IntKind.u64.wrap (0 - ishr .u64 (g2 (lsU a b c)) 2)
theorem le_eval (a b c : Int) : res (funcA Try.prog qC (deep Try.prog qC hp1 100 3) 100 91 [.agg [.int true .u64 a, .int true .u64 b, .int true .u64 c]] []) =
    some ([], .agg [.int true .u64 (ior .u64 (iand .u64 (g0 (lsU a b c)) (lsC a b c)) (iandn .u64 a (lsC a b c))), .int true .u64 (ior .u64 (iand .u64 (g1 (lsU a b c)) (lsC a b c)) (iandn .u64 b (lsC a b c))), .int true .u64 (ior .u64 (iand .u64 (iand .u64 (g2 (lsU a b c)) 3) (lsC a b c)) (iandn .u64 c (lsC a b c)))]) := by kernel_rfl
theorem le_ok {args : List AV} {o : List Bool} {v : AV} (h : leS args = some (o, v)) (ho : Paid o) : PureCall Try.prog 91 args v := by
  unfold leS at h
  split at h
  · rename_i s0 a s1 b s2 c
    cases h
    have o1 := of_decide_eq_true (ho _ (List.mem_cons_self ..))
    intro ρ N vs ha
    cases ha with
    | cons _ _ _ _ k0 hb =>
      cases hb
      obtain ⟨x, wa, wb, wc⟩ := agg3 k0
      obtain ⟨e1, e2, e3⟩ := least_eq wa wb wc o1
      have ev := le_eval a b c
      unfold lsC lsU at ev
      rw [e1, e2, e3] at ev
      exact pure_of_res mixed noCount (hp1_ok.deep mixed noCount 100 3) (by kernel_rfl) ev Paid.nil rfl (by kernel_rfl) (.cons _ _ _ _ x .nil)
  · cases h
-- its bytes
def ybS : List AV → E AV
  | [.agg [.int _ .u64 a, .int _ .u64 b, .int _ .u64 c]] => some ([], .ints .u8 16 (by16 (v3 a b c)))
  | _ => none
def by16P (a b : Int) : List Int := (List.range 16).map fun i => match decide (i < 8) with | true => IntKind.u8.wrap (ishr .u64 a ((8 * i : Nat) : Int)) | false => IntKind.u8.wrap (ishr .u64 b ((8 * (i - 8) : Nat) : Int))
theorem yb_eval (a b c : Int) : res (funcA Try.prog qC (deep Try.prog qC hp1 100 3) 100 92 [.agg [.int true .u64 a, .int true .u64 b, .int true .u64 c]] []) = some ([], .ints .u8 16 (by16P a b)) := by kernel_rfl
theorem yb_ok {args : List AV} {o : List Bool} {v : AV} (h : ybS args = some (o, v)) : PureCall Try.prog 92 args v := by
  unfold ybS at h
  split at h
  · rename_i s0 a s1 b s2 c
    cases h
    intro ρ N vs ha
    cases ha with
    | cons _ _ _ _ k0 hb =>
      cases hb
      obtain ⟨x, wa, wb, wc⟩ := agg3 k0
      have e : by16P a b = by16 (v3 a b c) := List.map_congr_left fun i hi => by16_eq wa wb i (List.mem_range.1 hi)
      exact pure_of_res mixed noCount (hp1_ok.deep mixed noCount 100 3) (by kernel_rfl) (yb_eval a b c) Paid.nil (by rw [e]) (by kernel_rfl) (.cons _ _ _ _ x .nil)
  · cases h
def hp2 : CallH := withC 92 ybS (withC 91 leS (withC 90 tmS hp1))
theorem hp2_ok : HOk Try.prog hp2 := ((hp1_ok.withC fun _ _ _ h ho => tm_ok h ho).withC fun _ _ _ h ho => le_ok h ho).withC fun _ _ _ h _ => yb_ok h
end Go.Proofs.Ytfmgodgakndjcaa
