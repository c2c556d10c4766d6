/- mac's begun: a hash behind a key's block; its contract. Own work. -/
import Derived.Test.YtljndahfackolaaDoorQMacA
set_option linter.unusedSimpArgs false
set_option linter.unusedVariables false
set_option linter.unusedSectionVars false
namespace Go.Sh
open Go.Ev
/-- A key laid upon a block of zeros, as it is copied. -/
def padR (B n : Nat) (l : List Int) : List Int := (List.replicate B 0).take 0 ++ ((l.drop 0).take n).take (Nat.min n B) ++ (List.replicate B 0).drop (0 + Nat.min n B)
theorem padR_eq {B n : Nat} {l : List Int} (hl : l.length = n) (hb : n ≤ B) : padR B n l = l ++ List.replicate (B - n) 0 := by
  have hm : Nat.min n B = n := Nat.min_eq_left hb
  unfold padR
  rw [hm, List.take_zero, List.nil_append, List.drop_zero, List.take_of_length_le (l := l) (by omega), List.take_of_length_le (by omega), Nat.zero_add, List.drop_replicate]
theorem padR_len {B n : Nat} {l : List Int} (hl : l.length = n) (hb : n ≤ B) : (padR B n l).length = B := by
  rw [padR_eq hl hb, List.length_append, List.length_replicate]; omega
end Go.Sh
namespace Go.Proofs.YtljndahfackolaaDoor
open Go.Ev Go.Sh
set_option maxRecDepth 100000
def bgW256 (d : List Int) (x : Int) : WrS := wrI beg256 Z128 0 (xo d x 64) 64
def bgH256 (d : List Int) (x : Int) : Cells := hashC 256 (wrEnd256 (bgW256 d x)).1 (wrEnd256 (bgW256 d x)).2.1 true (wrEnd256 (bgW256 d x)).2.2
theorem bgW256_eq {d : List Int} (x : Int) (h : d.length = 64) : wrEnd256 (bgW256 d x) = stW 32 64 64 beg256 Z128 0 (xo d x 64) := by
  have e1 : ((xo d x 64).drop 0).take 64 = xo d x 64 := by rw [List.drop_zero, List.take_of_length_le (by rw [xo_len]; omega)]
  unfold bgW256 wrEnd256 wrI stW
  simp only
  rw [e1]
theorem bgn256_buf (n : Nat) (l : List Int) (x : Int) : ((funcL Tryd.prog qS hS10 bgΛ256b 200 35 (cArgs 0 [.pl (.int false .i64 256), .buf true .u8 n l, .pl (.int false .u8 x)]) (cMem [.pl (.int false .i64 256), .buf true .u8 n l, .pl (.int false .u8 x)])).go []).flat = some ([decide (0 + n ≤ n), decide (0 + Nat.min n 64 ≤ 64), true, decide ((padR 64 n l).length = 64), true, true, true], (.ptr false 4 0, [none, some ⟨false, .ints .u8 (some n) l⟩, none, some ⟨true, .ints .u8 (some 64) (xo (padR 64 n l) x 64)⟩, some ⟨true, bgH256 (padR 64 n l) x⟩])) := by kernel_rfl
theorem bgn256_nil (x : Int) : ((funcL Tryd.prog qS hS10 bgΛ256e 200 35 (cArgs 0 [.pl (.int false .i64 256), .pl .nilslice, .pl (.int false .u8 x)]) (cMem [.pl (.int false .i64 256), .pl .nilslice, .pl (.int false .u8 x)])).go []).flat = some ([true, true, true, true, true], (.ptr false 4 0, [none, none, none, some ⟨true, .ints .u8 (some 64) (xo (padR 64 0 []) x 64)⟩, some ⟨true, bgH256 (padR 64 0 []) x⟩])) := by kernel_rfl
theorem bgn256_emp (x : Int) : ((funcL Tryd.prog qS hS10 bgΛ256e 200 35 (cArgs 0 [.pl (.int false .i64 256), .empty, .pl (.int false .u8 x)]) (cMem [.pl (.int false .i64 256), .empty, .pl (.int false .u8 x)])).go []).flat = some ([true, true, true, true, true], (.ptr false 4 0, [none, none, none, some ⟨true, .ints .u8 (some 64) (xo (padR 64 0 []) x 64)⟩, some ⟨true, bgH256 (padR 64 0 []) x⟩])) := by kernel_rfl
def bgW384 (d : List Int) (x : Int) : WrS := wrI beg384 Z128 0 (xo d x 128) 128
def bgH384 (d : List Int) (x : Int) : Cells := hashC 384 (wrEnd384 (bgW384 d x)).1 (wrEnd384 (bgW384 d x)).2.1 true (wrEnd384 (bgW384 d x)).2.2
theorem bgW384_eq {d : List Int} (x : Int) (h : d.length = 128) : wrEnd384 (bgW384 d x) = stW 64 80 128 beg384 Z128 0 (xo d x 128) := by
  have e1 : ((xo d x 128).drop 0).take 128 = xo d x 128 := by rw [List.drop_zero, List.take_of_length_le (by rw [xo_len]; omega)]
  unfold bgW384 wrEnd384 wrI stW
  simp only
  rw [e1]
theorem bgn384_buf (n : Nat) (l : List Int) (x : Int) : ((funcL Tryd.prog qS hS10 bgΛ384b 200 35 (cArgs 0 [.pl (.int false .i64 384), .buf true .u8 n l, .pl (.int false .u8 x)]) (cMem [.pl (.int false .i64 384), .buf true .u8 n l, .pl (.int false .u8 x)])).go []).flat = some ([decide (0 + n ≤ n), decide (0 + Nat.min n 128 ≤ 128), true, decide ((padR 128 n l).length = 128), true, true, true], (.ptr false 4 0, [none, some ⟨false, .ints .u8 (some n) l⟩, none, some ⟨true, .ints .u8 (some 128) (xo (padR 128 n l) x 128)⟩, some ⟨true, bgH384 (padR 128 n l) x⟩])) := by kernel_rfl
theorem bgn384_nil (x : Int) : ((funcL Tryd.prog qS hS10 bgΛ384e 200 35 (cArgs 0 [.pl (.int false .i64 384), .pl .nilslice, .pl (.int false .u8 x)]) (cMem [.pl (.int false .i64 384), .pl .nilslice, .pl (.int false .u8 x)])).go []).flat = some ([true, true, true, true, true], (.ptr false 4 0, [none, none, none, some ⟨true, .ints .u8 (some 128) (xo (padR 128 0 []) x 128)⟩, some ⟨true, bgH384 (padR 128 0 []) x⟩])) := by kernel_rfl
theorem bgn384_emp (x : Int) : ((funcL Tryd.prog qS hS10 bgΛ384e 200 35 (cArgs 0 [.pl (.int false .i64 384), .empty, .pl (.int false .u8 x)]) (cMem [.pl (.int false .i64 384), .empty, .pl (.int false .u8 x)])).go []).flat = some ([true, true, true, true, true], (.ptr false 4 0, [none, none, none, some ⟨true, .ints .u8 (some 128) (xo (padR 128 0 []) x 128)⟩, some ⟨true, bgH384 (padR 128 0 []) x⟩])) := by kernel_rfl
def bgW512 (d : List Int) (x : Int) : WrS := wrI beg512 Z128 0 (xo d x 128) 128
def bgH512 (d : List Int) (x : Int) : Cells := hashC 512 (wrEnd512 (bgW512 d x)).1 (wrEnd512 (bgW512 d x)).2.1 true (wrEnd512 (bgW512 d x)).2.2
theorem bgW512_eq {d : List Int} (x : Int) (h : d.length = 128) : wrEnd512 (bgW512 d x) = stW 64 80 128 beg512 Z128 0 (xo d x 128) := by
  have e1 : ((xo d x 128).drop 0).take 128 = xo d x 128 := by rw [List.drop_zero, List.take_of_length_le (by rw [xo_len]; omega)]
  unfold bgW512 wrEnd512 wrI stW
  simp only
  rw [e1]
theorem bgn512_buf (n : Nat) (l : List Int) (x : Int) : ((funcL Tryd.prog qS hS10 bgΛ512b 200 35 (cArgs 0 [.pl (.int false .i64 512), .buf true .u8 n l, .pl (.int false .u8 x)]) (cMem [.pl (.int false .i64 512), .buf true .u8 n l, .pl (.int false .u8 x)])).go []).flat = some ([decide (0 + n ≤ n), decide (0 + Nat.min n 128 ≤ 128), true, decide ((padR 128 n l).length = 128), true, true, true], (.ptr false 4 0, [none, some ⟨false, .ints .u8 (some n) l⟩, none, some ⟨true, .ints .u8 (some 128) (xo (padR 128 n l) x 128)⟩, some ⟨true, bgH512 (padR 128 n l) x⟩])) := by kernel_rfl
theorem bgn512_nil (x : Int) : ((funcL Tryd.prog qS hS10 bgΛ512e 200 35 (cArgs 0 [.pl (.int false .i64 512), .pl .nilslice, .pl (.int false .u8 x)]) (cMem [.pl (.int false .i64 512), .pl .nilslice, .pl (.int false .u8 x)])).go []).flat = some ([true, true, true, true, true], (.ptr false 4 0, [none, none, none, some ⟨true, .ints .u8 (some 128) (xo (padR 128 0 []) x 128)⟩, some ⟨true, bgH512 (padR 128 0 []) x⟩])) := by kernel_rfl
theorem bgn512_emp (x : Int) : ((funcL Tryd.prog qS hS10 bgΛ512e 200 35 (cArgs 0 [.pl (.int false .i64 512), .empty, .pl (.int false .u8 x)]) (cMem [.pl (.int false .i64 512), .empty, .pl (.int false .u8 x)])).go []).flat = some ([true, true, true, true, true], (.ptr false 4 0, [none, none, none, some ⟨true, .ints .u8 (some 128) (xo (padR 128 0 []) x 128)⟩, some ⟨true, bgH512 (padR 128 0 []) x⟩])) := by kernel_rfl
theorem marked1 {g : FuncId} {s : Bool} {a b : V} {k : IntKind} {n : Nat} {l : List Int} {v : AV} {bs : Mem} (h : ViewCall Tryd.prog g [a, .buf true k n l, b] v bs) : ViewCall Tryd.prog g [a, .buf s k n l, b] v bs := by
  cases s with
  | true => exact @h
  | false =>
    intro ρ vs w ha hi
    refine h (ρ := ρ) (vs := vs) (w := w) ?_ hi
    cases ha with
    | cons _ _ u us hu hus =>
      refine .cons _ _ _ _ hu ?_
      cases hus with
      | cons _ _ u2 us2 hu2 hus2 =>
        refine .cons _ _ _ _ ?_ hus2
        cases hu2 with
        | slice _ _ _ _ _ _ c ad hn hc hl hw had => exact .slice true _ _ _ _ _ c ad hn (fun _ h => by cases h) hl hw had
def begS : List V → E (AV × Mem)
  | [.pl (.int false .i64 256), .buf _ .u8 n l, .pl (.int false .u8 x)] => some ([decide (l.length = n), decide (n ≤ 64)], (.ptr false 0 0, [some ⟨true, bgH256 (padR 64 n l) x⟩]))
  | [.pl (.int false .i64 256), .pl .nilslice, .pl (.int false .u8 x)] => some ([], (.ptr false 0 0, [some ⟨true, bgH256 (padR 64 0 []) x⟩]))
  | [.pl (.int false .i64 256), .empty, .pl (.int false .u8 x)] => some ([], (.ptr false 0 0, [some ⟨true, bgH256 (padR 64 0 []) x⟩]))
  | [.pl (.int false .i64 384), .buf _ .u8 n l, .pl (.int false .u8 x)] => some ([decide (l.length = n), decide (n ≤ 128)], (.ptr false 0 0, [some ⟨true, bgH384 (padR 128 n l) x⟩]))
  | [.pl (.int false .i64 384), .pl .nilslice, .pl (.int false .u8 x)] => some ([], (.ptr false 0 0, [some ⟨true, bgH384 (padR 128 0 []) x⟩]))
  | [.pl (.int false .i64 384), .empty, .pl (.int false .u8 x)] => some ([], (.ptr false 0 0, [some ⟨true, bgH384 (padR 128 0 []) x⟩]))
  | [.pl (.int false .i64 512), .buf _ .u8 n l, .pl (.int false .u8 x)] => some ([decide (l.length = n), decide (n ≤ 128)], (.ptr false 0 0, [some ⟨true, bgH512 (padR 128 n l) x⟩]))
  | [.pl (.int false .i64 512), .pl .nilslice, .pl (.int false .u8 x)] => some ([], (.ptr false 0 0, [some ⟨true, bgH512 (padR 128 0 []) x⟩]))
  | [.pl (.int false .i64 512), .empty, .pl (.int false .u8 x)] => some ([], (.ptr false 0 0, [some ⟨true, bgH512 (padR 128 0 []) x⟩]))
  | _ => none
theorem beg_ok {xs : List V} {o : List Bool} {v : AV} {bs : Mem} (h : begS xs = some (o, (v, bs))) (ho : Paid o) : ViewCall Tryd.prog 35 xs v bs := by
  unfold begS at h
  split at h
  · rename_i s n l x
    cases h
    have o1 := of_decide_eq_true (ho _ (List.mem_cons_self ..))
    have o2 := of_decide_eq_true (ho _ (List.mem_cons_of_mem _ (List.mem_cons_self ..)))
    have hc : ViewCall Tryd.prog 35 [.pl (.int false .i64 256), .buf true .u8 n l, .pl (.int false .u8 x)] (.ptr false 0 0) [some ⟨true, bgH256 (padR 64 n l) x⟩] := @viewN_of_goR _ _ _ _ _ mixed noCount hS10_ok _ _ _ (fun fn c hf hb => by rw [bodyOf_eq hf hb]; exact bg256b_lok.toN) _ (.ptr false 0 0) _ _ [some ⟨true, bgH256 (padR 64 n l) x⟩] [] (oneR 3 4) (bgn256_buf n l x) (paid_cons (decide_eq_true (by omega)) (paid_cons (decide_eq_true (by have h : Nat.min n 64 ≤ 64 := Nat.min_le_right n 64; omega)) (paid_cons rfl (paid_cons (decide_eq_true (padR_len o1 o2)) (paid_cons rfl (paid_cons rfl (paid_cons rfl Paid.nil))))))) rfl rfl ⟨⟨_, rfl, .refl _⟩, trivial⟩ rfl (oneR_inj (by decide)) (oneR_fix _ _)
    exact @marked1 _ s _ _ _ _ _ _ _ @hc
  · rename_i x
    cases h
    exact @viewN_of_goR _ _ _ _ _ mixed noCount hS10_ok _ _ _ (fun fn c hf hb => by rw [bodyOf_eq hf hb]; exact bg256e_lok.toN) _ (.ptr false 0 0) _ _ [some ⟨true, bgH256 (padR 64 0 []) x⟩] [] (oneR 3 4) (bgn256_nil x) (all1_paid rfl) rfl rfl ⟨⟨_, rfl, .refl _⟩, trivial⟩ rfl (oneR_inj (by decide)) (oneR_fix _ _)
  · rename_i x
    cases h
    exact @viewN_of_goR _ _ _ _ _ mixed noCount hS10_ok _ _ _ (fun fn c hf hb => by rw [bodyOf_eq hf hb]; exact bg256e_lok.toN) _ (.ptr false 0 0) _ _ [some ⟨true, bgH256 (padR 64 0 []) x⟩] [] (oneR 3 4) (bgn256_emp x) (all1_paid rfl) rfl rfl ⟨⟨_, rfl, .refl _⟩, trivial⟩ rfl (oneR_inj (by decide)) (oneR_fix _ _)
  · rename_i s n l x
    cases h
    have o1 := of_decide_eq_true (ho _ (List.mem_cons_self ..))
    have o2 := of_decide_eq_true (ho _ (List.mem_cons_of_mem _ (List.mem_cons_self ..)))
    have hc : ViewCall Tryd.prog 35 [.pl (.int false .i64 384), .buf true .u8 n l, .pl (.int false .u8 x)] (.ptr false 0 0) [some ⟨true, bgH384 (padR 128 n l) x⟩] := @viewN_of_goR _ _ _ _ _ mixed noCount hS10_ok _ _ _ (fun fn c hf hb => by rw [bodyOf_eq hf hb]; exact bg384b_lok.toN) _ (.ptr false 0 0) _ _ [some ⟨true, bgH384 (padR 128 n l) x⟩] [] (oneR 3 4) (bgn384_buf n l x) (paid_cons (decide_eq_true (by omega)) (paid_cons (decide_eq_true (by have h : Nat.min n 128 ≤ 128 := Nat.min_le_right n 128; omega)) (paid_cons rfl (paid_cons (decide_eq_true (padR_len o1 o2)) (paid_cons rfl (paid_cons rfl (paid_cons rfl Paid.nil))))))) rfl rfl ⟨⟨_, rfl, .refl _⟩, trivial⟩ rfl (oneR_inj (by decide)) (oneR_fix _ _)
    exact @marked1 _ s _ _ _ _ _ _ _ @hc
  · rename_i x
    cases h
    exact @viewN_of_goR _ _ _ _ _ mixed noCount hS10_ok _ _ _ (fun fn c hf hb => by rw [bodyOf_eq hf hb]; exact bg384e_lok.toN) _ (.ptr false 0 0) _ _ [some ⟨true, bgH384 (padR 128 0 []) x⟩] [] (oneR 3 4) (bgn384_nil x) (all1_paid rfl) rfl rfl ⟨⟨_, rfl, .refl _⟩, trivial⟩ rfl (oneR_inj (by decide)) (oneR_fix _ _)
  · rename_i x
    cases h
    exact @viewN_of_goR _ _ _ _ _ mixed noCount hS10_ok _ _ _ (fun fn c hf hb => by rw [bodyOf_eq hf hb]; exact bg384e_lok.toN) _ (.ptr false 0 0) _ _ [some ⟨true, bgH384 (padR 128 0 []) x⟩] [] (oneR 3 4) (bgn384_emp x) (all1_paid rfl) rfl rfl ⟨⟨_, rfl, .refl _⟩, trivial⟩ rfl (oneR_inj (by decide)) (oneR_fix _ _)
  · rename_i s n l x
    cases h
    have o1 := of_decide_eq_true (ho _ (List.mem_cons_self ..))
    have o2 := of_decide_eq_true (ho _ (List.mem_cons_of_mem _ (List.mem_cons_self ..)))
    have hc : ViewCall Tryd.prog 35 [.pl (.int false .i64 512), .buf true .u8 n l, .pl (.int false .u8 x)] (.ptr false 0 0) [some ⟨true, bgH512 (padR 128 n l) x⟩] := @viewN_of_goR _ _ _ _ _ mixed noCount hS10_ok _ _ _ (fun fn c hf hb => by rw [bodyOf_eq hf hb]; exact bg512b_lok.toN) _ (.ptr false 0 0) _ _ [some ⟨true, bgH512 (padR 128 n l) x⟩] [] (oneR 3 4) (bgn512_buf n l x) (paid_cons (decide_eq_true (by omega)) (paid_cons (decide_eq_true (by have h : Nat.min n 128 ≤ 128 := Nat.min_le_right n 128; omega)) (paid_cons rfl (paid_cons (decide_eq_true (padR_len o1 o2)) (paid_cons rfl (paid_cons rfl (paid_cons rfl Paid.nil))))))) rfl rfl ⟨⟨_, rfl, .refl _⟩, trivial⟩ rfl (oneR_inj (by decide)) (oneR_fix _ _)
    exact @marked1 _ s _ _ _ _ _ _ _ @hc
  · rename_i x
    cases h
    exact @viewN_of_goR _ _ _ _ _ mixed noCount hS10_ok _ _ _ (fun fn c hf hb => by rw [bodyOf_eq hf hb]; exact bg512e_lok.toN) _ (.ptr false 0 0) _ _ [some ⟨true, bgH512 (padR 128 0 []) x⟩] [] (oneR 3 4) (bgn512_nil x) (all1_paid rfl) rfl rfl ⟨⟨_, rfl, .refl _⟩, trivial⟩ rfl (oneR_inj (by decide)) (oneR_fix _ _)
  · rename_i x
    cases h
    exact @viewN_of_goR _ _ _ _ _ mixed noCount hS10_ok _ _ _ (fun fn c hf hb => by rw [bodyOf_eq hf hb]; exact bg512e_lok.toN) _ (.ptr false 0 0) _ _ [some ⟨true, bgH512 (padR 128 0 []) x⟩] [] (oneR 3 4) (bgn512_emp x) (all1_paid rfl) rfl rfl ⟨⟨_, rfl, .refl _⟩, trivial⟩ rfl (oneR_inj (by decide)) (oneR_fix _ _)
  · cases h
def hm1 : CallH := withV 35 begS hs10
theorem hm1_ok : HOk Tryd.prog hm1 := hs10_ok.withV fun _ _ _ _ h ho => beg_ok h ho
noncomputable def hM1 : CallH := deep Tryd.prog qS hm1 100 3
theorem hM1_ok : HOk Tryd.prog hM1 := hm1_ok.deep mixed noCount 100 3
end Go.Proofs.YtljndahfackolaaDoor
