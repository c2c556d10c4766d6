/- The program's New, and its Sum of a hash under way. Own work. -/
import Derived.Test.YtjhjhhibfojpiaaDoorVShaD
set_option linter.unusedSimpArgs false
set_option linter.unusedVariables false
set_option linter.unusedSectionVars false
namespace Go.Sh
open Go.Ev
def beg256 : List Int := [1779033703, 3144134277, 1013904242, 2773480762, 1359893119, 2600822924, 528734635, 1541459225]
def beg384 : List Int := [14680500436340154072, 7105036623409894663, 10473403895298186519, 1526699215303891257, 7436329637833083697, 10282925794625328401, 15784041429090275239, 5167115440072839076]
def beg512 : List Int := [7640891576956012808, 13503953896175478587, 4354685564936845355, 11912009170470909681, 5840696475078001361, 11170449401992604703, 2270897969802886507, 6620516959819538809]
/-- The state behind bytes. -/
def stW (w N B : Nat) (ws op : List Int) (c : Int) (l : List Int) : List Int × List Int × Int := l.foldl (byteS w N B) (ws, op, c)
/-- The state behind what fills it up. -/
def endW (w N B : Nat) (ws op : List Int) (c : Int) : List Int × List Int × Int := stW w N B ws op c (fillC (fillN B c) c 8)
end Go.Sh
namespace Go.Proofs.YtjhjhhibfojpiaaDoor
variable [Go.Ev.RowTab]
open Go.Ev Go.Sh
set_option maxRecDepth 100000
def newS : List V → E (AV × Mem)
  | [.pl (.int false .i64 256)] => some ([], (.ptr false 0 0, [some ⟨true, hashC 256 beg256 Z128 false 0⟩]))
  | [.pl (.int false .i64 384)] => some ([], (.ptr false 0 0, [some ⟨true, hashC 384 beg384 Z128 false 0⟩]))
  | [.pl (.int false .i64 512)] => some ([], (.ptr false 0 0, [some ⟨true, hashC 512 beg512 Z128 false 0⟩]))
  | _ => none
theorem new256_eval : flatC (funcA Tryd.prog qS hS5 200 9 (cArgs 0 [.pl (.int false .i64 256)]) (cMem [.pl (.int false .i64 256)])) = some (true, (.ptr false 1 0, [none, some ⟨true, hashC 256 beg256 Z128 false 0⟩])) := by kernel_rfl
theorem new384_eval : flatC (funcA Tryd.prog qS hS5 200 9 (cArgs 0 [.pl (.int false .i64 384)]) (cMem [.pl (.int false .i64 384)])) = some (true, (.ptr false 1 0, [none, some ⟨true, hashC 384 beg384 Z128 false 0⟩])) := by kernel_rfl
theorem new512_eval : flatC (funcA Tryd.prog qS hS5 200 9 (cArgs 0 [.pl (.int false .i64 512)]) (cMem [.pl (.int false .i64 512)])) = some (true, (.ptr false 1 0, [none, some ⟨true, hashC 512 beg512 Z128 false 0⟩])) := by kernel_rfl
theorem new_ok {xs : List V} {o : List Bool} {v : AV} {bs : Mem} (h : newS xs = some (o, (v, bs))) (_ : Paid o) : ViewCall Tryd.prog 9 xs v bs := by
  unfold newS at h
  split at h
  · cases h
    obtain ⟨o, h1, h2⟩ := flatC_ok new256_eval
    exact view_of_flat mixed noCount hS5_ok h1 h2 rfl rfl rfl
  · cases h
    obtain ⟨o, h1, h2⟩ := flatC_ok new384_eval
    exact view_of_flat mixed noCount hS5_ok h1 h2 rfl rfl rfl
  · cases h
    obtain ⟨o, h1, h2⟩ := flatC_ok new512_eval
    exact view_of_flat mixed noCount hS5_ok h1 h2 rfl rfl rfl
  · cases h
def sumR256 (ws op : List Int) (c : Int) : Mem := [some ⟨true, hashC 256 (endW 32 64 64 ws op c).1 (endW 32 64 64 ws op c).2.1 true (endW 32 64 64 ws op c).2.2⟩, some ⟨true, .ints .u8 none (fillC (fillN 64 c) c 8)⟩, some ⟨true, .ints .u8 (some 32) (toldL 32 4 (endW 32 64 64 ws op c).1)⟩]
theorem sum256_eval (ws op : List Int) (s : Bool) (c : Int) : (funcA Tryd.prog qS hS5 100 13 (cArgs 0 [.pt (hashC 256 ws op s c)]) (cMem [.pt (hashC 256 ws op s c)])).flat =
    some ([decide (0 ≤ c ∧ c < 18446744073709551616), decide (0 + fillN 64 c ≤ (fillC (fillN 64 c) c 8).length), all32 ws, decide (0 ≤ c ∧ c < 18446744073709551616), decide (fillN 64 c < 9223372036854775808)],
      (.slice false 3 0 32 (some 32) 1, [some ⟨false, hashC 256 ws op s c⟩, some ⟨true, hashC 256 (wrEnd256 (wrI ws op c (((fillC (fillN 64 c) c 8).drop 0).take (fillN 64 c)) (fillN 64 c))).1 (wrEnd256 (wrI ws op c (((fillC (fillN 64 c) c 8).drop 0).take (fillN 64 c)) (fillN 64 c))).2.1 true (wrEnd256 (wrI ws op c (((fillC (fillN 64 c) c 8).drop 0).take (fillN 64 c)) (fillN 64 c))).2.2⟩,
        some ⟨true, .ints .u8 none (fillC (fillN 64 c) c 8)⟩, some ⟨true, .ints .u8 (some 32) (toldL 32 4 (wrEnd256 (wrI ws op c (((fillC (fillN 64 c) c 8).drop 0).take (fillN 64 c)) (fillN 64 c))).1)⟩])) := by kernel_rfl
theorem wrEnd256_all {ws op l : List Int} {c : Int} {n : Nat} (h : l.length = n) : wrEnd256 (wrI ws op c ((l.drop 0).take n) n) = stW 32 64 64 ws op c l := by
  have e1 : (l.drop 0).take n = l := by rw [List.drop_zero, List.take_of_length_le (by omega)]
  rw [e1]
  unfold wrEnd256 wrI stW
  simp only
  rw [e1]
def sumR384 (ws op : List Int) (c : Int) : Mem := [some ⟨true, hashC 384 (endW 64 80 128 ws op c).1 (endW 64 80 128 ws op c).2.1 true (endW 64 80 128 ws op c).2.2⟩, some ⟨true, .ints .u8 none (fillC (fillN 128 c) c 8)⟩, some ⟨true, .ints .u8 (some 48) (toldL 48 8 (endW 64 80 128 ws op c).1)⟩]
theorem sum384_eval (ws op : List Int) (s : Bool) (c : Int) : (funcA Tryd.prog qS hS5 100 13 (cArgs 0 [.pt (hashC 384 ws op s c)]) (cMem [.pt (hashC 384 ws op s c)])).flat =
    some ([decide (0 ≤ c ∧ c < 18446744073709551616), decide (0 + fillN 128 c ≤ (fillC (fillN 128 c) c 8).length), all64 ws, decide (0 ≤ c ∧ c < 18446744073709551616), decide (fillN 128 c < 9223372036854775808)],
      (.slice false 3 0 48 (some 48) 1, [some ⟨false, hashC 384 ws op s c⟩, some ⟨true, hashC 384 (wrEnd384 (wrI ws op c (((fillC (fillN 128 c) c 8).drop 0).take (fillN 128 c)) (fillN 128 c))).1 (wrEnd384 (wrI ws op c (((fillC (fillN 128 c) c 8).drop 0).take (fillN 128 c)) (fillN 128 c))).2.1 true (wrEnd384 (wrI ws op c (((fillC (fillN 128 c) c 8).drop 0).take (fillN 128 c)) (fillN 128 c))).2.2⟩,
        some ⟨true, .ints .u8 none (fillC (fillN 128 c) c 8)⟩, some ⟨true, .ints .u8 (some 48) (toldL 48 8 (wrEnd384 (wrI ws op c (((fillC (fillN 128 c) c 8).drop 0).take (fillN 128 c)) (fillN 128 c))).1)⟩])) := by kernel_rfl
theorem wrEnd384_all {ws op l : List Int} {c : Int} {n : Nat} (h : l.length = n) : wrEnd384 (wrI ws op c ((l.drop 0).take n) n) = stW 64 80 128 ws op c l := by
  have e1 : (l.drop 0).take n = l := by rw [List.drop_zero, List.take_of_length_le (by omega)]
  rw [e1]
  unfold wrEnd384 wrI stW
  simp only
  rw [e1]
def sumR512 (ws op : List Int) (c : Int) : Mem := [some ⟨true, hashC 512 (endW 64 80 128 ws op c).1 (endW 64 80 128 ws op c).2.1 true (endW 64 80 128 ws op c).2.2⟩, some ⟨true, .ints .u8 none (fillC (fillN 128 c) c 8)⟩, some ⟨true, .ints .u8 (some 64) (toldL 64 8 (endW 64 80 128 ws op c).1)⟩]
theorem sum512_eval (ws op : List Int) (s : Bool) (c : Int) : (funcA Tryd.prog qS hS5 100 13 (cArgs 0 [.pt (hashC 512 ws op s c)]) (cMem [.pt (hashC 512 ws op s c)])).flat =
    some ([decide (0 ≤ c ∧ c < 18446744073709551616), decide (0 + fillN 128 c ≤ (fillC (fillN 128 c) c 8).length), all64 ws, decide (0 ≤ c ∧ c < 18446744073709551616), decide (fillN 128 c < 9223372036854775808)],
      (.slice false 3 0 64 (some 64) 1, [some ⟨false, hashC 512 ws op s c⟩, some ⟨true, hashC 512 (wrEnd512 (wrI ws op c (((fillC (fillN 128 c) c 8).drop 0).take (fillN 128 c)) (fillN 128 c))).1 (wrEnd512 (wrI ws op c (((fillC (fillN 128 c) c 8).drop 0).take (fillN 128 c)) (fillN 128 c))).2.1 true (wrEnd512 (wrI ws op c (((fillC (fillN 128 c) c 8).drop 0).take (fillN 128 c)) (fillN 128 c))).2.2⟩,
        some ⟨true, .ints .u8 none (fillC (fillN 128 c) c 8)⟩, some ⟨true, .ints .u8 (some 64) (toldL 64 8 (wrEnd512 (wrI ws op c (((fillC (fillN 128 c) c 8).drop 0).take (fillN 128 c)) (fillN 128 c))).1)⟩])) := by kernel_rfl
theorem wrEnd512_all {ws op l : List Int} {c : Int} {n : Nat} (h : l.length = n) : wrEnd512 (wrI ws op c ((l.drop 0).take n) n) = stW 64 80 128 ws op c l := by
  have e1 : (l.drop 0).take n = l := by rw [List.drop_zero, List.take_of_length_le (by omega)]
  rw [e1]
  unfold wrEnd512 wrI stW
  simp only
  rw [e1]
def sumS : List V → E (AV × Mem)
  | [.pt (.wide [.int false .i64 256, .ints .u64 8 ws, .ints .u8 128 op, .int _ .u64 c])] => some ([all32 ws, decide (0 ≤ c ∧ c < 18446744073709551616)], (.slice false 2 0 32 (some 32) 1, sumR256 ws op c))
  | [.pt (.wide [.int false .i64 384, .ints .u64 8 ws, .ints .u8 128 op, .int _ .u64 c])] => some ([all64 ws, decide (0 ≤ c ∧ c < 18446744073709551616)], (.slice false 2 0 48 (some 48) 1, sumR384 ws op c))
  | [.pt (.wide [.int false .i64 512, .ints .u64 8 ws, .ints .u8 128 op, .int _ .u64 c])] => some ([all64 ws, decide (0 ≤ c ∧ c < 18446744073709551616)], (.slice false 2 0 64 (some 64) 1, sumR512 ws op c))
  | _ => none
theorem sum_ok {xs : List V} {o : List Bool} {v : AV} {bs : Mem} (h : sumS xs = some (o, (v, bs))) (ho : Paid o) : ViewCall Tryd.prog 13 xs v bs := by
  unfold sumS at h
  split at h
  · rename_i ws op s c
    cases h
    have o1 := ho _ (List.mem_cons_self ..)
    have o2 := ho _ (List.mem_cons_of_mem _ (List.mem_cons_self ..))
    have hr := fillN_range (B := 64) (by decide) c
    have hl : (fillC (fillN 64 c) c 8).length = fillN 64 c := fillC_len hr.1 8
    have he := wrEnd256_all (ws := ws) (op := op) (c := c) hl
    have ev := sum256_eval ws op s c
    rw [he] at ev
    show ViewCall Tryd.prog 13 [.pt (hashC 256 ws op s c)] (.slice false 2 0 32 (some 32) 1) (sumR256 ws op c)
    exact view_of_flat (v := .slice false 2 0 32 (some 32) 1) (bs := sumR256 ws op c) mixed noCount hS5_ok ev (paid_cons o2 (paid_cons (decide_eq_true (by rw [hl]; omega)) (paid_cons o1 (paid_cons o2 (paid_cons (decide_eq_true (by omega)) Paid.nil))))) rfl rfl rfl
  · rename_i ws op s c
    cases h
    have o1 := ho _ (List.mem_cons_self ..)
    have o2 := ho _ (List.mem_cons_of_mem _ (List.mem_cons_self ..))
    have hr := fillN_range (B := 128) (by decide) c
    have hl : (fillC (fillN 128 c) c 8).length = fillN 128 c := fillC_len hr.1 8
    have he := wrEnd384_all (ws := ws) (op := op) (c := c) hl
    have ev := sum384_eval ws op s c
    rw [he] at ev
    show ViewCall Tryd.prog 13 [.pt (hashC 384 ws op s c)] (.slice false 2 0 48 (some 48) 1) (sumR384 ws op c)
    exact view_of_flat (v := .slice false 2 0 48 (some 48) 1) (bs := sumR384 ws op c) mixed noCount hS5_ok ev (paid_cons o2 (paid_cons (decide_eq_true (by rw [hl]; omega)) (paid_cons o1 (paid_cons o2 (paid_cons (decide_eq_true (by omega)) Paid.nil))))) rfl rfl rfl
  · rename_i ws op s c
    cases h
    have o1 := ho _ (List.mem_cons_self ..)
    have o2 := ho _ (List.mem_cons_of_mem _ (List.mem_cons_self ..))
    have hr := fillN_range (B := 128) (by decide) c
    have hl : (fillC (fillN 128 c) c 8).length = fillN 128 c := fillC_len hr.1 8
    have he := wrEnd512_all (ws := ws) (op := op) (c := c) hl
    have ev := sum512_eval ws op s c
    rw [he] at ev
    show ViewCall Tryd.prog 13 [.pt (hashC 512 ws op s c)] (.slice false 2 0 64 (some 64) 1) (sumR512 ws op c)
    exact view_of_flat (v := .slice false 2 0 64 (some 64) 1) (bs := sumR512 ws op c) mixed noCount hS5_ok ev (paid_cons o2 (paid_cons (decide_eq_true (by rw [hl]; omega)) (paid_cons o1 (paid_cons o2 (paid_cons (decide_eq_true (by omega)) Paid.nil))))) rfl rfl rfl
  · cases h
def hs6 : CallH := withV 9 newS (withV 13 sumS hs5)
theorem hs6_ok : HOk Tryd.prog hs6 := (hs5_ok.withV fun _ _ _ _ h ho => sum_ok h ho).withV fun _ _ _ _ h ho => new_ok h ho
noncomputable def hS6 : CallH := deep Tryd.prog qS hs6 100 3
theorem hS6_ok : HOk Tryd.prog hS6 := hs6_ok.deep mixed noCount 100 3
end Go.Proofs.YtjhjhhibfojpiaaDoor
