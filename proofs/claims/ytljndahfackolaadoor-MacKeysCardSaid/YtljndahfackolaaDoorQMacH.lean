/- mac's anchor: a code, and a secret. Own work. -/
import Derived.Test.YtljndahfackolaaDoorQMacB
set_option linter.unusedSimpArgs false
set_option linter.unusedVariables false
set_option linter.unusedSectionVars false
namespace Go.Proofs.YtljndahfackolaaDoor
open Go.Ev Go.Sh
set_option maxRecDepth 100000
noncomputable def hM2 : CallH := deep Tryd.prog qS hm1 200 5
theorem hM2_ok : HOk Tryd.prog hM2 := hm1_ok.deep mixed noCount 200 5
set_option maxHeartbeats 4000000 in
theorem sound4_eval : resAll (funcA Tryd.prog qA hM2 200 16 [] []) = some (true, .bool false true) := by kernel_rfl
theorem sound4_ok {args : List AV} {o : List Bool} {v : AV} (h : soundS args = some (o, v)) : PureCall Tryd.prog 16 args v := by
  unfold soundS at h
  split at h
  · cases h
    exact pure_of_all mixed noCount hM2_ok (by kernel_rfl) sound4_eval fun h => by cases h; exact .bool _ _
  · cases h
def hm3 : CallH := withC 16 soundS hm1
theorem hm3_ok : HOk Tryd.prog hm3 := hm1_ok.withC fun _ _ _ h _ => sound4_ok h
noncomputable def hM3 : CallH := deep Tryd.prog qS hm3 200 5
theorem hM3_ok : HOk Tryd.prog hM3 := hm3_ok.deep mixed noCount 200 5
end Go.Proofs.YtljndahfackolaaDoor
namespace Go.Proofs.YtljndahfackolaaDoor
open Go.Ev Go.Sh
set_option maxRecDepth 100000
def qZm (f : FuncId) : Bool := Nat.beq f 1000000000 || qS f
noncomputable def hHf : CallH := turnC Tryd.prog qS hM2 200 18 [false] hM3
theorem hHf_ok : HOk Tryd.prog hHf := HOk.turn mixed noCount hM2_ok hM3_ok 200 _ _
noncomputable def hHt : CallH := turnC Tryd.prog qS hM2 200 18 [true] hM3
theorem hHt_ok : HOk Tryd.prog hHt := HOk.turn mixed noCount hM2_ok hM3_ok 200 _ _
abbrev St3 := List Int × List Int × Int
def rng (s : St3) : Bool := decide (0 ≤ s.2.2 ∧ s.2.2 < 18446744073709551616)
def shI (n m : Nat) : Int := IntKind.i64.wrap (IntKind.i64.wrap (2 + if 5000 < (n : Int) then 5000 else (n : Int)) + if 5000 < (m : Int) then 5000 else (m : Int))
def wI (B n : Nat) : Nat := (IntKind.i64.wrap ((B : Int) - (n : Int))).toNat
def kb256 (x : Int) (n : Nat) (l : List Int) : St3 := wrEnd256 (bgW256 (padR 64 n ((l.drop 0).take n)) x)
def in256 (n : Nat) (l : List Int) (m : Nat) (q : List Int) : St3 := wrEnd256 (wrI (kb256 54 n l).1 (kb256 54 n l).2.1 (kb256 54 n l).2.2 ((q.drop 0).take m) m)
def tl256 (s : St3) : List Int := toldL 32 4 (endW 32 64 64 s.1 s.2.1 s.2.2).1
def ou256 (n : Nat) (l : List Int) (m : Nat) (q : List Int) : St3 := wrEnd256 (wrI (kb256 92 n l).1 (kb256 92 n l).2.1 (kb256 92 n l).2.2 (tl256 (in256 n l m q)) 32)
def code256 (n : Nat) (l : List Int) (m : Nat) (q : List Int) : List Int := tl256 (ou256 n l m q)
/-- What a call of Hmac owes: a key of n bytes, no longer than a block, in a block of z; a text of m. -/
def hmO256 (z n : Nat) (l : List Int) (m : Nat) (q : List Int) : List Bool :=
  [decide (n < 9223372036854775808), !decide ((n : Int) > 64), decide (0 + n ≤ z), decide (((l.drop 0).take n).length = n), decide (n ≤ 64), decide (0 + m ≤ m), all32 (kb256 54 n l).1, rng (kb256 54 n l), decide (m < 9223372036854775808), decide (0 + n ≤ z), decide (((l.drop 0).take n).length = n), decide (n ≤ 64),
    all32 (in256 n l m q).1, rng (in256 n l m q), all32 (kb256 92 n l).1, rng (kb256 92 n l), true, all32 (ou256 n l m q).1, rng (ou256 n l m q)]
def key2256 (n : Nat) (l : List Int) : List Int := (((l.drop 0).take n).drop 0).take n ++ List.replicate (wI 64 n) 0
theorem keys256_bufbuf (n m : Nat) (l q : List Int) : res ((funcA Tryd.prog qZm hHf 200 8 (cArgs 0 [.pl (.int false .i64 256), .buf true .u8 n l, .buf true .u8 m q]) (cMem [.pl (.int false .i64 256), .buf true .u8 n l, .buf true .u8 m q])).go [false, false]) =
    some ([decide (n < 9223372036854775808), decide (m < 9223372036854775808), !!decide (shI n m ≤ 2000)] ++ hmO256 n n l m q ++ [decide (n < 9223372036854775808), !decide ((n : Int) > 64), decide (0 + n ≤ n), decide (1 ≤ n) && decide (n ≤ 1000000000), decide (n < 9223372036854775808), decide (0 ≤ IntKind.i64.wrap (64 - (n : Int))) && decide (IntKind.i64.wrap (64 - (n : Int)) ≤ 1000000000), decide (0 + n ≤ ((l.drop 0).take n).length), decide (n + wI 64 n ≤ 1000000000)] ++ hmO256 (key2256 n l).length (n + wI 64 n) (key2256 n l) m q, .bool true (decide (code256 n l m q = code256 (n + wI 64 n) (key2256 n l) m q))) := by kernel_rfl
def kb384 (x : Int) (n : Nat) (l : List Int) : St3 := wrEnd384 (bgW384 (padR 128 n ((l.drop 0).take n)) x)
def in384 (n : Nat) (l : List Int) (m : Nat) (q : List Int) : St3 := wrEnd384 (wrI (kb384 54 n l).1 (kb384 54 n l).2.1 (kb384 54 n l).2.2 ((q.drop 0).take m) m)
def tl384 (s : St3) : List Int := toldL 48 8 (endW 64 80 128 s.1 s.2.1 s.2.2).1
def ou384 (n : Nat) (l : List Int) (m : Nat) (q : List Int) : St3 := wrEnd384 (wrI (kb384 92 n l).1 (kb384 92 n l).2.1 (kb384 92 n l).2.2 (tl384 (in384 n l m q)) 48)
def code384 (n : Nat) (l : List Int) (m : Nat) (q : List Int) : List Int := tl384 (ou384 n l m q)
/-- What a call of Hmac owes: a key of n bytes, no longer than a block, in a block of z; a text of m. -/
def hmO384 (z n : Nat) (l : List Int) (m : Nat) (q : List Int) : List Bool :=
  [decide (n < 9223372036854775808), !decide ((n : Int) > 128), decide (0 + n ≤ z), decide (((l.drop 0).take n).length = n), decide (n ≤ 128), decide (0 + m ≤ m), all64 (kb384 54 n l).1, rng (kb384 54 n l), decide (m < 9223372036854775808), decide (0 + n ≤ z), decide (((l.drop 0).take n).length = n), decide (n ≤ 128),
    all64 (in384 n l m q).1, rng (in384 n l m q), all64 (kb384 92 n l).1, rng (kb384 92 n l), true, all64 (ou384 n l m q).1, rng (ou384 n l m q)]
def key2384 (n : Nat) (l : List Int) : List Int := (((l.drop 0).take n).drop 0).take n ++ List.replicate (wI 128 n) 0
theorem keys384_bufbuf (n m : Nat) (l q : List Int) : res ((funcA Tryd.prog qZm hHf 200 8 (cArgs 0 [.pl (.int false .i64 384), .buf true .u8 n l, .buf true .u8 m q]) (cMem [.pl (.int false .i64 384), .buf true .u8 n l, .buf true .u8 m q])).go [false, false]) =
    some ([decide (n < 9223372036854775808), decide (m < 9223372036854775808), !!decide (shI n m ≤ 2000)] ++ hmO384 n n l m q ++ [decide (n < 9223372036854775808), !decide ((n : Int) > 128), decide (0 + n ≤ n), decide (1 ≤ n) && decide (n ≤ 1000000000), decide (n < 9223372036854775808), decide (0 ≤ IntKind.i64.wrap (128 - (n : Int))) && decide (IntKind.i64.wrap (128 - (n : Int)) ≤ 1000000000), decide (0 + n ≤ ((l.drop 0).take n).length), decide (n + wI 128 n ≤ 1000000000)] ++ hmO384 (key2384 n l).length (n + wI 128 n) (key2384 n l) m q, .bool true (decide (code384 n l m q = code384 (n + wI 128 n) (key2384 n l) m q))) := by kernel_rfl
def kb512 (x : Int) (n : Nat) (l : List Int) : St3 := wrEnd512 (bgW512 (padR 128 n ((l.drop 0).take n)) x)
def in512 (n : Nat) (l : List Int) (m : Nat) (q : List Int) : St3 := wrEnd512 (wrI (kb512 54 n l).1 (kb512 54 n l).2.1 (kb512 54 n l).2.2 ((q.drop 0).take m) m)
def tl512 (s : St3) : List Int := toldL 64 8 (endW 64 80 128 s.1 s.2.1 s.2.2).1
def ou512 (n : Nat) (l : List Int) (m : Nat) (q : List Int) : St3 := wrEnd512 (wrI (kb512 92 n l).1 (kb512 92 n l).2.1 (kb512 92 n l).2.2 (tl512 (in512 n l m q)) 64)
def code512 (n : Nat) (l : List Int) (m : Nat) (q : List Int) : List Int := tl512 (ou512 n l m q)
/-- What a call of Hmac owes: a key of n bytes, no longer than a block, in a block of z; a text of m. -/
def hmO512 (z n : Nat) (l : List Int) (m : Nat) (q : List Int) : List Bool :=
  [decide (n < 9223372036854775808), !decide ((n : Int) > 128), decide (0 + n ≤ z), decide (((l.drop 0).take n).length = n), decide (n ≤ 128), decide (0 + m ≤ m), all64 (kb512 54 n l).1, rng (kb512 54 n l), decide (m < 9223372036854775808), decide (0 + n ≤ z), decide (((l.drop 0).take n).length = n), decide (n ≤ 128),
    all64 (in512 n l m q).1, rng (in512 n l m q), all64 (kb512 92 n l).1, rng (kb512 92 n l), true, all64 (ou512 n l m q).1, rng (ou512 n l m q)]
def key2512 (n : Nat) (l : List Int) : List Int := (((l.drop 0).take n).drop 0).take n ++ List.replicate (wI 128 n) 0
theorem keys512_bufbuf (n m : Nat) (l q : List Int) : res ((funcA Tryd.prog qZm hHf 200 8 (cArgs 0 [.pl (.int false .i64 512), .buf true .u8 n l, .buf true .u8 m q]) (cMem [.pl (.int false .i64 512), .buf true .u8 n l, .buf true .u8 m q])).go [false, false]) =
    some ([decide (n < 9223372036854775808), decide (m < 9223372036854775808), !!decide (shI n m ≤ 2000)] ++ hmO512 n n l m q ++ [decide (n < 9223372036854775808), !decide ((n : Int) > 128), decide (0 + n ≤ n), decide (1 ≤ n) && decide (n ≤ 1000000000), decide (n < 9223372036854775808), decide (0 ≤ IntKind.i64.wrap (128 - (n : Int))) && decide (IntKind.i64.wrap (128 - (n : Int)) ≤ 1000000000), decide (0 + n ≤ ((l.drop 0).take n).length), decide (n + wI 128 n ≤ 1000000000)] ++ hmO512 (key2512 n l).length (n + wI 128 n) (key2512 n l) m q, .bool true (decide (code512 n l m q = code512 (n + wI 128 n) (key2512 n l) m q))) := by kernel_rfl
end Go.Proofs.YtljndahfackolaaDoor
namespace Go.Proofs.YtljndahfackolaaDoor
open Go.Ev Go.Sh
set_option maxRecDepth 100000
def Good (w : Nat) (s : St3) : Prop := s.1.length = 8 ∧ (∀ x ∈ s.1, Wd w x) ∧ 0 ≤ s.2.2 ∧ s.2.2 < 2 ^ 64
theorem Good.rng {w : Nat} {s : St3} (h : Good w s) : rng s = true := decide_eq_true ⟨h.2.2.1, by have := h.2.2.2; omega⟩
theorem take_all {l : List Int} {n : Nat} (h : l.length = n) : (l.drop 0).take n = l := by rw [List.drop_zero, List.take_of_length_le (by omega)]
theorem wI_eq {B n : Nat} (hb : n ≤ B) (hB : B ≤ 200) : wI B n = B - n := by unfold wI; rw [w64 (by omega)]; omega
theorem good256_wr {ws op l : List Int} {c : Int} {n : Nat} (h : Good 32 (ws, op, c)) : Good 32 (wrEnd256 (wrI ws op c l n)) := by
  have e : wrEnd256 (wrI ws op c l n) = stW 32 64 64 ws op c ((l.drop 0).take n) := rfl
  rw [e]
  exact stW_ok h.1 h.2.1 ⟨h.2.2.1, h.2.2.2⟩
theorem kb256_good (x : Int) (n : Nat) (l : List Int) : Good 32 (kb256 x n l) := good256_wr ⟨rfl, beg256_wd, by show (0 : Int) ≤ 0; omega, by show (0 : Int) < 2 ^ 64; omega⟩
theorem in256_good (n : Nat) (l : List Int) (m : Nat) (q : List Int) : Good 32 (in256 n l m q) := by
  have h := kb256_good 54 n l
  unfold in256
  revert h
  generalize kb256 54 n l = s
  intro h
  exact good256_wr ⟨h.1, h.2.1, h.2.2.1, h.2.2.2⟩
theorem ou256_good (n : Nat) (l : List Int) (m : Nat) (q : List Int) : Good 32 (ou256 n l m q) := by
  have h := kb256_good 92 n l
  unfold ou256
  revert h
  generalize kb256 92 n l = s
  generalize tl256 (in256 n l m q) = y
  intro h
  exact good256_wr ⟨h.1, h.2.1, h.2.2.1, h.2.2.2⟩
theorem hmO256_paid {z n m : Nat} {l q : List Int} (hl : l.length = n) (hb : n ≤ 64) (hz : n ≤ z) (hm : m < 9223372036854775808) : Paid (hmO256 z n l m q) := by
  have d1 : decide (n < 9223372036854775808) = true := decide_eq_true (by omega)
  have d2 : (!decide ((n : Int) > 64)) = true := by rw [decide_eq_false (by omega)]; rfl
  have d3 : decide (0 + n ≤ z) = true := decide_eq_true (by omega)
  have d4 : decide (((l.drop 0).take n).length = n) = true := decide_eq_true (by rw [take_all hl]; exact hl)
  have d5 : decide (n ≤ 64) = true := decide_eq_true hb
  have d6 : decide (0 + m ≤ m) = true := decide_eq_true (by omega)
  have d7 : decide (m < 9223372036854775808) = true := decide_eq_true hm
  have a := fun x => all32_of (kb256_good x n l).2.1
  have b := fun x => (kb256_good x n l).rng
  exact paid_cons d1 (paid_cons d2 (paid_cons d3 (paid_cons d4 (paid_cons d5 (paid_cons d6 (paid_cons (a _) (paid_cons (b _) (paid_cons d7 (paid_cons d3 (paid_cons d4 (paid_cons d5
    (paid_cons (all32_of (in256_good n l m q).2.1) (paid_cons (in256_good n l m q).rng (paid_cons (a _) (paid_cons (b _) (paid_cons rfl (paid_cons (all32_of (ou256_good n l m q).2.1) (paid_cons (ou256_good n l m q).rng Paid.nil))))))))))))))))))
theorem key2256_eq {n : Nat} {l : List Int} (hl : l.length = n) (hb : n ≤ 64) : key2256 n l = l ++ List.replicate (64 - n) 0 := by
  unfold key2256
  rw [take_all hl, take_all hl, wI_eq hb (by decide)]
theorem key2256_len {n : Nat} {l : List Int} (hl : l.length = n) (hb : n ≤ 64) : (key2256 n l).length = n + wI 64 n := by
  rw [key2256_eq hl hb, wI_eq hb (by decide), List.length_append, List.length_replicate]; omega
theorem key2256_kb {n : Nat} {l : List Int} (x : Int) (hl : l.length = n) (hb : n ≤ 64) : kb256 x n l = kb256 x (n + wI 64 n) (key2256 n l) := by
  have e : padR 64 n ((l.drop 0).take n) = padR 64 (n + wI 64 n) (((key2256 n l).drop 0).take (n + wI 64 n)) := by
    have h2 := key2256_len hl hb
    have hw : wI 64 n = 64 - n := wI_eq hb (by decide)
    rw [take_all hl, take_all h2, padR_eq hl hb, padR_eq h2 (by omega), key2256_eq hl hb, hw, show 64 - (n + (64 - n)) = 0 by omega]
    simp
  unfold kb256
  rw [e]
theorem key2256_code {n m : Nat} {l q : List Int} (hl : l.length = n) (hb : n ≤ 64) : code256 n l m q = code256 (n + wI 64 n) (key2256 n l) m q := by
  unfold code256 ou256 in256
  rw [key2256_kb 54 hl hb, key2256_kb 92 hl hb]
theorem good384_wr {ws op l : List Int} {c : Int} {n : Nat} (h : Good 64 (ws, op, c)) : Good 64 (wrEnd384 (wrI ws op c l n)) := by
  have e : wrEnd384 (wrI ws op c l n) = stW 64 80 128 ws op c ((l.drop 0).take n) := rfl
  rw [e]
  exact stW_ok h.1 h.2.1 ⟨h.2.2.1, h.2.2.2⟩
theorem kb384_good (x : Int) (n : Nat) (l : List Int) : Good 64 (kb384 x n l) := good384_wr ⟨rfl, beg384_wd, by show (0 : Int) ≤ 0; omega, by show (0 : Int) < 2 ^ 64; omega⟩
theorem in384_good (n : Nat) (l : List Int) (m : Nat) (q : List Int) : Good 64 (in384 n l m q) := by
  have h := kb384_good 54 n l
  unfold in384
  revert h
  generalize kb384 54 n l = s
  intro h
  exact good384_wr ⟨h.1, h.2.1, h.2.2.1, h.2.2.2⟩
theorem ou384_good (n : Nat) (l : List Int) (m : Nat) (q : List Int) : Good 64 (ou384 n l m q) := by
  have h := kb384_good 92 n l
  unfold ou384
  revert h
  generalize kb384 92 n l = s
  generalize tl384 (in384 n l m q) = y
  intro h
  exact good384_wr ⟨h.1, h.2.1, h.2.2.1, h.2.2.2⟩
theorem hmO384_paid {z n m : Nat} {l q : List Int} (hl : l.length = n) (hb : n ≤ 128) (hz : n ≤ z) (hm : m < 9223372036854775808) : Paid (hmO384 z n l m q) := by
  have d1 : decide (n < 9223372036854775808) = true := decide_eq_true (by omega)
  have d2 : (!decide ((n : Int) > 128)) = true := by rw [decide_eq_false (by omega)]; rfl
  have d3 : decide (0 + n ≤ z) = true := decide_eq_true (by omega)
  have d4 : decide (((l.drop 0).take n).length = n) = true := decide_eq_true (by rw [take_all hl]; exact hl)
  have d5 : decide (n ≤ 128) = true := decide_eq_true hb
  have d6 : decide (0 + m ≤ m) = true := decide_eq_true (by omega)
  have d7 : decide (m < 9223372036854775808) = true := decide_eq_true hm
  have a := fun x => all64_of (kb384_good x n l).2.1
  have b := fun x => (kb384_good x n l).rng
  exact paid_cons d1 (paid_cons d2 (paid_cons d3 (paid_cons d4 (paid_cons d5 (paid_cons d6 (paid_cons (a _) (paid_cons (b _) (paid_cons d7 (paid_cons d3 (paid_cons d4 (paid_cons d5
    (paid_cons (all64_of (in384_good n l m q).2.1) (paid_cons (in384_good n l m q).rng (paid_cons (a _) (paid_cons (b _) (paid_cons rfl (paid_cons (all64_of (ou384_good n l m q).2.1) (paid_cons (ou384_good n l m q).rng Paid.nil))))))))))))))))))
theorem key2384_eq {n : Nat} {l : List Int} (hl : l.length = n) (hb : n ≤ 128) : key2384 n l = l ++ List.replicate (128 - n) 0 := by
  unfold key2384
  rw [take_all hl, take_all hl, wI_eq hb (by decide)]
theorem key2384_len {n : Nat} {l : List Int} (hl : l.length = n) (hb : n ≤ 128) : (key2384 n l).length = n + wI 128 n := by
  rw [key2384_eq hl hb, wI_eq hb (by decide), List.length_append, List.length_replicate]; omega
theorem key2384_kb {n : Nat} {l : List Int} (x : Int) (hl : l.length = n) (hb : n ≤ 128) : kb384 x n l = kb384 x (n + wI 128 n) (key2384 n l) := by
  have e : padR 128 n ((l.drop 0).take n) = padR 128 (n + wI 128 n) (((key2384 n l).drop 0).take (n + wI 128 n)) := by
    have h2 := key2384_len hl hb
    have hw : wI 128 n = 128 - n := wI_eq hb (by decide)
    rw [take_all hl, take_all h2, padR_eq hl hb, padR_eq h2 (by omega), key2384_eq hl hb, hw, show 128 - (n + (128 - n)) = 0 by omega]
    simp
  unfold kb384
  rw [e]
theorem key2384_code {n m : Nat} {l q : List Int} (hl : l.length = n) (hb : n ≤ 128) : code384 n l m q = code384 (n + wI 128 n) (key2384 n l) m q := by
  unfold code384 ou384 in384
  rw [key2384_kb 54 hl hb, key2384_kb 92 hl hb]
theorem good512_wr {ws op l : List Int} {c : Int} {n : Nat} (h : Good 64 (ws, op, c)) : Good 64 (wrEnd512 (wrI ws op c l n)) := by
  have e : wrEnd512 (wrI ws op c l n) = stW 64 80 128 ws op c ((l.drop 0).take n) := rfl
  rw [e]
  exact stW_ok h.1 h.2.1 ⟨h.2.2.1, h.2.2.2⟩
theorem kb512_good (x : Int) (n : Nat) (l : List Int) : Good 64 (kb512 x n l) := good512_wr ⟨rfl, beg512_wd, by show (0 : Int) ≤ 0; omega, by show (0 : Int) < 2 ^ 64; omega⟩
theorem in512_good (n : Nat) (l : List Int) (m : Nat) (q : List Int) : Good 64 (in512 n l m q) := by
  have h := kb512_good 54 n l
  unfold in512
  revert h
  generalize kb512 54 n l = s
  intro h
  exact good512_wr ⟨h.1, h.2.1, h.2.2.1, h.2.2.2⟩
theorem ou512_good (n : Nat) (l : List Int) (m : Nat) (q : List Int) : Good 64 (ou512 n l m q) := by
  have h := kb512_good 92 n l
  unfold ou512
  revert h
  generalize kb512 92 n l = s
  generalize tl512 (in512 n l m q) = y
  intro h
  exact good512_wr ⟨h.1, h.2.1, h.2.2.1, h.2.2.2⟩
theorem hmO512_paid {z n m : Nat} {l q : List Int} (hl : l.length = n) (hb : n ≤ 128) (hz : n ≤ z) (hm : m < 9223372036854775808) : Paid (hmO512 z n l m q) := by
  have d1 : decide (n < 9223372036854775808) = true := decide_eq_true (by omega)
  have d2 : (!decide ((n : Int) > 128)) = true := by rw [decide_eq_false (by omega)]; rfl
  have d3 : decide (0 + n ≤ z) = true := decide_eq_true (by omega)
  have d4 : decide (((l.drop 0).take n).length = n) = true := decide_eq_true (by rw [take_all hl]; exact hl)
  have d5 : decide (n ≤ 128) = true := decide_eq_true hb
  have d6 : decide (0 + m ≤ m) = true := decide_eq_true (by omega)
  have d7 : decide (m < 9223372036854775808) = true := decide_eq_true hm
  have a := fun x => all64_of (kb512_good x n l).2.1
  have b := fun x => (kb512_good x n l).rng
  exact paid_cons d1 (paid_cons d2 (paid_cons d3 (paid_cons d4 (paid_cons d5 (paid_cons d6 (paid_cons (a _) (paid_cons (b _) (paid_cons d7 (paid_cons d3 (paid_cons d4 (paid_cons d5
    (paid_cons (all64_of (in512_good n l m q).2.1) (paid_cons (in512_good n l m q).rng (paid_cons (a _) (paid_cons (b _) (paid_cons rfl (paid_cons (all64_of (ou512_good n l m q).2.1) (paid_cons (ou512_good n l m q).rng Paid.nil))))))))))))))))))
theorem key2512_eq {n : Nat} {l : List Int} (hl : l.length = n) (hb : n ≤ 128) : key2512 n l = l ++ List.replicate (128 - n) 0 := by
  unfold key2512
  rw [take_all hl, take_all hl, wI_eq hb (by decide)]
theorem key2512_len {n : Nat} {l : List Int} (hl : l.length = n) (hb : n ≤ 128) : (key2512 n l).length = n + wI 128 n := by
  rw [key2512_eq hl hb, wI_eq hb (by decide), List.length_append, List.length_replicate]; omega
theorem key2512_kb {n : Nat} {l : List Int} (x : Int) (hl : l.length = n) (hb : n ≤ 128) : kb512 x n l = kb512 x (n + wI 128 n) (key2512 n l) := by
  have e : padR 128 n ((l.drop 0).take n) = padR 128 (n + wI 128 n) (((key2512 n l).drop 0).take (n + wI 128 n)) := by
    have h2 := key2512_len hl hb
    have hw : wI 128 n = 128 - n := wI_eq hb (by decide)
    rw [take_all hl, take_all h2, padR_eq hl hb, padR_eq h2 (by omega), key2512_eq hl hb, hw, show 128 - (n + (128 - n)) = 0 by omega]
    simp
  unfold kb512
  rw [e]
theorem key2512_code {n m : Nat} {l q : List Int} (hl : l.length = n) (hb : n ≤ 128) : code512 n l m q = code512 (n + wI 128 n) (key2512 n l) m q := by
  unfold code512 ou512 in512
  rw [key2512_kb 54 hl hb, key2512_kb 92 hl hb]
end Go.Proofs.YtljndahfackolaaDoor
