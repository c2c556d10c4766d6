/- The anchor of layer 7. Own work. -/
import Derived.Test.YtfmgodgakndjcaaQChW
set_option linter.unusedSimpArgs false
set_option linter.unusedVariables false
set_option linter.unusedSectionVars false
namespace Go.Proofs.Ytfmgodgakndjcaa
open Go.Ev Go.Sh Go.Ch
set_option maxRecDepth 100000
def csS : List AV → E AV
  | [] => some ([], .bool false true)
  | _ => none
theorem csound_eval : resAll (funcA Try.prog qD (deep Try.prog qD hoY 100 5) 100 17 [] []) = some (true, .bool true true) := by kernel_rfl
theorem csound_ok {args : List AV} {o : List Bool} {v : AV} (h : csS args = some (o, v)) : PureCall Try.prog 17 args v := by
  unfold csS at h
  split at h
  · cases h
    exact pure_of_all mixed noCount (hoY_ok.deep mixed noCount 100 5) (by kernel_rfl) csound_eval unmark
  · cases h
def hcs : CallH := withC 17 csS hq7
theorem hcs_ok : HOk Try.prog hcs := hq7_ok.withC fun _ _ _ h _ => csound_ok h
end Go.Proofs.Ytfmgodgakndjcaa
namespace Go.Ch
open Go.Ev Go.Sh
def wdR (l : List Int) : Int := IntKind.u64.wrap (IntKind.u64.wrap (IntKind.u64.wrap (IntKind.u64.wrap (l.getD 0 0) + ishl .u64 (IntKind.u64.wrap (l.getD 1 0)) 8) + ishl .u64 (IntKind.u64.wrap (l.getD 2 0)) 16) + ishl .u64 (IntKind.u64.wrap (l.getD 3 0)) 24)
theorem wdR_eq {l : List Int} (h : ∀ x ∈ l, B8 x) : wdR l = leW l := by
  have h0 := get_b8 h 0
  have h1 := get_b8 h 1
  have h2 := get_b8 h 2
  have h3 := get_b8 h 3
  unfold wdR leW
  unfold B8 at h0 h1 h2 h3
  generalize l.getD 0 0 = a at *
  generalize l.getD 1 0 = b at *
  generalize l.getD 2 0 = c at *
  generalize l.getD 3 0 = d at *
  rw [Go.Wn.uw64 (y := a) (by omega), Go.Wn.uw64 (y := b) (by omega), Go.Wn.uw64 (y := c) (by omega), Go.Wn.uw64 (y := d) (by omega), show ishl .u64 b 8 = b * 2 ^ 8 % 2 ^ 64 from sl64 8 (by decide), show ishl .u64 c 16 = c * 2 ^ 16 % 2 ^ 64 from sl64 16 (by decide), show ishl .u64 d 24 = d * 2 ^ 24 % 2 ^ 64 from sl64 24 (by decide)]
  rw [show b * 2 ^ 8 % 2 ^ 64 = b * 256 by omega, show c * 2 ^ 16 % 2 ^ 64 = c * 65536 by omega, show d * 2 ^ 24 % 2 ^ 64 = d * 16777216 by omega, Go.Wn.uw64 (y := a + b * 256) (by omega), Go.Wn.uw64 (y := a + b * 256 + c * 65536) (by omega), Go.Wn.uw64 (by omega)]
  omega
/-- A quarter, as the reference reckons it. -/
def rqs (l : List Int) (i j k m : Nat) : List Int :=
  (((l.set i (rqa (l.getD i 0) (l.getD j 0) (l.getD k 0) (l.getD m 0))).set j (rqb (l.getD i 0) (l.getD j 0) (l.getD k 0) (l.getD m 0))).set k (rqc (l.getD i 0) (l.getD j 0) (l.getD k 0) (l.getD m 0))).set m (rqd (l.getD i 0) (l.getD j 0) (l.getD k 0) (l.getD m 0))
theorem rqs_eq {l : List Int} (h : W32 l) (i j k m : Nat) : rqs l i j k m = qs l i j k m := by
  obtain ⟨e1, e2, e3, e4⟩ := rq_eq (h.get i) (h.get j) (h.get k) (h.get m)
  unfold rqs qs
  rw [e1, e2, e3, e4]
def rcol (l : List Int) : List Int := rqs (rqs (rqs (rqs l 0 4 8 12) 1 5 9 13) 2 6 10 14) 3 7 11 15
def rslp (l : List Int) : List Int := rqs (rqs (rqs (rqs l 0 5 10 15) 1 6 11 12) 2 7 8 13) 3 4 9 14
theorem rcol_eq {l : List Int} (h : W32 l) : rcol l = colL l := by
  have h1 := qs_wd h 0 4 8 12
  have h2 := qs_wd h1 1 5 9 13
  have h3 := qs_wd h2 2 6 10 14
  unfold rcol colL
  rw [rqs_eq h, rqs_eq h1, rqs_eq h2, rqs_eq h3]
theorem rslp_eq {l : List Int} (h : W32 l) : rslp l = slpL l := by
  have h1 := qs_wd h 0 5 10 15
  have h2 := qs_wd h1 1 6 11 12
  have h3 := qs_wd h2 2 7 8 13
  unfold rslp slpL
  rw [rqs_eq h, rqs_eq h1, rqs_eq h2, rqs_eq h3]
def fcol (f : List Int → Nat → Nat → Nat → Nat → List Int) (l : List Int) : List Int := f (f (f (f l 0 4 8 12) 1 5 9 13) 2 6 10 14) 3 7 11 15
def fslp (f : List Int → Nat → Nat → Nat → Nat → List Int) (l : List Int) : List Int := f (f (f (f l 0 5 10 15) 1 6 11 12) 2 7 8 13) 3 4 9 14
def frnd (f : List Int → Nat → Nat → Nat → Nat → List Int) (l : List Int) : Nat → List Int
  | 0 => l
  | n + 1 => fslp f (fcol f (frnd f l n))
theorem frnd_eq {l : List Int} (h : W32 l) : ∀ n, frnd rqs l n = rnd l n
  | 0 => rfl
  | n + 1 => by
    have h1 := rnd_wd h n
    unfold frnd rnd
    rw [frnd_eq h n]
    show rslp (rcol (rnd l n)) = _
    rw [rcol_eq h1, rslp_eq (colL_wd h1)]
def elR (z : Int) (n : Nat) : Int := match n % 4 with
  | 0 => IntKind.u8.wrap z
  | 1 => IntKind.u8.wrap (ishr .u64 z 8)
  | 2 => IntKind.u8.wrap (ishr .u64 z 16)
  | _ => IntKind.u8.wrap (ishr .u64 z 24)
def outR (s t : List Int) : List Int := (List.range 64).map fun n => elR (IntKind.u64.wrap (s.getD (n / 4) 0 + t.getD (n / 4) 0)) n
theorem outR_eq {s t : List Int} (hs : W32 s) (ht : W32 t) : outR s t = outB s t := List.map_congr_left fun n _ => by
  have h1 := hs.get (n / 4)
  have h2 := ht.get (n / 4)
  unfold Wd at h1 h2
  rw [Go.Wn.uw64 (by omega)]
  generalize s.getD (n / 4) 0 + t.getD (n / 4) 0 = z
  have h : n % 4 = 0 ∨ n % 4 = 1 ∨ n % 4 = 2 ∨ n % 4 = 3 := by omega
  unfold elR
  rcases h with h | h | h | h <;> rw [h] <;> simp only
  · rw [wrap_u (k := .u8) rfl]; simp [IntKind.bits]
  · rw [show ishr .u64 z 8 = z / 2 ^ 8 from sd64 8 (by decide), wrap_u (k := .u8) rfl]; rfl
  · rw [show ishr .u64 z 16 = z / 2 ^ 16 from sd64 16 (by decide), wrap_u (k := .u8) rfl]; rfl
  · rw [show ishr .u64 z 24 = z / 2 ^ 24 from sd64 24 (by decide), wrap_u (k := .u8) rfl]; rfl
def tkW (l : List Int) (n : Nat) : Nat → Int
  | 0 => leW l
  | i + 1 => leW ((l.drop (4 * (i + 1))).take (n - 4 * (i + 1)))
def iniR (k l : List Int) (c : Int) : List Int := [leW ([101, 120, 112, 97, 110, 100, 32, 51, 50, 45, 98, 121, 116, 101, 32, 107].drop 0), leW ([101, 120, 112, 97, 110, 100, 32, 51, 50, 45, 98, 121, 116, 101, 32, 107].drop 4), leW ([101, 120, 112, 97, 110, 100, 32, 51, 50, 45, 98, 121, 116, 101, 32, 107].drop 8), leW ([101, 120, 112, 97, 110, 100, 32, 51, 50, 45, 98, 121, 116, 101, 32, 107].drop 12)] ++
  ((List.range 8).map (tkW k 32)) ++ [IntKind.u64.wrap c] ++ (List.range 3).map (tkW l 12)
theorem leW_take (l : List Int) {n : Nat} (h : 4 ≤ n) : leW (l.take n) = leW l := by
  have g : ∀ i, i < 4 → (l.take n).getD i 0 = l.getD i 0 := fun i hi => by
    rw [List.getD, List.getD, List.getElem?_take_of_lt (by omega)]
  unfold leW
  rw [g 0 (by omega), g 1 (by omega), g 2 (by omega), g 3 (by omega)]
theorem iniR_eq (k l : List Int) {c : Int} (h : Wd 32 c) : iniR k l c = (ini k l).set 12 c := by
  unfold Wd at h
  have hc : IntKind.u64.wrap c = c := Go.Wn.uw64 (by omega)
  have g : ∀ (l : List Int) (n i : Nat), 4 * i + 4 ≤ n → tkW l n i = leW (l.drop (4 * i)) := fun l n i h => by
    cases i with
    | zero => rw [Nat.mul_zero, List.drop_zero]; rfl
    | succ i => exact leW_take _ (by omega)
  have e1 : (List.range 8).map (tkW k 32) = (List.range 8).map fun i => leW (k.drop (4 * i)) := List.map_congr_left fun i hi => g k 32 i (by have := List.mem_range.1 hi; omega)
  have e2 : (List.range 3).map (tkW l 12) = (List.range 3).map fun i => leW (l.drop (4 * i)) := List.map_congr_left fun i hi => g l 12 i (by have := List.mem_range.1 hi; omega)
  unfold iniR ini
  rw [hc, e1, e2]
  rfl
end Go.Ch
namespace Go.Proofs.Ytfmgodgakndjcaa
open Go.Ev Go.Sh Go.Ch
set_option maxRecDepth 100000
def wrS : List V → E (AV × Mem)
  | [.buf _ .u8 n l] => match decide (4 ≤ n) with
    | true => some ([], (.int true .u64 (leW l), []))
    | false => none
  | _ => none
theorem wr_eval (n : Nat) (l : List Int) : res (funcA Try.prog qD (deep Try.prog qD hcs 100 3) 100 74 (cArgs 0 [.buf true .u8 n l]) (cMem [.buf true .u8 n l])) =
    some ([decide ((0 : Int) ≤ 0) && decide ((0 : Int) < (n : Int)), decide (0 + (0 : Int).toNat * 1 + 1 ≤ n), decide ((0 : Int) ≤ 1) && decide ((1 : Int) < (n : Int)), decide (0 + (1 : Int).toNat * 1 + 1 ≤ n), decide ((0 : Int) ≤ 2) && decide ((2 : Int) < (n : Int)), decide (0 + (2 : Int).toNat * 1 + 1 ≤ n), decide ((0 : Int) ≤ 3) && decide ((3 : Int) < (n : Int)), decide (0 + (3 : Int).toNat * 1 + 1 ≤ n)], .int true .u64 (wdR l)) := by kernel_rfl
theorem wr_ok {xs : List V} {o : List Bool} {v : AV} {bs : Mem} (h : wrS xs = some (o, (v, bs))) : ViewCall Try.prog 74 xs v bs := by
  unfold wrS at h
  split at h
  case h_2 => cases h
  rename_i s n l
  split at h
  case h_2 => cases h
  rename_i h4
  have h4' := of_decide_eq_true h4
  cases h
  intro ρ vs w ha hi
  obtain ⟨_, r1⟩ := buf_arg hi 0 rfl
  have ha2 : Reps ρ (upto 1) (cArgs 0 [.buf true .u8 n l]) vs := by
    cases ha with | cons _ _ u us a0 hs => exact .cons _ _ _ _ (markedS a0) hs
  have two : ∀ i : Nat, i < 4 → (decide ((0 : Int) ≤ (i : Int)) && decide ((i : Int) < (n : Int))) = true := fun i hi => by rw [decide_eq_true (by omega), decide_eq_true (by omega)]; rfl
  have one : ∀ i : Nat, i < 4 → decide (0 + (i : Int).toNat * 1 + 1 ≤ n) = true := fun i hi => decide_eq_true (by omega)
  exact view_of_res mixed noCount (hcs_ok.deep mixed noCount 100 3) (wr_eval n l) (paid_cons (two 0 (by omega)) (paid_cons (one 0 (by omega)) (paid_cons (two 1 (by omega)) (paid_cons (one 1 (by omega)) (paid_cons (two 2 (by omega)) (paid_cons (one 2 (by omega)) (paid_cons (two 3 (by omega)) (paid_cons (one 3 (by omega)) Paid.nil)))))))) (by rw [wdR_eq fun x hx => inR_b8 (r1 x hx)]) rfl ha2 hi
def hy1 : CallH := withV 74 wrS hcs
theorem hy1_ok : HOk Try.prog hy1 := hcs_ok.withV fun _ _ _ _ h _ => wr_ok h
-- quarter
def rqSf (f : List Int → Nat → Nat → Nat → Nat → List Int) : List AV → E AV
  | [.ints .u64 16 l, .int false .i64 a, .int false .i64 b, .int false .i64 c, .int false .i64 d] => match ([(0, 4, 8, 12), (1, 5, 9, 13), (2, 6, 10, 14), (3, 7, 11, 15), (0, 5, 10, 15), (1, 6, 11, 12), (2, 7, 8, 13), (3, 4, 9, 14)] : List (Int × Int × Int × Int)).contains (a, b, c, d) with
    | true => some ([], .ints .u64 16 (f l a.toNat b.toNat c.toNat d.toNat))
    | false => none
  | _ => none
theorem rq_eval0 (x0 x1 x2 x3 x4 x5 x6 x7 x8 x9 x10 x11 x12 x13 x14 x15 : Int) : res (funcA Try.prog qD (deep Try.prog qD hy1 100 3) 100 75 [.ints .u64 16 [x0, x1, x2, x3, x4, x5, x6, x7, x8, x9, x10, x11, x12, x13, x14, x15], .int false .i64 0, .int false .i64 4, .int false .i64 8, .int false .i64 12] []) = some ([true, true, true, true, true, true, true, true], .ints .u64 16 [rqa x0 x4 x8 x12, x1, x2, x3, rqb x0 x4 x8 x12, x5, x6, x7, rqc x0 x4 x8 x12, x9, x10, x11, rqd x0 x4 x8 x12, x13, x14, x15]) := by kernel_rfl
theorem rq_lit0 (x0 x1 x2 x3 x4 x5 x6 x7 x8 x9 x10 x11 x12 x13 x14 x15 : Int) : rqs [x0, x1, x2, x3, x4, x5, x6, x7, x8, x9, x10, x11, x12, x13, x14, x15] 0 4 8 12 = [rqa x0 x4 x8 x12, x1, x2, x3, rqb x0 x4 x8 x12, x5, x6, x7, rqc x0 x4 x8 x12, x9, x10, x11, rqd x0 x4 x8 x12, x13, x14, x15] := by kernel_rfl
theorem rq_eval1 (x0 x1 x2 x3 x4 x5 x6 x7 x8 x9 x10 x11 x12 x13 x14 x15 : Int) : res (funcA Try.prog qD (deep Try.prog qD hy1 100 3) 100 75 [.ints .u64 16 [x0, x1, x2, x3, x4, x5, x6, x7, x8, x9, x10, x11, x12, x13, x14, x15], .int false .i64 1, .int false .i64 5, .int false .i64 9, .int false .i64 13] []) = some ([true, true, true, true, true, true, true, true], .ints .u64 16 [x0, rqa x1 x5 x9 x13, x2, x3, x4, rqb x1 x5 x9 x13, x6, x7, x8, rqc x1 x5 x9 x13, x10, x11, x12, rqd x1 x5 x9 x13, x14, x15]) := by kernel_rfl
theorem rq_lit1 (x0 x1 x2 x3 x4 x5 x6 x7 x8 x9 x10 x11 x12 x13 x14 x15 : Int) : rqs [x0, x1, x2, x3, x4, x5, x6, x7, x8, x9, x10, x11, x12, x13, x14, x15] 1 5 9 13 = [x0, rqa x1 x5 x9 x13, x2, x3, x4, rqb x1 x5 x9 x13, x6, x7, x8, rqc x1 x5 x9 x13, x10, x11, x12, rqd x1 x5 x9 x13, x14, x15] := by kernel_rfl
theorem rq_eval2 (x0 x1 x2 x3 x4 x5 x6 x7 x8 x9 x10 x11 x12 x13 x14 x15 : Int) : res (funcA Try.prog qD (deep Try.prog qD hy1 100 3) 100 75 [.ints .u64 16 [x0, x1, x2, x3, x4, x5, x6, x7, x8, x9, x10, x11, x12, x13, x14, x15], .int false .i64 2, .int false .i64 6, .int false .i64 10, .int false .i64 14] []) = some ([true, true, true, true, true, true, true, true], .ints .u64 16 [x0, x1, rqa x2 x6 x10 x14, x3, x4, x5, rqb x2 x6 x10 x14, x7, x8, x9, rqc x2 x6 x10 x14, x11, x12, x13, rqd x2 x6 x10 x14, x15]) := by kernel_rfl
theorem rq_lit2 (x0 x1 x2 x3 x4 x5 x6 x7 x8 x9 x10 x11 x12 x13 x14 x15 : Int) : rqs [x0, x1, x2, x3, x4, x5, x6, x7, x8, x9, x10, x11, x12, x13, x14, x15] 2 6 10 14 = [x0, x1, rqa x2 x6 x10 x14, x3, x4, x5, rqb x2 x6 x10 x14, x7, x8, x9, rqc x2 x6 x10 x14, x11, x12, x13, rqd x2 x6 x10 x14, x15] := by kernel_rfl
theorem rq_eval3 (x0 x1 x2 x3 x4 x5 x6 x7 x8 x9 x10 x11 x12 x13 x14 x15 : Int) : res (funcA Try.prog qD (deep Try.prog qD hy1 100 3) 100 75 [.ints .u64 16 [x0, x1, x2, x3, x4, x5, x6, x7, x8, x9, x10, x11, x12, x13, x14, x15], .int false .i64 3, .int false .i64 7, .int false .i64 11, .int false .i64 15] []) = some ([true, true, true, true, true, true, true, true], .ints .u64 16 [x0, x1, x2, rqa x3 x7 x11 x15, x4, x5, x6, rqb x3 x7 x11 x15, x8, x9, x10, rqc x3 x7 x11 x15, x12, x13, x14, rqd x3 x7 x11 x15]) := by kernel_rfl
theorem rq_lit3 (x0 x1 x2 x3 x4 x5 x6 x7 x8 x9 x10 x11 x12 x13 x14 x15 : Int) : rqs [x0, x1, x2, x3, x4, x5, x6, x7, x8, x9, x10, x11, x12, x13, x14, x15] 3 7 11 15 = [x0, x1, x2, rqa x3 x7 x11 x15, x4, x5, x6, rqb x3 x7 x11 x15, x8, x9, x10, rqc x3 x7 x11 x15, x12, x13, x14, rqd x3 x7 x11 x15] := by kernel_rfl
theorem rq_eval4 (x0 x1 x2 x3 x4 x5 x6 x7 x8 x9 x10 x11 x12 x13 x14 x15 : Int) : res (funcA Try.prog qD (deep Try.prog qD hy1 100 3) 100 75 [.ints .u64 16 [x0, x1, x2, x3, x4, x5, x6, x7, x8, x9, x10, x11, x12, x13, x14, x15], .int false .i64 0, .int false .i64 5, .int false .i64 10, .int false .i64 15] []) = some ([true, true, true, true, true, true, true, true], .ints .u64 16 [rqa x0 x5 x10 x15, x1, x2, x3, x4, rqb x0 x5 x10 x15, x6, x7, x8, x9, rqc x0 x5 x10 x15, x11, x12, x13, x14, rqd x0 x5 x10 x15]) := by kernel_rfl
theorem rq_lit4 (x0 x1 x2 x3 x4 x5 x6 x7 x8 x9 x10 x11 x12 x13 x14 x15 : Int) : rqs [x0, x1, x2, x3, x4, x5, x6, x7, x8, x9, x10, x11, x12, x13, x14, x15] 0 5 10 15 = [rqa x0 x5 x10 x15, x1, x2, x3, x4, rqb x0 x5 x10 x15, x6, x7, x8, x9, rqc x0 x5 x10 x15, x11, x12, x13, x14, rqd x0 x5 x10 x15] := by kernel_rfl
theorem rq_eval5 (x0 x1 x2 x3 x4 x5 x6 x7 x8 x9 x10 x11 x12 x13 x14 x15 : Int) : res (funcA Try.prog qD (deep Try.prog qD hy1 100 3) 100 75 [.ints .u64 16 [x0, x1, x2, x3, x4, x5, x6, x7, x8, x9, x10, x11, x12, x13, x14, x15], .int false .i64 1, .int false .i64 6, .int false .i64 11, .int false .i64 12] []) = some ([true, true, true, true, true, true, true, true], .ints .u64 16 [x0, rqa x1 x6 x11 x12, x2, x3, x4, x5, rqb x1 x6 x11 x12, x7, x8, x9, x10, rqc x1 x6 x11 x12, rqd x1 x6 x11 x12, x13, x14, x15]) := by kernel_rfl
theorem rq_lit5 (x0 x1 x2 x3 x4 x5 x6 x7 x8 x9 x10 x11 x12 x13 x14 x15 : Int) : rqs [x0, x1, x2, x3, x4, x5, x6, x7, x8, x9, x10, x11, x12, x13, x14, x15] 1 6 11 12 = [x0, rqa x1 x6 x11 x12, x2, x3, x4, x5, rqb x1 x6 x11 x12, x7, x8, x9, x10, rqc x1 x6 x11 x12, rqd x1 x6 x11 x12, x13, x14, x15] := by kernel_rfl
theorem rq_eval6 (x0 x1 x2 x3 x4 x5 x6 x7 x8 x9 x10 x11 x12 x13 x14 x15 : Int) : res (funcA Try.prog qD (deep Try.prog qD hy1 100 3) 100 75 [.ints .u64 16 [x0, x1, x2, x3, x4, x5, x6, x7, x8, x9, x10, x11, x12, x13, x14, x15], .int false .i64 2, .int false .i64 7, .int false .i64 8, .int false .i64 13] []) = some ([true, true, true, true, true, true, true, true], .ints .u64 16 [x0, x1, rqa x2 x7 x8 x13, x3, x4, x5, x6, rqb x2 x7 x8 x13, rqc x2 x7 x8 x13, x9, x10, x11, x12, rqd x2 x7 x8 x13, x14, x15]) := by kernel_rfl
theorem rq_lit6 (x0 x1 x2 x3 x4 x5 x6 x7 x8 x9 x10 x11 x12 x13 x14 x15 : Int) : rqs [x0, x1, x2, x3, x4, x5, x6, x7, x8, x9, x10, x11, x12, x13, x14, x15] 2 7 8 13 = [x0, x1, rqa x2 x7 x8 x13, x3, x4, x5, x6, rqb x2 x7 x8 x13, rqc x2 x7 x8 x13, x9, x10, x11, x12, rqd x2 x7 x8 x13, x14, x15] := by kernel_rfl
theorem rq_eval7 (x0 x1 x2 x3 x4 x5 x6 x7 x8 x9 x10 x11 x12 x13 x14 x15 : Int) : res (funcA Try.prog qD (deep Try.prog qD hy1 100 3) 100 75 [.ints .u64 16 [x0, x1, x2, x3, x4, x5, x6, x7, x8, x9, x10, x11, x12, x13, x14, x15], .int false .i64 3, .int false .i64 4, .int false .i64 9, .int false .i64 14] []) = some ([true, true, true, true, true, true, true, true], .ints .u64 16 [x0, x1, x2, rqa x3 x4 x9 x14, rqb x3 x4 x9 x14, x5, x6, x7, x8, rqc x3 x4 x9 x14, x10, x11, x12, x13, rqd x3 x4 x9 x14, x15]) := by kernel_rfl
theorem rq_lit7 (x0 x1 x2 x3 x4 x5 x6 x7 x8 x9 x10 x11 x12 x13 x14 x15 : Int) : rqs [x0, x1, x2, x3, x4, x5, x6, x7, x8, x9, x10, x11, x12, x13, x14, x15] 3 4 9 14 = [x0, x1, x2, rqa x3 x4 x9 x14, rqb x3 x4 x9 x14, x5, x6, x7, x8, rqc x3 x4 x9 x14, x10, x11, x12, x13, rqd x3 x4 x9 x14, x15] := by kernel_rfl
theorem pure_len16 {g : FuncId} {l : List Int} {rest : List AV} {v : AV} (h : l.length = 16 → PureCall Try.prog g (.ints .u64 16 l :: rest) v) : PureCall Try.prog g (.ints .u64 16 l :: rest) v := by
  intro ρ N vs ha
  have hl : l.length = 16 := by cases ha with | cons _ _ _ _ r1 hb => cases r1 with | ints _ _ _ hn _ => exact hn
  exact h hl ha
theorem rqS_ok {args : List AV} {o : List Bool} {v : AV} (h : rqSf rqs args = some (o, v)) : PureCall Try.prog 75 args v := by
  unfold rqSf at h
  split at h
  case h_2 => cases h
  rename_i l a b c d
  split at h
  case h_2 => cases h
  rename_i hc
  have hm := List.contains_iff_mem.1 hc
  cases h
  refine @pure_len16 _ _ _ _ fun hl => ?_
  obtain ⟨x0, x1, x2, x3, x4, x5, x6, x7, x8, x9, x10, x11, x12, x13, x14, x15, rfl⟩ := len16 hl
  simp only [List.mem_cons, Prod.mk.injEq, List.not_mem_nil, or_false] at hm
  rcases hm with ⟨rfl, rfl, rfl, rfl⟩ | ⟨rfl, rfl, rfl, rfl⟩ | ⟨rfl, rfl, rfl, rfl⟩ | ⟨rfl, rfl, rfl, rfl⟩ | ⟨rfl, rfl, rfl, rfl⟩ | ⟨rfl, rfl, rfl, rfl⟩ | ⟨rfl, rfl, rfl, rfl⟩ | ⟨rfl, rfl, rfl, rfl⟩
  · show PureCall Try.prog 75 [.ints .u64 16 [x0, x1, x2, x3, x4, x5, x6, x7, x8, x9, x10, x11, x12, x13, x14, x15], .int false .i64 0, .int false .i64 4, .int false .i64 8, .int false .i64 12] (AV.ints .u64 16 (rqs [x0, x1, x2, x3, x4, x5, x6, x7, x8, x9, x10, x11, x12, x13, x14, x15] 0 4 8 12))
    rw [rq_lit0]
    intro ρ N vs ha
    exact pure_of_res mixed noCount (hy1_ok.deep mixed noCount 100 3) (by kernel_rfl) (rq_eval0 x0 x1 x2 x3 x4 x5 x6 x7 x8 x9 x10 x11 x12 x13 x14 x15) (paid_cons rfl (paid_cons rfl (paid_cons rfl (paid_cons rfl (paid_cons rfl (paid_cons rfl (paid_cons rfl (paid_cons rfl Paid.nil)))))))) rfl (by kernel_rfl) ha
  · show PureCall Try.prog 75 [.ints .u64 16 [x0, x1, x2, x3, x4, x5, x6, x7, x8, x9, x10, x11, x12, x13, x14, x15], .int false .i64 1, .int false .i64 5, .int false .i64 9, .int false .i64 13] (AV.ints .u64 16 (rqs [x0, x1, x2, x3, x4, x5, x6, x7, x8, x9, x10, x11, x12, x13, x14, x15] 1 5 9 13))
    rw [rq_lit1]
    intro ρ N vs ha
    exact pure_of_res mixed noCount (hy1_ok.deep mixed noCount 100 3) (by kernel_rfl) (rq_eval1 x0 x1 x2 x3 x4 x5 x6 x7 x8 x9 x10 x11 x12 x13 x14 x15) (paid_cons rfl (paid_cons rfl (paid_cons rfl (paid_cons rfl (paid_cons rfl (paid_cons rfl (paid_cons rfl (paid_cons rfl Paid.nil)))))))) rfl (by kernel_rfl) ha
  · show PureCall Try.prog 75 [.ints .u64 16 [x0, x1, x2, x3, x4, x5, x6, x7, x8, x9, x10, x11, x12, x13, x14, x15], .int false .i64 2, .int false .i64 6, .int false .i64 10, .int false .i64 14] (AV.ints .u64 16 (rqs [x0, x1, x2, x3, x4, x5, x6, x7, x8, x9, x10, x11, x12, x13, x14, x15] 2 6 10 14))
    rw [rq_lit2]
    intro ρ N vs ha
    exact pure_of_res mixed noCount (hy1_ok.deep mixed noCount 100 3) (by kernel_rfl) (rq_eval2 x0 x1 x2 x3 x4 x5 x6 x7 x8 x9 x10 x11 x12 x13 x14 x15) (paid_cons rfl (paid_cons rfl (paid_cons rfl (paid_cons rfl (paid_cons rfl (paid_cons rfl (paid_cons rfl (paid_cons rfl Paid.nil)))))))) rfl (by kernel_rfl) ha
  · show PureCall Try.prog 75 [.ints .u64 16 [x0, x1, x2, x3, x4, x5, x6, x7, x8, x9, x10, x11, x12, x13, x14, x15], .int false .i64 3, .int false .i64 7, .int false .i64 11, .int false .i64 15] (AV.ints .u64 16 (rqs [x0, x1, x2, x3, x4, x5, x6, x7, x8, x9, x10, x11, x12, x13, x14, x15] 3 7 11 15))
    rw [rq_lit3]
    intro ρ N vs ha
    exact pure_of_res mixed noCount (hy1_ok.deep mixed noCount 100 3) (by kernel_rfl) (rq_eval3 x0 x1 x2 x3 x4 x5 x6 x7 x8 x9 x10 x11 x12 x13 x14 x15) (paid_cons rfl (paid_cons rfl (paid_cons rfl (paid_cons rfl (paid_cons rfl (paid_cons rfl (paid_cons rfl (paid_cons rfl Paid.nil)))))))) rfl (by kernel_rfl) ha
  · show PureCall Try.prog 75 [.ints .u64 16 [x0, x1, x2, x3, x4, x5, x6, x7, x8, x9, x10, x11, x12, x13, x14, x15], .int false .i64 0, .int false .i64 5, .int false .i64 10, .int false .i64 15] (AV.ints .u64 16 (rqs [x0, x1, x2, x3, x4, x5, x6, x7, x8, x9, x10, x11, x12, x13, x14, x15] 0 5 10 15))
    rw [rq_lit4]
    intro ρ N vs ha
    exact pure_of_res mixed noCount (hy1_ok.deep mixed noCount 100 3) (by kernel_rfl) (rq_eval4 x0 x1 x2 x3 x4 x5 x6 x7 x8 x9 x10 x11 x12 x13 x14 x15) (paid_cons rfl (paid_cons rfl (paid_cons rfl (paid_cons rfl (paid_cons rfl (paid_cons rfl (paid_cons rfl (paid_cons rfl Paid.nil)))))))) rfl (by kernel_rfl) ha
  · show PureCall Try.prog 75 [.ints .u64 16 [x0, x1, x2, x3, x4, x5, x6, x7, x8, x9, x10, x11, x12, x13, x14, x15], .int false .i64 1, .int false .i64 6, .int false .i64 11, .int false .i64 12] (AV.ints .u64 16 (rqs [x0, x1, x2, x3, x4, x5, x6, x7, x8, x9, x10, x11, x12, x13, x14, x15] 1 6 11 12))
    rw [rq_lit5]
    intro ρ N vs ha
    exact pure_of_res mixed noCount (hy1_ok.deep mixed noCount 100 3) (by kernel_rfl) (rq_eval5 x0 x1 x2 x3 x4 x5 x6 x7 x8 x9 x10 x11 x12 x13 x14 x15) (paid_cons rfl (paid_cons rfl (paid_cons rfl (paid_cons rfl (paid_cons rfl (paid_cons rfl (paid_cons rfl (paid_cons rfl Paid.nil)))))))) rfl (by kernel_rfl) ha
  · show PureCall Try.prog 75 [.ints .u64 16 [x0, x1, x2, x3, x4, x5, x6, x7, x8, x9, x10, x11, x12, x13, x14, x15], .int false .i64 2, .int false .i64 7, .int false .i64 8, .int false .i64 13] (AV.ints .u64 16 (rqs [x0, x1, x2, x3, x4, x5, x6, x7, x8, x9, x10, x11, x12, x13, x14, x15] 2 7 8 13))
    rw [rq_lit6]
    intro ρ N vs ha
    exact pure_of_res mixed noCount (hy1_ok.deep mixed noCount 100 3) (by kernel_rfl) (rq_eval6 x0 x1 x2 x3 x4 x5 x6 x7 x8 x9 x10 x11 x12 x13 x14 x15) (paid_cons rfl (paid_cons rfl (paid_cons rfl (paid_cons rfl (paid_cons rfl (paid_cons rfl (paid_cons rfl (paid_cons rfl Paid.nil)))))))) rfl (by kernel_rfl) ha
  · show PureCall Try.prog 75 [.ints .u64 16 [x0, x1, x2, x3, x4, x5, x6, x7, x8, x9, x10, x11, x12, x13, x14, x15], .int false .i64 3, .int false .i64 4, .int false .i64 9, .int false .i64 14] (AV.ints .u64 16 (rqs [x0, x1, x2, x3, x4, x5, x6, x7, x8, x9, x10, x11, x12, x13, x14, x15] 3 4 9 14))
    rw [rq_lit7]
    intro ρ N vs ha
    exact pure_of_res mixed noCount (hy1_ok.deep mixed noCount 100 3) (by kernel_rfl) (rq_eval7 x0 x1 x2 x3 x4 x5 x6 x7 x8 x9 x10 x11 x12 x13 x14 x15) (paid_cons rfl (paid_cons rfl (paid_cons rfl (paid_cons rfl (paid_cons rfl (paid_cons rfl (paid_cons rfl (paid_cons rfl Paid.nil)))))))) rfl (by kernel_rfl) ha
def hy2f (f : List Int → Nat → Nat → Nat → Nat → List Int) : CallH := withC 75 (rqSf f) hy1
def hy2 : CallH := hy2f rqs
theorem hy2_ok : HOk Try.prog hy2 := hy1_ok.withC fun _ _ _ h _ => rqS_ok h
theorem rb_eval (f : List Int → Nat → Nat → Nat → Nat → List Int) (c : Int) (k l : List Int) : seeV 37 ((funcL Try.prog qD (deep Try.prog qD (hy2f f) 100 3) (fun _ _ => none) 200 53 (cArgs 0 [.buf false .u8 32 k, .pl (.int true .u32 c), .buf false .u8 12 l]) (cMem [.buf false .u8 32 k, .pl (.int true .u32 c), .buf false .u8 12 l])).go []) =
    some ([], .slice false 37 0 64 none 1, some (some ⟨true, .ints .u8 (some 64) (outR (iniR k l c) (frnd f (iniR k l c) 10))⟩)) := by kernel_rfl
def rbS : List V → E (AV × Mem)
  | [K, C, N] => match isK K, plI C, isN N with
    | some k, some c, some l => some ([], (.slice false 0 0 64 none 1, [some ⟨true, .ints .u8 (some 64) (blkB (ini k l) c)⟩]))
    | _, _, _ => none
  | _ => none
theorem rb_ok {xs : List V} {o : List Bool} {v : AV} {bs : Mem} (h : rbS xs = some (o, (v, bs))) : ViewCall Try.prog 53 xs v bs := by
  unfold rbS at h
  split at h
  case h_2 => cases h
  rename_i K C N
  split at h
  case h_2 => cases h
  rename_i k c l hK hC hN
  obtain rfl := isK_ok hK
  obtain rfl := plI_ok hC
  obtain rfl := isN_ok hN
  cases h
  intro ρ vs w ha hi
  obtain ⟨_, r1⟩ := buf_arg hi 0 rfl
  obtain ⟨_, r2⟩ := buf_arg hi 2 rfl
  have hc : Wd 32 c := by cases ha with | cons _ _ u us a0 hs => cases hs with | cons _ _ u1 us1 a1 hs => exact u32_wd a1
  have hw : W32 ((ini k l).set 12 c) := (ini_wd (fun x hx => inR_b8 (r1 x hx)) (fun x hx => inR_b8 (r2 x hx))).set 12 hc
  have e : outR (iniR k l c) (frnd rqs (iniR k l c) 10) = blkB (ini k l) c := by
    rw [iniR_eq k l hc, frnd_eq hw, outR_eq hw (rnd_wd hw 10)]
    rfl
  have ev := rb_eval rqs c k l
  rw [e] at ev
  exact viewN_one mixed noCount (hy2_ok.deep mixed noCount 100 3) (lo0 _) (v := .slice false 0 0 64 none 1) [] 37 ev Paid.nil (Nat.le_of_ble_eq_true rfl) rfl rfl ha hi
def hy3 : CallH := withV 53 rbS hy2
theorem hy3_ok : HOk Try.prog hy3 := hy2_ok.withV fun _ _ _ _ h _ => rb_ok h
end Go.Proofs.Ytfmgodgakndjcaa
