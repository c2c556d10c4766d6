/- The program's filling, the words' bytes, and Sum. Own work. -/
import Derived.Test.YtjhjhhibfojpiaaDoorVShaC
set_option linter.unusedSimpArgs false
set_option linter.unusedVariables false
set_option linter.unusedSectionVars false
namespace Go.Ev
section
variable [Tab] {P : Program} {q : FuncId → Bool} {H : CallH}
theorem view_of_goflat (hm : P.follows .mixedOrders = true) (hng : noCount P = true) (hH : HOk P H) {n : Nat} {g : FuncId} {xs : List V} {o : List Bool} {v v' : AV} {m' bs : Mem} (ds : List Bool)
    (h : ((funcA P q H n g (cArgs 0 xs) (cMem xs)).go ds).flat = some (o, (v', m'))) (ho : Paid o) (hv : v' = upA xs.length v) (hb : m'.drop xs.length = bs.map (upB xs.length)) (hle : m'.length = xs.length + bs.length) : ViewCall P g xs v bs := by
  intro ρ vs w ha hi
  have hcm : (cMem xs).length = xs.length := by simp [cMem]
  have ha' : Reps ρ (upto (cMem xs).length) (cArgs 0 xs) vs := by rw [hcm]; exact ha
  have hi' : Inv w (fun _ => False) (upto (cMem xs).length) ρ (getName (cMem xs)) w := by rw [hcm]; exact hi
  obtain ⟨hf, hc⟩ := funcA_sound hm hH (go_sound (flat_sound h ho)) ha' hi'
  refine callRun_of hng hf (hc.mono fun e w' ⟨u, h1, x', m2, ρ', k1, k2, k3, k4, k5⟩ => ⟨u, h1, ρ', ?_, ?_⟩)
  · cases k1
    rw [← hle, ← hv]; exact k2
  · cases k1
    have hlen : xs.length + bs.length = m'.length := hle.symm
    rw [hlen]
    have k4' : Agr ρ ρ' (upto xs.length) := by rw [hcm] at k4; exact k4
    refine hi.join (S1 := fun _ => False) k3 (fun _ h => h.elim) (fun i hi => by simp [upto] at *; omega) (fun _ h => h) k4' (fun _ _ => rfl) fun n b hn => ?_
    rw [getName_app] at hn
    split at hn
    · exact Or.inl ⟨hn, fun h => h⟩
    · rename_i hlt
      obtain ⟨g1, g2⟩ := getName_onlyRw hn
      rw [← hb, getName_drop, hcm, show xs.length + (n - xs.length) = n by rw [hcm] at hlt; omega] at g1
      exact Or.inr ⟨g1, g2⟩
theorem view_mark2 {g : FuncId} {B : AV} {s : Bool} {k : IntKind} {c : Int} {v : AV} {bs : Mem} (h : ViewCall P g [.pl B, .pl (.int true k c)] v bs) : ViewCall P g [.pl B, .pl (.int s k c)] v bs := by
  intro ρ vs w ha hi
  refine h (ρ := ρ) ?_ hi
  cases ha with
  | cons _ _ _ _ r0 hr => cases hr with
    | cons _ _ _ _ r1 hr => cases hr with
      | nil => cases r1 with
        | int _ _ _ h => exact .cons _ _ _ _ r0 (.cons _ _ _ _ (.int _ _ _ h) .nil)
def flatC (T : Tree (AV × Mem)) : Option (Bool × (AV × Mem)) := match T.flat with | some (o, p) => some (all1 o, p) | none => none
end
end Go.Ev
namespace Go.Sh
open Go.Ev
/-- How many bytes fill a text of c bytes up. -/
def fillN (B : Nat) (c : Int) : Nat := if B - (c % (B : Int)).toNat < 1 + B / 8 then B - (c % (B : Int)).toNat + B else B - (c % (B : Int)).toNat
/-- The bytes that fill it up; i of the number's are there. -/
def fillC (n : Nat) (c : Int) : Nat → List Int
  | 0 => 128 :: List.replicate (n - 1) 0
  | i + 1 => (fillC n c i).set (n - 1 - i) (c * 8 / 2 ^ (8 * i) % 256)
theorem fillC_len {n : Nat} {c : Int} (hn : 0 < n) : ∀ i, (fillC n c i).length = n
  | 0 => by simp [fillC]; omega
  | i + 1 => by simp only [fillC, List.length_set]; exact fillC_len hn i
theorem fillN_range {B : Nat} (hB : 8 ≤ B) (c : Int) : 0 < fillN B c ∧ B / 8 < fillN B c ∧ fillN B c ≤ B + B / 8 := by
  unfold fillN
  have h0 := Int.emod_nonneg c (show (B : Int) ≠ 0 by omega)
  have h2 := Int.emod_lt_of_pos c (show (0 : Int) < B by omega)
  split <;> omega
def rawN (B : Int) (t : Bool) (c : Int) : Int := match t with
  | true => IntKind.i64.wrap (IntKind.i64.wrap (B - IntKind.i64.wrap (c.tmod (IntKind.u64.wrap B))) + B)
  | false => IntKind.i64.wrap (B - IntKind.i64.wrap (c.tmod (IntKind.u64.wrap B)))
def rawJ (n i : Int) : Int := IntKind.i64.wrap (IntKind.i64.wrap (n - 1) - i)
def rawB (c i : Int) : Int := IntKind.u8.wrap (ishr .u64 (IntKind.u64.wrap (8 * c)) (IntKind.i64.wrap (8 * i)))
def rawL (n c : Int) : Nat → List Int
  | 0 => (List.replicate n.toNat 0).set 0 128
  | i + 1 => (rawL n c i).set (0 + (rawJ n i).toNat * 1) (rawB c i)
def rawD (n c : Int) : Nat → List Bool
  | 0 => [decide (0 ≤ n) && decide (n ≤ n) && decide (n ≤ 281474976710656), decide ((0 : Int) ≤ 0) && decide ((0 : Int) < ((n.toNat : Nat) : Int)), decide (0 + 0 + 1 ≤ (List.replicate n.toNat (0 : Int)).length)]
  | i + 1 => rawD n c i ++ [decide (0 ≤ rawJ n i) && decide (rawJ n i < ((n.toNat : Nat) : Int)), decide (0 + (rawJ n i).toNat * 1 + 1 ≤ (rawL n c i).length)]
theorem w64 {x : Int} (h : -9223372036854775808 ≤ x ∧ x < 9223372036854775808) : IntKind.i64.wrap x = x := by
  unfold IntKind.wrap
  simp [IntKind.bits, IntKind.signed]
  omega
theorem tm_eq {B : Nat} (hB : 0 < B ∧ B ≤ 128) {c : Int} (h : 0 ≤ c ∧ c < 18446744073709551616) : IntKind.i64.wrap (c.tmod (IntKind.u64.wrap (B : Int))) = c % (B : Int) := by
  have e1 : IntKind.u64.wrap (B : Int) = B := wrap_wd (k := .u64) rfl ⟨by omega, by simp only [IntKind.bits]; omega⟩
  have h1 := Int.emod_nonneg c (show (B : Int) ≠ 0 by omega)
  have h2 := Int.emod_lt_of_pos c (show (0 : Int) < B by omega)
  rw [e1, Int.tmod_eq_emod_of_nonneg h.1, w64 (by omega)]
theorem rawN_eq {B : Nat} (hB : 8 ≤ B ∧ B ≤ 128) {c : Int} (h : 0 ≤ c ∧ c < 18446744073709551616) : rawN (B : Int) (decide (B - (c % (B : Int)).toNat < 1 + B / 8)) c = (fillN B c : Int) := by
  have h1 := Int.emod_nonneg c (show (B : Int) ≠ 0 by omega)
  have h2 := Int.emod_lt_of_pos c (show (0 : Int) < B by omega)
  unfold rawN fillN
  by_cases hc : B - (c % (B : Int)).toNat < 1 + B / 8
  · rw [decide_eq_true hc, if_pos hc]
    simp only
    rw [tm_eq ⟨by omega, hB.2⟩ h, w64 (x := (B : Int) - c % (B : Int)) (by omega), w64 (by omega)]
    omega
  · rw [decide_eq_false hc, if_neg hc]
    simp only
    rw [tm_eq ⟨by omega, hB.2⟩ h, w64 (by omega)]
    omega
theorem rawJ_eq {n i : Nat} (hn : n < 1000000) (hi : i < n) : rawJ (n : Int) (i : Int) = ((n - 1 - i : Nat) : Int) := by
  unfold rawJ
  rw [w64 (x := (n : Int) - 1) (by omega), w64 (by omega)]
  omega
theorem rawB_eq {c : Int} (h : 0 ≤ c) {i : Nat} (hi : i < 8) : rawB c (i : Int) = c * 8 / 2 ^ (8 * i) % 256 := by
  have e1 : IntKind.i64.wrap (8 * (i : Int)) = ((8 * i : Nat) : Int) := by rw [w64 (by omega)]; omega
  have e2 : IntKind.u64.wrap (8 * c) = (8 * c) % 2 ^ 64 := wrap_u (k := .u64) rfl _
  unfold rawB
  rw [e1, e2, wrap_u (k := .u8) rfl]
  have e3 : ishr .u64 (8 * c % 2 ^ 64) ((8 * i : Nat) : Int) = 8 * c % 2 ^ 64 / 2 ^ (8 * i) := sd64 (8 * i) (by omega)
  rw [e3]
  simp only [IntKind.bits]
  have : i = 0 ∨ i = 1 ∨ i = 2 ∨ i = 3 ∨ i = 4 ∨ i = 5 ∨ i = 6 ∨ i = 7 := by omega
  rcases this with rfl | rfl | rfl | rfl | rfl | rfl | rfl | rfl <;> omega
theorem rawL_eq {n : Nat} {c : Int} (hc : 0 ≤ c) (hn : 8 < n ∧ n < 1000000) : ∀ i, i ≤ 8 → rawL (n : Int) c i = fillC n c i
  | 0, _ => by
    unfold rawL fillC
    rw [Int.toNat_natCast]
    match n, hn with
    | n + 1, _ => simp [List.replicate_succ]
  | i + 1, h => by
    unfold rawL fillC
    rw [rawL_eq hc hn i (by omega), rawJ_eq hn.2 (by omega), rawB_eq hc (by omega), Int.toNat_natCast, Nat.zero_add, Nat.mul_one]
theorem rawD_paid [Tab] {n : Nat} {c : Int} (hc : 0 ≤ c) (hn : 8 < n ∧ n < 1000000) : ∀ i, i ≤ 8 → Paid (rawD (n : Int) c i)
  | 0, _ => by
    unfold rawD
    refine paid_cons ?_ (paid_cons ?_ (paid_cons ?_ Paid.nil)) <;> simp <;> omega
  | i + 1, h => by
    unfold rawD
    refine paid_append.2 ⟨rawD_paid hc hn i (by omega), paid_cons ?_ (paid_cons ?_ Paid.nil)⟩
    · rw [rawJ_eq hn.2 (by omega)]; simp; omega
    · rw [rawJ_eq hn.2 (by omega), rawL_eq hc hn i (by omega), fillC_len (by omega), Int.toNat_natCast]; simp; omega
/-- The words' bytes: n of them. -/
def toldL (n z : Nat) (ws : List Int) : List Int := (List.range n).map fun i => IntKind.u8.wrap (ishr .u64 (ws.getD (i / z) 0) ((8 * (z - 1 - i % z) : Nat) : Int))
end Go.Sh
namespace Go.Proofs.YtjhjhhibfojpiaaDoor
variable [Go.Ev.RowTab]
open Go.Ev Go.Sh
set_option maxRecDepth 100000
def filS : List V → E (AV × Mem)
  | [.pl (.int false .i64 64), .pl (.int _ .u64 c)] => some ([decide (0 ≤ c ∧ c < 18446744073709551616)], (.slice true 0 0 (fillN 64 c) none 1, [some ⟨true, .ints .u8 none (fillC (fillN 64 c) c 8)⟩]))
  | [.pl (.int false .i64 128), .pl (.int _ .u64 c)] => some ([decide (0 ≤ c ∧ c < 18446744073709551616)], (.slice true 0 0 (fillN 128 c) none 1, [some ⟨true, .ints .u8 none (fillC (fillN 128 c) c 8)⟩]))
  | _ => none
theorem fil64_true (c : Int) : ((funcA Tryd.prog qS hS4 100 30 (cArgs 0 [.pl (.int false .i64 64), .pl (.int true .u64 c)]) (cMem [.pl (.int false .i64 64), .pl (.int true .u64 c)])).go [true]).flat =
    some ((decide (IntKind.i64.wrap (64 - IntKind.i64.wrap (c.tmod (IntKind.u64.wrap 64))) < IntKind.i64.wrap (1 + IntKind.i64.wrap (Int.tdiv 64 8)))) :: rawD (rawN 64 true c) c 8, (.slice true 2 0 (rawN 64 true c).toNat none 1, [none, none, some ⟨true, .ints .u8 none (rawL (rawN 64 true c) c 8)⟩])) := by kernel_rfl
theorem fil64_false (c : Int) : ((funcA Tryd.prog qS hS4 100 30 (cArgs 0 [.pl (.int false .i64 64), .pl (.int true .u64 c)]) (cMem [.pl (.int false .i64 64), .pl (.int true .u64 c)])).go [false]).flat =
    some ((!decide (IntKind.i64.wrap (64 - IntKind.i64.wrap (c.tmod (IntKind.u64.wrap 64))) < IntKind.i64.wrap (1 + IntKind.i64.wrap (Int.tdiv 64 8)))) :: rawD (rawN 64 false c) c 8, (.slice true 2 0 (rawN 64 false c).toNat none 1, [none, none, some ⟨true, .ints .u8 none (rawL (rawN 64 false c) c 8)⟩])) := by kernel_rfl
theorem fil128_true (c : Int) : ((funcA Tryd.prog qS hS4 100 30 (cArgs 0 [.pl (.int false .i64 128), .pl (.int true .u64 c)]) (cMem [.pl (.int false .i64 128), .pl (.int true .u64 c)])).go [true]).flat =
    some ((decide (IntKind.i64.wrap (128 - IntKind.i64.wrap (c.tmod (IntKind.u64.wrap 128))) < IntKind.i64.wrap (1 + IntKind.i64.wrap (Int.tdiv 128 8)))) :: rawD (rawN 128 true c) c 8, (.slice true 2 0 (rawN 128 true c).toNat none 1, [none, none, some ⟨true, .ints .u8 none (rawL (rawN 128 true c) c 8)⟩])) := by kernel_rfl
theorem fil128_false (c : Int) : ((funcA Tryd.prog qS hS4 100 30 (cArgs 0 [.pl (.int false .i64 128), .pl (.int true .u64 c)]) (cMem [.pl (.int false .i64 128), .pl (.int true .u64 c)])).go [false]).flat =
    some ((!decide (IntKind.i64.wrap (128 - IntKind.i64.wrap (c.tmod (IntKind.u64.wrap 128))) < IntKind.i64.wrap (1 + IntKind.i64.wrap (Int.tdiv 128 8)))) :: rawD (rawN 128 false c) c 8, (.slice true 2 0 (rawN 128 false c).toNat none 1, [none, none, some ⟨true, .ints .u8 none (rawL (rawN 128 false c) c 8)⟩])) := by kernel_rfl
theorem fil_ok {xs : List V} {o : List Bool} {v : AV} {bs : Mem} (h : filS xs = some (o, (v, bs))) (ho : Paid o) : ViewCall Tryd.prog 30 xs v bs := by
  unfold filS at h
  split at h
  · rename_i s c
    cases h
    have o1 := of_decide_eq_true (ho _ (List.mem_cons_self ..))
    have hr := fillN_range (B := 64) (by decide) c
    have hc : IntKind.i64.wrap (64 - IntKind.i64.wrap (c.tmod (IntKind.u64.wrap 64))) = ((64 - (c % (64 : Int)).toNat : Nat) : Int) := by
      have := tm_eq (B := 64) (by decide) o1
      rw [show ((64 : Nat) : Int) = 64 from rfl] at this
      rw [this, w64 (by omega)]; omega
    refine @view_mark2 _ _ _ _ _ _ _ _ _ ?_
    by_cases hk : 64 - (c % ((64 : Nat) : Int)).toNat < 1 + 64 / 8
    · have e := rawN_eq (B := 64) (by decide) o1
      rw [decide_eq_true hk] at e
      refine view_of_goflat mixed noCount hS4_ok [true] (fil64_true c) ?_ ?_ ?_ rfl
      · rw [show rawN 64 _ c = (fillN 64 c : Int) from e]
        exact paid_cons (decide_eq_true (by rw [hc]; show _ < (9 : Int); omega)) (rawD_paid o1.1 (by omega) 8 (by decide))
      · rw [show rawN 64 _ c = (fillN 64 c : Int) from e, Int.toNat_natCast]; rfl
      · rw [show rawN 64 _ c = (fillN 64 c : Int) from e, rawL_eq o1.1 (by omega) 8 (by decide)]; rfl
    · have e := rawN_eq (B := 64) (by decide) o1
      rw [decide_eq_false hk] at e
      refine view_of_goflat mixed noCount hS4_ok [false] (fil64_false c) ?_ ?_ ?_ rfl
      · rw [show rawN 64 _ c = (fillN 64 c : Int) from e]
        exact paid_cons (by rw [hc]; simp only [Bool.not_eq_true', decide_eq_false_iff_not]; show ¬ (_ < (9 : Int)); omega) (rawD_paid o1.1 (by omega) 8 (by decide))
      · rw [show rawN 64 _ c = (fillN 64 c : Int) from e, Int.toNat_natCast]; rfl
      · rw [show rawN 64 _ c = (fillN 64 c : Int) from e, rawL_eq o1.1 (by omega) 8 (by decide)]; rfl
  · rename_i s c
    cases h
    have o1 := of_decide_eq_true (ho _ (List.mem_cons_self ..))
    have hr := fillN_range (B := 128) (by decide) c
    have hc : IntKind.i64.wrap (128 - IntKind.i64.wrap (c.tmod (IntKind.u64.wrap 128))) = ((128 - (c % (128 : Int)).toNat : Nat) : Int) := by
      have := tm_eq (B := 128) (by decide) o1
      rw [show ((128 : Nat) : Int) = 128 from rfl] at this
      rw [this, w64 (by omega)]; omega
    refine @view_mark2 _ _ _ _ _ _ _ _ _ ?_
    by_cases hk : 128 - (c % ((128 : Nat) : Int)).toNat < 1 + 128 / 8
    · have e := rawN_eq (B := 128) (by decide) o1
      rw [decide_eq_true hk] at e
      refine view_of_goflat mixed noCount hS4_ok [true] (fil128_true c) ?_ ?_ ?_ rfl
      · rw [show rawN 128 _ c = (fillN 128 c : Int) from e]
        exact paid_cons (decide_eq_true (by rw [hc]; show _ < (17 : Int); omega)) (rawD_paid o1.1 (by omega) 8 (by decide))
      · rw [show rawN 128 _ c = (fillN 128 c : Int) from e, Int.toNat_natCast]; rfl
      · rw [show rawN 128 _ c = (fillN 128 c : Int) from e, rawL_eq o1.1 (by omega) 8 (by decide)]; rfl
    · have e := rawN_eq (B := 128) (by decide) o1
      rw [decide_eq_false hk] at e
      refine view_of_goflat mixed noCount hS4_ok [false] (fil128_false c) ?_ ?_ ?_ rfl
      · rw [show rawN 128 _ c = (fillN 128 c : Int) from e]
        exact paid_cons (by rw [hc]; simp only [Bool.not_eq_true', decide_eq_false_iff_not]; show ¬ (_ < (17 : Int)); omega) (rawD_paid o1.1 (by omega) 8 (by decide))
      · rw [show rawN 128 _ c = (fillN 128 c : Int) from e, Int.toNat_natCast]; rfl
      · rw [show rawN 128 _ c = (fillN 128 c : Int) from e, rawL_eq o1.1 (by omega) 8 (by decide)]; rfl
  · cases h
theorem told256_eval (ws op : List Int) (s : Bool) (c : Int) : flatC (funcA Tryd.prog qS hS4 200 31 (cArgs 0 [.pt (hashC 256 ws op s c)]) (cMem [.pt (hashC 256 ws op s c)])) =
    some (true, (.slice false 1 0 32 (some 32) 1, [some ⟨false, hashC 256 ws op s c⟩, some ⟨true, .ints .u8 (some 32) (toldL 32 4 ws)⟩])) := by kernel_rfl
theorem told384_eval (ws op : List Int) (s : Bool) (c : Int) : flatC (funcA Tryd.prog qS hS4 200 31 (cArgs 0 [.pt (hashC 384 ws op s c)]) (cMem [.pt (hashC 384 ws op s c)])) =
    some (true, (.slice false 1 0 48 (some 48) 1, [some ⟨false, hashC 384 ws op s c⟩, some ⟨true, .ints .u8 (some 48) (toldL 48 8 ws)⟩])) := by kernel_rfl
theorem told512_eval (ws op : List Int) (s : Bool) (c : Int) : flatC (funcA Tryd.prog qS hS4 200 31 (cArgs 0 [.pt (hashC 512 ws op s c)]) (cMem [.pt (hashC 512 ws op s c)])) =
    some (true, (.slice false 1 0 64 (some 64) 1, [some ⟨false, hashC 512 ws op s c⟩, some ⟨true, .ints .u8 (some 64) (toldL 64 8 ws)⟩])) := by kernel_rfl
theorem flatC_ok {T : Tree (AV × Mem)} {p : AV × Mem} (h : flatC T = some (true, p)) : ∃ o, T.flat = some (o, p) ∧ Paid o := by
  unfold flatC at h
  split at h
  · rename_i o p' hf
    obtain ⟨h1, rfl⟩ := Prod.mk.inj (Option.some.inj h)
    exact ⟨o, hf, all1_paid h1⟩
  · cases h
def toldS : List V → E (AV × Mem)
  | [.pt (.wide [.int false .i64 256, .ints .u64 8 ws, .ints .u8 128 _, .int _ .u64 _])] => some ([], (.slice false 0 0 32 (some 32) 1, [some ⟨true, .ints .u8 (some 32) (toldL 32 4 ws)⟩]))
  | [.pt (.wide [.int false .i64 384, .ints .u64 8 ws, .ints .u8 128 _, .int _ .u64 _])] => some ([], (.slice false 0 0 48 (some 48) 1, [some ⟨true, .ints .u8 (some 48) (toldL 48 8 ws)⟩]))
  | [.pt (.wide [.int false .i64 512, .ints .u64 8 ws, .ints .u8 128 _, .int _ .u64 _])] => some ([], (.slice false 0 0 64 (some 64) 1, [some ⟨true, .ints .u8 (some 64) (toldL 64 8 ws)⟩]))
  | _ => none
theorem told_ok {xs : List V} {o : List Bool} {v : AV} {bs : Mem} (h : toldS xs = some (o, (v, bs))) (_ : Paid o) : ViewCall Tryd.prog 31 xs v bs := by
  unfold toldS at h
  split at h
  · rename_i ws op s c
    cases h
    obtain ⟨o, h1, h2⟩ := flatC_ok (told256_eval ws op s c)
    exact view_of_flat mixed noCount hS4_ok h1 h2 rfl rfl rfl
  · rename_i ws op s c
    cases h
    obtain ⟨o, h1, h2⟩ := flatC_ok (told384_eval ws op s c)
    exact view_of_flat mixed noCount hS4_ok h1 h2 rfl rfl rfl
  · rename_i ws op s c
    cases h
    obtain ⟨o, h1, h2⟩ := flatC_ok (told512_eval ws op s c)
    exact view_of_flat mixed noCount hS4_ok h1 h2 rfl rfl rfl
  · cases h
def hs5 : CallH := withV 30 filS (withV 31 toldS hs4)
theorem hs5_ok : HOk Tryd.prog hs5 := (hs4_ok.withV fun _ _ _ _ h ho => told_ok h ho).withV fun _ _ _ _ h ho => fil_ok h ho
noncomputable def hS5 : CallH := deep Tryd.prog qS hs5 100 3
theorem hS5_ok : HOk Tryd.prog hS5 := hs5_ok.deep mixed noCount 100 3
end Go.Proofs.YtjhjhhibfojpiaaDoor
