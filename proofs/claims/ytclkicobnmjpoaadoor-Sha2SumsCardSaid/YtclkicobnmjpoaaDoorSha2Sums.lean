/- Hashes of all kinds are the reference's: for every kind and all bytes the law answers true. No condition. -/
import Derived.Test.YtclkicobnmjpoaaDoorShaI
import Derived.Test.YtclkicobnmjpoaaDoorShaL
namespace Go.Proofs.YtclkicobnmjpoaaDoor
open Go.Ev Go.Sh
open Go.ChangeShapes Go.WideShapes Go.ChangeAt Go.RowKit
set_option maxRecDepth 100000
def sumsO (d g i s p q e : Bool) : List Bool := [d, g, i, s, i, p, q, !e || e, !e || e, !e || e, !e || e]
def sumsV (e v : Bool) : Bool := match e with | true => v | false => false
theorem sums256_buf (l : List Int) (n : Nat) : res ((funcA Tryd.prog qS hS10 100 3 (cArgs 0 [.pl (.int false .i64 256), .buf true .u8 n l]) (cMem [.pl (.int false .i64 256), .buf true .u8 n l])).go [false]) = some (sumsO (decide (n < 9223372036854775808)) (!decide ((n : Int) > 2000)) (decide (0 + n ≤ n)) (decide (n < 1000000000000)) (decide (1 ≤ n)) (decide (n ≤ 400000000)) (decide (toldL 32 4 (hashW 32 64 64 beg256 ((l.drop 0).take n)) = toldL 32 4 (hashW 32 64 64 beg256 ((l.drop 0).take n)))), .bool true (sumsV (decide (toldL 32 4 (hashW 32 64 64 beg256 ((l.drop 0).take n)) = toldL 32 4 (hashW 32 64 64 beg256 ((l.drop 0).take n)))) (IntKind.i64.wrap (Int.tdiv 256 8) == ((32 : Nat) : Int)))) := by kernel_rfl
theorem sums256_eq (l : List Int) (n : Nat) : toldL 32 4 (hashW 32 64 64 beg256 ((l.drop 0).take n)) = toldL 32 4 (hashW 32 64 64 beg256 ((l.drop 0).take n)) := by rfl
theorem sums256_long (l : List Int) (n : Nat) : res ((funcA Tryd.prog qS hS10 100 3 (cArgs 0 [.pl (.int false .i64 256), .buf true .u8 n l]) (cMem [.pl (.int false .i64 256), .buf true .u8 n l])).go [true]) = some ([decide (n < 9223372036854775808), decide ((n : Int) > 2000)], .bool false true) := by kernel_rfl
theorem sums256_nil : res ((funcA Tryd.prog qS hS10 100 3 (cArgs 0 [.pl (.int false .i64 256), .pl .nilslice]) (cMem [.pl (.int false .i64 256), .pl .nilslice])).go []) = some ([true, true, true, true], .bool true true) := by kernel_rfl
theorem sums256_emp : res ((funcA Tryd.prog qS hS10 100 3 (cArgs 0 [.pl (.int false .i64 256), .empty]) (cMem [.pl (.int false .i64 256), .empty])).go []) = some ([true, true, true, true], .bool true true) := by kernel_rfl
theorem sums384_buf (l : List Int) (n : Nat) : res ((funcA Tryd.prog qS hS10 100 3 (cArgs 0 [.pl (.int false .i64 384), .buf true .u8 n l]) (cMem [.pl (.int false .i64 384), .buf true .u8 n l])).go [false]) = some (sumsO (decide (n < 9223372036854775808)) (!decide ((n : Int) > 2000)) (decide (0 + n ≤ n)) (decide (n < 1000000000000)) (decide (1 ≤ n)) (decide (n ≤ 400000000)) (decide (toldL 48 8 (hashW 64 80 128 beg384 ((l.drop 0).take n)) = ((toldL 64 8 (hashW 64 80 128 beg384 ((l.drop 0).take n))).drop 0).take 48)), .bool true (sumsV (decide (toldL 48 8 (hashW 64 80 128 beg384 ((l.drop 0).take n)) = ((toldL 64 8 (hashW 64 80 128 beg384 ((l.drop 0).take n))).drop 0).take 48)) (IntKind.i64.wrap (Int.tdiv 384 8) == ((48 : Nat) : Int)))) := by kernel_rfl
theorem sums384_eq (l : List Int) (n : Nat) : toldL 48 8 (hashW 64 80 128 beg384 ((l.drop 0).take n)) = ((toldL 64 8 (hashW 64 80 128 beg384 ((l.drop 0).take n))).drop 0).take 48 := by exact (toldL_take (by decide) _).symm
theorem sums384_long (l : List Int) (n : Nat) : res ((funcA Tryd.prog qS hS10 100 3 (cArgs 0 [.pl (.int false .i64 384), .buf true .u8 n l]) (cMem [.pl (.int false .i64 384), .buf true .u8 n l])).go [true]) = some ([decide (n < 9223372036854775808), decide ((n : Int) > 2000)], .bool false true) := by kernel_rfl
theorem sums384_nil : res ((funcA Tryd.prog qS hS10 100 3 (cArgs 0 [.pl (.int false .i64 384), .pl .nilslice]) (cMem [.pl (.int false .i64 384), .pl .nilslice])).go []) = some ([true, true, true, true], .bool true true) := by kernel_rfl
theorem sums384_emp : res ((funcA Tryd.prog qS hS10 100 3 (cArgs 0 [.pl (.int false .i64 384), .empty]) (cMem [.pl (.int false .i64 384), .empty])).go []) = some ([true, true, true, true], .bool true true) := by kernel_rfl
theorem sums512_buf (l : List Int) (n : Nat) : res ((funcA Tryd.prog qS hS10 100 3 (cArgs 0 [.pl (.int false .i64 512), .buf true .u8 n l]) (cMem [.pl (.int false .i64 512), .buf true .u8 n l])).go [false]) = some (sumsO (decide (n < 9223372036854775808)) (!decide ((n : Int) > 2000)) (decide (0 + n ≤ n)) (decide (n < 1000000000000)) (decide (1 ≤ n)) (decide (n ≤ 400000000)) (decide (toldL 64 8 (hashW 64 80 128 beg512 ((l.drop 0).take n)) = toldL 64 8 (hashW 64 80 128 beg512 ((l.drop 0).take n)))), .bool true (sumsV (decide (toldL 64 8 (hashW 64 80 128 beg512 ((l.drop 0).take n)) = toldL 64 8 (hashW 64 80 128 beg512 ((l.drop 0).take n)))) (IntKind.i64.wrap (Int.tdiv 512 8) == ((64 : Nat) : Int)))) := by kernel_rfl
theorem sums512_eq (l : List Int) (n : Nat) : toldL 64 8 (hashW 64 80 128 beg512 ((l.drop 0).take n)) = toldL 64 8 (hashW 64 80 128 beg512 ((l.drop 0).take n)) := by rfl
theorem sums512_long (l : List Int) (n : Nat) : res ((funcA Tryd.prog qS hS10 100 3 (cArgs 0 [.pl (.int false .i64 512), .buf true .u8 n l]) (cMem [.pl (.int false .i64 512), .buf true .u8 n l])).go [true]) = some ([decide (n < 9223372036854775808), decide ((n : Int) > 2000)], .bool false true) := by kernel_rfl
theorem sums512_nil : res ((funcA Tryd.prog qS hS10 100 3 (cArgs 0 [.pl (.int false .i64 512), .pl .nilslice]) (cMem [.pl (.int false .i64 512), .pl .nilslice])).go []) = some ([true, true, true, true], .bool true true) := by kernel_rfl
theorem sums512_emp : res ((funcA Tryd.prog qS hS10 100 3 (cArgs 0 [.pl (.int false .i64 512), .empty]) (cMem [.pl (.int false .i64 512), .empty])).go []) = some ([true, true, true, true], .bool true true) := by kernel_rfl
theorem sumso_buf (k : Int) (l : List Int) (n : Nat) : res ((funcA Tryd.prog qS hS10 100 3 (cArgs 0 [.pl (.int true .i64 k), .buf true .u8 n l]) (cMem [.pl (.int true .i64 k), .buf true .u8 n l])).go [false]) = some ([decide (n < 9223372036854775808), !decide ((n : Int) > 2000), !decide (k = 256), !decide (k = 384), !decide (k = 512), !decide (k = 256), !decide (k = 384), !decide (k = 512), decide (0 + n ≤ n), !decide (k = 256), !decide (k = 384), !decide (k = 512), !decide (k = 256), !decide (k = 384), !decide (k = 512)], .bool false true) := by kernel_rfl
theorem sumso_long (k : Int) (l : List Int) (n : Nat) : res ((funcA Tryd.prog qS hS10 100 3 (cArgs 0 [.pl (.int true .i64 k), .buf true .u8 n l]) (cMem [.pl (.int true .i64 k), .buf true .u8 n l])).go [true]) = some ([decide (n < 9223372036854775808), decide ((n : Int) > 2000)], .bool false true) := by kernel_rfl
theorem sumso_nil (k : Int) : res ((funcA Tryd.prog qS hS10 100 3 (cArgs 0 [.pl (.int true .i64 k), .pl .nilslice]) (cMem [.pl (.int true .i64 k), .pl .nilslice])).go []) = some ([!decide (k = 256), !decide (k = 384), !decide (k = 512), !decide (k = 256), !decide (k = 384), !decide (k = 512), !decide (k = 256), !decide (k = 384), !decide (k = 512), !decide (k = 256), !decide (k = 384), !decide (k = 512)], .bool false true) := by kernel_rfl
theorem sumso_emp (k : Int) : res ((funcA Tryd.prog qS hS10 100 3 (cArgs 0 [.pl (.int true .i64 k), .empty]) (cMem [.pl (.int true .i64 k), .empty])).go []) = some ([!decide (k = 256), !decide (k = 384), !decide (k = 512), !decide (k = 256), !decide (k = 384), !decide (k = 512), !decide (k = 256), !decide (k = 384), !decide (k = 512), !decide (k = 256), !decide (k = 384), !decide (k = 512)], .bool false true) := by kernel_rfl
theorem sha2Sums_256 {v : Value} (W : World) (hT : TRep W) (hv : v = .slice none 0 0 ∨ ∃ (a : Addr) (len cap : Nat) (zs : List Int), v = .slice (some a) len cap ∧ len ≤ cap ∧ cap ≤ maxLen ∧ zs.length = cap ∧ (∀ i, i < zs.length → W.cell? (a.add i) = some (.int .u8 (zs.getD i 0))) ∧ ∀ n ∈ zs, inR .u8 n = true) :
    Calls Tryd.prog 3 #[.int .i64 256, v] W (fun e w' => e = .returned (.bool true) ∧ Below W.heap.size W w') := by
  have h0 : ∃ L, VOk W 0 L (.pl (.int false .i64 256)) (.int .i64 256) := VOk.plain fun ρ N => .int false .i64 256 (by decide)
  rcases VOk.bytes (W := W) 1 hv with h | h | ⟨n, l, hn, hm, hl, hr, h⟩
  · have ev := sums256_nil
    exact law_of_go mixed hS10_ok [] ev (all1_paid rfl) rfl (.cons _ _ _ _ _ h0 (.cons _ _ _ _ _ h (.nil _)))
  · have ev := sums256_emp
    exact law_of_go mixed hS10_ok [] ev (all1_paid rfl) rfl (.cons _ _ _ _ _ h0 (.cons _ _ _ _ _ h (.nil _)))
  · have hm' : n < 9223372036854775808 := by unfold maxLen at hm; omega
    by_cases hlong : (n : Int) > 2000
    · have ev := sums256_long l n
      rw [decide_eq_true hm', decide_eq_true hlong] at ev
      exact law_of_go mixed hS10_ok [true] ev (all1_paid rfl) rfl (.cons _ _ _ _ _ h0 (.cons _ _ _ _ _ h (.nil _)))
    · have ev := sums256_buf l n
      rw [decide_eq_true hm', decide_eq_false hlong, decide_eq_true (show 0 + n ≤ n by omega), decide_eq_true (show n < 1000000000000 by omega), decide_eq_true hn, decide_eq_true (show n ≤ 400000000 by omega), decide_eq_true (sums256_eq l n)] at ev
      exact law_of_go mixed hS10_ok [false] ev (all1_paid rfl) rfl (.cons _ _ _ _ _ h0 (.cons _ _ _ _ _ h (.nil _)))
theorem sha2Sums_384 {v : Value} (W : World) (hT : TRep W) (hv : v = .slice none 0 0 ∨ ∃ (a : Addr) (len cap : Nat) (zs : List Int), v = .slice (some a) len cap ∧ len ≤ cap ∧ cap ≤ maxLen ∧ zs.length = cap ∧ (∀ i, i < zs.length → W.cell? (a.add i) = some (.int .u8 (zs.getD i 0))) ∧ ∀ n ∈ zs, inR .u8 n = true) :
    Calls Tryd.prog 3 #[.int .i64 384, v] W (fun e w' => e = .returned (.bool true) ∧ Below W.heap.size W w') := by
  have h0 : ∃ L, VOk W 0 L (.pl (.int false .i64 384)) (.int .i64 384) := VOk.plain fun ρ N => .int false .i64 384 (by decide)
  rcases VOk.bytes (W := W) 1 hv with h | h | ⟨n, l, hn, hm, hl, hr, h⟩
  · have ev := sums384_nil
    exact law_of_go mixed hS10_ok [] ev (all1_paid rfl) rfl (.cons _ _ _ _ _ h0 (.cons _ _ _ _ _ h (.nil _)))
  · have ev := sums384_emp
    exact law_of_go mixed hS10_ok [] ev (all1_paid rfl) rfl (.cons _ _ _ _ _ h0 (.cons _ _ _ _ _ h (.nil _)))
  · have hm' : n < 9223372036854775808 := by unfold maxLen at hm; omega
    by_cases hlong : (n : Int) > 2000
    · have ev := sums384_long l n
      rw [decide_eq_true hm', decide_eq_true hlong] at ev
      exact law_of_go mixed hS10_ok [true] ev (all1_paid rfl) rfl (.cons _ _ _ _ _ h0 (.cons _ _ _ _ _ h (.nil _)))
    · have ev := sums384_buf l n
      rw [decide_eq_true hm', decide_eq_false hlong, decide_eq_true (show 0 + n ≤ n by omega), decide_eq_true (show n < 1000000000000 by omega), decide_eq_true hn, decide_eq_true (show n ≤ 400000000 by omega), decide_eq_true (sums384_eq l n)] at ev
      exact law_of_go mixed hS10_ok [false] ev (all1_paid rfl) rfl (.cons _ _ _ _ _ h0 (.cons _ _ _ _ _ h (.nil _)))
theorem sha2Sums_512 {v : Value} (W : World) (hT : TRep W) (hv : v = .slice none 0 0 ∨ ∃ (a : Addr) (len cap : Nat) (zs : List Int), v = .slice (some a) len cap ∧ len ≤ cap ∧ cap ≤ maxLen ∧ zs.length = cap ∧ (∀ i, i < zs.length → W.cell? (a.add i) = some (.int .u8 (zs.getD i 0))) ∧ ∀ n ∈ zs, inR .u8 n = true) :
    Calls Tryd.prog 3 #[.int .i64 512, v] W (fun e w' => e = .returned (.bool true) ∧ Below W.heap.size W w') := by
  have h0 : ∃ L, VOk W 0 L (.pl (.int false .i64 512)) (.int .i64 512) := VOk.plain fun ρ N => .int false .i64 512 (by decide)
  rcases VOk.bytes (W := W) 1 hv with h | h | ⟨n, l, hn, hm, hl, hr, h⟩
  · have ev := sums512_nil
    exact law_of_go mixed hS10_ok [] ev (all1_paid rfl) rfl (.cons _ _ _ _ _ h0 (.cons _ _ _ _ _ h (.nil _)))
  · have ev := sums512_emp
    exact law_of_go mixed hS10_ok [] ev (all1_paid rfl) rfl (.cons _ _ _ _ _ h0 (.cons _ _ _ _ _ h (.nil _)))
  · have hm' : n < 9223372036854775808 := by unfold maxLen at hm; omega
    by_cases hlong : (n : Int) > 2000
    · have ev := sums512_long l n
      rw [decide_eq_true hm', decide_eq_true hlong] at ev
      exact law_of_go mixed hS10_ok [true] ev (all1_paid rfl) rfl (.cons _ _ _ _ _ h0 (.cons _ _ _ _ _ h (.nil _)))
    · have ev := sums512_buf l n
      rw [decide_eq_true hm', decide_eq_false hlong, decide_eq_true (show 0 + n ≤ n by omega), decide_eq_true (show n < 1000000000000 by omega), decide_eq_true hn, decide_eq_true (show n ≤ 400000000 by omega), decide_eq_true (sums512_eq l n)] at ev
      exact law_of_go mixed hS10_ok [false] ev (all1_paid rfl) rfl (.cons _ _ _ _ _ h0 (.cons _ _ _ _ _ h (.nil _)))
theorem sha2Sums_o {k : Int} (rk : inR .i64 k = true) (n1 : k ≠ 256) (n2 : k ≠ 384) (n3 : k ≠ 512) {v : Value} (W : World) (hT : TRep W) (hv : v = .slice none 0 0 ∨ ∃ (a : Addr) (len cap : Nat) (zs : List Int), v = .slice (some a) len cap ∧ len ≤ cap ∧ cap ≤ maxLen ∧ zs.length = cap ∧ (∀ i, i < zs.length → W.cell? (a.add i) = some (.int .u8 (zs.getD i 0))) ∧ ∀ n ∈ zs, inR .u8 n = true) :
    Calls Tryd.prog 3 #[.int .i64 k, v] W (fun e w' => e = .returned (.bool true) ∧ Below W.heap.size W w') := by
  have h0 : ∃ L, VOk W 0 L (.pl (.int true .i64 k)) (.int .i64 k) := VOk.plain fun ρ N => .int true .i64 k rk
  rcases VOk.bytes (W := W) 1 hv with h | h | ⟨n, l, hn, hm, hl, hr, h⟩
  · have ev := sumso_nil k
    rw [decide_eq_false n1, decide_eq_false n2, decide_eq_false n3] at ev
    exact law_of_go mixed hS10_ok [] ev (all1_paid rfl) rfl (.cons _ _ _ _ _ h0 (.cons _ _ _ _ _ h (.nil _)))
  · have ev := sumso_emp k
    rw [decide_eq_false n1, decide_eq_false n2, decide_eq_false n3] at ev
    exact law_of_go mixed hS10_ok [] ev (all1_paid rfl) rfl (.cons _ _ _ _ _ h0 (.cons _ _ _ _ _ h (.nil _)))
  · have hm' : n < 9223372036854775808 := by unfold maxLen at hm; omega
    by_cases hlong : (n : Int) > 2000
    · have ev := sumso_long k l n
      rw [decide_eq_true hm', decide_eq_true hlong] at ev
      exact law_of_go mixed hS10_ok [true] ev (all1_paid rfl) rfl (.cons _ _ _ _ _ h0 (.cons _ _ _ _ _ h (.nil _)))
    · have ev := sumso_buf k l n
      rw [decide_eq_true hm', decide_eq_false hlong, decide_eq_true (show 0 + n ≤ n by omega), decide_eq_false n1, decide_eq_false n2, decide_eq_false n3] at ev
      exact law_of_go mixed hS10_ok [false] ev (all1_paid rfl) rfl (.cons _ _ _ _ _ h0 (.cons _ _ _ _ _ h (.nil _)))
theorem sha2Sums_calls {k : Int} (rk : inR .i64 k = true) {v : Value} (W : World) (hT : TRep W) (hv : v = .slice none 0 0 ∨ ∃ (a : Addr) (len cap : Nat) (zs : List Int), v = .slice (some a) len cap ∧ len ≤ cap ∧ cap ≤ maxLen ∧ zs.length = cap ∧ (∀ i, i < zs.length → W.cell? (a.add i) = some (.int .u8 (zs.getD i 0))) ∧ ∀ n ∈ zs, inR .u8 n = true) :
    Calls Tryd.prog 3 #[.int .i64 k, v] W (fun e w' => e = .returned (.bool true) ∧ Below W.heap.size W w') := by
  by_cases n1 : k = 256
  · subst n1; exact sha2Sums_256 W hT hv
  · by_cases n2 : k = 384
    · subst n2; exact sha2Sums_384 W hT hv
    · by_cases n3 : k = 512
      · subst n3; exact sha2Sums_512 W hT hv
      · exact sha2Sums_o rk n1 n2 n3 W hT hv

theorem sha2Sums_lifted (os : Os) (started : os.Started) (H : Type) (enc : TypeId × Value → H) :
    ReturnsInHanded {} Tryd.checked os 3 .any (fun w args => (Rows.sha2SumsSpec.pre enc Tryd.prog Tryd.f3 Rows.sha2SumsRow.domain false w args ∧ laidMetH Tryd.prog Rows.sha2SumsRow.laid w) ∧ sizedMet enc Tryd.prog Tryd.f3 (OpenSpec.ofChange Rows.sha2SumsSpec) false w args)
      (Rows.sha2SumsSpec.post enc Tryd.prog Tryd.f3 false true false false) := by
  refine returnsInHanded_of_change_and (C := Tryd.checked) (X := fun w _ => laidMetH Tryd.prog Rows.sha2SumsRow.laid w) (fun _ _ _ hh h => h.of_heap hh) own started (by kernel_rfl) Tryd.func3
    (ChangeSpec.witness_shaped (enc := enc) (C := Tryd.checked) (os := os) (X := fun w _ => laidMetH Tryd.prog Rows.sha2SumsRow.laid w) false (World.laidAll Tryd.prog os Rows.sha2SumsRow.laid) #[.int .i64 0, .slice none 0 0] 8 (World.laidAll_os _ _ _)
      (World.shaped_of_ZipB (by kernel_rfl) (by kernel_rfl)) (by kernel_rfl) (by kernel_rfl) (by kernel_rfl)
      (by rw [MakeChecks.laidMetH_plain _ _ _ (by kernel_rfl)]; exact laidMet_laidAll _ (by kernel_rfl) (by kernel_rfl))) ?_
  intro W base args ds gs before hval0 hW _ _ hL _
  have hT : TRep W := trep_of hL
  have hval : ∀ (j : Nat) t v, Tryd.f3.params[j]? = some t → args[j]? = some v → Value.okWide Tryd.prog W .any base t v := hval0
  have hW' := hW
  obtain ⟨p, q, hA0, hV, rfl, hfz, hnd⟩ := hW
  have hA : DataW.TrodAll enc Tryd.prog W 0 (fun _ => true) true Tryd.f3.params.toList args.toList ds p := hA0
  rw [Tryd.params3] at hA hval
  obtain ⟨v0, v1, d0, d1, p0, p1, hargs, rfl, rfl, g0, g1⟩ := trodAll_two hA
  have hargs' : args = #[v0, v1] := by simpa using hargs
  subst hargs'
  obtain ⟨rfl, rfl⟩ := trodVars_none hV
  obtain ⟨x0, rfl, rfl, rfl, w0⟩ := open_int Tryd.underlying3 (hval 0 _ v0 rfl rfl) g0
  have hv1 := nums_open Tryd.underlying22 Tryd.underlying5 (by kernel_rfl) (hval 1 _ v1 rfl rfl) g1
  refine (sha2Sums_calls (wf_inR' w0) W hT hv1).mono fun e W' ⟨he, hb⟩ => ?_
  exact ⟨_, he, post_of_law laidOut (by rw [Tryd.params3]; decide +kernel) hW' rfl rfl Tryd.underlying4 rfl rfl rfl hb⟩

theorem sha2Sums_holds : Rows.Sha2SumsSaid :=
  OpenClaim.holds_of_wide 3 Tryd.f3 rfl rfl rfl rfl rfl rfl rfl ⟨rfl, rfl, rfl, rfl, rfl⟩ rfl rfl rfl rfl rfl (by kernel_rfl) Tryd.func3 (by kernel_rfl)
    (of_decide_eq_true (by kernel_rfl)) (by unfold Func.isWrapper; first | (rw [if_pos (by decide +kernel)]; kernel_rfl) | (rw [if_neg (by decide +kernel)]; exact ⟨rfl, rfl⟩))
    (fun os started H enc _ => sha2Sums_lifted os started H enc)
theorem sha2Sums_card_holds : Rows.Sha2SumsCardSaid :=
  Claim7.holds_tied_plain_at .later [] [.data, .data] true (true, "b7f51c3f02f86383c6dd5ed24a00553fb3921548d39dddfe28e2796c50cb5228") false sha2Sums_holds (fun _ h => by cases h) (by kernel_rfl) (fun _ h => by cases h) sha2Sums_row_tie rfl ⟨rfl, rfl⟩ (by kernel_rfl) rfl
    (fun f fn hf hfn => by
      obtain rfl : f = 3 := Option.some.inj (hf.symm.trans (by kernel_rfl))
      obtain rfl : fn = Tryd.f3 := (Option.some.inj (Tryd.func3.symm.trans hfn)).symm
      exact ⟨by kernel_rfl, fun j t ht => by
        rw [Tryd.params3] at ht
        have hm : t ∈ [3, 22] := by simpa using Array.mem_of_getElem? ht
        have hall : ([3, 22].all fun u => !Tryd.prog.wantsStandIn u) = true := by kernel_rfl
        exact (show Tryd.prog.wantsStandIn t = false by simpa using List.all_eq_true.1 hall t hm)⟩)
    (by kernel_rfl)
end Go.Proofs.YtclkicobnmjpoaaDoor
