/- There are three kinds, with their sizes; of others nothing is: for every kind and all bytes the law answers true. No condition. -/
import Derived.Test.YtkaembfigkdbnaaDoorShaF
namespace Go.Proofs.YtkaembfigkdbnaaDoor
open Go.Ev Go.Sh
open Go.ChangeShapes Go.WideShapes Go.ChangeAt Go.RowKit
set_option maxRecDepth 100000
theorem kin256_buf (l : List Int) (n : Nat) : res ((funcA Tryd.prog qS hS7 100 6 (cArgs 0 [.pl (.int false .i64 256), .buf true .u8 n l]) (cMem [.pl (.int false .i64 256), .buf true .u8 n l])).go [false]) = some ([decide (n < 9223372036854775808), !decide ((n : Int) > 1000), decide (0 + n ≤ n), true, true, decide (n < 9223372036854775808), all32 (wrEnd256 (wrI beg256 Z128 0 ((l.drop 0).take n) n)).1, decide (0 ≤ (wrEnd256 (wrI beg256 Z128 0 ((l.drop 0).take n) n)).2.2 ∧ (wrEnd256 (wrI beg256 Z128 0 ((l.drop 0).take n) n)).2.2 < 18446744073709551616), decide (0 + n ≤ n), true, true, decide (n < 9223372036854775808), all32 (wrEnd256 (wrI beg256 Z128 0 ((l.drop 0).take n) n)).1, decide (0 ≤ (wrEnd256 (wrI beg256 Z128 0 ((l.drop 0).take n) n)).2.2 ∧ (wrEnd256 (wrI beg256 Z128 0 ((l.drop 0).take n) n)).2.2 < 18446744073709551616)], .bool false true) := by kernel_rfl
theorem kin256_long (l : List Int) (n : Nat) : res ((funcA Tryd.prog qS hS7 100 6 (cArgs 0 [.pl (.int false .i64 256), .buf true .u8 n l]) (cMem [.pl (.int false .i64 256), .buf true .u8 n l])).go [true]) = some ([decide (n < 9223372036854775808), decide ((n : Int) > 1000)], .bool false true) := by kernel_rfl
theorem kin256_nil : res ((funcA Tryd.prog qS hS7 100 6 (cArgs 0 [.pl (.int false .i64 256), .pl .nilslice]) (cMem [.pl (.int false .i64 256), .pl .nilslice])).go []) = some ([true, true, true, true], .bool false true) := by kernel_rfl
theorem kin256_emp : res ((funcA Tryd.prog qS hS7 100 6 (cArgs 0 [.pl (.int false .i64 256), .empty]) (cMem [.pl (.int false .i64 256), .empty])).go []) = some ([true, true, true, true], .bool false true) := by kernel_rfl
theorem kin384_buf (l : List Int) (n : Nat) : res ((funcA Tryd.prog qS hS7 100 6 (cArgs 0 [.pl (.int false .i64 384), .buf true .u8 n l]) (cMem [.pl (.int false .i64 384), .buf true .u8 n l])).go [false]) = some ([decide (n < 9223372036854775808), !decide ((n : Int) > 1000), decide (0 + n ≤ n), true, true, decide (n < 9223372036854775808), all64 (wrEnd384 (wrI beg384 Z128 0 ((l.drop 0).take n) n)).1, decide (0 ≤ (wrEnd384 (wrI beg384 Z128 0 ((l.drop 0).take n) n)).2.2 ∧ (wrEnd384 (wrI beg384 Z128 0 ((l.drop 0).take n) n)).2.2 < 18446744073709551616), decide (0 + n ≤ n), true, true, decide (n < 9223372036854775808), all64 (wrEnd384 (wrI beg384 Z128 0 ((l.drop 0).take n) n)).1, decide (0 ≤ (wrEnd384 (wrI beg384 Z128 0 ((l.drop 0).take n) n)).2.2 ∧ (wrEnd384 (wrI beg384 Z128 0 ((l.drop 0).take n) n)).2.2 < 18446744073709551616)], .bool false true) := by kernel_rfl
theorem kin384_long (l : List Int) (n : Nat) : res ((funcA Tryd.prog qS hS7 100 6 (cArgs 0 [.pl (.int false .i64 384), .buf true .u8 n l]) (cMem [.pl (.int false .i64 384), .buf true .u8 n l])).go [true]) = some ([decide (n < 9223372036854775808), decide ((n : Int) > 1000)], .bool false true) := by kernel_rfl
theorem kin384_nil : res ((funcA Tryd.prog qS hS7 100 6 (cArgs 0 [.pl (.int false .i64 384), .pl .nilslice]) (cMem [.pl (.int false .i64 384), .pl .nilslice])).go []) = some ([true, true, true, true], .bool false true) := by kernel_rfl
theorem kin384_emp : res ((funcA Tryd.prog qS hS7 100 6 (cArgs 0 [.pl (.int false .i64 384), .empty]) (cMem [.pl (.int false .i64 384), .empty])).go []) = some ([true, true, true, true], .bool false true) := by kernel_rfl
theorem kin512_buf (l : List Int) (n : Nat) : res ((funcA Tryd.prog qS hS7 100 6 (cArgs 0 [.pl (.int false .i64 512), .buf true .u8 n l]) (cMem [.pl (.int false .i64 512), .buf true .u8 n l])).go [false]) = some ([decide (n < 9223372036854775808), !decide ((n : Int) > 1000), decide (0 + n ≤ n), true, true, decide (n < 9223372036854775808), all64 (wrEnd512 (wrI beg512 Z128 0 ((l.drop 0).take n) n)).1, decide (0 ≤ (wrEnd512 (wrI beg512 Z128 0 ((l.drop 0).take n) n)).2.2 ∧ (wrEnd512 (wrI beg512 Z128 0 ((l.drop 0).take n) n)).2.2 < 18446744073709551616), decide (0 + n ≤ n), true, true, decide (n < 9223372036854775808), all64 (wrEnd512 (wrI beg512 Z128 0 ((l.drop 0).take n) n)).1, decide (0 ≤ (wrEnd512 (wrI beg512 Z128 0 ((l.drop 0).take n) n)).2.2 ∧ (wrEnd512 (wrI beg512 Z128 0 ((l.drop 0).take n) n)).2.2 < 18446744073709551616)], .bool false true) := by kernel_rfl
theorem kin512_long (l : List Int) (n : Nat) : res ((funcA Tryd.prog qS hS7 100 6 (cArgs 0 [.pl (.int false .i64 512), .buf true .u8 n l]) (cMem [.pl (.int false .i64 512), .buf true .u8 n l])).go [true]) = some ([decide (n < 9223372036854775808), decide ((n : Int) > 1000)], .bool false true) := by kernel_rfl
theorem kin512_nil : res ((funcA Tryd.prog qS hS7 100 6 (cArgs 0 [.pl (.int false .i64 512), .pl .nilslice]) (cMem [.pl (.int false .i64 512), .pl .nilslice])).go []) = some ([true, true, true, true], .bool false true) := by kernel_rfl
theorem kin512_emp : res ((funcA Tryd.prog qS hS7 100 6 (cArgs 0 [.pl (.int false .i64 512), .empty]) (cMem [.pl (.int false .i64 512), .empty])).go []) = some ([true, true, true, true], .bool false true) := by kernel_rfl
theorem kino_buf (k : Int) (l : List Int) (n : Nat) : res ((funcA Tryd.prog qS hS7 100 6 (cArgs 0 [.pl (.int true .i64 k), .buf true .u8 n l]) (cMem [.pl (.int true .i64 k), .buf true .u8 n l])).go [false, false, false, false]) = some ([!decide (k = 256), !decide (k = 384), !decide (k = 512), !decide (k = 256), !decide (k = 384), !decide (k = 512), decide (n < 9223372036854775808), !decide ((n : Int) > 1000), !decide (k = 256), !decide (k = 384), !decide (k = 512), !decide (k = 256), !decide (k = 384), !decide (k = 512), !decide (k = 256), !decide (k = 384), !decide (k = 512)], .bool false true) := by kernel_rfl
theorem kino_long (k : Int) (l : List Int) (n : Nat) : res ((funcA Tryd.prog qS hS7 100 6 (cArgs 0 [.pl (.int true .i64 k), .buf true .u8 n l]) (cMem [.pl (.int true .i64 k), .buf true .u8 n l])).go [false, false, false, true]) = some ([!decide (k = 256), !decide (k = 384), !decide (k = 512), !decide (k = 256), !decide (k = 384), !decide (k = 512), decide (n < 9223372036854775808), decide ((n : Int) > 1000)], .bool false true) := by kernel_rfl
theorem kino_nil (k : Int) : res ((funcA Tryd.prog qS hS7 100 6 (cArgs 0 [.pl (.int true .i64 k), .pl .nilslice]) (cMem [.pl (.int true .i64 k), .pl .nilslice])).go [false, false, false]) = some ([!decide (k = 256), !decide (k = 384), !decide (k = 512), !decide (k = 256), !decide (k = 384), !decide (k = 512), !decide (k = 256), !decide (k = 384), !decide (k = 512), !decide (k = 256), !decide (k = 384), !decide (k = 512), !decide (k = 256), !decide (k = 384), !decide (k = 512)], .bool false true) := by kernel_rfl
theorem kino_emp (k : Int) : res ((funcA Tryd.prog qS hS7 100 6 (cArgs 0 [.pl (.int true .i64 k), .empty]) (cMem [.pl (.int true .i64 k), .empty])).go [false, false, false]) = some ([!decide (k = 256), !decide (k = 384), !decide (k = 512), !decide (k = 256), !decide (k = 384), !decide (k = 512), !decide (k = 256), !decide (k = 384), !decide (k = 512), !decide (k = 256), !decide (k = 384), !decide (k = 512), !decide (k = 256), !decide (k = 384), !decide (k = 512)], .bool false true) := by kernel_rfl
theorem sha2Kinds_256 {v : Value} (W : World) (hT : TRep W) (hv : v = .slice none 0 0 ∨ ∃ (a : Addr) (len cap : Nat) (zs : List Int), v = .slice (some a) len cap ∧ len ≤ cap ∧ cap ≤ maxLen ∧ zs.length = cap ∧ (∀ i, i < zs.length → W.cell? (a.add i) = some (.int .u8 (zs.getD i 0))) ∧ ∀ n ∈ zs, inR .u8 n = true) :
    Calls Tryd.prog 6 #[.int .i64 256, v] W (fun e w' => e = .returned (.bool true) ∧ Below W.heap.size W w') := by
  have h0 : ∃ L, VOk W 0 L (.pl (.int false .i64 256)) (.int .i64 256) := VOk.plain fun ρ N => .int false .i64 256 (by decide)
  rcases hv with rfl | ⟨ad, len, cap, zs, rfl, hlen, hcap, hz, hc, hw⟩
  · have hvs : VOks W 0 ([.pl (.int false .i64 256), .pl .nilslice]) [.int .i64 256, .slice none 0 0] := .cons _ _ _ _ _ h0 (.cons _ _ _ _ _ (VOk.plain fun ρ N => .nilslice) (.nil _))
    have ev := kin256_nil
    exact law_of_go mixed hS7_ok [] ev (all1_paid rfl) rfl hvs
  · by_cases hc0 : cap = 0
    · have hl0 : len = 0 := by omega
      subst hc0 hl0
      have hvs : VOks W 0 ([.pl (.int false .i64 256), .empty]) [.int .i64 256, .slice (some ad) 0 0] := .cons _ _ _ _ _ h0 (.cons _ _ _ _ _ VOk.empty (.nil _))
      have ev := kin256_emp
      exact law_of_go mixed hS7_ok [] ev (all1_paid rfl) rfl hvs
    · obtain ⟨L, hL⟩ := VOk.slice (W := W) (j := 1) true hz hlen (by omega) hc hw
      have hm' : len < 9223372036854775808 := by unfold maxLen at hcap; omega
      have hvs : VOks W 0 (.pl (.int false .i64 256) :: .buf true .u8 len (zs.take len) :: []) [.int .i64 256, .slice (some ad) len cap] := .cons _ _ _ _ _ h0 (.cons _ _ _ _ _ ⟨L, hL⟩ (.nil _))
      have hlt : (zs.take len).length = len := by rw [List.length_take]; omega
      by_cases hlong : (len : Int) > 1000
      · have ev := kin256_long (zs.take len) len
        rw [decide_eq_true hm', decide_eq_true hlong] at ev
        exact law_of_go mixed hS7_ok [true] ev (all1_paid rfl) rfl hvs
      · obtain ⟨hA, hC⟩ := end256_ok hlt
        have ev := kin256_buf (zs.take len) len
        rw [decide_eq_true hm', decide_eq_false hlong, decide_eq_true (show 0 + len ≤ len by omega), hA, hC] at ev
        exact law_of_go mixed hS7_ok [false] ev (all1_paid rfl) rfl hvs
theorem sha2Kinds_384 {v : Value} (W : World) (hT : TRep W) (hv : v = .slice none 0 0 ∨ ∃ (a : Addr) (len cap : Nat) (zs : List Int), v = .slice (some a) len cap ∧ len ≤ cap ∧ cap ≤ maxLen ∧ zs.length = cap ∧ (∀ i, i < zs.length → W.cell? (a.add i) = some (.int .u8 (zs.getD i 0))) ∧ ∀ n ∈ zs, inR .u8 n = true) :
    Calls Tryd.prog 6 #[.int .i64 384, v] W (fun e w' => e = .returned (.bool true) ∧ Below W.heap.size W w') := by
  have h0 : ∃ L, VOk W 0 L (.pl (.int false .i64 384)) (.int .i64 384) := VOk.plain fun ρ N => .int false .i64 384 (by decide)
  rcases hv with rfl | ⟨ad, len, cap, zs, rfl, hlen, hcap, hz, hc, hw⟩
  · have hvs : VOks W 0 ([.pl (.int false .i64 384), .pl .nilslice]) [.int .i64 384, .slice none 0 0] := .cons _ _ _ _ _ h0 (.cons _ _ _ _ _ (VOk.plain fun ρ N => .nilslice) (.nil _))
    have ev := kin384_nil
    exact law_of_go mixed hS7_ok [] ev (all1_paid rfl) rfl hvs
  · by_cases hc0 : cap = 0
    · have hl0 : len = 0 := by omega
      subst hc0 hl0
      have hvs : VOks W 0 ([.pl (.int false .i64 384), .empty]) [.int .i64 384, .slice (some ad) 0 0] := .cons _ _ _ _ _ h0 (.cons _ _ _ _ _ VOk.empty (.nil _))
      have ev := kin384_emp
      exact law_of_go mixed hS7_ok [] ev (all1_paid rfl) rfl hvs
    · obtain ⟨L, hL⟩ := VOk.slice (W := W) (j := 1) true hz hlen (by omega) hc hw
      have hm' : len < 9223372036854775808 := by unfold maxLen at hcap; omega
      have hvs : VOks W 0 (.pl (.int false .i64 384) :: .buf true .u8 len (zs.take len) :: []) [.int .i64 384, .slice (some ad) len cap] := .cons _ _ _ _ _ h0 (.cons _ _ _ _ _ ⟨L, hL⟩ (.nil _))
      have hlt : (zs.take len).length = len := by rw [List.length_take]; omega
      by_cases hlong : (len : Int) > 1000
      · have ev := kin384_long (zs.take len) len
        rw [decide_eq_true hm', decide_eq_true hlong] at ev
        exact law_of_go mixed hS7_ok [true] ev (all1_paid rfl) rfl hvs
      · obtain ⟨hA, hC⟩ := end384_ok hlt
        have ev := kin384_buf (zs.take len) len
        rw [decide_eq_true hm', decide_eq_false hlong, decide_eq_true (show 0 + len ≤ len by omega), hA, hC] at ev
        exact law_of_go mixed hS7_ok [false] ev (all1_paid rfl) rfl hvs
theorem sha2Kinds_512 {v : Value} (W : World) (hT : TRep W) (hv : v = .slice none 0 0 ∨ ∃ (a : Addr) (len cap : Nat) (zs : List Int), v = .slice (some a) len cap ∧ len ≤ cap ∧ cap ≤ maxLen ∧ zs.length = cap ∧ (∀ i, i < zs.length → W.cell? (a.add i) = some (.int .u8 (zs.getD i 0))) ∧ ∀ n ∈ zs, inR .u8 n = true) :
    Calls Tryd.prog 6 #[.int .i64 512, v] W (fun e w' => e = .returned (.bool true) ∧ Below W.heap.size W w') := by
  have h0 : ∃ L, VOk W 0 L (.pl (.int false .i64 512)) (.int .i64 512) := VOk.plain fun ρ N => .int false .i64 512 (by decide)
  rcases hv with rfl | ⟨ad, len, cap, zs, rfl, hlen, hcap, hz, hc, hw⟩
  · have hvs : VOks W 0 ([.pl (.int false .i64 512), .pl .nilslice]) [.int .i64 512, .slice none 0 0] := .cons _ _ _ _ _ h0 (.cons _ _ _ _ _ (VOk.plain fun ρ N => .nilslice) (.nil _))
    have ev := kin512_nil
    exact law_of_go mixed hS7_ok [] ev (all1_paid rfl) rfl hvs
  · by_cases hc0 : cap = 0
    · have hl0 : len = 0 := by omega
      subst hc0 hl0
      have hvs : VOks W 0 ([.pl (.int false .i64 512), .empty]) [.int .i64 512, .slice (some ad) 0 0] := .cons _ _ _ _ _ h0 (.cons _ _ _ _ _ VOk.empty (.nil _))
      have ev := kin512_emp
      exact law_of_go mixed hS7_ok [] ev (all1_paid rfl) rfl hvs
    · obtain ⟨L, hL⟩ := VOk.slice (W := W) (j := 1) true hz hlen (by omega) hc hw
      have hm' : len < 9223372036854775808 := by unfold maxLen at hcap; omega
      have hvs : VOks W 0 (.pl (.int false .i64 512) :: .buf true .u8 len (zs.take len) :: []) [.int .i64 512, .slice (some ad) len cap] := .cons _ _ _ _ _ h0 (.cons _ _ _ _ _ ⟨L, hL⟩ (.nil _))
      have hlt : (zs.take len).length = len := by rw [List.length_take]; omega
      by_cases hlong : (len : Int) > 1000
      · have ev := kin512_long (zs.take len) len
        rw [decide_eq_true hm', decide_eq_true hlong] at ev
        exact law_of_go mixed hS7_ok [true] ev (all1_paid rfl) rfl hvs
      · obtain ⟨hA, hC⟩ := end512_ok hlt
        have ev := kin512_buf (zs.take len) len
        rw [decide_eq_true hm', decide_eq_false hlong, decide_eq_true (show 0 + len ≤ len by omega), hA, hC] at ev
        exact law_of_go mixed hS7_ok [false] ev (all1_paid rfl) rfl hvs
theorem sha2Kinds_other {k : Int} (rk : inR .i64 k = true) (n1 : k ≠ 256) (n2 : k ≠ 384) (n3 : k ≠ 512) {v : Value} (W : World) (hT : TRep W) (hv : v = .slice none 0 0 ∨ ∃ (a : Addr) (len cap : Nat) (zs : List Int), v = .slice (some a) len cap ∧ len ≤ cap ∧ cap ≤ maxLen ∧ zs.length = cap ∧ (∀ i, i < zs.length → W.cell? (a.add i) = some (.int .u8 (zs.getD i 0))) ∧ ∀ n ∈ zs, inR .u8 n = true) :
    Calls Tryd.prog 6 #[.int .i64 k, v] W (fun e w' => e = .returned (.bool true) ∧ Below W.heap.size W w') := by
  have h0 : ∃ L, VOk W 0 L (.pl (.int true .i64 k)) (.int .i64 k) := VOk.plain fun ρ N => .int true .i64 k rk
  rcases hv with rfl | ⟨ad, len, cap, zs, rfl, hlen, hcap, hz, hc, hw⟩
  · have hvs : VOks W 0 ([.pl (.int true .i64 k), .pl .nilslice]) [.int .i64 k, .slice none 0 0] := .cons _ _ _ _ _ h0 (.cons _ _ _ _ _ (VOk.plain fun ρ N => .nilslice) (.nil _))
    have ev := kino_nil k
    rw [decide_eq_false n1, decide_eq_false n2, decide_eq_false n3] at ev
    exact law_of_go mixed hS7_ok [false, false, false] ev (all1_paid rfl) rfl hvs
  · by_cases hc0 : cap = 0
    · have hl0 : len = 0 := by omega
      subst hc0 hl0
      have hvs : VOks W 0 ([.pl (.int true .i64 k), .empty]) [.int .i64 k, .slice (some ad) 0 0] := .cons _ _ _ _ _ h0 (.cons _ _ _ _ _ VOk.empty (.nil _))
      have ev := kino_emp k
      rw [decide_eq_false n1, decide_eq_false n2, decide_eq_false n3] at ev
      exact law_of_go mixed hS7_ok [false, false, false] ev (all1_paid rfl) rfl hvs
    · obtain ⟨L, hL⟩ := VOk.slice (W := W) (j := 1) true hz hlen (by omega) hc hw
      have hm' : len < 9223372036854775808 := by unfold maxLen at hcap; omega
      have hvs : VOks W 0 (.pl (.int true .i64 k) :: .buf true .u8 len (zs.take len) :: []) [.int .i64 k, .slice (some ad) len cap] := .cons _ _ _ _ _ h0 (.cons _ _ _ _ _ ⟨L, hL⟩ (.nil _))
      have hlt : (zs.take len).length = len := by rw [List.length_take]; omega
      by_cases hlong : (len : Int) > 1000
      · have ev := kino_long k (zs.take len) len
        rw [decide_eq_false n1, decide_eq_false n2, decide_eq_false n3, decide_eq_true hm', decide_eq_true hlong] at ev
        exact law_of_go mixed hS7_ok [false, false, false, true] ev (all1_paid rfl) rfl hvs
      · have ev := kino_buf k (zs.take len) len
        rw [decide_eq_false n1, decide_eq_false n2, decide_eq_false n3, decide_eq_true hm', decide_eq_false hlong] at ev
        exact law_of_go mixed hS7_ok [false, false, false, false] ev (all1_paid rfl) rfl hvs
theorem sha2Kinds_calls {k : Int} (rk : inR .i64 k = true) {v : Value} (W : World) (hT : TRep W) (hv : v = .slice none 0 0 ∨ ∃ (a : Addr) (len cap : Nat) (zs : List Int), v = .slice (some a) len cap ∧ len ≤ cap ∧ cap ≤ maxLen ∧ zs.length = cap ∧ (∀ i, i < zs.length → W.cell? (a.add i) = some (.int .u8 (zs.getD i 0))) ∧ ∀ n ∈ zs, inR .u8 n = true) :
    Calls Tryd.prog 6 #[.int .i64 k, v] W (fun e w' => e = .returned (.bool true) ∧ Below W.heap.size W w') := by
  by_cases n1 : k = 256
  · subst n1; exact sha2Kinds_256 W hT hv
  · by_cases n2 : k = 384
    · subst n2; exact sha2Kinds_384 W hT hv
    · by_cases n3 : k = 512
      · subst n3; exact sha2Kinds_512 W hT hv
      · exact sha2Kinds_other rk n1 n2 n3 W hT hv

theorem sha2Kinds_lifted (os : Os) (started : os.Started) (H : Type) (enc : TypeId × Value → H) :
    ReturnsInHanded {} Tryd.checked os 6 .any (fun w args => (Rows.sha2KindsSpec.pre enc Tryd.prog Tryd.f6 Rows.sha2KindsRow.domain false w args ∧ laidMetH Tryd.prog Rows.sha2KindsRow.laid w) ∧ sizedMet enc Tryd.prog Tryd.f6 (OpenSpec.ofChange Rows.sha2KindsSpec) false w args)
      (Rows.sha2KindsSpec.post enc Tryd.prog Tryd.f6 false true false false) := by
  refine returnsInHanded_of_change_and (C := Tryd.checked) (X := fun w _ => laidMetH Tryd.prog Rows.sha2KindsRow.laid w) (fun _ _ _ hh h => h.of_heap hh) own started (by kernel_rfl) Tryd.func6
    (ChangeSpec.witness_shaped (enc := enc) (C := Tryd.checked) (os := os) (X := fun w _ => laidMetH Tryd.prog Rows.sha2KindsRow.laid w) false (World.laidAll Tryd.prog os Rows.sha2KindsRow.laid) #[.int .i64 0, .slice none 0 0] 8 (World.laidAll_os _ _ _)
      (World.shaped_of_ZipB (by kernel_rfl) (by kernel_rfl)) (by kernel_rfl) (by kernel_rfl) (by kernel_rfl)
      (by rw [MakeChecks.laidMetH_plain _ _ _ (by kernel_rfl)]; exact laidMet_laidAll _ (by kernel_rfl) (by kernel_rfl))) ?_
  intro W base args ds gs before hval0 hW _ _ hL _
  have hT : TRep W := trep_of hL
  have hval : ∀ (j : Nat) t v, Tryd.f6.params[j]? = some t → args[j]? = some v → Value.okWide Tryd.prog W .any base t v := hval0
  have hW' := hW
  obtain ⟨p, q, hA0, hV, rfl, hfz, hnd⟩ := hW
  have hA : DataW.TrodAll enc Tryd.prog W 0 (fun _ => true) true Tryd.f6.params.toList args.toList ds p := hA0
  rw [Tryd.params6] at hA hval
  obtain ⟨v0, v1, d0, d1, p0, p1, hargs, rfl, rfl, g0, g1⟩ := trodAll_two hA
  have hargs' : args = #[v0, v1] := by simpa using hargs
  subst hargs'
  obtain ⟨rfl, rfl⟩ := trodVars_none hV
  obtain ⟨x0, rfl, rfl, rfl, w0⟩ := open_int Tryd.underlying3 (hval 0 _ v0 rfl rfl) g0
  have hv1 := nums_open Tryd.underlying22 Tryd.underlying5 (by kernel_rfl) (hval 1 _ v1 rfl rfl) g1
  refine (sha2Kinds_calls (wf_inR' w0) W hT hv1).mono fun e W' ⟨he, hb⟩ => ?_
  exact ⟨_, he, post_of_law laidOut (by rw [Tryd.params6]; decide +kernel) hW' rfl rfl Tryd.underlying4 rfl rfl rfl hb⟩

theorem sha2Kinds_holds : Rows.Sha2KindsSaid :=
  OpenClaim.holds_of_wide 6 Tryd.f6 rfl rfl rfl rfl rfl rfl rfl ⟨rfl, rfl, rfl, rfl, rfl⟩ rfl rfl rfl rfl rfl (by kernel_rfl) Tryd.func6 (by kernel_rfl)
    (of_decide_eq_true (by kernel_rfl)) (by unfold Func.isWrapper; first | (rw [if_pos (by decide +kernel)]; kernel_rfl) | (rw [if_neg (by decide +kernel)]; exact ⟨rfl, rfl⟩))
    (fun os started H enc _ => sha2Kinds_lifted os started H enc)
theorem sha2Kinds_card_holds : Rows.Sha2KindsCardSaid :=
  Claim7.holds_tied_plain_at .later [] [.data, .data] true (true, "b6ccad915b6b1824b3aad6bc1acb827443d22660934be0b19285169a77018eed") false sha2Kinds_holds (fun _ h => by cases h) (by kernel_rfl) (fun _ h => by cases h) sha2Kinds_row_tie rfl ⟨rfl, rfl⟩ (by kernel_rfl) rfl
    (fun f fn hf hfn => by
      obtain rfl : f = 6 := Option.some.inj (hf.symm.trans (by kernel_rfl))
      obtain rfl : fn = Tryd.f6 := (Option.some.inj (Tryd.func6.symm.trans hfn)).symm
      exact ⟨by kernel_rfl, fun j t ht => by
        rw [Tryd.params6] at ht
        have hm : t ∈ [3, 22] := by simpa using Array.mem_of_getElem? ht
        have hall : ([3, 22].all fun u => !Tryd.prog.wantsStandIn u) = true := by kernel_rfl
        exact (show Tryd.prog.wantsStandIn t = false by simpa using List.all_eq_true.1 hall t hm)⟩)
    (by kernel_rfl)
end Go.Proofs.YtkaembfigkdbnaaDoor
