/- What becomes of bytes that were written, or of a hash that was answered, plays no part: for every kind, all bytes and every byte the law answers true. No condition. -/
import Derived.Test.YtclkicobnmjpoaaDoorShaJ
import Derived.Test.YtclkicobnmjpoaaDoorShaL
namespace Go.Proofs.YtclkicobnmjpoaaDoor
open Go.Ev Go.Sh
open Go.ChangeShapes Go.WideShapes Go.ChangeAt Go.RowKit
set_option maxRecDepth 100000
theorem and1 {n : Nat} (h : 1 ≤ n) (h2 : n ≤ 2000) : (decide (1 ≤ n) && decide (n ≤ 1000000000)) = true := by
  rw [decide_eq_true h, decide_eq_true (show n ≤ 1000000000 by omega)]; rfl
theorem own256_buf (x : Int) (l : List Int) (n : Nat) : res ((funcL Tryd.prog qS hS10 owΛ256 200 6 (cArgs 0 [.pl (.int false .i64 256), .buf true .u8 n l, .pl (.int true .u8 x)]) (cMem [.pl (.int false .i64 256), .buf true .u8 n l, .pl (.int true .u8 x)])).go [false]) = some ([decide (n < 9223372036854775808), !decide ((n : Int) > 1000), decide (0 + n ≤ n), decide (1 ≤ n) && decide (n ≤ 1000000000), decide (0 + n ≤ ((l.drop 0).take n).length), true, true, decide (n < 9223372036854775808), decide (n < 9223372036854775808), decide (n = n), decide (n = n), decide ((n : Int) = (n : Int)), true, decide (((l.drop 0).take n).length = n), decide (n ≤ 1000), all32 (wrEnd256 (wrI beg256 Z128 0 ((((l.drop 0).take n).drop 0).take n) n)).1, decide (0 ≤ (wrEnd256 (wrI beg256 Z128 0 ((((l.drop 0).take n).drop 0).take n) n)).2.2 ∧ (wrEnd256 (wrI beg256 Z128 0 ((((l.drop 0).take n).drop 0).take n) n)).2.2 < 18446744073709551616), all32 (wrEnd256 (wrI beg256 Z128 0 ((((l.drop 0).take n).drop 0).take n) n)).1, decide (0 ≤ (wrEnd256 (wrI beg256 Z128 0 ((((l.drop 0).take n).drop 0).take n) n)).2.2 ∧ (wrEnd256 (wrI beg256 Z128 0 ((((l.drop 0).take n).drop 0).take n) n)).2.2 < 18446744073709551616), decide (0 + n ≤ n), decide (1 ≤ n), decide (n ≤ 400000000)], .bool true (decide (toldL 32 4 (endW 32 64 64 (wrEnd256 (wrI beg256 Z128 0 ((((l.drop 0).take n).drop 0).take n) n)).1 (wrEnd256 (wrI beg256 Z128 0 ((((l.drop 0).take n).drop 0).take n) n)).2.1 (wrEnd256 (wrI beg256 Z128 0 ((((l.drop 0).take n).drop 0).take n) n)).2.2).1 = toldL 32 4 (hashW 32 64 64 beg256 ((l.drop 0).take n))))) := by kernel_rfl
theorem own256_long (x : Int) (l : List Int) (n : Nat) : res ((funcL Tryd.prog qS hS10 owΛ256 200 6 (cArgs 0 [.pl (.int false .i64 256), .buf true .u8 n l, .pl (.int true .u8 x)]) (cMem [.pl (.int false .i64 256), .buf true .u8 n l, .pl (.int true .u8 x)])).go [true]) = some ([decide (n < 9223372036854775808), decide ((n : Int) > 1000)], .bool false true) := by kernel_rfl
theorem own256_nil (x : Int) : resAll ((funcL Tryd.prog qS hS10 owΛ256 200 6 (cArgs 0 [.pl (.int false .i64 256), .pl .nilslice, .pl (.int true .u8 x)]) (cMem [.pl (.int false .i64 256), .pl .nilslice, .pl (.int true .u8 x)])).go []) = some (true, .bool true true) := by kernel_rfl
theorem own256_emp (x : Int) : resAll ((funcL Tryd.prog qS hS10 owΛ256 200 6 (cArgs 0 [.pl (.int false .i64 256), .empty, .pl (.int true .u8 x)]) (cMem [.pl (.int false .i64 256), .empty, .pl (.int true .u8 x)])).go []) = some (true, .bool true true) := by kernel_rfl
theorem sha2Own_256 {x : Int} (rx : inR .u8 x = true) {v : Value} (W : World) (hT : TRep W) (hv : v = .slice none 0 0 ∨ ∃ (a : Addr) (len cap : Nat) (zs : List Int), v = .slice (some a) len cap ∧ len ≤ cap ∧ cap ≤ 140737488351232 ∧ zs.length = cap ∧ (∀ i, i < zs.length → W.cell? (a.add i) = some (.int .u8 (zs.getD i 0))) ∧ ∀ n ∈ zs, inR .u8 n = true) :
    Calls Tryd.prog 6 #[.int .i64 256, v, .int .u8 x] W (fun e w' => e = .returned (.bool true) ∧ Below W.heap.size W w') := by
  have h0 : ∃ L, VOk W 0 L (.pl (.int false .i64 256)) (.int .i64 256) := VOk.plain fun ρ N => .int false .i64 256 (by decide)
  have h2 : ∃ L, VOk W 2 L (.pl (.int true .u8 x)) (.int .u8 x) := VOk.plain fun ρ N => .int true .u8 x rx
  have hΛ : ∀ fn c, Tryd.prog.funcs[6]? = some fn → fn.body = some c → LOkN 3 Tryd.prog c owΛ256 := fun fn c hf hb => by rw [bodyOf_eq hf hb]; exact ow256_lok.toN
  rcases VOk.bytes (W := W) 1 hv with h | h | ⟨n, l, pn, hn9, hl, hr, h⟩
  · obtain ⟨o, e1, e2⟩ := res_all (own256_nil x)
    exact law_of_goN mixed hS10_ok hΛ [] e1 e2 rfl (.cons _ _ _ _ _ h0 (.cons _ _ _ _ _ h (.cons _ _ _ _ _ h2 (.nil _))))
  · obtain ⟨o, e1, e2⟩ := res_all (own256_emp x)
    exact law_of_goN mixed hS10_ok hΛ [] e1 e2 rfl (.cons _ _ _ _ _ h0 (.cons _ _ _ _ _ h (.cons _ _ _ _ _ h2 (.nil _))))
  · have dn : decide (n < 9223372036854775808) = true := decide_eq_true (by omega)
    by_cases hlong : (n : Int) > 1000
    · exact law_of_goN mixed hS10_ok hΛ [true] (own256_long x l n) (paid_cons dn (paid_cons (decide_eq_true hlong) Paid.nil)) rfl (.cons _ _ _ _ _ h0 (.cons _ _ _ _ _ h (.cons _ _ _ _ _ h2 (.nil _))))
    · have hG : (!decide ((n : Int) > 1000)) = true := by rw [decide_eq_false hlong]; rfl
      have rn : n ≤ 2000 := by omega
      have tl : (l.drop 0).take n = l := by rw [List.drop_zero, List.take_of_length_le (by omega)]
      obtain ⟨a1, c1⟩ := end256_ok (l := ((l.drop 0).take n)) (n := n) (by rw [tl]; exact hl)
      have q1 : toldL 32 4 (endW 32 64 64 (wrEnd256 (wrI beg256 Z128 0 ((((l.drop 0).take n).drop 0).take n) n)).1 (wrEnd256 (wrI beg256 Z128 0 ((((l.drop 0).take n).drop 0).take n) n)).2.1 (wrEnd256 (wrI beg256 Z128 0 ((((l.drop 0).take n).drop 0).take n) n)).2.2).1 = toldL 32 4 (hashW 32 64 64 beg256 ((l.drop 0).take n)) := by rw [wrEnd256_all (l := ((l.drop 0).take n)) (n := n) (by rw [tl]; exact hl), tl, hash_prog (by decide) (by decide) (by omega)]
      exact law_of_goN mixed hS10_ok hΛ [false] (own256_buf x l n) (paid_cons dn (paid_cons hG (paid_cons (decide_eq_true (Nat.le_of_eq (Nat.zero_add _))) (paid_cons (and1 pn rn) (paid_cons (decide_eq_true (by rw [tl]; omega)) (paid_cons rfl (paid_cons rfl (paid_cons dn (paid_cons dn (paid_cons (decide_eq_true rfl) (paid_cons (decide_eq_true rfl) (paid_cons (decide_eq_true rfl) (paid_cons rfl (paid_cons (decide_eq_true (by rw [tl]; omega)) (paid_cons (decide_eq_true (by omega)) (paid_cons a1 (paid_cons c1 (paid_cons a1 (paid_cons c1 (paid_cons (decide_eq_true (Nat.le_of_eq (Nat.zero_add _))) (paid_cons (decide_eq_true pn) (paid_cons (decide_eq_true (by omega)) (Paid.nil))))))))))))))))))))))) (decide_eq_true q1) (.cons _ _ _ _ _ h0 (.cons _ _ _ _ _ h (.cons _ _ _ _ _ h2 (.nil _))))
theorem own384_buf (x : Int) (l : List Int) (n : Nat) : res ((funcL Tryd.prog qS hS10 owΛ384 200 6 (cArgs 0 [.pl (.int false .i64 384), .buf true .u8 n l, .pl (.int true .u8 x)]) (cMem [.pl (.int false .i64 384), .buf true .u8 n l, .pl (.int true .u8 x)])).go [false]) = some ([decide (n < 9223372036854775808), !decide ((n : Int) > 1000), decide (0 + n ≤ n), decide (1 ≤ n) && decide (n ≤ 1000000000), decide (0 + n ≤ ((l.drop 0).take n).length), true, true, decide (n < 9223372036854775808), decide (n < 9223372036854775808), decide (n = n), decide (n = n), decide ((n : Int) = (n : Int)), true, decide (((l.drop 0).take n).length = n), decide (n ≤ 1000), all64 (wrEnd384 (wrI beg384 Z128 0 ((((l.drop 0).take n).drop 0).take n) n)).1, decide (0 ≤ (wrEnd384 (wrI beg384 Z128 0 ((((l.drop 0).take n).drop 0).take n) n)).2.2 ∧ (wrEnd384 (wrI beg384 Z128 0 ((((l.drop 0).take n).drop 0).take n) n)).2.2 < 18446744073709551616), all64 (wrEnd384 (wrI beg384 Z128 0 ((((l.drop 0).take n).drop 0).take n) n)).1, decide (0 ≤ (wrEnd384 (wrI beg384 Z128 0 ((((l.drop 0).take n).drop 0).take n) n)).2.2 ∧ (wrEnd384 (wrI beg384 Z128 0 ((((l.drop 0).take n).drop 0).take n) n)).2.2 < 18446744073709551616), decide (0 + n ≤ n), decide (1 ≤ n), decide (n ≤ 400000000)], .bool true (decide (toldL 48 8 (endW 64 80 128 (wrEnd384 (wrI beg384 Z128 0 ((((l.drop 0).take n).drop 0).take n) n)).1 (wrEnd384 (wrI beg384 Z128 0 ((((l.drop 0).take n).drop 0).take n) n)).2.1 (wrEnd384 (wrI beg384 Z128 0 ((((l.drop 0).take n).drop 0).take n) n)).2.2).1 = ((toldL 64 8 (hashW 64 80 128 beg384 ((l.drop 0).take n))).drop 0).take 48))) := by kernel_rfl
theorem own384_long (x : Int) (l : List Int) (n : Nat) : res ((funcL Tryd.prog qS hS10 owΛ384 200 6 (cArgs 0 [.pl (.int false .i64 384), .buf true .u8 n l, .pl (.int true .u8 x)]) (cMem [.pl (.int false .i64 384), .buf true .u8 n l, .pl (.int true .u8 x)])).go [true]) = some ([decide (n < 9223372036854775808), decide ((n : Int) > 1000)], .bool false true) := by kernel_rfl
theorem own384_nil (x : Int) : resAll ((funcL Tryd.prog qS hS10 owΛ384 200 6 (cArgs 0 [.pl (.int false .i64 384), .pl .nilslice, .pl (.int true .u8 x)]) (cMem [.pl (.int false .i64 384), .pl .nilslice, .pl (.int true .u8 x)])).go []) = some (true, .bool true true) := by kernel_rfl
theorem own384_emp (x : Int) : resAll ((funcL Tryd.prog qS hS10 owΛ384 200 6 (cArgs 0 [.pl (.int false .i64 384), .empty, .pl (.int true .u8 x)]) (cMem [.pl (.int false .i64 384), .empty, .pl (.int true .u8 x)])).go []) = some (true, .bool true true) := by kernel_rfl
theorem sha2Own_384 {x : Int} (rx : inR .u8 x = true) {v : Value} (W : World) (hT : TRep W) (hv : v = .slice none 0 0 ∨ ∃ (a : Addr) (len cap : Nat) (zs : List Int), v = .slice (some a) len cap ∧ len ≤ cap ∧ cap ≤ 140737488351232 ∧ zs.length = cap ∧ (∀ i, i < zs.length → W.cell? (a.add i) = some (.int .u8 (zs.getD i 0))) ∧ ∀ n ∈ zs, inR .u8 n = true) :
    Calls Tryd.prog 6 #[.int .i64 384, v, .int .u8 x] W (fun e w' => e = .returned (.bool true) ∧ Below W.heap.size W w') := by
  have h0 : ∃ L, VOk W 0 L (.pl (.int false .i64 384)) (.int .i64 384) := VOk.plain fun ρ N => .int false .i64 384 (by decide)
  have h2 : ∃ L, VOk W 2 L (.pl (.int true .u8 x)) (.int .u8 x) := VOk.plain fun ρ N => .int true .u8 x rx
  have hΛ : ∀ fn c, Tryd.prog.funcs[6]? = some fn → fn.body = some c → LOkN 3 Tryd.prog c owΛ384 := fun fn c hf hb => by rw [bodyOf_eq hf hb]; exact ow384_lok.toN
  rcases VOk.bytes (W := W) 1 hv with h | h | ⟨n, l, pn, hn9, hl, hr, h⟩
  · obtain ⟨o, e1, e2⟩ := res_all (own384_nil x)
    exact law_of_goN mixed hS10_ok hΛ [] e1 e2 rfl (.cons _ _ _ _ _ h0 (.cons _ _ _ _ _ h (.cons _ _ _ _ _ h2 (.nil _))))
  · obtain ⟨o, e1, e2⟩ := res_all (own384_emp x)
    exact law_of_goN mixed hS10_ok hΛ [] e1 e2 rfl (.cons _ _ _ _ _ h0 (.cons _ _ _ _ _ h (.cons _ _ _ _ _ h2 (.nil _))))
  · have dn : decide (n < 9223372036854775808) = true := decide_eq_true (by omega)
    by_cases hlong : (n : Int) > 1000
    · exact law_of_goN mixed hS10_ok hΛ [true] (own384_long x l n) (paid_cons dn (paid_cons (decide_eq_true hlong) Paid.nil)) rfl (.cons _ _ _ _ _ h0 (.cons _ _ _ _ _ h (.cons _ _ _ _ _ h2 (.nil _))))
    · have hG : (!decide ((n : Int) > 1000)) = true := by rw [decide_eq_false hlong]; rfl
      have rn : n ≤ 2000 := by omega
      have tl : (l.drop 0).take n = l := by rw [List.drop_zero, List.take_of_length_le (by omega)]
      obtain ⟨a1, c1⟩ := end384_ok (l := ((l.drop 0).take n)) (n := n) (by rw [tl]; exact hl)
      have q1 : toldL 48 8 (endW 64 80 128 (wrEnd384 (wrI beg384 Z128 0 ((((l.drop 0).take n).drop 0).take n) n)).1 (wrEnd384 (wrI beg384 Z128 0 ((((l.drop 0).take n).drop 0).take n) n)).2.1 (wrEnd384 (wrI beg384 Z128 0 ((((l.drop 0).take n).drop 0).take n) n)).2.2).1 = ((toldL 64 8 (hashW 64 80 128 beg384 ((l.drop 0).take n))).drop 0).take 48 := by rw [wrEnd384_all (l := ((l.drop 0).take n)) (n := n) (by rw [tl]; exact hl), tl, hash_prog (by decide) (by decide) (by omega)]; exact (toldL_take (by decide) _).symm
      exact law_of_goN mixed hS10_ok hΛ [false] (own384_buf x l n) (paid_cons dn (paid_cons hG (paid_cons (decide_eq_true (Nat.le_of_eq (Nat.zero_add _))) (paid_cons (and1 pn rn) (paid_cons (decide_eq_true (by rw [tl]; omega)) (paid_cons rfl (paid_cons rfl (paid_cons dn (paid_cons dn (paid_cons (decide_eq_true rfl) (paid_cons (decide_eq_true rfl) (paid_cons (decide_eq_true rfl) (paid_cons rfl (paid_cons (decide_eq_true (by rw [tl]; omega)) (paid_cons (decide_eq_true (by omega)) (paid_cons a1 (paid_cons c1 (paid_cons a1 (paid_cons c1 (paid_cons (decide_eq_true (Nat.le_of_eq (Nat.zero_add _))) (paid_cons (decide_eq_true pn) (paid_cons (decide_eq_true (by omega)) (Paid.nil))))))))))))))))))))))) (decide_eq_true q1) (.cons _ _ _ _ _ h0 (.cons _ _ _ _ _ h (.cons _ _ _ _ _ h2 (.nil _))))
theorem own512_buf (x : Int) (l : List Int) (n : Nat) : res ((funcL Tryd.prog qS hS10 owΛ512 200 6 (cArgs 0 [.pl (.int false .i64 512), .buf true .u8 n l, .pl (.int true .u8 x)]) (cMem [.pl (.int false .i64 512), .buf true .u8 n l, .pl (.int true .u8 x)])).go [false]) = some ([decide (n < 9223372036854775808), !decide ((n : Int) > 1000), decide (0 + n ≤ n), decide (1 ≤ n) && decide (n ≤ 1000000000), decide (0 + n ≤ ((l.drop 0).take n).length), true, true, decide (n < 9223372036854775808), decide (n < 9223372036854775808), decide (n = n), decide (n = n), decide ((n : Int) = (n : Int)), true, decide (((l.drop 0).take n).length = n), decide (n ≤ 1000), all64 (wrEnd512 (wrI beg512 Z128 0 ((((l.drop 0).take n).drop 0).take n) n)).1, decide (0 ≤ (wrEnd512 (wrI beg512 Z128 0 ((((l.drop 0).take n).drop 0).take n) n)).2.2 ∧ (wrEnd512 (wrI beg512 Z128 0 ((((l.drop 0).take n).drop 0).take n) n)).2.2 < 18446744073709551616), all64 (wrEnd512 (wrI beg512 Z128 0 ((((l.drop 0).take n).drop 0).take n) n)).1, decide (0 ≤ (wrEnd512 (wrI beg512 Z128 0 ((((l.drop 0).take n).drop 0).take n) n)).2.2 ∧ (wrEnd512 (wrI beg512 Z128 0 ((((l.drop 0).take n).drop 0).take n) n)).2.2 < 18446744073709551616), decide (0 + n ≤ n), decide (1 ≤ n), decide (n ≤ 400000000)], .bool true (decide (toldL 64 8 (endW 64 80 128 (wrEnd512 (wrI beg512 Z128 0 ((((l.drop 0).take n).drop 0).take n) n)).1 (wrEnd512 (wrI beg512 Z128 0 ((((l.drop 0).take n).drop 0).take n) n)).2.1 (wrEnd512 (wrI beg512 Z128 0 ((((l.drop 0).take n).drop 0).take n) n)).2.2).1 = toldL 64 8 (hashW 64 80 128 beg512 ((l.drop 0).take n))))) := by kernel_rfl
theorem own512_long (x : Int) (l : List Int) (n : Nat) : res ((funcL Tryd.prog qS hS10 owΛ512 200 6 (cArgs 0 [.pl (.int false .i64 512), .buf true .u8 n l, .pl (.int true .u8 x)]) (cMem [.pl (.int false .i64 512), .buf true .u8 n l, .pl (.int true .u8 x)])).go [true]) = some ([decide (n < 9223372036854775808), decide ((n : Int) > 1000)], .bool false true) := by kernel_rfl
theorem own512_nil (x : Int) : resAll ((funcL Tryd.prog qS hS10 owΛ512 200 6 (cArgs 0 [.pl (.int false .i64 512), .pl .nilslice, .pl (.int true .u8 x)]) (cMem [.pl (.int false .i64 512), .pl .nilslice, .pl (.int true .u8 x)])).go []) = some (true, .bool true true) := by kernel_rfl
theorem own512_emp (x : Int) : resAll ((funcL Tryd.prog qS hS10 owΛ512 200 6 (cArgs 0 [.pl (.int false .i64 512), .empty, .pl (.int true .u8 x)]) (cMem [.pl (.int false .i64 512), .empty, .pl (.int true .u8 x)])).go []) = some (true, .bool true true) := by kernel_rfl
theorem sha2Own_512 {x : Int} (rx : inR .u8 x = true) {v : Value} (W : World) (hT : TRep W) (hv : v = .slice none 0 0 ∨ ∃ (a : Addr) (len cap : Nat) (zs : List Int), v = .slice (some a) len cap ∧ len ≤ cap ∧ cap ≤ 140737488351232 ∧ zs.length = cap ∧ (∀ i, i < zs.length → W.cell? (a.add i) = some (.int .u8 (zs.getD i 0))) ∧ ∀ n ∈ zs, inR .u8 n = true) :
    Calls Tryd.prog 6 #[.int .i64 512, v, .int .u8 x] W (fun e w' => e = .returned (.bool true) ∧ Below W.heap.size W w') := by
  have h0 : ∃ L, VOk W 0 L (.pl (.int false .i64 512)) (.int .i64 512) := VOk.plain fun ρ N => .int false .i64 512 (by decide)
  have h2 : ∃ L, VOk W 2 L (.pl (.int true .u8 x)) (.int .u8 x) := VOk.plain fun ρ N => .int true .u8 x rx
  have hΛ : ∀ fn c, Tryd.prog.funcs[6]? = some fn → fn.body = some c → LOkN 3 Tryd.prog c owΛ512 := fun fn c hf hb => by rw [bodyOf_eq hf hb]; exact ow512_lok.toN
  rcases VOk.bytes (W := W) 1 hv with h | h | ⟨n, l, pn, hn9, hl, hr, h⟩
  · obtain ⟨o, e1, e2⟩ := res_all (own512_nil x)
    exact law_of_goN mixed hS10_ok hΛ [] e1 e2 rfl (.cons _ _ _ _ _ h0 (.cons _ _ _ _ _ h (.cons _ _ _ _ _ h2 (.nil _))))
  · obtain ⟨o, e1, e2⟩ := res_all (own512_emp x)
    exact law_of_goN mixed hS10_ok hΛ [] e1 e2 rfl (.cons _ _ _ _ _ h0 (.cons _ _ _ _ _ h (.cons _ _ _ _ _ h2 (.nil _))))
  · have dn : decide (n < 9223372036854775808) = true := decide_eq_true (by omega)
    by_cases hlong : (n : Int) > 1000
    · exact law_of_goN mixed hS10_ok hΛ [true] (own512_long x l n) (paid_cons dn (paid_cons (decide_eq_true hlong) Paid.nil)) rfl (.cons _ _ _ _ _ h0 (.cons _ _ _ _ _ h (.cons _ _ _ _ _ h2 (.nil _))))
    · have hG : (!decide ((n : Int) > 1000)) = true := by rw [decide_eq_false hlong]; rfl
      have rn : n ≤ 2000 := by omega
      have tl : (l.drop 0).take n = l := by rw [List.drop_zero, List.take_of_length_le (by omega)]
      obtain ⟨a1, c1⟩ := end512_ok (l := ((l.drop 0).take n)) (n := n) (by rw [tl]; exact hl)
      have q1 : toldL 64 8 (endW 64 80 128 (wrEnd512 (wrI beg512 Z128 0 ((((l.drop 0).take n).drop 0).take n) n)).1 (wrEnd512 (wrI beg512 Z128 0 ((((l.drop 0).take n).drop 0).take n) n)).2.1 (wrEnd512 (wrI beg512 Z128 0 ((((l.drop 0).take n).drop 0).take n) n)).2.2).1 = toldL 64 8 (hashW 64 80 128 beg512 ((l.drop 0).take n)) := by rw [wrEnd512_all (l := ((l.drop 0).take n)) (n := n) (by rw [tl]; exact hl), tl, hash_prog (by decide) (by decide) (by omega)]
      exact law_of_goN mixed hS10_ok hΛ [false] (own512_buf x l n) (paid_cons dn (paid_cons hG (paid_cons (decide_eq_true (Nat.le_of_eq (Nat.zero_add _))) (paid_cons (and1 pn rn) (paid_cons (decide_eq_true (by rw [tl]; omega)) (paid_cons rfl (paid_cons rfl (paid_cons dn (paid_cons dn (paid_cons (decide_eq_true rfl) (paid_cons (decide_eq_true rfl) (paid_cons (decide_eq_true rfl) (paid_cons rfl (paid_cons (decide_eq_true (by rw [tl]; omega)) (paid_cons (decide_eq_true (by omega)) (paid_cons a1 (paid_cons c1 (paid_cons a1 (paid_cons c1 (paid_cons (decide_eq_true (Nat.le_of_eq (Nat.zero_add _))) (paid_cons (decide_eq_true pn) (paid_cons (decide_eq_true (by omega)) (Paid.nil))))))))))))))))))))))) (decide_eq_true q1) (.cons _ _ _ _ _ h0 (.cons _ _ _ _ _ h (.cons _ _ _ _ _ h2 (.nil _))))
theorem owno_buf (k : Int) (x : Int) (l : List Int) (n : Nat) : res ((funcL Tryd.prog qS hS10 owΛo 200 6 (cArgs 0 [.pl (.int true .i64 k), .buf true .u8 n l, .pl (.int true .u8 x)]) (cMem [.pl (.int true .i64 k), .buf true .u8 n l, .pl (.int true .u8 x)])).go [false]) = some ([decide (n < 9223372036854775808), !decide ((n : Int) > 1000), decide (0 + n ≤ n), decide (1 ≤ n) && decide (n ≤ 1000000000), !decide (k = 256), !decide (k = 384), !decide (k = 512), decide (n < 9223372036854775808), decide (n = n), decide (n = n), decide ((n : Int) = (n : Int)), true, decide (((l.drop 0).take n).length = n), decide (n ≤ 1000), decide (0 + n ≤ n), !decide (k = 256), !decide (k = 384), !decide (k = 512)], .bool false true) := by kernel_rfl
theorem owno_long (k : Int) (x : Int) (l : List Int) (n : Nat) : res ((funcL Tryd.prog qS hS10 owΛo 200 6 (cArgs 0 [.pl (.int true .i64 k), .buf true .u8 n l, .pl (.int true .u8 x)]) (cMem [.pl (.int true .i64 k), .buf true .u8 n l, .pl (.int true .u8 x)])).go [true]) = some ([decide (n < 9223372036854775808), decide ((n : Int) > 1000)], .bool false true) := by kernel_rfl
theorem owno_nil (k x : Int) : res ((funcL Tryd.prog qS hS10 owΛo 200 6 (cArgs 0 [.pl (.int true .i64 k), .pl .nilslice, .pl (.int true .u8 x)]) (cMem [.pl (.int true .i64 k), .pl .nilslice, .pl (.int true .u8 x)])).go []) = some ([!decide (k = 256), !decide (k = 384), !decide (k = 512), !decide (k = 256), !decide (k = 384), !decide (k = 512)], .bool false true) := by kernel_rfl
theorem owno_emp (k x : Int) : res ((funcL Tryd.prog qS hS10 owΛo 200 6 (cArgs 0 [.pl (.int true .i64 k), .empty, .pl (.int true .u8 x)]) (cMem [.pl (.int true .i64 k), .empty, .pl (.int true .u8 x)])).go []) = some ([!decide (k = 256), !decide (k = 384), !decide (k = 512), !decide (k = 256), !decide (k = 384), !decide (k = 512)], .bool false true) := by kernel_rfl
theorem sha2Own_o {k : Int} (rk : inR .i64 k = true) (n1 : k ≠ 256) (n2 : k ≠ 384) (n3 : k ≠ 512) {x : Int} (rx : inR .u8 x = true) {v : Value} (W : World) (hT : TRep W) (hv : v = .slice none 0 0 ∨ ∃ (a : Addr) (len cap : Nat) (zs : List Int), v = .slice (some a) len cap ∧ len ≤ cap ∧ cap ≤ 140737488351232 ∧ zs.length = cap ∧ (∀ i, i < zs.length → W.cell? (a.add i) = some (.int .u8 (zs.getD i 0))) ∧ ∀ n ∈ zs, inR .u8 n = true) :
    Calls Tryd.prog 6 #[.int .i64 k, v, .int .u8 x] W (fun e w' => e = .returned (.bool true) ∧ Below W.heap.size W w') := by
  have h0 : ∃ L, VOk W 0 L (.pl (.int true .i64 k)) (.int .i64 k) := VOk.plain fun ρ N => .int true .i64 k rk
  have h2 : ∃ L, VOk W 2 L (.pl (.int true .u8 x)) (.int .u8 x) := VOk.plain fun ρ N => .int true .u8 x rx
  have hΛ : ∀ fn c, Tryd.prog.funcs[6]? = some fn → fn.body = some c → LOkN 3 Tryd.prog c owΛo := fun fn c hf hb => by rw [bodyOf_eq hf hb]; exact owo_lok.toN
  have g256 : (!decide (k = 256)) = true := by rw [decide_eq_false n1]; rfl
  have g384 : (!decide (k = 384)) = true := by rw [decide_eq_false n2]; rfl
  have g512 : (!decide (k = 512)) = true := by rw [decide_eq_false n3]; rfl
  rcases VOk.bytes (W := W) 1 hv with h | h | ⟨n, l, pn, hn9, hl, hr, h⟩
  · exact law_of_goN mixed hS10_ok hΛ [] (owno_nil k x) (paid_cons g256 (paid_cons g384 (paid_cons g512 (paid_cons g256 (paid_cons g384 (paid_cons g512 (Paid.nil))))))) rfl (.cons _ _ _ _ _ h0 (.cons _ _ _ _ _ h (.cons _ _ _ _ _ h2 (.nil _))))
  · exact law_of_goN mixed hS10_ok hΛ [] (owno_emp k x) (paid_cons g256 (paid_cons g384 (paid_cons g512 (paid_cons g256 (paid_cons g384 (paid_cons g512 (Paid.nil))))))) rfl (.cons _ _ _ _ _ h0 (.cons _ _ _ _ _ h (.cons _ _ _ _ _ h2 (.nil _))))
  · have dn : decide (n < 9223372036854775808) = true := decide_eq_true (by omega)
    by_cases hlong : (n : Int) > 1000
    · exact law_of_goN mixed hS10_ok hΛ [true] (owno_long k x l n) (paid_cons dn (paid_cons (decide_eq_true hlong) Paid.nil)) rfl (.cons _ _ _ _ _ h0 (.cons _ _ _ _ _ h (.cons _ _ _ _ _ h2 (.nil _))))
    · have hG : (!decide ((n : Int) > 1000)) = true := by rw [decide_eq_false hlong]; rfl
      have rn : n ≤ 2000 := by omega
      have tl : (l.drop 0).take n = l := by rw [List.drop_zero, List.take_of_length_le (by omega)]
      exact law_of_goN mixed hS10_ok hΛ [false] (owno_buf k x l n) (paid_cons dn (paid_cons hG (paid_cons (decide_eq_true (Nat.le_of_eq (Nat.zero_add _))) (paid_cons (and1 pn rn) (paid_cons g256 (paid_cons g384 (paid_cons g512 (paid_cons dn (paid_cons (decide_eq_true rfl) (paid_cons (decide_eq_true rfl) (paid_cons (decide_eq_true rfl) (paid_cons rfl (paid_cons (decide_eq_true (by rw [tl]; omega)) (paid_cons (decide_eq_true (by omega)) (paid_cons (decide_eq_true (Nat.le_of_eq (Nat.zero_add _))) (paid_cons g256 (paid_cons g384 (paid_cons g512 (Paid.nil))))))))))))))))))) rfl (.cons _ _ _ _ _ h0 (.cons _ _ _ _ _ h (.cons _ _ _ _ _ h2 (.nil _))))
theorem sha2Own_calls {k : Int} (rk : inR .i64 k = true) {x : Int} (rx : inR .u8 x = true) {v : Value} (W : World) (hT : TRep W) (hv : v = .slice none 0 0 ∨ ∃ (a : Addr) (len cap : Nat) (zs : List Int), v = .slice (some a) len cap ∧ len ≤ cap ∧ cap ≤ 140737488351232 ∧ zs.length = cap ∧ (∀ i, i < zs.length → W.cell? (a.add i) = some (.int .u8 (zs.getD i 0))) ∧ ∀ n ∈ zs, inR .u8 n = true) :
    Calls Tryd.prog 6 #[.int .i64 k, v, .int .u8 x] W (fun e w' => e = .returned (.bool true) ∧ Below W.heap.size W w') := by
  by_cases n1 : k = 256
  · subst n1; exact sha2Own_256 rx W hT hv
  · by_cases n2 : k = 384
    · subst n2; exact sha2Own_384 rx W hT hv
    · by_cases n3 : k = 512
      · subst n3; exact sha2Own_512 rx W hT hv
      · exact sha2Own_o rk n1 n2 n3 rx W hT hv

theorem sha2Own_lifted (os : Os) (started : os.Started) (H : Type) (enc : TypeId × Value → H) :
    ReturnsInHanded {} Tryd.checked os 6 .any (fun w args => (Rows.sha2OwnSpec.pre enc Tryd.prog Tryd.f6 Rows.sha2OwnRow.domain false w args ∧ laidMetH Tryd.prog Rows.sha2SumsRow.laid w) ∧ sizedMet enc Tryd.prog Tryd.f6 (OpenSpec.ofChange Rows.sha2OwnSpec) false w args)
      (Rows.sha2OwnSpec.post enc Tryd.prog Tryd.f6 false true false false) := by
  refine returnsInHanded_of_change_and (C := Tryd.checked) (X := fun w _ => laidMetH Tryd.prog Rows.sha2SumsRow.laid w) (fun _ _ _ hh h => h.of_heap hh) own started (by kernel_rfl) Tryd.func6
    (ChangeSpec.witness_shaped (enc := enc) (C := Tryd.checked) (os := os) (X := fun w _ => laidMetH Tryd.prog Rows.sha2SumsRow.laid w) false (World.laidAll Tryd.prog os Rows.sha2SumsRow.laid) #[.int .i64 0, .slice none 0 0, .int .u8 0] 8 (World.laidAll_os _ _ _)
      (World.shaped_of_ZipB (by kernel_rfl) (by kernel_rfl)) (by kernel_rfl) (by kernel_rfl) (by kernel_rfl)
      (by rw [MakeChecks.laidMetH_plain _ _ _ (by kernel_rfl)]; exact laidMet_laidAll _ (by kernel_rfl) (by kernel_rfl))) ?_
  intro W base args ds gs before hval0 hW _ hsz hL _
  have hT : TRep W := trep_of hL
  have hval : ∀ (j : Nat) t v, Tryd.f6.params[j]? = some t → args[j]? = some v → Value.okWide Tryd.prog W .any base t v := hval0
  have hW' := hW
  obtain ⟨p, q, hA0, hV, rfl, hfz, hnd⟩ := hW
  have hA : DataW.TrodAll enc Tryd.prog W 0 (fun _ => true) true Tryd.f6.params.toList args.toList ds p := hA0
  rw [Tryd.params6] at hA hval
  obtain ⟨v0, v1, v2, d0, d1, d2, p0, p1, p2, hargs, rfl, rfl, g0, g1, g2⟩ := trodAll_three hA
  have hargs' : args = #[v0, v1, v2] := by simpa using hargs
  subst hargs'
  obtain ⟨rfl, rfl⟩ := trodVars_none hV
  obtain ⟨x0, rfl, rfl, rfl, w0⟩ := open_int Tryd.underlying3 (hval 0 _ v0 rfl rfl) g0
  have hv1 := nums_open2 Tryd.underlying22 Tryd.underlying5 (by kernel_rfl) (hval 1 _ v1 rfl rfl) g1 (fun x y e => by subst e; have h9 := sized_slice hsz (j := 1) (t := 22) (e := 5) rfl rfl Tryd.underlying22; rw [show Tryd.checked.prog.bytesOf 5 = 1 by kernel_rfl] at h9; omega)
  obtain ⟨x2, rfl, rfl, rfl, w2⟩ := open_int Tryd.underlying5 (hval 2 _ v2 rfl rfl) g2
  refine (sha2Own_calls (wf_inR' w0) (wf_inR' w2) W hT hv1).mono fun e W' ⟨he, hb⟩ => ?_
  exact ⟨_, he, post_of_law laidOut (by rw [Tryd.params6]; decide +kernel) hW' rfl rfl Tryd.underlying4 rfl rfl rfl hb⟩

theorem sha2Own_holds : Rows.Sha2OwnSaid :=
  OpenClaim.holds_of_wide 6 Tryd.f6 rfl rfl rfl rfl rfl rfl rfl ⟨rfl, rfl, rfl, rfl, rfl⟩ rfl rfl rfl rfl rfl (by kernel_rfl) Tryd.func6 (by kernel_rfl)
    (of_decide_eq_true (by kernel_rfl)) (by unfold Func.isWrapper; first | (rw [if_pos (by decide +kernel)]; kernel_rfl) | (rw [if_neg (by decide +kernel)]; exact ⟨rfl, rfl⟩))
    (fun os started H enc _ => sha2Own_lifted os started H enc)
theorem sha2Own_card_holds : Rows.Sha2OwnCardSaid :=
  Claim7.holds_tied_plain_at .later [] [.data, .data] true (true, "b7f51c3f02f86383c6dd5ed24a00553fb3921548d39dddfe28e2796c50cb5228") false sha2Own_holds (fun _ h => by cases h) (by kernel_rfl) (fun _ h => by cases h) sha2Own_row_tie rfl ⟨rfl, rfl⟩ (by kernel_rfl) rfl
    (fun f fn hf hfn => by
      obtain rfl : f = 6 := Option.some.inj (hf.symm.trans (by kernel_rfl))
      obtain rfl : fn = Tryd.f6 := (Option.some.inj (Tryd.func6.symm.trans hfn)).symm
      exact ⟨by kernel_rfl, fun j t ht => by
        rw [Tryd.params6] at ht
        have hm : t ∈ [3, 22, 5] := by simpa using Array.mem_of_getElem? ht
        have hall : ([3, 22, 5].all fun u => !Tryd.prog.wantsStandIn u) = true := by kernel_rfl
        exact (show Tryd.prog.wantsStandIn t = false by simpa using List.all_eq_true.1 hall t hm)⟩)
    (by kernel_rfl)
end Go.Proofs.YtclkicobnmjpoaaDoor
