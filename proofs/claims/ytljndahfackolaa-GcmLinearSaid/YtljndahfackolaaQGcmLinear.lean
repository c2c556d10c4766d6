/- The hash of two texts put together bit by bit is that of both put together, and of zeros: for every key and every two texts the law answers true. No condition. -/
import Derived.Test.YtljndahfackolaaQGcL
import Derived.Test.YtljndahfackolaaQGcM
import Derived.Test.YtljndahfackolaaQAesL
set_option linter.unusedSimpArgs false
set_option linter.unusedVariables false
set_option linter.unusedSectionVars false
namespace Go.Proofs.Ytljndahfackolaa
open Go.Ev Go.Sh Go.As Go.Gc
open Go.ChangeShapes Go.WideShapes Go.ChangeAt Go.RowKit
set_option maxRecDepth 100000
def lnQ (z x y w : List Int) : List Bool := (List.range 16).map fun i => !(z.getD i 0 != ixor .u8 (ixor .u8 (x.getD i 0) (y.getD i 0)) (w.getD i 0))
def f16 : List Bool := List.replicate 16 false
theorem lnQ_paid {z x y w : List Int} (h : ∀ i, i < 16 → z.getD i 0 = ixor .u8 (ixor .u8 (x.getD i 0) (y.getD i 0)) (w.getD i 0)) : Paid (lnQ z x y w) := by
  intro b hb
  obtain ⟨i, hi, rfl⟩ := List.mem_map.1 hb
  rw [← h i (List.mem_range.1 hi)]
  simp
theorem bytes_e {l : List Int} (h : ∀ x ∈ l, inR .u8 x = true) : ∃ L : List (BitVec 8), l = L.map E8 := by
  refine ⟨l.map (BitVec.ofInt 8), ?_⟩
  rw [List.map_map]
  have e : l.map (E8 ∘ BitVec.ofInt 8) = l.map id := List.map_congr_left fun x hx => by
    have h8 := inR_b8 (h x hx)
    unfold B8 at h8
    simp only [Function.comp, E8, BitVec.toNat_ofInt, id]
    omega
  rw [e, List.map_id]
theorem min3_of (n m : Int) (hn : 0 ≤ n) (hm : 0 ≤ m) : 0 ≤ min3 n m 200 ∧ min3 n m 200 ≤ n ∧ min3 n m 200 ≤ m ∧ min3 n m 200 ≤ 200 ∧ (min3 n m 200 = n ∨ min3 n m 200 = m ∨ min3 n m 200 = 200) := by
  unfold min3
  split <;> split at * <;> omega
def zeroH (h : List Int) : List Int := hashG h [] 0 [] 0
theorem zeroQ {h : List Int} (hr : ∀ x ∈ h, inR .u8 x = true) : Paid (lnQ (zeroH h) (zeroH h) (zeroH h) (zeroH h)) := by
  obtain ⟨H, rfl⟩ := bytes_e hr
  refine lnQ_paid fun i hi => ?_
  have e : zeroH (H.map E8) = (hashB H [] 0 0#64).map E8 := hash_e H [] 0 0#64 (by decide)
  rw [e, getD_map8, xorE8, xorE8, BitVec.xor_self, BitVec.zero_xor]
def xorL (A B : List (BitVec 8)) (k : Nat) : List (BitVec 8) := (List.range k).map fun i => A.getD i 0#8 ^^^ B.getD i 0#8
theorem take_get (A : List (BitVec 8)) (k i : Nat) : ((A.drop 0).take k).getD i 0#8 = if i < k then A.getD i 0#8 else 0#8 := by
  rw [List.drop_zero, List.getD_eq_getElem?_getD, List.getD_eq_getElem?_getD]
  split
  · rename_i h; rw [List.getElem?_take_of_lt h]
  · rename_i h; rw [List.getElem?_eq_none (by rw [List.length_take]; omega)]; rfl
theorem xorL_get (A B : List (BitVec 8)) (k i : Nat) : (xorL A B k).getD i 0#8 = if i < k then A.getD i 0#8 ^^^ B.getD i 0#8 else 0#8 := by
  unfold xorL
  rw [List.getD_eq_getElem?_getD]
  split
  · rename_i h; simp [h]
  · rename_i h; rw [List.getElem?_eq_none (by simp; omega)]; rfl
theorem lin_paid {h l q : List Int} {k : Nat} (hh : ∀ x ∈ h, inR .u8 x = true) (hl : ∀ x ∈ l, inR .u8 x = true) (hq : ∀ x ∈ q, inR .u8 x = true) (h1 : k ≤ l.length) (h2 : k ≤ q.length) (hk : k ≤ 200) :
    Paid (lnQ (hashG h [] 0 (((xrL l q k).drop 0).take k) k) (hashG h [] 0 ((l.drop 0).take k) k) (hashG h [] 0 ((q.drop 0).take k) k) (hashG h [] 0 (((List.replicate k 0).drop 0).take k) k)) := by
  obtain ⟨H, rfl⟩ := bytes_e hh
  obtain ⟨A, rfl⟩ := bytes_e hl
  obtain ⟨B, rfl⟩ := bytes_e hq
  rw [List.length_map] at h1 h2
  have ex : xrL (A.map E8) (B.map E8) k = (xorL A B k).map E8 := by
    unfold xrL xorL xr
    rw [List.map_map]
    refine List.map_congr_left fun i _ => ?_
    simp only [Function.comp, show 0 + i * 1 = i by omega]
    rw [getD_map8, getD_map8, xorE8]
  have ez : List.replicate k (0 : Int) = (List.replicate k 0#8).map E8 := by rw [List.map_replicate]; rfl
  have et : ∀ (L : List (BitVec 8)), ((L.map E8).drop 0).take k = ((L.drop 0).take k).map E8 := fun L => by rw [List.map_take, List.map_drop]
  have hlen : lenW k = Gc.E (BitVec.ofNat 64 (8 * k)) := by
    unfold lenW Gc.E
    rw [Gc.wrap64, Gc.wrap64, BitVec.toNat_ofNat]
    omega
  rw [ex, ez, et, et, et, et, hash_e _ _ _ _ hlen, hash_e _ _ _ _ hlen, hash_e _ _ _ _ hlen, hash_e _ _ _ _ hlen]
  refine lnQ_paid fun i hi => ?_
  rw [getD_map8, getD_map8, getD_map8, getD_map8, xorE8, xorE8]
  congr 1
  have lA : ((A.drop 0).take k).length = k := by rw [List.drop_zero, List.length_take]; omega
  have lB : ((B.drop 0).take k).length = k := by rw [List.drop_zero, List.length_take]; omega
  have lX : (((xorL A B k).drop 0).take k).length = k := by rw [List.drop_zero, List.length_take]; simp [xorL]
  have lZ : (((List.replicate k 0#8).drop 0).take k).length = k := by rw [List.drop_zero, List.length_take]; simp
  refine hash_lin H (BitVec.ofNat 64 (8 * k)) lA lB lX lX lZ (fun i => ?_) (fun i => ?_) i hi
  · rw [take_get, take_get, take_get, xorL_get]
    by_cases hik : i < k
    · simp [hik]
    · simp [hik]
  · rw [take_get (List.replicate k 0#8)]
    have : (List.replicate k 0#8).getD i 0#8 = 0#8 := by rw [List.getD_eq_getElem?_getD, List.getElem?_replicate]; split <;> rfl
    rw [this]
    split <;> simp
theorem lin_bufbuf (h : List Int) (n : Nat) (l : List Int) (m : Nat) (q : List Int) : res ((funcL Try.prog qP (deep Try.prog qP hgL 100 3) lnΛ 100 7 (cArgs 0 [.pl (.ints .u8 16 h), .buf true .u8 n l, .buf true .u8 m q]) (cMem [.pl (.ints .u8 16 h), .buf true .u8 n l, .buf true .u8 m q])).go f16) = some ([decide (n < 9223372036854775808), decide (m < 9223372036854775808), decide (0 ≤ min3 (n : Int) (m : Int) 200) && decide (min3 (n : Int) (m : Int) 200 ≤ (n : Int)), decide (0 ≤ min3 (n : Int) (m : Int) 200) && decide (min3 (n : Int) (m : Int) 200 ≤ (m : Int)), decide ((min3 (n : Int) (m : Int) 200).toNat = (min3 (n : Int) (m : Int) 200).toNat), decide (min3 (n : Int) (m : Int) 200 = min3 (n : Int) (m : Int) 200), decide ((0 : Int) = 0), decide (min3 (n : Int) (m : Int) 200 = ((min3 (n : Int) (m : Int) 200).toNat : Int)), decide (1 ≤ (min3 (n : Int) (m : Int) 200).toNat), decide ((min3 (n : Int) (m : Int) 200).toNat ≤ n), decide ((min3 (n : Int) (m : Int) 200).toNat ≤ m), decide ((min3 (n : Int) (m : Int) 200).toNat ≤ 200), decide (0 + (min3 (n : Int) (m : Int) 200).toNat ≤ n), decide ((min3 (n : Int) (m : Int) 200).toNat < 9223372036854775808), decide (0 + (min3 (n : Int) (m : Int) 200).toNat ≤ m), decide ((min3 (n : Int) (m : Int) 200).toNat < 9223372036854775808), decide (0 + (min3 (n : Int) (m : Int) 200).toNat ≤ (xrL l q (min3 (n : Int) (m : Int) 200).toNat).length), decide ((min3 (n : Int) (m : Int) 200).toNat < 9223372036854775808), decide (0 ≤ min3 (n : Int) (m : Int) 200) && decide (min3 (n : Int) (m : Int) 200 ≤ min3 (n : Int) (m : Int) 200) && decide (min3 (n : Int) (m : Int) 200 ≤ 1000000000), decide (0 + (min3 (n : Int) (m : Int) 200).toNat ≤ (List.replicate (min3 (n : Int) (m : Int) 200).toNat (0 : Int)).length), decide ((min3 (n : Int) (m : Int) 200).toNat < 9223372036854775808)] ++ lnQ (hashG h [] 0 (((xrL l q (min3 (n : Int) (m : Int) 200).toNat).drop 0).take (min3 (n : Int) (m : Int) 200).toNat) (min3 (n : Int) (m : Int) 200).toNat) (hashG h [] 0 ((l.drop 0).take (min3 (n : Int) (m : Int) 200).toNat) (min3 (n : Int) (m : Int) 200).toNat) (hashG h [] 0 ((q.drop 0).take (min3 (n : Int) (m : Int) 200).toNat) (min3 (n : Int) (m : Int) 200).toNat) (hashG h [] 0 (((List.replicate (min3 (n : Int) (m : Int) 200).toNat 0).drop 0).take (min3 (n : Int) (m : Int) 200).toNat) (min3 (n : Int) (m : Int) 200).toNat), .bool false true) := by kernel_rfl
theorem lin_bufnil (h : List Int) (n : Nat) (l : List Int) : res ((funcA Try.prog qP (deep Try.prog qP hgL 100 3) 100 7 (cArgs 0 [.pl (.ints .u8 16 h), .buf true .u8 n l, .pl .nilslice]) (cMem [.pl (.ints .u8 16 h), .buf true .u8 n l, .pl .nilslice])).go (false :: f16)) = some ([decide (n < 9223372036854775808), decide (0 ≤ min3 (n : Int) 0 200) && decide (min3 (n : Int) 0 200 ≤ (n : Int)), decide (0 ≤ min3 (n : Int) 0 200) && decide (min3 (n : Int) 0 200 ≤ ((0 : Nat) : Int)), !decide (0 < min3 (n : Int) 0 200), decide (0 + (min3 (n : Int) 0 200).toNat ≤ n), decide ((min3 (n : Int) 0 200).toNat < 9223372036854775808), decide (0 ≤ min3 (n : Int) 0 200) && decide (min3 (n : Int) 0 200 ≤ min3 (n : Int) 0 200) && decide (min3 (n : Int) 0 200 ≤ 1000000000), decide (0 + (min3 (n : Int) 0 200).toNat ≤ (List.replicate (min3 (n : Int) 0 200).toNat (0 : Int)).length), decide ((min3 (n : Int) 0 200).toNat < 9223372036854775808)] ++ lnQ (zeroH h) (hashG h [] 0 ((l.drop 0).take (min3 (n : Int) 0 200).toNat) (min3 (n : Int) 0 200).toNat) (zeroH h) (hashG h [] 0 (((List.replicate (min3 (n : Int) 0 200).toNat 0).drop 0).take (min3 (n : Int) 0 200).toNat) (min3 (n : Int) 0 200).toNat), .bool false true) := by kernel_rfl
theorem lin_bufemp (h : List Int) (n : Nat) (l : List Int) : res ((funcA Try.prog qP (deep Try.prog qP hgL 100 3) 100 7 (cArgs 0 [.pl (.ints .u8 16 h), .buf true .u8 n l, .empty]) (cMem [.pl (.ints .u8 16 h), .buf true .u8 n l, .empty])).go (false :: f16)) = some ([decide (n < 9223372036854775808), decide (0 ≤ min3 (n : Int) ((0 : Nat) : Int) 200) && decide (min3 (n : Int) ((0 : Nat) : Int) 200 ≤ (n : Int)), decide (0 ≤ min3 (n : Int) ((0 : Nat) : Int) 200) && decide (min3 (n : Int) ((0 : Nat) : Int) 200 ≤ ((0 : Nat) : Int)), !decide (0 < min3 (n : Int) ((0 : Nat) : Int) 200), decide (0 + (min3 (n : Int) ((0 : Nat) : Int) 200).toNat ≤ n), decide ((min3 (n : Int) ((0 : Nat) : Int) 200).toNat < 9223372036854775808), decide (0 ≤ min3 (n : Int) ((0 : Nat) : Int) 200) && decide (min3 (n : Int) ((0 : Nat) : Int) 200 ≤ min3 (n : Int) ((0 : Nat) : Int) 200) && decide (min3 (n : Int) ((0 : Nat) : Int) 200 ≤ 1000000000), decide (0 + (min3 (n : Int) ((0 : Nat) : Int) 200).toNat ≤ (List.replicate (min3 (n : Int) ((0 : Nat) : Int) 200).toNat (0 : Int)).length), decide ((min3 (n : Int) ((0 : Nat) : Int) 200).toNat < 9223372036854775808)] ++ lnQ (zeroH h) (hashG h [] 0 ((l.drop 0).take (min3 (n : Int) ((0 : Nat) : Int) 200).toNat) (min3 (n : Int) ((0 : Nat) : Int) 200).toNat) (zeroH h) (hashG h [] 0 (((List.replicate (min3 (n : Int) ((0 : Nat) : Int) 200).toNat 0).drop 0).take (min3 (n : Int) ((0 : Nat) : Int) 200).toNat) (min3 (n : Int) ((0 : Nat) : Int) 200).toNat), .bool false true) := by kernel_rfl
theorem lin_nilbuf (h : List Int) (m : Nat) (q : List Int) : res ((funcA Try.prog qP (deep Try.prog qP hgL 100 3) 100 7 (cArgs 0 [.pl (.ints .u8 16 h), .pl .nilslice, .buf true .u8 m q]) (cMem [.pl (.ints .u8 16 h), .pl .nilslice, .buf true .u8 m q])).go (false :: f16)) = some ([decide (m < 9223372036854775808), decide (0 ≤ min3 0 (m : Int) 200) && decide (min3 0 (m : Int) 200 ≤ ((0 : Nat) : Int)), decide (0 ≤ min3 0 (m : Int) 200) && decide (min3 0 (m : Int) 200 ≤ (m : Int)), !decide (0 < min3 0 (m : Int) 200), decide (0 + (min3 0 (m : Int) 200).toNat ≤ m), decide ((min3 0 (m : Int) 200).toNat < 9223372036854775808), decide (0 ≤ min3 0 (m : Int) 200) && decide (min3 0 (m : Int) 200 ≤ min3 0 (m : Int) 200) && decide (min3 0 (m : Int) 200 ≤ 1000000000), decide (0 + (min3 0 (m : Int) 200).toNat ≤ (List.replicate (min3 0 (m : Int) 200).toNat (0 : Int)).length), decide ((min3 0 (m : Int) 200).toNat < 9223372036854775808)] ++ lnQ (zeroH h) (zeroH h) (hashG h [] 0 ((q.drop 0).take (min3 0 (m : Int) 200).toNat) (min3 0 (m : Int) 200).toNat) (hashG h [] 0 (((List.replicate (min3 0 (m : Int) 200).toNat 0).drop 0).take (min3 0 (m : Int) 200).toNat) (min3 0 (m : Int) 200).toNat), .bool false true) := by kernel_rfl
theorem lin_nilnil (h : List Int) : res ((funcA Try.prog qP (deep Try.prog qP hgL 100 3) 100 7 (cArgs 0 [.pl (.ints .u8 16 h), .pl .nilslice, .pl .nilslice]) (cMem [.pl (.ints .u8 16 h), .pl .nilslice, .pl .nilslice])).go f16) = some ([] ++ lnQ (zeroH h) (zeroH h) (zeroH h) (zeroH h), .bool false true) := by kernel_rfl
theorem lin_nilemp (h : List Int) : res ((funcA Try.prog qP (deep Try.prog qP hgL 100 3) 100 7 (cArgs 0 [.pl (.ints .u8 16 h), .pl .nilslice, .empty]) (cMem [.pl (.ints .u8 16 h), .pl .nilslice, .empty])).go f16) = some ([] ++ lnQ (zeroH h) (zeroH h) (zeroH h) (zeroH h), .bool false true) := by kernel_rfl
theorem lin_empbuf (h : List Int) (m : Nat) (q : List Int) : res ((funcA Try.prog qP (deep Try.prog qP hgL 100 3) 100 7 (cArgs 0 [.pl (.ints .u8 16 h), .empty, .buf true .u8 m q]) (cMem [.pl (.ints .u8 16 h), .empty, .buf true .u8 m q])).go (false :: f16)) = some ([decide (m < 9223372036854775808), decide (0 ≤ min3 ((0 : Nat) : Int) (m : Int) 200) && decide (min3 ((0 : Nat) : Int) (m : Int) 200 ≤ ((0 : Nat) : Int)), decide (0 ≤ min3 ((0 : Nat) : Int) (m : Int) 200) && decide (min3 ((0 : Nat) : Int) (m : Int) 200 ≤ (m : Int)), !decide (0 < min3 ((0 : Nat) : Int) (m : Int) 200), decide (0 + (min3 ((0 : Nat) : Int) (m : Int) 200).toNat ≤ m), decide ((min3 ((0 : Nat) : Int) (m : Int) 200).toNat < 9223372036854775808), decide (0 ≤ min3 ((0 : Nat) : Int) (m : Int) 200) && decide (min3 ((0 : Nat) : Int) (m : Int) 200 ≤ min3 ((0 : Nat) : Int) (m : Int) 200) && decide (min3 ((0 : Nat) : Int) (m : Int) 200 ≤ 1000000000), decide (0 + (min3 ((0 : Nat) : Int) (m : Int) 200).toNat ≤ (List.replicate (min3 ((0 : Nat) : Int) (m : Int) 200).toNat (0 : Int)).length), decide ((min3 ((0 : Nat) : Int) (m : Int) 200).toNat < 9223372036854775808)] ++ lnQ (zeroH h) (zeroH h) (hashG h [] 0 ((q.drop 0).take (min3 ((0 : Nat) : Int) (m : Int) 200).toNat) (min3 ((0 : Nat) : Int) (m : Int) 200).toNat) (hashG h [] 0 (((List.replicate (min3 ((0 : Nat) : Int) (m : Int) 200).toNat 0).drop 0).take (min3 ((0 : Nat) : Int) (m : Int) 200).toNat) (min3 ((0 : Nat) : Int) (m : Int) 200).toNat), .bool false true) := by kernel_rfl
theorem lin_empnil (h : List Int) : res ((funcA Try.prog qP (deep Try.prog qP hgL 100 3) 100 7 (cArgs 0 [.pl (.ints .u8 16 h), .empty, .pl .nilslice]) (cMem [.pl (.ints .u8 16 h), .empty, .pl .nilslice])).go f16) = some ([] ++ lnQ (zeroH h) (zeroH h) (zeroH h) (zeroH h), .bool false true) := by kernel_rfl
theorem lin_empemp (h : List Int) : res ((funcA Try.prog qP (deep Try.prog qP hgL 100 3) 100 7 (cArgs 0 [.pl (.ints .u8 16 h), .empty, .empty]) (cMem [.pl (.ints .u8 16 h), .empty, .empty])).go f16) = some ([] ++ lnQ (zeroH h) (zeroH h) (zeroH h) (zeroH h), .bool false true) := by kernel_rfl
theorem gcmLinear_calls {h : List Int} (k0 : h.length = 16) (r0 : ∀ x ∈ h, inR .u8 x = true) (W : World) {v v2 : Value} (hv : (v = .slice none 0 0 ∨ ∃ (a : Addr) (len cap : Nat) (zs : List Int), v = .slice (some a) len cap ∧ len ≤ cap ∧ cap ≤ maxLen ∧ zs.length = cap ∧ (∀ i, i < zs.length → W.cell? (a.add i) = some (.int .u8 (zs.getD i 0))) ∧ ∀ n ∈ zs, inR .u8 n = true)) (hv2 : (v2 = .slice none 0 0 ∨ ∃ (a : Addr) (len cap : Nat) (zs : List Int), v2 = .slice (some a) len cap ∧ len ≤ cap ∧ cap ≤ maxLen ∧ zs.length = cap ∧ (∀ i, i < zs.length → W.cell? (a.add i) = some (.int .u8 (zs.getD i 0))) ∧ ∀ n ∈ zs, inR .u8 n = true)) :
    Calls Try.prog 7 #[.agg (h.map (Value.int .u8)).toArray, v, v2] W (fun e w' => e = .returned (.bool true) ∧ Below W.heap.size W w') := by
  have h0 : ∃ L, VOk W 0 L (.pl (.ints .u8 16 h)) (.agg (h.map (Value.int .u8)).toArray) := VOk.plain fun ρ N => .ints .u8 16 h k0 r0
  rcases VOk.bytes (W := W) 1 hv with g | g | ⟨n, l, hn, hm, hl, hr, g⟩ <;> rcases VOk.bytes (W := W) 2 hv2 with g2 | g2 | ⟨m, q, hn2, hm2, hl2, hr2, g2⟩
  · exact law_of_go mixed (hgL_ok.deep mixed noCount 100 3) f16 (lin_nilnil h) (paid_append.2 ⟨Paid.nil, zeroQ r0⟩) rfl (.cons _ _ _ _ _ h0 (.cons _ _ _ _ _ g (.cons _ _ _ _ _ g2 (.nil _))))
  · exact law_of_go mixed (hgL_ok.deep mixed noCount 100 3) f16 (lin_nilemp h) (paid_append.2 ⟨Paid.nil, zeroQ r0⟩) rfl (.cons _ _ _ _ _ h0 (.cons _ _ _ _ _ g (.cons _ _ _ _ _ g2 (.nil _))))
  · have dm : m < 9223372036854775808 := by unfold maxLen at hm2; omega
    obtain ⟨b1, b2, b3, b4, b5⟩ := min3_of 0 (m : Int) (by omega) (by omega)
    have ev := lin_nilbuf h m q
    have hz : min3 0 (m : Int) 200 = 0 := by omega
    rw [hz] at ev
    exact law_of_go mixed (hgL_ok.deep mixed noCount 100 3) (false :: f16) ev (paid_append.2 ⟨(paid_cons (decide_eq_true dm) (paid_cons (by decide) (paid_cons (by simp) (paid_cons (by decide) (paid_cons (decide_eq_true (Nat.zero_le _)) (paid_cons (by decide) (paid_cons (by decide) (paid_cons (by decide) (paid_cons (by decide) Paid.nil))))))))), zeroQ r0⟩) rfl (.cons _ _ _ _ _ h0 (.cons _ _ _ _ _ g (.cons _ _ _ _ _ g2 (.nil _))))
  · exact law_of_go mixed (hgL_ok.deep mixed noCount 100 3) f16 (lin_empnil h) (paid_append.2 ⟨Paid.nil, zeroQ r0⟩) rfl (.cons _ _ _ _ _ h0 (.cons _ _ _ _ _ g (.cons _ _ _ _ _ g2 (.nil _))))
  · exact law_of_go mixed (hgL_ok.deep mixed noCount 100 3) f16 (lin_empemp h) (paid_append.2 ⟨Paid.nil, zeroQ r0⟩) rfl (.cons _ _ _ _ _ h0 (.cons _ _ _ _ _ g (.cons _ _ _ _ _ g2 (.nil _))))
  · have dm : m < 9223372036854775808 := by unfold maxLen at hm2; omega
    obtain ⟨b1, b2, b3, b4, b5⟩ := min3_of ((0 : Nat) : Int) (m : Int) (by omega) (by omega)
    have ev := lin_empbuf h m q
    have hz : min3 ((0 : Nat) : Int) (m : Int) 200 = 0 := by omega
    rw [hz] at ev
    exact law_of_go mixed (hgL_ok.deep mixed noCount 100 3) (false :: f16) ev (paid_append.2 ⟨(paid_cons (decide_eq_true dm) (paid_cons (by decide) (paid_cons (by simp) (paid_cons (by decide) (paid_cons (decide_eq_true (Nat.zero_le _)) (paid_cons (by decide) (paid_cons (by decide) (paid_cons (by decide) (paid_cons (by decide) Paid.nil))))))))), zeroQ r0⟩) rfl (.cons _ _ _ _ _ h0 (.cons _ _ _ _ _ g (.cons _ _ _ _ _ g2 (.nil _))))
  · have dn : n < 9223372036854775808 := by unfold maxLen at hm; omega
    obtain ⟨b1, b2, b3, b4, b5⟩ := min3_of (n : Int) 0 (by omega) (by omega)
    have ev := lin_bufnil h n l
    have hz : min3 (n : Int) 0 200 = 0 := by omega
    rw [hz] at ev
    exact law_of_go mixed (hgL_ok.deep mixed noCount 100 3) (false :: f16) ev (paid_append.2 ⟨(paid_cons (decide_eq_true dn) (paid_cons (by simp) (paid_cons (by decide) (paid_cons (by decide) (paid_cons (decide_eq_true (Nat.zero_le _)) (paid_cons (by decide) (paid_cons (by decide) (paid_cons (by decide) (paid_cons (by decide) Paid.nil))))))))), zeroQ r0⟩) rfl (.cons _ _ _ _ _ h0 (.cons _ _ _ _ _ g (.cons _ _ _ _ _ g2 (.nil _))))
  · have dn : n < 9223372036854775808 := by unfold maxLen at hm; omega
    obtain ⟨b1, b2, b3, b4, b5⟩ := min3_of (n : Int) ((0 : Nat) : Int) (by omega) (by omega)
    have ev := lin_bufemp h n l
    have hz : min3 (n : Int) ((0 : Nat) : Int) 200 = 0 := by omega
    rw [hz] at ev
    exact law_of_go mixed (hgL_ok.deep mixed noCount 100 3) (false :: f16) ev (paid_append.2 ⟨(paid_cons (decide_eq_true dn) (paid_cons (by simp) (paid_cons (by decide) (paid_cons (by decide) (paid_cons (decide_eq_true (Nat.zero_le _)) (paid_cons (by decide) (paid_cons (by decide) (paid_cons (by decide) (paid_cons (by decide) Paid.nil))))))))), zeroQ r0⟩) rfl (.cons _ _ _ _ _ h0 (.cons _ _ _ _ _ g (.cons _ _ _ _ _ g2 (.nil _))))
  · have dn : n < 9223372036854775808 := by unfold maxLen at hm; omega
    have dm : m < 9223372036854775808 := by unfold maxLen at hm2; omega
    obtain ⟨b1, b2, b3, b4, b5⟩ := min3_of (n : Int) (m : Int) (by omega) (by omega)
    have ev := lin_bufbuf h n l m q
    have hd : min3 (n : Int) (m : Int) 200 = (((min3 (n : Int) (m : Int) 200).toNat : Nat) : Int) := by omega
    generalize hK : (min3 (n : Int) (m : Int) 200).toNat = K at ev hd
    rw [hd] at ev b1 b2 b3 b4 b5
    have hKn : K ≤ n := by omega
    have hKm : K ≤ m := by omega
    have hx : (xrL l q K).length = K := by simp [xrL]
    exact law_of_goN (n := 100) mixed (hgL_ok.deep mixed noCount 100 3) (fun fn c hf hb => by rw [bodyOf_eq hf hb]; exact ln_lok) f16 ev (paid_append.2 ⟨(paid_cons (decide_eq_true dn) (paid_cons (decide_eq_true dm) (paid_cons (by rw [decide_eq_true (by omega), decide_eq_true (by omega)]; rfl) (paid_cons (by rw [decide_eq_true (by omega), decide_eq_true (by omega)]; rfl) (paid_cons (decide_eq_true rfl) (paid_cons (decide_eq_true rfl) (paid_cons (decide_eq_true rfl) (paid_cons (decide_eq_true rfl) (paid_cons (decide_eq_true (by omega)) (paid_cons (decide_eq_true (by omega)) (paid_cons (decide_eq_true (by omega)) (paid_cons (decide_eq_true (by omega)) (paid_cons (decide_eq_true (by omega)) (paid_cons (decide_eq_true (show K < 9223372036854775808 by omega)) (paid_cons (decide_eq_true (by omega)) (paid_cons (decide_eq_true (show K < 9223372036854775808 by omega)) (paid_cons (decide_eq_true (by omega)) (paid_cons (decide_eq_true (show K < 9223372036854775808 by omega)) (paid_cons (by rw [decide_eq_true (by omega), decide_eq_true (by omega), decide_eq_true (by omega)]; rfl) (paid_cons (decide_eq_true (by simp)) (paid_cons (decide_eq_true (show K < 9223372036854775808 by omega)) Paid.nil))))))))))))))))))))), lin_paid r0 hr hr2 (by omega) (by omega) (by omega)⟩) rfl (.cons _ _ _ _ _ h0 (.cons _ _ _ _ _ g (.cons _ _ _ _ _ g2 (.nil _))))

theorem gcmLinear_lifted (os : Os) (started : os.Started) (H : Type) (enc : TypeId × Value → H) :
    ReturnsInHanded {} Try.checked os 7 .any (Rows.gcmLinearSpec.pre6 enc Try.prog Try.f7 Rows.gcmLinearRow.domain false) (Rows.gcmLinearSpec.post enc Try.prog Try.f7 false true false false) := by
  refine returnsInHanded_of_change (C := Try.checked) own started (by kernel_rfl) Try.func7
    (ChangeSpec.witness6 (enc := enc) (C := Try.checked) false ⟨#[], #[.agg #[.int .u8 0, .int .u8 0, .int .u8 0, .int .u8 0, .int .u8 0, .int .u8 0, .int .u8 0, .int .u8 0, .int .u8 0, .int .u8 0, .int .u8 0, .int .u8 0, .int .u8 0, .int .u8 0, .int .u8 0, .int .u8 0], .slice none 0 0, .slice none 0 0], []⟩ 8 (by kernel_rfl) (by kernel_rfl) (by kernel_rfl) (by kernel_rfl)) ?_
  intro W base args ds gs before hval0 hW hcnd _
  have hval : ∀ (j : Nat) t v, Try.f7.params[j]? = some t → args[j]? = some v → Value.okWide Try.prog W .any base t v := hval0
  have hW' := hW
  obtain ⟨p, q, hA0, hV, rfl, hfz, hnd⟩ := hW
  have hA : DataW.TrodAll enc Try.prog W 0 (fun _ => true) true Try.f7.params.toList args.toList ds p := hA0
  rw [Try.params7] at hA hval
  obtain ⟨v0, v1, v2, d0, d1, d2, p0, p1, p2, hargs, rfl, rfl, g0, g1, g2⟩ := trodAll_three hA
  have hargs' : args = #[v0, v1, v2] := by simpa using hargs
  subst hargs'
  obtain ⟨rfl, rfl⟩ := trodVars_none hV
  obtain ⟨l0, k0, rfl, r0⟩ := arr_rep Try.underlying22 (n := 16) (by kernel_rfl) (show Try.prog.cellTypes Try.prog.depth 22 = some (List.replicate 16 5) by kernel_rfl) (e := 5) (by intro x hx; exact List.eq_of_mem_replicate hx) Try.underlying5 (hval 0 _ v0 rfl rfl)
  have hv1 := nums_open Try.underlying23 Try.underlying5 (by kernel_rfl) (hval 1 _ v1 rfl rfl) g1
  have hv2 := nums_open Try.underlying23 Try.underlying5 (by kernel_rfl) (hval 2 _ v2 rfl rfl) g2
  refine (gcmLinear_calls k0 r0 W hv1 hv2).mono fun e W' ⟨he, hb⟩ => ?_
  exact ⟨_, he, post_of_law laidOut (by rw [Try.params7]; decide +kernel) hW' rfl rfl Try.underlying4 rfl rfl rfl hb⟩

theorem gcmLinear_holds : Rows.GcmLinearSaid :=
  OpenClaim.holds_of_wide 7 Try.f7 rfl rfl rfl rfl rfl rfl rfl ⟨rfl, rfl, rfl, rfl, rfl⟩ rfl rfl rfl rfl rfl (by kernel_rfl) Try.func7 (by kernel_rfl)
    (of_decide_eq_true (by kernel_rfl)) (by unfold Func.isWrapper; first | (rw [if_pos (by decide +kernel)]; kernel_rfl) | (rw [if_neg (by decide +kernel)]; exact ⟨rfl, rfl⟩))
    (fun os started H enc _ => gcmLinear_lifted os started H enc)
end Go.Proofs.Ytljndahfackolaa
