/- A Mod that is made, and its sums, differences and products. Own work. -/
import Derived.Test.YtapficdphhfpnaaDoorTMyMF
set_option linter.unusedSimpArgs false
set_option linter.unusedVariables false
set_option linter.unusedSectionVars false
namespace Go.Ev
section
variable {P : Program} {q : FuncId → Bool} {H : CallH}
theorem view_of_goflat (hm : P.follows .mixedOrders = true) (hng : noCount P = true) (hH : HOk P H) {n : Nat} {g : FuncId} {xs : List V} {o : List Bool} {v v' : AV} {m' bs : Mem} (ds : List Bool)
    (h : ((funcA P q H n g (cArgs 0 xs) (cMem xs)).go ds).flat = some (o, (v', m'))) (ho : Paid o) (hv : v' = upA xs.length v) (hb : m'.drop xs.length = bs.map (upB xs.length)) (hle : m'.length = xs.length + bs.length) : ViewCall P g xs v bs := by
  intro ρ vs w ha hi
  have hcm : (cMem xs).length = xs.length := by simp [cMem]
  have ha' : Reps ρ (upto (cMem xs).length) (cArgs 0 xs) vs := by rw [hcm]; exact ha
  have hi' : Inv w (fun _ => False) (upto (cMem xs).length) ρ (getName (cMem xs)) w := by rw [hcm]; exact hi
  obtain ⟨hf, hc⟩ := funcA_sound hm hH (go_sound (flat_sound h ho)) ha' hi'
  refine callRun_of hng hf (hc.mono fun e w' ⟨u, h1, x', m2, ρ', k1, k2, k3, k4, k5⟩ => ⟨u, h1, ρ', ?_, ?_⟩)
  · cases k1
    rw [← hle, ← hv]; exact k2
  · cases k1
    have hlen : xs.length + bs.length = m'.length := hle.symm
    rw [hlen]
    have k4' : Agr ρ ρ' (upto xs.length) := by rw [hcm] at k4; exact k4
    refine hi.join (S1 := fun _ => False) k3 (fun _ h => h.elim) (fun i hi => by simp [upto] at *; omega) (fun _ h => h) k4' (fun _ _ => rfl) fun n b hn => ?_
    rw [getName_app] at hn
    split at hn
    · exact Or.inl ⟨hn, fun h => h⟩
    · rename_i hlt
      obtain ⟨g1, g2⟩ := getName_onlyRw hn
      rw [← hb, getName_drop, hcm, show xs.length + (n - xs.length) = n by rw [hcm] at hlt; omega] at g1
      exact Or.inr ⟨g1, g2⟩
end
end Go.Ev
namespace Go.Wn
open Go.Ev
theorem newL_good {m0 m1 m2 m3 : Int} (h0 : W m0) (h1 : W m1) (h2 : W m2) (h3 : W m3) (ho : val [m0, m1, m2, m3] % 2 = 1) (hm : 1 < val [m0, m1, m2, m3]) : good (Go.Proofs.YtapficdphhfpnaaDoor.newL [m0, m1, m2, m3]) = true := by
  have hr := val_range h0 h1 h2 h3
  have hodd : m0 % 2 = 1 := by simp [val] at ho; omega
  refine good_iff.2 ⟨ho, hm, ?_, ?_⟩
  · show (m0 * IntKind.u64.wrap (0 - invF m0) + 1) % 18446744073709551616 = 0
    have e := invF_spec hodd
    have e2 : (m0 * IntKind.u64.wrap (0 - invF m0)) % 18446744073709551616 = (m0 * (0 - invF m0)) % 18446744073709551616 := by rw [wrap_eq, mul_mod_right]
    have e3 : m0 * (0 - invF m0) = - (m0 * invF m0) := by rw [Int.mul_sub, Int.mul_zero]; omega
    rw [e3] at e2
    generalize m0 * IntKind.u64.wrap (0 - invF m0) = x at *
    generalize m0 * invF m0 = y at *
    omega
  · show val (limbs ((2 ^ 256 * 2 ^ 256) % val [m0, m1, m2, m3])) = _
    exact lv ⟨by omega, hr.2⟩
end Go.Wn
namespace Go.Proofs.YtapficdphhfpnaaDoor
open Go.Ev Go.Wn
set_option maxRecDepth 100000
def evenT (a b c d : Int) : Bool := match iand .u64 a 1 == 0 with | true => true | false => decide ([a, b, c, d] = [1, 0, 0, 0])
theorem new_good (a b c d : Int) : ((funcA Tryd.prog qAll hm8 100 56 (cArgs 0 [.pl (.ints .u64 4 [a, b, c, d])]) (cMem [.pl (.ints .u64 4 [a, b, c, d])])).go [false]).flat =
    some ([!(!(iand .u64 a 1 == 0)) || !(iand .u64 a 1 == 0), !(!(iand .u64 a 1 == 0)) || !(iand .u64 a 1 == 0), (iand .u64 a 1 == 0) || !(iand .u64 a 1 == 0), !evenT a b c d, decide (val [a, b, c, d] % 2 = 1), decide (1 < val [a, b, c, d]), decide ((a * IntKind.u64.wrap (0 - invF a) + 1) % 18446744073709551616 = 0)],
      (.tuple [.ptr false 2 0, .int false .i64 0], [none, some ⟨true, .ints .u64 (some 4) [a, b, c, d]⟩, some ⟨true, .ints .u64 (some 9) (newL [a, b, c, d])⟩])) := by kernel_rfl
theorem evenT_iff {a b c d : Int} (ha : W a) (hb : W b) (hc : W c) (hd : W d) : evenT a b c d = true ↔ (val [a, b, c, d] % 2 = 0 ∨ val [a, b, c, d] = 1) := by
  unfold evenT
  rw [iand_one ha]
  unfold W at *
  cases h : (a % 2 == 0) with
  | true =>
    have : a % 2 = 0 := by simpa using h
    simp [val]; omega
  | false =>
    have : ¬ a % 2 = 0 := by simpa using h
    simp only [decide_eq_true_eq, List.cons.injEq, and_true]
    simp [val]
    omega
def newG : List V → E (AV × Mem)
  | [.pl (.ints .u64 4 m)] => some ([decide (val m % 2 = 1), decide (1 < val m)], (.tuple [.ptr false 1 0, .int false .i64 0], [some ⟨true, .ints .u64 (some 4) m⟩, some ⟨true, .ints .u64 (some 9) (newL m)⟩]))
  | _ => none
theorem guard3 (p : Bool) : Paid [!(!p) || !p, !(!p) || !p, p || !p] := by cases p <;> exact paid_cons rfl (paid_cons rfl (paid_cons rfl Paid.nil))
theorem newG_ok {xs : List V} {o : List Bool} {v : AV} {bs : Mem} (h : newG xs = some (o, (v, bs))) (ho : Paid o) : ViewCall Tryd.prog 56 xs v bs := by
  unfold newG at h
  split at h
  · rename_i m
    cases h
    have h1 := ho _ (List.mem_cons_self ..)
    have h2 := ho _ (List.mem_cons_of_mem _ (List.mem_cons_self ..))
    rw [decide_eq_true_eq] at h1 h2
    intro ρ vs w ha hi
    have hb := ha
    cases hb with
    | cons _ _ _ _ r0 hb =>
      obtain ⟨a, b, c, d, rfl, wa, wb, wc, wd⟩ := num_arg r0
      have hg := good_iff.1 (newL_good wa wb wc wd h1 h2)
      have he : evenT a b c d = false := by
        cases h : evenT a b c d with
        | true => have := (evenT_iff wa wb wc wd).1 h; omega
        | false => rfl
      exact view_of_goflat mixed noCount hm8_ok [false] (new_good a b c d) (paid_append.2 ⟨guard3 _, paid_cons (by rw [he]; rfl) (paid_cons (decide_eq_true h1) (paid_cons (decide_eq_true h2) (paid_cons (decide_eq_true hg.2.2.1) Paid.nil)))⟩) rfl rfl rfl ha hi
  · cases h
end Go.Proofs.YtapficdphhfpnaaDoor
namespace Go.Proofs.YtapficdphhfpnaaDoor
open Go.Ev Go.Wn
set_option maxRecDepth 100000
theorem rest_lt {M : Int} (hM : 0 < M) (a : Int) : 0 ≤ a % M ∧ a % M < M := ⟨Int.emod_nonneg _ (by omega), Int.emod_lt_of_pos _ hM⟩
theorem sub_pick {M x y : Int} (_hM : 0 < M ∧ M < W4) (hx : 0 ≤ x ∧ x < M) (hy : 0 ≤ y ∧ y < M) : pickL (if x < y then 1 else 0) (limbs (val (limbs (x - y)) + M)) (limbs (x - y)) = limbs ((x - y) % M) := by
  unfold pickL
  by_cases h : x < y
  · rw [if_pos h, if_pos (by decide)]
    have e : (x - y) % M = x - y + M := by rw [← Int.add_emod_right, Int.emod_eq_of_lt (by omega) (by omega)]
    rw [e, val_limbs]
    apply limbs_congr
    unfold W4
    omega
  · rw [if_neg h, if_neg (by decide), Int.emod_eq_of_lt (by omega) (by omega)]
def mdsS : List V → E (AV × Mem)
  | [.pt (.ints .u64 (some 9) L)] => some ([good L], (.ints .u64 4 (L.take 4), []))
  | _ => none
theorem mds_eval (m0 m1 m2 m3 ni s0 s1 s2 s3 : Int) : res (funcA Tryd.prog qAll hm8 100 32 (cArgs 0 [.pt (.ints .u64 (some 9) [m0, m1, m2, m3, ni, s0, s1, s2, s3])]) (cMem [.pt (.ints .u64 (some 9) [m0, m1, m2, m3, ni, s0, s1, s2, s3])])) =
    some ([], .ints .u64 4 ([m0, m1, m2, m3])) := by kernel_rfl
theorem mds_ok {xs : List V} {o : List Bool} {v : AV} {bs : Mem} (h : mdsS xs = some (o, (v, bs))) (ho : Paid o) : ViewCall Tryd.prog 32 xs v bs := by
  unfold mdsS at h
  split at h
  · rename_i L 
    cases h
    have hg := ho _ (List.mem_cons_self ..)
    obtain ⟨h1, h2, h3, h4⟩ := good_iff.1 hg
    intro ρ vs w ha hi
    obtain ⟨m0, m1, m2, m3, ni, s0, s1, s2, s3, rfl, w0, w1, w2, w3, wi, _⟩ := mod_arg hi rfl
    have hM : 0 < val [m0, m1, m2, m3, ni, s0, s1, s2, s3] ∧ val [m0, m1, m2, m3, ni, s0, s1, s2, s3] < W4 := ⟨by omega, (val_range w0 w1 w2 w3).2⟩
    have ev := mds_eval m0 m1 m2 m3 ni s0 s1 s2 s3 
    exact view_of_res mixed noCount hm8_ok ev Paid.nil rfl (by kernel_rfl) ha hi
  · cases h
def madS : List V → E (AV × Mem)
  | [.pt (.ints .u64 (some 9) L), .pl (.ints .u64 4 a), .pl (.ints .u64 4 b)] => some ([good L], (.ints .u64 4 (limbs ((val a + val b) % val L)), []))
  | _ => none
theorem mad_eval (m0 m1 m2 m3 ni s0 s1 s2 s3 : Int) (a b : List Int) : res (funcA Tryd.prog qAll hm8 100 63 (cArgs 0 [.pt (.ints .u64 (some 9) [m0, m1, m2, m3, ni, s0, s1, s2, s3]), .pl (.ints .u64 4 a), .pl (.ints .u64 4 b)]) (cMem [.pt (.ints .u64 (some 9) [m0, m1, m2, m3, ni, s0, s1, s2, s3]), .pl (.ints .u64 4 a), .pl (.ints .u64 4 b)])) =
    some ([good [m0, m1, m2, m3, ni, s0, s1, s2, s3], good [m0, m1, m2, m3, ni, s0, s1, s2, s3], decide (0 < val [m0, m1, m2, m3, ni, s0, s1, s2, s3]), decide (val (limbs (val a % val [m0, m1, m2, m3, ni, s0, s1, s2, s3])) + val (limbs (val b % val [m0, m1, m2, m3, ni, s0, s1, s2, s3])) < 2 * val [m0, m1, m2, m3, ni, s0, s1, s2, s3])], .ints .u64 4 (limbs ((val (limbs (val a % val [m0, m1, m2, m3, ni, s0, s1, s2, s3])) + val (limbs (val b % val [m0, m1, m2, m3, ni, s0, s1, s2, s3]))) % val [m0, m1, m2, m3, ni, s0, s1, s2, s3]))) := by kernel_rfl
theorem mad_ok {xs : List V} {o : List Bool} {v : AV} {bs : Mem} (h : madS xs = some (o, (v, bs))) (ho : Paid o) : ViewCall Tryd.prog 63 xs v bs := by
  unfold madS at h
  split at h
  · rename_i L a b
    cases h
    have hg := ho _ (List.mem_cons_self ..)
    obtain ⟨h1, h2, h3, h4⟩ := good_iff.1 hg
    intro ρ vs w ha hi
    obtain ⟨m0, m1, m2, m3, ni, s0, s1, s2, s3, rfl, w0, w1, w2, w3, wi, _⟩ := mod_arg hi rfl
    have hM : 0 < val [m0, m1, m2, m3, ni, s0, s1, s2, s3] ∧ val [m0, m1, m2, m3, ni, s0, s1, s2, s3] < W4 := ⟨by omega, (val_range w0 w1 w2 w3).2⟩
    have ev := mad_eval m0 m1 m2 m3 ni s0 s1 s2 s3 a b
    generalize [m0, m1, m2, m3, ni, s0, s1, s2, s3] = L at *
    rw [lv hM, lv hM] at ev
    have x := rest_lt hM.1 (val a); have y := rest_lt hM.1 (val b)
    exact view_of_res mixed noCount hm8_ok ev (paid_cons hg (paid_cons hg (paid_cons (decide_eq_true hM.1) (paid_cons (decide_eq_true (by omega)) Paid.nil)))) (by rw [← Int.add_emod]) (by kernel_rfl) ha hi
  · cases h
def msbS : List V → E (AV × Mem)
  | [.pt (.ints .u64 (some 9) L), .pl (.ints .u64 4 a), .pl (.ints .u64 4 b)] => some ([good L], (.ints .u64 4 (limbs ((val a - val b) % val L)), []))
  | _ => none
theorem msb_eval (m0 m1 m2 m3 ni s0 s1 s2 s3 : Int) (a b : List Int) : res (funcA Tryd.prog qAll hm8 100 65 (cArgs 0 [.pt (.ints .u64 (some 9) [m0, m1, m2, m3, ni, s0, s1, s2, s3]), .pl (.ints .u64 4 a), .pl (.ints .u64 4 b)]) (cMem [.pt (.ints .u64 (some 9) [m0, m1, m2, m3, ni, s0, s1, s2, s3]), .pl (.ints .u64 4 a), .pl (.ints .u64 4 b)])) =
    some ([good [m0, m1, m2, m3, ni, s0, s1, s2, s3], good [m0, m1, m2, m3, ni, s0, s1, s2, s3]], .ints .u64 4 (pickL (if val (limbs (val a % val [m0, m1, m2, m3, ni, s0, s1, s2, s3])) < val (limbs (val b % val [m0, m1, m2, m3, ni, s0, s1, s2, s3])) then 1 else 0) (limbs (val (limbs (val (limbs (val a % val [m0, m1, m2, m3, ni, s0, s1, s2, s3])) - val (limbs (val b % val [m0, m1, m2, m3, ni, s0, s1, s2, s3])))) + val [m0, m1, m2, m3, ni, s0, s1, s2, s3])) (limbs (val (limbs (val a % val [m0, m1, m2, m3, ni, s0, s1, s2, s3])) - val (limbs (val b % val [m0, m1, m2, m3, ni, s0, s1, s2, s3])))))) := by kernel_rfl
theorem msb_ok {xs : List V} {o : List Bool} {v : AV} {bs : Mem} (h : msbS xs = some (o, (v, bs))) (ho : Paid o) : ViewCall Tryd.prog 65 xs v bs := by
  unfold msbS at h
  split at h
  · rename_i L a b
    cases h
    have hg := ho _ (List.mem_cons_self ..)
    obtain ⟨h1, h2, h3, h4⟩ := good_iff.1 hg
    intro ρ vs w ha hi
    obtain ⟨m0, m1, m2, m3, ni, s0, s1, s2, s3, rfl, w0, w1, w2, w3, wi, _⟩ := mod_arg hi rfl
    have hM : 0 < val [m0, m1, m2, m3, ni, s0, s1, s2, s3] ∧ val [m0, m1, m2, m3, ni, s0, s1, s2, s3] < W4 := ⟨by omega, (val_range w0 w1 w2 w3).2⟩
    have ev := msb_eval m0 m1 m2 m3 ni s0 s1 s2 s3 a b
    generalize [m0, m1, m2, m3, ni, s0, s1, s2, s3] = L at *
    rw [lv hM, lv hM] at ev
    exact view_of_res mixed noCount hm8_ok ev (paid_cons hg (paid_cons hg Paid.nil)) (by rw [sub_pick hM (rest_lt hM.1 _) (rest_lt hM.1 _), ← Int.sub_emod]) (by kernel_rfl) ha hi
  · cases h
def mmlS : List V → E (AV × Mem)
  | [.pt (.ints .u64 (some 9) L), .pl (.ints .u64 4 a), .pl (.ints .u64 4 b)] => some ([good L], (.ints .u64 4 (limbs ((val a * val b) % val L)), []))
  | _ => none
theorem mml_eval (m0 m1 m2 m3 ni s0 s1 s2 s3 : Int) (a b : List Int) : res (funcA Tryd.prog qAll hm8 100 58 (cArgs 0 [.pt (.ints .u64 (some 9) [m0, m1, m2, m3, ni, s0, s1, s2, s3]), .pl (.ints .u64 4 a), .pl (.ints .u64 4 b)]) (cMem [.pt (.ints .u64 (some 9) [m0, m1, m2, m3, ni, s0, s1, s2, s3]), .pl (.ints .u64 4 a), .pl (.ints .u64 4 b)])) =
    some ([good [m0, m1, m2, m3, ni, s0, s1, s2, s3], decide (val [m0, m1, m2, m3, ni, s0, s1, s2, s3] % 2 = 1), decide ((m0 * ni + 1) % 18446744073709551616 = 0), decide (val (limbs ((val a * 2 ^ 256) % val [m0, m1, m2, m3, ni, s0, s1, s2, s3])) < val [m0, m1, m2, m3, ni, s0, s1, s2, s3])], .ints .u64 4 (limbs (mont (val b) (val (limbs ((val a * 2 ^ 256) % val [m0, m1, m2, m3, ni, s0, s1, s2, s3]))) (val [m0, m1, m2, m3, ni, s0, s1, s2, s3])))) := by kernel_rfl
theorem mml_ok {xs : List V} {o : List Bool} {v : AV} {bs : Mem} (h : mmlS xs = some (o, (v, bs))) (ho : Paid o) : ViewCall Tryd.prog 58 xs v bs := by
  unfold mmlS at h
  split at h
  · rename_i L a b
    cases h
    have hg := ho _ (List.mem_cons_self ..)
    obtain ⟨h1, h2, h3, h4⟩ := good_iff.1 hg
    intro ρ vs w ha hi
    obtain ⟨m0, m1, m2, m3, ni, s0, s1, s2, s3, rfl, w0, w1, w2, w3, wi, _⟩ := mod_arg hi rfl
    have hM : 0 < val [m0, m1, m2, m3, ni, s0, s1, s2, s3] ∧ val [m0, m1, m2, m3, ni, s0, s1, s2, s3] < W4 := ⟨by omega, (val_range w0 w1 w2 w3).2⟩
    have ev := mml_eval m0 m1 m2 m3 ni s0 s1 s2 s3 a b
    rw [lv hM] at ev
    exact view_of_res mixed noCount hm8_ok ev (paid_cons hg (paid_cons (decide_eq_true h1) (paid_cons (decide_eq_true h3) (paid_cons (decide_eq_true (Int.emod_lt_of_pos _ hM.1)) Paid.nil)))) (by rw [mont_grown h1, Int.mul_comm]) (by kernel_rfl) ha hi
  · cases h
def hm9 : CallH := withV 58 mmlS (withV 65 msbS (withV 63 madS (withV 32 mdsS hm8)))
theorem hm9_ok : HOk Tryd.prog hm9 := (((hm8_ok.withV fun _ _ _ _ h ho => mds_ok h ho).withV fun _ _ _ _ h ho => mad_ok h ho).withV fun _ _ _ _ h ho => msb_ok h ho).withV fun _ _ _ _ h ho => mml_ok h ho
end Go.Proofs.YtapficdphhfpnaaDoor
