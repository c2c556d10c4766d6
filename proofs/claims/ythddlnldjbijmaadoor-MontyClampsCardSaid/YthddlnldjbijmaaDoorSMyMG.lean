/- A Mod that is made, and its sums, differences and products. Own work. -/
import Derived.Test.YthddlnldjbijmaaDoorSMyMF
set_option linter.unusedSimpArgs false
set_option linter.unusedVariables false
set_option linter.unusedSectionVars false
namespace Go.Ev
section
variable {P : Program} {q : FuncId → Bool} {H : CallH}
theorem view_of_goflat (hm : P.follows .mixedOrders = true) (hng : noCount P = true) (hH : HOk P H) {n : Nat} {g : FuncId} {xs : List V} {o : List Bool} {v v' : AV} {m' bs : Mem} (ds : List Bool)
    (h : ((funcA P q H n g (cArgs 0 xs) (cMem xs)).go ds).flat = some (o, (v', m'))) (ho : Paid o) (hv : v' = upA xs.length v) (hb : m'.drop xs.length = bs.map (upB xs.length)) (hle : m'.length = xs.length + bs.length) : ViewCall P g xs v bs := by
  intro ρ vs w ha hi
  have hcm : (cMem xs).length = xs.length := by simp [cMem]
  have ha' : Reps ρ (upto (cMem xs).length) (cArgs 0 xs) vs := by rw [hcm]; exact ha
  have hi' : Inv w (fun _ => False) (upto (cMem xs).length) ρ (getName (cMem xs)) w := by rw [hcm]; exact hi
  obtain ⟨hf, hc⟩ := funcA_sound hm hH (go_sound (flat_sound h ho)) ha' hi'
  refine callRun_of hng hf (hc.mono fun e w' ⟨u, h1, x', m2, ρ', k1, k2, k3, k4, k5⟩ => ⟨u, h1, ρ', ?_, ?_⟩)
  · cases k1
    rw [← hle, ← hv]; exact k2
  · cases k1
    have hlen : xs.length + bs.length = m'.length := hle.symm
    rw [hlen]
    have k4' : Agr ρ ρ' (upto xs.length) := by rw [hcm] at k4; exact k4
    refine hi.join (S1 := fun _ => False) k3 (fun _ h => h.elim) (fun i hi => by simp [upto] at *; omega) (fun _ h => h) k4' (fun _ _ => rfl) fun n b hn => ?_
    rw [getName_app] at hn
    split at hn
    · exact Or.inl ⟨hn, fun h => h⟩
    · rename_i hlt
      obtain ⟨g1, g2⟩ := getName_onlyRw hn
      rw [← hb, getName_drop, hcm, show xs.length + (n - xs.length) = n by rw [hcm] at hlt; omega] at g1
      exact Or.inr ⟨g1, g2⟩
end
end Go.Ev
namespace Go.Wn
open Go.Ev
theorem newL_good {m0 m1 m2 m3 : Int} (h0 : W m0) (h1 : W m1) (h2 : W m2) (h3 : W m3) (ho : val [m0, m1, m2, m3] % 2 = 1) (hm : 1 < val [m0, m1, m2, m3]) : good (Go.Proofs.YthddlnldjbijmaaDoor.newL [m0, m1, m2, m3]) = true := by
  have hr := val_range h0 h1 h2 h3
  have hodd : m0 % 2 = 1 := by simp [val] at ho; omega
  refine good_iff.2 ⟨ho, hm, ?_, ?_⟩
  · show (m0 * IntKind.u64.wrap (0 - invF m0) + 1) % 18446744073709551616 = 0
    have e := invF_spec hodd
    have e2 : (m0 * IntKind.u64.wrap (0 - invF m0)) % 18446744073709551616 = (m0 * (0 - invF m0)) % 18446744073709551616 := by rw [wrap_eq, mul_mod_right]
    have e3 : m0 * (0 - invF m0) = - (m0 * invF m0) := by rw [Int.mul_sub, Int.mul_zero]; omega
    rw [e3] at e2
    generalize m0 * IntKind.u64.wrap (0 - invF m0) = x at *
    generalize m0 * invF m0 = y at *
    omega
  · show val (limbs ((2 ^ 256 * 2 ^ 256) % val [m0, m1, m2, m3])) = _
    exact lv ⟨by omega, hr.2⟩
end Go.Wn
namespace Go.Proofs.YthddlnldjbijmaaDoor
open Go.Ev Go.Wn
set_option maxRecDepth 100000
def evenT (a b c d : Int) : Bool := match iand .u64 a 1 == 0 with | true => true | false => decide ([a, b, c, d] = [1, 0, 0, 0])
theorem new_good (a b c d : Int) : ((funcA Tryd.prog qAll hm8 100 30 (cArgs 0 [.pl (.ints .u64 4 [a, b, c, d])]) (cMem [.pl (.ints .u64 4 [a, b, c, d])])).go [false]).flat =
    some ([!(!(iand .u64 a 1 == 0)) || !(iand .u64 a 1 == 0), !(!(iand .u64 a 1 == 0)) || !(iand .u64 a 1 == 0), (iand .u64 a 1 == 0) || !(iand .u64 a 1 == 0), !evenT a b c d, decide (val [a, b, c, d] % 2 = 1), decide (1 < val [a, b, c, d]), decide ((a * IntKind.u64.wrap (0 - invF a) + 1) % 18446744073709551616 = 0)],
      (.tuple [.ptr false 2 0, .int false .i64 0], [none, some ⟨true, .ints .u64 (some 4) [a, b, c, d]⟩, some ⟨true, .ints .u64 (some 9) (newL [a, b, c, d])⟩])) := by kernel_rfl
theorem evenT_iff {a b c d : Int} (ha : W a) (hb : W b) (hc : W c) (hd : W d) : evenT a b c d = true ↔ (val [a, b, c, d] % 2 = 0 ∨ val [a, b, c, d] = 1) := by
  unfold evenT
  rw [iand_one ha]
  unfold W at *
  cases h : (a % 2 == 0) with
  | true =>
    have : a % 2 = 0 := by simpa using h
    simp [val]; omega
  | false =>
    have : ¬ a % 2 = 0 := by simpa using h
    simp only [decide_eq_true_eq, List.cons.injEq, and_true]
    simp [val]
    omega
def newG : List V → E (AV × Mem)
  | [.pl (.ints .u64 4 m)] => some ([decide (val m % 2 = 1), decide (1 < val m)], (.tuple [.ptr false 1 0, .int false .i64 0], [some ⟨true, .ints .u64 (some 4) m⟩, some ⟨true, .ints .u64 (some 9) (newL m)⟩]))
  | _ => none
theorem guard3 (p : Bool) : Paid [!(!p) || !p, !(!p) || !p, p || !p] := by cases p <;> exact paid_cons rfl (paid_cons rfl (paid_cons rfl Paid.nil))
theorem newG_ok {xs : List V} {o : List Bool} {v : AV} {bs : Mem} (h : newG xs = some (o, (v, bs))) (ho : Paid o) : ViewCall Tryd.prog 30 xs v bs := by
  unfold newG at h
  split at h
  · rename_i m
    cases h
    have h1 := ho _ (List.mem_cons_self ..)
    have h2 := ho _ (List.mem_cons_of_mem _ (List.mem_cons_self ..))
    rw [decide_eq_true_eq] at h1 h2
    intro ρ vs w ha hi
    have hb := ha
    cases hb with
    | cons _ _ _ _ r0 hb =>
      obtain ⟨a, b, c, d, rfl, wa, wb, wc, wd⟩ := num_arg r0
      have hg := good_iff.1 (newL_good wa wb wc wd h1 h2)
      have he : evenT a b c d = false := by
        cases h : evenT a b c d with
        | true => have := (evenT_iff wa wb wc wd).1 h; omega
        | false => rfl
      exact view_of_goflat mixed noCount hm8_ok [false] (new_good a b c d) (paid_append.2 ⟨guard3 _, paid_cons (by rw [he]; rfl) (paid_cons (decide_eq_true h1) (paid_cons (decide_eq_true h2) (paid_cons (decide_eq_true hg.2.2.1) Paid.nil)))⟩) rfl rfl rfl ha hi
  · cases h
end Go.Proofs.YthddlnldjbijmaaDoor
