/- Layer 11: bytes that came in, by cases. Own work. -/
import Derived.Test.YtapficdphhfpnaaDoorTWqJ
import Derived.Test.YtapficdphhfpnaaDoorTEvIn
set_option linter.unusedSimpArgs false
set_option linter.unusedVariables false
set_option linter.unusedSectionVars false
namespace Go.Proofs.YtapficdphhfpnaaDoor
open Go.Ev Go.Wn Go.We
set_option maxRecDepth 100000
theorem unmarkV {W : World} {j n : Nat} {k : IntKind} {l : List Int} {v : Value} (h : ∃ L, VOk W j L (.buf true k n l) v) : ∃ L, VOk W j L (.buf false k n l) v := by
  obtain ⟨L, h1, h2⟩ := h
  refine ⟨L, fun ρ N hρ hN => ?_, fun b hb => ⟨fun hrw => ?_, (h2 b hb).2⟩⟩
  · have hr := h1 ρ N hρ hN
    cases hr with
    | slice _ _ _ _ _ _ c ad hn hc hl hw had => exact .slice false _ _ _ _ _ c ad hn hc hl hw had
  · cases hb; cases hrw
/-- Bytes that came in: none, empty, another number of them, just so many. -/
theorem ways {W : World} (m : Nat) (j : Nat) {v : Value} (hv : v = .slice none 0 0 ∨ ∃ (a : Addr) (len cap : Nat) (zs : List Int), v = .slice (some a) len cap ∧ len ≤ cap ∧ cap ≤ maxLen ∧ zs.length = cap ∧ (∀ i, i < zs.length → W.cell? (a.add i) = some (.int .u8 (zs.getD i 0))) ∧ ∀ n ∈ zs, inR .u8 n = true) :
    (∃ L, VOk W j L (.pl .nilslice) v) ∨ (∃ L, VOk W j L .empty v) ∨ (∃ (n : Nat) (l : List Int), n < 9223372036854775808 ∧ (n : Int) ≠ (m : Int) ∧ ∃ L, VOk W j L (.buf true .u8 n l) v) ∨ ∃ l : List Int, l.length = m ∧ okb l ∧ ∃ L, VOk W j L (.buf false .u8 m l) v := by
  rcases VOk.bytes j hv with h | h | ⟨n, l, h1, h2, h3, h4, h5⟩
  · exact .inl h
  · exact .inr (.inl h)
  · by_cases h32 : n = m
    · subst h32
      exact .inr (.inr (.inr ⟨l, h3, h4, unmarkV h5⟩))
    · exact .inr (.inr (.inl ⟨n, l, by unfold maxLen at h2; omega, by omega, h5⟩))
theorem some_way {W : World} (j : Nat) {v : Value} (hv : v = .slice none 0 0 ∨ ∃ (a : Addr) (len cap : Nat) (zs : List Int), v = .slice (some a) len cap ∧ len ≤ cap ∧ cap ≤ maxLen ∧ zs.length = cap ∧ (∀ i, i < zs.length → W.cell? (a.add i) = some (.int .u8 (zs.getD i 0))) ∧ ∀ n ∈ zs, inR .u8 n = true) :
    ∃ B : V, isW B = false ∧ ∃ L, VOk W j L B v := by
  rcases VOk.bytes j hv with h | h | ⟨n, l, h1, h2, h3, h4, h5⟩
  · exact ⟨_, rfl, h⟩
  · exact ⟨_, rfl, h⟩
  · exact ⟨_, rfl, h5⟩
theorem noW_c {B : V} {r : List V} (h : isW B = false) : noW (B :: r) = noW r := by
  cases B <;> first | rfl | cases h
end Go.Proofs.YtapficdphhfpnaaDoor
namespace Go.Ev
set_option linter.unusedSectionVars false
variable [Tab]
def fixC (P : Program) (q : FuncId → Bool) (H : CallH) (fuel : Nat) (g : FuncId) (b : Bool) (X : CallH) : CallH := fun f args m =>
  match decide (f = g) with
  | true => match ((funcA P q H fuel f args (roAll m)).go []).flat with
    | some (o, (.bool _ c, m')) => some (o ++ [c == b], (.bool false b, m ++ onlyRw (m'.drop m.length)))
    | _ => X f args m
  | false => X f args m
section
variable {P : Program} {q : FuncId → Bool} {H X : CallH}
theorem HOk.fix (hm : P.follows .mixedOrders = true) (hng : noCount P = true) (hH : HOk P H) (hX : HOk P X) (fuel : Nat) (g : FuncId) (b : Bool) : HOk P (fixC P q H fuel g b X) := by
  have hT := HOk.turn (q := q) hm hng hH hX fuel g []
  have key : ∀ {f : FuncId} {xs : List AV} {m : Mem} {ob : List Bool} {v : AV} {m' : Mem}, fixC P q H fuel g b X f xs m = some (ob, (v, m')) → Paid ob →
      (X f xs m = some (ob, (v, m'))) ∨ (∃ o s c, turnC P q H fuel g [] X f xs m = some (o, (.bool s c, m')) ∧ Paid o ∧ c = b ∧ v = .bool false b) := by
    intro f xs m ob v m' h ho
    unfold fixC at h
    split at h
    · rename_i hf
      split at h
      · rename_i o s c m1 hflat
        cases h
        obtain ⟨p1, p2⟩ := paid_append.1 ho
        have hc := p2 _ (List.mem_cons_self ..)
        simp only [beq_iff_eq] at hc
        refine Or.inr ⟨o, s, c, ?_, p1, hc, rfl⟩
        unfold turnC
        simp only [hf, hflat]
      · exact Or.inl h
    · exact Or.inl h
  refine ⟨@fun f xs m ob v m' h ho => ?_, @fun f xs m ob v m' h ho w0 S ρ w vs ha hi => ?_⟩
  · rcases key h ho with h1 | ⟨o, s, c, h1, h2, _, _⟩
    · exact hX.le h1 ho
    · exact hT.le h1 h2
  · rcases key h ho with h1 | ⟨o, s, c, h1, h2, h3, h4⟩
    · exact hX.run h1 ho ha hi
    · subst h3 h4
      refine (hT.run h1 h2 ha hi).mono fun u w' ⟨ρ', k1, k2⟩ => ⟨ρ', ?_, k2⟩
      cases k1
      exact .bool _ _
end
end Go.Ev
namespace Go.Ev
set_option linter.unusedSectionVars false
variable [Tab]
/-- One of two handlers, by what is called. -/
def chooseH (c : FuncId → List AV → Mem → Bool) (X Y : CallH) : CallH := fun f xs m =>
  match c f xs m with
  | true => X f xs m
  | false => Y f xs m
/-- The first that answers. -/
def orH (X Y : CallH) : CallH := fun f xs m =>
  match X f xs m with
  | some r => some r
  | none => Y f xs m
section
variable {P : Program} {X Y : CallH}
theorem HOk.or (hX : HOk P X) (hY : HOk P Y) : HOk P (orH X Y) := by
  refine ⟨@fun f xs m ob v m' h ho => ?_, @fun f xs m ob v m' h ho w0 S ρ w vs ha hi => ?_⟩
  · unfold orH at h
    split at h
    · rename_i r hr; cases h; exact hX.le hr ho
    · exact hY.le h ho
  · unfold orH at h
    split at h
    · rename_i r hr; cases h; exact hX.run hr ho ha hi
    · exact hY.run h ho ha hi
theorem HOk.choose (hX : HOk P X) (hY : HOk P Y) (c : FuncId → List AV → Mem → Bool) : HOk P (chooseH c X Y) := by
  refine ⟨@fun f xs m ob v m' h ho => ?_, @fun f xs m ob v m' h ho w0 S ρ w vs ha hi => ?_⟩
  · unfold chooseH at h
    split at h
    · exact hX.le h ho
    · exact hY.le h ho
  · unfold chooseH at h
    split at h
    · exact hX.run h ho ha hi
    · exact hY.run h ho ha hi
end
end Go.Ev
namespace Go.We
open Go.Ev Go.Wn
def byR (l : List Int) : List Int := [IntKind.u8.wrap (IntKind.i64.wrap (((digs l).getD 15 0).tdiv 256)), IntKind.u8.wrap (((digs l).getD 15 0).tmod 256), IntKind.u8.wrap (IntKind.i64.wrap (((digs l).getD 14 0).tdiv 256)), IntKind.u8.wrap (((digs l).getD 14 0).tmod 256), IntKind.u8.wrap (IntKind.i64.wrap (((digs l).getD 13 0).tdiv 256)), IntKind.u8.wrap (((digs l).getD 13 0).tmod 256), IntKind.u8.wrap (IntKind.i64.wrap (((digs l).getD 12 0).tdiv 256)), IntKind.u8.wrap (((digs l).getD 12 0).tmod 256), IntKind.u8.wrap (IntKind.i64.wrap (((digs l).getD 11 0).tdiv 256)), IntKind.u8.wrap (((digs l).getD 11 0).tmod 256), IntKind.u8.wrap (IntKind.i64.wrap (((digs l).getD 10 0).tdiv 256)), IntKind.u8.wrap (((digs l).getD 10 0).tmod 256), IntKind.u8.wrap (IntKind.i64.wrap (((digs l).getD 9 0).tdiv 256)), IntKind.u8.wrap (((digs l).getD 9 0).tmod 256), IntKind.u8.wrap (IntKind.i64.wrap (((digs l).getD 8 0).tdiv 256)), IntKind.u8.wrap (((digs l).getD 8 0).tmod 256), IntKind.u8.wrap (IntKind.i64.wrap (((digs l).getD 7 0).tdiv 256)), IntKind.u8.wrap (((digs l).getD 7 0).tmod 256), IntKind.u8.wrap (IntKind.i64.wrap (((digs l).getD 6 0).tdiv 256)), IntKind.u8.wrap (((digs l).getD 6 0).tmod 256), IntKind.u8.wrap (IntKind.i64.wrap (((digs l).getD 5 0).tdiv 256)), IntKind.u8.wrap (((digs l).getD 5 0).tmod 256), IntKind.u8.wrap (IntKind.i64.wrap (((digs l).getD 4 0).tdiv 256)), IntKind.u8.wrap (((digs l).getD 4 0).tmod 256), IntKind.u8.wrap (IntKind.i64.wrap (((digs l).getD 3 0).tdiv 256)), IntKind.u8.wrap (((digs l).getD 3 0).tmod 256), IntKind.u8.wrap (IntKind.i64.wrap (((digs l).getD 2 0).tdiv 256)), IntKind.u8.wrap (((digs l).getD 2 0).tmod 256), IntKind.u8.wrap (IntKind.i64.wrap (((digs l).getD 1 0).tdiv 256)), IntKind.u8.wrap (((digs l).getD 1 0).tmod 256), IntKind.u8.wrap (IntKind.i64.wrap (((digs l).getD 0 0).tdiv 256)), IntKind.u8.wrap (((digs l).getD 0 0).tmod 256)]
theorem u8w {x : Int} (h : 0 ≤ x ∧ x < 256) : IntKind.u8.wrap x = x := by
  unfold IntKind.wrap
  simp [IntKind.bits, IntKind.signed]
  omega
theorem dg_hi {x : Int} (hx : 0 ≤ x ∧ x < 65536) : IntKind.u8.wrap (IntKind.i64.wrap (x.tdiv 256)) = x / 256 := by
  rw [Int.tdiv_eq_ediv_of_nonneg hx.1]
  have : IntKind.i64.wrap (x / 256) = x / 256 := w64_id (x := x / 256) (by omega)
  rw [this, u8w (by omega)]
theorem dg_lo {x : Int} (hx : 0 ≤ x ∧ x < 65536) : IntKind.u8.wrap (x.tmod 256) = x % 256 := by
  rw [Int.tmod_eq_emod_of_nonneg hx.1, u8w (by omega)]
theorem good_n : Go.Wn.Good N6 := prime3
def nE : Nat := 115792089210356248762697446949407573529996955224135760342422259061068512044367
theorem nE_eq : N6 - 1 = nE + 1 := by decide +kernel
/-- So many times the base is nothing only if the order divides it. -/
theorem mul_ne {N : Nat} (h0 : 0 < N) (hN : N < N6) : c6.mul N g6 ≠ .o := fun e => by
  have h1 : N % N6 ≠ 0 := by rw [Nat.mod_eq_of_lt hN]; omega
  have h2 := good_n.2 N h1
  rw [nE_eq, Nat.pow_succ] at h2
  have h3 : c6.mul (N ^ nE * N) g6 = .o := by
    rw [← c6.mul_mul _ _ g6_on, e, c6.mul_o]
  have h4 : 1 % N6 = 1 := by decide +kernel
  rw [← c6.mul_mod g6_on g6_ord, h2, h4, c6.mul_one] at h3
  cases h3
end Go.We
namespace Go.Proofs.YtapficdphhfpnaaDoor
open Go.Ev Go.Wn Go.We
set_option maxRecDepth 100000
theorem byR_eq {a b c d : Int} (ha : W a) (hb : W b) (hc : W c) (hd : W d) : byR [a, b, c, d] = bytesL [a, b, c, d] := by
  have e : bytesL [a, b, c, d] = [byteW d 56, byteW d 48, byteW d 40, byteW d 32, byteW d 24, byteW d 16, byteW d 8, byteW d 0, byteW c 56, byteW c 48, byteW c 40, byteW c 32, byteW c 24, byteW c 16, byteW c 8, byteW c 0, byteW b 56, byteW b 48, byteW b 40, byteW b 32, byteW b 24, byteW b 16, byteW b 8, byteW b 0, byteW a 56, byteW a 48, byteW a 40, byteW a 32, byteW a 24, byteW a 16, byteW a 8, byteW a 0] := rfl
  rw [e]
  unfold byR
  simp only [digs, List.getD_cons_zero, List.getD_cons_succ]
  unfold W at *
  simp only [List.cons.injEq, and_true]
  refine ⟨?_, ?_, ?_, ?_, ?_, ?_, ?_, ?_, ?_, ?_, ?_, ?_, ?_, ?_, ?_, ?_, ?_, ?_, ?_, ?_, ?_, ?_, ?_, ?_, ?_, ?_, ?_, ?_, ?_, ?_, ?_, ?_⟩
  all_goals (first | rw [dg_hi (by omega)] | rw [dg_lo (by omega)])
  all_goals (unfold byteW; simp only [Int.reducePow]; omega)
def ybS : List V → E (AV × Mem)
  | [.pl (.ints .u64 4 l)] => some ([], (.slice false 0 0 32 none 1, [some ⟨true, .ints .u8 (some 32) (bytesL l)⟩]))
  | _ => none
theorem yb_eval (l : List Int) : seeV 34 ((funcL Tryd.prog qn (deep Tryd.prog qn hq9 100 5) (fun _ _ => none) 200 54 (cArgs 0 [.pl (.ints .u64 4 l)]) (cMem [.pl (.ints .u64 4 l)])).go []) = some ([], .slice false 34 0 32 none 1, some (some ⟨true, .ints .u8 (some 32) (byR l)⟩)) := by kernel_rfl
theorem yb_ok {xs : List V} {o : List Bool} {v : AV} {bs : Mem} (h : ybS xs = some (o, (v, bs))) : ViewCall Tryd.prog 54 xs v bs := by
  unfold ybS at h
  split at h
  · rename_i l
    cases h
    intro ρ vs w ha hi
    have hb := ha
    cases hb with
    | cons _ _ _ _ r0 hb =>
      obtain ⟨a, b, c, d, rfl, w0, w1, w2, w3⟩ := num_arg r0
      have ev := yb_eval [a, b, c, d]
      rw [byR_eq w0 w1 w2 w3] at ev
      exact viewN_one mixed noCount (hq9_ok.deep (q := qn) mixed noCount 100 5) (lo1 _) [] 34 ev Paid.nil (by show 1 ≤ 34; decide) rfl rfl ha hi
  · cases h
def hqB : CallH := withV 54 ybS hq9
theorem hqB_ok : HOk Tryd.prog hqB := hq9_ok.withV fun _ _ _ _ h _ => yb_ok h
/-- By the names of what is handed in. -/
def cName (n : Nat) (_ : FuncId) (l : List AV) (_ : Mem) : Bool := match l with
  | .slice _ k _ _ _ _ :: _ => Nat.beq k n
  | _ => false
def hwE : CallH := withV 20 (enS false) hqB
def hwD (d : Nat) : CallH := withV 19 (reS d) (chooseH (cName 2) (withV 18 (dcS d) hwE) (withV 18 (dcS 0) hwE))
def hwS (k d : Nat) : CallH := withV 24 (scS k) (withV 23 (seS k) (hwD d))
def hwA (ka kb d : Nat) : CallH := chooseH (cName 0) (hwS ka d) (hwS kb d)
theorem hwE_ok : HOk Tryd.prog hwE := hqB_ok.withV fun _ _ _ _ h ho => en_ok h ho
theorem hwD_ok (d : Nat) : HOk Tryd.prog (hwD d) := (HOk.choose (hwE_ok.withV fun _ _ _ _ h ho => dc_ok h ho) (hwE_ok.withV fun _ _ _ _ h ho => dc_ok h ho) _).withV fun _ _ _ _ h ho => re_ok h ho
theorem hwS_ok (k d : Nat) : HOk Tryd.prog (hwS k d) := ((hwD_ok d).withV fun _ _ _ _ h ho => se_ok h ho).withV fun _ _ _ _ h ho => sc_ok h ho
theorem hwA_ok (ka kb d : Nat) : HOk Tryd.prog (hwA ka kb d) := HOk.choose (hwS_ok ka d) (hwS_ok kb d) _
end Go.Proofs.YtapficdphhfpnaaDoor
namespace Go.Proofs.YtapficdphhfpnaaDoor
open Go.Ev Go.Wn Go.We
set_option maxRecDepth 1000000
def qw (f : FuncId) : Bool := !Nat.beq f 4000000090
def buP (n : Nat) : List Bool := [decide (0 + n ≤ n), decide (n < 9223372036854775808), (n : Int) != 32]
def buL (n : Nat) : List Bool := [decide (n < 9223372036854775808), (n : Int) != 32, decide (0 + n ≤ n), decide (n < 9223372036854775808), (n : Int) != 32, true]
def baP (l : List Int) : List Bool := [scT l]
def baL (l : List Int) : List Bool := [scT l, scT l, true]
def okP (l : List Int) : List Bool := [!scT l, !(xB (bigL l)).o]
def okL (l : List Int) : List Bool := [!scT l, !scT l] ++ List.replicate 5 (!!decide (bigL l = bigL l))
def okS (l : List Int) : List Bool := [!scT l]
theorem bu_P {n : Nat} (h1 : n < 9223372036854775808) (h2 : (n : Int) ≠ 32) : Paid (buP n) := by
  have e : ((n : Int) != 32) = true := by simpa using h2
  exact paid_cons (decide_eq_true (by omega)) (paid_cons (decide_eq_true h1) (paid_cons e Paid.nil))
theorem bu_L {n : Nat} (h1 : n < 9223372036854775808) (h2 : (n : Int) ≠ 32) : Paid (buL n) := by
  have e : ((n : Int) != 32) = true := by simpa using h2
  exact paid_cons (decide_eq_true h1) (paid_cons e (paid_cons (decide_eq_true (by omega)) (paid_cons (decide_eq_true h1) (paid_cons e (paid_cons rfl Paid.nil)))))
theorem ba_P {l : List Int} (h : scT l = true) : Paid (baP l) := paid_cons h Paid.nil
theorem ba_L {l : List Int} (h : scT l = true) : Paid (baL l) := paid_cons h (paid_cons h (paid_cons rfl Paid.nil))
theorem ok_S {l : List Int} (h : scT l = false) : Paid (okS l) := paid_cons (by rw [h]; rfl) Paid.nil
theorem ok_L {l : List Int} (h : scT l = false) : Paid (okL l) := by
  unfold okL
  rw [h, decide_eq_true rfl]
  exact List.all_eq_true.1 rfl
theorem p1 : Paid [true] := paid_cons rfl Paid.nil
theorem pj {a b : List Bool} (ha : Paid a) (hb : Paid b) : Paid (a ++ b) := paid_append.2 ⟨ha, hb⟩
theorem pj6 {a b c d e f : List Bool} (ha : Paid a) (hb : Paid b) (hc : Paid c) (hd : Paid d) (he : Paid e) (hf : Paid f) : Paid (a ++ (b ++ (c ++ (d ++ (e ++ f))))) := pj ha (pj hb (pj hc (pj hd (pj he hf))))
theorem ord_val : val orderL = ((N6 : Nat) : Int) := by decide +kernel
/-- A secret that may be: how often the base is taken. -/
theorem sec_N {l : List Int} (hl : l.length = 32) (hr : okb l) (h : scT l = false) : ∃ N : Nat, val (bigL l) = (N : Int) ∧ 0 < N ∧ N < N6 := by
  obtain ⟨_, a, b, c, d, e, ha, hb, hc, hd⟩ := bytes_big hl hr
  have v := val_range ha hb hc hd
  have lv := limbs_val ha hb hc hd
  unfold scT at h
  rw [e] at h ⊢
  obtain ⟨N, hN⟩ := Int.eq_ofNat_of_zero_le v.1
  refine ⟨N, hN, ?_, ?_⟩
  · refine Nat.pos_of_ne_zero fun h0 => ?_
    rw [hN, h0] at lv
    have z : limbs ((0 : Nat) : Int) = [0, 0, 0, 0] := by decide +kernel
    rw [decide_eq_true (lv.symm.trans z)] at h
    cases h
  · split at h
    · cases h
    · have h' : decide (val [a, b, c, d] < val orderL) = true := by
        cases hd : decide (val [a, b, c, d] < val orderL) with
        | true => rfl
        | false => rw [hd] at h; cases h
      have h2 := of_decide_eq_true h'
      rw [hN, ord_val] at h2
      exact Int.ofNat_lt.1 h2
theorem ofQ_ne {P : Q P6} (h : P ≠ .o) : (ofQ P).o = false := by
  cases P with
  | o => exact absurd rfl h
  | _ => rfl
theorem n_lt {N : Nat} (h : N < N6) : N < 2 ^ 256 := Nat.lt_trans h N6_lt
theorem sec_Q {l : List Int} {N : Nat} (e : val (bigL l) = (N : Int)) (h0 : 0 < N) (hN : N < N6) : xB (bigL l) = ofQ (c6.mul N g6) ∧ rd (xB (bigL l)) = ofQ (c6.mul N g6) ∧ (ofQ (c6.mul N g6)).o = false := by
  have h := xB_Q e (n_lt hN)
  exact ⟨h, by rw [h, rdQ], ofQ_ne (mul_ne h0 hN)⟩
theorem ok_P {l : List Int} (hl : l.length = 32) (hr : okb l) (h : scT l = false) : Paid (okP l) := by
  obtain ⟨N, e, h0, hN⟩ := sec_N hl hr h
  obtain ⟨q1, _, q3⟩ := sec_Q e h0 hN
  unfold okP
  rw [h, q1, q3]
  exact List.all_eq_true.1 rfl
theorem ws_nil_nil_V (R : V) : res ((funcA Tryd.prog qw (deep Tryd.prog qn (hwA 0 0 3) 100 5) 400 6 (cArgs 0 [.pl .nilslice, .pl .nilslice, R]) (cMem [.pl .nilslice, .pl .nilslice, R])).go [false, false]) = some ([] ++ ([] ++ ([true] ++ ([true] ++ ([] ++ ([]))))), .bool false true) := by kernel_rfl
theorem ws_nil_emp_V (R : V) : res ((funcA Tryd.prog qw (deep Tryd.prog qn (hwA 0 0 3) 100 5) 400 6 (cArgs 0 [.pl .nilslice, .empty, R]) (cMem [.pl .nilslice, .empty, R])).go [false, false]) = some ([] ++ ([] ++ ([true] ++ ([true] ++ ([] ++ ([]))))), .bool false true) := by kernel_rfl
theorem ws_nil_buf_V (m : Nat) (u : List Int) (R : V) : res ((funcA Tryd.prog qw (deep Tryd.prog qn (hwA 0 0 3) 100 5) 400 6 (cArgs 0 [.pl .nilslice, .buf true .u8 m u, R]) (cMem [.pl .nilslice, .buf true .u8 m u, R])).go [false, true, false]) = some ([] ++ (buP m ++ ([true] ++ (buL m ++ ([] ++ (buP m))))), .bool false true) := by kernel_rfl
theorem ws_nil_bad_V (u : List Int) (R : V) : res ((funcA Tryd.prog qw (deep Tryd.prog qn (hwA 0 1 3) 100 5) 400 6 (cArgs 0 [.pl .nilslice, .buf false .u8 32 u, R]) (cMem [.pl .nilslice, .buf false .u8 32 u, R])).go [false, false]) = some ([] ++ (baP u ++ ([true] ++ (baL u ++ ([] ++ (baP u))))), .bool false true) := by kernel_rfl
theorem ws_emp_nil_V (R : V) : res ((funcA Tryd.prog qw (deep Tryd.prog qn (hwA 0 0 3) 100 5) 400 6 (cArgs 0 [.empty, .pl .nilslice, R]) (cMem [.empty, .pl .nilslice, R])).go [false, false]) = some ([] ++ ([] ++ ([true] ++ ([true] ++ ([] ++ ([]))))), .bool false true) := by kernel_rfl
theorem ws_emp_emp_V (R : V) : res ((funcA Tryd.prog qw (deep Tryd.prog qn (hwA 0 0 3) 100 5) 400 6 (cArgs 0 [.empty, .empty, R]) (cMem [.empty, .empty, R])).go [false, false]) = some ([] ++ ([] ++ ([true] ++ ([true] ++ ([] ++ ([]))))), .bool false true) := by kernel_rfl
theorem ws_emp_buf_V (m : Nat) (u : List Int) (R : V) : res ((funcA Tryd.prog qw (deep Tryd.prog qn (hwA 0 0 3) 100 5) 400 6 (cArgs 0 [.empty, .buf true .u8 m u, R]) (cMem [.empty, .buf true .u8 m u, R])).go [false, true, false]) = some ([] ++ (buP m ++ ([true] ++ (buL m ++ ([] ++ (buP m))))), .bool false true) := by kernel_rfl
theorem ws_emp_bad_V (u : List Int) (R : V) : res ((funcA Tryd.prog qw (deep Tryd.prog qn (hwA 0 1 3) 100 5) 400 6 (cArgs 0 [.empty, .buf false .u8 32 u, R]) (cMem [.empty, .buf false .u8 32 u, R])).go [false, false]) = some ([] ++ (baP u ++ ([true] ++ (baL u ++ ([] ++ (baP u))))), .bool false true) := by kernel_rfl
theorem ws_buf_nil_V (n : Nat) (k : List Int) (R : V) : res ((funcA Tryd.prog qw (deep Tryd.prog qn (hwA 0 0 3) 100 5) 400 6 (cArgs 0 [.buf true .u8 n k, .pl .nilslice, R]) (cMem [.buf true .u8 n k, .pl .nilslice, R])).go [true, false, false]) = some (buP n ++ ([] ++ (buL n ++ ([true] ++ (buP n ++ ([]))))), .bool false true) := by kernel_rfl
theorem ws_buf_emp_V (n : Nat) (k : List Int) (R : V) : res ((funcA Tryd.prog qw (deep Tryd.prog qn (hwA 0 0 3) 100 5) 400 6 (cArgs 0 [.buf true .u8 n k, .empty, R]) (cMem [.buf true .u8 n k, .empty, R])).go [true, false, false]) = some (buP n ++ ([] ++ (buL n ++ ([true] ++ (buP n ++ ([]))))), .bool false true) := by kernel_rfl
theorem ws_buf_buf_V (n : Nat) (k : List Int) (m : Nat) (u : List Int) (R : V) : res ((funcA Tryd.prog qw (deep Tryd.prog qn (hwA 0 0 3) 100 5) 400 6 (cArgs 0 [.buf true .u8 n k, .buf true .u8 m u, R]) (cMem [.buf true .u8 n k, .buf true .u8 m u, R])).go [true, false, true, false]) = some (buP n ++ (buP m ++ (buL n ++ (buL m ++ (buP n ++ (buP m))))), .bool false true) := by kernel_rfl
theorem ws_buf_bad_V (n : Nat) (k : List Int) (u : List Int) (R : V) : res ((funcA Tryd.prog qw (deep Tryd.prog qn (hwA 0 1 3) 100 5) 400 6 (cArgs 0 [.buf true .u8 n k, .buf false .u8 32 u, R]) (cMem [.buf true .u8 n k, .buf false .u8 32 u, R])).go [true, false, false]) = some (buP n ++ (baP u ++ (buL n ++ (baL u ++ (buP n ++ (baP u))))), .bool false true) := by kernel_rfl
theorem ws_bad_nil_V (k : List Int) (R : V) : res ((funcA Tryd.prog qw (deep Tryd.prog qn (hwA 1 0 3) 100 5) 400 6 (cArgs 0 [.buf false .u8 32 k, .pl .nilslice, R]) (cMem [.buf false .u8 32 k, .pl .nilslice, R])).go [false, false]) = some (baP k ++ ([] ++ (baL k ++ ([true] ++ (baP k ++ ([]))))), .bool false true) := by kernel_rfl
theorem ws_bad_emp_V (k : List Int) (R : V) : res ((funcA Tryd.prog qw (deep Tryd.prog qn (hwA 1 0 3) 100 5) 400 6 (cArgs 0 [.buf false .u8 32 k, .empty, R]) (cMem [.buf false .u8 32 k, .empty, R])).go [false, false]) = some (baP k ++ ([] ++ (baL k ++ ([true] ++ (baP k ++ ([]))))), .bool false true) := by kernel_rfl
theorem ws_bad_buf_V (k : List Int) (m : Nat) (u : List Int) (R : V) : res ((funcA Tryd.prog qw (deep Tryd.prog qn (hwA 1 0 3) 100 5) 400 6 (cArgs 0 [.buf false .u8 32 k, .buf true .u8 m u, R]) (cMem [.buf false .u8 32 k, .buf true .u8 m u, R])).go [false, true, false]) = some (baP k ++ (buP m ++ (baL k ++ (buL m ++ (baP k ++ (buP m))))), .bool false true) := by kernel_rfl
theorem ws_bad_bad_V (k : List Int) (u : List Int) (R : V) : res ((funcA Tryd.prog qw (deep Tryd.prog qn (hwA 1 1 3) 100 5) 400 6 (cArgs 0 [.buf false .u8 32 k, .buf false .u8 32 u, R]) (cMem [.buf false .u8 32 k, .buf false .u8 32 u, R])).go [false, false]) = some (baP k ++ (baP u ++ (baL k ++ (baL u ++ (baP k ++ (baP u))))), .bool false true) := by kernel_rfl
end Go.Proofs.YtapficdphhfpnaaDoor
