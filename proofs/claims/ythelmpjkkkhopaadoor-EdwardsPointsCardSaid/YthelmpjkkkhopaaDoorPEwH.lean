/- Calls of a function that is walked with its turns given: each turn is owed. Own work. -/
import Derived.Test.YthelmpjkkkhopaaDoorPEvOne
import Derived.Test.YthelmpjkkkhopaaDoorPShaE
import Derived.Test.YthelmpjkkkhopaaDoorPEwE
import Derived.Test.YthelmpjkkkhopaaDoorPEvNone
set_option linter.unusedSimpArgs false
set_option linter.unusedVariables false
set_option linter.unusedSectionVars false
namespace Go.Ev
set_option linter.unusedSectionVars false
variable [Tab]
def turnC (P : Program) (q : FuncId → Bool) (H : CallH) (fuel : Nat) (g : FuncId) (ds : List Bool) (X : CallH) : CallH := fun f args m =>
  match decide (f = g) with
  | true => match ((funcA P q H fuel f args (roAll m)).go ds).flat with
    | some (o, (v, m')) => some (o, (v, m ++ onlyRw (m'.drop m.length)))
    | none => X f args m
  | false => X f args m
section
variable {P : Program} {q : FuncId → Bool} {H X : CallH}
theorem HOk.turn (hm : P.follows .mixedOrders = true) (hng : noCount P = true) (hH : HOk P H) (hX : HOk P X) (fuel : Nat) (g : FuncId) (ds : List Bool) : HOk P (turnC P q H fuel g ds X) := by
  have both : ∀ {f : FuncId} {xs : List AV} {m : Mem} {ob : List Bool} {v : AV} {m' : Mem}, turnC P q H fuel g ds X f xs m = some (ob, (v, m')) → Paid ob →
      m.length ≤ m'.length ∧ ∀ {w0 : World} {S : Nat → Prop} {ρ : Nat → Loc3} {w : World} {vs : List Value}, Reps ρ (upto m.length) xs vs → Inv w0 S (upto m.length) ρ (getName m) w →
      CallRun P f vs.toArray w (fun u w' => ∃ ρ', Rep ρ' (upto m'.length) v u ∧ Inv w0 S (upto m'.length) ρ' (getName m') w' ∧ Agr ρ ρ' (upto m.length)) := by
    intro f xs m ob v m' h ho
    have hl : (roAll m).length = m.length := by simp [roAll]
    unfold turnC at h
    split at h
    · split at h
      · rename_i o1 x m1 hflat
        cases h
        have hsat := go_sound (flat_sound hflat ho)
        refine ⟨by simp, fun {w0 S ρ w vs} ha hi => ?_⟩
        obtain ⟨hf, hc⟩ := funcA_sound hm hH hsat (w0 := w) (S := fun _ => False) (by rw [hl]; exact ha) (ro_start hi)
        refine callRun_of hng hf (hc.mono fun e w' ⟨u, h1, x', m2, ρ', k1, k2, k3, k4, k5⟩ => ⟨u, h1, ρ', ?_⟩)
        cases k1
        rw [hl] at k4 k5
        have hlen : (m ++ onlyRw (m1.drop m.length)).length = m1.length := by simp [onlyRw]; omega
        rw [hlen]
        refine ⟨k2, hi.join k3 (fun _ h => h.elim) (fun i hi => by simp [upto] at *; omega) (fun _ h => h) k4 (fun _ _ => rfl) fun k b hk => ?_, k4⟩
        rw [getName_app] at hk
        split at hk
        · exact Or.inl ⟨hk, fun h => h⟩
        · right
          obtain ⟨g1, g2⟩ := getName_onlyRw hk
          rw [getName_drop, show m.length + (k - m.length) = k by omega] at g1
          exact ⟨g1, g2⟩
      · exact ⟨hX.le h ho, fun ha hi => hX.run h ho ha hi⟩
    · exact ⟨hX.le h ho, fun ha hi => hX.run h ho ha hi⟩
  exact ⟨@fun f xs m ob v m' h ho => (both h ho).1, @fun f xs m ob v m' h ho w0 S ρ w vs ha hi => (both h ho).2 ha hi⟩
end
end Go.Ev
namespace Go.Ev
set_option linter.unusedSectionVars false
variable [Tab]
def fixC (P : Program) (q : FuncId → Bool) (H : CallH) (fuel : Nat) (g : FuncId) (b : Bool) (X : CallH) : CallH := fun f args m =>
  match decide (f = g) with
  | true => match ((funcA P q H fuel f args (roAll m)).go []).flat with
    | some (o, (.bool _ c, m')) => some (o ++ [c == b], (.bool false b, m ++ onlyRw (m'.drop m.length)))
    | _ => X f args m
  | false => X f args m
section
variable {P : Program} {q : FuncId → Bool} {H X : CallH}
theorem HOk.fix (hm : P.follows .mixedOrders = true) (hng : noCount P = true) (hH : HOk P H) (hX : HOk P X) (fuel : Nat) (g : FuncId) (b : Bool) : HOk P (fixC P q H fuel g b X) := by
  have hT := HOk.turn (q := q) hm hng hH hX fuel g []
  have key : ∀ {f : FuncId} {xs : List AV} {m : Mem} {ob : List Bool} {v : AV} {m' : Mem}, fixC P q H fuel g b X f xs m = some (ob, (v, m')) → Paid ob →
      (X f xs m = some (ob, (v, m'))) ∨ (∃ o s c, turnC P q H fuel g [] X f xs m = some (o, (.bool s c, m')) ∧ Paid o ∧ c = b ∧ v = .bool false b) := by
    intro f xs m ob v m' h ho
    unfold fixC at h
    split at h
    · rename_i hf
      split at h
      · rename_i o s c m1 hflat
        cases h
        obtain ⟨p1, p2⟩ := paid_append.1 ho
        have hc := p2 _ (List.mem_cons_self ..)
        simp only [beq_iff_eq] at hc
        refine Or.inr ⟨o, s, c, ?_, p1, hc, rfl⟩
        unfold turnC
        simp only [hf, hflat]
      · exact Or.inl h
    · exact Or.inl h
  refine ⟨@fun f xs m ob v m' h ho => ?_, @fun f xs m ob v m' h ho w0 S ρ w vs ha hi => ?_⟩
  · rcases key h ho with h1 | ⟨o, s, c, h1, h2, _, _⟩
    · exact hX.le h1 ho
    · exact hT.le h1 h2
  · rcases key h ho with h1 | ⟨o, s, c, h1, h2, h3, h4⟩
    · exact hX.run h1 ho ha hi
    · subst h3 h4
      refine (hT.run h1 h2 ha hi).mono fun u w' ⟨ρ', k1, k2⟩ => ⟨ρ', ?_, k2⟩
      cases k1
      exact .bool _ _
end
end Go.Ev
namespace Go.Ev
set_option linter.unusedSectionVars false
variable [Tab]
/-- The first that answers. -/
def orH (X Y : CallH) : CallH := fun f xs m =>
  match X f xs m with
  | some r => some r
  | none => Y f xs m
section
variable {P : Program} {X Y : CallH}
theorem HOk.or (hX : HOk P X) (hY : HOk P Y) : HOk P (orH X Y) := by
  refine ⟨@fun f xs m ob v m' h ho => ?_, @fun f xs m ob v m' h ho w0 S ρ w vs ha hi => ?_⟩
  · unfold orH at h
    split at h
    · rename_i r hr; cases h; exact hX.le hr ho
    · exact hY.le h ho
  · unfold orH at h
    split at h
    · rename_i r hr; cases h; exact hX.run hr ho ha hi
    · exact hY.run h ho ha hi
end
end Go.Ev
namespace Go.Sh
open Go.Ev
theorem stW_ok {w N B : Nat} : ∀ {l ws op : List Int} {c : Int}, ws.length = 8 → (∀ x ∈ ws, Wd w x) → 0 ≤ c ∧ c < 2 ^ 64 →
    (stW w N B ws op c l).1.length = 8 ∧ (∀ x ∈ (stW w N B ws op c l).1, Wd w x) ∧ 0 ≤ (stW w N B ws op c l).2.2 ∧ (stW w N B ws op c l).2.2 < 2 ^ 64
  | [], ws, op, c, h1, h2, h3 => ⟨h1, h2, h3⟩
  | x :: l, ws, op, c, h1, h2, h3 => by
    have e : stW w N B ws op c (x :: l) = stW w N B (byteS w N B (ws, op, c) x).1 (byteS w N B (ws, op, c) x).2.1 (byteS w N B (ws, op, c) x).2.2 l := rfl
    have hc : 0 ≤ (c + 1) % 2 ^ 64 ∧ (c + 1) % 2 ^ 64 < 2 ^ 64 := ⟨by omega, by omega⟩
    rw [e]
    unfold byteS
    split
    · have hb := block_ok (w := w) (N := N) (l := op.set (c % (B : Int)).toNat x) h1 h2
      exact stW_ok (l := l) hb.1 hb.2 hc
    · exact stW_ok (l := l) h1 h2 hc
end Go.Sh
namespace Go.Proofs.YthelmpjkkkhopaaDoor
open Go.Ev Go.Sh
set_option maxRecDepth 100000
theorem beg512_wd : ∀ x ∈ beg512, Wd 64 x := all64_wd (by kernel_rfl)
end Go.Proofs.YthelmpjkkkhopaaDoor
namespace Go.Proofs.YthelmpjkkkhopaaDoor
open Go.Ev Go.Wn Go.Mo
set_option maxRecDepth 100000
def qE (f : FuncId) : Bool := qS f && !Nat.beq f 49
def hE0 : CallH := orH hn4 hs6
theorem hE0_ok : HOk Tryd.prog hE0 := hn4_ok.or hs6_ok
def swp (l : List Int) (i : Nat) : List Int := (l.set i (l.getD (63 - i) 0)).set (63 - i) (l.getD i 0)
def revL (l : List Int) : List Int := (List.range 32).foldl swp l
/-- A hash under way: what stands behind more bytes, and its end. -/
def w5 (st : List Int × List Int × Int) (l : List Int) (n : Nat) : List Int × List Int × Int := wrEnd512 (wrI st.1 st.2.1 st.2.2 l n)
def e5 (st : List Int × List Int × Int) : List Int := Go.Sh.toldL 64 8 (Go.Sh.endW 64 80 128 st.1 st.2.1 st.2.2).1
def st5 : List Int × List Int × Int := (Go.Sh.beg512, Go.Sh.Z128, 0)
/-- A seed's hash, and its number. -/
def sdH (s : List Int) : List Int := e5 (w5 st5 s 32)
def sdL (s : List Int) : List Int := kwL (litL (((sdH s).drop 0).take 32))
def okS (st : List Int × List Int × Int) : List Bool := [all64 st.1, decide (0 ≤ st.2.2 ∧ st.2.2 < 18446744073709551616)]
theorem op_eval (s : List Int) : seeV 5 ((funcL Tryd.prog qE (deep Tryd.prog qE hE0 400 4) (fun _ _ => none) 400 18 (cArgs 0 [.buf false .u8 32 s]) (cMem [.buf false .u8 32 s])).go []) =
    some ([true, true, true] ++ okS (w5 st5 s 32), .tuple [.ints .u64 4 (sdL s), .slice false 5 32 32 (some 32) 1], some (some ⟨true, .ints .u8 (some 64) (sdH s)⟩)) := by kernel_rfl
def stOK (st : List Int × List Int × Int) : Prop := st.1.length = 8 ∧ (∀ x ∈ st.1, Go.Sh.Wd 64 x) ∧ 0 ≤ st.2.2 ∧ st.2.2 < 2 ^ 64
theorem st5_OK : stOK st5 := ⟨rfl, beg512_wd, by decide, by decide⟩
theorem w5_stW {st : List Int × List Int × Int} {l : List Int} {n : Nat} (h : l.length = n) : w5 st l n = Go.Sh.stW 64 80 128 st.1 st.2.1 st.2.2 l := by
  have := wrEnd512_all (ws := st.1) (op := st.2.1) (c := st.2.2) h
  rwa [List.drop_zero, List.take_of_length_le (by omega)] at this
theorem w5_OK {st : List Int × List Int × Int} {l : List Int} {n : Nat} (h : stOK st) (hl : l.length = n) : stOK (w5 st l n) := by
  rw [w5_stW hl]
  exact Go.Sh.stW_ok h.1 h.2.1 h.2.2
theorem okS_paid {st : List Int × List Int × Int} (h : stOK st) : Paid (okS st) :=
  paid_cons (all64_of h.2.1) (paid_cons (decide_eq_true ⟨h.2.2.1, by have := h.2.2.2; omega⟩) Paid.nil)
theorem e5_len (st : List Int × List Int × Int) : (e5 st).length = 64 := by unfold e5 Go.Sh.toldL; simp
theorem e5_b (st : List Int × List Int × Int) : ∀ x ∈ e5 st, inR .u8 x = true := by
  unfold e5 Go.Sh.toldL
  intro x hx
  obtain ⟨i, _, rfl⟩ := List.mem_map.1 hx
  rw [inR_iff]
  unfold IntKind.wrap
  simp only [lo, hi, IntKind.signed, IntKind.bits]
  simp
  omega
def opS : List V → E (AV × Mem)
  | [.buf false .u8 32 s] => some ([], (.tuple [.ints .u64 4 (sdL s), .slice false 0 32 32 (some 32) 1], [some ⟨true, .ints .u8 (some 64) (sdH s)⟩]))
  | _ => none
theorem op_ok {xs : List V} {o : List Bool} {v : AV} {bs : Mem} (h : opS xs = some (o, (v, bs))) : ViewCall Tryd.prog 18 xs v bs := by
  unfold opS at h
  split at h
  · rename_i s
    cases h
    intro ρ vs w ha hi
    obtain ⟨hl, _⟩ := buf_arg hi 0 rfl
    exact viewN_one mixed noCount (hE0_ok.deep mixed noCount 400 4) (lo1 _) [] 5 (op_eval s) (paid_cons rfl (paid_cons rfl (paid_cons rfl (okS_paid (w5_OK st5_OK hl))))) (by show 1 ≤ 5; decide) rfl rfl ha hi
  · cases h
def hE1 : CallH := withV 18 opS hE0
theorem hE1_ok : HOk Tryd.prog hE1 := hE0_ok.withV fun _ _ _ _ h _ => op_ok h
end Go.Proofs.YthelmpjkkkhopaaDoor
namespace Go.Proofs.YthelmpjkkkhopaaDoor
open Go.Ev Go.Wn Go.Mo
set_option maxRecDepth 100000
/-- The Mod of the base's order. -/
def OL : List Int := [6346243789798364141, 1503914060200516822, 0, 1152921504606846976, 15183074304973897243, 11819153939886771969, 14991950615390032711, 14910419812499177061, 259310039853996605]
theorem OL_val : val OL = (L25 : Int) := by decide +kernel
/-- The number of a hash. -/
def nmL (h : List Int) : List Int := limbs (be (revL h) % val OL)
def ptB8 (n : List Int) : List Int := turnedL (limbs (wnI (e4V (e4L (eMul (val n) (e4V baseL))))))
def pubB (s : List Int) : List Int := ptB8 (sdL s)
def pfx (s : List Int) : List Int := ((sdH s).drop 32).take 32
abbrev St5 := List Int × List Int × Int
def sgA (s : List Int) : St5 := w5 st5 (pfx s) 32
def sgR (f : St5 → St5) (s : List Int) : List Int := nmL (e5 (f (sgA s)))
def sgP (f : St5 → St5) (s : List Int) : List Int := ptB8 (sgR f s)
def sgB1 (R : List Int) : St5 := w5 st5 R 32
def sgB2 (R A : List Int) : St5 := w5 (sgB1 R) A 32
def sgK (f : St5 → St5) (R A : List Int) : List Int := nmL (e5 (f (sgB2 R A)))
def sgS (f : St5 → St5) (s : List Int) : List Int := limbs ((val (sgR f s) + val (limbs (val (sgK f (sgP f s) (pubB s)) * val (sdL s) % val OL))) % val OL)
def sigB (f : St5 → St5) (s : List Int) : List Int := sgP f s ++ turnedL (sgS f s)
theorem pu_eval (s : List Int) : seeV 9 ((funcL Tryd.prog qE (deep Tryd.prog qE hE1 400 4) (fun _ _ => none) 400 7 (cArgs 0 [.buf false .u8 32 s]) (cMem [.buf false .u8 32 s])).go []) =
    some (List.replicate 6 true, .tuple [.slice false 9 0 32 (some 32) 1, .int false .i64 0], some (some ⟨true, .ints .u8 (some 32) (pubB s)⟩)) := by kernel_rfl
def sgM (m : List Int) (n : Nat) (st : St5) : St5 := w5 st ((m.drop 0).take n) n
def sgO (f : St5 → St5) (s : List Int) (n : Nat) : List Bool := List.replicate 9 true ++ [decide (0 + n ≤ n)] ++ okS (sgA s) ++ [decide (n < 9223372036854775808)] ++ okS (f (sgA s)) ++ List.replicate 7 true ++ okS (sgB1 (sgP f s)) ++ [true, decide (0 + n ≤ n)] ++ okS (sgB2 (sgP f s) (pubB s)) ++ [decide (n < 9223372036854775808)] ++ okS (f (sgB2 (sgP f s) (pubB s))) ++ List.replicate 4 true
def sgO0 (s : List Int) : List Bool := List.replicate 9 true ++ okS (sgA s) ++ List.replicate 7 true ++ okS (sgB1 (sgP id s)) ++ [true] ++ okS (sgB2 (sgP id s) (pubB s)) ++ List.replicate 4 true
theorem sg_buf (s m : List Int) (n : Nat) : seeV 17 ((funcL Tryd.prog qE (deep Tryd.prog qE hE1 400 4) (fun _ _ => none) 400 8 (cArgs 0 [.buf false .u8 32 s, .buf true .u8 n m]) (cMem [.buf false .u8 32 s, .buf true .u8 n m])).go []) =
    some (sgO (sgM m n) s n, .tuple [.slice false 17 0 64 none 1, .int false .i64 0], some (some ⟨true, .ints .u8 (some 64) (sigB (sgM m n) s)⟩)) := by kernel_rfl
theorem sg_nil (s : List Int) : seeV 17 ((funcL Tryd.prog qE (deep Tryd.prog qE hE1 400 4) (fun _ _ => none) 400 8 (cArgs 0 [.buf false .u8 32 s, .pl .nilslice]) (cMem [.buf false .u8 32 s, .pl .nilslice])).go []) =
    some (sgO0 s, .tuple [.slice false 17 0 64 none 1, .int false .i64 0], some (some ⟨true, .ints .u8 (some 64) (sigB id s)⟩)) := by kernel_rfl
theorem sg_emp (s : List Int) : seeV 17 ((funcL Tryd.prog qE (deep Tryd.prog qE hE1 400 4) (fun _ _ => none) 400 8 (cArgs 0 [.buf false .u8 32 s, .empty]) (cMem [.buf false .u8 32 s, .empty])).go []) =
    some (sgO0 s, .tuple [.slice false 17 0 64 none 1, .int false .i64 0], some (some ⟨true, .ints .u8 (some 64) (sigB id s)⟩)) := by kernel_rfl
end Go.Proofs.YthelmpjkkkhopaaDoor
namespace Go.Proofs.YthelmpjkkkhopaaDoor
open Go.Ev Go.Wn Go.Mo
set_option maxRecDepth 100000
/-- What stands behind a message. -/
def sgF (m : List Int) (st : St5) : St5 := Go.Sh.stW 64 80 128 st.1 st.2.1 st.2.2 m
theorem sgM_F {m : List Int} {n : Nat} (h : m.length = n) : sgM m n = sgF m := by
  funext st
  unfold sgM
  rw [List.drop_zero, List.take_of_length_le (by omega)]
  exact w5_stW h
theorem sgF_OK {m : List Int} {st : St5} (h : stOK st) : stOK (sgF m st) := Go.Sh.stW_ok h.1 h.2.1 h.2.2
theorem turned_len (l : List Int) (h : l.length = 4) : (turnedL l).length = 32 := by
  obtain ⟨a, b, c, d, rfl⟩ := four h
  rfl
theorem ptB8_len (n : List Int) : (ptB8 n).length = 32 := turned_len _ rfl
theorem pfx_len (s : List Int) : (pfx s).length = 32 := by
  unfold pfx
  rw [List.length_take, List.length_drop, show (sdH s).length = 64 from e5_len _]
  rfl
theorem sgA_OK (s : List Int) : stOK (sgA s) := w5_OK st5_OK (pfx_len s)
theorem sgB1_OK {R : List Int} (h : R.length = 32) : stOK (sgB1 R) := w5_OK st5_OK h
theorem sgB2_OK {R A : List Int} (h : R.length = 32) (h2 : A.length = 32) : stOK (sgB2 R A) := w5_OK (sgB1_OK h) h2
theorem sgO_paid {m s : List Int} {n : Nat} (hn : n < 9223372036854775808) : Paid (sgO (sgF m) s n) := by
  unfold sgO
  have p : Paid [decide (0 + n ≤ n)] := paid_cons (decide_eq_true (by omega)) Paid.nil
  have q : Paid [decide (n < 9223372036854775808)] := paid_cons (decide_eq_true hn) Paid.nil
  have r : Paid [true, decide (0 + n ≤ n)] := paid_cons rfl p
  have a := sgA_OK s
  have b1 := sgB1_OK (ptB8_len (sgR (sgF m) s))
  have b2 := sgB2_OK (ptB8_len (sgR (sgF m) s)) (ptB8_len (sdL s))
  exact paid_append.2 ⟨paid_append.2 ⟨paid_append.2 ⟨paid_append.2 ⟨paid_append.2 ⟨paid_append.2 ⟨paid_append.2 ⟨paid_append.2 ⟨paid_append.2 ⟨paid_append.2 ⟨paid_append.2 ⟨rep_true _, p⟩, okS_paid a⟩, q⟩, okS_paid (sgF_OK a)⟩, rep_true _⟩, okS_paid b1⟩, r⟩, okS_paid b2⟩, q⟩, okS_paid (sgF_OK b2)⟩, rep_true _⟩
theorem sgO0_paid (s : List Int) : Paid (sgO0 s) := by
  unfold sgO0
  have r : Paid [true] := paid_cons rfl Paid.nil
  have a := sgA_OK s
  have b1 := sgB1_OK (ptB8_len (sgR id s))
  have b2 := sgB2_OK (ptB8_len (sgR id s)) (ptB8_len (sdL s))
  exact paid_append.2 ⟨paid_append.2 ⟨paid_append.2 ⟨paid_append.2 ⟨paid_append.2 ⟨paid_append.2 ⟨rep_true _, okS_paid a⟩, rep_true _⟩, okS_paid b1⟩, r⟩, okS_paid b2⟩, rep_true _⟩
theorem pu_buf (s : List Int) (n : Nat) : seeV 0 ((funcL Tryd.prog qE (deep Tryd.prog qE hE1 400 4) (fun _ _ => none) 400 7 (cArgs 0 [.buf true .u8 n s]) (cMem [.buf true .u8 n s])).go [true]) =
    some ([decide (n < 9223372036854775808), (n : Int) != 32], .tuple [.nilslice, .int false .i64 2], some (some ⟨false, .ints .u8 (some n) s⟩)) := by kernel_rfl
theorem pu_nil : seeV 0 ((funcL Tryd.prog qE (deep Tryd.prog qE hE1 400 4) (fun _ _ => none) 400 7 (cArgs 0 [.pl .nilslice]) (cMem [.pl .nilslice])).go []) =
    some ([], .tuple [.nilslice, .int false .i64 2], some none) := by kernel_rfl
theorem pu_emp : seeV 0 ((funcL Tryd.prog qE (deep Tryd.prog qE hE1 400 4) (fun _ _ => none) 400 7 (cArgs 0 [.empty]) (cMem [.empty])).go []) =
    some ([], .tuple [.nilslice, .int false .i64 2], some none) := by kernel_rfl
def pubA (s : List Int) : AV × Mem := (.tuple [.slice false 0 0 32 (some 32) 1, .int false .i64 0], [some ⟨true, .ints .u8 (some 32) (pubB s)⟩])
def noA : AV × Mem := (.tuple [.nilslice, .int false .i64 2], [])
def puS : List V → E (AV × Mem)
  | [.buf false .u8 32 s] => some ([], pubA s)
  | [.buf true .u8 n _] => some ([decide (n < 9223372036854775808), (n : Int) != 32], noA)
  | [.pl .nilslice] => some ([], noA)
  | [.empty] => some ([], noA)
  | _ => none
theorem pu_ok {xs : List V} {o : List Bool} {v : AV} {bs : Mem} (h : puS xs = some (o, (v, bs))) (ho : Paid o) : ViewCall Tryd.prog 7 xs v bs := by
  have D := hE1_ok.deep (q := qE) mixed noCount 400 4
  unfold puS at h
  split at h
  · rename_i s
    cases h
    intro ρ vs w ha hi
    exact viewN_one mixed noCount D (lo1 _) [] 9 (pu_eval s) (rep_true _) (by show 1 ≤ 9; decide) rfl rfl ha hi
  · rename_i n s
    cases h
    intro ρ vs w ha hi
    exact viewN_none mixed noCount D (lo1 _) [true] 0 (pu_buf s n) ho rfl rfl rfl rfl ha hi
  · cases h
    intro ρ vs w ha hi
    exact viewN_none mixed noCount D (lo1 _) [] 0 pu_nil ho rfl rfl rfl rfl ha hi
  · cases h
    intro ρ vs w ha hi
    exact viewN_none mixed noCount D (lo1 _) [] 0 pu_emp ho rfl rfl rfl rfl ha hi
  · cases h
def sigA (m s : List Int) : AV × Mem := (.tuple [.slice false 0 0 64 none 1, .int false .i64 0], [some ⟨true, .ints .u8 (some 64) (sigB (sgF m) s)⟩])
def sgSs : List V → E (AV × Mem)
  | [.buf false .u8 32 s, .buf _ .u8 n m] => some ([decide (n < 9223372036854775808)], sigA m s)
  | [.buf false .u8 32 s, .pl .nilslice] => some ([], sigA [] s)
  | [.buf false .u8 32 s, .empty] => some ([], sigA [] s)
  | _ => none
theorem sg_ok {xs : List V} {o : List Bool} {v : AV} {bs : Mem} (h : sgSs xs = some (o, (v, bs))) (ho : Paid o) : ViewCall Tryd.prog 8 xs v bs := by
  have D := hE1_ok.deep (q := qE) mixed noCount 400 4
  unfold sgSs at h
  split at h
  · rename_i s b n m
    cases h
    have hn := of_decide_eq_true (ho _ (List.mem_cons_self ..))
    intro ρ vs w ha hi
    obtain ⟨hl, _⟩ := buf_arg hi 1 rfl
    have ha2 : Reps ρ (upto 2) (cArgs 0 [.buf false .u8 32 s, .buf true .u8 n m]) vs := by
      cases ha with
      | cons _ _ _ _ r0 hr => cases hr with
        | cons _ _ _ _ r1 hr => cases hr with
          | nil => cases r1 with
            | slice _ _ _ _ _ _ c ad hn hc hl hw had => exact .cons _ _ _ _ r0 (.cons _ _ _ _ (.slice true 1 0 n none 1 c ad hn hc hl hw had) .nil)
    have e := sg_buf s m n
    rw [sgM_F hl] at e
    exact viewN_one mixed noCount D (lo1 _) [] 17 e (sgO_paid hn) (by show 2 ≤ 17; decide) rfl rfl ha2 hi
  · rename_i s
    cases h
    intro ρ vs w ha hi
    exact viewN_one mixed noCount D (lo1 _) [] 17 (sg_nil s) (sgO0_paid s) (by show 2 ≤ 17; decide) rfl rfl ha hi
  · rename_i s
    cases h
    intro ρ vs w ha hi
    exact viewN_one mixed noCount D (lo1 _) [] 17 (sg_emp s) (sgO0_paid s) (by show 2 ≤ 17; decide) rfl rfl ha hi
  · cases h
def hE2 : CallH := withV 7 puS (withV 8 sgSs hE1)
theorem hE2_ok : HOk Tryd.prog hE2 := (hE1_ok.withV fun _ _ _ _ h ho => sg_ok h ho).withV fun _ _ _ _ h ho => pu_ok h ho
end Go.Proofs.YthelmpjkkkhopaaDoor
