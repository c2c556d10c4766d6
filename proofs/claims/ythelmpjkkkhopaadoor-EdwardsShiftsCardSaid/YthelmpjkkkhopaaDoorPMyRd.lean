/- Calls whose first argument is a struct of two pointers, handed by value: what both show, and views; in memory laid anew. Own work. -/
import Derived.Test.YthelmpjkkkhopaaDoorPEvCan
import Derived.Test.YthelmpjkkkhopaaDoorPMyMI
import Derived.Test.YthelmpjkkkhopaaDoorPMyW
import Derived.Test.YthelmpjkkkhopaaDoorPMyC
set_option linter.unusedSimpArgs false
set_option linter.unusedVariables false
set_option linter.unusedSectionVars false
namespace Go.Ev
set_option linter.unusedSectionVars false
variable [Tab]
def qMem (c d : Cells) (xs : List V) : Mem := some ⟨false, c⟩ :: some ⟨false, d⟩ :: cMem xs
def qArgs (xs : List V) : List AV := .agg [.ptr false 0 0, .ptr false 1 0] :: cArgs 2 xs
def withQ (g : FuncId) (spec : Cells → Cells → List V → E (AV × Mem)) (X : CallH) : CallH := fun f args m =>
  match decide (f = g), args with
  | true, .agg [.ptr false n 0, .ptr false p 0] :: ars => (match getName m n with
    | some b1 => (match getName m p with
      | some b2 => (match plainC b1.c && plainC b2.c with
        | true => (match viewsA m ars with
          | some (o1, xs) => (match spec b1.c b2.c xs with
            | some (o2, (v, bs)) => some (o1 ++ o2, (upA m.length v, m ++ onlyRw (bs.map (upB m.length))))
            | none => X f args m)
          | none => X f args m)
        | false => X f args m)
      | none => X f args m)
    | none => X f args m)
  | _, _ => X f args m
section
variable {P : Program} {H : CallH}
theorem HOk.withQ {g : FuncId} {spec : Cells → Cells → List V → E (AV × Mem)} (hX : HOk P H) (h : ∀ c d xs o v bs, spec c d xs = some (o, (v, bs)) → Paid o → RCall P g (qArgs xs) (qMem c d xs) v bs) : HOk P (withQ g spec H) := by
  have both : ∀ {f : FuncId} {ars : List AV} {m : Mem} {ob : List Bool} {v : AV} {m' : Mem}, Go.Ev.withQ g spec H f ars m = some (ob, (v, m')) → Paid ob →
      m.length ≤ m'.length ∧ ∀ {w0 : World} {S : Nat → Prop} {ρ : Nat → Loc3} {w : World} {vs : List Value}, Reps ρ (upto m.length) ars vs → Inv w0 S (upto m.length) ρ (getName m) w →
      CallRun P f vs.toArray w (fun u w' => ∃ ρ', Rep ρ' (upto m'.length) v u ∧ Inv w0 S (upto m'.length) ρ' (getName m') w' ∧ Agr ρ ρ' (upto m.length)) := by
    intro f ars m ob v m' hr ho
    have old : ∀ {f ars m ob v m'}, H f ars m = some (ob, (v, m')) → Paid ob → m.length ≤ m'.length ∧ ∀ {w0 : World} {S : Nat → Prop} {ρ : Nat → Loc3} {w : World} {vs : List Value}, Reps ρ (upto m.length) ars vs → Inv w0 S (upto m.length) ρ (getName m) w →
      CallRun P f vs.toArray w (fun u w' => ∃ ρ', Rep ρ' (upto m'.length) v u ∧ Inv w0 S (upto m'.length) ρ' (getName m') w' ∧ Agr ρ ρ' (upto m.length)) := fun hr ho => ⟨hX.le hr ho, fun ha hi => hX.run hr ho ha hi⟩
    unfold Go.Ev.withQ at hr
    split at hr
    case h_2 => exact old hr ho
    rename_i n p ars' hf
    simp at hf
    subst hf
    split at hr
    case h_2 => exact old hr ho
    rename_i b1 hn
    split at hr
    case h_2 => exact old hr ho
    rename_i b2 hp
    split at hr
    case h_2 => exact old hr ho
    rename_i hpl
    simp only [Bool.and_eq_true] at hpl
    obtain ⟨p1, p3⟩ := hpl
    split at hr
    case h_2 => exact old hr ho
    rename_i o1 xs hv
    split at hr
    case h_2 => exact old hr ho
    rename_i o2 v1 bs hs
    cases hr
    have hpd := paid_append.1 ho
    refine ⟨by simp, fun {w0 S ρ w vs} ha hi => ?_⟩
    have hc : RCall P f (qArgs xs) (qMem b1.c b2.c xs) v1 bs := h _ _ _ _ _ _ hs hpd.2
    cases ha with
    | cons _ _ u us hu hus =>
    obtain ⟨Lv, c1, c2⟩ := viewsA_ok hi.sim hv hpd.1 hus 2
    let ρ2 : Nat → Loc3 := fun x => match x with | 0 => ρ n | 1 => ρ p | x + 2 => Lv x
    have hML : (qMem b1.c b2.c xs).length = xs.length + 2 := by simp [qMem, cMem]
    have hρ : ∀ i, ρ2 (2 + i) = Lv i := fun i => by rw [Nat.add_comm]
    obtain ⟨cs, t, lo', hi', a1, a2, a3, a4, a5⟩ := (hi.sim.blk n _ hn).ex
    obtain ⟨cs2, t2, lo2, hi2, d1, d2, d3, d4, d5⟩ := (hi.sim.blk p _ hp).ex
    have gM : ∀ x b, getName (qMem b1.c b2.c xs) x = some b → b.rw = false ∧ ((x = 0 ∧ b = ⟨false, b1.c⟩) ∨ (x = 1 ∧ b = ⟨false, b2.c⟩) ∨ ∃ i, x = i + 2 ∧ getName (cMem xs) i = some b) := fun x b hx => by
      match x, hx with
      | 0, hx => cases hx; exact ⟨rfl, Or.inl ⟨rfl, rfl⟩⟩
      | 1, hx => cases hx; exact ⟨rfl, Or.inr (Or.inl ⟨rfl, rfl⟩)⟩
      | i + 2, hx =>
        have hx' : getName (cMem xs) i = some b := by
          unfold getName qMem at hx
          unfold getName
          simpa using hx
        exact ⟨(c2 i b hx').1, Or.inr (Or.inr ⟨i, rfl, hx'⟩)⟩
    refine hc.use (Ls := ρ2) hi ?_ ?_
    · rw [hML]
      refine .cons _ _ _ _ ?_ (c1 ρ2 _ fun i hi => ⟨hρ i, by simp [upto]; omega⟩)
      cases hu with
      | agg _ us hr =>
        cases hr with
        | cons _ _ _ _ r1 hr => cases hr with
          | cons _ _ _ _ r2 hr =>
            cases hr
            cases r1
            cases r2
            exact .agg _ _ (.cons _ _ _ _ (Rep.ptr (ρ := ρ2) (N := upto (xs.length + 2)) false 0 0 (show (0 : Nat) < xs.length + 2 by omega)) (.cons _ _ _ _ (Rep.ptr (ρ := ρ2) (N := upto (xs.length + 2)) false 1 0 (show (1 : Nat) < xs.length + 2 by omega)) .nil))
    · refine Inv.start _ ⟨fun x b hx => ?_, fun i j bi bj h1 h2 hij hrw => ?_, fun x b hx => getName_lt hx, hi.sim.tab, fun G c hG x b hx hrw => ?_⟩ fun x b hx hrw => ?_
      · rcases (gM x b hx).2 with ⟨rfl, rfl⟩ | ⟨rfl, rfl⟩ | ⟨i, rfl, hx'⟩
        · exact ⟨cs, t, lo', hi', a1, a2, (fun h => by cases h), a4, plainC_rep a5 p1⟩
        · exact ⟨cs2, t2, lo2, hi2, d1, d2, (fun h => by cases h), d4, plainC_rep d5 p3⟩
        · have := (c2 i b hx').2 ρ2 (upto (qMem b1.c b2.c xs).length) (hρ i)
          rwa [Nat.add_comm] at this
      · rw [(gM i bi h1).1] at hrw; cases hrw
      · rw [(gM x b hx).1] at hrw; cases hrw
      · rw [(gM x b hx).1] at hrw; cases hrw
  exact ⟨@fun f ars m ob v m' h ho => (both h ho).1, @fun f ars m ob v m' h ho w0 S ρ w vs ha hi => (both h ho).2 ha hi⟩
end
theorem view_of_goL {P : Program} {q : FuncId → Bool} {H : CallH} {Λ : LoopH} (hm : P.follows .mixedOrders = true) (hng : noCount P = true) (hH : HOk P H) {n : Nat} {g : FuncId} (hΛ : ∀ fn c, P.funcs[g]? = some fn → fn.body = some c → LOk P c Λ) {xs : List V} {o : List Bool} {v v' : AV} (ds : List Bool)
    (h : res ((funcL P q H Λ n g (cArgs 0 xs) (cMem xs)).go ds) = some (o, v)) (ho : Paid o) (hv : v = v') (hpl : plainAs v' = true) : ViewCall P g xs v' [] :=
  view_of_evalL hm hng hH hΛ hpl (go_sound (sat_eq h ho hv hpl))
end Go.Ev
namespace Go.Proofs.YthelmpjkkkhopaaDoor
open Go.Ev Go.Wn
set_option maxRecDepth 100000
def bigT : List V → E (AV × Mem)
  | [.buf _ .u8 32 l] => some ([], (.tuple [.ints .u64 4 (bigL l), .bool false true], []))
  | _ => none
theorem bigT_ok {xs : List V} {o : List Bool} {v : AV} {bs : Mem} (h : bigT xs = some (o, (v, bs))) (ho : Paid o) : ViewCall Tryd.prog 77 xs v bs := by
  unfold bigT at h
  split at h
  · rename_i s l
    cases h
    intro ρ vs w ha hi
    have hb : Reps ρ (upto 1) (cArgs 0 [.buf false .u8 32 l]) vs := by
      cases ha with
      | cons _ _ _ _ r0 hr => cases hr with
        | nil => cases r0 with
          | slice _ _ _ _ _ _ c ad hn hc hl hw had => exact .cons _ _ _ _ (.slice false 0 0 32 none 1 c ad hn hc hl hw had) .nil
    exact big_ok (xs := [.buf false .u8 32 l]) (o := []) rfl Paid.nil hb hi
  · cases h
def hd0 : CallH := withV 77 bigT hm11
theorem hd0_ok : HOk Tryd.prog hd0 := hm11_ok.withV fun _ _ _ _ h ho => bigT_ok h ho

/-- The number of bytes, the highest first. -/
def be (l : List Int) : Int := l.foldl (fun a x => a * 256 + x) 0
structure RdS where
  L : List Int
  n : Nat
  l : List Int
  F : List Int
  r : List Int
  z : List Int
  o : Nat
  k : Nat
def rdTs : List Nat := [0, 1, 4, 7]
def rdV (s : RdS) : List AV := [.ptr false 0 0, .slice true 1 s.o s.k none 1, .ptr false 2 0, .ptr false 4 0]
def rdM (s : RdS) : Mem := [some ⟨false, .ints .u64 (some 9) s.L⟩, some ⟨false, .ints .u8 (some s.n) s.l⟩, some ⟨true, .ints .u64 (some 4) s.z⟩, some ⟨true, .ints .u8 (some 32) s.F⟩, some ⟨true, .ints .u64 (some 4) s.r⟩]
def rdP : List AV → Mem → Option RdS
  | [.ptr false 0 0, .slice true 1 o k none 1, .ptr false 2 0, .ptr false 4 0], [some ⟨false, .ints .u64 (some 9) L⟩, some ⟨false, .ints .u8 (some n) l⟩, some ⟨true, .ints .u64 (some 4) z⟩, some ⟨true, .ints .u8 (some 32) F⟩, some ⟨true, .ints .u64 (some 4) r⟩] => some ⟨L, n, l, F, r, z, o, k⟩
  | _, _ => none
def rdO (s : RdS) : List Bool := [good s.L, decide (val s.L < W4), decide (s.o + s.k = s.n), decide (s.k % 32 = 0), decide (s.l.length = s.n), s.l.all (inR .u8), decide (s.n < 9223372036854775808), decide (s.r = limbs (be (s.l.take s.o) % val s.L))]
def rdF (s : RdS) : List (Nat × AV) × Mem := ([(4, .ptr false 2 0), (7, .ptr false 4 0)], rdM { s with r := limbs (be s.l % val s.L) })
def rdΛ : LoopH := famH 0 55 rdTs rdP rdO rdF fun _ _ => none
def rdX (s : RdS) : List Int := (s.l.drop s.o).take 32
def rdA (s : RdS) : Int := val (limbs (val s.r * 2 ^ 256 % val s.L)) + val (limbs (val (bigL (rdX s)) % val s.L))
theorem rd_t (x : Nat → AV) (s : RdS) : seesL rdTs ((codeL Tryd.prog qAll hd0 (fun _ _ => none) 100 (lp (blk 0 (bodyOf Tryd.prog 50))) ⟨tmOf (ups x (zipU rdTs (rdV s))) 55, rdM s⟩).go [true]) =
    some ([decide (s.k < 9223372036854775808), decide ((s.k : Int) > 0), decide ((0 : Int) ≤ 32) && decide ((32 : Int) ≤ s.k), decide (s.o + 32 ≤ s.n), good s.L, good s.L, decide (0 < val s.L), decide (rdA s < 2 * val s.L), decide ((0 : Int) ≤ 32) && decide ((32 : Int) ≤ s.k)], 0,
      [.ptr false 0 0, .slice true 1 (s.o + 32) (s.k - 32) none 1, .ptr false 2 0, .ptr false 4 0], 55, rdM { s with r := limbs (rdA s % val s.L) } ++ [some ⟨true, .ints .u64 (some 4) (bigL (rdX s))⟩]) := by kernel_rfl
theorem rd_f (x : Nat → AV) (s : RdS) : seesL rdTs ((codeL Tryd.prog qAll hd0 (fun _ _ => none) 100 (lp (blk 0 (bodyOf Tryd.prog 50))) ⟨tmOf (ups x (zipU rdTs (rdV s))) 55, rdM s⟩).go [false]) =
    some ([decide (s.k < 9223372036854775808), !decide ((s.k : Int) > 0)], 2, rdV s, 55, rdM s) := by kernel_rfl
theorem be_step (l : List Int) (a : Int) : ∀ (b : Int), l.foldl (fun a x => a * 256 + x) (a + b) = a * 256 ^ l.length + l.foldl (fun a x => a * 256 + x) b := by
  induction l generalizing a with
  | nil => intro b; simp
  | cons x l ih =>
    intro b
    simp only [List.foldl_cons, List.length_cons]
    have e : (a + b) * 256 + x = a * 256 + (b * 256 + x) := by rw [Int.add_mul, Int.add_assoc]
    rw [e, ih (a * 256) (b * 256 + x), Int.pow_succ, Int.mul_assoc, Int.mul_comm 256]
theorem be_append (a b : List Int) : be (a ++ b) = be a * 256 ^ b.length + be b := by
  unfold be
  rw [List.foldl_append]
  have := be_step b (a.foldl (fun a x => a * 256 + x) 0) 0
  rwa [Int.add_zero] at this
theorem be_zeros : ∀ (k : Nat) (x : List Int), be (List.replicate k 0 ++ x) = be x
  | 0, x => by simp
  | k + 1, x => by
    have := be_zeros k x
    unfold be at *
    rw [List.replicate_succ, List.cons_append, List.foldl_cons]
    exact this
theorem val_bigL {X : List Int} (h : X.length = 32) : val (bigL X) = be X := by
  obtain ⟨b0, b1, b2, b3, b4, b5, b6, b7, b8, b9, b10, b11, b12, b13, b14, b15, b16, b17, b18, b19, b20, b21, b22, b23, b24, b25, b26, b27, b28, b29, b30, b31, rfl⟩ := thirty h
  simp only [bigL, W8, val, be, List.foldl_cons, List.foldl_nil, List.getD_cons_zero, List.getD_cons_succ]
  omega
theorem pow32 : (256 : Int) ^ 32 = 2 ^ 256 := by decide
theorem val_limbs_mod {x M : Int} (h0 : 0 < M) (h1 : M < W4) : val (limbs (x % M)) = x % M := by
  rw [val_limbs]
  exact Int.emod_eq_of_lt (Int.emod_nonneg _ (by omega)) (Int.lt_trans (Int.emod_lt_of_pos _ h0) h1)
structure RdJ (s0 s : RdS) : Prop where
  hL : s.L = s0.L
  hn : s.n = s0.n
  hl : s.l = s0.l
  hF : s.F = s0.F
  hz : s.z = s0.z
  g : good s.L = true
  g4 : val s.L < W4
  sum : s.o + s.k = s.n
  k32 : s.k % 32 = 0
  len : s.l.length = s.n
  small : s.n < 9223372036854775808
  r : s.r = limbs (be (s.l.take s.o) % val s.L)
set_option maxHeartbeats 1000000 in
theorem rd_lok : LOk Tryd.prog (bodyOf Tryd.prog 50) rdΛ := by
  refine fam_ok (q := qAll) (n := 100) rdV rdM RdJ (fun s => s.k) mixed hd0_ok LOk.none LOk.none (by kernel_rfl) (by kernel_rfl) (fun s => rfl) (fun s => rfl) (fun avs m s h ho => ?_) (fun s0 s hJ x => ?_)
  · unfold rdP at h
    split at h
    · cases h
      have o1 := ho _ (List.mem_cons_self ..)
      have o2 := ho _ (List.mem_cons_of_mem _ (List.mem_cons_self ..))
      have o3 := ho _ (List.mem_cons_of_mem _ (List.mem_cons_of_mem _ (List.mem_cons_self ..)))
      have o4 := ho _ (List.mem_cons_of_mem _ (List.mem_cons_of_mem _ (List.mem_cons_of_mem _ (List.mem_cons_self ..))))
      have o5 := ho _ (List.mem_cons_of_mem _ (List.mem_cons_of_mem _ (List.mem_cons_of_mem _ (List.mem_cons_of_mem _ (List.mem_cons_self ..)))))
      have o7 := ho _ (List.mem_cons_of_mem _ (List.mem_cons_of_mem _ (List.mem_cons_of_mem _ (List.mem_cons_of_mem _ (List.mem_cons_of_mem _ (List.mem_cons_of_mem _ (List.mem_cons_self ..)))))))
      have o8 := ho _ (List.mem_cons_of_mem _ (List.mem_cons_of_mem _ (List.mem_cons_of_mem _ (List.mem_cons_of_mem _ (List.mem_cons_of_mem _ (List.mem_cons_of_mem _ (List.mem_cons_of_mem _ (List.mem_cons_self ..))))))))
      exact ⟨_, LeL.refl _, rfl, ⟨rfl, rfl, rfl, rfl, rfl, o1, of_decide_eq_true o2, of_decide_eq_true o3, of_decide_eq_true o4, of_decide_eq_true o5, of_decide_eq_true o7, of_decide_eq_true o8⟩⟩
    · cases h
  · obtain ⟨L, n, l, F, r, z, o, k⟩ := s
    obtain ⟨L0, n0, l0, F0, r0, z0, oo, k0⟩ := s0
    obtain ⟨hL, hn, hl, hF, hz, g, g4, sum, k32, len, small, hr⟩ := hJ
    simp only at hL hn hl hF hz g g4 sum k32 len small hr
    subst hL hn hl hF hz
    obtain ⟨h1, h2, h3, h4⟩ := good_iff.1 g
    have hM : 0 < val L := by omega
    by_cases hk : k = 0
    · subst hk
      have ho : l.take o = l := List.take_of_length_le (by omega)
      rw [ho] at hr
      refine Round.out (rd_f x ⟨L, n, l, F, r, z, o, 0⟩) rfl (by simp only [rdF, hr]; rfl) (paid_cons (by simp) (paid_cons (by simp) Paid.nil)) fun p hp => ?_
      simp only [rdF, List.mem_cons, List.not_mem_nil, or_false] at hp
      rcases hp with rfl | rfl
      · exact ⟨_, by simp [rdTs, rdV, zipU], Le1.refl _⟩
      · exact ⟨_, by simp [rdTs, rdV, zipU], Le1.refl _⟩
    · have hX : (rdX ⟨L, n, l, F, r, z, o, k⟩).length = 32 := by simp only [rdX, List.length_take, List.length_drop]; omega
      have hvr : val r = be (l.take o) % val L := by rw [hr]; exact val_limbs_mod hM g4
      have hA : rdA ⟨L, n, l, F, r, z, o, k⟩ = be (l.take o) % val L * 2 ^ 256 % val L + be (rdX ⟨L, n, l, F, r, z, o, k⟩) % val L := by
        simp only [rdA]
        rw [hvr, val_limbs_mod hM g4, val_bigL hX, val_limbs_mod hM g4]
      have hstep : be (l.take (o + 32)) = be (l.take o) * 2 ^ 256 + be (rdX ⟨L, n, l, F, r, z, o, k⟩) := by
        rw [List.take_add, be_append, show ((l.drop o).take 32).length = 32 from hX, pow32]
        rfl
      have hlt : rdA ⟨L, n, l, F, r, z, o, k⟩ < 2 * val L := by
        rw [hA]
        have a1 := Int.emod_lt_of_pos (be (l.take o) % val L * 2 ^ 256) hM
        have a2 := Int.emod_lt_of_pos (be (rdX ⟨L, n, l, F, r, z, o, k⟩)) hM
        omega
      have e : rdA ⟨L, n, l, F, r, z, o, k⟩ % val L = be (l.take (o + 32)) % val L := by
        rw [hA, hstep, Int.add_emod, Int.emod_emod_of_dvd _ (Int.dvd_refl _), Int.emod_emod_of_dvd _ (Int.dvd_refl _), Int.mul_emod, Int.emod_emod_of_dvd _ (Int.dvd_refl _), ← Int.mul_emod, ← Int.add_emod]
      refine Round.on (rd_t x ⟨L, n, l, F, r, z, o, k⟩) ⟨L, n, l, F, limbs (be (l.take (o + 32)) % val L), z, o + 32, k - 32⟩ [some ⟨true, .ints .u64 (some 4) (bigL (rdX ⟨L, n, l, F, r, z, o, k⟩))⟩] (by simp only [rdM, e]) ?_ (LeL.refl _) ⟨rfl, rfl, rfl, rfl, rfl, g, g4, by simp only; omega, by simp only; omega, len, small, rfl⟩ rfl (by show k - 32 < k; omega)
      · exact paid_cons (decide_eq_true (by simp only; omega)) (paid_cons (decide_eq_true (by simp only; omega)) (paid_cons (by simp; omega) (paid_cons (decide_eq_true (by simp only; omega)) (paid_cons g (paid_cons g (paid_cons (decide_eq_true hM) (paid_cons (decide_eq_true hlt) (paid_cons (by simp; omega) Paid.nil))))))))
def redZ : List Int := [0, 0, 0, 0, 0, 0, 0, 0, 0, 0, 0, 0, 0, 0, 0, 0, 0, 0, 0, 0, 0, 0, 0, 0, 0, 0, 0, 0, 0, 0, 0, 0]
def redT (n : Nat) : Int := (n : Int).tmod 32
def redC (n : Nat) : Nat := (IntKind.i64.wrap (32 - redT n)).toNat
def redN (n : Nat) : Nat := Nat.min ((redT n).toNat - 0) (32 - redC n)
def redX (n : Nat) (l : List Int) : List Int := redZ.take (0 + redC n * 1) ++ (((l.drop (0 + 0 * 1)).take ((redT n).toNat - 0)).take (redN n)) ++ redZ.drop (0 + redC n * 1 + redN n)
def redS : List V → E (AV × Mem)
  | [.pt (.ints .u64 (some 9) L), .buf true .u8 n l] => some ([good L, decide (n < 9223372036854775808)], (.ints .u64 4 (limbs (be l % val L)), []))
  | _ => none
def redI (L : List Int) (n : Nat) (l : List Int) : RdS := ⟨L, n, l, redX n l, limbs (val (bigL (redX n l)) % val L), [0, 0, 0, 0], 0 + (redT n).toNat * 1, n - (redT n).toNat⟩
theorem red_eval (L : List Int) (n : Nat) (l : List Int) : res ((funcL Tryd.prog qAll hd0 rdΛ 100 50 (cArgs 0 [.pt (.ints .u64 (some 9) L), .buf true .u8 n l]) (cMem [.pt (.ints .u64 (some 9) L), .buf true .u8 n l])).go []) =
    some ([decide (n < 9223372036854775808), decide (0 ≤ IntKind.i64.wrap (32 - redT n)) && decide (IntKind.i64.wrap (32 - redT n) ≤ ((32 : Nat) : Int)), decide (0 ≤ redT n) && decide (redT n ≤ n), decide (0 + 0 * 1 + ((redT n).toNat - 0) ≤ n), decide (32 - redC n < 9223372036854775808), decide (0 + redC n * 1 + redN n ≤ redZ.length), good L, decide (0 ≤ redT n) && decide (redT n ≤ n)] ++ rdO (redI L n l), .ints .u64 4 (limbs (be l % val L))) := by kernel_rfl
theorem redT_eq (n : Nat) : redT n = ((n % 32 : Nat) : Int) := by
  unfold redT
  rw [Int.tmod_eq_emod_of_nonneg (by omega)]
  omega
theorem redC_eq (n : Nat) : IntKind.i64.wrap (32 - redT n) = ((32 - n % 32 : Nat) : Int) ∧ redC n = 32 - n % 32 := by
  have h : IntKind.i64.wrap (32 - redT n) = ((32 - n % 32 : Nat) : Int) := by
    rw [redT_eq]
    unfold IntKind.wrap
    simp [IntKind.bits, IntKind.signed]
    omega
  exact ⟨h, by unfold redC; rw [h, Int.toNat_natCast]⟩
theorem redN_eq (n : Nat) : redN n = n % 32 := by
  unfold redN
  rw [(redC_eq n).2, redT_eq, Int.toNat_natCast]
  have : Nat.min (n % 32 - 0) (32 - (32 - n % 32)) = min (n % 32 - 0) (32 - (32 - n % 32)) := rfl
  omega
theorem redX_eq (n : Nat) (l : List Int) : redX n l = List.replicate (32 - n % 32) 0 ++ l.take (n % 32) := by
  unfold redX
  rw [(redC_eq n).2, redN_eq, redT_eq, Int.toNat_natCast]
  have hz : redZ = List.replicate 32 0 := rfl
  rw [hz, List.take_replicate, List.drop_replicate, show 32 - (0 + (32 - n % 32) * 1 + n % 32) = 0 by omega, show min (0 + (32 - n % 32) * 1) 32 = 32 - n % 32 by omega]
  simp [List.take_take]
theorem red_ok {xs : List V} {o : List Bool} {v : AV} {bs : Mem} (h : redS xs = some (o, (v, bs))) (ho : Paid o) : ViewCall Tryd.prog 50 xs v bs := by
  unfold redS at h
  split at h
  · rename_i L n l
    cases h
    have g := ho _ (List.mem_cons_self ..)
    have hn := ho _ (List.mem_cons_of_mem _ (List.mem_cons_self ..))
    rw [decide_eq_true_eq] at hn
    obtain ⟨h1, h2, h3, h4⟩ := good_iff.1 g
    intro ρ vs w ha hi
    obtain ⟨hl, hr⟩ := buf_arg hi 1 rfl
    have hL : val L < W4 := by
      obtain ⟨m0, m1, m2, m3, ni, s0, s1, s2, s3, rfl, w0, w1, w2, w3, _⟩ := mod_arg hi rfl
      exact (val_range w0 w1 w2 w3).2
    have hM : 0 < val L := by omega
    obtain ⟨c1, c2⟩ := redC_eq n
    have t := redT_eq n
    have k := redN_eq n
    have hx := redX_eq n l
    have hxl : (redX n l).length = 32 := by rw [hx]; simp; omega
    refine view_of_goL mixed noCount hd0_ok (fun fn c hf hb => by rw [bodyOf_eq hf hb]; exact rd_lok) [] (red_eval L n l) ?_ rfl (by kernel_rfl) ha hi
    rw [c1, c2, t, k]
    refine paid_append.2 ⟨paid_cons (decide_eq_true hn) (paid_cons (by simp; omega) (paid_cons (by simp; omega) (paid_cons (decide_eq_true (by rw [Int.toNat_natCast]; omega)) (paid_cons (decide_eq_true (by omega)) (paid_cons (decide_eq_true (by show _ ≤ 32; omega)) (paid_cons g (paid_cons (by simp; omega) Paid.nil))))))), ?_⟩
    refine paid_cons g (paid_cons (decide_eq_true hL) (paid_cons (decide_eq_true ?_) (paid_cons (decide_eq_true ?_) (paid_cons (decide_eq_true hl) (paid_cons (List.all_eq_true.2 hr) (paid_cons (decide_eq_true hn) (paid_cons (decide_eq_true ?_) Paid.nil)))))))
    · simp only [redI, t, Int.toNat_natCast]; omega
    · simp only [redI, t, Int.toNat_natCast]; omega
    · simp only [redI]
      rw [val_bigL hxl, hx, be_zeros, t, Int.toNat_natCast, Nat.zero_add, Nat.mul_one]
  · cases h
def hd1 : CallH := withV 50 redS hm11
theorem hd1_ok : HOk Tryd.prog hd1 := hm11_ok.withV fun _ _ _ _ h ho => red_ok h ho
end Go.Proofs.YthelmpjkkkhopaaDoor
