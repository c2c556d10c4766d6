/- The program's code for one use: contracts of code and Poly. Own work. -/
import Derived.Test.YtpbemjifhampcaaQCChQ
set_option linter.unusedSimpArgs false
set_option linter.unusedVariables false
set_option linter.unusedSectionVars false
namespace Go.Ch
open Go.Ev Go.Sh
def KR0 (k : List Int) : Int := iand .u64 (leN ((k.drop 0).take 8)) 1152921487695413247
def KR1 (k : List Int) : Int := iand .u64 (leN ((k.drop 8).take 8)) 1152921487695413244
/-- What a key leaves of its first 16 bytes, and its last ones. -/
def KR (k : List Int) : Int := KR0 k + 18446744073709551616 * KR1 k
def KS (k : List Int) : Int := v3 (leN ((k.drop 16).take 8)) (leN ((k.drop 24).take 8)) 0
/-- A text's code. -/
def codB (k p : List Int) : List Int := by16 (pvN (KR k) p ((p.length + 15) / 16) % 1361129467683753853853498429727072845819 + KS k)
def cdZ (V : Int) (k : List Int) : Int := v3 (g0 (V % 1361129467683753853853498429727072845819)) (g1 (V % 1361129467683753853853498429727072845819)) (g2 (V % 1361129467683753853853498429727072845819)) + KS k
theorem codB_len (k p : List Int) : (codB k p).length = 16 := by simp [codB, by16]
theorem iand_le {x m : Int} (hm : 0 ≤ m ∧ m < 18446744073709551616) : 0 ≤ iand .u64 x m ∧ iand .u64 x m ≤ m := by
  rw [Go.Wn.iand_eq, BitVec.toNat_and]
  refine ⟨Int.natCast_nonneg _, ?_⟩
  have h := Go.Wn.bv_W hm
  have h2 : (Go.Wn.bv x).toNat &&& (Go.Wn.bv m).toNat ≤ (Go.Wn.bv m).toNat := Nat.and_le_right
  omega
theorem KR_b (k : List Int) : 0 ≤ KR k ∧ KR k < 21267647932558653966460912964485513216 := by
  have h0 := iand_le (x := leN ((k.drop 0).take 8)) (m := 1152921487695413247) ⟨by decide, by decide⟩
  have h1 := iand_le (x := leN ((k.drop 8).take 8)) (m := 1152921487695413244) ⟨by decide, by decide⟩
  unfold KR KR0 KR1
  omega
theorem leN_Wt {l : List Int} (i : Nat) (h : i + 8 ≤ l.length) (hb : ∀ x ∈ l, B8 x) : Go.Wn.W (leN ((l.drop i).take 8)) :=
  leN_W (by rw [List.length_take, List.length_drop]; omega) fun x hx => hb x (List.mem_of_mem_drop (List.mem_of_mem_take hx))
theorem KS_b {k : List Int} (h : k.length = 32) (hb : ∀ x ∈ k, B8 x) : 0 ≤ KS k ∧ KS k < 340282366920938463463374607431768211456 := by
  have h0 := leN_Wt 16 (by omega) hb
  have h1 := leN_Wt 24 (by omega) hb
  unfold Go.Wn.W at h0 h1
  unfold KS v3
  omega
theorem cdZ_eq {k : List Int} (h : k.length = 32) (hb : ∀ x ∈ k, B8 x) (V : Int) : v3 (g0 (cdZ V k)) (g1 (cdZ V k)) (g2 (cdZ V k)) = V % 1361129467683753853853498429727072845819 + KS k := by
  have hs := KS_b h hb
  have e : cdZ V k = V % 1361129467683753853853498429727072845819 + KS k := by
    unfold cdZ
    rw [v3_g (by omega)]
  rw [v3_g (by rw [e]; omega), e]
def txt1 : V → Option (List Bool × List Int)
  | .buf _ .u8 n l => some ([decide (1 ≤ n), decide (n < 9223372036854775808)], l)
  | .pl .nilslice => some ([], [])
  | .empty => some ([], [])
  | _ => none
theorem txt1_ok {x : V} {o : List Bool} {l : List Int} (h : txt1 x = some (o, l)) : (x = .pl .nilslice ∧ o = [] ∧ l = []) ∨ (x = .empty ∧ o = [] ∧ l = []) ∨ ∃ s n, x = .buf s .u8 n l ∧ o = [decide (1 ≤ n), decide (n < 9223372036854775808)] := by
  unfold txt1 at h
  split at h <;> cases h
  · exact Or.inr (Or.inr ⟨_, _, rfl, rfl⟩)
  · exact Or.inl ⟨rfl, rfl, rfl⟩
  · exact Or.inr (Or.inl ⟨rfl, rfl, rfl⟩)
end Go.Ch
namespace Go.Proofs.Ytpbemjifhampcaa
open Go.Ev Go.Sh Go.Ch
set_option maxRecDepth 100000
theorem co_b (k : List Int) (n : Nat) (p : List Int) : res ((funcL Try.prog qC (deep Try.prog qC hp2 100 3) (cdΛ fun _ _ => none) 100 48 (cArgs 0 [.pl (.ints .u8 32 k), .buf true .u8 n p]) (cMem [.pl (.ints .u8 32 k), .buf true .u8 n p])).go []) =
    some ([decide (n = p.length), decide (n = p.length), al8 p, decide (1 ≤ n), decide (n < 9223372036854775808), decide (0 ≤ KR k), decide (KR k < 21267647932558653966460912964485513216), decide (v3 (g0 (pvN (KR k) p ((p.length + 15) / 16))) (g1 (pvN (KR k) p ((p.length + 15) / 16))) (g2 (pvN (KR k) p ((p.length + 15) / 16))) < 2722258935367507707706996859454145691638)],
      .ints .u8 16 (by16 (v3 (g0 (cdZ (v3 (g0 (pvN (KR k) p ((p.length + 15) / 16))) (g1 (pvN (KR k) p ((p.length + 15) / 16))) (g2 (pvN (KR k) p ((p.length + 15) / 16)))) k)) (g1 (cdZ (v3 (g0 (pvN (KR k) p ((p.length + 15) / 16))) (g1 (pvN (KR k) p ((p.length + 15) / 16))) (g2 (pvN (KR k) p ((p.length + 15) / 16)))) k)) (g2 (cdZ (v3 (g0 (pvN (KR k) p ((p.length + 15) / 16))) (g1 (pvN (KR k) p ((p.length + 15) / 16))) (g2 (pvN (KR k) p ((p.length + 15) / 16)))) k))))) := by kernel_rfl
theorem co_n (k : List Int) : res ((funcL Try.prog qC (deep Try.prog qC hp2 100 3) (cdΛ fun _ _ => none) 100 48 (cArgs 0 [.pl (.ints .u8 32 k), .pl .nilslice]) (cMem [.pl (.ints .u8 32 k), .pl .nilslice])).go []) = some ([decide (v3 0 0 0 < 2722258935367507707706996859454145691638)], .ints .u8 16 (by16 (v3 (g0 (cdZ (v3 0 0 0) k)) (g1 (cdZ (v3 0 0 0) k)) (g2 (cdZ (v3 0 0 0) k))))) := by kernel_rfl
theorem co_e (k : List Int) : res ((funcL Try.prog qC (deep Try.prog qC hp2 100 3) (cdΛ fun _ _ => none) 100 48 (cArgs 0 [.pl (.ints .u8 32 k), .empty]) (cMem [.pl (.ints .u8 32 k), .empty])).go []) = some ([decide (v3 0 0 0 < 2722258935367507707706996859454145691638)], .ints .u8 16 (by16 (v3 (g0 (cdZ (v3 0 0 0) k)) (g1 (cdZ (v3 0 0 0) k)) (g2 (cdZ (v3 0 0 0) k))))) := by kernel_rfl
def coV : List V → E (AV × Mem)
  | [.pl (.ints .u8 32 k), t] => match txt1 t with
    | some (o, p) => some (o, (.ints .u8 16 (codB k p), []))
    | none => none
  | _ => none
theorem ints_arg {ρ : Nat → Loc3} {N : Nat → Prop} {n : Nat} {l : List Int} {v : Value} (h : Rep ρ N (.ints .u8 n l) v) : l.length = n ∧ ∀ x ∈ l, B8 x := by
  cases h with | ints _ _ _ hn hl => exact ⟨hn, fun x hx => inR_b8 (hl x hx)⟩
theorem coV_ok {xs : List V} {o : List Bool} {v : AV} {bs : Mem} (h : coV xs = some (o, (v, bs))) (ho : Paid o) : ViewCall Try.prog 48 xs v bs := by
  unfold coV at h
  split at h
  case h_2 => cases h
  rename_i k t
  split at h
  case h_2 => cases h
  rename_i o1 p ht
  cases h
  have hΛ : ∀ fn c, Try.prog.funcs[48]? = some fn → fn.body = some c → LOk Try.prog c (cdΛ fun _ _ => none) := fun fn c hf hb => by rw [bodyOf_eq hf hb]; exact cd_lok LOk.none
  intro ρ vs w ha hi
  have hk : k.length = 32 ∧ ∀ x ∈ k, B8 x := by
    cases ha with | cons _ _ _ _ r0 hb => exact ints_arg r0
  have z : v3 0 0 0 = 0 := rfl
  rcases txt1_ok ht with ⟨rfl, rfl, rfl⟩ | ⟨rfl, rfl, rfl⟩ | ⟨s, n, rfl, rfl⟩
  · exact view_of_goL mixed noCount (hp2_ok.deep mixed noCount 100 3) hΛ [] (co_n k) (paid_cons (by decide +kernel) Paid.nil) (by rw [cdZ_eq hk.1 hk.2, z]; rfl) rfl ha hi
  · exact view_of_goL mixed noCount (hp2_ok.deep mixed noCount 100 3) hΛ [] (co_e k) (paid_cons (by decide +kernel) Paid.nil) (by rw [cdZ_eq hk.1 hk.2, z]; rfl) rfl ha hi
  · obtain ⟨n1, r1⟩ := buf_arg hi 1 rfl
    have q1 := of_decide_eq_true (ho _ (List.mem_cons_self ..))
    have q2 := of_decide_eq_true (ho _ (List.mem_cons_of_mem _ (List.mem_cons_self ..)))
    have hp : ∀ x ∈ p, B8 x := fun x hx => inR_b8 (r1 x hx)
    obtain ⟨kr1, kr2⟩ := KR_b k
    obtain ⟨b1, b2⟩ := pv_bound hp kr1 kr2 ((p.length + 15) / 16)
    have ev := co_b k n p
    have ha2 : Reps ρ (upto 2) (cArgs 0 [.pl (.ints .u8 32 k), .buf true .u8 n p]) vs := by
      cases ha with | cons _ _ u us a0 hs => cases hs with | cons _ _ u1 us1 a1 hs => exact .cons _ _ _ _ a0 (.cons _ _ _ _ (markedS a1) hs)
    rw [v3_g (v := pvN (KR k) p ((p.length + 15) / 16)) ⟨b1, by omega⟩, cdZ_eq hk.1 hk.2] at ev
    exact view_of_goL mixed noCount (hp2_ok.deep mixed noCount 100 3) hΛ [] ev (paid_cons (decide_eq_true n1.symm) (paid_cons (decide_eq_true n1.symm) (paid_cons (al8_of hp) (paid_cons (decide_eq_true q1) (paid_cons (decide_eq_true q2) (paid_cons (decide_eq_true kr1) (paid_cons (decide_eq_true kr2) (paid_cons (decide_eq_true (by omega)) Paid.nil)))))))) rfl rfl ha2 hi
def hp3 : CallH := withV 48 coV hp2
theorem hp3_ok : HOk Try.prog hp3 := hp2_ok.withV fun _ _ _ _ h ho => coV_ok h ho
-- Poly
def Z16 : List Int := List.replicate 16 0
theorem po_kn (z : V) : res ((funcL Try.prog qC (deep Try.prog qC hp3 100 3) (fun _ _ => none) 100 26 (cArgs 0 [.pl .nilslice, z]) (cMem [.pl .nilslice, z])).go []) = some ([], .tuple [.ints .u8 16 Z16, .int false .i64 2]) := by kernel_rfl
theorem po_ke (z : V) : res ((funcL Try.prog qC (deep Try.prog qC hp3 100 3) (fun _ _ => none) 100 26 (cArgs 0 [.empty, z]) (cMem [.empty, z])).go []) = some ([], .tuple [.ints .u8 16 Z16, .int false .i64 2]) := by kernel_rfl
theorem po_kb (n : Nat) (k : List Int) (z : V) : res ((funcL Try.prog qC (deep Try.prog qC hp3 100 3) (fun _ _ => none) 100 26 (cArgs 0 [.buf true .u8 n k, z]) (cMem [.buf true .u8 n k, z])).go [true]) = some ([decide (n < 9223372036854775808), ((n : Int) != 32)], .tuple [.ints .u8 16 Z16, .int false .i64 2]) := by kernel_rfl
theorem po_b (k : List Int) (n : Nat) (p : List Int) : res ((funcL Try.prog qC (deep Try.prog qC hp3 100 3) (fun _ _ => none) 100 26 (cArgs 0 [.buf false .u8 32 k, .buf true .u8 n p]) (cMem [.buf false .u8 32 k, .buf true .u8 n p])).go []) = some ([decide (0 + n ≤ n), decide (1 ≤ n), decide (n < 9223372036854775808)], .tuple [.ints .u8 16 (codB k ((p.drop 0).take n)), .int false .i64 0]) := by kernel_rfl
theorem po_n (k : List Int) : res ((funcL Try.prog qC (deep Try.prog qC hp3 100 3) (fun _ _ => none) 100 26 (cArgs 0 [.buf false .u8 32 k, .pl .nilslice]) (cMem [.buf false .u8 32 k, .pl .nilslice])).go []) = some ([], .tuple [.ints .u8 16 (codB k []), .int false .i64 0]) := by kernel_rfl
theorem po_e (k : List Int) : res ((funcL Try.prog qC (deep Try.prog qC hp3 100 3) (fun _ _ => none) 100 26 (cArgs 0 [.buf false .u8 32 k, .empty]) (cMem [.buf false .u8 32 k, .empty])).go []) = some ([], .tuple [.ints .u8 16 (codB k []), .int false .i64 0]) := by kernel_rfl
def poS : List V → E (AV × Mem)
  | [K, t] => match isK K with
    | some k => (match txt1 t with
      | some (o, p) => some (o, (.tuple [.ints .u8 16 (codB k p), .int false .i64 0], []))
      | none => none)
    | none => match notL 32 K with
      | some o => some (o, (.tuple [.ints .u8 16 Z16, .int false .i64 2], []))
      | none => none
  | _ => none
theorem noL {F : FuncId} (fn : Func) (c : Code) (_ : Try.prog.funcs[F]? = some fn) (_ : fn.body = some c) : LOk Try.prog c (fun _ _ => none) := LOk.none
theorem po_ok {xs : List V} {o : List Bool} {v : AV} {bs : Mem} (h : poS xs = some (o, (v, bs))) (ho : Paid o) : ViewCall Try.prog 26 xs v bs := by
  unfold poS at h
  split at h
  case h_2 => cases h
  rename_i K t
  split at h
  · rename_i k hK
    obtain rfl := isK_ok hK
    split at h
    case h_2 => cases h
    rename_i o1 p ht
    cases h
    intro ρ vs w ha hi
    rcases txt1_ok ht with ⟨rfl, rfl, rfl⟩ | ⟨rfl, rfl, rfl⟩ | ⟨s, n, rfl, rfl⟩
    · exact view_of_goL mixed noCount (hp3_ok.deep mixed noCount 100 3) noL [] (po_n k) Paid.nil rfl rfl ha hi
    · exact view_of_goL mixed noCount (hp3_ok.deep mixed noCount 100 3) noL [] (po_e k) Paid.nil rfl rfl ha hi
    · obtain ⟨n1, r1⟩ := buf_arg hi 1 rfl
      have ev := po_b k n p
      have ha2 : Reps ρ (upto 2) (cArgs 0 [.buf false .u8 32 k, .buf true .u8 n p]) vs := by
        cases ha with | cons _ _ u us a0 hs => cases hs with | cons _ _ u1 us1 a1 hs => exact .cons _ _ _ _ a0 (.cons _ _ _ _ (markedS a1) hs)
      rw [List.drop_zero, List.take_of_length_le (Nat.le_of_eq n1)] at ev
      exact view_of_goL mixed noCount (hp3_ok.deep mixed noCount 100 3) noL [] ev (paid_cons (decide_eq_true (by omega)) ho) rfl rfl ha2 hi
  · split at h
    case h_2 => cases h
    rename_i o1 hb
    cases h
    intro ρ vs w ha hi
    rcases notL_ok hb with ⟨rfl, rfl⟩ | ⟨rfl, rfl⟩ | ⟨n, k, rfl, rfl⟩
    · exact view_of_goL mixed noCount (hp3_ok.deep mixed noCount 100 3) noL [] (po_kn t) Paid.nil rfl rfl ha hi
    · exact view_of_goL mixed noCount (hp3_ok.deep mixed noCount 100 3) noL [] (po_ke t) Paid.nil rfl rfl ha hi
    · have o2 := ho _ (List.mem_cons_of_mem _ (List.mem_cons_self ..))
      have e1 : ((n : Int) != 32) = true := by simp at o2 ⊢; omega
      exact view_of_goL mixed noCount (hp3_ok.deep mixed noCount 100 3) noL [true] (po_kb n k t) (paid_cons (ho _ (List.mem_cons_self ..)) (paid_cons e1 Paid.nil)) rfl rfl ha hi
def hp4 : CallH := withV 26 poS hp3
theorem hp4_ok : HOk Try.prog hp4 := hp3_ok.withV fun _ _ _ _ h ho => po_ok h ho
end Go.Proofs.Ytpbemjifhampcaa
namespace Go.Ch
open Go.Ev Go.Sh
def pz (n : Nat) : Nat := (16 - n % 16) % 16
structure FiS where
  a : TX
  s : TX
  x : List Int
  t : List Int
  o : List Int
  l : List Int
  n : Nat
  c : Nat
end Go.Ch
namespace Go.Proofs.Ytpbemjifhampcaa
open Go.Ev Go.Sh Go.Ch
set_option maxRecDepth 100000
def qD (f : FuncId) : Bool := qC f && !Nat.beq f 74 && !Nat.beq f 75 && !Nat.beq f 45
def fiV (s : FiS) : List AV := [.slice true 6 0 s.n (some s.c) 1]
def fiM (s : FiS) : Mem := [none, s.a.B, s.s.B, some ⟨true, .ints .u32 (some 16) s.x⟩, some ⟨true, .ints .u8 (some 16) s.t⟩, some ⟨true, .ints .u8 (some 64) s.o⟩, some ⟨true, .ints .u8 none s.l⟩]
def fiP : List AV → Mem → Option (FiS × List Bool)
  | [.slice true 6 0 n (some c) 1], [none, ab, sb, some ⟨true, .ints .u32 (some 16) x⟩, some ⟨true, .ints .u8 (some 16) t⟩, some ⟨true, .ints .u8 (some 64) o⟩, some ⟨true, .ints .u8 none l⟩] =>
    match txB ab, txB sb with
    | some a, some s => some (⟨a, s, x, t, o, l, n, c⟩, [decide (l.length = n), decide (n + pz n ≤ c), decide (n < 1000000000000000)])
    | _, _ => none
  | _, _ => none
def fiF (p : FiS × List Bool) : List (Nat × AV) × Mem := ([(0, .slice true 6 0 (p.1.n + pz p.1.n) (some p.1.c) 1)], fiM { p.1 with l := p.1.l ++ List.replicate (pz p.1.n) 0, n := p.1.n + pz p.1.n })
def fiΛ (Λ : LoopH) : LoopH := famH 0 11 [0] fiP (fun p => p.2) fiF Λ
theorem fi_t (w : Nat → AV) (s : FiS) : seesL [0] ((codeL Try.prog qD (deep Try.prog qD hp3 100 3) (fun _ _ => none) 100 (lp (blk 0 (bodyOf Try.prog 74))) ⟨tmOf (ups w (zipU [0] (fiV s))) 11, fiM s⟩).go [true]) =
    some ([decide (s.n < 9223372036854775808), ((s.n : Int).tmod 16 != 0), decide (0 + s.n ≤ s.l.length), decide (s.n + 1 ≤ s.c)], 0, fiV { s with n := s.n + 1 }, 11, fiM { s with l := (s.l.drop 0).take s.n ++ [0] } ++ [some ⟨true, .vals [.int false .u8 0]⟩]) := by
  obtain ⟨a, s, x, t, o, l, n, c⟩ := s
  cases a <;> cases s <;> kernel_rfl
theorem fi_f (w : Nat → AV) (s : FiS) : seesL [0] ((codeL Try.prog qD (deep Try.prog qD hp3 100 3) (fun _ _ => none) 100 (lp (blk 0 (bodyOf Try.prog 74))) ⟨tmOf (ups w (zipU [0] (fiV s))) 11, fiM s⟩).go [false]) =
    some ([decide (s.n < 9223372036854775808), !((s.n : Int).tmod 16 != 0)], 2, fiV s, 11, fiM s) := by
  obtain ⟨a, s, x, t, o, l, n, c⟩ := s
  cases a <;> cases s <;> kernel_rfl
def fiI (p s : FiS × List Bool) : Prop := p.1.l.length = p.1.n ∧ p.1.n + pz p.1.n ≤ p.1.c ∧ p.1.n < 1000000000000000 ∧ ∃ k : Nat, k ≤ pz p.1.n ∧ s.1 = { p.1 with l := p.1.l ++ List.replicate k 0, n := p.1.n + k }
theorem fi_lok {Λ : LoopH} (hΛ : LOk Try.prog (bodyOf Try.prog 74) Λ) : LOk Try.prog (bodyOf Try.prog 74) (fiΛ Λ) := by
  refine fam_ok (q := qD) (n := 100) (fun p : FiS × List Bool => fiV p.1) (fun p => fiM p.1) fiI (fun s => pz s.1.n) mixed (hp3_ok.deep (q := qD) mixed noCount 100 3) hΛ LOk.none (by kernel_rfl) (by kernel_rfl) (fun s => by obtain ⟨⟨a, s, x, t, o, l, n, c⟩, b⟩ := s; cases a <;> cases s <;> rfl) (fun s => by obtain ⟨⟨a, s, x, t, o, l, n, c⟩, b⟩ := s; cases a <;> cases s <;> rfl) (fun avs mm p h ho => ?_) (fun p s hJ w => ?_)
  · unfold fiP at h
    split at h
    · rename_i n c ab sb x t o l
      split at h
      · rename_i a z g1 g2
        cases h
        have p0 := of_decide_eq_true (ho _ (List.mem_cons_self ..))
        have p1 := of_decide_eq_true (ho _ (List.mem_cons_of_mem _ (List.mem_cons_self ..)))
        have p2 := of_decide_eq_true (ho _ (List.mem_cons_of_mem _ (List.mem_cons_of_mem _ (List.mem_cons_self ..))))
        obtain rfl := txB_ok g1
        obtain rfl := txB_ok g2
        exact ⟨(⟨a, z, x, t, o, l, n, c⟩, []), LeL.refl _, rfl, p0, p1, p2, 0, Nat.zero_le _, by simp⟩
      · cases h
    · cases h
  · obtain ⟨h1, h2, h3, k, h4, hs⟩ := hJ
    obtain ⟨⟨a, z, x, t, o, l, n, c⟩, b⟩ := p
    obtain ⟨s', b'⟩ := s
    simp only at h1 h2 h3 h4 hs
    subst hs
    have hpz : pz n ≤ 15 := by unfold pz; omega
    have et : ((n + k : Nat) : Int).tmod 16 = (((n + k) % 16 : Nat) : Int) := by rw [Int.tmod_eq_emod_of_nonneg (by omega)]; omega
    by_cases hend : k = pz n
    · subst hend
      have e0 : (n + pz n) % 16 = 0 := by unfold pz; omega
      refine Round.out (fi_f w _) rfl rfl (paid_cons (decide_eq_true (by simp only; omega)) (paid_cons (by simp only [et, e0]; rfl) Paid.nil)) fun q hq => ?_
      simp only [fiF, List.mem_cons, List.not_mem_nil, or_false] at hq
      subst hq
      exact ⟨_, List.mem_cons_self .., .refl _⟩
    · have hl : (l ++ List.replicate k 0).length = n + k := by simp [h1]
      have hne : (n + k) % 16 ≠ 0 := by unfold pz at h4 hend; omega
      refine Round.on (fi_t w ⟨a, z, x, t, o, l ++ List.replicate k 0, n + k, c⟩) (⟨a, z, x, t, o, l ++ List.replicate (k + 1) 0, n + (k + 1), c⟩, b') [some ⟨true, .vals [.int false .u8 0]⟩] ?_ (paid_cons (decide_eq_true (by simp only; omega)) (paid_cons (by simp only [et]; simp; omega) (paid_cons (decide_eq_true (by simp only [hl]; omega)) (paid_cons (decide_eq_true (by simp only; omega)) Paid.nil)))) ?_ ⟨h1, h2, h3, k + 1, by simp only; omega, rfl⟩ rfl (by simp only; unfold pz at *; omega)
      · simp only [List.drop_zero, List.take_of_length_le (Nat.le_of_eq hl), List.append_assoc]
        rw [show List.replicate (k + 1) (0 : Int) = List.replicate k 0 ++ [0] from List.replicate_succ']
        rfl
      · exact LeL.refl _
noncomputable def hfi : CallH := inL Try.prog qD (deep Try.prog qD hp3 100 3) (fiΛ fun _ _ => none) 100 74 [] hp3
theorem hfi_ok : HOk Try.prog hfi := HOk.inL mixed noCount (hp3_ok.deep mixed noCount 100 3) hp3_ok 100 _ _ fun fn c hf hb => by rw [bodyOf_eq hf hb]; exact fi_lok LOk.none
end Go.Proofs.Ytpbemjifhampcaa
