/- The reference's Turn in a law's memory: its loops as families. Own work. -/
import Derived.Test.YtpbemjifhampcaaQGcJ
import Derived.Test.YtpbemjifhampcaaQEvPre
set_option linter.unusedSimpArgs false
set_option linter.unusedVariables false
set_option linter.unusedSectionVars false
namespace Go.Gc
open Go.Ev Go.Sh Go.As
def kwN (r : Bool) : Nat := match r with | true => 60 | false => 44
def kNr (r : Bool) : Int := match r with | true => 8 | false => 4
def kbN (r : Bool) : Nat := match r with | true => 32 | false => 16
def krN (r : Bool) : Int := match r with | true => 14 | false => 10
def cvP (p c : List Int) (a t : Nat) : List Int := (List.range t).map fun q => ixor .u8 (p.getD (a + q) 0) (c.getD q 0)
theorem cvP_succ (p c : List Int) (a t : Nat) : cvP p c a (t + 1) = cvP p c a t ++ [ixor .u8 (p.getD (a + t) 0) (c.getD t 0)] := by unfold cvP; rw [List.range_succ, List.map_append]; rfl
def ctrR (l : List Int) (N : Int) : List Int := ((((l.take 12 ++ [0, 0, 0, 0]).set 15 (IntKind.u8.wrap (ishr .u32 N 0))).set 14 (IntKind.u8.wrap (ishr .u32 N 8))).set 13 (IntKind.u8.wrap (ishr .u32 N 16))).set 12 (IntKind.u8.wrap (ishr .u32 N 24))
def mkR (w : List Int) (rr : Nat) (l : List Int) (b : Int) : List Int := encB w rr (ctrR l (IntKind.u32.wrap (IntKind.i64.wrap (2 + IntKind.i64.wrap b))))
/-- The text turned, after so many blocks. -/
def tuR (w : List Int) (rr : Nat) (l p : List Int) (n : Nat) : Nat → List Int
  | 0 => []
  | a + 1 => tuR w rr l p n a ++ cvP p (mkR w rr l (a : Int)) (16 * a) (eT n ((16 * a : Nat) : Int))
theorem hiT_of (n a : Nat) (hn : n < 1000000000) (ha : a < n) : hiT n (a : Int) = ((a + eT n (a : Int) : Nat) : Int) := by
  have hw : IntKind.i64.wrap ((a : Int) + 16) = (a : Int) + 16 := by unfold IntKind.wrap; simp [IntKind.bits, IntKind.signed]; omega
  unfold eT hiT
  rw [hw]
  split <;> omega
theorem eT_of (n a : Nat) (hn : n < 1000000000) (ha : a < n) : 1 ≤ eT n (a : Int) ∧ eT n (a : Int) ≤ 16 ∧ a + eT n (a : Int) ≤ n ∧ (eT n (a : Int) = 16 ∨ a + eT n (a : Int) = n) := by
  have hw : IntKind.i64.wrap ((a : Int) + 16) = (a : Int) + 16 := by unfold IntKind.wrap; simp [IntKind.bits, IntKind.signed]; omega
  unfold eT hiT
  rw [hw]
  split <;> omega

theorem tuR_len (w : List Int) (rr : Nat) (l p : List Int) {n : Nat} (hn : n < 1000000000) : ∀ a, a ≤ (n + 15) / 16 → (tuR w rr l p n a).length = min (16 * a) n
  | 0, _ => by simp [tuR]
  | a + 1, h => by
    have e := eT_of n (16 * a) hn (by omega)
    unfold tuR
    rw [List.length_append, tuR_len w rr l p hn a (by omega)]
    simp only [cvP, List.length_map, List.length_range]
    omega
def rI : Option Blk → Option (Bool × Option Nat × List Int)
  | some ⟨rw, .ints .u8 sz l⟩ => some (rw, sz, l)
  | _ => none
theorem rI_ok {b : Option Blk} {rw : Bool} {sz : Option Nat} {l : List Int} (h : rI b = some (rw, sz, l)) : b = some ⟨rw, .ints .u8 sz l⟩ := by
  unfold rI at h; split at h <;> cases h; rfl
def rKey : Option Blk → Option (Bool × Int × List Int)
  | some ⟨rw, .wide [.int false .i64 rr, .ints .u8 240 W]⟩ => some (rw, rr, W)
  | _ => none
theorem rKey_ok {b : Option Blk} {rw : Bool} {rr : Int} {W : List Int} (h : rKey b = some (rw, rr, W)) : b = some ⟨rw, .wide [.int false .i64 rr, .ints .u8 240 W]⟩ := by
  unfold rKey at h; split at h <;> cases h; rfl
def rRk : Option Blk → Option (Bool × Nat × Nat × List Int × Int)
  | some ⟨rw, .wide [.slice true nm 0 K none 4, .ints .i64 256 T, .int false .i64 R]⟩ => some (rw, nm, K, T, R)
  | _ => none
theorem rRk_ok {b : Option Blk} {rw : Bool} {nm K : Nat} {T : List Int} {R : Int} (h : rRk b = some (rw, nm, K, T, R)) : b = some ⟨rw, .wide [.slice true nm 0 K none 4, .ints .i64 256 T, .int false .i64 R]⟩ := by
  unfold rRk at h; split at h <;> cases h; rfl
def rRows : Option Blk → Option (Bool × List Int)
  | some ⟨rw, .ints .i64 none w⟩ => some (rw, w)
  | _ => none
theorem rRows_ok {b : Option Blk} {rw : Bool} {w : List Int} (h : rRows b = some (rw, w)) : b = some ⟨rw, .ints .i64 none w⟩ := by
  unfold rRows at h; split at h <;> cases h; rfl
def rJob : Option Blk → Option (Bool × Nat × Nat × Nat × AV × Nat × Nat)
  | some ⟨rw, .vals [.slice false a0 0 k1 none 1, .slice false a1 0 12 none 1, xa, .slice true a3 0 n4 none 1]⟩ => some (rw, a0, k1, a1, xa, a3, n4)
  | _ => none
theorem rJob_ok {b : Option Blk} {rw : Bool} {a0 k1 a1 a3 n4 : Nat} {xa : AV} (h : rJob b = some (rw, a0, k1, a1, xa, a3, n4)) : b = some ⟨rw, .vals [.slice false a0 0 k1 none 1, .slice false a1 0 12 none 1, xa, .slice true a3 0 n4 none 1]⟩ := by
  unfold rJob at h; split at h <;> cases h; rfl
def oE (L cl : Nat) : Bool → AV
  | true => .slice true L 0 cl none 1
  | false => .nilslice
def cE (L : Nat) : Bool → Nat
  | true => L + 1
  | false => L
def rSo (key txt : Nat) : List AV → Option (Nat × Int × List Bool)
  | [.ptr false k1 0, .slice false n1 0 12 none 1, .slice true t1 0 n none 1, .nilslice, .int false .i64 i] => some (n, i, [decide (k1 = key), decide (n1 = 1), decide (t1 = txt)])
  | _ => none
theorem rSo_ok {key txt : Nat} {a : List AV} {n : Nat} {i : Int} {o : List Bool} (h : rSo key txt a = some (n, i, o)) (ho : Paid o) : a = [.ptr false key 0, .slice false 1 0 12 none 1, .slice true txt 0 n none 1, .nilslice, .int false .i64 i] := by
  unfold rSo at h
  split at h
  · cases h
    have u1 := of_decide_eq_true (ho _ (List.mem_cons_self ..))
    have u2 := of_decide_eq_true (ho _ (List.mem_cons_of_mem _ (List.mem_cons_self ..)))
    have u3 := of_decide_eq_true (ho _ (List.mem_cons_of_mem _ (List.mem_cons_of_mem _ (List.mem_cons_self ..))))
    subst u1 u2 u3; rfl
  · cases h
def mE (o c : List Int) : Bool → Mem
  | true => [some ⟨true, .ints .u8 none o⟩, some ⟨true, .ints .u8 (some 16) c⟩]
  | false => [some ⟨true, .ints .u8 (some 16) c⟩]
def rSl (key txt L : Nat) : List AV → Option (Bool × Nat × Nat × Int × Int × List Bool)
  | [.ptr false k1 0, .slice false n1 0 12 none 1, .slice true t1 0 n none 1, .nilslice, .int true .i64 i, .ptr false c1 0, .int true .i64 j] => some (false, n, 0, i, j, [decide (k1 = key), decide (n1 = 1), decide (t1 = txt), decide (c1 = L)])
  | [.ptr false k1 0, .slice false n1 0 12 none 1, .slice true t1 0 n none 1, .slice true o1 0 cl none 1, .int true .i64 i, .ptr false c1 0, .int true .i64 j] => some (true, n, cl, i, j, [decide (k1 = key), decide (n1 = 1), decide (t1 = txt), decide (c1 = L + 1), decide (o1 = L)])
  | _ => none
theorem rSl_ok {key txt L : Nat} {a : List AV} {e : Bool} {n cl : Nat} {i j : Int} {o : List Bool} (h : rSl key txt L a = some (e, n, cl, i, j, o)) (ho : Paid o) :
    a = [.ptr false key 0, .slice false 1 0 12 none 1, .slice true txt 0 n none 1, oE L cl e, .int true .i64 i, .ptr false (cE L e) 0, .int true .i64 j] := by
  unfold rSl at h
  split at h
  · cases h
    have u1 := of_decide_eq_true (ho _ (List.mem_cons_self ..))
    have u2 := of_decide_eq_true (ho _ (List.mem_cons_of_mem _ (List.mem_cons_self ..)))
    have u3 := of_decide_eq_true (ho _ (List.mem_cons_of_mem _ (List.mem_cons_of_mem _ (List.mem_cons_self ..))))
    have u4 := of_decide_eq_true (ho _ (List.mem_cons_of_mem _ (List.mem_cons_of_mem _ (List.mem_cons_of_mem _ (List.mem_cons_self ..)))))
    subst u1 u2 u3 u4; rfl
  · cases h
    have u1 := of_decide_eq_true (ho _ (List.mem_cons_self ..))
    have u2 := of_decide_eq_true (ho _ (List.mem_cons_of_mem _ (List.mem_cons_self ..)))
    have u3 := of_decide_eq_true (ho _ (List.mem_cons_of_mem _ (List.mem_cons_of_mem _ (List.mem_cons_self ..))))
    have u4 := of_decide_eq_true (ho _ (List.mem_cons_of_mem _ (List.mem_cons_of_mem _ (List.mem_cons_of_mem _ (List.mem_cons_self ..)))))
    have u5 := of_decide_eq_true (ho _ (List.mem_cons_of_mem _ (List.mem_cons_of_mem _ (List.mem_cons_of_mem _ (List.mem_cons_of_mem _ (List.mem_cons_self ..))))))
    subst u1 u2 u3 u4 u5; rfl
  · cases h
def rRest : Bool → Mem → Option (List Int × List Int)
  | false, [some ⟨true, .ints .u8 (some 16) c⟩] => some ([], c)
  | true, [some ⟨true, .ints .u8 none o⟩, some ⟨true, .ints .u8 (some 16) c⟩] => some (o, c)
  | _, _ => none
theorem rRest_ok {e : Bool} {m : Mem} {o c : List Int} (h : rRest e m = some (o, c)) : m = mE o c e := by
  unfold rRest at h; split at h <;> cases h <;> rfl
theorem rRest_nil {e : Bool} {m : Mem} {o c : List Int} (h : rRest e m = some (o, c)) (he : e = false) : o = [] := by
  unfold rRest at h
  split at h
  · cases h; rfl
  · cases he
  · cases h
end Go.Gc
namespace Go.Ev
variable [Tab]
theorem goes_mem {k0 : Nat} {pre m' rest : Mem} (hl : pre.length = k0) (hb : bndM k0 pre = true) (hp : Pulls id (pre ++ m') k0 rest) : Pulls id (pre ++ m') 0 (pre ++ rest) := by
  have := pulls_pre (g := id) (fun i _ => rfl) (m' := m') (rest := rest) pre [] (by simp; omega) hb (by simpa [hl] using hp)
  simpa using this
theorem goes_bnd {k0 : Nat} {pre rest : Mem} (hl : pre.length = k0) (hb : bndM k0 pre = true) (hr : bndM (k0 + rest.length) rest = true) : bndM (pre ++ rest).length (pre ++ rest) = true := by
  rw [List.length_append, hl, bndM_append, bndM_le (by omega) hb, hr]; rfl
end Go.Ev
namespace Go.Proofs.Ytpbemjifhampcaa
open Go.Ev Go.Sh Go.As Go.Gc
set_option maxRecDepth 100000
def hT0 : CallH := withV 17 rnewS (withT 41 rblkS (withC 11 gsS (withV 12 newS hoN)))
theorem hT0_ok : HOk Try.prog hT0 := (((hoN_ok.withV fun _ _ _ _ h _ => new_ok h).withC fun _ _ _ h _ => gsound_ok h).withT fun _ _ _ _ _ _ h ho => rblk_ok h ho).withV fun _ _ _ _ h _ => rnew_ok h
def inTs : List Nat := [0, 1, 2, 7, 8, 9, 10]
def tuTs : List Nat := [0, 1, 2, 7, 8]

structure TuS where
  k : List Int
  x : TX
  W : List Int
  sb : List Int
  r : Bool
  l : List Int
  n : Nat
  nb : Nat
  p : List Int
  w : List Int
  e : Bool
  o : List Int
  c : List Int
  i : Int
  j : Int
def preS (s : TuS) : Mem := [some ⟨false, .ints .u8 (some (kbN s.r)) s.k⟩, some ⟨false, .ints .u8 (some 12) s.l⟩, s.x.B, some ⟨false, .ints .u8 (some s.nb) s.p⟩, some ⟨false, .vals [.slice false 0 0 (kbN s.r) none 1, .slice false 1 0 12 none 1, s.x.A 2, .slice true 3 0 s.nb none 1]⟩, some ⟨false, .wide [.int false .i64 (krN s.r), .ints .u8 240 s.W]⟩, some ⟨false, .ints .u8 none s.sb⟩, some ⟨false, .wide [.slice true 8 0 (kwN s.r) none 4, .ints .i64 256 sboxL, .int false .i64 (kNr s.r)]⟩, some ⟨false, .ints .i64 none s.w⟩]
theorem preS_len (s : TuS) : (preS s).length = 9 := rfl
def bndS (s : TuS) : Bool := bndM 9 (preS s)
def outS (s : TuS) : AV := match s.e with | true => .slice true 9 0 s.o.length none 1 | false => .nilslice
def inVS (s : TuS) : List AV := [.ptr false 7 0, .slice false 1 0 12 none 1, .slice true 3 0 s.n none 1, outS s, .int true .i64 s.i, .ptr false (match s.e with | true => 10 | false => 9) 0, .int true .i64 s.j]
def inMS (s : TuS) : Mem := preS s ++ (match s.e with | true => [some ⟨true, .ints .u8 none s.o⟩, some ⟨true, .ints .u8 (some 16) s.c⟩] | false => [some ⟨true, .ints .u8 (some 16) s.c⟩])
def tuVS (s : TuS) : List AV := [.ptr false 7 0, .slice false 1 0 12 none 1, .slice true 3 0 s.n none 1, outS s, .int true .i64 s.i]
def tuMS (s : TuS) : Mem := preS s ++ (match s.e with | true => [some ⟨true, .ints .u8 none s.o⟩] | false => [])
def inPS (a : List AV) (m : Mem) : Option (TuS × List Bool) :=
  match m with
  | b0 :: b1 :: b2 :: b3 :: b4 :: b5 :: b6 :: b7 :: b8 :: rest => (rI b0).bind fun y0 => (rI b1).bind fun y1 => (rI b3).bind fun y3 => (rJob b4).bind fun y4 => (rKey b5).bind fun y5 => (rI b6).bind fun y6 => (rRk b7).bind fun y7 => (rRows b8).bind fun y8 => (rSl 7 3 9 a).bind fun sl => (rRest sl.1 rest).bind fun tl => (pTX 2 y4.2.2.2.2.1 b2).bind fun xx =>
    some ((⟨y0.2.2, xx.1, y5.2.2, y6.2.2, Nat.beq y7.2.2.1 60, y1.2.2, sl.2.1, y3.2.1.getD 0, y3.2.2, y8.2, sl.1, tl.1, tl.2, sl.2.2.2.1, sl.2.2.2.2.1⟩ : TuS), [decide (sl.2.2.1 = tl.1.length)] ++ [decide (y7.2.2.1 = kwN (Nat.beq y7.2.2.1 60)), decide (y7.2.2.2.2 = kNr (Nat.beq y7.2.2.1 60)), decide (y7.2.2.2.1 = sboxL), decide (y7.2.1 = 8), decide (y7.1 = false), decide (y8.1 = false), decide (y0.1 = false), decide (y0.2.1 = some (kbN (Nat.beq y7.2.2.1 60))), decide (y1.1 = false), decide (y1.2.1 = some 12), decide (y3.1 = false), decide (y3.2.1 = some (y3.2.1.getD 0)), decide (y4.1 = false), decide (y4.2.1 = 0), decide (y4.2.2.1 = kbN (Nat.beq y7.2.2.1 60)), decide (y4.2.2.2.1 = 1), decide (y4.2.2.2.2.2.1 = 3), decide (y4.2.2.2.2.2.2 = y3.2.1.getD 0), decide (y5.1 = false), decide (y5.2.1 = krN (Nat.beq y7.2.2.1 60)), decide (y6.1 = false), decide (y6.2.1 = none)] ++ sl.2.2.2.2.2 ++ xx.2)
  | _ => none
def inOS (q : TuS × List Bool) : List Bool := [bndS q.1, decide (q.1.j = q.1.i), decide (0 ≤ q.1.i), decide (q.1.i < (q.1.n : Int)), decide (q.1.n < 1000000000), decide (q.1.n ≤ q.1.nb), decide ((q.1.o.length : Int) = q.1.i)] ++ q.2
def inES (s : TuS) : TuS := { s with e := true, o := s.o ++ cvP s.p s.c s.i.toNat (eT s.n s.i) }
def inFS (q : TuS × List Bool) : List (Nat × AV) × Mem := (zipU [0, 1, 2, 7, 8] (tuVS (inES q.1)), inMS (inES q.1))
def inΛS (Λ : LoopH) : LoopH := famH 2 48 inTs inPS inOS inFS Λ
def inDS (s : TuS) : List Bool := [decide (s.n < 9223372036854775808), decide (s.j < hiT s.n s.i), decide (0 ≤ s.j) && decide (s.j < (s.n : Int)), decide (0 + s.j.toNat * 1 + 1 ≤ s.nb), decide (0 ≤ IntKind.i64.wrap (s.j - s.i)) && decide (IntKind.i64.wrap (s.j - s.i) < ((16 : Nat) : Int)), decide (0 + (IntKind.i64.wrap (s.j - s.i)).toNat * 1 + 1 ≤ 16)]
def inXSv (s : TuS) : Int := ixor .u8 (s.p.getD (0 + s.j.toNat * 1) 0) (s.c.getD (0 + (IntKind.i64.wrap (s.j - s.i)).toNat * 1) 0)
theorem inS_t0 (s : TuS) (hs : s.e = false) : seesL inTs ((codeL Try.prog qP (deep Try.prog qP hT0 100 3) (fun _ _ => none) 100 (lp (blk 2 (bodyOf Try.prog 19))) ⟨tmOf (ups (fun _ => .top) (zipU inTs (inVS s))) 48, inMS s⟩).go [true]) = some (inDS s, 0, [.ptr false 7 0, .slice false 1 0 12 none 1, .slice true 3 0 s.n none 1, .slice false 11 0 1 none 1, .int true .i64 s.i, .ptr false 9 0, .int true .i64 (IntKind.i64.wrap (s.j + 1))], 48,
    preS s ++ [some ⟨true, .ints .u8 (some 16) s.c⟩, some ⟨true, .vals [.int true .u8 (inXSv s)]⟩, some ⟨true, .ints .u8 (some 1) [inXSv s]⟩]) := by
  obtain ⟨k, x, W, sb, r, l, n, nb, p, w, e, o, c, i, j⟩ := s
  simp only at hs
  subst hs
  cases r <;> cases x <;> kernel_rfl
theorem inS_t1 (s : TuS) (hs : s.e = true) : seesL inTs ((codeL Try.prog qP (deep Try.prog qP hT0 100 3) (fun _ _ => none) 100 (lp (blk 2 (bodyOf Try.prog 19))) ⟨tmOf (ups (fun _ => .top) (zipU inTs (inVS s))) 48, inMS s⟩).go [true]) = some (inDS s ++ [decide (0 + s.o.length ≤ s.o.length), decide (s.o.length + 1 ≤ 1000000000)], 0, [.ptr false 7 0, .slice false 1 0 12 none 1, .slice true 3 0 s.n none 1, .slice true 12 0 (s.o.length + 1) none 1, .int true .i64 s.i, .ptr false 10 0, .int true .i64 (IntKind.i64.wrap (s.j + 1))], 48,
    preS s ++ [none, some ⟨true, .ints .u8 (some 16) s.c⟩, some ⟨true, .vals [.int true .u8 (inXSv s)]⟩, some ⟨true, .ints .u8 none ((s.o.drop 0).take s.o.length ++ [inXSv s])⟩]) := by
  obtain ⟨k, x, W, sb, r, l, n, nb, p, w, e, o, c, i, j⟩ := s
  simp only at hs
  subst hs
  cases r <;> cases x <;> kernel_rfl
theorem inS_f (s : TuS) (hs : s.e = true) : seesL inTs ((codeL Try.prog qP (deep Try.prog qP hT0 100 3) (fun _ _ => none) 100 (lp (blk 2 (bodyOf Try.prog 19))) ⟨tmOf (ups (fun _ => .top) (zipU inTs (inVS s))) 48, inMS s⟩).go [false]) = some ([decide (s.n < 9223372036854775808), !decide (s.j < hiT s.n s.i)], 4, inVS s, 48, inMS s) := by
  obtain ⟨k, x, W, sb, r, l, n, nb, p, w, e, o, c, i, j⟩ := s
  simp only at hs
  subst hs
  cases r <;> cases x <;> kernel_rfl
structure InJS (q s : TuS) (a t : Nat) : Prop where
  hb : bndS q = true
  hi : q.i = (a : Int)
  ha : a < q.n
  hn : q.n < 1000000000
  hnb : q.n ≤ q.nb
  ho : q.o.length = a
  ht : t ≤ eT q.n q.i
  same : s = { q with e := s.e, o := q.o ++ cvP q.p q.c a t, j := ((a + t : Nat) : Int) }
  e0 : t = 0 → s.e = q.e
  e1 : 0 < t → s.e = true
  e2 : q.e = false → q.o = []
set_option maxHeartbeats 2000000 in
theorem inS_lok {Λ : LoopH} (hΛ : LOkN 9 Try.prog (bodyOf Try.prog 19) Λ) : LOkN 9 Try.prog (bodyOf Try.prog 19) (inΛS Λ) := by
  show LOkN 9 _ _ (famH 2 48 inTs inPS inOS inFS Λ)
  refine famR_ok (q := qP) (H := deep Try.prog qP hT0 100 3) (Λ0 := fun _ _ => none) (n := 100) (fun q : TuS × List Bool => inVS q.1) (fun q => inMS q.1) (fun q s => ∃ a t, InJS q.1 s.1 a t) (fun s => (hiT s.1.n s.1.i - s.1.j).toNat) mixed (hT0_ok.deep mixed noCount 100 3) hΛ LOkN.none (by kernel_rfl) (by kernel_rfl) (fun avs m q h ho => ?_) (fun q s hJ => ?_)
  · unfold inPS at h
    split at h
    case h_2 => cases h
    simp only [Option.bind_eq_some_iff, Option.some.injEq] at h
    obtain ⟨y0, e0, y1, e1, y3, e3, y4, e4, y5, e5, y6, e6, y7, e7, y8, e8, sl, esl, tl, etl, xx, exx, rfl⟩ := h
    obtain ⟨ho, ho2⟩ := paid_append.1 ho
    obtain ⟨ho2, hox⟩ := paid_append.1 ho2
    obtain ⟨ho2, hos⟩ := paid_append.1 ho2
    obtain ⟨hoc, hod⟩ := paid_append.1 ho2
    obtain ⟨x, ox⟩ := xx
    obtain ⟨hxa, hxb⟩ := pTX_ok exx hox
    obtain ⟨se, sn, scl, si, sj, so⟩ := sl
    have hsl := rSl_ok esl hos
    obtain ⟨to, tc⟩ := tl
    have htl := rRest_ok etl
    obtain ⟨y0a, y0b, y0c⟩ := y0
    have f0 := rI_ok e0
    obtain ⟨y1a, y1b, y1c⟩ := y1
    have f1 := rI_ok e1
    obtain ⟨y3a, y3b, y3c⟩ := y3
    have f3 := rI_ok e3
    obtain ⟨y4a, y4b, y4c, y4d, y4e, y4f, y4g⟩ := y4
    have f4 := rJob_ok e4
    obtain ⟨y5a, y5b, y5c⟩ := y5
    have f5 := rKey_ok e5
    obtain ⟨y6a, y6b, y6c⟩ := y6
    have f6 := rI_ok e6
    obtain ⟨y7a, y7b, y7c, y7d, y7e⟩ := y7
    have f7 := rRk_ok e7
    obtain ⟨y8a, y8b⟩ := y8
    have f8 := rRows_ok e8
    have c1 := of_decide_eq_true (hoc _ (List.mem_cons_self ..))
    have d0 := of_decide_eq_true (hod _ (List.mem_cons_self ..))
    have d1 := of_decide_eq_true (hod _ (List.mem_cons_of_mem _ (List.mem_cons_self ..)))
    have d2 := of_decide_eq_true (hod _ (List.mem_cons_of_mem _ (List.mem_cons_of_mem _ (List.mem_cons_self ..))))
    have d3 := of_decide_eq_true (hod _ (List.mem_cons_of_mem _ (List.mem_cons_of_mem _ (List.mem_cons_of_mem _ (List.mem_cons_self ..)))))
    have d4 := of_decide_eq_true (hod _ (List.mem_cons_of_mem _ (List.mem_cons_of_mem _ (List.mem_cons_of_mem _ (List.mem_cons_of_mem _ (List.mem_cons_self ..))))))
    have d5 := of_decide_eq_true (hod _ (List.mem_cons_of_mem _ (List.mem_cons_of_mem _ (List.mem_cons_of_mem _ (List.mem_cons_of_mem _ (List.mem_cons_of_mem _ (List.mem_cons_self ..)))))))
    have d6 := of_decide_eq_true (hod _ (List.mem_cons_of_mem _ (List.mem_cons_of_mem _ (List.mem_cons_of_mem _ (List.mem_cons_of_mem _ (List.mem_cons_of_mem _ (List.mem_cons_of_mem _ (List.mem_cons_self ..))))))))
    have d7 := of_decide_eq_true (hod _ (List.mem_cons_of_mem _ (List.mem_cons_of_mem _ (List.mem_cons_of_mem _ (List.mem_cons_of_mem _ (List.mem_cons_of_mem _ (List.mem_cons_of_mem _ (List.mem_cons_of_mem _ (List.mem_cons_self ..)))))))))
    have d8 := of_decide_eq_true (hod _ (List.mem_cons_of_mem _ (List.mem_cons_of_mem _ (List.mem_cons_of_mem _ (List.mem_cons_of_mem _ (List.mem_cons_of_mem _ (List.mem_cons_of_mem _ (List.mem_cons_of_mem _ (List.mem_cons_of_mem _ (List.mem_cons_self ..))))))))))
    have d9 := of_decide_eq_true (hod _ (List.mem_cons_of_mem _ (List.mem_cons_of_mem _ (List.mem_cons_of_mem _ (List.mem_cons_of_mem _ (List.mem_cons_of_mem _ (List.mem_cons_of_mem _ (List.mem_cons_of_mem _ (List.mem_cons_of_mem _ (List.mem_cons_of_mem _ (List.mem_cons_self ..)))))))))))
    have d10 := of_decide_eq_true (hod _ (List.mem_cons_of_mem _ (List.mem_cons_of_mem _ (List.mem_cons_of_mem _ (List.mem_cons_of_mem _ (List.mem_cons_of_mem _ (List.mem_cons_of_mem _ (List.mem_cons_of_mem _ (List.mem_cons_of_mem _ (List.mem_cons_of_mem _ (List.mem_cons_of_mem _ (List.mem_cons_self ..))))))))))))
    have d11 := of_decide_eq_true (hod _ (List.mem_cons_of_mem _ (List.mem_cons_of_mem _ (List.mem_cons_of_mem _ (List.mem_cons_of_mem _ (List.mem_cons_of_mem _ (List.mem_cons_of_mem _ (List.mem_cons_of_mem _ (List.mem_cons_of_mem _ (List.mem_cons_of_mem _ (List.mem_cons_of_mem _ (List.mem_cons_of_mem _ (List.mem_cons_self ..)))))))))))))
    have d12 := of_decide_eq_true (hod _ (List.mem_cons_of_mem _ (List.mem_cons_of_mem _ (List.mem_cons_of_mem _ (List.mem_cons_of_mem _ (List.mem_cons_of_mem _ (List.mem_cons_of_mem _ (List.mem_cons_of_mem _ (List.mem_cons_of_mem _ (List.mem_cons_of_mem _ (List.mem_cons_of_mem _ (List.mem_cons_of_mem _ (List.mem_cons_of_mem _ (List.mem_cons_self ..))))))))))))))
    have d13 := of_decide_eq_true (hod _ (List.mem_cons_of_mem _ (List.mem_cons_of_mem _ (List.mem_cons_of_mem _ (List.mem_cons_of_mem _ (List.mem_cons_of_mem _ (List.mem_cons_of_mem _ (List.mem_cons_of_mem _ (List.mem_cons_of_mem _ (List.mem_cons_of_mem _ (List.mem_cons_of_mem _ (List.mem_cons_of_mem _ (List.mem_cons_of_mem _ (List.mem_cons_of_mem _ (List.mem_cons_self ..)))))))))))))))
    have d14 := of_decide_eq_true (hod _ (List.mem_cons_of_mem _ (List.mem_cons_of_mem _ (List.mem_cons_of_mem _ (List.mem_cons_of_mem _ (List.mem_cons_of_mem _ (List.mem_cons_of_mem _ (List.mem_cons_of_mem _ (List.mem_cons_of_mem _ (List.mem_cons_of_mem _ (List.mem_cons_of_mem _ (List.mem_cons_of_mem _ (List.mem_cons_of_mem _ (List.mem_cons_of_mem _ (List.mem_cons_of_mem _ (List.mem_cons_self ..))))))))))))))))
    have d15 := of_decide_eq_true (hod _ (List.mem_cons_of_mem _ (List.mem_cons_of_mem _ (List.mem_cons_of_mem _ (List.mem_cons_of_mem _ (List.mem_cons_of_mem _ (List.mem_cons_of_mem _ (List.mem_cons_of_mem _ (List.mem_cons_of_mem _ (List.mem_cons_of_mem _ (List.mem_cons_of_mem _ (List.mem_cons_of_mem _ (List.mem_cons_of_mem _ (List.mem_cons_of_mem _ (List.mem_cons_of_mem _ (List.mem_cons_of_mem _ (List.mem_cons_self ..)))))))))))))))))
    have d16 := of_decide_eq_true (hod _ (List.mem_cons_of_mem _ (List.mem_cons_of_mem _ (List.mem_cons_of_mem _ (List.mem_cons_of_mem _ (List.mem_cons_of_mem _ (List.mem_cons_of_mem _ (List.mem_cons_of_mem _ (List.mem_cons_of_mem _ (List.mem_cons_of_mem _ (List.mem_cons_of_mem _ (List.mem_cons_of_mem _ (List.mem_cons_of_mem _ (List.mem_cons_of_mem _ (List.mem_cons_of_mem _ (List.mem_cons_of_mem _ (List.mem_cons_of_mem _ (List.mem_cons_self ..))))))))))))))))))
    have d17 := of_decide_eq_true (hod _ (List.mem_cons_of_mem _ (List.mem_cons_of_mem _ (List.mem_cons_of_mem _ (List.mem_cons_of_mem _ (List.mem_cons_of_mem _ (List.mem_cons_of_mem _ (List.mem_cons_of_mem _ (List.mem_cons_of_mem _ (List.mem_cons_of_mem _ (List.mem_cons_of_mem _ (List.mem_cons_of_mem _ (List.mem_cons_of_mem _ (List.mem_cons_of_mem _ (List.mem_cons_of_mem _ (List.mem_cons_of_mem _ (List.mem_cons_of_mem _ (List.mem_cons_of_mem _ (List.mem_cons_self ..)))))))))))))))))))
    have d18 := of_decide_eq_true (hod _ (List.mem_cons_of_mem _ (List.mem_cons_of_mem _ (List.mem_cons_of_mem _ (List.mem_cons_of_mem _ (List.mem_cons_of_mem _ (List.mem_cons_of_mem _ (List.mem_cons_of_mem _ (List.mem_cons_of_mem _ (List.mem_cons_of_mem _ (List.mem_cons_of_mem _ (List.mem_cons_of_mem _ (List.mem_cons_of_mem _ (List.mem_cons_of_mem _ (List.mem_cons_of_mem _ (List.mem_cons_of_mem _ (List.mem_cons_of_mem _ (List.mem_cons_of_mem _ (List.mem_cons_of_mem _ (List.mem_cons_self ..))))))))))))))))))))
    have d19 := of_decide_eq_true (hod _ (List.mem_cons_of_mem _ (List.mem_cons_of_mem _ (List.mem_cons_of_mem _ (List.mem_cons_of_mem _ (List.mem_cons_of_mem _ (List.mem_cons_of_mem _ (List.mem_cons_of_mem _ (List.mem_cons_of_mem _ (List.mem_cons_of_mem _ (List.mem_cons_of_mem _ (List.mem_cons_of_mem _ (List.mem_cons_of_mem _ (List.mem_cons_of_mem _ (List.mem_cons_of_mem _ (List.mem_cons_of_mem _ (List.mem_cons_of_mem _ (List.mem_cons_of_mem _ (List.mem_cons_of_mem _ (List.mem_cons_of_mem _ (List.mem_cons_self ..)))))))))))))))))))))
    have d20 := of_decide_eq_true (hod _ (List.mem_cons_of_mem _ (List.mem_cons_of_mem _ (List.mem_cons_of_mem _ (List.mem_cons_of_mem _ (List.mem_cons_of_mem _ (List.mem_cons_of_mem _ (List.mem_cons_of_mem _ (List.mem_cons_of_mem _ (List.mem_cons_of_mem _ (List.mem_cons_of_mem _ (List.mem_cons_of_mem _ (List.mem_cons_of_mem _ (List.mem_cons_of_mem _ (List.mem_cons_of_mem _ (List.mem_cons_of_mem _ (List.mem_cons_of_mem _ (List.mem_cons_of_mem _ (List.mem_cons_of_mem _ (List.mem_cons_of_mem _ (List.mem_cons_of_mem _ (List.mem_cons_self ..))))))))))))))))))))))
    have d21 := of_decide_eq_true (hod _ (List.mem_cons_of_mem _ (List.mem_cons_of_mem _ (List.mem_cons_of_mem _ (List.mem_cons_of_mem _ (List.mem_cons_of_mem _ (List.mem_cons_of_mem _ (List.mem_cons_of_mem _ (List.mem_cons_of_mem _ (List.mem_cons_of_mem _ (List.mem_cons_of_mem _ (List.mem_cons_of_mem _ (List.mem_cons_of_mem _ (List.mem_cons_of_mem _ (List.mem_cons_of_mem _ (List.mem_cons_of_mem _ (List.mem_cons_of_mem _ (List.mem_cons_of_mem _ (List.mem_cons_of_mem _ (List.mem_cons_of_mem _ (List.mem_cons_of_mem _ (List.mem_cons_of_mem _ (List.mem_cons_self ..)))))))))))))))))))))))
    have o0 := ho _ (List.mem_cons_self ..)
    have o1 := of_decide_eq_true (ho _ (List.mem_cons_of_mem _ (List.mem_cons_self ..)))
    have o2 := of_decide_eq_true (ho _ (List.mem_cons_of_mem _ (List.mem_cons_of_mem _ (List.mem_cons_self ..))))
    have o3 := of_decide_eq_true (ho _ (List.mem_cons_of_mem _ (List.mem_cons_of_mem _ (List.mem_cons_of_mem _ (List.mem_cons_self ..)))))
    have o4 := of_decide_eq_true (ho _ (List.mem_cons_of_mem _ (List.mem_cons_of_mem _ (List.mem_cons_of_mem _ (List.mem_cons_of_mem _ (List.mem_cons_self ..))))))
    have o5 := of_decide_eq_true (ho _ (List.mem_cons_of_mem _ (List.mem_cons_of_mem _ (List.mem_cons_of_mem _ (List.mem_cons_of_mem _ (List.mem_cons_of_mem _ (List.mem_cons_self ..)))))))
    have o6 := of_decide_eq_true (ho _ (List.mem_cons_of_mem _ (List.mem_cons_of_mem _ (List.mem_cons_of_mem _ (List.mem_cons_of_mem _ (List.mem_cons_of_mem _ (List.mem_cons_of_mem _ (List.mem_cons_self ..))))))))
    simp only at o0 o1 o2 o3 o4 o5 o6 c1 hsl htl hxa hxb d0 d1 d2 d3 d4 d5 d6 d7 d8 d9 d10 d11 d12 d13 d14 d15 d16 d17 d18 d19 d20 d21 f0 f1 f3 f4 f5 f6 f7 f8
    subst o1 c1
    obtain ⟨nb, hnb⟩ : ∃ nb, y3b = some nb := ⟨_, d11⟩
    subst hnb
    generalize Nat.beq y7c 60 = r at *
    simp only [Option.getD_some] at *
    subst d0 d1 d2 d3 d4 d5 d6 d7 d8 d9 d10 d12 d13 d14 d15 d16 d17 d18 d19 d20 d21
    subst hxa hxb f0 f1 f3 f4 f5 f6 f7 f8
    refine ⟨(⟨y0c, x, y5c, y6c, r, y1c, sn, y4g, y3c, y8b, se, to, tc, sj, sj⟩, []), id, ?_, _, 0, ⟨o0, (Int.toNat_of_nonneg o2).symm, by simp only; omega, o4, o5, by simp only at o6 ⊢; omega, Nat.zero_le _, by simp only [Nat.add_zero, Int.toNat_of_nonneg o2, cvP, List.range_zero, List.map_nil, List.append_nil], fun _ => rfl, fun h => by omega, fun h => by simp only at h; exact rRest_nil etl h⟩⟩
    rw [hsl, htl]
    cases se with
    | true => exact goes_pre (g := id) (vals := [.ptr false 7 0, .slice false 1 0 12 none 1, .slice true 3 0 sn none 1, .slice true 9 0 to.length none 1, .int true .i64 sj, .ptr false 10 0, .int true .i64 sj]) (m' := [some ⟨true, .ints .u8 none to⟩, some ⟨true, .ints .u8 (some 16) tc⟩]) (rest := [some ⟨true, .ints .u8 none to⟩, some ⟨true, .ints .u8 (some 16) tc⟩]) (.cons (.refl _) (.cons (.refl _) (.cons (.refl _) (.cons (.refl _) (.cons (.refl _) (.cons (.refl _) (.cons (.refl _) .nil))))))) (preS_len _) o0 ⟨⟨_, rfl, .refl _⟩, ⟨_, rfl, .refl _⟩, trivial⟩ rfl rfl rfl rfl
    | false => exact goes_pre (g := id) (vals := [.ptr false 7 0, .slice false 1 0 12 none 1, .slice true 3 0 sn none 1, .nilslice, .int true .i64 sj, .ptr false 9 0, .int true .i64 sj]) (m' := [some ⟨true, .ints .u8 (some 16) tc⟩]) (rest := [some ⟨true, .ints .u8 (some 16) tc⟩]) (.cons (.refl _) (.cons (.refl _) (.cons (.refl _) (.cons (.refl _) (.cons (.refl _) (.cons (.refl _) (.cons (.refl _) .nil))))))) (preS_len _) o0 ⟨⟨_, rfl, .refl _⟩, trivial⟩ rfl rfl rfl rfl
  · obtain ⟨a, t, hb, hi, ha, hn, hnb, hol, ht, same, e0, e1, e2⟩ := hJ
    obtain ⟨q, bq⟩ := q
    obtain ⟨s, bs⟩ := s
    obtain ⟨k, x, W, sb, r, l, n, nb, p, w, e, o, c, i, j⟩ := q
    simp only at hb hi ha hn hnb hol ht same e0 e1 e2
    obtain ⟨se, hse⟩ : ∃ x, s.e = x := ⟨_, rfl⟩
    rw [hse] at same e0 e1
    subst same hi
    have hE := eT_of n a hn ha
    have hH := hiT_of n a hn ha
    by_cases hend : t = eT n (a : Int)
    · have hse1 : se = true := e1 (by omega)
      subst hse1
      refine RoundR.out (inS_f _ rfl) rfl id (paid_cons (decide_eq_true (by simp only; omega)) (paid_cons (by simp only [hH, Bool.not_eq_true', decide_eq_false_iff_not]; omega) Paid.nil)) ?_
      have fe : inES (⟨k, x, W, sb, r, l, n, nb, p, w, e, o, c, (a : Int), j⟩ : TuS) = { (⟨k, x, W, sb, r, l, n, nb, p, w, e, o, c, (a : Int), j⟩ : TuS) with e := true, o := o ++ cvP p c a t } := by
        unfold inES
        simp only [hend, Int.toNat_natCast]
      show Goes 9 id inTs _ _ (zipU [0, 1, 2, 7, 8] (tuVS (inES (⟨k, x, W, sb, r, l, n, nb, p, w, e, o, c, (a : Int), j⟩ : TuS)))) (inMS (inES (⟨k, x, W, sb, r, l, n, nb, p, w, e, o, c, (a : Int), j⟩ : TuS)))
      rw [fe]
      exact ⟨fun p hp => by
        simp only [tuVS, zipU, List.mem_cons, List.not_mem_nil, or_false] at hp
        rcases hp with rfl | rfl | rfl | rfl | rfl
        · exact ⟨.ptr false 7 0, by simp [inTs, inVS, zipU], .refl _⟩
        · exact ⟨.slice false 1 0 12 none 1, by simp [inTs, inVS, zipU], .refl _⟩
        · exact ⟨.slice true 3 0 n none 1, by simp [inTs, inVS, zipU], .refl _⟩
        · exact ⟨.slice true 9 0 (o ++ cvP p c a t).length none 1, by simp [inTs, inVS, zipU, outS], .refl _⟩
        · exact ⟨.int true .i64 (a : Int), by simp [inTs, inVS, zipU], .refl _⟩, goes_mem (preS_len _) hb ⟨⟨_, rfl, .refl _⟩, ⟨_, rfl, .refl _⟩, trivial⟩, rfl, rfl, Nat.le_of_ble_eq_true rfl, goes_bnd (preS_len _) hb rfl, rfl⟩
    · have hw : IntKind.i64.wrap (((a + t : Nat) : Int) + 1) = ((a + (t + 1) : Nat) : Int) := by unfold IntKind.wrap; simp [IntKind.bits, IntKind.signed]; omega
      have hs2 : IntKind.i64.wrap (((a + t : Nat) : Int) - (a : Int)) = (t : Int) := by unfold IntKind.wrap; simp [IntKind.bits, IntKind.signed]; omega
      have hD : ∀ e', Paid (inDS (⟨k, x, W, sb, r, l, n, nb, p, w, e', (o ++ cvP p c a t), c, (a : Int), ((a + t : Nat) : Int)⟩ : TuS)) := fun e' => by
        unfold inDS
        simp only [hs2, hH]
        exact paid_cons (decide_eq_true (by omega)) (paid_cons (decide_eq_true (by omega)) (paid_cons (by rw [decide_eq_true (by omega), decide_eq_true (by omega)]; rfl) (paid_cons (decide_eq_true (by omega)) (paid_cons (by rw [decide_eq_true (by omega), decide_eq_true (by omega)]; rfl) (paid_cons (decide_eq_true (by omega)) Paid.nil)))))
      have hX : ∀ e', inXSv (⟨k, x, W, sb, r, l, n, nb, p, w, e', (o ++ cvP p c a t), c, (a : Int), ((a + t : Nat) : Int)⟩ : TuS) = ixor .u8 (p.getD (a + t) 0) (c.getD t 0) := fun e' => by
        unfold inXSv
        simp only [hs2]
        rw [show 0 + ((a + t : Nat) : Int).toNat * 1 = a + t by omega, show 0 + ((t : Nat) : Int).toNat * 1 = t by omega]
      have hL : cvP p c a (t + 1) = cvP p c a t ++ [ixor .u8 (p.getD (a + t) 0) (c.getD t 0)] := cvP_succ p c a t
      cases se with
      | false =>
        have ht0 : t = 0 := by
          by_cases h : t = 0
          · exact h
          · have := e1 (by omega); cases this
        subst ht0
        have he := (e0 rfl).symm
        subst he
        obtain rfl := e2 rfl
        refine RoundR.on (inS_t0 _ rfl) (⟨k, x, W, sb, r, l, n, nb, p, w, true, [] ++ cvP p c a (0 + 1), c, (a : Int), ((a + (0 + 1) : Nat) : Int)⟩, bs) (fun n => [0, 1, 2, 3, 4, 5, 6, 7, 8, 11, 9].getD n 0) (hD false) ?_ ⟨a, 1, hb, rfl, ha, hn, hnb, hol, by simp only; omega, rfl, fun h => by omega, fun _ => rfl, e2⟩ (by simp only [hH]; omega)
        rw [hX]
        simp only [hL]
        exact goes_pre (.cons (.refl _) (.cons (.refl _) (.cons (.refl _) (.cons (.slice _ _ _ _ _ _ _ _ (Or.inl rfl)) (.cons (.refl _) (.cons (.refl _) (.cons (by simp only [hw]; exact .refl _) .nil))))))) (preS_len _) hb ⟨⟨_, rfl, .free _ _ _⟩, ⟨_, rfl, .refl _⟩, trivial⟩ rfl rfl rfl rfl
      | true =>
        have hlen : (o ++ cvP p c a t).length = a + t := by rw [List.length_append, hol]; simp [cvP]
        refine RoundR.on (inS_t1 _ rfl) (⟨k, x, W, sb, r, l, n, nb, p, w, true, o ++ cvP p c a (t + 1), c, (a : Int), ((a + (t + 1) : Nat) : Int)⟩, bs) (fun n => [0, 1, 2, 3, 4, 5, 6, 7, 8, 12, 10].getD n 0) (paid_append.2 ⟨hD true, paid_cons (decide_eq_true (by simp only; omega)) (paid_cons (decide_eq_true (by simp only [hlen]; omega)) Paid.nil)⟩) ?_ ⟨a, t + 1, hb, rfl, ha, hn, hnb, hol, by simp only; omega, rfl, fun h => by omega, fun _ => rfl, e2⟩ (by simp only [hH]; omega)
        rw [hX]
        have hll : (o ++ cvP p c a t).length + 1 = (o ++ cvP p c a (t + 1)).length := by rw [hL]; simp [Nat.add_assoc]
        have hcc : ((o ++ cvP p c a t).drop 0).take (o ++ cvP p c a t).length ++ [ixor .u8 (p.getD (a + t) 0) (c.getD t 0)] = o ++ cvP p c a (t + 1) := by rw [List.drop_zero, List.take_of_length_le (Nat.le_refl _), hL, List.append_assoc]
        simp only [hll, hcc]
        exact goes_pre (.cons (.refl _) (.cons (.refl _) (.cons (.refl _) (.cons (.refl _) (.cons (.refl _) (.cons (.refl _) (.cons (by simp only [hw]; exact .refl _) .nil))))))) (preS_len _) hb ⟨⟨_, rfl, .refl _⟩, ⟨_, rfl, .refl _⟩, trivial⟩ rfl rfl rfl rfl

def tuPS (a : List AV) (m : Mem) : Option (TuS × List Bool) :=
  match m with
  | b0 :: b1 :: b2 :: b3 :: b4 :: b5 :: b6 :: b7 :: b8 :: [] => (rI b0).bind fun y0 => (rI b1).bind fun y1 => (rI b3).bind fun y3 => (rJob b4).bind fun y4 => (rKey b5).bind fun y5 => (rI b6).bind fun y6 => (rRk b7).bind fun y7 => (rRows b8).bind fun y8 => (rSo 7 3 a).bind fun sl => (pTX 2 y4.2.2.2.2.1 b2).bind fun xx =>
    some ((⟨y0.2.2, xx.1, y5.2.2, y6.2.2, Nat.beq y7.2.2.1 60, y1.2.2, sl.1, y3.2.1.getD 0, y3.2.2, y8.2, false, [], [], sl.2.1, 0⟩ : TuS), [decide (sl.2.1 = 0)] ++ [decide (y7.2.2.1 = kwN (Nat.beq y7.2.2.1 60)), decide (y7.2.2.2.2 = kNr (Nat.beq y7.2.2.1 60)), decide (y7.2.2.2.1 = sboxL), decide (y7.2.1 = 8), decide (y7.1 = false), decide (y8.1 = false), decide (y0.1 = false), decide (y0.2.1 = some (kbN (Nat.beq y7.2.2.1 60))), decide (y1.1 = false), decide (y1.2.1 = some 12), decide (y3.1 = false), decide (y3.2.1 = some (y3.2.1.getD 0)), decide (y4.1 = false), decide (y4.2.1 = 0), decide (y4.2.2.1 = kbN (Nat.beq y7.2.2.1 60)), decide (y4.2.2.2.1 = 1), decide (y4.2.2.2.2.2.1 = 3), decide (y4.2.2.2.2.2.2 = y3.2.1.getD 0), decide (y5.1 = false), decide (y5.2.1 = krN (Nat.beq y7.2.2.1 60)), decide (y6.1 = false), decide (y6.2.1 = none)] ++ sl.2.2 ++ xx.2)
  | _ => none
def tuOS (q : TuS × List Bool) : List Bool := [bndS q.1, decide (1 ≤ q.1.n), decide (q.1.n < 1000000000), decide (q.1.n ≤ q.1.nb), decide (q.1.w.length = 4 * kwN q.1.r), q.1.w.all (inR .u8)] ++ q.2
def tuES (s : TuS) : TuS := { s with e := true, o := tuR s.w (rds s.r) s.l s.p s.n ((s.n + 15) / 16) }
def tuFS (q : TuS × List Bool) : List (Nat × AV) × Mem := ([(7, .slice true 9 0 (tuES q.1).o.length none 1)], tuMS (tuES q.1))
def tuΛS (Λ : LoopH) : LoopH := famH 0 48 tuTs tuPS tuOS tuFS Λ
def txD : TX → List Bool
  | .nil => []
  | .emp => [true]
  | .buf m _ => [true, decide (m = m)]
def tuDS (s : TuS) (u : List Bool) : List Bool := [decide (s.n < 9223372036854775808), decide (s.i < (s.n : Int)), decide (s.w.length = 4 * kwN s.r), s.w.all (inR .u8), true, decide (s.i = s.i), decide (0 ≤ s.i), decide (s.i < (s.n : Int)), decide (s.n < 1000000000), decide (s.n ≤ s.nb), decide ((s.o.length : Int) = s.i), decide (s.o.length = s.o.length)] ++
  [true, true, true, true, true, true, true, true, true, true, true, decide (some s.nb = some s.nb), true, true, true, true, true, decide (s.nb = s.nb), true, true, true, true] ++ u ++ txD s.x
def tuNS (s : TuS) : TuS := { s with e := true, o := s.o ++ cvP s.p (mkR s.w (rds s.r) s.l (s.i.tdiv 16)) s.i.toNat (eT s.n s.i), i := IntKind.i64.wrap (s.i + 16) }
theorem tuS_t0 (s : TuS) (hs : s.e = false) (h0 : s.o = []) : seesL tuTs ((codeL Try.prog qP (deep Try.prog qP hT0 100 3) (inΛS fun _ _ => none) 100 (lp (blk 0 (bodyOf Try.prog 19))) ⟨tmOf (ups (fun _ => .top) (zipU tuTs (tuVS s))) 48, tuMS s⟩).go [true]) = some (tuDS s [true, true, true, true], 0, tuVS (tuNS s), 48, preS s ++ [some ⟨true, .ints .u8 none (tuNS s).o⟩, some ⟨true, .ints .u8 (some 16) (mkR s.w (rds s.r) s.l (s.i.tdiv 16))⟩]) := by
  obtain ⟨k, x, W, sb, r, l, n, nb, p, w, e, o, c, i, j⟩ := s
  simp only at hs h0
  subst hs h0
  cases r <;> cases x <;> kernel_rfl
theorem tuS_t1 (s : TuS) (hs : s.e = true) : seesL tuTs ((codeL Try.prog qP (deep Try.prog qP hT0 100 3) (inΛS fun _ _ => none) 100 (lp (blk 0 (bodyOf Try.prog 19))) ⟨tmOf (ups (fun _ => .top) (zipU tuTs (tuVS s))) 48, tuMS s⟩).go [true]) = some (tuDS s [true, true, true, true, true], 0, tuVS (tuNS s), 48, preS s ++ [some ⟨true, .ints .u8 none (tuNS s).o⟩, some ⟨true, .ints .u8 (some 16) (mkR s.w (rds s.r) s.l (s.i.tdiv 16))⟩]) := by
  obtain ⟨k, x, W, sb, r, l, n, nb, p, w, e, o, c, i, j⟩ := s
  simp only at hs
  subst hs
  cases r <;> cases x <;> kernel_rfl
theorem tuS_f (s : TuS) (hs : s.e = true) : seesL tuTs ((codeL Try.prog qP (deep Try.prog qP hT0 100 3) (inΛS fun _ _ => none) 100 (lp (blk 0 (bodyOf Try.prog 19))) ⟨tmOf (ups (fun _ => .top) (zipU tuTs (tuVS s))) 48, tuMS s⟩).go [false]) = some ([decide (s.n < 9223372036854775808), !decide (s.i < (s.n : Int))], 2, tuVS s, 48, tuMS s) := by
  obtain ⟨k, x, W, sb, r, l, n, nb, p, w, e, o, c, i, j⟩ := s
  simp only at hs
  subst hs
  cases r <;> cases x <;> kernel_rfl
theorem txD_paid (x : TX) : Paid (txD x) := by
  cases x with
  | nil => exact Paid.nil
  | emp => exact paid_cons rfl Paid.nil
  | buf m a => exact paid_cons rfl (paid_cons (decide_eq_true rfl) Paid.nil)
structure TuJS (q s : TuS) (a : Nat) : Prop where
  hb : bndS q = true
  h1 : 1 ≤ q.n
  hn : q.n < 1000000000
  hnb : q.n ≤ q.nb
  hw : q.w.length = 4 * kwN q.r
  hr : q.w.all (inR .u8) = true
  ha : a ≤ (q.n + 15) / 16
  same : s = { q with e := s.e, o := tuR q.w (rds q.r) q.l q.p q.n a, i := ((16 * a : Nat) : Int) }
  e0 : a = 0 → s.e = false
  e1 : 0 < a → s.e = true
theorem tuS_lok {Λ : LoopH} (hΛ : LOkN 9 Try.prog (bodyOf Try.prog 19) Λ) : LOkN 9 Try.prog (bodyOf Try.prog 19) (tuΛS Λ) := by
  show LOkN 9 _ _ (famH 0 48 tuTs tuPS tuOS tuFS Λ)
  refine famR_ok (q := qP) (H := deep Try.prog qP hT0 100 3) (Λ0 := inΛS fun _ _ => none) (n := 100) (fun q : TuS × List Bool => tuVS q.1) (fun q => tuMS q.1) (fun q s => ∃ a, TuJS q.1 s.1 a) (fun s => s.1.n + 15 - s.1.i.toNat) mixed (hT0_ok.deep mixed noCount 100 3) hΛ (inS_lok LOkN.none) (by kernel_rfl) (by kernel_rfl) (fun avs m q h ho => ?_) (fun q s hJ => ?_)
  · unfold tuPS at h
    split at h
    case h_2 => cases h
    simp only [Option.bind_eq_some_iff, Option.some.injEq] at h
    obtain ⟨y0, e0, y1, e1, y3, e3, y4, e4, y5, e5, y6, e6, y7, e7, y8, e8, sl, esl, xx, exx, rfl⟩ := h
    obtain ⟨ho, ho2⟩ := paid_append.1 ho
    obtain ⟨ho2, hox⟩ := paid_append.1 ho2
    obtain ⟨ho2, hos⟩ := paid_append.1 ho2
    obtain ⟨hoc, hod⟩ := paid_append.1 ho2
    obtain ⟨x, ox⟩ := xx
    obtain ⟨hxa, hxb⟩ := pTX_ok exx hox
    obtain ⟨sn, si, so⟩ := sl
    have hsl := rSo_ok esl hos
    obtain ⟨y0a, y0b, y0c⟩ := y0
    have f0 := rI_ok e0
    obtain ⟨y1a, y1b, y1c⟩ := y1
    have f1 := rI_ok e1
    obtain ⟨y3a, y3b, y3c⟩ := y3
    have f3 := rI_ok e3
    obtain ⟨y4a, y4b, y4c, y4d, y4e, y4f, y4g⟩ := y4
    have f4 := rJob_ok e4
    obtain ⟨y5a, y5b, y5c⟩ := y5
    have f5 := rKey_ok e5
    obtain ⟨y6a, y6b, y6c⟩ := y6
    have f6 := rI_ok e6
    obtain ⟨y7a, y7b, y7c, y7d, y7e⟩ := y7
    have f7 := rRk_ok e7
    obtain ⟨y8a, y8b⟩ := y8
    have f8 := rRows_ok e8
    have c1 := of_decide_eq_true (hoc _ (List.mem_cons_self ..))
    have d0 := of_decide_eq_true (hod _ (List.mem_cons_self ..))
    have d1 := of_decide_eq_true (hod _ (List.mem_cons_of_mem _ (List.mem_cons_self ..)))
    have d2 := of_decide_eq_true (hod _ (List.mem_cons_of_mem _ (List.mem_cons_of_mem _ (List.mem_cons_self ..))))
    have d3 := of_decide_eq_true (hod _ (List.mem_cons_of_mem _ (List.mem_cons_of_mem _ (List.mem_cons_of_mem _ (List.mem_cons_self ..)))))
    have d4 := of_decide_eq_true (hod _ (List.mem_cons_of_mem _ (List.mem_cons_of_mem _ (List.mem_cons_of_mem _ (List.mem_cons_of_mem _ (List.mem_cons_self ..))))))
    have d5 := of_decide_eq_true (hod _ (List.mem_cons_of_mem _ (List.mem_cons_of_mem _ (List.mem_cons_of_mem _ (List.mem_cons_of_mem _ (List.mem_cons_of_mem _ (List.mem_cons_self ..)))))))
    have d6 := of_decide_eq_true (hod _ (List.mem_cons_of_mem _ (List.mem_cons_of_mem _ (List.mem_cons_of_mem _ (List.mem_cons_of_mem _ (List.mem_cons_of_mem _ (List.mem_cons_of_mem _ (List.mem_cons_self ..))))))))
    have d7 := of_decide_eq_true (hod _ (List.mem_cons_of_mem _ (List.mem_cons_of_mem _ (List.mem_cons_of_mem _ (List.mem_cons_of_mem _ (List.mem_cons_of_mem _ (List.mem_cons_of_mem _ (List.mem_cons_of_mem _ (List.mem_cons_self ..)))))))))
    have d8 := of_decide_eq_true (hod _ (List.mem_cons_of_mem _ (List.mem_cons_of_mem _ (List.mem_cons_of_mem _ (List.mem_cons_of_mem _ (List.mem_cons_of_mem _ (List.mem_cons_of_mem _ (List.mem_cons_of_mem _ (List.mem_cons_of_mem _ (List.mem_cons_self ..))))))))))
    have d9 := of_decide_eq_true (hod _ (List.mem_cons_of_mem _ (List.mem_cons_of_mem _ (List.mem_cons_of_mem _ (List.mem_cons_of_mem _ (List.mem_cons_of_mem _ (List.mem_cons_of_mem _ (List.mem_cons_of_mem _ (List.mem_cons_of_mem _ (List.mem_cons_of_mem _ (List.mem_cons_self ..)))))))))))
    have d10 := of_decide_eq_true (hod _ (List.mem_cons_of_mem _ (List.mem_cons_of_mem _ (List.mem_cons_of_mem _ (List.mem_cons_of_mem _ (List.mem_cons_of_mem _ (List.mem_cons_of_mem _ (List.mem_cons_of_mem _ (List.mem_cons_of_mem _ (List.mem_cons_of_mem _ (List.mem_cons_of_mem _ (List.mem_cons_self ..))))))))))))
    have d11 := of_decide_eq_true (hod _ (List.mem_cons_of_mem _ (List.mem_cons_of_mem _ (List.mem_cons_of_mem _ (List.mem_cons_of_mem _ (List.mem_cons_of_mem _ (List.mem_cons_of_mem _ (List.mem_cons_of_mem _ (List.mem_cons_of_mem _ (List.mem_cons_of_mem _ (List.mem_cons_of_mem _ (List.mem_cons_of_mem _ (List.mem_cons_self ..)))))))))))))
    have d12 := of_decide_eq_true (hod _ (List.mem_cons_of_mem _ (List.mem_cons_of_mem _ (List.mem_cons_of_mem _ (List.mem_cons_of_mem _ (List.mem_cons_of_mem _ (List.mem_cons_of_mem _ (List.mem_cons_of_mem _ (List.mem_cons_of_mem _ (List.mem_cons_of_mem _ (List.mem_cons_of_mem _ (List.mem_cons_of_mem _ (List.mem_cons_of_mem _ (List.mem_cons_self ..))))))))))))))
    have d13 := of_decide_eq_true (hod _ (List.mem_cons_of_mem _ (List.mem_cons_of_mem _ (List.mem_cons_of_mem _ (List.mem_cons_of_mem _ (List.mem_cons_of_mem _ (List.mem_cons_of_mem _ (List.mem_cons_of_mem _ (List.mem_cons_of_mem _ (List.mem_cons_of_mem _ (List.mem_cons_of_mem _ (List.mem_cons_of_mem _ (List.mem_cons_of_mem _ (List.mem_cons_of_mem _ (List.mem_cons_self ..)))))))))))))))
    have d14 := of_decide_eq_true (hod _ (List.mem_cons_of_mem _ (List.mem_cons_of_mem _ (List.mem_cons_of_mem _ (List.mem_cons_of_mem _ (List.mem_cons_of_mem _ (List.mem_cons_of_mem _ (List.mem_cons_of_mem _ (List.mem_cons_of_mem _ (List.mem_cons_of_mem _ (List.mem_cons_of_mem _ (List.mem_cons_of_mem _ (List.mem_cons_of_mem _ (List.mem_cons_of_mem _ (List.mem_cons_of_mem _ (List.mem_cons_self ..))))))))))))))))
    have d15 := of_decide_eq_true (hod _ (List.mem_cons_of_mem _ (List.mem_cons_of_mem _ (List.mem_cons_of_mem _ (List.mem_cons_of_mem _ (List.mem_cons_of_mem _ (List.mem_cons_of_mem _ (List.mem_cons_of_mem _ (List.mem_cons_of_mem _ (List.mem_cons_of_mem _ (List.mem_cons_of_mem _ (List.mem_cons_of_mem _ (List.mem_cons_of_mem _ (List.mem_cons_of_mem _ (List.mem_cons_of_mem _ (List.mem_cons_of_mem _ (List.mem_cons_self ..)))))))))))))))))
    have d16 := of_decide_eq_true (hod _ (List.mem_cons_of_mem _ (List.mem_cons_of_mem _ (List.mem_cons_of_mem _ (List.mem_cons_of_mem _ (List.mem_cons_of_mem _ (List.mem_cons_of_mem _ (List.mem_cons_of_mem _ (List.mem_cons_of_mem _ (List.mem_cons_of_mem _ (List.mem_cons_of_mem _ (List.mem_cons_of_mem _ (List.mem_cons_of_mem _ (List.mem_cons_of_mem _ (List.mem_cons_of_mem _ (List.mem_cons_of_mem _ (List.mem_cons_of_mem _ (List.mem_cons_self ..))))))))))))))))))
    have d17 := of_decide_eq_true (hod _ (List.mem_cons_of_mem _ (List.mem_cons_of_mem _ (List.mem_cons_of_mem _ (List.mem_cons_of_mem _ (List.mem_cons_of_mem _ (List.mem_cons_of_mem _ (List.mem_cons_of_mem _ (List.mem_cons_of_mem _ (List.mem_cons_of_mem _ (List.mem_cons_of_mem _ (List.mem_cons_of_mem _ (List.mem_cons_of_mem _ (List.mem_cons_of_mem _ (List.mem_cons_of_mem _ (List.mem_cons_of_mem _ (List.mem_cons_of_mem _ (List.mem_cons_of_mem _ (List.mem_cons_self ..)))))))))))))))))))
    have d18 := of_decide_eq_true (hod _ (List.mem_cons_of_mem _ (List.mem_cons_of_mem _ (List.mem_cons_of_mem _ (List.mem_cons_of_mem _ (List.mem_cons_of_mem _ (List.mem_cons_of_mem _ (List.mem_cons_of_mem _ (List.mem_cons_of_mem _ (List.mem_cons_of_mem _ (List.mem_cons_of_mem _ (List.mem_cons_of_mem _ (List.mem_cons_of_mem _ (List.mem_cons_of_mem _ (List.mem_cons_of_mem _ (List.mem_cons_of_mem _ (List.mem_cons_of_mem _ (List.mem_cons_of_mem _ (List.mem_cons_of_mem _ (List.mem_cons_self ..))))))))))))))))))))
    have d19 := of_decide_eq_true (hod _ (List.mem_cons_of_mem _ (List.mem_cons_of_mem _ (List.mem_cons_of_mem _ (List.mem_cons_of_mem _ (List.mem_cons_of_mem _ (List.mem_cons_of_mem _ (List.mem_cons_of_mem _ (List.mem_cons_of_mem _ (List.mem_cons_of_mem _ (List.mem_cons_of_mem _ (List.mem_cons_of_mem _ (List.mem_cons_of_mem _ (List.mem_cons_of_mem _ (List.mem_cons_of_mem _ (List.mem_cons_of_mem _ (List.mem_cons_of_mem _ (List.mem_cons_of_mem _ (List.mem_cons_of_mem _ (List.mem_cons_of_mem _ (List.mem_cons_self ..)))))))))))))))))))))
    have d20 := of_decide_eq_true (hod _ (List.mem_cons_of_mem _ (List.mem_cons_of_mem _ (List.mem_cons_of_mem _ (List.mem_cons_of_mem _ (List.mem_cons_of_mem _ (List.mem_cons_of_mem _ (List.mem_cons_of_mem _ (List.mem_cons_of_mem _ (List.mem_cons_of_mem _ (List.mem_cons_of_mem _ (List.mem_cons_of_mem _ (List.mem_cons_of_mem _ (List.mem_cons_of_mem _ (List.mem_cons_of_mem _ (List.mem_cons_of_mem _ (List.mem_cons_of_mem _ (List.mem_cons_of_mem _ (List.mem_cons_of_mem _ (List.mem_cons_of_mem _ (List.mem_cons_of_mem _ (List.mem_cons_self ..))))))))))))))))))))))
    have d21 := of_decide_eq_true (hod _ (List.mem_cons_of_mem _ (List.mem_cons_of_mem _ (List.mem_cons_of_mem _ (List.mem_cons_of_mem _ (List.mem_cons_of_mem _ (List.mem_cons_of_mem _ (List.mem_cons_of_mem _ (List.mem_cons_of_mem _ (List.mem_cons_of_mem _ (List.mem_cons_of_mem _ (List.mem_cons_of_mem _ (List.mem_cons_of_mem _ (List.mem_cons_of_mem _ (List.mem_cons_of_mem _ (List.mem_cons_of_mem _ (List.mem_cons_of_mem _ (List.mem_cons_of_mem _ (List.mem_cons_of_mem _ (List.mem_cons_of_mem _ (List.mem_cons_of_mem _ (List.mem_cons_of_mem _ (List.mem_cons_self ..)))))))))))))))))))))))
    have o0 := ho _ (List.mem_cons_self ..)
    have o1 := of_decide_eq_true (ho _ (List.mem_cons_of_mem _ (List.mem_cons_self ..)))
    have o2 := of_decide_eq_true (ho _ (List.mem_cons_of_mem _ (List.mem_cons_of_mem _ (List.mem_cons_self ..))))
    have o3 := of_decide_eq_true (ho _ (List.mem_cons_of_mem _ (List.mem_cons_of_mem _ (List.mem_cons_of_mem _ (List.mem_cons_self ..)))))
    have o4 := of_decide_eq_true (ho _ (List.mem_cons_of_mem _ (List.mem_cons_of_mem _ (List.mem_cons_of_mem _ (List.mem_cons_of_mem _ (List.mem_cons_self ..))))))
    have o5 := ho _ (List.mem_cons_of_mem _ (List.mem_cons_of_mem _ (List.mem_cons_of_mem _ (List.mem_cons_of_mem _ (List.mem_cons_of_mem _ (List.mem_cons_self ..))))))
    simp only at o0 o1 o2 o3 o4 o5 c1 hsl hxa hxb d0 d1 d2 d3 d4 d5 d6 d7 d8 d9 d10 d11 d12 d13 d14 d15 d16 d17 d18 d19 d20 d21 f0 f1 f3 f4 f5 f6 f7 f8
    subst c1
    obtain ⟨nb, hnb⟩ : ∃ nb, y3b = some nb := ⟨_, d11⟩
    subst hnb
    generalize Nat.beq y7c 60 = r at *
    simp only [Option.getD_some] at *
    subst d0 d1 d2 d3 d4 d5 d6 d7 d8 d9 d10 d12 d13 d14 d15 d16 d17 d18 d19 d20 d21
    subst hxa hxb f0 f1 f3 f4 f5 f6 f7 f8
    refine ⟨(⟨y0c, x, y5c, y6c, r, y1c, sn, y4g, y3c, y8b, false, [], [], 0, 0⟩, []), id, ?_, 0, ⟨o0, o1, o2, o3, o4, o5, Nat.zero_le _, rfl, fun _ => rfl, fun h => by omega⟩⟩
    rw [hsl]
    exact goes_pre (g := id) (vals := [.ptr false 7 0, .slice false 1 0 12 none 1, .slice true 3 0 sn none 1, .nilslice, .int true .i64 0]) (m' := []) (rest := []) (.cons (.refl _) (.cons (.refl _) (.cons (.refl _) (.cons (.refl _) (.cons (.int _ _ _ _) .nil))))) (preS_len _) o0 trivial rfl rfl rfl rfl
  · obtain ⟨a, hb, h1, hn, hnb, hwl, hr, ha, same, e0, e1⟩ := hJ
    obtain ⟨q, bq⟩ := q
    obtain ⟨s, bs⟩ := s
    obtain ⟨k, x, W, sb, r, l, n, nb, p, w, e, o, c, i, j⟩ := q
    simp only at hb h1 hn hnb hwl hr ha same e0 e1
    obtain ⟨se, hse⟩ : ∃ x, s.e = x := ⟨_, rfl⟩
    rw [hse] at same e0 e1
    subst same
    have hlen := tuR_len w (rds r) l p hn a ha
    by_cases hend : a = (n + 15) / 16
    · have hse1 : se = true := e1 (by omega)
      subst hse1
      refine RoundR.out (tuS_f _ rfl) rfl id (paid_cons (decide_eq_true (by simp only; omega)) (paid_cons (by simp only [Bool.not_eq_true', decide_eq_false_iff_not]; omega) Paid.nil)) ?_
      have fe : tuES (⟨k, x, W, sb, r, l, n, nb, p, w, e, o, c, i, j⟩ : TuS) = { (⟨k, x, W, sb, r, l, n, nb, p, w, e, o, c, i, j⟩ : TuS) with e := true, o := tuR w (rds r) l p n a } := by
        unfold tuES
        simp only [hend]
      show Goes 9 id tuTs _ _ [(7, .slice true 9 0 (tuES (⟨k, x, W, sb, r, l, n, nb, p, w, e, o, c, i, j⟩ : TuS)).o.length none 1)] (tuMS (tuES (⟨k, x, W, sb, r, l, n, nb, p, w, e, o, c, i, j⟩ : TuS)))
      rw [fe]
      exact ⟨fun p0 hp => by
        simp only [List.mem_cons, List.not_mem_nil, or_false] at hp
        subst hp
        exact ⟨.slice true 9 0 (tuR w (rds r) l p n a).length none 1, by simp [tuTs, tuVS, zipU, outS], .refl _⟩, goes_mem (preS_len _) hb ⟨⟨_, rfl, .refl _⟩, trivial⟩, rfl, rfl, Nat.le_of_ble_eq_true rfl, goes_bnd (preS_len _) hb rfl, rfl⟩
    · have h16 : 16 * a < n := by omega
      have hw : IntKind.i64.wrap (((16 * a : Nat) : Int) + 16) = ((16 * (a + 1) : Nat) : Int) := by unfold IntKind.wrap; simp [IntKind.bits, IntKind.signed]; omega
      have hdv : ((16 * a : Nat) : Int).tdiv 16 = (a : Int) := by rw [Int.tdiv_eq_ediv_of_nonneg (by omega)]; omega
      have hD : ∀ e' u, Paid u → Paid (tuDS (⟨k, x, W, sb, r, l, n, nb, p, w, e', tuR w (rds r) l p n a, c, ((16 * a : Nat) : Int), j⟩ : TuS) u) := fun e' u hu => by
        unfold tuDS
        simp only
        refine paid_append.2 ⟨paid_append.2 ⟨paid_append.2 ⟨?_, ?_⟩, hu⟩, txD_paid _⟩
        · exact paid_cons (decide_eq_true (by omega)) (paid_cons (decide_eq_true (by omega)) (paid_cons (decide_eq_true hwl) (paid_cons hr (paid_cons rfl (paid_cons (by simp) (paid_cons (decide_eq_true (by omega)) (paid_cons (decide_eq_true (by omega)) (paid_cons (decide_eq_true hn) (paid_cons (decide_eq_true hnb) (paid_cons (decide_eq_true (by rw [hlen]; omega)) (paid_cons (by simp) Paid.nil)))))))))))
        · intro b hb'
          simp only [List.mem_cons, List.not_mem_nil, or_false, decide_true, or_self] at hb'
          simp_all
      have hN : ∀ e', tuNS (⟨k, x, W, sb, r, l, n, nb, p, w, e', tuR w (rds r) l p n a, c, ((16 * a : Nat) : Int), j⟩ : TuS) = (⟨k, x, W, sb, r, l, n, nb, p, w, true, tuR w (rds r) l p n (a + 1), c, ((16 * (a + 1) : Nat) : Int), j⟩ : TuS) := fun e' => by
        unfold tuNS
        simp only [hdv, hw, tuR, Int.toNat_natCast]
      cases se with
      | false =>
        have ha0 : a = 0 := by
          by_cases h : a = 0
          · exact h
          · have := e1 (by omega); cases this
        subst ha0
        refine RoundR.on (tuS_t0 _ rfl rfl) ((⟨k, x, W, sb, r, l, n, nb, p, w, true, tuR w (rds r) l p n (0 + 1), c, ((16 * (0 + 1) : Nat) : Int), j⟩ : TuS), bs) id (hD false _ (paid_cons rfl (paid_cons rfl (paid_cons rfl (paid_cons rfl Paid.nil))))) ?_ ⟨0 + 1, hb, h1, hn, hnb, hwl, hr, by simp only; omega, rfl, fun h => by omega, fun _ => rfl⟩ (by simp only; omega)
        rw [hN]
        exact goes_pre (g := id) (vals := tuVS (⟨k, x, W, sb, r, l, n, nb, p, w, true, tuR w (rds r) l p n (0 + 1), c, ((16 * (0 + 1) : Nat) : Int), j⟩ : TuS)) (rest := [some ⟨true, .ints .u8 none (tuR w (rds r) l p n (0 + 1))⟩]) (.cons (.refl _) (.cons (.refl _) (.cons (.refl _) (.cons (.refl _) (.cons (.refl _) .nil))))) (preS_len _) hb ⟨⟨_, rfl, .refl _⟩, trivial⟩ rfl rfl rfl rfl
      | true =>
        refine RoundR.on (tuS_t1 _ rfl) ((⟨k, x, W, sb, r, l, n, nb, p, w, true, tuR w (rds r) l p n (a + 1), c, ((16 * (a + 1) : Nat) : Int), j⟩ : TuS), bs) id (hD true _ (paid_cons rfl (paid_cons rfl (paid_cons rfl (paid_cons rfl (paid_cons rfl Paid.nil)))))) ?_ ⟨a + 1, hb, h1, hn, hnb, hwl, hr, by simp only; omega, rfl, fun h => by omega, fun _ => rfl⟩ (by simp only; omega)
        rw [hN]
        exact goes_pre (g := id) (vals := tuVS (⟨k, x, W, sb, r, l, n, nb, p, w, true, tuR w (rds r) l p n (a + 1), c, ((16 * (a + 1) : Nat) : Int), j⟩ : TuS)) (rest := [some ⟨true, .ints .u8 none (tuR w (rds r) l p n (a + 1))⟩]) (.cons (.refl _) (.cons (.refl _) (.cons (.refl _) (.cons (.refl _) (.cons (.refl _) .nil))))) (preS_len _) hb ⟨⟨_, rfl, .refl _⟩, trivial⟩ rfl rfl rfl rfl
end Go.Proofs.Ytpbemjifhampcaa
