/- The reference's hash: evaluated; it is the program's; its contract. Own work. -/
import Derived.Test.YtljndahfackolaaQGcO
set_option linter.unusedSimpArgs false
set_option linter.unusedVariables false
set_option linter.unusedSectionVars false
namespace Go.Gc
open Go.Ev Go.Sh Go.As
set_option maxRecDepth 100000
def lenR (n : Nat) : Int := IntKind.u64.wrap (IntKind.u64.wrap (n : Int) * 8)
/-- The reference's hash, as a value. -/
def hashR (h : List Int) (l : List Int) (n : Nat) (q : List Int) (m : Nat) : List Int :=
  ouN (timesB (xoN (ofL (blkP (lenR n) (lenR m)) 16) (absRW q m (ofL h 16) (absRW l n (ofL h 16) no128)) 128) (ofL h 16)) Z16 128
theorem bytesE {l : List Int} (h : ∀ x ∈ l, inR .u8 x = true) : ∃ L : List (BitVec 8), l = L.map E8 := by
  refine ⟨l.map (BitVec.ofInt 8), ?_⟩
  rw [List.map_map]
  have e : l.map (E8 ∘ BitVec.ofInt 8) = l.map id := List.map_congr_left fun x hx => by
    have h8 : 0 ≤ x ∧ x < 256 := by have := h x hx; rw [inR_iff] at this; simp only [lo, hi] at this; omega
    simp only [Function.comp, E8, BitVec.toNat_ofInt, id]
    omega
  rw [e, List.map_id]
theorem eT_eq (n j : Nat) (hn : n < 1000000000) (hj : 16 * j < n) : eT n ((16 * j : Nat) : Int) = min 16 (n - 16 * j) := by
  have hw : IntKind.i64.wrap (((16 * j : Nat) : Int) + 16) = ((16 * j : Nat) : Int) + 16 := by unfold IntKind.wrap; simp [IntKind.bits, IntKind.signed]; omega
  unfold eT hiT
  rw [hw]
  split <;> omega
theorem getD_take_drop (L : List (BitVec 8)) (o e i : Nat) : ((L.drop o).take e).getD i 0#8 = if i < e then L.getD (o + i) 0#8 else 0#8 := by
  rw [List.getD_eq_getElem?_getD, List.getD_eq_getElem?_getD]
  split
  · rename_i h; rw [List.getElem?_take_of_lt h, List.getElem?_drop]
  · rename_i h; rw [List.getElem?_eq_none (by rw [List.length_take]; omega)]; rfl
theorem abs_rel {L : List (BitVec 8)} {n : Nat} (hL : L.length = n) (hn : n < 1000000000) {k : List Bool} {kh kt : BitVec 64} (hk : Rl k kh kt) {y0 : List Bool} {ph pt : BitVec 64} (h0 : Rl y0 ph pt) :
    ∀ j, j ≤ (n + 15) / 16 → ∃ a b, absN (L.map E8) n (E kh, E kt) (E ph, E pt) j = (E a, E b) ∧ Rl (absR (L.map E8) n k y0 j) a b
  | 0, _ => ⟨ph, pt, rfl, h0⟩
  | j + 1, hj => by
    obtain ⟨a, b, e1, e2⟩ := abs_rel hL hn hk h0 j (by omega)
    have hlt : 16 * j < n := by omega
    have he := eT_eq n j hn hlt
    refine ⟨(mulB (a ^^^ rdB (blkTB L (16 * j) (n - 16 * j)) 0) (b ^^^ rdB (blkTB L (16 * j) (n - 16 * j)) 8) kh kt).sh, (mulB (a ^^^ rdB (blkTB L (16 * j) (n - 16 * j)) 0) (b ^^^ rdB (blkTB L (16 * j) (n - 16 * j)) 8) kh kt).st, ?_, ?_⟩
    · simp only [absN, e1, mulX, blkT_e, rd_e, xorE, mul_e]
      rfl
    · simp only [absR, haY, he]
      rw [show 0 + (((16 * j : Nat) : Int)).toNat * 1 = 16 * j by omega, ← List.map_drop, ← List.map_take]
      refine Rl.times (Rl.xo e2 (Rl.of _ _ _ (by omega) fun i hi => ?_)) hk
      rw [blkTB_get L n _ hL, if_pos hi, getD_take_drop]
      split
      · rfl
      · have : L.getD (16 * j + i) 0#8 = 0#8 := by rw [List.getD_eq_getElem?_getD, List.getElem?_eq_none (by omega)]; rfl
        exact this
theorem Rl.zero : Rl no128 0#64 0#64 := by
  refine ⟨rfl, ?_⟩
  funext m
  have : gt no128 m = false := by
    unfold gt no128
    rw [List.getD_eq_getElem?_getD, List.getElem?_replicate]
    split <;> rfl
  show (decide (m < 128) && gt no128 m) = _
  rw [this, Bool.and_false]
  unfold cf
  simp
theorem lenW_E (n : Nat) : lenW n = E (BitVec.ofNat 64 (8 * n)) := by
  unfold lenW E
  rw [wrap64, wrap64, BitVec.toNat_ofNat]
  omega
theorem lenR_W (n : Nat) : lenR n = lenW n := by unfold lenR lenW; rw [Int.mul_comm]
theorem cf_blkB (a b : BitVec 64) : cf (rdB (blkB a b) 0) (rdB (blkB a b) 8) = cf a b := by
  funext m
  by_cases hm : m < 128
  · rw [cf_bytes _ _ hm, show 7 - m % 8 = 7 - (m % 8) from rfl, blkB_bits a b (m / 8) (m % 8) (by omega) (by omega)]
    congr 1
    omega
  · rw [cf_out _ _ _ hm, cf_out _ _ _ hm]
theorem hash_same {h l q : List Int} {n m : Nat} (kh : h.length = 16) (rh : ∀ x ∈ h, inR .u8 x = true) (rl : ∀ x ∈ l, inR .u8 x = true) (rq : ∀ x ∈ q, inR .u8 x = true) (hl : l.length = n) (hq : q.length = m) (hn : n < 1000000000) (hm : m < 1000000000) :
    hashR h l n q m = hashG h l n q m := by
  obtain ⟨H, rfl⟩ := bytesE rh
  obtain ⟨L, rfl⟩ := bytesE rl
  obtain ⟨Q, rfl⟩ := bytesE rq
  rw [List.length_map] at kh hl hq
  have hK : Rl (ofL (H.map E8) 16) (rdB H 0) (rdB H 8) := Rl.of H H 16 (by omega) fun i hi => by rw [if_pos hi]
  obtain ⟨a, b, e1, e2⟩ := abs_rel hl hn hK Rl.zero _ (Nat.le_refl _)
  obtain ⟨c, d, e3, e4⟩ := abs_rel hq hm hK e2 _ (Nat.le_refl _)
  have hLn : Rl (ofL (blkP (lenR n) (lenR m)) 16) (BitVec.ofNat 64 (8 * n)) (BitVec.ofNat 64 (8 * m)) := by
    rw [lenR_W, lenR_W, lenW_E, lenW_E, blk_e]
    have := Rl.of (blkB (BitVec.ofNat 64 (8 * n)) (BitVec.ofNat 64 (8 * m))) (blkB (BitVec.ofNat 64 (8 * n)) (BitVec.ofNat 64 (8 * m))) 16 (by omega) fun i hi => by rw [if_pos hi]
    exact ⟨this.len, this.eq.trans (cf_blkB _ _)⟩
  have ho := (Rl.times (Rl.xo e4 hLn) hK).out
  unfold hashR absRW
  rw [ho]
  unfold hashG keyG mulX0 absW
  rw [rd_e, rd_e]
  have z : ((0 : Int), (0 : Int)) = (E 0#64, E 0#64) := rfl
  rw [z, e1, e3, lenW_E, lenW_E]
  simp only [xorE, mul_e]
  exact (blk_e _ _).symm
end Go.Gc
namespace Go.Proofs.Ytljndahfackolaa
open Go.Ev Go.Sh Go.As Go.Gc
set_option maxRecDepth 100000
def haΛ : LoopH := haΛ1 (haΛ2 (ouΛ fun _ _ => none))
theorem ha_lok : LOk Try.prog (bodyOf Try.prog 10) haΛ := ha1_lok (ha2_lok (ou_lok LOk.none))
theorem hashR_nilnil (h : List Int) : res (funcL Try.prog qP (deep Try.prog qP hr0 100 3) haΛ 100 10 (cArgs 0 [.pl (.ints .u8 16 h), .pl .nilslice, .pl .nilslice]) (cMem [.pl (.ints .u8 16 h), .pl .nilslice, .pl .nilslice])) = some ([true, true, true], .ints .u8 16 (hashR h [] 0 [] 0)) := by kernel_rfl
theorem hashR_nilemp (h : List Int) : res (funcL Try.prog qP (deep Try.prog qP hr0 100 3) haΛ 100 10 (cArgs 0 [.pl (.ints .u8 16 h), .pl .nilslice, .empty]) (cMem [.pl (.ints .u8 16 h), .pl .nilslice, .empty])) = some ([true, true, true, true], .ints .u8 16 (hashR h [] 0 [] 0)) := by kernel_rfl
theorem hashR_nilbuf (h : List Int) (m : Nat) (q : List Int) : res (funcL Try.prog qP (deep Try.prog qP hr0 100 3) haΛ 100 10 (cArgs 0 [.pl (.ints .u8 16 h), .pl .nilslice, .buf true .u8 m q]) (cMem [.pl (.ints .u8 16 h), .pl .nilslice, .buf true .u8 m q])) = some ([true, decide (m < 1000000000), true, decide (m = m), decide (m = m), decide (TX.nil = TX.nil), decide (m < 9223372036854775808), decide (m < 9223372036854775808), decide (m < 9223372036854775808), decide (m < 9223372036854775808), decide (m < 9223372036854775808), decide (m < 9223372036854775808), decide (m < 9223372036854775808), decide (m < 9223372036854775808), true, true, true, decide (m = m)], .ints .u8 16 (hashR h [] 0 q m)) := by kernel_rfl
theorem hashR_empnil (h : List Int) : res (funcL Try.prog qP (deep Try.prog qP hr0 100 3) haΛ 100 10 (cArgs 0 [.pl (.ints .u8 16 h), .empty, .pl .nilslice]) (cMem [.pl (.ints .u8 16 h), .empty, .pl .nilslice])) = some ([true, true, true, true], .ints .u8 16 (hashR h [] 0 [] 0)) := by kernel_rfl
theorem hashR_empemp (h : List Int) : res (funcL Try.prog qP (deep Try.prog qP hr0 100 3) haΛ 100 10 (cArgs 0 [.pl (.ints .u8 16 h), .empty, .empty]) (cMem [.pl (.ints .u8 16 h), .empty, .empty])) = some ([true, true, true, true, true], .ints .u8 16 (hashR h [] 0 [] 0)) := by kernel_rfl
theorem hashR_empbuf (h : List Int) (m : Nat) (q : List Int) : res (funcL Try.prog qP (deep Try.prog qP hr0 100 3) haΛ 100 10 (cArgs 0 [.pl (.ints .u8 16 h), .empty, .buf true .u8 m q]) (cMem [.pl (.ints .u8 16 h), .empty, .buf true .u8 m q])) = some ([true, decide (m < 1000000000), true, decide (m = m), decide (m = m), decide (TX.emp = TX.emp), true, true, decide (m < 9223372036854775808), decide (m < 9223372036854775808), decide (m < 9223372036854775808), decide (m < 9223372036854775808), decide (m < 9223372036854775808), decide (m < 9223372036854775808), decide (m < 9223372036854775808), decide (m < 9223372036854775808), true, true, true, true, decide (m = m)], .ints .u8 16 (hashR h [] 0 q m)) := by kernel_rfl
theorem hashR_bufnil (h : List Int) (n : Nat) (l : List Int) : res (funcL Try.prog qP (deep Try.prog qP hr0 100 3) haΛ 100 10 (cArgs 0 [.pl (.ints .u8 16 h), .buf true .u8 n l, .pl .nilslice]) (cMem [.pl (.ints .u8 16 h), .buf true .u8 n l, .pl .nilslice])) = some ([true, decide (n < 1000000000), true, decide (n = n), decide (n = n), decide (TX.nil = TX.nil), decide (n < 9223372036854775808), decide (n < 9223372036854775808), decide (n < 9223372036854775808), decide (n < 9223372036854775808), decide (n < 9223372036854775808), decide (n < 9223372036854775808), decide (n < 9223372036854775808), decide (n < 9223372036854775808), true, true, true, decide (n = n)], .ints .u8 16 (hashR h l n [] 0)) := by kernel_rfl
theorem hashR_bufemp (h : List Int) (n : Nat) (l : List Int) : res (funcL Try.prog qP (deep Try.prog qP hr0 100 3) haΛ 100 10 (cArgs 0 [.pl (.ints .u8 16 h), .buf true .u8 n l, .empty]) (cMem [.pl (.ints .u8 16 h), .buf true .u8 n l, .empty])) = some ([true, decide (n < 1000000000), true, decide (n = n), decide (n = n), decide (TX.emp = TX.emp), true, true, decide (n < 9223372036854775808), decide (n < 9223372036854775808), decide (n < 9223372036854775808), decide (n < 9223372036854775808), decide (n < 9223372036854775808), decide (n < 9223372036854775808), decide (n < 9223372036854775808), decide (n < 9223372036854775808), true, true, true, decide (n = n), true], .ints .u8 16 (hashR h l n [] 0)) := by kernel_rfl
theorem hashR_bufbuf (h : List Int) (n : Nat) (l : List Int) (m : Nat) (q : List Int) : res (funcL Try.prog qP (deep Try.prog qP hr0 100 3) haΛ 100 10 (cArgs 0 [.pl (.ints .u8 16 h), .buf true .u8 n l, .buf true .u8 m q]) (cMem [.pl (.ints .u8 16 h), .buf true .u8 n l, .buf true .u8 m q])) = some ([true, decide (n < 1000000000), true, decide (n = n), decide (n = n), decide ((TX.buf m q) = (TX.buf m q)), true, decide (m = m), true, decide (m = m), decide (m < 1000000000), true, decide (m = m), decide (m = m), decide ((TX.buf n l) = (TX.buf n l)), true, decide (n = n), true, decide (n = n), decide (n < 9223372036854775808), decide (m < 9223372036854775808), decide (n < 9223372036854775808), decide (m < 9223372036854775808), decide (n < 9223372036854775808), decide (m < 9223372036854775808), decide (n < 9223372036854775808), decide (m < 9223372036854775808), decide (n < 9223372036854775808), decide (m < 9223372036854775808), decide (n < 9223372036854775808), decide (m < 9223372036854775808), decide (n < 9223372036854775808), decide (m < 9223372036854775808), decide (n < 9223372036854775808), decide (m < 9223372036854775808), true, true, true, decide (n = n), true, decide (m = m)], .ints .u8 16 (hashR h l n q m)) := by kernel_rfl
def txt9 : V → Option (List Bool × Nat × List Int)
  | .buf _ .u8 n l => some ([decide (n < 1000000000)], n, l)
  | .pl .nilslice => some ([], 0, [])
  | .empty => some ([], 0, [])
  | _ => none
/-- The reference's hash answers the program's. -/
def hashRS : List V → E (AV × Mem)
  | [.pl (.ints .u8 16 h), x, y] => match txt9 x, txt9 y with
    | some (o1, n, l), some (o2, m, q) => some (o1 ++ o2, (.ints .u8 16 (hashG h l n q m), []))
    | _, _ => none
  | _ => none
theorem hashR_ok {xs : List V} {o : List Bool} {v : AV} {bs : Mem} (h : hashRS xs = some (o, (v, bs))) (ho : Paid o) : ViewCall Try.prog 10 xs v bs := by
  unfold hashRS at h
  split at h
  · rename_i h0 x y
    split at h
    · rename_i o1 n l o2 m q h1 h2
      cases h
      obtain ⟨p1, p2⟩ := paid_append.1 ho
      intro ρ vs w ha hi
      cases ha with
      | cons _ _ u us a1 hs =>
      cases hs with
      | cons _ _ u2 us2 a2 hs =>
      cases hs with
      | cons _ _ u3 us3 a3 hn =>
      cases hn
      have hh : h0.length = 16 ∧ ∀ x ∈ h0, inR .u8 x = true := by cases a1 with | ints _ _ _ hn hl => exact ⟨hn, hl⟩
      have LO : ∀ (fn : Func) (c : Code), Try.prog.funcs[10]? = some fn → fn.body = some c → LOk Try.prog c haΛ := fun fn c hf hb => by rw [bodyOf_eq hf hb]; exact ha_lok
      have none9 : ∀ x ∈ ([] : List Int), inR .u8 x = true := fun x hx => by cases hx
      unfold txt9 at h1 h2
      split at h1 <;> cases h1 <;> split at h2 <;> cases h2
      · have hn := of_decide_eq_true (p1 _ (List.mem_cons_self ..))
        obtain ⟨l1, l2⟩ := buf_arg hi 1 rfl
        have hm := of_decide_eq_true (p2 _ (List.mem_cons_self ..))
        obtain ⟨m1, m2⟩ := buf_arg hi 2 rfl
        have ev := hashR_bufbuf h0 n l m q
        rw [hash_same hh.1 hh.2 l2 m2 l1 m1 hn hm] at ev
        exact view_of_resL mixed noCount (hr0_ok.deep mixed noCount 100 3) LO ev (paid_cons rfl (paid_cons (decide_eq_true hn) (paid_cons rfl (paid_cons (decide_eq_true rfl) (paid_cons (decide_eq_true rfl) (paid_cons (decide_eq_true rfl) (paid_cons rfl (paid_cons (decide_eq_true rfl) (paid_cons rfl (paid_cons (decide_eq_true rfl) (paid_cons (decide_eq_true hm) (paid_cons rfl (paid_cons (decide_eq_true rfl) (paid_cons (decide_eq_true rfl) (paid_cons (decide_eq_true rfl) (paid_cons rfl (paid_cons (decide_eq_true rfl) (paid_cons rfl (paid_cons (decide_eq_true rfl) (paid_cons (decide_eq_true (by omega)) (paid_cons (decide_eq_true (by omega)) (paid_cons (decide_eq_true (by omega)) (paid_cons (decide_eq_true (by omega)) (paid_cons (decide_eq_true (by omega)) (paid_cons (decide_eq_true (by omega)) (paid_cons (decide_eq_true (by omega)) (paid_cons (decide_eq_true (by omega)) (paid_cons (decide_eq_true (by omega)) (paid_cons (decide_eq_true (by omega)) (paid_cons (decide_eq_true (by omega)) (paid_cons (decide_eq_true (by omega)) (paid_cons (decide_eq_true (by omega)) (paid_cons (decide_eq_true (by omega)) (paid_cons (decide_eq_true (by omega)) (paid_cons (decide_eq_true (by omega)) (paid_cons rfl (paid_cons rfl (paid_cons rfl (paid_cons (decide_eq_true rfl) (paid_cons rfl (paid_cons (decide_eq_true rfl) Paid.nil))))))))))))))))))))))))))))))))))))))))) rfl rfl (.cons _ _ _ _ a1 (.cons _ _ _ _ (marked true a2) (.cons _ _ _ _ (marked true a3) .nil))) hi
      · have hn := of_decide_eq_true (p1 _ (List.mem_cons_self ..))
        obtain ⟨l1, l2⟩ := buf_arg hi 1 rfl
        have ev := hashR_bufnil h0 n l
        rw [hash_same hh.1 hh.2 l2 none9 l1 (show ([] : List Int).length = 0 from rfl) hn (by decide)] at ev
        exact view_of_resL mixed noCount (hr0_ok.deep mixed noCount 100 3) LO ev (paid_cons rfl (paid_cons (decide_eq_true hn) (paid_cons rfl (paid_cons (decide_eq_true rfl) (paid_cons (decide_eq_true rfl) (paid_cons (decide_eq_true rfl) (paid_cons (decide_eq_true (by omega)) (paid_cons (decide_eq_true (by omega)) (paid_cons (decide_eq_true (by omega)) (paid_cons (decide_eq_true (by omega)) (paid_cons (decide_eq_true (by omega)) (paid_cons (decide_eq_true (by omega)) (paid_cons (decide_eq_true (by omega)) (paid_cons (decide_eq_true (by omega)) (paid_cons rfl (paid_cons rfl (paid_cons rfl (paid_cons (decide_eq_true rfl) Paid.nil)))))))))))))))))) rfl rfl (.cons _ _ _ _ a1 (.cons _ _ _ _ (marked true a2) (.cons _ _ _ _ a3 .nil))) hi
      · have hn := of_decide_eq_true (p1 _ (List.mem_cons_self ..))
        obtain ⟨l1, l2⟩ := buf_arg hi 1 rfl
        have ev := hashR_bufemp h0 n l
        rw [hash_same hh.1 hh.2 l2 none9 l1 (show ([] : List Int).length = 0 from rfl) hn (by decide)] at ev
        exact view_of_resL mixed noCount (hr0_ok.deep mixed noCount 100 3) LO ev (paid_cons rfl (paid_cons (decide_eq_true hn) (paid_cons rfl (paid_cons (decide_eq_true rfl) (paid_cons (decide_eq_true rfl) (paid_cons (decide_eq_true rfl) (paid_cons rfl (paid_cons rfl (paid_cons (decide_eq_true (by omega)) (paid_cons (decide_eq_true (by omega)) (paid_cons (decide_eq_true (by omega)) (paid_cons (decide_eq_true (by omega)) (paid_cons (decide_eq_true (by omega)) (paid_cons (decide_eq_true (by omega)) (paid_cons (decide_eq_true (by omega)) (paid_cons (decide_eq_true (by omega)) (paid_cons rfl (paid_cons rfl (paid_cons rfl (paid_cons (decide_eq_true rfl) (paid_cons rfl Paid.nil))))))))))))))))))))) rfl rfl (.cons _ _ _ _ a1 (.cons _ _ _ _ (marked true a2) (.cons _ _ _ _ a3 .nil))) hi
      · have hm := of_decide_eq_true (p2 _ (List.mem_cons_self ..))
        obtain ⟨m1, m2⟩ := buf_arg hi 2 rfl
        have ev := hashR_nilbuf h0 m q
        rw [hash_same hh.1 hh.2 none9 m2 (show ([] : List Int).length = 0 from rfl) m1 (by decide) hm] at ev
        exact view_of_resL mixed noCount (hr0_ok.deep mixed noCount 100 3) LO ev (paid_cons rfl (paid_cons (decide_eq_true hm) (paid_cons rfl (paid_cons (decide_eq_true rfl) (paid_cons (decide_eq_true rfl) (paid_cons (decide_eq_true rfl) (paid_cons (decide_eq_true (by omega)) (paid_cons (decide_eq_true (by omega)) (paid_cons (decide_eq_true (by omega)) (paid_cons (decide_eq_true (by omega)) (paid_cons (decide_eq_true (by omega)) (paid_cons (decide_eq_true (by omega)) (paid_cons (decide_eq_true (by omega)) (paid_cons (decide_eq_true (by omega)) (paid_cons rfl (paid_cons rfl (paid_cons rfl (paid_cons (decide_eq_true rfl) Paid.nil)))))))))))))))))) rfl rfl (.cons _ _ _ _ a1 (.cons _ _ _ _ a2 (.cons _ _ _ _ (marked true a3) .nil))) hi
      · have ev := hashR_nilnil h0
        rw [hash_same hh.1 hh.2 none9 none9 (show ([] : List Int).length = 0 from rfl) (show ([] : List Int).length = 0 from rfl) (by decide) (by decide)] at ev
        exact view_of_resL mixed noCount (hr0_ok.deep mixed noCount 100 3) LO ev (paid_cons rfl (paid_cons rfl (paid_cons rfl Paid.nil))) rfl rfl (.cons _ _ _ _ a1 (.cons _ _ _ _ a2 (.cons _ _ _ _ a3 .nil))) hi
      · have ev := hashR_nilemp h0
        rw [hash_same hh.1 hh.2 none9 none9 (show ([] : List Int).length = 0 from rfl) (show ([] : List Int).length = 0 from rfl) (by decide) (by decide)] at ev
        exact view_of_resL mixed noCount (hr0_ok.deep mixed noCount 100 3) LO ev (paid_cons rfl (paid_cons rfl (paid_cons rfl (paid_cons rfl Paid.nil)))) rfl rfl (.cons _ _ _ _ a1 (.cons _ _ _ _ a2 (.cons _ _ _ _ a3 .nil))) hi
      · have hm := of_decide_eq_true (p2 _ (List.mem_cons_self ..))
        obtain ⟨m1, m2⟩ := buf_arg hi 2 rfl
        have ev := hashR_empbuf h0 m q
        rw [hash_same hh.1 hh.2 none9 m2 (show ([] : List Int).length = 0 from rfl) m1 (by decide) hm] at ev
        exact view_of_resL mixed noCount (hr0_ok.deep mixed noCount 100 3) LO ev (paid_cons rfl (paid_cons (decide_eq_true hm) (paid_cons rfl (paid_cons (decide_eq_true rfl) (paid_cons (decide_eq_true rfl) (paid_cons (decide_eq_true rfl) (paid_cons rfl (paid_cons rfl (paid_cons (decide_eq_true (by omega)) (paid_cons (decide_eq_true (by omega)) (paid_cons (decide_eq_true (by omega)) (paid_cons (decide_eq_true (by omega)) (paid_cons (decide_eq_true (by omega)) (paid_cons (decide_eq_true (by omega)) (paid_cons (decide_eq_true (by omega)) (paid_cons (decide_eq_true (by omega)) (paid_cons rfl (paid_cons rfl (paid_cons rfl (paid_cons rfl (paid_cons (decide_eq_true rfl) Paid.nil))))))))))))))))))))) rfl rfl (.cons _ _ _ _ a1 (.cons _ _ _ _ a2 (.cons _ _ _ _ (marked true a3) .nil))) hi
      · have ev := hashR_empnil h0
        rw [hash_same hh.1 hh.2 none9 none9 (show ([] : List Int).length = 0 from rfl) (show ([] : List Int).length = 0 from rfl) (by decide) (by decide)] at ev
        exact view_of_resL mixed noCount (hr0_ok.deep mixed noCount 100 3) LO ev (paid_cons rfl (paid_cons rfl (paid_cons rfl (paid_cons rfl Paid.nil)))) rfl rfl (.cons _ _ _ _ a1 (.cons _ _ _ _ a2 (.cons _ _ _ _ a3 .nil))) hi
      · have ev := hashR_empemp h0
        rw [hash_same hh.1 hh.2 none9 none9 (show ([] : List Int).length = 0 from rfl) (show ([] : List Int).length = 0 from rfl) (by decide) (by decide)] at ev
        exact view_of_resL mixed noCount (hr0_ok.deep mixed noCount 100 3) LO ev (paid_cons rfl (paid_cons rfl (paid_cons rfl (paid_cons rfl (paid_cons rfl Paid.nil))))) rfl rfl (.cons _ _ _ _ a1 (.cons _ _ _ _ a2 (.cons _ _ _ _ a3 .nil))) hi
    · cases h
  · cases h
def hr1 : CallH := withV 10 hashRS hr0
theorem hr1_ok : HOk Try.prog hr1 := hr0_ok.withV fun _ _ _ _ h ho => hashR_ok h ho
end Go.Proofs.Ytljndahfackolaa
