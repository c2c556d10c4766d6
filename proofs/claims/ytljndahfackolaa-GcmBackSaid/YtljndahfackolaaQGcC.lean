/- The program's gcm: Hash: its contract. Own work. -/
import Derived.Test.YtljndahfackolaaQGcB
set_option linter.unusedSimpArgs false
set_option linter.unusedVariables false
set_option linter.unusedSectionVars false
namespace Go.Gc
open Go.Ev Go.Sh
def lenW (n : Nat) : Int := IntKind.u64.wrap (8 * IntKind.u64.wrap (n : Int))
def keyG (h : List Int) : Int × Int := (rd8 h 0, rd8 h 8)
def mulX0 (h p : Int × Int) (a b : Int) : Int × Int := ((mulW (ixor .u64 p.1 a) (ixor .u64 p.2 b) h.1 h.2).sh, (mulW (ixor .u64 p.1 a) (ixor .u64 p.2 b) h.1 h.2).st)
/-- The hash of two texts of n and m bytes. -/
def hashG (h l : List Int) (n : Nat) (q : List Int) (m : Nat) : List Int :=
  blkP (mulX0 (keyG h) (absW q m (keyG h) (absW l n (keyG h) (0, 0))) (lenW n) (lenW m)).1 (mulX0 (keyG h) (absW q m (keyG h) (absW l n (keyG h) (0, 0))) (lenW n) (lenW m)).2
def txt : V → Option (List Bool × Nat × List Int)
  | .buf _ .u8 n l => some ([decide (n < 9223372036854775808)], n, l)
  | .pl .nilslice => some ([], 0, [])
  | .empty => some ([], 0, [])
  | _ => none
end Go.Gc
namespace Go.Proofs.Ytljndahfackolaa
open Go.Ev Go.Sh Go.As Go.Gc
set_option maxRecDepth 100000
theorem hash_bufbuf (h : List Int) (n : Nat) (l : List Int) (m : Nat) (q : List Int) : res (funcA Try.prog qP (deep Try.prog qP hg2 100 3) 100 9 (cArgs 0 [.pl (.ints .u8 16 h), .buf true .u8 n l, .buf true .u8 m q]) (cMem [.pl (.ints .u8 16 h), .buf true .u8 n l, .buf true .u8 m q])) = some ([decide (0 + n ≤ n), decide (n < 9223372036854775808), decide (0 + m ≤ m), decide (m < 9223372036854775808), decide (n < 9223372036854775808), decide (m < 9223372036854775808)], .ints .u8 16 (hashG h ((l.drop 0).take n) n ((q.drop 0).take m) m)) := by kernel_rfl
theorem hash_bufnil (h : List Int) (n : Nat) (l : List Int) : res (funcA Try.prog qP (deep Try.prog qP hg2 100 3) 100 9 (cArgs 0 [.pl (.ints .u8 16 h), .buf true .u8 n l, .pl .nilslice]) (cMem [.pl (.ints .u8 16 h), .buf true .u8 n l, .pl .nilslice])) = some ([decide (0 + n ≤ n), decide (n < 9223372036854775808), decide (n < 9223372036854775808)], .ints .u8 16 (hashG h ((l.drop 0).take n) n [] 0)) := by kernel_rfl
theorem hash_bufemp (h : List Int) (n : Nat) (l : List Int) : res (funcA Try.prog qP (deep Try.prog qP hg2 100 3) 100 9 (cArgs 0 [.pl (.ints .u8 16 h), .buf true .u8 n l, .empty]) (cMem [.pl (.ints .u8 16 h), .buf true .u8 n l, .empty])) = some ([decide (0 + n ≤ n), decide (n < 9223372036854775808), decide (n < 9223372036854775808)], .ints .u8 16 (hashG h ((l.drop 0).take n) n [] 0)) := by kernel_rfl
theorem hash_nilbuf (h : List Int) (m : Nat) (q : List Int) : res (funcA Try.prog qP (deep Try.prog qP hg2 100 3) 100 9 (cArgs 0 [.pl (.ints .u8 16 h), .pl .nilslice, .buf true .u8 m q]) (cMem [.pl (.ints .u8 16 h), .pl .nilslice, .buf true .u8 m q])) = some ([decide (0 + m ≤ m), decide (m < 9223372036854775808), decide (m < 9223372036854775808)], .ints .u8 16 (hashG h [] 0 ((q.drop 0).take m) m)) := by kernel_rfl
theorem hash_nilnil (h : List Int) : res (funcA Try.prog qP (deep Try.prog qP hg2 100 3) 100 9 (cArgs 0 [.pl (.ints .u8 16 h), .pl .nilslice, .pl .nilslice]) (cMem [.pl (.ints .u8 16 h), .pl .nilslice, .pl .nilslice])) = some ([], .ints .u8 16 (hashG h [] 0 [] 0)) := by kernel_rfl
theorem hash_nilemp (h : List Int) : res (funcA Try.prog qP (deep Try.prog qP hg2 100 3) 100 9 (cArgs 0 [.pl (.ints .u8 16 h), .pl .nilslice, .empty]) (cMem [.pl (.ints .u8 16 h), .pl .nilslice, .empty])) = some ([], .ints .u8 16 (hashG h [] 0 [] 0)) := by kernel_rfl
theorem hash_empbuf (h : List Int) (m : Nat) (q : List Int) : res (funcA Try.prog qP (deep Try.prog qP hg2 100 3) 100 9 (cArgs 0 [.pl (.ints .u8 16 h), .empty, .buf true .u8 m q]) (cMem [.pl (.ints .u8 16 h), .empty, .buf true .u8 m q])) = some ([decide (0 + m ≤ m), decide (m < 9223372036854775808), decide (m < 9223372036854775808)], .ints .u8 16 (hashG h [] 0 ((q.drop 0).take m) m)) := by kernel_rfl
theorem hash_empnil (h : List Int) : res (funcA Try.prog qP (deep Try.prog qP hg2 100 3) 100 9 (cArgs 0 [.pl (.ints .u8 16 h), .empty, .pl .nilslice]) (cMem [.pl (.ints .u8 16 h), .empty, .pl .nilslice])) = some ([], .ints .u8 16 (hashG h [] 0 [] 0)) := by kernel_rfl
theorem hash_empemp (h : List Int) : res (funcA Try.prog qP (deep Try.prog qP hg2 100 3) 100 9 (cArgs 0 [.pl (.ints .u8 16 h), .empty, .empty]) (cMem [.pl (.ints .u8 16 h), .empty, .empty])) = some ([], .ints .u8 16 (hashG h [] 0 [] 0)) := by kernel_rfl
def hashS : List V → E (AV × Mem)
  | [.pl (.ints .u8 16 h), x, y] => match txt x, txt y with
    | some (o, n, l), some (p, m, q) => some (o ++ p, (.ints .u8 16 (hashG h l n q m), []))
    | _, _ => none
  | _ => none
theorem txt_cases {x : V} {o : List Bool} {n : Nat} {l : List Int} (h : txt x = some (o, n, l)) : (∃ s, x = .buf s .u8 n l ∧ o = [decide (n < 9223372036854775808)]) ∨ (x = .pl .nilslice ∧ o = [] ∧ n = 0 ∧ l = []) ∨ (x = .empty ∧ o = [] ∧ n = 0 ∧ l = []) := by
  unfold txt at h
  split at h
  · cases h; exact Or.inl ⟨_, rfl, rfl⟩
  · cases h; exact Or.inr (Or.inl ⟨rfl, rfl, rfl, rfl⟩)
  · cases h; exact Or.inr (Or.inr ⟨rfl, rfl, rfl, rfl⟩)
  · cases h
theorem buf_len {xs : List V} {i : Nat} {s : Bool} {n : Nat} {l : List Int} {ρ : Nat → Loc3} {S N : Nat → Prop} {w w0 : World} (hi : Inv w0 S N ρ (getName (cMem xs)) w) (hx : xs[i]? = some (.buf s .u8 n l)) : l.length = n ∧ (l.drop 0).take n = l := by
  obtain ⟨cs2, t2, lo2, hi2, c1, c2, c3, c4, c5⟩ := (hi.sim.blk i _ (cMem_get hx rfl)).ex
  have h : l.length = n := c5.1 _ rfl
  exact ⟨h, by rw [List.drop_zero, List.take_of_length_le (by omega)]⟩
theorem hash_ok {xs : List V} {o : List Bool} {v : AV} {bs : Mem} (h : hashS xs = some (o, (v, bs))) (ho : Paid o) : ViewCall Try.prog 9 xs v bs := by
  unfold hashS at h
  split at h
  · rename_i h0 x y
    split at h
    · rename_i o1 n l o2 m q h1 h2
      cases h
      obtain ⟨p1, p2⟩ := paid_append.1 ho
      intro ρ vs w ha hi
      cases ha with
      | cons _ _ u us a1 hs =>
      cases hs with
      | cons _ _ u2 us2 a2 hs =>
      cases hs with
      | cons _ _ u3 us3 a3 hn =>
      cases hn
      rcases txt_cases h1 with ⟨s, rfl, rfl⟩ | ⟨rfl, rfl, rfl, rfl⟩ | ⟨rfl, rfl, rfl, rfl⟩ <;> rcases txt_cases h2 with ⟨s2, rfl, rfl⟩ | ⟨rfl, rfl, rfl, rfl⟩ | ⟨rfl, rfl, rfl, rfl⟩
      · obtain ⟨e1, e2⟩ := buf_len hi (i := 1) rfl
        have d1 := p1 _ (List.mem_cons_self ..)
        have z1 : decide (0 + n ≤ n) = true := decide_eq_true (by omega)
        obtain ⟨e3, e4⟩ := buf_len hi (i := 2) rfl
        have d2 := p2 _ (List.mem_cons_self ..)
        have z2 : decide (0 + m ≤ m) = true := decide_eq_true (by omega)
        have ev := hash_bufbuf h0 n l m q
        rw [e2, e4] at ev
        exact view_of_res mixed noCount (hg2_ok.deep mixed noCount 100 3) ev (paid_cons z1 (paid_cons d1 (paid_cons z2 (paid_cons d2 (paid_cons d1 (paid_cons d2 Paid.nil)))))) rfl rfl (.cons _ _ _ _ a1 (.cons _ _ _ _ (marked true a2) (.cons _ _ _ _ (marked true a3) .nil))) hi
      · obtain ⟨e1, e2⟩ := buf_len hi (i := 1) rfl
        have d1 := p1 _ (List.mem_cons_self ..)
        have z1 : decide (0 + n ≤ n) = true := decide_eq_true (by omega)
        have ev := hash_bufnil h0 n l
        rw [e2] at ev
        exact view_of_res mixed noCount (hg2_ok.deep mixed noCount 100 3) ev (paid_cons z1 (paid_cons d1 (paid_cons d1 Paid.nil))) rfl rfl (.cons _ _ _ _ a1 (.cons _ _ _ _ (marked true a2) (.cons _ _ _ _ a3 .nil))) hi
      · obtain ⟨e1, e2⟩ := buf_len hi (i := 1) rfl
        have d1 := p1 _ (List.mem_cons_self ..)
        have z1 : decide (0 + n ≤ n) = true := decide_eq_true (by omega)
        have ev := hash_bufemp h0 n l
        rw [e2] at ev
        exact view_of_res mixed noCount (hg2_ok.deep mixed noCount 100 3) ev (paid_cons z1 (paid_cons d1 (paid_cons d1 Paid.nil))) rfl rfl (.cons _ _ _ _ a1 (.cons _ _ _ _ (marked true a2) (.cons _ _ _ _ a3 .nil))) hi
      · obtain ⟨e3, e4⟩ := buf_len hi (i := 2) rfl
        have d2 := p2 _ (List.mem_cons_self ..)
        have z2 : decide (0 + m ≤ m) = true := decide_eq_true (by omega)
        have ev := hash_nilbuf h0 m q
        rw [e4] at ev
        exact view_of_res mixed noCount (hg2_ok.deep mixed noCount 100 3) ev (paid_cons z2 (paid_cons d2 (paid_cons d2 Paid.nil))) rfl rfl (.cons _ _ _ _ a1 (.cons _ _ _ _ a2 (.cons _ _ _ _ (marked true a3) .nil))) hi
      · have ev := hash_nilnil h0
        exact view_of_res mixed noCount (hg2_ok.deep mixed noCount 100 3) ev Paid.nil rfl rfl (.cons _ _ _ _ a1 (.cons _ _ _ _ a2 (.cons _ _ _ _ a3 .nil))) hi
      · have ev := hash_nilemp h0
        exact view_of_res mixed noCount (hg2_ok.deep mixed noCount 100 3) ev Paid.nil rfl rfl (.cons _ _ _ _ a1 (.cons _ _ _ _ a2 (.cons _ _ _ _ a3 .nil))) hi
      · obtain ⟨e3, e4⟩ := buf_len hi (i := 2) rfl
        have d2 := p2 _ (List.mem_cons_self ..)
        have z2 : decide (0 + m ≤ m) = true := decide_eq_true (by omega)
        have ev := hash_empbuf h0 m q
        rw [e4] at ev
        exact view_of_res mixed noCount (hg2_ok.deep mixed noCount 100 3) ev (paid_cons z2 (paid_cons d2 (paid_cons d2 Paid.nil))) rfl rfl (.cons _ _ _ _ a1 (.cons _ _ _ _ a2 (.cons _ _ _ _ (marked true a3) .nil))) hi
      · have ev := hash_empnil h0
        exact view_of_res mixed noCount (hg2_ok.deep mixed noCount 100 3) ev Paid.nil rfl rfl (.cons _ _ _ _ a1 (.cons _ _ _ _ a2 (.cons _ _ _ _ a3 .nil))) hi
      · have ev := hash_empemp h0
        exact view_of_res mixed noCount (hg2_ok.deep mixed noCount 100 3) ev Paid.nil rfl rfl (.cons _ _ _ _ a1 (.cons _ _ _ _ a2 (.cons _ _ _ _ a3 .nil))) hi
    · cases h
  · cases h
def hg3 : CallH := withV 9 hashS hg2
theorem hg3_ok : HOk Try.prog hg3 := hg2_ok.withV fun _ _ _ _ h ho => hash_ok h ho
end Go.Proofs.Ytljndahfackolaa
