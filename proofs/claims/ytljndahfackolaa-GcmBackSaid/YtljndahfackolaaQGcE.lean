/- The program's gcm: counters, tags: contracts. Own work. -/
import Derived.Test.YtljndahfackolaaQGcP
import Derived.Test.YtljndahfackolaaQEqF
set_option linter.unusedSimpArgs false
set_option linter.unusedVariables false
set_option linter.unusedSectionVars false
namespace Go.Gc
open Go.Ev Go.Sh Go.As
/-- A nonce and a number behind it. -/
def ctrB (l : List Int) (c : Int) : List Int := ((((l.take 12 ++ [0, 0, 0, 0]).set 15 (IntKind.u8.wrap c)).set 14 (IntKind.u8.wrap (ishr .u32 c 8))).set 13 (IntKind.u8.wrap (ishr .u32 (ishr .u32 c 8) 8))).set 12 (IntKind.u8.wrap (ishr .u32 (ishr .u32 (ishr .u32 c 8) 8) 8))
def x16 (a b : List Int) : List Int := (List.range 16).map fun i => ixor .u8 (a.getD i 0) (b.getD i 0)
/-- The tag of a text of m bytes and what goes along. -/
def tagB (W : List Int) (r : Nat) (l a : List Int) (n : Nat) (q : List Int) (m : Nat) : List Int := x16 (hashG (encB W r Z16) a n q m) (encB W r (ctrB l 1))
def keyA (r : Bool) (W : List Int) : V := .pt (.wide [.int false .i64 (match r with | true => 14 | false => 10), .ints .u8 240 W])
def rds (r : Bool) : Nat := match r with | true => 14 | false => 10
end Go.Gc
namespace Go.Proofs.Ytljndahfackolaa
open Go.Ev Go.Sh Go.As Go.Gc
set_option maxRecDepth 100000
def ctrS : List V → E (AV × Mem)
  | [.buf false .u8 12 l, .pl (.int s .u32 c)] => some ([], (.ints .u8 16 (ctrB l c), []))
  | _ => none
theorem ctr_eval (l : List Int) (s : Bool) (c : Int) : res (funcA Try.prog qP (deep Try.prog qP hr1 100 3) 100 41 (cArgs 0 [.buf false .u8 12 l, .pl (.int s .u32 c)]) (cMem [.buf false .u8 12 l, .pl (.int s .u32 c)])) = some ([], .ints .u8 16 (ctrB l c)) := by cases s <;> kernel_rfl
theorem ctr_ok {xs : List V} {o : List Bool} {v : AV} {bs : Mem} (h : ctrS xs = some (o, (v, bs))) : ViewCall Try.prog 41 xs v bs := by
  unfold ctrS at h
  split at h
  · rename_i l s c
    cases h
    exact @view_of_res _ _ _ _ mixed noCount (hr1_ok.deep mixed noCount 100 3) _ _ _ _ _ _ (ctr_eval l s c) Paid.nil rfl rfl
  · cases h
def he1 : CallH := withV 33 equS (withV 41 ctrS hr1)
theorem he1_ok : HOk Try.prog he1 := (hr1_ok.withV fun _ _ _ _ h _ => ctr_ok h).withV fun _ _ _ _ h ho => equ_ok h ho
theorem tag_bufbuf (r : Bool) (W l : List Int) (n : Nat) (a : List Int) (m : Nat) (q : List Int) : res (funcA Try.prog qP (deep Try.prog qP he1 100 3) 100 32 (cArgs 0 [keyA r W, .buf false .u8 12 l, .buf true .u8 n a, .buf true .u8 m q]) (cMem [keyA r W, .buf false .u8 12 l, .buf true .u8 n a, .buf true .u8 m q])) = some ([decide (0 + n ≤ n), decide (0 + m ≤ m), decide (n < 9223372036854775808), decide (m < 9223372036854775808)], .ints .u8 16 (tagB W (rds r) l ((a.drop 0).take n) n ((q.drop 0).take m) m)) := by cases r <;> kernel_rfl
theorem tag_bufnil (r : Bool) (W l : List Int) (n : Nat) (a : List Int) : res (funcA Try.prog qP (deep Try.prog qP he1 100 3) 100 32 (cArgs 0 [keyA r W, .buf false .u8 12 l, .buf true .u8 n a, .pl .nilslice]) (cMem [keyA r W, .buf false .u8 12 l, .buf true .u8 n a, .pl .nilslice])) = some ([decide (0 + n ≤ n), decide (n < 9223372036854775808)], .ints .u8 16 (tagB W (rds r) l ((a.drop 0).take n) n [] 0)) := by cases r <;> kernel_rfl
theorem tag_bufemp (r : Bool) (W l : List Int) (n : Nat) (a : List Int) : res (funcA Try.prog qP (deep Try.prog qP he1 100 3) 100 32 (cArgs 0 [keyA r W, .buf false .u8 12 l, .buf true .u8 n a, .empty]) (cMem [keyA r W, .buf false .u8 12 l, .buf true .u8 n a, .empty])) = some ([decide (0 + n ≤ n), decide (n < 9223372036854775808)], .ints .u8 16 (tagB W (rds r) l ((a.drop 0).take n) n [] 0)) := by cases r <;> kernel_rfl
theorem tag_nilbuf (r : Bool) (W l : List Int) (m : Nat) (q : List Int) : res (funcA Try.prog qP (deep Try.prog qP he1 100 3) 100 32 (cArgs 0 [keyA r W, .buf false .u8 12 l, .pl .nilslice, .buf true .u8 m q]) (cMem [keyA r W, .buf false .u8 12 l, .pl .nilslice, .buf true .u8 m q])) = some ([decide (0 + m ≤ m), decide (m < 9223372036854775808)], .ints .u8 16 (tagB W (rds r) l [] 0 ((q.drop 0).take m) m)) := by cases r <;> kernel_rfl
theorem tag_nilnil (r : Bool) (W l : List Int) : res (funcA Try.prog qP (deep Try.prog qP he1 100 3) 100 32 (cArgs 0 [keyA r W, .buf false .u8 12 l, .pl .nilslice, .pl .nilslice]) (cMem [keyA r W, .buf false .u8 12 l, .pl .nilslice, .pl .nilslice])) = some ([], .ints .u8 16 (tagB W (rds r) l [] 0 [] 0)) := by cases r <;> kernel_rfl
theorem tag_nilemp (r : Bool) (W l : List Int) : res (funcA Try.prog qP (deep Try.prog qP he1 100 3) 100 32 (cArgs 0 [keyA r W, .buf false .u8 12 l, .pl .nilslice, .empty]) (cMem [keyA r W, .buf false .u8 12 l, .pl .nilslice, .empty])) = some ([], .ints .u8 16 (tagB W (rds r) l [] 0 [] 0)) := by cases r <;> kernel_rfl
theorem tag_empbuf (r : Bool) (W l : List Int) (m : Nat) (q : List Int) : res (funcA Try.prog qP (deep Try.prog qP he1 100 3) 100 32 (cArgs 0 [keyA r W, .buf false .u8 12 l, .empty, .buf true .u8 m q]) (cMem [keyA r W, .buf false .u8 12 l, .empty, .buf true .u8 m q])) = some ([decide (0 + m ≤ m), decide (m < 9223372036854775808)], .ints .u8 16 (tagB W (rds r) l [] 0 ((q.drop 0).take m) m)) := by cases r <;> kernel_rfl
theorem tag_empnil (r : Bool) (W l : List Int) : res (funcA Try.prog qP (deep Try.prog qP he1 100 3) 100 32 (cArgs 0 [keyA r W, .buf false .u8 12 l, .empty, .pl .nilslice]) (cMem [keyA r W, .buf false .u8 12 l, .empty, .pl .nilslice])) = some ([], .ints .u8 16 (tagB W (rds r) l [] 0 [] 0)) := by cases r <;> kernel_rfl
theorem tag_empemp (r : Bool) (W l : List Int) : res (funcA Try.prog qP (deep Try.prog qP he1 100 3) 100 32 (cArgs 0 [keyA r W, .buf false .u8 12 l, .empty, .empty]) (cMem [keyA r W, .buf false .u8 12 l, .empty, .empty])) = some ([], .ints .u8 16 (tagB W (rds r) l [] 0 [] 0)) := by cases r <;> kernel_rfl
def keyOf? : V → Option (Bool × List Int)
  | .pt (.wide [.int false .i64 10, .ints .u8 240 W]) => some (false, W)
  | .pt (.wide [.int false .i64 14, .ints .u8 240 W]) => some (true, W)
  | _ => none
theorem keyOf_ok {k : V} {r : Bool} {W : List Int} (h : keyOf? k = some (r, W)) : k = keyA r W := by
  unfold keyOf? at h
  split at h <;> cases h <;> rfl
def tagS : List V → E (AV × Mem)
  | [k, .buf false .u8 12 l, x, y] => match keyOf? k, txt x, txt y with
    | some (r, W), some (o1, n, a), some (o2, m, q) => some (o1 ++ o2, (.ints .u8 16 (tagB W (rds r) l a n q m), []))
    | _, _, _ => none
  | _ => none
theorem tag_ok {xs : List V} {o : List Bool} {v : AV} {bs : Mem} (h : tagS xs = some (o, (v, bs))) (ho : Paid o) : ViewCall Try.prog 32 xs v bs := by
  unfold tagS at h
  split at h
  · rename_i k l x y
    split at h
    · rename_i r W o1 n a o2 m q hk h1 h2
      obtain rfl := keyOf_ok hk
      cases h
      obtain ⟨q1, q2⟩ := paid_append.1 ho
      intro ρ vs w ha hi
      cases ha with
      | cons _ _ u us a0 hs =>
      cases hs with
      | cons _ _ u1 us1 a1 hs =>
      cases hs with
      | cons _ _ u2 us2 a2 hs =>
      cases hs with
      | cons _ _ u3 us3 a3 hn =>
      cases hn
      unfold txt at h1 h2
      split at h1 <;> cases h1 <;> split at h2 <;> cases h2
      · obtain ⟨e1, e2⟩ := buf_len hi (i := 2) rfl
        obtain ⟨e3, e4⟩ := buf_len hi (i := 3) rfl
        have ev := tag_bufbuf r W l n a m q
        rw [e2, e4] at ev
        exact view_of_res mixed noCount (he1_ok.deep mixed noCount 100 3) ev (paid_cons (decide_eq_true (by omega)) (paid_cons (decide_eq_true (by omega)) (paid_cons (q1 _ (List.mem_cons_self ..)) (paid_cons (q2 _ (List.mem_cons_self ..)) (Paid.nil))))) rfl rfl (.cons _ _ _ _ a0 (.cons _ _ _ _ a1 (.cons _ _ _ _ (marked true a2) (.cons _ _ _ _ (marked true a3) .nil)))) hi
      · obtain ⟨e1, e2⟩ := buf_len hi (i := 2) rfl
        have ev := tag_bufnil r W l n a
        rw [e2] at ev
        exact view_of_res mixed noCount (he1_ok.deep mixed noCount 100 3) ev (paid_cons (decide_eq_true (by omega)) (paid_cons (q1 _ (List.mem_cons_self ..)) (Paid.nil))) rfl rfl (.cons _ _ _ _ a0 (.cons _ _ _ _ a1 (.cons _ _ _ _ (marked true a2) (.cons _ _ _ _ a3 .nil)))) hi
      · obtain ⟨e1, e2⟩ := buf_len hi (i := 2) rfl
        have ev := tag_bufemp r W l n a
        rw [e2] at ev
        exact view_of_res mixed noCount (he1_ok.deep mixed noCount 100 3) ev (paid_cons (decide_eq_true (by omega)) (paid_cons (q1 _ (List.mem_cons_self ..)) (Paid.nil))) rfl rfl (.cons _ _ _ _ a0 (.cons _ _ _ _ a1 (.cons _ _ _ _ (marked true a2) (.cons _ _ _ _ a3 .nil)))) hi
      · obtain ⟨e3, e4⟩ := buf_len hi (i := 3) rfl
        have ev := tag_nilbuf r W l m q
        rw [e4] at ev
        exact view_of_res mixed noCount (he1_ok.deep mixed noCount 100 3) ev (paid_cons (decide_eq_true (by omega)) (paid_cons (q2 _ (List.mem_cons_self ..)) (Paid.nil))) rfl rfl (.cons _ _ _ _ a0 (.cons _ _ _ _ a1 (.cons _ _ _ _ a2 (.cons _ _ _ _ (marked true a3) .nil)))) hi
      · have ev := tag_nilnil r W l
        exact view_of_res mixed noCount (he1_ok.deep mixed noCount 100 3) ev (Paid.nil) rfl rfl (.cons _ _ _ _ a0 (.cons _ _ _ _ a1 (.cons _ _ _ _ a2 (.cons _ _ _ _ a3 .nil)))) hi
      · have ev := tag_nilemp r W l
        exact view_of_res mixed noCount (he1_ok.deep mixed noCount 100 3) ev (Paid.nil) rfl rfl (.cons _ _ _ _ a0 (.cons _ _ _ _ a1 (.cons _ _ _ _ a2 (.cons _ _ _ _ a3 .nil)))) hi
      · obtain ⟨e3, e4⟩ := buf_len hi (i := 3) rfl
        have ev := tag_empbuf r W l m q
        rw [e4] at ev
        exact view_of_res mixed noCount (he1_ok.deep mixed noCount 100 3) ev (paid_cons (decide_eq_true (by omega)) (paid_cons (q2 _ (List.mem_cons_self ..)) (Paid.nil))) rfl rfl (.cons _ _ _ _ a0 (.cons _ _ _ _ a1 (.cons _ _ _ _ a2 (.cons _ _ _ _ (marked true a3) .nil)))) hi
      · have ev := tag_empnil r W l
        exact view_of_res mixed noCount (he1_ok.deep mixed noCount 100 3) ev (Paid.nil) rfl rfl (.cons _ _ _ _ a0 (.cons _ _ _ _ a1 (.cons _ _ _ _ a2 (.cons _ _ _ _ a3 .nil)))) hi
      · have ev := tag_empemp r W l
        exact view_of_res mixed noCount (he1_ok.deep mixed noCount 100 3) ev (Paid.nil) rfl rfl (.cons _ _ _ _ a0 (.cons _ _ _ _ a1 (.cons _ _ _ _ a2 (.cons _ _ _ _ a3 .nil)))) hi
    · cases h
  · cases h
def he2 : CallH := withV 32 tagS he1
theorem he2_ok : HOk Try.prog he2 := he1_ok.withV fun _ _ _ _ h ho => tag_ok h ho
end Go.Proofs.Ytljndahfackolaa
