/- Contracts of functions that write what their arguments point to. Own work. -/
import Derived.Test.YtjhjhhibfojpiaaDoorVEvLoop
set_option linter.unusedSimpArgs false
set_option linter.unusedVariables false
set_option linter.unusedSectionVars false
namespace Go.Ev
set_option linter.unusedSectionVars false
variable [Tab]

/-- An argument's view, and the name that it looks at; 'true': what is pointed to may be written. -/
def viewW (m : Mem) (wr : Bool) (a : AV) : E (V × Option Nat) :=
  match wr, a with
  | true, .ptr false n 0 => match getName m n with
    | some ⟨true, c⟩ => (match plainC c with | true => E.pure (.ptw c, some n) | false => none)
    | _ => none
  | _, a => E.bind (viewA m a) fun x => E.pure (x, nameOf a)
def viewsW (m : Mem) : List Bool → List AV → E (List V × List (Option Nat))
  | _, [] => E.pure ([], [])
  | ws, a :: r => E.bind (viewW m (ws.headD false) a) fun (x, n) => E.bind (viewsW m ws.tail r) fun (l, ns) => E.pure (x :: l, n :: ns)
def isW : V → Bool
  | .ptw _ => true
  | _ => false
/-- What may be written is looked at by nothing else. -/
def apartW : List V → List (Option Nat) → Bool
  | x :: xs, n :: ns => aps x n xs ns && apartW xs ns
  | _, _ => true
where
  aps (x : V) (n : Option Nat) : List V → List (Option Nat) → Bool
  | y :: ys, k :: ks => (match isW x || isW y, n, k with | true, some a, some b => !(Nat.beq a b) | _, _, _ => true) && aps x n ys ks
  | _, _ => true
/-- What was written, name by name of a contract. -/
def wMem (k : Nat) : List V → List Cells → Mem
  | [], _ => []
  | .ptw _ :: r, c :: cs => some ⟨true, upC k c⟩ :: wMem k r cs
  | _ :: r, cs => none :: wMem k r cs
/-- What was written, name by name of the caller. -/
def putN (k : Nat) : Mem → List V → List (Option Nat) → List Cells → Mem
  | m, [], _, _ => m
  | m, _ :: _, [], _ => m
  | m, .ptw _ :: xs, some n :: ns, c :: cs => putN k (m.set n (some ⟨true, upC k c⟩)) xs ns cs
  | m, .ptw _ :: xs, some n :: ns, [] => putN k (m.set n none) xs ns []
  | m, .ptw _ :: xs, none :: ns, cs => putN k m xs ns cs.tail
  | m, _ :: xs, _ :: ns, cs => putN k m xs ns cs
def SW (ρ : Nat → Loc3) (xs : List V) (b : Nat) : Prop := ∃ (j : Nat) (c : Cells), xs[j]? = some (.ptw c) ∧ b = (ρ j).b
/-- A call that looks at views of its arguments, writes what may be written, and makes memory. -/
def WriteCall (P : Program) (g : FuncId) (xs : List V) (v : AV) (cs : List Cells) (bs : Mem) : Prop :=
  ∀ {ρ : Nat → Loc3} {vs : List Value} {w : World}, Reps ρ (upto xs.length) (cArgs 0 xs) vs → Inv w (SW ρ xs) (upto xs.length) ρ (getName (cMem xs)) w →
    CallRun P g vs.toArray w (fun u w' => ∃ ρ', Rep ρ' (upto (xs.length + bs.length)) (upA xs.length v) u ∧
      Inv w (SW ρ xs) (upto (xs.length + bs.length)) ρ' (getName (wMem xs.length xs cs ++ onlyRw (bs.map (upB xs.length)))) w' ∧ Agr ρ ρ' (upto xs.length))
def withW (g : FuncId) (ws : List Bool) (spec : List V → E (AV × List Cells × Mem)) (X : CallH) : CallH := fun f args m =>
  match decide (f = g) with
  | true => match viewsW m ws args with
    | some (o1, (xs, ns)) => match apartW xs ns, spec xs with
      | true, some (o2, (v, cs, bs)) => some (o1 ++ o2, (upA m.length v, putN m.length m xs ns cs ++ onlyRw (bs.map (upB m.length))))
      | _, _ => X f args m
    | none => X f args m
  | false => X f args m

theorem viewW_ok {m : Mem} {wr : Bool} {a : AV} {o : List Bool} {x : V} {nm : Option Nat} (h : viewW m wr a = some (o, (x, nm))) (ho : Paid o) {ρ : Nat → Loc3} {N : Nat → Prop} {v : Value} {w : World} (hr : Rep ρ N a v) (hs : Sim ρ N (getName m) w) (j : Nat) :
    ∃ L, VOk w j L x v ∧ (∀ b, cBlk x = some b → ∃ n b0, nm = some n ∧ getName m n = some b0 ∧ L.b = (ρ n).b) ∧ ∀ c, x = .ptw c → ∃ n, nm = some n ∧ getName m n = some ⟨true, c⟩ ∧ L = ρ n := by
  unfold viewW at h
  split at h
  · rename_i n
    split at h
    · rename_i c hb
      split at h
      · rename_i hp
        obtain ⟨_, he⟩ := pure_some h
        cases he
        cases hr with
        | ptr _ _ _ hn =>
        obtain ⟨cs, t, lo', hi', b1, b2, b3, b4, b5⟩ := (hs.blk n _ hb).ex
        refine ⟨ρ n, ⟨fun ρ' N' hρ hN => ?_, fun b' hb' => ?_⟩, fun b' _ => ⟨n, _, rfl, hb, rfl⟩, fun c' hc' => by cases hc'; exact ⟨n, rfl, hb, rfl⟩⟩
        · rw [← hρ]; exact .ptr false j 0 hN
        · cases hb'
          exact ⟨fun _ => ⟨c, rfl⟩, fun ρ' N' hρ => ⟨cs, t, lo', hi', by rw [hρ]; exact b1, by rw [hρ]; exact b2, fun _ => b3 rfl, by rw [hρ]; exact b4, by rw [hρ]; exact plainC_rep b5 hp⟩⟩
      · cases h
    · cases h
  · obtain ⟨o1, x1, o2, h1, h2, rfl⟩ := bind_some h
    obtain ⟨_, he⟩ := pure_some h2
    cases he
    obtain ⟨L, k1, k2, k3⟩ := viewA_ok h1 (paid_append.1 ho).1 hr hs j
    exact ⟨L, k1, k3, fun c hc => (k2 c hc).elim⟩

/-- All views: where they are, and what names they look at. -/
theorem viewsW_ok {m : Mem} {ρ : Nat → Loc3} {N : Nat → Prop} {w : World} (hs : Sim ρ N (getName m) w) : ∀ {ars : List AV} {ws : List Bool} {o : List Bool} {xs : List V} {ns : List (Option Nat)} (_ : viewsW m ws ars = some (o, (xs, ns))) (_ : Paid o) {vs : List Value} (_ : Reps ρ N ars vs) (j : Nat),
    ns.length = xs.length ∧ ∃ Ls : Nat → Loc3, (∀ (ρ' : Nat → Loc3) (N' : Nat → Prop), (∀ i, i < xs.length → ρ' (j + i) = Ls i ∧ N' (j + i)) → Reps ρ' N' (cArgs j xs) vs) ∧
      (∀ (i : Nat) (x : V), xs[i]? = some x → (∀ b, cBlk x = some b → (b.rw = true → ∃ c, x = .ptw c) ∧ (∀ (ρ' : Nat → Loc3) (N' : Nat → Prop), ρ' (j + i) = Ls i → BRep ρ' N' w (j + i) b) ∧ ∃ n b0, ns[i]? = some (some n) ∧ getName m n = some b0 ∧ (Ls i).b = (ρ n).b) ∧
        ∀ c, x = .ptw c → ∃ n, ns[i]? = some (some n) ∧ getName m n = some ⟨true, c⟩ ∧ Ls i = ρ n)
  | [], ws, o, xs, ns, h, ho, vs, hr, j => by
    unfold viewsW at h
    obtain ⟨_, he⟩ := pure_some h
    cases he
    cases hr
    exact ⟨rfl, fun _ => ⟨0, 0, 0⟩, fun _ _ _ => .nil, fun i x hx => by simp at hx⟩
  | a :: ars, ws, o, xs, ns, h, ho, vs, hr, j => by
    unfold viewsW at h
    obtain ⟨o1, ⟨x, nm⟩, o2, h1, h2, rfl⟩ := bind_some h
    obtain ⟨o3, ⟨l, ks⟩, o4, h3, h4, rfl⟩ := bind_some h2
    obtain ⟨_, he⟩ := pure_some h4
    cases he
    have hp := paid_append.1 ho
    have hp2 := paid_append.1 hp.2
    cases hr with
    | cons _ _ v vs hv hvs =>
      obtain ⟨L, ⟨k1, k2⟩, k5, k6⟩ := viewW_ok h1 hp.1 hv hs j
      obtain ⟨hl, Ls, k3, k4⟩ := viewsW_ok hs h3 hp2.1 hvs (j + 1)
      refine ⟨by simp [hl], fun i => match i with | 0 => L | i + 1 => Ls i, fun ρ' N' hρ => ?_, fun i y hy => ?_⟩
      · refine .cons _ _ _ _ (k1 ρ' N' (hρ 0 (by simp)).1 (hρ 0 (by simp)).2) (k3 ρ' N' fun i hi => ?_)
        have := hρ (i + 1) (by simpa using hi)
        rw [show j + 1 + i = j + (i + 1) by omega]
        exact this
      · cases i with
        | zero =>
          simp at hy
          subst hy
          exact ⟨fun b hb => ⟨(k2 b hb).1, (k2 b hb).2, by simpa using k5 b hb⟩, fun c hc => by simpa using k6 c hc⟩
        | succ i =>
          have := k4 i y (by simpa using hy)
          refine ⟨fun b hb => ?_, fun c hc => ?_⟩
          · obtain ⟨q1, q2, q3⟩ := this.1 b hb
            refine ⟨q1, fun ρ' N' h => ?_, by simpa using q3⟩
            have := q2 ρ' N' (by rw [show j + 1 + i = j + (i + 1) by omega]; exact h)
            rwa [show j + 1 + i = j + (i + 1) by omega] at this
          · simpa using this.2 c hc

theorem aps_spec {x : V} {n : Option Nat} : ∀ {ys : List V} {ks : List (Option Nat)}, apartW.aps x n ys ks = true → ∀ (j : Nat) (y : V) (a b : Nat), ys[j]? = some y → (isW x || isW y) = true → n = some a → ks[j]? = some (some b) → a ≠ b
  | [], ks, h, j, y, a, b, hy, hw, hn, hk => by simp at hy
  | y0 :: ys, [], h, j, y, a, b, hy, hw, hn, hk => by simp at hk
  | y0 :: ys, k :: ks, h, j, y, a, b, hy, hw, hn, hk => by
    simp only [apartW.aps, Bool.and_eq_true] at h
    cases j with
    | zero =>
      simp at hy hk
      subst hy hk hn
      have := h.1
      simp only [hw] at this
      intro e
      subst e
      simp at this
    | succ j => exact aps_spec h.2 j y a b (by simpa using hy) hw hn (by simpa using hk)
theorem apartW_spec : ∀ {xs : List V} {ns : List (Option Nat)}, apartW xs ns = true → ∀ (i j : Nat) (x y : V) (a b : Nat), xs[i]? = some x → xs[j]? = some y → i ≠ j → isW x = true → ns[i]? = some (some a) → ns[j]? = some (some b) → a ≠ b
  | [], ns, h, i, j, x, y, a, b, hx, hy, hij, hw, ha, hb => by simp at hx
  | x0 :: xs, [], h, i, j, x, y, a, b, hx, hy, hij, hw, ha, hb => by simp at ha
  | x0 :: xs, n :: ns, h, i, j, x, y, a, b, hx, hy, hij, hw, ha, hb => by
    simp only [apartW, Bool.and_eq_true] at h
    cases i with
    | zero =>
      cases j with
      | zero => exact absurd rfl hij
      | succ j =>
        simp at hx ha
        subst hx ha
        exact aps_spec h.1 j y a b (by simpa using hy) (by rw [hw]; rfl) rfl (by simpa using hb)
    | succ i =>
      cases j with
      | zero =>
        simp at hy hb
        subst hy hb
        exact (aps_spec h.1 i x b a (by simpa using hx) (by rw [hw]; simp) rfl (by simpa using ha)).symm
      | succ j => exact apartW_spec h.2 i j x y a b (by simpa using hx) (by simpa using hy) (by omega) hw (by simpa using ha) (by simpa using hb)

theorem getName_set' {m : Mem} {i n : Nat} {c : Option Blk} {b : Blk} (h : getName (m.set i c) n = some b) : (n = i ∧ c = some b) ∨ (n ≠ i ∧ getName m n = some b) := by
  by_cases hn : n = i
  · subst hn
    have hlt := getName_lt h
    simp at hlt
    unfold getName at h
    simp [hlt] at h
    cases c with
    | none => simp at h
    | some x => simp at h; exact Or.inl ⟨rfl, by rw [h]⟩
  · right
    refine ⟨hn, ?_⟩
    unfold getName at h ⊢
    rwa [List.getElem?_set_ne (Ne.symm hn)] at h
/-- A name of the caller's, behind the call: one that was written, or another. -/
theorem putN_spec {k : Nat} : ∀ {xs : List V} {ns : List (Option Nat)} {cs : List Cells} {m : Mem} {n : Nat} {b : Blk}, getName (putN k m xs ns cs) n = some b →
    (∃ (j : Nat) (c0 c : Cells), xs[j]? = some (.ptw c0) ∧ ns[j]? = some (some n) ∧ b = ⟨true, upC k c⟩ ∧ ∀ k', (wMem k' xs cs)[j]? = some (some ⟨true, upC k' c⟩)) ∨
    (getName m n = some b ∧ ∀ (j : Nat) (c0 : Cells), xs[j]? = some (.ptw c0) → ns[j]? ≠ some (some n))
  | [], ns, cs, m, n, b, h => by
    have h' : getName m n = some b := by simpa [putN] using h
    exact Or.inr ⟨h', fun j c0 hj => by simp at hj⟩
  | x :: xs, [], cs, m, n, b, h => by
    have h' : getName m n = some b := by cases x <;> simpa [putN] using h
    exact Or.inr ⟨h', fun j c0 _ hn => by simp at hn⟩
  | x :: xs, nm :: ns, cs, m, n, b, h => by
    by_cases hc : ∃ c, x = .ptw c
    · obtain ⟨cx, rfl⟩ := hc
      cases nm with
      | none =>
        have hg : getName (putN k m xs ns cs.tail) n = some b := by simpa [putN] using h
        have hw : ∀ k', ∃ e, wMem k' (.ptw cx :: xs) cs = e :: wMem k' xs cs.tail := fun k' => by cases cs <;> exact ⟨_, rfl⟩
        rcases putN_spec hg with ⟨j, c0, c, q1, q2, q3, q4⟩ | ⟨q1, q2⟩
        · exact Or.inl ⟨j + 1, c0, c, by simpa using q1, by simpa using q2, q3, fun k' => by obtain ⟨e, he⟩ := hw k'; rw [he]; simpa using q4 k'⟩
        · refine Or.inr ⟨q1, fun j c0 hj => ?_⟩
          cases j with
          | zero => simp
          | succ j => simpa using q2 j c0 (by simpa using hj)
      | some n0 =>
        cases cs with
        | nil =>
          have hg : getName (putN k (m.set n0 none) xs ns []) n = some b := by simpa [putN] using h
          rcases putN_spec hg with ⟨j, c0, c, q1, q2, q3, q4⟩ | ⟨q1, q2⟩
          · exact Or.inl ⟨j + 1, c0, c, by simpa using q1, by simpa using q2, q3, fun k' => by show (none :: wMem k' xs [])[j + 1]? = _; simpa using q4 k'⟩
          · rcases getName_set' q1 with ⟨_, e⟩ | ⟨e1, e2⟩
            · cases e
            · refine Or.inr ⟨e2, fun j c0 hj => ?_⟩
              cases j with
              | zero => simp; exact fun e => e1 e.symm
              | succ j => simpa using q2 j c0 (by simpa using hj)
        | cons c1 cs =>
          have hg : getName (putN k (m.set n0 (some ⟨true, upC k c1⟩)) xs ns cs) n = some b := by simpa [putN] using h
          rcases putN_spec hg with ⟨j, c0, c, q1, q2, q3, q4⟩ | ⟨q1, q2⟩
          · exact Or.inl ⟨j + 1, c0, c, by simpa using q1, by simpa using q2, q3, fun k' => by show (some _ :: wMem k' xs cs)[j + 1]? = _; simpa using q4 k'⟩
          · rcases getName_set' q1 with ⟨e, e'⟩ | ⟨e1, e2⟩
            · subst e
              cases e'
              exact Or.inl ⟨0, cx, c1, rfl, rfl, rfl, fun k' => rfl⟩
            · refine Or.inr ⟨e2, fun j c0 hj => ?_⟩
              cases j with
              | zero => simp; exact fun e => e1 e.symm
              | succ j => simpa using q2 j c0 (by simpa using hj)
    · have hg : getName (putN k m xs ns cs) n = some b := by
        cases x <;> first | exact (hc ⟨_, rfl⟩).elim | simpa [putN] using h
      have hw : ∀ k', wMem k' (x :: xs) cs = none :: wMem k' xs cs := fun k' => by
        cases x <;> first | rfl | exact (hc ⟨_, rfl⟩).elim
      rcases putN_spec hg with ⟨j, c0, c, q1, q2, q3, q4⟩ | ⟨q1, q2⟩
      · exact Or.inl ⟨j + 1, c0, c, by simpa using q1, by simpa using q2, q3, fun k' => by rw [hw k']; simpa using q4 k'⟩
      · refine Or.inr ⟨q1, fun j c0 hj => ?_⟩
        cases j with
        | zero => simp at hj; exact (hc ⟨c0, hj⟩).elim
        | succ j => simpa using q2 j c0 (by simpa using hj)
theorem putN_len {k : Nat} : ∀ {xs : List V} {ns : List (Option Nat)} {cs : List Cells} {m : Mem}, (putN k m xs ns cs).length = m.length
  | [], ns, cs, m => by simp [putN]
  | x :: xs, [], cs, m => by simp [putN]
  | x :: xs, nm :: ns, cs, m => by
    by_cases hc : ∃ c, x = .ptw c
    · obtain ⟨cx, rfl⟩ := hc
      cases nm with
      | none => simp [putN, putN_len (xs := xs)]
      | some n0 => cases cs <;> simp [putN, putN_len (xs := xs)]
    · have : putN k m (x :: xs) (nm :: ns) cs = putN k m xs ns cs := by
        cases x <;> first | exact (hc ⟨_, rfl⟩).elim | simp [putN]
      rw [this, putN_len]
theorem wMem_len {k : Nat} : ∀ {xs : List V} {cs : List Cells}, (wMem k xs cs).length = xs.length
  | [], cs => rfl
  | x :: xs, cs => by
    by_cases hc : ∃ c, x = .ptw c
    · obtain ⟨cx, rfl⟩ := hc
      cases cs <;> simp [wMem, wMem_len (xs := xs)]
    · have : wMem k (x :: xs) cs = none :: wMem k xs cs := by
        cases x <;> first | rfl | exact (hc ⟨_, rfl⟩).elim
      rw [this, List.length_cons, wMem_len, List.length_cons]
theorem cMem_of {xs : List V} {i : Nat} {b : Blk} (h : getName (cMem xs) i = some b) : ∃ x, xs[i]? = some x ∧ cBlk x = some b := by
  unfold getName cMem at h
  rw [List.getElem?_map] at h
  cases hx : xs[i]? with
  | none => simp [hx] at h
  | some x =>
    simp [hx] at h
    cases hb : cBlk x with
    | none => simp [hb] at h
    | some b' => simp [hb] at h; exact ⟨x, rfl, by rw [hb, h]⟩

section
variable {P : Program} {q : FuncId → Bool} {H : CallH} {Λ : LoopH}
theorem HOk.withW {g : FuncId} {ws : List Bool} {spec : List V → E (AV × List Cells × Mem)} (hX : HOk P H) (h : ∀ xs o v cs bs, spec xs = some (o, (v, cs, bs)) → Paid o → WriteCall P g xs v cs bs) : HOk P (withW g ws spec H) := by
  have both : ∀ {f : FuncId} {ars : List AV} {m : Mem} {ob : List Bool} {v : AV} {m' : Mem}, Go.Ev.withW g ws spec H f ars m = some (ob, (v, m')) → Paid ob →
      m.length ≤ m'.length ∧ ∀ {w0 : World} {S : Nat → Prop} {ρ : Nat → Loc3} {w : World} {vs : List Value}, Reps ρ (upto m.length) ars vs → Inv w0 S (upto m.length) ρ (getName m) w →
      CallRun P f vs.toArray w (fun u w' => ∃ ρ', Rep ρ' (upto m'.length) v u ∧ Inv w0 S (upto m'.length) ρ' (getName m') w' ∧ Agr ρ ρ' (upto m.length)) := by
    intro f ars m ob v m' hr ho
    unfold Go.Ev.withW at hr
    split at hr
    · rename_i hf
      simp at hf
      subst hf
      split at hr
      · rename_i o1 xs ns hv
        split at hr
        · rename_i o2 v1 cs bs hap hs
          cases hr
          have hp := paid_append.1 ho
          refine ⟨by simp [putN_len], fun {w0 S ρ w vs} ha hi => ?_⟩
          obtain ⟨hnl, Ls, c1, c2⟩ := viewsW_ok hi.sim hv hp.1 ha 0
          have hc : WriteCall P f xs v1 cs bs := h xs o2 v1 cs bs hs hp.2
          have hcm : (cMem xs).length = xs.length := by simp [cMem]
          have k1 : Reps Ls (upto xs.length) (cArgs 0 xs) vs := c1 Ls (upto xs.length) fun i hi => by rw [Nat.zero_add]; exact ⟨rfl, hi⟩
          have named : ∀ i b, getName (cMem xs) i = some b → b.rw = true → ∃ c n, xs[i]? = some (.ptw c) ∧ ns[i]? = some (some n) ∧ getName m n = some ⟨true, c⟩ ∧ Ls i = ρ n := by
            intro i b hb hrw
            obtain ⟨x, hx, hbx⟩ := cMem_of hb
            obtain ⟨c, rfl⟩ := ((c2 i x hx).1 b hbx).1 hrw
            obtain ⟨n, q1, q2, q3⟩ := (c2 i _ hx).2 c rfl
            exact ⟨c, n, hx, q1, q2, q3⟩
          have k2 : Inv w (SW Ls xs) (upto xs.length) Ls (getName (cMem xs)) w := by
            refine Inv.start _ ⟨fun n b hn => ?_, fun i j bi bj hi' hj' hij hr => ?_, fun n b hn => ?_, hi.sim.tab, fun G c hG n b hn hr => ?_⟩ fun n b hn hr => ?_
            · obtain ⟨x, hx, hbx⟩ := cMem_of hn
              have := ((c2 n x hx).1 b hbx).2.1 Ls (upto xs.length) (by rw [Nat.zero_add])
              rwa [Nat.zero_add] at this
            · obtain ⟨c, a, q1, q2, q3, q4⟩ := named i bi hi' hr
              obtain ⟨y, hy, hby⟩ := cMem_of hj'
              obtain ⟨a2, b2, p1, p2, p3⟩ := ((c2 j y hy).1 bj hby).2.2
              have hne := apartW_spec hap i j _ y a a2 q1 hy hij rfl q2 p1
              rw [q4, p3]
              exact hi.sim.inj a a2 _ _ q3 p2 hne rfl
            · have := getName_lt hn
              rw [hcm] at this
              exact this
            · obtain ⟨c', a, q1, q2, q3, q4⟩ := named n b hn hr
              rw [q4]; exact hi.sim.apart G c hG a _ q3 rfl
            · obtain ⟨c', a, q1, q2, q3, q4⟩ := named n b hn hr
              exact ⟨n, c', q1, rfl⟩
          refine (hc k1 k2).mono fun u w' ⟨ρ', r1, r2, r3⟩ => ?_
          have hl1 : (putN m.length m xs ns cs).length = m.length := putN_len
          have hl : (putN m.length m xs ns cs ++ onlyRw (bs.map (upB m.length))).length = m.length + bs.length := by simp [onlyRw, hl1]
          rw [hl]
          let ρf : Nat → Loc3 := fun n => if n < m.length then ρ n else ρ' (n - m.length + xs.length)
          have hag : Agr ρ ρf (upto m.length) := fun i hi => by
            have : i < m.length := hi
            simp [ρf, this]
          have hN : ∀ n, upto (xs.length + bs.length) (n + xs.length) → upto (m.length + bs.length) (n + m.length) ∧ ρf (n + m.length) = ρ' (n + xs.length) := fun n hn => by
            refine ⟨by simp [upto] at *; omega, ?_⟩
            simp only [ρf]
            rw [if_neg (by omega), Nat.add_sub_cancel]
          refine ⟨ρf, upA_rep hN r1, ?_, hag⟩
          let Wr : Nat → Prop := fun n => ∃ (j : Nat) (c0 : Cells), xs[j]? = some (.ptw c0) ∧ ns[j]? = some (some n)
          let g1 : Nat → Option Blk := fun n => open Classical in if n < m.length then (if Wr n then getName (putN m.length m xs ns cs) n else Option.none) else getName (onlyRw (bs.map (upB m.length))) (n - m.length)
          have blk : ∀ n b, g1 n = some b → b.rw = true ∧ n < m.length + bs.length ∧ ∃ n0 c, b.c = upC m.length c ∧ getName (wMem xs.length xs cs ++ onlyRw (bs.map (upB xs.length))) n0 = some ⟨true, upC xs.length c⟩ ∧ ρf n = ρ' n0 ∧
              ((n < m.length ∧ n0 < xs.length ∧ ns[n0]? = some (some n)) ∨ (m.length ≤ n ∧ n0 = n - m.length + xs.length)) := by
            intro n b hn
            simp only [g1] at hn
            split at hn
            · rename_i hlt
              split at hn
              · rename_i hwr
                rcases putN_spec hn with ⟨j, c0, c, q1, q2, q3, q4⟩ | ⟨q1, q2⟩
                · have hj : j < xs.length := (List.getElem?_eq_some_iff.1 q1).1
                  subst q3
                  refine ⟨rfl, by omega, j, c, rfl, ?_, ?_, Or.inl ⟨hlt, hj, q2⟩⟩
                  · rw [getName_app, if_pos (by rw [wMem_len]; exact hj)]
                    unfold getName
                    rw [q4]
                  · obtain ⟨a, p1, p2, p3⟩ := (c2 j _ q1).2 c0 rfl
                    rw [q2] at p1
                    cases p1
                    simp only [ρf]
                    rw [if_pos hlt, ← p3]
                    exact (r3 j hj).symm
                · obtain ⟨j, c0, e1, e2⟩ := hwr
                  exact absurd e2 (q2 j c0 e1)
              · cases hn
            · rename_i hlt
              obtain ⟨g1, g2, c, g3, g4⟩ := up_name hn
              refine ⟨g1, by omega, n - m.length + xs.length, c, g3, ?_, ?_, Or.inr ⟨by omega, rfl⟩⟩
              · rw [getName_app, if_neg (by rw [wMem_len]; omega), wMem_len, Nat.add_sub_cancel]
                exact g4 _
              · simp only [ρf]; rw [if_neg hlt]
          have r4 : Inv w (SW Ls xs) (upto (m.length + bs.length)) ρf g1 w' := by
            refine ⟨⟨fun n b hn => ?_, fun i j bi bj hi hj hij hr => ?_, fun n b hn => ?_, r2.sim.tab, fun G c hG n b hn hr => ?_⟩, r2.size, r2.frame, r2.os, r2.tape, r2.output, fun n b hn hr => ?_⟩
            · obtain ⟨h1, h2, n0, c, h3, h4, h5, h6⟩ := blk n b hn
              obtain ⟨cs', t, lo', hi', b1, b2, b3, b4, b5⟩ := (r2.sim.blk _ _ h4).ex
              refine ⟨cs', t, lo', hi', by rw [h5]; exact b1, by rw [h5]; exact b2, fun _ => b3 rfl, ?_, ?_⟩
              · rw [h5, h3, upC_len]; rw [upC_len] at b4; exact b4
              · rw [h5, h3]; exact upC_rep hN b5
            · obtain ⟨h1, h2, n0, c, h3, h4, h5, h6⟩ := blk i bi hi
              obtain ⟨h1', h2', n0', c', h3', h4', h5', h6'⟩ := blk j bj hj
              rw [h5, h5']
              refine r2.sim.inj _ _ _ _ h4 h4' (fun e => ?_) rfl
              subst e
              rcases h6 with ⟨_, q1, q2⟩ | ⟨q1, q2⟩ <;> rcases h6' with ⟨_, p1, p2⟩ | ⟨p1, p2⟩
              · rw [q2] at p2; cases p2; exact hij rfl
              · omega
              · omega
              · omega
            · exact (blk n b hn).2.1
            · obtain ⟨h1, h2, n0, c', h3, h4, h5, h6⟩ := blk n b hn
              rw [h5]; exact r2.sim.apart G c hG _ _ h4 rfl
            · obtain ⟨h1, h2, n0, c', h3, h4, h5, h6⟩ := blk n b hn
              rw [h5]; exact r2.rws _ _ h4 rfl
          refine hi.join (S1 := SW Ls xs) r4 (fun b ⟨j, c, e1, e2⟩ => ?_) (fun i hi => by simp [upto] at *; omega) (fun _ h => h) hag (fun _ _ => rfl) fun n b hn => ?_
          · obtain ⟨a, p1, p2, p3⟩ := (c2 j _ e1).2 c rfl
            rw [e2, p3]
            exact hi.rws a _ p2 rfl
          · rw [getName_app, hl1] at hn
            split at hn
            · rename_i hlt
              rcases putN_spec hn with ⟨j, c0, c, q1, q2, q3, q4⟩ | ⟨q1, q2⟩
              · refine Or.inr ⟨?_, by rw [q3]⟩
                simp only [g1]
                rw [if_pos hlt, if_pos ⟨j, c0, q1, q2⟩]
                exact hn
              · refine Or.inl ⟨q1, fun ⟨j, c, e1, e2⟩ => ?_⟩
                obtain ⟨a, p1, p2, p3⟩ := (c2 j _ e1).2 c rfl
                have hne : a ≠ n := fun e => q2 j c e1 (by rw [p1, e])
                rw [p3] at e2
                exact hi.sim.inj a n _ _ p2 q1 hne rfl e2.symm
            · rename_i hlt
              refine Or.inr ⟨?_, (getName_onlyRw hn).2⟩
              simp only [g1]
              rw [if_neg hlt]; exact hn
        · exact ⟨hX.le hr ho, fun ha hi => hX.run hr ho ha hi⟩
      · exact ⟨hX.le hr ho, fun ha hi => hX.run hr ho ha hi⟩
    · exact ⟨hX.le hr ho, fun ha hi => hX.run hr ho ha hi⟩
  exact ⟨@fun f ars m ob v m' h ho => (both h ho).1, @fun f ars m ob v m' h ho w0 S ρ w vs ha hi => (both h ho).2 ha hi⟩

/-- The contract, off what the function's text comes to over the views. -/
theorem write_of_sat (hm : P.follows .mixedOrders = true) (hng : noCount P = true) (hH : HOk P H) {n : Nat} {g : FuncId} (hΛ : ∀ fn c, P.funcs[g]? = some fn → fn.body = some c → LOk P c Λ) {xs : List V} {v : AV} {cs : List Cells} {bs : Mem}
    (h : (funcL P q H Λ n g (cArgs 0 xs) (cMem xs)).Sat (fun p => p.1 = upA xs.length v ∧ onlyRw p.2 = wMem xs.length xs cs ++ onlyRw (bs.map (upB xs.length)))) : WriteCall P g xs v cs bs := by
  intro ρ vs w ha hi
  have hcm : (cMem xs).length = xs.length := by simp [cMem]
  have ha' : Reps ρ (upto (cMem xs).length) (cArgs 0 xs) vs := by rw [hcm]; exact ha
  have hi' : Inv w (SW ρ xs) (upto (cMem xs).length) ρ (getName (cMem xs)) w := by rw [hcm]; exact hi
  obtain ⟨hf, hc⟩ := funcL_sound hm hH hΛ h ha' hi'
  refine callRun_of hng hf (hc.mono fun e w' ⟨u, h1, x', m2, ρ', ⟨k0, k1⟩, k2, k3, k4, k5⟩ => ⟨u, h1, ρ', ?_, ?_, ?_⟩)
  · have hlen : m2.length = xs.length + bs.length := by
      have := congrArg List.length k1
      simpa [onlyRw, wMem_len] using this
    rw [← hlen, ← k0]; exact k2
  · have hlen : m2.length = xs.length + bs.length := by
      have := congrArg List.length k1
      simpa [onlyRw, wMem_len] using this
    rw [← hlen]
    refine k3.sub fun n b hn => ?_
    rw [← k1] at hn
    exact ⟨b, (getName_onlyRw hn).1, rfl, fun h => h⟩
  · rw [hcm] at k4; exact k4
theorem write_of_flat (hm : P.follows .mixedOrders = true) (hng : noCount P = true) (hH : HOk P H) {n : Nat} {g : FuncId} (hΛ : ∀ fn c, P.funcs[g]? = some fn → fn.body = some c → LOk P c Λ) {xs : List V} {o : List Bool} {v v' : AV} {cs : List Cells} {m' bs : Mem}
    (h : (funcL P q H Λ n g (cArgs 0 xs) (cMem xs)).flat = some (o, (v', m'))) (ho : Paid o) (hv : v' = upA xs.length v) (hb : onlyRw m' = wMem xs.length xs cs ++ onlyRw (bs.map (upB xs.length))) : WriteCall P g xs v cs bs :=
  write_of_sat hm hng hH hΛ (sat_mono (fun p hp => by subst hp; exact ⟨hv, hb⟩) (flat_sound h ho))
end
end Go.Ev
