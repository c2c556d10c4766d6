/- Contracts of functions that look at memory, and may hand back memory that they made. Own work. -/
import Derived.Test.YtjhjhhibfojpiaaTEvLaw
set_option linter.unusedSimpArgs false
set_option linter.unusedVariables false
set_option linter.unusedSectionVars false
namespace Go.Ev
set_option linter.unusedSectionVars false
variable [Tab]

/-- An argument, as a function sees it: a plain value; a slice's numbers; what a pointer shows. -/
inductive V where
  | pl (a : AV)
  | buf (s : Bool) (k : IntKind) (len : Nat) (l : List Int)
  | pt (c : Cells)
  | empty
  | ptw (c : Cells)
  | lol (s : Bool) (len n : Nat) (r : Nat → Value)

def plainN : AV → Bool
  | .nilslice | .nilptr | .niliface | .nilfunc | .iface _ .top => true
  | a => plainA a
/-- What stands behind an interface is not shown. -/
def hideA : AV → AV
  | .iface t _ => .iface t .top
  | a => a
def hideC : Cells → Cells
  | .vals l => .vals (l.map hideA)
  | .wide l => .wide (l.map hideA)
  | c => c
def plainC : Cells → Bool
  | .vals l => l.all plainN
  | .ints .. => true
  | .wide l => l.all plainN
  | .bools .. => true
  | .one _ _ _ a => plainN a
  | .rows .. => true
def kindOf : Cells → Option IntKind
  | .ints k _ _ => some k
  | .vals (.int _ k _ :: _) => some k
  | _ => none

def viewA (m : Mem) (a : AV) : E V :=
  match a with
  | .slice false _ _ 0 _ 1 => E.pure .empty
  | .slice s n o len _ 1 => match getName m n with
    | some b => match kindOf b.c with
      | some k => E.bind (getNums b.c k s o len) fun l => E.pure (.buf s k len l)
      | none => match b.c, o with
        | .rows nr r, 0 => E.pure (.lol s len nr r)
        | _, _ => none
    | none => none
  | .wslice s n b o len _ => match getName m n with
    | some bl => match rowC bl b with
      | some c => match kindOf c with
        | some k => E.bind (getNums c k s o len) fun l => E.pure (.buf s k len l)
        | none => none
      | none => none
    | none => none
  | .ptr false n 0 => match getName m n with
    | some b => match plainC b.c with
      | true => E.pure (.pt b.c)
      | false => match plainC (hideC b.c) with | true => E.pure (.pt (hideC b.c)) | false => none
    | none => none
  | a => match plainN a with | true => E.pure (.pl a) | false => none
def viewsA (m : Mem) : List AV → E (List V)
  | [] => E.pure []
  | a :: r => E.bind (viewA m a) fun v => E.bind (viewsA m r) fun l => E.pure (v :: l)

def cArg (j : Nat) : V → AV
  | .pl a => a
  | .buf s _ len _ => .slice s j 0 len none 1
  | .pt _ => .ptr false j 0
  | .ptw _ => .ptr false j 0
  | .empty => .slice false j 0 0 none 1
  | .lol s len _ _ => .slice s j 0 len none 1
def cArgs : Nat → List V → List AV
  | _, [] => []
  | j, v :: r => cArg j v :: cArgs (j + 1) r
def cBlk : V → Option Blk
  | .pl _ => none
  | .buf _ k len l => some ⟨false, .ints k (some len) l⟩
  | .pt c => some ⟨false, c⟩
  | .ptw c => some ⟨true, c⟩
  | .empty => none
  | .lol _ _ n r => some ⟨false, .rows n r⟩
def cMem (l : List V) : Mem := l.map cBlk

theorem plainN_rep {ρ ρ' : Nat → Loc3} {N N' : Nat → Prop} {a : AV} {v : Value} (h : Rep ρ N a v) (hp : plainN a = true) : Rep ρ' N' a v := by
  unfold plainN at hp
  split at hp
  · cases h; exact .nilslice
  · cases h; exact .nilptr
  · cases h; exact .niliface
  · cases h; exact .nilfunc
  · cases h; exact .iface _ _ _ (.top _)
  · exact plainA_rep h hp
theorem plainC_rep {ρ ρ' : Nat → Loc3} {N N' : Nat → Prop} {c : Cells} {f : Nat → Option Value} (h : CRep ρ N c f) (hp : plainC c = true) : CRep ρ' N' c f := by
  cases c with
  | vals l =>
    intro i a hi
    obtain ⟨v, h1, h2⟩ := h i a hi
    simp only [plainC, List.all_eq_true] at hp
    exact ⟨v, h1, plainN_rep h2 (hp a (List.mem_of_getElem? hi))⟩
  | ints k sz l => exact h
  | bools n l => exact h
  | one n r i a => exact ⟨h.1, h.2.1, plainN_rep h.2.2 hp⟩
  | rows n r => exact h
  | wide l =>
    refine ⟨h.1, fun i a hi => ?_⟩
    obtain ⟨v, h1, h2⟩ := h.2 i a hi
    simp only [plainC, List.all_eq_true] at hp
    refine ⟨v, h1, plainN_rep h2 ?_⟩
    have key : ∀ {l : List AV}, (∀ x ∈ l, plainN x = true) → ∀ x ∈ exp l, plainN x = true := by
      intro l
      induction l with
      | nil => intro _ x hx; cases hx
      | cons y l ih =>
        intro hl x hx
        have e : exp (y :: l) = exp [y] ++ exp l := by rw [← exp_append]; rfl
        rw [e] at hx
        rcases List.mem_append.1 hx with hx | hx
        · have hy := hl y (List.mem_cons_self ..)
          cases y <;> simp only [exp, List.append_nil] at hx <;> try (rw [List.mem_singleton] at hx; subst hx; exact hy)
          simp [spread] at hx
          obtain ⟨_, _, rfl⟩ := hx
          rfl
        · exact ih (fun z hz => hl z (List.mem_cons_of_mem _ hz)) x hx
    exact key hp a (List.mem_of_getElem? hi)

theorem hideA_rep {ρ : Nat → Loc3} {N : Nat → Prop} {a : AV} {v : Value} (h : Rep ρ N a v) : Rep ρ N (hideA a) v := by
  unfold hideA
  split
  · cases h; exact .iface _ _ _ (.top _)
  · exact h
theorem hideC_rep {ρ : Nat → Loc3} {N : Nat → Prop} {c : Cells} {f : Nat → Option Value} (h : CRep ρ N c f) : CRep ρ N (hideC c) f ∧ clen (hideC c) = clen c := by
  cases c with
  | vals l =>
    refine ⟨fun i a hi => ?_, by simp [hideC, clen]⟩
    simp only [List.getElem?_map] at hi
    cases hl : l[i]? with
    | none => simp [hl] at hi
    | some b =>
      simp [hl] at hi
      subst hi
      obtain ⟨v, h1, h2⟩ := h i b hl
      exact ⟨v, h1, hideA_rep h2⟩
  | ints k sz l => exact ⟨h, rfl⟩
  | bools n l => exact ⟨h, rfl⟩
  | one n r i a => exact ⟨h, rfl⟩
  | rows n r => exact ⟨h, rfl⟩
  | wide l =>
    have he : ∀ l : List AV, exp (l.map hideA) = (exp l).map hideA := by
      intro l
      induction l with
      | nil => rfl
      | cons a l ih =>
        cases a <;> simp only [List.map_cons, hideA, exp, ih, List.map_append, List.cons_append, List.map_map, List.nil_append]
        rename_i k n xs
        congr 1
        simp [spread, hideA]
    have hw : ∀ l : List AV, wlen (l.map hideA) = wlen l := by
      intro l
      induction l with
      | nil => rfl
      | cons a l ih => cases a <;> simp [hideA, wlen, width, ih]
    refine ⟨⟨fun k n xs hm => ?_, fun i a hi => ?_⟩, hw l⟩
    · obtain ⟨a, h1, h2⟩ := List.mem_map.1 hm
      refine h.1 k n xs ?_
      cases a <;> simp only [hideA, reduceCtorEq] at h2
      rw [← h2]; exact h1
    · rw [he, List.getElem?_map] at hi
      cases hl : (exp l)[i]? with
      | none => simp [hl] at hi
      | some b =>
        simp [hl] at hi
        subst hi
        obtain ⟨v, h1, h2⟩ := h.2 i b hl
        exact ⟨v, h1, hideA_rep h2⟩

/-- What a view's argument is worth. -/
def VOk (w : World) (j : Nat) (L : Loc3) (x : V) (v : Value) : Prop :=
  (∀ (ρ : Nat → Loc3) (N : Nat → Prop), ρ j = L → N j → Rep ρ N (cArg j x) v) ∧ ∀ b, cBlk x = some b → (b.rw = true → ∃ c, x = .ptw c) ∧ ∀ (ρ : Nat → Loc3) (N : Nat → Prop), ρ j = L → BRep ρ N w j b

theorem viewA_ok {m : Mem} {a : AV} {o : List Bool} {x : V} (h : viewA m a = some (o, x)) (ho : Paid o) {ρ : Nat → Loc3} {N : Nat → Prop} {v : Value} {w : World} (hr : Rep ρ N a v) (hs : Sim ρ N (getName m) w) (j : Nat) :
    ∃ L, VOk w j L x v ∧ (∀ c, x ≠ .ptw c) ∧ ∀ b, cBlk x = some b → ∃ n b0, nameOf a = some n ∧ getName m n = some b0 ∧ L.b = (ρ n).b := by
  unfold viewA at h
  split at h
  · rename_i n off cap
    obtain ⟨_, rfl⟩ := pure_some h
    cases hr with
    | slice _ _ _ _ _ _ c ad hn hc hl hw had =>
      refine ⟨⟨(ρ n).b, (ρ n).sh + off, (ρ n).sz - off⟩, ⟨fun ρ' N' hρ hN => ?_, fun b' hb' => by cases hb'⟩, (fun c h => by cases h), fun b' hb' => by cases hb'⟩
      refine .slice false j 0 0 none 1 c ad hN (by intro c' h; cases h) hl ?_ ?_
      · rw [hρ]; show 0 + c * 1 ≤ (ρ n).sz - off; omega
      · intro h0; rw [hρ, had h0]; simp
  · rename_i s n off len cap _
    split at h
    · rename_i b hb
      split at h
      · rename_i k hk
        obtain ⟨o1, l, o2, h1, h2, rfl⟩ := bind_some h
        obtain ⟨_, rfl⟩ := pure_some h2
        cases hr with
        | slice _ _ _ _ _ _ c ad hn hc hl hw had =>
          obtain ⟨cs, t, lo', hi', b1, b2, b3, b4, b5⟩ := (hs.blk n b hb).ex
          obtain ⟨g1, g2, g3⟩ := getNums_sound h1 (paid_append.1 ho).1 b5
          refine ⟨⟨(ρ n).b, (ρ n).sh + off, (ρ n).sz - off⟩, ⟨fun ρ' N' hρ hN => ?_, fun b' hb' => ?_⟩, (fun c h => by cases h), fun b' _ => ⟨n, b, rfl, hb, rfl⟩⟩
          · refine .slice s j 0 len none 1 c ad hN (by intro c' h; cases h) hl ?_ ?_
            · rw [hρ]; show 0 + c * 1 ≤ (ρ n).sz - off; omega
            · intro h0; rw [hρ, had h0]; simp
          · cases hb'
            refine ⟨(fun h => by cases h), fun ρ' N' hρ => ⟨cs, t, lo', hi', ?_, ?_, (by intro h; cases h), ?_, ?_⟩⟩
            · rw [hρ]; exact b1
            · rw [hρ]; show (ρ n).sh + off + ((ρ n).sz - off) ≤ cs.size; omega
            · rw [hρ]; show len ≤ (ρ n).sz - off; omega
            · refine ⟨(by intro m h; cases h; exact g1), fun i y hy => ⟨?_, g3 y (List.mem_of_getElem? hy)⟩⟩
              rw [hρ]
              have := g2 i y hy
              simp only [Nat.add_assoc] at this ⊢
              exact this
      · split at h
        · rename_i nr r hbc
          obtain ⟨_, rfl⟩ := pure_some h
          cases hr with
          | slice _ _ _ _ _ _ c ad hn hc hl hw had =>
            obtain ⟨cs, t, lo', hi', b1, b2, b3, b4, b5⟩ := (hs.blk n b hb).ex
            refine ⟨ρ n, ⟨fun ρ' N' hρ hN => ?_, fun b' hb' => ?_⟩, (fun c h => by cases h), fun b' _ => ⟨n, b, rfl, hb, rfl⟩⟩
            · refine .slice s j 0 len none 1 c ad hN (by intro c' h; cases h) hl ?_ ?_
              · rw [hρ]; exact hw
              · intro h0; rw [hρ]; exact had h0
            · cases hb'
              rw [hbc] at b4 b5
              exact ⟨(fun h => by cases h), fun ρ' N' hρ => ⟨cs, t, lo', hi', by rw [hρ]; exact b1, by rw [hρ]; exact b2, (by intro h; cases h), by rw [hρ]; exact b4, by rw [hρ]; exact b5⟩⟩
        · cases h
    · cases h
  · rename_i s n bb off len cap
    split at h
    · rename_i bl hb
      split at h
      · rename_i c0 hrc
        split at h
        · rename_i k hk
          obtain ⟨o1, l, o2, h1, h2, rfl⟩ := bind_some h
          obtain ⟨_, rfl⟩ := pure_some h2
          cases hr with
          | wslice _ _ _ _ _ _ c ad hn hc hl hw had =>
            obtain ⟨cs, t, lo', hi', b1, b2, b3, b4, b5⟩ := (hs.blk n bl hb).ex
            obtain ⟨rr1, rr2⟩ := rowC_rep hrc b5
            obtain ⟨g1, g2, g3⟩ := getNums_sound h1 (paid_append.1 ho).1 rr1
            refine ⟨⟨(ρ n).b, (ρ n).sh + (bb + off), (ρ n).sz - (bb + off)⟩, ⟨fun ρ' N' hρ hN => ?_, fun b' hb' => ?_⟩, (fun c h => by cases h), fun b' _ => ⟨n, bl, rfl, hb, rfl⟩⟩
            · refine .slice s j 0 len none 1 c ad hN (by intro c' h; cases h) hl ?_ ?_
              · rw [hρ]; show 0 + c * 1 ≤ (ρ n).sz - (bb + off); omega
              · intro h0; rw [hρ, had h0]; simp
            · cases hb'
              refine ⟨(fun h => by cases h), fun ρ' N' hρ => ⟨cs, t, lo', hi', ?_, ?_, (by intro h; cases h), ?_, ?_⟩⟩
              · rw [hρ]; exact b1
              · rw [hρ]; show (ρ n).sh + (bb + off) + ((ρ n).sz - (bb + off)) ≤ cs.size; omega
              · rw [hρ]; show len ≤ (ρ n).sz - (bb + off); omega
              · refine ⟨(by intro m h; cases h; exact g1), fun i y hy => ⟨?_, g3 y (List.mem_of_getElem? hy)⟩⟩
                rw [hρ]
                have := g2 i y hy
                simp only [Nat.add_assoc] at this ⊢
                exact this
        · cases h
      · cases h
    · cases h
  · rename_i n
    split at h
    · rename_i b hb
      split at h
      · rename_i hp
        obtain ⟨_, rfl⟩ := pure_some h
        cases hr with
        | ptr _ _ _ hn =>
          obtain ⟨cs, t, lo', hi', b1, b2, b3, b4, b5⟩ := (hs.blk n b hb).ex
          refine ⟨ρ n, ⟨fun ρ' N' hρ hN => ?_, fun b' hb' => ?_⟩, (fun c h => by cases h), fun b' _ => ⟨n, b, rfl, hb, rfl⟩⟩
          · rw [← hρ]; exact .ptr false j 0 hN
          · cases hb'
            exact ⟨(fun h => by cases h), fun ρ' N' hρ => ⟨cs, t, lo', hi', by rw [hρ]; exact b1, by rw [hρ]; exact b2, (by intro h; cases h), by rw [hρ]; exact b4, by rw [hρ]; exact plainC_rep b5 hp⟩⟩
      · split at h
        · rename_i hp
          obtain ⟨_, rfl⟩ := pure_some h
          cases hr with
          | ptr _ _ _ hn =>
            obtain ⟨cs, t, lo', hi', b1, b2, b3, b4, b5⟩ := (hs.blk n b hb).ex
            obtain ⟨c1, c2⟩ := hideC_rep b5
            refine ⟨ρ n, ⟨fun ρ' N' hρ hN => ?_, fun b' hb' => ?_⟩, (fun c h => by cases h), fun b' _ => ⟨n, b, rfl, hb, rfl⟩⟩
            · rw [← hρ]; exact .ptr false j 0 hN
            · cases hb'
              exact ⟨(fun h => by cases h), fun ρ' N' hρ => ⟨cs, t, lo', hi', by rw [hρ]; exact b1, by rw [hρ]; exact b2, (by intro h; cases h), by rw [hρ, c2]; exact b4, by rw [hρ]; exact plainC_rep c1 hp⟩⟩
        · cases h
    · cases h
  · split at h
    · rename_i hp
      obtain ⟨_, rfl⟩ := pure_some h
      exact ⟨⟨0, 0, 0⟩, ⟨fun ρ' N' _ _ => plainN_rep hr hp, fun b' hb' => by cases hb'⟩, (fun c h => by cases h), fun b' hb' => by cases hb'⟩
    · cases h

theorem viewsA_ok {m : Mem} {ρ : Nat → Loc3} {N : Nat → Prop} {w : World} (hs : Sim ρ N (getName m) w) : ∀ {as : List AV} {o : List Bool} {xs : List V} (_ : viewsA m as = some (o, xs)) (_ : Paid o) {vs : List Value} (_ : Reps ρ N as vs) (j : Nat),
    ∃ Ls : Nat → Loc3, (∀ (ρ' : Nat → Loc3) (N' : Nat → Prop), (∀ i, i < xs.length → ρ' (j + i) = Ls i ∧ N' (j + i)) → Reps ρ' N' (cArgs j xs) vs) ∧
      ∀ i b, getName (cMem xs) i = some b → b.rw = false ∧ ∀ (ρ' : Nat → Loc3) (N' : Nat → Prop), ρ' (j + i) = Ls i → BRep ρ' N' w (j + i) b
  | [], o, xs, h, ho, vs, hr, j => by
    unfold viewsA at h
    obtain ⟨_, rfl⟩ := pure_some h
    cases hr
    exact ⟨fun _ => ⟨0, 0, 0⟩, fun _ _ _ => .nil, fun i b hb => by simp [cMem, getName] at hb⟩
  | a :: as, o, xs, h, ho, vs, hr, j => by
    unfold viewsA at h
    obtain ⟨o1, x, o2, h1, h2, rfl⟩ := bind_some h
    obtain ⟨o3, l, o4, h3, h4, rfl⟩ := bind_some h2
    obtain ⟨_, rfl⟩ := pure_some h4
    have hp := paid_append.1 ho
    have hp2 := paid_append.1 hp.2
    cases hr with
    | cons _ _ v vs hv hvs =>
      obtain ⟨L, ⟨k1, k2⟩, k5, _⟩ := viewA_ok h1 hp.1 hv hs j
      obtain ⟨Ls, k3, k4⟩ := viewsA_ok hs h3 hp2.1 hvs (j + 1)
      refine ⟨fun i => match i with | 0 => L | i + 1 => Ls i, fun ρ' N' hρ => ?_, fun i b hb => ?_⟩
      · refine .cons _ _ _ _ (k1 ρ' N' (hρ 0 (by simp)).1 (hρ 0 (by simp)).2) (k3 ρ' N' fun i hi => ?_)
        have := hρ (i + 1) (by simpa using hi)
        rw [show j + 1 + i = j + (i + 1) by omega]
        exact this
      · cases i with
        | zero =>
          have hb' : cBlk x = some b := by
            unfold getName cMem at hb
            simp at hb
            cases hx : cBlk x <;> simp_all
          refine ⟨?_, (k2 b hb').2⟩
          cases hrw : b.rw with
          | false => rfl
          | true => obtain ⟨c, hc⟩ := (k2 b hb').1 hrw; exact (k5 c hc).elim
        | succ i =>
          have hb' : getName (cMem l) i = some b := by
            unfold getName cMem at hb ⊢
            simpa using hb
          have := k4 i b hb'
          rw [show j + 1 + i = j + (i + 1) by omega] at this
          exact this

/-- Names, d higher. -/
def upS (d : Nat) : AV → AV
  | .ptr s n o => .ptr s (n + d) o
  | .slice s n o len cap e => .slice s (n + d) o len cap e
  | .wptr s n b o => .wptr s (n + d) b o
  | .wslice s n b o len cap => .wslice s (n + d) b o len cap
  | a => match plainN a with | true => a | false => .top
def upA (d : Nat) : AV → AV
  | .tuple l => .tuple (l.map (upS d))
  | a => upS d a
def upC (d : Nat) : Cells → Cells
  | .vals l => .vals (l.map (upS d))
  | .wide l => .wide (l.map (upS d))
  | .one n r i a => .one n r i (upS d a)
  | c => c
def upB (d : Nat) : Option Blk → Option Blk
  | some b => some ⟨b.rw, upC d b.c⟩
  | none => none

theorem upS_rep {d e : Nat} {ρ ρ' : Nat → Loc3} {N N' : Nat → Prop} (hN : ∀ n, N (n + d) → N' (n + e) ∧ ρ' (n + e) = ρ (n + d)) {a : AV} {v : Value} (h : Rep ρ N (upS d a) v) : Rep ρ' N' (upS e a) v := by
  unfold upS at *
  split at h
  · cases h with
    | ptr _ _ _ h => rw [← (hN _ h).2]; exact .ptr _ _ _ (hN _ h).1
  · cases h with
    | slice _ _ _ _ _ _ c ad hn hc hl hw had =>
      obtain ⟨g1, g2⟩ := hN _ hn
      exact .slice _ _ _ _ _ _ c ad g1 hc hl (by rw [g2]; exact hw) (by rw [g2]; exact had)
  · cases h with
    | wptr _ _ _ _ h => rw [← (hN _ h).2]; exact .wptr _ _ _ _ (hN _ h).1
  · cases h with
    | wslice _ _ _ _ _ _ c ad hn hc hl hw had =>
      obtain ⟨g1, g2⟩ := hN _ hn
      exact .wslice _ _ _ _ _ _ c ad g1 hc hl (by rw [g2]; exact hw) (by rw [g2]; exact had)
  · split at h
    · rename_i hp
      exact plainN_rep h hp
    · exact .top _
theorem upL_rep {d e : Nat} {ρ ρ' : Nat → Loc3} {N N' : Nat → Prop} (hN : ∀ n, N (n + d) → N' (n + e) ∧ ρ' (n + e) = ρ (n + d)) : ∀ {l : List AV} {vs : List Value} (_ : Reps ρ N (l.map (upS d)) vs), Reps ρ' N' (l.map (upS e)) vs
  | [], vs, h => by cases h; exact .nil
  | a :: l, vs, h => by
    cases h with
    | cons _ _ v vs h hs => exact .cons _ _ _ _ (upS_rep hN h) (upL_rep hN hs)
theorem upA_rep {d e : Nat} {ρ ρ' : Nat → Loc3} {N N' : Nat → Prop} (hN : ∀ n, N (n + d) → N' (n + e) ∧ ρ' (n + e) = ρ (n + d)) {a : AV} {v : Value} (h : Rep ρ N (upA d a) v) : Rep ρ' N' (upA e a) v := by
  unfold upA at *
  split at h
  · cases h with
    | tuple _ vs h => exact .tuple _ _ (upL_rep hN h)
  · exact upS_rep hN h
theorem upS_int {d : Nat} {s : Bool} {k : IntKind} {n : Int} : upS d (.int s k n) = .int s k n := rfl
theorem exp_up {d : Nat} : ∀ {l : List AV}, exp (l.map (upS d)) = (exp l).map (upS d)
  | [] => rfl
  | a :: l => by
    have ih := exp_up (d := d) (l := l)
    have key : ∀ {b : AV}, (∀ k n xs, b ≠ .ints k n xs) → exp (b :: l.map (upS d)) = b :: exp (l.map (upS d)) := fun {b} hb => by
      cases b <;> try rfl
      rename_i k n xs
      exact (hb k n xs rfl).elim
    by_cases ha : ∃ k n xs, a = .ints k n xs
    · obtain ⟨k, n, xs, rfl⟩ := ha
      show spread k n xs ++ exp (l.map (upS d)) = (spread k n xs ++ exp l).map (upS d)
      rw [List.map_append, ih]
      congr 1
      simp [spread, upS_int]
    · have h1 : exp (a :: l) = a :: exp l := by
        cases a <;> try rfl
        rename_i k n xs
        exact (ha ⟨k, n, xs, rfl⟩).elim
      rw [h1, List.map_cons, List.map_cons, key, ih]
      intro k n xs e
      unfold upS at e
      split at e <;> try (cases e; done)
      split at e
      · exact ha ⟨k, n, xs, e⟩
      · cases e
theorem wok_up {d : Nat} {l : List AV} (h : WOk (l.map (upS d))) {e : Nat} : WOk (l.map (upS e)) := fun k n xs hm => by
  obtain ⟨a, h1, h2⟩ := List.mem_map.1 hm
  refine h k n xs (List.mem_map.2 ⟨a, h1, ?_⟩)
  unfold upS at h2 ⊢
  split at h2 <;> try (cases h2; done)
  split at h2
  · subst h2; simp_all
  · cases h2
theorem upC_rep {d e : Nat} {ρ ρ' : Nat → Loc3} {N N' : Nat → Prop} (hN : ∀ n, N (n + d) → N' (n + e) ∧ ρ' (n + e) = ρ (n + d)) {c : Cells} {f : Nat → Option Value} (h : CRep ρ N (upC d c) f) : CRep ρ' N' (upC e c) f := by
  cases c with
  | vals l =>
    intro i a hi
    simp only [List.getElem?_map] at hi
    cases hx : l[i]? with
    | none => simp [hx] at hi
    | some x =>
      simp [hx] at hi
      subst hi
      obtain ⟨v, h1, h2⟩ := h i (upS d x) (by simp [hx])
      exact ⟨v, h1, upS_rep hN h2⟩
  | ints k sz l => exact h
  | bools n l => exact h
  | one n r i a => exact ⟨h.1, h.2.1, upS_rep hN h.2.2⟩
  | rows n r => exact h
  | wide l =>
    refine ⟨wok_up h.1, fun i a hi => ?_⟩
    rw [exp_up, List.getElem?_map] at hi
    cases hx : (exp l)[i]? with
    | none => simp [hx] at hi
    | some x =>
      simp [hx] at hi
      subst hi
      obtain ⟨v, h1, h2⟩ := h.2 i (upS d x) (by rw [exp_up]; simp [hx])
      exact ⟨v, h1, upS_rep hN h2⟩
theorem up_name {d : Nat} {bs : Mem} {i : Nat} {b : Blk} (h : getName (onlyRw (bs.map (upB d))) i = some b) : b.rw = true ∧ i < bs.length ∧ ∃ c, b.c = upC d c ∧ ∀ e, getName (onlyRw (bs.map (upB e))) i = some ⟨true, upC e c⟩ := by
  obtain ⟨g1, g2⟩ := getName_onlyRw h
  have hlt := getName_lt g1
  refine ⟨g2, by simpa using hlt, ?_⟩
  unfold getName at g1
  rw [List.getElem?_map] at g1
  cases hx : bs[i]? with
  | none => simp [hx] at g1
  | some x =>
    cases x with
    | none => simp [hx, upB] at g1
    | some y =>
      simp [hx, upB] at g1
      subst g1
      obtain ⟨rw, c⟩ := y
      simp only at g2
      subst g2
      refine ⟨c, rfl, fun e => ?_⟩
      unfold getName onlyRw
      simp [hx, upB]
theorem upC_len {d : Nat} {c : Cells} : clen (upC d c) = clen c := by
  cases c <;> simp [upC, clen]
  rw [← exp_length, exp_up, List.length_map, exp_length]

/-- A call that looks at views of its arguments, and makes memory. -/
def ViewCall (P : Program) (g : FuncId) (xs : List V) (v : AV) (bs : Mem) : Prop :=
  ∀ {ρ : Nat → Loc3} {vs : List Value} {w : World}, Reps ρ (upto xs.length) (cArgs 0 xs) vs → Inv w (fun _ => False) (upto xs.length) ρ (getName (cMem xs)) w →
    CallRun P g vs.toArray w (fun u w' => ∃ ρ', Rep ρ' (upto (xs.length + bs.length)) (upA xs.length v) u ∧
      Inv w (fun _ => False) (upto (xs.length + bs.length)) ρ' (getName (cMem xs ++ onlyRw (bs.map (upB xs.length)))) w')

def withV (g : FuncId) (spec : List V → E (AV × Mem)) (X : CallH) : CallH := fun f args m =>
  match decide (f = g) with
  | true => match viewsA m args with
    | some (o1, xs) => match spec xs with
      | some (o2, (v, bs)) => some (o1 ++ o2, (upA m.length v, m ++ onlyRw (bs.map (upB m.length))))
      | none => X f args m
    | none => X f args m
  | false => X f args m

section
variable {P : Program} {q : FuncId → Bool} {H : CallH}

theorem HOk.withV {g : FuncId} {spec : List V → E (AV × Mem)} (hX : HOk P H) (h : ∀ xs o v bs, spec xs = some (o, (v, bs)) → Paid o → ViewCall P g xs v bs) : HOk P (withV g spec H) := by
  have both : ∀ {f : FuncId} {as : List AV} {m : Mem} {ob : List Bool} {v : AV} {m' : Mem}, Go.Ev.withV g spec H f as m = some (ob, (v, m')) → Paid ob →
      m.length ≤ m'.length ∧ ∀ {w0 : World} {S : Nat → Prop} {ρ : Nat → Loc3} {w : World} {vs : List Value}, Reps ρ (upto m.length) as vs → Inv w0 S (upto m.length) ρ (getName m) w →
      CallRun P f vs.toArray w (fun u w' => ∃ ρ', Rep ρ' (upto m'.length) v u ∧ Inv w0 S (upto m'.length) ρ' (getName m') w' ∧ Agr ρ ρ' (upto m.length)) := by
    intro f as m ob v m' hr ho
    unfold Go.Ev.withV at hr
    split at hr
    · rename_i hf
      simp at hf
      subst hf
      split at hr
      · rename_i o1 xs hv
        split at hr
        · rename_i o2 v1 bs hs
          cases hr
          have hp := paid_append.1 ho
          refine ⟨by simp, fun {w0 S ρ w vs} ha hi => ?_⟩
          obtain ⟨Ls, c1, c2⟩ := viewsA_ok hi.sim hv hp.1 ha 0
          have hc : ViewCall P f xs v1 bs := h xs o2 v1 bs hs hp.2
          have hcm : (cMem xs).length = xs.length := by simp [cMem]
          have k1 : Reps Ls (upto xs.length) (cArgs 0 xs) vs := c1 Ls (upto xs.length) fun i hi => by rw [Nat.zero_add]; exact ⟨rfl, hi⟩
          have k2 : Inv w (fun _ => False) (upto xs.length) Ls (getName (cMem xs)) w := by
            refine Inv.start _ ⟨fun n b hn => ?_, fun i j bi bj hi hj hij hr => ?_, fun n b hn => ?_, hi.sim.tab, fun G c hG n b hn hr => by rw [(c2 n b hn).1] at hr; cases hr⟩ fun n b hn hr => ?_
            · have := (c2 n b hn).2 Ls (upto xs.length) (by rw [Nat.zero_add])
              rwa [Nat.zero_add] at this
            · rw [(c2 i bi hi).1] at hr; cases hr
            · have := getName_lt hn
              rw [hcm] at this
              exact this
            · rw [(c2 n b hn).1] at hr; cases hr
          refine (hc k1 k2).mono fun u w' ⟨ρ', r1, r2⟩ => ?_
          have hl : (m ++ onlyRw (bs.map (upB m.length))).length = m.length + bs.length := by simp [onlyRw]
          rw [hl]
          let ρf : Nat → Loc3 := fun n => if n < m.length then ρ n else ρ' (n - m.length + xs.length)
          have hag : Agr ρ ρf (upto m.length) := fun i hi => by
            have : i < m.length := hi
            simp [ρf, this]
          have hN : ∀ n, upto (xs.length + bs.length) (n + xs.length) → upto (m.length + bs.length) (n + m.length) ∧ ρf (n + m.length) = ρ' (n + xs.length) := fun n hn => by
            refine ⟨by simp [upto] at *; omega, ?_⟩
            simp only [ρf]
            rw [if_neg (by omega), Nat.add_sub_cancel]
          refine ⟨ρf, upA_rep hN r1, ?_, hag⟩
          -- the new blocks, under their names
          have r3 : Inv w (fun _ => False) (upto (m.length + bs.length)) ρf (fun n => if n < m.length then Option.none else getName (onlyRw (bs.map (upB m.length))) (n - m.length)) w' := by
            have blk : ∀ n b, (if n < m.length then Option.none else getName (onlyRw (bs.map (upB m.length))) (n - m.length)) = some b → (m.length ≤ n ∧ n < m.length + bs.length) ∧ b.rw = true ∧
                ∃ c, b.c = upC m.length c ∧ getName (cMem xs ++ onlyRw (bs.map (upB xs.length))) (n - m.length + xs.length) = some ⟨true, upC xs.length c⟩ := by
              intro n b hn
              split at hn
              · cases hn
              · rename_i hlt
                obtain ⟨g1, g2, c, g3, g4⟩ := up_name hn
                refine ⟨by omega, g1, c, g3, ?_⟩
                rw [getName_app, if_neg (by rw [hcm]; omega), hcm, Nat.add_sub_cancel]
                exact g4 _
            refine ⟨⟨fun n b hn => ?_, fun i j bi bj hi hj hij hr => ?_, fun n b hn => ?_, r2.sim.tab, fun G c hG n b hn hr => by
              obtain ⟨h1, h2, c, h3, h4⟩ := blk n b hn
              have e : ρf n = ρ' (n - m.length + xs.length) := by simp only [ρf]; rw [if_neg (by omega)]
              rw [e]
              exact r2.sim.apart G _ hG _ _ h4 rfl⟩, r2.size, r2.frame, r2.os, r2.tape, r2.output, fun n b hn hr => ?_⟩
            · obtain ⟨h1, h2, c, h3, h4⟩ := blk n b hn
              obtain ⟨cs, t, lo', hi', b1, b2, b3, b4, b5⟩ := (r2.sim.blk _ _ h4).ex
              have e : ρf n = ρ' (n - m.length + xs.length) := by simp only [ρf]; rw [if_neg (by omega)]
              refine ⟨cs, t, lo', hi', by rw [e]; exact b1, by rw [e]; exact b2, fun _ => b3 rfl, ?_, ?_⟩
              · rw [e, h3, upC_len]; rw [upC_len] at b4; exact b4
              · rw [e, h3]; exact upC_rep hN b5
            · obtain ⟨h1, h2, c, h3, h4⟩ := blk i bi hi
              obtain ⟨h1', h2', c', h3', h4'⟩ := blk j bj hj
              have e : ρf i = ρ' (i - m.length + xs.length) := by simp only [ρf]; rw [if_neg (by omega)]
              have e' : ρf j = ρ' (j - m.length + xs.length) := by simp only [ρf]; rw [if_neg (by omega)]
              rw [e, e']
              exact r2.sim.inj _ _ _ _ h4 h4' (by omega) rfl
            · obtain ⟨h1, _⟩ := blk n b hn
              simp [upto]; omega
            · obtain ⟨h1, h2, c, h3, h4⟩ := blk n b hn
              have e : ρf n = ρ' (n - m.length + xs.length) := by simp only [ρf]; rw [if_neg (by omega)]
              rw [e]
              exact r2.rws _ _ h4 rfl
          refine hi.join (S1 := fun _ => False) r3 (fun _ h => h.elim) (fun i hi => by simp [upto] at *; omega) (fun _ h => h) hag (fun _ _ => rfl) fun n b hn => ?_
          rw [getName_app] at hn
          split at hn
          · exact Or.inl ⟨hn, fun h => h⟩
          · rename_i hlt
            refine Or.inr ⟨by rw [if_neg hlt]; exact hn, (getName_onlyRw hn).2⟩
        · exact ⟨hX.le hr ho, fun ha hi => hX.run hr ho ha hi⟩
      · exact ⟨hX.le hr ho, fun ha hi => hX.run hr ho ha hi⟩
    · exact ⟨hX.le hr ho, fun ha hi => hX.run hr ho ha hi⟩
  exact ⟨@fun f as m ob v m' h ho => (both h ho).1, @fun f as m ob v m' h ho w0 S ρ w vs ha hi => (both h ho).2 ha hi⟩

theorem plainN_of {a : AV} (h : plainA a = true) : plainN a = true := by cases a <;> simp_all [plainN, plainA]
theorem upA_plain {d : Nat} {v : AV} (h : plainAs v = true) : upA d v = v := by
  have one : ∀ a, plainA a = true → upS d a = a := fun a ha => by
    have := plainN_of ha
    unfold upS
    split
    · simp [plainA] at ha
    · simp [plainA] at ha
    · simp [plainA] at ha
    · simp [plainA] at ha
    · rw [this]
  unfold upA
  split
  · rename_i l
    simp only [plainAs, List.all_eq_true] at h
    congr 1
    exact (List.map_congr_left fun a ha => one a (h a ha)).trans (List.map_id' l)
  · rename_i hne
    refine one v ?_
    unfold plainAs at h
    split at h
    · rename_i l; exact absurd rfl (hne l)
    · exact h

/-- One way through the tests, given by its turns: each turn taken is owed. -/
def Tree.go {α : Type} : List Bool → Tree α → Tree α
  | ds, .need p t => .need p (Tree.go ds t)
  | true :: ds, .ite c t _ => .need c (Tree.go ds t)
  | false :: ds, .ite c _ e => .need (!c) (Tree.go ds e)
  | _, t => t
theorem go_sound {α : Type} {Q : α → Prop} : ∀ {T : Tree α} {ds : List Bool}, (T.go ds).Sat Q → T.Sat Q
  | .leaf _, ds, h => by cases ds <;> (try (rename_i b _; cases b)) <;> exact h
  | .fail, ds, h => by cases ds <;> (try (rename_i b _; cases b)) <;> exact h
  | .need p t, ds, h => by
    have h' : p = true ∧ (t.go ds).Sat Q := by cases ds <;> (try (rename_i b _; cases b)) <;> exact h
    exact ⟨h'.1, go_sound h'.2⟩
  | .ite c t e, [], h => h
  | .ite c t e, true :: ds, h => by
    have h' : c = true ∧ (t.go ds).Sat Q := h
    exact ⟨fun _ => go_sound h'.2, fun hc => by rw [h'.1] at hc; cases hc⟩
  | .ite c t e, false :: ds, h => by
    have h' : (!c) = true ∧ (e.go ds).Sat Q := h
    exact ⟨(fun hc => by rw [hc] at h'; exact absurd h'.1 (by decide)), fun _ => go_sound h'.2⟩

/-- A contract, off what the function's text comes to over the views: plain answers. -/
theorem view_of_eval (hm : P.follows .mixedOrders = true) (hng : noCount P = true) (hH : HOk P H) {n : Nat} {g : FuncId} {xs : List V} {v : AV} (hpl : plainAs v = true)
    (h : (funcA P q H n g (cArgs 0 xs) (cMem xs)).Sat (fun p => ∀ {ρ ρ' : Nat → Loc3} {N N' : Nat → Prop} {u : Value}, Rep ρ N p.1 u → Rep ρ' N' v u)) : ViewCall P g xs v [] := by
  intro ρ vs w ha hi
  have hcm : (cMem xs).length = xs.length := by simp [cMem]
  have ha' : Reps ρ (upto (cMem xs).length) (cArgs 0 xs) vs := by rw [hcm]; exact ha
  have hi' : Inv w (fun _ => False) (upto (cMem xs).length) ρ (getName (cMem xs)) w := by rw [hcm]; exact hi
  obtain ⟨hf, hc⟩ := funcA_sound hm hH h ha' hi'
  refine callRun_of hng hf (hc.mono fun e w' ⟨u, h1, x', m2, ρ', k1, k2, k3, k4, k5⟩ => ⟨u, h1, ρ, ?_, ?_⟩)
  · rw [upA_plain hpl]; exact k1 k2
  · have := hi.quiet k3
    simpa [onlyRw] using this
theorem view_of_res (hm : P.follows .mixedOrders = true) (hng : noCount P = true) (hH : HOk P H) {n : Nat} {g : FuncId} {xs : List V} {o : List Bool} {v v' : AV}
    (h : res (funcA P q H n g (cArgs 0 xs) (cMem xs)) = some (o, v)) (ho : Paid o) (hv : v = v') (hpl : plainAs v' = true) : ViewCall P g xs v' [] :=
  view_of_eval hm hng hH hpl (sat_eq h ho hv hpl)
theorem view_of_go (hm : P.follows .mixedOrders = true) (hng : noCount P = true) (hH : HOk P H) {n : Nat} {g : FuncId} {xs : List V} {o : List Bool} {v v' : AV} (ds : List Bool)
    (h : res ((funcA P q H n g (cArgs 0 xs) (cMem xs)).go ds) = some (o, v)) (ho : Paid o) (hv : v = v') (hpl : plainAs v' = true) : ViewCall P g xs v' [] :=
  view_of_eval hm hng hH hpl (go_sound (sat_eq h ho hv hpl))
theorem pure_of_go (hm : P.follows .mixedOrders = true) (hng : noCount P = true) (hH : HOk P H) {n : Nat} {g : FuncId} {args : List AV} {o : List Bool} {v v' : AV} (ds : List Bool) (hp : args.all plainA = true)
    (h : res ((funcA P q H n g args []).go ds) = some (o, v)) (ho : Paid o) (hv : v = v') (hpl : plainAs v' = true) : PureCall P g args v' :=
  pure_of_eval hm hng hH hp (go_sound (sat_eq h ho hv hpl))
end
end Go.Ev
