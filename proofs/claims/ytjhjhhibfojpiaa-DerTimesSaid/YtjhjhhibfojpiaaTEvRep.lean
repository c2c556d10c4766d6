/- What the evaluator's values and memories stand for; plain operations keep it. Own work. -/
import Derived.Test.YtjhjhhibfojpiaaTEv
set_option linter.unusedSimpArgs false
set_option linter.unusedVariables false
set_option linter.unusedSectionVars false
namespace Go.Ev
set_option linter.unusedSectionVars false

structure Loc3 where
  b : Nat
  sh : Nat
  sz : Nat

/-- Rows of numbers are as long as they say. -/
def WOk (l : List AV) : Prop := ∀ k n xs, AV.ints k n xs ∈ l → xs.length = n

def mkStr (l : List Int) : ByteArray := ⟨(l.map fun x => UInt8.ofNat x.toNat).toArray⟩

mutual
inductive Rep (ρ : Nat → Loc3) (N : Nat → Prop) : AV → Value → Prop
  | top (v : Value) : Rep ρ N .top v
  | bool (s b : Bool) : Rep ρ N (.bool s b) (.bool b)
  | int (s : Bool) (k : IntKind) (n : Int) (h : inR k n = true) : Rep ρ N (.int s k n) (.int k n)
  | str (s : Bool) (l : List Int) (h : ∀ x ∈ l, 0 ≤ x ∧ x < 256) : Rep ρ N (.str s l) (.string (mkStr l))
  | ptr (s : Bool) (n o : Nat) (h : N n) : Rep ρ N (.ptr s n o) (.pointer (some ⟨(ρ n).b, (ρ n).sh + o, none⟩))
  | nilptr : Rep ρ N .nilptr (.pointer none)
  | slice (s : Bool) (n o len : Nat) (cap : Option Nat) (e c : Nat) (ad : Addr) (h : N n) (hc : ∀ c', cap = some c' → c = c') (hl : len ≤ c)
      (hw : o + c * e ≤ (ρ n).sz) (had : 0 < c → ad = ⟨(ρ n).b, (ρ n).sh + o, none⟩) : Rep ρ N (.slice s n o len cap e) (.slice (some ad) len c)
  | nilslice : Rep ρ N .nilslice (.slice none 0 0)
  | ints (k : IntKind) (n : Nat) (l : List Int) (hn : l.length = n) (h : ∀ x ∈ l, inR k x = true) : Rep ρ N (.ints k n l) (.agg (l.map (Value.int k)).toArray)
  | agg (l : List AV) (vs : List Value) (h : Reps ρ N l vs) : Rep ρ N (.agg l) (.agg vs.toArray)
  | tuple (l : List AV) (vs : List Value) (h : Reps ρ N l vs) : Rep ρ N (.tuple l) (.tuple vs.toArray)
  | grdT (a : AV) (v : Value) (h : Rep ρ N a v) : Rep ρ N (.grd true a) v
  | grdF (a : AV) : Rep ρ N (.grd false a) undef
  | func (f : FuncId) (cap : List AV) (vs : List Value) (h : Reps ρ N cap vs) : Rep ρ N (.func f cap) (.func (.func f) #[] vs.toArray)
  | nilfunc : Rep ρ N .nilfunc .nilFunc
  | iface (t : TypeId) (a : AV) (v : Value) (h : Rep ρ N a v) : Rep ρ N (.iface t a) (.iface t v)
  | niliface : Rep ρ N .niliface .nilIface
  | wagg (l : List AV) (vs : List Value) (hw : WOk l) (h : Reps ρ N (exp l) vs) : Rep ρ N (.wagg l) (.agg vs.toArray)
  | wptr (s : Bool) (n b o : Nat) (h : N n) : Rep ρ N (.wptr s n b o) (.pointer (some ⟨(ρ n).b, (ρ n).sh + (b + o), none⟩))
  | wslice (s : Bool) (n b o len : Nat) (cap : Option Nat) (c : Nat) (ad : Addr) (h : N n) (hc : ∀ c', cap = some c' → c = c') (hl : len ≤ c)
      (hw : b + o + c ≤ (ρ n).sz) (had : 0 < c → ad = ⟨(ρ n).b, (ρ n).sh + (b + o), none⟩) : Rep ρ N (.wslice s n b o len cap) (.slice (some ad) len c)
  | gptr (s : Bool) (g o : Nat) : Rep ρ N (.gptr s g o) (.pointer (some ⟨g, o, none⟩))
  | bools (n : Nat) (l : List Bool) (hn : l.length = n) : Rep ρ N (.bools n l) (.agg (l.map Value.bool).toArray)
inductive Reps (ρ : Nat → Loc3) (N : Nat → Prop) : List AV → List Value → Prop
  | nil : Reps ρ N [] []
  | cons (a : AV) (l : List AV) (v : Value) (vs : List Value) (h : Rep ρ N a v) (hs : Reps ρ N l vs) : Reps ρ N (a :: l) (v :: vs)
end

def upto (k : Nat) : Nat → Prop := fun n => n < k
def Agr (ρ ρ' : Nat → Loc3) (N : Nat → Prop) : Prop := ∀ i, N i → ρ' i = ρ i

mutual
theorem Rep.ext {ρ ρ' : Nat → Loc3} {N N' : Nat → Prop} (ha : Agr ρ ρ' N) (hN : ∀ i, N i → N' i) {a : AV} {v : Value} (h : Rep ρ N a v) : Rep ρ' N' a v :=
  match h with
  | .top v => .top v
  | .bool s b => .bool s b
  | .int s k n h => .int s k n h
  | .str s l h => .str s l h
  | .ptr s n o h => by rw [← ha n h]; exact .ptr s n o (hN n h)
  | .nilptr => .nilptr
  | .slice s n o len cap e c ad h hc hl hw had => by rw [← ha n h] at hw had; exact .slice s n o len cap e c ad (hN n h) hc hl hw had
  | .nilslice => .nilslice
  | .ints k n l hn h => .ints k n l hn h
  | .agg l vs h => .agg l vs (Reps.ext ha hN h)
  | .tuple l vs h => .tuple l vs (Reps.ext ha hN h)
  | .grdT a v h => .grdT a v (Rep.ext ha hN h)
  | .grdF a => .grdF a
  | .func f cap vs h => .func f cap vs (Reps.ext ha hN h)
  | .nilfunc => .nilfunc
  | .iface t a v h => .iface t a v (Rep.ext ha hN h)
  | .niliface => .niliface
  | .wagg l vs hw h => .wagg l vs hw (Reps.ext ha hN h)
  | .wptr s n b o h => by rw [← ha n h]; exact .wptr s n b o (hN n h)
  | .wslice s n b o len cap c ad h hc hl hw had => by rw [← ha n h] at hw had; exact .wslice s n b o len cap c ad (hN n h) hc hl hw had
  | .gptr s g o => .gptr s g o
  | .bools n l hn => .bools n l hn
theorem Reps.ext {ρ ρ' : Nat → Loc3} {N N' : Nat → Prop} (ha : Agr ρ ρ' N) (hN : ∀ i, N i → N' i) {l : List AV} {vs : List Value} (h : Reps ρ N l vs) : Reps ρ' N' l vs :=
  match h with
  | .nil => .nil
  | .cons a l v vs h hs => .cons a l v vs (Rep.ext ha hN h) (Reps.ext ha hN hs)
end

theorem Reps.length {ρ : Nat → Loc3} {N : Nat → Prop} : ∀ {l : List AV} {vs : List Value}, Reps ρ N l vs → l.length = vs.length
  | _, _, .nil => rfl
  | _, _, .cons _ _ _ _ _ hs => by simp [Reps.length hs]

theorem Reps.get {ρ : Nat → Loc3} {N : Nat → Prop} : ∀ {l : List AV} {vs : List Value} (i : Nat) (a : AV), Reps ρ N l vs → l[i]? = some a → ∃ v, vs[i]? = some v ∧ Rep ρ N a v
  | _, _, i, a, .nil, h => by simp at h
  | _, _, 0, a, .cons _ _ _ _ h1 _, h => by simp at h; subst h; exact ⟨_, rfl, h1⟩
  | _, _, i + 1, a, .cons _ _ _ _ _ hs, h => by simpa using Reps.get i a hs (by simpa using h)

theorem Reps.append {ρ : Nat → Loc3} {N : Nat → Prop} : ∀ {l q : List AV} {vs us : List Value}, Reps ρ N l vs → Reps ρ N q us → Reps ρ N (l ++ q) (vs ++ us)
  | _, _, _, _, .nil, h => h
  | _, _, _, _, .cons a l v vs h hs, h' => .cons a _ v _ h (Reps.append hs h')

theorem Reps.take {ρ : Nat → Loc3} {N : Nat → Prop} : ∀ {l : List AV} {vs : List Value} (n : Nat), Reps ρ N l vs → Reps ρ N (l.take n) (vs.take n)
  | _, _, 0, _ => by simpa using .nil
  | _, _, n + 1, .nil => by simpa using .nil
  | _, _, n + 1, .cons a l v vs h hs => .cons a _ v _ h (Reps.take n hs)

theorem Reps.drop {ρ : Nat → Loc3} {N : Nat → Prop} : ∀ {l : List AV} {vs : List Value} (n : Nat), Reps ρ N l vs → Reps ρ N (l.drop n) (vs.drop n)
  | _, _, 0, h => h
  | _, _, n + 1, .nil => by simpa using .nil
  | _, _, n + 1, .cons a l v vs _ hs => by simpa using Reps.drop n hs

theorem reps_of {ρ : Nat → Loc3} {N : Nat → Prop} : ∀ {l : List AV} {vs : List Value}, l.length = vs.length → (∀ (i : Nat) (a : AV) (v : Value), l[i]? = some a → vs[i]? = some v → Rep ρ N a v) → Reps ρ N l vs
  | [], [], _, _ => .nil
  | a :: l, v :: vs, hl, h => .cons a l v vs (h 0 a v rfl rfl) (reps_of (by simpa using hl) fun i x y hx hy => h (i + 1) x y (by simpa using hx) (by simpa using hy))
  | [], _ :: _, hl, _ => by simp at hl
  | _ :: _, [], hl, _ => by simp at hl

/- aggregates -/
theorem isInts_spec {k : IntKind} : ∀ {l : List AV} {ns : List Int}, isInts k l = some ns → ns.length = l.length ∧ ∀ {ρ : Nat → Loc3} {N : Nat → Prop} {vs : List Value}, Reps ρ N l vs → vs = ns.map (Value.int k) ∧ ∀ x ∈ ns, inR k x = true
  | [], ns, h => by
    simp [isInts] at h; subst h
    exact ⟨rfl, fun hr => by cases hr; simp⟩
  | a :: l, ns, h => by
    cases a <;> simp only [isInts] at h <;> try (cases h; done)
    rename_i s k' n
    split at h
    · rename_i hk
      subst hk
      cases hi : isInts k' l with
      | none => simp [hi] at h
      | some q =>
        simp [hi] at h; subst h
        obtain ⟨h1, h2⟩ := isInts_spec hi
        refine ⟨by simp [h1], fun hr => ?_⟩
        cases hr with
        | cons _ _ v vs h hs =>
          cases h with
          | int _ _ _ hw =>
            obtain ⟨h3, h4⟩ := h2 hs
            subst h3
            exact ⟨by simp, by intro x hx; simp at hx; exact hx.elim (fun e => e ▸ hw) (h4 x)⟩
    · cases h

theorem isBools_spec : ∀ {l : List AV} {bs : List Bool}, isBools l = some bs → bs.length = l.length ∧ ∀ {ρ : Nat → Loc3} {N : Nat → Prop} {vs : List Value}, Reps ρ N l vs → vs = bs.map Value.bool
  | [], bs, h => by
    simp [isBools] at h; subst h
    exact ⟨rfl, fun hr => by cases hr; simp⟩
  | a :: l, bs, h => by
    cases a <;> simp only [isBools] at h <;> try (cases h; done)
    rename_i s b
    cases hi : isBools l with
    | none => simp [hi] at h
    | some q =>
      simp [hi] at h; subst h
      obtain ⟨h1, h2⟩ := isBools_spec hi
      refine ⟨by simp [h1], fun hr => ?_⟩
      cases hr with
      | cons _ _ v vs h hs =>
        cases h
        rw [h2 hs]
        simp
theorem mkAgg_rep {ρ : Nat → Loc3} {N : Nat → Prop} {l : List AV} {vs : List Value} (h : Reps ρ N l vs) : Rep ρ N (mkAgg l) (.agg vs.toArray) := by
  unfold mkAgg
  split
  · rename_i s k a r
    split
    · rename_i ns hns
      split
      · have h0 : isInts k (.int s k a :: r) = some (a :: ns) := by simp [isInts, hns]
        obtain ⟨h1, h2⟩ := isInts_spec h0
        obtain ⟨h3, h4⟩ := h2 h
        subst h3
        exact .ints k _ (a :: ns) (by simp) h4
      · exact .agg _ _ h
    · exact .agg _ _ h
  · rename_i s b r
    split
    · rename_i bs hbs
      split
      · have h0 : isBools (.bool s b :: r) = some (b :: bs) := by simp [isBools, hbs]
        obtain ⟨h1, h2⟩ := isBools_spec h0
        rw [h2 h]
        exact .bools _ (b :: bs) (by simp)
      · exact .agg _ _ h
    · exact .agg _ _ h
  · exact .agg _ _ h

theorem spread_length {k : IntKind} {n : Nat} {l : List Int} : (spread k n l).length = n := by simp [spread]
theorem spread_get {k : IntKind} {n : Nat} {l : List Int} {i : Nat} : (spread k n l)[i]? = if i < n then some (.int true k (l.getD i 0)) else none := by
  unfold spread
  by_cases h : i < n
  · simp [h]
  · simp [h]

/- cells kept together -/
theorem exp_append : ∀ {l q : List AV}, exp (l ++ q) = exp l ++ exp q
  | [], q => rfl
  | a :: l, q => by
    have ih := exp_append (l := l) (q := q)
    cases a <;> simp [exp, ih]
theorem exp_length : ∀ {l : List AV}, (exp l).length = wlen l
  | [] => rfl
  | a :: l => by
    have ih := exp_length (l := l)
    cases a <;> simp [exp, wlen, width, ih, spread_length] <;> omega
theorem WOk.nil : WOk [] := fun _ _ _ h => by cases h
theorem WOk.tail {a : AV} {l : List AV} (h : WOk (a :: l)) : WOk l := fun k n xs hm => h k n xs (List.mem_cons_of_mem _ hm)
theorem WOk.cons {a : AV} {l : List AV} (h1 : ∀ k n xs, a = .ints k n xs → xs.length = n) (h : WOk l) : WOk (a :: l) := fun k n xs hm => by
  rcases List.mem_cons.1 hm with e | e
  · exact h1 k n xs e.symm
  · exact h k n xs e
theorem WOk.append {l q : List AV} (h1 : WOk l) (h2 : WOk q) : WOk (l ++ q) := fun k n xs hm => by
  rcases List.mem_append.1 hm with e | e
  · exact h1 k n xs e
  · exact h2 k n xs e
theorem WOk.sub {l q : List AV} (h : WOk l) (hs : ∀ x ∈ q, x ∈ l) : WOk q := fun k n xs hm => h k n xs (hs _ hm)
theorem exp_plain {l : List AV} (h : (l.all fun a => match a with | .ints .. => false | _ => true) = true) : exp l = l := by
  induction l with
  | nil => rfl
  | cons a l ih =>
    simp only [List.all_cons, Bool.and_eq_true] at h
    cases a <;> simp [exp, ih h.2]
    simp at h
theorem exp_spread {k : IntKind} {n : Nat} {xs : List Int} : exp (spread k n xs) = spread k n xs := by
  refine exp_plain ?_
  simp [spread]

theorem dropW_spec : ∀ {l q : List AV} {o : Nat}, dropW l o = some q → exp q = (exp l).drop o ∧ o ≤ wlen l ∧ ∀ x ∈ q, x ∈ l
  | l, q, 0, h => by
    unfold dropW at h
    cases h
    exact ⟨by simp, by omega, fun _ h => h⟩
  | [], q, o + 1, h => by simp [dropW] at h
  | a :: r, q, o + 1, h => by
    unfold dropW at h
    split at h
    · rename_i hw
      simp only [decide_eq_true_eq] at hw
      obtain ⟨h1, h2, h3⟩ := dropW_spec h
      have e : exp (a :: r) = exp [a] ++ exp r := by rw [← exp_append]; rfl
      have hl : (exp [a]).length = width a := by rw [exp_length]; simp [wlen]
      refine ⟨?_, by simp only [wlen]; omega, fun x hx => List.mem_cons_of_mem _ (h3 x hx)⟩
      rw [h1, e, List.drop_append, hl, List.drop_of_length_le (l := exp [a]) (by omega), List.nil_append]
    · cases h
theorem takeW_spec : ∀ {l q : List AV} {o : Nat}, takeW l o = some q → exp q = (exp l).take o ∧ o ≤ wlen l ∧ ∀ x ∈ q, x ∈ l
  | l, q, 0, h => by
    unfold takeW at h
    cases h
    exact ⟨by simp [exp], by omega, fun _ h => by cases h⟩
  | [], q, o + 1, h => by simp [takeW] at h
  | a :: r, q, o + 1, h => by
    unfold takeW at h
    split at h
    · rename_i hw
      simp only [decide_eq_true_eq] at hw
      cases hq : takeW r (o + 1 - width a) with
      | none => simp [hq] at h
      | some q' =>
        simp [hq] at h
        subst h
        obtain ⟨h1, h2, h3⟩ := takeW_spec hq
        have e : exp (a :: r) = exp [a] ++ exp r := by rw [← exp_append]; rfl
        have e' : exp (a :: q') = exp [a] ++ exp q' := by rw [← exp_append]; rfl
        have hl : (exp [a]).length = width a := by rw [exp_length]; simp [wlen]
        refine ⟨?_, by simp only [wlen]; omega, fun x hx => ?_⟩
        · rw [e, e', h1, List.take_append, hl, List.take_of_length_le (l := exp [a]) (by omega)]
        · rcases List.mem_cons.1 hx with rfl | hx
          · exact List.mem_cons_self ..
          · exact List.mem_cons_of_mem _ (h3 x hx)
    · cases h
theorem locW_spec : ∀ {l : List AV} {a : AV} {o j : Nat}, locW l o = some (a, j) → (exp l)[o]? = some (cellW a j) ∧ a ∈ l ∧ j < width a
  | [], a, o, j, h => by simp [locW] at h
  | b :: r, a, o, j, h => by
    unfold locW at h
    have e : exp (b :: r) = exp [b] ++ exp r := by rw [← exp_append]; rfl
    have hl : (exp [b]).length = width b := by rw [exp_length]; simp [wlen]
    split at h
    · rename_i hw
      simp only [decide_eq_true_eq] at hw
      cases h
      refine ⟨?_, List.mem_cons_self .., hw⟩
      rw [e, List.getElem?_append_left (by omega)]
      cases b <;> simp [exp, width] at hw ⊢ <;> try (subst hw; rfl)
      simp [spread_get, hw, cellW]
    · rename_i hw
      simp only [decide_eq_false_iff_not] at hw
      obtain ⟨h1, h2, h3⟩ := locW_spec h
      refine ⟨?_, List.mem_cons_of_mem _ h2, h3⟩
      rw [e, List.getElem?_append_right (by omega), hl]
      exact h1
theorem partW_spec {l : List AV} {b n : Nat} {k : IntKind} {xs : List Int} (h : partW l b = some (k, n, xs)) :
    AV.ints k n xs ∈ l ∧ b + n ≤ wlen l ∧ ∀ i, i < n → (exp l)[b + i]? = some (.int true k (xs.getD i 0)) := by
  unfold partW at h
  split at h
  · rename_i k' n' xs' r hd
    cases h
    obtain ⟨h1, h2, h3⟩ := dropW_spec hd
    have hlen : (exp (AV.ints k n xs :: r)).length = wlen l - b := by rw [h1, List.length_drop, exp_length]
    rw [exp_length] at hlen
    simp only [wlen, width] at hlen
    refine ⟨h3 _ (List.mem_cons_self ..), by omega, fun i hi => ?_⟩
    have : (exp (AV.ints k n xs :: r))[i]? = (exp l)[b + i]? := by rw [h1, List.getElem?_drop]
    rw [← this]
    show (spread k n xs ++ exp r)[i]? = _
    rw [List.getElem?_append_left (by rw [spread_length]; exact hi), spread_get, if_pos hi]
  · cases h
theorem putW_spec {l l' : List AV} {b : Nat} {ys : List Int} (h : putW l b ys = some l') : ∃ k n xs, partW l b = some (k, n, xs) ∧ wlen l' = wlen l ∧
    (WOk l → ys.length = n → WOk l') ∧ ∀ i, (exp l')[i]? = if b ≤ i ∧ i < b + n then some (.int true k (ys.getD (i - b) 0)) else (exp l)[i]? := by
  unfold putW at h
  split at h
  · rename_i p k n xs r ht hd
    cases h
    obtain ⟨t1, t2, t3⟩ := takeW_spec ht
    obtain ⟨d1, d2, d3⟩ := dropW_spec hd
    have hlp : (exp p).length = b := by rw [t1, List.length_take, exp_length]; omega
    have hlr : (exp (AV.ints k n xs :: r)).length = wlen l - b := by rw [d1, List.length_drop, exp_length]
    rw [exp_length] at hlp
    rw [exp_length] at hlr
    simp only [wlen, width] at hlr
    have hw : ∀ {x : List AV} {y : List AV}, wlen (x ++ y) = wlen x + wlen y := by intro x y; rw [← exp_length, exp_append, List.length_append, exp_length, exp_length]
    refine ⟨k, n, xs, by simp [partW, hd], by rw [hw]; simp only [wlen, width]; omega, fun hok hy => ?_, fun i => ?_⟩
    · refine (hok.sub t3).append (WOk.cons (fun k' n' xs' e => by cases e; exact hy) (hok.sub fun x hx => d3 x (List.mem_cons_of_mem _ hx)))
    · rw [exp_append]
      show (exp p ++ (spread k n ys ++ exp r))[i]? = _
      by_cases h1 : i < b
      · rw [if_neg (by omega), List.getElem?_append_left (by rw [exp_length]; omega), t1, List.getElem?_take_of_lt h1]
      · rw [List.getElem?_append_right (by rw [exp_length]; omega), exp_length, hlp]
        by_cases h2 : i < b + n
        · rw [if_pos (by omega), List.getElem?_append_left (by rw [spread_length]; omega), spread_get, if_pos (by omega)]
        · rw [if_neg (by omega), List.getElem?_append_right (by rw [spread_length]; omega), spread_length]
          have e1 : (exp (AV.ints k n xs :: r))[i - b]? = (exp l)[i]? := by rw [d1, List.getElem?_drop, show b + (i - b) = i by omega]
          rw [← e1]
          show _ = (spread k n xs ++ exp r)[i - b]?
          rw [List.getElem?_append_right (by rw [spread_length]; omega), spread_length]
  · cases h
theorem setW_spec : ∀ {l l' : List AV} {o : Nat} {v : AV}, setW l o v = some l' → scalar v = true → wlen l' = wlen l ∧ o < wlen l ∧ (WOk l → WOk l') ∧
    ∃ v', (v' = v ∨ ∃ s k x, v = .int s k x ∧ v' = .int true k x) ∧ (WOk l → ∀ i, (exp l')[i]? = if i = o then some v' else (exp l)[i]?)
  | [], l', o, v, h, _ => by simp [setW] at h
  | a :: r, l', o, v, h, hsc => by
    have hv0 : ∀ k n xs, v ≠ .ints k n xs := fun k n xs e => by subst e; simp [scalar] at hsc
    have hv1 : width v = 1 := by cases v <;> simp [scalar] at hsc <;> rfl
    have hve : ∀ q, exp (v :: q) = v :: exp q := fun q => by cases v <;> simp [scalar] at hsc <;> rfl
    unfold setW at h
    have e : exp (a :: r) = exp [a] ++ exp r := by rw [← exp_append]; rfl
    have hl : (exp [a]).length = width a := by rw [exp_length]; simp [wlen]
    split at h
    · rename_i hw
      simp only [decide_eq_true_eq] at hw
      split at h
      · rename_i k n xs s k' x
        split at h
        · rename_i hk
          cases h
          subst hk
          simp only [width] at hw
          refine ⟨by simp [wlen, width], by simp only [wlen, width]; omega, fun hok => WOk.cons (fun k n ys e => by cases e; simpa using hok _ _ _ (List.mem_cons_self ..)) hok.tail, .int true k' x, Or.inr ⟨s, k', x, rfl, rfl⟩, fun hok i => ?_⟩
          have hx : xs.length = n := hok _ _ _ (List.mem_cons_self ..)
          show (spread k' n (xs.set o x) ++ exp r)[i]? = if i = o then _ else (spread k' n xs ++ exp r)[i]?
          by_cases h1 : i < n
          · rw [List.getElem?_append_left (by rw [spread_length]; exact h1), List.getElem?_append_left (by rw [spread_length]; exact h1), spread_get, spread_get, if_pos h1]
            by_cases h2 : i = o
            · subst h2
              simp [show i < xs.length by omega]
            · rw [if_neg h2]
              simp only [List.getD, List.getElem?_set_ne (Ne.symm h2)]
              simp [h1]
          · rw [List.getElem?_append_right (by rw [spread_length]; omega), List.getElem?_append_right (by rw [spread_length]; omega), spread_length, spread_length, if_neg (by omega)]
        · cases h
      · cases h
      · rename_i hna hnb
        cases h
        have ha1 : width a = 1 := by
          cases a <;> try rfl
          rename_i k n xs
          exact (hna k n xs rfl).elim
        have hae : exp (a :: r) = a :: exp r := by
          cases a <;> try rfl
          rename_i k n xs
          exact (hna k n xs rfl).elim
        have ho : o = 0 := by omega
        subst ho
        refine ⟨by simp only [wlen, hv1, ha1], by simp only [wlen]; omega, fun hok => WOk.cons (fun k n xs e => (hv0 k n xs e).elim) hok.tail, v, Or.inl rfl, fun _ i => ?_⟩
        rw [hve, hae]
        cases i <;> simp
    · rename_i hw
      simp only [decide_eq_false_iff_not] at hw
      cases hq : setW r (o - width a) v with
      | none => simp [hq] at h
      | some q =>
        simp [hq] at h
        subst h
        obtain ⟨h1, h2, h3, v', h4, h5⟩ := setW_spec hq hsc
        refine ⟨by simp only [wlen, h1], by simp only [wlen]; omega, fun hok => WOk.cons (fun k n xs e => hok k n xs (by rw [e]; exact List.mem_cons_self ..)) (h3 hok.tail), v', h4, fun hok i => ?_⟩
        have e' : exp (a :: q) = exp [a] ++ exp q := by rw [← exp_append]; rfl
        rw [e, e']
        by_cases h6 : i < width a
        · rw [List.getElem?_append_left (by omega), List.getElem?_append_left (by omega), if_neg (by omega)]
        · rw [List.getElem?_append_right (by omega), List.getElem?_append_right (by omega), hl, h5 hok.tail]
          by_cases h7 : i = o
          · rw [if_pos (by omega), if_pos h7]
          · rw [if_neg (by omega), if_neg h7]

theorem Rep.wok {ρ : Nat → Loc3} {N : Nat → Prop} {k : IntKind} {n : Nat} {xs : List Int} {v : Value} (h : Rep ρ N (.ints k n xs) v) : xs.length = n := by cases h; assumption
theorem cellsOf_rep {ρ : Nat → Loc3} {N : Nat → Prop} {a : AV} {v : Value} (h : Rep ρ N a v) (ha : alive a = true) : Reps ρ N (cellsOf a) v.cells.toList := by
  have h0 := h
  cases h <;> simp [alive] at ha <;> simp only [cellsOf, Value.cells] <;> try (exact .cons _ _ _ _ h0 .nil)
  case ints k n l hn h =>
    refine reps_of (by simp [spread_length, hn]) fun i a v hx hy => ?_
    rw [spread_get] at hx
    split at hx
    · rename_i hi
      cases hx
      have hl : i < l.length := by omega
      simp [hl] at hy
      subst hy
      simp only [List.getD, List.getElem?_eq_getElem hl, Option.getD_some]
      exact .int true k _ (h _ (List.getElem_mem hl))
    · cases hx
  case agg l vs h => simpa using h
  case wagg l vs hw h => simpa using h
  case bools n l hn =>
    refine reps_of (by simp [spreadB, hn]) fun i a v hx hy => ?_
    have hi : i < n := by
      have := (List.getElem?_eq_some_iff.1 hx).1
      simpa [spreadB] using this
    have hl : i < l.length := by omega
    simp [spreadB, hi, List.getD, hl] at hx
    simp [hl] at hy
    subst hx hy
    exact .bool true _

theorem scalar_one {ρ : Nat → Loc3} {N : Nat → Prop} {a : AV} {v : Value} (h : Rep ρ N a v) (ha : scalar a = true) : v.oneCell' = true := by
  cases h <;> simp [scalar] at ha <;> rfl
theorem scalar_cells {ρ : Nat → Loc3} {N : Nat → Prop} {a : AV} {v : Value} (h : Rep ρ N a v) (ha : scalar a = true) : v.cells = #[v] := by
  cases h <;> simp [scalar] at ha <;> rfl

/- memory -/
def CRep (ρ : Nat → Loc3) (N : Nat → Prop) (c : Cells) (f : Nat → Option Value) : Prop :=
  match c with
  | .vals l => ∀ (i : Nat) (a : AV), l[i]? = some a → ∃ v, f i = some v ∧ Rep ρ N a v
  | .ints k sz l => (∀ m, sz = some m → l.length = m) ∧ ∀ (i : Nat) (x : Int), l[i]? = some x → f i = some (.int k x) ∧ inR k x = true
  | .wide l => WOk l ∧ ∀ (i : Nat) (a : AV), (exp l)[i]? = some a → ∃ v, f i = some v ∧ Rep ρ N a v
  | .bools n l => l.length = n ∧ ∀ (i : Nat) (x : Bool), l[i]? = some x → f i = some (.bool x)
  | .one n r i a => (∀ k, k < n → f k = some (r k)) ∧ i < n ∧ Rep ρ N a (r i)
  | .rows n r => ∀ i, i < n → f i = some (r i)

theorem CRep.ext {ρ ρ' : Nat → Loc3} {N N' : Nat → Prop} (ha : Agr ρ ρ' N) (hN : ∀ i, N i → N' i) {c : Cells} {f : Nat → Option Value} (h : CRep ρ N c f) : CRep ρ' N' c f := by
  cases c with
  | vals l => exact fun i a hi => let ⟨v, h1, h2⟩ := h i a hi; ⟨v, h1, h2.ext ha hN⟩
  | ints k sz l => exact h
  | wide l => exact ⟨h.1, fun i a hi => let ⟨v, h1, h2⟩ := h.2 i a hi; ⟨v, h1, h2.ext ha hN⟩⟩
  | bools n l => exact h
  | one n r i a => exact ⟨h.1, h.2.1, h.2.2.ext ha hN⟩
  | rows n r => exact h

theorem CRep.congr {ρ : Nat → Loc3} {N : Nat → Prop} {c : Cells} {f g : Nat → Option Value} (hfg : ∀ i, i < clen c → g i = f i) (h : CRep ρ N c f) : CRep ρ N c g := by
  cases c with
  | vals l =>
    intro i a hi
    have hl : i < l.length := (List.getElem?_eq_some_iff.1 hi).1
    obtain ⟨v, h1, h2⟩ := h i a hi
    exact ⟨v, by rw [hfg i hl]; exact h1, h2⟩
  | ints k sz l =>
    refine ⟨h.1, fun i x hi => ?_⟩
    have hl : i < l.length := (List.getElem?_eq_some_iff.1 hi).1
    have hc : i < clen (.ints k sz l) := by
      cases sz with
      | none => exact hl
      | some m => have := h.1 m rfl; simp only [clen]; omega
    rw [hfg i hc]
    exact h.2 i x hi
  | wide l =>
    refine ⟨h.1, fun i a hi => ?_⟩
    have hl : i < (exp l).length := (List.getElem?_eq_some_iff.1 hi).1
    rw [exp_length] at hl
    obtain ⟨v, h1, h2⟩ := h.2 i a hi
    exact ⟨v, by rw [hfg i hl]; exact h1, h2⟩
  | bools n l =>
    refine ⟨h.1, fun i x hi => ?_⟩
    have hl : i < l.length := (List.getElem?_eq_some_iff.1 hi).1
    rw [hfg i (by have := h.1; simp only [clen]; omega)]
    exact h.2 i x hi
  | one n r i a => exact ⟨fun k hk => by rw [hfg k hk]; exact h.1 k hk, h.2⟩
  | rows n r => exact fun i hi => by rw [hfg i hi]; exact h i hi

/-- A package's variable that is never written holds what the table says. -/
def TRep [Tab] (w : World) : Prop := (∀ G c, Tab.T G = some c → ∃ (cs : Array Value) (t : TypeId) (fr : Nat × Nat), w.heap[G]? = some (.cells cs t fr) ∧ clen c ≤ cs.size ∧ CRep (fun _ => ⟨0, 0, 0⟩) (fun _ => False) c (fun i => cs[i]?)) ∧ Tab.fact w
theorem TRep.same [Tab] {w w' : World} (h : TRep w) (hs : ∀ G c, Held G c → G < w.heap.size → w'.heap[G]? = w.heap[G]?) : TRep w' := ⟨fun G c hG => by
  obtain ⟨cs, t, fr, h1, h2⟩ := h.1 G c hG
  exact ⟨cs, t, fr, by rw [hs G c (.inl hG) (Array.getElem?_eq_some_iff.1 h1).1]; exact h1, h2⟩, Tab.keep w w' h.2 fun G hG hl => hs G (.vals []) (.inr hG) hl⟩
theorem TRep.lt [Tab] {w : World} (h : TRep w) {G : Nat} {c : Cells} (hG : Held G c) : G < w.heap.size := by
  rcases hG with hG | hG
  · obtain ⟨cs, t, fr, h1, h2⟩ := h.1 G c hG
    exact (Array.getElem?_eq_some_iff.1 h1).1
  · exact Tab.inh w G h.2 hG

structure BRep (ρ : Nat → Loc3) (N : Nat → Prop) (w : World) (n : Nat) (b : Blk) : Prop where
  ex : ∃ (cs : Array Value) (t : TypeId) (lo hi : Nat), w.heap[(ρ n).b]? = some (.cells cs t (lo, hi)) ∧ (ρ n).sh + (ρ n).sz ≤ cs.size ∧
    (b.rw = true → ∀ o, o < cs.size → ¬ (lo ≤ o ∧ o < hi)) ∧ clen b.c ≤ (ρ n).sz ∧ CRep ρ N b.c (fun i => cs[(ρ n).sh + i]?)

structure Sim [Tab] (ρ : Nat → Loc3) (N : Nat → Prop) (g : Nat → Option Blk) (w : World) : Prop where
  blk : ∀ n b, g n = some b → BRep ρ N w n b
  inj : ∀ i j bi bj, g i = some bi → g j = some bj → i ≠ j → bi.rw = true → (ρ i).b ≠ (ρ j).b
  live : ∀ n b, g n = some b → N n
  tab : TRep w
  apart : ∀ G c, Held G c → ∀ n b, g n = some b → b.rw = true → (ρ n).b ≠ G

/-- What holds all through a function's run: w0, S: the world at its beginning, and the blocks that it may write; N: the names that values may bear; g: the memory. -/
structure Inv [Tab] (w0 : World) (S : Nat → Prop) (N : Nat → Prop) (ρ : Nat → Loc3) (g : Nat → Option Blk) (w : World) : Prop where
  sim : Sim ρ N g w
  size : w0.heap.size ≤ w.heap.size
  frame : ∀ b, b < w0.heap.size → ¬ S b → w.heap[b]? = w0.heap[b]?
  os : w.os = w0.os
  tape : w.tape = w0.tape
  output : w.output = w0.output
  rws : ∀ n b, g n = some b → b.rw = true → S (ρ n).b ∨ w0.heap.size ≤ (ρ n).b

section
variable [Tab]
theorem getName_lt {m : Mem} {n : Nat} {b : Blk} (h : getName m n = some b) : n < m.length := by
  unfold getName at h
  split at h
  · rename_i x hx
    exact (List.getElem?_eq_some_iff.1 hx).1
  · cases h

theorem getName_append {m : Mem} {x : Option Blk} {n : Nat} {b : Blk} (h : getName (m ++ [x]) n = some b) : getName m n = some b ∨ (n = m.length ∧ x = some b) := by
  have hlt := getName_lt h
  simp at hlt
  by_cases hn : n < m.length
  · left; unfold getName at h ⊢; rwa [List.getElem?_append_left hn] at h
  · right
    have : n = m.length := by omega
    subst this
    refine ⟨rfl, ?_⟩
    unfold getName at h
    simp at h
    cases x <;> simp_all

theorem getName_set {m : Mem} {i n : Nat} {c b : Blk} (h : getName (m.set i (some c)) n = some b) : (n = i ∧ b = c) ∨ (n ≠ i ∧ getName m n = some b) := by
  by_cases hn : n = i
  · subst hn
    have hlt := getName_lt h
    simp at hlt
    unfold getName at h
    simp [hlt] at h
    exact Or.inl ⟨rfl, h.symm⟩
  · right
    refine ⟨hn, ?_⟩
    unfold getName at h ⊢
    rwa [List.getElem?_set_ne (Ne.symm hn)] at h

theorem Sim.lt {ρ : Nat → Loc3} {N : Nat → Prop} {g : Nat → Option Blk} {w : World} (h : Sim ρ N g w) {n : Nat} {b : Blk} (hn : g n = some b) : (ρ n).b < w.heap.size := by
  obtain ⟨cs, t, lo, hi, h1, _⟩ := (h.blk n b hn).ex
  exact (Array.getElem?_eq_some_iff.1 h1).1

theorem Inv.congr {w0 : World} {S : Nat → Prop} {N : Nat → Prop} {ρ : Nat → Loc3} {g g' : Nat → Option Blk} {w : World} (h : Inv w0 S N ρ g w) (hg : ∀ n, g' n = g n) : Inv w0 S N ρ g' w := by
  have : g' = g := funext hg
  rw [this]; exact h
theorem heap_old (w : World) (o : Obj) (i : Nat) (h : i < w.heap.size) : (w.alloc o).heap[i]? = w.heap[i]? := by
  show (w.heap.push o)[i]? = _
  rw [Array.getElem?_push, if_neg (by omega)]
theorem heap_new (w : World) (o : Obj) : (w.alloc o).heap[w.heap.size]? = some o := by
  show (w.heap.push o)[w.heap.size]? = _
  simp

/-- A new block, whole, for the next name. -/
def bump (ρ : Nat → Loc3) (N : Nat) (l : Loc3) : Nat → Loc3 := fun i => if i = N then l else ρ i
theorem bump_agr {ρ : Nat → Loc3} {N : Nat → Prop} {k : Nat} {l : Loc3} (h : ¬ N k) : Agr ρ (bump ρ k l) N := fun i hi => by
  have : i ≠ k := fun e => h (e ▸ hi)
  simp [bump, this]
theorem bump_at {ρ : Nat → Loc3} {N : Nat} {l : Loc3} : bump ρ N l N = l := by simp [bump]

/-- A new block for a name that nothing bears yet. -/
theorem Inv.allocF {w0 : World} {S : Nat → Prop} {N N' : Nat → Prop} {ρ : Nat → Loc3} {g g' : Nat → Option Blk} {w : World} (h : Inv w0 S N ρ g w) {k : Nat} (hk : ¬ N k) {cs : Array Value} (t : TypeId) (fr : Nat × Nat) (hfr : ∀ o, o < cs.size → ¬ (fr.1 ≤ o ∧ o < fr.2)) {c : Cells} {rw : Bool}
    (hc : CRep ρ N c (fun i => cs[i]?)) (hl : clen c ≤ cs.size) (hN : ∀ i, N i → N' i) (hk' : N' k)
    (hm : ∀ n b, g' n = some b → g n = some b ∨ (n = k ∧ b = ⟨rw, c⟩)) :
    Inv w0 S N' (bump ρ k ⟨w.heap.size, 0, cs.size⟩) g' (w.alloc (.cells cs t fr)) := by
  have hsz := h.size
  have hag : Agr ρ (bump ρ k ⟨w.heap.size, 0, cs.size⟩) N := bump_agr hk
  have hold : ∀ i, i < w.heap.size → (w.alloc (.cells cs t fr)).heap[i]? = w.heap[i]? := fun i hi => heap_old w _ i hi
  refine ⟨⟨?_, ?_, ?_, h.sim.tab.same fun G c _ hG => hold G hG, fun G c hG n b hn hr => ?_⟩, by simp; omega, ?_, h.os, h.tape, h.output, ?_⟩
  rotate_left 3
  · rcases hm n b hn with hn | ⟨rfl, rfl⟩
    · rw [hag n (h.sim.live n b hn)]; exact h.sim.apart G c hG n b hn hr
    · rw [bump_at]; exact Nat.ne_of_gt (h.sim.tab.lt hG)
  rotate_right 3
  · intro n b hn
    rcases hm n b hn with hn | ⟨rfl, rfl⟩
    · have hlt := h.sim.live n b hn
      obtain ⟨cs', t', lo, hi, h1, h2, h3, h4, h5⟩ := (h.sim.blk n b hn).ex
      refine ⟨cs', t', lo, hi, ?_, ?_, h3, ?_, ?_⟩
      · rw [hag n hlt, hold _ (h.sim.lt hn)]; exact h1
      · rw [hag n hlt]; exact h2
      · rw [hag n hlt]; exact h4
      · rw [hag n hlt]; exact h5.ext hag hN
    · refine ⟨cs, t, fr.1, fr.2, ?_, ?_, ?_, ?_, ?_⟩
      · rw [bump_at]; exact heap_new w _
      · rw [bump_at]; simp
      · intro _ o ho; exact hfr o ho
      · rw [bump_at]; exact hl
      · rw [bump_at]; simpa using hc.ext hag hN
  · intro i j bi bj hi hj hij hrw
    rcases hm i bi hi with hi' | ⟨rfl, hb⟩ <;> rcases hm j bj hj with hj' | ⟨rfl, hb'⟩
    · rw [hag i (h.sim.live _ _ hi'), hag j (h.sim.live _ _ hj')]; exact h.sim.inj i j bi bj hi' hj' hij hrw
    · rw [hag i (h.sim.live _ _ hi'), bump_at]; exact Nat.ne_of_lt (h.sim.lt hi')
    · rw [hag j (h.sim.live _ _ hj'), bump_at]; exact (Nat.ne_of_lt (h.sim.lt hj')).symm
    · exact absurd rfl hij
  · intro n b hn
    rcases hm n b hn with hn | ⟨rfl, rfl⟩
    · exact hN _ (h.sim.live n b hn)
    · exact hk'
  · intro b hb hS
    rw [hold b (by omega)]
    exact h.frame b hb hS
  · intro n b hn hrw
    rcases hm n b hn with hn | ⟨rfl, rfl⟩
    · rw [hag n (h.sim.live _ _ hn)]; exact h.rws n b hn hrw
    · rw [bump_at]; exact Or.inr hsz

theorem Inv.alloc {w0 : World} {S : Nat → Prop} {N N' : Nat → Prop} {ρ : Nat → Loc3} {g g' : Nat → Option Blk} {w : World} (h : Inv w0 S N ρ g w) {k : Nat} (hk : ¬ N k) {cs : Array Value} (t : TypeId) {c : Cells} {rw : Bool}
    (hc : CRep ρ N c (fun i => cs[i]?)) (hl : clen c ≤ cs.size) (hN : ∀ i, N i → N' i) (hk' : N' k)
    (hm : ∀ n b, g' n = some b → g n = some b ∨ (n = k ∧ b = ⟨rw, c⟩)) :
    Inv w0 S N' (bump ρ k ⟨w.heap.size, 0, cs.size⟩) g' (w.alloc (.cells cs t)) :=
  h.allocF hk t (0, 0) (fun o _ => by simp) hc hl hN hk' hm

/-- What a store did to the memory. -/
structure Stored (w w' : World) (b : Nat) (cs' : Array Value) (t : TypeId) (fr : Nat × Nat) : Prop where
  at' : w'.heap[b]? = some (.cells cs' t fr)
  others : ∀ i, i ≠ b → w'.heap[i]? = w.heap[i]?
  size : w'.heap.size = w.heap.size
  os : w'.os = w.os
  tape : w'.tape = w.tape
  output : w'.output = w.output

theorem Inv.store {w0 : World} {S : Nat → Prop} {N : Nat → Prop} {ρ : Nat → Loc3} {g g' : Nat → Option Blk} {w w' : World} (h : Inv w0 S N ρ g w) {n : Nat} {b : Blk} (hn : g n = some b) (hrw : b.rw = true)
    {cs cs' : Array Value} {t : TypeId} {fr : Nat × Nat} (hb : w.heap[(ρ n).b]? = some (.cells cs t fr)) (hst : Stored w w' (ρ n).b cs' t fr) (hsz : cs'.size = cs.size)
    {c : Cells} (hlen : clen c ≤ (ρ n).sz) (hc : CRep ρ N c (fun i => cs'[(ρ n).sh + i]?))
    (hg : ∀ i bi, g' i = some bi → (i = n ∧ bi = ⟨true, c⟩) ∨ (i ≠ n ∧ g i = some bi)) :
    Inv w0 S N ρ g' w' := by
  have hnG : ∀ G c, Held G c → G ≠ (ρ n).b := fun G c hG e => h.sim.apart G c hG n b hn hrw e.symm
  refine ⟨⟨?_, ?_, ?_, h.sim.tab.same fun G c hG _ => hst.others G (hnG G c hG), fun G c hG i bi hi hr => ?_⟩, by rw [hst.size]; exact h.size, ?_, hst.os.trans h.os, hst.tape.trans h.tape, hst.output.trans h.output, ?_⟩
  rotate_left 3
  · rcases hg _ _ hi with ⟨rfl, rfl⟩ | ⟨_, hi⟩
    · exact h.sim.apart G c hG i b hn hrw
    · exact h.sim.apart G c hG i bi hi hr
  rotate_right 3
  · intro i bi hi
    rcases hg _ _ hi with ⟨rfl, rfl⟩ | ⟨hne, hi⟩
    · obtain ⟨cs0, t0, lo, hi0, h1, h2, h3, _, _⟩ := (h.sim.blk i b hn).ex
      rw [hb] at h1
      cases h1
      exact ⟨cs', t, lo, hi0, hst.at', by rw [hsz]; exact h2, fun _ o ho => h3 hrw o (by rw [hsz] at ho; exact ho), hlen, hc⟩
    · obtain ⟨cs0, t0, lo, hi0, h1, h2, h3, h4, h5⟩ := (h.sim.blk i bi hi).ex
      exact ⟨cs0, t0, lo, hi0, by rw [hst.others _ (h.sim.inj n i b bi hn hi (Ne.symm hne) hrw).symm]; exact h1, h2, h3, h4, h5⟩
  · intro i j bi bj hi hj hij hr
    rcases hg _ _ hi with ⟨e1, e2⟩ | ⟨_, hi'⟩ <;> rcases hg _ _ hj with ⟨e3, e4⟩ | ⟨_, hj'⟩
    · exact absurd (e1.trans e3.symm) hij
    · subst e1; exact h.sim.inj i j b bj hn hj' hij hrw
    · subst e3; exact h.sim.inj i j bi b hi' hn hij hr
    · exact h.sim.inj i j bi bj hi' hj' hij hr
  · intro i bi hi
    rcases hg _ _ hi with ⟨rfl, rfl⟩ | ⟨_, hi⟩
    · exact h.sim.live i b hn
    · exact h.sim.live i bi hi
  · intro i hi hS
    by_cases hib : i = (ρ n).b
    · subst hib
      rcases h.rws n b hn hrw with hs | hs
      · exact absurd hs hS
      · omega
    · rw [hst.others i hib]; exact h.frame i hi hS
  · intro i bi hi hr
    rcases hg _ _ hi with ⟨rfl, rfl⟩ | ⟨_, hi⟩
    · exact h.rws i b hn hrw
    · exact h.rws i bi hi hr

end
end Go.Ev
