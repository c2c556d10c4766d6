/- Contracts of functions that look at memory, and may hand back memory that they made. Own work. -/
import Derived.Test.YthelmpjkkkhopaaGreatDoorZEvLaw
set_option linter.unusedSimpArgs false
set_option linter.unusedVariables false
set_option linter.unusedSectionVars false
namespace Go.Ev
variable [Tab]
inductive V where
 | pl (a : AV)
 | buf (s : Bool) (k : IntKind) (len : Nat) (l : List Int)
 | pt (c : Cells)
 | empty
 | ptw (c : Cells)
def e0m : AV → Bool
 | .nilslice | .nilptr | .niliface | .nilfunc | .iface _ .top=>true
 | a=>d9e a
def e2f : AV → AV
 | .iface t _ => .iface t .top
 | a=>a
def e73 : Cells → Cells
 | .vals l => .vals (l.map e2f)
 | .wide l => .wide (l.map e2f)
 | c=>c
def e1i : Cells → Bool
 | .vals l=>l.all e0m
 | .ints .. => true
 | .wide l=>l.all e0m
 | .bools .. => true
def kindOf : Cells → Option IntKind
 | .ints k _ _=>some k
 | .vals (.int _ k _ :: _)=>some k
 | _=>none
def e84 (m : Mem) (a : AV) : E V:=
 match a with
 | .slice false _ _ 0 _ 1=>E.pure .empty
 | .slice s n o len _ 1=>match getName m n with
  | some b=>match kindOf b.c with
   | some k=>E.bind (d9o b.c k s o len) fun l=>E.pure (.buf s k len l)
   | none=>none
  | none=>none
 | .wslice s n b o len _=>match getName m n with
  | some bl=>match e4w bl b with
   | some c=>match kindOf c with
    | some k=>E.bind (d9o c k s o len) fun l=>E.pure (.buf s k len l)
    | none=>none
   | none=>none
  | none=>none
 | .ptr false n 0=>match getName m n with
  | some b=>match e1i b.c with
   | true=>E.pure (.pt b.c)
   | false=>match e1i (e73 b.c) with | true=>E.pure (.pt (e73 b.c)) | false=>none
  | none=>none
 | a=>match e0m a with | true=>E.pure (.pl a) | false=>none
def e2y (m : Mem) : List AV → E (List V)
 | []=>E.pure []
 | a :: r=>E.bind (e84 m a) fun v=>E.bind (e2y m r) fun l=>E.pure (v :: l)
def cArg (j : Nat) : V → AV
 | .pl a=>a
 | .buf s _ len _ => .slice s j 0 len none 1
 | .pt _ => .ptr false j 0
 | .ptw _ => .ptr false j 0
 | .empty => .slice false j 0 0 none 1
def d7z : Nat → List V → List AV
 | _,[]=>[]
 | j,v :: r=>cArg j v :: d7z (j + 1) r
def e6i : V → Option Blk
 | .pl _=>none
 | .buf _ k len l=>some ⟨false, .ints k (some len) l⟩
 | .pt c=>some ⟨false,c⟩
 | .ptw c=>some ⟨true,c⟩
 | .empty=>none
def d87 (l : List V) : Mem:=l.map e6i
theorem a57 {ρ ρ' : Nat → d8c} {N N' : Nat → Prop} {a : AV} {v : Value} (h : Rep ρ N a v) (hp : e0m a = true) : Rep ρ' N' a v:=by
 unfold e0m at hp
 split at hp
 ·cases h;exact .nilslice
 ·cases h;exact .nilptr
 ·cases h;exact .niliface
 ·cases h;exact .nilfunc
 ·cases h;exact .iface _ _ _ (.top _)
 ·exact a74 h hp
theorem a3r {ρ ρ' : Nat → d8c} {N N' : Nat → Prop} {c : Cells} {f : Nat → Option Value} (h : d90 ρ N c f) (hp : e1i c = true) : d90 ρ' N' c f:=by
 cases c with
 | vals l =>
  intro i a hi
  obtain ⟨v,h1,h2⟩:=h i a hi
  simp only [e1i,List.all_eq_true] at hp
  exact ⟨v,h1,a57 h2 (hp a (List.mem_of_getElem? hi))⟩
 | ints k sz l=>exact h
 | bools n l=>exact h
 | wide l =>
  refine ⟨h.1,fun i a hi => ?_⟩
  obtain ⟨v,h1,h2⟩:=h.2 i a hi
  simp only [e1i,List.all_eq_true] at hp
  refine ⟨v,h1,a57 h2 ?_⟩
  have key : ∀ {l : List AV},(∀ x ∈ l,e0m x = true) → ∀ x ∈ exp l,e0m x = true:=by
   intro l
   induction l with
   | nil=>intro _ x hx;cases hx
   | cons y l ih =>
    intro hl x hx
    have e : exp (y :: l) = exp [y] ++ exp l:=by rw [← a0t];rfl
    rw [e] at hx
    rcases List.mem_append.1 hx with hx | hx
    ·have hy:=hl y (f9b ..)
     cases y <;> simp only [exp,List.append_nil] at hx <;> try (rw [List.mem_singleton] at hx;subst hx;exact hy)
     simp [spread] at hx
     obtain ⟨_,_,rfl⟩:=hx
     rfl
    ·exact ih (fun z hz=>hl z (f9a _ hz)) x hx
  exact key hp a (List.mem_of_getElem? hi)
theorem b3j {ρ : Nat → d8c} {N : Nat → Prop} {a : AV} {v : Value} (h : Rep ρ N a v) : Rep ρ N (e2f a) v:=by
 unfold e2f
 split
 ·cases h;exact .iface _ _ _ (.top _)
 ·exact h
theorem c1o {ρ : Nat → d8c} {N : Nat → Prop} {c : Cells} {f : Nat → Option Value} (h : d90 ρ N c f) : d90 ρ N (e73 c) f ∧ d8x (e73 c) = d8x c:=by
 cases c with
 | vals l =>
  refine ⟨fun i a hi => ?_,by simp [e73,d8x]⟩
  simp only [List.getElem?_map] at hi
  cases hl : l[i]? with
  | none=>simp [hl] at hi
  | some b =>
   simp [hl] at hi
   subst hi
   obtain ⟨v,h1,h2⟩:=h i b hl
   exact ⟨v,h1,b3j h2⟩
 | ints k sz l=>exact ⟨h,rfl⟩
 | bools n l=>exact ⟨h,rfl⟩
 | wide l =>
  have he : ∀ l : List AV,exp (l.map e2f) = (exp l).map e2f:=by
   intro l
   induction l with
   | nil=>rfl
   | cons a l ih =>
    cases a <;> simp only [List.map_cons,e2f,exp,ih,List.map_append,List.cons_append,List.map_map,List.nil_append]
    rename_i k n xs
    congr 1
    simp [spread,e2f]
  have hw : ∀ l : List AV,d9x (l.map e2f) = d9x l:=by
   intro l
   induction l with
   | nil=>rfl
   | cons a l ih=>cases a <;> simp [e2f,d9x,width,ih]
  refine ⟨⟨fun k n xs hm => ?_,fun i a hi => ?_⟩,hw l⟩
  ·obtain ⟨a,h1,h2⟩:=List.mem_map.1 hm
   refine h.1 k n xs ?_
   cases a <;> simp only [e2f,reduceCtorEq] at h2
   rw [← h2];exact h1
  ·rw [he,List.getElem?_map] at hi
   cases hl : (exp l)[i]? with
   | none=>simp [hl] at hi
   | some b =>
    simp [hl] at hi
    subst hi
    obtain ⟨v,h1,h2⟩:=h.2 i b hl
    exact ⟨v,h1,b3j h2⟩
def VOk (w : World) (j : Nat) (L : d8c) (x : V) (v : Value) : Prop:=
 (∀ (ρ : Nat → d8c) (N : Nat → Prop),ρ j = L → N j → Rep ρ N (cArg j x) v) ∧ ∀ b,e6i x = some b → (b.rw = true → ∃ c,x = .ptw c) ∧ ∀ (ρ : Nat → d8c) (N : Nat → Prop),ρ j = L → f1c ρ N w j b
theorem b7o {m : Mem} {a : AV} {o : List Bool} {x : V} (h : e84 m a = some (o,x)) (ho : d7x o) {ρ : Nat → d8c} {N : Nat → Prop} {v : Value} {w : World} (hr : Rep ρ N a v) (hs : Sim ρ N (getName m) w) (j : Nat) :
  ∃ L,VOk w j L x v ∧ (∀ c,x ≠ .ptw c) ∧ ∀ b,e6i x = some b → ∃ n b0,nameOf a = some n ∧ getName m n = some b0 ∧ L.b = (ρ n).b:=by
 unfold e84 at h
 split at h
 ·rename_i n off cap
  obtain ⟨_,rfl⟩:=a02 h
  cases hr with
  | slice _ _ _ _ _ _ c ad hn hc hl hw had =>
   refine ⟨⟨(ρ n).b,(ρ n).sh + off,(ρ n).sz - off⟩,⟨fun ρ' N' hρ hN => ?_,fun b' hb'=>by cases hb'⟩,(fun c h=>by cases h),fun b' hb'=>by cases hb'⟩
   refine .slice false j 0 0 none 1 c ad hN (by intro c' h;cases h) hl ?_ ?_
   ·rw [hρ];show 0 + c * 1 ≤ (ρ n).sz - off;omega
   ·intro h0;rw [hρ,had h0];simp
 ·rename_i s n off len cap _
  split at h
  ·rename_i b hb
   split at h
   ·rename_i k hk
    obtain ⟨o1,l,o2,h1,h2,rfl⟩:=bind_some h
    obtain ⟨_,rfl⟩:=a02 h2
    cases hr with
    | slice _ _ _ _ _ _ c ad hn hc hl hw had =>
     obtain ⟨cs,t,lo',hi',b1,b2,b3,b4,b5⟩:=(hs.blk n b hb).ex
     obtain ⟨g1,g2,g3⟩:=a0v h1 (a01.1 ho).1 b5
     refine ⟨⟨(ρ n).b,(ρ n).sh + off,(ρ n).sz - off⟩,⟨fun ρ' N' hρ hN => ?_,fun b' hb' => ?_⟩,(fun c h=>by cases h),fun b' _=>⟨n,b,rfl,hb,rfl⟩⟩
     ·refine .slice s j 0 len none 1 c ad hN (by intro c' h;cases h) hl ?_ ?_
      ·rw [hρ];show 0 + c * 1 ≤ (ρ n).sz - off;omega
      ·intro h0;rw [hρ,had h0];simp
     ·cases hb'
      refine ⟨(fun h=>by cases h),fun ρ' N' hρ=>⟨cs,t,lo',hi', ?_, ?_,(by intro h;cases h), ?_, ?_⟩⟩
      ·rw [hρ];exact b1
      ·rw [hρ];show (ρ n).sh + off + ((ρ n).sz - off) ≤ cs.size;omega
      ·rw [hρ];show len ≤ (ρ n).sz - off;omega
      ·refine ⟨(by intro m h;cases h;exact g1),fun i y hy=>⟨?_,g3 y (List.mem_of_getElem? hy)⟩⟩
       rw [hρ]
       have:=g2 i y hy
       simp only [Nat.add_assoc] at this ⊢
       exact this
   ·cases h
  ·cases h
 ·rename_i s n bb off len cap
  split at h
  ·rename_i bl hb
   split at h
   ·rename_i c0 hrc
    split at h
    ·rename_i k hk
     obtain ⟨o1,l,o2,h1,h2,rfl⟩:=bind_some h
     obtain ⟨_,rfl⟩:=a02 h2
     cases hr with
     | wslice _ _ _ _ _ _ c ad hn hc hl hw had =>
      obtain ⟨cs,t,lo',hi',b1,b2,b3,b4,b5⟩:=(hs.blk n bl hb).ex
      obtain ⟨rr1,rr2⟩:=a45 hrc b5
      obtain ⟨g1,g2,g3⟩:=a0v h1 (a01.1 ho).1 rr1
      refine ⟨⟨(ρ n).b,(ρ n).sh + (bb + off),(ρ n).sz - (bb + off)⟩,⟨fun ρ' N' hρ hN => ?_,fun b' hb' => ?_⟩,(fun c h=>by cases h),fun b' _=>⟨n,bl,rfl,hb,rfl⟩⟩
      ·refine .slice s j 0 len none 1 c ad hN (by intro c' h;cases h) hl ?_ ?_
       ·rw [hρ];show 0 + c * 1 ≤ (ρ n).sz - (bb + off);omega
       ·intro h0;rw [hρ,had h0];simp
      ·cases hb'
       refine ⟨(fun h=>by cases h),fun ρ' N' hρ=>⟨cs,t,lo',hi', ?_, ?_,(by intro h;cases h), ?_, ?_⟩⟩
       ·rw [hρ];exact b1
       ·rw [hρ];show (ρ n).sh + (bb + off) + ((ρ n).sz - (bb + off)) ≤ cs.size;omega
       ·rw [hρ];show len ≤ (ρ n).sz - (bb + off);omega
       ·refine ⟨(by intro m h;cases h;exact g1),fun i y hy=>⟨?_,g3 y (List.mem_of_getElem? hy)⟩⟩
        rw [hρ]
        have:=g2 i y hy
        simp only [Nat.add_assoc] at this ⊢
        exact this
    ·cases h
   ·cases h
  ·cases h
 ·rename_i n
  split at h
  ·rename_i b hb
   split at h
   ·rename_i hp
    obtain ⟨_,rfl⟩:=a02 h
    cases hr with
    | ptr _ _ _ hn =>
     obtain ⟨cs,t,lo',hi',b1,b2,b3,b4,b5⟩:=(hs.blk n b hb).ex
     refine ⟨ρ n,⟨fun ρ' N' hρ hN => ?_,fun b' hb' => ?_⟩,(fun c h=>by cases h),fun b' _=>⟨n,b,rfl,hb,rfl⟩⟩
     ·rw [← hρ];exact .ptr false j 0 hN
     ·cases hb'
      exact ⟨(fun h=>by cases h),fun ρ' N' hρ=>⟨cs,t,lo',hi',by rw [hρ];exact b1,by rw [hρ];exact b2,(by intro h;cases h),by rw [hρ];exact b4,by rw [hρ];exact a3r b5 hp⟩⟩
   ·split at h
    ·rename_i hp
     obtain ⟨_,rfl⟩:=a02 h
     cases hr with
     | ptr _ _ _ hn =>
      obtain ⟨cs,t,lo',hi',b1,b2,b3,b4,b5⟩:=(hs.blk n b hb).ex
      obtain ⟨c1,c2⟩:=c1o b5
      refine ⟨ρ n,⟨fun ρ' N' hρ hN => ?_,fun b' hb' => ?_⟩,(fun c h=>by cases h),fun b' _=>⟨n,b,rfl,hb,rfl⟩⟩
      ·rw [← hρ];exact .ptr false j 0 hN
      ·cases hb'
       exact ⟨(fun h=>by cases h),fun ρ' N' hρ=>⟨cs,t,lo',hi',by rw [hρ];exact b1,by rw [hρ];exact b2,(by intro h;cases h),by rw [hρ,c2];exact b4,by rw [hρ];exact a3r c1 hp⟩⟩
    ·cases h
  ·cases h
 ·split at h
  ·rename_i hp
   obtain ⟨_,rfl⟩:=a02 h
   exact ⟨⟨0,0,0⟩,⟨fun ρ' N' _ _=>a57 hr hp,fun b' hb'=>by cases hb'⟩,(fun c h=>by cases h),fun b' hb'=>by cases hb'⟩
  ·cases h
theorem a8t {m : Mem} {ρ : Nat → d8c} {N : Nat → Prop} {w : World} (hs : Sim ρ N (getName m) w) : ∀ {as : List AV} {o : List Bool} {xs : List V} (_ : e2y m as = some (o,xs)) (_ : d7x o) {vs : List Value} (_ : d8i ρ N as vs) (j : Nat),
  ∃ Ls : Nat → d8c,(∀ (ρ' : Nat → d8c) (N' : Nat → Prop),(∀ i,i < xs.length → ρ' (j + i) = Ls i ∧ N' (j + i)) → d8i ρ' N' (d7z j xs) vs) ∧
   ∀ i b,getName (d87 xs) i = some b → b.rw = false ∧ ∀ (ρ' : Nat → d8c) (N' : Nat → Prop),ρ' (j + i) = Ls i → f1c ρ' N' w (j + i) b
 | [],o,xs,h,ho,vs,hr,j=>by
  unfold e2y at h
  obtain ⟨_,rfl⟩:=a02 h
  cases hr
  exact ⟨fun _=>⟨0,0,0⟩,fun _ _ _ => .nil,fun i b hb=>by simp [d87,getName] at hb⟩
 | a :: as,o,xs,h,ho,vs,hr,j=>by
  unfold e2y at h
  obtain ⟨o1,x,o2,h1,h2,rfl⟩:=bind_some h
  obtain ⟨o3,l,o4,h3,h4,rfl⟩:=bind_some h2
  obtain ⟨_,rfl⟩:=a02 h4
  have hp:=a01.1 ho
  have hp2:=a01.1 hp.2
  cases hr with
  | cons _ _ v vs hv hvs =>
   obtain ⟨L,⟨k1,k2⟩,k5,_⟩:=b7o h1 hp.1 hv hs j
   obtain ⟨Ls,k3,k4⟩:=a8t hs h3 hp2.1 hvs (j + 1)
   refine ⟨fun i=>match i with | 0=>L | i + 1=>Ls i,fun ρ' N' hρ => ?_,fun i b hb => ?_⟩
   ·refine .cons _ _ _ _ (k1 ρ' N' (hρ 0 (by simp)).1 (hρ 0 (by simp)).2) (k3 ρ' N' fun i hi => ?_)
    have:=hρ (i + 1) (by simpa using hi)
    rw [show j + 1 + i = j + (i + 1) by omega]
    exact this
   ·cases i with
    | zero =>
     have hb' : e6i x = some b:=by
      unfold getName d87 at hb
      simp at hb
      cases hx : e6i x <;> simp_all
     refine ⟨?_,(k2 b hb').2⟩
     cases hrw : b.rw with
     | false=>rfl
     | true=>obtain ⟨c,hc⟩:=(k2 b hb').1 hrw;exact (k5 c hc).elim
    | succ i =>
     have hb' : getName (d87 l) i = some b:=by
      unfold getName d87 at hb ⊢
      simpa using hb
     have:=k4 i b hb'
     rw [show j + 1 + i = j + (i + 1) by omega] at this
     exact this
def upS (d : Nat) : AV → AV
 | .ptr s n o => .ptr s (n + d) o
 | .slice s n o len cap e => .slice s (n + d) o len cap e
 | .wptr s n b o => .wptr s (n + d) b o
 | .wslice s n b o len cap => .wslice s (n + d) b o len cap
 | a=>match e0m a with | true=>a | false => .top
def upA (d : Nat) : AV → AV
 | .tuple l => .tuple (l.map (upS d))
 | a=>upS d a
def upC (d : Nat) : Cells → Cells
 | .vals l => .vals (l.map (upS d))
 | .wide l => .wide (l.map (upS d))
 | c=>c
def upB (d : Nat) : Option Blk → Option Blk
 | some b=>some ⟨b.rw,upC d b.c⟩
 | none=>none
theorem b0r {d e : Nat} {ρ ρ' : Nat → d8c} {N N' : Nat → Prop} (hN : ∀ n,N (n + d) → N' (n + e) ∧ ρ' (n + e) = ρ (n + d)) {a : AV} {v : Value} (h : Rep ρ N (upS d a) v) : Rep ρ' N' (upS e a) v:=by
 unfold upS at *
 split at h
 ·cases h with
  | ptr _ _ _ h=>rw [← (hN _ h).2];exact .ptr _ _ _ (hN _ h).1
 ·cases h with
  | slice _ _ _ _ _ _ c ad hn hc hl hw had =>
   obtain ⟨g1,g2⟩:=hN _ hn
   exact .slice _ _ _ _ _ _ c ad g1 hc hl (by rw [g2];exact hw) (by rw [g2];exact had)
 ·cases h with
  | wptr _ _ _ _ h=>rw [← (hN _ h).2];exact .wptr _ _ _ _ (hN _ h).1
 ·cases h with
  | wslice _ _ _ _ _ _ c ad hn hc hl hw had =>
   obtain ⟨g1,g2⟩:=hN _ hn
   exact .wslice _ _ _ _ _ _ c ad g1 hc hl (by rw [g2];exact hw) (by rw [g2];exact had)
 ·split at h
  ·rename_i hp
   exact a57 h hp
  ·exact .top _
theorem c1p {d e : Nat} {ρ ρ' : Nat → d8c} {N N' : Nat → Prop} (hN : ∀ n,N (n + d) → N' (n + e) ∧ ρ' (n + e) = ρ (n + d)) : ∀ {l : List AV} {vs : List Value} (_ : d8i ρ N (l.map (upS d)) vs),d8i ρ' N' (l.map (upS e)) vs
 | [],vs,h=>by cases h;exact .nil
 | a :: l,vs,h=>by
  cases h with
  | cons _ _ v vs h hs=>exact .cons _ _ _ _ (b0r hN h) (c1p hN hs)
theorem b5q {d e : Nat} {ρ ρ' : Nat → d8c} {N N' : Nat → Prop} (hN : ∀ n,N (n + d) → N' (n + e) ∧ ρ' (n + e) = ρ (n + d)) {a : AV} {v : Value} (h : Rep ρ N (upA d a) v) : Rep ρ' N' (upA e a) v:=by
 unfold upA at *
 split at h
 ·cases h with
  | tuple _ vs h=>exact .tuple _ _ (c1p hN h)
 ·exact b0r hN h
theorem d05 {d : Nat} {s : Bool} {k : IntKind} {n : Int} : upS d (.int s k n) = .int s k n:=rfl
theorem b7p {d : Nat} : ∀ {l : List AV},exp (l.map (upS d)) = (exp l).map (upS d)
 | []=>rfl
 | a :: l=>by
  have ih:=b7p (d:=d) (l:=l)
  have key : ∀ {b : AV},(∀ k n xs,b ≠ .ints k n xs) → exp (b :: l.map (upS d)) = b :: exp (l.map (upS d)):=fun {b} hb=>by
   cases b <;> try rfl
   rename_i k n xs
   exact (hb k n xs rfl).elim
  by_cases ha : ∃ k n xs,a = .ints k n xs
  ·obtain ⟨k,n,xs,rfl⟩:=ha
   show spread k n xs ++ exp (l.map (upS d)) = (spread k n xs ++ exp l).map (upS d)
   rw [List.map_append,ih]
   congr 1
   simp [spread,d05]
  ·have h1 : exp (a :: l) = a :: exp l:=by
    cases a <;> try rfl
    rename_i k n xs
    exact (ha ⟨k,n,xs,rfl⟩).elim
   rw [h1,List.map_cons,List.map_cons,key,ih]
   intro k n xs e
   unfold upS at e
   split at e <;> try (cases e;done)
   split at e
   ·exact ha ⟨k,n,xs,e⟩
   ·cases e
theorem d4e {d : Nat} {l : List AV} (h : WOk (l.map (upS d))) {e : Nat} : WOk (l.map (upS e)):=fun k n xs hm=>by
 obtain ⟨a,h1,h2⟩:=List.mem_map.1 hm
 refine h k n xs (List.mem_map.2 ⟨a,h1, ?_⟩)
 unfold upS at h2 ⊢
 split at h2 <;> try (cases h2;done)
 split at h2
 ·subst h2;simp_all
 ·cases h2
theorem b5r {d e : Nat} {ρ ρ' : Nat → d8c} {N N' : Nat → Prop} (hN : ∀ n,N (n + d) → N' (n + e) ∧ ρ' (n + e) = ρ (n + d)) {c : Cells} {f : Nat → Option Value} (h : d90 ρ N (upC d c) f) : d90 ρ' N' (upC e c) f:=by
 cases c with
 | vals l =>
  intro i a hi
  simp only [List.getElem?_map] at hi
  cases hx : l[i]? with
  | none=>simp [hx] at hi
  | some x =>
   simp [hx] at hi
   subst hi
   obtain ⟨v,h1,h2⟩:=h i (upS d x) (by simp [hx])
   exact ⟨v,h1,b0r hN h2⟩
 | ints k sz l=>exact h
 | bools n l=>exact h
 | wide l =>
  refine ⟨d4e h.1,fun i a hi => ?_⟩
  rw [b7p,List.getElem?_map] at hi
  cases hx : (exp l)[i]? with
  | none=>simp [hx] at hi
  | some x =>
   simp [hx] at hi
   subst hi
   obtain ⟨v,h1,h2⟩:=h.2 i (upS d x) (by rw [b7p];simp [hx])
   exact ⟨v,h1,b0r hN h2⟩
theorem b5s {d : Nat} {bs : Mem} {i : Nat} {b : Blk} (h : getName (d8b (bs.map (upB d))) i = some b) : b.rw = true ∧ i < bs.length ∧ ∃ c,b.c = upC d c ∧ ∀ e,getName (d8b (bs.map (upB e))) i = some ⟨true,upC e c⟩:=by
 obtain ⟨g1,g2⟩:=a0d h
 have hlt:=a0f g1
 refine ⟨g2,by simpa using hlt, ?_⟩
 unfold getName at g1
 rw [List.getElem?_map] at g1
 cases hx : bs[i]? with
 | none=>simp [hx] at g1
 | some x =>
  cases x with
  | none=>simp [hx,upB] at g1
  | some y =>
   simp [hx,upB] at g1
   subst g1
   obtain ⟨rw,c⟩:=y
   simp only at g2
   subst g2
   refine ⟨c,rfl,fun e => ?_⟩
   unfold getName d8b
   simp [hx,upB]
theorem a77 {d : Nat} {c : Cells} : d8x (upC d c) = d8x c:=by
 cases c <;> simp [upC,d8x]
 rw [← a06,b7p,List.length_map,a06]
def d7y (P : Program) (g : FuncId) (xs : List V) (v : AV) (bs : Mem) : Prop:=
 ∀ {ρ : Nat → d8c} {vs : List Value} {w : World},d8i ρ (upto xs.length) (d7z 0 xs) vs → Inv w (fun _=>False) (upto xs.length) ρ (getName (d87 xs)) w →
  d8t P g vs.toArray w (fun u w' => ∃ ρ',Rep ρ' (upto (xs.length + bs.length)) (upA xs.length v) u ∧
   Inv w (fun _=>False) (upto (xs.length + bs.length)) ρ' (getName (d87 xs ++ d8b (bs.map (upB xs.length)))) w')
theorem b7q {xs : List V} {i : Nat} {x : V} {b : Blk} (hx : xs[i]? = some x) (hb : e6i x = some b) : getName (d87 xs) i = some b:=by
 unfold getName d87
 rw [List.getElem?_map,hx]
 simp [hb]
theorem a0l {ρ : Nat → d8c} {N : Nat → Prop} {w : World} {xs : List V} (hi : Inv w (fun _=>False) N ρ (getName (d87 xs)) w) (i : Nat) {s : Bool} {k : IntKind} {len : Nat} {l : List Int} (hx : xs[i]? = some (.buf s k len l)) :
  l.length = len ∧ ∀ x ∈ l,inR k x = true:=by
 obtain ⟨cs,t,lo',hi',b1,b2,b3,b4,b5⟩:=(hi.sim.blk i _ (b7q hx rfl)).ex
 exact ⟨b5.1 _ rfl,a3c b5⟩
theorem d4f {ρ : Nat → d8c} {N : Nat → Prop} {w : World} {xs : List V} (hi : Inv w (fun _=>False) N ρ (getName (d87 xs)) w) (i : Nat) {k : IntKind} {sz : Option Nat} {l : List Int} (hx : xs[i]? = some (.pt (.ints k sz l))) :
  (∀ m,sz = some m → l.length = m) ∧ ∀ x ∈ l,inR k x = true:=by
 obtain ⟨cs,t,lo',hi',b1,b2,b3,b4,b5⟩:=(hi.sim.blk i _ (b7q hx rfl)).ex
 exact ⟨b5.1,a3c b5⟩
def d84 (g : FuncId) (spec : List V → E (AV × Mem)) (X : d82) : d82:=fun f args m =>
 match decide (f = g) with
 | true=>match e2y m args with
  | some (o1,xs)=>match spec xs with
   | some (o2,(v,bs))=>some (o1 ++ o2,(upA m.length v,m ++ d8b (bs.map (upB m.length))))
   | none=>X f args m
  | none=>X f args m
 | false=>X f args m
section
variable {P : Program} {q : FuncId → Bool} {H : d82}
theorem HOk.d84 {g : FuncId} {spec : List V → E (AV × Mem)} (hX : HOk P H) (h : ∀ xs o v bs,spec xs = some (o,(v,bs)) → d7x o → d7y P g xs v bs) : HOk P (d84 g spec H):=by
 have both : ∀ {f : FuncId} {as : List AV} {m : Mem} {ob : List Bool} {v : AV} {m' : Mem},Go.Ev.d84 g spec H f as m = some (ob,(v,m')) → d7x ob →
   m.length ≤ m'.length ∧ ∀ {w0 : World} {S : Nat → Prop} {ρ : Nat → d8c} {w : World} {vs : List Value},d8i ρ (upto m.length) as vs → Inv w0 S (upto m.length) ρ (getName m) w →
   d8t P f vs.toArray w (fun u w' => ∃ ρ',Rep ρ' (upto m'.length) v u ∧ Inv w0 S (upto m'.length) ρ' (getName m') w' ∧ Agr ρ ρ' (upto m.length)):=by
  intro f as m ob v m' hr ho
  unfold Go.Ev.d84 at hr
  split at hr
  ·rename_i hf
   simp at hf
   subst hf
   split at hr
   ·rename_i o1 xs hv
    split at hr
    ·rename_i o2 v1 bs hs
     cases hr
     have hp:=a01.1 ho
     refine ⟨by simp,fun {w0 S ρ w vs} ha hi => ?_⟩
     obtain ⟨Ls,c1,c2⟩:=a8t hi.sim hv hp.1 ha 0
     have hc : d7y P f xs v1 bs:=h xs o2 v1 bs hs hp.2
     have hcm : (d87 xs).length = xs.length:=by simp [d87]
     have k1 : d8i Ls (upto xs.length) (d7z 0 xs) vs:=c1 Ls (upto xs.length) fun i hi=>by rw [Nat.zero_add];exact ⟨rfl,hi⟩
     have k2 : Inv w (fun _=>False) (upto xs.length) Ls (getName (d87 xs)) w:=by
      refine Inv.start _ ⟨fun n b hn => ?_,fun i j bi bj hi hj hij hr => ?_,fun n b hn => ?_,hi.sim.tab,fun G c hG n b hn hr=>by rw [(c2 n b hn).1] at hr;cases hr⟩ fun n b hn hr => ?_
      ·have:=(c2 n b hn).2 Ls (upto xs.length) (by rw [Nat.zero_add])
       rwa [Nat.zero_add] at this
      ·rw [(c2 i bi hi).1] at hr;cases hr
      ·have:=a0f hn
       rw [hcm] at this
       exact this
      ·rw [(c2 n b hn).1] at hr;cases hr
     refine (hc k1 k2).mono fun u w' ⟨ρ',r1,r2⟩ => ?_
     have hl : (m ++ d8b (bs.map (upB m.length))).length = m.length + bs.length:=by simp [d8b]
     rw [hl]
     let ρf : Nat → d8c:=fun n=>if n < m.length then ρ n else ρ' (n - m.length + xs.length)
     have hag : Agr ρ ρf (upto m.length):=fun i hi=>by
      have : i < m.length:=hi
      simp [ρf,this]
     have hN : ∀ n,upto (xs.length + bs.length) (n + xs.length) → upto (m.length + bs.length) (n + m.length) ∧ ρf (n + m.length) = ρ' (n + xs.length):=fun n hn=>by
      refine ⟨by simp [upto] at *;omega, ?_⟩
      simp only [ρf]
      rw [if_neg (by omega),Nat.add_sub_cancel]
     refine ⟨ρf,b5q hN r1, ?_,hag⟩
     have r3 : Inv w (fun _=>False) (upto (m.length + bs.length)) ρf (fun n=>if n < m.length then Option.none else getName (d8b (bs.map (upB m.length))) (n - m.length)) w':=by
      have blk : ∀ n b,(if n < m.length then Option.none else getName (d8b (bs.map (upB m.length))) (n - m.length)) = some b → (m.length ≤ n ∧ n < m.length + bs.length) ∧ b.rw = true ∧
        ∃ c,b.c = upC m.length c ∧ getName (d87 xs ++ d8b (bs.map (upB xs.length))) (n - m.length + xs.length) = some ⟨true,upC xs.length c⟩:=by
       intro n b hn
       split at hn
       ·cases hn
       ·rename_i hlt
        obtain ⟨g1,g2,c,g3,g4⟩:=b5s hn
        refine ⟨by omega,g1,c,g3, ?_⟩
        rw [a07,if_neg (by rw [hcm];omega),hcm,Nat.add_sub_cancel]
        exact g4 _
      refine ⟨⟨fun n b hn => ?_,fun i j bi bj hi hj hij hr => ?_,fun n b hn => ?_,r2.sim.tab,fun G c hG n b hn hr=>by
       obtain ⟨h1,h2,c,h3,h4⟩:=blk n b hn
       have e : ρf n = ρ' (n - m.length + xs.length):=by simp only [ρf];rw [if_neg (by omega)]
       rw [e]
       exact r2.sim.apart G _ hG _ _ h4 rfl⟩,r2.size,r2.frame,r2.os,r2.tape,r2.output,fun n b hn hr => ?_⟩
      ·obtain ⟨h1,h2,c,h3,h4⟩:=blk n b hn
       obtain ⟨cs,t,lo',hi',b1,b2,b3,b4,b5⟩:=(r2.sim.blk _ _ h4).ex
       have e : ρf n = ρ' (n - m.length + xs.length):=by simp only [ρf];rw [if_neg (by omega)]
       refine ⟨cs,t,lo',hi',by rw [e];exact b1,by rw [e];exact b2,fun _=>b3 rfl, ?_, ?_⟩
       ·rw [e,h3,a77];rw [a77] at b4;exact b4
       ·rw [e,h3];exact b5r hN b5
      ·obtain ⟨h1,h2,c,h3,h4⟩:=blk i bi hi
       obtain ⟨h1',h2',c',h3',h4'⟩:=blk j bj hj
       have e : ρf i = ρ' (i - m.length + xs.length):=by simp only [ρf];rw [if_neg (by omega)]
       have e' : ρf j = ρ' (j - m.length + xs.length):=by simp only [ρf];rw [if_neg (by omega)]
       rw [e,e']
       exact r2.sim.inj _ _ _ _ h4 h4' (by omega) rfl
      ·obtain ⟨h1,_⟩:=blk n b hn
       simp [upto];omega
      ·obtain ⟨h1,h2,c,h3,h4⟩:=blk n b hn
       have e : ρf n = ρ' (n - m.length + xs.length):=by simp only [ρf];rw [if_neg (by omega)]
       rw [e]
       exact r2.rws _ _ h4 rfl
     refine hi.join (S1:=fun _=>False) r3 (fun _ h=>h.elim) (fun i hi=>by simp [upto] at *;omega) (fun _ h=>h) hag (fun _ _=>rfl) fun n b hn => ?_
     rw [a07] at hn
     split at hn
     ·exact Or.inl ⟨hn,fun h=>h⟩
     ·rename_i hlt
      refine Or.inr ⟨by rw [if_neg hlt];exact hn,(a0d hn).2⟩
    ·exact ⟨hX.le hr ho,fun ha hi=>hX.run hr ho ha hi⟩
   ·exact ⟨hX.le hr ho,fun ha hi=>hX.run hr ho ha hi⟩
  ·exact ⟨hX.le hr ho,fun ha hi=>hX.run hr ho ha hi⟩
 exact ⟨@fun f as m ob v m' h ho=>(both h ho).1, @fun f as m ob v m' h ho w0 S ρ w vs ha hi=>(both h ho).2 ha hi⟩
theorem c1q {a : AV} (h : d9e a = true) : e0m a = true:=by cases a <;> simp_all [e0m,d9e]
theorem b3k {d : Nat} {v : AV} (h : d8z v = true) : upA d v = v:=by
 have one : ∀ a,d9e a = true → upS d a = a:=fun a ha=>by
  have:=c1q ha
  unfold upS
  split
  ·simp [d9e] at ha
  ·simp [d9e] at ha
  ·simp [d9e] at ha
  ·simp [d9e] at ha
  ·rw [this]
 unfold upA
 split
 ·rename_i l
  simp only [d8z,List.all_eq_true] at h
  congr 1
  exact (List.map_congr_left fun a ha=>one a (h a ha)).trans (List.map_id' l)
 ·rename_i hne
  refine one v ?_
  unfold d8z at h
  split at h
  ·rename_i l;exact absurd rfl (hne l)
  ·exact h
def Tree.go {α : Type} : List Bool → Tree α → Tree α
 | ds, .need p t => .need p (Tree.go ds t)
 | true :: ds, .ite c t _ => .need c (Tree.go ds t)
 | false :: ds, .ite c _ e => .need (!c) (Tree.go ds e)
 | _,t=>t
theorem a13 {α : Type} {Q : α → Prop} : ∀ {T : Tree α} {ds : List Bool},(T.go ds).Sat Q → T.Sat Q
 | .leaf _,ds,h=>by cases ds <;> (try (rename_i b _;cases b)) <;> exact h
 | .fail,ds,h=>by cases ds <;> (try (rename_i b _;cases b)) <;> exact h
 | .need p t,ds,h=>by
  have h' : p = true ∧ (t.go ds).Sat Q:=by cases ds <;> (try (rename_i b _;cases b)) <;> exact h
  exact ⟨h'.1,a13 h'.2⟩
 | .ite c t e,[],h=>h
 | .ite c t e,true :: ds,h=>by
  have h' : c = true ∧ (t.go ds).Sat Q:=h
  exact ⟨fun _=>a13 h'.2,fun hc=>by rw [h'.1] at hc;cases hc⟩
 | .ite c t e,false :: ds,h=>by
  have h' : (!c) = true ∧ (e.go ds).Sat Q:=h
  exact ⟨(fun hc=>by rw [hc] at h';exact absurd h'.1 (by decide)),fun _=>a13 h'.2⟩
theorem a4t (hm : P.follows .mixedOrders = true) (hng : d7w P = true) (hH : HOk P H) {n : Nat} {g : FuncId} {xs : List V} {v : AV} (hpl : d8z v = true)
  (h : (d81 P q H n g (d7z 0 xs) (d87 xs)).Sat (fun p => ∀ {ρ ρ' : Nat → d8c} {N N' : Nat → Prop} {u : Value},Rep ρ N p.1 u → Rep ρ' N' v u)) : d7y P g xs v []:=by
 intro ρ vs w ha hi
 have hcm : (d87 xs).length = xs.length:=by simp [d87]
 have ha' : d8i ρ (upto (d87 xs).length) (d7z 0 xs) vs:=by rw [hcm];exact ha
 have hi' : Inv w (fun _=>False) (upto (d87 xs).length) ρ (getName (d87 xs)) w:=by rw [hcm];exact hi
 obtain ⟨hf,hc⟩:=a14 hm hH h ha' hi'
 refine a0y hng hf (hc.mono fun e w' ⟨u,h1,x',m2,ρ',k1,k2,k3,k4,k5⟩=>⟨u,h1,ρ, ?_, ?_⟩)
 ·rw [b3k hpl];exact k1 k2
 ·have:=hi.quiet k3
  simpa [d8b] using this
theorem a16 (hm : P.follows .mixedOrders = true) (hng : d7w P = true) (hH : HOk P H) {n : Nat} {g : FuncId} {xs : List V} {o : List Bool} {v v' : AV}
  (h : res (d81 P q H n g (d7z 0 xs) (d87 xs)) = some (o,v)) (ho : d7x o) (hv : v = v') (hpl : d8z v' = true) : d7y P g xs v' []:=
 a4t hm hng hH hpl (a5d h ho hv hpl)
theorem b5t (hm : P.follows .mixedOrders = true) (hng : d7w P = true) (hH : HOk P H) {n : Nat} {g : FuncId} {xs : List V} {o : List Bool} {v v' : AV}
  (h : (d81 P q H n g (d7z 0 xs) (d87 xs)).mix = some (o,v)) (ho : d7x o) (hv : v = v') (hpl : d8z v' = true) : d7y P g xs v' []:=by
 subst hv
 exact a4t hm hng hH hpl (a3o h ho)
theorem a9v (hm : P.follows .mixedOrders = true) (hng : d7w P = true) (hH : HOk P H) {n : Nat} {g : FuncId} {xs : List V} {o : List Bool} {v v' : AV} (ds : List Bool)
  (h : res ((d81 P q H n g (d7z 0 xs) (d87 xs)).go ds) = some (o,v)) (ho : d7x o) (hv : v = v') (hpl : d8z v' = true) : d7y P g xs v' []:=
 a4t hm hng hH hpl (a13 (a5d h ho hv hpl))
theorem a0k (hm : P.follows .mixedOrders = true) (hng : d7w P = true) (hH : HOk P H) {n : Nat} {g : FuncId} {args : List AV} {o : List Bool} {v v' : AV} (ds : List Bool) (hp : args.all d9e = true)
  (h : res ((d81 P q H n g args []).go ds) = some (o,v)) (ho : d7x o) (hv : v = v') (hpl : d8z v' = true) : d86 P g args v':=
 a2i hm hng hH hp (a13 (a5d h ho hv hpl))
theorem a0u (hm : P.follows .mixedOrders = true) (hng : d7w P = true) (hH : HOk P H) {n : Nat} {g : FuncId} {xs : List V} {o : List Bool} {v v' : AV} {m' bs : Mem}
  (h : (d81 P q H n g (d7z 0 xs) (d87 xs)).flat = some (o,(v',m'))) (ho : d7x o) (hv : v' = upA xs.length v) (hb : m'.drop xs.length = bs.map (upB xs.length)) (hle : m'.length = xs.length + bs.length) : d7y P g xs v bs:=by
 intro ρ vs w ha hi
 have hcm : (d87 xs).length = xs.length:=by simp [d87]
 have ha' : d8i ρ (upto (d87 xs).length) (d7z 0 xs) vs:=by rw [hcm];exact ha
 have hi' : Inv w (fun _=>False) (upto (d87 xs).length) ρ (getName (d87 xs)) w:=by rw [hcm];exact hi
 obtain ⟨hf,hc⟩:=a14 hm hH (a0x h ho) ha' hi'
 refine a0y hng hf (hc.mono fun e w' ⟨u,h1,x',m2,ρ',k1,k2,k3,k4,k5⟩=>⟨u,h1,ρ', ?_, ?_⟩)
 ·cases k1
  rw [← hle, ← hv];exact k2
 ·cases k1
  have hlen : xs.length + bs.length = m'.length:=hle.symm
  rw [hlen]
  have k4' : Agr ρ ρ' (upto xs.length):=by rw [hcm] at k4;exact k4
  refine hi.join (S1:=fun _=>False) k3 (fun _ h=>h.elim) (fun i hi=>by simp [upto] at *;omega) (fun _ h=>h) k4' (fun _ _=>rfl) fun n b hn => ?_
  rw [a07] at hn
  split at hn
  ·exact Or.inl ⟨hn,fun h=>h⟩
  ·rename_i hlt
   obtain ⟨g1,g2⟩:=a0d hn
   rw [← hb,a1b,hcm,show xs.length + (n - xs.length) = n by rw [hcm] at hlt;omega] at g1
   exact Or.inr ⟨g1,g2⟩
end
end Go.Ev
