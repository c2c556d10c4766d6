/- Laws whose arguments hold slices. Own work. -/
import Derived.Test.YthelmpjkkkhopaaGreatDoorZEvView
import Derived.ChangeSlices
import Derived.Test.YthelmpjkkkhopaaGreatDoorZEvRen
set_option linter.unusedSimpArgs false
set_option linter.unusedVariables false
set_option linter.unusedSectionVars false
namespace Go.Ev
variable [Tab]
open Go.ChangeShapes Go.WideShapes Go.ChangeAt Go.RowKit
inductive e83 (W : World) : Nat → List V → List Value → Prop
 | nil (j : Nat) : e83 W j [] []
 | cons (j : Nat) (x : V) (v : Value) (xs : List V) (vs : List Value) (h : ∃ L,VOk W j L x v) (hs : e83 W (j + 1) xs vs) : e83 W j (x :: xs) (v :: vs)
def noW : List V → Bool
 | []=>true
 | .ptw _ :: _=>false
 | _ :: r=>noW r
theorem e83.all {W : World} : ∀ {xs : List V} {j : Nat} {vs : List Value},e83 W j xs vs → noW xs = true →
  ∃ Ls : Nat → d8c,(∀ (ρ' : Nat → d8c) (N' : Nat → Prop),(∀ i,i < xs.length → ρ' (j + i) = Ls i ∧ N' (j + i)) → d8i ρ' N' (d7z j xs) vs) ∧
   ∀ i b,getName (d87 xs) i = some b → b.rw = false ∧ ∀ (ρ' : Nat → d8c) (N' : Nat → Prop),ρ' (j + i) = Ls i → f1c ρ' N' W (j + i) b
 | [],j,vs,h,_=>by
  cases h
  exact ⟨fun _=>⟨0,0,0⟩,fun _ _ _ => .nil,fun i b hb=>by simp [d87,getName] at hb⟩
 | x :: xs,j,vs,h,hw=>by
  have hx : (∀ c,x ≠ .ptw c) ∧ noW xs = true:=by
   cases x <;> simp [noW] at hw <;> exact ⟨(fun c e=>by cases e),hw⟩
  cases h with
  | cons _ _ v _ vs h hs =>
   obtain ⟨L,k1,k2⟩:=h
   obtain ⟨Ls,k3,k4⟩:=e83.all hs hx.2
   refine ⟨fun i=>match i with | 0=>L | i + 1=>Ls i,fun ρ' N' hρ => ?_,fun i b hb => ?_⟩
   ·refine .cons _ _ _ _ (k1 ρ' N' (hρ 0 (by simp)).1 (hρ 0 (by simp)).2) (k3 ρ' N' fun i hi => ?_)
    have:=hρ (i + 1) (by simpa using hi)
    rw [show j + 1 + i = j + (i + 1) by omega]
    exact this
   ·cases i with
    | zero =>
     have hb' : e6i x = some b:=by
      unfold getName d87 at hb
      simp at hb
      cases hx : e6i x <;> simp_all
     refine ⟨?_,(k2 b hb').2⟩
     cases hrw : b.rw with
     | false=>rfl
     | true=>obtain ⟨c,hc⟩:=(k2 b hb').1 hrw;exact (hx.1 c hc).elim
    | succ i =>
     have hb' : getName (d87 xs) i = some b:=by
      unfold getName d87 at hb ⊢
      simpa using hb
     have:=k4 i b hb'
     rw [show j + 1 + i = j + (i + 1) by omega] at this
     exact this
theorem e83.start {W : World} {xs : List V} {vs : List Value} (h : e83 W 0 xs vs) (hw : noW xs = true) (hT : e4r W) : ∃ ρ,d8i ρ (upto (d87 xs).length) (d7z 0 xs) vs ∧ Inv W (fun _=>False) (upto (d87 xs).length) ρ (getName (d87 xs)) W:=by
 obtain ⟨Ls,c1,c2⟩:=h.all hw
 have hcm : (d87 xs).length = xs.length:=by simp [d87]
 rw [hcm]
 refine ⟨Ls,c1 Ls (upto xs.length) fun i hi=>by rw [Nat.zero_add];exact ⟨rfl,hi⟩, ?_⟩
 refine Inv.start _ ⟨fun n b hn => ?_,fun i j bi bj hi hj hij hr => ?_,fun n b hn => ?_,hT,fun G c hG n b hn hr=>by rw [(c2 n b hn).1] at hr;cases hr⟩ fun n b hn hr => ?_
 ·have:=(c2 n b hn).2 Ls (upto xs.length) (by rw [Nat.zero_add])
  rwa [Nat.zero_add] at this
 ·rw [(c2 i bi hi).1] at hr;cases hr
 ·have:=a0f hn
  rw [hcm] at this
  exact this
 ·rw [(c2 n b hn).1] at hr;cases hr
theorem VOk.plain {W : World} {j : Nat} {a : AV} {v : Value} (h : ∀ (ρ : Nat → d8c) (N : Nat → Prop),Rep ρ N a v) : ∃ L,VOk W j L (.pl a) v:=
 ⟨⟨0,0,0⟩,fun ρ N _ _=>h ρ N,fun b hb=>by cases hb⟩
theorem VOk.empty {W : World} {j : Nat} {a : Addr} : ∃ L,VOk W j L .empty (.slice (some a) 0 0):=
 ⟨⟨0,0,0⟩,fun ρ N hρ hN => .slice false j 0 0 none 1 0 a hN (by intro c h;cases h) (Nat.le_refl _) (by simp) (by intro h;omega),fun b hb=>by cases hb⟩
theorem VOk.slice {W : World} {j : Nat} {a : Addr} {len cap : Nat} {k : IntKind} {zs : List Int} (s : Bool) (hz : zs.length = cap) (hl : len ≤ cap) (h0 : 0 < cap) (hc : ∀ i,i < zs.length → W.cell? (a.add i) = some (.int k (zs.getD i 0)))
  (hw : ∀ n ∈ zs,inR k n = true) : ∃ L,VOk W j L (.buf s k len (zs.take len)) (.slice (some a) len cap):=by
 have h1:=hc 0 (by omega)
 obtain ⟨b,off,spot⟩:=a
 unfold World.cell? at h1
 split at h1
 case h_2=>cases h1
 rename_i cs t fr hh
 split at h1
 ·cases h1
 rename_i hsp
 have hsp' : spot = none:=by
  cases spot with
  | none=>rfl
  | some x=>simp [Addr.add] at hsp
 subst hsp'
 have hh' : W.heap[b]? = some (.cells cs t fr):=by
  rw [a0h] at hh;exact hh
 have cell : ∀ i,i < cap → cs[off + i]? = some (.int k (zs.getD i 0)):=fun i hi=>by
  have:=hc i (by omega)
  rwa [a0h,a1n hh'] at this
 have hsz : off + cap ≤ cs.size:=by
  have:=(Array.getElem?_eq_some_iff.1 (cell (cap - 1) (by omega))).1
  omega
 refine ⟨⟨b,off,cap⟩,fun ρ N hρ hN => ?_,fun b' hb' => ?_⟩
 ·refine .slice s j 0 len none 1 cap _ hN (by intro c h;cases h) hl ?_ ?_
  ·rw [hρ];show 0 + cap * 1 ≤ cap;omega
  ·intro _;rw [hρ];rfl
 ·cases hb'
  refine ⟨(fun h=>by cases h),fun ρ N hρ=>⟨cs,t,fr.1,fr.2,by rw [hρ];exact hh',by rw [hρ];exact hsz,(by intro h;cases h),by rw [hρ];exact hl, ?_⟩⟩
  refine ⟨(by intro m h;cases h;simp;omega),fun i y hy => ?_⟩
  have hi : i < len:=by
   have:=(List.getElem?_eq_some_iff.1 hy).1
   simp at this;omega
  rw [List.getElem?_take_of_lt hi] at hy
  refine ⟨?_,hw y (List.mem_of_getElem? hy)⟩
  rw [hρ]
  have:=cell i (by omega)
  rw [List.getD,hy] at this
  exact this
section
variable {P : Program} {q : FuncId → Bool} {H : d82}
theorem a05 (hm : P.follows .mixedOrders = true) (hH : HOk P H) {n : Nat} {g : FuncId} {xs : List V} {s b : Bool} {o : List Bool} (ds : List Bool)
  (h : res ((d81 P q H n g (d7z 0 xs) (d87 xs)).go ds) = some (o, .bool s b)) (ho : d7x o) (hb : b = true) {vs : List Value} {W : World} (ha : e83 W 0 xs vs) (hw : noW xs = true:=by rfl) (hT : e4r W:=by first | assumption | exact fun G c h=>by cases h) :
  Calls P g vs.toArray W (fun e w'=>e = .returned (.bool true) ∧ Below W.heap.size W w'):=by
 subst hb
 obtain ⟨ρ,hr,hi⟩:=ha.start hw hT
 obtain ⟨_,hc⟩:=a14 hm hH (a13 (c16 h ho)) hr hi
 refine hc.mono fun e w' ⟨u,h1,x',m2,ρ',k1,k2,k3,k4,k5⟩ => ?_
 simp only at k1
 rw [k1] at k2
 cases k2
 exact ⟨h1,⟨k3.os,k3.tape,k3.output,k3.size,fun k hk=>k3.frame k hk (fun h=>h)⟩⟩
end
theorem b2q {P : Program} {W : World} {r : Reach} {base : Nat} {t e : TypeId} {v : Value} (ht : P.underlying t = some (.slice e)) (h : Value.okWide P W r base t v) : ∃ a l c,v = .slice a l c:=by
 unfold Value.okWide at h
 rw [ht] at h
 simp only at h
 unfold Cell.okWide at h
 rw [ht] at h
 cases v <;> simp only at h <;> (try (unfold Cell.ok at h;rw [ht] at h;simp only at h)) <;> first | exact ⟨_,_,_,rfl⟩ | exact h.elim
theorem d03 {k : IntKind} {n : Int} (h : (Lit.int k n).wf = true) : inR k n = true:=by
 have h' : (decide (k.min ≤ n) && decide (n ≤ k.max)) = true:=h
 rw [loP,hiP] at h'
 exact h'
section
variable {H : Type} {enc : TypeId × Value → H} {P : Program}
theorem a4o {W : World} {base : Nat} {t e : TypeId} {k : IntKind} {v : Value} {d : DataW H} {ps : List MemPlace} (ht : P.underlying t = some (.slice e)) (he : P.underlying e = some (.int k)) (hc : P.cellsOf e = 1)
  (hval : Value.okWide P W .any base t v) (hd : DataW.Trod enc P W 0 (fun _=>true) true t v d ps) :
  v = .slice none 0 0 ∨ ∃ (a : Addr) (len cap : Nat) (zs : List Int),v = .slice (some a) len cap ∧ len ≤ cap ∧ cap ≤ maxLen ∧ zs.length = cap ∧ (∀ i,i < zs.length → W.cell? (a.add i) = some (.int k (zs.getD i 0))) ∧ ∀ n ∈ zs,inR k n = true:=by
 obtain ⟨a0,l0,c0,rfl⟩:=b2q ht hval
 obtain ⟨fuel,hf⟩:=hd
 have hcs : (Value.slice a0 l0 c0).cells.toList = [.slice a0 l0 c0]:=rfl
 rw [hcs] at hf
 rcases open_ints ht he hc hf with ⟨h1,_⟩ | ⟨a,len,cap,zs,h1,h2,h3,h4,h5,h6,h7,h8⟩
 ·left
  simpa using h1
 ·right
  refine ⟨a,len,cap,zs,by simpa using h1,h3,h4,by simpa using h5,h7,fun n hn=>d03 (h8 n hn)⟩
end
end Go.Ev
namespace Go.Ev
variable [Tab]
def d92 (j : Nat) (T : Tree (AV × Mem)) : Option (List Bool × AV × Option (Option Blk)):=match T.flat with | some (o,(v,m))=>some (o,v,m[j]?) | none=>none
def e6g (k j n : Nat) : Nat:=match Nat.beq n k with | true=>j | false=>n
theorem c4l (k j : Nat) : e7m (e6g k j) k = true:=List.all_eq_true.2 fun i hi=>by
 have:=List.mem_range.1 hi
 unfold e6g
 cases hb : Nat.beq i k with
 | true=>have:=Nat.eq_of_beq_eq_true hb;omega
 | false=>exact Nat.beq_refl i
theorem c4m {k j : Nat} (h : k ≤ j) : e6h (e6g k j) (k + 1) = true:=List.all_eq_true.2 fun a ha=>List.all_eq_true.2 fun b hb=>by
 have h1:=List.mem_range.1 ha
 have h2:=List.mem_range.1 hb
 have hn : ∀ {x y : Nat},x ≠ y → Nat.beq x y = false:=fun {x y} hxy=>by
  cases h : Nat.beq x y with
  | true=>exact absurd (Nat.eq_of_beq_eq_true h) hxy
  | false=>rfl
 by_cases hab : a = b
 ·subst hab;rw [show Nat.beq a a = true from Nat.beq_refl a];rfl
 ·have : e6g k j a ≠ e6g k j b:=by
   unfold e6g
   by_cases hak : a = k
   ·subst hak
    rw [show Nat.beq a a = true from Nat.beq_refl a,hn (Ne.symm hab)]
    simp only
    omega
   ·rw [hn hak]
    by_cases hbk : b = k
    ·subst hbk
     rw [show Nat.beq b b = true from Nat.beq_refl b]
     simp only
     omega
    ·rw [hn hbk];exact hab
  rw [hn this]
  cases Nat.beq a b <;> rfl
section
variable {P : Program} {q : FuncId → Bool} {H : d82} {Λ : d8r}
theorem a12 (hm : P.follows .mixedOrders = true) (hng : d7w P = true) (hH : HOk P H) {n : Nat} {g : FuncId} {xs : List V} (hΛ : ∀ fn c,P.funcs[g]? = some fn → fn.body = some c → e2m xs.length P c Λ) {o : List Bool} {v v' : AV} {k : IntKind} {sz : Option Nat} {l : List Int} (ds : List Bool) (j : Nat)
  (h : d92 j ((d8a P q H Λ n g (d7z 0 xs) (d87 xs)).go ds) = some (o,v',some (some ⟨true, .ints k sz l⟩))) (ho : d7x o) (hj : xs.length ≤ j) (hv : v' = d9n (e6g xs.length j) (upA xs.length v)) (hba : d9b (xs.length + 1) (upA xs.length v) = true) :
  d7y P g xs v [some ⟨true, .ints k sz l⟩]:=by
 unfold d92 at h
 split at h
 ·rename_i o' v2 m' hf
  simp only [Option.some.injEq,Prod.mk.injEq] at h
  obtain ⟨h1,h2,h3⟩:=h
  subst h1 h2
  have one : e6g xs.length j (0 + xs.length) = j:=by
   unfold e6g
   rw [show Nat.beq (0 + xs.length) xs.length = true by rw [Nat.zero_add];exact Nat.beq_refl _]
  have pulls : ∀ (a b : Nat) (M : Mem),Pulls (e6g xs.length j) m' (b + a) M → Pulls (e6g xs.length j) m' b (List.replicate a none ++ M):=by
   intro a
   induction a with
   | zero=>intro b M h;exact h
   | succ a ih =>
    intro b M h
    rw [List.replicate_succ,List.cons_append]
    exact ih (b + 1) M (by rw [show b + 1 + a = b + (a + 1) by omega];exact h)
  have bnd : ∀ (a k' : Nat) (M : Mem),e1a k' M = true → e1a k' (List.replicate a none ++ M) = true:=by
   intro a
   induction a with
   | zero=>intro k' M h;exact h
   | succ a ih=>intro k' M h;rw [List.replicate_succ,List.cons_append];exact ih k' M h
  intro ρ vs w ha hi
  exact a7h (bs:=[some ⟨true, .ints k sz l⟩]) hm hng hH hΛ ds (e6g xs.length j) hf ho hv hba (pulls _ 0 _ ⟨⟨_,by rw [one];exact h3, .refl _⟩,trivial⟩) (bnd _ _ _ rfl) (c4m hj) (c4l _ _) ha hi
 ·cases h
end
theorem VOk.f1b {W : World} {j : Nat} {a : Addr} {cap : Nat} {k : IntKind} {zs : List Int} (hz : zs.length = cap) (hc : ∀ i,i < zs.length → W.cell? (a.add i) = some (.int k (zs.getD i 0))) : ∃ L,VOk W j L .empty (.slice (some a) 0 cap):=by
 by_cases h0 : cap = 0
 ·subst h0;exact VOk.empty
 ·have h1:=hc 0 (by omega)
  obtain ⟨b,off,spot⟩:=a
  unfold World.cell? at h1
  split at h1
  case h_2=>cases h1
  rename_i cs t fr hh
  split at h1
  ·cases h1
  rename_i hsp
  have hsp' : spot = none:=by
   cases spot with
   | none=>rfl
   | some x=>simp [Addr.add] at hsp
  subst hsp'
  refine ⟨⟨b,off,cap⟩,fun ρ N hρ hN => .slice false j 0 0 none 1 cap _ hN (by intro c h;cases h) (Nat.zero_le _) ?_ fun _ => ?_,fun b' hb'=>by cases hb'⟩
  ·rw [hρ];show 0 + cap * 1 ≤ cap;omega
  ·rw [hρ];rfl
theorem VOk.bytes {W : World} (j : Nat) {v : Value} {m : Nat} (hv : v = .slice none 0 0 ∨ ∃ (a : Addr) (len cap : Nat) (zs : List Int),v = .slice (some a) len cap ∧ len ≤ cap ∧ cap ≤ m ∧ zs.length = cap ∧ (∀ i,i < zs.length → W.cell? (a.add i) = some (.int .u8 (zs.getD i 0))) ∧ ∀ n ∈ zs,inR .u8 n = true) :
  (∃ L,VOk W j L (.pl .nilslice) v) ∨ (∃ L,VOk W j L .empty v) ∨ ∃ (n : Nat) (l : List Int),1 ≤ n ∧ n ≤ m ∧ l.length = n ∧ (∀ x ∈ l,inR .u8 x = true) ∧ ∃ L,VOk W j L (.buf true .u8 n l) v:=by
 rcases hv with rfl | ⟨ad,len,cap,zs,rfl,hlen,hcap,hz,hc,hw⟩
 ·exact Or.inl (VOk.plain fun ρ N => .nilslice)
 ·by_cases h0 : len = 0
  ·subst h0;exact Or.inr (Or.inl (VOk.f1b hz hc))
  ·refine Or.inr (Or.inr ⟨len,zs.take len,by omega,by omega,by rw [List.length_take];omega,fun x hx=>hw x (List.mem_of_mem_take hx),VOk.slice true hz hlen (by omega) hc hw⟩)
end Go.Ev
