/- Keys and signatures are the document's; seeds that have not their length are refused: for all bytes the law answers true. No condition. -/
import Derived.Test.YthelmpjkkkhopaaGreatDoorZEwHg
set_option linter.unusedSimpArgs false
set_option linter.unusedVariables false
set_option linter.unusedSectionVars false
namespace Go.Proofs.YthelmpjkkkhopaaGreatDoor
open Go.Ev Go.Wn Go.Mo
open Go.ChangeShapes Go.WideShapes Go.ChangeAt Go.RowKit
set_option maxRecDepth 100000
theorem c8z (S : V) (m : Nat) (l : List Int) : res ((d81 Tryz.prog qE (deep Tryz.prog qE hWr 100 5) 200 3 (d7z 0 [S, .buf true .u8 m l]) (d87 [S, .buf true .u8 m l])).go [true]) = some ([decide (m < 9223372036854775808),decide ((m : Int) > 300)], .bool false true):=by kernel_rfl
theorem c03  : res ((d81 Tryz.prog qE (deep Tryz.prog qE hWr 100 5) 200 3 (d7z 0 [.pl .nilslice, .pl .nilslice]) (d87 [.pl .nilslice, .pl .nilslice])).go []) = some ([], .bool false true):=by kernel_rfl
theorem c04  : res ((d81 Tryz.prog qE (deep Tryz.prog qE hWr 100 5) 200 3 (d7z 0 [.empty, .pl .nilslice]) (d87 [.empty, .pl .nilslice])).go []) = some ([], .bool false true):=by kernel_rfl
theorem c90 (n : Nat) (s : List Int) : res ((d81 Tryz.prog qE (deep Tryz.prog qE hWr 100 5) 200 3 (d7z 0 [.buf true .u8 n s, .pl .nilslice]) (d87 [.buf true .u8 n s, .pl .nilslice])).go [true]) = some ([decide (n < 9223372036854775808),(n : Int) != 32,decide (n < 9223372036854775808),(n : Int) != 32,decide (n < 9223372036854775808),(n : Int) != 32], .bool false true):=by kernel_rfl
theorem c91 (fp : List Int → List Int) (fs : List Int → List Int → List Int) (fv : List Int → List Int → List Int → Bool) (s : List Int) : res ((d81 Tryz.prog qAs (deep Tryz.prog qE (hSg fp fs fv) 100 5) 200 3 (d7z 0 [.buf false .u8 32 s, .pl .nilslice]) (d87 [.buf false .u8 32 s, .pl .nilslice])).go []) = some (List.replicate 8 (decide (fp s = fp s)), .bool true (decide (fs [] s = fs [] s))):=by kernel_rfl
theorem c05  : res ((d81 Tryz.prog qE (deep Tryz.prog qE hWr 100 5) 200 3 (d7z 0 [.pl .nilslice, .empty]) (d87 [.pl .nilslice, .empty])).go []) = some ([], .bool false true):=by kernel_rfl
theorem c06  : res ((d81 Tryz.prog qE (deep Tryz.prog qE hWr 100 5) 200 3 (d7z 0 [.empty, .empty]) (d87 [.empty, .empty])).go []) = some ([], .bool false true):=by kernel_rfl
theorem c92 (n : Nat) (s : List Int) : res ((d81 Tryz.prog qE (deep Tryz.prog qE hWr 100 5) 200 3 (d7z 0 [.buf true .u8 n s, .empty]) (d87 [.buf true .u8 n s, .empty])).go [true]) = some ([decide (n < 9223372036854775808),(n : Int) != 32,decide (n < 9223372036854775808),(n : Int) != 32,decide (n < 9223372036854775808),(n : Int) != 32], .bool false true):=by kernel_rfl
theorem c93 (fp : List Int → List Int) (fs : List Int → List Int → List Int) (fv : List Int → List Int → List Int → Bool) (s : List Int) : res ((d81 Tryz.prog qAs (deep Tryz.prog qE (hSg fp fs fv) 100 5) 200 3 (d7z 0 [.buf false .u8 32 s, .empty]) (d87 [.buf false .u8 32 s, .empty])).go []) = some (List.replicate 8 (decide (fp s = fp s)), .bool true (decide (fs [] s = fs [] s))):=by kernel_rfl
theorem c07  (m : Nat) (l : List Int) : res ((d81 Tryz.prog qE (deep Tryz.prog qE hWr 100 5) 200 3 (d7z 0 [.pl .nilslice, .buf true .u8 m l]) (d87 [.pl .nilslice, .buf true .u8 m l])).go [false]) = some ([decide (m < 9223372036854775808), !decide ((m : Int) > 300)], .bool false true):=by kernel_rfl
theorem c08  (m : Nat) (l : List Int) : res ((d81 Tryz.prog qE (deep Tryz.prog qE hWr 100 5) 200 3 (d7z 0 [.empty, .buf true .u8 m l]) (d87 [.empty, .buf true .u8 m l])).go [false]) = some ([decide (m < 9223372036854775808), !decide ((m : Int) > 300)], .bool false true):=by kernel_rfl
theorem c94 (n : Nat) (s : List Int) (m : Nat) (l : List Int) : res ((d81 Tryz.prog qE (deep Tryz.prog qE hWr 100 5) 200 3 (d7z 0 [.buf true .u8 n s, .buf true .u8 m l]) (d87 [.buf true .u8 n s, .buf true .u8 m l])).go [false,true]) = some ([decide (m < 9223372036854775808), !decide ((m : Int) > 300),decide (n < 9223372036854775808),(n : Int) != 32,decide (n < 9223372036854775808),(n : Int) != 32,decide (n < 9223372036854775808),(n : Int) != 32], .bool false true):=by kernel_rfl
theorem c95 (fp : List Int → List Int) (fs : List Int → List Int → List Int) (fv : List Int → List Int → List Int → Bool) (s : List Int) (m : Nat) (l : List Int) : res ((d81 Tryz.prog qAs (deep Tryz.prog qE (hSg fp fs fv) 100 5) 200 3 (d7z 0 [.buf false .u8 32 s, .buf true .u8 m l]) (d87 [.buf false .u8 32 s, .buf true .u8 m l])).go [false]) = some ([decide (m < 9223372036854775808), !decide ((m : Int) > 300),decide (0 + m ≤ m),decide (m < 9223372036854775808)] ++ List.replicate 5 (decide (fp s = fp s)) ++ [decide (0 + m ≤ m),decide (m ≤ 1000)] ++ List.replicate 3 (decide (fp s = fp s)), .bool true (decide (fs ((l.drop 0).take m) s = fs ((l.drop 0).take m) s))):=by kernel_rfl
theorem b6y {s : List Int} (f : List Int → List Int) (k : Nat) : d7x (List.replicate k (decide (f s = f s))):=fun x hx=>by rw [(List.mem_replicate.1 hx).2];exact decide_eq_true rfl
theorem a60 {va vb : Value} (W : World) (hT : e4r W) (ha : (va = .slice none 0 0 ∨ ∃ (a : Addr) (len cap : Nat) (zs : List Int),va = .slice (some a) len cap ∧ len ≤ cap ∧ cap ≤ maxLen ∧ zs.length = cap ∧ (∀ i,i < zs.length → W.cell? (a.add i) = some (.int .u8 (zs.getD i 0))) ∧ ∀ n ∈ zs,inR .u8 n = true)) (hb : (vb = .slice none 0 0 ∨ ∃ (a : Addr) (len cap : Nat) (zs : List Int),vb = .slice (some a) len cap ∧ len ≤ cap ∧ cap ≤ maxLen ∧ zs.length = cap ∧ (∀ i,i < zs.length → W.cell? (a.add i) = some (.int .u8 (zs.getD i 0))) ∧ ∀ n ∈ zs,inR .u8 n = true)) :
  Calls Tryz.prog 3 #[va,vb] W (fun e w'=>e = .returned (.bool true) ∧ Below W.heap.size W w'):=by
 have D:=c7z.deep (q:=qE) mixed d7w 100 5
 have E:=c7y.deep (q:=qE) mixed d7w 100 5
 rcases a9e 1 hb with g | g | ⟨m,p,hm,g⟩
 ·rcases a3l 0 ha with h | h | ⟨n,l,h1,h2,h⟩ | ⟨s,os,h⟩
  ·exact a05 mixed D [] c03 d7x.nil rfl (.cons _ _ _ _ _ h (.cons _ _ _ _ _ g (.nil _)))
  ·exact a05 mixed D [] c04 d7x.nil rfl (.cons _ _ _ _ _ h (.cons _ _ _ _ _ g (.nil _)))
  ·have e : ((n : Int) != 32) = true:=by simpa using h2
   exact a05 mixed D [true] (c90 n l) (by rw [e,decide_eq_true h1];exact List.all_eq_true.1 rfl) rfl (.cons _ _ _ _ _ h (.cons _ _ _ _ _ g (.nil _)))
  ·exact a05 mixed E [] (c91 e1f fsB fvB s) (b6y _ _) (decide_eq_true rfl) (.cons _ _ _ _ _ h (.cons _ _ _ _ _ g (.nil _)))
 ·rcases a3l 0 ha with h | h | ⟨n,l,h1,h2,h⟩ | ⟨s,os,h⟩
  ·exact a05 mixed D [] c05 d7x.nil rfl (.cons _ _ _ _ _ h (.cons _ _ _ _ _ g (.nil _)))
  ·exact a05 mixed D [] c06 d7x.nil rfl (.cons _ _ _ _ _ h (.cons _ _ _ _ _ g (.nil _)))
  ·have e : ((n : Int) != 32) = true:=by simpa using h2
   exact a05 mixed D [true] (c92 n l) (by rw [e,decide_eq_true h1];exact List.all_eq_true.1 rfl) rfl (.cons _ _ _ _ _ h (.cons _ _ _ _ _ g (.nil _)))
  ·exact a05 mixed E [] (c93 e1f fsB fvB s) (b6y _ _) (decide_eq_true rfl) (.cons _ _ _ _ _ h (.cons _ _ _ _ _ g (.nil _)))
 ·by_cases hl : (m : Int) > 300
  ·obtain ⟨S,wS,gS⟩:=a2r 0 ha
   exact a05 mixed D [true] (c8z S m p) (a00 (decide_eq_true hm) (a00 (decide_eq_true hl) d7x.nil)) rfl (.cons _ _ _ _ _ gS (.cons _ _ _ _ _ g (.nil _))) (by show noW (S :: _) = true;rw [b01 wS];rfl)
  ·have a:=decide_eq_true hm
   have b:=decide_eq_false hl
   rcases a3l 0 ha with h | h | ⟨n,l,h1,h2,h⟩ | ⟨s,os,h⟩
   ·exact a05 mixed D [false] (c07 m p) (by rw [a,b];exact List.all_eq_true.1 rfl) rfl (.cons _ _ _ _ _ h (.cons _ _ _ _ _ g (.nil _)))
   ·exact a05 mixed D [false] (c08 m p) (by rw [a,b];exact List.all_eq_true.1 rfl) rfl (.cons _ _ _ _ _ h (.cons _ _ _ _ _ g (.nil _)))
   ·have e : ((n : Int) != 32) = true:=by simpa using h2
    exact a05 mixed D [false,true] (c94 n l m p) (by rw [a,b,e,decide_eq_true h1];exact List.all_eq_true.1 rfl) rfl (.cons _ _ _ _ _ h (.cons _ _ _ _ _ g (.nil _)))
   ·exact a05 mixed E [false] (c95 e1f fsB fvB s m p) (by
     rw [a,b,show decide (0 + m ≤ m) = true from decide_eq_true (by omega),show decide (m ≤ 1000) = true from decide_eq_true (by omega)]
     exact a01.2 ⟨a01.2 ⟨a01.2 ⟨List.all_eq_true.1 rfl,b6y _ _⟩,List.all_eq_true.1 rfl⟩,b6y _ _⟩) (decide_eq_true rfl) (.cons _ _ _ _ _ h (.cons _ _ _ _ _ g (.nil _)))
theorem a5h (os : Os) (started : os.Started) (H : Type) (enc : TypeId × Value → H) :
  ReturnsInHanded {} Tryz.checked os 3 .any (fun w args=>(Rows.edwardsSignsSpec.pre enc Tryz.prog Tryz.f3 Rows.edwardsSignsRow.domain false w args ∧ laidMetH Tryz.prog Rows.edwardsSignsRow.laid w) ∧ sizedMet enc Tryz.prog Tryz.f3 (OpenSpec.ofChange Rows.edwardsSignsSpec) false w args)
   (Rows.edwardsSignsSpec.post enc Tryz.prog Tryz.f3 false true false false):=by
 refine returnsInHanded_of_change_and (C:=Tryz.checked) (X:=fun w _=>laidMetH Tryz.prog Rows.edwardsSignsRow.laid w) (fun _ _ _ hh h=>h.of_heap hh) own started (by kernel_rfl) Tryz.func3
  (ChangeSpec.witness_shaped (enc:=enc) (C:=Tryz.checked) (os:=os) (X:=fun w _=>laidMetH Tryz.prog Rows.edwardsSignsRow.laid w) false (World.laidAll Tryz.prog os Rows.edwardsSignsRow.laid) #[.slice none 0 0, .slice none 0 0] 8 (World.laidAll_os _ _ _)
   (World.shaped_of_ZipB (by kernel_rfl) (by kernel_rfl)) (by kernel_rfl) (by kernel_rfl) (by kernel_rfl)
   (by rw [MakeChecks.laidMetH_plain _ _ _ (by kernel_rfl)];exact laidMet_laidAll _ (by kernel_rfl) (by kernel_rfl))) ?_
 intro W base args ds gs before hval0 hW _ hsz hL _
 have hT : e4r W:=c1a hL
 have hval : ∀ (j : Nat) t v,Tryz.f3.params[j]? = some t → args[j]? = some v → Value.okWide Tryz.prog W .any base t v:=hval0
 have hW':=hW
 obtain ⟨p,q,hA0,hV,rfl,hfz,hnd⟩:=hW
 have hA : DataW.TrodAll enc Tryz.prog W 0 (fun _=>true) true Tryz.f3.params.toList args.toList ds p:=hA0
 rw [Tryz.params3] at hA hval
 obtain ⟨v0,v1,d0,d1,p0,p1,hargs,rfl,rfl,g0,g1⟩:=trodAll_two hA
 have hargs' : args = #[v0,v1]:=by simpa using hargs
 subst hargs'
 obtain ⟨rfl,rfl⟩:=trodVars_none hV
 have hv0:=a4o Tryz.underlying22 Tryz.underlying5 (by kernel_rfl) (hval 0 _ v0 rfl rfl) g0
 have hv1:=a4o Tryz.underlying22 Tryz.underlying5 (by kernel_rfl) (hval 1 _ v1 rfl rfl) g1
 refine (a60 W hT hv0 hv1).mono fun e W' ⟨he,hb⟩ => ?_
 exact ⟨_,he,a8a laidOut (by rw [Tryz.params3];decide +kernel) hW' rfl rfl Tryz.underlying4 rfl rfl rfl hb⟩
theorem a61 : Rows.EdwardsSignsSaid:=
 OpenClaim.holds_of_wide 3 Tryz.f3 rfl rfl rfl rfl rfl rfl rfl ⟨rfl,rfl,rfl,rfl,rfl⟩ rfl rfl rfl rfl rfl (by kernel_rfl) Tryz.func3 (by kernel_rfl)
  (f9c (by kernel_rfl)) (by unfold Func.isWrapper;first | (rw [if_pos (by decide +kernel)];kernel_rfl) | (rw [if_neg (by decide +kernel)];exact ⟨rfl,rfl⟩))
  (fun os started H enc _=>a5h os started H enc)
theorem edwardsSigns_card_holds : Rows.EdwardsSignsCardSaid:=
 Claim7.holds_tied_plain_at .later [] [.data, .data, .data, .data, .data, .data, .data, .data, .data] true (true, "2375ae646ccb3ad39d72f72b8e275e06d3215f4fb8771aedc81610c8f84a4c9e") false a61 (fun _ h => by cases h) (by kernel_rfl) (fun _ h => by cases h) edwardsSigns_row_tie rfl ⟨rfl, rfl⟩ (by kernel_rfl) rfl
  (fun f fn hf hfn=>by
   obtain rfl : f = 3:=Option.some.inj (hf.symm.trans (by kernel_rfl))
   obtain rfl : fn = Tryz.f3:=(Option.some.inj (Tryz.func3.symm.trans hfn)).symm
   exact ⟨by kernel_rfl,fun j t ht=>by
    rw [Tryz.params3] at ht
    have hm : t ∈ [22,22]:=by simpa using Array.mem_of_getElem? ht
    have hall : ([22,22].all fun u=>!Tryz.prog.wantsStandIn u) = true:=by kernel_rfl
    exact (show Tryz.prog.wantsStandIn t = false by simpa using List.all_eq_true.1 hall t hm)⟩)
  (by kernel_rfl)
end Go.Proofs.YthelmpjkkkhopaaGreatDoor
