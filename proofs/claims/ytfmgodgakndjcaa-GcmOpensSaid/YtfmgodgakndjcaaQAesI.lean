/- The reference's block cipher: contract of New. Own work. -/
import Derived.Test.YtfmgodgakndjcaaQAesO
import Derived.Test.YtfmgodgakndjcaaQGcA
import Derived.Test.YtfmgodgakndjcaaQEvTwo
import Derived.Test.YtfmgodgakndjcaaQAesC0
set_option linter.unusedSimpArgs false
set_option linter.unusedVariables false
set_option linter.unusedSectionVars false
namespace Go.Proofs.Ytfmgodgakndjcaa
open Go.Ev Go.Sh Go.As
set_option maxRecDepth 100000
def rkB (N k : Nat) (l : List Int) : Mem := [some ⟨true, .wide [.slice true 1 0 k none 4, .ints .i64 256 sboxL, .int false .i64 (N : Int)]⟩, some ⟨true, .ints .i64 none (specW N l k)⟩]
theorem rnew4_eval (l : List Int) : ((funcL Try.prog qP (deep Try.prog qP hr4 100 3) (rkΛ4 fun _ _ => none) 100 12 (cArgs 0 [.buf false .u8 16 l]) (cMem [.buf false .u8 16 l])).go []).flat =
    some ([decide ((0 : Int) = 0), l.all (inR .u8), decide ((0 : Nat) = 0)], (.ptr false 1 0, [some ⟨false, .ints .u8 (some 16) l⟩, some ⟨true, .wide [.slice true 2 0 44 none 4, .ints .i64 256 sboxL, .int false .i64 4]⟩, some ⟨true, .ints .i64 none (specW 4 l 44)⟩])) := by kernel_rfl
theorem rnew8_eval (l : List Int) : ((funcL Try.prog qP (deep Try.prog qP hr4 100 3) (rkΛ8 fun _ _ => none) 100 12 (cArgs 0 [.buf false .u8 32 l]) (cMem [.buf false .u8 32 l])).go []).flat =
    some ([decide ((0 : Int) = 0), l.all (inR .u8), decide ((0 : Nat) = 0)], (.ptr false 1 0, [some ⟨false, .ints .u8 (some 32) l⟩, some ⟨true, .wide [.slice true 2 0 60 none 4, .ints .i64 256 sboxL, .int false .i64 8]⟩, some ⟨true, .ints .i64 none (specW 8 l 60)⟩])) := by kernel_rfl
theorem rnewX_eval (n : Nat) (l : List Int) : ((funcL Try.prog qP (deep Try.prog qP hr4 100 3) (fun _ _ => none) 100 12 (cArgs 0 [.buf true .u8 n l]) (cMem [.buf true .u8 n l])).go [true]).flat =
    some ([decide (n < 9223372036854775808), !((n : Int) != 16) || decide (n < 9223372036854775808), !((n : Int) != 16) || ((n : Int) != 16), !((n : Int) != 16) || ((n : Int) != 16), !((n : Int) != 16) || ((n : Int) != 16), match ((n : Int) != 16) with | true => ((n : Int) != 32) | false => false], (.nilptr, cMem [.buf true .u8 n l])) := by kernel_rfl
/-- Of 16 bytes, of 32. -/
def rnewS : List V → E (AV × Mem)
  | [.buf false .u8 16 l] => some ([], (.ptr false 0 0, rkB 4 44 l))
  | [.buf false .u8 32 l] => some ([], (.ptr false 0 0, rkB 8 60 l))
  | _ => none
theorem rnew_ok {xs : List V} {o : List Bool} {v : AV} {bs : Mem} (h : rnewS xs = some (o, (v, bs))) : ViewCall Try.prog 12 xs v bs := by
  unfold rnewS at h
  split at h
  · rename_i l
    cases h
    intro ρ vs w ha hi
    have hr := (buf_arg hi 0 rfl).2
    exact @viewN_of_go _ _ _ _ _ mixed noCount (hr4_ok.deep mixed noCount 100 3) _ _ _ (fun fn c hf hb => by rw [bodyOf_eq hf hb]; exact rk4_lok LOkN.none) _ _ _ _ _ [] (rnew4_eval l) (paid_cons rfl (paid_cons (List.all_eq_true.2 hr) (paid_cons rfl Paid.nil))) rfl rfl rfl ρ vs w ha hi
  · rename_i l
    cases h
    intro ρ vs w ha hi
    have hr := (buf_arg hi 0 rfl).2
    exact @viewN_of_go _ _ _ _ _ mixed noCount (hr4_ok.deep mixed noCount 100 3) _ _ _ (fun fn c hf hb => by rw [bodyOf_eq hf hb]; exact rk8_lok LOkN.none) _ _ _ _ _ [] (rnew8_eval l) (paid_cons rfl (paid_cons (List.all_eq_true.2 hr) (paid_cons rfl Paid.nil))) rfl rfl rfl ρ vs w ha hi
  · cases h
def rnewS16 : List V → E (AV × Mem)
  | [.buf true .u8 n l] => some ([decide (n = 16)], (.ptr false 0 0, rkB 4 44 l))
  | xs => rnewS xs
def rnewS32 : List V → E (AV × Mem)
  | [.buf true .u8 n l] => some ([decide (n = 32)], (.ptr false 0 0, rkB 8 60 l))
  | xs => rnewS xs
def rnewSX : List V → E (AV × Mem)
  | [.buf true .u8 n _] => some ([!decide (n = 16), !decide (n = 32), decide (n < 9223372036854775808)], (.nilptr, []))
  | xs => rnewS xs
theorem rnew16_ok {xs : List V} {o : List Bool} {v : AV} {bs : Mem} (h : rnewS16 xs = some (o, (v, bs))) (ho : Paid o) : ViewCall Try.prog 12 xs v bs := by
  unfold rnewS16 at h
  split at h
  · rename_i n l
    cases h
    obtain rfl := of_decide_eq_true (ho _ (List.mem_cons_self ..))
    exact @ViewCall.mark _ _ _ _ _ _ (@rnew_ok [.buf false .u8 16 l] [] _ _ rfl)
  · exact @rnew_ok _ _ _ _ h
theorem rnew32_ok {xs : List V} {o : List Bool} {v : AV} {bs : Mem} (h : rnewS32 xs = some (o, (v, bs))) (ho : Paid o) : ViewCall Try.prog 12 xs v bs := by
  unfold rnewS32 at h
  split at h
  · rename_i n l
    cases h
    obtain rfl := of_decide_eq_true (ho _ (List.mem_cons_self ..))
    exact @ViewCall.mark _ _ _ _ _ _ (@rnew_ok [.buf false .u8 32 l] [] _ _ rfl)
  · exact @rnew_ok _ _ _ _ h
theorem rnewX_ok {xs : List V} {o : List Bool} {v : AV} {bs : Mem} (h : rnewSX xs = some (o, (v, bs))) (ho : Paid o) : ViewCall Try.prog 12 xs v bs := by
  unfold rnewSX at h
  split at h
  · rename_i n l
    cases h
    have o1 := ho _ (List.mem_cons_self ..)
    have o2 := ho _ (List.mem_cons_of_mem _ (List.mem_cons_self ..))
    have o3 := ho _ (List.mem_cons_of_mem _ (List.mem_cons_of_mem _ (List.mem_cons_self ..)))
    have e1 : ((n : Int) != 16) = true := by simp at o1 ⊢; omega
    have e2 : ((n : Int) != 32) = true := by simp at o2 ⊢; omega
    have ev := rnewX_eval n l
    rw [e1, e2, o3] at ev
    exact @viewN_of_go _ _ _ _ _ mixed noCount (hr4_ok.deep mixed noCount 100 3) _ _ _ (fun fn c hf hb => LOkN.none) _ _ _ _ _ [true] ev (all1_paid rfl) rfl rfl rfl
  · exact @rnew_ok _ _ _ _ h
end Go.Proofs.Ytfmgodgakndjcaa
namespace Go.As
open Go.Ev Go.Sh
def mmL : List Int := [2, 3, 1, 1, 1, 2, 3, 1, 1, 1, 2, 3, 3, 1, 1, 2]
def gA (r c : Int) (K : Nat) : Bool := decide (0 ≤ IntKind.i64.wrap (IntKind.i64.wrap (4 * r) + c)) && decide (IntKind.i64.wrap (IntKind.i64.wrap (4 * r) + c) < (K : Int))
def gB (w : List Int) (r c : Int) (i : Nat) : Bool := decide (0 + qK r c * 4 + i + 1 ≤ w.length)
def b8D (x : Int) : Bool := decide (0 ≤ x ∧ x < 256)
def subD (s0 s1 s2 s3 s4 s5 s6 s7 s8 s9 s10 s11 s12 s13 s14 s15 : Int) : List Bool := cR s0 ++ cR s5 ++ cR s10 ++ cR s15 ++ cR s4 ++ cR s9 ++ cR s14 ++ cR s3 ++ cR s8 ++ cR s13 ++ cR s2 ++ cR s7 ++ cR s12 ++ cR s1 ++ cR s6 ++ cR s11
def lastD (w : List Int) (r : Int) (K : Nat) (lt : Bool) : List Bool := [!lt, gA r 0 K, gB w r 0 0, !lt, gA r 0 K, gB w r 0 1, !lt, gA r 0 K, gB w r 0 2, !lt, gA r 0 K, gB w r 0 3, !lt, gA r 1 K, gB w r 1 0, !lt, gA r 1 K, gB w r 1 1, !lt, gA r 1 K, gB w r 1 2, !lt, gA r 1 K, gB w r 1 3, !lt, gA r 2 K, gB w r 2 0, !lt, gA r 2 K, gB w r 2 1, !lt, gA r 2 K, gB w r 2 2, !lt, gA r 2 K, gB w r 2 3, !lt, gA r 3 K, gB w r 3 0, !lt, gA r 3 K, gB w r 3 1, !lt, gA r 3 K, gB w r 3 2, !lt, gA r 3 K, gB w r 3 3]
def mixD (w : List Int) (r : Int) (K : Nat) (lt : Bool) (s0 s1 s2 s3 s4 s5 s6 s7 s8 s9 s10 s11 s12 s13 s14 s15 : Int) : List Bool := [lt, true, b8D (sbR s0), true, b8D (sbR s5), true, b8D (sbR s10), true, b8D (sbR s15), gA r 0 K, gB w r 0 0, lt, true, b8D (sbR s0), true, b8D (sbR s5), true, b8D (sbR s10), true, b8D (sbR s15), gA r 0 K, gB w r 0 1, lt, true, b8D (sbR s0), true, b8D (sbR s5), true, b8D (sbR s10), true, b8D (sbR s15), gA r 0 K, gB w r 0 2, lt, true, b8D (sbR s0), true, b8D (sbR s5), true, b8D (sbR s10), true, b8D (sbR s15), gA r 0 K, gB w r 0 3, lt, true, b8D (sbR s4), true, b8D (sbR s9), true, b8D (sbR s14), true, b8D (sbR s3), gA r 1 K, gB w r 1 0, lt, true, b8D (sbR s4), true, b8D (sbR s9), true, b8D (sbR s14), true, b8D (sbR s3), gA r 1 K, gB w r 1 1, lt, true, b8D (sbR s4), true, b8D (sbR s9), true, b8D (sbR s14), true, b8D (sbR s3), gA r 1 K, gB w r 1 2, lt, true, b8D (sbR s4), true, b8D (sbR s9), true, b8D (sbR s14), true, b8D (sbR s3), gA r 1 K, gB w r 1 3, lt, true, b8D (sbR s8), true, b8D (sbR s13), true, b8D (sbR s2), true, b8D (sbR s7), gA r 2 K, gB w r 2 0, lt, true, b8D (sbR s8), true, b8D (sbR s13), true, b8D (sbR s2), true, b8D (sbR s7), gA r 2 K, gB w r 2 1, lt, true, b8D (sbR s8), true, b8D (sbR s13), true, b8D (sbR s2), true, b8D (sbR s7), gA r 2 K, gB w r 2 2, lt, true, b8D (sbR s8), true, b8D (sbR s13), true, b8D (sbR s2), true, b8D (sbR s7), gA r 2 K, gB w r 2 3, lt, true, b8D (sbR s12), true, b8D (sbR s1), true, b8D (sbR s6), true, b8D (sbR s11), gA r 3 K, gB w r 3 0, lt, true, b8D (sbR s12), true, b8D (sbR s1), true, b8D (sbR s6), true, b8D (sbR s11), gA r 3 K, gB w r 3 1, lt, true, b8D (sbR s12), true, b8D (sbR s1), true, b8D (sbR s6), true, b8D (sbR s11), gA r 3 K, gB w r 3 2, lt, true, b8D (sbR s12), true, b8D (sbR s1), true, b8D (sbR s6), true, b8D (sbR s11), gA r 3 K, gB w r 3 3]
def lastR (w : List Int) (r : Int) (s0 s1 s2 s3 s4 s5 s6 s7 s8 s9 s10 s11 s12 s13 s14 s15 : Int) : List Int := [ixor .i64 (sbR s0) (w.getD (0 + qK r 0 * 4 + 0) 0), ixor .i64 (sbR s5) (w.getD (0 + qK r 0 * 4 + 1) 0), ixor .i64 (sbR s10) (w.getD (0 + qK r 0 * 4 + 2) 0), ixor .i64 (sbR s15) (w.getD (0 + qK r 0 * 4 + 3) 0), ixor .i64 (sbR s4) (w.getD (0 + qK r 1 * 4 + 0) 0), ixor .i64 (sbR s9) (w.getD (0 + qK r 1 * 4 + 1) 0), ixor .i64 (sbR s14) (w.getD (0 + qK r 1 * 4 + 2) 0), ixor .i64 (sbR s3) (w.getD (0 + qK r 1 * 4 + 3) 0), ixor .i64 (sbR s8) (w.getD (0 + qK r 2 * 4 + 0) 0), ixor .i64 (sbR s13) (w.getD (0 + qK r 2 * 4 + 1) 0), ixor .i64 (sbR s2) (w.getD (0 + qK r 2 * 4 + 2) 0), ixor .i64 (sbR s7) (w.getD (0 + qK r 2 * 4 + 3) 0), ixor .i64 (sbR s12) (w.getD (0 + qK r 3 * 4 + 0) 0), ixor .i64 (sbR s1) (w.getD (0 + qK r 3 * 4 + 1) 0), ixor .i64 (sbR s6) (w.getD (0 + qK r 3 * 4 + 2) 0), ixor .i64 (sbR s11) (w.getD (0 + qK r 3 * 4 + 3) 0)]
def mixR (w : List Int) (r : Int) (s0 s1 s2 s3 s4 s5 s6 s7 s8 s9 s10 s11 s12 s13 s14 s15 : Int) : List Int := [ixor .i64 (ixor .i64 (ixor .i64 (ixor .i64 (gm 2 (sbR s0)) (gm 3 (sbR s5))) (gm 1 (sbR s10))) (gm 1 (sbR s15))) (w.getD (0 + qK r 0 * 4 + 0) 0), ixor .i64 (ixor .i64 (ixor .i64 (ixor .i64 (gm 1 (sbR s0)) (gm 2 (sbR s5))) (gm 3 (sbR s10))) (gm 1 (sbR s15))) (w.getD (0 + qK r 0 * 4 + 1) 0), ixor .i64 (ixor .i64 (ixor .i64 (ixor .i64 (gm 1 (sbR s0)) (gm 1 (sbR s5))) (gm 2 (sbR s10))) (gm 3 (sbR s15))) (w.getD (0 + qK r 0 * 4 + 2) 0), ixor .i64 (ixor .i64 (ixor .i64 (ixor .i64 (gm 3 (sbR s0)) (gm 1 (sbR s5))) (gm 1 (sbR s10))) (gm 2 (sbR s15))) (w.getD (0 + qK r 0 * 4 + 3) 0), ixor .i64 (ixor .i64 (ixor .i64 (ixor .i64 (gm 2 (sbR s4)) (gm 3 (sbR s9))) (gm 1 (sbR s14))) (gm 1 (sbR s3))) (w.getD (0 + qK r 1 * 4 + 0) 0), ixor .i64 (ixor .i64 (ixor .i64 (ixor .i64 (gm 1 (sbR s4)) (gm 2 (sbR s9))) (gm 3 (sbR s14))) (gm 1 (sbR s3))) (w.getD (0 + qK r 1 * 4 + 1) 0), ixor .i64 (ixor .i64 (ixor .i64 (ixor .i64 (gm 1 (sbR s4)) (gm 1 (sbR s9))) (gm 2 (sbR s14))) (gm 3 (sbR s3))) (w.getD (0 + qK r 1 * 4 + 2) 0), ixor .i64 (ixor .i64 (ixor .i64 (ixor .i64 (gm 3 (sbR s4)) (gm 1 (sbR s9))) (gm 1 (sbR s14))) (gm 2 (sbR s3))) (w.getD (0 + qK r 1 * 4 + 3) 0), ixor .i64 (ixor .i64 (ixor .i64 (ixor .i64 (gm 2 (sbR s8)) (gm 3 (sbR s13))) (gm 1 (sbR s2))) (gm 1 (sbR s7))) (w.getD (0 + qK r 2 * 4 + 0) 0), ixor .i64 (ixor .i64 (ixor .i64 (ixor .i64 (gm 1 (sbR s8)) (gm 2 (sbR s13))) (gm 3 (sbR s2))) (gm 1 (sbR s7))) (w.getD (0 + qK r 2 * 4 + 1) 0), ixor .i64 (ixor .i64 (ixor .i64 (ixor .i64 (gm 1 (sbR s8)) (gm 1 (sbR s13))) (gm 2 (sbR s2))) (gm 3 (sbR s7))) (w.getD (0 + qK r 2 * 4 + 2) 0), ixor .i64 (ixor .i64 (ixor .i64 (ixor .i64 (gm 3 (sbR s8)) (gm 1 (sbR s13))) (gm 1 (sbR s2))) (gm 2 (sbR s7))) (w.getD (0 + qK r 2 * 4 + 3) 0), ixor .i64 (ixor .i64 (ixor .i64 (ixor .i64 (gm 2 (sbR s12)) (gm 3 (sbR s1))) (gm 1 (sbR s6))) (gm 1 (sbR s11))) (w.getD (0 + qK r 3 * 4 + 0) 0), ixor .i64 (ixor .i64 (ixor .i64 (ixor .i64 (gm 1 (sbR s12)) (gm 2 (sbR s1))) (gm 3 (sbR s6))) (gm 1 (sbR s11))) (w.getD (0 + qK r 3 * 4 + 1) 0), ixor .i64 (ixor .i64 (ixor .i64 (ixor .i64 (gm 1 (sbR s12)) (gm 1 (sbR s1))) (gm 2 (sbR s6))) (gm 3 (sbR s11))) (w.getD (0 + qK r 3 * 4 + 2) 0), ixor .i64 (ixor .i64 (ixor .i64 (ixor .i64 (gm 3 (sbR s12)) (gm 1 (sbR s1))) (gm 1 (sbR s6))) (gm 2 (sbR s11))) (w.getD (0 + qK r 3 * 4 + 3) 0)]
def tR (s0 s1 s2 s3 s4 s5 s6 s7 s8 s9 s10 s11 s12 s13 s14 s15 : Int) : List Int := [(sbR s0), (sbR s5), (sbR s10), (sbR s15), (sbR s4), (sbR s9), (sbR s14), (sbR s3), (sbR s8), (sbR s13), (sbR s2), (sbR s7), (sbR s12), (sbR s1), (sbR s6), (sbR s11)]
structure BkS where
  w : List Int
  b : List Int
  z : List Int
  s : List Int
  r : Int
end Go.As
namespace Go.Proofs.Ytfmgodgakndjcaa
open Go.Ev Go.Sh Go.As
set_option maxRecDepth 100000
def bkTs : List Nat := [0, 4, 5, 7, 8]
def bkV (s : BkS) : List AV := [.ptr false 0 0, .ptr false 3 0, .ptr false 4 0, .ptr false 5 0, .int true .i64 s.r]
def bkM4 (s : BkS) : Mem := [some ⟨false, .wide [.slice true 1 0 44 none 4, .ints .i64 256 sboxL, .int false .i64 4]⟩, some ⟨false, .ints .i64 none s.w⟩, some ⟨true, .ints .u8 (some 16) s.b⟩, some ⟨true, .ints .u8 (some 16) s.z⟩, some ⟨true, .ints .i64 (some 16) s.s⟩, some ⟨true, .ints .i64 (some 16) mmL⟩]
theorem bk4_l (x : Nat → AV) (w b z : List Int) (r s0 s1 s2 s3 s4 s5 s6 s7 s8 s9 s10 s11 s12 s13 s14 s15 : Int) : seesL bkTs ((codeL Try.prog qP (deep Try.prog qP hr4 100 3) (fun _ _ => none) 100 (lp (blk 2 (bodyOf Try.prog 45))) ⟨tmOf (ups x (zipU bkTs (bkV ⟨w, b, z, [s0, s1, s2, s3, s4, s5, s6, s7, s8, s9, s10, s11, s12, s13, s14, s15], r⟩))) 174, bkM4 ⟨w, b, z, [s0, s1, s2, s3, s4, s5, s6, s7, s8, s9, s10, s11, s12, s13, s14, s15], r⟩⟩).go [true, false, false, false, false, false, false, false, false, false, false, false, false, false, false, false, false]) = some ([decide (r ≤ IntKind.i64.wrap (4 + 6))] ++ subD s0 s1 s2 s3 s4 s5 s6 s7 s8 s9 s10 s11 s12 s13 s14 s15 ++ lastD w r 44 (decide (r < IntKind.i64.wrap (4 + 6))), 0, bkV ⟨w, b, z, lastR w r s0 s1 s2 s3 s4 s5 s6 s7 s8 s9 s10 s11 s12 s13 s14 s15, IntKind.i64.wrap (r + 1)⟩, 174, bkM4 ⟨w, b, z, lastR w r s0 s1 s2 s3 s4 s5 s6 s7 s8 s9 s10 s11 s12 s13 s14 s15, IntKind.i64.wrap (r + 1)⟩ ++ [some ⟨true, .ints .i64 (some 16) (tR s0 s1 s2 s3 s4 s5 s6 s7 s8 s9 s10 s11 s12 s13 s14 s15)⟩]) := by kernel_rfl
theorem bk4_m (x : Nat → AV) (w b z : List Int) (r s0 s1 s2 s3 s4 s5 s6 s7 s8 s9 s10 s11 s12 s13 s14 s15 : Int) : seesL bkTs ((codeL Try.prog qP (deep Try.prog qP hr4 100 3) (fun _ _ => none) 100 (lp (blk 2 (bodyOf Try.prog 45))) ⟨tmOf (ups x (zipU bkTs (bkV ⟨w, b, z, [s0, s1, s2, s3, s4, s5, s6, s7, s8, s9, s10, s11, s12, s13, s14, s15], r⟩))) 174, bkM4 ⟨w, b, z, [s0, s1, s2, s3, s4, s5, s6, s7, s8, s9, s10, s11, s12, s13, s14, s15], r⟩⟩).go [true, true, true, true, true, true, true, true, true, true, true, true, true, true, true, true, true]) = some ([decide (r ≤ IntKind.i64.wrap (4 + 6))] ++ subD s0 s1 s2 s3 s4 s5 s6 s7 s8 s9 s10 s11 s12 s13 s14 s15 ++ mixD w r 44 (decide (r < IntKind.i64.wrap (4 + 6))) s0 s1 s2 s3 s4 s5 s6 s7 s8 s9 s10 s11 s12 s13 s14 s15, 0, bkV ⟨w, b, z, mixR w r s0 s1 s2 s3 s4 s5 s6 s7 s8 s9 s10 s11 s12 s13 s14 s15, IntKind.i64.wrap (r + 1)⟩, 174, bkM4 ⟨w, b, z, mixR w r s0 s1 s2 s3 s4 s5 s6 s7 s8 s9 s10 s11 s12 s13 s14 s15, IntKind.i64.wrap (r + 1)⟩ ++ [some ⟨true, .ints .i64 (some 16) (tR s0 s1 s2 s3 s4 s5 s6 s7 s8 s9 s10 s11 s12 s13 s14 s15)⟩]) := by kernel_rfl
theorem bk4_o (x : Nat → AV) (s : BkS) : seesL bkTs ((codeL Try.prog qP (deep Try.prog qP hr4 100 3) (fun _ _ => none) 100 (lp (blk 2 (bodyOf Try.prog 45))) ⟨tmOf (ups x (zipU bkTs (bkV s))) 174, bkM4 s⟩).go [false]) = some ([!decide (s.r ≤ IntKind.i64.wrap (4 + 6))], 4, bkV s, 174, bkM4 s) := by kernel_rfl
def bkM8 (s : BkS) : Mem := [some ⟨false, .wide [.slice true 1 0 60 none 4, .ints .i64 256 sboxL, .int false .i64 8]⟩, some ⟨false, .ints .i64 none s.w⟩, some ⟨true, .ints .u8 (some 16) s.b⟩, some ⟨true, .ints .u8 (some 16) s.z⟩, some ⟨true, .ints .i64 (some 16) s.s⟩, some ⟨true, .ints .i64 (some 16) mmL⟩]
theorem bk8_l (x : Nat → AV) (w b z : List Int) (r s0 s1 s2 s3 s4 s5 s6 s7 s8 s9 s10 s11 s12 s13 s14 s15 : Int) : seesL bkTs ((codeL Try.prog qP (deep Try.prog qP hr4 100 3) (fun _ _ => none) 100 (lp (blk 2 (bodyOf Try.prog 45))) ⟨tmOf (ups x (zipU bkTs (bkV ⟨w, b, z, [s0, s1, s2, s3, s4, s5, s6, s7, s8, s9, s10, s11, s12, s13, s14, s15], r⟩))) 174, bkM8 ⟨w, b, z, [s0, s1, s2, s3, s4, s5, s6, s7, s8, s9, s10, s11, s12, s13, s14, s15], r⟩⟩).go [true, false, false, false, false, false, false, false, false, false, false, false, false, false, false, false, false]) = some ([decide (r ≤ IntKind.i64.wrap (8 + 6))] ++ subD s0 s1 s2 s3 s4 s5 s6 s7 s8 s9 s10 s11 s12 s13 s14 s15 ++ lastD w r 60 (decide (r < IntKind.i64.wrap (8 + 6))), 0, bkV ⟨w, b, z, lastR w r s0 s1 s2 s3 s4 s5 s6 s7 s8 s9 s10 s11 s12 s13 s14 s15, IntKind.i64.wrap (r + 1)⟩, 174, bkM8 ⟨w, b, z, lastR w r s0 s1 s2 s3 s4 s5 s6 s7 s8 s9 s10 s11 s12 s13 s14 s15, IntKind.i64.wrap (r + 1)⟩ ++ [some ⟨true, .ints .i64 (some 16) (tR s0 s1 s2 s3 s4 s5 s6 s7 s8 s9 s10 s11 s12 s13 s14 s15)⟩]) := by kernel_rfl
theorem bk8_m (x : Nat → AV) (w b z : List Int) (r s0 s1 s2 s3 s4 s5 s6 s7 s8 s9 s10 s11 s12 s13 s14 s15 : Int) : seesL bkTs ((codeL Try.prog qP (deep Try.prog qP hr4 100 3) (fun _ _ => none) 100 (lp (blk 2 (bodyOf Try.prog 45))) ⟨tmOf (ups x (zipU bkTs (bkV ⟨w, b, z, [s0, s1, s2, s3, s4, s5, s6, s7, s8, s9, s10, s11, s12, s13, s14, s15], r⟩))) 174, bkM8 ⟨w, b, z, [s0, s1, s2, s3, s4, s5, s6, s7, s8, s9, s10, s11, s12, s13, s14, s15], r⟩⟩).go [true, true, true, true, true, true, true, true, true, true, true, true, true, true, true, true, true]) = some ([decide (r ≤ IntKind.i64.wrap (8 + 6))] ++ subD s0 s1 s2 s3 s4 s5 s6 s7 s8 s9 s10 s11 s12 s13 s14 s15 ++ mixD w r 60 (decide (r < IntKind.i64.wrap (8 + 6))) s0 s1 s2 s3 s4 s5 s6 s7 s8 s9 s10 s11 s12 s13 s14 s15, 0, bkV ⟨w, b, z, mixR w r s0 s1 s2 s3 s4 s5 s6 s7 s8 s9 s10 s11 s12 s13 s14 s15, IntKind.i64.wrap (r + 1)⟩, 174, bkM8 ⟨w, b, z, mixR w r s0 s1 s2 s3 s4 s5 s6 s7 s8 s9 s10 s11 s12 s13 s14 s15, IntKind.i64.wrap (r + 1)⟩ ++ [some ⟨true, .ints .i64 (some 16) (tR s0 s1 s2 s3 s4 s5 s6 s7 s8 s9 s10 s11 s12 s13 s14 s15)⟩]) := by kernel_rfl
theorem bk8_o (x : Nat → AV) (s : BkS) : seesL bkTs ((codeL Try.prog qP (deep Try.prog qP hr4 100 3) (fun _ _ => none) 100 (lp (blk 2 (bodyOf Try.prog 45))) ⟨tmOf (ups x (zipU bkTs (bkV s))) 174, bkM8 s⟩).go [false]) = some ([!decide (s.r ≤ IntKind.i64.wrap (8 + 6))], 4, bkV s, 174, bkM8 s) := by kernel_rfl
end Go.Proofs.Ytfmgodgakndjcaa
namespace Go.As
open Go.Ev Go.Sh
def Blk (b : List Int) : Prop := b.length = 16 ∧ ∀ x ∈ b, B8 x
theorem ixor_b8 (x y : Int) : B8 (ixor .u8 x y) := by
  unfold ixor
  rw [wrap_u (k := .u8) rfl]
  exact ⟨Int.emod_nonneg _ (by decide), Int.emod_lt_of_pos _ (by decide)⟩
theorem ixor_inj {x x' y : Int} (hx : B8 x) (hx' : B8 x') (h : ixor .u8 x y = ixor .u8 x' y) : x = x' := by
  have e : ∀ z : Int, ixor .u8 z y = (((BitVec.ofInt 8 z ^^^ BitVec.ofInt 8 y).toNat : Nat) : Int) := fun z => by
    unfold ixor
    rw [wrap_u (k := .u8) rfl]
    refine Int.emod_eq_of_lt (by omega) ?_
    have := (BitVec.ofInt 8 z ^^^ BitVec.ofInt 8 y).isLt
    simp only [IntKind.bits]
    omega
  rw [e, e] at h
  have h1 : BitVec.ofInt 8 x ^^^ BitVec.ofInt 8 y = BitVec.ofInt 8 x' ^^^ BitVec.ofInt 8 y := BitVec.eq_of_toNat_eq (by omega)
  have h2 : BitVec.ofInt 8 x = BitVec.ofInt 8 x' := by
    have := congrArg (· ^^^ BitVec.ofInt 8 y) h1
    simpa [BitVec.xor_assoc] using this
  have h3 := congrArg BitVec.toNat h2
  obtain ⟨a, ha, rfl⟩ := wd_nat (b8_wd hx)
  obtain ⟨c, hc, rfl⟩ := wd_nat (b8_wd hx')
  rw [ofInt_nat ha, ofInt_nat hc] at h3
  omega
theorem two_two (a c : Int) : ix (ix a (ix (dI (dI a)) (ix 0 (dI (dI c))))) (ix (dI (dI (ix a (ix (dI (dI a)) (ix 0 (dI (dI c))))))) (ix 0 (dI (dI (ix c (ix (dI (dI c)) (ix 0 (dI (dI a))))))))) = ix 0 a := by
  simp only [dI_ix, show dI 0 = 0 from rfl]
  generalize dI (dI (dI (dI a))) = a4
  generalize dI (dI (dI (dI c))) = c4
  generalize dI (dI a) = a2
  generalize dI (dI c) = c2
  have h : ∀ x y : Int, (ix x y : Int) = ((x.toNat ^^^ y.toNat : Nat) : Int) := fun _ _ => rfl
  simp only [h, Int.toNat_natCast, Int.toNat_zero, Nat.zero_xor]
  congr 1
  generalize a.toNat = a, c.toNat = c, a2.toNat = a2, c2.toNat = c2, a4.toNat = a4, c4.toNat = c4
  apply Nat.eq_of_testBit_eq
  intro i
  simp only [Nat.testBit_xor]
  generalize a.testBit i = q0, c.testBit i = q1, a2.testBit i = q2, c2.testBit i = q3, a4.testBit i = q4, c4.testBit i = q5
  revert q0 q1 q2 q3 q4 q5
  decide +kernel
theorem mixC_inj {p q r s p' q' r' s' : Int} (hp : B8 p) (hq : B8 q) (hr : B8 r) (hs : B8 s) (hp' : B8 p') (hq' : B8 q') (hr' : B8 r') (hs' : B8 s') (h : mixC p q r s = mixC p' q' r' s') : p = p' ∧ q = q' ∧ r = r' ∧ s = s' := by
  rw [mixC_eq hp hq hr hs, mixC_eq hp' hq' hr' hs'] at h
  simp only [List.cons.injEq, and_true] at h
  obtain ⟨h1, h2, h3, h4⟩ := h
  have t1 := mx_two p q r s
  have t2 := mx_two q r s p
  have t3 := mx_two r s p q
  have t4 := mx_two s p q r
  rw [h1, h2, h3, h4] at t1 t2 t3 t4
  rw [mx_two p' q' r' s'] at t1
  rw [mx_two q' r' s' p'] at t2
  rw [mx_two r' s' p' q'] at t3
  rw [mx_two s' p' q' r'] at t4
  have f : ∀ {a c a' c' : Int}, B8 a → B8 a' → ix a' (ix (dI (dI a')) (ix 0 (dI (dI c')))) = ix a (ix (dI (dI a)) (ix 0 (dI (dI c)))) → ix c' (ix (dI (dI c')) (ix 0 (dI (dI a')))) = ix c (ix (dI (dI c)) (ix 0 (dI (dI a)))) → a = a' := fun {a c a' c'} ha ha' e1 e2 => by
    have k := two_two a c
    rw [← e1, ← e2, two_two a' c', ix_z ha.1, ix_z ha'.1] at k
    exact k.symm
  exact ⟨f hp hp' t1 t3, f hq hq' t2 t4, f hr hr' t3 t1, f hs hs' t4 t2⟩
theorem addB_blk (W : List Int) (n : Nat) (b : List Int) : Blk (addB W n b) := by
  refine ⟨by simp [addB], fun x hx => ?_⟩
  unfold addB at hx
  obtain ⟨i, _, rfl⟩ := List.mem_map.1 hx
  exact ixor_b8 _ _
theorem subB_blk {b : List Int} (h : Blk b) : Blk (subB b) := by
  refine ⟨by simp [subB], fun x hx => ?_⟩
  unfold subB at hx
  obtain ⟨i, _, rfl⟩ := List.mem_map.1 hx
  exact sb_b8 (getD_B8 h.2 _)
theorem mixB_blk (b : List Int) : Blk (mixB b) := by
  refine ⟨rfl, fun x hx => ?_⟩
  simp only [mixB, mixC, List.cons_append, List.nil_append, List.mem_cons, List.not_mem_nil, or_false] at hx
  rcases hx with rfl | rfl | rfl | rfl | rfl | rfl | rfl | rfl | rfl | rfl | rfl | rfl | rfl | rfl | rfl | rfl <;> exact ixor_b8 _ _
theorem blk_ext {b c : List Int} (hb : Blk b) (hc : Blk c) (h : ∀ i, i < 16 → b.getD i 0 = c.getD i 0) : b = c := by
  apply List.ext_getElem (by rw [hb.1, hc.1])
  intro i h1 h2
  have := h i (by rw [hb.1] at h1; exact h1)
  simpa [List.getD, List.getElem?_eq_getElem h1, List.getElem?_eq_getElem h2] using this
theorem map_get {f g : Nat → Int} {n : Nat} (h : (List.range n).map f = (List.range n).map g) {i : Nat} (hi : i < n) : f i = g i := by
  have := congrArg (fun l => l[i]?) h
  simpa [hi] using this
theorem addB_inj {W : List Int} {n : Nat} {b c : List Int} (hb : Blk b) (hc : Blk c) (h : addB W n b = addB W n c) : b = c :=
  blk_ext hb hc fun i hi => ixor_inj (getD_B8 hb.2 i) (getD_B8 hc.2 i) (map_get h hi)
theorem subB_inj {b c : List Int} (hb : Blk b) (hc : Blk c) (h : subB b = subB c) : b = c :=
  blk_ext hb hc fun i hi => by
    have k := map_get h (i := 13 * i % 16) (by omega)
    have e : 5 * (13 * i % 16) % 16 = i := by omega
    rw [e] at k
    exact sb_inj (getD_B8 hb.2 i) (getD_B8 hc.2 i) k
theorem mixB_inj {b c : List Int} (hb : Blk b) (hc : Blk c) (h : mixB b = mixC (c.getD 0 0) (c.getD 1 0) (c.getD 2 0) (c.getD 3 0) ++ mixC (c.getD 4 0) (c.getD 5 0) (c.getD 6 0) (c.getD 7 0) ++ mixC (c.getD 8 0) (c.getD 9 0) (c.getD 10 0) (c.getD 11 0) ++ mixC (c.getD 12 0) (c.getD 13 0) (c.getD 14 0) (c.getD 15 0)) : b = c := by
  unfold mixB at h
  obtain ⟨h, h4⟩ := List.append_inj h rfl
  obtain ⟨h, h3⟩ := List.append_inj h rfl
  obtain ⟨h1, h2⟩ := List.append_inj h rfl
  have B := fun i => getD_B8 hb.2 i
  have C := fun i => getD_B8 hc.2 i
  obtain ⟨a0, a1, a2, a3⟩ := mixC_inj (B _) (B _) (B _) (B _) (C _) (C _) (C _) (C _) h1
  obtain ⟨a4, a5, a6, a7⟩ := mixC_inj (B _) (B _) (B _) (B _) (C _) (C _) (C _) (C _) h2
  obtain ⟨a8, a9, a10, a11⟩ := mixC_inj (B _) (B _) (B _) (B _) (C _) (C _) (C _) (C _) h3
  obtain ⟨a12, a13, a14, a15⟩ := mixC_inj (B _) (B _) (B _) (B _) (C _) (C _) (C _) (C _) h4
  refine blk_ext hb hc fun i hi => ?_
  have e : i = 0 ∨ i = 1 ∨ i = 2 ∨ i = 3 ∨ i = 4 ∨ i = 5 ∨ i = 6 ∨ i = 7 ∨ i = 8 ∨ i = 9 ∨ i = 10 ∨ i = 11 ∨ i = 12 ∨ i = 13 ∨ i = 14 ∨ i = 15 := by omega
  rcases e with rfl | rfl | rfl | rfl | rfl | rfl | rfl | rfl | rfl | rfl | rfl | rfl | rfl | rfl | rfl | rfl <;> assumption
theorem rndB_inj {W : List Int} {b c : List Int} (hb : Blk b) (hc : Blk c) : ∀ n, Blk (rndB W n b) ∧ (rndB W n b = rndB W n c → b = c)
  | 0 => ⟨addB_blk _ _ _, addB_inj hb hc⟩
  | n + 1 => by
    refine ⟨addB_blk _ _ _, fun h => ?_⟩
    have hb' : Blk (rndB W n b) := by cases n <;> exact addB_blk _ _ _
    have hc' : Blk (rndB W n c) := by cases n <;> exact addB_blk _ _ _
    exact (rndB_inj hb hc n).2 (subB_inj hb' hc' (mixB_inj (subB_blk hb') (subB_blk hc') (addB_inj (mixB_blk _) (mixB_blk _) h)))
theorem encB_inj {W : List Int} {b c : List Int} (hb : Blk b) (hc : Blk c) (r : Nat) (h : encB W r b = encB W r c) : b = c := by
  have hb' : Blk (rndB W (r - 1) b) := (rndB_inj (c := b) hb hb _).1
  have hc' : Blk (rndB W (r - 1) c) := (rndB_inj (c := c) hc hc _).1
  exact (rndB_inj hb hc _).2 (subB_inj hb' hc' (addB_inj (subB_blk hb') (subB_blk hc') h))
end Go.As
