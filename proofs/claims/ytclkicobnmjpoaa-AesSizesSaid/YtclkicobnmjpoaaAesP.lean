/- The reference's block cipher: contract of New. Own work. -/
import Derived.Test.YtclkicobnmjpoaaAesO
import Derived.Test.YtclkicobnmjpoaaAesD
import Derived.Test.YtclkicobnmjpoaaEvTwo
namespace Go.Proofs.Ytclkicobnmjpoaa
open Go.Ev Go.Sh Go.As
set_option maxRecDepth 100000
def rkB (N k : Nat) (l : List Int) : Mem := [some ⟨true, .wide [.slice true 1 0 k none 4, .ints .i64 256 sboxL, .int false .i64 (N : Int)]⟩, some ⟨true, .ints .i64 none (specW N l k)⟩]
theorem rnew4_eval (l : List Int) : ((funcL Try.prog qP (deep Try.prog qP hr4 100 3) (rkΛ4 fun _ _ => none) 100 9 (cArgs 0 [.buf false .u8 16 l]) (cMem [.buf false .u8 16 l])).go []).flat =
    some ([decide ((0 : Int) = 0), l.all (inR .u8), decide ((0 : Nat) = 0)], (.ptr false 1 0, [some ⟨false, .ints .u8 (some 16) l⟩, some ⟨true, .wide [.slice true 2 0 44 none 4, .ints .i64 256 sboxL, .int false .i64 4]⟩, some ⟨true, .ints .i64 none (specW 4 l 44)⟩])) := by kernel_rfl
theorem rnew8_eval (l : List Int) : ((funcL Try.prog qP (deep Try.prog qP hr4 100 3) (rkΛ8 fun _ _ => none) 100 9 (cArgs 0 [.buf false .u8 32 l]) (cMem [.buf false .u8 32 l])).go []).flat =
    some ([decide ((0 : Int) = 0), l.all (inR .u8), decide ((0 : Nat) = 0)], (.ptr false 1 0, [some ⟨false, .ints .u8 (some 32) l⟩, some ⟨true, .wide [.slice true 2 0 60 none 4, .ints .i64 256 sboxL, .int false .i64 8]⟩, some ⟨true, .ints .i64 none (specW 8 l 60)⟩])) := by kernel_rfl
theorem rnewX_eval (n : Nat) (l : List Int) : ((funcL Try.prog qP (deep Try.prog qP hr4 100 3) (fun _ _ => none) 100 9 (cArgs 0 [.buf true .u8 n l]) (cMem [.buf true .u8 n l])).go [true]).flat =
    some ([decide (n < 9223372036854775808), !((n : Int) != 16) || decide (n < 9223372036854775808), !((n : Int) != 16) || ((n : Int) != 16), !((n : Int) != 16) || ((n : Int) != 16), !((n : Int) != 16) || ((n : Int) != 16), match ((n : Int) != 16) with | true => ((n : Int) != 32) | false => false], (.nilptr, cMem [.buf true .u8 n l])) := by kernel_rfl
/-- Of 16 bytes, of 32. -/
def rnewS : List V → E (AV × Mem)
  | [.buf false .u8 16 l] => some ([], (.ptr false 0 0, rkB 4 44 l))
  | [.buf false .u8 32 l] => some ([], (.ptr false 0 0, rkB 8 60 l))
  | _ => none
theorem rnew_ok {xs : List V} {o : List Bool} {v : AV} {bs : Mem} (h : rnewS xs = some (o, (v, bs))) : ViewCall Try.prog 9 xs v bs := by
  unfold rnewS at h
  split at h
  · rename_i l
    cases h
    intro ρ vs w ha hi
    have hr := (buf_arg hi 0 rfl).2
    exact @viewN_of_go _ _ _ _ _ mixed noCount (hr4_ok.deep mixed noCount 100 3) _ _ _ (fun fn c hf hb => by rw [bodyOf_eq hf hb]; exact rk4_lok LOkN.none) _ _ _ _ _ [] (rnew4_eval l) (paid_cons rfl (paid_cons (List.all_eq_true.2 hr) (paid_cons rfl Paid.nil))) rfl rfl rfl ρ vs w ha hi
  · rename_i l
    cases h
    intro ρ vs w ha hi
    have hr := (buf_arg hi 0 rfl).2
    exact @viewN_of_go _ _ _ _ _ mixed noCount (hr4_ok.deep mixed noCount 100 3) _ _ _ (fun fn c hf hb => by rw [bodyOf_eq hf hb]; exact rk8_lok LOkN.none) _ _ _ _ _ [] (rnew8_eval l) (paid_cons rfl (paid_cons (List.all_eq_true.2 hr) (paid_cons rfl Paid.nil))) rfl rfl rfl ρ vs w ha hi
  · cases h
def rnewS16 : List V → E (AV × Mem)
  | [.buf true .u8 n l] => some ([decide (n = 16)], (.ptr false 0 0, rkB 4 44 l))
  | xs => rnewS xs
def rnewS32 : List V → E (AV × Mem)
  | [.buf true .u8 n l] => some ([decide (n = 32)], (.ptr false 0 0, rkB 8 60 l))
  | xs => rnewS xs
def rnewSX : List V → E (AV × Mem)
  | [.buf true .u8 n _] => some ([!decide (n = 16), !decide (n = 32), decide (n < 9223372036854775808)], (.nilptr, []))
  | xs => rnewS xs
theorem rnew16_ok {xs : List V} {o : List Bool} {v : AV} {bs : Mem} (h : rnewS16 xs = some (o, (v, bs))) (ho : Paid o) : ViewCall Try.prog 9 xs v bs := by
  unfold rnewS16 at h
  split at h
  · rename_i n l
    cases h
    obtain rfl := of_decide_eq_true (ho _ (List.mem_cons_self ..))
    exact @ViewCall.mark _ _ _ _ _ _ (@rnew_ok [.buf false .u8 16 l] [] _ _ rfl)
  · exact @rnew_ok _ _ _ _ h
theorem rnew32_ok {xs : List V} {o : List Bool} {v : AV} {bs : Mem} (h : rnewS32 xs = some (o, (v, bs))) (ho : Paid o) : ViewCall Try.prog 9 xs v bs := by
  unfold rnewS32 at h
  split at h
  · rename_i n l
    cases h
    obtain rfl := of_decide_eq_true (ho _ (List.mem_cons_self ..))
    exact @ViewCall.mark _ _ _ _ _ _ (@rnew_ok [.buf false .u8 32 l] [] _ _ rfl)
  · exact @rnew_ok _ _ _ _ h
theorem rnewX_ok {xs : List V} {o : List Bool} {v : AV} {bs : Mem} (h : rnewSX xs = some (o, (v, bs))) (ho : Paid o) : ViewCall Try.prog 9 xs v bs := by
  unfold rnewSX at h
  split at h
  · rename_i n l
    cases h
    have o1 := ho _ (List.mem_cons_self ..)
    have o2 := ho _ (List.mem_cons_of_mem _ (List.mem_cons_self ..))
    have o3 := ho _ (List.mem_cons_of_mem _ (List.mem_cons_of_mem _ (List.mem_cons_self ..)))
    have e1 : ((n : Int) != 16) = true := by simp at o1 ⊢; omega
    have e2 : ((n : Int) != 32) = true := by simp at o2 ⊢; omega
    have ev := rnewX_eval n l
    rw [e1, e2, o3] at ev
    exact @viewN_of_go _ _ _ _ _ mixed noCount (hr4_ok.deep mixed noCount 100 3) _ _ _ (fun fn c hf hb => LOkN.none) _ _ _ _ _ [true] ev (all1_paid rfl) rfl rfl rfl
  · exact @rnew_ok _ _ _ _ h
end Go.Proofs.Ytclkicobnmjpoaa
