/- The program's block cipher: contract of New. Own work. -/
import Derived.Test.YtljndahfackolaaQAesC
set_option linter.unusedSimpArgs false
set_option linter.unusedVariables false
set_option linter.unusedSectionVars false
namespace Go.Proofs.Ytljndahfackolaa
open Go.Ev Go.Sh Go.As
set_option maxRecDepth 100000
theorem new4_eval (l : List Int) : ((funcL Try.prog qP (deep Try.prog qP ha5 100 3) (kyΛ4 fun _ _ => none) 100 11 (cArgs 0 [.buf false .u8 16 l]) (cMem [.buf false .u8 16 l])).go []).flat =
    some ([decide ((4 : Int) = 4), decide ((keyG 4 l 0).1 = (keyG 4 l 0).1), decide ((1 : Int) = 1)], (.tuple [.ptr false 1 0, .int false .i64 0], [some ⟨false, .ints .u8 (some 16) l⟩, some ⟨true, .wide [.int false .i64 10, .ints .u8 240 (keyL 4 l)]⟩])) := by kernel_rfl
theorem new8_eval (l : List Int) : ((funcL Try.prog qP (deep Try.prog qP ha5 100 3) (kyΛ8 fun _ _ => none) 100 11 (cArgs 0 [.buf false .u8 32 l]) (cMem [.buf false .u8 32 l])).go []).flat =
    some ([decide ((8 : Int) = 8), decide ((keyG 8 l 0).1 = (keyG 8 l 0).1), decide ((1 : Int) = 1)], (.tuple [.ptr false 1 0, .int false .i64 0], [some ⟨false, .ints .u8 (some 32) l⟩, some ⟨true, .wide [.int false .i64 14, .ints .u8 240 (keyL 8 l)]⟩])) := by kernel_rfl
theorem newX_eval (n : Nat) (l : List Int) : ((funcL Try.prog qP (deep Try.prog qP ha5 100 3) (fun _ _ => none) 100 11 (cArgs 0 [.buf true .u8 n l]) (cMem [.buf true .u8 n l])).go [true]).flat =
    some ([decide (n < 9223372036854775808), !((n : Int) != 16) || decide (n < 9223372036854775808), !((n : Int) != 16) || ((n : Int) != 16), !((n : Int) != 16) || ((n : Int) != 16), !((n : Int) != 16) || ((n : Int) != 16), match ((n : Int) != 16) with | true => ((n : Int) != 32) | false => false], (.tuple [.nilptr, .int false .i64 2], cMem [.buf true .u8 n l])) := by kernel_rfl
def keyV (N : Nat) (l : List Int) : AV × Mem := (.tuple [.ptr false 0 0, .int false .i64 0], [some ⟨true, .wide [.int false .i64 ((N : Int) + 6), .ints .u8 240 (keyL N l)]⟩])
/-- Of 16 bytes, of 32. -/
def newS : List V → E (AV × Mem)
  | [.buf false .u8 16 l] => some ([], keyV 4 l)
  | [.buf false .u8 32 l] => some ([], keyV 8 l)
  | _ => none
theorem new_ok {xs : List V} {o : List Bool} {v : AV} {bs : Mem} (h : newS xs = some (o, (v, bs))) : ViewCall Try.prog 11 xs v bs := by
  unfold newS at h
  split at h
  · rename_i l
    cases h
    exact @viewN_of_go _ _ _ _ _ mixed noCount (ha5_ok.deep mixed noCount 100 3) _ _ _ (fun fn c hf hb => by rw [bodyOf_eq hf hb]; exact (ky4_lok LOk.none).toN) _ _ _ _ _ [] (new4_eval l) (paid_cons rfl (paid_cons (decide_eq_true rfl) (paid_cons rfl Paid.nil))) rfl rfl rfl
  · rename_i l
    cases h
    exact @viewN_of_go _ _ _ _ _ mixed noCount (ha5_ok.deep mixed noCount 100 3) _ _ _ (fun fn c hf hb => by rw [bodyOf_eq hf hb]; exact (ky8_lok LOk.none).toN) _ _ _ _ _ [] (new8_eval l) (paid_cons rfl (paid_cons (decide_eq_true rfl) (paid_cons rfl Paid.nil))) rfl rfl rfl
  · cases h
/-- A slice's length is what it is, marked or not. -/
theorem ViewCall.mark {g : FuncId} {k : IntKind} {n : Nat} {l : List Int} {v : AV} {bs : Mem} (h : ViewCall Try.prog g [.buf false k n l] v bs) : ViewCall Try.prog g [.buf true k n l] v bs := by
  intro ρ vs w ha hi
  refine h (ρ := ρ) (vs := vs) (w := w) ?_ hi
  cases ha with
  | cons _ _ u us hu hus =>
    cases hus
    refine .cons _ _ _ _ ?_ .nil
    cases hu with
    | slice _ _ _ _ _ _ c ad hn hc hl hw had => exact .slice false _ _ _ _ _ c ad hn hc hl hw had
def newS16 : List V → E (AV × Mem)
  | [.buf true .u8 n l] => some ([decide (n = 16)], keyV 4 l)
  | xs => newS xs
def newS32 : List V → E (AV × Mem)
  | [.buf true .u8 n l] => some ([decide (n = 32)], keyV 8 l)
  | xs => newS xs
def newSX : List V → E (AV × Mem)
  | [.buf true .u8 n _] => some ([!decide (n = 16), !decide (n = 32), decide (n < 9223372036854775808)], (.tuple [.nilptr, .int false .i64 2], []))
  | xs => newS xs
theorem new16_ok {xs : List V} {o : List Bool} {v : AV} {bs : Mem} (h : newS16 xs = some (o, (v, bs))) (ho : Paid o) : ViewCall Try.prog 11 xs v bs := by
  unfold newS16 at h
  split at h
  · rename_i n l
    cases h
    obtain rfl := of_decide_eq_true (ho _ (List.mem_cons_self ..))
    exact @ViewCall.mark _ _ _ _ _ _ (@new_ok [.buf false .u8 16 l] [] _ _ rfl)
  · exact @new_ok _ _ _ _ h
theorem new32_ok {xs : List V} {o : List Bool} {v : AV} {bs : Mem} (h : newS32 xs = some (o, (v, bs))) (ho : Paid o) : ViewCall Try.prog 11 xs v bs := by
  unfold newS32 at h
  split at h
  · rename_i n l
    cases h
    obtain rfl := of_decide_eq_true (ho _ (List.mem_cons_self ..))
    exact @ViewCall.mark _ _ _ _ _ _ (@new_ok [.buf false .u8 32 l] [] _ _ rfl)
  · exact @new_ok _ _ _ _ h
theorem newX_ok {xs : List V} {o : List Bool} {v : AV} {bs : Mem} (h : newSX xs = some (o, (v, bs))) (ho : Paid o) : ViewCall Try.prog 11 xs v bs := by
  unfold newSX at h
  split at h
  · rename_i n l
    cases h
    have o1 := ho _ (List.mem_cons_self ..)
    have o2 := ho _ (List.mem_cons_of_mem _ (List.mem_cons_self ..))
    have o3 := ho _ (List.mem_cons_of_mem _ (List.mem_cons_of_mem _ (List.mem_cons_self ..)))
    have e1 : ((n : Int) != 16) = true := by simp at o1 ⊢; omega
    have e2 : ((n : Int) != 32) = true := by simp at o2 ⊢; omega
    have ev := newX_eval n l
    rw [e1, e2, o3] at ev
    exact @viewN_of_go _ _ _ _ _ mixed noCount (ha5_ok.deep mixed noCount 100 3) _ _ _ (fun fn c hf hb => LOkN.none) _ _ _ _ _ [true] ev (all1_paid rfl) rfl rfl rfl
  · exact @new_ok _ _ _ _ h
def hb16 : CallH := withV 11 newS16 ha5
def hb32 : CallH := withV 11 newS32 ha5
def hbX : CallH := withV 11 newSX ha5
theorem hb16_ok : HOk Try.prog hb16 := ha5_ok.withV fun _ _ _ _ h ho => new16_ok h ho
theorem hb32_ok : HOk Try.prog hb32 := ha5_ok.withV fun _ _ _ _ h ho => new32_ok h ho
theorem hbX_ok : HOk Try.prog hbX := ha5_ok.withV fun _ _ _ _ h ho => newX_ok h ho
end Go.Proofs.Ytljndahfackolaa
