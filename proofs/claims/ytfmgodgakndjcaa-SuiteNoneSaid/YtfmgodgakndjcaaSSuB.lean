/- Suites: the handlers of both ciphers, the anchor of layer 8. Own work. -/
import Derived.Test.YtfmgodgakndjcaaSSuA
import Derived.Test.YtfmgodgakndjcaaSEvPut
set_option linter.unusedSimpArgs false
set_option linter.unusedVariables false
set_option linter.unusedSectionVars false
namespace Go.Ev
variable [Tab]
theorem pure_of_goAll {P : Program} {q : FuncId → Bool} {H : CallH} (hm : P.follows .mixedOrders = true) (hng : noCount P = true) (hH : HOk P H) {n : Nat} {g : FuncId} {args : List AV} {v v' : AV} (hp : args.all plainA = true) (ds : List Bool)
    (h : resAll ((funcA P q H n g args []).go ds) = some (true, v)) (hv : ∀ {ρ ρ' : Nat → Loc3} {N N' : Nat → Prop} {u : Value}, Rep ρ N v u → Rep ρ' N' v' u) : PureCall P g args v' := by
  obtain ⟨o, h1, h2⟩ := res_all h
  exact pure_of_eval hm hng hH hp (go_sound (sat_plain h1 h2 hv))
end Go.Ev
namespace Go.Proofs.Ytfmgodgakndjcaa
open Go.Ev Go.Sh Go.Su
set_option maxRecDepth 100000
def hsu : CallH := withV 29 nonS (orH hoY (withV 11 newS hoYK))
theorem hsu_ok : HOk Try.prog hsu := (hoY_ok.or (hoY_okK.withV fun _ _ _ _ h _ => new_ok h)).withV fun _ _ _ _ h _ => non_ok h
def ssS : List AV → E AV
  | [] => some ([], .bool false true)
  | _ => none
theorem ssound_eval : resAll ((funcA Try.prog qD (deep Try.prog qD hsu 200 7) 200 23 [] []).go [false, false, false]) = some (true, .bool false true) := by kernel_rfl
theorem ssound_ok {args : List AV} {o : List Bool} {v : AV} (h : ssS args = some (o, v)) : PureCall Try.prog 23 args v := by
  unfold ssS at h
  split at h
  · cases h
    exact pure_of_goAll mixed noCount (hsu_ok.deep mixed noCount 200 7) (by kernel_rfl) [false, false, false] ssound_eval fun h => by cases h; exact .bool _ _
  · cases h
def hss : CallH := withC 23 ssS hsu
theorem hss_ok : HOk Try.prog hss := hsu_ok.withC fun _ _ _ h _ => ssound_ok h
def qV (f : FuncId) : Bool := Nat.beq f 1000000000 || qD f
end Go.Proofs.Ytfmgodgakndjcaa
