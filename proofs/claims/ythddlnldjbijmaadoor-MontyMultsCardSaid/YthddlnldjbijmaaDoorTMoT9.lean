/- Layer 9: the anchor. Own work. -/
import Derived.Test.YthddlnldjbijmaaDoorTMyRM
import Derived.Test.YthddlnldjbijmaaDoorTMyPr
set_option linter.unusedSimpArgs false
set_option linter.unusedVariables false
set_option linter.unusedSectionVars false
namespace Go.Ev
theorem pure_of_bool [Tab] {P : Program} {q : FuncId → Bool} {H : CallH} (hm : P.follows .mixedOrders = true) (hng : noCount P = true) (hH : HOk P H) {n : Nat} {g : FuncId} {args : List AV} {b : Bool} {o : List Bool} (hp : args.all plainA = true)
    (h : res (funcA P q H n g args []) = some (o, .bool true b)) (ho : Paid o) : PureCall P g args (.bool false b) :=
  pure_of_eval hm hng hH hp (sat_plain h ho unmark)
end Go.Ev
namespace Go.Mo
open Go.Ev Go.Wn
def pE : Nat := 57896044618658097711785492504343953926634992332820282019728792003956564819947
def pF (z : Int) : Int := ((pw 57896044618658097711785492504343953926634992332820282019728792003956564819949 256 (vl z).toNat pE 1 : Nat) : Int)
theorem vPL : val PL = 57896044618658097711785492504343953926634992332820282019728792003956564819949 := by decide +kernel
theorem vl_b (x : Int) : 0 ≤ vl x ∧ vl x < 115792089237316195423570985008687907853269984665640564039457584007913129639936 := by
  unfold vl
  rw [val_limbs]
  omega
theorem pw_int (n : Nat) {e : Nat} (he : e < 2 ^ 256) : (n : Int) ^ e % 57896044618658097711785492504343953926634992332820282019728792003956564819949 = ((pw 57896044618658097711785492504343953926634992332820282019728792003956564819949 256 n e 1 : Nat) : Int) := by
  rw [pw_eq he, Nat.one_mul, Int.natCast_emod, Int.natCast_pow]
  rfl
theorem pI_eq (z : Int) : pI z = pF z := by
  have he : pE < 2 ^ 256 := by decide +kernel
  have he2 : (val PL - 2).toNat = pE := by decide +kernel
  unfold pI pF
  rw [he2]
  generalize pE = e at *
  rw [vPL]
  have h := vl_b z
  generalize vl z = y at *
  obtain ⟨n, rfl⟩ := Int.eq_ofNat_of_zero_le h.1
  rw [pw_int n he, Int.toNat_natCast]
def resF (N U : Int) : Int := mI (lad N U 255).1 (pF (lad N U 255).2.1)
end Go.Mo
namespace Go.Proofs.YthddlnldjbijmaaDoor
open Go.Ev Go.Wn Go.Mo
set_option maxRecDepth 100000
def mulF (k u : List Int) : List Int := turnedL (limbs (resF (val (kwL (litL k))) (val (uwL (litL u)))))
theorem mulB_eq (k u : List Int) : mulB k u = mulF k u := by unfold mulB mulF resI resF; rw [pI_eq]
def pub0 : List Int := [47, 229, 125, 163, 71, 205, 98, 67, 21, 40, 218, 172, 95, 187, 41, 7, 48, 255, 246, 132, 175, 196, 207, 194, 237, 144, 153, 95, 88, 203, 59, 116]
def pub1 : List Int := [189, 158, 154, 1, 250, 143, 208, 48, 65, 75, 90, 43, 96, 41, 173, 215, 153, 32, 156, 163, 210, 194, 253, 182, 40, 195, 23, 218, 179, 98, 87, 61]
def shr0 : List Int := [87, 180, 113, 1, 15, 196, 89, 132, 16, 104, 155, 97, 224, 194, 9, 20, 122, 35, 51, 225, 181, 31, 195, 168, 207, 241, 93, 70, 30, 111, 17, 88]
theorem so_0 : mulB (one8 0) (one8 9) = pub0 := by rw [mulB_eq]; decide +kernel
theorem so_1 : mulB (one8 200) (one8 9) = pub1 := by rw [mulB_eq]; decide +kernel
theorem so_2 : mulB (one8 0) pub1 = shr0 := by rw [mulB_eq]; decide +kernel
theorem so_3 : mulB (one8 200) pub0 = shr0 := by rw [mulB_eq]; decide +kernel
def hgG (f : List Int → List Int → List Int) : CallH := withV 28 iszS (withV 9 (xulF f) hn0)
noncomputable def hsG (f : List Int → List Int → List Int) : CallH := turnC Tryd.prog qn (deep Tryd.prog qn (hgG f) 100 3) 100 12 [false] (hgG f)
def qAs (_ : FuncId) : Bool := true
theorem so_eval (f : List Int → List Int → List Int) : res (funcA Tryd.prog qAs (deep Tryd.prog qn (hsG f) 100 5) 200 8 [] []) =
    some ([!decide (f (one8 0) (f (one8 200) (one8 9)) = zer), !decide (f (one8 200) (f (one8 0) (one8 9)) = zer)] ++ List.replicate 6 (decide (f (one8 0) (f (one8 200) (one8 9)) = f (one8 200) (f (one8 0) (one8 9)))), .bool true (!decide (f (one8 0) (one8 9) = f (one8 200) (one8 9)))) := by kernel_rfl
theorem hsG_ok : HOk Tryd.prog (hsG mulB) := by
  have h : HOk Tryd.prog (hgG mulB) := (hn0_ok.withV fun _ _ _ _ h _ => xul_ok h).withV fun _ _ _ _ h _ => isz_ok h
  exact HOk.turn mixed noCount (h.deep mixed noCount 100 3) h 100 _ [false]
def sndS : List AV → E AV
  | [] => some ([], .bool false true)
  | _ => none
theorem snd_f (f : List Int → List Int → List Int) (h0 : f (one8 0) (one8 9) = pub0) (h1 : f (one8 200) (one8 9) = pub1) (h2 : f (one8 0) pub1 = shr0) (h3 : f (one8 200) pub0 = shr0) : res (funcA Tryd.prog qAs (deep Tryd.prog qn (hsG f) 100 5) 200 8 [] []) =
    some ([!decide (shr0 = zer), !decide (shr0 = zer)] ++ List.replicate 6 (decide (shr0 = shr0)), .bool true true) := by
  have h := so_eval f
  rw [h0, h1, h2, h3, show decide (pub0 = pub1) = false from by decide +kernel] at h
  exact h
theorem snd_paid : Paid ([!decide (shr0 = zer), !decide (shr0 = zer)] ++ List.replicate 6 (decide (shr0 = shr0))) := by
  have e : (!decide (shr0 = zer)) = true := by decide +kernel
  rw [e]
  exact paid_cons rfl (paid_cons rfl fun x hx => by rw [(List.mem_replicate.1 hx).2]; exact decide_eq_true rfl)
theorem snd_ok {args : List AV} {o : List Bool} {v : AV} (h : sndS args = some (o, v)) : PureCall Tryd.prog 8 args v := by
  unfold sndS at h
  split at h
  · cases h
    exact pure_of_bool mixed noCount (hsG_ok.deep (q := qn) mixed noCount 100 5) (by kernel_rfl) (snd_f mulB so_0 so_1 so_2 so_3) snd_paid
  · cases h
end Go.Proofs.YthddlnldjbijmaaDoor
