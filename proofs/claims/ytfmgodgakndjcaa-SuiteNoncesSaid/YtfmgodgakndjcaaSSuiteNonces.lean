/- Unlike numbers have unlike nonces, and a suite keeps what it was made of: for every job and numbers the law answers true. No condition. -/
import Derived.Test.YtfmgodgakndjcaaSSuOa
import Derived.Test.YtfmgodgakndjcaaSSuOb
import Derived.Test.YtfmgodgakndjcaaSSuOc
import Derived.Test.YtfmgodgakndjcaaSSuOd
set_option linter.unusedSimpArgs false
set_option linter.unusedVariables false
set_option linter.unusedSectionVars false
namespace Go.Proofs.Ytfmgodgakndjcaa
open Go.Ev Go.Sh Go.Su
open Go.ChangeShapes Go.WideShapes Go.ChangeAt Go.RowKit
set_option maxRecDepth 100000
theorem aV_paid (e : Bool) (m : Nat) : Paid (aV e m) := by cases e <;> first | exact Paid.nil | exact paid_cons (decide_eq_true (by omega)) Paid.nil
theorem aO_paid {s : S3} {e : Bool} {m : Nat} (h : e = true → m ≤ 100) : Paid (aO s e m) := by
  cases e with
  | false => cases s <;> exact Paid.nil
  | true => have := h rfl; cases s <;> exact paid_cons (decide_eq_true (by omega)) Paid.nil
theorem sdS_paid {s : S3} {e f : Bool} {m n : Nat} (h : e = true → m ≤ 100) (h2 : f = true → n ≤ 300) : Paid (sdS s e f m n) := by
  refine paid_append.2 ⟨aV_paid _ _, paid_append.2 ⟨aV_paid _ _, paid_append.2 ⟨aO_paid h, ?_⟩⟩⟩
  cases f with
  | false => exact Paid.nil
  | true => have := h2 rfl; exact paid_cons (decide_eq_true (by omega)) Paid.nil
theorem rep_paid {k : Nat} {b : Bool} (h : b = true) : Paid (List.replicate k b) := fun _ hp => by rw [(List.mem_replicate.1 hp).2, h]
theorem ulS_len (s : S3) (k v A : List Int) (m : Nat) {p : List Int} {n : Nat} (h : p.length = n) : (ulS s k v A m p n).length = n + 16 := by
  cases s
  · exact Go.Gc.sealB_len _ _ _ _ _ _ _
  · exact Go.Gc.sealB_len _ _ _ _ _ _ _
  · show (Go.Ch.sealC _ _ _).length = _
    rw [Go.Ch.sealC_len, h]
theorem unmarkB {W : World} {j n : Nat} {k : IntKind} {l : List Int} {v : Value} (h : ∃ L, VOk W j L (.buf true k n l) v) : ∃ L, VOk W j L (.buf false k n l) v := by
  obtain ⟨L, h1, h2⟩ := h
  refine ⟨L, fun ρ N hρ hN => ?_, fun b hb => ⟨fun hrw => ?_, (h2 b hb).2⟩⟩
  · have hr := h1 ρ N hρ hN
    cases hr with
    | slice _ _ _ _ _ _ c ad hn hc hl hw had => exact .slice false _ _ _ _ _ c ad hn hc hl hw had
  · cases hb; cases hrw
theorem anyV {W : World} (j : Nat) {v : Value} (hv : Nums W .u8 reachBytes v) : ∃ c n l, (∃ L, VOk W j L (gV c n l) v) ∧ (c = .b → 1 ≤ n ∧ n ≤ 140737488351232 ∧ l.length = n ∧ ∀ x ∈ l, inR .u8 x = true) := by
  rcases VOk.bytes (W := W) j hv with g | g | ⟨n, l, h1, h2, h3, h4, g⟩
  · exact ⟨.n, 0, [], g, fun h => by cases h⟩
  · exact ⟨.e, 0, [], g, fun h => by cases h⟩
  · exact ⟨.b, n, l, g, fun _ => ⟨h1, h2, h3, h4⟩⟩
def okV : V → Bool
  | .ptw _ => false
  | _ => true
theorem noW_of : ∀ {xs : List V}, xs.all okV = true → noW xs = true
  | [], _ => rfl
  | x :: xs, h => by
    simp only [List.all_cons, Bool.and_eq_true] at h
    have := noW_of h.2
    cases x <;> first | exact this | (exact absurd h.1 Bool.false_ne_true)
theorem gV_ok (c : K3) (n : Nat) (l : List Int) : okV (gV c n l) = true := by cases c <;> rfl
theorem sKey_ok (s : S3) (k : List Int) : okV (sKey s k) = true := by cases s <;> rfl
theorem sV_ok (s : S3) : okV (sV s) = true := by cases s <;> rfl
theorem nVal {iv : List Int} (hl : iv.length = 12) {a b : Int} (ha : inR .u64 a = true) (hb : inR .u64 b = true) : (decide (nonC iv a = nonC iv b) == (a == b)) = true := by
  rw [inR_iff] at ha hb
  simp only [lo, hi] at ha hb
  by_cases h : a = b
  · subst h
    rw [decide_eq_true rfl, beq_self_eq_true]; rfl
  · rw [decide_eq_false fun e => h (nonC_inj hl ha hb e), show (a == b) = false by simpa using h]; rfl
theorem suiteNonces_calls {W0 : World} {id : Int} (hid : inR .i64 id = true) {v1 v2 v3 v4 : Value} (r1 : Nums W0 .u8 reachBytes v1) (r2 : Nums W0 .u8 reachBytes v2) (r3 : Nums W0 .u8 reachBytes v3) (r4 : Nums W0 .u8 reachBytes v4) {N : Int} (hN : inR .u64 N = true)
    {a : Int} (ha : inR .u64 a = true) {b : Int} (hb : inR .u64 b = true) (W : World) (hW : W0 = W := by rfl) :
    Calls Try.prog 7 #[.agg #[.int .i64 id, v1, v2, v3, v4, .int .u64 N], .int .u64 a, .int .u64 b] W (fun e w' => e = .returned (.bool true) ∧ Below W.heap.size W w') := by
  subst hW
  have fin : ∀ {t : Bool} {j : Nat} {I K J A P : V} {ds o : List Bool} {s b1 : Bool}, snE t j I K J A P N a b ds = some (o, .bool s b1) → Paid o → b1 = true → (∃ L, VOk W0 0 L I (.int .i64 id)) → (∃ L, VOk W0 1 L K v1) → (∃ L, VOk W0 2 L J v2) → (∃ L, VOk W0 3 L A v3) → (∃ L, VOk W0 4 L P v4) → [I, K, J, A, P].all okV = true → Calls Try.prog 7 #[.agg #[.int .i64 id, v1, v2, v3, v4, .int .u64 N], .int .u64 a, .int .u64 b] W0 (fun e w' => e = .returned (.bool true) ∧ Below W0.heap.size W0 w') := by
    intro t j I K J A P ds o s b1 h ho hb1 h0 h1 h2 h3 h4 hw
    unfold snE at h
    refine law_of_goP (xs := [I, K, J, A, P, .pl (.int true .u64 N)]) (vs := [.int .i64 id, v1, v2, v3, v4, .int .u64 N]) (avs := [.agg #[.int .i64 id, v1, v2, v3, v4, .int .u64 N], .int .u64 a, .int .u64 b]) mixed ((hSf_ok t j).deep mixed noCount 100 7) (fun _ _ _ _ => LOkN.none) ds h ho hb1
      (.cons _ _ _ _ _ h0 (.cons _ _ _ _ _ h1 (.cons _ _ _ _ _ h2 (.cons _ _ _ _ _ h3 (.cons _ _ _ _ _ h4 (.cons _ _ _ _ _ (VOk.plain fun ρ N => .int _ _ _ hN) (.nil _))))))) (fun ρ M hr => ?_) (noW_of ?_)
    · exact .cons _ _ _ _ (.agg _ [_, _, _, _, _, _] hr) (.cons _ _ _ _ (.int _ _ _ ha) (.cons _ _ _ _ (.int _ _ _ hb) .nil))
    · simp only [List.all_cons, List.all_nil, Bool.and_true, Bool.and_eq_true] at hw ⊢
      exact ⟨hw.1, hw.2.1, hw.2.2.1, hw.2.2.2.1, hw.2.2.2.2, rfl⟩
  have al : ∀ {a b c d e : V}, okV a = true → okV b = true → okV c = true → okV d = true → okV e = true → [a, b, c, d, e].all okV = true := fun h1 h2 h3 h4 h5 => by simp [h1, h2, h3, h4, h5]
  obtain ⟨c1, n1, l1, g1, f1⟩ := anyV 1 r1
  obtain ⟨c2, n2, l2, g2, f2⟩ := anyV 2 r2
  obtain ⟨c3, n3, l3, g3, f3⟩ := anyV 3 r3
  obtain ⟨c4, n4, l4, g4, f4⟩ := anyV 4 r4
  have hs : (∃ s, ∃ L, VOk W0 0 L (sV s) (.int .i64 id)) ∨ (id ≠ 4865 ∧ id ≠ 4866 ∧ id ≠ 4867) := by
    by_cases h1 : id = 4865
    · subst h1; exact Or.inl ⟨.a, VOk.plain fun ρ N => .int _ _ _ hid⟩
    · by_cases h2 : id = 4866
      · subst h2; exact Or.inl ⟨.b, VOk.plain fun ρ N => .int _ _ _ hid⟩
      · by_cases h3 : id = 4867
        · subst h3; exact Or.inl ⟨.c, VOk.plain fun ρ N => .int _ _ _ hid⟩
        · exact Or.inr ⟨h1, h2, h3⟩
  rcases hs with ⟨s, g0⟩ | ⟨hi1, hi2, hi3⟩
  case inr =>
    have hk : klI id = 0 := by
      unfold klI
      rw [show (id == 4865) = false by simpa using hi1, show (id == 4866) = false by simpa using hi2, show (id == 4867) = false by simpa using hi3]
    have h : (!decide (klI id > 0)) = true := by rw [hk]; rfl
    have gi : ∃ L, VOk W0 0 L (.pl (.int true .i64 id)) (.int .i64 id) := VOk.plain fun ρ N => .int _ _ _ hid
    have pd : Paid [!decide (klI id > 0), !decide (klI id > 0), !decide (klI id > 0), !decide (klI id > 0), !decide (klI id > 0), !decide (klI id > 0), !decide (klI id > 0), !decide (klI id > 0), false == false] := paid_cons h (paid_cons h (paid_cons h (paid_cons h (paid_cons h (paid_cons h (paid_cons h (paid_cons h (paid_cons rfl Paid.nil))))))))
    cases c1 with
    | n => exact fin (su_i id true c2 c3 c4 n2 n3 n4 l2 l3 l4 N a b) pd rfl gi g1 g2 g3 g4 (al rfl rfl (gV_ok _ _ _) (gV_ok _ _ _) (gV_ok _ _ _))
    | e => exact fin (su_i id false c2 c3 c4 n2 n3 n4 l2 l3 l4 N a b) pd rfl gi g1 g2 g3 g4 (al rfl rfl (gV_ok _ _ _) (gV_ok _ _ _) (gV_ok _ _ _))
    | b => exact fin (su_i2 id n1 l1 c2 c3 c4 n2 n3 n4 l2 l3 l4 N a b) pd rfl gi g1 g2 g3 g4 (al rfl rfl (gV_ok _ _ _) (gV_ok _ _ _) (gV_ok _ _ _))
  have key : c1 = .b ∧ n1 = (sL s).toNat ∨ ¬ (c1 = .b ∧ n1 = (sL s).toNat) := Classical.em _
  rcases key with ⟨rfl, hn1⟩ | hk
  case inr =>
    cases c1 with
    | n => exact fin (su_k s true c2 c3 c4 n2 n3 n4 l2 l3 l4 N a b) (paid_cons rfl Paid.nil) rfl g0 g1 g2 g3 g4 (al (sV_ok s) rfl (gV_ok _ _ _) (gV_ok _ _ _) (gV_ok _ _ _))
    | e => exact fin (su_k s false c2 c3 c4 n2 n3 n4 l2 l3 l4 N a b) (paid_cons rfl Paid.nil) rfl g0 g1 g2 g3 g4 (al (sV_ok s) rfl (gV_ok _ _ _) (gV_ok _ _ _) (gV_ok _ _ _))
    | b =>
      obtain ⟨q1, q2, q3, q4⟩ := f1 rfl
      have hne : n1 ≠ (sL s).toNat := fun h => hk ⟨rfl, h⟩
      have h : (!((n1 : Int) == sL s)) = true := by
        cases s <;> simp [sL] at hne ⊢ <;> omega
      exact fin (su_k2 s n1 l1 c2 c3 c4 n2 n3 n4 l2 l3 l4 N a b) (paid_cons (decide_eq_true (by omega)) (paid_cons h (paid_cons h (paid_cons h (paid_cons h (paid_cons h (paid_cons rfl Paid.nil))))))) rfl g0 g1 g2 g3 g4 (al (sV_ok s) rfl (gV_ok _ _ _) (gV_ok _ _ _) (gV_ok _ _ _))
  have g1' : ∃ L, VOk W0 1 L (sKey s l1) v1 := by
    subst hn1
    cases s <;> exact unmarkB g1
  cases c2 with
  | n => exact fin (su_n s l1 true c3 c4 n3 n4 l3 l4 N a b) (paid_cons rfl Paid.nil) rfl g0 g1' g2 g3 g4 (al (sV_ok s) (sKey_ok s _) rfl (gV_ok _ _ _) (gV_ok _ _ _))
  | e => exact fin (su_n s l1 false c3 c4 n3 n4 l3 l4 N a b) (paid_cons rfl Paid.nil) rfl g0 g1' g2 g3 g4 (al (sV_ok s) (sKey_ok s _) rfl (gV_ok _ _ _) (gV_ok _ _ _))
  | b =>
  obtain ⟨p1, p2, p3, p4⟩ := f2 rfl
  by_cases hn2 : n2 = 12
  case neg =>
    have h : (!((n2 : Int) == 12)) = true := by simp; omega
    exact fin (su_n2 s l1 n2 l2 c3 c4 n3 n4 l3 l4 N a b) (paid_cons (decide_eq_true (by omega)) (paid_cons h (paid_cons h (paid_cons h (paid_cons h (paid_cons h (paid_cons rfl Paid.nil))))))) rfl g0 g1' g2 g3 g4 (al (sV_ok s) (sKey_ok s _) rfl (gV_ok _ _ _) (gV_ok _ _ _))
  subst hn2
  have g2' := unmarkB g2
  have hv := nVal p3 ha hb
  cases c3 with
  | n =>
    cases c4 with
    | n =>
      exact fin (so_eeNN s l1 l2 N a b) (paid_append.2 ⟨paid_cons (rfl) (Paid.nil), paid_append.2 ⟨sdS_paid (fun h => absurd h Bool.false_ne_true) (fun h => absurd h Bool.false_ne_true), paid_append.2 ⟨sdS_paid (fun h => absurd h Bool.false_ne_true) (fun h => absurd h Bool.false_ne_true), paid_append.2 ⟨Paid.nil, rep_paid (decide_eq_true rfl)⟩⟩⟩⟩) hv g0 g1' g2' g3 g4 (al (sV_ok s) (sKey_ok s _) rfl rfl rfl)
    | e =>
      exact fin (so_eeNE s l1 l2 N a b) (paid_append.2 ⟨paid_cons (rfl) (Paid.nil), paid_append.2 ⟨sdS_paid (fun h => absurd h Bool.false_ne_true) (fun h => absurd h Bool.false_ne_true), paid_append.2 ⟨sdS_paid (fun h => absurd h Bool.false_ne_true) (fun h => absurd h Bool.false_ne_true), paid_append.2 ⟨Paid.nil, rep_paid (decide_eq_true rfl)⟩⟩⟩⟩) hv g0 g1' g2' g3 g4 (al (sV_ok s) (sKey_ok s _) rfl rfl rfl)
    | b =>
      obtain ⟨k1, k2, k3, k4⟩ := f4 rfl
      have hp : ((l4.drop 0).take n4).length = n4 := by rw [List.drop_zero, List.length_take]; omega
      by_cases hP : n4 ≤ 300
      case neg => exact fin (su_p2 s l1 l2 true n4 l4 N a b) (paid_cons (decide_eq_true (by omega)) (paid_cons (by rw [decide_eq_false (by omega)]; rfl) Paid.nil)) rfl g0 g1' g2' g3 g4 (al (sV_ok s) (sKey_ok s _) rfl rfl rfl)
      exact fin (so_ebN s l1 l2 n4 l4 N a b) (paid_append.2 ⟨paid_cons (decide_eq_true (by omega)) (paid_cons (by rw [decide_eq_true (show ((n4 : Int) ≤ 300) by omega)]; rfl) (Paid.nil)), paid_append.2 ⟨sdS_paid (fun h => absurd h Bool.false_ne_true) (fun _ => hP), paid_append.2 ⟨sdS_paid (fun h => absurd h Bool.false_ne_true) (fun _ => hP), paid_append.2 ⟨paid_cons (decide_eq_true (by rw [ulS_len _ _ _ _ _ hp]; omega)) (paid_cons (decide_eq_true (by rw [ulS_len _ _ _ _ _ hp]; omega)) Paid.nil), rep_paid (decide_eq_true rfl)⟩⟩⟩⟩) hv g0 g1' g2' g3 g4 (al (sV_ok s) (sKey_ok s _) rfl rfl rfl)
  | e =>
    cases c4 with
    | n =>
      exact fin (so_eeEN s l1 l2 N a b) (paid_append.2 ⟨paid_cons (rfl) (Paid.nil), paid_append.2 ⟨sdS_paid (fun h => absurd h Bool.false_ne_true) (fun h => absurd h Bool.false_ne_true), paid_append.2 ⟨sdS_paid (fun h => absurd h Bool.false_ne_true) (fun h => absurd h Bool.false_ne_true), paid_append.2 ⟨Paid.nil, rep_paid (decide_eq_true rfl)⟩⟩⟩⟩) hv g0 g1' g2' g3 g4 (al (sV_ok s) (sKey_ok s _) rfl rfl rfl)
    | e =>
      exact fin (so_eeEE s l1 l2 N a b) (paid_append.2 ⟨paid_cons (rfl) (Paid.nil), paid_append.2 ⟨sdS_paid (fun h => absurd h Bool.false_ne_true) (fun h => absurd h Bool.false_ne_true), paid_append.2 ⟨sdS_paid (fun h => absurd h Bool.false_ne_true) (fun h => absurd h Bool.false_ne_true), paid_append.2 ⟨Paid.nil, rep_paid (decide_eq_true rfl)⟩⟩⟩⟩) hv g0 g1' g2' g3 g4 (al (sV_ok s) (sKey_ok s _) rfl rfl rfl)
    | b =>
      obtain ⟨k1, k2, k3, k4⟩ := f4 rfl
      have hp : ((l4.drop 0).take n4).length = n4 := by rw [List.drop_zero, List.length_take]; omega
      by_cases hP : n4 ≤ 300
      case neg => exact fin (su_p2 s l1 l2 false n4 l4 N a b) (paid_cons (decide_eq_true (by omega)) (paid_cons (by rw [decide_eq_false (by omega)]; rfl) Paid.nil)) rfl g0 g1' g2' g3 g4 (al (sV_ok s) (sKey_ok s _) rfl rfl rfl)
      exact fin (so_ebE s l1 l2 n4 l4 N a b) (paid_append.2 ⟨paid_cons (decide_eq_true (by omega)) (paid_cons (by rw [decide_eq_true (show ((n4 : Int) ≤ 300) by omega)]; rfl) (Paid.nil)), paid_append.2 ⟨sdS_paid (fun h => absurd h Bool.false_ne_true) (fun _ => hP), paid_append.2 ⟨sdS_paid (fun h => absurd h Bool.false_ne_true) (fun _ => hP), paid_append.2 ⟨paid_cons (decide_eq_true (by rw [ulS_len _ _ _ _ _ hp]; omega)) (paid_cons (decide_eq_true (by rw [ulS_len _ _ _ _ _ hp]; omega)) Paid.nil), rep_paid (decide_eq_true rfl)⟩⟩⟩⟩) hv g0 g1' g2' g3 g4 (al (sV_ok s) (sKey_ok s _) rfl rfl rfl)
  | b =>
    obtain ⟨m1, m2, m3, m4⟩ := f3 rfl
    by_cases hA : n3 ≤ 100
    case neg =>
      have h : (!decide ((n3 : Int) ≤ 100)) = true := by rw [decide_eq_false (by omega)]; rfl
      exact fin (su_a s l1 l2 n3 l3 c4 n4 l4 N a b) (paid_cons (decide_eq_true (by omega)) (paid_cons h (paid_cons h (paid_cons h (paid_cons h (paid_cons h (paid_cons rfl Paid.nil))))))) rfl g0 g1' g2' g3 g4 (al (sV_ok s) (sKey_ok s _) rfl rfl (gV_ok _ _ _))
    have hL : decide ((n3 : Int) ≤ 100) = true := decide_eq_true (by omega)
    cases c4 with
    | n =>
      exact fin (so_beN s l1 l2 n3 l3 N a b) (paid_append.2 ⟨paid_cons (decide_eq_true (by omega)) (paid_cons (decide_eq_true (show ((n3 : Int) ≤ 100) by omega)) (paid_cons (decide_eq_true (show ((n3 : Int) ≤ 100) by omega)) (paid_cons (decide_eq_true (show ((n3 : Int) ≤ 100) by omega)) (paid_cons (decide_eq_true (show ((n3 : Int) ≤ 100) by omega)) (paid_cons (decide_eq_true (show ((n3 : Int) ≤ 100) by omega)) (paid_cons (rfl) (Paid.nil))))))), paid_append.2 ⟨sdS_paid (fun _ => hA) (fun h => absurd h Bool.false_ne_true), paid_append.2 ⟨sdS_paid (fun _ => hA) (fun h => absurd h Bool.false_ne_true), paid_append.2 ⟨Paid.nil, rep_paid (decide_eq_true rfl)⟩⟩⟩⟩) hv g0 g1' g2' g3 g4 (al (sV_ok s) (sKey_ok s _) rfl rfl rfl)
    | e =>
      exact fin (so_beE s l1 l2 n3 l3 N a b) (paid_append.2 ⟨paid_cons (decide_eq_true (by omega)) (paid_cons (decide_eq_true (show ((n3 : Int) ≤ 100) by omega)) (paid_cons (decide_eq_true (show ((n3 : Int) ≤ 100) by omega)) (paid_cons (decide_eq_true (show ((n3 : Int) ≤ 100) by omega)) (paid_cons (decide_eq_true (show ((n3 : Int) ≤ 100) by omega)) (paid_cons (decide_eq_true (show ((n3 : Int) ≤ 100) by omega)) (paid_cons (rfl) (Paid.nil))))))), paid_append.2 ⟨sdS_paid (fun _ => hA) (fun h => absurd h Bool.false_ne_true), paid_append.2 ⟨sdS_paid (fun _ => hA) (fun h => absurd h Bool.false_ne_true), paid_append.2 ⟨Paid.nil, rep_paid (decide_eq_true rfl)⟩⟩⟩⟩) hv g0 g1' g2' g3 g4 (al (sV_ok s) (sKey_ok s _) rfl rfl rfl)
    | b =>
      obtain ⟨k1, k2, k3, k4⟩ := f4 rfl
      have hp : ((l4.drop 0).take n4).length = n4 := by rw [List.drop_zero, List.length_take]; omega
      by_cases hP : n4 ≤ 300
      case neg => exact fin (su_p s l1 l2 n3 l3 n4 l4 N a b) (paid_cons (decide_eq_true (by omega)) (paid_cons hL (paid_cons hL (paid_cons hL (paid_cons (decide_eq_true (by omega)) (paid_cons hL (paid_cons hL (paid_cons (by rw [decide_eq_false (by omega)]; rfl) Paid.nil)))))))) rfl g0 g1' g2' g3 g4 (al (sV_ok s) (sKey_ok s _) rfl rfl rfl)
      exact fin (so_bb s l1 l2 n3 l3 n4 l4 N a b) (paid_append.2 ⟨paid_cons (decide_eq_true (by omega)) (paid_cons (decide_eq_true (show ((n3 : Int) ≤ 100) by omega)) (paid_cons (decide_eq_true (show ((n3 : Int) ≤ 100) by omega)) (paid_cons (decide_eq_true (show ((n3 : Int) ≤ 100) by omega)) (paid_cons (decide_eq_true (by omega)) (paid_cons (decide_eq_true (show ((n3 : Int) ≤ 100) by omega)) (paid_cons (decide_eq_true (show ((n3 : Int) ≤ 100) by omega)) (paid_cons (by rw [decide_eq_true (show ((n4 : Int) ≤ 300) by omega)]; rfl) (Paid.nil)))))))), paid_append.2 ⟨sdS_paid (fun _ => hA) (fun _ => hP), paid_append.2 ⟨sdS_paid (fun _ => hA) (fun _ => hP), paid_append.2 ⟨paid_cons (decide_eq_true (by rw [ulS_len _ _ _ _ _ hp]; omega)) (paid_cons (decide_eq_true (by rw [ulS_len _ _ _ _ _ hp]; omega)) Paid.nil), rep_paid (decide_eq_true rfl)⟩⟩⟩⟩) hv g0 g1' g2' g3 g4 (al (sV_ok s) (sKey_ok s _) rfl rfl rfl)

theorem suiteNonces_lifted (os : Os) (started : os.Started) (H : Type) (enc : TypeId × Value → H) :
    ReturnsInHanded {} Try.checked os 7 .any (Rows.suiteNoncesSpec.pre6 enc Try.prog Try.f7 Rows.suiteNoncesRow.domain false) (Rows.suiteNoncesSpec.post enc Try.prog Try.f7 false true false false) := by
  refine returnsInHanded_of_change_sized (C := Try.checked) own started (by kernel_rfl) Try.func7
    (ChangeSpec.witness6 (enc := enc) (C := Try.checked) false ⟨#[], #[.agg #[.int .i64 0, .slice none 0 0, .slice none 0 0, .slice none 0 0, .slice none 0 0, .int .u64 0], .int .u64 0, .int .u64 0], []⟩ 8 (by kernel_rfl) (by kernel_rfl) (by kernel_rfl) (by kernel_rfl)) ?_
  intro W base args ds gs before hval0 hW hcnd hsz0 _
  have hval : ∀ (j : Nat) t v, Try.f7.params[j]? = some t → args[j]? = some v → Value.okWide Try.prog W .any base t v := hval0
  have hW' := hW
  obtain ⟨p, q, hA0, hV, rfl, hfz, hnd⟩ := hW
  have hA : DataW.TrodAll enc Try.prog W 0 (fun _ => true) true Try.f7.params.toList args.toList ds p := hA0
  have hsz := hsz0
  rw [Try.params7] at hA hval
  have hsz : (DataW.weightsEach Try.prog (Try.f7.params.toList ++ Rows.suiteNoncesSpec.plain.varTypes Try.prog) (ds ++ gs)).all (· ≤ reachBytes) = true := hsz0
  rw [Try.params7] at hsz
  obtain ⟨v0, v1, v2, d0, d1, d2, p0, p1, p2, hargs, rfl, rfl, g0, g1, g2⟩ := trodAll_three hA
  have hargs' : args = #[v0, v1, v2] := by simpa using hargs
  subst hargs'
  obtain ⟨rfl, rfl⟩ := trodVars_none hV
  obtain ⟨vs0, k0, rfl, r0⟩ := struct_mix Try.underlying46 (n := 6) rfl (fun i f h => by rcases i with _ | _ | _ | _ | _ | _ | i <;> simp at h <;> (first | (subst h; exact ⟨rfl, by kernel_rfl⟩) | (cases h))) (by kernel_rfl) (hval 0 _ v0 rfl rfl) g0 (arg_sized hsz (j := 0) (t := 46) rfl rfl)
  obtain ⟨u0_0, u0_1, u0_2, u0_3, u0_4, u0_5, rfl⟩ := list6 k0
  obtain ⟨x0_0, rfl, q0_0⟩ := (r0 0 _ _ rfl rfl).2 _ Try.underlying3
  have q0_1 := (r0 1 _ _ rfl rfl).1 _ _ Try.underlying22 Try.underlying5 (by kernel_rfl) (by kernel_rfl)
  have q0_2 := (r0 2 _ _ rfl rfl).1 _ _ Try.underlying22 Try.underlying5 (by kernel_rfl) (by kernel_rfl)
  have q0_3 := (r0 3 _ _ rfl rfl).1 _ _ Try.underlying22 Try.underlying5 (by kernel_rfl) (by kernel_rfl)
  have q0_4 := (r0 4 _ _ rfl rfl).1 _ _ Try.underlying22 Try.underlying5 (by kernel_rfl) (by kernel_rfl)
  obtain ⟨x0_5, rfl, q0_5⟩ := (r0 5 _ _ rfl rfl).2 _ Try.underlying44
  obtain ⟨x1, rfl, rfl, rfl, w1⟩ := open_int Try.underlying44 (hval 1 _ v1 rfl rfl) g1
  obtain ⟨x2, rfl, rfl, rfl, w2⟩ := open_int Try.underlying44 (hval 2 _ v2 rfl rfl) g2
  refine (suiteNonces_calls q0_0 q0_1 q0_2 q0_3 q0_4 q0_5 (wf_inR' w1) (wf_inR' w2) W).mono fun e W' ⟨he, hb⟩ => ?_
  exact ⟨_, he, post_of_law laidOut (by rw [Try.params7]; decide +kernel) hW' rfl rfl Try.underlying4 rfl rfl rfl hb⟩

theorem suiteNonces_holds : Rows.SuiteNoncesSaid :=
  OpenClaim.holds_of_wide 7 Try.f7 rfl rfl rfl rfl rfl rfl rfl ⟨rfl, rfl, rfl, rfl, rfl⟩ rfl rfl rfl rfl rfl (by kernel_rfl) Try.func7 (by kernel_rfl)
    (of_decide_eq_true (by kernel_rfl)) (by unfold Func.isWrapper; first | (rw [if_pos (by decide +kernel)]; kernel_rfl) | (rw [if_neg (by decide +kernel)]; exact ⟨rfl, rfl⟩))
    (fun os started H enc _ => suiteNonces_lifted os started H enc)
end Go.Proofs.Ytfmgodgakndjcaa
