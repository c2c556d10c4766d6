/- Two secrets share the same; secrets and keys that may not be are refused: for all bytes the law answers true. No condition. -/
import Derived.Test.YtapficdphhfpnaaDoorTWqP
import Derived.Test.YtapficdphhfpnaaDoorTWpL
set_option linter.unusedSimpArgs false
set_option linter.unusedVariables false
set_option linter.unusedSectionVars false
namespace Go.Proofs.YtapficdphhfpnaaDoor
open Go.Ev Go.Wn Go.We
open Go.ChangeShapes Go.WideShapes Go.ChangeAt Go.RowKit
set_option maxRecDepth 100000
theorem weierShares_calls {va vb vp : Value} (W : World) (hT : TRep W) (ha : (va = .slice none 0 0 ∨ ∃ (a : Addr) (len cap : Nat) (zs : List Int), va = .slice (some a) len cap ∧ len ≤ cap ∧ cap ≤ maxLen ∧ zs.length = cap ∧ (∀ i, i < zs.length → W.cell? (a.add i) = some (.int .u8 (zs.getD i 0))) ∧ ∀ n ∈ zs, inR .u8 n = true)) (hb : (vb = .slice none 0 0 ∨ ∃ (a : Addr) (len cap : Nat) (zs : List Int), vb = .slice (some a) len cap ∧ len ≤ cap ∧ cap ≤ maxLen ∧ zs.length = cap ∧ (∀ i, i < zs.length → W.cell? (a.add i) = some (.int .u8 (zs.getD i 0))) ∧ ∀ n ∈ zs, inR .u8 n = true)) (hp : (vp = .slice none 0 0 ∨ ∃ (a : Addr) (len cap : Nat) (zs : List Int), vp = .slice (some a) len cap ∧ len ≤ cap ∧ cap ≤ maxLen ∧ zs.length = cap ∧ (∀ i, i < zs.length → W.cell? (a.add i) = some (.int .u8 (zs.getD i 0))) ∧ ∀ n ∈ zs, inR .u8 n = true)) :
    Calls Tryd.prog 6 #[va, vb, vp] W (fun e w' => e = .returned (.bool true) ∧ Below W.heap.size W w') := by
  have D := fun ka kb d => (hwA_ok ka kb d).deep (q := qn) mixed noCount 100 5
  rcases ways 32 0 ha with h | h | ⟨n, k, n1, n2, h⟩ | ⟨k, hk, rk, h⟩
  · rcases ways 32 1 hb with f | f | ⟨m, u, m1, m2, f⟩ | ⟨u, hu, ru, f⟩
    · obtain ⟨R, wR, g⟩ := some_way 2 hp
      exact law_of_go mixed (D 0 0 3) [false, false] (ws_nil_nil_V R) (pj6 Paid.nil Paid.nil p1 p1 Paid.nil Paid.nil) rfl (.cons _ _ _ _ _ h (.cons _ _ _ _ _ f (.cons _ _ _ _ _ g (.nil _)))) (by show noW [R] = true; rw [noW_c wR]; rfl)
    · obtain ⟨R, wR, g⟩ := some_way 2 hp
      exact law_of_go mixed (D 0 0 3) [false, false] (ws_nil_emp_V R) (pj6 Paid.nil Paid.nil p1 p1 Paid.nil Paid.nil) rfl (.cons _ _ _ _ _ h (.cons _ _ _ _ _ f (.cons _ _ _ _ _ g (.nil _)))) (by show noW [R] = true; rw [noW_c wR]; rfl)
    · obtain ⟨R, wR, g⟩ := some_way 2 hp
      exact law_of_go mixed (D 0 0 3) [false, true, false] (ws_nil_buf_V m u R) (pj6 Paid.nil (bu_P m1 m2) p1 (bu_L m1 m2) Paid.nil (bu_P m1 m2)) rfl (.cons _ _ _ _ _ h (.cons _ _ _ _ _ f (.cons _ _ _ _ _ g (.nil _)))) (by show noW [R] = true; rw [noW_c wR]; rfl)
    · cases su : scT u with
      | true =>
        obtain ⟨R, wR, g⟩ := some_way 2 hp
        exact law_of_go mixed (D 0 1 3) [false, false] (ws_nil_bad_V u R) (pj6 Paid.nil (ba_P su) p1 (ba_L su) Paid.nil (ba_P su)) rfl (.cons _ _ _ _ _ h (.cons _ _ _ _ _ f (.cons _ _ _ _ _ g (.nil _)))) (by show noW [R] = true; rw [noW_c wR]; rfl)
      | false =>
        rcases VOk.bytes 2 hp with g | g | ⟨p, r, _, _, _, _, g⟩
        · exact law_of_go mixed (D 0 0 3) [false] (ws_nil_ok_nil u) (pj6 Paid.nil (ok_P hu ru su) p1 (ok_L su) Paid.nil (ok_S su)) rfl (.cons _ _ _ _ _ h (.cons _ _ _ _ _ f (.cons _ _ _ _ _ g (.nil _))))
        · exact law_of_go mixed (D 0 0 3) [false] (ws_nil_ok_emp u) (pj6 Paid.nil (ok_P hu ru su) p1 (ok_L su) Paid.nil (ok_S su)) rfl (.cons _ _ _ _ _ h (.cons _ _ _ _ _ f (.cons _ _ _ _ _ g (.nil _))))
        · exact law_of_go mixed (D 0 0 3) [false] (ws_nil_ok_any u p r) (pj6 Paid.nil (ok_P hu ru su) p1 (ok_L su) Paid.nil (ok_S su)) rfl (.cons _ _ _ _ _ h (.cons _ _ _ _ _ f (.cons _ _ _ _ _ g (.nil _))))
  · rcases ways 32 1 hb with f | f | ⟨m, u, m1, m2, f⟩ | ⟨u, hu, ru, f⟩
    · obtain ⟨R, wR, g⟩ := some_way 2 hp
      exact law_of_go mixed (D 0 0 3) [false, false] (ws_emp_nil_V R) (pj6 Paid.nil Paid.nil p1 p1 Paid.nil Paid.nil) rfl (.cons _ _ _ _ _ h (.cons _ _ _ _ _ f (.cons _ _ _ _ _ g (.nil _)))) (by show noW [R] = true; rw [noW_c wR]; rfl)
    · obtain ⟨R, wR, g⟩ := some_way 2 hp
      exact law_of_go mixed (D 0 0 3) [false, false] (ws_emp_emp_V R) (pj6 Paid.nil Paid.nil p1 p1 Paid.nil Paid.nil) rfl (.cons _ _ _ _ _ h (.cons _ _ _ _ _ f (.cons _ _ _ _ _ g (.nil _)))) (by show noW [R] = true; rw [noW_c wR]; rfl)
    · obtain ⟨R, wR, g⟩ := some_way 2 hp
      exact law_of_go mixed (D 0 0 3) [false, true, false] (ws_emp_buf_V m u R) (pj6 Paid.nil (bu_P m1 m2) p1 (bu_L m1 m2) Paid.nil (bu_P m1 m2)) rfl (.cons _ _ _ _ _ h (.cons _ _ _ _ _ f (.cons _ _ _ _ _ g (.nil _)))) (by show noW [R] = true; rw [noW_c wR]; rfl)
    · cases su : scT u with
      | true =>
        obtain ⟨R, wR, g⟩ := some_way 2 hp
        exact law_of_go mixed (D 0 1 3) [false, false] (ws_emp_bad_V u R) (pj6 Paid.nil (ba_P su) p1 (ba_L su) Paid.nil (ba_P su)) rfl (.cons _ _ _ _ _ h (.cons _ _ _ _ _ f (.cons _ _ _ _ _ g (.nil _)))) (by show noW [R] = true; rw [noW_c wR]; rfl)
      | false =>
        rcases VOk.bytes 2 hp with g | g | ⟨p, r, _, _, _, _, g⟩
        · exact law_of_go mixed (D 0 0 3) [false] (ws_emp_ok_nil u) (pj6 Paid.nil (ok_P hu ru su) p1 (ok_L su) Paid.nil (ok_S su)) rfl (.cons _ _ _ _ _ h (.cons _ _ _ _ _ f (.cons _ _ _ _ _ g (.nil _))))
        · exact law_of_go mixed (D 0 0 3) [false] (ws_emp_ok_emp u) (pj6 Paid.nil (ok_P hu ru su) p1 (ok_L su) Paid.nil (ok_S su)) rfl (.cons _ _ _ _ _ h (.cons _ _ _ _ _ f (.cons _ _ _ _ _ g (.nil _))))
        · exact law_of_go mixed (D 0 0 3) [false] (ws_emp_ok_any u p r) (pj6 Paid.nil (ok_P hu ru su) p1 (ok_L su) Paid.nil (ok_S su)) rfl (.cons _ _ _ _ _ h (.cons _ _ _ _ _ f (.cons _ _ _ _ _ g (.nil _))))
  · rcases ways 32 1 hb with f | f | ⟨m, u, m1, m2, f⟩ | ⟨u, hu, ru, f⟩
    · obtain ⟨R, wR, g⟩ := some_way 2 hp
      exact law_of_go mixed (D 0 0 3) [true, false, false] (ws_buf_nil_V n k R) (pj6 (bu_P n1 n2) Paid.nil (bu_L n1 n2) p1 (bu_P n1 n2) Paid.nil) rfl (.cons _ _ _ _ _ h (.cons _ _ _ _ _ f (.cons _ _ _ _ _ g (.nil _)))) (by show noW [R] = true; rw [noW_c wR]; rfl)
    · obtain ⟨R, wR, g⟩ := some_way 2 hp
      exact law_of_go mixed (D 0 0 3) [true, false, false] (ws_buf_emp_V n k R) (pj6 (bu_P n1 n2) Paid.nil (bu_L n1 n2) p1 (bu_P n1 n2) Paid.nil) rfl (.cons _ _ _ _ _ h (.cons _ _ _ _ _ f (.cons _ _ _ _ _ g (.nil _)))) (by show noW [R] = true; rw [noW_c wR]; rfl)
    · obtain ⟨R, wR, g⟩ := some_way 2 hp
      exact law_of_go mixed (D 0 0 3) [true, false, true, false] (ws_buf_buf_V n k m u R) (pj6 (bu_P n1 n2) (bu_P m1 m2) (bu_L n1 n2) (bu_L m1 m2) (bu_P n1 n2) (bu_P m1 m2)) rfl (.cons _ _ _ _ _ h (.cons _ _ _ _ _ f (.cons _ _ _ _ _ g (.nil _)))) (by show noW [R] = true; rw [noW_c wR]; rfl)
    · cases su : scT u with
      | true =>
        obtain ⟨R, wR, g⟩ := some_way 2 hp
        exact law_of_go mixed (D 0 1 3) [true, false, false] (ws_buf_bad_V n k u R) (pj6 (bu_P n1 n2) (ba_P su) (bu_L n1 n2) (ba_L su) (bu_P n1 n2) (ba_P su)) rfl (.cons _ _ _ _ _ h (.cons _ _ _ _ _ f (.cons _ _ _ _ _ g (.nil _)))) (by show noW [R] = true; rw [noW_c wR]; rfl)
      | false =>
        rcases VOk.bytes 2 hp with g | g | ⟨p, r, _, _, _, _, g⟩
        · exact law_of_go mixed (D 0 0 3) [true, false] (ws_buf_ok_nil n k u) (pj6 (bu_P n1 n2) (ok_P hu ru su) (bu_L n1 n2) (ok_L su) (bu_P n1 n2) (ok_S su)) rfl (.cons _ _ _ _ _ h (.cons _ _ _ _ _ f (.cons _ _ _ _ _ g (.nil _))))
        · exact law_of_go mixed (D 0 0 3) [true, false] (ws_buf_ok_emp n k u) (pj6 (bu_P n1 n2) (ok_P hu ru su) (bu_L n1 n2) (ok_L su) (bu_P n1 n2) (ok_S su)) rfl (.cons _ _ _ _ _ h (.cons _ _ _ _ _ f (.cons _ _ _ _ _ g (.nil _))))
        · exact law_of_go mixed (D 0 0 3) [true, false] (ws_buf_ok_any n k u p r) (pj6 (bu_P n1 n2) (ok_P hu ru su) (bu_L n1 n2) (ok_L su) (bu_P n1 n2) (ok_S su)) rfl (.cons _ _ _ _ _ h (.cons _ _ _ _ _ f (.cons _ _ _ _ _ g (.nil _))))
  · cases sk : scT k with
    | true =>
      rcases ways 32 1 hb with f | f | ⟨m, u, m1, m2, f⟩ | ⟨u, hu, ru, f⟩
      · obtain ⟨R, wR, g⟩ := some_way 2 hp
        exact law_of_go mixed (D 1 0 3) [false, false] (ws_bad_nil_V k R) (pj6 (ba_P sk) Paid.nil (ba_L sk) p1 (ba_P sk) Paid.nil) rfl (.cons _ _ _ _ _ h (.cons _ _ _ _ _ f (.cons _ _ _ _ _ g (.nil _)))) (by show noW [R] = true; rw [noW_c wR]; rfl)
      · obtain ⟨R, wR, g⟩ := some_way 2 hp
        exact law_of_go mixed (D 1 0 3) [false, false] (ws_bad_emp_V k R) (pj6 (ba_P sk) Paid.nil (ba_L sk) p1 (ba_P sk) Paid.nil) rfl (.cons _ _ _ _ _ h (.cons _ _ _ _ _ f (.cons _ _ _ _ _ g (.nil _)))) (by show noW [R] = true; rw [noW_c wR]; rfl)
      · obtain ⟨R, wR, g⟩ := some_way 2 hp
        exact law_of_go mixed (D 1 0 3) [false, true, false] (ws_bad_buf_V k m u R) (pj6 (ba_P sk) (bu_P m1 m2) (ba_L sk) (bu_L m1 m2) (ba_P sk) (bu_P m1 m2)) rfl (.cons _ _ _ _ _ h (.cons _ _ _ _ _ f (.cons _ _ _ _ _ g (.nil _)))) (by show noW [R] = true; rw [noW_c wR]; rfl)
      · cases su : scT u with
        | true =>
          obtain ⟨R, wR, g⟩ := some_way 2 hp
          exact law_of_go mixed (D 1 1 3) [false, false] (ws_bad_bad_V k u R) (pj6 (ba_P sk) (ba_P su) (ba_L sk) (ba_L su) (ba_P sk) (ba_P su)) rfl (.cons _ _ _ _ _ h (.cons _ _ _ _ _ f (.cons _ _ _ _ _ g (.nil _)))) (by show noW [R] = true; rw [noW_c wR]; rfl)
        | false =>
          rcases VOk.bytes 2 hp with g | g | ⟨p, r, _, _, _, _, g⟩
          · exact law_of_go mixed (D 1 0 3) [false] (ws_bad_ok_nil k u) (pj6 (ba_P sk) (ok_P hu ru su) (ba_L sk) (ok_L su) (ba_P sk) (ok_S su)) rfl (.cons _ _ _ _ _ h (.cons _ _ _ _ _ f (.cons _ _ _ _ _ g (.nil _))))
          · exact law_of_go mixed (D 1 0 3) [false] (ws_bad_ok_emp k u) (pj6 (ba_P sk) (ok_P hu ru su) (ba_L sk) (ok_L su) (ba_P sk) (ok_S su)) rfl (.cons _ _ _ _ _ h (.cons _ _ _ _ _ f (.cons _ _ _ _ _ g (.nil _))))
          · exact law_of_go mixed (D 1 0 3) [false] (ws_bad_ok_any k u p r) (pj6 (ba_P sk) (ok_P hu ru su) (ba_L sk) (ok_L su) (ba_P sk) (ok_S su)) rfl (.cons _ _ _ _ _ h (.cons _ _ _ _ _ f (.cons _ _ _ _ _ g (.nil _))))
    | false =>
      rcases ways 32 1 hb with f | f | ⟨m, u, m1, m2, f⟩ | ⟨u, hu, ru, f⟩
      · rcases VOk.bytes 2 hp with g | g | ⟨p, r, _, _, _, _, g⟩
        · exact law_of_go mixed (D 0 0 3) [false] (ws_ok_nil_nil k) (pj6 (ok_P hk rk sk) Paid.nil (ok_L sk) p1 (ok_S sk) Paid.nil) rfl (.cons _ _ _ _ _ h (.cons _ _ _ _ _ f (.cons _ _ _ _ _ g (.nil _))))
        · exact law_of_go mixed (D 0 0 3) [false] (ws_ok_nil_emp k) (pj6 (ok_P hk rk sk) Paid.nil (ok_L sk) p1 (ok_S sk) Paid.nil) rfl (.cons _ _ _ _ _ h (.cons _ _ _ _ _ f (.cons _ _ _ _ _ g (.nil _))))
        · exact law_of_go mixed (D 0 0 3) [false] (ws_ok_nil_any k p r) (pj6 (ok_P hk rk sk) Paid.nil (ok_L sk) p1 (ok_S sk) Paid.nil) rfl (.cons _ _ _ _ _ h (.cons _ _ _ _ _ f (.cons _ _ _ _ _ g (.nil _))))
      · rcases VOk.bytes 2 hp with g | g | ⟨p, r, _, _, _, _, g⟩
        · exact law_of_go mixed (D 0 0 3) [false] (ws_ok_emp_nil k) (pj6 (ok_P hk rk sk) Paid.nil (ok_L sk) p1 (ok_S sk) Paid.nil) rfl (.cons _ _ _ _ _ h (.cons _ _ _ _ _ f (.cons _ _ _ _ _ g (.nil _))))
        · exact law_of_go mixed (D 0 0 3) [false] (ws_ok_emp_emp k) (pj6 (ok_P hk rk sk) Paid.nil (ok_L sk) p1 (ok_S sk) Paid.nil) rfl (.cons _ _ _ _ _ h (.cons _ _ _ _ _ f (.cons _ _ _ _ _ g (.nil _))))
        · exact law_of_go mixed (D 0 0 3) [false] (ws_ok_emp_any k p r) (pj6 (ok_P hk rk sk) Paid.nil (ok_L sk) p1 (ok_S sk) Paid.nil) rfl (.cons _ _ _ _ _ h (.cons _ _ _ _ _ f (.cons _ _ _ _ _ g (.nil _))))
      · rcases VOk.bytes 2 hp with g | g | ⟨p, r, _, _, _, _, g⟩
        · exact law_of_go mixed (D 0 0 3) [true, false] (ws_ok_buf_nil k m u) (pj6 (ok_P hk rk sk) (bu_P m1 m2) (ok_L sk) (bu_L m1 m2) (ok_S sk) (bu_P m1 m2)) rfl (.cons _ _ _ _ _ h (.cons _ _ _ _ _ f (.cons _ _ _ _ _ g (.nil _))))
        · exact law_of_go mixed (D 0 0 3) [true, false] (ws_ok_buf_emp k m u) (pj6 (ok_P hk rk sk) (bu_P m1 m2) (ok_L sk) (bu_L m1 m2) (ok_S sk) (bu_P m1 m2)) rfl (.cons _ _ _ _ _ h (.cons _ _ _ _ _ f (.cons _ _ _ _ _ g (.nil _))))
        · exact law_of_go mixed (D 0 0 3) [true, false] (ws_ok_buf_any k m u p r) (pj6 (ok_P hk rk sk) (bu_P m1 m2) (ok_L sk) (bu_L m1 m2) (ok_S sk) (bu_P m1 m2)) rfl (.cons _ _ _ _ _ h (.cons _ _ _ _ _ f (.cons _ _ _ _ _ g (.nil _))))
      · cases su : scT u with
        | true =>
          rcases VOk.bytes 2 hp with g | g | ⟨p, r, _, _, _, _, g⟩
          · exact law_of_go mixed (D 0 1 3) [false] (ws_ok_bad_nil k u) (pj6 (ok_P hk rk sk) (ba_P su) (ok_L sk) (ba_L su) (ok_S sk) (ba_P su)) rfl (.cons _ _ _ _ _ h (.cons _ _ _ _ _ f (.cons _ _ _ _ _ g (.nil _))))
          · exact law_of_go mixed (D 0 1 3) [false] (ws_ok_bad_emp k u) (pj6 (ok_P hk rk sk) (ba_P su) (ok_L sk) (ba_L su) (ok_S sk) (ba_P su)) rfl (.cons _ _ _ _ _ h (.cons _ _ _ _ _ f (.cons _ _ _ _ _ g (.nil _))))
          · exact law_of_go mixed (D 0 1 3) [false] (ws_ok_bad_any k u p r) (pj6 (ok_P hk rk sk) (ba_P su) (ok_L sk) (ba_L su) (ok_S sk) (ba_P su)) rfl (.cons _ _ _ _ _ h (.cons _ _ _ _ _ f (.cons _ _ _ _ _ g (.nil _))))
        | false =>
          obtain ⟨s1, s2, s3⟩ := sh_paid hk rk sk hu ru su
          have pd := fun {m f : List Bool} (hm : Paid m) (hf : Paid f) => pj9 (ok_P hk rk sk) (ok_P hu ru su) (ok_L sk) (ok_L su) s1 s2 (ok_S sk) hm s3 hf
          rcases ways 65 2 hp with g | g | ⟨p, r, p1, p2, g⟩ | ⟨r, hr, rr, g⟩
          · exact law_of_go mixed (D 0 0 3) [] (ws_ok_ok_nil k u) (pd Paid.nil Paid.nil) rfl (.cons _ _ _ _ _ h (.cons _ _ _ _ _ f (.cons _ _ _ _ _ g (.nil _))))
          · exact law_of_go mixed (D 0 0 3) [] (ws_ok_ok_emp k u) (pd Paid.nil Paid.nil) rfl (.cons _ _ _ _ _ h (.cons _ _ _ _ _ f (.cons _ _ _ _ _ g (.nil _))))
          · exact law_of_go mixed (D 0 0 3) [] (ws_ok_ok_buf k u p r) (pd (pj (pb_P p1 p2) (pb_P p1 p2)) Paid.nil) rfl (.cons _ _ _ _ _ h (.cons _ _ _ _ _ f (.cons _ _ _ _ _ g (.nil _))))
          · by_cases h4 : r.getD 0 0 = 4
            · have e4 : (!(r.getD 0 0 != 4)) = true := by rw [h4]; rfl
              have hs := rd_same hr rr h4
              cases ho : onB (ptL r) with
              | false =>
                exact law_of_go mixed (D 0 0 4) [] (ws_ok_ok_p4 k u r) (pd (paid_cons e4 (paid_cons (by rw [ho]; rfl) (paid_cons e4 (paid_cons (by rw [hs, ho]; rfl) Paid.nil)))) Paid.nil) rfl (.cons _ _ _ _ _ h (.cons _ _ _ _ _ f (.cons _ _ _ _ _ g (.nil _))))
              | true =>
                obtain ⟨P, hP, e1, e2, _⟩ := rd_J3 hr rr h4 ho
                obtain ⟨N, eN, _, hN⟩ := sec_N hk rk sk
                have rN := rN_R (n_lt hN) hP e2
                rw [← eN] at rN
                obtain ⟨j1, j2⟩ := j3_R rN
                have jr : shR k r = Go.We.rN (val (bigL k)) (j3V (rdLs r)) 256 := j1
                have xR : jIn (shR k r) = true := by rw [jr]; exact j2
                have od : rdB r = true := hs.trans ho
                have xJ : jIn (j3V (rdLs r)) = true := jIn_iff.2 e2.1
                have vt : decide (bytesL (shX k r) = bytesL (limbs (jXY (shR k r)).x)) = true := by
                  rw [jr, jXY_R rN, sh_X0 eN (n_lt hN) hP e1]
                  exact decide_eq_true rfl
                exact law_of_go mixed (D 0 0 0) [] (ws_ok_ok_p0 k u r) (pd (paid_cons e4 (paid_cons ho (paid_cons e4 (paid_cons od Paid.nil)))) (paid_cons e4 (paid_cons od (paid_cons xJ (paid_cons xR Paid.nil))))) vt (.cons _ _ _ _ _ h (.cons _ _ _ _ _ f (.cons _ _ _ _ _ g (.nil _))))
            · have e4 : (r.getD 0 0 != 4) = true := by simpa using h4
              exact law_of_go mixed (D 0 0 3) [] (ws_ok_ok_p3 k u r) (pd (paid_cons e4 (paid_cons e4 Paid.nil)) Paid.nil) rfl (.cons _ _ _ _ _ h (.cons _ _ _ _ _ f (.cons _ _ _ _ _ g (.nil _))))

theorem weierShares_lifted (os : Os) (started : os.Started) (H : Type) (enc : TypeId × Value → H) :
    ReturnsInHanded {} Tryd.checked os 6 .any (fun w args => (Rows.weierSharesSpec.pre enc Tryd.prog Tryd.f6 Rows.weierSharesRow.domain false w args ∧ laidMetH Tryd.prog Rows.weierLawsRow.laid w) ∧ sizedMet enc Tryd.prog Tryd.f6 (OpenSpec.ofChange Rows.weierSharesSpec) false w args)
      (Rows.weierSharesSpec.post enc Tryd.prog Tryd.f6 false true false false) := by
  refine returnsInHanded_of_change_and (C := Tryd.checked) (X := fun w _ => laidMetH Tryd.prog Rows.weierLawsRow.laid w) (fun _ _ _ hh h => h.of_heap hh) own started (by kernel_rfl) Tryd.func6
    (ChangeSpec.witness_shaped (enc := enc) (C := Tryd.checked) (os := os) (X := fun w _ => laidMetH Tryd.prog Rows.weierLawsRow.laid w) false (World.laidAll Tryd.prog os Rows.weierLawsRow.laid) #[.slice none 0 0, .slice none 0 0, .slice none 0 0] 8 (World.laidAll_os _ _ _)
      (World.shaped_of_ZipB (by kernel_rfl) (by kernel_rfl)) (by kernel_rfl) (by kernel_rfl) (by kernel_rfl)
      (by rw [MakeChecks.laidMetH_plain _ _ _ (by kernel_rfl)]; exact laidMet_laidAll _ (by kernel_rfl) (by kernel_rfl))) ?_
  intro W base args ds gs before hval0 hW _ hsz hL _
  have hT : TRep W := trep_of hL
  have hval : ∀ (j : Nat) t v, Tryd.f6.params[j]? = some t → args[j]? = some v → Value.okWide Tryd.prog W .any base t v := hval0
  have hW' := hW
  obtain ⟨p, q, hA0, hV, rfl, hfz, hnd⟩ := hW
  have hA : DataW.TrodAll enc Tryd.prog W 0 (fun _ => true) true Tryd.f6.params.toList args.toList ds p := hA0
  rw [Tryd.params6] at hA hval
  obtain ⟨v0, v1, v2, d0, d1, d2, p0, p1, p2, hargs, rfl, rfl, g0, g1, g2⟩ := trodAll_three hA
  have hargs' : args = #[v0, v1, v2] := by simpa using hargs
  subst hargs'
  obtain ⟨rfl, rfl⟩ := trodVars_none hV
  have hv0 := nums_open Tryd.underlying39 Tryd.underlying5 (by kernel_rfl) (hval 0 _ v0 rfl rfl) g0
  have hv1 := nums_open Tryd.underlying39 Tryd.underlying5 (by kernel_rfl) (hval 1 _ v1 rfl rfl) g1
  have hv2 := nums_open Tryd.underlying39 Tryd.underlying5 (by kernel_rfl) (hval 2 _ v2 rfl rfl) g2
  refine (weierShares_calls W hT hv0 hv1 hv2).mono fun e W' ⟨he, hb⟩ => ?_
  exact ⟨_, he, post_of_law laidOut (by rw [Tryd.params6]; decide +kernel) hW' rfl rfl Tryd.underlying4 rfl rfl rfl hb⟩

theorem weierShares_holds : Rows.WeierSharesSaid :=
  OpenClaim.holds_of_wide 6 Tryd.f6 rfl rfl rfl rfl rfl rfl rfl ⟨rfl, rfl, rfl, rfl, rfl⟩ rfl rfl rfl rfl rfl (by kernel_rfl) Tryd.func6 (by kernel_rfl)
    (of_decide_eq_true (by kernel_rfl)) (by unfold Func.isWrapper; first | (rw [if_pos (by decide +kernel)]; kernel_rfl) | (rw [if_neg (by decide +kernel)]; exact ⟨rfl, rfl⟩))
    (fun os started H enc _ => weierShares_lifted os started H enc)
theorem weierShares_card_holds : Rows.WeierSharesCardSaid :=
  Claim7.holds_tied_plain_at .later [] [.data, .data, .data, .data] true (true, "e54579148be440fa4486c4a898dc0a79d88a36e02d4ee253cc2847c36b208d9d") false weierShares_holds (fun _ h => by cases h) (by kernel_rfl) (fun _ h => by cases h) weierShares_row_tie rfl ⟨rfl, rfl⟩ (by kernel_rfl) rfl
    (fun f fn hf hfn => by
      obtain rfl : f = 6 := Option.some.inj (hf.symm.trans (by kernel_rfl))
      obtain rfl : fn = Tryd.f6 := (Option.some.inj (Tryd.func6.symm.trans hfn)).symm
      exact ⟨by kernel_rfl, fun j t ht => by
        rw [Tryd.params6] at ht
        have hm : t ∈ [39, 39, 39] := by simpa using Array.mem_of_getElem? ht
        have hall : ([39, 39, 39].all fun u => !Tryd.prog.wantsStandIn u) = true := by kernel_rfl
        exact (show Tryd.prog.wantsStandIn t = false by simpa using List.all_eq_true.1 hall t hm)⟩)
    (by kernel_rfl)
end Go.Proofs.YtapficdphhfpnaaDoor
