
/- Whether steps are the same, as the program asks it; the law. -/
import Derived.Test.YtbblohjldkpcnaaSmS
namespace Go.Proofs.Ytbblohjldkpcnaa
open Go Go.ChangeShapes Go.WideShapes Go.ChangeAt Go.RowKit

theorem eB_ne {X Y : Nat → Nat} {n k : Nat} (h : eB X n k ≠ eB Y n k) : sameL X n Y n = false := by
  by_cases hk : k < n
  · rw [eB_in hk, eB_in hk] at h
    exact sameL_no hk fun e => h (by rw [e])
  · rw [eB_out hk, eB_out hk] at h
    exact absurd rfl h
theorem eB_all {X Y : Nat → Nat} {n q : Nat} (hq : n ≤ q) (h : ∀ j, j < q → eB X n j = eB Y n j) : sameL X n Y n = true :=
  sameL_yes fun k hk => by
    have := h k (by omega)
    rw [eB_in hk, eB_in hk] at this
    exact_mod_cast this
set_option maxRecDepth 100000 in
set_option maxHeartbeats 3200000 in
theorem implSameS_any (xa ya xa' ya' : Option Addr) (n m cx cy n' m' cx' cy' : Nat) (X Y X' Y' : Nat → Nat) (w : World) (hX : Rd w xa n X) (hY : Rd w ya m Y) (hX' : Rd w xa' n' X') (hY' : Rd w ya' m' Y')
    (wX : Wf32 X n) (wY : Wf32 Y m) (wX' : Wf32 X' n') (wY' : Wf32 Y' m') (hn : n ≤ 1048576) (hm : m ≤ 1048576) (hn' : n' ≤ 1048576) (hm' : m' ≤ 1048576) :
    Calls Try.prog 36 #[.agg #[.slice xa n cx, .slice ya m cy], .agg #[.slice xa' n' cx', .slice ya' m' cy']] w fun e w' => e = .returned (.bool (sameS X n Y m X' n' Y' m')) ∧ Below w.heap.size w w' := by
  have HA : Below w.heap.size w ((w.alloc (.cells #[.slice xa n cx, .slice ya m cy] 24)).alloc (.cells #[.slice xa' n' cx', .slice ya' m' cy'] 24)) := ((Below.refl _ _).alloc (Nat.le_refl _) _).alloc (by simp) _
  by_cases h1 : n = n'
  · have d1 : ((n : Int) != (n' : Int)) = false := by simpa using (by omega : (n : Int) = (n' : Int))
    by_cases h2 : m = m'
    · subst h1 h2
      clear d1
      have RX := hX.below HA
      have RY := hY.below HA
      have RX' := hX'.below HA
      have RY' := hY'.below HA
      have HP : Box2 ((w.alloc (.cells #[.slice xa n cx, .slice ya m cy] 24)).alloc (.cells #[.slice xa' n cx', .slice ya' m cy'] 24)) w.heap.size (.slice xa n cx) (.slice ya m cy) := ⟨by simp, by simp⟩
      have HQ : Box2 ((w.alloc (.cells #[.slice xa n cx, .slice ya m cy] 24)).alloc (.cells #[.slice xa' n cx', .slice ya' m cy'] 24)) (w.heap.size + 1) (.slice xa' n cx') (.slice ya' m cy') := ⟨by simp, by simp⟩
      have HW := Lib.hid (And.intro wX (And.intro wY (And.intro wX' wY')))
      clear hX hY hX' hY' wX wY wX' wY' hn' hm'
      by_cases hnm : (n : Int) < (m : Int)
      · have hq : n ≤ m := by omega
        go_enter Try.func36, Try.ntmps36
        go_wp2
        generalize (w.alloc (.cells #[.slice xa n cx, .slice ya m cy] 24)).alloc (.cells #[.slice xa' n cx', .slice ya' m cy'] 24) = W0 at *
        go_loopw [29] (fun i wr => ∃ k : Nat, k ≤ m ∧ i = .int .i64 k ∧ Blw W0 wr ∧ Hid (∀ j, j < k → eB X n j = eB X' n j ∧ eB Y m j = eB Y' m j)) (fun i _ => m - (intOf i).toNat)
        case atStart => exact ⟨0, Nat.zero_le _, rfl, Blw.refl _, Lib.hid fun j hj => absurd hj (Nat.not_lt_zero _)⟩
        case round =>
          obtain ⟨k, hk, rfl, HB, HF⟩ := hrel
          by_cases hlt : k < m
          · obtain ⟨p0, p1⟩ := Box2.below HP HB.out
            obtain ⟨p2, p3⟩ := Box2.below HQ HB.out
            have SX := RX.below HB.out
            have SY := RY.below HB.out
            have SX' := RX'.below HB.out
            have SY' := RY'.below HB.out
            by_cases hE : eB X n k = eB X' n k
            · by_cases hH : eB Y m k = eB Y' m k
              · have HN := Lib.hid (show ∀ j, j < k + 1 → eB X n j = eB X' n j ∧ eB Y m j = eB Y' m j from fun j hj => by
                  by_cases hj' : j < k
                  · exact HF.out j hj'
                  · rw [show j = k by omega]; exact ⟨hE, hH⟩)
                have b1 : (eB X n k == eB X' n k) = true := by simpa using hE
                have b2 : (eB Y m k == eB Y' m k) = true := by simpa using hH
                clear hE hH
                go_wp2_with fail
                go_region_with (first | (go_at_call_of 48 (Value.slice xa n cx); refine (bitsAt_any xa ya n m cx cy X Y k _ (by exact SX) (by exact SY) HW.out.1 HW.out.2.1 hn hm).mono ?_; rintro e0 w5 ⟨rfl, B0⟩; have TX := Rd.below (by exact SX') B0; have TY := Rd.below (by exact SY') B0; obtain ⟨p4, p5⟩ := Box2.below (by exact ⟨p2, p3⟩) B0; have HC := Blw.next (by exact HB) B0; clear B0) | (go_at_call_of 48 (Value.slice xa' n cx'); refine (bitsAt_any xa' ya' n m cx' cy' X' Y' k _ (by exact TX) (by exact TY) HW.out.2.2.1 HW.out.2.2.2 hn hm).mono ?_; rintro e0 w6 ⟨rfl, B0⟩; have HD := Blw.next (by exact HC) B0; clear B0))
                all_goals go_wp2
                all_goals go_roundw
                all_goals first | exact ⟨k + 1, by omega, by go_num, by exact HD, HN⟩ | (simp [intOf]; omega)
              · have HN := Lib.hid (show sameS X n Y m X' n Y' m = false by simp [sameS, eB_ne hH])
                have b1 : (eB X n k == eB X' n k) = true := by simpa using hE
                have b2 : (eB Y m k == eB Y' m k) = false := by simpa using hH
                clear hE hH
                go_wp2_with fail
                go_region_with (first | (go_at_call_of 48 (Value.slice xa n cx); refine (bitsAt_any xa ya n m cx cy X Y k _ (by exact SX) (by exact SY) HW.out.1 HW.out.2.1 hn hm).mono ?_; rintro e0 w5 ⟨rfl, B0⟩; have TX := Rd.below (by exact SX') B0; have TY := Rd.below (by exact SY') B0; obtain ⟨p4, p5⟩ := Box2.below (by exact ⟨p2, p3⟩) B0; have HC := Blw.next (by exact HB) B0; clear B0) | (go_at_call_of 48 (Value.slice xa' n cx'); refine (bitsAt_any xa' ya' n m cx' cy' X' Y' k _ (by exact TX) (by exact TY) HW.out.2.2.1 HW.out.2.2.2 hn hm).mono ?_; rintro e0 w6 ⟨rfl, B0⟩; have HD := Blw.next (by exact HC) B0; clear B0))
                all_goals go_wp2
                all_goals go_ret
                all_goals exact ⟨ret_bool HN.out.symm, HA.trans ((Blw.out (by exact HD)).mono HA.size)⟩
            · have HN := Lib.hid (show sameS X n Y m X' n Y' m = false by simp [sameS, eB_ne hE])
              have b1 : (eB X n k == eB X' n k) = false := by simpa using hE
              clear hE
              go_wp2_with fail
              go_region_with (first | (go_at_call_of 48 (Value.slice xa n cx); refine (bitsAt_any xa ya n m cx cy X Y k _ (by exact SX) (by exact SY) HW.out.1 HW.out.2.1 hn hm).mono ?_; rintro e0 w5 ⟨rfl, B0⟩; have TX := Rd.below (by exact SX') B0; have TY := Rd.below (by exact SY') B0; obtain ⟨p4, p5⟩ := Box2.below (by exact ⟨p2, p3⟩) B0; have HC := Blw.next (by exact HB) B0; clear B0) | (go_at_call_of 48 (Value.slice xa' n cx'); refine (bitsAt_any xa' ya' n m cx' cy' X' Y' k _ (by exact TX) (by exact TY) HW.out.2.2.1 HW.out.2.2.2 hn hm).mono ?_; rintro e0 w6 ⟨rfl, B0⟩; have HD := Blw.next (by exact HC) B0; clear B0))
              all_goals go_wp2
              all_goals go_ret
              all_goals exact ⟨ret_bool HN.out.symm, HA.trans ((Blw.out (by exact HD)).mono HA.size)⟩
          · have HN := Lib.hid (show sameS X n Y m X' n Y' m = true by simp [sameS, eB_all (q := k) (by omega) (fun j hj => (HF.out j hj).1), eB_all (q := k) (by omega) (fun j hj => (HF.out j hj).2)])
            go_wp2
            go_ret
            exact ⟨ret_bool HN.out.symm, HA.trans (HB.out.mono HA.size)⟩
      · have hq : m ≤ n := by omega
        go_enter Try.func36, Try.ntmps36
        go_wp2
        generalize (w.alloc (.cells #[.slice xa n cx, .slice ya m cy] 24)).alloc (.cells #[.slice xa' n cx', .slice ya' m cy'] 24) = W0 at *
        go_loopw [29] (fun i wr => ∃ k : Nat, k ≤ n ∧ i = .int .i64 k ∧ Blw W0 wr ∧ Hid (∀ j, j < k → eB X n j = eB X' n j ∧ eB Y m j = eB Y' m j)) (fun i _ => n - (intOf i).toNat)
        case atStart => exact ⟨0, Nat.zero_le _, rfl, Blw.refl _, Lib.hid fun j hj => absurd hj (Nat.not_lt_zero _)⟩
        case round =>
          obtain ⟨k, hk, rfl, HB, HF⟩ := hrel
          by_cases hlt : k < n
          · obtain ⟨p0, p1⟩ := Box2.below HP HB.out
            obtain ⟨p2, p3⟩ := Box2.below HQ HB.out
            have SX := RX.below HB.out
            have SY := RY.below HB.out
            have SX' := RX'.below HB.out
            have SY' := RY'.below HB.out
            by_cases hE : eB X n k = eB X' n k
            · by_cases hH : eB Y m k = eB Y' m k
              · have HN := Lib.hid (show ∀ j, j < k + 1 → eB X n j = eB X' n j ∧ eB Y m j = eB Y' m j from fun j hj => by
                  by_cases hj' : j < k
                  · exact HF.out j hj'
                  · rw [show j = k by omega]; exact ⟨hE, hH⟩)
                have b1 : (eB X n k == eB X' n k) = true := by simpa using hE
                have b2 : (eB Y m k == eB Y' m k) = true := by simpa using hH
                clear hE hH
                go_wp2_with fail
                go_region_with (first | (go_at_call_of 48 (Value.slice xa n cx); refine (bitsAt_any xa ya n m cx cy X Y k _ (by exact SX) (by exact SY) HW.out.1 HW.out.2.1 hn hm).mono ?_; rintro e0 w5 ⟨rfl, B0⟩; have TX := Rd.below (by exact SX') B0; have TY := Rd.below (by exact SY') B0; obtain ⟨p4, p5⟩ := Box2.below (by exact ⟨p2, p3⟩) B0; have HC := Blw.next (by exact HB) B0; clear B0) | (go_at_call_of 48 (Value.slice xa' n cx'); refine (bitsAt_any xa' ya' n m cx' cy' X' Y' k _ (by exact TX) (by exact TY) HW.out.2.2.1 HW.out.2.2.2 hn hm).mono ?_; rintro e0 w6 ⟨rfl, B0⟩; have HD := Blw.next (by exact HC) B0; clear B0))
                all_goals go_wp2
                all_goals go_roundw
                all_goals first | exact ⟨k + 1, by omega, by go_num, by exact HD, HN⟩ | (simp [intOf]; omega)
              · have HN := Lib.hid (show sameS X n Y m X' n Y' m = false by simp [sameS, eB_ne hH])
                have b1 : (eB X n k == eB X' n k) = true := by simpa using hE
                have b2 : (eB Y m k == eB Y' m k) = false := by simpa using hH
                clear hE hH
                go_wp2_with fail
                go_region_with (first | (go_at_call_of 48 (Value.slice xa n cx); refine (bitsAt_any xa ya n m cx cy X Y k _ (by exact SX) (by exact SY) HW.out.1 HW.out.2.1 hn hm).mono ?_; rintro e0 w5 ⟨rfl, B0⟩; have TX := Rd.below (by exact SX') B0; have TY := Rd.below (by exact SY') B0; obtain ⟨p4, p5⟩ := Box2.below (by exact ⟨p2, p3⟩) B0; have HC := Blw.next (by exact HB) B0; clear B0) | (go_at_call_of 48 (Value.slice xa' n cx'); refine (bitsAt_any xa' ya' n m cx' cy' X' Y' k _ (by exact TX) (by exact TY) HW.out.2.2.1 HW.out.2.2.2 hn hm).mono ?_; rintro e0 w6 ⟨rfl, B0⟩; have HD := Blw.next (by exact HC) B0; clear B0))
                all_goals go_wp2
                all_goals go_ret
                all_goals exact ⟨ret_bool HN.out.symm, HA.trans ((Blw.out (by exact HD)).mono HA.size)⟩
            · have HN := Lib.hid (show sameS X n Y m X' n Y' m = false by simp [sameS, eB_ne hE])
              have b1 : (eB X n k == eB X' n k) = false := by simpa using hE
              clear hE
              go_wp2_with fail
              go_region_with (first | (go_at_call_of 48 (Value.slice xa n cx); refine (bitsAt_any xa ya n m cx cy X Y k _ (by exact SX) (by exact SY) HW.out.1 HW.out.2.1 hn hm).mono ?_; rintro e0 w5 ⟨rfl, B0⟩; have TX := Rd.below (by exact SX') B0; have TY := Rd.below (by exact SY') B0; obtain ⟨p4, p5⟩ := Box2.below (by exact ⟨p2, p3⟩) B0; have HC := Blw.next (by exact HB) B0; clear B0) | (go_at_call_of 48 (Value.slice xa' n cx'); refine (bitsAt_any xa' ya' n m cx' cy' X' Y' k _ (by exact TX) (by exact TY) HW.out.2.2.1 HW.out.2.2.2 hn hm).mono ?_; rintro e0 w6 ⟨rfl, B0⟩; have HD := Blw.next (by exact HC) B0; clear B0))
              all_goals go_wp2
              all_goals go_ret
              all_goals exact ⟨ret_bool HN.out.symm, HA.trans ((Blw.out (by exact HD)).mono HA.size)⟩
          · have HN := Lib.hid (show sameS X n Y m X' n Y' m = true by simp [sameS, eB_all (q := k) (by omega) (fun j hj => (HF.out j hj).1), eB_all (q := k) (by omega) (fun j hj => (HF.out j hj).2)])
            go_wp2
            go_ret
            exact ⟨ret_bool HN.out.symm, HA.trans (HB.out.mono HA.size)⟩
    · have H := Lib.hid (show sameS X n Y m X' n' Y' m' = false by simp [sameS, sameL_len h2])
      have d2 : ((m : Int) != (m' : Int)) = true := by simpa using (by omega : ¬ (m : Int) = (m' : Int))
      have d3 : (m != m') = true := by simpa using h2
      have d4 : (n != n') = false := by simpa using h1
      clear h1 h2
      go_enter Try.func36, Try.ntmps36
      go_wp2
      go_ret
      exact ⟨ret_bool H.out.symm, HA⟩
  · have H := Lib.hid (show sameS X n Y m X' n' Y' m' = false by simp [sameS, sameL_len h1])
    have d1 : ((n : Int) != (n' : Int)) = true := by simpa using (by omega : ¬ (n : Int) = (n' : Int))
    have d3 : (n != n') = true := by simpa using h1
    clear h1
    go_enter Try.func36, Try.ntmps36
    go_wp2
    go_ret
    exact ⟨ret_bool H.out.symm, HA⟩
end Go.Proofs.Ytbblohjldkpcnaa
