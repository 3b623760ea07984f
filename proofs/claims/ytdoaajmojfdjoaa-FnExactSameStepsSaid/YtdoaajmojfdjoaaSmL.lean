/- Of any two steps the program says that they are the same just where the model does; the steps are not changed: for all arguments. -/
import Derived.Test.YtdoaajmojfdjoaaSmI
import Derived.Deep.Cut
import Derived.Deep.DeepCutAuto
namespace Go.Proofs.Ytdoaajmojfdjoaa
open Go Go.ChangeShapes Go.WideShapes Go.ChangeAt Go.RowKit

set_option maxRecDepth 100000 in
set_option maxHeartbeats 6400000 in
theorem lawSameSteps_any (W : World) (xa : Option Addr) (n cx : Nat) (ya : Option Addr) (m cy : Nat) (X Y : Nat → Nat) (h : Rd W xa n X ∧ Rd W ya m Y ∧ n ≤ maxLen ∧ m ≤ maxLen ∧ (∀ i, i < n → X i < 4294967296) ∧ ∀ i, i < m → Y i < 4294967296)
    (xa' : Option Addr) (n' cx' : Nat) (ya' : Option Addr) (m' cy' : Nat) (X' Y' : Nat → Nat) (h' : Rd W xa' n' X' ∧ Rd W ya' m' Y' ∧ n' ≤ maxLen ∧ m' ≤ maxLen ∧ (∀ i, i < n' → X' i < 4294967296) ∧ ∀ i, i < m' → Y' i < 4294967296) :
    Calls Try.prog 4 #[.agg #[.slice xa n cx, .slice ya m cy], .agg #[.slice xa' n' cx', .slice ya' m' cy']] W fun e w' => e = .returned (.bool true) ∧ Below W.heap.size W w' := by
  obtain ⟨hX, hY, hn, hm, wX, wY⟩ := h
  obtain ⟨hX', hY', hn', hm', wX', wY'⟩ := h'
  have HA : Below W.heap.size W ((W.alloc (.cells #[.slice xa n cx, .slice ya m cy] 24)).alloc (.cells #[.slice xa' n' cx', .slice ya' m' cy'] 24)) := ((Below.refl _ _).alloc (Nat.le_refl _) _).alloc (by simp) _
  have RX := hX.below HA
  have RY := hY.below HA
  have RX' := hX'.below HA
  have RY' := hY'.below HA
  have HP : Box2 ((W.alloc (.cells #[.slice xa n cx, .slice ya m cy] 24)).alloc (.cells #[.slice xa' n' cx', .slice ya' m' cy'] 24)) W.heap.size (.slice xa n cx) (.slice ya m cy) := ⟨by simp, by simp⟩
  have HQ : Box2 ((W.alloc (.cells #[.slice xa n cx, .slice ya m cy] 24)).alloc (.cells #[.slice xa' n' cx', .slice ya' m' cy'] 24)) (W.heap.size + 1) (.slice xa' n' cx') (.slice ya' m' cy') := ⟨by simp, by simp⟩
  have HW := Lib.hid (And.intro wX (And.intro wY (And.intro wX' wY')))
  clear hX hY hX' hY' wX wY wX' wY'
  by_cases hs : (n : Int) + m ≤ 1048576
  · have h1 : n ≤ 1048576 := by omega
    have h2 : m ≤ 1048576 := by omega
    have hs1 : (0 : Int) ≤ 1048576 - n - m := by omega
    by_cases ht : (n' : Int) + m' ≤ 1048576 - n - m
    · have h3 : n' ≤ 1048576 := by omega
      have h4 : m' ≤ 1048576 := by omega
      have hs2 : (0 : Int) ≤ 1048576 - n - m - n' - m' := by omega
      clear hn hm hn' hm'
      go_enter Try.func4, Try.ntmps4
      go_wp2_with fail
      generalize (W.alloc (.cells #[.slice xa n cx, .slice ya m cy] 24)).alloc (.cells #[.slice xa' n' cx', .slice ya' m' cy'] 24) = A1 at *
      have HB := Blw.refl A1
      have HPa := HP.1
      have HPb := HP.2
      have HQa := HQ.1
      have HQb := HQ.2
      refine (szSteps_yes _ _ n m cx cy _ _ hs (by omega)).mono ?_
      rintro e0 w1 ⟨rfl, B0⟩
      replace HB := HB.next B0
      clear HPa HPb HQa HQb
      replace HP := HP.below B0
      replace HQ := HQ.below B0
      have HPa := HP.1
      have HPb := HP.2
      have HQa := HQ.1
      have HQb := HQ.2
      replace RX := RX.below B0
      replace RY := RY.below B0
      replace RX' := RX'.below B0
      replace RY' := RY'.below B0
      clear B0
      go_wp2_with fail
      refine (szSteps_yes _ _ n' m' cx' cy' _ _ ht (by omega)).mono ?_
      rintro e0 w0 ⟨rfl, B0⟩
      replace RX := Rd.below (by exact RX) B0
      replace RY := Rd.below (by exact RY) B0
      replace RX' := Rd.below (by exact RX') B0
      replace RY' := Rd.below (by exact RY') B0
      clear HPa HPb
      replace HP := Box2.below (by exact HP) B0
      have HPa := HP.1
      have HPb := HP.2
      clear HQa HQb
      replace HQ := Box2.below (by exact HQ) B0
      have HQa := HQ.1
      have HQb := HQ.2
      replace HB := Blw.next (by exact HB) B0
      clear B0
      go_upto_region 8 with (fail)
      go_cut [6] (fun s6 wx => s6 = .bool (sameS X n Y m X' n' Y' m') ∧ Blw A1 wx ∧ Rd wx xa n X ∧ Rd wx ya m Y ∧ Rd wx xa' n' X' ∧ Rd wx ya' m' Y' ∧ Box2 wx W.heap.size (.slice xa n cx) (.slice ya m cy) ∧ Box2 wx (W.heap.size + 1) (.slice xa' n' cx') (.slice ya' m' cy'))
      case first =>
        go_region_with (first 
          | (go_at_call_of 17 (Value.slice xa n cx); refine (toSteps_any _ _ _ _ _ _ X Y _ (by exact RX) (by exact RY) h1 h2).mono ?_; rintro e0 w0 ⟨g0, g1, rfl, O0, O1, _, B0⟩; have T1 := rd_own O0; have T2 := rd_own O1; clear O0 O1; (try replace T3 := Rd.below (by exact T3) B0); (try replace T4 := Rd.below (by exact T4) B0); replace RX := Rd.below (by exact RX) B0; replace RY := Rd.below (by exact RY) B0; replace RX' := Rd.below (by exact RX') B0; replace RY' := Rd.below (by exact RY') B0; clear HPa HPb; replace HP := Box2.below (by exact HP) B0; have HPa := HP.1; have HPb := HP.2; clear HQa HQb; replace HQ := Box2.below (by exact HQ) B0; have HQa := HQ.1; have HQb := HQ.2; replace HB := Blw.next (by exact HB) B0; clear B0)
          | (go_at_call_of 17 (Value.slice xa' n' cx'); refine (toSteps_any _ _ _ _ _ _ X' Y' _ (by exact RX') (by exact RY') h3 h4).mono ?_; rintro e0 w0 ⟨g2, g3, rfl, O2, O3, _, B0⟩; have T3 := rd_own O2; have T4 := rd_own O3; clear O2 O3; (try replace T1 := Rd.below (by exact T1) B0); (try replace T2 := Rd.below (by exact T2) B0); replace RX := Rd.below (by exact RX) B0; replace RY := Rd.below (by exact RY) B0; replace RX' := Rd.below (by exact RX') B0; replace RY' := Rd.below (by exact RY') B0; clear HPa HPb; replace HP := Box2.below (by exact HP) B0; have HPa := HP.1; have HPb := HP.2; clear HQa HQb; replace HQ := Box2.below (by exact HQ) B0; have HQa := HQ.1; have HQb := HQ.2; replace HB := Blw.next (by exact HB) B0; clear B0)
          | (go_at_call 20; refine (specSameS_any _ _ _ _ _ _ _ _ _ _ _ _ X Y X' Y' _ (by exact T1) (by exact T2) (by exact T3) (by exact T4) HW.out.1 HW.out.2.1 HW.out.2.2.1 HW.out.2.2.2 h1 h2 h3 h4).mono ?_; rintro e0 w0 ⟨rfl, B0⟩; replace RX := Rd.below (by exact RX) B0; replace RY := Rd.below (by exact RY) B0; replace RX' := Rd.below (by exact RX') B0; replace RY' := Rd.below (by exact RY') B0; clear HPa HPb; replace HP := Box2.below (by exact HP) B0; have HPa := HP.1; have HPb := HP.2; clear HQa HQb; replace HQ := Box2.below (by exact HQ) B0; have HQa := HQ.1; have HQb := HQ.2; replace HB := Blw.next (by exact HB) B0; clear B0))
        all_goals (go_wp2_with fail; go_meet; exact ⟨rfl, by exact HB, by exact RX, by exact RY, by exact RX', by exact RY', by exact HP, by exact HQ⟩)
      case rest =>
        clear HB HP HQ HPa HPb HQa HQb RX RY RX' RY'
        obtain ⟨rfl, HB, RX, RY, RX', RY', HP, HQ⟩ := hcut
        have HPa := HP.1
        have HPb := HP.2
        have HQa := HQ.1
        have HQb := HQ.2
        obtain ⟨S, hS⟩ : ∃ S, S = sameS X n Y m X' n' Y' m' := ⟨_, rfl⟩
        rw [← hS]
        have HS := Lib.hid hS
        clear hS
        have hbb : (S != S) = false := by simp
        go_wp2_with fail
        refine (toSteps_any _ _ _ _ _ _ X Y _ (by exact RX) (by exact RY) h1 h2).mono ?_
        rintro e0 w0 ⟨g0, g1, rfl, O0, O1, _, B0⟩
        have T1 := rd_own O0
        have T2 := rd_own O1
        clear O0 O1
        replace RX := Rd.below (by exact RX) B0
        replace RY := Rd.below (by exact RY) B0
        replace RX' := Rd.below (by exact RX') B0
        replace RY' := Rd.below (by exact RY') B0
        clear HPa HPb
        replace HP := Box2.below (by exact HP) B0
        have HPa := HP.1
        have HPb := HP.2
        clear HQa HQb
        replace HQ := Box2.below (by exact HQ) B0
        have HQa := HQ.1
        have HQb := HQ.2
        replace HB := Blw.next (by exact HB) B0
        clear B0
        have BA := (Below.refl _ w0).alloc (Nat.le_refl _) (.cells #[.slice (some ⟨g0, 0, none⟩) n n, .slice (some ⟨g1, 0, none⟩) m m] 27)
        replace T1 := Rd.below (by exact T1) BA
        replace T2 := Rd.below (by exact T2) BA
        replace RX := Rd.below (by exact RX) BA
        replace RY := Rd.below (by exact RY) BA
        replace RX' := Rd.below (by exact RX') BA
        replace RY' := Rd.below (by exact RY') BA
        clear HPa HPb
        replace HP := Box2.below (by exact HP) BA
        have HPa := HP.1
        have HPb := HP.2
        clear HQa HQb
        replace HQ := Box2.below (by exact HQ) BA
        have HQa := HQ.1
        have HQb := HQ.2
        replace HB := Blw.next (by exact HB) BA
        have P0 := box2_alloc w0 (.slice (some ⟨g0, 0, none⟩) n n) (.slice (some ⟨g1, 0, none⟩) m m) 27
        have P0a := P0.1
        have P0b := P0.2
        clear BA
        go_wp2_with fail
        refine (toSteps_any _ _ _ _ _ _ X' Y' _ (by exact RX') (by exact RY') h3 h4).mono ?_
        rintro e0 w0 ⟨g2, g3, rfl, O0, O1, _, B0⟩
        have T3 := rd_own O0
        have T4 := rd_own O1
        clear O0 O1
        replace T1 := Rd.below (by exact T1) B0
        replace T2 := Rd.below (by exact T2) B0
        clear P0a P0b
        replace P0 := Box2.below (by exact P0) B0
        have P0a := P0.1
        have P0b := P0.2
        replace RX := Rd.below (by exact RX) B0
        replace RY := Rd.below (by exact RY) B0
        replace RX' := Rd.below (by exact RX') B0
        replace RY' := Rd.below (by exact RY') B0
        clear HPa HPb
        replace HP := Box2.below (by exact HP) B0
        have HPa := HP.1
        have HPb := HP.2
        clear HQa HQb
        replace HQ := Box2.below (by exact HQ) B0
        have HQa := HQ.1
        have HQb := HQ.2
        replace HB := Blw.next (by exact HB) B0
        clear B0
        have BA := (Below.refl _ w0).alloc (Nat.le_refl _) (.cells #[.slice (some ⟨g2, 0, none⟩) n' n', .slice (some ⟨g3, 0, none⟩) m' m'] 27)
        replace T1 := Rd.below (by exact T1) BA
        replace T2 := Rd.below (by exact T2) BA
        replace T3 := Rd.below (by exact T3) BA
        replace T4 := Rd.below (by exact T4) BA
        clear P0a P0b
        replace P0 := Box2.below (by exact P0) BA
        have P0a := P0.1
        have P0b := P0.2
        replace RX := Rd.below (by exact RX) BA
        replace RY := Rd.below (by exact RY) BA
        replace RX' := Rd.below (by exact RX') BA
        replace RY' := Rd.below (by exact RY') BA
        clear HPa HPb
        replace HP := Box2.below (by exact HP) BA
        have HPa := HP.1
        have HPb := HP.2
        clear HQa HQb
        replace HQ := Box2.below (by exact HQ) BA
        have HQa := HQ.1
        have HQb := HQ.2
        replace HB := Blw.next (by exact HB) BA
        have P1 := box2_alloc w0 (.slice (some ⟨g2, 0, none⟩) n' n') (.slice (some ⟨g3, 0, none⟩) m' m') 27
        have P1a := P1.1
        have P1b := P1.2
        clear BA
        go_wp2_with fail
        refine (implSameS_any _ _ _ _ _ _ _ _ _ _ _ _ X Y X' Y' _ (by exact T1) (by exact T2) (by exact T3) (by exact T4) HW.out.1 HW.out.2.1 HW.out.2.2.1 HW.out.2.2.2 h1 h2 h3 h4).mono ?_
        rintro e0 w0 ⟨he, B0⟩
        rw [← HS.out] at he
        subst he
        replace T1 := Rd.below (by exact T1) B0
        replace T2 := Rd.below (by exact T2) B0
        replace T3 := Rd.below (by exact T3) B0
        replace T4 := Rd.below (by exact T4) B0
        clear P0a P0b
        replace P0 := Box2.below (by exact P0) B0
        have P0a := P0.1
        have P0b := P0.2
        clear P1a P1b
        replace P1 := Box2.below (by exact P1) B0
        have P1a := P1.1
        have P1b := P1.2
        replace RX := Rd.below (by exact RX) B0
        replace RY := Rd.below (by exact RY) B0
        replace RX' := Rd.below (by exact RX') B0
        replace RY' := Rd.below (by exact RY') B0
        clear HPa HPb
        replace HP := Box2.below (by exact HP) B0
        have HPa := HP.1
        have HPb := HP.2
        clear HQa HQb
        replace HQ := Box2.below (by exact HQ) B0
        have HQa := HQ.1
        have HQb := HQ.2
        replace HB := Blw.next (by exact HB) B0
        clear B0
        go_wp2_with fail
        go_region_with (first 
          | (go_at_call 17; refine (toSteps_any _ _ _ _ _ _ X Y _ (by exact RX) (by exact RY) h1 h2).mono ?_; rintro e0 w0 ⟨g4, g5, rfl, O0, O1, _, B0⟩; have T5 := rd_own O0; have T6 := rd_own O1; clear O0 O1; replace T1 := Rd.below (by exact T1) B0; replace T2 := Rd.below (by exact T2) B0; replace T3 := Rd.below (by exact T3) B0; replace T4 := Rd.below (by exact T4) B0; clear P0a P0b; replace P0 := Box2.below (by exact P0) B0; have P0a := P0.1; have P0b := P0.2; clear P1a P1b; replace P1 := Box2.below (by exact P1) B0; have P1a := P1.1; have P1b := P1.2; replace RX' := Rd.below (by exact RX') B0; replace RY' := Rd.below (by exact RY') B0; clear HQa HQb; replace HQ := Box2.below (by exact HQ) B0; have HQa := HQ.1; have HQb := HQ.2; replace HB := Blw.next (by exact HB) B0; clear B0)
          | (go_at_call 19; refine (eqSteps_any _ _ _ _ _ _ _ _ _ _ X Y _ (by exact T1) (by exact T2) (by exact T5) (by exact T6) h1 h2).mono ?_; rintro e0 w0 ⟨rfl, B0⟩; replace T3 := Rd.below (by exact T3) B0; replace T4 := Rd.below (by exact T4) B0; clear P1a P1b; replace P1 := Box2.below (by exact P1) B0; have P1a := P1.1; have P1b := P1.2; replace RX' := Rd.below (by exact RX') B0; replace RY' := Rd.below (by exact RY') B0; clear HQa HQb; replace HQ := Box2.below (by exact HQ) B0; have HQa := HQ.1; have HQb := HQ.2; replace HB := Blw.next (by exact HB) B0; clear B0))
        all_goals
          go_wp2_with fail
          go_region_with (first 
            | (go_at_call 17; refine (toSteps_any _ _ _ _ _ _ X' Y' _ (by exact RX') (by exact RY') h3 h4).mono ?_; rintro e0 w0 ⟨g4, g5, rfl, O0, O1, _, B0⟩; have T5 := rd_own O0; have T6 := rd_own O1; clear O0 O1; replace T3 := Rd.below (by exact T3) B0; replace T4 := Rd.below (by exact T4) B0; clear P1a P1b; replace P1 := Box2.below (by exact P1) B0; have P1a := P1.1; have P1b := P1.2; replace HB := Blw.next (by exact HB) B0; clear B0)
            | (go_at_call 19; refine (eqSteps_any _ _ _ _ _ _ _ _ _ _ X' Y' _ (by exact T3) (by exact T4) (by exact T5) (by exact T6) h3 h4).mono ?_; rintro e0 w0 ⟨rfl, B0⟩; replace HB := Blw.next (by exact HB) B0; clear B0))
          all_goals go_wp2
          all_goals go_ret
          all_goals exact ⟨rfl, HA.trans ((Blw.out (by exact HB)).mono HA.size)⟩
    · have ht' : 1048576 - (n : Int) - m < (n' : Int) + m' := by omega
      clear hn hm
      go_enter Try.func4, Try.ntmps4
      go_wp2_with fail
      generalize (W.alloc (.cells #[.slice xa n cx, .slice ya m cy] 24)).alloc (.cells #[.slice xa' n' cx', .slice ya' m' cy'] 24) = A1 at *
      have HB := Blw.refl A1
      have HPa := HP.1
      have HPb := HP.2
      have HQa := HQ.1
      have HQb := HQ.2
      go_wp2_with fail
      refine (szSteps_yes _ _ n m cx cy _ _ hs (by omega)).mono ?_
      rintro e0 w0 ⟨rfl, B0⟩
      clear HPa HPb
      replace HP := Box2.below (by exact HP) B0
      have HPa := HP.1
      have HPb := HP.2
      clear HQa HQb
      replace HQ := Box2.below (by exact HQ) B0
      have HQa := HQ.1
      have HQb := HQ.2
      replace HB := Blw.next (by exact HB) B0
      clear B0
      go_wp2_with fail
      refine (szSteps_no _ _ n' m' cx' cy' _ _ ht' hs1 (by omega) hn' hm').mono ?_
      rintro e0 w0 ⟨rfl, B0⟩
      clear HPa HPb
      replace HP := Box2.below (by exact HP) B0
      have HPa := HP.1
      have HPb := HP.2
      clear HQa HQb
      replace HQ := Box2.below (by exact HQ) B0
      have HQa := HQ.1
      have HQb := HQ.2
      replace HB := Blw.next (by exact HB) B0
      clear B0
      go_wp2
      go_ret
      exact ⟨rfl, HA.trans ((Blw.out (by exact HB)).mono HA.size)⟩
  · have hs' : (1048576 : Int) < (n : Int) + m := by omega
    go_enter Try.func4, Try.ntmps4
    go_wp2_with fail
    generalize (W.alloc (.cells #[.slice xa n cx, .slice ya m cy] 24)).alloc (.cells #[.slice xa' n' cx', .slice ya' m' cy'] 24) = A1 at *
    have HB := Blw.refl A1
    have HPa := HP.1
    have HPb := HP.2
    go_wp2_with fail
    refine (szSteps_no _ _ n m cx cy _ _ hs' (by omega) (by omega) hn hm).mono ?_
    rintro e0 w0 ⟨rfl, B0⟩
    clear HPa HPb
    replace HP := Box2.below (by exact HP) B0
    have HPa := HP.1
    have HPb := HP.2
    replace HB := Blw.next (by exact HB) B0
    clear B0
    go_wp2
    go_ret
    exact ⟨rfl, HA.trans ((Blw.out (by exact HB)).mono HA.size)⟩
set_option maxRecDepth 100000 in
theorem FnExactSameSteps_lifted (os : Os) (started : os.Started) (H : Type) (enc : TypeId × Value → H) :
    ReturnsInHanded {} Try.checked os 4 .any (Rows.fnExactSameStepsSpec.pre6 enc Try.prog Try.f4 Rows.fnExactSameStepsRow.domain false) (Rows.fnExactSameStepsSpec.post enc Try.prog Try.f4 false true false false) := by
  refine returnsInHanded_of_change (C := Try.checked) ownKnob_none started (by kernel_rfl) Try.func4
    (ChangeSpec.witness6 (enc := enc) (C := Try.checked) false ⟨#[], #[.agg #[.slice none 0 0, .slice none 0 0], .agg #[.slice none 0 0, .slice none 0 0]], []⟩ 8 (by kernel_rfl) (by kernel_rfl) (by kernel_rfl) (by kernel_rfl)) ?_
  intro W base args ds gs before hval0 hW _ _
  have hval : ∀ (j : Nat) t v, Try.f4.params[j]? = some t → args[j]? = some v → Value.okWide Try.prog W .any base t v := hval0
  have hW' := hW
  obtain ⟨p, q, hA0, hV, rfl, _, _⟩ := hW
  have hA : DataW.TrodAll enc Try.prog W 0 (fun _ => true) true Try.f4.params.toList args.toList ds p := hA0
  rw [Try.params4] at hA hval
  obtain ⟨v0, v1, d0, d1, p0, p1, rfl, rfl, rfl, h0, h1⟩ := trodAll_two hA
  obtain ⟨rfl, rfl⟩ := trodVars_none hV
  have k0 := h0
  obtain ⟨x0, n0, c0, y0, m0, e0, X0, Y0, rfl, w0⟩ := open_stw (hval 0 24 v0 rfl rfl) h0
  have b0 : ∀ x ∈ p0, x.block < W.heap.size := fun x hx => by have := hW'.lt x (by simp [hx]); simpa using this
  have k1 := h1
  obtain ⟨x1, n1, c1, y1, m1, e1, X1, Y1, rfl, w1⟩ := open_stw (hval 1 24 v1 rfl rfl) h1
  have b1 : ∀ x ∈ p1, x.block < W.heap.size := fun x hx => by have := hW'.lt x (by simp [hx]); simpa using this
  clear hA0 hval0
  refine (lawSameSteps_any W x0 n0 c0 y0 m0 e0 X0 Y0 w0 x1 n1 c1 y1 m1 e1 X1 Y1 w1).mono fun e W' ⟨he, hb⟩ => ?_
  subst he
  have hA2 := trodAll_mk2 (enc := enc) (w := W') (base := 0) (spare := fun b => decide (b < W.heap.size)) (held := true) (Below.trod laidOut (by kernel_rfl) (of_decide_eq_true (by kernel_rfl)) k0 hb b0) (Below.trod laidOut (by kernel_rfl) (of_decide_eq_true (by kernel_rfl)) k1 hb b1)
  exact ⟨_, rfl, _, _, _, [], _, [], hW', trodAll_cons_mk (shut_bool Try.underlying4 _) trodAll_mk0, hA2, rfl, hb.frame _, fun h => by cases h⟩
theorem FnExactSameSteps_holds : Rows.FnExactSameStepsSaid :=
  OpenClaim.holds_of_wide 4 Try.f4 rfl rfl rfl rfl rfl rfl rfl ⟨rfl, rfl, rfl, rfl, rfl⟩ rfl rfl rfl rfl rfl (by kernel_rfl) Try.func4 (by kernel_rfl)
    (of_decide_eq_true (by kernel_rfl)) (by unfold Func.isWrapper; first | (rw [if_pos (by decide +kernel)]; kernel_rfl) | (rw [if_neg (by decide +kernel)]; exact ⟨rfl, rfl⟩))
    (fun os started H enc _ => FnExactSameSteps_lifted os started H enc)
end Go.Proofs.Ytdoaajmojfdjoaa
