/- JoinShare: where the model tells a share, and where the program does. -/
import Derived.Test.YtffhnkhjfggooabDoorJu
namespace Go.Proofs.YtffhnkhjfggooabDoor
open Go Go.ChangeShapes Go.WideShapes Go.ChangeAt Go.RowKit

theorem results_tmp4 {fn : Func} {t u v x : Tmp} (h : fn.results = #[.tmp t, .tmp u, .tmp v, .tmp x]) (tmps : Array Value) (P : Program) (w : World) :
    (results fn tmps).run P w = .ok (.tuple #[tmps.getD t undef, tmps.getD u undef, tmps.getD v undef, tmps.getD x undef]) w := by
  simp [results, h]
def canB (a x b y c : Int) : Bool := turnB a x && (turnB b y && (totB a b c && partB c (x + y)))
theorem canAt {a x b y c : Int} (h : canB a x b y c = true) : JAt a x b y c := by
  unfold canB turnB totB partB at h
  simp only [Bool.and_eq_true, beq_iff_eq] at h
  obtain ⟨⟨h1, h2, h3⟩, ⟨h4, h5, h6⟩, ⟨h7, h8⟩, h9, h10⟩ := h
  obtain ⟨a0, a1⟩ := inB_rng h1
  obtain ⟨x0, x1⟩ := inB_rng h2
  obtain ⟨b0, b1⟩ := inB_rng h4
  obtain ⟨y0, y1⟩ := inB_rng h5
  obtain ⟨c0, c1⟩ := inB_rng h7
  obtain ⟨z0, z1⟩ := inB_rng h9
  have hg : gapI a b = if a > b then a - b else b - a := rfl
  rw [hg] at c0
  exact ⟨a0, a1, b0, b1, x0, x1, h3, y0, y1, h6, by split at c0 <;> omega, by split at c0 <;> omega, c1, h8, z0, z1, h10⟩
theorem turn_rng {a x : Int} (h : turnB a x = true) : 0 ≤ a ∧ a ≤ 6 ∧ -6 ≤ x ∧ x ≤ 6 := by
  unfold turnB partB at h
  simp only [Bool.and_eq_true] at h
  obtain ⟨h1, h2, _⟩ := h
  obtain ⟨a0, a1⟩ := inB_rng h1
  obtain ⟨x0, x1⟩ := inB_rng h2
  omega
theorem tot_rng {a b c : Int} (h : totB a b c = true) : gapI a b ≤ c ∧ c ≤ a + b := by
  unfold totB at h
  rw [Bool.and_eq_true] at h
  exact inB_rng h.1
theorem gap_nn (a b : Int) : 0 ≤ gapI a b := by unfold gapI; split <;> omega
set_option maxHeartbeats 1600000 in
theorem l03Can_any (a x b y c : Int) (w : World) : Calls Tryd.prog 34 #[.int .i64 a, .int .i64 x, .int .i64 b, .int .i64 y, .int .i64 c] w fun e w' => e = .returned (.bool (canB a x b y c)) ∧ w = w' := by
  cases h1 : turnB a x
  · have H := Lib.hid (show canB a x b y c = false by unfold canB; rw [h1]; rfl)
    go_enter Tryd.func34, Tryd.ntmps34
    go_wp2_with (first | (go_at_call 56; refine (l03Turn_any _ _ _).mono ?_; rintro e w' ⟨rfl, rfl⟩))
    go_ret
    exact ⟨ret_bool H.out.symm, rfl⟩
  · obtain ⟨a0, a1, x0, x1⟩ := turn_rng h1
    cases h2 : turnB b y
    · have H := Lib.hid (show canB a x b y c = false by unfold canB; rw [h1, h2]; rfl)
      go_enter Tryd.func34, Tryd.ntmps34
      go_wp2_with (first | (go_at_call 56; refine (l03Turn_any _ _ _).mono ?_; rintro e w' ⟨rfl, rfl⟩))
      go_ret
      exact ⟨ret_bool H.out.symm, rfl⟩
    · obtain ⟨b0, b1, y0, y1⟩ := turn_rng h2
      cases h3 : totB a b c
      · have H := Lib.hid (show canB a x b y c = false by unfold canB; rw [h1, h2, h3]; rfl)
        go_enter Tryd.func34, Tryd.ntmps34
        go_wp2_with (first | (go_at_call 56; refine (l03Turn_any _ _ _).mono ?_; rintro e w' ⟨rfl, rfl⟩) | (go_at_call 41; refine (l03Total_any a b c _ a0 (by omega) b0 (by omega)).mono ?_; rintro e w' ⟨rfl, rfl⟩))
        go_ret
        exact ⟨ret_bool H.out.symm, rfl⟩
      · obtain ⟨t0, t1⟩ := tot_rng h3
        have hgn := gap_nn a b
        have H := Lib.hid (show canB a x b y c = partB c (x + y) by unfold canB; rw [h1, h2, h3]; rfl)
        go_enter Tryd.func34, Tryd.ntmps34
        go_wp2_with (first | (go_at_call 56; refine (l03Turn_any _ _ _).mono ?_; rintro e w' ⟨rfl, rfl⟩) | (go_at_call 41; refine (l03Total_any a b c _ a0 (by omega) b0 (by omega)).mono ?_; rintro e w' ⟨rfl, rfl⟩) | (go_at_call 42; refine (l03Part_any c (x + y) _ (by omega) (by omega)).mono ?_; rintro e w' ⟨rfl, rfl⟩))
        go_ret
        exact ⟨ret_bool H.out.symm, rfl⟩
/-- What is told of a share. -/
def RetJ (a x b y c : Int) (w : World) (e : Ending) (w' : World) : Prop :=
  (canB a x b y c = true → e = .returned (.tuple #[.int .i64 (sqG (expJ a x b y c) (sumAll a x b y c)), .int .i64 (sqU (expJ a x b y c) (sumAll a x b y c)), .int .i64 (sqD (expJ a x b y c) (sumAll a x b y c)), .bool true])) ∧
  (canB a x b y c = false → e = .returned (.tuple #[.int .i64 0, .int .i64 0, .int .i64 0, .bool false])) ∧ Below w.heap.size w w'
theorem retJ_no {a x b y c : Int} {w w' : World} (h : canB a x b y c = false) (hb : Below w.heap.size w w') : RetJ a x b y c w (.returned (.tuple #[.int .i64 0, .int .i64 0, .int .i64 0, .bool false])) w' :=
  ⟨fun h' => absurd (h.symm.trans h') (by decide), fun _ => rfl, hb⟩
theorem retJ_yes {a x b y c : Int} {w w' : World} {r s t : Int} (h : canB a x b y c = true) (hr : r = sqG (expJ a x b y c) (sumAll a x b y c)) (hs : s = sqU (expJ a x b y c) (sumAll a x b y c)) (ht : t = sqD (expJ a x b y c) (sumAll a x b y c)) (hb : Below w.heap.size w w') :
    RetJ a x b y c w (.returned (.tuple #[.int .i64 r, .int .i64 s, .int .i64 t, .bool true])) w' :=
  ⟨fun _ => (by rw [hr, hs, ht]), fun h' => absurd (h.symm.trans h') (by decide), hb⟩
theorem specJ_any (a x b y c : Int) (w : World) : Calls Tryd.prog 11 #[.int .i64 a, .int .i64 x, .int .i64 b, .int .i64 y, .int .i64 c] w (RetJ a x b y c w) := by
  cases h : canB a x b y c
  · go_enter Tryd.func11, Tryd.ntmps11
    go_wp2_with (first | (go_at_call 34; refine (l03Can_any _ _ _ _ _ _).mono ?_; rintro e w' ⟨rfl, rfl⟩))
    refine bodyPost_ret (results_tmp4 rfl _ _ _) rfl ?_
    exact retJ_no h (Below.refl _ _)
  · have hj := canAt h
    obtain ⟨e1, e2, e3, q1, q2, q3⟩ := share_eq hj
    go_enter Tryd.func11, Tryd.ntmps11
    go_wp2_with (first | (go_at_call 34; refine (l03Can_any _ _ _ _ _ _).mono ?_; rintro e w' ⟨rfl, rfl⟩) | (go_at_call 35; refine (l03Join_any a x b y c _ hj e1 e2).mono ?_; rintro e w' ⟨rfl, hb⟩; rw [q1, q2, q3]))
    refine bodyPost_ret (results_tmp4 rfl _ _ _) rfl ?_
    exact retJ_yes h rfl rfl rfl hb
set_option maxHeartbeats 1600000 in
theorem implJ_no (a x b y c : Int) (w : World) (h : canB a x b y c = false) : Calls Tryd.prog 12 #[.int .i64 a, .int .i64 x, .int .i64 b, .int .i64 y, .int .i64 c] w (RetJ a x b y c w) := by
  have HC := Lib.hid h
  unfold canB at h
  cases h1 : turnB a x
  · clear h
    go_enter Tryd.func12, Tryd.ntmps12
    go_wp2_with (first | (go_at_call 36; refine (IsTurn_any _ _ _).mono ?_; rintro e w1 ⟨rfl, hb1⟩))
    refine bodyPost_ret (results_tmp4 rfl _ _ _) rfl ?_
    exact retJ_no HC.out hb1
  · obtain ⟨a0, a1, x0, x1⟩ := turn_rng h1
    cases h2 : turnB b y
    · clear h
      go_enter Tryd.func12, Tryd.ntmps12
      go_wp2_with fail
      refine (IsTurn_any _ _ _).mono ?_
      rintro e w1 ⟨rfl, hb1⟩
      rw [h1]
      go_wp2_with fail
      refine (IsTurn_any _ _ _).mono ?_
      rintro e w2 ⟨rfl, hb2⟩
      rw [h2]
      go_wp2_with fail
      refine bodyPost_ret (results_tmp4 rfl _ _ _) rfl ?_
      exact retJ_no HC.out (hb1.trans (hb2.mono hb1.size))
    · obtain ⟨b0, b1, y0, y1⟩ := turn_rng h2
      have ha6 : inB a 0 6 = true := inB_yes a0 a1
      have hb6 : inB b 0 6 = true := inB_yes b0 b1
      cases h3 : totB a b c
      · have h3' : isT a b c = false := by unfold isT; rw [h3]; simp
        clear h
        go_enter Tryd.func12, Tryd.ntmps12
        go_wp2_with fail
        refine (IsTurn_any _ _ _).mono ?_
        rintro e w1 ⟨rfl, hb1⟩
        rw [h1]
        go_wp2_with fail
        refine (IsTurn_any _ _ _).mono ?_
        rintro e w2 ⟨rfl, hb2⟩
        rw [h2]
        go_wp2_with fail
        refine (isTotal_any _ _ _ _).mono ?_
        rintro e w3 ⟨rfl, hb3⟩
        rw [h3']
        have hB2 := hb1.trans (hb2.mono hb1.size)
        go_wp2_with fail
        refine bodyPost_ret (results_tmp4 rfl _ _ _) rfl ?_
        exact retJ_no HC.out (hB2.trans (hb3.mono hB2.size))
      · have h3' : isT a b c = true := by unfold isT; rw [h3, ha6, hb6]; rfl
        obtain ⟨t0, t1⟩ := tot_rng h3
        have hgn := gap_nn a b
        have h4 : partB c (x + y) = false := by rw [h1, h2, h3] at h; exact h
        clear h
        go_enter Tryd.func12, Tryd.ntmps12
        go_wp2_with fail
        refine (IsTurn_any _ _ _).mono ?_
        rintro e w1 ⟨rfl, hb1⟩
        rw [h1]
        go_wp2_with fail
        refine (IsTurn_any _ _ _).mono ?_
        rintro e w2 ⟨rfl, hb2⟩
        rw [h2]
        go_wp2_with fail
        refine (isTotal_any _ _ _ _).mono ?_
        rintro e w3 ⟨rfl, hb3⟩
        rw [h3']
        have hB2 := hb1.trans (hb2.mono hb1.size)
        go_wp2_with (first | (go_at_call 38; refine (isPart_any c (x + y) _ (by omega) (by omega)).mono ?_; rintro e w' ⟨rfl, rfl⟩))
        refine bodyPost_ret (results_tmp4 rfl _ _ _) rfl ?_
        exact retJ_no HC.out (hB2.trans (hb3.mono hB2.size))
set_option maxHeartbeats 1600000 in
theorem implJ_yes (a x b y c : Int) (w : World) (hG : Glob w) (h : canB a x b y c = true) : Calls Tryd.prog 12 #[.int .i64 a, .int .i64 x, .int .i64 b, .int .i64 y, .int .i64 c] w (RetJ a x b y c w) := by
  have HC := Lib.hid h
  have hj := canAt h
  obtain ⟨e1, e2, e3, _, _, _⟩ := share_eq hj
  unfold canB at h
  simp only [Bool.and_eq_true] at h
  obtain ⟨h1, h2, h3, h4⟩ := h
  obtain ⟨a0, a1, x0, x1⟩ := turn_rng h1
  obtain ⟨b0, b1, y0, y1⟩ := turn_rng h2
  have ha6 : inB a 0 6 = true := inB_yes a0 a1
  have hb6 : inB b 0 6 = true := inB_yes b0 b1
  have h3' : isT a b c = true := by unfold isT; rw [h3, ha6, hb6]; rfl
  obtain ⟨t0, t1⟩ := tot_rng h3
  have hgn := gap_nn a b
  go_enter Tryd.func12, Tryd.ntmps12
  go_wp2_with fail
  refine (IsTurn_any _ _ _).mono ?_
  rintro e w1 ⟨rfl, hb1⟩
  rw [h1]
  go_wp2_with fail
  refine (IsTurn_any _ _ _).mono ?_
  rintro e w2 ⟨rfl, hb2⟩
  rw [h2]
  go_wp2_with fail
  refine (isTotal_any _ _ _ _).mono ?_
  rintro e w3 ⟨rfl, hb3⟩
  rw [h3']
  have hB2 := hb1.trans (hb2.mono hb1.size)
  have hB3 := hB2.trans (hb3.mono hB2.size)
  have hG3 := hG.below hB3
  go_wp2_with (first | (go_at_call 38; refine (isPart_any c (x + y) _ (by omega) (by omega)).mono ?_; rintro e w' ⟨rfl, rfl⟩))
  refine (joinShare_any a x b y c _ hG3 hj e1 e3).mono ?_
  rintro e w4 ⟨rfl, hb4⟩
  unfold frac
  have hB4 := hB3.trans (hb4.mono hB3.size)
  go_wp2_with fail
  go_quiet (fail)
  all_goals go_wp2_with fail
  all_goals refine bodyPost_ret (results_tmp4 rfl _ _ _) rfl ?_
  all_goals
    first
      | exact retJ_yes HC.out rfl rfl rfl (Below.drewN (hB4.alloc hB4.size _) _)
      | exact retJ_yes HC.out rfl rfl rfl (hB4.alloc hB4.size _)
end Go.Proofs.YtffhnkhjfggooabDoor
