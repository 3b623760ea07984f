/- Of any two lists of numbers the program tells the sum of the products just where the model tells it, and the same; the lists are not changed. -/
import Derived.Test.YtdoaajmojfdjoaaDot
namespace Go.Proofs.Ytdoaajmojfdjoaa
open Go Go.ChangeShapes Go.WideShapes Go.ChangeAt Go.RowKit

/-- Both lists are lists of as many finite numbers, and so is the sum of their products. -/
def overOk (X Y : Nat → Nat) (n n' : Nat) : Bool := decide (1 ≤ n ∧ n ≤ 48 ∧ n = n') && finL X n && finL Y n && isFin .f32 (dotW X Y n)
def overR (X Y : Nat → Nat) (n n' : Nat) : Nat := if overOk X Y n n' = true then dotW X Y n else 0
theorem over_no {X Y : Nat → Nat} {n n' : Nat} (h : overOk X Y n n' = false) (w : World) : NumRet (overR X Y n n') (overOk X Y n n') w (.returned (.tuple #[.float .f32 0, .bool false])) w := by
  rw [overR, h]
  exact NumRet.no w
theorem NumRet.drew {R : Nat} {ok : Bool} {w : World} {e : Ending} {w' : World} {m : Nat} (h : NumRet R ok (w.drewN m) e w') : NumRet R ok w e w' := by
  obtain ⟨s, k, he, hw⟩ := h
  exact ⟨s, m + k, he, by rw [hw, World.drewN_drewN]⟩
theorem over_noN {X Y : Nat → Nat} {n n' : Nat} (h : overOk X Y n n' = false) (w : World) (m : Nat) : NumRet (overR X Y n n') (overOk X Y n n') w (.returned (.tuple #[.float .f32 0, .bool false])) (w.drewN m) := (over_no h _).drew
theorem not_ok_len {X Y : Nat → Nat} {n n' : Nat} (h : ¬ (1 ≤ n ∧ n ≤ 48 ∧ n = n')) : overOk X Y n n' = false := by simp only [overOk, decide_eq_false h, Bool.false_and]
theorem not_ok_x {X Y : Nat → Nat} {n n' : Nat} (h : finL X n = false) : overOk X Y n n' = false := by simp [overOk, h]
theorem not_ok_y {X Y : Nat → Nat} {n n' : Nat} (h : finL Y n' = false) : overOk X Y n n' = false := by
  by_cases hn : n = n'
  · subst hn; simp [overOk, h]
  · exact not_ok_len fun hh => hn hh.2.2
theorem not_ok_d {X Y : Nat → Nat} {n n' : Nat} (h : isFin .f32 (dotW X Y n) = false) : overOk X Y n n' = false := by simp [overOk, h]
theorem overOk_yes {X Y : Nat → Nat} {n : Nat} (h1 : 1 ≤ n) (h2 : n ≤ 48) (hx : finL X n = true) (hy : finL Y n = true) : overOk X Y n n = isFin .f32 (dotW X Y n) := by
  simp [overOk, hx, hy, h1, h2]
theorem l02NumberP_any (D s : Nat) (w : World) : Calls Try.prog 80 #[.float .f32 (pick .f32 D s)] w (NumRet (if isFin .f32 D = true then D else 0) (isFin .f32 D) w) := by
  refine (l02Number_any _ _).mono ?_
  rintro e w' ⟨rfl, m, rfl⟩
  rw [isFin_pick]
  cases hf : isFin .f32 D
  · exact ⟨0, m, by rw [show (if false = true then D else 0) = 0 from rfl, pick_zero]; rfl, rfl⟩
  · exact ⟨s, m, rfl, rfl⟩
theorem over_yes {X Y : Nat → Nat} {n : Nat} {b : Bool} (h : overOk X Y n n = b) (hb : b = isFin .f32 (dotW X Y n)) {w : World} {m : Nat} {e : Ending} {w' : World}
    (hh : NumRet (if isFin .f32 (dotW X Y n) = true then dotW X Y n else 0) (isFin .f32 (dotW X Y n)) (w.drewN m) e w') : NumRet (overR X Y n n) (overOk X Y n n) w e w' := by
  rw [overR, h, hb]
  exact hh.drew
set_option maxHeartbeats 3200000 in
theorem specOver_any (xa ya : Option Addr) (n n' cx cy : Nat) (X Y : Nat → Nat) (w : World) (hX : Rd w xa n X) (hY : Rd w ya n' Y) (hn : n ≤ 1048576) (hn' : n' ≤ 1048576) :
    Calls Try.prog 47 #[.slice xa n cx, .slice ya n' cy] w (NumRet (overR X Y n n') (overOk X Y n n') w) := by
  by_cases h1 : 1 ≤ n
  · have d1 : decide ((n : Int) < (1 : Int)) = false := decide_eq_false (by omega)
    by_cases h2 : n ≤ 48
    · have d2 : decide ((48 : Int) < (n : Int)) = false := decide_eq_false (by omega)
      by_cases h3 : n = n'
      · subst h3
        cases hf : finL X n
        · have hno := Lib.hid (not_ok_x (Y := Y) (n' := n) hf)
          go_enter Try.func47, Try.ntmps47
          go_wp2_with (go_at_call 74; refine (l02Finite_any _ _ _ X _ hX hn).mono ?_; rintro e w' ⟨rfl, q, rfl⟩)
          go_ret2
          exact over_noN hno.out _ _
        · cases hg : finL Y n
          · have hno := Lib.hid (not_ok_y (X := X) (n := n) hg)
            go_enter Try.func47, Try.ntmps47
            go_wp2_with fail
            refine (l02Finite_any _ _ _ X _ hX hn).mono ?_
            rintro e w' ⟨rfl, q, rfl⟩
            go_wp2_with fail
            refine (l02Finite_any _ _ _ Y _ (hY.drew q) hn).mono ?_
            rintro e w' ⟨rfl, q2, rfl⟩
            go_wp2
            go_ret2
            exact over_noN hno.out _ _
          · have hyes := Lib.hid (overOk_yes h1 h2 hf hg)
            go_enter Try.func47, Try.ntmps47
            go_wp2_with fail
            refine (l02Finite_any _ _ _ X _ hX hn).mono ?_
            rintro e w' ⟨rfl, q, rfl⟩
            go_wp2_with fail
            refine (l02Finite_any _ _ _ Y _ (hY.drew q) hn).mono ?_
            rintro e w' ⟨rfl, q2, rfl⟩
            go_wp2_with fail
            refine (l01Dot_any _ _ _ _ _ X Y _ (hX.drew _) (hY.drew _) hn).mono ?_
            rintro e w' ⟨s, q3, rfl, rfl⟩
            go_wp2_with fail
            refine (l02NumberP_any _ _ _).mono ?_
            rintro e w' hh
            have hh' := over_yes hyes.out rfl hh
            obtain ⟨s2, q4, rfl, rfl⟩ := hh'
            clear hh
            go_wp2
            go_ret2
            exact ⟨s2, _, rfl, rfl⟩
      · have hno := Lib.hid (not_ok_len (X := X) (Y := Y) (n := n) (n' := n') (fun h => h3 h.2.2))
        have d3 : ((n' : Int) != (n : Int)) = true := by simpa using (by omega : ¬ (n' : Int) = (n : Int))
        have d4 : (n' != n) = true := by simpa using (by omega : ¬ n' = n)
        go_enter Try.func47, Try.ntmps47
        go_wp2
        go_ret2
        exact over_no hno.out _
    · have hno := Lib.hid (not_ok_len (X := X) (Y := Y) (n := n) (n' := n') (fun h => h2 h.2.1))
      have d2 : decide ((48 : Int) < (n : Int)) = true := decide_eq_true (by omega)
      go_enter Try.func47, Try.ntmps47
      go_wp2
      go_ret2
      exact over_no hno.out _
  · have hno := Lib.hid (not_ok_len (X := X) (Y := Y) (n := n) (n' := n') (fun h => h1 h.1))
    have d1 : decide ((n : Int) < (1 : Int)) = true := decide_eq_true (by omega)
    go_enter Try.func47, Try.ntmps47
    go_wp2
    go_ret2
    exact over_no hno.out _
set_option maxHeartbeats 3200000 in
theorem implOver_any (xa ya : Option Addr) (n n' cx cy : Nat) (X Y : Nat → Nat) (w : World) (hX : Rd w xa n X) (hY : Rd w ya n' Y) (hn : n ≤ 1048576) (hn' : n' ≤ 1048576) :
    Calls Try.prog 48 #[.slice xa n cx, .slice ya n' cy] w (NumRet (overR X Y n n') (overOk X Y n n') w) := by
  by_cases h1 : 1 ≤ n
  · have d1 : decide ((n : Int) < (1 : Int)) = false := decide_eq_false (by omega)
    by_cases h2 : n ≤ 48
    · have d2 : decide ((48 : Int) < (n : Int)) = false := decide_eq_false (by omega)
      cases hf : finL X n
      · have hno := Lib.hid (not_ok_x (Y := Y) (n' := n') hf)
        go_enter Try.func48, Try.ntmps48
        go_wp2_with (go_at_call 51; refine (allFinite_any _ _ _ X _ hX hn).mono ?_; rintro e w' ⟨rfl, q, rfl⟩)
        go_ret2
        exact over_noN hno.out _ _
      · cases hg : finL Y n'
        · have hno := Lib.hid (not_ok_y (X := X) (n := n) hg)
          go_enter Try.func48, Try.ntmps48
          go_wp2_with fail
          refine (allFinite_any _ _ _ X _ hX hn).mono ?_
          rintro e w' ⟨rfl, q, rfl⟩
          go_wp2_with fail
          refine (allFinite_any _ _ _ Y _ (hY.drew q) hn').mono ?_
          rintro e w' ⟨rfl, q2, rfl⟩
          go_wp2
          go_ret2
          exact over_noN hno.out _ _
        · by_cases h3 : n = n'
          · subst h3
            cases hd : isFin .f32 (dotW X Y n)
            · have hno := Lib.hid (not_ok_d (X := X) (Y := Y) (n := n) (n' := n) hd)
              have hp : ∀ s, isFin .f32 (pick .f32 (dotW X Y n) s) = false := fun s => by rw [isFin_pick, hd]
              go_enter Try.func48, Try.ntmps48
              go_wp2_with fail
              refine (allFinite_any _ _ _ X _ hX hn).mono ?_
              rintro e w' ⟨rfl, q, rfl⟩
              go_wp2_with fail
              refine (allFinite_any _ _ _ Y _ (hY.drew q) hn').mono ?_
              rintro e w' ⟨rfl, q2, rfl⟩
              go_wp2_with fail
              refine (DotNumbers_any _ _ _ _ _ X Y _ (hX.drew _) (hY.drew _) (by omega)).mono ?_
              rintro e w' ⟨s, q3, rfl, rfl⟩
              go_wp2_with (go_at_call 56; refine (IsFinite_any _ _).mono ?_; rintro e w' ⟨rfl, q, rfl⟩)
              go_ret2
              exact over_noN hno.out _ _
            · have hyes := Lib.hid ((overOk_yes h1 h2 hf hg).trans hd)
              have hp : ∀ s, isFin .f32 (pick .f32 (dotW X Y n) s) = true := fun s => by rw [isFin_pick, hd]
              go_enter Try.func48, Try.ntmps48
              go_wp2_with fail
              refine (allFinite_any _ _ _ X _ hX hn).mono ?_
              rintro e w' ⟨rfl, q, rfl⟩
              go_wp2_with fail
              refine (allFinite_any _ _ _ Y _ (hY.drew q) hn').mono ?_
              rintro e w' ⟨rfl, q2, rfl⟩
              go_wp2_with fail
              refine (DotNumbers_any _ _ _ _ _ X Y _ (hX.drew _) (hY.drew _) (by omega)).mono ?_
              rintro e w' ⟨s, q3, rfl, rfl⟩
              go_wp2_with (go_at_call 56; refine (IsFinite_any _ _).mono ?_; rintro e w' ⟨rfl, q, rfl⟩)
              go_ret2
              rw [overR, hyes.out]
              exact ⟨s, _, rfl, rfl⟩
          · have hno := Lib.hid (not_ok_len (X := X) (Y := Y) (n := n) (n' := n') (fun h => h3 h.2.2))
            go_enter Try.func48, Try.ntmps48
            go_wp2_with fail
            refine (allFinite_any _ _ _ X _ hX hn).mono ?_
            rintro e w' ⟨rfl, q, rfl⟩
            go_wp2_with fail
            refine (allFinite_any _ _ _ Y _ (hY.drew q) hn').mono ?_
            rintro e w' ⟨rfl, q2, rfl⟩
            go_wp2_with fail
            refine (DotNumbers_no _ _ _ _ _ _ _ (.inr h3) hn).mono ?_
            rintro e w' ⟨s, q3, rfl, rfl⟩
            go_wp2
            go_ret2
            exact over_noN hno.out _ _
    · have hno := Lib.hid (not_ok_len (X := X) (Y := Y) (n := n) (n' := n') (fun h => h2 h.2.1))
      have d2 : decide ((48 : Int) < (n : Int)) = true := decide_eq_true (by omega)
      go_enter Try.func48, Try.ntmps48
      go_wp2
      go_ret2
      exact over_no hno.out _
  · have hno := Lib.hid (not_ok_len (X := X) (Y := Y) (n := n) (n' := n') (fun h => h1 h.1))
    have d1 : decide ((n : Int) < (1 : Int)) = true := decide_eq_true (by omega)
    go_enter Try.func48, Try.ntmps48
    go_wp2
    go_ret2
    exact over_no hno.out _
end Go.Proofs.Ytdoaajmojfdjoaa
