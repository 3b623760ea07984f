
/- Whether a list has lines: as the model asks it, and as the program does. -/
import Derived.Test.YtmpcalpapkedhaaLnC
namespace Go.Proofs.Ytmpcalpapkedhaa
open Go Go.ChangeShapes Go.WideShapes Go.ChangeAt Go.RowKit

def okLn (l : Ln) : Bool := okLin l.p l.h l.d l.k
def allLn (X : Nat → Ln) (n : Nat) : Bool := (List.range n).all fun i => okLn (X i)
theorem allLn_no {X : Nat → Ln} {n k : Nat} (hk : k < n) (h : okLn (X k) = false) : allLn X n = false := by
  unfold allLn
  rw [List.all_eq_false]
  exact ⟨k, List.mem_range.2 hk, by simp [h]⟩
theorem allLn_yes {X : Nat → Ln} {n : Nat} (h : ∀ k, k < n → okLn (X k) = true) : allLn X n = true := by
  unfold allLn
  rw [List.all_eq_true]
  exact fun k hk => h k (List.mem_range.1 hk)
theorem allLn_at {X : Nat → Ln} {n : Nat} (h : allLn X n = true) : ∀ k, k < n → okLn (X k) = true := by
  unfold allLn at h
  rw [List.all_eq_true] at h
  exact fun k hk => h k (List.mem_range.2 hk)
set_option maxRecDepth 100000 in
set_option maxHeartbeats 1600000 in
theorem l05Lines_any (xa : Option Addr) (n cap : Nat) (X : Nat → Ln) (w : World) (hX : RdN w xa n X) (hn : n ≤ 1048576) (R : Bool) (hR : Hid (R = (allLn X n && decide (n ≤ 12)))) :
    Calls Try.prog 93 #[.slice xa n cap] w fun e w' => e = .returned (.bool R) ∧ ∃ m, w' = w.drewN m := by
  obtain ⟨xb, xo, hxa, hcx⟩ := hX
  have HX := Lib.hid hcx
  clear hcx
  go_enter Try.func93, Try.ntmps93
  go_wp2
  go_loopw [6] (fun i wr => ∃ k m : Nat, k ≤ n ∧ i = .int .i64 k ∧ wr = w.drewN m ∧ Hid (∀ j, j < k → okLn (X j) = true)) (fun i _ => n - (intOf i).toNat)
  case atStart => exact ⟨0, 0, Nat.zero_le _, rfl, rfl, Lib.hid fun j hj => absurd hj (Nat.not_lt_zero _)⟩
  case round =>
    obtain ⟨k, m, hk, rfl, rfl, HF⟩ := hrel
    by_cases hlt : k < n
    · have e := hxa (by omega)
      subst e
      have HV := Lib.hid (l05Line_any xb (xo + k * 4) (X k).p (X k).h (X k).d (X k).k (w.drewN m) (HX.out k hlt))
      cases c : okLn (X k)
      · have c' : okLin (X k).p (X k).h (X k).d (X k).k = false := c
        rw [c'] at HV
        have HQ := Lib.hid (show false = R by rw [hR.out, allLn_no hlt c]; rfl)
        clear c c'
        go_wp2_with (go_at_call 169; refine HV.out.mono ?_; rintro e w' ⟨rfl, q, rfl⟩)
        go_ret
        exact ⟨ret_bool HQ.out, _, rfl⟩
      · have c' : okLin (X k).p (X k).h (X k).d (X k).k = true := c
        rw [c'] at HV
        have HN := Lib.hid (show ∀ j, j < k + 1 → okLn (X j) = true from fun j hj => by
          by_cases hj' : j < k
          · exact HF.out j hj'
          · rw [show j = k by omega]; exact c)
        clear c c'
        go_wp2_with (go_at_call 169; refine HV.out.mono ?_; rintro e w' ⟨rfl, q, rfl⟩)
        go_roundw
        case rel => exact ⟨k + 1, _, by omega, by go_num, rfl, HN⟩
        case measure => simp [intOf]; omega
    · have hkn : k = n := by omega
      subst hkn
      have HQ := Lib.hid (show decide ((k : Int) ≤ 12) = R by
        rw [hR.out, allLn_yes HF.out, Bool.true_and]
        exact decide_eq_decide.2 (by omega))
      go_wp2
      go_ret
      exact ⟨ret_bool HQ.out, m, rfl⟩
set_option maxRecDepth 100000 in
set_option maxHeartbeats 800000 in
theorem badLine_any (l : Ln) (w : World) (R : Bool) (hR : Hid (R = !okLn l)) : Calls Try.prog 171 #[.agg #[.float .f32 l.p, .float .f32 l.h, .float .f32 l.d, .int .i64 l.k]] w fun e w' => e = .returned (.bool R) ∧ Below w.heap.size w w' := by
  have HB := (Below.refl _ w).alloc (Nat.le_refl _) (.cells #[.float .f32 l.p, .float .f32 l.h, .float .f32 l.d, .int .i64 l.k] 120)
  have HV := Lib.hid (fun w => implVL_any l.p l.h l.d l.k w)
  obtain ⟨b, hb⟩ : ∃ b, b = okLin l.p l.h l.d l.k := ⟨_, rfl⟩
  rw [← hb] at HV
  have HQ := Lib.hid (show (!b) = R by rw [hR.out, okLn, hb])
  clear hb
  go_enter Try.func171, Try.ntmps171
  go_wp2_with (go_at_call 172; refine (HV.out _).mono ?_; rintro e w1 ⟨rfl, B0⟩)
  go_ret
  exact ⟨ret_bool HQ.out, HB.trans (B0.mono HB.size)⟩
def OddLn (w : World) (b : Bool) (e : Ending) (w' : World) : Prop := ∃ r : Int, e = .returned (.int .i64 r) ∧ -1 ≤ r ∧ decide (0 ≤ r) = !b ∧ Below w.heap.size w w'
set_option maxRecDepth 100000 in
set_option maxHeartbeats 1600000 in
theorem indexLn_any (xa : Option Addr) (n cap : Nat) (X : Nat → Ln) (w : World) (hX : RdN w xa n X) (hn : n ≤ 1048576) :
    Calls Try.prog 220 #[.slice xa n cap, .func (.func 171) #[] #[]] w (OddLn w (allLn X n)) := by
  obtain ⟨xb, xo, hxa, hcx⟩ := hX
  have HX := Lib.hid hcx
  obtain ⟨R, hR⟩ : ∃ R, R = allLn X n := ⟨_, rfl⟩
  rw [← hR]
  have HR := Lib.hid hR
  clear hcx hR
  go_enter Try.func220, Try.ntmps220
  go_wp2
  go_loopw [8] (fun i wr => ∃ k : Nat, k ≤ n ∧ i = .int .i64 k ∧ Below w.heap.size w wr ∧ Hid (∀ j, j < k → okLn (X j) = true)) (fun i _ => n - (intOf i).toNat)
  case atStart => exact ⟨0, Nat.zero_le _, rfl, Below.refl _ _, Lib.hid fun j hj => absurd hj (Nat.not_lt_zero _)⟩
  case round =>
    obtain ⟨k, hk, rfl, hBk, HF⟩ := hrel
    by_cases hlt : k < n
    · have e := hxa (by omega)
      subst e
      obtain ⟨r0, r1, r2, r3⟩ := LnAt.below (HX.out k hlt) hBk
      have hsz := hBk.size
      cases c : okLn (X k)
      · have HO := Lib.hid (fun w => badLine_any (X k) w true (Lib.hid (by rw [c]; rfl)))
        have HN := Lib.hid (show R = false by rw [HR.out, allLn_no hlt c])
        go_wp2_with (go_at_call 171; refine (HO.out _).mono ?_; rintro e w2 ⟨rfl, B0⟩; have B2 := hBk.trans (B0.mono hsz))
        go_ret
        exact ⟨k, rfl, by omega, by rw [HN.out]; simp, B2⟩
      · have HO := Lib.hid (fun w => badLine_any (X k) w false (Lib.hid (by rw [c]; rfl)))
        have HN := Lib.hid (show ∀ j, j < k + 1 → okLn (X j) = true from fun j hj => by
          by_cases hj' : j < k
          · exact HF.out j hj'
          · rw [show j = k by omega]; exact c)
        go_wp2_with (go_at_call 171; refine (HO.out _).mono ?_; rintro e w2 ⟨rfl, B0⟩; have B2 := hBk.trans (B0.mono hsz))
        go_roundw
        case rel => exact ⟨k + 1, by omega, by go_num, B2, HN⟩
        case measure => simp [intOf]; omega
    · have hkn : k = n := by omega
      subst hkn
      have HN := Lib.hid (show R = true by rw [HR.out, allLn_yes HF.out])
      go_wp2
      go_ret
      exact ⟨-1, rfl, by omega, by rw [HN.out]; simp, hBk⟩
set_option maxRecDepth 100000 in
set_option maxHeartbeats 1600000 in
theorem areLines_any (xa : Option Addr) (n cap : Nat) (X : Nat → Ln) (M : Nat) (w : World) (hX : RdN w xa n X) (hn : n ≤ 1048576) (R : Bool) (hR : Hid (R = (allLn X n && decide (n ≤ M)))) :
    Calls Try.prog 96 #[.slice xa n cap, .int .i64 (M : Int)] w fun e w' => e = .returned (.bool R) ∧ Below w.heap.size w w' := by
  have hdec : decide ((n : Int) ≤ (M : Int)) = decide (n ≤ M) := decide_eq_decide.2 (by omega)
  by_cases h : n ≤ M
  · have d : decide ((n : Int) ≤ (M : Int)) = true := by rw [hdec, decide_eq_true h]
    have HQ := Lib.hid (show allLn X n = R by rw [hR.out, decide_eq_true h, Bool.and_true])
    clear hdec
    go_enter Try.func96, Try.ntmps96
    go_wp2_with (first | (go_at_call 220; refine (indexLn_any _ _ _ X _ (by exact hX) hn).mono ?_; rintro e w' ⟨r, rfl, hr, hd, B0⟩) | go_in)
    go_ret
    refine ⟨ret_bool ?_, B0⟩
    have hQ := HQ.out
    clear HQ
    rw [← hQ]
    try simp_all
  · have d : decide ((n : Int) ≤ (M : Int)) = false := by rw [hdec, decide_eq_false h]
    have HQ := Lib.hid (show false = R by rw [hR.out, decide_eq_false h, Bool.and_false])
    clear hdec
    go_enter Try.func96, Try.ntmps96
    go_wp2
    go_ret
    exact ⟨ret_bool HQ.out, Below.refl _ _⟩
end Go.Proofs.Ytmpcalpapkedhaa
