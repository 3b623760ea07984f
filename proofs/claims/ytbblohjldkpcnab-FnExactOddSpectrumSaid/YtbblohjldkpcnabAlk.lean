/- Two lists of the same length: as the model asks it, and as the program does; the sum of the products of two, as the model makes it. -/
import Derived.Test.YtbblohjldkpcnabLt5
import Derived.Test.YtbblohjldkpcnabS7
namespace Go.Proofs.Ytbblohjldkpcnab
open Go Go.ChangeShapes Go.WideShapes Go.ChangeAt Go.RowKit

def okTwo (X : Nat → Nat) (n : Nat) (Y : Nat → Nat) (m : Nat) : Bool := okLst X n && okLst Y m && decide ((n : Int) = (m : Int))
theorem okTwo_at {X Y : Nat → Nat} {n m : Nat} (h : okTwo X n Y m = true) : okLst X n = true ∧ okLst Y m = true ∧ n = m := by
  unfold okTwo at h
  simp only [Bool.and_eq_true, decide_eq_true_eq] at h
  exact ⟨h.1.1, h.1.2, by omega⟩
set_option maxRecDepth 100000 in
set_option maxHeartbeats 1600000 in
theorem specTwo_any (xa : Option Addr) (n cx : Nat) (X : Nat → Nat) (ya : Option Addr) (m cy : Nat) (Y : Nat → Nat) (w : World) (hX : Rd w xa n X) (hY : Rd w ya m Y) (hn : n ≤ 1048576) (hm : m ≤ 1048576) (b : Bool) (hb : Hid (b = okTwo X n Y m)) :
    Calls Try.prog 71 #[.slice xa n cx, .slice ya m cy] w fun e w' => e = .returned (.bool b) ∧ ∃ q, w' = w.drewN q := by
  obtain ⟨p, hp⟩ : ∃ p, p = okLst X n := ⟨_, rfl⟩
  obtain ⟨q, hq⟩ : ∃ q, q = okLst Y m := ⟨_, rfl⟩
  obtain ⟨r, hr⟩ : ∃ r, r = decide ((n : Int) = (m : Int)) := ⟨_, rfl⟩
  have HP := Lib.hid (fun w hX => specLst_any xa n cx X w hX hn p (Lib.hid hp))
  have HQ := Lib.hid (fun w hY => specLst_any ya m cy Y w hY hm q (Lib.hid hq))
  have HR := Lib.hid (show b = (p && q && r) by rw [hb.out, okTwo, hp, hq, hr])
  have e3 : ((n : Int) == (m : Int)) = r := by rw [hr]; by_cases h : (n : Int) = (m : Int) <;> simp [h]
  clear hb hp hq hr
  cases p
  · have HN := Lib.hid (show false = b by rw [HR.out]; rfl)
    go_enter Try.func71, Try.ntmps71
    go_wp2_with (go_at_call 76; refine (HP.out _ (by exact hX)).mono ?_; rintro e w' ⟨rfl, q1, rfl⟩)
    go_ret
    exact ⟨ret_bool HN.out, _, rfl⟩
  · cases q
    · have HN := Lib.hid (show false = b by rw [HR.out]; rfl)
      go_enter Try.func71, Try.ntmps71
      go_wp2_with fail
      refine (HP.out _ (by exact hX)).mono ?_
      rintro e w' ⟨rfl, q1, rfl⟩
      go_wp2_with fail
      refine (HQ.out _ (by exact hY)).mono ?_
      rintro e w' ⟨rfl, q2, rfl⟩
      go_wp2
      go_ret
      exact ⟨ret_bool HN.out, _, rfl⟩
    · have HN := Lib.hid (show r = b by rw [HR.out]; cases r <;> rfl)
      go_enter Try.func71, Try.ntmps71
      go_wp2_with fail
      refine (HP.out _ (by exact hX)).mono ?_
      rintro e w' ⟨rfl, q1, rfl⟩
      go_wp2_with fail
      refine (HQ.out _ (by exact hY)).mono ?_
      rintro e w' ⟨rfl, q2, rfl⟩
      go_wp2
      go_ret
      exact ⟨ret_bool HN.out, _, rfl⟩
set_option maxRecDepth 100000 in
set_option maxHeartbeats 1600000 in
theorem implTwo_any (xa : Option Addr) (n cx : Nat) (X : Nat → Nat) (ya : Option Addr) (m cy : Nat) (Y : Nat → Nat) (w : World) (hX : Rd w xa n X) (hY : Rd w ya m Y) (hn : n ≤ 1048576) (hm : m ≤ 1048576) (b : Bool) (hb : Hid (b = okTwo X n Y m)) :
    Calls Try.prog 131 #[.slice xa n cx, .slice ya m cy] w fun e w' => e = .returned (.bool b) ∧ ∃ q, w' = w.drewN q := by
  obtain ⟨p, hp⟩ : ∃ p, p = okLst X n := ⟨_, rfl⟩
  obtain ⟨q, hq⟩ : ∃ q, q = okLst Y m := ⟨_, rfl⟩
  obtain ⟨r, hr⟩ : ∃ r, r = decide ((n : Int) = (m : Int)) := ⟨_, rfl⟩
  have HP := Lib.hid (fun w hX => implLst_any xa n cx X w hX hn p (Lib.hid hp))
  have HQ := Lib.hid (fun w hY => implLst_any ya m cy Y w hY hm q (Lib.hid hq))
  have HR := Lib.hid (show b = (p && q && r) by rw [hb.out, okTwo, hp, hq, hr])
  have e3 : ((n : Int) == (m : Int)) = r := by rw [hr]; by_cases h : (n : Int) = (m : Int) <;> simp [h]
  clear hb hp hq hr
  cases p
  · have HN := Lib.hid (show false = b by rw [HR.out]; rfl)
    go_enter Try.func131, Try.ntmps131
    go_wp2_with (go_at_call 79; refine (HP.out _ (by exact hX)).mono ?_; rintro e w' ⟨rfl, q1, rfl⟩)
    go_ret
    exact ⟨ret_bool HN.out, _, rfl⟩
  · cases q
    · have HN := Lib.hid (show false = b by rw [HR.out]; rfl)
      go_enter Try.func131, Try.ntmps131
      go_wp2_with fail
      refine (HP.out _ (by exact hX)).mono ?_
      rintro e w' ⟨rfl, q1, rfl⟩
      go_wp2_with fail
      refine (HQ.out _ (by exact hY)).mono ?_
      rintro e w' ⟨rfl, q2, rfl⟩
      go_wp2
      go_ret
      exact ⟨ret_bool HN.out, _, rfl⟩
    · have HN := Lib.hid (show r = b by rw [HR.out]; cases r <;> rfl)
      go_enter Try.func131, Try.ntmps131
      go_wp2_with fail
      refine (HP.out _ (by exact hX)).mono ?_
      rintro e w' ⟨rfl, q1, rfl⟩
      go_wp2_with fail
      refine (HQ.out _ (by exact hY)).mono ?_
      rintro e w' ⟨rfl, q2, rfl⟩
      go_wp2
      go_ret
      exact ⟨ret_bool HN.out, _, rfl⟩
set_option maxHeartbeats 1600000 in
theorem l05Prod_any (xa ya : Option Addr) (n m cx cy : Nat) (X Y : Nat → Nat) (w : World) (hX : Rd w xa n X) (hY : Rd w ya m Y) (hn : n ≤ 1048576) (hm : n ≤ m) :
    Calls Try.prog 129 #[.slice xa n cx, .slice ya m cy] w (FltRet (dotW X Y n) w) := by
  obtain ⟨xb, xo, hxa, hcx⟩ := hX
  obtain ⟨yb, yo, hya, hcy⟩ := hY
  have HX := Lib.hid hcx
  have HY := Lib.hid hcy
  clear hcx hcy
  go_enter Try.func129, Try.ntmps129
  go_wp2
  go_loopw [5, 9] (fun q i wr => ∃ k m s : Nat, k ≤ n ∧ i = .int .i64 k ∧ wr = w.drewN m ∧ q = .float .f32 (pick .f32 (dotW X Y k) s)) (fun _ i _ => n - (intOf i).toNat)
  case atStart => exact ⟨0, 0, 0, Nat.zero_le _, rfl, rfl, by rw [show dotW X Y 0 = 0 from rfl, pick_zero]⟩
  case round =>
    obtain ⟨k, q, s, hk, rfl, rfl, rfl⟩ := hrel
    by_cases hlt : k < n
    · have e := hxa (by omega)
      subst e
      have e := hya (by omega)
      subst e
      have h1 := HX.out k hlt
      have h2 := HY.out k (by omega)
      have h3 : (k : Int) < (m : Int) := by omega
      have hm' := mul32_run
      have ha := add32_run
      have hp := fbin_pick_l .add .f32
      have hq := fbin_pick_r .add .f32
      have hd := dotW_succ X Y k
      obtain ⟨D, hD⟩ : ∃ D, D = dotW X Y k := ⟨_, rfl⟩
      rw [← hD] at hd
      have HD := Lib.hid hD
      have HE := Lib.hid hd
      rw [← HD.out]
      clear hD hd
      go_wp2_with fail
      go_region_with fail
      all_goals go_wp2
      all_goals go_roundw
      all_goals first | exact ⟨k + 1, _, _, by omega, by go_num, rfl, by rw [← HE.out]⟩ | (simp [intOf]; omega)
    · have hkn : k = n := by omega
      subst hkn
      go_wp2
      go_ret
      exact ⟨s, q, rfl, rfl⟩
end Go.Proofs.Ytbblohjldkpcnab
