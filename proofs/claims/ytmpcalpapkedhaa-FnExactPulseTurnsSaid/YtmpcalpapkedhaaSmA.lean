
/- Whether rows of numbers are the same, as the model asks it. -/
import Derived.Test.YtmpcalpapkedhaaFinL
import Derived.Test.YtmpcalpapkedhaaBits
import Derived.Deep.QuietTactic
namespace Go.Proofs.Ytmpcalpapkedhaa
open Go Go.ChangeShapes Go.WideShapes Go.ChangeAt Go.RowKit

def Wf32 (X : Nat → Nat) (n : Nat) : Prop := ∀ i, i < n → X i < 4294967296
def sameL (X : Nat → Nat) (n : Nat) (Y : Nat → Nat) (n' : Nat) : Bool := decide (n = n') && (List.range n).all fun i => canon .f32 (X i) == canon .f32 (Y i)
theorem sameL_len {X Y : Nat → Nat} {n n' : Nat} (h : n ≠ n') : sameL X n Y n' = false := by simp [sameL, h]
theorem sameL_no {X Y : Nat → Nat} {n k : Nat} (hk : k < n) (h : canon .f32 (X k) ≠ canon .f32 (Y k)) : sameL X n Y n = false := by
  have : ((List.range n).all fun i => canon .f32 (X i) == canon .f32 (Y i)) = false := by
    rw [List.all_eq_false]
    exact ⟨k, List.mem_range.2 hk, by simpa using h⟩
  simp [sameL, this]
theorem sameL_yes {X Y : Nat → Nat} {n : Nat} (h : ∀ k, k < n → canon .f32 (X k) = canon .f32 (Y k)) : sameL X n Y n = true := by
  have : ((List.range n).all fun i => canon .f32 (X i) == canon .f32 (Y i)) = true := by
    rw [List.all_eq_true]
    exact fun k hk => by simpa using h k (List.mem_range.1 hk)
  simp [sameL, this]
theorem l01Same_any (x y : Nat) (w : World) (hx : x < 4294967296) (hy : y < 4294967296) : Calls Try.prog 218 #[.float .f32 x, .float .f32 y] w fun e w' => e = .returned (.bool (decide (canon .f32 x = canon .f32 y))) ∧ w' = w := by
  go_enter Try.func218, Try.ntmps218
  go_wp2_with fail
  refine (l01Bits_any _ _ hx).mono ?_
  rintro e w' ⟨rfl, rfl⟩
  go_wp2_with fail
  refine (l01Bits_any _ _ hy).mono ?_
  rintro e w' ⟨rfl, rfl⟩
  go_wp2
  go_ret
  exact ⟨ret_bool (by rw [Bool.eq_iff_iff]; simp; exact ⟨fun h => by exact_mod_cast h, fun h => by rw [h]⟩), rfl⟩
set_option maxHeartbeats 1600000 in
theorem sameAll_any (xa ya : Option Addr) (n n' cx cy : Nat) (X Y : Nat → Nat) (w : World) (hX : Rd w xa n X) (hY : Rd w ya n' Y) (wX : Wf32 X n) (wY : Wf32 Y n') (hn : n ≤ 1048576) (hn' : n' ≤ 1048576) :
    Calls Try.prog 163 #[.slice xa n cx, .slice ya n' cy] w fun e w' => e = .returned (.bool (sameL X n Y n')) ∧ ∃ q, w' = w.drewN q := by
  by_cases hl : n = n'
  · subst hl
    obtain ⟨xb, xo, hxa, hcx⟩ := hX
    obtain ⟨yb, yo, hya, hcy⟩ := hY
    have HX := Lib.hid hcx
    have HY := Lib.hid hcy
    have HW := Lib.hid wX
    have HV := Lib.hid wY
    clear hcx hcy wX wY
    go_enter Try.func163, Try.ntmps163
    go_wp2
    go_loopw [5] (fun i wr => ∃ k q : Nat, k ≤ n ∧ i = .int .i64 k ∧ wr = w.drewN q ∧ Hid (∀ j, j < k → canon .f32 (X j) = canon .f32 (Y j))) (fun i _ => n - (intOf i).toNat)
    case atStart => exact ⟨0, 0, Nat.zero_le _, rfl, rfl, Lib.hid fun j hj => absurd hj (Nat.not_lt_zero _)⟩
    case round =>
      obtain ⟨k, q, hk, rfl, rfl, HF⟩ := hrel
      by_cases hlt : k < n
      · have e := hxa (by omega)
        subst e
        have e := hya (by omega)
        subst e
        have r1 := HX.out k hlt
        have r2 := HY.out k hlt
        have x1 := HW.out k hlt
        have x2 := HV.out k hlt
        by_cases hs : canon .f32 (X k) = canon .f32 (Y k)
        · have HN := Lib.hid (show ∀ j, j < k + 1 → canon .f32 (X j) = canon .f32 (Y j) from fun j hj => by
            by_cases hj' : j < k
            · exact HF.out j hj'
            · rw [show j = k by omega]; exact hs)
          have hd : decide (canon .f32 (X k) = canon .f32 (Y k)) = true := decide_eq_true hs
          clear hs
          go_wp2_with fail
          go_quiet ((go_at_call 218; refine (l01Same_any _ _ _ x1 x2).mono ?_; rintro e w' ⟨rfl, rfl⟩; exact ⟨rfl, _, rfl⟩))
          go_wp2
          go_roundw
          case rel => exact ⟨k + 1, _, by omega, by go_num, rfl, HN⟩
          case measure => simp [intOf]; omega
        · have HN := Lib.hid (sameL_no hlt hs)
          have hd : decide (canon .f32 (X k) = canon .f32 (Y k)) = false := decide_eq_false hs
          clear hs
          go_wp2_with fail
          go_quiet ((go_at_call 218; refine (l01Same_any _ _ _ x1 x2).mono ?_; rintro e w' ⟨rfl, rfl⟩; exact ⟨rfl, _, rfl⟩))
          go_wp2
          go_ret
          exact ⟨ret_bool HN.out.symm, q + nq, by rw [World.drewN_drewN]⟩
      · have hkn : k = n := by omega
        subst hkn
        have HN := Lib.hid (sameL_yes HF.out)
        go_wp2
        go_ret
        exact ⟨ret_bool HN.out.symm, q, rfl⟩
  · have HN := Lib.hid (sameL_len (X := X) (Y := Y) hl)
    have d1 : ((n : Int) != (n' : Int)) = true := by simpa using (by omega : ¬ (n : Int) = (n' : Int))
    have d2 : (n != n') = true := by simpa using hl
    go_enter Try.func163, Try.ntmps163
    go_wp2
    go_ret
    exact ⟨ret_bool HN.out.symm, 0, rfl⟩
end Go.Proofs.Ytmpcalpapkedhaa
