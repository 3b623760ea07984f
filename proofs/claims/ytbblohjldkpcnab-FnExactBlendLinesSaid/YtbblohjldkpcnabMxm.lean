
/- The greatest and the least number of a list of finite numbers, as slices.Max and slices.Min find them. -/
import Derived.Test.YtbblohjldkpcnabOrW
import Derived.Test.YtbblohjldkpcnabFinL
namespace Go.Proofs.Ytbblohjldkpcnab
open Go Go.ChangeShapes Go.WideShapes Go.ChangeAt Go.RowKit

def keyW (x : Nat) : Int := if x < 2147483648 then (x : Int) else -((x - 2147483648 : Nat) : Int)
theorem key_word (s : Bool) (r : Nat) (h : r < 2147483648) : keyW (Ieee.single.word s r) = sgR s r := by
  have hsw : Ieee.single.signWeight = 2147483648 := rfl
  unfold keyW sgR Ieee.Format.word
  rw [hsw]
  cases s
  · simp [h]
  · simp only [if_true]
    rw [if_neg (by omega), Nat.add_sub_cancel_left]
def lessK (x y : Nat) : Bool := decide (keyW x < keyW y) || (decide (keyW x = keyW y) && decide (2147483648 ≤ x))
theorem lessK_word (s u : Bool) (a b : Nat) (ha : a < 2147483648) (hb : b < 2147483648) : lessK (Ieee.single.word s a) (Ieee.single.word u b) = lessW s a u b := by
  have hsw : Ieee.single.signWeight = 2147483648 := rfl
  have e : decide (2147483648 ≤ Ieee.single.word s a) = s := by
    unfold Ieee.Format.word
    rw [hsw]
    cases s
    · simp; omega
    · simp
  unfold lessK lessW
  rw [key_word s a ha, key_word u b hb, e]
theorem lessK_le {x y : Nat} (h : lessK x y = true) : keyW x ≤ keyW y := by
  unfold lessK at h
  simp only [Bool.or_eq_true, Bool.and_eq_true, decide_eq_true_eq] at h
  omega
theorem lessK_ge {x y : Nat} (h : lessK x y = false) : keyW y ≤ keyW x := by
  unfold lessK at h
  simp only [Bool.or_eq_false_iff, decide_eq_false_iff_not] at h
  omega
theorem run_maxK {x y : Nat} (hx : x < 4294967296) (hy : y < 4294967296) (fx : isFin .f32 x = true) (fy : isFin .f32 y = true) (P : Program) (ts : Array TypeId) (t : TypeId) (w : World) :
    (Builtin.max_ ts t #[.float .f32 x, .float .f32 y]).run P w = .ok (.float .f32 (if lessK x y = true then y else x)) w := by
  obtain ⟨s, a, ha, rfl⟩ := fin_word hx fx
  obtain ⟨u, b, hb, rfl⟩ := fin_word hy fy
  rw [lessK_word s u a b (by omega) (by omega)]
  exact run_max32 P ts t s u a b ha hb w
theorem run_minK {x y : Nat} (hx : x < 4294967296) (hy : y < 4294967296) (fx : isFin .f32 x = true) (fy : isFin .f32 y = true) (P : Program) (ts : Array TypeId) (t : TypeId) (w : World) :
    (Builtin.min_ ts t #[.float .f32 x, .float .f32 y]).run P w = .ok (.float .f32 (if lessK x y = true then x else y)) w := by
  obtain ⟨s, a, ha, rfl⟩ := fin_word hx fx
  obtain ⟨u, b, hb, rfl⟩ := fin_word hy fy
  rw [lessK_word s u a b (by omega) (by omega)]
  exact run_min32 P ts t s u a b ha hb w
set_option maxRecDepth 100000 in
set_option maxHeartbeats 1600000 in
theorem slicesMin_any (xa : Option Addr) (n cx : Nat) (X : Nat → Nat) (w : World) (hX : Rd w xa n X) (h1 : 1 ≤ n) (hn : n ≤ 1048576) (hw : ∀ j, j < n → X j < 4294967296) (hf : ∀ j, j < n → isFin .f32 (X j) = true) :
    Calls Try.prog 70 #[.slice xa n cx] w fun e w' => ∃ j, j < n ∧ e = .returned (.float .f32 (X j)) ∧ (∀ i, i < n → keyW (X j) ≤ keyW (X i)) ∧ w' = w := by
  obtain ⟨xb, xo, hxa, hcx⟩ := hX
  have e := hxa (by omega)
  subst e
  have HX := Lib.hid hcx
  have c0 := HX.out 0 (by omega)
  rw [Nat.add_zero] at c0
  clear hcx hxa
  have HW := Lib.hid hw
  have HF := Lib.hid hf
  clear hw hf
  go_enter Try.func70, Try.ntmps70
  go_wp2
  go_loopw [3, 4] (fun q i wr => ∃ k j : Nat, 1 ≤ k ∧ k ≤ n ∧ j < n ∧ i = .int .i64 k ∧ q = .float .f32 (X j) ∧ wr = w ∧ Hid (∀ p, p < k → keyW (X j) ≤ keyW (X p))) (fun _ i _ => n - (intOf i).toNat)
  case atStart => exact ⟨1, 0, Nat.le_refl _, h1, h1, rfl, rfl, rfl, Lib.hid fun p hp => by rw [show p = 0 by omega]; exact Int.le_refl _⟩
  case round =>
    obtain ⟨k, j, hk1, hk, hj, rfl, rfl, rfl, HK⟩ := hrel
    clear c0
    by_cases hlt : k < n
    · have c1 := HX.out k hlt
      have hm := fun ts t w => run_minK (HW.out j hj) (HW.out k hlt) (HF.out j hj) (HF.out k hlt) Try.prog ts t w
      cases hl : lessK (X j) (X k)
      · rw [hl] at hm
        have HN := Lib.hid (show ∀ p, p < k + 1 → keyW (X k) ≤ keyW (X p) from fun p hp => by
          by_cases hp' : p < k
          · exact Int.le_trans (lessK_ge hl) (HK.out p hp')
          · rw [show p = k by omega]; exact Int.le_refl _)
        go_wp2
        go_roundw
        case rel => exact ⟨k + 1, k, by omega, by omega, hlt, by go_num, by first | rfl | trivial, by first | rfl | trivial, HN⟩
        case measure => simp [intOf]; omega
      · rw [hl] at hm
        have HN := Lib.hid (show ∀ p, p < k + 1 → keyW (X j) ≤ keyW (X p) from fun p hp => by
          by_cases hp' : p < k
          · exact HK.out p hp'
          · rw [show p = k by omega]; exact lessK_le hl)
        go_wp2
        go_roundw
        case rel => exact ⟨k + 1, j, by omega, by omega, hj, by go_num, by first | rfl | trivial, by first | rfl | trivial, HN⟩
        case measure => simp [intOf]; omega
    · have hkn : k = n := by omega
      subst hkn
      go_wp2
      go_ret
      exact ⟨j, hj, rfl, HK.out, rfl⟩
end Go.Proofs.Ytbblohjldkpcnab
