/- How many sets of so many things there are: as the model reckons it, and as the program does. -/
import Derived.Test.YtffhnkhjfggooabDoorPart
namespace Go.Proofs.YtffhnkhjfggooabDoor
open Go Go.ChangeShapes Go.WideShapes Go.ChangeAt Go.RowKit

def setsR (n : Nat) : Nat → Nat
  | 0 => 1
  | i + 1 => setsR n i * (n - i) / (i + 1)
def setsT (n k : Nat) : Nat → Nat
  | 0 => 1
  | i + 1 => setsT n k i * (n - k + (i + 1)) / (i + 1)
def allSets : Bool := (List.range 17).all fun n => (List.range 17).all fun k => decide (n < k) || (decide (setsT n k k = setsR n k) && (List.range k).all fun i => decide (setsR n i * (n - i) ≤ 1000000) && decide (setsT n k i * (n - k + (i + 1)) ≤ 1000000))
theorem allSets_true : allSets = true := by decide +kernel
theorem sets_at {n k : Nat} (hn : n ≤ 16) (hk : k ≤ n) : setsT n k k = setsR n k ∧ ∀ i, i < k → setsR n i * (n - i) ≤ 1000000 ∧ setsT n k i * (n - k + (i + 1)) ≤ 1000000 := by
  have h := allSets_true
  unfold allSets at h
  rw [List.all_eq_true] at h
  have h1 := h n (List.mem_range.2 (by omega))
  rw [List.all_eq_true] at h1
  have h2 := h1 k (List.mem_range.2 (by omega))
  rw [decide_eq_false (show ¬ n < k by omega), Bool.false_or, Bool.and_eq_true, decide_eq_true_eq, List.all_eq_true] at h2
  refine ⟨h2.1, fun i hi => ?_⟩
  have h3 := h2.2 i (List.mem_range.2 hi)
  rw [Bool.and_eq_true, decide_eq_true_eq, decide_eq_true_eq] at h3
  exact h3
/-- How many sets there are; none of less than no things, or of more than there are. -/
def setsI (n k : Int) : Int := if k < 0 ∨ n < k then 0 else (setsR n.toNat k.toNat : Int)
theorem setsI_no {n k : Int} (h : k < 0 ∨ n < k) : setsI n k = 0 := by unfold setsI; rw [if_pos h]
theorem setsI_yes {n k : Nat} (h : k ≤ n) : setsI (n : Int) (k : Int) = (setsR n k : Int) := by unfold setsI; rw [if_neg (by omega)]; rfl
theorem div_step {a b c : Nat} : Int.tdiv ((a : Int) * (b : Int)) (c : Int) = ((a * b / c : Nat) : Int) := by
  rw [← Int.natCast_mul, Int.tdiv_eq_ediv_of_nonneg (Int.natCast_nonneg _)]; rfl
set_option maxHeartbeats 800000 in
theorem setsOf_any (n k : Int) (w : World) (h0 : 0 ≤ n) (h1 : n ≤ 16) : Calls Tryd.prog 68 #[.int .i64 n, .int .i64 k] w fun e w' => e = .returned (.int .i64 (setsI n k)) ∧ w = w' := by
  by_cases hk0 : k < 0
  · have d1 : decide (k < 0) = true := decide_eq_true hk0
    have H := Lib.hid (setsI_no (n := n) (.inl hk0))
    go_enter Tryd.func68, Tryd.ntmps68
    go_wp2
    go_ret
    exact ⟨by rw [H.out]; rfl, rfl⟩
  · have d1 : decide (k < 0) = false := decide_eq_false hk0
    by_cases hkn : n < k
    · have d2 : decide (n < k) = true := decide_eq_true hkn
      have H := Lib.hid (setsI_no (n := n) (k := k) (.inr hkn))
      go_enter Tryd.func68, Tryd.ntmps68
      go_wp2
      go_ret
      exact ⟨by rw [H.out]; rfl, rfl⟩
    · have d2 : decide (n < k) = false := decide_eq_false hkn
      obtain ⟨N, rfl⟩ : ∃ N : Nat, n = (N : Int) := ⟨n.toNat, by omega⟩
      obtain ⟨K, rfl⟩ : ∃ K : Nat, k = (K : Int) := ⟨k.toNat, by omega⟩
      have H := Lib.hid (setsI_yes (n := N) (k := K) (by omega))
      have HA := Lib.hid (sets_at (n := N) (k := K) (by omega) (by omega)).2
      go_enter Tryd.func68, Tryd.ntmps68
      go_wp2
      go_loop [5, 15] (fun s i => ∃ j : Nat, j ≤ K ∧ s = .int .i64 (setsR N j : Int) ∧ i = .int .i64 (j : Int)) (fun _ i => K - (intOf i).toNat)
      case atStart => exact ⟨0, Nat.zero_le _, rfl, rfl⟩
      case round =>
        obtain ⟨j, hj, rfl, rfl⟩ := hrel
        by_cases hlt : j < K
        · have hb := (HA.out j hlt).1
          have hc : (N : Int) - (j : Int) = ((N - j : Nat) : Int) := by omega
          have hb1 : 0 ≤ (setsR N j : Int) * ((N : Int) - (j : Int)) := by rw [hc]; exact Int.mul_nonneg (by omega) (by omega)
          have hb2 : (setsR N j : Int) * ((N : Int) - (j : Int)) ≤ 1000000 := by rw [hc, ← Int.natCast_mul]; omega
          have hs : Int.tdiv ((setsR N j : Int) * ((N : Int) - (j : Int))) ((j : Int) + 1) = (setsR N (j + 1) : Int) := by
            rw [hc, show (j : Int) + 1 = ((j + 1 : Nat) : Int) by omega, div_step]; rfl
          have hb3 : (setsR N (j + 1) : Int) ≤ 1000000 := by
            have h4 : setsR N (j + 1) ≤ 1000000 := Nat.le_trans (Nat.div_le_self _ _) hb
            omega
          clear hc
          go_wp2
          go_round
          case rel => exact ⟨j + 1, by omega, rfl, by go_num⟩
          case measure => simp [intOf]; omega
        · obtain rfl : j = K := by omega
          go_wp2
          go_ret
          exact ⟨by rw [H.out]; rfl, rfl⟩
set_option maxHeartbeats 800000 in
theorem l03Sets_any (n k : Int) (w : World) (h0 : 0 ≤ n) (h1 : n ≤ 16) : Calls Tryd.prog 64 #[.int .i64 n, .int .i64 k] w fun e w' => e = .returned (.int .i64 (setsI n k)) ∧ w = w' := by
  by_cases hk0 : k < 0
  · have d1 : decide (k < 0) = true := decide_eq_true hk0
    have H := Lib.hid (setsI_no (n := n) (.inl hk0))
    go_enter Tryd.func64, Tryd.ntmps64
    go_wp2
    go_ret
    exact ⟨by rw [H.out]; rfl, rfl⟩
  · have d1 : decide (k < 0) = false := decide_eq_false hk0
    by_cases hkn : n < k
    · have d2 : decide (n < k) = true := decide_eq_true hkn
      have H := Lib.hid (setsI_no (n := n) (k := k) (.inr hkn))
      go_enter Tryd.func64, Tryd.ntmps64
      go_wp2
      go_ret
      exact ⟨by rw [H.out]; rfl, rfl⟩
    · have d2 : decide (n < k) = false := decide_eq_false hkn
      obtain ⟨N, rfl⟩ : ∃ N : Nat, n = (N : Int) := ⟨n.toNat, by omega⟩
      obtain ⟨K, rfl⟩ : ∃ K : Nat, k = (K : Int) := ⟨k.toNat, by omega⟩
      have H := Lib.hid (setsI_yes (n := N) (k := K) (by omega))
      have HS := Lib.hid (sets_at (n := N) (k := K) (by omega) (by omega)).1
      have HA := Lib.hid (sets_at (n := N) (k := K) (by omega) (by omega)).2
      go_enter Tryd.func64, Tryd.ntmps64
      go_wp2
      go_loop [5, 6] (fun s i => ∃ j : Nat, j ≤ K ∧ s = .int .i64 (setsT N K j : Int) ∧ i = .int .i64 ((j : Int) + 1)) (fun _ i => K + 1 - (intOf i).toNat)
      case atStart => exact ⟨0, Nat.zero_le _, rfl, rfl⟩
      case round =>
        obtain ⟨j, hj, rfl, rfl⟩ := hrel
        by_cases hlt : j < K
        · have hb := (HA.out j hlt).2
          have hc : (N : Int) - (K : Int) + ((j : Int) + 1) = ((N - K + (j + 1) : Nat) : Int) := by omega
          have hb1 : 0 ≤ (setsT N K j : Int) * ((N : Int) - (K : Int) + ((j : Int) + 1)) := by rw [hc]; exact Int.mul_nonneg (by omega) (by omega)
          have hb2 : (setsT N K j : Int) * ((N : Int) - (K : Int) + ((j : Int) + 1)) ≤ 1000000 := by rw [hc, ← Int.natCast_mul]; omega
          have hs : Int.tdiv ((setsT N K j : Int) * ((N : Int) - (K : Int) + ((j : Int) + 1))) ((j : Int) + 1) = (setsT N K (j + 1) : Int) := by
            rw [hc, show (j : Int) + 1 = ((j + 1 : Nat) : Int) by omega, div_step]; rfl
          have hb3 : (setsT N K (j + 1) : Int) ≤ 1000000 := by
            have h4 : setsT N K (j + 1) ≤ 1000000 := Nat.le_trans (Nat.div_le_self _ _) hb
            omega
          clear hc
          go_wp2
          go_round
          case rel => exact ⟨j + 1, by omega, rfl, by go_num⟩
          case measure => simp [intOf]; omega
        · obtain rfl : j = K := by omega
          go_wp2
          go_ret
          exact ⟨by rw [H.out, ← HS.out]; rfl, rfl⟩
end Go.Proofs.YtffhnkhjfggooabDoor
