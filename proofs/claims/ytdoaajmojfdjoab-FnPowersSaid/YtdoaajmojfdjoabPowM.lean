/- Products of powers are near to powers of sums: by reckoning, in parts. -/
import Derived.Test.YtdoaajmojfdjoabPowP
namespace Go.Proofs.Ytdoaajmojfdjoab
open Go Go.RowKit

set_option maxHeartbeats 4000000 in
theorem mul0 : ∀ v : Nat, v < 5 → ∀ u : Nat, u < 65 → mulGap (eT (v + 0 + 32)) (eT (u + 32)) (eT (v + 0 + u)) = true := by decide +kernel
set_option maxHeartbeats 4000000 in
theorem mul1 : ∀ v : Nat, v < 5 → ∀ u : Nat, u < 65 → mulGap (eT (v + 5 + 32)) (eT (u + 32)) (eT (v + 5 + u)) = true := by decide +kernel
set_option maxHeartbeats 4000000 in
theorem mul2 : ∀ v : Nat, v < 5 → ∀ u : Nat, u < 65 → mulGap (eT (v + 10 + 32)) (eT (u + 32)) (eT (v + 10 + u)) = true := by decide +kernel
set_option maxHeartbeats 4000000 in
theorem mul3 : ∀ v : Nat, v < 5 → ∀ u : Nat, u < 65 → mulGap (eT (v + 15 + 32)) (eT (u + 32)) (eT (v + 15 + u)) = true := by decide +kernel
set_option maxHeartbeats 4000000 in
theorem mul4 : ∀ v : Nat, v < 5 → ∀ u : Nat, u < 65 → mulGap (eT (v + 20 + 32)) (eT (u + 32)) (eT (v + 20 + u)) = true := by decide +kernel
set_option maxHeartbeats 4000000 in
theorem mul5 : ∀ v : Nat, v < 5 → ∀ u : Nat, u < 65 → mulGap (eT (v + 25 + 32)) (eT (u + 32)) (eT (v + 25 + u)) = true := by decide +kernel
set_option maxHeartbeats 4000000 in
theorem mul6 : ∀ v : Nat, v < 5 → ∀ u : Nat, u < 65 → mulGap (eT (v + 30 + 32)) (eT (u + 32)) (eT (v + 30 + u)) = true := by decide +kernel
set_option maxHeartbeats 4000000 in
theorem mul7 : ∀ v : Nat, v < 5 → ∀ u : Nat, u < 65 → mulGap (eT (v + 35 + 32)) (eT (u + 32)) (eT (v + 35 + u)) = true := by decide +kernel
set_option maxHeartbeats 4000000 in
theorem mul8 : ∀ v : Nat, v < 5 → ∀ u : Nat, u < 65 → mulGap (eT (v + 40 + 32)) (eT (u + 32)) (eT (v + 40 + u)) = true := by decide +kernel
set_option maxHeartbeats 4000000 in
theorem mul9 : ∀ v : Nat, v < 5 → ∀ u : Nat, u < 65 → mulGap (eT (v + 45 + 32)) (eT (u + 32)) (eT (v + 45 + u)) = true := by decide +kernel
set_option maxHeartbeats 4000000 in
theorem mul10 : ∀ v : Nat, v < 5 → ∀ u : Nat, u < 65 → mulGap (eT (v + 50 + 32)) (eT (u + 32)) (eT (v + 50 + u)) = true := by decide +kernel
set_option maxHeartbeats 4000000 in
theorem mul11 : ∀ v : Nat, v < 5 → ∀ u : Nat, u < 65 → mulGap (eT (v + 55 + 32)) (eT (u + 32)) (eT (v + 55 + u)) = true := by decide +kernel
set_option maxHeartbeats 4000000 in
theorem mul12 : ∀ v : Nat, v < 5 → ∀ u : Nat, u < 65 → mulGap (eT (v + 60 + 32)) (eT (u + 32)) (eT (v + 60 + u)) = true := by decide +kernel
theorem mulTab (v : Nat) (hv : v < 65) (u : Nat) (hu : u < 65) : mulGap (eT (v + 32)) (eT (u + 32)) (eT (v + u)) = true := by
  obtain ⟨q, r, hr, rfl⟩ : ∃ q r, r < 5 ∧ v = r + 5 * q := ⟨v / 5, v % 5, Nat.mod_lt _ (by omega), by omega⟩
  have hq : q < 13 := by omega
  match q, hq with
  | 0, _ => exact mul0 r hr u hu
  | 1, _ => exact mul1 r hr u hu
  | 2, _ => exact mul2 r hr u hu
  | 3, _ => exact mul3 r hr u hu
  | 4, _ => exact mul4 r hr u hu
  | 5, _ => exact mul5 r hr u hu
  | 6, _ => exact mul6 r hr u hu
  | 7, _ => exact mul7 r hr u hu
  | 8, _ => exact mul8 r hr u hu
  | 9, _ => exact mul9 r hr u hu
  | 10, _ => exact mul10 r hr u hu
  | 11, _ => exact mul11 r hr u hu
  | 12, _ => exact mul12 r hr u hu
end Go.Proofs.Ytdoaajmojfdjoab
