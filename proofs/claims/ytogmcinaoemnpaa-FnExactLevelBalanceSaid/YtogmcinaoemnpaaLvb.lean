
/- Levels between which shares flow: what goes away from one, and how shares grow. -/
import Derived.Test.YtogmcinaoemnpaaLva
namespace Go.Proofs.Ytogmcinaoemnpaa
set_option linter.all false
open Go Go.ChangeShapes Go.WideShapes Go.ChangeAt Go.RowKit

set_option maxRecDepth 100000 in
set_option maxHeartbeats 3200000 in
theorem away_any (n k : Nat) (ra : Option Addr) (L rc : Nat) (A : Nat → Nat) (w : World) (hA : Rd w ra L A) (hL : L = n * n) (hrc : L ≤ rc) (hn : n ≤ 6) (h1 : 1 ≤ n) (hk : k < n) :
    Calls Try.prog 51 #[.agg #[.int .i64 (n : Int), .slice ra L rc], .int .i64 (k : Int)] w fun e w' => ∃ s, e = .returned (.float .f32 (pick .f32 (lvO n A k) s)) ∧ Below w.heap.size w w' := by
  obtain ⟨xb, xo, hxa, hcx⟩ := hA
  have hLp : 0 < L := by rw [hL]; exact Nat.mul_pos h1 h1
  have e := hxa hLp
  subst e
  have hL36 : L ≤ 36 := by rw [hL]; exact idx_small hn (by omega)
  have h5 : (k + 1) * n ≤ L := by rw [hL]; exact Nat.mul_le_mul_right n (by omega)
  obtain ⟨m, hm⟩ : ∃ m, m = k * n := ⟨_, rfl⟩
  have h6 : (k + 1) * n = m + n := by rw [Nat.add_mul, Nat.one_mul, hm]
  have hmw := mul_wrap hn (show k ≤ 6 by omega)
  have hmw1 := mul_wrap hn (show k + 1 ≤ 6 by omega)
  rw [← hm] at hmw
  rw [h6] at hmw1 h5
  have hk1 : ((k + 1 : Nat) : Int) = (k : Int) + 1 := by omega
  rw [hk1] at hmw1
  have hmn : ((m + n : Nat) : Int) = (m : Int) + (n : Int) := by omega
  rw [hmn] at hmw1
  have HA : Below w.heap.size w (w.alloc (.cells #[.int .i64 (n : Int), .slice (some ⟨xb, xo, none⟩) L rc] 69)) := (Below.refl _ _).alloc (Nat.le_refl _) _
  have hR : Rd w (some ⟨xb, xo + m, none⟩) n (fun i => A (k * n + i)) := ⟨xb, xo + m, fun _ => rfl, fun i hi => by
    have := hcx (m + i) (by omega)
    rw [← hm, Nat.add_assoc]
    exact this⟩
  have HS := Lib.hid (fun cx => SumNumbers_any (some ⟨xb, xo + m, none⟩) n cx (fun i => A (k * n + i)) _ (hR.below HA) (by omega))
  clear hcx hL hxa hR hm h6
  go_enter Try.func51, Try.ntmps51
  go_wp2_with fail
  refine (HS.out _).mono ?_
  rintro e w1 ⟨s, q, rfl, rfl⟩
  go_wp2
  go_ret
  exact ⟨s, rfl, Below.drewN HA _⟩
end Go.Proofs.Ytogmcinaoemnpaa
