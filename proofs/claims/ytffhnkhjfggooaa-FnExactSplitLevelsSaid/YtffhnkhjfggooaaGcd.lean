/- Fractions without a common factor: as the model makes them, and as the program does. -/
import Derived.Test.YtffhnkhjfggooaaPart
namespace Go.Proofs.Ytffhnkhjfggooaa
open Go Go.ChangeShapes Go.WideShapes Go.ChangeAt Go.RowKit

theorem tmod_nat (a b : Nat) : Int.tmod (a : Int) (b : Int) = ((a % b : Nat) : Int) := by
  rw [Int.tmod_eq_emod_of_nonneg (Int.natCast_nonneg _)]; rfl
theorem gcd_next (a b : Nat) : Nat.gcd b (a % b) = Nat.gcd a b := by rw [Nat.gcd_comm b, ← Nat.gcd_rec, Nat.gcd_comm]
set_option maxHeartbeats 800000 in
theorem l03Common_any (A B : Nat) (w : World) (hA : A ≤ 1000000000000000000) (hB : B ≤ 1000000000000000000) : Calls Try.prog 85 #[.int .i64 (A : Int), .int .i64 (B : Int)] w fun e w' => e = .returned (.int .i64 (Nat.gcd A B : Int)) ∧ w = w' := by
  go_enter Try.func85, Try.ntmps85
  go_wp2
  go_loop [0, 1] (fun x y => ∃ a b : Nat, x = .int .i64 (a : Int) ∧ y = .int .i64 (b : Int) ∧ a ≤ 1000000000000000000 ∧ b ≤ 1000000000000000000 ∧ Hid (Nat.gcd a b = Nat.gcd A B)) (fun _ y => (intOf y).toNat)
  case atStart => exact ⟨A, B, rfl, rfl, hA, hB, Lib.hid rfl⟩
  case round =>
    obtain ⟨a, b, rfl, rfl, ha, hb, HG⟩ := hrel
    by_cases hz : b = 0
    · subst hz
      have H := Lib.hid (show (a : Int) = (Nat.gcd A B : Int) by rw [← HG.out, Nat.gcd_zero_right])
      go_wp2
      go_ret
      exact ⟨by rw [← H.out]; rfl, rfl⟩
    · have hne : (b : Int) ≠ 0 := by omega
      have hm := tmod_nat a b
      have hl : a % b < b := Nat.mod_lt _ (by omega)
      have HN := Lib.hid ((gcd_next a b).trans HG.out)
      go_wp2
      go_round
      case rel => exact ⟨b, a % b, rfl, by rw [Int.natCast_emod], hb, by omega, HN⟩
      case measure => rw [← Int.natCast_emod]; simp only [intOf, Int.toNat_natCast]; exact hl
theorem results_cell {fn : Func} {p : Tmp} {ty : TypeId} (h : fn.results = #[.cell p ty]) (tmps : Array Value) (P : Program) (w : World) :
    (results fn tmps).run P w = ((asAddr (tmps.getD p undef)).run P w).andThen fun a w₁ => (loadVar ty a).run P w₁ := by
  simp only [results, h]
  simp [Sem.run_bind, Result.andThen]
def frac (u d : Int) : Value := .agg #[.int .i64 u, .int .i64 d]
theorem max_abs (u : Int) : max u (-u) = (u.natAbs : Int) := by omega
set_option maxHeartbeats 1600000 in
theorem reduced_any (u : Int) (D : Nat) (w : World) (hu : u.natAbs ≤ 1000000000000000000) (hD : D ≤ 1000000000000000000) (hD1 : 1 ≤ D) :
    Calls Try.prog 56 #[.int .i64 u, .int .i64 (D : Int)] w fun e w' => e = .returned (frac (Int.tdiv u (Nat.gcd D u.natAbs)) ((D : Int) / (Nat.gcd D u.natAbs : Int))) ∧ Below w.heap.size w w' := by
  have hG : 1 ≤ Nat.gcd D u.natAbs := Nat.gcd_pos_of_pos_left _ (by omega)
  obtain ⟨G, hg⟩ : ∃ G, G = Nat.gcd D u.natAbs := ⟨_, rfl⟩
  rw [← hg] at hG ⊢
  have HG0 := Lib.hid hg
  clear hg
  have H1 := Lib.hid (show ∀ _h : -u ≤ u, u = (u.natAbs : Int) from fun h => by omega)
  have H2 := Lib.hid (show ∀ _h : u < -u, -u = (u.natAbs : Int) from fun h => by omega)
  have hq1 : Int.tdiv u (G : Int) ≤ 1000000000000000000 ∧ -1000000000000000000 ≤ Int.tdiv u (G : Int) := by
    have h3 : (Int.tdiv u (G : Int)).natAbs ≤ u.natAbs := by rw [Int.natAbs_tdiv]; exact Nat.div_le_self _ _
    omega
  have hq2 : 0 ≤ (D : Int) / (G : Int) ∧ (D : Int) / (G : Int) ≤ 1000000000000000000 := by
    have h3 : (D : Int) / (G : Int) = ((D / G : Nat) : Int) := rfl
    have h4 : D / G ≤ D := Nat.div_le_self _ _
    have h5 : 0 ≤ ((D / G : Nat) : Int) := Int.natCast_nonneg _
    omega
  go_enter Try.func56, Try.ntmps56
  go_wp2
  all_goals
    go_loopw [5, 6] (fun x y wr => ∃ a b : Nat, x = .int .i64 (a : Int) ∧ y = .int .i64 (b : Int) ∧ a ≤ 1000000000000000000 ∧ b ≤ 1000000000000000000 ∧ Hid (Nat.gcd a b = G) ∧ ∃ m, wr = (w.alloc (.cells #[.int .i64 0, .int .i64 0] 56)).drewN m) (fun _ y _ => (intOf y).toNat)
    case atStart => exact ⟨D, u.natAbs, rfl, by first | rw [← H1.out (by assumption)] | rw [← H2.out (by assumption)], hD, hu, Lib.hid HG0.out.symm, 0, rfl⟩
    case round =>
      obtain ⟨a, b, rfl, rfl, ha, hb, HG, m, rfl⟩ := hrel
      by_cases hz : b = 0
      · subst hz
        have e : (a : Int) = (G : Int) := by rw [← HG.out, Nat.gcd_zero_right]
        rw [e]
        have hne : (G : Int) ≠ 0 := by omega
        have H := Lib.hid e
        clear e
        go_wp2
        go_region
        all_goals go_wp2
        all_goals refine bodyPost_ret (v := frac (Int.tdiv u (G : Int)) ((D : Int) / (G : Int))) ?_ rfl ⟨rfl, ?_⟩
        all_goals first
          | (rw [results_cell rfl]; go_simp; rfl)
          | exact ((Below.drewN ((Below.refl _ w).alloc (Nat.le_refl _) _) _).setCell (Nat.le_refl _) _).setCell (Nat.le_refl _) _
      · have hne : (b : Int) ≠ 0 := by omega
        have hm := tmod_nat a b
        have hl : a % b < b := Nat.mod_lt _ (by omega)
        have HN := Lib.hid ((gcd_next a b).trans HG.out)
        go_wp2_with fail
        go_quiet (fail)
        all_goals go_wp2
        all_goals go_roundw
        case rel => exact ⟨b, a % b, rfl, by rw [Int.natCast_emod], hb, by omega, HN, _, World.drewN_drewN _ _ _⟩
        case measure => rw [← Int.natCast_emod]; simp only [intOf, Int.toNat_natCast]; exact hl
end Go.Proofs.Ytffhnkhjfggooaa
