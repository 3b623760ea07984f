
/- The laws' own helpers on rows of integers: what copies, compares and marks them. -/
import Derived.Test.YtogmcinaoemnpabInt
namespace Go.Proofs.Ytogmcinaoemnpab
open Go Go.ChangeShapes Go.WideShapes Go.ChangeAt Go.RowKit

set_option maxHeartbeats 1600000 in
theorem eqI_any (xa ya : Option Addr) (n cx cy : Nat) (X : Nat → Int) (w : World) (hX : RdI w xa n X) (hY : RdI w ya n X) (hn : n ≤ 1048576) :
    Calls Try.prog 12 #[.slice xa n cx, .slice ya n cy] w fun e w' => e = .returned (.bool true) ∧ ∃ m, w' = w.drewN m := by
  obtain ⟨xb, xo, hxa, hcx⟩ := hX
  obtain ⟨yb, yo, hya, hcy⟩ := hY
  have HX := Lib.hid hcx
  have HY := Lib.hid hcy
  clear hcx hcy
  go_enter Try.func12, Try.ntmps12
  go_wp2
  go_loopw [5] (fun i wr => ∃ k m : Nat, k ≤ n ∧ i = .int .i64 k ∧ wr = w.drewN m) (fun i _ => n - (intOf i).toNat)
  case atStart => exact ⟨0, 0, Nat.zero_le _, rfl, rfl⟩
  case round =>
    obtain ⟨k, m, hk, rfl, rfl⟩ := hrel
    by_cases hlt : k < n
    · have e := hxa (by omega)
      subst e
      have e := hya (by omega)
      subst e
      have h1 := HX.out k hlt
      have h2 := HY.out k hlt
      have hne : (X k != X k) = false := by simp
      go_wp2_with fail
      go_quiet (fail)
      all_goals go_wp2
      all_goals go_roundw
      all_goals first | exact ⟨k + 1, _, by omega, by go_num, rfl⟩ | (simp [intOf]; omega)
    · have hkn : k = n := by omega
      subst hkn
      go_wp2
      go_ret
      exact ⟨rfl, m, rfl⟩
/-- The marks, written. -/
def MarkedI (B : Nat) (v : Value) (n : Nat) (k0 : Int) (w : World) (e : Ending) (w' : World) : Prop :=
  e = .returned (.int .i64 (k0 + n)) ∧ w'.ownsRow B 2 1 v n (rowI (fun j => k0 + j) n) ∧ Below B w w'
set_option maxHeartbeats 1600000 in
theorem markI_any (B : Nat) (v : Value) (n : Nat) (X : Nat → Int) (k0 : Int) (w : World) (hown : w.ownsRow B 2 1 v n (rowI X n)) (hn : n ≤ 1048576) (hk0 : 0 ≤ k0) (hk1 : k0 ≤ 100000000) :
    Calls Try.prog 13 #[v, .int .i64 k0] w (MarkedI B v n k0 w) := by
  obtain ⟨g, ao, cap, rfl, hao, hBg⟩ : ∃ g ao cap, v = .slice ao n cap ∧ (0 < n → ao = some ⟨g, 0, none⟩) ∧ (0 < n → B ≤ g) := by
    rcases hown.2 with ⟨rfl, rfl⟩ | ⟨g, cap, cur, rfl, hB, _⟩
    · exact ⟨0, none, 0, rfl, fun h => absurd h (Nat.lt_irrefl _), fun h => absurd h (Nat.lt_irrefl _)⟩
    · exact ⟨g, _, cap, rfl, fun _ => rfl, fun _ => hB⟩
  go_enter Try.func13, Try.ntmps13
  go_wp2
  go_loopw [1, 5] (fun q i wr => ∃ k : Nat, k ≤ n ∧ i = .int .i64 k ∧ q = .int .i64 (k0 + k) ∧ wr.ownsRow B 2 1 (.slice ao n cap) n (rowI (fun j => if j < k then k0 + j else X j) n) ∧ Below B w wr) (fun _ i _ => n - (intOf i).toNat)
  case atStart => exact ⟨0, Nat.zero_le _, rfl, by simp, by simpa using hown, Below.refl _ _⟩
  case round =>
    obtain ⟨k, hk, rfl, rfl, hownk, hBk⟩ := hrel
    by_cases hlt : k < n
    · have e := hao (by omega)
      subst e
      have hg := hBg (by omega)
      have hcl := ownI_cell hownk hlt
      have hfz := hownk.frozenAt k
      have hst := ownI_stored hownk k (k0 + k)
      rw [rowI_congr (Y := fun j => if j < k + 1 then k0 + j else X j) (fun j _ => by
          by_cases hj : j = k
          · subst hj; simp
          · rw [if_neg hj]; by_cases hj2 : j < k
            · rw [if_pos hj2, if_pos (by omega)]
            · rw [if_neg hj2, if_neg (by omega)])] at hst
      have hB' : Below B w (wr.setCell ⟨g, k, none⟩ (.int .i64 (k0 + k))) := hBk.setCell hg _
      clear hownk hBk hown hBg
      go_wp2
      go_roundw
      case rel => exact ⟨k + 1, by omega, by go_num, by go_num, hst, hB'⟩
      case measure => simp [intOf]; omega
    · have hkn : k = n := by omega
      subst hkn
      have hown' : wr.ownsRow B 2 1 (.slice ao k cap) k (rowI (fun j => k0 + j) k) := by
        rw [rowI_congr (Y := fun j => k0 + j) (fun j hj => by rw [if_pos hj])] at hownk
        exact hownk
      clear hownk
      go_wp2
      go_ret
      exact ⟨rfl, hown', hBk⟩
set_option maxHeartbeats 1600000 in
theorem heldI_any (B : Nat) (v : Value) (n : Nat) (k0 : Int) (w : World) (hown : w.ownsRow B 2 1 v n (rowI (fun j => k0 + j) n)) (hn : n ≤ 1048576) (hk0 : 0 ≤ k0) (hk1 : k0 ≤ 100000000) :
    Calls Try.prog 14 #[v, .int .i64 k0] w fun e w' => e = .returned (.int .i64 (k0 + n)) ∧ w = w' := by
  obtain ⟨g, ao, cap, rfl, hao⟩ : ∃ g ao cap, v = .slice ao n cap ∧ (0 < n → ao = some ⟨g, 0, none⟩) := by
    rcases hown.2 with ⟨rfl, rfl⟩ | ⟨g, cap, cur, rfl, hB, _⟩
    · exact ⟨0, none, 0, rfl, fun h => absurd h (Nat.lt_irrefl _)⟩
    · exact ⟨g, _, cap, rfl, fun _ => rfl⟩
  go_enter Try.func14, Try.ntmps14
  go_wp2
  go_loop [1, 5] (fun q i => ∃ k : Nat, k ≤ n ∧ i = .int .i64 k ∧ q = .int .i64 (k0 + k)) (fun _ i => n - (intOf i).toNat)
  case atStart => exact ⟨0, Nat.zero_le _, rfl, by simp⟩
  case round =>
    obtain ⟨k, hk, rfl, rfl⟩ := hrel
    by_cases hlt : k < n
    · have e := hao (by omega)
      subst e
      have hcl := ownI_cell hown hlt
      clear hown
      go_wp2
      go_round
      case rel => exact ⟨k + 1, by omega, by go_num, by go_num⟩
      case measure => simp [intOf]; omega
    · have hkn : k = n := by omega
      subst hkn
      go_wp2
      go_ret
      exact ⟨rfl, rfl⟩
end Go.Proofs.Ytogmcinaoemnpab
