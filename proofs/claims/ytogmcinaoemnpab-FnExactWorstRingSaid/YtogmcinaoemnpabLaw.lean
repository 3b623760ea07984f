
/- What the walks of the laws share: a call that changes one block alone; what is owned behind it; marks written into a copy. -/
import Derived.Test.YtogmcinaoemnpabOut
import Derived.Deep.Heap
namespace Go.Proofs.Ytogmcinaoemnpab
open Go Go.ChangeShapes Go.WideShapes Go.ChangeAt Go.RowKit

theorem rd_own' {w : World} {B e n cap : Nat} {xa : Option Addr} {X : Nat → Nat} (h : w.ownsRow B e 1 (.slice xa n cap) n (rowOf X n)) : Rd w xa n X := by
  obtain ⟨xa', cap', hv, _, _, hr⟩ := rd_of_own h
  cases hv
  exact hr
/-- The marks, written into a copy: its block alone has changed. -/
def MarkedX (g n : Nat) (k0 : Int) (w : World) (e : Ending) (w' : World) : Prop := e = .returned (.int .i64 (k0 + n)) ∧ Only g w w'
set_option maxHeartbeats 1600000 in
theorem markX_any (B g n cap : Nat) (X : Nat → Nat) (k0 : Int) (w : World) (hown : w.ownsRow B 36 1 (.slice (some ⟨g, 0, none⟩) n cap) n (rowOf X n)) (hn : n ≤ 1048576) (hk0 : 0 ≤ k0) (hk1 : k0 ≤ 100000000) :
    Calls Try.prog 25 #[.slice (some ⟨g, 0, none⟩) n cap, .int .i64 k0] w (MarkedX g n k0 w) := by
  go_enter Try.func25, Try.ntmps25
  go_wp2
  go_loopw [1, 5] (fun q i wr => ∃ k : Nat, k ≤ n ∧ i = .int .i64 k ∧ q = .int .i64 (k0 + k) ∧ wr.ownsRow B 36 1 (.slice (some ⟨g, 0, none⟩) n cap) n (rowOf (fun j => if j < k then mk k0 j else X j) n) ∧ Only g w wr) (fun _ i _ => n - (intOf i).toNat)
  case atStart => exact ⟨0, Nat.zero_le _, rfl, by simp, by simpa using hown, Only.refl _ _⟩
  case round =>
    obtain ⟨k, hk, rfl, rfl, hownk, hBk⟩ := hrel
    by_cases hlt : k < n
    · have hfz := hownk.frozenAt k
      have hcl : wr.cell? ⟨g, k, none⟩ = some (.float .f32 (X k)) := by
        rw [hownk.cellAt k (by omega), rowOf_get _ _ _ hlt, if_neg (by omega)]
      have hst := (hownk.stored k (.float .f32 (mk k0 k))).1
      rw [rowOf_set] at hst
      rw [rowOf_congr (Y := fun j => if j < k + 1 then mk k0 j else X j) (fun j _ => by
          by_cases hj : j = k
          · subst hj; simp
          · rw [if_neg hj]; by_cases hj2 : j < k
            · rw [if_pos hj2, if_pos (by omega)]
            · rw [if_neg hj2, if_neg (by omega)])] at hst
      have hB' : Only g w (wr.setCell ⟨g, k, none⟩ (.float .f32 (mk k0 k))) := hBk.setCell _ _
      have hsf := store_float wr ⟨g, k, none⟩ (mk k0 k) hcl hfz
      have hmk : floatOfInt .f32 (k0 + k) = mk k0 k := rfl
      clear hownk hBk hown
      go_wp2
      go_roundw
      case rel => exact ⟨k + 1, by omega, by go_num, by go_num, hst, hB'⟩
      case measure => simp [intOf]; omega
    · have hkn : k = n := by omega
      subst hkn
      clear hownk
      go_wp2
      go_ret
      exact ⟨rfl, hBk⟩
end Go.Proofs.Ytogmcinaoemnpab
