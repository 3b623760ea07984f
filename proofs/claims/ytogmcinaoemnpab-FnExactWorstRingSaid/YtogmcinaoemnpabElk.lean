
/- The laws' own marks on a list of edges that is one's own. -/
import Derived.Test.YtogmcinaoemnpabEds
namespace Go.Proofs.Ytogmcinaoemnpab
set_option linter.all false
open Go Go.ChangeShapes Go.WideShapes Go.ChangeAt Go.RowKit

def MarkedE (g n : Nat) (k0 : Int) (w : World) (e : Ending) (w' : World) : Prop := e = .returned (.int .i64 (k0 + 3 * n)) ∧ Only g w w'
theorem ownS_lt {w : World} {B e z g n cap : Nat} {xs : List Value} (h : w.ownsRow B e z (.slice (some ⟨g, 0, none⟩) n cap) n xs) : g < w.heap.size := by
  rcases h.2 with ⟨h2, _⟩ | ⟨b, cap, cur, h1, h2, h3, h4⟩
  · cases h2
  · simp only [Value.slice.injEq, Option.some.injEq, Addr.mk.injEq] at h1
    rw [h1.1.1]
    exact (Array.getElem?_eq_some_iff.1 h3).1
set_option maxRecDepth 100000 in
set_option maxHeartbeats 3200000 in
theorem markE_any (g n cap : Nat) (X : Nat → Ed) (k0 : Int) (w : World) (hown : w.ownsRow g 80 3 (.slice (some ⟨g, 0, none⟩) n cap) n (rowE X n)) (hn : n ≤ 1048576) (hk0 : 0 ≤ k0) (hk1 : k0 ≤ 100000000) :
    Calls Try.prog 31 #[.slice (some ⟨g, 0, none⟩) n cap, .int .i64 k0] w (MarkedE g n k0 w) := by
  go_enter Try.func31, Try.ntmps31
  go_wp2
  go_loopw [1, 5] (fun q i wr => ∃ (k : Nat) (Y : Nat → Ed), k ≤ n ∧ i = .int .i64 k ∧ q = .int .i64 (k0 + 3 * k) ∧ wr.ownsRow g 80 3 (.slice (some ⟨g, 0, none⟩) n cap) n (rowE Y n) ∧ Only g w wr) (fun _ i _ => n - (intOf i).toNat)
  case atStart => exact ⟨0, X, Nat.zero_le _, rfl, by simp, hown, Only.refl _ _⟩
  case round =>
    obtain ⟨k, Y, hk, rfl, rfl, hownk, hBk⟩ := hrel
    clear hown
    by_cases hlt : k < n
    · obtain ⟨c0, c1, c2⟩ := ownE_cells hownk hlt
      have f0 := hownk.frozenAt (k * 3)
      have f1 := hownk.frozenAt (k * 3 + 1)
      have f2 := hownk.frozenAt (k * 3 + 2)
      have hst := run_store_f32
      have hst2 := run_store_i64
      have HO := Lib.hid hownk
      clear hownk
      go_wp2
      go_roundw
      case rel =>
        refine ⟨k + 1, _, by omega, by go_num, by go_num, ownE_stored HO.out k ⟨k0 + 3 * k, k0 + 3 * k + 1, floatOfInt .f32 (k0 + 3 * k + 1 + 1)⟩ hlt, ?_⟩
        exact ((hBk.setCell _ _).setCell _ _).setCell _ _
      case measure => simp [intOf]; omega
    · have hkn : k = n := by omega
      subst hkn
      go_wp2
      go_ret
      exact ⟨ret_i64 (by go_num), hBk⟩
end Go.Proofs.Ytogmcinaoemnpab
