
/- The laws' own copying of rows of numbers. -/
import Derived.Test.YtogmcinaoemnpabLiW
namespace Go.Proofs.Ytogmcinaoemnpab
open Go Go.ChangeShapes Go.WideShapes Go.ChangeAt Go.RowKit

/-- A copy that is a row of the call's own. -/
def Copied (w : World) (n : Nat) (X : Nat → Nat) (e : Ending) (w' : World) : Prop :=
  e = .returned (.slice (some ⟨w.heap.size, 0, none⟩) n n) ∧ w'.ownsRow w.heap.size 36 1 (.slice (some ⟨w.heap.size, 0, none⟩) n n) n (rowOf X n) ∧ Below w.heap.size w w'
set_option maxHeartbeats 800000 in
theorem toF_any (xa : Option Addr) (n cap : Nat) (X : Nat → Nat) (w : World) (hX : Rd w xa n X) (hn : n ≤ 1048576) :
    Calls Try.prog 22 #[.slice xa n cap] w (Copied w n X) := by
  obtain ⟨i0, hi, hz0, hz1, hz2⟩ := info_parts infoF
  obtain ⟨xb, xo, hxa, hcell⟩ := hX
  have HC := Lib.hid hcell
  clear hcell
  have hb : i0.bytes * n ≤ 281474976710656 := by rw [hz2]; omega
  have hm : n ≤ maxLen := by unfold maxLen; omega
  go_enter Try.func22, Try.ntmps22
  go_wp2_with (at_make; refine wpList_make_full _ rfl _ _ 35 rfl w.heap.size 36 i0 (.float .f32 0) 1 Try.underlying35 hi hz0 hz1 _ _ _ _ n rfl rfl rfl rfl hb hm (Nat.le_refl _) ?_)
  intro w1 hown hgr
  rw [madeF] at hown
  have hB : Below w.heap.size w w1 := (Below.refl _ w).grown hgr (Nat.le_refl _) (fun _ h => by cases h)
  clear hgr hb hm hi hz0 hz1 hz2
  go_wp2
  go_loopw [4] (fun i wr => ∃ k : Nat, k ≤ n ∧ i = .int .i64 k ∧ wr.ownsRow w.heap.size 36 1 (.slice (some ⟨w.heap.size, 0, none⟩) n n) n (rowOf (fun j => if j < k then X j else 0) n) ∧ Below w.heap.size w wr) (fun i _ => n - (intOf i).toNat)
  case atStart => exact ⟨0, Nat.zero_le _, rfl, by simpa using hown, hB⟩
  case round =>
    obtain ⟨k, hk, rfl, hownk, hBk⟩ := hrel
    by_cases hlt : k < n
    · have e := hxa (by omega)
      subst e
      have hck := HC.out k hlt
      have hbl : xb < w.heap.size := World.block_lt_of_cell? w _ hck
      have hck' : wr.cell? ⟨xb, xo + k, none⟩ = some (.float .f32 (X k)) := (hBk.cell (p := ⟨xb, xo + k, none⟩) hbl).trans hck
      have hfz := hownk.frozenAt k
      have hcl : wr.cell? ⟨w.heap.size, k, none⟩ = some (.float .f32 0) := by
        rw [hownk.cellAt k (by omega), rowOf_get _ _ _ hlt, if_neg (by omega)]
      have hst := hownk.stored k (.float .f32 (X k))
      rw [rowOf_set] at hst
      have hst1 : (wr.setCell ⟨w.heap.size, k, none⟩ (.float .f32 (X k))).ownsRow w.heap.size 36 1 (.slice (some ⟨w.heap.size, 0, none⟩) n n) n (rowOf (fun j => if j < k + 1 then X j else 0) n) := by
        have := hst.1
        rw [rowOf_congr (Y := fun j => if j < k + 1 then X j else 0) (fun j _ => by
          by_cases hj : j = k
          · subst hj; simp
          · rw [if_neg hj]; by_cases hj2 : j < k
            · rw [if_pos hj2, if_pos (by omega)]
            · rw [if_neg hj2, if_neg (by omega)])] at this
        exact this
      have hB' : Below w.heap.size w (wr.setCell ⟨w.heap.size, k, none⟩ (.float .f32 (X k))) := hBk.setCell (Nat.le_refl _) _
      have hsf := store_float wr ⟨w.heap.size, k, none⟩ (X k) hcl hfz
      clear hck hst hownk hBk hown hB
      go_wp2
      go_roundw
      case rel => exact ⟨k + 1, by omega, by go_num, hst1, hB'⟩
      case measure => simp [intOf]; omega
    · have hkn : k = n := by omega
      subst hkn
      have hown' : wr.ownsRow w.heap.size 36 1 (.slice (some ⟨w.heap.size, 0, none⟩) k k) k (rowOf X k) := by
        rw [rowOf_congr (Y := X) (fun j hj => by rw [if_pos hj])] at hownk
        exact hownk
      clear hown hB hownk
      go_wp2
      go_ret
      exact ⟨rfl, hown', hBk⟩
theorem rd_copied {w : World} {B e g n : Nat} {X : Nat → Nat} (h : w.ownsRow B e 1 (.slice (some ⟨g, 0, none⟩) n n) n (rowOf X n)) : Rd w (some ⟨g, 0, none⟩) n X := rd_own h
end Go.Proofs.Ytogmcinaoemnpab
