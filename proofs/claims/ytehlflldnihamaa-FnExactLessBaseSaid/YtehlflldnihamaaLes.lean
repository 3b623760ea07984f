/- A list less another one, number by number, as the program makes it. -/
import Derived.Test.YtehlflldnihamaaArr
import Derived.Test.YtehlflldnihamaaQ5
namespace Go.Proofs.Ytehlflldnihamaa
open Go Go.ChangeShapes Go.WideShapes Go.ChangeAt Go.RowKit

def lesR (X Y : Nat → Nat) (j : Nat) : Nat := fbin .sub .f32 (X j) (Y j)
/-- A list of the call's own. -/
def OwnRet (R : Nat → Nat) (n : Nat) (w : World) (e : Ending) (w' : World) : Prop := ∃ v X, e = .returned v ∧ w'.ownsRow w.heap.size 31 1 v n (rowOf X n) ∧ LikeP X R n ∧ Below w.heap.size w w'
set_option maxRecDepth 100000 in
set_option maxHeartbeats 3200000 in
theorem les_any (xa ya : Option Addr) (n cx cy : Nat) (X Y : Nat → Nat) (w : World) (hX : Rd w xa n X) (hY : Rd w ya n Y) (hn : n ≤ 1048576) :
    Calls Try.prog 66 #[.slice xa n cx, .slice ya n cy] w (OwnRet (lesR X Y) n w) := by
  obtain ⟨i0, hi, hz0, hz1, hz2⟩ := info_parts infoF
  obtain ⟨xb, xo, hxa, hcx⟩ := hX
  obtain ⟨yb, yo, hya, hcy⟩ := hY
  have HX := Lib.hid hcx
  have HY := Lib.hid hcy
  clear hcx hcy
  have hb : i0.bytes * n ≤ 281474976710656 := by rw [hz2]; omega
  have hm : n ≤ maxLen := by unfold maxLen; omega
  go_enter Try.func66, Try.ntmps66
  go_wp2_with (at_make; refine wpList_make_full _ rfl _ _ 22 rfl w.heap.size 31 i0 (.float .f32 0) 1 Try.underlying22 hi hz0 hz1 _ _ _ _ n rfl rfl rfl rfl hb hm (Nat.le_refl _) ?_)
  intro w1 hown hgr
  rw [madeF] at hown
  have hB : Below w.heap.size w w1 := (Below.refl _ w).grown hgr (Nat.le_refl _) (fun _ h => by cases h)
  clear hgr hb hm hi hz0 hz1 hz2
  go_wp2
  go_loopw [13] (fun i wr => ∃ (k : Nat) (Z : Nat → Nat), k ≤ n ∧ i = .int .i64 k ∧ wr.ownsRow w.heap.size 31 1 (.slice (some ⟨w.heap.size, 0, none⟩) n n) n (rowOf Z n) ∧ LikeP Z (lesR X Y) k ∧ Below w.heap.size w wr) (fun i _ => n - (intOf i).toNat)
  case atStart => exact ⟨0, fun _ => 0, Nat.zero_le _, rfl, hown, fun _ h => absurd h (Nat.not_lt_zero _), hB⟩
  case round =>
    obtain ⟨k, Z, hk, rfl, hownk, hL, hBk⟩ := hrel
    clear hown hB
    by_cases hlt : k < n
    · have e := hxa (by omega)
      subst e
      have e := hya (by omega)
      subst e
      have c0x := HX.out k hlt
      have c0y := HY.out k hlt
      have c1x := (hBk.cell (p := ⟨xb, xo + k, none⟩) (World.block_lt_of_cell? w _ c0x)).trans c0x
      have c1y := (hBk.cell (p := ⟨yb, yo + k, none⟩) (World.block_lt_of_cell? w _ c0y)).trans c0y
      clear c0x c0y
      have st := fun q u => own_store hownk hlt q u
      have HO := Lib.hid hownk
      have HLk := Lib.hid hL
      clear hownk hL
      go_wp2_with ((with_reducible refine wpL_fbin ?_); refine ⟨_, _, _, rfl, rfl, rfl, fun s n => ?_⟩)
      go_roundw
      case rel => exact ⟨k + 1, _, by omega, by go_num, own_stored (own_drew HO.out _) k _, HLk.out.push rfl, Below.setCell (Below.drewN hBk _) (Nat.le_refl _) _⟩
      case measure => simp [intOf]; omega
    · have hkn : k = n := by omega
      subst hkn
      go_wp2
      go_ret
      exact ⟨_, Z, rfl, hownk, hL, hBk⟩
end Go.Proofs.Ytehlflldnihamaa
