/- A list that a call makes, told if all of it is finite: as the model of chapter 7 tells it. -/
import Derived.Test.YtbblohjldkpcnabQ5
import Derived.Test.YtbblohjldkpcnabArr
namespace Go.Proofs.Ytbblohjldkpcnab
open Go Go.ChangeShapes Go.WideShapes Go.ChangeAt Go.RowKit

/-- What is told of a list and of whether there is one. -/
def LstRet (R : Nat → Nat) (m : Nat) (ok : Bool) (w : World) (e : Ending) (w' : World) : Prop := ∃ (v0 : Value) (Y0 : Nat → Nat), e = .returned (.tuple #[v0, .bool ok]) ∧ w'.ownsRow w.heap.size 43 1 v0 m (rowOf Y0 m) ∧ Like Y0 R m ∧ m ≤ 1048576 ∧ Below w.heap.size w w'
theorem lstNo {R : Nat → Nat} {w w' : World} (hb : Below w.heap.size w w') : LstRet R 0 false w (.returned (.tuple #[.slice none 0 0, .bool false])) w' :=
  ⟨_, fun _ => 0, rfl, World.ownsRow_nil _ _ _ _, fun _ h => absurd h (Nat.not_lt_zero _), Nat.zero_le _, hb⟩
theorem lstYes {R Z : Nat → Nat} {n : Nat} {v : Value} {w w' : World} (hL : Like Z R n) (hown : w'.ownsRow w.heap.size 43 1 v n (rowOf Z n)) (hn : n ≤ 1048576) (hb : Below w.heap.size w w') : LstRet R n true w (.returned (.tuple #[v, .bool true])) w' := ⟨v, Z, rfl, hown, hL, hn, hb⟩
/-- A list that is told if it is finite. -/
theorem lstGive {R Z : Nat → Nat} {n : Nat} {v : Value} {w w' : World} (hL : Like Z R n) (hown : w'.ownsRow w.heap.size 43 1 v n (rowOf Z n)) (hn : n ≤ 1048576) (hb : Below w.heap.size w w') :
    LstRet R (if finL R n = true then n else 0) (finL R n) w (.returned (.tuple #[if finL Z n = true then v else .slice none 0 0, .bool (finL Z n)])) w' := by
  have e := finL_like hL
  rw [e]
  cases hf : finL R n
  · exact lstNo hb
  · exact ⟨v, Z, rfl, hown, hL, hn, hb⟩
set_option maxRecDepth 100000 in
set_option maxHeartbeats 1600000 in
theorem l07Give_any (v : Value) (B n : Nat) (X : Nat → Nat) (w : World) (hown : w.ownsRow B 43 1 v n (rowOf X n)) (hn : n ≤ 1048576) :
    Calls Try.prog 63 #[v] w (ListRet X n v w) := by
  obtain ⟨xa, cap, rfl, _, _, xb, xo, hxa, hcx⟩ := rd_of_own hown
  clear hown
  have HX := Lib.hid hcx
  clear hcx
  go_enter Try.func63, Try.ntmps63
  go_wp2
  go_loopw [7] (fun i wr => ∃ k m : Nat, k ≤ n ∧ i = .int .i64 k ∧ wr = w.drewN m ∧ Hid (∀ j, j < k → isFin .f32 (X j) = true)) (fun i _ => n - (intOf i).toNat)
  case atStart => exact ⟨0, 0, Nat.zero_le _, rfl, rfl, Lib.hid fun j hj => absurd hj (Nat.not_lt_zero _)⟩
  case round =>
    obtain ⟨k, m, hk, rfl, rfl, HF⟩ := hrel
    by_cases hlt : k < n
    · have e := hxa (by omega)
      subst e
      have h1 := HX.out k hlt
      cases hf : isFin .f32 (X k)
      · have HN := Lib.hid (show finL X n = false from finL_no hlt hf)
        go_wp2_with (first | (go_at_call 82; refine (l01Finite_any _ _).mono ?_; rintro e w' ⟨rfl, q, rfl⟩))
        go_ret2
        exact ⟨by rw [HN.out]; rfl, _, rfl⟩
      · have HN := Lib.hid (show ∀ j, j < k + 1 → isFin .f32 (X j) = true from fun j hj => by
          by_cases hj' : j < k
          · exact HF.out j hj'
          · rw [show j = k by omega]; exact hf)
        go_wp2_with (first | (go_at_call 82; refine (l01Finite_any _ _).mono ?_; rintro e w' ⟨rfl, q, rfl⟩))
        go_roundw
        case rel => exact ⟨k + 1, _, by omega, by go_num, rfl, HN⟩
        case measure => simp [intOf]; omega
    · have hkn : k = n := by omega
      subst hkn
      have HN := Lib.hid (show finL X k = true from finL_yes HF.out)
      go_wp2
      go_ret2
      exact ⟨by rw [HN.out]; rfl, m, rfl⟩
end Go.Proofs.Ytbblohjldkpcnab
