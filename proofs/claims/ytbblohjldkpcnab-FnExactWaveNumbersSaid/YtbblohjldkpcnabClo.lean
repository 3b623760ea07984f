
/- A list that has a number, cloned. -/
import Derived.Test.YtbblohjldkpcnabPush0
import Derived.Test.YtbblohjldkpcnabLaw
import Derived.Test.YtbblohjldkpcnabSt
import Derived.Lib.SliceRun
namespace Go.Proofs.Ytbblohjldkpcnab
open Go Go.ChangeShapes Go.WideShapes Go.ChangeAt Go.RowKit

/-- A copy of a row that has a number. -/
def CloneRet (X : Nat → Nat) (n : Nat) (w : World) (e : Ending) (w' : World) : Prop :=
  ∃ g cap, e = .returned (.slice (some ⟨g, 0, none⟩) n cap) ∧ w'.ownsRow w.heap.size 43 1 (.slice (some ⟨g, 0, none⟩) n cap) n (rowOf X n) ∧ Below w.heap.size w w'
set_option maxRecDepth 100000 in
set_option maxHeartbeats 800000 in
theorem clone_any (xa : Option Addr) (n cap : Nat) (X : Nat → Nat) (w : World) (hX : Rd w xa n X) (h1 : 1 ≤ n) (hn : n ≤ 1048576) :
    Calls Try.prog 108 #[.slice xa n cap] w (CloneRet X n w) := by
  obtain ⟨i0, hi, hz0, hz1, hz2⟩ := info_parts infoF
  have hX' := hX
  obtain ⟨xb, xo, hxa, _⟩ := hX'
  have e := hxa (by omega)
  subst e
  have hnil : ∀ W, (binOp .eql 24 (.slice (some ⟨xb, xo, none⟩) n cap) (.slice none 0 0)).run Try.prog W = .ok (.bool false) W := fun W => Lib.run_eql_slice_nil W _ _ _ _ _ _ _ Try.underlying24
  go_enter Try.func108, Try.ntmps108
  go_wp2_with (at_builtin; refine wpL_copy0 hi hz0 hz1 hz2 rfl rfl rfl rfl (by exact hX.alloc _) h1 hn ?_; intro v' w1 hown hb)
  have hown' : w1.ownsRow w.heap.size 43 1 v' n (rowOf X n) := own_mono0 hown (by simp)
  have hb' : Below w.heap.size w w1 := ((Below.refl _ w).alloc (Nat.le_refl _) (.cells #[] 43)).trans (hb.mono (by simp))
  obtain ⟨g, cp, rfl⟩ : ∃ g cap, v' = .slice (some ⟨g, 0, none⟩) n cap := by
    rcases hown'.2 with ⟨_, h2⟩ | ⟨g, cp, cur, h1, _⟩
    · omega
    · exact ⟨g, cp, h1⟩
  go_ret
  exact ⟨g, cp, rfl, hown', hb'⟩
end Go.Proofs.Ytbblohjldkpcnab
