
/- What each row of this seat is closed with. -/
import Derived.Test.YtogmcinaoemnpabSameA
import Derived.Test.YtogmcinaoemnpabRows
import Derived.ProofKit
import Derived.OpenShut
namespace Go.Proofs.Ytogmcinaoemnpab
open Go Go.ChangeShapes Go.WideShapes Go.ChangeAt Go.RowKit

theorem ownKnob_none : ownKnob Try.prog.godebug = none := by kernel_rfl
theorem grown_drewN (w : World) (n : Nat) : Grown w (w.drewN n) := ⟨⟨rfl, rfl, fun i hi => by simp only [World.heap_drewN]; have := (World.keptBut_refl w (fun _ => False)).2.2 i hi; exact this⟩, fun _ => rfl, Nat.le_refl _⟩
theorem grown_draws {w w' : World} (h : ∃ n, w' = w.drewN n) : Grown w w' := by obtain ⟨n, rfl⟩ := h; exact grown_drewN w n
theorem f32_lt {x : Nat} (h : (Lit.float .f32 x).wf = true) : x < 4294967296 := by simpa [Lit.wf] using h
theorem f64_lt {x : Nat} (h : (Lit.float .f64 x).wf = true) : x < 18446744073709551616 := by simpa [Lit.wf] using h
theorem i64_rng {x : Int} (h : (Lit.int .i64 x).wf = true) : -9223372036854775808 ≤ x ∧ x ≤ 9223372036854775807 := by simpa [Lit.wf, IntKind.min, IntKind.max, IntKind.signed, IntKind.bits] using h
end Go.Proofs.Ytogmcinaoemnpab
