
/- The power of e of a number that is not above 0 is a number, and at most 1 (parts of XCro, XRtw). -/
import Derived.Test.YtmpcalpapkedhaaCroP
namespace Go.Proofs.Ytmpcalpapkedhaa
open Go Go.ChangeShapes Go.WideShapes Go.ChangeAt Go.RowKit

theorem expF_bd {x : Nat} (h : NegX x) : Bd .f32 (expF x) 0 := by
  obtain ⟨_, _, _, hb⟩ := exp_facts h
  unfold expF
  cases h2 : (FloatKind.f32.format.order x 3276275712 == some .lt)
  · rw [if_neg (by simp)]
    obtain ⟨m, e, hd, hv⟩ := hb h2
    have hn : isNaN .f64 (expWd x) = false := by unfold isNaN; rw [hd]; rfl
    unfold expV fconv
    rw [if_neg (by rw [hn]; simp), hd]
    exact encode_bd .f32 false m e 0 hv (by decide) (by decide)
  · rw [if_pos rfl]
    exact ⟨false, 0, -149, by decide +kernel, by decide +kernel⟩
theorem bd_fin {x : Nat} {B : Int} (h : Bd .f32 x B) : isFin .f32 x = true := by
  obtain ⟨s, m, e, hd, _⟩ := h
  unfold isFin
  rw [hd]
  rfl
theorem expF_num {x : Nat} (h : NegX x) : isNaN .f32 (expF x) = false := by
  obtain ⟨_, _, _, hb⟩ := exp_facts h
  unfold expF
  cases h2 : (FloatKind.f32.format.order x 3276275712 == some .lt)
  · rw [if_neg (by simp)]
    unfold expV
    rw [isNaN_fconv, (hb h2).bd.num]
  · rw [if_pos rfl]; decide +kernel
end Go.Proofs.Ytmpcalpapkedhaa
