
/- The sine in the model's package, all its ways together. -/
import Derived.Test.YtogmcinaoemnpaaSinV
namespace Go.Proofs.Ytogmcinaoemnpaa
open Go Go.RowKit
theorem specSineWide_any (Y : Nat) (hi : floatToIntVal .f64 Y .i64 = some (ipart Y)) (hb : Bd .f64 (fr Y) 1)
    (g0 : (FloatKind.f64.format.order (fbin .sub .f64 Y Y) 0 != some .eq) = false) (g1 : (FloatKind.f64.format.order Y 4841369599423283200 == some .gt || FloatKind.f64.format.order Y 4841369599423283200 == some .eq) = false)
    (g2 : (FloatKind.f64.format.order Y 14064741636278059008 == some .lt || FloatKind.f64.format.order Y 14064741636278059008 == some .eq) = false) (w : World) :
    Calls Try.prog 105 #[.float .f64 Y] w fun e w' => e = .returned (.float .f64 (sineF (fr Y))) ∧ ∃ n, w' = w.drewN n := by
  have hn := (bd_sineM hb rfl).num
  cases h0 : lt64 (fr0 Y) 0
  all_goals cases h1 : ge64 (fr Y) halfW
  all_goals cases h2 : gt64 (sineG (fr Y)) quarW
  · refine (sineWide_000 Y hi h0 h1 h2 g0 g1 g2 w).mono ?_
    rintro e w' ⟨s, n, rfl, rfl⟩
    exact ⟨by rw [pick_num hn]; unfold sineF; rw [h1]; rfl, n, rfl⟩
  · refine (sineWide_001 Y hi h0 h1 h2 g0 g1 g2 w).mono ?_
    rintro e w' ⟨s, n, rfl, rfl⟩
    exact ⟨by rw [pick_num hn]; unfold sineF; rw [h1]; rfl, n, rfl⟩
  · refine (sineWide_010 Y hi h0 h1 h2 g0 g1 g2 w).mono ?_
    rintro e w' ⟨s, n, rfl, rfl⟩
    exact ⟨by rw [pick_num hn]; unfold sineF; rw [h1, if_pos rfl, fneg_num hn], n, rfl⟩
  · refine (sineWide_011 Y hi h0 h1 h2 g0 g1 g2 w).mono ?_
    rintro e w' ⟨s, n, rfl, rfl⟩
    exact ⟨by rw [pick_num hn]; unfold sineF; rw [h1, if_pos rfl, fneg_num hn], n, rfl⟩
  · refine (sineWide_100 Y hi h0 h1 h2 g0 g1 g2 w).mono ?_
    rintro e w' ⟨s, n, rfl, rfl⟩
    exact ⟨by rw [pick_num hn]; unfold sineF; rw [h1]; rfl, n, rfl⟩
  · refine (sineWide_101 Y hi h0 h1 h2 g0 g1 g2 w).mono ?_
    rintro e w' ⟨s, n, rfl, rfl⟩
    exact ⟨by rw [pick_num hn]; unfold sineF; rw [h1]; rfl, n, rfl⟩
  · refine (sineWide_110 Y hi h0 h1 h2 g0 g1 g2 w).mono ?_
    rintro e w' ⟨s, n, rfl, rfl⟩
    exact ⟨by rw [pick_num hn]; unfold sineF; rw [h1, if_pos rfl, fneg_num hn], n, rfl⟩
  · refine (sineWide_111 Y hi h0 h1 h2 g0 g1 g2 w).mono ?_
    rintro e w' ⟨s, n, rfl, rfl⟩
    exact ⟨by rw [pick_num hn]; unfold sineF; rw [h1, if_pos rfl, fneg_num hn], n, rfl⟩
end Go.Proofs.Ytogmcinaoemnpaa
