/- Levels in a field: where there are none. -/
import Derived.Test.YtffhnkhjfggooaaSpi
namespace Go.Proofs.Ytffhnkhjfggooaa
open Go Go.ChangeShapes Go.WideShapes Go.ChangeAt Go.RowKit Go.Shelf

set_option maxRecDepth 100000 in
set_option maxHeartbeats 3200000 in
theorem implSpl_no (l s j : Int) (lv fd : Nat) (w : World) (R : Nat → Nat) (h : splOk l s j lv fd = false) :
    Calls Try.prog 22 #[.int .i64 l, .int .i64 s, .int .i64 j, .float .f32 lv, .float .f32 fd] w (OutRet R 0 false w) := by
  refine (callsIn_wide (n := 6)).1 ?_
  unfold splOk at h
  have hF1 : Fence.wide.fn 20 := trivial
  have hF2 : Fence.wide.fn 59 := trivial
  cases h1 : fineB l s j
  · clear h
    have hfac := fun w => implFac_no l s j w h1
    refine callsIn_of_wp_marks Try.func22 rfl trivial ?_ rfl
    simp only [Try.ntmps22, List.size_toArray, List.length_cons, List.length_nil, Nat.reduceAdd, Nat.reduceSub, Array.replicate_succ, Array.replicate_zero, List.push_toArray, List.append_toArray, List.nil_append, List.cons_append]
    gi_wp2_with (gi_at_call 20; refine ((callsIn_wide (n := 5)).2 (hfac _)).mono ?_; rintro e w1 ⟨rfl, hb⟩; clear hfac)
    have hbw : Below w.heap.size w w1 := ((Below.refl _ w).alloc (Nat.le_refl _) _).trans (hb.mono (by simp))
    refine ⟨_, results_tmp2 rfl _ _ _, ?_⟩
    exact OutRet.no hbw
  · have hfl : finL (two lv fd) 2 = false := by
      rw [h1] at h
      rw [finL_two]
      exact h
    clear h
    obtain ⟨U, hU⟩ : ∃ U, facU l s j = U := ⟨_, rfl⟩
    obtain ⟨D, hD⟩ : ∃ D, facD l s j = D := ⟨_, rfl⟩
    have hfac := fun w => implFac_yes l s j w h1
    rw [hU, hD] at hfac
    refine callsIn_of_wp_marks Try.func22 rfl trivial ?_ rfl
    simp only [Try.ntmps22, List.size_toArray, List.length_cons, List.length_nil, Nat.reduceAdd, Nat.reduceSub, Array.replicate_succ, Array.replicate_zero, List.push_toArray, List.append_toArray, List.nil_append, List.cons_append]
    gi_wp2_with (first | (gi_at_call 20; refine ((callsIn_wide (n := 5)).2 (hfac _)).mono ?_; rintro e w1 ⟨rfl, hb⟩; have hc0 : w1.cell? ⟨w.heap.size, 0, none⟩ = some (.float .f32 lv) := (hb.cell (p := ⟨w.heap.size, 0, none⟩) (by simp)).trans (Boxed.new w _ _).cell; clear hfac) | (gi_at_call 59; refine ((callsIn_wide (n := 5)).2 (allFinite_any _ _ _ (two lv fd) _ (rd_two _ _ _ _) (by omega))).mono ?_; rintro e w' ⟨rfl, q, rfl⟩; rw [hfl]))
    have hbw : Below w.heap.size w w1 := ((Below.refl _ w).alloc (Nat.le_refl _) _).trans (hb.mono (by simp))
    refine ⟨_, results_tmp2 rfl _ _ _, ?_⟩
    exact OutRet.no (Below.drewN (hbw.alloc hbw.size _) _)
end Go.Proofs.Ytffhnkhjfggooaa
