/- The sign of a sum, and its square times factors: as the program tells them. -/
import Derived.Test.YtffhnkhjfggooabDoorPro
namespace Go.Proofs.YtffhnkhjfggooabDoor
open Go Go.ChangeShapes Go.WideShapes Go.ChangeAt Go.RowKit

theorem results_tmp_cell {fn : Func} {u p : Tmp} {ty : TypeId} (h : fn.results = #[.tmp u, .cell p ty]) (tmps : Array Value) (P : Program) (w : World) :
    (results fn tmps).run P w = ((asAddr (tmps.getD p undef)).run P w).andThen fun a w₁ => ((loadVar ty a).run P w₁).andThen fun v w₂ => .ok (.tuple #[tmps.getD u undef, v]) w₂ := by
  simp only [results, h]
  simp [Sem.run_bind, Result.andThen]
def gS (E : Nat → Int) (s : Int) : Nat := Nat.gcd (loP E 6) (s * s).natAbs
def sqU (E : Nat → Int) (s : Int) : Int := Int.tdiv (s * s) (gS E s : Int) * (upP E 6 : Int)
def sqD (E : Nat → Int) (s : Int) : Int := (loP E 6 : Int) / (gS E s : Int)
def sqG (E : Nat → Int) (s : Int) : Int := if sqU E s = 0 ∧ sqD E s = 1 then 0 else if s < 0 then -1 else 1
structure FitI (E : Nat → Int) (s : Int) : Prop where
  small : Small E 6 1000
  up : upP E 6 ≤ 100000000000000000
  lo : loP E 6 ≤ 100000000000000000
  u : sqU E s ≤ 100000000000000000
set_option maxRecDepth 100000 in
set_option maxHeartbeats 6400000 in
theorem signSq_any (E : Nat → Int) (s : Int) (w : World) (hG : Glob w) (hF : FitI E s) (hs0 : -1000000 ≤ s) (hs1 : s ≤ 1000000) :
    Calls Tryd.prog 54 #[.int .i64 s, .agg #[.int .i64 (E 0), .int .i64 (E 1), .int .i64 (E 2), .int .i64 (E 3), .int .i64 (E 4), .int .i64 (E 5)]] w fun e w' => e = .returned (.tuple #[.int .i64 (sqG E s), frac (sqU E s) (sqD E s)]) ∧ Below w.heap.size w w' := by
  have HF := Lib.hid hF
  have hB2 : Below w.heap.size w ((w.alloc (.cells #[.int .i64 (E 0), .int .i64 (E 1), .int .i64 (E 2), .int .i64 (E 3), .int .i64 (E 4), .int .i64 (E 5)] 80)).alloc (.cells #[.int .i64 0, .int .i64 0] 58)) :=
    ((Below.refl _ w).alloc (Nat.le_refl _) _).alloc (by simp) _
  have hR2 := exps_two (w.alloc (.cells #[.int .i64 (E 0), .int .i64 (E 1), .int .i64 (E 2), .int .i64 (E 3), .int .i64 (E 4), .int .i64 (E 5)] 80)) 58 0 0
  have hE2 := (exps_six w 80 E).below ((Below.refl _ _).alloc (Nat.le_refl _) (.cells #[.int .i64 0, .int .i64 0] 58))
  rw [World.size_alloc] at hR2
  obtain ⟨w2, hw2⟩ : ∃ w2, w2 = ((w.alloc (.cells #[.int .i64 (E 0), .int .i64 (E 1), .int .i64 (E 2), .int .i64 (E 3), .int .i64 (E 4), .int .i64 (E 5)] 80)).alloc (.cells #[.int .i64 0, .int .i64 0] 58)) := ⟨_, rfl⟩
  have k0 := hE2.cell (k := 0) (by omega)
  have k1 := hE2.cell (k := 1) (by omega)
  have k2 := hE2.cell (k := 2) (by omega)
  have k3 := hE2.cell (k := 3) (by omega)
  have k4 := hE2.cell (k := 4) (by omega)
  have k5 := hE2.cell (k := 5) (by omega)
  have hss0 : 0 ≤ s * s := by
    rcases Int.le_total 0 s with h | h
    · exact Int.mul_nonneg h h
    · exact Int.mul_nonneg_of_nonpos_of_nonpos h h
  have hss1 : s * s ≤ 1000000000000 := by
    have h1 : s * s = (s.natAbs : Int) * (s.natAbs : Int) := by
      rcases Int.natAbs_eq s with h | h
      · rw [← h]
      · have : s * s = (-s) * (-s) := by rw [Int.neg_mul_neg]
        rw [this, show -s = (s.natAbs : Int) by omega]
    rw [h1]
    have : (s.natAbs : Int) ≤ 1000000 := by omega
    exact Int.mul_le_mul (c := 1000000) (d := 1000000) this this (by omega) (by omega)
  have HE2 := Lib.hid hE2
  have HR2 := Lib.hid hR2
  have HB2 := Lib.hid hB2
  have HW2 := Lib.hid hw2
  clear hF hB2 hR2 hE2 hw2
  go_enter Tryd.func54, Tryd.ntmps54
  go_wp2_with fail
  clear k0 k1 k2 k3 k4 k5
  rw [← HW2.out]
  have HB2' := HB2.out
  rw [← HW2.out] at HB2'
  have HR2' := HR2.out
  rw [← HW2.out] at HR2'
  refine (product_any E _ (hG.below HB2') HF.out.small HF.out.up HF.out.lo).mono ?_
  rintro e w3 ⟨rfl, hb3⟩
  unfold frac
  have HB3 := Lib.hid (HB2'.trans (hb3.mono HB2'.size))
  have HR3 := Lib.hid (HR2'.below hb3)
  clear HB2' HR2' hb3
  have lpos : 1 ≤ loP E 6 := upP_pos _ _
  have hlo := HF.out.lo
  go_wp2_with fail
  refine (reduced_any (s * s) (loP E 6) _ (by omega) (by omega) lpos).mono ?_
  rintro e w4 ⟨rfl, hb4⟩
  unfold frac
  have hg1 : 1 ≤ gS E s := Nat.gcd_pos_of_pos_left _ (by omega)
  obtain ⟨G, hGd⟩ : ∃ G, G = gS E s := ⟨_, rfl⟩
  obtain ⟨U0, hU0⟩ : ∃ U0, U0 = Int.tdiv (s * s) (Nat.gcd (loP E 6) (s * s).natAbs : Int) := ⟨_, rfl⟩
  obtain ⟨D0, hD0⟩ : ∃ D0, D0 = (loP E 6 : Int) / (Nat.gcd (loP E 6) (s * s).natAbs : Int) := ⟨_, rfl⟩
  obtain ⟨up, hup⟩ : ∃ up, up = (upP E 6 : Int) := ⟨_, rfl⟩
  obtain ⟨U, hU⟩ : ∃ U, U = U0 * up := ⟨_, rfl⟩
  have hUd : U = sqU E s := by rw [hU, hU0, hup]; rfl
  have hDd : D0 = sqD E s := by rw [hD0]; rfl
  have hU00 : 0 ≤ U0 := by rw [hU0]; exact Int.tdiv_nonneg hss0 (by omega)
  have hup0 : 0 ≤ up := by rw [hup]; omega
  have hUU0 : 0 ≤ U := by rw [hU]; exact Int.mul_nonneg hU00 hup0
  have hUU1 : U ≤ 100000000000000000 := by rw [hUd]; exact HF.out.u
  have hmul : U0 * up = U := hU.symm
  rw [← hU0, ← hD0]
  have hB3 := HB3.out
  have hA3 : Below w.heap.size w (w3.alloc (.cells #[.int .i64 up, .int .i64 (loP E 6 : Int)] 58)) := hB3.alloc hB3.size _
  rw [← hup] at hb4
  have hB4 := hA3.trans (hb4.mono hA3.size)
  have hP4 := (exps_two w3 58 up (loP E 6 : Int)).below hb4
  have hR4 := (HR3.out.below ((Below.refl _ w3).alloc (Nat.le_refl _) _)).below hb4
  have hlt3 := hP4.lt
  have hltr := hR4.lt
  have c0 : w4.cell? ⟨w3.heap.size, 0, none⟩ = some (.int .i64 up) := hP4.cell (k := 0) (by omega)
  have hB6 := hB4.alloc hB4.size (.cells #[.int .i64 U, .int .i64 D0] 58)
  have hS6 := exps_two w4 58 U D0
  have hlt4 : w.heap.size + 1 < w4.heap.size := hltr
  have hR6 := hR4.below ((Below.refl _ w4).alloc (Nat.le_refl _) (.cells #[.int .i64 U, .int .i64 D0] 58))
  have hG6 := hG.below hB6
  have q0 : (w4.alloc (.cells #[.int .i64 U, .int .i64 D0] 58)).cell? ⟨w4.heap.size, 0, none⟩ = some (.int .i64 U) := hS6.cell (k := 0) (by omega)
  have q1 : (w4.alloc (.cells #[.int .i64 U, .int .i64 D0] 58)).cell? ⟨w4.heap.size, 1, none⟩ = some (.int .i64 D0) := hS6.cell (k := 1) (by omega)
  have n0 := hG6.n0
  have n1 := hG6.n1
  have r0 : (w4.alloc (.cells #[.int .i64 U, .int .i64 D0] 58)).cell? ⟨w.heap.size + 1, 0, none⟩ = some (.int .i64 0) := hR6.cell (k := 0) (by omega)
  have r1 : (w4.alloc (.cells #[.int .i64 U, .int .i64 D0] 58)).cell? ⟨w.heap.size + 1, 1, none⟩ = some (.int .i64 0) := hR6.cell (k := 1) (by omega)
  have g0 := hR6.frozen (k := 0)
  have g1 := hR6.frozen (k := 1)
  have HB6 := Lib.hid hB6
  have HB4 := Lib.hid hB4
  have r0' : w4.cell? ⟨w.heap.size + 1, 0, none⟩ = some (.int .i64 0) := hR4.cell (k := 0) (by omega)
  have r1' : w4.cell? ⟨w.heap.size + 1, 1, none⟩ = some (.int .i64 0) := hR4.cell (k := 1) (by omega)
  have g0' := hR4.frozen (k := 0)
  have g1' := hR4.frozen (k := 1)
  have HUD := Lib.hid hUd
  have HDD := Lib.hid hDd
  clear hU hU0 hD0 hup hUd hDd hB3 hA3 hB4 hP4 hR4 hS6 hB6 hR6 hG6 hb4 hltr hG hGd hg1
  have HS := Lib.hid (show sqG E s = (if U = 0 ∧ D0 = 1 then 0 else if s < 0 then -1 else 1) by rw [HUD.out, HDD.out]; rfl)
  go_wp2
  all_goals go_region
  all_goals go_wp2
  all_goals
    refine bodyPost_ret (v := .tuple #[.int .i64 (sqG E s), .agg #[.int .i64 U, .int .i64 D0]]) ?_ rfl ⟨?_, ?_⟩
    · rw [results_tmp_cell rfl, HS.out]
      first
        | (rw [if_pos ⟨by assumption, by assumption⟩]; go_simp)
        | (rw [if_neg (fun hh => absurd hh.1 (by assumption)), if_pos (by assumption)]; go_simp)
        | (rw [if_neg (fun hh => absurd hh.1 (by assumption)), if_neg (by omega)]; go_simp)
        | (rw [if_neg (fun hh => absurd hh.2 (by assumption)), if_pos (by assumption)]; go_simp)
        | (rw [if_neg (fun hh => absurd hh.2 (by assumption)), if_neg (by omega)]; go_simp)
    · rw [HUD.out, HDD.out]; rfl
    · have hb := fun (u v : Value) => ((HB4.out.setCell (p := ⟨w.heap.size + 1, 0, none⟩) (Nat.le_succ _) u).setCell (p := ⟨w.heap.size + 1, 1, none⟩) (Nat.le_succ _) v)
      exact Below.drewN ((hb _ _).alloc (hb _ _).size _) 1
end Go.Proofs.YtffhnkhjfggooabDoor
