
/- Of any desk the program says that it is valid just where the model does; the desk is not changed: for all arguments. -/
import Derived.Test.YtbblohjldkpcnaaDkL
namespace Go.Proofs.Ytbblohjldkpcnaa
open Go Go.ChangeShapes Go.WideShapes Go.ChangeAt Go.RowKit

set_option maxRecDepth 100000 in
set_option maxHeartbeats 6400000 in
theorem lawValidDesk_any (W : World) (xa : Option Addr) (n cx : Nat) (ya : Option Addr) (m cy p q r s : Nat) (za : Option Addr) (k cz : Nat) (X Y Z : Nat → Nat) (h : DkIn W xa n ya m p q r s za k X Y Z) :
    Calls Try.prog 4 #[.agg #[.slice xa n cx, .slice ya m cy, .float .f32 p, .float .f32 q, .float .f32 r, .float .f32 s, .slice za k cz]] W fun e w' => e = .returned (.bool true) ∧ Below W.heap.size W w' := by
  obtain ⟨⟨hX, hY, hZ⟩, ⟨hn, hm, hk⟩, _, _, _, _⟩ := h
  have hwa : ∃ wa, wa = W.alloc (.cells #[.slice xa n cx, .slice ya m cy, .float .f32 p, .float .f32 q, .float .f32 r, .float .f32 s, .slice za k cz] 37) := ⟨_, rfl⟩
  obtain ⟨wa, hwa⟩ := hwa
  have HA : Below W.heap.size W wa := by rw [hwa]; exact Below.alloc (Below.refl _ _) (Nat.le_refl _) _
  have P : Box7 wa W.heap.size (.slice xa n cx) (.slice ya m cy) (.float .f32 p) (.float .f32 q) (.float .f32 r) (.float .f32 s) (.slice za k cz) := by rw [hwa]; exact box7_alloc ..
  replace hX := hX.below HA
  replace hY := hY.below HA
  replace hZ := hZ.below HA
  have HB := Blw.refl wa
  have hne : ∀ z : Bool, (z != z) = false := by simp
  by_cases hs : (n : Int) + m + k ≤ 1048576
  · have h1 : n ≤ 1048576 := by omega
    have h2 : m ≤ 1048576 := by omega
    have h3 : k ≤ 1048576 := by omega
    have hs' : (0 : Int) ≤ 1048576 - n - m - k := by omega
    clear hn hm hk
    go_enter Try.func4, Try.ntmps4
    go_wp2_with fail
    rw [← hwa]
    clear hwa
    refine (szDk_yes _ _ _ n m k _ _ _ _ _ _ _ _ _ hs (by omega)).mono ?_
    rintro e0 w1 ⟨rfl, B1⟩
    replace P := P.below B1
    replace hX := hX.below B1
    replace hY := hY.below B1
    replace hZ := hZ.below B1
    replace HB := HB.next B1
    clear B1
    obtain ⟨p0, p1, p2, p3, p4, p5, p6⟩ := id P
    go_wp2_with fail
    refine (toDesk_any _ _ _ n m k _ _ _ X Y Z _ _ _ _ _ (by exact hX) (by exact hY) (by exact hZ) h1 h2 h3).mono ?_
    rintro e0 w2 ⟨g0, g1, g2, rfl, O1, O2, O3, B1⟩
    replace P := P.below B1
    replace hX := hX.below B1
    replace hY := hY.below B1
    replace hZ := hZ.below B1
    replace HB := HB.next B1
    clear B1 p0 p1 p2 p3 p4 p5 p6
    go_wp2_with fail
    refine (specVd_any _ _ _ n m k _ _ _ X Y Z _ _ _ _ _ (by exact rd_own' O1) (by exact rd_own' O2) (by exact rd_own' O3) h1 h2 h3).mono ?_
    rintro e0 w3 ⟨rfl, B1⟩
    replace P := P.below B1
    replace hX := hX.below B1
    replace hY := hY.below B1
    replace hZ := hZ.below B1
    replace HB := HB.next B1
    clear B1 O1 O2 O3
    obtain ⟨p0, p1, p2, p3, p4, p5, p6⟩ := id P
    go_wp2_with fail
    refine (toDesk_any _ _ _ n m k _ _ _ X Y Z _ _ _ _ _ (by exact hX) (by exact hY) (by exact hZ) h1 h2 h3).mono ?_
    rintro e0 w4 ⟨g3, g4, g5, rfl, O1, O2, O3, B1⟩
    replace P := P.below B1
    replace hX := hX.below B1
    replace hY := hY.below B1
    replace hZ := hZ.below B1
    replace HB := HB.next B1
    clear B1 p0 p1 p2 p3 p4 p5 p6
    have hwb : ∃ wb, wb = w4.alloc (.cells #[.slice (some ⟨g3, 0, none⟩) n n, .slice (some ⟨g4, 0, none⟩) m m, .float .f32 p, .float .f32 q, .float .f32 r, .float .f32 s, .slice (some ⟨g5, 0, none⟩) k k] 29) := ⟨_, rfl⟩
    obtain ⟨wb, hwb⟩ := hwb
    have B1 : Below w4.heap.size w4 wb := by rw [hwb]; exact Below.alloc (Below.refl _ _) (Nat.le_refl _) _
    have Q : Box7 wb w4.heap.size (.slice (some ⟨g3, 0, none⟩) n n) (.slice (some ⟨g4, 0, none⟩) m m) (.float .f32 p) (.float .f32 q) (.float .f32 r) (.float .f32 s) (.slice (some ⟨g5, 0, none⟩) k k) := by rw [hwb]; exact box7_alloc ..
    have hst := run_store_f32
    go_wp2_with fail
    rw [← hwb]
    clear hwb hst
    have T1 := (rd_own' O1).below B1
    have T2 := (rd_own' O2).below B1
    have T3 := (rd_own' O3).below B1
    replace P := P.below B1
    replace hX := hX.below B1
    replace hY := hY.below B1
    replace hZ := hZ.below B1
    replace HB := HB.next B1
    clear B1 O1 O2 O3
    refine (implVd_any _ _ _ n m k _ _ _ X Y Z _ _ _ _ _ (by exact T1) (by exact T2) (by exact T3) h1 h2 h3).mono ?_
    rintro e0 w5 ⟨rfl, B1⟩
    replace P := P.below B1
    replace Q := Q.below B1
    replace hX := hX.below B1
    replace hY := hY.below B1
    replace hZ := hZ.below B1
    replace T1 := T1.below B1
    replace T2 := T2.below B1
    replace T3 := T3.below B1
    replace HB := HB.next B1
    clear B1
    obtain ⟨p0, p1, p2, p3, p4, p5, p6⟩ := id P
    obtain ⟨q0, q1, q2, q3, q4, q5, q6⟩ := id Q
    clear P Q
    go_wp2_with fail
    go_region_with (first
      | (go_at_call 13; refine (toDesk_any _ _ _ n m k _ _ _ X Y Z _ _ _ _ _ (by exact hX) (by exact hY) (by exact hZ) h1 h2 h3).mono ?_; rintro e0 w6 ⟨g6, g7, g8, rfl, O1, O2, O3, B1⟩; have U1 := rd_own' O1; have U2 := rd_own' O2; have U3 := rd_own' O3; have S1 := Rd.below (by exact T1) B1; have S2 := Rd.below (by exact T2) B1; have S3 := Rd.below (by exact T3) B1; have HC := Blw.next (by exact HB) B1; obtain ⟨j0, j1, j2, j3, j4, j5, j6⟩ := Box7.below (by exact (And.intro q0 (And.intro q1 (And.intro q2 (And.intro q3 (And.intro q4 (And.intro q5 q6))))))) B1; clear B1 O1 O2 O3)
      | (go_at_call 8; refine (eqDesk_any _ _ _ _ _ _ n m k _ _ _ _ _ _ X Y Z _ _ _ _ _ (by exact S1) (by exact S2) (by exact S3) (by exact U1) (by exact U2) (by exact U3) h1 h2 h3).mono ?_; rintro e0 w7 ⟨rfl, B1⟩; have HD := Blw.next (by exact HC) B1; clear B1))
    all_goals go_wp2
    all_goals go_ret
    all_goals exact ⟨rfl, HA.trans ((Blw.out (by exact HD)).mono HA.size)⟩
  · have hs' : (1048576 : Int) < (n : Int) + m + k := by omega
    go_enter Try.func4, Try.ntmps4
    go_wp2_with fail
    rw [← hwa]
    clear hwa
    refine (szDk_no _ _ _ n m k _ _ _ _ _ _ _ _ _ hs' (by omega) (by omega) hn hm hk).mono ?_
    rintro e0 w1 ⟨rfl, B1⟩
    replace HB := HB.next B1
    go_wp2
    go_ret
    exact ⟨rfl, HA.trans (HB.out.mono HA.size)⟩
set_option maxRecDepth 100000 in
theorem FnExactValidDesk_lifted (os : Os) (started : os.Started) (H : Type) (enc : TypeId × Value → H) :
    ReturnsInHanded {} Try.checked os 4 .any (Rows.fnExactValidDeskSpec.pre6 enc Try.prog Try.f4 Rows.fnExactValidDeskRow.domain false) (Rows.fnExactValidDeskSpec.post enc Try.prog Try.f4 false true false false) := by
  refine returnsInHanded_of_change (C := Try.checked) ownKnob_none started (by kernel_rfl) Try.func4
    (ChangeSpec.witness6 (enc := enc) (C := Try.checked) false ⟨#[], #[.agg #[.slice none 0 0, .slice none 0 0, .float .f32 0, .float .f32 0, .float .f32 0, .float .f32 0, .slice none 0 0]], []⟩ 8 (by kernel_rfl) (by kernel_rfl) (by kernel_rfl) (by kernel_rfl)) ?_
  intro W base args ds gs before hval0 hW _ _
  have hval : ∀ (j : Nat) t v, Try.f4.params[j]? = some t → args[j]? = some v → Value.okWide Try.prog W .any base t v := hval0
  have hW' := hW
  obtain ⟨p, q, hA0, hV, rfl, _, _⟩ := hW
  have hA : DataW.TrodAll enc Try.prog W 0 (fun _ => true) true Try.f4.params.toList args.toList ds p := hA0
  rw [Try.params4] at hA hval
  obtain ⟨v0, vs0, d0, ds0, p0, q0, hargs, rfl, rfl, h0, r0⟩ := trodAll_cons hA
  obtain ⟨rfl, rfl, rfl⟩ := trodAll_nil r0
  obtain rfl : args = #[v0] := by cases args; simp_all
  obtain ⟨rfl, rfl⟩ := trodVars_none hV
  have k0 := h0
  obtain ⟨x0, n0, c0, y0, m0, e0, p00, p10, p20, p30, z0, l0, o0, X0, Y0, Z0, rfl, w0⟩ := open_dk (hval 0 37 v0 rfl rfl) h0
  have b0 : ∀ x ∈ p0, x.block < W.heap.size := fun x hx => by have := hW'.lt x (by simp [hx]); simpa using this
  clear hA0 hval0
  refine (lawValidDesk_any W x0 n0 c0 y0 m0 e0 p00 p10 p20 p30 z0 l0 o0 X0 Y0 Z0 w0).mono fun e W' ⟨he, hb⟩ => ?_
  subst he
  have hA2 := trodAll_cons_mk (enc := enc) (w := W') (base := 0) (spare := fun b => decide (b < W.heap.size)) (held := true) (Below.trod laidOut (by kernel_rfl) (of_decide_eq_true (by kernel_rfl)) k0 hb b0) trodAll_mk0
  exact ⟨_, rfl, _, _, _, [], _, [], hW', trodAll_cons_mk (shut_bool Try.underlying4 _) trodAll_mk0, hA2, rfl, hb.frame _, fun h => by cases h⟩
theorem FnExactValidDesk_holds : Rows.FnExactValidDeskSaid :=
  OpenClaim.holds_of_wide 4 Try.f4 rfl rfl rfl rfl rfl rfl rfl ⟨rfl, rfl, rfl, rfl, rfl⟩ rfl rfl rfl rfl rfl (by kernel_rfl) Try.func4 (by kernel_rfl)
    (of_decide_eq_true (by kernel_rfl)) (by unfold Func.isWrapper; first | (rw [if_pos (by decide +kernel)]; kernel_rfl) | (rw [if_neg (by decide +kernel)]; exact ⟨rfl, rfl⟩))
    (fun os started H enc _ => FnExactValidDesk_lifted os started H enc)
end Go.Proofs.Ytbblohjldkpcnaa
