
/- Of any two desks the program says that they are the same just where the model does; the desks are not changed: for all arguments. -/
import Derived.Test.YtbblohjldkpcnaaSdk
namespace Go.Proofs.Ytbblohjldkpcnaa
open Go Go.ChangeShapes Go.WideShapes Go.ChangeAt Go.RowKit

set_option maxRecDepth 100000 in
set_option maxHeartbeats 12800000 in
theorem lawSameDesk_any (W : World) (xa : Option Addr) (n cx : Nat) (ya : Option Addr) (m cy p q r s : Nat) (za : Option Addr) (k cz : Nat) (X Y Z : Nat → Nat) (h : DkIn W xa n ya m p q r s za k X Y Z)
    (xa' : Option Addr) (n' cx' : Nat) (ya' : Option Addr) (m' cy' p' q' r' s' : Nat) (za' : Option Addr) (k' cz' : Nat) (X' Y' Z' : Nat → Nat) (h' : DkIn W xa' n' ya' m' p' q' r' s' za' k' X' Y' Z') :
    Calls Try.prog 5 #[.agg #[.slice xa n cx, .slice ya m cy, .float .f32 p, .float .f32 q, .float .f32 r, .float .f32 s, .slice za k cz], .agg #[.slice xa' n' cx', .slice ya' m' cy', .float .f32 p', .float .f32 q', .float .f32 r', .float .f32 s', .slice za' k' cz']] W fun e w' => e = .returned (.bool true) ∧ Below W.heap.size W w' := by
  obtain ⟨⟨hX, hY, hZ⟩, ⟨hn, hm, hk⟩, hp, wX, wY, wZ⟩ := h
  obtain ⟨⟨hX', hY', hZ'⟩, ⟨hn', hm', hk'⟩, hp', wX', wY', wZ'⟩ := h'
  obtain ⟨w0, hw0⟩ : ∃ w0, w0 = (W.alloc (.cells #[.slice xa n cx, .slice ya m cy, .float .f32 p, .float .f32 q, .float .f32 r, .float .f32 s, .slice za k cz] 37)).alloc (.cells #[.slice xa' n' cx', .slice ya' m' cy', .float .f32 p', .float .f32 q', .float .f32 r', .float .f32 s', .slice za' k' cz'] 37) := ⟨_, rfl⟩
  obtain ⟨HA, P, Q⟩ := two_boxes W (.slice xa n cx) (.slice ya m cy) (.float .f32 p) (.float .f32 q) (.float .f32 r) (.float .f32 s) (.slice za k cz) (.slice xa' n' cx') (.slice ya' m' cy') (.float .f32 p') (.float .f32 q') (.float .f32 r') (.float .f32 s') (.slice za' k' cz') 37
  rw [← hw0] at HA P Q
  have D := DkAt.below (xa := xa) (n := n) (ya := ya) (m := m) (za := za) (k := k) (X := X) (Y := Y) (Z := Z) ⟨hX, hY, hZ⟩ HA
  have D' := DkAt.below (xa := xa') (n := n') (ya := ya') (m := m') (za := za') (k := k') (X := X') (Y := Y') (Z := Z') ⟨hX', hY', hZ'⟩ HA
  clear hX hY hZ hX' hY' hZ'
  have HB := Blw.refl w0
  have hne : ∀ z : Bool, (z != z) = false := by simp
  by_cases hs : (n : Int) + m + k ≤ 1048576
  · have h1 : n ≤ 1048576 := by omega
    have h2 : m ≤ 1048576 := by omega
    have h3 : k ≤ 1048576 := by omega
    have hs1 : (0 : Int) ≤ 1048576 - n - m - k := by omega
    by_cases ht : (n' : Int) + m' + k' ≤ 1048576 - n - m - k
    · have h1' : n' ≤ 1048576 := by omega
      have h2' : m' ≤ 1048576 := by omega
      have h3' : k' ≤ 1048576 := by omega
      have hs2 : (0 : Int) ≤ 1048576 - n - m - k - n' - m' - k' := by omega
      have HW := Lib.hid (show DkWf n m k p q r s X Y Z from ⟨⟨h1, h2, h3⟩, hp, wX, wY, wZ⟩)
      have HW' := Lib.hid (show DkWf n' m' k' p' q' r' s' X' Y' Z' from ⟨⟨h1', h2', h3'⟩, hp', wX', wY', wZ'⟩)
      obtain ⟨R, hR⟩ : ∃ R, R = sameDk n m k p q r s X Y Z n' m' k' p' q' r' s' X' Y' Z' := ⟨_, rfl⟩
      have HR := Lib.hid hR
      clear hn hm hk hn' hm' hk' wX wY wZ wX' wY' wZ' hp hp' hR
      go_enter Try.func5, Try.ntmps5
      go_wp2_with fail
      rw [← hw0]
      clear hw0
      refine (szDk_yes _ _ _ n m k _ _ _ _ _ _ _ _ _ hs (by omega)).mono ?_
      rintro e0 w9 ⟨rfl, B0⟩
      replace P := P.below B0
      replace Q := Q.below B0
      replace D := D.below B0
      replace D' := D'.below B0
      replace HB := HB.next B0
      clear B0
      obtain ⟨q0, q1, q2, q3, q4, q5, q6⟩ := id Q
      go_wp2_with fail
      refine (szDk_yes _ _ _ n' m' k' _ _ _ _ _ _ _ _ _ ht (by omega)).mono ?_
      rintro e0 w9 ⟨rfl, B0⟩
      replace P := P.below B0
      replace Q := Q.below B0
      replace D := D.below B0
      replace D' := D'.below B0
      replace HB := HB.next B0
      clear B0
      clear q0 q1 q2 q3 q4 q5 q6
      obtain ⟨p0, p1, p2, p3, p4, p5, p6⟩ := id P
      obtain ⟨q0, q1, q2, q3, q4, q5, q6⟩ := id Q
      go_wp2_with fail
      go_region_with (first
        | (go_at_call_of 13 (Value.agg #[.slice xa n cx, .slice ya m cy, .float .f32 p, .float .f32 q, .float .f32 r, .float .f32 s, .slice za k cz]); (refine (toDesk_any _ _ _ n m k _ _ _ X Y Z _ _ _ _ _ (by exact D.1) (by exact D.2.1) (by exact D.2.2) h1 h2 h3).mono ?_); rintro e0 w5 ⟨g0, g1, g2, rfl, O1, O2, O3, B0⟩; have S0 := DkAt.below (by exact D') B0; have T0 := (And.intro (rd_own' O1) (And.intro (rd_own' O2) (rd_own' O3))); have Q5 := Box7.below (by exact Q) B0; have P5 := Box7.below (by exact P) B0; have D5 := DkAt.below (by exact D) B0; obtain ⟨j0, j1, j2, j3, j4, j5, j6⟩ := id Q5; have HC := Blw.next (by exact HB) B0; clear B0 O1 O2 O3)
        | (go_at_call_of 13 (Value.agg #[.slice xa' n' cx', .slice ya' m' cy', .float .f32 p', .float .f32 q', .float .f32 r', .float .f32 s', .slice za' k' cz']); (refine (toDesk_any _ _ _ n' m' k' _ _ _ X' Y' Z' _ _ _ _ _ (by exact S0.1) (by exact S0.2.1) (by exact S0.2.2) h1' h2' h3').mono ?_); rintro e0 w6 ⟨g3, g4, g5, rfl, O1, O2, O3, B0⟩; have T1 := DkAt.below (by exact T0) B0; have T2 := (And.intro (rd_own' O1) (And.intro (rd_own' O2) (rd_own' O3))); have Q6 := Box7.below (by exact Q5) B0; have P6 := Box7.below (by exact P5) B0; have D6 := DkAt.below (by exact D5) B0; have S6 := DkAt.below (by exact S0) B0; have HC2 := Blw.next (by exact HC) B0; clear B0 O1 O2 O3)
        | (go_at_call 15; (refine (specSd_any _ _ _ _ _ _ n m k _ _ _ n' m' k' _ _ _ X Y Z X' Y' Z' _ _ _ _ _ _ _ _ _ (by exact T1) (by exact T2) HW.out HW'.out).mono ?_); rintro e0 w7 ⟨he, B0⟩; rw [← HR.out] at he; subst he; have Q7 := Box7.below (by exact Q6) B0; have P7 := Box7.below (by exact P6) B0; have D7 := DkAt.below (by exact D6) B0; have S7 := DkAt.below (by exact S6) B0; have HC3 := Blw.next (by exact HC2) B0; clear B0))
      all_goals clear P Q D D' HB p0 p1 p2 p3 p4 p5 p6 q0 q1 q2 q3 q4 q5 q6 j0 j1 j2 j3 j4 j5 j6
      all_goals clear S0 T0 Q5 P5 D5 HC T1 T2 Q6 P6 D6 S6 HC2
      all_goals
        have P := P7
        have Q := Q7
        have D := D7
        have D' := S7
        have HB := HC3
        clear P7 Q7 D7 S7 HC3
        obtain ⟨p0, p1, p2, p3, p4, p5, p6⟩ := id P
        go_wp2_with fail
        refine (toDesk_any _ _ _ n m k _ _ _ X Y Z _ _ _ _ _ (by exact D.1) (by exact D.2.1) (by exact D.2.2) h1 h2 h3).mono ?_
        rintro e0 w9 ⟨g3, g4, g5, rfl, O1, O2, O3, B0⟩
        replace P := P.below B0
        replace Q := Q.below B0
        replace D := D.below B0
        replace D' := D'.below B0
        replace HB := HB.next B0
        have T : DkAt _ _ n _ m _ k X Y Z := And.intro (rd_own' O1) (And.intro (rd_own' O2) (rd_own' O3)); clear O1 O2 O3
        clear B0
        clear p0 p1 p2 p3 p4 p5 p6
        have hst := run_store_f32
        have hwb : ∃ wb, wb = w9.alloc (.cells #[.slice (some ⟨g3, 0, none⟩) n n, .slice (some ⟨g4, 0, none⟩) m m, .float .f32 p, .float .f32 q, .float .f32 r, .float .f32 s, .slice (some ⟨g5, 0, none⟩) k k] 29) := ⟨_, rfl⟩
        obtain ⟨wb, hwb⟩ := hwb
        obtain ⟨w8, hw8⟩ : ∃ w8, w8 = w9 := ⟨_, rfl⟩
        have B0 : Below w9.heap.size w9 wb := by rw [hwb]; exact Below.alloc (Below.refl _ _) (Nat.le_refl _) _
        have U : Box7 wb w9.heap.size (.slice (some ⟨g3, 0, none⟩) n n) (.slice (some ⟨g4, 0, none⟩) m m) (.float .f32 p) (.float .f32 q) (.float .f32 r) (.float .f32 s) (.slice (some ⟨g5, 0, none⟩) k k) := by rw [hwb]; exact box7_alloc ..
        obtain ⟨bU, hbU⟩ : ∃ b, b = w9.heap.size := ⟨_, rfl⟩
        clear hw8
        have hql := World.block_lt_of_cell? w9 _ Q.1
        obtain ⟨q0, q1, q2, q3, q4, q5, q6⟩ := id Q
        go_wp2_with fail
        rw [← hwb]
        clear hwb hst q0 q1 q2 q3 q4 q5 q6
        replace P := P.below B0
        replace Q := Q.below B0
        replace D := D.below B0
        replace D' := D'.below B0
        replace T := T.below B0
        replace HB := HB.next B0
        clear B0
        refine (toDesk_any _ _ _ n' m' k' _ _ _ X' Y' Z' _ _ _ _ _ (by exact D'.1) (by exact D'.2.1) (by exact D'.2.2) h1' h2' h3').mono ?_
        rintro e0 w9 ⟨g6, g7, g8, rfl, O1, O2, O3, B0⟩
        replace P := P.below B0
        replace Q := Q.below B0
        replace D := D.below B0
        replace D' := D'.below B0
        replace T := T.below B0
        replace U := U.below B0
        replace HB := HB.next B0
        have T' : DkAt _ _ n' _ m' _ k' X' Y' Z' := And.intro (rd_own' O1) (And.intro (rd_own' O2) (rd_own' O3))
        clear O1 O2 O3 B0
        have hst := run_store_f32
        have hwb : ∃ wb, wb = w9.alloc (.cells #[.slice (some ⟨g6, 0, none⟩) n' n', .slice (some ⟨g7, 0, none⟩) m' m', .float .f32 p', .float .f32 q', .float .f32 r', .float .f32 s', .slice (some ⟨g8, 0, none⟩) k' k'] 29) := ⟨_, rfl⟩
        obtain ⟨wb, hwb⟩ := hwb
        obtain ⟨w8, hw8⟩ : ∃ w8, w8 = w9 := ⟨_, rfl⟩
        have B0 : Below w9.heap.size w9 wb := by rw [hwb]; exact Below.alloc (Below.refl _ _) (Nat.le_refl _) _
        have V : Box7 wb w9.heap.size (.slice (some ⟨g6, 0, none⟩) n' n') (.slice (some ⟨g7, 0, none⟩) m' m') (.float .f32 p') (.float .f32 q') (.float .f32 r') (.float .f32 s') (.slice (some ⟨g8, 0, none⟩) k' k') := by rw [hwb]; exact box7_alloc ..
        obtain ⟨bV, hbV⟩ : ∃ b, b = w9.heap.size := ⟨_, rfl⟩
        clear hw8
        have hul := World.block_lt_of_cell? w9 _ U.1
        obtain ⟨u0, u1, u2, u3, u4, u5, u6⟩ := id U
        go_wp2_with fail
        rw [← hwb]
        clear hwb hst hql hul u0 u1 u2 u3 u4 u5 u6
        replace P := P.below B0
        replace Q := Q.below B0
        replace D := D.below B0
        replace D' := D'.below B0
        replace T := T.below B0
        replace U := U.below B0
        replace T' := T'.below B0
        replace HB := HB.next B0
        clear B0
        refine (implSd_any _ _ _ _ _ _ n m k _ _ _ n' m' k' _ _ _ X Y Z X' Y' Z' _ _ _ _ _ _ _ _ _ (by exact T) (by exact T') HW.out HW'.out).mono ?_
        rintro e0 w9 ⟨he, B0⟩
        rw [← HR.out] at he
        subst he
        replace P := P.below B0
        replace Q := Q.below B0
        replace D := D.below B0
        replace D' := D'.below B0
        replace T := T.below B0
        replace U := U.below B0
        replace T' := T'.below B0
        replace V := V.below B0
        replace HB := HB.next B0
        clear B0
        obtain ⟨p0, p1, p2, p3, p4, p5, p6⟩ := id P
        obtain ⟨q0, q1, q2, q3, q4, q5, q6⟩ := id Q
        obtain ⟨u0, u1, u2, u3, u4, u5, u6⟩ := id U
        obtain ⟨v0, v1, v2, v3, v4, v5, v6⟩ := id V
        go_wp2_with fail
        go_region_with (first
          | (go_at_call 13; (refine (toDesk_any _ _ _ n m k _ _ _ X Y Z _ _ _ _ _ (by exact D.1) (by exact D.2.1) (by exact D.2.2) h1 h2 h3).mono ?_); rintro e0 w5 ⟨g9, g10, g11, rfl, O1, O2, O3, B0⟩; have E5 := (And.intro (rd_own' O1) (And.intro (rd_own' O2) (rd_own' O3))); have T5 := DkAt.below (by exact T) B0; have TT5 := DkAt.below (by exact T') B0; have S5 := DkAt.below (by exact D') B0; have Q5 := Box7.below (by exact Q) B0; have V5 := Box7.below (by exact V) B0; obtain ⟨j0, j1, j2, j3, j4, j5, j6⟩ := Box7.below (by exact U) B0; have HC := Blw.next (by exact HB) B0; clear B0 O1 O2 O3)
          | (go_at_call 8; (refine (eqDesk_any _ _ _ _ _ _ n m k _ _ _ _ _ _ X Y Z _ _ _ _ _ (by exact T5.1) (by exact T5.2.1) (by exact T5.2.2) (by exact E5.1) (by exact E5.2.1) (by exact E5.2.2) h1 h2 h3).mono ?_); rintro e0 w6 ⟨rfl, B0⟩; have TT6 := DkAt.below (by exact TT5) B0; have S6 := DkAt.below (by exact S5) B0; have Q6 := Box7.below (by exact Q5) B0; have V6 := Box7.below (by exact V5) B0; have HC2 := Blw.next (by exact HC) B0; clear B0))
        all_goals clear T5 TT5 S5 Q5 V5 HC E5 P Q D D' T U V T' HB p0 p1 p2 p3 p4 p5 p6 q0 q1 q2 q3 q4 q5 q6 u0 u1 u2 u3 u4 u5 u6 v0 v1 v2 v3 v4 v5 v6 j0 j1 j2 j3 j4 j5 j6
        all_goals
          obtain ⟨q0, q1, q2, q3, q4, q5, q6⟩ := id Q6
          obtain ⟨v0, v1, v2, v3, v4, v5, v6⟩ := id V6
          go_wp2_with fail
          go_region_with (first
            | (go_at_call 13; (refine (toDesk_any _ _ _ n' m' k' _ _ _ X' Y' Z' _ _ _ _ _ (by exact S6.1) (by exact S6.2.1) (by exact S6.2.2) h1' h2' h3').mono ?_); rintro e0 w7 ⟨g9, g10, g11, rfl, O1, O2, O3, B0⟩; have E7 := (And.intro (rd_own' O1) (And.intro (rd_own' O2) (rd_own' O3))); have T7 := DkAt.below (by exact TT6) B0; obtain ⟨j0, j1, j2, j3, j4, j5, j6⟩ := Box7.below (by exact V6) B0; have HC3 := Blw.next (by exact HC2) B0; clear B0 O1 O2 O3)
            | (go_at_call 8; (refine (eqDesk_any _ _ _ _ _ _ n' m' k' _ _ _ _ _ _ X' Y' Z' _ _ _ _ _ (by exact T7.1) (by exact T7.2.1) (by exact T7.2.2) (by exact E7.1) (by exact E7.2.1) (by exact E7.2.2) h1' h2' h3').mono ?_); rintro e0 w8 ⟨rfl, B0⟩; have HC4 := Blw.next (by exact HC3) B0; clear B0))
          all_goals go_wp2
          all_goals go_ret
          all_goals exact ⟨rfl, HA.trans ((Blw.out (by exact HC4)).mono HA.size)⟩
    · have ht' : 1048576 - (n : Int) - m - k < (n' : Int) + m' + k' := by omega
      go_enter Try.func5, Try.ntmps5
      go_wp2_with fail
      rw [← hw0]
      clear hw0
      refine (szDk_yes _ _ _ n m k _ _ _ _ _ _ _ _ _ hs (by omega)).mono ?_
      rintro e0 w9 ⟨rfl, B0⟩
      replace Q := Q.below B0
      replace HB := HB.next B0
      clear B0
      obtain ⟨q0, q1, q2, q3, q4, q5, q6⟩ := id Q
      go_wp2_with fail
      refine (szDk_no _ _ _ n' m' k' _ _ _ _ _ _ _ _ _ ht' hs1 (by omega) hn' hm' hk').mono ?_
      rintro e0 w9 ⟨rfl, B0⟩
      replace HB := HB.next B0
      go_wp2
      go_ret
      exact ⟨rfl, HA.trans (HB.out.mono HA.size)⟩
  · have hs' : (1048576 : Int) < (n : Int) + m + k := by omega
    go_enter Try.func5, Try.ntmps5
    go_wp2_with fail
    rw [← hw0]
    clear hw0
    refine (szDk_no _ _ _ n m k _ _ _ _ _ _ _ _ _ hs' (by omega) (by omega) hn hm hk).mono ?_
    rintro e0 w9 ⟨rfl, B0⟩
    replace HB := HB.next B0
    go_wp2
    go_ret
    exact ⟨rfl, HA.trans (HB.out.mono HA.size)⟩
set_option maxRecDepth 100000 in
theorem FnExactSameDesk_lifted (os : Os) (started : os.Started) (H : Type) (enc : TypeId × Value → H) :
    ReturnsInHanded {} Try.checked os 5 .any (Rows.fnExactSameDeskSpec.pre6 enc Try.prog Try.f5 Rows.fnExactSameDeskRow.domain false) (Rows.fnExactSameDeskSpec.post enc Try.prog Try.f5 false true false false) := by
  refine returnsInHanded_of_change (C := Try.checked) ownKnob_none started (by kernel_rfl) Try.func5
    (ChangeSpec.witness6 (enc := enc) (C := Try.checked) false ⟨#[], #[.agg #[.slice none 0 0, .slice none 0 0, .float .f32 0, .float .f32 0, .float .f32 0, .float .f32 0, .slice none 0 0], .agg #[.slice none 0 0, .slice none 0 0, .float .f32 0, .float .f32 0, .float .f32 0, .float .f32 0, .slice none 0 0]], []⟩ 8 (by kernel_rfl) (by kernel_rfl) (by kernel_rfl) (by kernel_rfl)) ?_
  intro W base args ds gs before hval0 hW _ _
  have hval : ∀ (j : Nat) t v, Try.f5.params[j]? = some t → args[j]? = some v → Value.okWide Try.prog W .any base t v := hval0
  have hW' := hW
  obtain ⟨p, q, hA0, hV, rfl, _, _⟩ := hW
  have hA : DataW.TrodAll enc Try.prog W 0 (fun _ => true) true Try.f5.params.toList args.toList ds p := hA0
  rw [Try.params5] at hA hval
  obtain ⟨v0, v1, d0, d1, p0, p1, rfl, rfl, rfl, h0, h1⟩ := trodAll_two hA
  obtain ⟨rfl, rfl⟩ := trodVars_none hV
  have k0 := h0
  obtain ⟨x0, n0, c0, y0, m0, e0, p00, p10, p20, p30, z0, l0, o0, X0, Y0, Z0, rfl, w0⟩ := open_dk (hval 0 37 v0 rfl rfl) h0
  have b0 : ∀ x ∈ p0, x.block < W.heap.size := fun x hx => by have := hW'.lt x (by simp [hx]); simpa using this
  have k1 := h1
  obtain ⟨x1, n1, c1, y1, m1, e1, p01, p11, p21, p31, z1, l1, o1, X1, Y1, Z1, rfl, w1⟩ := open_dk (hval 1 37 v1 rfl rfl) h1
  have b1 : ∀ x ∈ p1, x.block < W.heap.size := fun x hx => by have := hW'.lt x (by simp [hx]); simpa using this
  clear hA0 hval0
  refine (lawSameDesk_any W x0 n0 c0 y0 m0 e0 p00 p10 p20 p30 z0 l0 o0 X0 Y0 Z0 w0 x1 n1 c1 y1 m1 e1 p01 p11 p21 p31 z1 l1 o1 X1 Y1 Z1 w1).mono fun e W' ⟨he, hb⟩ => ?_
  subst he
  have hA2 := trodAll_mk2 (enc := enc) (w := W') (base := 0) (spare := fun b => decide (b < W.heap.size)) (held := true) (Below.trod laidOut (by kernel_rfl) (of_decide_eq_true (by kernel_rfl)) k0 hb b0) (Below.trod laidOut (by kernel_rfl) (of_decide_eq_true (by kernel_rfl)) k1 hb b1)
  exact ⟨_, rfl, _, _, _, [], _, [], hW', trodAll_cons_mk (shut_bool Try.underlying4 _) trodAll_mk0, hA2, rfl, hb.frame _, fun h => by cases h⟩
theorem FnExactSameDesk_holds : Rows.FnExactSameDeskSaid :=
  OpenClaim.holds_of_wide 5 Try.f5 rfl rfl rfl rfl rfl rfl rfl ⟨rfl, rfl, rfl, rfl, rfl⟩ rfl rfl rfl rfl rfl (by kernel_rfl) Try.func5 (by kernel_rfl)
    (of_decide_eq_true (by kernel_rfl)) (by unfold Func.isWrapper; first | (rw [if_pos (by decide +kernel)]; kernel_rfl) | (rw [if_neg (by decide +kernel)]; exact ⟨rfl, rfl⟩))
    (fun os started H enc _ => FnExactSameDesk_lifted os started H enc)
end Go.Proofs.Ytbblohjldkpcnaa
