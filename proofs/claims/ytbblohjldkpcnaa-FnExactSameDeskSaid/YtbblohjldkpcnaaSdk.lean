
/- Whether desks are the same: as the model asks it, and as the program does. -/
import Derived.Test.YtbblohjldkpcnaaDkL
import Derived.Test.YtbblohjldkpcnaaSmI
import Derived.Test.YtbblohjldkpcnaaPuS
namespace Go.Proofs.Ytbblohjldkpcnaa
open Go Go.ChangeShapes Go.WideShapes Go.ChangeAt Go.RowKit

set_option maxRecDepth 100000 in
set_option maxHeartbeats 1600000 in
theorem SameNumber_any (x y : Nat) (w : World) (hx : x < 4294967296) (hy : y < 4294967296) : Calls Try.prog 39 #[.float .f32 x, .float .f32 y] w fun e w' => e = .returned (.bool (decide (canon .f32 x = canon .f32 y))) ∧ ∃ q, w' = w.drewN q := by
  go_enter Try.func39, Try.ntmps39
  go_wp2_with fail
  refine (BitsOf_any _ _ hx).mono ?_
  rintro e w' ⟨rfl, q, rfl⟩
  go_wp2_with fail
  refine (BitsOf_any _ _ hy).mono ?_
  rintro e w' ⟨rfl, q2, rfl⟩
  go_wp2
  go_ret
  exact ⟨ret_bool (by rw [Bool.eq_iff_iff]; simp; exact ⟨fun h => by exact_mod_cast h, fun h => by rw [h]⟩), _, rfl⟩
set_option maxRecDepth 100000 in
set_option maxHeartbeats 1600000 in
theorem equalF_any (xa ya : Option Addr) (n n' cx cy : Nat) (X Y : Nat → Nat) (w : World) (hX : Rd w xa n X) (hY : Rd w ya n' Y) (wX : Wf32 X n) (wY : Wf32 Y n') (hn : n ≤ 1048576) (hn' : n' ≤ 1048576) (R : Bool) (hR : Hid (R = sameL X n Y n')) :
    Calls Try.prog 38 #[.slice xa n cx, .slice ya n' cy, .func (.func 39) #[] #[]] w fun e w' => e = .returned (.bool R) ∧ ∃ q, w' = w.drewN q := by
  by_cases hl : n = n'
  · subst hl
    obtain ⟨xb, xo, hxa, hcx⟩ := hX
    obtain ⟨yb, yo, hya, hcy⟩ := hY
    have HX := Lib.hid hcx
    have HY := Lib.hid hcy
    have HW := Lib.hid wX
    have HV := Lib.hid wY
    clear hcx hcy wX wY
    go_enter Try.func38, Try.ntmps38
    go_wp2
    go_loopw [17] (fun i wr => ∃ k mm : Nat, k ≤ n ∧ i = .int .i64 k ∧ wr = w.drewN mm ∧ Hid (∀ j, j < k → canon .f32 (X j) = canon .f32 (Y j))) (fun i _ => n - (intOf i).toNat)
    case atStart => exact ⟨0, 0, Nat.zero_le _, rfl, rfl, Lib.hid fun j hj => absurd hj (Nat.not_lt_zero _)⟩
    case round =>
      obtain ⟨k, mm, hk, rfl, rfl, HF⟩ := hrel
      by_cases hlt : k < n
      · have e := hxa (by omega)
        subst e
        have e := hya (by omega)
        subst e
        have r0 := HX.out k hlt
        have s0 := HY.out k hlt
        have HC := Lib.hid (fun w => SameNumber_any (X k) (Y k) w (HW.out k hlt) (HV.out k hlt))
        cases c : decide (canon .f32 (X k) = canon .f32 (Y k))
        · rw [c] at HC
          have HN := Lib.hid (show R = false by rw [hR.out, sameL_no hlt (of_decide_eq_false c)])
          clear c
          go_wp2_with (go_at_call 39; refine (HC.out _).mono ?_; rintro e w2 ⟨rfl, q, rfl⟩)
          go_ret
          exact ⟨ret_bool HN.out.symm, _, rfl⟩
        · rw [c] at HC
          have HN := Lib.hid (show ∀ j, j < k + 1 → canon .f32 (X j) = canon .f32 (Y j) from fun j hj => by
            by_cases hj' : j < k
            · exact HF.out j hj'
            · rw [show j = k by omega]; exact of_decide_eq_true c)
          clear c
          go_wp2_with (go_at_call 39; refine (HC.out _).mono ?_; rintro e w2 ⟨rfl, q, rfl⟩)
          go_roundw
          case rel => exact ⟨k + 1, _, by omega, by go_num, rfl, HN⟩
          case measure => simp [intOf]; omega
      · have hkn : k = n := by omega
        subst hkn
        have HN := Lib.hid (show R = true by rw [hR.out, sameL_yes HF.out])
        go_wp2
        go_ret
        exact ⟨ret_bool HN.out.symm, _, rfl⟩
  · have HN := Lib.hid (show R = false by rw [hR.out, sameL_len hl])
    have d1 : ((n : Int) != (n' : Int)) = true := by simpa using (by omega : ¬ (n : Int) = (n' : Int))
    have d3 : (n != n') = true := by simpa using hl
    go_enter Try.func38, Try.ntmps38
    go_wp2
    go_ret
    exact ⟨ret_bool HN.out.symm, 0, rfl⟩
def Wf4 (p q r s : Nat) : Prop := p < 4294967296 ∧ q < 4294967296 ∧ r < 4294967296 ∧ s < 4294967296
/-- What the functions are told of a desk at a world. -/
def DkAt (w : World) (xa : Option Addr) (n : Nat) (ya : Option Addr) (m : Nat) (za : Option Addr) (k : Nat) (X Y Z : Nat → Nat) : Prop := Rd w xa n X ∧ Rd w ya m Y ∧ Rd w za k Z
theorem DkAt.below {w w' : World} {xa ya za : Option Addr} {n m k : Nat} {X Y Z : Nat → Nat} (h : DkAt w xa n ya m za k X Y Z) (hb : Below w.heap.size w w') : DkAt w' xa n ya m za k X Y Z := ⟨h.1.below hb, h.2.1.below hb, h.2.2.below hb⟩
/-- What the functions are told of a desk's words. -/
def DkWf (n m k : Nat) (p q r s : Nat) (X Y Z : Nat → Nat) : Prop := (n ≤ 1048576 ∧ m ≤ 1048576 ∧ k ≤ 1048576) ∧ Wf4 p q r s ∧ Wf32 X n ∧ Wf32 Y m ∧ Wf32 Z k
def sameDk (n m k p q r s : Nat) (X Y Z : Nat → Nat) (n' m' k' p' q' r' s' : Nat) (X' Y' Z' : Nat → Nat) : Bool := (sameS X n Y m X' n' Y' m' && samePul p q r s p' q' r' s') && sameL Z k Z' k'
theorem two_boxes (w : World) (u0 u1 u2 u3 u4 u5 u6 v0 v1 v2 v3 v4 v5 v6 : Value) (t : TypeId) : Below w.heap.size w ((w.alloc (.cells #[u0, u1, u2, u3, u4, u5, u6] t)).alloc (.cells #[v0, v1, v2, v3, v4, v5, v6] t)) ∧
    Box7 ((w.alloc (.cells #[u0, u1, u2, u3, u4, u5, u6] t)).alloc (.cells #[v0, v1, v2, v3, v4, v5, v6] t)) w.heap.size u0 u1 u2 u3 u4 u5 u6 ∧
    Box7 ((w.alloc (.cells #[u0, u1, u2, u3, u4, u5, u6] t)).alloc (.cells #[v0, v1, v2, v3, v4, v5, v6] t)) (w.heap.size + 1) v0 v1 v2 v3 v4 v5 v6 := by
  refine ⟨((Below.refl _ _).alloc (Nat.le_refl _) _).alloc (by simp) _, (box7_alloc w _ _ _ _ _ _ _ _).below ((Below.refl _ _).alloc (Nat.le_refl _) _), ?_⟩
  have := box7_alloc (w.alloc (.cells #[u0, u1, u2, u3, u4, u5, u6] t)) v0 v1 v2 v3 v4 v5 v6 t
  simpa using this
set_option maxRecDepth 100000 in
set_option maxHeartbeats 3200000 in
theorem specSd_any (xa ya za xa' ya' za' : Option Addr) (n m k cx cy cz n' m' k' cx' cy' cz' : Nat) (X Y Z X' Y' Z' : Nat → Nat) (p q r s p' q' r' s' : Nat) (w : World) (hD : DkAt w xa n ya m za k X Y Z) (hD' : DkAt w xa' n' ya' m' za' k' X' Y' Z') (hW : DkWf n m k p q r s X Y Z) (hW' : DkWf n' m' k' p' q' r' s' X' Y' Z') :
    Calls Try.prog 15 #[.agg #[.slice xa n cx, .slice ya m cy, .float .f32 p, .float .f32 q, .float .f32 r, .float .f32 s, .slice za k cz], .agg #[.slice xa' n' cx', .slice ya' m' cy', .float .f32 p', .float .f32 q', .float .f32 r', .float .f32 s', .slice za' k' cz']] w fun e w' => e = .returned (.bool (sameDk n m k p q r s X Y Z n' m' k' p' q' r' s' X' Y' Z')) ∧ Below w.heap.size w w' := by
  obtain ⟨w0, hw0⟩ : ∃ w0, w0 = (w.alloc (.cells #[.slice xa n cx, .slice ya m cy, .float .f32 p, .float .f32 q, .float .f32 r, .float .f32 s, .slice za k cz] 29)).alloc (.cells #[.slice xa' n' cx', .slice ya' m' cy', .float .f32 p', .float .f32 q', .float .f32 r', .float .f32 s', .slice za' k' cz'] 29) := ⟨_, rfl⟩
  obtain ⟨B0, P, Q⟩ := two_boxes w (.slice xa n cx) (.slice ya m cy) (.float .f32 p) (.float .f32 q) (.float .f32 r) (.float .f32 s) (.slice za k cz) (.slice xa' n' cx') (.slice ya' m' cy') (.float .f32 p') (.float .f32 q') (.float .f32 r') (.float .f32 s') (.slice za' k' cz') 29
  rw [← hw0] at B0 P Q
  have E := hD.below B0
  have E' := hD'.below B0
  obtain ⟨⟨h1, h2, h3⟩, hp, wX, wY, wZ⟩ := hW
  obtain ⟨⟨h1', h2', h3'⟩, hp', wX', wY', wZ'⟩ := hW'
  have H1 := Lib.hid (l02Same_any w.heap.size (w.heap.size + 1) xa ya xa' ya' n m cx cy n' m' cx' cy' X Y X' Y' w0 P.1 P.2.1 Q.1 Q.2.1 E.1 E.2.1 E'.1 E'.2.1 wX wY wX' wY' h1 h2 h1' h2')
  have H2 := Lib.hid (fun w => specSP_any p q r s p' q' r' s' hp hp' w)
  have H3 := Lib.hid (fun w hZ hZ' => sameAll_any za za' k k' cz cz' Z Z' w hZ hZ' wZ wZ' h3 h3')
  clear hD hD' wX wY wZ wX' wY' wZ' hp hp' h1 h2 h3 h1' h2' h3'
  cases c1 : sameS X n Y m X' n' Y' m'
  · rw [c1] at H1
    have HK := Lib.hid (show sameDk n m k p q r s X Y Z n' m' k' p' q' r' s' X' Y' Z' = false by simp [sameDk, c1])
    clear c1
    go_enter Try.func15, Try.ntmps15
    go_wp2_with fail
    rw [← hw0]
    clear hw0
    refine H1.out.mono ?_
    rintro e0 w1 ⟨rfl, q1, rfl⟩
    go_wp2
    go_ret
    exact ⟨ret_bool HK.out.symm, Below.drewN B0 _⟩
  · rw [c1] at H1
    cases c2 : samePul p q r s p' q' r' s'
    · rw [c2] at H2
      have HK := Lib.hid (show sameDk n m k p q r s X Y Z n' m' k' p' q' r' s' X' Y' Z' = false by simp [sameDk, c1, c2])
      clear c1 c2
      go_enter Try.func15, Try.ntmps15
      go_wp2_with fail
      rw [← hw0]
      clear hw0
      refine H1.out.mono ?_
      rintro e0 w1 ⟨rfl, qq, rfl⟩
      obtain ⟨p0, p1, p2, p3, p4, p5, p6⟩ := P
      obtain ⟨q0, q1, q2, q3, q4, q5, q6⟩ := Q
      go_wp2_with fail
      refine (H2.out _).mono ?_
      rintro e0 w2 ⟨rfl, B2⟩
      have B3 := (Below.drewN B0 qq).trans (B2.mono (by exact B0.size))
      go_wp2
      go_ret
      exact ⟨ret_bool HK.out.symm, B3⟩
    · rw [c2] at H2
      have HK := Lib.hid (show sameDk n m k p q r s X Y Z n' m' k' p' q' r' s' X' Y' Z' = sameL Z k Z' k' by simp [sameDk, c1, c2])
      clear c1 c2
      go_enter Try.func15, Try.ntmps15
      go_wp2_with fail
      rw [← hw0]
      clear hw0
      refine H1.out.mono ?_
      rintro e0 w1 ⟨rfl, qq, rfl⟩
      obtain ⟨p0, p1, p2, p3, p4, p5, p6⟩ := id P
      obtain ⟨q0, q1, q2, q3, q4, q5, q6⟩ := id Q
      go_wp2_with fail
      refine (H2.out _).mono ?_
      rintro e0 w2 ⟨rfl, B2⟩
      have B3 := (Below.drewN B0 qq).trans (B2.mono (by exact B0.size))
      have P2 := Box7.below (w := w0.drewN qq) (by exact P) B2
      have Q2 := Box7.below (w := w0.drewN qq) (by exact Q) B2
      have E2 := DkAt.below (w := w0.drewN qq) (by exact E) B2
      have E2' := DkAt.below (w := w0.drewN qq) (by exact E') B2
      clear p0 p1 p2 p3 p4 p5 p6 q0 q1 q2 q3 q4 q5 q6
      obtain ⟨p0, p1, p2, p3, p4, p5, p6⟩ := P2
      obtain ⟨q0, q1, q2, q3, q4, q5, q6⟩ := Q2
      go_wp2_with fail
      refine (H3.out _ (by exact E2.2.2) (by exact E2'.2.2)).mono ?_
      rintro e0 w3 ⟨rfl, q3', rfl⟩
      go_wp2
      go_ret
      exact ⟨ret_bool HK.out.symm, Below.drewN B3 _⟩
set_option maxRecDepth 100000 in
set_option maxHeartbeats 3200000 in
theorem implSd_any (xa ya za xa' ya' za' : Option Addr) (n m k cx cy cz n' m' k' cx' cy' cz' : Nat) (X Y Z X' Y' Z' : Nat → Nat) (p q r s p' q' r' s' : Nat) (w : World) (hD : DkAt w xa n ya m za k X Y Z) (hD' : DkAt w xa' n' ya' m' za' k' X' Y' Z') (hW : DkWf n m k p q r s X Y Z) (hW' : DkWf n' m' k' p' q' r' s' X' Y' Z') :
    Calls Try.prog 16 #[.agg #[.slice xa n cx, .slice ya m cy, .float .f32 p, .float .f32 q, .float .f32 r, .float .f32 s, .slice za k cz], .agg #[.slice xa' n' cx', .slice ya' m' cy', .float .f32 p', .float .f32 q', .float .f32 r', .float .f32 s', .slice za' k' cz']] w fun e w' => e = .returned (.bool (sameDk n m k p q r s X Y Z n' m' k' p' q' r' s' X' Y' Z')) ∧ Below w.heap.size w w' := by
  obtain ⟨w0, hw0⟩ : ∃ w0, w0 = (w.alloc (.cells #[.slice xa n cx, .slice ya m cy, .float .f32 p, .float .f32 q, .float .f32 r, .float .f32 s, .slice za k cz] 29)).alloc (.cells #[.slice xa' n' cx', .slice ya' m' cy', .float .f32 p', .float .f32 q', .float .f32 r', .float .f32 s', .slice za' k' cz'] 29) := ⟨_, rfl⟩
  obtain ⟨B0, P, Q⟩ := two_boxes w (.slice xa n cx) (.slice ya m cy) (.float .f32 p) (.float .f32 q) (.float .f32 r) (.float .f32 s) (.slice za k cz) (.slice xa' n' cx') (.slice ya' m' cy') (.float .f32 p') (.float .f32 q') (.float .f32 r') (.float .f32 s') (.slice za' k' cz') 29
  rw [← hw0] at B0 P Q
  have E := hD.below B0
  have E' := hD'.below B0
  obtain ⟨⟨h1, h2, h3⟩, hp, wX, wY, wZ⟩ := hW
  obtain ⟨⟨h1', h2', h3'⟩, hp', wX', wY', wZ'⟩ := hW'
  have H1 := Lib.hid (implSameS_any xa ya xa' ya' n m cx cy n' m' cx' cy' X Y X' Y' w0 E.1 E.2.1 E'.1 E'.2.1 wX wY wX' wY' h1 h2 h1' h2')
  have H2 := Lib.hid (fun w => implSP_any p q r s p' q' r' s' hp hp' w)
  have H3 := Lib.hid (fun w hZ hZ' => equalF_any za za' k k' cz cz' Z Z' w hZ hZ' wZ wZ' h3 h3' _ (Lib.hid rfl))
  clear hD hD' wX wY wZ wX' wY' wZ' hp hp' h1 h2 h3 h1' h2' h3'
  cases c1 : sameS X n Y m X' n' Y' m'
  · rw [c1] at H1
    have HK := Lib.hid (show sameDk n m k p q r s X Y Z n' m' k' p' q' r' s' X' Y' Z' = false by simp [sameDk, c1])
    clear c1
    go_enter Try.func16, Try.ntmps16
    go_wp2_with fail
    rw [← hw0]
    clear hw0
    refine H1.out.mono ?_
    rintro e0 w1 ⟨rfl, B1⟩
    have B2 := B0.trans (B1.mono B0.size)
    go_wp2
    go_ret
    exact ⟨ret_bool HK.out.symm, B2⟩
  · rw [c1] at H1
    cases c2 : samePul p q r s p' q' r' s'
    · rw [c2] at H2
      have HK := Lib.hid (show sameDk n m k p q r s X Y Z n' m' k' p' q' r' s' X' Y' Z' = false by simp [sameDk, c1, c2])
      clear c1 c2
      go_enter Try.func16, Try.ntmps16
      go_wp2_with fail
      rw [← hw0]
      clear hw0
      refine H1.out.mono ?_
      rintro e0 w1 ⟨rfl, B1⟩
      have B2 := B0.trans (B1.mono B0.size)
      obtain ⟨p0, p1, p2, p3, p4, p5, p6⟩ := P.below B1
      obtain ⟨q0, q1, q2, q3, q4, q5, q6⟩ := Q.below B1
      go_wp2_with fail
      refine (H2.out _).mono ?_
      rintro e0 w2 ⟨rfl, B3⟩
      have B4 := B2.trans (B3.mono B2.size)
      go_wp2
      go_ret
      exact ⟨ret_bool HK.out.symm, B4⟩
    · rw [c2] at H2
      have HK := Lib.hid (show sameDk n m k p q r s X Y Z n' m' k' p' q' r' s' X' Y' Z' = sameL Z k Z' k' by simp [sameDk, c1, c2])
      clear c1 c2
      go_enter Try.func16, Try.ntmps16
      go_wp2_with fail
      rw [← hw0]
      clear hw0
      refine H1.out.mono ?_
      rintro e0 w1 ⟨rfl, B1⟩
      have B2 := B0.trans (B1.mono B0.size)
      obtain ⟨p0, p1, p2, p3, p4, p5, p6⟩ := P.below B1
      obtain ⟨q0, q1, q2, q3, q4, q5, q6⟩ := Q.below B1
      go_wp2_with fail
      refine (H2.out _).mono ?_
      rintro e0 w2 ⟨rfl, B3⟩
      have B4 := B2.trans (B3.mono B2.size)
      have E2 := (E.below B1).below B3
      have E2' := (E'.below B1).below B3
      have P2 := (P.below B1).below B3
      have Q2 := (Q.below B1).below B3
      clear p0 p1 p2 p3 p4 p5 p6 q0 q1 q2 q3 q4 q5 q6
      obtain ⟨p0, p1, p2, p3, p4, p5, p6⟩ := P2
      obtain ⟨q0, q1, q2, q3, q4, q5, q6⟩ := Q2
      go_wp2_with fail
      refine (H3.out _ (by exact E2.2.2) (by exact E2'.2.2)).mono ?_
      rintro e0 w3 ⟨rfl, q3', rfl⟩
      go_wp2
      go_ret
      exact ⟨ret_bool HK.out.symm, Below.drewN B4 _⟩
end Go.Proofs.Ytbblohjldkpcnaa
