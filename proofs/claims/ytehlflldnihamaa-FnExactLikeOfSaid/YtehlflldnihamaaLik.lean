/- Of any two lists the program tells how alike they are just where the model does, and the same; the lists are not changed: for all arguments. -/
import Derived.Test.YtehlflldnihamaaNof
namespace Go.Proofs.Ytehlflldnihamaa
open Go Go.ChangeShapes Go.WideShapes Go.ChangeAt Go.RowKit

theorem dotW_like2 {V r U t : Nat → Nat} : ∀ n, Like V r n → Like U t n → dotW V U n = dotW r t n := by
  intro n
  induction n with
  | zero => intro _ _; rfl
  | succ n ih =>
    intro h g
    show fbin .add .f32 (dotW V U n) (fbin .mul .f32 (V n) (U n)) = fbin .add .f32 (dotW r t n) (fbin .mul .f32 (r n) (t n))
    rw [ih (fun j hj => h j (by omega)) (fun j hj => g j (by omega)), fbin_congr (h n (Nat.lt_succ_self n)) (g n (Nat.lt_succ_self n))]
/-- How alike they are. -/
def lkD (X Y : Nat → Nat) (n : Nat) : Nat := dotW (nrmR X n) (nrmR Y n) n
theorem lkD_fin {X Y : Nat → Nat} {n : Nat} (hx : okLst X n = true) (hy : okLst Y n = true) (px : nrmB X n = true) (py : nrmB Y n = true) : isFin .f32 (lkD X Y n) = true := by
  have h1 := okLst_at hx
  have h2 := okLst_at hy
  exact bk_fin (dot_bk n (by omega) fun j hj => ⟨nrm_bd px h1.1 hj, nrm_bd py h2.1 hj⟩)
/-- A number told, and whether. -/
def FlbRet (r : Nat) (ok : Bool) (w : World) (e : Ending) (w' : World) : Prop := ∃ s, e = .returned (.tuple #[.float .f32 (pick .f32 r s), .bool ok]) ∧ Below w.heap.size w w'
theorem flbNo {w w' : World} (hb : Below w.heap.size w w') : FlbRet 0 false w (.returned (.tuple #[.float .f32 0, .bool false])) w' := ⟨0, by rw [pick_nul], hb⟩
set_option maxRecDepth 100000 in
set_option maxHeartbeats 3200000 in
theorem l07Like_any (xa : Option Addr) (n cx : Nat) (X : Nat → Nat) (ya : Option Addr) (cy : Nat) (Y : Nat → Nat) (w : World) (hX : Rd w xa n X) (hY : Rd w ya n Y) (hx : okLst X n = true) (hy : okLst Y n = true) (p q ok : Bool) (hp : Hid (p = nrmB X n)) (hq : Hid (q = nrmB Y n)) (ho : Hid (ok = (p && q))) (R : Nat) (hR : Hid (R = if ok = true then lkD X Y n else 0)) :
    Calls Try.prog 75 #[.slice xa n cx, .slice ya n cy] w (FlbRet R ok w) := by
  have hn : n ≤ 1048576 := by have := okLst_at hx; omega
  have HA := Lib.hid (fun w hX => l07Normal_any xa n cx X w hX hn (okLst_at hx).1 p hp _ (Lib.hid rfl))
  have HB := Lib.hid (fun w hY => l07Normal_any ya n cy Y w hY hn (okLst_at hy).1 q hq _ (Lib.hid rfl))
  have HN := Lib.hid (fun (h : ok = false) w' (hb : Below w.heap.size w w') => show FlbRet R ok w (.returned (.tuple #[.float .f32 0, .bool false])) w' by
    rw [hR.out, h, if_neg (by simp)]; exact flbNo hb)
  cases p
  · have HN' := Lib.hid (HN.out (by rw [ho.out]; rfl))
    cases q
    · go_enter Try.func75, Try.ntmps75
      go_wp2_with fail
      refine (HA.out _ (by exact hX)).mono ?_
      rintro e w1 ⟨v1, Z1, rfl, O1, L1, m1, B1⟩
      go_wp2_with fail
      refine (HB.out _ (by exact hY.below B1)).mono ?_
      rintro e w2 ⟨v2, Z2, rfl, O2, L2, m2, B2⟩
      go_wp2
      go_ret2
      exact HN'.out _ (B1.trans (B2.mono B1.size))
    · go_enter Try.func75, Try.ntmps75
      go_wp2_with fail
      refine (HA.out _ (by exact hX)).mono ?_
      rintro e w1 ⟨v1, Z1, rfl, O1, L1, m1, B1⟩
      go_wp2_with fail
      refine (HB.out _ (by exact hY.below B1)).mono ?_
      rintro e w2 ⟨v2, Z2, rfl, O2, L2, m2, B2⟩
      go_wp2
      go_ret2
      exact HN'.out _ (B1.trans (B2.mono B1.size))
  · cases q
    · have HN' := Lib.hid (HN.out (by rw [ho.out]; rfl))
      go_enter Try.func75, Try.ntmps75
      go_wp2_with fail
      refine (HA.out _ (by exact hX)).mono ?_
      rintro e w1 ⟨v1, Z1, rfl, O1, L1, m1, B1⟩
      go_wp2_with fail
      refine (HB.out _ (by exact hY.below B1)).mono ?_
      rintro e w2 ⟨v2, Z2, rfl, O2, L2, m2, B2⟩
      go_wp2
      go_ret2
      exact HN'.out _ (B1.trans (B2.mono B1.size))
    · have hok : ok = true := by rw [ho.out]; rfl
      obtain ⟨D, hD⟩ : ∃ D, D = lkD X Y n := ⟨_, rfl⟩
      have HD := Lib.hid hD
      have hf : isFin .f32 D = true := by rw [hD]; exact lkD_fin hx hy hp.out.symm hq.out.symm
      have HY := Lib.hid (fun s w' (hb : Below w.heap.size w w') => show FlbRet R ok w (.returned (.tuple #[.float .f32 (pick .f32 (numQ D) s), .bool (isFin .f32 D)])) w' from ⟨s, by
        rw [hR.out, hok, if_pos rfl, ← hD, numQ, hf, if_pos rfl], hb⟩)
      have HQ := Lib.hid (fun s w => numS_any D s w)
      clear hf hD
      rw [if_pos rfl] at HA HB
      go_enter Try.func75, Try.ntmps75
      go_wp2_with fail
      refine (HA.out _ (by exact hX)).mono ?_
      rintro e w1 ⟨v1, Z1, rfl, O1, L1, m1, B1⟩
      go_wp2_with fail
      refine (HB.out _ (by exact hY.below B1)).mono ?_
      rintro e w2 ⟨v2, Z2, rfl, O2, L2, m2, B2⟩
      replace O1 := own_below O1 B2
      have B12 := B1.trans (B2.mono B1.size)
      obtain ⟨xz, cz, rfl, _, _, R1⟩ := rd_of_own O1
      obtain ⟨yz, dz, rfl, _, _, R2⟩ := rd_of_own O2
      have HP := Lib.hid (fun w h1 h2 => l05Prod_any xz yz n n cz dz Z1 Z2 w h1 h2 hn (Nat.le_refl _))
      rw [dotW_like2 n L1 L2, show dotW (nrmR X n) (nrmR Y n) n = D from HD.out.symm] at HP
      clear O1 O2 L1 L2 B1 B2
      go_wp2_with fail
      refine (HP.out _ (by exact R1) (by exact R2)).mono ?_
      rintro e w3 ⟨s1, q1, rfl, rfl⟩
      go_wp2_with fail
      refine (HQ.out _ _).mono ?_
      rintro e w4 ⟨s2, q2, rfl, rfl⟩
      go_wp2
      go_ret2
      refine HY.out _ _ ?_
      exact Below.drewN B12 _
set_option maxRecDepth 100000 in
set_option maxHeartbeats 3200000 in
theorem specLik_any (xa : Option Addr) (n cx : Nat) (X : Nat → Nat) (ya : Option Addr) (m cy : Nat) (Y : Nat → Nat) (w : World) (hX : Rd w xa n X) (hY : Rd w ya m Y) (hn : n ≤ 1048576) (hm : m ≤ 1048576) (ok : Bool) (ho : Hid (ok = (okTwo X n Y m && (nrmB X n && nrmB Y m)))) (R : Nat) (hR : Hid (R = if ok = true then lkD X Y n else 0)) :
    Calls Try.prog 33 #[.slice xa n cx, .slice ya m cy] w (FlbRet R ok w) := by
  cases hk : okTwo X n Y m
  · have HT := Lib.hid (fun w hX hY => specTwo_any xa n cx X ya m cy Y w hX hY hn hm false (Lib.hid hk.symm))
    have HN := Lib.hid (fun w' (hb : Below w.heap.size w w') => show FlbRet R ok w (.returned (.tuple #[.float .f32 0, .bool false])) w' by
      have e : ok = false := by rw [ho.out, hk]; rfl
      rw [hR.out, e, if_neg (by simp)]; exact flbNo hb)
    clear hk
    go_enter Try.func33, Try.ntmps33
    go_wp2_with (go_at_call 74; refine (HT.out _ (by exact hX) (by exact hY)).mono ?_; rintro e w' ⟨rfl, q, rfl⟩)
    go_ret2
    refine HN.out _ ?_
    (repeat (first | with_reducible exact Below.refl _ _ | with_reducible refine Below.drewN ?_ _ | with_reducible refine Below.setCell ?_ (by simp; try omega) _ | with_reducible refine Below.alloc ?_ (by simp; try omega) _))
  · have HT := Lib.hid (fun w hX hY => specTwo_any xa n cx X ya m cy Y w hX hY hn hm true (Lib.hid hk.symm))
    obtain ⟨h1, h2, e⟩ := okTwo_at hk
    subst e
    have HC := Lib.hid (fun w hX hY => l07Like_any xa n cx X ya cy Y w hX hY h1 h2 _ _ ok (Lib.hid rfl) (Lib.hid rfl) (Lib.hid (by rw [ho.out, hk, Bool.true_and])) R hR)
    clear hk
    go_enter Try.func33, Try.ntmps33
    go_wp2_with fail
    refine (HT.out _ (by exact hX) (by exact hY)).mono ?_
    rintro e w' ⟨rfl, q, rfl⟩
    go_wp2_with fail
    refine (HC.out _ (by exact hX) (by exact hY)).mono ?_
    rintro e w' ⟨s, rfl, hb⟩
    go_wp2
    go_ret2
    exact ⟨s, rfl, Below.trans (Below.drewN (Below.refl _ w) q) hb⟩
set_option maxRecDepth 100000 in
set_option maxHeartbeats 3200000 in
theorem implLik_any (xa : Option Addr) (n cx : Nat) (X : Nat → Nat) (ya : Option Addr) (m cy : Nat) (Y : Nat → Nat) (w : World) (hX : Rd w xa n X) (hY : Rd w ya m Y) (hn : n ≤ 1048576) (hm : m ≤ 1048576) (ok : Bool) (ho : Hid (ok = (okTwo X n Y m && (nrmB X n && nrmB Y m)))) (R : Nat) (hR : Hid (R = if ok = true then lkD X Y n else 0)) :
    Calls Try.prog 34 #[.slice xa n cx, .slice ya m cy] w (FlbRet R ok w) := by
  obtain ⟨p, hp⟩ : ∃ p, p = (okLst X n && nrmB X n) := ⟨_, rfl⟩
  obtain ⟨q, hq⟩ : ∃ q, q = (okLst Y m && nrmB Y m) := ⟨_, rfl⟩
  have HA := Lib.hid (fun w hX => implNof_any xa n cx X w hX hn p (Lib.hid hp) _ (Lib.hid rfl))
  have HB := Lib.hid (fun w hY => implNof_any ya m cy Y w hY hm q (Lib.hid hq) _ (Lib.hid rfl))
  have HN := Lib.hid (fun (h : ok = false) w' (hb : Below w.heap.size w w') => show FlbRet R ok w (.returned (.tuple #[.float .f32 0, .bool false])) w' by
    rw [hR.out, h, if_neg (by simp)]; exact flbNo hb)
  cases p
  · have HN' := Lib.hid (HN.out (by
      rw [ho.out, okTwo]
      revert hp
      cases okLst X n <;> cases nrmB X n <;> simp))
    clear hp hq
    cases q
    · go_enter Try.func34, Try.ntmps34
      go_wp2_with fail
      refine (HA.out _ (by exact hX)).mono ?_
      rintro e w1 ⟨v1, Z1, rfl, O1, L1, m1, B1⟩
      go_wp2_with fail
      refine (HB.out _ (by exact hY.below B1)).mono ?_
      rintro e w2 ⟨v2, Z2, rfl, O2, L2, m2, B2⟩
      go_wp2
      go_ret2
      exact HN'.out _ (B1.trans (B2.mono B1.size))
    · go_enter Try.func34, Try.ntmps34
      go_wp2_with fail
      refine (HA.out _ (by exact hX)).mono ?_
      rintro e w1 ⟨v1, Z1, rfl, O1, L1, m1, B1⟩
      go_wp2_with fail
      refine (HB.out _ (by exact hY.below B1)).mono ?_
      rintro e w2 ⟨v2, Z2, rfl, O2, L2, m2, B2⟩
      go_wp2
      go_ret2
      exact HN'.out _ (B1.trans (B2.mono B1.size))
  · cases q
    · have HN' := Lib.hid (HN.out (by
        rw [ho.out, okTwo]
        revert hq
        cases okLst Y m <;> cases nrmB Y m <;> simp))
      clear hp hq
      go_enter Try.func34, Try.ntmps34
      go_wp2_with fail
      refine (HA.out _ (by exact hX)).mono ?_
      rintro e w1 ⟨v1, Z1, rfl, O1, L1, m1, B1⟩
      go_wp2_with fail
      refine (HB.out _ (by exact hY.below B1)).mono ?_
      rintro e w2 ⟨v2, Z2, rfl, O2, L2, m2, B2⟩
      go_wp2
      go_ret2
      exact HN'.out _ (B1.trans (B2.mono B1.size))
    · have hx : okLst X n = true ∧ nrmB X n = true := by simpa using hp.symm
      have hy : okLst Y m = true ∧ nrmB Y m = true := by simpa using hq.symm
      clear hp hq
      rw [if_pos rfl] at HA HB
      by_cases hnm : n = m
      · subst hnm
        have hok : ok = true := by rw [ho.out, okTwo, hx.1, hx.2, hy.1, hy.2]; simp
        obtain ⟨D, hD⟩ : ∃ D, D = lkD X Y n := ⟨_, rfl⟩
        have HD := Lib.hid hD
        have h256 : n ≤ 256 := by have := okLst_at hx.1; omega
        have HY := Lib.hid (fun s w' (hb : Below w.heap.size w w') => show FlbRet R ok w (.returned (.tuple #[.float .f32 (pick .f32 D s), .bool true])) w' from ⟨s, by
          rw [hR.out, hok, if_pos rfl, ← hD], hb⟩)
        clear hD hx hy
        go_enter Try.func34, Try.ntmps34
        go_wp2_with fail
        refine (HA.out _ (by exact hX)).mono ?_
        rintro e w1 ⟨v1, Z1, rfl, O1, L1, m1, B1⟩
        go_wp2_with fail
        refine (HB.out _ (by exact hY.below B1)).mono ?_
        rintro e w2 ⟨v2, Z2, rfl, O2, L2, m2, B2⟩
        replace O1 := own_below O1 B2
        have B12 := B1.trans (B2.mono B1.size)
        obtain ⟨xz, cz, rfl, _, _, R1⟩ := rd_of_own O1
        obtain ⟨yz, dz, rfl, _, _, R2⟩ := rd_of_own O2
        have HP := Lib.hid (fun w h1 h2 => DotNumbers_any xz yz n cz dz Z1 Z2 w h1 h2 h256)
        rw [dotW_like2 n L1 L2, show dotW (nrmR X n) (nrmR Y n) n = D from HD.out.symm] at HP
        clear O1 O2 L1 L2 B1 B2
        go_wp2_with fail
        refine (HP.out _ (by exact R1) (by exact R2)).mono ?_
        rintro e w3 ⟨s1, q1, rfl, rfl⟩
        go_wp2
        go_ret2
        refine HY.out _ _ ?_
        exact Below.drewN B12 _
      · have HN' := Lib.hid (HN.out (by
          have : decide ((n : Int) = (m : Int)) = false := decide_eq_false (by omega)
          rw [ho.out, okTwo, this]; simp))
        clear hx hy
        go_enter Try.func34, Try.ntmps34
        go_wp2_with fail
        refine (HA.out _ (by exact hX)).mono ?_
        rintro e w1 ⟨v1, Z1, rfl, O1, L1, m1, B1⟩
        go_wp2_with fail
        refine (HB.out _ (by exact hY.below B1)).mono ?_
        rintro e w2 ⟨v2, Z2, rfl, O2, L2, m2, B2⟩
        have B12 := B1.trans (B2.mono B1.size)
        obtain ⟨xz, cz, rfl, _, _, R1⟩ := rd_of_own O1
        obtain ⟨yz, dz, rfl, _, _, R2⟩ := rd_of_own O2
        go_wp2_with fail
        refine (DotNumbers_no xz yz n m cz dz _ (.inr hnm) hn).mono ?_
        rintro e w3 ⟨s1, q1, rfl, rfl⟩
        rw [pick_zero]
        go_wp2
        go_ret2
        refine HN'.out _ ?_
        exact Below.drewN B12 _
/-- What is told of LikeOf. -/
def RetLikeOf (r0 : Nat) (r1 : Bool) (w : World) (e : Ending) (w' : World) : Prop := ∃ (s0 : Nat), e = .returned (.tuple #[.float .f32 (pick .f32 r0 s0), .bool r1]) ∧ Below w.heap.size w w'
theorem bothLikeOf (N : Nat) (X : Nat → Nat) (hN : N ≤ 1048576) (M : Nat) (Y : Nat → Nat) (hM : M ≤ 1048576) :
    ∃ (r : Nat) (ok : Bool), (∀ (xa : Option Addr) (c : Nat) (ya : Option Addr) (c' : Nat) (w : World), Rd w xa N X → Rd w ya M Y → Calls Try.prog 33 #[.slice xa N c, .slice ya M c'] w (RetLikeOf r ok w)) ∧
      ∀ (xa : Option Addr) (c : Nat) (ya : Option Addr) (c' : Nat) (w : World), Rd w xa N X → Rd w ya M Y → Calls Try.prog 34 #[.slice xa N c, .slice ya M c'] w (RetLikeOf r ok w) :=
  ⟨_, _, fun xa c ya c' w hX hY => specLik_any xa N c X ya M c' Y w hX hY hN hM _ (Lib.hid rfl) _ (Lib.hid rfl), fun xa c ya c' w hX hY => implLik_any xa N c X ya M c' Y w hX hY hN hM _ (Lib.hid rfl) _ (Lib.hid rfl)⟩
set_option maxRecDepth 100000 in
set_option maxHeartbeats 6400000 in
theorem lawLikeOf_in (W : World) (x0 : Option Addr) (n0 c0 : Nat) (X0 : Nat → Nat) (hX0 : Rd W x0 n0 X0) (x1 : Option Addr) (n1 c1 : Nat) (X1 : Nat → Nat) (hX1 : Rd W x1 n1 X1) (h0 : n0 ≤ 1048576) (h1 : n1 ≤ 1048576) (r0 : Nat) (r1 : Bool) (HS : Hid (∀ (x0 : Option Addr) (c0 : Nat) (x1 : Option Addr) (c1 : Nat) (w : World), Rd w x0 n0 X0 → Rd w x1 n1 X1 → Calls Try.prog 33 #[.slice x0 n0 c0, .slice x1 n1 c1] w (RetLikeOf r0 r1 w))) (HI : Hid (∀ (x0 : Option Addr) (c0 : Nat) (x1 : Option Addr) (c1 : Nat) (w : World), Rd w x0 n0 X0 → Rd w x1 n1 X1 → Calls Try.prog 34 #[.slice x0 n0 c0, .slice x1 n1 c1] w (RetLikeOf r0 r1 w))) :
    Calls Try.prog 10 #[.slice x0 n0 c0, .slice x1 n1 c1] W fun e w' => e = .returned (.bool true) ∧ Below W.heap.size W w' := by
  have hcv := fun (R : Nat) (s t : Nat) => show canon .f64 (pick .f64 (fconv .f32 (pick .f32 R s) .f64) t) = canon .f64 (fconv .f32 R .f64) by rw [canon_pick, fconv_pick]
  have hcw := fun (R : Nat) (s t : Nat) => show canon .f64 (pick .f64 R s) = canon .f64 (pick .f64 R t) by rw [canon_pick, canon_pick]
  have HCV := Lib.hid hcv
  have HCW := Lib.hid hcw
  clear hcv hcw
  have hnb1 : (r1 != r1) = false := by simp
  have HB := Blw.refl W
  go_enter Try.func10, Try.ntmps10
  go_wp2_with fail
  refine (toF_any _ _ _ X0 _ (by exact hX0.below (Blw.out (by exact HB))) h0).mono ?_
  rintro e0 w0 ⟨rfl, O0, B0⟩
  replace HB := Blw.next (by exact HB) B0
  have C0 := O0
  clear O0 B0
  go_wp2_with fail
  refine (toF_any _ _ _ X1 _ (by exact hX1.below (Blw.out (by exact HB))) h1).mono ?_
  rintro e0 w0 ⟨rfl, O0, B0⟩
  replace C0 := own_below (by exact C0) B0
  replace HB := Blw.next (by exact HB) B0
  have C1 := O0
  clear O0 B0
  go_wp2_with fail
  refine (HS.out _ _ _ _ _ (rd_own (by exact C0)) (rd_own (by exact C1))).mono ?_
  rintro e0 w1 ⟨sw0, rfl, B0⟩
  clear C0
  clear C1
  replace HB := Blw.next (by exact HB) B0
  clear B0
  have Z0 := hX0.below HB.out
  have Z1 := hX1.below HB.out
  have HL := Blw.refl w1
  have E0 := (Blw.out (by exact HL)).size
  go_wp2_with fail
  refine (toF_any _ _ _ X0 _ (by exact Z0.below (Blw.out (by exact HL))) h0).mono ?_
  rintro e0 w0 ⟨rfl, O0, B0⟩
  replace HL := Blw.next (by exact HL) B0
  have D0 := O0
  clear O0 B0
  have E1 := (Blw.out (by exact HL)).size
  have Q0_1 := own_lt (by exact D0)
  go_wp2_with fail
  refine (toF_any _ _ _ X1 _ (by exact Z1.below (Blw.out (by exact HL))) h1).mono ?_
  rintro e0 w0 ⟨rfl, O0, B0⟩
  replace D0 := own_below (by exact D0) B0
  replace HL := Blw.next (by exact HL) B0
  have D1 := O0
  clear O0 B0
  have Qg0 := own_lt (by exact D0)
  have Qg1 := own_lt (by exact D1)
  have Eg := (Blw.out (by exact HL)).size
  go_wp2_with fail
  refine (HI.out _ _ _ _ _ (rd_own (by exact D0)) (rd_own (by exact D1))).mono ?_
  rintro e0 w2 ⟨sg0, rfl, B0⟩
  replace D0 := own_below (by exact D0) B0
  replace D1 := own_below (by exact D1) B0
  replace HL := Blw.next (by exact HL) B0
  clear B0
  go_wp2_with (first | ((with_reducible refine wpL_fconv ?_); refine ⟨_, _, _, rfl, Option.isSome_iff_exists.2 ⟨_, Try.underlying31⟩, Try.underlying37, FloatKind.noConfusion, convOk_widen _, fun s n => ?_⟩) | ((with_reducible refine wpL_fconv_g ?_); refine ⟨rfl, _, _, _, rfl, Option.isSome_iff_exists.2 ⟨_, Try.underlying31⟩, Try.underlying37, FloatKind.noConfusion, convOk_widen _, fun s n => ?_⟩))
  refine (sameFloat_any _ _ _ ((HCV.out _ _ _).trans (HCV.out _ _ _).symm)).mono ?_
  rintro e0 w0 ⟨rfl, q, rfl⟩
  go_wp2_with fail
  refine (toF_any _ _ _ X0 _ (by exact Z0.below (Blw.out (by exact HL))) h0).mono ?_
  rintro e0 w0 ⟨rfl, O0, B0⟩
  replace D0 := own_below (by exact D0) B0
  replace D1 := own_below (by exact D1) B0
  replace HL := Blw.next (by exact HL) B0
  have K0 := O0
  clear O0 B0
  go_wp2_with fail
  refine (eqF_any _ _ _ _ _ X0 X0 _ (by exact rd_own (by exact D0)) (by exact rd_own (by exact K0)) h0 (fun _ _ => rfl)).mono ?_
  rintro e0 w0 ⟨rfl, q, rfl⟩
  clear K0
  go_wp2_with fail
  refine (toF_any _ _ _ X1 _ (by exact Z1.below (Blw.out (by exact HL))) h1).mono ?_
  rintro e0 w0 ⟨rfl, O0, B0⟩
  replace D0 := own_below (by exact D0) B0
  replace D1 := own_below (by exact D1) B0
  replace HL := Blw.next (by exact HL) B0
  have K1 := O0
  clear O0 B0
  go_wp2_with fail
  refine (eqF_any _ _ _ _ _ X1 X1 _ (by exact rd_own (by exact D1)) (by exact rd_own (by exact K1)) h1 (fun _ _ => rfl)).mono ?_
  rintro e0 w0 ⟨rfl, q, rfl⟩
  clear K1
  go_wp2
  go_ret
  exact ⟨rfl, (Blw.out (by exact HB)).trans ((Blw.out (by exact HL)).mono (Blw.out (by exact HB)).size)⟩
set_option maxRecDepth 100000 in
set_option maxHeartbeats 1600000 in
theorem lawLikeOf_any (W : World) (x0 : Option Addr) (n0 c0 : Nat) (X0 : Nat → Nat) (hX0 : Rd W x0 n0 X0) (x1 : Option Addr) (n1 c1 : Nat) (X1 : Nat → Nat) (hX1 : Rd W x1 n1 X1) :
    Calls Try.prog 10 #[.slice x0 n0 c0, .slice x1 n1 c1] W fun e w' => e = .returned (.bool true) ∧ Below W.heap.size W w' := by
  by_cases h0 : n0 ≤ 1048576
  · skip
    by_cases h1 : n1 ≤ 1048576
    · skip
      obtain ⟨r0, r1, hs, hi⟩ := bothLikeOf n0 X0 h0 n1 X1 h1
      exact lawLikeOf_in W x0 n0 c0 X0 hX0 x1 n1 c1 X1 hX1 h0 h1 r0 r1 (Lib.hid hs) (Lib.hid hi)
    · have h' : (1048576 : Int) < (n1 : Int) := by omega
      go_enter Try.func10, Try.ntmps10
      go_wp2
      go_ret
      exact ⟨rfl, (Blw.refl W).out⟩
  · have h' : (1048576 : Int) < (n0 : Int) := by omega
    go_enter Try.func10, Try.ntmps10
    go_wp2
    go_ret
    exact ⟨rfl, (Blw.refl W).out⟩
set_option maxRecDepth 100000 in
theorem FnExactLikeOf_lifted (os : Os) (started : os.Started) (H : Type) (enc : TypeId × Value → H) :
    ReturnsInHanded {} Try.checked os 10 .any (Rows.fnExactLikeOfSpec.pre6 enc Try.prog Try.f10 Rows.fnExactLikeOfRow.domain false) (Rows.fnExactLikeOfSpec.post enc Try.prog Try.f10 false true false false) := by
  refine returnsInHanded_of_change (C := Try.checked) ownKnob_none started (by kernel_rfl) Try.func10
    (ChangeSpec.witness6 (enc := enc) (C := Try.checked) false ⟨#[], #[.slice none 0 0, .slice none 0 0], []⟩ 8 (by kernel_rfl) (by kernel_rfl) (by kernel_rfl) (by kernel_rfl)) ?_
  intro W base args ds gs before hval0 hW _ _
  have hval : ∀ (j : Nat) t v, Try.f10.params[j]? = some t → args[j]? = some v → Value.okWide Try.prog W .any base t v := hval0
  have hW' := hW
  obtain ⟨p, q, hA0, hV, rfl, _, _⟩ := hW
  have hA : DataW.TrodAll enc Try.prog W 0 (fun _ => true) true Try.f10.params.toList args.toList ds p := hA0
  rw [Try.params10] at hA hval
  obtain ⟨v0, v1, d0, d1, p0, p1, rfl, rfl, rfl, h0, h1⟩ := trodAll_two hA
  obtain ⟨rfl, rfl⟩ := trodVars_none hV
  obtain ⟨x0, n0, c0, rfl⟩ := okWide_slice Try.underlying22 (hval 0 22 v0 rfl rfl)
  have k0 := h0
  obtain ⟨_, _, a0, w0, _⟩ := open_f32s Try.underlying22 Try.underlying31 cellsF h0
  have b0 : ∀ x ∈ p0, x.block < W.heap.size := fun x hx => by have := hW'.lt x (by simp [hx]); simpa using this
  obtain ⟨x1, n1, c1, rfl⟩ := okWide_slice Try.underlying22 (hval 1 22 v1 rfl rfl)
  have k1 := h1
  obtain ⟨_, _, a1, w1, _⟩ := open_f32s Try.underlying22 Try.underlying31 cellsF h1
  have b1 : ∀ x ∈ p1, x.block < W.heap.size := fun x hx => by have := hW'.lt x (by simp [hx]); simpa using this
  clear hA0 hval0
  refine (lawLikeOf_any W x0 n0 c0 a0 w0 x1 n1 c1 a1 w1).mono fun e W' ⟨he, hb⟩ => ?_
  subst he
  have hA2 := trodAll_mk2 (enc := enc) (w := W') (base := 0) (spare := fun b => decide (b < W.heap.size)) (held := true) (Below.trod laidOut (by kernel_rfl) (of_decide_eq_true (by kernel_rfl)) k0 hb b0) (Below.trod laidOut (by kernel_rfl) (of_decide_eq_true (by kernel_rfl)) k1 hb b1)
  exact ⟨_, rfl, _, _, _, [], _, [], hW', trodAll_cons_mk (shut_bool Try.underlying4 _) trodAll_mk0, hA2, rfl, hb.frame _, fun h => by cases h⟩
theorem FnExactLikeOf_holds : Rows.FnExactLikeOfSaid :=
  OpenClaim.holds_of_wide 10 Try.f10 rfl rfl rfl rfl rfl rfl rfl ⟨rfl, rfl, rfl, rfl, rfl⟩ rfl rfl rfl rfl rfl (by kernel_rfl) Try.func10 (by kernel_rfl)
    (of_decide_eq_true (by kernel_rfl)) (by unfold Func.isWrapper; first | (rw [if_pos (by decide +kernel)]; kernel_rfl) | (rw [if_neg (by decide +kernel)]; exact ⟨rfl, rfl⟩))
    (fun os started H enc _ => FnExactLikeOf_lifted os started H enc)
end Go.Proofs.Ytehlflldnihamaa
