/- Of any two lists the program tells the differences just where the model does, and the same; the lists are not changed: for all arguments. -/
import Derived.Test.YtaobjilnbbpmeaaSame
import Derived.Test.YtaobjilnbbpmeaaLes
import Derived.Deep.QuietTactic
import Derived.BigQuiet
import Derived.StillTailTactics
import Derived.Test.YtaobjilnbbpmeaaLiC
import Derived.Test.YtaobjilnbbpmeaaLaw
namespace Go.Proofs.Ytaobjilnbbpmeaa
open Go Go.ChangeShapes Go.WideShapes Go.ChangeAt Go.RowKit

/-- What is told of DifferencesOf. -/
def RetDifferencesOf (R0 : Nat → Nat) (m0 : Nat) (r1 : Bool) (w : World) (e : Ending) (w' : World) : Prop := ∃ (v0 : Value) (Y0 : Nat → Nat), e = .returned (.tuple #[v0, .bool r1]) ∧ w'.ownsRow w.heap.size 22 1 v0 m0 (rowOf Y0 m0) ∧ Like Y0 R0 m0 ∧ m0 ≤ 1048576 ∧ Below w.heap.size w w'
def difLen (n n' : Nat) : Bool := decide (1 ≤ n ∧ n ≤ 32 ∧ n' = n)
def difOk (X Y : Nat → Nat) (n n' : Nat) : Bool := difLen n n' && (finL X n && finL Y n && finL (lesR X Y) n)
theorem difNo {R : Nat → Nat} {w w' : World} (hb : Below w.heap.size w w') : RetDifferencesOf R 0 false w (.returned (.tuple #[.slice none 0 0, .bool false])) w' :=
  ⟨_, fun _ => 0, rfl, World.ownsRow_nil _ _ _ _, fun _ h => absurd h (Nat.not_lt_zero _), Nat.zero_le _, hb⟩
set_option maxRecDepth 100000 in
set_option maxHeartbeats 1600000 in
theorem specDif_len (xa ya : Option Addr) (n n' cx cy : Nat) (w : World) (hn : n ≤ 1048576) (_ : n' ≤ 1048576) (R : Nat → Nat) (hk : difLen n n' = false) :
    Calls Try.prog 37 #[.slice xa n cx, .slice ya n' cy] w (RetDifferencesOf R 0 false w) := by
  have hk' : ¬ (1 ≤ n ∧ n ≤ 32 ∧ n' = n) := of_decide_eq_false hk
  clear hk
  by_cases h1 : 1 ≤ n
  · by_cases h2 : n ≤ 32
    · have h3 : ((n' : Int) != (n : Int)) = true := by simpa using (by omega : ¬ (n' : Int) = (n : Int))
      have d2 : decide (32 < (n : Int)) = false := decide_eq_false (by omega)
      clear hk'
      go_enter Try.func37, Try.ntmps37
      go_wp2
      go_ret2
      refine difNo ?_
      (repeat (first | with_reducible exact Below.refl _ _ | with_reducible refine Below.drewN ?_ _ | with_reducible refine Below.setCell ?_ (by simp; try omega) _ | with_reducible refine Below.alloc ?_ (by simp; try omega) _))
    · have d2 : decide (32 < (n : Int)) = true := decide_eq_true (by omega)
      clear hk'
      go_enter Try.func37, Try.ntmps37
      go_wp2
      go_ret2
      refine difNo ?_
      (repeat (first | with_reducible exact Below.refl _ _ | with_reducible refine Below.drewN ?_ _ | with_reducible refine Below.setCell ?_ (by simp; try omega) _ | with_reducible refine Below.alloc ?_ (by simp; try omega) _))
  · clear hk'
    go_enter Try.func37, Try.ntmps37
    go_wp2
    go_ret2
    refine difNo ?_
    (repeat (first | with_reducible exact Below.refl _ _ | with_reducible refine Below.drewN ?_ _ | with_reducible refine Below.setCell ?_ (by simp; try omega) _ | with_reducible refine Below.alloc ?_ (by simp; try omega) _))
set_option maxRecDepth 100000 in
set_option maxHeartbeats 6400000 in
theorem specDif_any (xa ya : Option Addr) (n cx cy : Nat) (X Y : Nat → Nat) (w : World) (hX : Rd w xa n X) (hY : Rd w ya n Y) (h1 : 1 ≤ n) (h2 : n ≤ 32) (m : Nat) (ok : Bool) (ho : ok = (finL X n && finL Y n && finL (lesR X Y) n)) (hm : m = if ok = true then n else 0) :
    Calls Try.prog 37 #[.slice xa n cx, .slice ya n cy] w (RetDifferencesOf (lesR X Y) m ok w) := by
  obtain ⟨i0, hi, hz0, hz1, hz2⟩ := info_parts infoF
  obtain ⟨xb, xo, hxa, hcx⟩ := hX
  obtain ⟨yb, yo, hya, hcy⟩ := hY
  have e := hxa (by omega)
  subst e
  have e := hya (by omega)
  subst e
  have HX := Lib.hid hcx
  have HY := Lib.hid hcy
  have HO := Lib.hid ho
  have HM := Lib.hid hm
  have hnn : ((n : Int) != (n : Int)) = false := by simp
  have d2 : decide (32 < (n : Int)) = false := decide_eq_false (by omega)
  have hip := isFin_pick .f32
  clear hcx hcy ho hm hxa hya
  go_enter Try.func37, Try.ntmps37
  go_wp2
  go_loopw [6, 27] (fun v i wr => ∃ (k : Nat) (Z : Nat → Nat), k ≤ n ∧ i = .int .i64 (k : Int) ∧ wr.ownsRow w.heap.size 22 1 v k (rowOf Z k) ∧ Like Z (lesR X Y) k ∧ Below w.heap.size w wr ∧ Hid (∀ j, j < k → isFin .f32 (X j) = true ∧ isFin .f32 (Y j) = true ∧ isFin .f32 (lesR X Y j) = true)) (fun _ i _ => n - (intOf i).toNat)
  case atStart => exact ⟨0, fun _ => 0, Nat.zero_le _, rfl, own_empty _ _, fun _ h => absurd h (Nat.not_lt_zero _), Below.alloc (Below.refl _ _) (Nat.le_refl _) _, Lib.hid fun j hj => absurd hj (Nat.not_lt_zero _)⟩
  case round =>
    obtain ⟨k, Z, hk, rfl, hownk, hL, hBk, HF⟩ := hrel
    have hsz := hBk.size
    by_cases hlt : k < n
    · have c0x := HX.out k hlt
      have c0y := HY.out k hlt
      have c1x := (hBk.cell (p := ⟨xb, xo + k, none⟩) (World.block_lt_of_cell? w _ c0x)).trans c0x
      have c1y := (hBk.cell (p := ⟨yb, yo + k, none⟩) (World.block_lt_of_cell? w _ c0y)).trans c0y
      have hR : fbin .sub .f32 (X k) (Y k) = lesR X Y k := rfl
      obtain ⟨D, hD⟩ : ∃ D, D = lesR X Y k := ⟨_, rfl⟩
      rw [← hD] at hR
      clear c0x c0y
      have HD := Lib.hid hD
      clear hD
      cases f1 : isFin .f32 (X k)
      · have HN := Lib.hid (show ok = false by rw [HO.out, finL_no hlt f1, Bool.false_and, Bool.false_and])
        have HZ := Lib.hid (show m = 0 by rw [HM.out, HN.out, if_neg (by simp)])
        go_wp2_with fail
        go_still_tail 8, (by kernel_rfl)
        change wpList _ _ _ _ _ wr.drew
        have hEw : wr.drew = wr.drewN 1 := rfl
        rw [hEw]
        clear hEw
        go_wp2_with (first | ((with_reducible refine wpL_fbin ?_); refine ⟨_, _, _, rfl, rfl, rfl, fun s n => ?_⟩) | (go_at_call 56; refine (l01Finite_any _ _).mono ?_; rintro e w' ⟨rfl, q, rfl⟩))
        go_ret2
        rw [HN.out, HZ.out]
        refine difNo ?_
        exact Below.drewN hBk _
      · cases f2 : isFin .f32 (Y k)
        · have HN := Lib.hid (show ok = false by rw [HO.out, finL_no hlt f2, Bool.and_false, Bool.false_and])
          have HZ := Lib.hid (show m = 0 by rw [HM.out, HN.out, if_neg (by simp)])
          go_wp2_with fail
          go_still_tail 8, (by kernel_rfl)
          change wpList _ _ _ _ _ wr.drew
          have hEw : wr.drew = wr.drewN 1 := rfl
          rw [hEw]
          clear hEw
          go_wp2_with (first | ((with_reducible refine wpL_fbin ?_); refine ⟨_, _, _, rfl, rfl, rfl, fun s n => ?_⟩) | (go_at_call 56; refine (l01Finite_any _ _).mono ?_; rintro e w' ⟨rfl, q, rfl⟩))
          go_ret2
          rw [HN.out, HZ.out]
          refine difNo ?_
          exact Below.drewN hBk _
        · cases f3 : isFin .f32 D
          · have HN := Lib.hid (show ok = false by rw [HO.out, finL_no hlt (show isFin .f32 (lesR X Y k) = false by rw [← HD.out]; exact f3), Bool.and_false])
            have HZ := Lib.hid (show m = 0 by rw [HM.out, HN.out, if_neg (by simp)])
            go_wp2_with fail
            go_still_tail 8, (by kernel_rfl)
            change wpList _ _ _ _ _ wr.drew
            have hEw : wr.drew = wr.drewN 1 := rfl
            rw [hEw]
            clear hEw
            go_wp2_with (first | ((with_reducible refine wpL_fbin ?_); refine ⟨_, _, _, rfl, rfl, rfl, fun s n => ?_⟩) | (go_at_call 56; refine (l01Finite_any _ _).mono ?_; rintro e w' ⟨rfl, q, rfl⟩))
            go_ret2
            rw [HN.out, HZ.out]
            refine difNo ?_
            exact Below.drewN hBk _
          · have HG := Lib.hid (show ∀ j, j < k + 1 → isFin .f32 (X j) = true ∧ isFin .f32 (Y j) = true ∧ isFin .f32 (lesR X Y j) = true from fun j hj => by
              by_cases hj' : j < k
              · exact HF.out j hj'
              · rw [show j = k by omega]; exact ⟨f1, f2, by rw [← HD.out]; exact f3⟩)
            go_wp2_with fail
            go_still_tail 8, (by kernel_rfl)
            change wpList _ _ _ _ _ wr.drew
            have hEw : wr.drew = wr.drewN 1 := rfl
            rw [hEw]
            clear hEw
            go_wp2_with (first | (first | ((with_reducible refine wpL_fbin ?_); refine ⟨_, _, _, rfl, rfl, rfl, fun s n => ?_⟩) | (go_at_call 56; refine (l01Finite_any _ _).mono ?_; rintro e w' ⟨rfl, q, rfl⟩)) | (at_builtin; refine wpL_push hi hz0 hz1 hz2 rfl rfl rfl rfl (by exact hownk) (by omega) (by exact hsz) ?_; intro v' w1 hown' hB'))
            go_roundw
            case rel => exact ⟨k + 1, _, by omega, by go_num, hown', like_push hL (by rw [← HD.out]), Below.trans (Below.drewN hBk _) hB', HG⟩
            case measure => simp [intOf]; omega
    · have hkn : k = n := by omega
      subst hkn
      have HN := Lib.hid (show ok = true by rw [HO.out, finL_yes (fun j hj => (HF.out j hj).1), finL_yes (fun j hj => (HF.out j hj).2.1), finL_yes (fun j hj => (HF.out j hj).2.2)]; rfl)
      have HZ := Lib.hid (show m = k by rw [HM.out, HN.out, if_pos rfl])
      go_wp2
      go_ret2
      rw [HN.out, HZ.out]
      exact ⟨_, _, rfl, hownk, hL, by omega, hBk⟩
set_option maxRecDepth 100000 in
set_option maxHeartbeats 1600000 in
theorem implDif_len (xa ya : Option Addr) (n n' cx cy : Nat) (w : World) (hn : n ≤ 1048576) (_ : n' ≤ 1048576) (R : Nat → Nat) (hk : difLen n n' = false) :
    Calls Try.prog 38 #[.slice xa n cx, .slice ya n' cy] w (RetDifferencesOf R 0 false w) := by
  have hk' : ¬ (1 ≤ n ∧ n ≤ 32 ∧ n' = n) := of_decide_eq_false hk
  clear hk
  by_cases h1 : 1 ≤ n
  · by_cases h2 : n ≤ 32
    · have h3 : ((n' : Int) != (n : Int)) = true := by simpa using (by omega : ¬ (n' : Int) = (n : Int))
      have d2 : decide (32 < (n : Int)) = false := decide_eq_false (by omega)
      clear hk'
      go_enter Try.func38, Try.ntmps38
      go_wp2
      go_ret2
      refine difNo ?_
      (repeat (first | with_reducible exact Below.refl _ _ | with_reducible refine Below.drewN ?_ _ | with_reducible refine Below.setCell ?_ (by simp; try omega) _ | with_reducible refine Below.alloc ?_ (by simp; try omega) _))
    · have d2 : decide (32 < (n : Int)) = true := decide_eq_true (by omega)
      clear hk'
      go_enter Try.func38, Try.ntmps38
      go_wp2
      go_ret2
      refine difNo ?_
      (repeat (first | with_reducible exact Below.refl _ _ | with_reducible refine Below.drewN ?_ _ | with_reducible refine Below.setCell ?_ (by simp; try omega) _ | with_reducible refine Below.alloc ?_ (by simp; try omega) _))
  · clear hk'
    go_enter Try.func38, Try.ntmps38
    go_wp2
    go_ret2
    refine difNo ?_
    (repeat (first | with_reducible exact Below.refl _ _ | with_reducible refine Below.drewN ?_ _ | with_reducible refine Below.setCell ?_ (by simp; try omega) _ | with_reducible refine Below.alloc ?_ (by simp; try omega) _))
set_option maxRecDepth 100000 in
set_option maxHeartbeats 3200000 in
theorem implDif_any (xa ya : Option Addr) (n cx cy : Nat) (X Y : Nat → Nat) (w : World) (hX : Rd w xa n X) (hY : Rd w ya n Y) (h1 : 1 ≤ n) (h2 : n ≤ 32) (m : Nat) (ok : Bool) (ho : ok = (finL X n && finL Y n && finL (lesR X Y) n)) (hm : m = if ok = true then n else 0) :
    Calls Try.prog 38 #[.slice xa n cx, .slice ya n cy] w (RetDifferencesOf (lesR X Y) m ok w) := by
  have hnn : ((n : Int) != (n : Int)) = false := by simp
  have d2 : decide (32 < (n : Int)) = false := decide_eq_false (by omega)
  cases f1 : finL X n
  · obtain rfl : ok = false := by rw [ho, f1, Bool.false_and, Bool.false_and]
    obtain rfl : m = 0 := by rw [hm, if_neg (by simp)]
    clear ho hm
    go_enter Try.func38, Try.ntmps38
    go_wp2_with (go_at_call 50; refine (allFinite_any _ _ _ X _ (by exact hX) (by omega)).mono ?_; rw [f1]; rintro e w' ⟨rfl, q, rfl⟩)
    go_ret2
    refine difNo ?_
    (repeat (first | with_reducible exact Below.refl _ _ | with_reducible refine Below.drewN ?_ _ | with_reducible refine Below.setCell ?_ (by simp; try omega) _ | with_reducible refine Below.alloc ?_ (by simp; try omega) _))
  · cases f2 : finL Y n
    · obtain rfl : ok = false := by rw [ho, f2, Bool.and_false, Bool.false_and]
      obtain rfl : m = 0 := by rw [hm, if_neg (by simp)]
      clear ho hm
      go_enter Try.func38, Try.ntmps38
      go_wp2_with fail
      refine (allFinite_any _ _ _ X _ (by exact hX) (by omega)).mono ?_
      rw [f1]
      rintro e w' ⟨rfl, q, rfl⟩
      go_wp2_with fail
      refine (allFinite_any _ _ _ Y _ (by exact hY) (by omega)).mono ?_
      rw [f2]
      rintro e w' ⟨rfl, q2, rfl⟩
      go_wp2
      go_ret2
      refine difNo ?_
      (repeat (first | with_reducible exact Below.refl _ _ | with_reducible refine Below.drewN ?_ _ | with_reducible refine Below.setCell ?_ (by simp; try omega) _ | with_reducible refine Below.alloc ?_ (by simp; try omega) _))
    · rw [f1, f2, Bool.true_and, Bool.true_and] at ho
      have HO := Lib.hid ho
      have HM := Lib.hid hm
      clear ho hm
      go_enter Try.func38, Try.ntmps38
      go_wp2_with fail
      refine (allFinite_any _ _ _ X _ (by exact hX) (by omega)).mono ?_
      rw [f1]
      rintro e w' ⟨rfl, q, rfl⟩
      go_wp2_with fail
      refine (allFinite_any _ _ _ Y _ (by exact hY) (by omega)).mono ?_
      rw [f2]
      rintro e w' ⟨rfl, q2, rfl⟩
      go_wp2_with fail
      refine (les_any _ _ _ _ _ X Y _ (by exact hX) (by exact hY) (by omega)).mono ?_
      rintro e w3 ⟨v, Z, rfl, hown, hL, hB⟩
      have hB' : Below w.heap.size w w3 := Below.trans (Below.drewN (Below.refl _ w) (q + q2)) hB
      have HO' := Lib.hid (show ok = finL Z n by rw [HO.out, finL_like hL.like])
      have HL := Lib.hid hL
      clear hL
      cases c : finL Z n
      · have HN := Lib.hid (show ok = false by rw [HO'.out, c])
        have HZ := Lib.hid (show m = 0 by rw [HM.out, HN.out, if_neg (by simp)])
        go_wp2_with (go_at_call 58; refine (onlyFinite_any _ _ n Z _ (by exact hown) (by omega)).mono ?_; rintro e w4 ⟨rfl, q3, rfl⟩)
        go_ret2
        rw [HN.out, HZ.out]
        exact difNo (Below.drewN hB' _)
      · have HN := Lib.hid (show ok = true by rw [HO'.out, c])
        have HZ := Lib.hid (show m = n by rw [HM.out, HN.out, if_pos rfl])
        go_wp2_with (go_at_call 58; refine (onlyFinite_any _ _ n Z _ (by exact hown) (by omega)).mono ?_; rintro e w4 ⟨rfl, q3, rfl⟩)
        go_ret2
        rw [HN.out, HZ.out]
        exact ⟨_, _, rfl, hown, HL.out.like, by omega, Below.drewN hB' _⟩
theorem bothDifferencesOf (N : Nat) (X : Nat → Nat) (hN : N ≤ 1048576) (M : Nat) (Y : Nat → Nat) (hM : M ≤ 1048576) :
    ∃ (R : Nat → Nat) (m : Nat) (ok : Bool), (∀ (xa : Option Addr) (c : Nat) (ya : Option Addr) (c' : Nat) (w : World), Rd w xa N X → Rd w ya M Y → Calls Try.prog 37 #[.slice xa N c, .slice ya M c'] w (RetDifferencesOf R m ok w)) ∧
      ∀ (xa : Option Addr) (c : Nat) (ya : Option Addr) (c' : Nat) (w : World), Rd w xa N X → Rd w ya M Y → Calls Try.prog 38 #[.slice xa N c, .slice ya M c'] w (RetDifferencesOf R m ok w) := by
  cases hk : difLen N M
  · exact ⟨fun _ => 0, 0, false, fun xa c ya c' w _ _ => specDif_len xa ya N M c c' w hN hM _ hk, fun xa c ya c' w _ _ => implDif_len xa ya N M c c' w hN hM _ hk⟩
  · obtain ⟨h1, h2, rfl⟩ : 1 ≤ N ∧ N ≤ 32 ∧ M = N := of_decide_eq_true hk
    exact ⟨lesR X Y, _, _, fun xa c ya c' w hX hY => specDif_any xa ya _ c c' X Y w hX hY h1 h2 _ _ rfl rfl, fun xa c ya c' w hX hY => implDif_any xa ya _ c c' X Y w hX hY h1 h2 _ _ rfl rfl⟩
set_option maxRecDepth 100000 in
set_option maxHeartbeats 6400000 in
theorem lawDifferencesOf_in (W : World) (x0 : Option Addr) (n0 c0 : Nat) (X0 : Nat → Nat) (hX0 : Rd W x0 n0 X0) (x1 : Option Addr) (n1 c1 : Nat) (X1 : Nat → Nat) (hX1 : Rd W x1 n1 X1) (h0 : n0 ≤ 1048576) (h1 : n1 ≤ 1048576) (R0 : Nat → Nat) (m0 : Nat) (r1 : Bool) (HS : Hid (∀ (x0 : Option Addr) (c0 : Nat) (x1 : Option Addr) (c1 : Nat) (w : World), Rd w x0 n0 X0 → Rd w x1 n1 X1 → Calls Try.prog 37 #[.slice x0 n0 c0, .slice x1 n1 c1] w (RetDifferencesOf R0 m0 r1 w))) (HI : Hid (∀ (x0 : Option Addr) (c0 : Nat) (x1 : Option Addr) (c1 : Nat) (w : World), Rd w x0 n0 X0 → Rd w x1 n1 X1 → Calls Try.prog 38 #[.slice x0 n0 c0, .slice x1 n1 c1] w (RetDifferencesOf R0 m0 r1 w))) :
    Calls Try.prog 9 #[.slice x0 n0 c0, .slice x1 n1 c1] W fun e w' => e = .returned (.bool true) ∧ Below W.heap.size W w' := by
  have hcv := fun (R : Nat) (s t : Nat) => show canon .f64 (pick .f64 (fconv .f32 (pick .f32 R s) .f64) t) = canon .f64 (fconv .f32 R .f64) by rw [canon_pick, fconv_pick]
  have hcw := fun (R : Nat) (s t : Nat) => show canon .f64 (pick .f64 R s) = canon .f64 (pick .f64 R t) by rw [canon_pick, canon_pick]
  have HCV := Lib.hid hcv
  have HCW := Lib.hid hcw
  clear hcv hcw
  have hnb1 : (r1 != r1) = false := by simp
  have HB := Blw.refl W
  go_enter Try.func9, Try.ntmps9
  go_wp2_with fail
  refine (toF_any _ _ _ X0 _ (by exact hX0.below (Blw.out (by exact HB))) h0).mono ?_
  rintro e0 w0 ⟨rfl, O0, B0⟩
  replace HB := Blw.next (by exact HB) B0
  have C0 := O0
  clear O0 B0
  go_wp2_with fail
  refine (toF_any _ _ _ X1 _ (by exact hX1.below (Blw.out (by exact HB))) h1).mono ?_
  rintro e0 w0 ⟨rfl, O0, B0⟩
  replace C0 := own_below (by exact C0) B0
  replace HB := Blw.next (by exact HB) B0
  have C1 := O0
  clear O0 B0
  go_wp2_with fail
  refine (HS.out _ _ _ _ _ (rd_own (by exact C0)) (rd_own (by exact C1))).mono ?_
  rintro e0 w1 ⟨vw0, Yw0, rfl, Ow0, Lw0, mw0, B0⟩
  clear C0
  clear C1
  replace HB := Blw.next (by exact HB) B0
  clear B0
  have Z0 := hX0.below HB.out
  have Z1 := hX1.below HB.out
  obtain ⟨xw0, cw0, rfl, _, _, Rw0⟩ := rd_of_own Ow0
  clear Ow0
  have HL := Blw.refl w1
  have E0 := (Blw.out (by exact HL)).size
  go_wp2_with fail
  refine (toF_any _ _ _ X0 _ (by exact Z0.below (Blw.out (by exact HL))) h0).mono ?_
  rintro e0 w0 ⟨rfl, O0, B0⟩
  replace HL := Blw.next (by exact HL) B0
  have D0 := O0
  clear O0 B0
  have E1 := (Blw.out (by exact HL)).size
  have Q0_1 := own_lt (by exact D0)
  go_wp2_with fail
  refine (toF_any _ _ _ X1 _ (by exact Z1.below (Blw.out (by exact HL))) h1).mono ?_
  rintro e0 w0 ⟨rfl, O0, B0⟩
  replace D0 := own_below (by exact D0) B0
  replace HL := Blw.next (by exact HL) B0
  have D1 := O0
  clear O0 B0
  have Qg0 := own_lt (by exact D0)
  have Qg1 := own_lt (by exact D1)
  have Eg := (Blw.out (by exact HL)).size
  go_wp2_with fail
  refine (HI.out _ _ _ _ _ (rd_own (by exact D0)) (rd_own (by exact D1))).mono ?_
  rintro e0 w2 ⟨vg0, Yg0, rfl, Og0, Lg0, mg0, B0⟩
  replace D0 := own_below (by exact D0) B0
  replace D1 := own_below (by exact D1) B0
  replace HL := Blw.next (by exact HL) B0
  clear B0
  have O_0 := Og0
  obtain ⟨xg0, cg0, rfl, _, _, Rg0⟩ := rd_of_own O_0
  clear O_0
  go_wp2_with fail
  refine (eqF_any _ _ _ _ _ Yg0 Yw0 _ (by exact Rg0) (by exact Rw0.below (Blw.out (by exact HL))) mw0 (fun i hi => (Lg0 i hi).trans (Lw0 i hi).symm)).mono ?_
  rintro e0 w0 ⟨rfl, q, rfl⟩
  go_wp2_with fail
  refine (toF_any _ _ _ X0 _ (by exact Z0.below (Blw.out (by exact HL))) h0).mono ?_
  rintro e0 w0 ⟨rfl, O0, B0⟩
  replace D0 := own_below (by exact D0) B0
  replace D1 := own_below (by exact D1) B0
  replace Og0 := own_below (by exact Og0) B0
  replace HL := Blw.next (by exact HL) B0
  have K0 := O0
  clear O0 B0
  go_wp2_with fail
  refine (eqF_any _ _ _ _ _ X0 X0 _ (by exact rd_own (by exact D0)) (by exact rd_own (by exact K0)) h0 (fun _ _ => rfl)).mono ?_
  rintro e0 w0 ⟨rfl, q, rfl⟩
  clear K0
  go_wp2_with fail
  refine (toF_any _ _ _ X1 _ (by exact Z1.below (Blw.out (by exact HL))) h1).mono ?_
  rintro e0 w0 ⟨rfl, O0, B0⟩
  replace D0 := own_below (by exact D0) B0
  replace D1 := own_below (by exact D1) B0
  replace Og0 := own_below (by exact Og0) B0
  replace HL := Blw.next (by exact HL) B0
  have K1 := O0
  clear O0 B0
  go_wp2_with fail
  refine (eqF_any _ _ _ _ _ X1 X1 _ (by exact rd_own (by exact D1)) (by exact rd_own (by exact K1)) h1 (fun _ _ => rfl)).mono ?_
  rintro e0 w0 ⟨rfl, q, rfl⟩
  clear K1
  go_wp2_with fail
  refine (markX_any _ _ n0 _ X0 _ _ (by exact D0) h0 (by omega) (by omega)).mono ?_
  rintro e0 w0 ⟨rfl, N0⟩
  replace D1 := own_only (by exact D1) (by exact Q0_1) N0
  replace Og0 := own_only (by exact Og0) (by exact Qg0) N0
  replace HL := Blw.only (by exact HL) E0 N0
  clear N0 D0
  go_wp2_with fail
  refine (markX_any _ _ n1 _ X1 _ _ (by exact D1) h1 (by omega) (by omega)).mono ?_
  rintro e0 w0 ⟨rfl, N0⟩
  replace Og0 := own_only (by exact Og0) (by exact Qg1) N0
  replace HL := Blw.only (by exact HL) E1 N0
  clear N0 D1
  have hk1 : (0 : Int) ≤ 1 + (n0 : Int) + (n1 : Int) := by omega
  replace Rg0 := rd_own' (by exact Og0)
  go_wp2_with fail
  refine (eqF_any _ _ _ _ _ Yg0 Yw0 _ (by exact Rg0) (by exact Rw0.below (Blw.out (by exact HL))) mw0 (fun i hi => (Lg0 i hi).trans (Lw0 i hi).symm)).mono ?_
  rintro e0 w0 ⟨rfl, q, rfl⟩
  clear Rg0
  go_wp2_with fail
  refine (markF_any _ _ m0 Yg0 _ _ (by exact Og0) mg0 (by omega) (by omega)).mono ?_
  rintro e0 w0 ⟨rfl, Ok0, B0⟩
  replace HL := Blw.nextB (by exact HL) (B0.mono Eg)
  clear B0 Og0
  have hm1 : (0 : Int) ≤ 1 + (m0 : Int) := by omega
  go_wp2_with fail
  refine (heldF_any _ _ m0 _ _ (by exact Ok0) mg0 (by omega) (by omega)).mono ?_
  rintro e0 w0 ⟨rfl, rfl⟩
  go_wp2_with fail
  refine (toF_any _ _ _ X0 _ (by exact Z0.below (Blw.out (by exact HL))) h0).mono ?_
  rintro e0 w0 ⟨rfl, O0, B0⟩
  replace Ok0 := own_below (by exact Ok0) B0
  replace HL := Blw.next (by exact HL) B0
  have C0 := O0
  clear O0 B0
  go_wp2_with fail
  refine (toF_any _ _ _ X1 _ (by exact Z1.below (Blw.out (by exact HL))) h1).mono ?_
  rintro e0 w0 ⟨rfl, O0, B0⟩
  replace C0 := own_below (by exact C0) B0
  replace Ok0 := own_below (by exact Ok0) B0
  replace HL := Blw.next (by exact HL) B0
  have C1 := O0
  clear O0 B0
  go_wp2_with fail
  refine (HI.out _ _ _ _ _ (rd_own (by exact C0)) (rd_own (by exact C1))).mono ?_
  rintro e0 w3 ⟨vh0, Yh0, rfl, Oh0, Lh0, mh0, B0⟩
  replace Ok0 := own_below (by exact Ok0) B0
  clear C0
  clear C1
  replace HL := Blw.next (by exact HL) B0
  clear B0
  obtain ⟨xh0, ch0, rfl, _, _, Rh0⟩ := rd_of_own Oh0
  clear Oh0
  go_wp2_with fail
  refine (eqF_any _ _ _ _ _ Yh0 Yw0 _ (by exact Rh0) (by exact Rw0.below (Blw.out (by exact HL))) mw0 (fun i hi => (Lh0 i hi).trans (Lw0 i hi).symm)).mono ?_
  rintro e0 w0 ⟨rfl, q, rfl⟩
  clear Rh0
  go_wp2_with fail
  refine (heldF_any _ _ m0 _ _ (by exact Ok0) mg0 (by omega) (by omega)).mono ?_
  rintro e0 w0 ⟨rfl, rfl⟩
  go_wp2
  go_ret
  exact ⟨rfl, (Blw.out (by exact HB)).trans ((Blw.out (by exact HL)).mono (Blw.out (by exact HB)).size)⟩
set_option maxHeartbeats 1600000 in
theorem lawDifferencesOf_any (W : World) (x0 : Option Addr) (n0 c0 : Nat) (X0 : Nat → Nat) (hX0 : Rd W x0 n0 X0) (x1 : Option Addr) (n1 c1 : Nat) (X1 : Nat → Nat) (hX1 : Rd W x1 n1 X1) :
    Calls Try.prog 9 #[.slice x0 n0 c0, .slice x1 n1 c1] W fun e w' => e = .returned (.bool true) ∧ Below W.heap.size W w' := by
  by_cases h0 : n0 ≤ 1048576
  · skip
    by_cases h1 : n1 ≤ 1048576
    · skip
      obtain ⟨R0, m0, r1, hs, hi⟩ := bothDifferencesOf n0 X0 h0 n1 X1 h1
      exact lawDifferencesOf_in W x0 n0 c0 X0 hX0 x1 n1 c1 X1 hX1 h0 h1 R0 m0 r1 (Lib.hid hs) (Lib.hid hi)
    · have h' : (1048576 : Int) < (n1 : Int) := by omega
      go_enter Try.func9, Try.ntmps9
      go_wp2
      go_ret
      exact ⟨rfl, (Blw.refl W).out⟩
  · have h' : (1048576 : Int) < (n0 : Int) := by omega
    go_enter Try.func9, Try.ntmps9
    go_wp2
    go_ret
    exact ⟨rfl, (Blw.refl W).out⟩
set_option maxRecDepth 100000 in
theorem FnExactDifferencesOf_lifted (os : Os) (started : os.Started) (H : Type) (enc : TypeId × Value → H) :
    ReturnsInHanded {} Try.checked os 9 .any (Rows.fnExactDifferencesOfSpec.pre6 enc Try.prog Try.f9 Rows.fnExactDifferencesOfRow.domain false) (Rows.fnExactDifferencesOfSpec.post enc Try.prog Try.f9 false true false false) := by
  refine returnsInHanded_of_change (C := Try.checked) ownKnob_none started (by kernel_rfl) Try.func9
    (ChangeSpec.witness6 (enc := enc) (C := Try.checked) false ⟨#[], #[.slice none 0 0, .slice none 0 0], []⟩ 8 (by kernel_rfl) (by kernel_rfl) (by kernel_rfl) (by kernel_rfl)) ?_
  intro W base args ds gs before hval0 hW _ _
  have hval : ∀ (j : Nat) t v, Try.f9.params[j]? = some t → args[j]? = some v → Value.okWide Try.prog W .any base t v := hval0
  have hW' := hW
  obtain ⟨p, q, hA0, hV, rfl, _, _⟩ := hW
  have hA : DataW.TrodAll enc Try.prog W 0 (fun _ => true) true Try.f9.params.toList args.toList ds p := hA0
  rw [Try.params9] at hA hval
  obtain ⟨v0, v1, d0, d1, p0, p1, rfl, rfl, rfl, h0, h1⟩ := trodAll_two hA
  obtain ⟨rfl, rfl⟩ := trodVars_none hV
  obtain ⟨x0, n0, c0, rfl⟩ := okWide_slice Try.underlying37 (hval 0 37 v0 rfl rfl)
  have k0 := h0
  obtain ⟨_, _, a0, w0, _⟩ := open_f32s Try.underlying37 Try.underlying22 cellsF h0
  have b0 : ∀ x ∈ p0, x.block < W.heap.size := fun x hx => by have := hW'.lt x (by simp [hx]); simpa using this
  obtain ⟨x1, n1, c1, rfl⟩ := okWide_slice Try.underlying37 (hval 1 37 v1 rfl rfl)
  have k1 := h1
  obtain ⟨_, _, a1, w1, _⟩ := open_f32s Try.underlying37 Try.underlying22 cellsF h1
  have b1 : ∀ x ∈ p1, x.block < W.heap.size := fun x hx => by have := hW'.lt x (by simp [hx]); simpa using this
  clear hA0 hval0
  refine (lawDifferencesOf_any W x0 n0 c0 a0 w0 x1 n1 c1 a1 w1).mono fun e W' ⟨he, hb⟩ => ?_
  subst he
  have hA2 := trodAll_mk2 (enc := enc) (w := W') (base := 0) (spare := fun b => decide (b < W.heap.size)) (held := true) (Below.trod laidOut (by kernel_rfl) (of_decide_eq_true (by kernel_rfl)) k0 hb b0) (Below.trod laidOut (by kernel_rfl) (of_decide_eq_true (by kernel_rfl)) k1 hb b1)
  exact ⟨_, rfl, _, _, _, [], _, [], hW', trodAll_cons_mk (shut_bool Try.underlying4 _) trodAll_mk0, hA2, rfl, hb.frame _, fun h => by cases h⟩
theorem FnExactDifferencesOf_holds : Rows.FnExactDifferencesOfSaid :=
  OpenClaim.holds_of_wide 9 Try.f9 rfl rfl rfl rfl rfl rfl rfl ⟨rfl, rfl, rfl, rfl, rfl⟩ rfl rfl rfl rfl rfl (by kernel_rfl) Try.func9 (by kernel_rfl)
    (of_decide_eq_true (by kernel_rfl)) (by unfold Func.isWrapper; first | (rw [if_pos (by decide +kernel)]; kernel_rfl) | (rw [if_neg (by decide +kernel)]; exact ⟨rfl, rfl⟩))
    (fun os started H enc _ => FnExactDifferencesOf_lifted os started H enc)
end Go.Proofs.Ytaobjilnbbpmeaa
