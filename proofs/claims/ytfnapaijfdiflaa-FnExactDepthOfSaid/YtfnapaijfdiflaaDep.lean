/- Of any two lists the program tells how much is taken away just where the model does, and the same; the lists are not changed: for all arguments. -/
import Derived.Test.YtfnapaijfdiflaaSame
import Derived.Test.YtfnapaijfdiflaaBin
import Derived.Test.YtfnapaijfdiflaaPrs
import Derived.Test.YtfnapaijfdiflaaGtz
import Derived.Test.YtfnapaijfdiflaaPq
import Derived.Test.YtfnapaijfdiflaaPushS
import Derived.Test.YtfnapaijfdiflaaQ5
import Derived.Test.YtfnapaijfdiflaaLg3
import Derived.Test.YtfnapaijfdiflaaLiC
import Derived.Test.YtfnapaijfdiflaaArr
import Derived.Test.YtfnapaijfdiflaaLaw
import Derived.Deep.QuietTactic
import Derived.BigQuiet
import Derived.Test.YtfnapaijfdiflaaPuR
import Derived.StillTailTactics
namespace Go.Proofs.Ytfnapaijfdiflaa
open Go Go.ChangeShapes Go.WideShapes Go.ChangeAt Go.RowKit

set_option maxHeartbeats 800000 in
theorem l06Positive_any (xa : Option Addr) (n cap : Nat) (X : Nat → Nat) (w : World) (hX : Rd w xa n X) (hn : n ≤ 1048576) :
    Calls Try.prog 65 #[.slice xa n cap] w fun e w' => e = .returned (.bool (pL X n)) ∧ ∃ m, w' = w.drewN m := by
  obtain ⟨xb, xo, hxa, hcx⟩ := hX
  have HX := Lib.hid hcx
  clear hcx
  go_enter Try.func65, Try.ntmps65
  go_wp2
  go_loopw [3] (fun i wr => ∃ k m : Nat, k ≤ n ∧ i = .int .i64 k ∧ wr = w.drewN m ∧ Hid (∀ j, j < k → isP (X j) = true)) (fun i _ => n - (intOf i).toNat)
  case atStart => exact ⟨0, 0, Nat.zero_le _, rfl, rfl, Lib.hid fun j hj => absurd hj (Nat.not_lt_zero _)⟩
  case round =>
    obtain ⟨k, m, hk, rfl, rfl, HF⟩ := hrel
    by_cases hlt : k < n
    · have e := hxa (by omega)
      subst e
      have h1 := HX.out k hlt
      cases hf : isP (X k)
      · have HN := Lib.hid (pL_no hlt hf)
        go_wp2_with (first | (go_at_call 47; refine (l02Above_any _ _).mono ?_; rintro e w' ⟨rfl, q, rfl⟩))
        go_ret
        exact ⟨ret_bool HN.out.symm, _, rfl⟩
      · have HN := Lib.hid (show ∀ j, j < k + 1 → isP (X j) = true from fun j hj => by
          by_cases hj' : j < k
          · exact HF.out j hj'
          · rw [show j = k by omega]; exact hf)
        go_wp2_with (first | (go_at_call 47; refine (l02Above_any _ _).mono ?_; rintro e w' ⟨rfl, q, rfl⟩))
        go_roundw
        case rel => exact ⟨k + 1, _, by omega, by go_num, rfl, HN⟩
        case measure => simp [intOf]; omega
    · have hkn : k = n := by omega
      subst hkn
      have HN := Lib.hid (pL_yes HF.out)
      go_wp2
      go_ret
      exact ⟨ret_bool HN.out.symm, m, rfl⟩
/-- What is told of DepthOf. -/
def RetDepthOf (R0 : Nat → Nat) (m0 : Nat) (r1 : Bool) (w : World) (e : Ending) (w' : World) : Prop := ∃ (v0 : Value) (Y0 : Nat → Nat), e = .returned (.tuple #[v0, .bool r1]) ∧ w'.ownsRow w.heap.size 22 1 v0 m0 (rowOf Y0 m0) ∧ Like Y0 R0 m0 ∧ m0 ≤ 1048576 ∧ Below w.heap.size w w'
noncomputable def depR (X Y : Nat → Nat) (j : Nat) : Nat := logT (fbin .quo .f32 (X j) (Y j))
def okDep (X Y : Nat → Nat) (n m : Nat) : Bool := prsB X Y n m 1 64 && (pL X n && pL Y m)
theorem depNo {R : Nat → Nat} {w w' : World} (hb : Below w.heap.size w w') : RetDepthOf R 0 false w (.returned (.tuple #[.slice none 0 0, .bool false])) w' :=
  ⟨_, fun _ => 0, rfl, World.ownsRow_nil _ _ _ _, fun _ h => absurd h (Nat.not_lt_zero _), Nat.zero_le _, hb⟩
/-- The quotient is a number that fits. -/
theorem depQ {X Y : Nat → Nat} {n k : Nat} (h1 : pL X n = true) (h2 : pL Y n = true) (hk : k < n) : isNaN .f32 (fbin .quo .f32 (X k) (Y k)) = false ∧ fbin .quo .f32 (X k) (Y k) < 4294967296 := by
  refine ⟨nan_quo_pos (num_fin (isP_fin (pL_at h1 k hk))) (pos_read (pL_at h2 k hk)), ?_⟩
  have := fbin_wf .quo .f32 (X k) (Y k)
  simpa [Lit.wf] using this
set_option maxRecDepth 100000 in
set_option maxHeartbeats 3200000 in
theorem specDep_no (xa ya : Option Addr) (n m cx cy : Nat) (X Y : Nat → Nat) (w : World) (hX : Rd w xa n X) (hY : Rd w ya m Y) (hn : n ≤ 1048576) (hm : m ≤ 1048576) (R : Nat → Nat) (hk : okDep X Y n m = false) :
    Calls Try.prog 28 #[.slice xa n cx, .slice ya m cy] w (RetDepthOf R 0 false w) := by
  have HX := Lib.hid (fun w hX => specBins_any xa n cx X 1 w hX hn)
  have HY := Lib.hid (fun w hX => specBins_any ya m cy Y 1 w hX hm)
  have PX := Lib.hid (fun w hX => l06Positive_any xa n cx X w hX hn)
  have PY := Lib.hid (fun w hX => l06Positive_any ya m cy Y w hX hm)
  cases c1 : binB X n 1
  · rw [c1] at HX
    clear hk
    go_enter Try.func28, Try.ntmps28
    go_wp2_with fail
    refine (HX.out _ (by exact hX)).mono ?_
    rintro e w' ⟨rfl, q1, rfl⟩
    go_wp2
    go_ret2
    refine depNo ?_
    (repeat (first | with_reducible exact Below.refl _ _ | with_reducible refine Below.drewN ?_ _ | with_reducible refine Below.setCell ?_ (by simp; try omega) _ | with_reducible refine Below.alloc ?_ (by simp; try omega) _))
  cases c2 : binB Y m 1
  · rw [c1] at HX
    rw [c2] at HY
    clear hk
    go_enter Try.func28, Try.ntmps28
    go_wp2_with fail
    refine (HX.out _ (by exact hX)).mono ?_
    rintro e w' ⟨rfl, q1, rfl⟩
    go_wp2_with fail
    refine (HY.out _ (by exact hY)).mono ?_
    rintro e w' ⟨rfl, q2, rfl⟩
    go_wp2
    go_ret2
    refine depNo ?_
    (repeat (first | with_reducible exact Below.refl _ _ | with_reducible refine Below.drewN ?_ _ | with_reducible refine Below.setCell ?_ (by simp; try omega) _ | with_reducible refine Below.alloc ?_ (by simp; try omega) _))
  cases c3 : ((n : Int) != (m : Int))
  rotate_left
  · rw [c1] at HX
    rw [c2] at HY
    clear hk
    go_enter Try.func28, Try.ntmps28
    go_wp2_with fail
    refine (HX.out _ (by exact hX)).mono ?_
    rintro e w' ⟨rfl, q1, rfl⟩
    go_wp2_with fail
    refine (HY.out _ (by exact hY)).mono ?_
    rintro e w' ⟨rfl, q2, rfl⟩
    go_wp2
    go_ret2
    refine depNo ?_
    (repeat (first | with_reducible exact Below.refl _ _ | with_reducible refine Below.drewN ?_ _ | with_reducible refine Below.setCell ?_ (by simp; try omega) _ | with_reducible refine Below.alloc ?_ (by simp; try omega) _))
  cases c4 : pL X n
  · rw [c1] at HX
    rw [c2] at HY
    rw [c4] at PX
    clear hk
    go_enter Try.func28, Try.ntmps28
    go_wp2_with fail
    refine (HX.out _ (by exact hX)).mono ?_
    rintro e w' ⟨rfl, q1, rfl⟩
    go_wp2_with fail
    refine (HY.out _ (by exact hY)).mono ?_
    rintro e w' ⟨rfl, q2, rfl⟩
    go_wp2_with fail
    refine (PX.out _ (by exact hX)).mono ?_
    rintro e w' ⟨rfl, q3, rfl⟩
    go_wp2
    go_ret2
    refine depNo ?_
    (repeat (first | with_reducible exact Below.refl _ _ | with_reducible refine Below.drewN ?_ _ | with_reducible refine Below.setCell ?_ (by simp; try omega) _ | with_reducible refine Below.alloc ?_ (by simp; try omega) _))
  cases c5 : pL Y m
  · rw [c1] at HX
    rw [c2] at HY
    rw [c4] at PX
    rw [c5] at PY
    clear hk
    go_enter Try.func28, Try.ntmps28
    go_wp2_with fail
    refine (HX.out _ (by exact hX)).mono ?_
    rintro e w' ⟨rfl, q1, rfl⟩
    go_wp2_with fail
    refine (HY.out _ (by exact hY)).mono ?_
    rintro e w' ⟨rfl, q2, rfl⟩
    go_wp2_with fail
    refine (PX.out _ (by exact hX)).mono ?_
    rintro e w' ⟨rfl, q3, rfl⟩
    go_wp2_with fail
    refine (PY.out _ (by exact hY)).mono ?_
    rintro e w' ⟨rfl, q4, rfl⟩
    go_wp2
    go_ret2
    refine depNo ?_
    (repeat (first | with_reducible exact Below.refl _ _ | with_reducible refine Below.drewN ?_ _ | with_reducible refine Below.setCell ?_ (by simp; try omega) _ | with_reducible refine Below.alloc ?_ (by simp; try omega) _))
  exfalso
  have e : m = n := by simp only [bne_eq_false_iff_eq] at c3; omega
  subst e
  have h1 := binB_at c1
  have h2 := binB_at c2
  have hp : prsB X Y m m 1 64 = true := by
    unfold prsB
    rw [decide_eq_true h1.1, decide_eq_true (by omega), h1.2.2, h2.2.2]
    simp
  rw [okDep, hp, c4, c5] at hk
  cases hk
set_option maxRecDepth 100000 in
set_option maxHeartbeats 3200000 in
theorem implDep_no (xa ya : Option Addr) (n m cx cy : Nat) (X Y : Nat → Nat) (w : World) (hX : Rd w xa n X) (hY : Rd w ya m Y) (hn : n ≤ 1048576) (hm : m ≤ 1048576) (R : Nat → Nat) (hk : okDep X Y n m = false) :
    Calls Try.prog 29 #[.slice xa n cx, .slice ya m cy] w (RetDepthOf R 0 false w) := by
  have HP := Lib.hid (fun w hX hY => arePairs_any xa ya n m cx cy X Y 1 64 w hX hY hn hm)
  have PX := Lib.hid (fun w hX => areGtz_any xa n cx X w hX hn)
  have PY := Lib.hid (fun w hX => areGtz_any ya m cy Y w hX hm)
  cases c1 : prsB X Y n m 1 64
  · rw [c1] at HP
    clear hk
    go_enter Try.func29, Try.ntmps29
    go_wp2_with fail
    refine (HP.out _ (by exact hX) (by exact hY)).mono ?_
    rintro e w' ⟨rfl, q1, rfl⟩
    go_wp2
    go_ret2
    refine depNo ?_
    (repeat (first | with_reducible exact Below.refl _ _ | with_reducible refine Below.drewN ?_ _ | with_reducible refine Below.setCell ?_ (by simp; try omega) _ | with_reducible refine Below.alloc ?_ (by simp; try omega) _))
  cases c2 : pL X n
  · rw [c1] at HP
    rw [c2] at PX
    clear hk
    go_enter Try.func29, Try.ntmps29
    go_wp2_with fail
    refine (HP.out _ (by exact hX) (by exact hY)).mono ?_
    rintro e w' ⟨rfl, q1, rfl⟩
    go_wp2_with fail
    refine (PX.out _ (by exact hX)).mono ?_
    rintro e w' ⟨rfl, q2, rfl⟩
    go_wp2
    go_ret2
    refine depNo ?_
    (repeat (first | with_reducible exact Below.refl _ _ | with_reducible refine Below.drewN ?_ _ | with_reducible refine Below.setCell ?_ (by simp; try omega) _ | with_reducible refine Below.alloc ?_ (by simp; try omega) _))
  cases c3 : pL Y m
  · rw [c1] at HP
    rw [c2] at PX
    rw [c3] at PY
    clear hk
    go_enter Try.func29, Try.ntmps29
    go_wp2_with fail
    refine (HP.out _ (by exact hX) (by exact hY)).mono ?_
    rintro e w' ⟨rfl, q1, rfl⟩
    go_wp2_with fail
    refine (PX.out _ (by exact hX)).mono ?_
    rintro e w' ⟨rfl, q2, rfl⟩
    go_wp2_with fail
    refine (PY.out _ (by exact hY)).mono ?_
    rintro e w' ⟨rfl, q3, rfl⟩
    go_wp2
    go_ret2
    refine depNo ?_
    (repeat (first | with_reducible exact Below.refl _ _ | with_reducible refine Below.drewN ?_ _ | with_reducible refine Below.setCell ?_ (by simp; try omega) _ | with_reducible refine Below.alloc ?_ (by simp; try omega) _))
  exfalso
  rw [okDep, c1, c2, c3] at hk
  cases hk
theorem depFin {R Z : Nat → Nat} {n : Nat} {v : Value} {w w' : World} (m : Nat) (hL : Like Z R n) (hown : w'.ownsRow w.heap.size 22 1 v n (rowOf Z n)) (hn : n ≤ 1048576) (hb : Below w.heap.size w w') :
    RetDepthOf R (if finL R n = true then n else 0) (finL R n) w (.returned (.tuple #[if finL Z n = true then v else .slice none 0 0, .bool (finL Z n)])) (w'.drewN m) := by
  rw [finL_like hL]
  cases hf : finL R n
  · exact depNo (Below.drewN hb m)
  · exact ⟨v, Z, rfl, hown, hL, hn, Below.drewN hb m⟩
set_option maxRecDepth 100000 in
set_option maxHeartbeats 6400000 in
theorem specDep_yes (xa ya : Option Addr) (n cx cy : Nat) (X Y : Nat → Nat) (w : World) (hX : Rd w xa n X) (hY : Rd w ya n Y) (h1 : 1 ≤ n) (h2 : n ≤ 64) (hb1 : binB X n 1 = true) (hb2 : binB Y n 1 = true) (hp1 : pL X n = true) (hp2 : pL Y n = true) (R : Nat → Nat) (c : Nat) (ok : Bool) (hR : Hid (R = depR X Y)) (hc : Hid (c = if finL R n = true then n else 0)) (ho : Hid (ok = finL R n)) :
    Calls Try.prog 28 #[.slice xa n cx, .slice ya n cy] w (RetDepthOf R c ok w) := by
  obtain ⟨i0, hi, hz0, hz1, hz2⟩ := info_parts infoF
  have HX := Lib.hid (fun w hX => specBins_any xa n cx X 1 w hX (by omega))
  have HY := Lib.hid (fun w hX => specBins_any ya n cy Y 1 w hX (by omega))
  have PX := Lib.hid (fun w hX => l06Positive_any xa n cx X w hX (by omega))
  have PY := Lib.hid (fun w hX => l06Positive_any ya n cy Y w hX (by omega))
  rw [hb1] at HX
  rw [hb2] at HY
  rw [hp1] at PX
  rw [hp2] at PY
  have HQ := Lib.hid (fun k hk => depQ (n := n) (k := k) hp1 hp2 hk)
  have hnn : ((n : Int) != (n : Int)) = false := by simp
  have HRX := Lib.hid hX
  have HRY := Lib.hid hY
  have HF := Lib.hid (fun (Z : Nat → Nat) (v : Value) w' m => depFin (R := R) (Z := Z) (n := n) (v := v) (w := w) (w' := w') m)
  rw [← hc.out, ← ho.out] at HF
  have HR := Lib.hid (show ∀ k, R k = logT (fbin .quo .f32 (X k) (Y k)) from fun k => by rw [hR.out]; rfl)
  clear hb1 hb2 hp1 hp2 hX hY hR hc ho
  go_enter Try.func28, Try.ntmps28
  go_wp2_with fail
  refine (HX.out _ (by exact HRX.out)).mono ?_
  rintro e w' ⟨rfl, q1, rfl⟩
  go_wp2_with fail
  refine (HY.out _ (by exact HRY.out)).mono ?_
  rintro e w' ⟨rfl, q2, rfl⟩
  go_wp2_with fail
  refine (PX.out _ (by exact HRX.out)).mono ?_
  rintro e w' ⟨rfl, q3, rfl⟩
  go_wp2_with fail
  refine (PY.out _ (by exact HRY.out)).mono ?_
  rintro e w' ⟨rfl, q4, rfl⟩
  go_wp2
  obtain ⟨xb, xo, hxa, hcx⟩ := HRX.out
  obtain ⟨yb, yo, hya, hcy⟩ := HRY.out
  have e := hxa (by omega)
  subst e
  have e := hya (by omega)
  subst e
  have CX := Lib.hid hcx
  have CY := Lib.hid hcy
  clear hcx hcy hxa hya HRX HRY HX HY PX PY
  go_loopw [6, 7] (fun v i wr => ∃ (k : Nat) (Z : Nat → Nat), k ≤ n ∧ i = .int .i64 (k : Int) ∧ wr.ownsRow w.heap.size 22 1 v k (rowOf Z k) ∧ Like Z R k ∧ Below w.heap.size w wr) (fun _ i _ => n - (intOf i).toNat)
  case atStart => exact ⟨0, fun _ => 0, Nat.zero_le _, rfl, own_empty _ _, fun _ h => absurd h (Nat.not_lt_zero _), Below.alloc (Below.drewN (Below.refl _ _) _) (Nat.le_refl _) _⟩
  case round =>
    obtain ⟨k, Z, hk, rfl, hownk, hL, hBk⟩ := hrel
    have hsz := hBk.size
    by_cases hlt : k < n
    · have c0x := CX.out k hlt
      have c0y := CY.out k hlt
      have c1x := (hBk.cell (p := ⟨xb, xo + k, none⟩) (World.block_lt_of_cell? w _ c0x)).trans c0x
      have c1y := (hBk.cell (p := ⟨yb, yo + k, none⟩) (World.block_lt_of_cell? w _ c0y)).trans c0y
      obtain ⟨hn1, hn2⟩ := HQ.out k hlt
      obtain ⟨D, hD⟩ : ∃ D, fbin .quo .f32 (X k) (Y k) = D := ⟨_, rfl⟩
      rw [hD] at hn1 hn2
      have pD := fun s => pick_num (s := s) hn1
      have HLg := Lib.hid (fun w => specLogT_any D hn2 w)
      have HE := Lib.hid (show R k = logT D by rw [HR.out, hD])
      obtain ⟨L, hL'⟩ : ∃ L, L = logT D := ⟨_, rfl⟩
      rw [← hL'] at HLg HE
      have q1 := fun t => run_numop (op := .quo) rfl t _ _ _ hD hn1
      clear c0x c0y hn1 hn2 hL' hD
      go_wp2_with fail
      go_region_law (first | (refine step_push hi hz0 hz1 hz2 rfl (s := .tmp 40) (x := .tmp 51) rfl rfl rfl (by rfl) (by exact hownk) (by omega) (by exact hsz) ?_; intro v' w1 hown' hB') | (go_simp; go_at_call 66; refine (HLg.out _).mono ?_; rintro e w' ⟨s', m', rfl, rfl⟩))
      all_goals go_wp2
      all_goals go_roundw
      all_goals first | exact ⟨k + 1, _, by omega, by go_num, hown', like_push hL (by rw [HE.out]), Below.trans (Below.drewN hBk _) hB'⟩ | (simp [intOf]; omega)
    · have hkn : k = n := by omega
      subst hkn
      have HG := Lib.hid (fun m => HF.out Z _ _ m hL hownk (by omega) hBk)
      clear hL
      cases c : finL Z k
      · rw [c, if_neg (by simp)] at HG
        go_wp2_with (go_at_call 67; refine (l02List_any _ _ _ Z _ (by exact hownk) (by omega)).mono ?_; rw [c]; rintro e w4 ⟨rfl, q5, rfl⟩)
        go_ret2
        exact HG.out _
      · rw [c, if_pos rfl] at HG
        go_wp2_with (go_at_call 67; refine (l02List_any _ _ _ Z _ (by exact hownk) (by omega)).mono ?_; rw [c]; rintro e w4 ⟨rfl, q5, rfl⟩)
        go_ret2
        exact HG.out _
set_option maxRecDepth 100000 in
set_option maxHeartbeats 6400000 in
theorem implDep_yes (xa ya : Option Addr) (n cx cy : Nat) (X Y : Nat → Nat) (w : World) (hX : Rd w xa n X) (hY : Rd w ya n Y) (h1 : 1 ≤ n) (h2 : n ≤ 64) (hb1 : prsB X Y n n 1 64 = true) (hp1 : pL X n = true) (hp2 : pL Y n = true) (R : Nat → Nat) (c : Nat) (ok : Bool) (hR : Hid (R = depR X Y)) (hc : Hid (c = if finL R n = true then n else 0)) (ho : Hid (ok = finL R n)) :
    Calls Try.prog 29 #[.slice xa n cx, .slice ya n cy] w (RetDepthOf R c ok w) := by
  obtain ⟨i0, hi, hz0, hz1, hz2⟩ := info_parts infoF
  have hb : i0.bytes * n ≤ 281474976710656 := by rw [hz2]; omega
  have hm : n ≤ maxLen := by unfold maxLen; omega
  have HP := Lib.hid (fun w hX hY => arePairs_any xa ya n n cx cy X Y 1 64 w hX hY (by omega) (by omega))
  have PX := Lib.hid (fun w hX => areGtz_any xa n cx X w hX (by omega))
  have PY := Lib.hid (fun w hX => areGtz_any ya n cy Y w hX (by omega))
  rw [hb1] at HP
  rw [hp1] at PX
  rw [hp2] at PY
  have HQ := Lib.hid (fun k hk => depQ (n := n) (k := k) hp1 hp2 hk)
  have HRX := Lib.hid hX
  have HRY := Lib.hid hY
  have HF := Lib.hid (fun (Z : Nat → Nat) (v : Value) w' m => depFin (R := R) (Z := Z) (n := n) (v := v) (w := w) (w' := w') m)
  rw [← hc.out, ← ho.out] at HF
  have HR := Lib.hid (show ∀ k, R k = logT (fbin .quo .f32 (X k) (Y k)) from fun k => by rw [hR.out]; rfl)
  clear hb1 hp1 hp2 hX hY hR hc ho
  go_enter Try.func29, Try.ntmps29
  go_wp2_with fail
  refine (HP.out _ (by exact HRX.out) (by exact HRY.out)).mono ?_
  rintro e w' ⟨rfl, q1, rfl⟩
  go_wp2_with fail
  refine (PX.out _ (by exact HRX.out)).mono ?_
  rintro e w' ⟨rfl, q2, rfl⟩
  go_wp2_with fail
  refine (PY.out _ (by exact HRY.out)).mono ?_
  rintro e w' ⟨rfl, q3, rfl⟩
  obtain ⟨q, hq⟩ : ∃ q, q = q1 + q2 + q3 := ⟨_, rfl⟩
  go_wp2_with (at_make; refine wpList_make_full _ rfl _ _ 30 rfl w.heap.size 22 i0 (.float .f32 0) 1 Try.underlying30 hi hz0 hz1 _ _ _ _ n rfl rfl rfl rfl hb hm (Nat.le_refl _) ?_)
  intro w1 hown hgr
  rw [madeF] at hown
  have hB : Below w.heap.size w w1 := (Below.drewN (Below.refl _ w) _).grown hgr (Nat.le_refl _) (fun _ h => by cases h)
  clear hgr hb hm hi hz0 hz1 hz2 hq q
  obtain ⟨xb, xo, hxa, hcx⟩ := HRX.out
  obtain ⟨yb, yo, hya, hcy⟩ := HRY.out
  have e := hxa (by omega)
  subst e
  have e := hya (by omega)
  subst e
  have CX := Lib.hid hcx
  have CY := Lib.hid hcy
  clear hcx hcy hxa hya HRX HRY HP PX PY
  go_wp2
  go_loopw [28] (fun i wr => ∃ (k : Nat) (Z : Nat → Nat), k ≤ n ∧ i = .int .i64 (k : Int) ∧ wr.ownsRow w.heap.size 22 1 (.slice (some ⟨w.heap.size, 0, none⟩) n n) n (rowOf Z n) ∧ LikeP Z R k ∧ Below w.heap.size w wr) (fun i _ => n - (intOf i).toNat)
  case atStart => exact ⟨0, fun _ => 0, Nat.zero_le _, rfl, hown, fun _ h => absurd h (Nat.not_lt_zero _), hB⟩
  case round =>
    obtain ⟨k, Z, hk, rfl, hownk, hL, hBk⟩ := hrel
    clear hown hB
    by_cases hlt : k < n
    · have c0x := CX.out k hlt
      have c0y := CY.out k hlt
      have c1x := (hBk.cell (p := ⟨xb, xo + k, none⟩) (World.block_lt_of_cell? w _ c0x)).trans c0x
      have c1y := (hBk.cell (p := ⟨yb, yo + k, none⟩) (World.block_lt_of_cell? w _ c0y)).trans c0y
      obtain ⟨hn1, hn2⟩ := HQ.out k hlt
      obtain ⟨D, hD⟩ : ∃ D, fbin .quo .f32 (X k) (Y k) = D := ⟨_, rfl⟩
      rw [hD] at hn1 hn2
      have pD := fun s => pick_num (s := s) hn1
      have HLg := Lib.hid (fun w => implLogT_any D hn2 w)
      have HE := Lib.hid (show R k = logT D by rw [HR.out, hD])
      obtain ⟨L, hL'⟩ : ∃ L, L = logT D := ⟨_, rfl⟩
      rw [← hL'] at HLg HE
      have st := fun q u => own_store hownk hlt q u
      have HO := Lib.hid hownk
      have HLk := Lib.hid hL
      clear c0x c0y hn1 hn2 hL' hownk hL
      go_wp2_with (first | ((with_reducible refine wpL_fbin ?_); refine ⟨_, _, _, rfl, rfl, rfl, fun s n => ?_⟩) | (go_at_call 69; refine (HLg.out _).mono ?_; rintro e w' ⟨s', m', rfl, rfl⟩))
      go_roundw
      case rel => exact ⟨k + 1, _, by omega, by go_num, own_stored (own_drew HO.out _) k _, HLk.out.push (by rw [HE.out]), Below.setCell (Below.drewN hBk _) (Nat.le_refl _) _⟩
      case measure => simp [intOf]; omega
    · have hkn : k = n := by omega
      subst hkn
      have HG := Lib.hid (fun m => HF.out Z _ _ m hL.like hownk (by omega) hBk)
      clear hL
      cases c : finL Z k
      · rw [c, if_neg (by simp)] at HG
        go_wp2_with (go_at_call 70; refine (onlyFinite_any _ _ _ Z _ (by exact hownk) (by omega)).mono ?_; unfold ListRet; rw [c]; rintro e w4 ⟨rfl, q5, rfl⟩)
        go_ret2
        exact HG.out _
      · rw [c, if_pos rfl] at HG
        go_wp2_with (go_at_call 70; refine (onlyFinite_any _ _ _ Z _ (by exact hownk) (by omega)).mono ?_; unfold ListRet; rw [c]; rintro e w4 ⟨rfl, q5, rfl⟩)
        go_ret2
        exact HG.out _
theorem bothDepthOf (N : Nat) (X : Nat → Nat) (hN : N ≤ 1048576) (M : Nat) (Y : Nat → Nat) (hM : M ≤ 1048576) :
    ∃ (R : Nat → Nat) (m : Nat) (ok : Bool), (∀ (xa : Option Addr) (c : Nat) (ya : Option Addr) (c' : Nat) (w : World), Rd w xa N X → Rd w ya M Y → Calls Try.prog 28 #[.slice xa N c, .slice ya M c'] w (RetDepthOf R m ok w)) ∧
      ∀ (xa : Option Addr) (c : Nat) (ya : Option Addr) (c' : Nat) (w : World), Rd w xa N X → Rd w ya M Y → Calls Try.prog 29 #[.slice xa N c, .slice ya M c'] w (RetDepthOf R m ok w) := by
  cases hk : okDep X Y N M
  · exact ⟨fun _ => 0, 0, false, fun xa c ya c' w hX hY => specDep_no xa ya N M c c' X Y w hX hY hN hM _ hk, fun xa c ya c' w hX hY => implDep_no xa ya N M c c' X Y w hX hY hN hM _ hk⟩
  · unfold okDep at hk
    simp only [Bool.and_eq_true] at hk
    obtain ⟨h1, h2, h3⟩ := hk
    obtain ⟨p1, p2, rfl, p4, p5⟩ := prsB_at h1
    have b1 : binB X M 1 = true := by
      unfold binB; rw [decide_eq_true p1, decide_eq_true p2, p4]; rfl
    have b2 : binB Y M 1 = true := by
      unfold binB; rw [decide_eq_true p1, decide_eq_true p2, p5]; rfl
    exact ⟨_, _, _, fun xa c ya c' w hX hY => specDep_yes xa ya M c c' X Y w hX hY (by omega) (by omega) b1 b2 h2 h3 _ _ _ (Lib.hid rfl) (Lib.hid rfl) (Lib.hid rfl), fun xa c ya c' w hX hY => implDep_yes xa ya M c c' X Y w hX hY (by omega) (by omega) h1 h2 h3 _ _ _ (Lib.hid rfl) (Lib.hid rfl) (Lib.hid rfl)⟩
set_option maxRecDepth 100000 in
set_option maxHeartbeats 6400000 in
theorem lawDepthOf_in (W : World) (x0 : Option Addr) (n0 c0 : Nat) (X0 : Nat → Nat) (hX0 : Rd W x0 n0 X0) (x1 : Option Addr) (n1 c1 : Nat) (X1 : Nat → Nat) (hX1 : Rd W x1 n1 X1) (h0 : n0 ≤ 1048576) (h1 : n1 ≤ 1048576) (R0 : Nat → Nat) (m0 : Nat) (r1 : Bool) (HS : Hid (∀ (x0 : Option Addr) (c0 : Nat) (x1 : Option Addr) (c1 : Nat) (w : World), Rd w x0 n0 X0 → Rd w x1 n1 X1 → Calls Try.prog 28 #[.slice x0 n0 c0, .slice x1 n1 c1] w (RetDepthOf R0 m0 r1 w))) (HI : Hid (∀ (x0 : Option Addr) (c0 : Nat) (x1 : Option Addr) (c1 : Nat) (w : World), Rd w x0 n0 X0 → Rd w x1 n1 X1 → Calls Try.prog 29 #[.slice x0 n0 c0, .slice x1 n1 c1] w (RetDepthOf R0 m0 r1 w))) :
    Calls Try.prog 7 #[.slice x0 n0 c0, .slice x1 n1 c1] W fun e w' => e = .returned (.bool true) ∧ Below W.heap.size W w' := by
  have hcv := fun (R : Nat) (s t : Nat) => show canon .f64 (pick .f64 (fconv .f32 (pick .f32 R s) .f64) t) = canon .f64 (fconv .f32 R .f64) by rw [canon_pick, fconv_pick]
  have hcw := fun (R : Nat) (s t : Nat) => show canon .f64 (pick .f64 R s) = canon .f64 (pick .f64 R t) by rw [canon_pick, canon_pick]
  have HCV := Lib.hid hcv
  have HCW := Lib.hid hcw
  clear hcv hcw
  have hnb1 : (r1 != r1) = false := by simp
  have HB := Blw.refl W
  go_enter Try.func7, Try.ntmps7
  go_wp2_with fail
  refine (toF_any _ _ _ X0 _ (by exact hX0.below (Blw.out (by exact HB))) h0).mono ?_
  rintro e0 w0 ⟨rfl, O0, B0⟩
  replace HB := Blw.next (by exact HB) B0
  have C0 := O0
  clear O0 B0
  go_wp2_with fail
  refine (toF_any _ _ _ X1 _ (by exact hX1.below (Blw.out (by exact HB))) h1).mono ?_
  rintro e0 w0 ⟨rfl, O0, B0⟩
  replace C0 := own_below (by exact C0) B0
  replace HB := Blw.next (by exact HB) B0
  have C1 := O0
  clear O0 B0
  go_wp2_with fail
  refine (HS.out _ _ _ _ _ (rd_own (by exact C0)) (rd_own (by exact C1))).mono ?_
  rintro e0 w1 ⟨vw0, Yw0, rfl, Ow0, Lw0, mw0, B0⟩
  clear C0
  clear C1
  replace HB := Blw.next (by exact HB) B0
  clear B0
  have Z0 := hX0.below HB.out
  have Z1 := hX1.below HB.out
  obtain ⟨xw0, cw0, rfl, _, _, Rw0⟩ := rd_of_own Ow0
  clear Ow0
  have HL := Blw.refl w1
  have E0 := (Blw.out (by exact HL)).size
  go_wp2_with fail
  refine (toF_any _ _ _ X0 _ (by exact Z0.below (Blw.out (by exact HL))) h0).mono ?_
  rintro e0 w0 ⟨rfl, O0, B0⟩
  replace HL := Blw.next (by exact HL) B0
  have D0 := O0
  clear O0 B0
  have E1 := (Blw.out (by exact HL)).size
  have Q0_1 := own_lt (by exact D0)
  go_wp2_with fail
  refine (toF_any _ _ _ X1 _ (by exact Z1.below (Blw.out (by exact HL))) h1).mono ?_
  rintro e0 w0 ⟨rfl, O0, B0⟩
  replace D0 := own_below (by exact D0) B0
  replace HL := Blw.next (by exact HL) B0
  have D1 := O0
  clear O0 B0
  have Qg0 := own_lt (by exact D0)
  have Qg1 := own_lt (by exact D1)
  have Eg := (Blw.out (by exact HL)).size
  go_wp2_with fail
  refine (HI.out _ _ _ _ _ (rd_own (by exact D0)) (rd_own (by exact D1))).mono ?_
  rintro e0 w2 ⟨vg0, Yg0, rfl, Og0, Lg0, mg0, B0⟩
  replace D0 := own_below (by exact D0) B0
  replace D1 := own_below (by exact D1) B0
  replace HL := Blw.next (by exact HL) B0
  clear B0
  have O_0 := Og0
  obtain ⟨xg0, cg0, rfl, _, _, Rg0⟩ := rd_of_own O_0
  clear O_0
  go_wp2_with fail
  refine (eqF_any _ _ _ _ _ Yg0 Yw0 _ (by exact Rg0) (by exact Rw0.below (Blw.out (by exact HL))) mw0 (fun i hi => (Lg0 i hi).trans (Lw0 i hi).symm)).mono ?_
  rintro e0 w0 ⟨rfl, q, rfl⟩
  go_wp2_with fail
  refine (toF_any _ _ _ X0 _ (by exact Z0.below (Blw.out (by exact HL))) h0).mono ?_
  rintro e0 w0 ⟨rfl, O0, B0⟩
  replace D0 := own_below (by exact D0) B0
  replace D1 := own_below (by exact D1) B0
  replace Og0 := own_below (by exact Og0) B0
  replace HL := Blw.next (by exact HL) B0
  have K0 := O0
  clear O0 B0
  go_wp2_with fail
  refine (eqF_any _ _ _ _ _ X0 X0 _ (by exact rd_own (by exact D0)) (by exact rd_own (by exact K0)) h0 (fun _ _ => rfl)).mono ?_
  rintro e0 w0 ⟨rfl, q, rfl⟩
  clear K0
  go_wp2_with fail
  refine (toF_any _ _ _ X1 _ (by exact Z1.below (Blw.out (by exact HL))) h1).mono ?_
  rintro e0 w0 ⟨rfl, O0, B0⟩
  replace D0 := own_below (by exact D0) B0
  replace D1 := own_below (by exact D1) B0
  replace Og0 := own_below (by exact Og0) B0
  replace HL := Blw.next (by exact HL) B0
  have K1 := O0
  clear O0 B0
  go_wp2_with fail
  refine (eqF_any _ _ _ _ _ X1 X1 _ (by exact rd_own (by exact D1)) (by exact rd_own (by exact K1)) h1 (fun _ _ => rfl)).mono ?_
  rintro e0 w0 ⟨rfl, q, rfl⟩
  clear K1
  go_wp2_with fail
  refine (markX_any _ _ n0 _ X0 _ _ (by exact D0) h0 (by omega) (by omega)).mono ?_
  rintro e0 w0 ⟨rfl, N0⟩
  replace D1 := own_only (by exact D1) (by exact Q0_1) N0
  replace Og0 := own_only (by exact Og0) (by exact Qg0) N0
  replace HL := Blw.only (by exact HL) E0 N0
  clear N0 D0
  go_wp2_with fail
  refine (markX_any _ _ n1 _ X1 _ _ (by exact D1) h1 (by omega) (by omega)).mono ?_
  rintro e0 w0 ⟨rfl, N0⟩
  replace Og0 := own_only (by exact Og0) (by exact Qg1) N0
  replace HL := Blw.only (by exact HL) E1 N0
  clear N0 D1
  have hk1 : (0 : Int) ≤ 1 + (n0 : Int) + (n1 : Int) := by omega
  replace Rg0 := rd_own' (by exact Og0)
  go_wp2_with fail
  refine (eqF_any _ _ _ _ _ Yg0 Yw0 _ (by exact Rg0) (by exact Rw0.below (Blw.out (by exact HL))) mw0 (fun i hi => (Lg0 i hi).trans (Lw0 i hi).symm)).mono ?_
  rintro e0 w0 ⟨rfl, q, rfl⟩
  clear Rg0
  go_wp2_with fail
  refine (markF_any _ _ m0 Yg0 _ _ (by exact Og0) mg0 (by omega) (by omega)).mono ?_
  rintro e0 w0 ⟨rfl, Ok0, B0⟩
  replace HL := Blw.nextB (by exact HL) (B0.mono Eg)
  clear B0 Og0
  have hm1 : (0 : Int) ≤ 1 + (m0 : Int) := by omega
  go_wp2_with fail
  refine (heldF_any _ _ m0 _ _ (by exact Ok0) mg0 (by omega) (by omega)).mono ?_
  rintro e0 w0 ⟨rfl, rfl⟩
  go_wp2_with fail
  refine (toF_any _ _ _ X0 _ (by exact Z0.below (Blw.out (by exact HL))) h0).mono ?_
  rintro e0 w0 ⟨rfl, O0, B0⟩
  replace Ok0 := own_below (by exact Ok0) B0
  replace HL := Blw.next (by exact HL) B0
  have C0 := O0
  clear O0 B0
  go_wp2_with fail
  refine (toF_any _ _ _ X1 _ (by exact Z1.below (Blw.out (by exact HL))) h1).mono ?_
  rintro e0 w0 ⟨rfl, O0, B0⟩
  replace C0 := own_below (by exact C0) B0
  replace Ok0 := own_below (by exact Ok0) B0
  replace HL := Blw.next (by exact HL) B0
  have C1 := O0
  clear O0 B0
  go_wp2_with fail
  refine (HI.out _ _ _ _ _ (rd_own (by exact C0)) (rd_own (by exact C1))).mono ?_
  rintro e0 w3 ⟨vh0, Yh0, rfl, Oh0, Lh0, mh0, B0⟩
  replace Ok0 := own_below (by exact Ok0) B0
  clear C0
  clear C1
  replace HL := Blw.next (by exact HL) B0
  clear B0
  obtain ⟨xh0, ch0, rfl, _, _, Rh0⟩ := rd_of_own Oh0
  clear Oh0
  go_wp2_with fail
  refine (eqF_any _ _ _ _ _ Yh0 Yw0 _ (by exact Rh0) (by exact Rw0.below (Blw.out (by exact HL))) mw0 (fun i hi => (Lh0 i hi).trans (Lw0 i hi).symm)).mono ?_
  rintro e0 w0 ⟨rfl, q, rfl⟩
  clear Rh0
  go_wp2_with fail
  refine (heldF_any _ _ m0 _ _ (by exact Ok0) mg0 (by omega) (by omega)).mono ?_
  rintro e0 w0 ⟨rfl, rfl⟩
  go_wp2
  go_ret
  exact ⟨rfl, (Blw.out (by exact HB)).trans ((Blw.out (by exact HL)).mono (Blw.out (by exact HB)).size)⟩
set_option maxHeartbeats 1600000 in
theorem lawDepthOf_any (W : World) (x0 : Option Addr) (n0 c0 : Nat) (X0 : Nat → Nat) (hX0 : Rd W x0 n0 X0) (x1 : Option Addr) (n1 c1 : Nat) (X1 : Nat → Nat) (hX1 : Rd W x1 n1 X1) :
    Calls Try.prog 7 #[.slice x0 n0 c0, .slice x1 n1 c1] W fun e w' => e = .returned (.bool true) ∧ Below W.heap.size W w' := by
  by_cases h0 : n0 ≤ 1048576
  · skip
    by_cases h1 : n1 ≤ 1048576
    · skip
      obtain ⟨R0, m0, r1, hs, hi⟩ := bothDepthOf n0 X0 h0 n1 X1 h1
      exact lawDepthOf_in W x0 n0 c0 X0 hX0 x1 n1 c1 X1 hX1 h0 h1 R0 m0 r1 (Lib.hid hs) (Lib.hid hi)
    · have h' : (1048576 : Int) < (n1 : Int) := by omega
      go_enter Try.func7, Try.ntmps7
      go_wp2
      go_ret
      exact ⟨rfl, (Blw.refl W).out⟩
  · have h' : (1048576 : Int) < (n0 : Int) := by omega
    go_enter Try.func7, Try.ntmps7
    go_wp2
    go_ret
    exact ⟨rfl, (Blw.refl W).out⟩
set_option maxRecDepth 100000 in
theorem FnExactDepthOf_lifted (os : Os) (started : os.Started) (H : Type) (enc : TypeId × Value → H) :
    ReturnsInHanded {} Try.checked os 7 .any (Rows.fnExactDepthOfSpec.pre6 enc Try.prog Try.f7 Rows.fnExactDepthOfRow.domain false) (Rows.fnExactDepthOfSpec.post enc Try.prog Try.f7 false true false false) := by
  refine returnsInHanded_of_change (C := Try.checked) ownKnob_none started (by kernel_rfl) Try.func7
    (ChangeSpec.witness6 (enc := enc) (C := Try.checked) false ⟨#[], #[.slice none 0 0, .slice none 0 0], []⟩ 8 (by kernel_rfl) (by kernel_rfl) (by kernel_rfl) (by kernel_rfl)) ?_
  intro W base args ds gs before hval0 hW _ _
  have hval : ∀ (j : Nat) t v, Try.f7.params[j]? = some t → args[j]? = some v → Value.okWide Try.prog W .any base t v := hval0
  have hW' := hW
  obtain ⟨p, q, hA0, hV, rfl, _, _⟩ := hW
  have hA : DataW.TrodAll enc Try.prog W 0 (fun _ => true) true Try.f7.params.toList args.toList ds p := hA0
  rw [Try.params7] at hA hval
  obtain ⟨v0, v1, d0, d1, p0, p1, rfl, rfl, rfl, h0, h1⟩ := trodAll_two hA
  obtain ⟨rfl, rfl⟩ := trodVars_none hV
  obtain ⟨x0, n0, c0, rfl⟩ := okWide_slice Try.underlying30 (hval 0 30 v0 rfl rfl)
  have k0 := h0
  obtain ⟨_, _, a0, w0, _⟩ := open_f32s Try.underlying30 Try.underlying22 cellsF h0
  have b0 : ∀ x ∈ p0, x.block < W.heap.size := fun x hx => by have := hW'.lt x (by simp [hx]); simpa using this
  obtain ⟨x1, n1, c1, rfl⟩ := okWide_slice Try.underlying30 (hval 1 30 v1 rfl rfl)
  have k1 := h1
  obtain ⟨_, _, a1, w1, _⟩ := open_f32s Try.underlying30 Try.underlying22 cellsF h1
  have b1 : ∀ x ∈ p1, x.block < W.heap.size := fun x hx => by have := hW'.lt x (by simp [hx]); simpa using this
  clear hA0 hval0
  refine (lawDepthOf_any W x0 n0 c0 a0 w0 x1 n1 c1 a1 w1).mono fun e W' ⟨he, hb⟩ => ?_
  subst he
  have hA2 := trodAll_mk2 (enc := enc) (w := W') (base := 0) (spare := fun b => decide (b < W.heap.size)) (held := true) (Below.trod laidOut (by kernel_rfl) (of_decide_eq_true (by kernel_rfl)) k0 hb b0) (Below.trod laidOut (by kernel_rfl) (of_decide_eq_true (by kernel_rfl)) k1 hb b1)
  exact ⟨_, rfl, _, _, _, [], _, [], hW', trodAll_cons_mk (shut_bool Try.underlying4 _) trodAll_mk0, hA2, rfl, hb.frame _, fun h => by cases h⟩
theorem FnExactDepthOf_holds : Rows.FnExactDepthOfSaid :=
  OpenClaim.holds_of_wide 7 Try.f7 rfl rfl rfl rfl rfl rfl rfl ⟨rfl, rfl, rfl, rfl, rfl⟩ rfl rfl rfl rfl rfl (by kernel_rfl) Try.func7 (by kernel_rfl)
    (of_decide_eq_true (by kernel_rfl)) (by unfold Func.isWrapper; first | (rw [if_pos (by decide +kernel)]; kernel_rfl) | (rw [if_neg (by decide +kernel)]; exact ⟨rfl, rfl⟩))
    (fun os started H enc _ => FnExactDepthOf_lifted os started H enc)
end Go.Proofs.Ytfnapaijfdiflaa
