/- How far two lists are apart: the contracts of both sides, without the law. -/
import Derived.Test.YtehlflldnihamabSame
import Derived.Test.YtehlflldnihamabAlk
import Derived.Test.YtehlflldnihamabLes
import Derived.Test.YtehlflldnihamabRo
import Derived.Test.YtehlflldnihamabRootC
import Derived.Test.YtehlflldnihamabLiC
import Derived.Test.YtehlflldnihamabLaw
namespace Go.Proofs.Ytehlflldnihamab
open Go Go.ChangeShapes Go.WideShapes Go.ChangeAt Go.RowKit

set_option maxHeartbeats 1600000 in
theorem l07Far_any (xa ya : Option Addr) (n cx cy : Nat) (X Y : Nat → Nat) (w : World) (hX : Rd w xa n X) (hY : Rd w ya n Y) (hn : n ≤ 1048576) (hfx : finL X n = true) (hfy : finL Y n = true) :
    Calls Try.prog 135 #[.slice xa n cx, .slice ya n cy] w (RetR .f32 (rootT (dotW (lesR X Y) (lesR X Y) n)) w) := by
  obtain ⟨xb, xo, hxa, hcx⟩ := hX
  obtain ⟨yb, yo, hya, hcy⟩ := hY
  have HX := Lib.hid hcx
  have HY := Lib.hid hcy
  clear hcx hcy
  obtain ⟨V, hV⟩ : ∃ V, V = lesR X Y := ⟨_, rfl⟩
  have HV := Lib.hid hV
  rw [← hV]
  clear hV
  go_enter Try.func135, Try.ntmps135
  go_wp2
  go_loopw [5, 10] (fun q i wr => ∃ k m s : Nat, k ≤ n ∧ i = .int .i64 k ∧ wr = w.drewN m ∧ q = .float .f32 (pick .f32 (dotW V V k) s)) (fun _ i _ => n - (intOf i).toNat)
  case atStart => exact ⟨0, 0, 0, Nat.zero_le _, rfl, rfl, by rw [show dotW V V 0 = 0 from rfl, pick_zero]⟩
  case round =>
    obtain ⟨k, m, s, hk, rfl, rfl, rfl⟩ := hrel
    by_cases hlt : k < n
    · have e := hxa (by omega)
      subst e
      have e := hya (by omega)
      subst e
      have h1 := HX.out k hlt
      have h2 := HY.out k hlt
      have hp := fun op => fbin_pick_l op .f32
      have hq := fun op => fbin_pick_r op .f32
      have hd := dotW_succ V V k
      have hv : fbin .sub .f32 (X k) (Y k) = V k := by rw [HV.out]; rfl
      obtain ⟨D, hD⟩ : ∃ D, D = dotW V V k := ⟨_, rfl⟩
      rw [← hD] at hd
      obtain ⟨U, hU⟩ : ∃ U, U = V k := ⟨_, rfl⟩
      rw [← hU] at hv hd
      have nU : isNaN .f32 U = false := by rw [← hv]; exact nan_sub (num_fin (finL_at hfx k hlt)) (finL_at hfy k hlt)
      have q1 := fun t => run_numop (op := .sub) rfl t _ _ _ hv nU
      have HD := Lib.hid hD
      have HE := Lib.hid hd
      rw [← HD.out]
      clear hD hd hU
      go_wp2_with fail
      go_quiet (fail)
      go_wp2_with ((with_reducible refine wpL_fbin ?_); refine ⟨_, _, _, rfl, rfl, rfl, fun s n => ?_⟩)
      go_roundw
      case rel => exact ⟨k + 1, _, _, by omega, by go_num, rfl, by rw [← HE.out]⟩
      case measure => simp [intOf]; omega
    · have hkn : k = n := by omega
      subst hkn
      have hr := rootT_pick
      go_wp2_with (first | (go_at_call 169; refine (l01Sqrt_any _ _).mono ?_; rintro e w' ⟨s', m', rfl, rfl⟩))
      go_ret
      exact ⟨_, _, rfl, rfl⟩
/-- A number told, and whether. -/
def FlbRet (r : Nat) (ok : Bool) (w : World) (e : Ending) (w' : World) : Prop := ∃ s, e = .returned (.tuple #[.float .f32 (pick .f32 r s), .bool ok]) ∧ Below w.heap.size w w'
def farD (X Y : Nat → Nat) (n : Nat) : Nat := rootT (dotW (lesR X Y) (lesR X Y) n)
theorem farNo {w w' : World} (hb : Below w.heap.size w w') : FlbRet 0 false w (.returned (.tuple #[.float .f32 0, .bool false])) w' := ⟨0, by rw [pick_nul], hb⟩
set_option maxRecDepth 100000 in
set_option maxHeartbeats 3200000 in
theorem specFar_any (xa : Option Addr) (n cx : Nat) (X : Nat → Nat) (ya : Option Addr) (m cy : Nat) (Y : Nat → Nat) (w : World) (hX : Rd w xa n X) (hY : Rd w ya m Y) (hn : n ≤ 1048576) (hm : m ≤ 1048576) (hk : okTwo X n Y m = false) :
    Calls Try.prog 84 #[.slice xa n cx, .slice ya m cy] w (FlbRet 0 false w) := by
  have HT := Lib.hid (fun w hX hY => specTwo_any xa n cx X ya m cy Y w hX hY hn hm false (Lib.hid hk.symm))
  clear hk
  go_enter Try.func84, Try.ntmps84
  go_wp2_with (go_at_call 68; refine (HT.out _ (by exact hX) (by exact hY)).mono ?_; rintro e w' ⟨rfl, q, rfl⟩)
  go_ret2
  refine farNo ?_
  (repeat (first | with_reducible exact Below.refl _ _ | with_reducible refine Below.drewN ?_ _ | with_reducible refine Below.setCell ?_ (by simp; try omega) _ | with_reducible refine Below.alloc ?_ (by simp; try omega) _))
set_option maxRecDepth 100000 in
set_option maxHeartbeats 3200000 in
theorem specFar_yes (xa : Option Addr) (n cx : Nat) (X : Nat → Nat) (ya : Option Addr) (cy : Nat) (Y : Nat → Nat) (w : World) (hX : Rd w xa n X) (hY : Rd w ya n Y) (hn : n ≤ 1048576) (hk : okTwo X n Y n = true) (D : Nat) (hD : Hid (D = farD X Y n)) :
    Calls Try.prog 84 #[.slice xa n cx, .slice ya n cy] w (FlbRet (numQ D) (isFin .f32 D) w) := by
  have HT := Lib.hid (fun w hX hY => specTwo_any xa n cx X ya n cy Y w hX hY hn hn true (Lib.hid hk.symm))
  have HF := Lib.hid (fun w hX hY => l07Far_any xa ya n cx cy X Y w hX hY hn (okLst_at (okTwo_at hk).1).1 (okLst_at (okTwo_at hk).2.1).1)
  rw [show rootT (dotW (lesR X Y) (lesR X Y) n) = D from hD.out.symm] at HF
  clear hk hD
  have HQ := Lib.hid (fun s w => numS_any D s w)
  go_enter Try.func84, Try.ntmps84
  go_wp2_with fail
  refine (HT.out _ (by exact hX) (by exact hY)).mono ?_
  rintro e w' ⟨rfl, q, rfl⟩
  go_wp2_with fail
  refine (HF.out _ (by exact hX) (by exact hY)).mono ?_
  rintro e w' ⟨s1, q1, rfl, rfl⟩
  go_wp2_with fail
  refine (HQ.out _ _).mono ?_
  rintro e w' ⟨s2, q2, rfl, rfl⟩
  go_wp2
  go_ret2
  refine ⟨s2, rfl, ?_⟩
  (repeat (first | with_reducible exact Below.refl _ _ | with_reducible refine Below.drewN ?_ _ | with_reducible refine Below.setCell ?_ (by simp; try omega) _ | with_reducible refine Below.alloc ?_ (by simp; try omega) _))
set_option maxRecDepth 100000 in
set_option maxHeartbeats 3200000 in
theorem implFar_any (xa : Option Addr) (n cx : Nat) (X : Nat → Nat) (ya : Option Addr) (m cy : Nat) (Y : Nat → Nat) (w : World) (hX : Rd w xa n X) (hY : Rd w ya m Y) (hn : n ≤ 1048576) (hm : m ≤ 1048576) (hk : okTwo X n Y m = false) :
    Calls Try.prog 85 #[.slice xa n cx, .slice ya m cy] w (FlbRet 0 false w) := by
  have HT := Lib.hid (fun w hX hY => implTwo_any xa n cx X ya m cy Y w hX hY hn hm false (Lib.hid hk.symm))
  clear hk
  go_enter Try.func85, Try.ntmps85
  go_wp2_with (go_at_call 129; refine (HT.out _ (by exact hX) (by exact hY)).mono ?_; rintro e w' ⟨rfl, q, rfl⟩)
  go_ret2
  refine farNo ?_
  (repeat (first | with_reducible exact Below.refl _ _ | with_reducible refine Below.drewN ?_ _ | with_reducible refine Below.setCell ?_ (by simp; try omega) _ | with_reducible refine Below.alloc ?_ (by simp; try omega) _))
set_option maxRecDepth 100000 in
set_option maxHeartbeats 3200000 in
theorem implFar_yes (xa : Option Addr) (n cx : Nat) (X : Nat → Nat) (ya : Option Addr) (cy : Nat) (Y : Nat → Nat) (w : World) (hX : Rd w xa n X) (hY : Rd w ya n Y) (hn : n ≤ 1048576) (hk : okTwo X n Y n = true) (D : Nat) (hD : Hid (D = farD X Y n)) :
    Calls Try.prog 85 #[.slice xa n cx, .slice ya n cy] w (FlbRet (numQ D) (isFin .f32 D) w) := by
  have HT := Lib.hid (fun w hX hY => implTwo_any xa n cx X ya n cy Y w hX hY hn hn true (Lib.hid hk.symm))
  clear hk
  have HQ := Lib.hid (fun s w => numI_any D s w)
  have hrp := rootT_pick
  go_enter Try.func85, Try.ntmps85
  go_wp2_with fail
  refine (HT.out _ (by exact hX) (by exact hY)).mono ?_
  rintro e w' ⟨rfl, q, rfl⟩
  go_wp2_with fail
  refine (les_any _ _ _ _ _ X Y _ (by exact hX) (by exact hY) hn).mono ?_
  rintro e w3 ⟨v, Z, rfl, hown, hL, hB⟩
  have hB' : Below w.heap.size w w3 := Below.trans (Below.drewN (Below.refl _ w) q) hB
  obtain ⟨xz, cz, rfl, _, _, Rz⟩ := rd_of_own hown
  have HS := Lib.hid (fun w hZ => sumSq_any xz n cz Z w hZ hn)
  rw [dotW_like n hL.like] at HS
  obtain ⟨S, hS⟩ : ∃ S, S = dotW (lesR X Y) (lesR X Y) n := ⟨_, rfl⟩
  have hSD : rootT S = D := by rw [hS]; exact hD.out.symm
  rw [← hS] at HS
  clear hS hD hown hL hB
  go_wp2_with fail
  refine (HS.out _ (by exact Rz)).mono ?_
  rintro e w' ⟨s1, q1, rfl, rfl⟩
  go_wp2_with (first | (go_at_call 137; refine (RootNumber_any _ _).mono ?_; rintro e w' ⟨s', m', rfl, rfl⟩))
  refine (HQ.out _ _).mono ?_
  rintro e w' ⟨s2, q2, rfl, rfl⟩
  go_wp2
  go_ret2
  refine ⟨s2, rfl, ?_⟩
  exact Below.drewN hB' _
end Go.Proofs.Ytehlflldnihamab
