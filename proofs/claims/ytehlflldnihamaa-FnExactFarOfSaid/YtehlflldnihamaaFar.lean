/- Of any two lists the program tells how far they are apart just where the model does, and the same; the lists are not changed: for all arguments. -/
import Derived.Test.YtehlflldnihamaaSame
import Derived.Test.YtehlflldnihamaaAlk
import Derived.Test.YtehlflldnihamaaLes
import Derived.Test.YtehlflldnihamaaRo
import Derived.Test.YtehlflldnihamaaRootC
import Derived.Test.YtehlflldnihamaaLiC
import Derived.Test.YtehlflldnihamaaLaw
namespace Go.Proofs.Ytehlflldnihamaa
open Go Go.ChangeShapes Go.WideShapes Go.ChangeAt Go.RowKit

set_option maxHeartbeats 1600000 in
theorem l07Far_any (xa ya : Option Addr) (n cx cy : Nat) (X Y : Nat → Nat) (w : World) (hX : Rd w xa n X) (hY : Rd w ya n Y) (hn : n ≤ 1048576) (hfx : finL X n = true) (hfy : finL Y n = true) :
    Calls Try.prog 77 #[.slice xa n cx, .slice ya n cy] w (RetR .f32 (rootT (dotW (lesR X Y) (lesR X Y) n)) w) := by
  obtain ⟨xb, xo, hxa, hcx⟩ := hX
  obtain ⟨yb, yo, hya, hcy⟩ := hY
  have HX := Lib.hid hcx
  have HY := Lib.hid hcy
  clear hcx hcy
  obtain ⟨V, hV⟩ : ∃ V, V = lesR X Y := ⟨_, rfl⟩
  have HV := Lib.hid hV
  rw [← hV]
  clear hV
  go_enter Try.func77, Try.ntmps77
  go_wp2
  go_loopw [5, 10] (fun q i wr => ∃ k m s : Nat, k ≤ n ∧ i = .int .i64 k ∧ wr = w.drewN m ∧ q = .float .f32 (pick .f32 (dotW V V k) s)) (fun _ i _ => n - (intOf i).toNat)
  case atStart => exact ⟨0, 0, 0, Nat.zero_le _, rfl, rfl, by rw [show dotW V V 0 = 0 from rfl, pick_zero]⟩
  case round =>
    obtain ⟨k, m, s, hk, rfl, rfl, rfl⟩ := hrel
    by_cases hlt : k < n
    · have e := hxa (by omega)
      subst e
      have e := hya (by omega)
      subst e
      have h1 := HX.out k hlt
      have h2 := HY.out k hlt
      have hp := fun op => fbin_pick_l op .f32
      have hq := fun op => fbin_pick_r op .f32
      have hd := dotW_succ V V k
      have hv : fbin .sub .f32 (X k) (Y k) = V k := by rw [HV.out]; rfl
      obtain ⟨D, hD⟩ : ∃ D, D = dotW V V k := ⟨_, rfl⟩
      rw [← hD] at hd
      obtain ⟨U, hU⟩ : ∃ U, U = V k := ⟨_, rfl⟩
      rw [← hU] at hv hd
      have nU : isNaN .f32 U = false := by rw [← hv]; exact nan_sub (num_fin (finL_at hfx k hlt)) (finL_at hfy k hlt)
      have q1 := fun t => run_numop (op := .sub) rfl t _ _ _ hv nU
      have HD := Lib.hid hD
      have HE := Lib.hid hd
      rw [← HD.out]
      clear hD hd hU
      go_wp2_with fail
      go_quiet (fail)
      go_wp2_with ((with_reducible refine wpL_fbin ?_); refine ⟨_, _, _, rfl, rfl, rfl, fun s n => ?_⟩)
      go_roundw
      case rel => exact ⟨k + 1, _, _, by omega, by go_num, rfl, by rw [← HE.out]⟩
      case measure => simp [intOf]; omega
    · have hkn : k = n := by omega
      subst hkn
      have hr := rootT_pick
      go_wp2_with (first | (go_at_call 88; refine (l01Sqrt_any _ _).mono ?_; rintro e w' ⟨s', m', rfl, rfl⟩))
      go_ret
      exact ⟨_, _, rfl, rfl⟩
/-- What is told of FarOf. -/
def RetFarOf (r0 : Nat) (r1 : Bool) (w : World) (e : Ending) (w' : World) : Prop := ∃ (s0 : Nat), e = .returned (.tuple #[.float .f32 (pick .f32 r0 s0), .bool r1]) ∧ Below w.heap.size w w'
def farD (X Y : Nat → Nat) (n : Nat) : Nat := rootT (dotW (lesR X Y) (lesR X Y) n)
theorem farNo {w w' : World} (hb : Below w.heap.size w w') : RetFarOf 0 false w (.returned (.tuple #[.float .f32 0, .bool false])) w' := ⟨0, by rw [pick_nul], hb⟩
set_option maxRecDepth 100000 in
set_option maxHeartbeats 3200000 in
theorem specFar_any (xa : Option Addr) (n cx : Nat) (X : Nat → Nat) (ya : Option Addr) (m cy : Nat) (Y : Nat → Nat) (w : World) (hX : Rd w xa n X) (hY : Rd w ya m Y) (hn : n ≤ 1048576) (hm : m ≤ 1048576) (hk : okTwo X n Y m = false) :
    Calls Try.prog 36 #[.slice xa n cx, .slice ya m cy] w (RetFarOf 0 false w) := by
  have HT := Lib.hid (fun w hX hY => specTwo_any xa n cx X ya m cy Y w hX hY hn hm false (Lib.hid hk.symm))
  clear hk
  go_enter Try.func36, Try.ntmps36
  go_wp2_with (go_at_call 74; refine (HT.out _ (by exact hX) (by exact hY)).mono ?_; rintro e w' ⟨rfl, q, rfl⟩)
  go_ret2
  refine farNo ?_
  (repeat (first | with_reducible exact Below.refl _ _ | with_reducible refine Below.drewN ?_ _ | with_reducible refine Below.setCell ?_ (by simp; try omega) _ | with_reducible refine Below.alloc ?_ (by simp; try omega) _))
set_option maxRecDepth 100000 in
set_option maxHeartbeats 3200000 in
theorem specFar_yes (xa : Option Addr) (n cx : Nat) (X : Nat → Nat) (ya : Option Addr) (cy : Nat) (Y : Nat → Nat) (w : World) (hX : Rd w xa n X) (hY : Rd w ya n Y) (hn : n ≤ 1048576) (hk : okTwo X n Y n = true) (D : Nat) (hD : Hid (D = farD X Y n)) :
    Calls Try.prog 36 #[.slice xa n cx, .slice ya n cy] w (RetFarOf (numQ D) (isFin .f32 D) w) := by
  have HT := Lib.hid (fun w hX hY => specTwo_any xa n cx X ya n cy Y w hX hY hn hn true (Lib.hid hk.symm))
  have HF := Lib.hid (fun w hX hY => l07Far_any xa ya n cx cy X Y w hX hY hn (okLst_at (okTwo_at hk).1).1 (okLst_at (okTwo_at hk).2.1).1)
  rw [show rootT (dotW (lesR X Y) (lesR X Y) n) = D from hD.out.symm] at HF
  clear hk hD
  have HQ := Lib.hid (fun s w => numS_any D s w)
  go_enter Try.func36, Try.ntmps36
  go_wp2_with fail
  refine (HT.out _ (by exact hX) (by exact hY)).mono ?_
  rintro e w' ⟨rfl, q, rfl⟩
  go_wp2_with fail
  refine (HF.out _ (by exact hX) (by exact hY)).mono ?_
  rintro e w' ⟨s1, q1, rfl, rfl⟩
  go_wp2_with fail
  refine (HQ.out _ _).mono ?_
  rintro e w' ⟨s2, q2, rfl, rfl⟩
  go_wp2
  go_ret2
  refine ⟨s2, rfl, ?_⟩
  (repeat (first | with_reducible exact Below.refl _ _ | with_reducible refine Below.drewN ?_ _ | with_reducible refine Below.setCell ?_ (by simp; try omega) _ | with_reducible refine Below.alloc ?_ (by simp; try omega) _))
set_option maxRecDepth 100000 in
set_option maxHeartbeats 3200000 in
theorem implFar_any (xa : Option Addr) (n cx : Nat) (X : Nat → Nat) (ya : Option Addr) (m cy : Nat) (Y : Nat → Nat) (w : World) (hX : Rd w xa n X) (hY : Rd w ya m Y) (hn : n ≤ 1048576) (hm : m ≤ 1048576) (hk : okTwo X n Y m = false) :
    Calls Try.prog 37 #[.slice xa n cx, .slice ya m cy] w (RetFarOf 0 false w) := by
  have HT := Lib.hid (fun w hX hY => implTwo_any xa n cx X ya m cy Y w hX hY hn hm false (Lib.hid hk.symm))
  clear hk
  go_enter Try.func37, Try.ntmps37
  go_wp2_with (go_at_call 78; refine (HT.out _ (by exact hX) (by exact hY)).mono ?_; rintro e w' ⟨rfl, q, rfl⟩)
  go_ret2
  refine farNo ?_
  (repeat (first | with_reducible exact Below.refl _ _ | with_reducible refine Below.drewN ?_ _ | with_reducible refine Below.setCell ?_ (by simp; try omega) _ | with_reducible refine Below.alloc ?_ (by simp; try omega) _))
set_option maxRecDepth 100000 in
set_option maxHeartbeats 3200000 in
theorem implFar_yes (xa : Option Addr) (n cx : Nat) (X : Nat → Nat) (ya : Option Addr) (cy : Nat) (Y : Nat → Nat) (w : World) (hX : Rd w xa n X) (hY : Rd w ya n Y) (hn : n ≤ 1048576) (hk : okTwo X n Y n = true) (D : Nat) (hD : Hid (D = farD X Y n)) :
    Calls Try.prog 37 #[.slice xa n cx, .slice ya n cy] w (RetFarOf (numQ D) (isFin .f32 D) w) := by
  have HT := Lib.hid (fun w hX hY => implTwo_any xa n cx X ya n cy Y w hX hY hn hn true (Lib.hid hk.symm))
  clear hk
  have HQ := Lib.hid (fun s w => numI_any D s w)
  have hrp := rootT_pick
  go_enter Try.func37, Try.ntmps37
  go_wp2_with fail
  refine (HT.out _ (by exact hX) (by exact hY)).mono ?_
  rintro e w' ⟨rfl, q, rfl⟩
  go_wp2_with fail
  refine (les_any _ _ _ _ _ X Y _ (by exact hX) (by exact hY) hn).mono ?_
  rintro e w3 ⟨v, Z, rfl, hown, hL, hB⟩
  have hB' : Below w.heap.size w w3 := Below.trans (Below.drewN (Below.refl _ w) q) hB
  obtain ⟨xz, cz, rfl, _, _, Rz⟩ := rd_of_own hown
  have HS := Lib.hid (fun w hZ => sumSq_any xz n cz Z w hZ hn)
  rw [dotW_like n hL.like] at HS
  obtain ⟨S, hS⟩ : ∃ S, S = dotW (lesR X Y) (lesR X Y) n := ⟨_, rfl⟩
  have hSD : rootT S = D := by rw [hS]; exact hD.out.symm
  rw [← hS] at HS
  clear hS hD hown hL hB
  go_wp2_with fail
  refine (HS.out _ (by exact Rz)).mono ?_
  rintro e w' ⟨s1, q1, rfl, rfl⟩
  go_wp2_with (first | (go_at_call 54; refine (RootNumber_any _ _).mono ?_; rintro e w' ⟨s', m', rfl, rfl⟩))
  refine (HQ.out _ _).mono ?_
  rintro e w' ⟨s2, q2, rfl, rfl⟩
  go_wp2
  go_ret2
  refine ⟨s2, rfl, ?_⟩
  exact Below.drewN hB' _
theorem bothFarOf (N : Nat) (X : Nat → Nat) (hN : N ≤ 1048576) (M : Nat) (Y : Nat → Nat) (hM : M ≤ 1048576) :
    ∃ (r : Nat) (ok : Bool), (∀ (xa : Option Addr) (c : Nat) (ya : Option Addr) (c' : Nat) (w : World), Rd w xa N X → Rd w ya M Y → Calls Try.prog 36 #[.slice xa N c, .slice ya M c'] w (RetFarOf r ok w)) ∧
      ∀ (xa : Option Addr) (c : Nat) (ya : Option Addr) (c' : Nat) (w : World), Rd w xa N X → Rd w ya M Y → Calls Try.prog 37 #[.slice xa N c, .slice ya M c'] w (RetFarOf r ok w) := by
  cases hk : okTwo X N Y M
  · exact ⟨0, false, fun xa c ya c' w hX hY => specFar_any xa N c X ya M c' Y w hX hY hN hM hk, fun xa c ya c' w hX hY => implFar_any xa N c X ya M c' Y w hX hY hN hM hk⟩
  · obtain ⟨_, _, rfl⟩ := okTwo_at hk
    exact ⟨_, _, fun xa c ya c' w hX hY => specFar_yes xa N c X ya c' Y w hX hY hN hk _ (Lib.hid rfl), fun xa c ya c' w hX hY => implFar_yes xa N c X ya c' Y w hX hY hN hk _ (Lib.hid rfl)⟩
set_option maxRecDepth 100000 in
set_option maxHeartbeats 6400000 in
theorem lawFarOf_in (W : World) (x0 : Option Addr) (n0 c0 : Nat) (X0 : Nat → Nat) (hX0 : Rd W x0 n0 X0) (x1 : Option Addr) (n1 c1 : Nat) (X1 : Nat → Nat) (hX1 : Rd W x1 n1 X1) (h0 : n0 ≤ 1048576) (h1 : n1 ≤ 1048576) (r0 : Nat) (r1 : Bool) (HS : Hid (∀ (x0 : Option Addr) (c0 : Nat) (x1 : Option Addr) (c1 : Nat) (w : World), Rd w x0 n0 X0 → Rd w x1 n1 X1 → Calls Try.prog 36 #[.slice x0 n0 c0, .slice x1 n1 c1] w (RetFarOf r0 r1 w))) (HI : Hid (∀ (x0 : Option Addr) (c0 : Nat) (x1 : Option Addr) (c1 : Nat) (w : World), Rd w x0 n0 X0 → Rd w x1 n1 X1 → Calls Try.prog 37 #[.slice x0 n0 c0, .slice x1 n1 c1] w (RetFarOf r0 r1 w))) :
    Calls Try.prog 11 #[.slice x0 n0 c0, .slice x1 n1 c1] W fun e w' => e = .returned (.bool true) ∧ Below W.heap.size W w' := by
  have hcv := fun (R : Nat) (s t : Nat) => show canon .f64 (pick .f64 (fconv .f32 (pick .f32 R s) .f64) t) = canon .f64 (fconv .f32 R .f64) by rw [canon_pick, fconv_pick]
  have hcw := fun (R : Nat) (s t : Nat) => show canon .f64 (pick .f64 R s) = canon .f64 (pick .f64 R t) by rw [canon_pick, canon_pick]
  have HCV := Lib.hid hcv
  have HCW := Lib.hid hcw
  clear hcv hcw
  have hnb1 : (r1 != r1) = false := by simp
  have HB := Blw.refl W
  go_enter Try.func11, Try.ntmps11
  go_wp2_with fail
  refine (toF_any _ _ _ X0 _ (by exact hX0.below (Blw.out (by exact HB))) h0).mono ?_
  rintro e0 w0 ⟨rfl, O0, B0⟩
  replace HB := Blw.next (by exact HB) B0
  have C0 := O0
  clear O0 B0
  go_wp2_with fail
  refine (toF_any _ _ _ X1 _ (by exact hX1.below (Blw.out (by exact HB))) h1).mono ?_
  rintro e0 w0 ⟨rfl, O0, B0⟩
  replace C0 := own_below (by exact C0) B0
  replace HB := Blw.next (by exact HB) B0
  have C1 := O0
  clear O0 B0
  go_wp2_with fail
  refine (HS.out _ _ _ _ _ (rd_own (by exact C0)) (rd_own (by exact C1))).mono ?_
  rintro e0 w1 ⟨sw0, rfl, B0⟩
  clear C0
  clear C1
  replace HB := Blw.next (by exact HB) B0
  clear B0
  have Z0 := hX0.below HB.out
  have Z1 := hX1.below HB.out
  have HL := Blw.refl w1
  have E0 := (Blw.out (by exact HL)).size
  go_wp2_with fail
  refine (toF_any _ _ _ X0 _ (by exact Z0.below (Blw.out (by exact HL))) h0).mono ?_
  rintro e0 w0 ⟨rfl, O0, B0⟩
  replace HL := Blw.next (by exact HL) B0
  have D0 := O0
  clear O0 B0
  have E1 := (Blw.out (by exact HL)).size
  have Q0_1 := own_lt (by exact D0)
  go_wp2_with fail
  refine (toF_any _ _ _ X1 _ (by exact Z1.below (Blw.out (by exact HL))) h1).mono ?_
  rintro e0 w0 ⟨rfl, O0, B0⟩
  replace D0 := own_below (by exact D0) B0
  replace HL := Blw.next (by exact HL) B0
  have D1 := O0
  clear O0 B0
  have Qg0 := own_lt (by exact D0)
  have Qg1 := own_lt (by exact D1)
  have Eg := (Blw.out (by exact HL)).size
  go_wp2_with fail
  refine (HI.out _ _ _ _ _ (rd_own (by exact D0)) (rd_own (by exact D1))).mono ?_
  rintro e0 w2 ⟨sg0, rfl, B0⟩
  replace D0 := own_below (by exact D0) B0
  replace D1 := own_below (by exact D1) B0
  replace HL := Blw.next (by exact HL) B0
  clear B0
  go_wp2_with (first | ((with_reducible refine wpL_fconv ?_); refine ⟨_, _, _, rfl, Option.isSome_iff_exists.2 ⟨_, Try.underlying31⟩, Try.underlying37, FloatKind.noConfusion, convOk_widen _, fun s n => ?_⟩) | ((with_reducible refine wpL_fconv_g ?_); refine ⟨rfl, _, _, _, rfl, Option.isSome_iff_exists.2 ⟨_, Try.underlying31⟩, Try.underlying37, FloatKind.noConfusion, convOk_widen _, fun s n => ?_⟩))
  refine (sameFloat_any _ _ _ ((HCV.out _ _ _).trans (HCV.out _ _ _).symm)).mono ?_
  rintro e0 w0 ⟨rfl, q, rfl⟩
  go_wp2_with fail
  refine (toF_any _ _ _ X0 _ (by exact Z0.below (Blw.out (by exact HL))) h0).mono ?_
  rintro e0 w0 ⟨rfl, O0, B0⟩
  replace D0 := own_below (by exact D0) B0
  replace D1 := own_below (by exact D1) B0
  replace HL := Blw.next (by exact HL) B0
  have K0 := O0
  clear O0 B0
  go_wp2_with fail
  refine (eqF_any _ _ _ _ _ X0 X0 _ (by exact rd_own (by exact D0)) (by exact rd_own (by exact K0)) h0 (fun _ _ => rfl)).mono ?_
  rintro e0 w0 ⟨rfl, q, rfl⟩
  clear K0
  go_wp2_with fail
  refine (toF_any _ _ _ X1 _ (by exact Z1.below (Blw.out (by exact HL))) h1).mono ?_
  rintro e0 w0 ⟨rfl, O0, B0⟩
  replace D0 := own_below (by exact D0) B0
  replace D1 := own_below (by exact D1) B0
  replace HL := Blw.next (by exact HL) B0
  have K1 := O0
  clear O0 B0
  go_wp2_with fail
  refine (eqF_any _ _ _ _ _ X1 X1 _ (by exact rd_own (by exact D1)) (by exact rd_own (by exact K1)) h1 (fun _ _ => rfl)).mono ?_
  rintro e0 w0 ⟨rfl, q, rfl⟩
  clear K1
  go_wp2
  go_ret
  exact ⟨rfl, (Blw.out (by exact HB)).trans ((Blw.out (by exact HL)).mono (Blw.out (by exact HB)).size)⟩
set_option maxRecDepth 100000 in
set_option maxHeartbeats 1600000 in
theorem lawFarOf_any (W : World) (x0 : Option Addr) (n0 c0 : Nat) (X0 : Nat → Nat) (hX0 : Rd W x0 n0 X0) (x1 : Option Addr) (n1 c1 : Nat) (X1 : Nat → Nat) (hX1 : Rd W x1 n1 X1) :
    Calls Try.prog 11 #[.slice x0 n0 c0, .slice x1 n1 c1] W fun e w' => e = .returned (.bool true) ∧ Below W.heap.size W w' := by
  by_cases h0 : n0 ≤ 1048576
  · skip
    by_cases h1 : n1 ≤ 1048576
    · skip
      obtain ⟨r0, r1, hs, hi⟩ := bothFarOf n0 X0 h0 n1 X1 h1
      exact lawFarOf_in W x0 n0 c0 X0 hX0 x1 n1 c1 X1 hX1 h0 h1 r0 r1 (Lib.hid hs) (Lib.hid hi)
    · have h' : (1048576 : Int) < (n1 : Int) := by omega
      go_enter Try.func11, Try.ntmps11
      go_wp2
      go_ret
      exact ⟨rfl, (Blw.refl W).out⟩
  · have h' : (1048576 : Int) < (n0 : Int) := by omega
    go_enter Try.func11, Try.ntmps11
    go_wp2
    go_ret
    exact ⟨rfl, (Blw.refl W).out⟩
set_option maxRecDepth 100000 in
theorem FnExactFarOf_lifted (os : Os) (started : os.Started) (H : Type) (enc : TypeId × Value → H) :
    ReturnsInHanded {} Try.checked os 11 .any (Rows.fnExactFarOfSpec.pre6 enc Try.prog Try.f11 Rows.fnExactFarOfRow.domain false) (Rows.fnExactFarOfSpec.post enc Try.prog Try.f11 false true false false) := by
  refine returnsInHanded_of_change (C := Try.checked) ownKnob_none started (by kernel_rfl) Try.func11
    (ChangeSpec.witness6 (enc := enc) (C := Try.checked) false ⟨#[], #[.slice none 0 0, .slice none 0 0], []⟩ 8 (by kernel_rfl) (by kernel_rfl) (by kernel_rfl) (by kernel_rfl)) ?_
  intro W base args ds gs before hval0 hW _ _
  have hval : ∀ (j : Nat) t v, Try.f11.params[j]? = some t → args[j]? = some v → Value.okWide Try.prog W .any base t v := hval0
  have hW' := hW
  obtain ⟨p, q, hA0, hV, rfl, _, _⟩ := hW
  have hA : DataW.TrodAll enc Try.prog W 0 (fun _ => true) true Try.f11.params.toList args.toList ds p := hA0
  rw [Try.params11] at hA hval
  obtain ⟨v0, v1, d0, d1, p0, p1, rfl, rfl, rfl, h0, h1⟩ := trodAll_two hA
  obtain ⟨rfl, rfl⟩ := trodVars_none hV
  obtain ⟨x0, n0, c0, rfl⟩ := okWide_slice Try.underlying22 (hval 0 22 v0 rfl rfl)
  have k0 := h0
  obtain ⟨_, _, a0, w0, _⟩ := open_f32s Try.underlying22 Try.underlying31 cellsF h0
  have b0 : ∀ x ∈ p0, x.block < W.heap.size := fun x hx => by have := hW'.lt x (by simp [hx]); simpa using this
  obtain ⟨x1, n1, c1, rfl⟩ := okWide_slice Try.underlying22 (hval 1 22 v1 rfl rfl)
  have k1 := h1
  obtain ⟨_, _, a1, w1, _⟩ := open_f32s Try.underlying22 Try.underlying31 cellsF h1
  have b1 : ∀ x ∈ p1, x.block < W.heap.size := fun x hx => by have := hW'.lt x (by simp [hx]); simpa using this
  clear hA0 hval0
  refine (lawFarOf_any W x0 n0 c0 a0 w0 x1 n1 c1 a1 w1).mono fun e W' ⟨he, hb⟩ => ?_
  subst he
  have hA2 := trodAll_mk2 (enc := enc) (w := W') (base := 0) (spare := fun b => decide (b < W.heap.size)) (held := true) (Below.trod laidOut (by kernel_rfl) (of_decide_eq_true (by kernel_rfl)) k0 hb b0) (Below.trod laidOut (by kernel_rfl) (of_decide_eq_true (by kernel_rfl)) k1 hb b1)
  exact ⟨_, rfl, _, _, _, [], _, [], hW', trodAll_cons_mk (shut_bool Try.underlying4 _) trodAll_mk0, hA2, rfl, hb.frame _, fun h => by cases h⟩
theorem FnExactFarOf_holds : Rows.FnExactFarOfSaid :=
  OpenClaim.holds_of_wide 11 Try.f11 rfl rfl rfl rfl rfl rfl rfl ⟨rfl, rfl, rfl, rfl, rfl⟩ rfl rfl rfl rfl rfl (by kernel_rfl) Try.func11 (by kernel_rfl)
    (of_decide_eq_true (by kernel_rfl)) (by unfold Func.isWrapper; first | (rw [if_pos (by decide +kernel)]; kernel_rfl) | (rw [if_neg (by decide +kernel)]; exact ⟨rfl, rfl⟩))
    (fun os started H enc _ => FnExactFarOf_lifted os started H enc)
end Go.Proofs.Ytehlflldnihamaa
