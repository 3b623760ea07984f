/- Of any scan the program tells the longer one just where the model does, and the same; the scan is not changed: for all arguments. -/
import Derived.Test.YtfnapaijfdiflaaSame
import Derived.Test.YtfnapaijfdiflaaBin
import Derived.Test.YtfnapaijfdiflaaPush0
import Derived.Test.YtfnapaijfdiflaaLiC
import Derived.Test.YtfnapaijfdiflaaLaw
import Derived.Test.YtfnapaijfdiflaaCpy
namespace Go.Proofs.Ytfnapaijfdiflaa
open Go Go.ChangeShapes Go.WideShapes Go.ChangeAt Go.RowKit

/-- What is told of PadScan. -/
def RetPadScan (R0 : Nat → Nat) (m0 : Nat) (r1 : Bool) (w : World) (e : Ending) (w' : World) : Prop := ∃ (v0 : Value) (Y0 : Nat → Nat), e = .returned (.tuple #[v0, .bool r1]) ∧ w'.ownsRow w.heap.size 22 1 v0 m0 (rowOf Y0 m0) ∧ Like Y0 R0 m0 ∧ m0 ≤ 1048576 ∧ Below w.heap.size w w'
def okPad (X : Nat → Nat) (n : Nat) (m : Int) : Bool := binB X n 2 && inB m n 64
def padR (X : Nat → Nat) (n : Nat) (j : Nat) : Nat := if j < n then X j else 0
theorem padNo {R : Nat → Nat} {w w' : World} (hb : Below w.heap.size w w') : RetPadScan R 0 false w (.returned (.tuple #[.slice none 0 0, .bool false])) w' :=
  ⟨_, fun _ => 0, rfl, World.ownsRow_nil _ _ _ _, fun _ h => absurd h (Nat.not_lt_zero _), Nat.zero_le _, hb⟩
set_option maxRecDepth 100000 in
set_option maxHeartbeats 1600000 in
theorem specPad_no (xa : Option Addr) (n cx : Nat) (X : Nat → Nat) (m : Int) (w : World) (hX : Rd w xa n X) (hn : n ≤ 1048576) (R : Nat → Nat) (hk : okPad X n m = false) :
    Calls Try.prog 24 #[.slice xa n cx, .int .i64 m] w (RetPadScan R 0 false w) := by
  have HB := Lib.hid (fun (cx : Nat) w hX => specBins_any xa n cx X 2 w hX hn)
  cases c1 : binB X n 2
  · skip
    clear hk
    go_enter Try.func24, Try.ntmps24
    go_wp2_with (first | (go_at_call 57; refine (HB.out _ _ (by exact hX)).mono ?_; rintro e w' ⟨rfl, q, rfl⟩) | (first | (go_at_call 49; refine (l00In_any _ _ _ _).mono ?_; rintro e w' ⟨rfl, rfl⟩)))
    go_ret2
    refine padNo ?_
    (repeat (first | with_reducible exact Below.refl _ _ | with_reducible refine Below.drewN ?_ _ | with_reducible refine Below.setCell ?_ (by simp; try omega) _ | with_reducible refine Below.alloc ?_ (by simp; try omega) _))
  · skip
    cases c2 : inB m n 64
    · skip
      clear hk
      go_enter Try.func24, Try.ntmps24
      go_wp2_with (first | (go_at_call 57; refine (HB.out _ _ (by exact hX)).mono ?_; rintro e w' ⟨rfl, q, rfl⟩) | (first | (go_at_call 49; refine (l00In_any _ _ _ _).mono ?_; rintro e w' ⟨rfl, rfl⟩)))
      go_ret2
      refine padNo ?_
      (repeat (first | with_reducible exact Below.refl _ _ | with_reducible refine Below.drewN ?_ _ | with_reducible refine Below.setCell ?_ (by simp; try omega) _ | with_reducible refine Below.alloc ?_ (by simp; try omega) _))
    · skip
      exfalso
      rw [okPad, c1, c2] at hk
      cases hk
set_option maxRecDepth 100000 in
set_option maxHeartbeats 1600000 in
theorem implPad_no (xa : Option Addr) (n cx : Nat) (X : Nat → Nat) (m : Int) (w : World) (hX : Rd w xa n X) (hn : n ≤ 1048576) (R : Nat → Nat) (hk : okPad X n m = false) :
    Calls Try.prog 25 #[.slice xa n cx, .int .i64 m] w (RetPadScan R 0 false w) := by
  have HB := Lib.hid (fun (cx : Nat) w hX => isScan_any xa n cx X w hX hn)
  cases c1 : binB X n 2
  · skip
    clear hk
    go_enter Try.func25, Try.ntmps25
    go_wp2_with (go_at_call 64; refine (HB.out _ _ (by exact hX)).mono ?_; rintro e w' ⟨rfl, q, rfl⟩)
    go_ret2
    refine padNo ?_
    (repeat (first | with_reducible exact Below.refl _ _ | with_reducible refine Below.drewN ?_ _ | with_reducible refine Below.setCell ?_ (by simp; try omega) _ | with_reducible refine Below.alloc ?_ (by simp; try omega) _))
  · skip
    cases c2 : decide (m < (n : Int))
    rotate_left
    · skip
      clear hk
      go_enter Try.func25, Try.ntmps25
      go_wp2_with (go_at_call 64; refine (HB.out _ _ (by exact hX)).mono ?_; rintro e w' ⟨rfl, q, rfl⟩)
      go_ret2
      refine padNo ?_
      (repeat (first | with_reducible exact Below.refl _ _ | with_reducible refine Below.drewN ?_ _ | with_reducible refine Below.setCell ?_ (by simp; try omega) _ | with_reducible refine Below.alloc ?_ (by simp; try omega) _))
    · skip
      cases c3 : decide (64 < m)
      rotate_left
      · skip
        clear hk
        go_enter Try.func25, Try.ntmps25
        go_wp2_with (go_at_call 64; refine (HB.out _ _ (by exact hX)).mono ?_; rintro e w' ⟨rfl, q, rfl⟩)
        go_ret2
        refine padNo ?_
        (repeat (first | with_reducible exact Below.refl _ _ | with_reducible refine Below.drewN ?_ _ | with_reducible refine Below.setCell ?_ (by simp; try omega) _ | with_reducible refine Below.alloc ?_ (by simp; try omega) _))
      · skip
        exfalso
        have h1 := of_decide_eq_false c2
        have h2 := of_decide_eq_false c3
        rw [okPad, c1, inB_yes (by omega) (by omega)] at hk
        cases hk
/-- How many there are. -/
def lenV : Value → Nat
  | .slice _ n _ => n
  | _ => 0
set_option maxRecDepth 100000 in
set_option maxHeartbeats 3200000 in
theorem specPad_yes (xa : Option Addr) (n cx M : Nat) (X : Nat → Nat) (w : World) (hX : Rd w xa n X) (h1 : 2 ≤ n) (h2 : n ≤ M) (h3 : M ≤ 64) (hk1 : binB X n 2 = true) :
    Calls Try.prog 24 #[.slice xa n cx, .int .i64 M] w (RetPadScan (padR X n) M true w) := by
  obtain ⟨i0, hi, hz0, hz1, hz2⟩ := info_parts infoF
  have HB := Lib.hid (fun (cx : Nat) w hX => specBins_any xa n cx X 2 w hX (by omega))
  have hin : inB (M : Int) n 64 = true := inB_yes (by omega) (by omega)
  have hX' := hX
  go_enter Try.func24, Try.ntmps24
  go_wp2_with (first | (go_at_call 57; refine (HB.out _ _ (by exact hX)).mono ?_; rintro e w' ⟨rfl, q, rfl⟩) | (first | (go_at_call 49; refine (l00In_any _ _ _ _).mono ?_; rintro e w' ⟨rfl, rfl⟩)) | (at_builtin; refine wpL_copy0 hi hz0 hz1 hz2 rfl rfl rfl rfl (Rd.below (by exact hX') ((Below.refl _ _).alloc (Nat.le_refl _) _)) (by omega) (by omega) ?_; intro v0 w1 hown hB1))
  have hB : Below w.heap.size w w1 := ((Below.drewN (Below.refl _ w) q).alloc (Nat.le_refl _) (.cells #[] 22)).trans (hB1.mono (by simp))
  replace hown := own_mono0 hown (B' := w.heap.size) (by simp)
  clear hB1
  go_loopw [6] (fun v wr => ∃ k : Nat, n ≤ k ∧ k ≤ M ∧ wr.ownsRow w.heap.size 22 1 v k (rowOf (padR X n) k) ∧ Below w.heap.size w wr) (fun v _ => M - lenV v)
  case atStart => exact ⟨n, Nat.le_refl _, h2, by rw [rowOf_congr (Y := X) (fun j hj => by simp [padR, hj])]; exact hown, hB⟩
  case round =>
    obtain ⟨k, hk, hkM, hownk, hBk⟩ := hrel
    clear hown hB
    have hsz := hBk.size
    obtain ⟨xv, cv, hv, _, _, _⟩ := rd_of_own hownk
    subst hv
    by_cases hlt : k < M
    · go_wp2_with (at_builtin; refine wpL_push hi hz0 hz1 hz2 rfl rfl rfl rfl (by exact hownk) (by omega) (by exact hsz) ?_; intro v' w2 hown' hB')
      go_roundw
      case rel =>
        refine ⟨k + 1, by omega, by omega, ?_, hBk.trans hB'⟩
        rw [rowOf_congr (Y := fun j => if j = k then 0 else padR X n j) (fun j hj => by
          by_cases hjk : j = k
          · subst hjk; simp [padR, Nat.not_lt.2 hk]
          · simp [hjk])]
        exact hown'
      case measure =>
        obtain ⟨xv', cv', hv', _, _, _⟩ := rd_of_own hown'
        subst hv'
        simp [lenV]; omega
    · have hkM' : k = M := by omega
      subst hkM'
      go_wp2
      go_ret2
      exact ⟨_, _, rfl, hownk, fun _ _ => rfl, by omega, hBk⟩
set_option maxRecDepth 100000 in
set_option maxHeartbeats 3200000 in
theorem implPad_yes (xa : Option Addr) (n cx M : Nat) (X : Nat → Nat) (w : World) (hX : Rd w xa n X) (h1 : 2 ≤ n) (h2 : n ≤ M) (h3 : M ≤ 64) (hk1 : binB X n 2 = true) :
    Calls Try.prog 25 #[.slice xa n cx, .int .i64 M] w (RetPadScan (padR X n) M true w) := by
  obtain ⟨i0, hi, hz0, hz1, hz2⟩ := info_parts infoF
  have HB := Lib.hid (fun (cx : Nat) w hX => isScan_any xa n cx X w hX (by omega))
  have d1 : decide ((M : Int) < (n : Int)) = false := decide_eq_false (by omega)
  have d2 : decide ((64 : Int) < (M : Int)) = false := decide_eq_false (by omega)
  have hb : i0.bytes * M ≤ 281474976710656 := by rw [hz2]; omega
  have hm : M ≤ maxLen := by unfold maxLen; omega
  go_enter Try.func25, Try.ntmps25
  go_wp2_with (first | (go_at_call 64; refine (HB.out _ _ (by exact hX)).mono ?_; rintro e w' ⟨rfl, q, rfl⟩) | (at_make; refine wpList_make_full _ rfl _ _ 30 rfl w.heap.size 22 i0 (.float .f32 0) 1 Try.underlying30 hi hz0 hz1 _ _ _ _ M rfl rfl rfl rfl hb hm (Nat.le_refl _) ?_))
  intro w1 hown hgr
  rw [madeF] at hown
  have HO : w1.ownsRow w.heap.size 22 1 (.slice (some ⟨w.heap.size, 0, none⟩) M M) M (rowOf (fun _ => 0) M) := hown
  have hB : Below w.heap.size w w1 := (Below.drewN (Below.refl _ w) _).grown hgr (Nat.le_refl _) (fun _ h => by cases h)
  have hX1 := Rd.below hX hB
  clear hgr hb hm hX hown
  obtain ⟨w2, hcp, ho2, hb2⟩ := copyF_run (cx := cx) hX1 (by omega) h2 HO hB
  clear hX1 hB HO
  go_wp2
  go_ret2
  exact ⟨_, _, rfl, ho2, fun _ _ => rfl, by omega, hb2⟩
theorem bothPadScan (n : Nat) (X : Nat → Nat) (hn : n ≤ 1048576) (m : Int) (_ : (Lit.int .i64 m).wf = true) :
    ∃ (R : Nat → Nat) (c : Nat) (ok : Bool), (∀ (xa : Option Addr) (cx : Nat) (w : World), Rd w xa n X → Calls Try.prog 24 #[.slice xa n cx, .int .i64 m] w (RetPadScan R c ok w)) ∧
      ∀ (xa : Option Addr) (cx : Nat) (w : World), Rd w xa n X → Calls Try.prog 25 #[.slice xa n cx, .int .i64 m] w (RetPadScan R c ok w) := by
  cases hk : okPad X n m
  · exact ⟨fun _ => 0, 0, false, fun xa cx w hX => specPad_no xa n cx X m w hX hn _ hk, fun xa cx w hX => implPad_no xa n cx X m w hX hn _ hk⟩
  · unfold okPad at hk
    rw [Bool.and_eq_true] at hk
    have h1 := binB_at hk.1
    have h2 := inB_rng hk.2
    obtain ⟨M, rfl⟩ : ∃ M : Nat, m = M := ⟨m.toNat, by omega⟩
    exact ⟨padR X n, M, true, fun xa cx w hX => specPad_yes xa n cx M X w hX (by omega) (by omega) (by omega) hk.1, fun xa cx w hX => implPad_yes xa n cx M X w hX (by omega) (by omega) (by omega) hk.1⟩
set_option maxRecDepth 100000 in
set_option maxHeartbeats 6400000 in
theorem lawPadScan_in (W : World) (x0 : Option Addr) (n0 c0 : Nat) (X0 : Nat → Nat) (hX0 : Rd W x0 n0 X0) (a1 : Int) (_wf1 : (Lit.int .i64 a1).wf = true) (h0 : n0 ≤ 1048576) (R0 : Nat → Nat) (m0 : Nat) (r1 : Bool) (HS : Hid (∀ (x0 : Option Addr) (c0 : Nat) (w : World), Rd w x0 n0 X0 → Calls Try.prog 24 #[.slice x0 n0 c0, .int .i64 a1] w (RetPadScan R0 m0 r1 w))) (HI : Hid (∀ (x0 : Option Addr) (c0 : Nat) (w : World), Rd w x0 n0 X0 → Calls Try.prog 25 #[.slice x0 n0 c0, .int .i64 a1] w (RetPadScan R0 m0 r1 w))) :
    Calls Try.prog 6 #[.slice x0 n0 c0, .int .i64 a1] W fun e w' => e = .returned (.bool true) ∧ Below W.heap.size W w' := by
  have hcv := fun (R : Nat) (s t : Nat) => show canon .f64 (pick .f64 (fconv .f32 (pick .f32 R s) .f64) t) = canon .f64 (fconv .f32 R .f64) by rw [canon_pick, fconv_pick]
  have hcw := fun (R : Nat) (s t : Nat) => show canon .f64 (pick .f64 R s) = canon .f64 (pick .f64 R t) by rw [canon_pick, canon_pick]
  have HCV := Lib.hid hcv
  have HCW := Lib.hid hcw
  clear hcv hcw
  have hnb1 : (r1 != r1) = false := by simp
  have HB := Blw.refl W
  go_enter Try.func6, Try.ntmps6
  go_wp2_with fail
  refine (toF_any _ _ _ X0 _ (by exact hX0.below (Blw.out (by exact HB))) h0).mono ?_
  rintro e0 w0 ⟨rfl, O0, B0⟩
  replace HB := Blw.next (by exact HB) B0
  have C0 := O0
  clear O0 B0
  go_wp2_with fail
  refine (HS.out _ _ _ (rd_own (by exact C0))).mono ?_
  rintro e0 w1 ⟨vw0, Yw0, rfl, Ow0, Lw0, mw0, B0⟩
  clear C0
  replace HB := Blw.next (by exact HB) B0
  clear B0
  have Z0 := hX0.below HB.out
  obtain ⟨xw0, cw0, rfl, _, _, Rw0⟩ := rd_of_own Ow0
  clear Ow0
  have HL := Blw.refl w1
  have E0 := (Blw.out (by exact HL)).size
  go_wp2_with fail
  refine (toF_any _ _ _ X0 _ (by exact Z0.below (Blw.out (by exact HL))) h0).mono ?_
  rintro e0 w0 ⟨rfl, O0, B0⟩
  replace HL := Blw.next (by exact HL) B0
  have D0 := O0
  clear O0 B0
  have Qg0 := own_lt (by exact D0)
  have Eg := (Blw.out (by exact HL)).size
  go_wp2_with fail
  refine (HI.out _ _ _ (rd_own (by exact D0))).mono ?_
  rintro e0 w2 ⟨vg0, Yg0, rfl, Og0, Lg0, mg0, B0⟩
  replace D0 := own_below (by exact D0) B0
  replace HL := Blw.next (by exact HL) B0
  clear B0
  have O_0 := Og0
  obtain ⟨xg0, cg0, rfl, _, _, Rg0⟩ := rd_of_own O_0
  clear O_0
  go_wp2_with fail
  refine (eqF_any _ _ _ _ _ Yg0 Yw0 _ (by exact Rg0) (by exact Rw0.below (Blw.out (by exact HL))) mw0 (fun i hi => (Lg0 i hi).trans (Lw0 i hi).symm)).mono ?_
  rintro e0 w0 ⟨rfl, q, rfl⟩
  go_wp2_with fail
  refine (toF_any _ _ _ X0 _ (by exact Z0.below (Blw.out (by exact HL))) h0).mono ?_
  rintro e0 w0 ⟨rfl, O0, B0⟩
  replace D0 := own_below (by exact D0) B0
  replace Og0 := own_below (by exact Og0) B0
  replace HL := Blw.next (by exact HL) B0
  have K0 := O0
  clear O0 B0
  go_wp2_with fail
  refine (eqF_any _ _ _ _ _ X0 X0 _ (by exact rd_own (by exact D0)) (by exact rd_own (by exact K0)) h0 (fun _ _ => rfl)).mono ?_
  rintro e0 w0 ⟨rfl, q, rfl⟩
  clear K0
  go_wp2_with fail
  refine (markX_any _ _ n0 _ X0 _ _ (by exact D0) h0 (by omega) (by omega)).mono ?_
  rintro e0 w0 ⟨rfl, N0⟩
  replace Og0 := own_only (by exact Og0) (by exact Qg0) N0
  replace HL := Blw.only (by exact HL) E0 N0
  clear N0 D0
  have hk1 : (0 : Int) ≤ 1 + (n0 : Int) := by omega
  replace Rg0 := rd_own' (by exact Og0)
  go_wp2_with fail
  refine (eqF_any _ _ _ _ _ Yg0 Yw0 _ (by exact Rg0) (by exact Rw0.below (Blw.out (by exact HL))) mw0 (fun i hi => (Lg0 i hi).trans (Lw0 i hi).symm)).mono ?_
  rintro e0 w0 ⟨rfl, q, rfl⟩
  clear Rg0
  go_wp2_with fail
  refine (markF_any _ _ m0 Yg0 _ _ (by exact Og0) mg0 (by omega) (by omega)).mono ?_
  rintro e0 w0 ⟨rfl, Ok0, B0⟩
  replace HL := Blw.nextB (by exact HL) (B0.mono Eg)
  clear B0 Og0
  have hm1 : (0 : Int) ≤ 1 + (m0 : Int) := by omega
  go_wp2_with fail
  refine (heldF_any _ _ m0 _ _ (by exact Ok0) mg0 (by omega) (by omega)).mono ?_
  rintro e0 w0 ⟨rfl, rfl⟩
  go_wp2_with fail
  refine (toF_any _ _ _ X0 _ (by exact Z0.below (Blw.out (by exact HL))) h0).mono ?_
  rintro e0 w0 ⟨rfl, O0, B0⟩
  replace Ok0 := own_below (by exact Ok0) B0
  replace HL := Blw.next (by exact HL) B0
  have C0 := O0
  clear O0 B0
  go_wp2_with fail
  refine (HI.out _ _ _ (rd_own (by exact C0))).mono ?_
  rintro e0 w3 ⟨vh0, Yh0, rfl, Oh0, Lh0, mh0, B0⟩
  replace Ok0 := own_below (by exact Ok0) B0
  clear C0
  replace HL := Blw.next (by exact HL) B0
  clear B0
  obtain ⟨xh0, ch0, rfl, _, _, Rh0⟩ := rd_of_own Oh0
  clear Oh0
  go_wp2_with fail
  refine (eqF_any _ _ _ _ _ Yh0 Yw0 _ (by exact Rh0) (by exact Rw0.below (Blw.out (by exact HL))) mw0 (fun i hi => (Lh0 i hi).trans (Lw0 i hi).symm)).mono ?_
  rintro e0 w0 ⟨rfl, q, rfl⟩
  clear Rh0
  go_wp2_with fail
  refine (heldF_any _ _ m0 _ _ (by exact Ok0) mg0 (by omega) (by omega)).mono ?_
  rintro e0 w0 ⟨rfl, rfl⟩
  go_wp2
  go_ret
  exact ⟨rfl, (Blw.out (by exact HB)).trans ((Blw.out (by exact HL)).mono (Blw.out (by exact HB)).size)⟩
set_option maxHeartbeats 1600000 in
theorem lawPadScan_any (W : World) (x0 : Option Addr) (n0 c0 : Nat) (X0 : Nat → Nat) (hX0 : Rd W x0 n0 X0) (a1 : Int) (_wf1 : (Lit.int .i64 a1).wf = true) :
    Calls Try.prog 6 #[.slice x0 n0 c0, .int .i64 a1] W fun e w' => e = .returned (.bool true) ∧ Below W.heap.size W w' := by
  by_cases h0 : n0 ≤ 1048576
  · skip
    obtain ⟨R0, m0, r1, hs, hi⟩ := bothPadScan n0 X0 h0 a1 _wf1
    exact lawPadScan_in W x0 n0 c0 X0 hX0 a1 _wf1 h0 R0 m0 r1 (Lib.hid hs) (Lib.hid hi)
  · have h' : (1048576 : Int) < (n0 : Int) := by omega
    go_enter Try.func6, Try.ntmps6
    go_wp2
    go_ret
    exact ⟨rfl, (Blw.refl W).out⟩
set_option maxRecDepth 100000 in
theorem FnExactPadScan_lifted (os : Os) (started : os.Started) (H : Type) (enc : TypeId × Value → H) :
    ReturnsInHanded {} Try.checked os 6 .any (Rows.fnExactPadScanSpec.pre6 enc Try.prog Try.f6 Rows.fnExactPadScanRow.domain false) (Rows.fnExactPadScanSpec.post enc Try.prog Try.f6 false true false false) := by
  refine returnsInHanded_of_change (C := Try.checked) ownKnob_none started (by kernel_rfl) Try.func6
    (ChangeSpec.witness6 (enc := enc) (C := Try.checked) false ⟨#[], #[.slice none 0 0, .int .i64 0], []⟩ 8 (by kernel_rfl) (by kernel_rfl) (by kernel_rfl) (by kernel_rfl)) ?_
  intro W base args ds gs before hval0 hW _ _
  have hval : ∀ (j : Nat) t v, Try.f6.params[j]? = some t → args[j]? = some v → Value.okWide Try.prog W .any base t v := hval0
  have hW' := hW
  obtain ⟨p, q, hA0, hV, rfl, _, _⟩ := hW
  have hA : DataW.TrodAll enc Try.prog W 0 (fun _ => true) true Try.f6.params.toList args.toList ds p := hA0
  rw [Try.params6] at hA hval
  obtain ⟨v0, v1, d0, d1, p0, p1, rfl, rfl, rfl, h0, h1⟩ := trodAll_two hA
  obtain ⟨rfl, rfl⟩ := trodVars_none hV
  obtain ⟨x0, n0, c0, rfl⟩ := okWide_slice Try.underlying30 (hval 0 30 v0 rfl rfl)
  have k0 := h0
  obtain ⟨_, _, a0, w0, _⟩ := open_f32s Try.underlying30 Try.underlying22 cellsF h0
  have b0 : ∀ x ∈ p0, x.block < W.heap.size := fun x hx => by have := hW'.lt x (by simp [hx]); simpa using this
  obtain ⟨a1, rfl, rfl, rfl, w1⟩ := open_int Try.underlying2 (hval 1 2 v1 rfl rfl) h1
  clear hA0 hval0
  refine (lawPadScan_any W x0 n0 c0 a0 w0 a1 w1).mono fun e W' ⟨he, hb⟩ => ?_
  subst he
  have hA2 := trodAll_mk2 (enc := enc) (w := W') (base := 0) (spare := fun b => decide (b < W.heap.size)) (held := true) (Below.trod laidOut (by kernel_rfl) (of_decide_eq_true (by kernel_rfl)) k0 hb b0) (shut_int Try.underlying2 w1)
  exact ⟨_, rfl, _, _, _, [], _, [], hW', trodAll_cons_mk (shut_bool Try.underlying4 _) trodAll_mk0, hA2, rfl, hb.frame _, fun h => by cases h⟩
theorem FnExactPadScan_holds : Rows.FnExactPadScanSaid :=
  OpenClaim.holds_of_wide 6 Try.f6 rfl rfl rfl rfl rfl rfl rfl ⟨rfl, rfl, rfl, rfl, rfl⟩ rfl rfl rfl rfl rfl (by kernel_rfl) Try.func6 (by kernel_rfl)
    (of_decide_eq_true (by kernel_rfl)) (by unfold Func.isWrapper; first | (rw [if_pos (by decide +kernel)]; kernel_rfl) | (rw [if_neg (by decide +kernel)]; exact ⟨rfl, rfl⟩))
    (fun os started H enc _ => FnExactPadScan_lifted os started H enc)
end Go.Proofs.Ytfnapaijfdiflaa
