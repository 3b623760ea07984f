/- Numbers at places by a step: as the program tells them. -/
import Derived.Test.YtehlflldnihamaaSame
import Derived.Test.YtehlflldnihamaaLiC
import Derived.Test.YtehlflldnihamaaLaw
import Derived.Test.YtehlflldnihamaaAts
import Derived.Test.YtehlflldnihamaaArr
import Derived.Deep.RegionWith
namespace Go.Proofs.Ytehlflldnihamaa
open Go Go.ChangeShapes Go.WideShapes Go.ChangeAt Go.RowKit

theorem placesA_any (a b : Nat) (w : World) :
    Calls Try.prog 72 #[.float .f32 a, .float .f32 b] w fun e w' => e = .returned (.func (.func 97) #[] #[.pointer (some ⟨w.heap.size, 0, none⟩), .pointer (some ⟨w.heap.size + 1, 0, none⟩)]) ∧ w' = (w.alloc (.cells #[.float .f32 a] 31)).alloc (.cells #[.float .f32 b] 31) := by
  go_enter Try.func72, Try.ntmps72
  go_wp2
  go_ret
  exact ⟨rfl, rfl⟩
set_option maxRecDepth 100000 in
theorem place1A_any (a b k p q : Nat) (w : World) (hp0 : w.cell? ⟨p, 0, none⟩ = some (.float .f32 a)) (hq0 : w.cell? ⟨q, 0, none⟩ = some (.float .f32 b)) (hn : isNaN .f32 (plA a b k) = false) :
    Calls Try.prog 97 #[.int .i64 (k : Int), .pointer (some ⟨p, 0, none⟩), .pointer (some ⟨q, 0, none⟩)] w fun e w' => e = .returned (.float .f32 (plA a b k)) ∧ ∃ m, w' = w.drewN m := by
  have hp := fun op => fbin_pick_l op .f32
  have hq := fun op => fbin_pick_r op .f32
  have HF := Lib.hid (show ∀ s, (.returned (.float .f32 (pick .f32 (fbin .add .f32 a (fbin .mul .f32 (floatOfInt .f32 (k : Int)) b)) s)) : Ending) = .returned (.float .f32 (plA a b k)) from fun s => by
    rw [show fbin .add .f32 a (fbin .mul .f32 (floatOfInt .f32 (k : Int)) b) = plA a b k from rfl, pick_num hn])
  clear hn
  go_enter Try.func97, Try.ntmps97
  go_wp2_with ((with_reducible refine wpL_fbin ?_); refine ⟨_, _, _, rfl, rfl, rfl, fun s n => ?_⟩)
  go_ret
  exact ⟨HF.out _, _, rfl⟩
set_option maxRecDepth 100000 in
set_option maxHeartbeats 3200000 in
theorem numberAt_any (xb xo L cx : Nat) (X : Nat → Nat) (P : Nat) (w : World) (hcx : ∀ i, i < L + 1 → w.cell? ⟨xb, xo + i, none⟩ = some (.float .f32 (X i))) (hL : L < 128) (hf : ∀ i, i < L + 1 → isFin .f32 (X i) = true) (hnP : isNaN .f32 P = false) (hP32 : P < 4294967296) :
    Calls Try.prog 73 #[.slice (some ⟨xb, xo, none⟩) (L + 1) cx, .float .f32 P] w (FltRet (atV X L P) w) := by
  have HX := Lib.hid hcx
  have HFX := Lib.hid hf
  have hwL : IntKind.i64.wrap (L : Int) = (L : Int) := by rw [IntKind.wrap_i64]; omega
  clear hcx hf
  cases hz : (ltZ P || gtL L P)
  · rw [Bool.or_eq_false_iff] at hz
    obtain ⟨hz1, hz2⟩ := hz
    have hfP := mid_fin hnP hz1 hL hz2
    obtain ⟨hk1, hki⟩ := whole_of hP32 hfP hz1 hL hz2
    have t1 : (FloatKind.f32.format.order P 0 == some .lt) = false := hz1
    have t2 : (FloatKind.f32.format.order P (floatOfInt .f32 (L : Int)) == some .gt) = false := hz2
    obtain ⟨k, hk⟩ : ∃ k, k = atK P := ⟨_, rfl⟩
    have HV := Lib.hid (show atV X L P = if k = L then X L else fbin .add .f32 (X k) (fbin .mul .f32 (fbin .sub .f32 P (floatOfInt .f32 (k : Int))) (fbin .sub .f32 (X (k + 1)) (X k))) by
      rw [atV, hz1, hz2, if_neg (by simp), ← hk])
    rw [← hk] at hk1 hki
    have c1 := HX.out k (by omega)
    have hkL : (k : Int) < (L : Int) + 1 := by omega
    clear hz1 hz2 hk
    by_cases hkl : k = L
    · have HW := Lib.hid (show atV X L P = X k by rw [HV.out, if_pos hkl, hkl])
      have hkl' : ((k : Int) == (L : Int)) = true := by simpa using (by omega : (k : Int) = (L : Int))
      have HNx := Lib.hid (num_fin (HFX.out k (by omega)))
      clear hkl
      go_enter Try.func73, Try.ntmps73
      go_wp2_with ((with_reducible refine wpL_ftoi ?_); refine ⟨_, _, _, _, rfl, Option.isSome_iff_exists.2 ⟨_, Try.underlying31⟩, Try.underlying3, hki, ?_⟩)
      go_ret
      exact ⟨0, 0, by rw [HW.out, pick_num HNx.out]; rfl, rfl⟩
    · have hkl' : ((k : Int) == (L : Int)) = false := by simpa using (by omega : ¬ (k : Int) = (L : Int))
      have c2 := HX.out (k + 1) (by omega)
      have hk2 : (k : Int) + 1 < (L : Int) + 1 := by omega
      have hk3 : k + 1 < L + 1 := by omega
      obtain ⟨D1, hD1⟩ : ∃ D1, fbin .sub .f32 P (floatOfInt .f32 (k : Int)) = D1 := ⟨_, rfl⟩
      obtain ⟨D2, hD2⟩ : ∃ D2, fbin .sub .f32 (X (k + 1)) (X k) = D2 := ⟨_, rfl⟩
      obtain ⟨D3, hD3⟩ : ∃ D3, fbin .mul .f32 D1 D2 = D3 := ⟨_, rfl⟩
      obtain ⟨D4, hD4⟩ : ∃ D4, fbin .add .f32 (X k) D3 = D4 := ⟨_, rfl⟩
      have HW := Lib.hid (show atV X L P = D4 by rw [HV.out, if_neg hkl, hD1, hD2, hD3, hD4])
      have n1 : isNaN .f32 D1 = false := by rw [← hD1]; exact nan_sub hnP (int_fin (by omega))
      have n2 : isNaN .f32 D2 = false := by rw [← hD2]; exact nan_sub (num_fin (HFX.out _ (by omega))) (HFX.out k (by omega))
      have q1 := fun t => run_numop (op := .sub) rfl t _ _ _ hD1 n1
      have q2 := fun t => run_numop (op := .sub) rfl t _ _ _ hD2 n2
      have hfk := HFX.out k (by omega)
      clear hkl n1 n2
      cases nP : isNaN .f32 D3
      · have q3 := fun t => run_numop (op := .mul) rfl t _ _ _ hD3 nP
        have n4 : isNaN .f32 D4 = false := by rw [← hD4]; exact add_fin_l hfk nP
        have q4 := fun t => run_numop (op := .add) rfl t _ _ _ hD4 n4
        have HN4 := Lib.hid n4
        clear nP n4 hD1 hD2 hD3 hD4
        go_enter Try.func73, Try.ntmps73
        go_wp2_with ((with_reducible refine wpL_ftoi ?_); refine ⟨_, _, _, _, rfl, Option.isSome_iff_exists.2 ⟨_, Try.underlying31⟩, Try.underlying3, hki, ?_⟩)
        go_quiet (fail)
        go_wp2
        go_ret
        exact ⟨0, _, by rw [HW.out, pick_num HN4.out]; rfl, rfl⟩
      · have q3 := run_mul32
        have q4 := run_add32
        have hq := fbin_pick_r .add .f32
        clear nP hD1 hD2
        go_enter Try.func73, Try.ntmps73
        go_wp2_with ((with_reducible refine wpL_ftoi ?_); refine ⟨_, _, _, _, rfl, Option.isSome_iff_exists.2 ⟨_, Try.underlying31⟩, Try.underlying3, hki, ?_⟩)
        go_region
        go_wp2
        go_ret
        exact ⟨_, _, by rw [HW.out]; rfl, rfl⟩
  · have HW := Lib.hid (show atV X L P = 0 by rw [atV, hz, if_pos rfl])
    cases hz1 : ltZ P
    · have hz2 : gtL L P = true := by rw [hz1, Bool.false_or] at hz; exact hz
      have t1 : (FloatKind.f32.format.order P 0 == some .lt) = false := hz1
      have t2 : (FloatKind.f32.format.order P (floatOfInt .f32 (L : Int)) == some .gt) = true := hz2
      clear hz hz1 hz2
      go_enter Try.func73, Try.ntmps73
      go_wp2
      go_ret
      exact ⟨0, 0, by rw [HW.out, pick_zero]; rfl, rfl⟩
    · have t1 : (FloatKind.f32.format.order P 0 == some .lt) = true := hz1
      clear hz hz1
      go_enter Try.func73, Try.ntmps73
      go_wp2
      go_ret
      exact ⟨0, 0, by rw [HW.out, pick_zero]; rfl, rfl⟩
set_option maxRecDepth 100000 in
set_option maxHeartbeats 1600000 in
theorem implAts_no (xa : Option Addr) (n cx : Nat) (X : Nat → Nat) (a b : Nat) (c : Int) (w : World) (hX : Rd w xa n X) (hn : n ≤ 1048576) (R : Nat → Nat) (hk : okAts X n a b c = false) :
    Calls Try.prog 32 #[.slice xa n cx, .float .f32 a, .float .f32 b, .int .i64 c] w (LstRet R 0 false w) := by
  have HT := Lib.hid (fun w hX => implLst_any xa n cx X w hX hn _ (Lib.hid rfl))
  have hf := finL_two a b
  cases c1 : okLst X n
  · skip
    rw [c1] at HT
    clear hk c1 hf
    go_enter Try.func32, Try.ntmps32
    go_wp2_with (first | (go_at_call 50; refine (HT.out _ (by exact hX)).mono ?_; rintro e w' ⟨rfl, q, rfl⟩) | (first | (go_at_call 71; refine (allFinite_any _ _ _ (duo _ _) _ (by exact rd_two' _ _ _ _ (by simp)) (by omega)).mono ?_; rintro e w' ⟨rfl, q, rfl⟩)))
    go_ret2
    refine lstNo ?_
    (repeat (first | with_reducible exact Below.refl _ _ | with_reducible refine Below.drewN ?_ _ | with_reducible refine Below.setCell ?_ (by simp; try omega) _ | with_reducible refine Below.alloc ?_ (by simp; try omega) _))
  · skip
    cases c2 : finL (duo a b) 2
    · skip
      rw [c1] at HT
      clear hk c1 hf
      go_enter Try.func32, Try.ntmps32
      go_wp2_with (first | (go_at_call 50; refine (HT.out _ (by exact hX)).mono ?_; rintro e w' ⟨rfl, q, rfl⟩) | (first | (go_at_call 71; refine (allFinite_any _ _ _ (duo _ _) _ (by exact rd_two' _ _ _ _ (by simp)) (by omega)).mono ?_; rintro e w' ⟨rfl, q, rfl⟩)))
      go_ret2
      refine lstNo ?_
      (repeat (first | with_reducible exact Below.refl _ _ | with_reducible refine Below.drewN ?_ _ | with_reducible refine Below.setCell ?_ (by simp; try omega) _ | with_reducible refine Below.alloc ?_ (by simp; try omega) _))
    · skip
      cases c3 : decide (c < 1)
      rotate_left
      · skip
        rw [c1] at HT
        clear hk c1 hf
        go_enter Try.func32, Try.ntmps32
        go_wp2_with (first | (go_at_call 50; refine (HT.out _ (by exact hX)).mono ?_; rintro e w' ⟨rfl, q, rfl⟩) | (first | (go_at_call 71; refine (allFinite_any _ _ _ (duo _ _) _ (by exact rd_two' _ _ _ _ (by simp)) (by omega)).mono ?_; rintro e w' ⟨rfl, q, rfl⟩)))
        go_ret2
        refine lstNo ?_
        (repeat (first | with_reducible exact Below.refl _ _ | with_reducible refine Below.drewN ?_ _ | with_reducible refine Below.setCell ?_ (by simp; try omega) _ | with_reducible refine Below.alloc ?_ (by simp; try omega) _))
      · skip
        cases c4 : decide (128 < c)
        rotate_left
        · skip
          rw [c1] at HT
          clear hk c1 hf
          go_enter Try.func32, Try.ntmps32
          go_wp2_with (first | (go_at_call 50; refine (HT.out _ (by exact hX)).mono ?_; rintro e w' ⟨rfl, q, rfl⟩) | (first | (go_at_call 71; refine (allFinite_any _ _ _ (duo _ _) _ (by exact rd_two' _ _ _ _ (by simp)) (by omega)).mono ?_; rintro e w' ⟨rfl, q, rfl⟩)))
          go_ret2
          refine lstNo ?_
          (repeat (first | with_reducible exact Below.refl _ _ | with_reducible refine Below.drewN ?_ _ | with_reducible refine Below.setCell ?_ (by simp; try omega) _ | with_reducible refine Below.alloc ?_ (by simp; try omega) _))
        · skip
          exfalso
          have h1 := of_decide_eq_false c3
          have h2 := of_decide_eq_false c4
          rw [c2] at hf
          have hf' : isFin .f32 a = true ∧ isFin .f32 b = true := by simpa using hf.symm
          rw [okAts, c1, hf'.1, hf'.2, inB_yes (by omega) (by omega)] at hk
          cases hk
theorem mkA_any (w : World) (c : Nat) (h2 : c ≤ 128) (O : Obj) (hO : O = .cells (madeCells #[.float .f32 0] c) 31) : (Instr.makeSlice 22 (.int .i64 (c : Int)) (.int .i64 (c : Int))).run Try.prog w = .ok (.slice (some ⟨w.heap.size, 0, none⟩) c c) (w.alloc O) := by
  obtain ⟨i0, hi, hz0, hz1, hz2⟩ := info_parts infoF
  have h := run_make (P := Try.prog) w 22 31 i0 (.float .f32 0) Try.underlying22 hi hz0 .i64 .i64 (c : Int) (c : Int) (by omega) (Int.le_refl _) (by rw [hz2]; omega) (by omega)
  rw [hz1, Nat.mul_one, Int.toNat_natCast] at h
  rw [hO]
  exact h
theorem mkA_own (w : World) (g c : Nat) (h2 : c ≤ 128) (O : Obj) (hO : O = .cells (madeCells #[.float .f32 0] c) 31) (base : Nat) (hg : w.heap.size = g) (hb : base ≤ w.heap.size) : (w.alloc O).ownsRow base 31 1 (.slice (some ⟨g, 0, none⟩) c c) c (rowOf (fun _ => 0) c) := by
  subst hg
  have h := World.ownsRow_lit (e := 31) (base := base) (size := 1) w (madeCells #[Value.float .f32 0] c) c hb (by unfold maxLen; omega) (by rw [size_madeCells, Nat.mul_one])
  rw [madeF] at h
  rw [hO]
  exact h
set_option maxRecDepth 100000 in
set_option maxHeartbeats 3200000 in
theorem implAts_yes (xa : Option Addr) (L cx : Nat) (X : Nat → Nat) (a b C : Nat) (w : World) (hX : Rd w xa (L + 1) X) (hL : L < 128) (hfx : finL X (L + 1) = true) (ha : isFin .f32 a = true) (hb : isFin .f32 b = true) (hC1 : 1 ≤ C) (hC : C ≤ 128) (ok : Bool) (ho : Hid (ok = finL (atR X L a b) C)) (m : Nat) (hm : Hid (m = if ok = true then C else 0)) :
    Calls Try.prog 32 #[.slice xa (L + 1) cx, .float .f32 a, .float .f32 b, .int .i64 (C : Int)] w (LstRet (atR X L a b) m ok w) := by
  have HT := Lib.hid (fun w hX => implLst_any xa (L + 1) cx X w hX (by omega) true (Lib.hid (by rw [okLst, hfx, inB_yes (by omega) (by omega)]; rfl)))
  have dl : decide ((C : Int) < 1) = false := decide_eq_false (by omega)
  have dg : decide (128 < (C : Int)) = false := decide_eq_false (by omega)
  have hf := finL_two a b
  rw [ha, hb] at hf
  obtain ⟨O, hO⟩ : ∃ O : Obj, O = .cells (madeCells #[.float .f32 0] C) 31 := ⟨_, rfl⟩
  have hmk := fun w => mkA_any w C hC O hO
  have hol := fun w0 g hg h => mkA_own w0 g C hC O hO w.heap.size hg h
  have HOL := Lib.hid hol
  have HFX := Lib.hid (finL_at hfx)
  have HA := Lib.hid ha
  have HB := Lib.hid hb
  obtain ⟨xb, xo, hxa, hcx⟩ := id hX
  have e := hxa (by omega)
  subst e
  have HX := Lib.hid hcx
  clear hol hO hcx hxa hfx ha hb
  go_enter Try.func32, Try.ntmps32
  go_wp2_with (first | (go_at_call 50; refine (HT.out _ (by exact hX)).mono ?_; rintro e w' ⟨rfl, qa, rfl⟩) | (first | (go_at_call 71; refine (allFinite_any _ _ _ (duo _ _) _ (by exact rd_two' _ _ _ _ (by simp)) (by omega)).mono ?_; rintro e w' ⟨rfl, q, rfl⟩)))
  go_region_with (first | (go_at_call 72; refine (placesA_any _ _ _).mono ?_; rintro e0 w0 ⟨rfl, rfl⟩))
  · go_wp2
    go_loopw [38] (fun i wr => ∃ (k : Nat) (Z : Nat → Nat), k ≤ C ∧ i = .int .i64 k ∧ wr.ownsRow w.heap.size 31 1 (.slice (some ⟨w.heap.size + 1, 0, none⟩) C C) C (rowOf Z C) ∧ LikeP Z (atR X L a b) k ∧ Below w.heap.size w wr ∧ wr.cell? ⟨w.heap.size + 1 + 1, 0, none⟩ = some (.float .f32 a) ∧ wr.cell? ⟨w.heap.size + 1 + 1 + 1, 0, none⟩ = some (.float .f32 b)) (fun i _ => C - (intOf i).toNat)
    case atStart =>
      refine ⟨0, fun _ => 0, Nat.zero_le _, rfl, ?_, fun _ h => absurd h (Nat.not_lt_zero _), ?_, by simp [go_sem], by simp [go_sem]⟩
      · exact ((HOL.out _ _ (by simp) (by simp)).alloc _).alloc _
      · (repeat (first | with_reducible exact Below.refl _ _ | with_reducible refine Below.drewN ?_ _ | with_reducible refine Below.setCell ?_ (by simp; try omega) _ | with_reducible refine Below.alloc ?_ (by simp; try omega) _))
    case round =>
      obtain ⟨k, Z, hk, rfl, hownk, hLk, hBk, hcp, hcq⟩ := hrel
      by_cases hlt : k < C
      · have hnP : isNaN .f32 (plA a b k) = false := plA_num HA.out HB.out (by omega)
        have HP := Lib.hid (place1A_any a b k (w.heap.size + 1 + 1) (w.heap.size + 1 + 1 + 1) wr hcp hcq hnP)
        have HV := Lib.hid (fun m => numberAt_any xb xo L cx X (plA a b k) (wr.drewN m) (fun i hi => (hBk.cell (p := ⟨xb, xo + i, none⟩) (World.block_lt_of_cell? w _ (HX.out i hi))).trans (HX.out i hi)) hL HFX.out hnP (plA_lt a b k))
        have hU : atV X L (plA a b k) = atR X L a b k := rfl
        rw [hU] at HV
        obtain ⟨P, hP⟩ : ∃ P, P = plA a b k := ⟨_, rfl⟩
        rw [← hP] at HP HV
        have st := fun q u => own_store hownk hlt q u
        have HOk := Lib.hid hownk
        clear hP hU hnP hownk
        go_wp2_with (first | (go_at_call 97; refine HP.out.mono ?_; rintro e w' ⟨rfl, qd, rfl⟩) | (go_at_call 73; refine (HV.out _).mono ?_; rintro e w' ⟨s2, m2, rfl, rfl⟩))
        go_roundw
        case rel => exact ⟨k + 1, _, by omega, by go_num, own_stored (own_drew HOk.out _) k _, hLk.push rfl, Below.setCell (Below.drewN hBk _) (by simp; try omega) _, (World.cell?_setCell_other _ _ _ _ (by intro e; injection e with e1; omega)).trans hcp, (World.cell?_setCell_other _ _ _ _ (by intro e; injection e with e1; omega)).trans hcq⟩
        case measure => simp [intOf]; omega
      · have hkC : k = C := by omega
        subst hkC
        have HF := Lib.hid (show LstRet (atR X L a b) (if finL (atR X L a b) k = true then k else 0) (finL (atR X L a b) k) w = LstRet (atR X L a b) m ok w by rw [hm.out, ho.out])
        go_wp2_with fail
        refine (onlyFinite_any _ _ k Z _ (by exact hownk) (by omega)).mono ?_
        rintro e w' ⟨rfl, q2, rfl⟩
        have HV := Lib.hid (lstGive hLk.like hownk (by omega) hBk)
        cases hfz : finL Z k
        · rw [hfz] at HV
          go_wp2
          go_ret2
          rw [← HF.out]
          obtain ⟨a, b, h3, h4, h5, h6, h7⟩ := HV.out
          exact ⟨a, b, h3, h4, h5, h6, Below.drewN h7 _⟩
        · rw [hfz] at HV
          go_wp2
          go_ret2
          rw [← HF.out]
          obtain ⟨a, b, h3, h4, h5, h6, h7⟩ := HV.out
          exact ⟨a, b, h3, h4, h5, h6, Below.drewN h7 _⟩
  · go_wp2
    go_loopw [38] (fun i wr => ∃ (k : Nat) (Z : Nat → Nat), k ≤ C ∧ i = .int .i64 k ∧ wr.ownsRow w.heap.size 31 1 (.slice (some ⟨w.heap.size + 1 + 1 + 1, 0, none⟩) C C) C (rowOf Z C) ∧ LikeP Z (atR X L a b) k ∧ Below w.heap.size w wr ∧ wr.cell? ⟨w.heap.size + 1, 0, none⟩ = some (.float .f32 a) ∧ wr.cell? ⟨w.heap.size + 1 + 1, 0, none⟩ = some (.float .f32 b)) (fun i _ => C - (intOf i).toNat)
    case atStart =>
      refine ⟨0, fun _ => 0, Nat.zero_le _, rfl, ?_, fun _ h => absurd h (Nat.not_lt_zero _), ?_, by simp [go_sem], by simp [go_sem]⟩
      · exact HOL.out _ _ (by simp) (by simp; try omega)
      · (repeat (first | with_reducible exact Below.refl _ _ | with_reducible refine Below.drewN ?_ _ | with_reducible refine Below.setCell ?_ (by simp; try omega) _ | with_reducible refine Below.alloc ?_ (by simp; try omega) _))
    case round =>
      obtain ⟨k, Z, hk, rfl, hownk, hLk, hBk, hcp, hcq⟩ := hrel
      by_cases hlt : k < C
      · have hnP : isNaN .f32 (plA a b k) = false := plA_num HA.out HB.out (by omega)
        have HP := Lib.hid (place1A_any a b k (w.heap.size + 1) (w.heap.size + 1 + 1) wr hcp hcq hnP)
        have HV := Lib.hid (fun m => numberAt_any xb xo L cx X (plA a b k) (wr.drewN m) (fun i hi => (hBk.cell (p := ⟨xb, xo + i, none⟩) (World.block_lt_of_cell? w _ (HX.out i hi))).trans (HX.out i hi)) hL HFX.out hnP (plA_lt a b k))
        have hU : atV X L (plA a b k) = atR X L a b k := rfl
        rw [hU] at HV
        obtain ⟨P, hP⟩ : ∃ P, P = plA a b k := ⟨_, rfl⟩
        rw [← hP] at HP HV
        have st := fun q u => own_store hownk hlt q u
        have HOk := Lib.hid hownk
        clear hP hU hnP hownk
        go_wp2_with (first | (go_at_call 97; refine HP.out.mono ?_; rintro e w' ⟨rfl, qd, rfl⟩) | (go_at_call 73; refine (HV.out _).mono ?_; rintro e w' ⟨s2, m2, rfl, rfl⟩))
        go_roundw
        case rel => exact ⟨k + 1, _, by omega, by go_num, own_stored (own_drew HOk.out _) k _, hLk.push rfl, Below.setCell (Below.drewN hBk _) (by simp; try omega) _, (World.cell?_setCell_other _ _ _ _ (by intro e; injection e with e1; omega)).trans hcp, (World.cell?_setCell_other _ _ _ _ (by intro e; injection e with e1; omega)).trans hcq⟩
        case measure => simp [intOf]; omega
      · have hkC : k = C := by omega
        subst hkC
        have HF := Lib.hid (show LstRet (atR X L a b) (if finL (atR X L a b) k = true then k else 0) (finL (atR X L a b) k) w = LstRet (atR X L a b) m ok w by rw [hm.out, ho.out])
        go_wp2_with fail
        refine (onlyFinite_any _ _ k Z _ (by exact hownk) (by omega)).mono ?_
        rintro e w' ⟨rfl, q2, rfl⟩
        have HV := Lib.hid (lstGive hLk.like hownk (by omega) hBk)
        cases hfz : finL Z k
        · rw [hfz] at HV
          go_wp2
          go_ret2
          rw [← HF.out]
          obtain ⟨a, b, h3, h4, h5, h6, h7⟩ := HV.out
          exact ⟨a, b, h3, h4, h5, h6, Below.drewN h7 _⟩
        · rw [hfz] at HV
          go_wp2
          go_ret2
          rw [← HF.out]
          obtain ⟨a, b, h3, h4, h5, h6, h7⟩ := HV.out
          exact ⟨a, b, h3, h4, h5, h6, Below.drewN h7 _⟩
/-- What is told of AtSteps. -/
def RetAtSteps (R0 : Nat → Nat) (m0 : Nat) (r1 : Bool) (w : World) (e : Ending) (w' : World) : Prop := ∃ (v0 : Value) (Y0 : Nat → Nat), e = .returned (.tuple #[v0, .bool r1]) ∧ w'.ownsRow w.heap.size 31 1 v0 m0 (rowOf Y0 m0) ∧ Like Y0 R0 m0 ∧ m0 ≤ 1048576 ∧ Below w.heap.size w w'
theorem bothAtSteps (N : Nat) (X : Nat → Nat) (hN : N ≤ 1048576) (a : Nat) (_ : (Lit.float .f32 a).wf = true) (b : Nat) (_ : (Lit.float .f32 b).wf = true) (c : Int) (_ : (Lit.int .i64 c).wf = true) :
    ∃ (R : Nat → Nat) (m : Nat) (ok : Bool), (∀ (xa : Option Addr) (cx : Nat) (w : World), Rd w xa N X → Calls Try.prog 31 #[.slice xa N cx, .float .f32 a, .float .f32 b, .int .i64 c] w (RetAtSteps R m ok w)) ∧
      ∀ (xa : Option Addr) (cx : Nat) (w : World), Rd w xa N X → Calls Try.prog 32 #[.slice xa N cx, .float .f32 a, .float .f32 b, .int .i64 c] w (RetAtSteps R m ok w) := by
  cases hk : okAts X N a b c
  · exact ⟨fun _ => 0, 0, false, fun xa cx w hX => specAts_no xa N cx X a b c w hX hN _ hk, fun xa cx w hX => implAts_no xa N cx X a b c w hX hN _ hk⟩
  · unfold okAts at hk
    simp only [Bool.and_eq_true] at hk
    obtain ⟨h1, h2, h3, h4⟩ := hk
    have hl := okLst_at h1
    have hr := inB_rng h4
    obtain ⟨L, rfl⟩ : ∃ L, N = L + 1 := ⟨N - 1, by omega⟩
    obtain ⟨C, rfl⟩ : ∃ C : Nat, c = C := ⟨c.toNat, by omega⟩
    exact ⟨_, _, _, fun xa cx w hX => specAts_yes xa L cx X a b C w hX (by omega) hl.1 h2 h3 (by omega) (by omega) _ (Lib.hid rfl) _ (Lib.hid rfl), fun xa cx w hX => implAts_yes xa L cx X a b C w hX (by omega) hl.1 h2 h3 (by omega) (by omega) _ (Lib.hid rfl) _ (Lib.hid rfl)⟩
set_option maxRecDepth 100000 in
set_option maxHeartbeats 6400000 in
theorem lawAtSteps_in (W : World) (x0 : Option Addr) (n0 c0 : Nat) (X0 : Nat → Nat) (hX0 : Rd W x0 n0 X0) (a1 : Nat) (_wf1 : (Lit.float .f32 a1).wf = true) (a2 : Nat) (_wf2 : (Lit.float .f32 a2).wf = true) (a3 : Int) (_wf3 : (Lit.int .i64 a3).wf = true) (h0 : n0 ≤ 1048576) (R0 : Nat → Nat) (m0 : Nat) (r1 : Bool) (HS : Hid (∀ (x0 : Option Addr) (c0 : Nat) (w : World), Rd w x0 n0 X0 → Calls Try.prog 31 #[.slice x0 n0 c0, .float .f32 a1, .float .f32 a2, .int .i64 a3] w (RetAtSteps R0 m0 r1 w))) (HI : Hid (∀ (x0 : Option Addr) (c0 : Nat) (w : World), Rd w x0 n0 X0 → Calls Try.prog 32 #[.slice x0 n0 c0, .float .f32 a1, .float .f32 a2, .int .i64 a3] w (RetAtSteps R0 m0 r1 w))) :
    Calls Try.prog 9 #[.slice x0 n0 c0, .float .f32 a1, .float .f32 a2, .int .i64 a3] W fun e w' => e = .returned (.bool true) ∧ Below W.heap.size W w' := by
  have hcv := fun (R : Nat) (s t : Nat) => show canon .f64 (pick .f64 (fconv .f32 (pick .f32 R s) .f64) t) = canon .f64 (fconv .f32 R .f64) by rw [canon_pick, fconv_pick]
  have hcw := fun (R : Nat) (s t : Nat) => show canon .f64 (pick .f64 R s) = canon .f64 (pick .f64 R t) by rw [canon_pick, canon_pick]
  have HCV := Lib.hid hcv
  have HCW := Lib.hid hcw
  clear hcv hcw
  have hnb1 : (r1 != r1) = false := by simp
  have HB := Blw.refl W
  go_enter Try.func9, Try.ntmps9
  go_wp2_with fail
  refine (toF_any _ _ _ X0 _ (by exact hX0.below (Blw.out (by exact HB))) h0).mono ?_
  rintro e0 w0 ⟨rfl, O0, B0⟩
  replace HB := Blw.next (by exact HB) B0
  have C0 := O0
  clear O0 B0
  go_wp2_with fail
  refine (HS.out _ _ _ (rd_own (by exact C0))).mono ?_
  rintro e0 w1 ⟨vw0, Yw0, rfl, Ow0, Lw0, mw0, B0⟩
  clear C0
  replace HB := Blw.next (by exact HB) B0
  clear B0
  have Z0 := hX0.below HB.out
  obtain ⟨xw0, cw0, rfl, _, _, Rw0⟩ := rd_of_own Ow0
  clear Ow0
  have HL := Blw.refl w1
  have E0 := (Blw.out (by exact HL)).size
  go_wp2_with fail
  refine (toF_any _ _ _ X0 _ (by exact Z0.below (Blw.out (by exact HL))) h0).mono ?_
  rintro e0 w0 ⟨rfl, O0, B0⟩
  replace HL := Blw.next (by exact HL) B0
  have D0 := O0
  clear O0 B0
  have Qg0 := own_lt (by exact D0)
  have Eg := (Blw.out (by exact HL)).size
  go_wp2_with fail
  refine (HI.out _ _ _ (rd_own (by exact D0))).mono ?_
  rintro e0 w2 ⟨vg0, Yg0, rfl, Og0, Lg0, mg0, B0⟩
  replace D0 := own_below (by exact D0) B0
  replace HL := Blw.next (by exact HL) B0
  clear B0
  have O_0 := Og0
  obtain ⟨xg0, cg0, rfl, _, _, Rg0⟩ := rd_of_own O_0
  clear O_0
  go_wp2_with fail
  refine (eqF_any _ _ _ _ _ Yg0 Yw0 _ (by exact Rg0) (by exact Rw0.below (Blw.out (by exact HL))) mw0 (fun i hi => (Lg0 i hi).trans (Lw0 i hi).symm)).mono ?_
  rintro e0 w0 ⟨rfl, q, rfl⟩
  go_wp2_with fail
  refine (toF_any _ _ _ X0 _ (by exact Z0.below (Blw.out (by exact HL))) h0).mono ?_
  rintro e0 w0 ⟨rfl, O0, B0⟩
  replace D0 := own_below (by exact D0) B0
  replace Og0 := own_below (by exact Og0) B0
  replace HL := Blw.next (by exact HL) B0
  have K0 := O0
  clear O0 B0
  go_wp2_with fail
  refine (eqF_any _ _ _ _ _ X0 X0 _ (by exact rd_own (by exact D0)) (by exact rd_own (by exact K0)) h0 (fun _ _ => rfl)).mono ?_
  rintro e0 w0 ⟨rfl, q, rfl⟩
  clear K0
  go_wp2_with fail
  refine (markX_any _ _ n0 _ X0 _ _ (by exact D0) h0 (by omega) (by omega)).mono ?_
  rintro e0 w0 ⟨rfl, NM⟩
  replace Og0 := own_only (by exact Og0) (by exact Qg0) NM
  replace HL := Blw.only (by exact HL) E0 NM
  clear NM D0
  have hk1 : (0 : Int) ≤ 1 + (n0 : Int) := by omega
  replace Rg0 := rd_own' (by exact Og0)
  go_wp2_with fail
  refine (eqF_any _ _ _ _ _ Yg0 Yw0 _ (by exact Rg0) (by exact Rw0.below (Blw.out (by exact HL))) mw0 (fun i hi => (Lg0 i hi).trans (Lw0 i hi).symm)).mono ?_
  rintro e0 w0 ⟨rfl, q, rfl⟩
  clear Rg0
  go_wp2_with fail
  refine (markF_any _ _ m0 Yg0 _ _ (by exact Og0) mg0 (by omega) (by omega)).mono ?_
  rintro e0 w0 ⟨rfl, Ok0, B0⟩
  replace HL := Blw.nextB (by exact HL) (B0.mono Eg)
  clear B0 Og0
  have hm1 : (0 : Int) ≤ 1 + (m0 : Int) := by omega
  go_wp2_with fail
  refine (heldF_any _ _ m0 _ _ (by exact Ok0) mg0 (by omega) (by omega)).mono ?_
  rintro e0 w0 ⟨rfl, rfl⟩
  go_wp2_with fail
  refine (toF_any _ _ _ X0 _ (by exact Z0.below (Blw.out (by exact HL))) h0).mono ?_
  rintro e0 w0 ⟨rfl, O0, B0⟩
  replace Ok0 := own_below (by exact Ok0) B0
  replace HL := Blw.next (by exact HL) B0
  have C0 := O0
  clear O0 B0
  go_wp2_with fail
  refine (HI.out _ _ _ (rd_own (by exact C0))).mono ?_
  rintro e0 w3 ⟨vh0, Yh0, rfl, Oh0, Lh0, mh0, B0⟩
  replace Ok0 := own_below (by exact Ok0) B0
  clear C0
  replace HL := Blw.next (by exact HL) B0
  clear B0
  obtain ⟨xh0, ch0, rfl, _, _, Rh0⟩ := rd_of_own Oh0
  clear Oh0
  go_wp2_with fail
  refine (eqF_any _ _ _ _ _ Yh0 Yw0 _ (by exact Rh0) (by exact Rw0.below (Blw.out (by exact HL))) mw0 (fun i hi => (Lh0 i hi).trans (Lw0 i hi).symm)).mono ?_
  rintro e0 w0 ⟨rfl, q, rfl⟩
  clear Rh0
  go_wp2_with fail
  refine (heldF_any _ _ m0 _ _ (by exact Ok0) mg0 (by omega) (by omega)).mono ?_
  rintro e0 w0 ⟨rfl, rfl⟩
  go_wp2
  go_ret
  exact ⟨rfl, (Blw.out (by exact HB)).trans ((Blw.out (by exact HL)).mono (Blw.out (by exact HB)).size)⟩
set_option maxRecDepth 100000 in
set_option maxHeartbeats 1600000 in
theorem lawAtSteps_any (W : World) (x0 : Option Addr) (n0 c0 : Nat) (X0 : Nat → Nat) (hX0 : Rd W x0 n0 X0) (a1 : Nat) (_wf1 : (Lit.float .f32 a1).wf = true) (a2 : Nat) (_wf2 : (Lit.float .f32 a2).wf = true) (a3 : Int) (_wf3 : (Lit.int .i64 a3).wf = true) :
    Calls Try.prog 9 #[.slice x0 n0 c0, .float .f32 a1, .float .f32 a2, .int .i64 a3] W fun e w' => e = .returned (.bool true) ∧ Below W.heap.size W w' := by
  by_cases h0 : n0 ≤ 1048576
  · skip
    obtain ⟨R0, m0, r1, hs, hi⟩ := bothAtSteps n0 X0 h0 a1 _wf1 a2 _wf2 a3 _wf3
    exact lawAtSteps_in W x0 n0 c0 X0 hX0 a1 _wf1 a2 _wf2 a3 _wf3 h0 R0 m0 r1 (Lib.hid hs) (Lib.hid hi)
  · have h' : (1048576 : Int) < (n0 : Int) := by omega
    go_enter Try.func9, Try.ntmps9
    go_wp2
    go_ret
    exact ⟨rfl, (Blw.refl W).out⟩
set_option maxRecDepth 100000 in
theorem FnExactAtSteps_lifted (os : Os) (started : os.Started) (H : Type) (enc : TypeId × Value → H) :
    ReturnsInHanded {} Try.checked os 9 .any (Rows.fnExactAtStepsSpec.pre6 enc Try.prog Try.f9 Rows.fnExactAtStepsRow.domain false) (Rows.fnExactAtStepsSpec.post enc Try.prog Try.f9 false true false false) := by
  refine returnsInHanded_of_change (C := Try.checked) ownKnob_none started (by kernel_rfl) Try.func9
    (ChangeSpec.witness6 (enc := enc) (C := Try.checked) false ⟨#[], #[.slice none 0 0, .float .f32 0, .float .f32 0, .int .i64 0], []⟩ 8 (by kernel_rfl) (by kernel_rfl) (by kernel_rfl) (by kernel_rfl)) ?_
  intro W base args ds gs before hval0 hW _ _
  have hval : ∀ (j : Nat) t v, Try.f9.params[j]? = some t → args[j]? = some v → Value.okWide Try.prog W .any base t v := hval0
  have hW' := hW
  obtain ⟨p, q, hA0, hV, rfl, _, _⟩ := hW
  have hA : DataW.TrodAll enc Try.prog W 0 (fun _ => true) true Try.f9.params.toList args.toList ds p := hA0
  rw [Try.params9] at hA hval
  obtain ⟨v0, v1, v2, v3, d0, d1, d2, d3, p0, p1, p2, p3, rfl, rfl, rfl, h0, h1, h2, h3⟩ := trodAll_four hA
  obtain ⟨rfl, rfl⟩ := trodVars_none hV
  obtain ⟨x0, n0, c0, rfl⟩ := okWide_slice Try.underlying22 (hval 0 22 v0 rfl rfl)
  have k0 := h0
  obtain ⟨_, _, a0, w0, _⟩ := open_f32s Try.underlying22 Try.underlying31 cellsF h0
  have b0 : ∀ x ∈ p0, x.block < W.heap.size := fun x hx => by have := hW'.lt x (by simp [hx]); simpa using this
  obtain ⟨a1, rfl, rfl, rfl, w1⟩ := open_float Try.underlying31 (hval 1 31 v1 rfl rfl) h1
  obtain ⟨a2, rfl, rfl, rfl, w2⟩ := open_float Try.underlying31 (hval 2 31 v2 rfl rfl) h2
  obtain ⟨a3, rfl, rfl, rfl, w3⟩ := open_int Try.underlying2 (hval 3 2 v3 rfl rfl) h3
  clear hA0 hval0
  refine (lawAtSteps_any W x0 n0 c0 a0 w0 a1 w1 a2 w2 a3 w3).mono fun e W' ⟨he, hb⟩ => ?_
  subst he
  have hA2 := trodAll_mk4 (enc := enc) (w := W') (base := 0) (spare := fun b => decide (b < W.heap.size)) (held := true) (Below.trod laidOut (by kernel_rfl) (of_decide_eq_true (by kernel_rfl)) k0 hb b0) (shut_float Try.underlying31 w1) (shut_float Try.underlying31 w2) (shut_int Try.underlying2 w3)
  exact ⟨_, rfl, _, _, _, [], _, [], hW', trodAll_cons_mk (shut_bool Try.underlying4 _) trodAll_mk0, hA2, rfl, hb.frame _, fun h => by cases h⟩
theorem FnExactAtSteps_holds : Rows.FnExactAtStepsSaid :=
  OpenClaim.holds_of_wide 9 Try.f9 rfl rfl rfl rfl rfl rfl rfl ⟨rfl, rfl, rfl, rfl, rfl⟩ rfl rfl rfl rfl rfl (by kernel_rfl) Try.func9 (by kernel_rfl)
    (of_decide_eq_true (by kernel_rfl)) (by unfold Func.isWrapper; first | (rw [if_pos (by decide +kernel)]; kernel_rfl) | (rw [if_neg (by decide +kernel)]; exact ⟨rfl, rfl⟩))
    (fun os started H enc _ => FnExactAtSteps_lifted os started H enc)
end Go.Proofs.Ytehlflldnihamaa
