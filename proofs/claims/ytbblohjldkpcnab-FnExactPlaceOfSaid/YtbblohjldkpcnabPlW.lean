
/- The place of a wave: as the program tells it, the walk. -/
import Derived.Test.YtbblohjldkpcnabPlM
import Derived.Test.YtbblohjldkpcnabZsm
import Derived.Test.YtbblohjldkpcnabS7
import Derived.Test.YtbblohjldkpcnabOrW
namespace Go.Proofs.Ytbblohjldkpcnab
set_option linter.all false
open Go Go.ChangeShapes Go.WideShapes Go.ChangeAt Go.RowKit

/-- 0, one number and another: their sum, if they are not one. -/
theorem sum0 {l h : Nat} (hl : l < 4294967296) (hh : h < 4294967296) (fl : isFin .f32 l = true) (fh : isFin .f32 h = true) (hne : l ≠ h) : fbin .add .f32 (fbin .add .f32 0 l) h = fbin .add .f32 l h := by
  obtain ⟨s, a, ha, rfl⟩ := fin_word hl fl
  have z0 : Ieee.single.word false 0 = 0 := by decide +kernel
  by_cases h0 : a = 0
  · subst h0
    cases s
    · rw [z0, show fbin .add .f32 0 0 = 0 by decide +kernel]
    · have e : fbin .add .f32 0 (Ieee.single.word true 0) = 0 := by decide +kernel
      rw [e]
      obtain ⟨t, b, hb, rfl⟩ := fin_word hh fh
      by_cases hb0 : b = 0
      · subst hb0
        cases t
        · rw [z0]; decide +kernel
        · exact absurd rfl hne
      · rw [add_zl true t b hb0 (by omega), ← z0, add_zl false t b hb0 (by omega)]
  · have := add_zl false s a h0 (by omega)
    rw [z0] at this
    rw [this]
set_option maxRecDepth 100000 in
set_option maxHeartbeats 6400000 in
theorem halfOfBoth_any (l h : Nat) (hl : l < 4294967296) (hh : h < 4294967296) (fl : isFin .f32 l = true) (fh : isFin .f32 h = true) (hne : l ≠ h) (w : World) : Calls Try.prog 91 #[.float .f32 l, .float .f32 h] w fun e w' => (∃ s, e = .returned (.float .f32 (pick .f32 (midF l h) s))) ∧ Below w.heap.size w w' := by
  have hp1 := fun op => fbin_pick_l op .f32
  have hq2 := half_quo
  have HS := Lib.hid (sum0 hl hh fl fh hne)
  have HE : sumW (duo l h) 2 = fbin .add .f32 (fbin .add .f32 0 l) h := rfl
  have HM := Lib.hid (show sumW (duo l h) 2 = fbin .add .f32 l h from HE.trans HS.out)
  clear HE fl fh hl hh hne
  go_enter Try.func91, Try.ntmps91
  go_wp2_with fail
  refine (SumNumbers_any _ 2 _ (duo l h) _ (by exact rd_two' _ _ _ _ (by simp)) (by omega)).mono ?_
  rw [HM.out]
  rintro e w1 ⟨s, q, rfl, rfl⟩
  go_wp2_with (first | ((with_reducible refine wpL_fbin ?_); refine ⟨_, _, _, rfl, rfl, rfl, fun s n => ?_⟩))
  go_ret
  refine ⟨⟨_, rfl⟩, ?_⟩
  (repeat (first | with_reducible exact Below.refl _ _ | with_reducible refine Below.drewN ?_ _ | with_reducible refine Below.setCell ?_ (by simp; try omega) _ | with_reducible refine Below.alloc ?_ (by simp; try omega) _))
theorem cell_alloc {w : World} {p : Addr} {v : Value} (h : w.cell? p = some v) (o : Obj) : (w.alloc o).cell? p = some v :=
  (((Below.refl w.heap.size w).alloc (Nat.le_refl _) o).cell (p := p) (World.block_lt_of_cell? w _ h)).trans h
theorem new_cell (w : World) (v : Value) (t : TypeId) : (w.alloc (.cells #[v] t)).cell? ⟨w.heap.size, 0, none⟩ = some v := by simp
theorem new_free (w : World) (v : Value) (t : TypeId) : (w.alloc (.cells #[v] t)).frozen? ⟨w.heap.size, 0, none⟩ = false := by simp
theorem run_store_func (a : Addr) (f : Fn) (c r : Array Value) (m : Mode) (w : World) : (store a (.func f c r) m).run Try.prog w = stored Try.prog w a (.func f c r) m := run_store _ w a _ m rfl
set_option maxRecDepth 100000 in
set_option maxHeartbeats 12800000 in
theorem implPl_main (xa : Option Addr) (n cx wave lo hi : Nat) (N : Nat) (X : Nat → Nat) (w : World) (hX : Rd w xa n X) (hn : n ≤ 1048576) (hlo : lo < 4294967296) (hhi : hi < 4294967296) (k2 : isFin .f32 wave = true) (k5 : geF lo hi = false) (k6 : inB (N : Int) 1 32 = true) (R : Nat) (ok : Bool)
    (h0 : Hid ((plQ X n wave lo hi (N : Int) && plB X n wave lo hi) = false → R = 0 ∧ ok = false))
    (h1 : Hid ((plQ X n wave lo hi (N : Int) && plB X n wave lo hi) = true → plR X n wave (lsF (atW X n lo n) wave) N lo hi = none → R = 0 ∧ ok = false))
    (h2 : Hid ((plQ X n wave lo hi (N : Int) && plB X n wave lo hi) = true → ∀ l h, plR X n wave (lsF (atW X n lo n) wave) N lo hi = some (l, h) → R = numQ (midF l h) ∧ ok = isFin .f32 (midF l h))) :
    Calls Try.prog 35 #[.slice xa n cx, .float .f32 wave, .float .f32 lo, .float .f32 hi, .int .i64 (N : Int)] w (NRet R ok w) := by
  have hN1 : (1 : Int) ≤ (N : Int) := by simp only [inB, Bool.and_eq_true, decide_eq_true_eq] at k6; omega
  have hN2 : (N : Int) ≤ 32 := by simp only [inB, Bool.and_eq_true, decide_eq_true_eq] at k6; omega
  have h5 : (FloatKind.f32.format.order lo hi == some .gt || FloatKind.f32.format.order lo hi == some .eq) = false := k5
  have HK := Lib.hid (And.intro k2 (And.intro k5 k6))
  have HX := Lib.hid hX
  clear hX k5 k6
  go_enter Try.func35, Try.ntmps35
  go_wp2_with fail
  refine (IsFinite_any _ _).mono ?_
  rw [k2]
  rintro e w1 ⟨rfl, q1, rfl⟩
  clear k2
  have hsf := run_store_func
  go_upto_region 5 with (fail)
  obtain ⟨w5, hw5⟩ : ∃ w5, w5 = (((((w.alloc (Obj.cells #[Value.slice xa n cx] 24)).alloc (Obj.cells #[Value.float FloatKind.f32 wave] 43)).drewN q1).alloc (Obj.cells #[Value.bool false] 4)).alloc (Obj.cells #[Value.func (Fn.func 86) #[] #[Value.pointer (some { block := w.heap.size, off := 0 }), Value.pointer (some { block := w.heap.size + 1 + 1, off := 0 }), Value.pointer (some { block := w.heap.size + 1, off := 0 })]] 98)) := ⟨_, rfl⟩
  rw [← hw5]
  have HV : PlV w w5 xa n cx X wave w.heap.size (w.heap.size + 1 + 1) (w.heap.size + 1) false := by
    rw [hw5]
    exact ⟨by simp [go_sem], by simp [go_sem], by simp [go_sem], by simp [go_sem], by omega, by omega, by omega, (((Below.drewN (((Below.refl _ _).alloc (Nat.le_refl _) _).alloc (by simp) _) q1).alloc (by simp; omega) _).alloc (by simp; omega) _)⟩
  have hbi : w5.cell? ⟨w.heap.size + 1 + 1 + 1, 0, none⟩ = some (Value.func (Fn.func 86) #[] #[Value.pointer (some { block := w.heap.size, off := 0 }), Value.pointer (some { block := w.heap.size + 1 + 1, off := 0 }), Value.pointer (some { block := w.heap.size + 1, off := 0 })]) := by rw [hw5]; simp [go_sem]
  have hs5 : w5.heap.size = w.heap.size + 4 := by rw [hw5]; simp
  clear hw5
  obtain ⟨x1, hx1⟩ : ∃ x1, x1 = lsF (wvA X n lo) wave := ⟨_, rfl⟩
  obtain ⟨x2, hx2⟩ : ∃ x2, x2 = lsF (wvA X n hi) wave := ⟨_, rfl⟩
  obtain ⟨f1, hf1⟩ : ∃ f1, f1 = (false || !wvK X n lo) := ⟨_, rfl⟩
  obtain ⟨f2, hf2⟩ : ∃ f2, f2 = (f1 || !wvK X n hi) := ⟨_, rfl⟩
  have HLo := Lib.hid (show ∀ W, PlV w W xa n cx X wave w.heap.size (w.heap.size + 1 + 1) (w.heap.size + 1) false → Calls Try.prog 86 #[.float .f32 lo, .pointer (some ⟨w.heap.size, 0, none⟩), .pointer (some ⟨w.heap.size + 1 + 1, 0, none⟩), .pointer (some ⟨w.heap.size + 1, 0, none⟩)] W (fun e w' => e = .returned (.bool x1) ∧ Only (w.heap.size + 1 + 1) W w' ∧ w'.cell? ⟨w.heap.size + 1 + 1, 0, none⟩ = some (.bool f1) ∧ w'.frozen? ⟨w.heap.size + 1 + 1, 0, none⟩ = false) from fun W h => by
    rw [hx1, hf1]; exact less_any w xa n cx X wave _ _ _ false lo W HX.out hn h)
  have HHi := Lib.hid (show ∀ W, PlV w W xa n cx X wave w.heap.size (w.heap.size + 1 + 1) (w.heap.size + 1) f1 → Calls Try.prog 86 #[.float .f32 hi, .pointer (some ⟨w.heap.size, 0, none⟩), .pointer (some ⟨w.heap.size + 1 + 1, 0, none⟩), .pointer (some ⟨w.heap.size + 1, 0, none⟩)] W (fun e w' => e = .returned (.bool x2) ∧ Only (w.heap.size + 1 + 1) W w' ∧ w'.cell? ⟨w.heap.size + 1 + 1, 0, none⟩ = some (.bool f2) ∧ w'.frozen? ⟨w.heap.size + 1 + 1, 0, none⟩ = false) from fun W h => by
    rw [hx2, hf2]; exact less_any w xa n cx X wave _ _ _ f1 hi W HX.out hn h)
  have HXX := Lib.hid (And.intro hx1 (And.intro hx2 (And.intro hf1 hf2)))
  clear hx1 hx2 hf1 hf2 h5
  have hn3 : w.heap.size + 1 + 1 + 1 ≠ w.heap.size + 1 + 1 := by omega
  have hl5 : w.heap.size + 1 + 1 + 1 < w5.heap.size := by omega
  have hn5 : w5.heap.size ≠ w.heap.size + 1 + 1 := by omega
  have HVh := Lib.hid HV
  clear HV hs5
  go_cut [14, 15] (fun a b wx => ∃ bh, a = .bool x1 ∧ b = .pointer (some ⟨bh, 0, none⟩) ∧ PlU w wx xa n cx X wave w.heap.size (w.heap.size + 1 + 1) (w.heap.size + 1) (w.heap.size + 1 + 1 + 1) bh x2 f2)
  case first =>
    go_region_with (first
      | (go_at_call_of 86 (Value.float FloatKind.f32 lo); refine (HLo.out _ (by first | exact HVh.out.drew 1 | exact (HVh.out.drew 1).alloc _)).mono ?_; rintro e w6 ⟨rfl, o1, d1, d2⟩; have HV1 := PlV.next (by first | exact HVh.out.drew 1 | exact (HVh.out.drew 1).alloc _) o1 d1 d2; have e1 := cell_only o1 (b := w.heap.size + 1 + 1 + 1) (v := (Value.func (Fn.func 86) #[] #[Value.pointer (some { block := w.heap.size, off := 0 }), Value.pointer (some { block := w.heap.size + 1 + 1, off := 0 }), Value.pointer (some { block := w.heap.size + 1, off := 0 })])) (by first | exact hbi | exact cell_alloc hbi _ | exact cell_alloc (show w5.drew.cell? _ = _ from hbi) _) hn3; have s1 := o1.2.2.2.1; have hl6 : w.heap.size + 1 + 1 + 1 < w6.heap.size := World.block_lt_of_cell? w6 _ e1; have hn6 : w6.heap.size ≠ w.heap.size + 1 + 1 := (by have := World.block_lt_of_cell? w6 _ e1; simp only at this; omega); (try have g1 := cell_only o1 (b := w5.heap.size) (new_cell _ _ _) hn5); (try have g1f := frozen_only o1 (b := w5.heap.size) (new_cell _ _ _) hn5 (new_free _ _ _)))
      | (go_at_call_of 86 (Value.float FloatKind.f32 hi); refine (HHi.out _ (by first | exact HV1 | exact HV1.alloc _)).mono ?_; rintro e w7 ⟨rfl, o2, d3, d4⟩; have HV2 := PlV.next (by first | exact HV1 | exact HV1.alloc _) o2 d3 d4; have e2 := cell_only o2 (b := w.heap.size + 1 + 1 + 1) (v := (Value.func (Fn.func 86) #[] #[Value.pointer (some { block := w.heap.size, off := 0 }), Value.pointer (some { block := w.heap.size + 1 + 1, off := 0 }), Value.pointer (some { block := w.heap.size + 1, off := 0 })])) (by first | exact e1 | exact cell_alloc e1 _) hn3; have s2 := o2.2.2.2.1; have hl7 : w.heap.size + 1 + 1 + 1 < w7.heap.size := World.block_lt_of_cell? w7 _ e2; (try have g2 := cell_only o2 g1 hn5); (try have g2f := frozen_only o2 g1 hn5 g1f); (try have g3 := cell_only o2 (b := w6.heap.size) (new_cell _ _ _) hn6); (try have g3f := frozen_only o2 (b := w6.heap.size) (new_cell _ _ _) hn6 (new_free _ _ _))))
    all_goals (go_wp2_with fail; go_meet)
    all_goals first
      | exact ⟨_, rfl, rfl, HV2.alloc _, cell_alloc e2 _, new_cell _ _ _, Ne.symm hn3, (by omega)⟩
      | exact ⟨_, rfl, rfl, HV2.set (b := w6.heap.size) (by omega) (by omega) (by omega) (by omega) _, cell_only ((Only.refl _ w7).setCell 0 _) e2 (by omega), (by simp [go_sem, g3]), Ne.symm hn3, (by omega)⟩
      | exact ⟨_, rfl, rfl, HV2.set (b := w5.heap.size) (by omega) (by omega) (by omega) (by omega) _, cell_only ((Only.refl _ w7).setCell 0 _) e2 (by omega), (by simp [go_sem, g2]), Ne.symm hn3, (by omega)⟩
  case rest =>
    clear hsf hbi hn5 HLo HHi HVh hl5
    obtain ⟨bh, rfl, rfl, HU⟩ := hcut
    have hb4 := HU.c4
    have HUh := Lib.hid HU
    clear HU
    cases hx : (x1 == x2)
    · have hxx : x2 = !x1 := by revert hx; cases x1 <;> cases x2 <;> decide
      have HC := Lib.hid (show crvB X n = true ∨ f2 = true from by
        cases hc : crvB X n
        · right
          have : wvK X n lo = false := by unfold wvK okWav; rw [hc]; rfl
          rw [HXX.out.2.2.2, HXX.out.2.2.1, this]; rfl
        · exact .inl rfl)
      have HKK := Lib.hid (show f2 = false → wvK X n lo = true ∧ wvK X n hi = true from fun h => by
        have e1 := HXX.out.2.2.1
        have e2 := HXX.out.2.2.2
        rw [e1] at e2
        rw [h] at e2
        revert e2
        cases wvK X n lo <;> cases wvK X n hi <;> decide)
      have HF := Lib.hid (show f2 = false → PlE X n wave lo x1 ∧ PlE X n wave hi (!x1) from fun h => by
        obtain ⟨a, b⟩ := HKK.out h
        unfold wvK at a b
        rw [Bool.and_eq_true] at a b
        have a1 : wvA X n lo = atW X n lo n := by unfold wvA numQ; rw [a.1, a.2]; rfl
        have a2 : wvA X n hi = atW X n hi n := by unfold wvA numQ; rw [b.1, b.2]; rfl
        have a3 := a.1
        have b3 := b.1
        unfold okWav at a3 b3
        rw [Bool.and_eq_true] at a3 b3
        refine ⟨⟨a3.2, hlo, ?_⟩, ⟨b3.2, hhi, ?_⟩⟩
        · rw [HXX.out.1, a1]
        · rw [← hxx, HXX.out.2.1, a2])
      have HUx := Lib.hid (show PlU w wc xa n cx X wave w.heap.size (w.heap.size + 1 + 1) (w.heap.size + 1) (w.heap.size + 1 + 1 + 1) bh (!x1) f2 from by rw [← hxx]; exact HUh.out)
      have HXP := Lib.hid hxx
      clear hxx
      go_wp2_with fail
      refine (halve_any w xa n cx X wave w.heap.size (w.heap.size + 1 + 1) (w.heap.size + 1) (w.heap.size + 1 + 1 + 1) bh x1 f2 N lo hi _ HX.out hn (by omega) HC.out HF.out (by exact HUx.out)).mono ?_
      rintro e w8 ⟨l, h, f, rfl, HU8, hff, HJ⟩
      have hc1 := HU8.v.c1
      have hbl := HU8.v.bl
      have HBL := Lib.hid hbl
      clear hbl HU8
      cases f
      · have HQ := Lib.hid (show PlE X n wave l x1 ∧ PlE X n wave h (!x1) ∧ plR X n wave x1 N lo hi = some (l, h) from by
          rcases HJ with ⟨h, _⟩ | ⟨_, a, b, c⟩
          · cases h
          · rw [Nat.sub_self] at c
            exact ⟨a, b, c⟩)
        have hf2 : f2 = false := by
          cases f2
          · rfl
          · have := hff rfl; cases this
        obtain ⟨ka, kb⟩ := HKK.out hf2
        have hpre := pl_post (N := (N : Int)) HK.out.1 HK.out.2.1 HK.out.2.2 ka kb (by rw [← HXX.out.1, ← HXX.out.2.1]; exact hx)
        have hup : lsF (atW X n lo n) wave = x1 := (HF.out hf2).1.2.2
        have hR := h2.out hpre l h (by rw [hup]; exact HQ.out.2.2)
        have HR := Lib.hid hR
        have hne : l ≠ h := by
          intro e
          have c1 := HQ.out.1.2.2
          have c2 := HQ.out.2.1.2.2
          rw [e, c2] at c1
          revert c1
          cases x1 <;> decide
        have HH := Lib.hid (fun w => halfOfBoth_any l h HQ.out.1.2.1 HQ.out.2.1.2.1 HQ.out.1.1 HQ.out.2.1.1 hne w)
        clear hne hR hup hpre ka kb HJ hff hf2
        go_wp2_with fail
        refine (HH.out _).mono ?_
        rintro e w9 ⟨⟨s, rfl⟩, B9⟩
        go_wp2_with fail
        refine (numI_any _ _ _).mono ?_
        rintro e w10 ⟨s2, q2, rfl, rfl⟩
        have hb := HBL.out.trans (B9.mono HBL.out.size)
        go_wp2
        go_ret2
        rw [HR.out.1, HR.out.2]
        exact ⟨_, rfl, Below.drewN hb _⟩
      · have hR : R = 0 ∧ ok = false := by
          cases hpre : (plQ X n wave lo hi (N : Int) && plB X n wave lo hi)
          · exact h0.out hpre
          · obtain ⟨ka, kb, a1, a2, _⟩ := pl_pre hpre
            have hf2 : f2 = false := by rw [HXX.out.2.2.2, HXX.out.2.2.1, ka, kb]; rfl
            have hup : lsF (atW X n lo n) wave = x1 := (HF.out hf2).1.2.2
            refine h1.out hpre ?_
            rw [hup]
            rcases HJ with ⟨_, h | h⟩ | ⟨h, _⟩
            · rw [hf2] at h; cases h
            · exact h
            · cases h
        have HR := Lib.hid hR
        clear hR HJ hff
        go_wp2
        go_ret2
        rw [HR.out.1, HR.out.2]
        exact ⟨0, by rw [pick_nul]; rfl, HBL.out⟩
    · have hR : R = 0 ∧ ok = false := by
        cases hpre : (plQ X n wave lo hi (N : Int) && plB X n wave lo hi)
        · exact h0.out hpre
        · obtain ⟨_, _, _, _, h⟩ := pl_pre hpre
          rw [← HXX.out.1, ← HXX.out.2.1, hx] at h
          cases h
      have HR := Lib.hid hR
      have HBL := Lib.hid HUh.out.v.bl
      clear hR
      go_wp2
      go_ret2
      rw [HR.out.1, HR.out.2]
      exact ⟨0, by rw [pick_nul]; rfl, HBL.out⟩
end Go.Proofs.Ytbblohjldkpcnab
