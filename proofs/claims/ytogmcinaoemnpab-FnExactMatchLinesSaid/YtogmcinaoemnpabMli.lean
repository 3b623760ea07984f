
/- Lines matched to a catalog: as the program tells it, with a map that it makes. -/
import Derived.Test.YtogmcinaoemnpabMln
import Derived.Test.YtogmcinaoemnpabMlp
import Derived.Test.YtogmcinaoemnpabInt
import Derived.Test.YtogmcinaoemnpabGeA
import Derived.Maps.OwnSet
import Derived.Maps.OwnOps
import Derived.Deep.QuietTactic
import Derived.BigQuiet
namespace Go.Proofs.Ytogmcinaoemnpab
set_option linter.all false
open Go Go.ChangeShapes Go.WideShapes Go.ChangeAt Go.RowKit Go.Maps

/-- The nearest one of each place, and how far it is. -/
def mlN (X C : Nat → Nat) (m W : Nat) (j : Nat) : Int := (nrS (fun k => dW (X j) (C k)) W m).1
def mlD (X C : Nat → Nat) (m W : Nat) (j : Nat) : Nat := dW (X j) (C (mlN X C m W j).toNat)
def mlR (X C : Nat → Nat) (n m W : Nat) : Nat → Int := mtI (mlN X C m W) (mlD X C m W) n
def okMl (X C : Nat → Nat) (n m W : Nat) : Bool := decide (n ≤ 128) && (decide (m ≤ 128) && (isG W && (finL X n && finL C m)))
theorem mapLaw : Keyed Try.prog 2 := int_keyed Try.underlying2
theorem zeroInt (w : World) : (zeroValue 3).run Try.prog w = .ok (.int .i64 0) w := by kernel_rfl
/-- The map of the holders after the first k places. -/
def HMap (ne : Nat → Int) (dl : Nat → Nat) (k : Nat) (D : DataW Unit) : Prop :=
  ∀ m : Nat, (hold ne dl (m : Int) k = none → Maps.has D (.int .i64 (m : Int)) = false) ∧ (∀ h, hold ne dl (m : Int) k = some h → Maps.has D (.int .i64 (m : Int)) = true ∧ D.atKey (.int .i64 (m : Int)) (.lit (.int .i64 0)) = .lit (.int .i64 (h : Int)))
theorem HMap.start (ne : Nat → Int) (dl : Nat → Nat) : HMap ne dl 0 (.map []) := fun m => ⟨fun _ => rfl, fun h e => by cases e⟩
theorem HMap.same {ne : Nat → Int} {dl : Nat → Nat} {k : Nat} {D : DataW Unit} (h : HMap ne dl k D) (e : ∀ m : Nat, hold ne dl (m : Int) (k + 1) = hold ne dl (m : Int) k) : HMap ne dl (k + 1) D := fun m => by rw [e m]; exact h m
theorem HMap.put {ne : Nat → Int} {dl : Nat → Nat} {k q : Nat} {D : DataW Unit} (h : HMap ne dl k D) (hD : IsMap D) (hq : ne k = (q : Int)) (hh : hold ne dl (q : Int) (k + 1) = some k) : HMap ne dl (k + 1) (D.put (.int .i64 (q : Int)) (.lit (.int .i64 (k : Int)))) := fun m => by
  by_cases hm : m = q
  · subst hm
    rw [hh]
    have hkl : WideAt.IsKeyLit (.int .i64 (m : Int)) := trivial
    refine ⟨fun e => (by cases e), fun g e => ?_⟩
    simp only [Option.some.injEq] at e
    subst e
    exact ⟨has_put_same hD hkl _, atKey_put_same hD hkl _ _⟩
  · have hne : Lit.int .i64 (m : Int) ≠ Lit.int .i64 (q : Int) := fun e => hm (by simp at e; omega)
    rw [hold_ne (by rw [hq]; omega)]
    obtain ⟨h1, h2⟩ := h m
    exact ⟨fun e => by rw [has_put_other hne]; exact h1 e, fun g e => by rw [has_put_other hne, atKey_put_other hne]; exact h2 g e⟩
def OutI (R : Nat → Int) (m : Nat) (ok : Bool) (w : World) (e : Ending) (w' : World) : Prop := ∃ v, e = .returned (.tuple #[v, .bool ok]) ∧ w'.ownsRow w.heap.size 2 1 v m (rowI R m) ∧ Below w.heap.size w w'
theorem ownI_drew {w : World} {B e : Nat} {v : Value} {n : Nat} {xs : List Value} (h : w.ownsRow B e 1 v n xs) (k : Nat) : (w.drewN k).ownsRow B e 1 v n xs := h
theorem map_drew {P : Program} {k : TypeId} {R : Value → Option (DataW Unit × List MemPlace)} {w : World} {b n : Nat} {D : DataW Unit} (h : w.ownsMap P k R b n D) (j : Nat) : (w.drewN j).ownsMap P k R b n D := h
theorem isG_num {W : Nat} (h : isG W = true) : isFin .f32 W = true := by
  cases hfw : isFin .f32 W
  · rw [isG_no hfw] at h; cases h
  · rfl
theorem mlD_fin {X C : Nat → Nat} {m W j : Nat} (fx : isFin .f32 (X j) = true) (fC : ∀ k, k < m → isFin .f32 (C k) = true) (fW : isFin .f32 W = true) (h : 0 ≤ mlN X C m W j) : mlD X C m W j < 2139095040 := by
  have h1 := nrS_ge (fun k => dW (X j) (C k)) W m
  rcases nrS_at (fun k => dW (X j) (C k)) W m with h2 | ⟨h2, h3⟩
  · have h' : 0 ≤ (nrS (fun k => dW (X j) (C k)) W m).1 := h
    omega
  · have h' : 0 ≤ (nrS (fun k => dW (X j) (C k)) W m).1 := h
    rw [h2] at h3
    show dW (X j) (C (nrS (fun k => dW (X j) (C k)) W m).1.toNat) < 2139095040
    exact fin_le (dW_le fx (fC _ (by omega))) fW h3
theorem mlD_at {X C : Nat → Nat} {m W j q : Nat} (h : mlN X C m W j = (q : Int)) : mlD X C m W j = dW (X j) (C q) := by
  unfold mlD
  rw [h]
  rfl
set_option maxRecDepth 100000 in
set_option maxHeartbeats 12800000 in
theorem implMl_yes (xa : Option Addr) (n cx : Nat) (X : Nat → Nat) (ya : Option Addr) (m cy : Nat) (C : Nat → Nat) (W : Nat) (w : World) (hX : Rd w xa n X) (hY : Rd w ya m C) (hk : okMl X C n m W = true) :
    Calls Try.prog 37 #[.slice xa n cx, .slice ya m cy, .float .f32 W] w (OutI (mlR X C n m W) n true w) := by
  simp only [okMl, Bool.and_eq_true, decide_eq_true_eq] at hk
  obtain ⟨hn, hm, hG, hfX, hfC⟩ := hk
  have d1 : decide ((128 : Int) < (n : Int)) = false := decide_eq_false (by omega)
  have d2 : decide ((128 : Int) < (m : Int)) = false := decide_eq_false (by omega)
  have HG := Lib.hid (fun g w hX => areAtLeastZero_any g 1 1 (fun _ => W) w hX (by omega))
  rw [gL_one, hG] at HG
  have HFX := Lib.hid (fun cx w hX => allFinite_any xa n cx X w hX (by omega))
  have HFC := Lib.hid (fun cy w hX => allFinite_any ya m cy C w hX (by omega))
  rw [hfX] at HFX
  rw [hfC] at HFC
  have HfX := Lib.hid (finL_at hfX)
  have HfC := Lib.hid (finL_at hfC)
  obtain ⟨i0, hi, hz0, hz1, hz2⟩ := info_parts infoI
  have hb : i0.bytes * n ≤ 281474976710656 := by rw [hz2]; omega
  have hml : n ≤ maxLen := by unfold maxLen; omega
  have hmm := @run_makeMap Try.prog
  have HX := Lib.hid hX
  have HY := Lib.hid hY
  have FW := Lib.hid (isG_num hG)
  clear hfX hfC hG hX hY
  go_enter Try.func37, Try.ntmps37
  have tokX : True := trivial
  have tokY : True := trivial
  go_wp2_with (first | (go_at_call 51; refine (HG.out _ _ (by exact rd_one' _ _ _ (by simp))).mono ?_; rintro e w' ⟨rfl, q, rfl⟩) | (go_at_call 66; have _t := tokX; refine (HFX.out _ _ (by exact HX.out.below (by (repeat (first | with_reducible exact Below.refl _ _ | with_reducible refine Below.drewN ?_ _ | with_reducible refine Below.setCell ?_ (by simp; try omega) _ | with_reducible refine Below.alloc ?_ (by simp; try omega) _))))).mono ?_; rintro e w' ⟨rfl, q2, rfl⟩; clear tokX) | (go_at_call 66; have _t := tokY; refine (HFC.out _ _ (by exact HY.out.below (by (repeat (first | with_reducible exact Below.refl _ _ | with_reducible refine Below.drewN ?_ _ | with_reducible refine Below.setCell ?_ (by simp; try omega) _ | with_reducible refine Below.alloc ?_ (by simp; try omega) _))))).mono ?_; rintro e w' ⟨rfl, q3, rfl⟩; clear tokY) | (at_make; refine wpList_make_full _ rfl _ _ 22 rfl w.heap.size 2 i0 (.int .i64 0) 1 Try.underlying22 hi hz0 hz1 _ _ _ _ n rfl rfl rfl rfl hb hml (by simp) ?_; intro w1 hown hgr))
  rw [show ((w.alloc (Obj.cells #[Value.float .f32 W] 36)).drewN (q + q2 + q3)).heap.size = w.heap.size + 1 by simp] at hown
  obtain ⟨g, hg⟩ : ∃ g, g = w.heap.size + 1 := ⟨_, rfl⟩
  rw [← hg] at hown ⊢
  have hB1 : Below w.heap.size w w1 := (Below.drewN ((Below.refl w.heap.size w).alloc (Nat.le_refl _) _) _).grown hgr (by simp) (fun _ h => by cases h)
  have hown1 : w1.ownsRow w.heap.size 2 1 (.slice (some ⟨g, 0, none⟩) n n) n (rowI (mtI (mlN X C m W) (mlD X C m W) 0) n) := by
    rw [show rowI (mtI (mlN X C m W) (mlD X C m W) 0) n = (madeCells (Value.int IntKind.i64 0).cells (n * 1)).toList from by rw [Nat.mul_one]; exact ((madeI n).trans (rowI_congr fun j hj => rfl)).symm]
    exact hown
  have hgb := own_lt hown1
  obtain ⟨b, hb'⟩ : ∃ b, b = w1.heap.size := ⟨_, rfl⟩
  have hmap0 : (w1.alloc (.map #[] 0)).ownsMap Try.prog 2 (plainElem (H := Unit) Try.prog 3) b 0 (.map []) := by rw [hb']; exact World.ownsMap_made _ _ _ _
  have hB2 : Below w.heap.size w (w1.alloc (.map #[] 0)) := hB1.alloc hB1.size _
  have hown2 := own_below hown1 ((Below.refl w1.heap.size w1).alloc (Nat.le_refl _) (.map #[] 0))
  have hwb : w.heap.size ≤ b := by rw [hb']; exact hB1.size
  have hne : g ≠ b := by omega
  rw [← hb']
  obtain ⟨w2, hw2⟩ : ∃ w2, w2 = w1.alloc (.map #[] 0) := ⟨_, rfl⟩
  rw [← hw2] at hmap0 hB2 hown2 ⊢
  have hwg := own_ge hown1
  clear hw2 hown hown1 hgr hB1 hg hb' hgb hb hml hi hz0 hz1 hz2 d1 d2 HG HFX HFC hmm
  have HMP0 := Lib.hid hmap0
  clear hmap0
  go_loopw [43] (fun i wr => ∃ (k : Nat) (D : DataW Unit), k ≤ n ∧ i = .int .i64 (k : Int) ∧ wr.ownsRow w.heap.size 2 1 (.slice (some ⟨g, 0, none⟩) n n) n (rowI (mtI (mlN X C m W) (mlD X C m W) k) n) ∧ Hid (wr.ownsMap Try.prog 2 (plainElem (H := Unit) Try.prog 3) b k D) ∧ Hid (HMap (mlN X C m W) (mlD X C m W) k D) ∧ Below w.heap.size w wr) (fun i _ => n - (intOf i).toNat)
  case atStart => exact ⟨0, _, Nat.zero_le _, rfl, hown2, HMP0, Lib.hid (HMap.start _ _), hB2⟩
  case round =>
    obtain ⟨k, D, hkn, rfl, hownk, HMP, HMk, hBk⟩ := hrel
    clear hown2 hB2 HMP0
    by_cases hlt : k < n
    · obtain ⟨xb, xo, hxa, hcx⟩ := id HX.out
      have e := hxa (by omega)
      subst e
      have HCX := Lib.hid hcx
      have hxw := hcx k hlt
      have c1 : wr.cell? ⟨xb, xo + k, none⟩ = _ := (hBk.cell (p := ⟨xb, xo + k, none⟩) (World.block_lt_of_cell? w _ hxw)).trans hxw
      obtain ⟨M, hM⟩ : ∃ M, M = mlN X C m W k := ⟨_, rfl⟩
      have HNr := Lib.hid (nearestOf_any ya m cy C (X k) W wr (HY.out.below hBk) (by omega) (HfX.out k hlt) HfC.out)
      have hge : -1 ≤ M ∧ M < (m : Int) := by rw [hM]; exact nrS_ge _ _ _
      rw [show (nrS (fun j => dW (X k) (C j)) W m).1 = M from hM.symm] at HNr
      have HM := Lib.hid hM
      clear hM hcx hxa hxw
      have hc1 := ownI_cell hownk hlt
      have hf1 := hownk.frozenAt k
      obtain ⟨w3, hw3⟩ : ∃ w3, w3 = wr.setCell ⟨g, k, none⟩ (.int .i64 M) := ⟨_, rfl⟩
      have hown3 := ownI_stored hownk k M
      rw [← hw3] at hown3
      have hB3 : Below w.heap.size w w3 := by rw [hw3]; exact hBk.setCell hwg _
      have HMP2 := Lib.hid (show w3.ownsMap Try.prog 2 (plainElem (H := Unit) Try.prog 3) b k D by rw [hw3]; exact HMP.out.setCell (fun e => hne e.symm) _)
      subst hw3
      clear hownk HMP
      by_cases hlow : M < 0
      · obtain rfl : M = -1 := by omega
        have HR := Lib.hid (show rowI (fun j => if j = k then -1 else mtI (mlN X C m W) (mlD X C m W) k j) n = rowI (mtI (mlN X C m W) (mlD X C m W) (k + 1)) n from rowI_congr fun j hj => by have := mtI_low (dl := mlD X C m W) HM.out.symm j; rw [← HM.out] at this; exact this)
        rw [HR.out] at hown3
        have HMn := Lib.hid (HMk.out.same fun q => hold_ne (by rw [← HM.out]; omega))
        have HMP3 := Lib.hid (HMP2.out.mono (Nat.le_succ k))
        go_wp2_with (go_at_call 67; refine HNr.out.mono ?_; rintro e w' ⟨rfl, rfl⟩)
        go_roundw
        all_goals first | (simp [intOf]; omega) | exact ⟨k + 1, _, by omega, by go_num, hown3, HMP3, HMn, hB3⟩
      · obtain ⟨q, rfl⟩ : ∃ q : Nat, M = q := ⟨M.toNat, by omega⟩
        have hqm : q < m := by omega
        have HKEY := Lib.hid (keyOf_int_mk Try.underlying2 (a := (q : Int)) (WalkArith.wf_i64 (by omega)))
        have HQ := Lib.hid HM.out.symm
        clear HM
        cases hh : hold (mlN X C m W) (mlD X C m W) (q : Int) k with
        | none =>
          have hhas := (HMk.out q).1 hh
          have HR := Lib.hid (show rowI (fun j => if j = k then (q : Int) else mtI (mlN X C m W) (mlD X C m W) k j) n = rowI (mtI (mlN X C m W) (mlD X C m W) (k + 1)) n from rowI_congr fun j hj => by have := mtI_new (ne := mlN X C m W) (dl := mlD X C m W) (i := k) (by rw [HQ.out]; exact hh) j; rw [HQ.out] at this; exact this)
          rw [HR.out] at hown3
          have HO3 := Lib.hid hown3
          have HHn := Lib.hid (show hold (mlN X C m W) (mlD X C m W) (q : Int) (k + 1) = some k by have := hold_new (ne := mlN X C m W) (dl := mlD X C m W) (i := k) (by rw [HQ.out]; exact hh); rw [HQ.out] at this; exact this)
          have HMn := Lib.hid (HMk.out.put HMP2.out.isMap HQ.out HHn.out)
          clear hh hown3 HR
          go_wp2_with (first | (go_at_call 67; refine HNr.out.mono ?_; rintro e w' ⟨rfl, rfl⟩) | (at_lookup; refine wpList_lookup_own_ok_int _ rfl _ _ 91 rfl 2 3 .i64 mapLaw Try.underlying91 Try.underlying3 (zeroInt _) b k _ rfl (by exact HMP2.out) _ _ rfl HKEY.out ?_; intro c hat hwc; rw [hhas]; clear hat hwc))
          go_quiet (fail)
          all_goals go_wp2_with (at_mapUpdate; refine wpList_mapUpdate_own _ rfl _ _ _ 91 rfl 2 3 mapLaw Try.underlying91 _ b k _ rfl (by exact map_drew HMP2.out _) (by unfold maxLen; omega) _ _ _ rfl rfl HKEY.out _ [] (plainElem_int Try.underlying3 (WalkArith.wf_i64 (by omega))) ?_; intro w4 hmap4 hgrow4)
          all_goals go_roundw
          all_goals first | (simp [intOf]; omega) | exact ⟨k + 1, _, by omega, by go_num, World.ownsRow.kept (ownI_drew HO3.out _) hgrow4 (.inr (by simp [Value.ownBlock]; omega)), Lib.hid hmap4, HMn, Below.grown (Below.drewN hB3 _) hgrow4 hB3.size (fun j hj => by cases hj; exact hwb)⟩
        | some h =>
          obtain ⟨hhk, hneh, _⟩ := hold_some hh
          obtain ⟨hhas, hat0⟩ := (HMk.out q).2 h hh
          have HAT := Lib.hid hat0
          have hhn : h < n := by omega
          obtain ⟨yb, yo, hya, hcy⟩ := id HY.out
          have e := hya (by omega)
          subst e
          have hyw := hcy q hqm
          have hxw := HCX.out h hhn
          have c2 : (wr.setCell ⟨g, k, none⟩ (.int .i64 (q : Int))).cell? ⟨yb, yo + q, none⟩ = _ := (hB3.cell (p := ⟨yb, yo + q, none⟩) (World.block_lt_of_cell? w _ hyw)).trans hyw
          have c3 : (wr.setCell ⟨g, k, none⟩ (.int .i64 (q : Int))).cell? ⟨xb, xo + h, none⟩ = _ := (hB3.cell (p := ⟨xb, xo + h, none⟩) (World.block_lt_of_cell? w _ hxw)).trans hxw
          have HD1 := Lib.hid (fun w => distanceOf_any (X h) (C q) (HfX.out h hhn) (HfC.out q hqm) w)
          have HD2 := Lib.hid (fun w => distanceOf_any (X k) (C q) (HfX.out k hlt) (HfC.out q hqm) w)
          have f1 := mlD_fin (HfX.out h hhn) HfC.out FW.out (by rw [hneh]; omega)
          have f2 := mlD_fin (HfX.out k hlt) HfC.out FW.out (by rw [HQ.out]; omega)
          have e1 := mlD_at hneh
          have e2 := mlD_at HQ.out
          have hle := leq_eqd (.inl rfl) (.inl rfl) f1 f2
          rw [← e1] at HD1
          rw [← e2] at HD2
          have Hh := Lib.hid hh
          obtain ⟨dh, hdh⟩ : ∃ d, d = mlD X C m W h := ⟨_, rfl⟩
          obtain ⟨dk, hdk⟩ : ∃ d, d = mlD X C m W k := ⟨_, rfl⟩
          rw [← hdh, ← hdk] at hle
          rw [← hdh] at HD1
          rw [← hdk] at HD2
          have Hdh := Lib.hid hdh
          have Hdk := Lib.hid hdk
          clear hya hcy hyw hxw f1 f2 e1 e2 hh hdh hdk hat0 hneh
          by_cases hd : dh ≤ dk
          · have hle' : (FloatKind.f32.format.order dh dk == some .lt || FloatKind.f32.format.order dh dk == some .eq) = true := hle.trans (decide_eq_true hd)
            have hd' := Lib.hid (show mlD X C m W h ≤ mlD X C m W k by rw [← Hdh.out, ← Hdk.out]; exact hd)
            have hhq : hold (mlN X C m W) (mlD X C m W) (mlN X C m W k) k = some h := by rw [HQ.out]; exact Hh.out
            have HR := Lib.hid (show rowI (fun j => if j = k then -1 else if j = k then (q : Int) else mtI (mlN X C m W) (mlD X C m W) k j) n = rowI (mtI (mlN X C m W) (mlD X C m W) (k + 1)) n from rowI_congr fun j hj => by have := mtI_stay hhq hd'.out j; rw [HQ.out] at this; exact this)
            have HO4 := Lib.hid (fun i => ownI_stored (ownI_drew hown3 i) k (-1))
            rw [HR.out] at HO4
            have hc3 := fun i => ownI_cell (ownI_drew hown3 i) hlt
            have hf3 := fun i => (ownI_drew hown3 i).frozenAt k
            have HMn := Lib.hid (HMk.out.same fun p => by
              by_cases hp : (p : Int) = (q : Int)
              · rw [hp, ← HQ.out, hold_stay hhq hd'.out, hhq]
              · exact hold_ne (by rw [HQ.out]; exact fun e => hp e.symm))
            have HMP4 := Lib.hid (fun i => ((map_drew HMP2.out i).mono (Nat.le_succ k)).setCell (a := ⟨g, k, none⟩) (fun e => hne e.symm) (.int .i64 (-1)))
            have HB4 := Lib.hid (fun i => Below.setCell (Below.drewN hB3 i) (p := ⟨g, k, none⟩) hwg (.int .i64 (-1)))
            clear hle hhq hd HR hown3
            go_wp2_with (first | (go_at_call 67; refine HNr.out.mono ?_; rintro e w' ⟨rfl, rfl⟩) | (at_lookup; refine wpList_lookup_own_ok_int _ rfl _ _ 91 rfl 2 3 .i64 mapLaw Try.underlying91 Try.underlying3 (zeroInt _) b k _ rfl (by exact HMP2.out) _ _ rfl HKEY.out ?_; intro c hat hwc; rw [hhas]; have e := hat.symm.trans HAT.out; simp only [DataW.lit.injEq, Lit.int.injEq, true_and] at e; subst e; clear hat hwc))
            go_quiet ((go_at_call 68; first | with_reducible exact Calls.quiet_of_same (HD1.out _) | with_reducible exact Calls.quiet_of_same (HD2.out _)))
            all_goals go_wp2
            all_goals go_roundw
            all_goals first | (simp [intOf]; omega) | exact ⟨k + 1, _, by omega, by go_num, HO4.out _, Lib.hid (HMP4.out _), HMn, HB4.out _⟩
          · have hle' : (FloatKind.f32.format.order dh dk == some .lt || FloatKind.f32.format.order dh dk == some .eq) = false := hle.trans (decide_eq_false hd)
            have hd' := Lib.hid (show ¬ mlD X C m W h ≤ mlD X C m W k by rw [← Hdh.out, ← Hdk.out]; exact hd)
            have hhq : hold (mlN X C m W) (mlD X C m W) (mlN X C m W k) k = some h := by rw [HQ.out]; exact Hh.out
            have HR := Lib.hid (show rowI (fun j => if j = h then -1 else if j = k then (q : Int) else mtI (mlN X C m W) (mlD X C m W) k j) n = rowI (mtI (mlN X C m W) (mlD X C m W) (k + 1)) n from rowI_congr fun j hj => by have := mtI_take hhq hd'.out j; rw [HQ.out] at this; exact this)
            have HO4 := Lib.hid (fun i => ownI_stored (ownI_drew hown3 i) h (-1))
            rw [HR.out] at HO4
            have hc3 := fun i => ownI_cell (ownI_drew hown3 i) hhn
            have hf3 := fun i => (ownI_drew hown3 i).frozenAt h
            have HHn := Lib.hid (show hold (mlN X C m W) (mlD X C m W) (q : Int) (k + 1) = some k by have := hold_take hhq hd'.out; rw [HQ.out] at this; exact this)
            have HMn := Lib.hid (HMk.out.put HMP2.out.isMap HQ.out HHn.out)
            have HMP4 := Lib.hid (fun i => (map_drew HMP2.out i).setCell (a := ⟨g, h, none⟩) (fun e => hne e.symm) (.int .i64 (-1)))
            have HB4 := Lib.hid (fun i => Below.setCell (Below.drewN hB3 i) (p := ⟨g, h, none⟩) hwg (.int .i64 (-1)))
            clear hle hhq hd HR hown3
            go_wp2_with (first | (go_at_call 67; refine HNr.out.mono ?_; rintro e w' ⟨rfl, rfl⟩) | (at_lookup; refine wpList_lookup_own_ok_int _ rfl _ _ 91 rfl 2 3 .i64 mapLaw Try.underlying91 Try.underlying3 (zeroInt _) b k _ rfl (by exact HMP2.out) _ _ rfl HKEY.out ?_; intro c hat hwc; rw [hhas]; have e := hat.symm.trans HAT.out; simp only [DataW.lit.injEq, Lit.int.injEq, true_and] at e; subst e; clear hat hwc))
            go_quiet ((go_at_call 68; first | with_reducible exact Calls.quiet_of_same (HD1.out _) | with_reducible exact Calls.quiet_of_same (HD2.out _)))
            all_goals go_wp2_with (at_mapUpdate; refine wpList_mapUpdate_own _ rfl _ _ _ 91 rfl 2 3 mapLaw Try.underlying91 _ b k _ rfl (by exact HMP4.out _) (by unfold maxLen; omega) _ _ _ rfl rfl HKEY.out _ [] (plainElem_int Try.underlying3 (WalkArith.wf_i64 (by omega))) ?_; intro w4 hmap4 hgrow4)
            all_goals go_roundw
            all_goals first | (simp [intOf]; omega) | exact ⟨k + 1, _, by omega, by go_num, World.ownsRow.kept (HO4.out _) hgrow4 (.inr (by simp [Value.ownBlock]; omega)), Lib.hid hmap4, HMn, Below.grown (HB4.out _) hgrow4 (HB4.out _).size (fun j hj => by cases hj; exact hwb)⟩
    · have e : k = n := by omega
      subst e
      go_wp2
      go_ret2
      exact ⟨_, rfl, hownk, hBk⟩
end Go.Proofs.Ytogmcinaoemnpab
