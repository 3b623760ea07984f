
/- Wave numbers of steps: as the program tells them. -/
import Derived.Test.YtbblohjldkpcnabWvn
import Derived.Test.YtbblohjldkpcnabJnP
namespace Go.Proofs.Ytbblohjldkpcnab
set_option linter.all false
open Go Go.ChangeShapes Go.WideShapes Go.ChangeAt Go.RowKit

/-- The first parts that are laid. -/
def upTo (k : Nat) (A : Nat → Nat) (j : Nat) : Nat := if j < k then A j else 0
set_option maxRecDepth 100000 in
set_option maxHeartbeats 6400000 in
theorem implWaves_any (xa ya : Option Addr) (n m cx cy E : Nat) (X Y : Nat → Nat) (w : World) (hX : Rd w xa n X) (hY : Rd w ya m Y) (hn : n ≤ 1048576) (hm : m ≤ 1048576)
    (hE : E < 4294967296) (hw : ∀ i, i < m → Y i < 4294967296) (ok : Bool) (hok : ok = (stepsOk X n Y m && isFin .f32 E && wvAll E Y m)) :
    Calls Try.prog 53 #[.agg #[.slice xa n cx, .slice ya m cy], .float .f32 E] w (RetW E Y m ok w) := by
  obtain ⟨i0, hi, hz0, hz1, hz2⟩ := infoC_parts
  have HK := Lib.hid hok
  clear hok
  cases hst : stepsOk X n Y m
  · have HN := Lib.hid (show ok = false by rw [HK.out, hst]; rfl)
    go_enter Try.func53, Try.ntmps53
    go_wp2_with fail
    refine (implValid_any xa ya n m cx cy X Y _ (by exact hX.alloc _) (by exact hY.alloc _) hn hm).mono ?_
    rintro e0 w1 ⟨rfl, B1⟩
    rw [hst]
    go_wp2
    go_ret2
    exact .inl ⟨HN.out, rfl, ((Below.refl _ _).alloc (Nat.le_refl _) _).trans (B1.mono (by simp))⟩
  cases hfE : isFin .f32 E
  · have HN := Lib.hid (show ok = false by rw [HK.out, hst, hfE]; rfl)
    go_enter Try.func53, Try.ntmps53
    go_wp2_with fail
    refine (implValid_any xa ya n m cx cy X Y _ (by exact hX.alloc _) (by exact hY.alloc _) hn hm).mono ?_
    rintro e0 w1 ⟨rfl, B1⟩
    rw [hst]
    go_wp2_with fail
    refine (IsFinite_any _ _).mono ?_
    rw [hfE]
    rintro e w' ⟨rfl, q, rfl⟩
    go_wp2
    go_ret2
    exact .inl ⟨HN.out, rfl, Below.drewN (((Below.refl _ _).alloc (Nat.le_refl _) _).trans (B1.mono (by simp))) q⟩
  have hfY := (ok_fin hst).2.1
  have HK' := Lib.hid (show ok = wvAll E Y m by rw [HK.out, hst, hfE]; rfl)
  have HW := Lib.hid hw
  have HF := Lib.hid (finL_at hfY)
  clear hw hfY HK
  have hbx := box2_alloc w (.slice xa n cx) (.slice ya m cy) 62
  go_enter Try.func53, Try.ntmps53
  go_wp2_with fail
  refine (implValid_any xa ya n m cx cy X Y _ (by exact hX.alloc _) (by exact hY.alloc _) hn hm).mono ?_
  rintro e0 w1 ⟨rfl, B1⟩
  have HA1 : Below w.heap.size w w1 := ((Below.refl _ _).alloc (Nat.le_refl _) _).trans (B1.mono (by simp))
  have hq := hbx.below B1
  have hq0 := hq.1
  have hq1 := hq.2
  have hbl := World.block_lt_of_cell? w1 _ hq1
  rw [hst]
  clear hX hst B1 hq hbx
  go_wp2_with fail
  refine (IsFinite_any _ _).mono ?_
  rw [hfE]
  rintro e w' ⟨rfl, q, rfl⟩
  have hb : i0.bytes * m ≤ 281474976710656 := by rw [hz2]; omega
  have hmm : m ≤ maxLen := by unfold maxLen; omega
  have hgw : w.heap.size ≤ (w1.drewN q).heap.size := HA1.size
  go_wp2_with (at_make; refine wpList_make_full _ rfl _ _ 71 rfl w.heap.size 106 i0 (.complex .f32 0 0) 1 Try.underlying71 hi hz0 hz1 _ _ _ _ m rfl rfl rfl rfl hb hmm (by exact hgw) ?_)
  intro w2 hown hgr
  rw [madeC] at hown
  have hB2 : Below w1.heap.size (w1.drewN q) w2 := (Below.refl _ _).grown hgr (Nat.le_refl _) (fun _ h => by cases h)
  have hgs : w1.heap.size = (w1.drewN q).heap.size := rfl
  have HB : Below w.heap.size w w2 := (Below.drewN HA1 q).trans (hB2.mono HA1.size)
  have hq0' : w2.cell? ⟨w.heap.size, 0, none⟩ = _ := (hB2.cell (p := ⟨w.heap.size, 0, none⟩) hbl).trans hq0
  have hq1' : w2.cell? ⟨w.heap.size, 1, none⟩ = _ := (hB2.cell (p := ⟨w.heap.size, 1, none⟩) hbl).trans hq1
  obtain ⟨G, hG⟩ : ∃ G, G = w1.heap.size := ⟨_, rfl⟩
  rw [← hG] at hown ⊢
  obtain ⟨yb, yo, hya, hcy⟩ := hY
  have HY := Lib.hid hcy
  have hGw : w.heap.size ≤ G := by rw [hG]; exact HA1.size
  have hbG : w.heap.size < G := by rw [hG]; exact hbl
  have hG2 : G < w2.heap.size := own_lt hown
  have HU := Lib.hid (show rowC (fun _ => 0) (fun _ => 0) m = rowC (upTo 0 fun _ => 0) (upTo 0 fun _ => 0) m from rowC_congr fun _ _ => ⟨by simp [upTo], by simp [upTo]⟩)
  rw [HU.out] at hown
  clear hb hmm hgw hgr hB2 hgs hq0 hq1 hcy hG hbl HA1
  go_wp2
  go_loopw [24] (fun i wr => ∃ (k : Nat) (A B : Nat → Nat), k ≤ m ∧ i = .int .i64 k ∧ wr.ownsRow w.heap.size 106 1 (.slice (some ⟨G, 0, none⟩) m m) m (rowC (upTo k A) (upTo k B) m) ∧ Hid (Like A (fun i => wvR E (Y i)) k) ∧ Hid (Like B (fun i => wvI E (Y i)) k) ∧ Only G w2 wr ∧ Hid (∀ j, j < k → wvOk E (Y j) = true)) (fun i _ => m - (intOf i).toNat)
  case atStart => exact ⟨0, _, _, Nat.zero_le _, rfl, hown, Lib.hid fun _ h => absurd h (Nat.not_lt_zero _), Lib.hid fun _ h => absurd h (Nat.not_lt_zero _), Only.refl _ _, Lib.hid fun _ h => absurd h (Nat.not_lt_zero _)⟩
  case round =>
    obtain ⟨k, A, B, hk, rfl, hownk, HA, HB', hBk, HG⟩ := hrel
    have HD : Below w.heap.size w wr := HB.trans (only_below hGw HB.size hBk)
    by_cases hlt : k < m
    · have e := hya (by omega)
      subst e
      have hck := HY.out k hlt
      have hyl : yb < w.heap.size := World.block_lt_of_cell? w _ hck
      have hcr : wr.cell? ⟨yb, yo + k, none⟩ = some (.float .f32 (Y k)) := (HD.cell (p := ⟨yb, yo + k, none⟩) hyl).trans hck
      have hbd : (k : Int) < (m : Int) := by omega
      have hord := sub_order' hE (HW.out k hlt) hfE (HF.out k hlt)
      obtain ⟨D, hD⟩ : ∃ D, fbin .sub .f32 E (Y k) = D := ⟨_, rfl⟩
      have hDn : isNaN .f32 D = false := by rw [← hD]; exact nan_sub (num_fin hfE) (HF.out k hlt)
      have hop := fun t => run_numop (op := .sub) rfl t E (Y k) D hD hDn
      obtain ⟨D', hD'⟩ : ∃ D', fbin .sub .f32 (Y k) E = D' := ⟨_, rfl⟩
      have hDn' : isNaN .f32 D' = false := by rw [← hD']; exact nan_sub (num_fin (HF.out k hlt)) hfE
      have hop' := fun t => run_numop (op := .sub) rfl t (Y k) E D' hD' hDn'
      have hfz := hownk.frozenAt k
      have hcl : wr.cell? ⟨G, k, none⟩ = some (.complex .f32 0 0) := by
        rw [hownk.cellAt k (by omega), rowC_get _ _ _ _ hlt]; simp [upTo]
      have HS := Lib.hid (show ∀ u v q, ((wr.drewN q).setCell ⟨G, k, none⟩ (.complex .f32 u v)).ownsRow w.heap.size 106 1 (.slice (some ⟨G, 0, none⟩) m m) m (rowC (upTo (k + 1) (fun j => if j = k then u else A j)) (upTo (k + 1) (fun j => if j = k then v else B j)) m) from fun u v q => by
        have hst := ((own_drew hownk q).stored k (.complex .f32 u v)).1
        rw [rowC_set] at hst
        rw [rowC_congr (X' := upTo (k + 1) (fun j => if j = k then u else A j)) (Y' := upTo (k + 1) (fun j => if j = k then v else B j)) (fun j _ => by
          unfold upTo
          by_cases hj : j = k
          · subst hj; simp
          · rw [if_neg hj, if_neg hj]
            by_cases hj2 : j < k
            · rw [if_pos hj2, if_pos (by omega), if_pos hj2, if_pos (by omega)]; exact ⟨by simp [hj], by simp [hj]⟩
            · rw [if_neg hj2, if_neg (by omega), if_neg hj2, if_neg (by omega)]; exact ⟨rfl, rfl⟩)] at hst
        exact hst)
      have HO := Lib.hid (show ∀ u v q, Only G w2 ((wr.drewN q).setCell ⟨G, k, none⟩ (.complex .f32 u v)) from fun u v q => Only.setCell (show Only G w2 (wr.drewN q) from hBk) _ _)
      have HE := Lib.hid (show ∀ u v q, Below w.heap.size w ((wr.drewN q).setCell ⟨G, k, none⟩ (.complex .f32 u v)) from fun u v q => HB.trans (only_below hGw HB.size (HO.out u v q)))
      have HST := Lib.hid (show ∀ q u v, (store ⟨G, k, none⟩ (.complex .f32 u v)).run Try.prog (wr.drewN q) = .ok () ((wr.drewN q).setCell ⟨G, k, none⟩ (.complex .f32 u v)) from fun q u v => store_cplx (wr.drewN q) ⟨G, k, none⟩ u v hcl hfz)
      have HYES := Lib.hid (show wvOk E (Y k) = true → ∀ j, j < k + 1 → wvOk E (Y j) = true from fun h j hj => by
        by_cases hj' : j < k
        · exact HG.out j hj'
        · rw [show j = k by omega]; exact h)
      have HNO := Lib.hid (show wvOk E (Y k) = false → ok = false from fun h => by rw [HK'.out]; exact wvAll_no hlt h)
      have hGr : G < wr.heap.size := own_lt hownk
      rw [hD] at hord
      clear hownk hBk hord
      cases hg : gtW E (Y k)
      · have hg0 : (FloatKind.f32.format.order E (Y k) == some .gt) = false := hg
        cases hl : ltW E (Y k)
        · have hl0 : (FloatKind.f32.format.order E (Y k) == some .lt) = false := hl
          have HN := Lib.hid (HNO.out (by unfold wvOk; rw [hg, hl]; rfl))
          clear hg hl hD hD'
          go_wp2
          go_ret2
          exact .inl ⟨HN.out, rfl, HD⟩
        · have hl0 : (FloatKind.f32.format.order E (Y k) == some .lt) = true := hl
          have HV := Lib.hid (fun s => wv_lt hg s)
          rw [hD'] at HV
          have HOK := Lib.hid (show ∀ s, finP 0 (pick .f32 (rootT D') s) = wvOk E (Y k) from fun s => by
            unfold wvOk
            rw [finP_canon (HV.out s).1 (HV.out s).2]
            rw [hg, hl]; rfl)
          clear hg hl hD hD'
          go_wp2_with fail
          refine (RootNumber_any _ _).mono ?_
          rintro e0 w3 ⟨s, q', rfl, rfl⟩
          have hst := HST.out q' 0 (pick .f32 (rootT D') s)
          cases hfp : finP 0 (pick .f32 (rootT D') s)
          · have HN := Lib.hid (HNO.out (by rw [← HOK.out s]; exact hfp))
            go_wp2_with (go_at_call 112; refine (implCFin_any _ _ _).mono ?_; rw [hfp]; rintro e w' ⟨rfl, q3, rfl⟩)
            go_ret2
            exact .inl ⟨HN.out, rfl, Below.drewN (HE.out _ _ _) _⟩
          · have HN := Lib.hid (HYES.out (by rw [← HOK.out s]; exact hfp))
            go_wp2_with (go_at_call 112; refine (implCFin_any _ _ _).mono ?_; rw [hfp]; rintro e w' ⟨rfl, q3, rfl⟩)
            go_roundw
            case rel => exact ⟨k + 1, _, _, by omega, by go_num, own_drew (HS.out _ _ _) _, Lib.hid (likeC_push HA.out (HV.out s).1), Lib.hid (likeC_push HB'.out (HV.out s).2), by exact HO.out _ _ _, HN⟩
            case measure => simp [intOf]; omega
      · have hg0 : (FloatKind.f32.format.order E (Y k) == some .gt) = true := hg
        have HV := Lib.hid (fun s => wv_gt hg s)
        rw [hD] at HV
        have HOK := Lib.hid (show ∀ s, finP (pick .f32 (rootT D) s) 0 = wvOk E (Y k) from fun s => by
          unfold wvOk
          rw [finP_canon (HV.out s).1 (HV.out s).2]
          rw [hg]; rfl)
        clear hg hD hD'
        go_wp2_with fail
        refine (RootNumber_any _ _).mono ?_
        rintro e0 w3 ⟨s, q', rfl, rfl⟩
        have hst := HST.out q' (pick .f32 (rootT D) s) 0
        cases hfp : finP (pick .f32 (rootT D) s) 0
        · have HN := Lib.hid (HNO.out (by rw [← HOK.out s]; exact hfp))
          go_wp2_with (go_at_call 112; refine (implCFin_any _ _ _).mono ?_; rw [hfp]; rintro e w' ⟨rfl, q3, rfl⟩)
          go_ret2
          exact .inl ⟨HN.out, rfl, Below.drewN (HE.out _ _ _) _⟩
        · have HN := Lib.hid (HYES.out (by rw [← HOK.out s]; exact hfp))
          go_wp2_with (go_at_call 112; refine (implCFin_any _ _ _).mono ?_; rw [hfp]; rintro e w' ⟨rfl, q3, rfl⟩)
          go_roundw
          case rel => exact ⟨k + 1, _, _, by omega, by go_num, own_drew (HS.out _ _ _) _, Lib.hid (likeC_push HA.out (HV.out s).1), Lib.hid (likeC_push HB'.out (HV.out s).2), by exact HO.out _ _ _, HN⟩
          case measure => simp [intOf]; omega
    · have hkm : k = m := by omega
      subst hkm
      have HN := Lib.hid (show ok = true by rw [HK'.out]; exact wvAll_yes HG.out)
      have HS := Lib.hid (show wr.ownsRow w.heap.size 106 1 (.slice (some ⟨G, 0, none⟩) k k) k (rowC A B k) from by
        rw [rowC_congr (X' := A) (Y' := B) (fun j hj => by unfold upTo; rw [if_pos hj, if_pos hj]; exact ⟨rfl, rfl⟩)] at hownk
        exact hownk)
      clear hownk hBk
      go_wp2
      go_ret2
      exact .inr ⟨HN.out, _, A, B, rfl, HS.out, HA.out, HB'.out, HD⟩
end Go.Proofs.Ytbblohjldkpcnab
