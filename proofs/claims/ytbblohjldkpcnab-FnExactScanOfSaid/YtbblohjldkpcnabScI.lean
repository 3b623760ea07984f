
/- A scan of lines: as the program makes it (the region of a round takes 9 minutes). -/
import Derived.Test.YtbblohjldkpcnabScP
import Derived.Test.YtbblohjldkpcnabPushS
import Derived.Test.YtbblohjldkpcnabQ5
import Derived.Test.YtbblohjldkpcnabRo
namespace Go.Proofs.Ytbblohjldkpcnab
set_option linter.all false
open Go Go.ChangeShapes Go.WideShapes Go.ChangeAt Go.RowKit

set_option maxRecDepth 100000 in
set_option maxHeartbeats 12800000 in
theorem implSc_yes (xa va : Option Addr) (n m cx cv step : Nat) (N : Nat) (X V : Nat → Nat) (w : World) (hX : Rd w xa n X) (hV : Rd w va m V) (hk : scOk X V n m step (N : Int) = true) (p : Nat) (ok : Bool) (hok : Hid (ok = finL (scR X V step n) N)) (hp : Hid (p = if ok = true then N else 0)) :
    Calls Try.prog 38 #[.slice xa n cx, .slice va m cv, .float .f32 step, .int .i64 (N : Int)] w (OutRet (scR X V step n) p ok w) := by
  obtain ⟨i0, hi, hz0, hz1, hz2⟩ := info_parts infoF
  have hk' := hk
  simp only [scOk, Bool.and_eq_true, decide_eq_true_eq] at hk'
  obtain ⟨⟨hP, hfs⟩, hN2, hN64⟩ := hk'
  obtain ⟨hn1, hn16, hmn, hfX, hfV⟩ := prsB_at hP
  subst hmn
  have hn : m ≤ 1048576 := by omega
  have hm16 : m ≤ 16 := by omega
  have HPR := Lib.hid (fun w => arePairs_any xa va m m cx cv X V 1 16 w)
  rw [hP] at HPR
  obtain ⟨xb, xo, hxa, hcx⟩ := id hX
  obtain ⟨vb, vo, hva, hcv⟩ := id hV
  have HX := Lib.hid hcx
  have HV := Lib.hid hcv
  have HN := Lib.hid (And.intro hN2 hN64)
  have HL := Lib.hid (fun w => isScanLength_any (N : Int) w)
  rw [show (decide (2 ≤ (N : Int)) && decide ((N : Int) ≤ 64)) = true by rw [decide_eq_true hN2, decide_eq_true hN64]; rfl] at HL
  have hN0 : 0 ≤ (N : Int) := by omega
  have hb : i0.bytes * N ≤ 281474976710656 := by rw [hz2]; omega
  have hm : N ≤ maxLen := by unfold maxLen; omega
  have HM2 := Lib.hid (show N ≤ 1048576 by omega)
  have HN6 := Lib.hid (show N ≤ 64 by omega)
  clear hcx hcv hk hP hn1 hn16 hfX hfV hN2 hN64
  have hpl := fun op => fbin_pick_l op .f32
  have hpr := fun op => fbin_pick_r op .f32
  have hcp := fun X s => fconv_pick .f32 X s .f64
  go_enter Try.func38, Try.ntmps38
  go_wp2_with fail
  refine (HPR.out _ (by exact hX) (by exact hV) hn hn).mono ?_
  rintro e w1 ⟨rfl, q, rfl⟩
  go_wp2_with fail
  refine (IsFinite_any _ _).mono ?_
  rw [hfs]
  rintro e w1 ⟨rfl, q2, rfl⟩
  go_wp2_with fail
  refine (HL.out _).mono ?_
  rintro e w1 ⟨rfl, rfl⟩
  go_wp2_with (at_make; refine wpList_make_full _ rfl _ _ 24 rfl w.heap.size 43 i0 (.float .f32 0) 1 Try.underlying24 hi hz0 hz1 _ _ _ _ N rfl rfl rfl rfl hb hm (Nat.le_refl _) ?_)
  intro w2 hown hgr
  rw [madeF] at hown
  have hB : Below w.heap.size w w2 := (Below.drewN (Below.refl _ w) _).trans ((Below.refl _ _).grown hgr (Nat.le_refl _) (fun _ h => by cases h))
  clear hgr hb hm hi hz0 hz1 hz2 HPR HL hfs hn
  go_wp2
  go_loopw [33] (fun i wr => ∃ (c : Nat) (Z : Nat → Nat), c ≤ N ∧ i = .int .i64 (c : Int) ∧ wr.ownsRow w.heap.size 43 1 (.slice (some ⟨w.heap.size, 0, none⟩) N N) N (rowOf Z N) ∧ LikeP Z (fun p => if p < c then scR X V step m p else 0) N ∧ Below w.heap.size w wr) (fun i _ => N - (intOf i).toNat)
  case atStart => exact ⟨0, fun _ => 0, Nat.zero_le _, rfl, hown, fun j _ => ⟨0, by show (0 : Nat) = pick .f32 (if j < 0 then scR X V step m j else 0) 0; rw [if_neg (Nat.not_lt_zero _), pick_num (by decide +kernel)]⟩, hB⟩
  case round =>
    obtain ⟨c, Z, hc, rfl, hownk, hL, hBk⟩ := hrel
    clear hown hB
    by_cases hltc : c < N
    · obtain ⟨wu, hwu⟩ : ∃ wu, wu = wr := ⟨_, rfl⟩
      subst hwu
      have HOk := Lib.hid hownk
      have HLk := Lib.hid hL
      have HBk := Lib.hid hBk
      have hcN : (c : Int) < (N : Int) := by omega
      clear hownk hL hBk
      go_wp2_with ((with_reducible refine wpL_fbin ?_); refine ⟨_, _, _, rfl, rfl, rfl, fun s n => ?_⟩)
      go_loopw [42] (fun i wr => ∃ (k : Nat) (Y : Nat → Nat), k ≤ m ∧ i = .int .i64 (k : Int) ∧ wr.ownsRow w.heap.size 43 1 (.slice (some ⟨w.heap.size, 0, none⟩) N N) N (rowOf Y N) ∧ LikeP Y (fun p => if p < c then scR X V step m p else if p = c then scS X V step (c : Int) k else 0) N ∧ Below w.heap.size w wr) (fun i _ => m - (intOf i).toNat)
      case atStart => exact ⟨0, Z, Nat.zero_le _, rfl, own_drew HOk.out _, HLk.out.congr (fun p _ => by
        by_cases h : p < c
        · rw [if_pos h, if_pos h]
        · rw [if_neg h, if_neg h]; split <;> rfl), Below.drewN HBk.out _⟩
      case round =>
        obtain ⟨k, Y, hkm, rfl, hownj, hLj, hBj⟩ := hrel
        by_cases hltk : k < m
        · have e := hxa (by omega)
          subst e
          have e := hva (by omega)
          subst e
          have hx1 := HX.out k hltk
          have hv1 := HV.out k hltk
          have hxl := World.block_lt_of_cell? w _ hx1
          have hvl := World.block_lt_of_cell? w _ hv1
          have hx2 : wr.cell? ⟨xb, xo + k, none⟩ = some (.float .f32 (X k)) := (hBj.cell (p := ⟨xb, xo + k, none⟩) hxl).trans hx1
          have hv2 : wr.cell? ⟨vb, vo + k, none⟩ = some (.float .f32 (V k)) := (hBj.cell (p := ⟨vb, vo + k, none⟩) hvl).trans hv1
          have hkm' : (k : Int) < (m : Int) := by omega
          have hkn : (k : Int) < (m : Int) := hkm'
          have h5 := own_cell hownj hltc
          obtain ⟨s, hs⟩ := hLj c hltc
          replace hs : Y c = pick .f32 (scS X V step (c : Int) k) s := by
            rw [hs]
            show pick .f32 (if c < c then _ else if c = c then _ else _) s = _
            rw [if_neg (Nat.lt_irrefl _), if_pos rfl]
          have st := fun q u => own_store hownj hltc q u
          obtain ⟨z, hz⟩ : ∃ z, z = Y c := ⟨_, rfl⟩
          rw [← hz] at hs h5
          have HOj := Lib.hid hownj
          have HLj := Lib.hid hLj
          have HBj := Lib.hid hBj
          obtain ⟨W1, hW1⟩ : ∃ W1, scZ X step (c : Int) k = W1 := ⟨_, rfl⟩
          have hZ1 : fconv .f32 (fbin .mul .f32 (X k) (fbin .mul .f32 (floatOfInt .f32 (c : Int)) step)) .f64 = W1 := hW1
          obtain ⟨C, hC⟩ : ∃ C, (phaT W1).1 = C := ⟨_, rfl⟩
          have HP := Lib.hid (show ∀ (s : Nat) (w : World), Calls Try.prog 97 #[.float .f64 (pick .f64 W1 s)] w (RetC C (phaT W1).2 w) from fun s w => by
            have := implPha_any (pick .f64 W1 s) (by rw [← hW1]; exact scZ_lt _ _ _ _ _) w
            rw [phaT_pick, hC] at this
            exact this)
          obtain ⟨D, hD⟩ : ∃ D, fbin .add .f32 z (fbin .mul .f32 (V k) (fbin .add .f32 1065353216 C)) = D := ⟨_, rfl⟩
          have HD := Lib.hid (show scS X V step (c : Int) (k + 1) = D by
            rw [← hD, hs, fbin_pick_l, ← hC, ← hW1]; rfl)
          have HR := Lib.hid (show ∀ t, LikeP (fun p => if p = c then pick .f32 D t else Y p) (fun p => if p < c then scR X V step m p else if p = c then scS X V step (c : Int) (k + 1) else 0) N from fun t => (HLj.out.set (k := c) rfl).congr fun p hp => by
            by_cases e : p = c
            · rw [if_pos e, if_neg (by omega), if_pos e, HD.out]
            · rw [if_neg e, if_neg e, if_neg e])
          have q1 := run_mul32
          have q2 := run_add32
          have q3 := widen_run
          clear hownj hLj hBj hs hz hC hW1 hx1 hv1
          have hvl' : vb < w.heap.size := hvl
          have hne : ¬ vb = w.heap.size := by omega
          have hne' : ¬ w.heap.size = vb := by omega
          go_wp2_with fail
          go_region_with (go_at_call 97; refine (HP.out _ _).mono ?_; rintro e w' ⟨s', t', m', rfl, rfl⟩)
          all_goals go_wp2
          all_goals go_roundw
          all_goals first
            | exact ⟨k + 1, _, by omega, by go_num, own_stored (own_drew HOj.out _) c _, HR.out _, Below.setCell (Below.drewN HBj.out _) (Nat.le_refl _) _⟩
            | (simp [intOf]; omega)
        · have hkm' : k = m := by omega
          subst hkm'
          have hL2 : LikeP Y (fun p => if p < c + 1 then scR X V step k p else 0) N := hLj.congr fun p hp => by
            by_cases h : p < c
            · rw [if_pos h, if_pos (by omega)]
            · rw [if_neg h]
              by_cases e : p = c
              · rw [if_pos e, if_pos (by omega), e]; rfl
              · rw [if_neg e, if_neg (by omega)]
          clear hLj
          have hN6 := HN6.out
          go_wp2
          go_roundw
          case rel => exact ⟨c + 1, Y, by omega, by go_num, hownj, hL2, hBj⟩
          case measure => simp [intOf]; omega
    · have hcN : c = N := by omega
      subst hcN
      have hL2 : LikeP Z (scR X V step m) c := hL.congr fun p hp => by rw [if_pos hp]
      have hfl := finL_like hL2.like
      have hN6 : c ≤ 1048576 := HM2.out
      have HOk := Lib.hid hownk
      have HLk := Lib.hid hL2
      have HBk := Lib.hid hBk
      rw [← hok.out] at hfl
      clear hownk hBk hltc hL hL2
      cases ok
      · have hp0 := hp.out
        rw [if_neg (by simp)] at hp0
        subst hp0
        go_wp2_with (go_at_call 98; refine (onlyFinite_any _ w.heap.size _ Z _ (by exact HOk.out) hN6).mono ?_; rintro e w' ⟨he, q, rfl⟩; rw [hfl] at he; subst he)
        go_ret2
        exact OutRet.no (Below.drewN HBk.out _)
      · have hp0 := hp.out
        rw [if_pos rfl] at hp0
        subst hp0
        go_wp2_with (go_at_call 98; refine (onlyFinite_any _ w.heap.size _ Z _ (by exact HOk.out) hN6).mono ?_; rintro e w' ⟨he, q, rfl⟩; rw [hfl] at he; subst he)
        go_ret2
        exact ⟨_, Z, rfl, own_drew HOk.out _, HLk.out.like, Below.drewN HBk.out _⟩
end Go.Proofs.Ytbblohjldkpcnab
