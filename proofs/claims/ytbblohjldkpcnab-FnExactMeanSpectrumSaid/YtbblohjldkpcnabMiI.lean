/- Mixtures: as the program makes them. -/
import Derived.Test.YtbblohjldkpcnabMx0
import Derived.Test.YtbblohjldkpcnabArr
namespace Go.Proofs.Ytbblohjldkpcnab
open Go Go.ChangeShapes Go.WideShapes Go.ChangeAt Go.RowKit

set_option maxRecDepth 100000 in
set_option maxHeartbeats 3200000 in
theorem implMix_yes (xa : Option Addr) (K cap : Nat) (N : Nat → Nat) (X : Nat → Nat → Nat) (sa : Option Addr) (cs : Nat) (S : Nat → Nat) (w : World) (hX : RdR w xa K N X) (hS : Rd w sa K S) (h : K + totN N K ≤ 1048576) (hk : okSpc K N X = true) (hfs : finL S K = true) (ok : Bool) (ho : Hid (ok = finL (mixR S X K) (N 0))) (m : Nat) (hm : Hid (m = if ok = true then N 0 else 0)) :
    Calls Try.prog 64 #[.slice xa K cap, .slice sa K cs] w (LstRet (mixR S X K) m ok w) := by
  obtain ⟨i0, hi, hz0, hz1, hz2⟩ := info_parts infoF
  have HT := Lib.hid (fun w hX => implSpc_any xa K cap N X w hX h true (Lib.hid hk.symm))
  have HAF := Lib.hid (fun w hS => allFinite_any sa K cs S w hS (by omega))
  rw [hfs] at HAF
  obtain ⟨hK1, hK8, hall⟩ := okSpc_at hk
  have HA := Lib.hid hall
  obtain ⟨n, hn⟩ : ∃ n, n = N 0 := ⟨_, rfl⟩
  have hn128 : 1 ≤ n ∧ n ≤ 128 := by have := okLst_at (hall 0 (by omega)).1; omega
  have hX0 := hX
  obtain ⟨xb, xo, hxa, _⟩ := hX
  have e := hxa (by omega)
  subst e
  have hS0 := hS
  obtain ⟨sb, so, hsa, hcs⟩ := hS
  have e := hsa (by omega)
  subst e
  obtain ⟨rb, ro, rc, hlay⟩ := RdR.lay hX0 (n := n) (fun k hk => by rw [(HA.out k hk).2, hn]) (by omega)
  have HX := Lib.hid hlay
  clear hlay
  have HS := Lib.hid (show ∀ w', Below w.heap.size w w' → ∀ k, k < K → w'.cell? ⟨sb, so + k, none⟩ = some (.float .f32 (S k)) from fun w' hb k hk =>
    (hb.cell (p := ⟨sb, so + k, none⟩) (World.block_lt_of_cell? w _ (hcs k hk))).trans (hcs k hk))
  have HFS := Lib.hid (finL_at hfs)
  have HFX := Lib.hid (show ∀ k, k < K → ∀ j, j < n → isFin .f32 (X k j) = true from fun k hk j hj => finL_at (okLst_at (HA.out k hk).1).1 j (by rw [(HA.out k hk).2, ← hn]; exact hj))
  have hi1 : (0 : Int) < (K : Int) := by omega
  have hi2 : 0 < K := by omega
  have hne : ((K : Int) != (K : Int)) = false := by simp
  have hb : i0.bytes * n ≤ 281474976710656 := by rw [hz2]; omega
  have hmx : n ≤ maxLen := by unfold maxLen; omega
  rw [← hn] at ho hm
  clear hall hxa hsa hcs hk hfs hn
  go_enter Try.func64, Try.ntmps64
  go_wp2_with fail
  refine (HT.out _ (by exact hX0)).mono ?_
  rintro e w1 ⟨rfl, B1⟩
  go_wp2_with fail
  refine (HAF.out _ (by exact hS0.below B1)).mono ?_
  rintro e w' ⟨rfl, q, rfl⟩
  have B2 : Below w.heap.size w (w1.drewN q) := Below.drewN B1 q
  obtain ⟨w2, hw2⟩ : ∃ w2, w2 = w1.drewN q := ⟨_, rfl⟩
  rw [← hw2] at B2 ⊢
  clear hw2 B1 hX0 hS0
  have h0 := (HX.out w2 B2 0 (by omega)).1
  rw [Nat.add_zero] at h0
  go_wp2_with (at_make; refine wpList_make_full _ rfl _ _ 24 rfl w2.heap.size 43 i0 (.float .f32 0) 1 Try.underlying24 hi hz0 hz1 _ _ _ _ n rfl rfl rfl rfl hb hmx (Nat.le_refl _) ?_)
  intro w3 hown hgr
  rw [madeF] at hown
  have HO : w3.ownsRow w2.heap.size 43 1 (.slice (some ⟨w2.heap.size, 0, none⟩) n n) n (rowOf (fun _ => 0) n) := hown
  have hB : Below w2.heap.size w2 w3 := (Below.refl _ w2).grown hgr (Nat.le_refl _) (fun _ h => by cases h)
  clear hgr hb hmx hown hi hz0 hz1 hz2 h0
  go_wp2
  go_loopw [33] (fun i wr => ∃ (c : Nat) (Z : Nat → Nat), c ≤ K ∧ i = .int .i64 (c : Int) ∧ wr.ownsRow w2.heap.size 43 1 (.slice (some ⟨w2.heap.size, 0, none⟩) n n) n (rowOf Z n) ∧ LikeP Z (mixR S X c) n ∧ Below w2.heap.size w2 wr) (fun i _ => K - (intOf i).toNat)
  case atStart => exact ⟨0, fun _ => 0, Nat.zero_le _, rfl, HO, fun j _ => ⟨0, by rw [show mixR S X 0 j = 0 from rfl, pick_zero]⟩, hB⟩
  case round =>
    obtain ⟨c, Z, hc, rfl, hownk, hL, hBk⟩ := hrel
    clear HO hB
    by_cases hltc : c < K
    · obtain ⟨wu, hwu⟩ : ∃ wu, wu = wr := ⟨_, rfl⟩
      subst hwu
      have hBw : Below w.heap.size w wu := B2.trans (hBk.mono B2.size)
      have h1 := (HX.out wu hBw c hltc).1
      have HOk := Lib.hid hownk
      have HLk := Lib.hid hL
      have HBk := Lib.hid hBk
      clear hownk hL hBk
      go_wp2
      go_loopw [40] (fun i wr => ∃ (j : Nat) (Y : Nat → Nat), j ≤ n ∧ i = .int .i64 (j : Int) ∧ wr.ownsRow w2.heap.size 43 1 (.slice (some ⟨w2.heap.size, 0, none⟩) n n) n (rowOf Y n) ∧ LikeP Y (fun p => if p < j then mixR S X (c + 1) p else mixR S X c p) n ∧ Below w2.heap.size w2 wr) (fun i _ => n - (intOf i).toNat)
      case atStart => exact ⟨0, Z, Nat.zero_le _, rfl, HOk.out, HLk.out.congr (fun p _ => by rw [if_neg (Nat.not_lt_zero _)]), HBk.out⟩
      case round =>
        obtain ⟨j, Y, hj, rfl, hownj, hLj, hBj⟩ := hrel
        by_cases hltj : j < n
        · have hBj' : Below w.heap.size w wr := B2.trans (hBj.mono B2.size)
          have h2 := (HX.out wr hBj' c hltc).2 j hltj
          have h4 := HS.out wr hBj' c hltc
          have h5 := own_cell hownj hltj
          obtain ⟨s, hs⟩ := hLj j hltj
          replace hs : Y j = pick .f32 (mixR S X c j) s := by
            rw [hs]
            show pick .f32 (if j < j then _ else _) s = _
            rw [if_neg (Nat.lt_irrefl _)]
          have st := fun q u => own_store hownj hltj q u
          have st1 := fun (u : Nat) => show (store ⟨w2.heap.size, j, none⟩ (.float .f32 u)).run Try.prog wr.drew = .ok () (wr.drew.setCell ⟨w2.heap.size, j, none⟩ (.float .f32 u)) from own_store hownj hltj 1 u
          obtain ⟨z, hz⟩ : ∃ z, z = Y j := ⟨_, rfl⟩
          rw [← hz] at hs h5
          have HOj := Lib.hid hownj
          have HLj := Lib.hid hLj
          have HBj := Lib.hid hBj
          obtain ⟨P, hP⟩ : ∃ P, P = fbin .mul .f32 (S c) (X c j) := ⟨_, rfl⟩
          have nP : isNaN .f32 P = false := by rw [hP]; exact nan_mul (HFS.out c hltc) (HFX.out c hltc j hltj)
          have q1 := fun t => run_numop (op := .mul) rfl t _ _ _ hP.symm nP
          obtain ⟨D, hD⟩ : ∃ D, fbin .add .f32 z P = D := ⟨_, rfl⟩
          have HD := Lib.hid (show mixR S X (c + 1) j = D by
            rw [← hD, hs, fbin_pick_l, hP]; rfl)
          have HR := Lib.hid (show ∀ t, LikeP (fun p => if p = j then pick .f32 D t else Y p) (fun p => if p < j + 1 then mixR S X (c + 1) p else mixR S X c p) n from fun t => (HLj.out.set (k := j) rfl).congr fun p hp => by
            by_cases e : p = j
            · rw [if_pos e, if_pos (by omega), e, HD.out]
            · rw [if_neg e]
              by_cases h : p < j
              · rw [if_pos h, if_pos (by omega)]
              · rw [if_neg h, if_neg (by omega)])
          have hb1 : (c : Int) < (K : Int) := by omega
          have hb2 : (j : Int) < (n : Int) := by omega
          clear hownj hLj hBj hP hs hz
          cases nD : isNaN .f32 D
          · have q2 := fun t => run_numop (op := .add) rfl t _ _ _ hD nD
            have HR0 := Lib.hid (show LikeP (fun p => if p = j then D else Y p) (fun p => if p < j + 1 then mixR S X (c + 1) p else mixR S X c p) n by
              have := HR.out 0
              rw [pick_num nD] at this
              exact this)
            clear nD
            go_wp2_with fail
            go_region
            go_wp2
            go_roundw
            case rel => exact ⟨j + 1, _, by omega, by go_num, own_stored (own_drew HOj.out 1) j _, HR0.out, Below.setCell (Below.drewN HBj.out 1) (Nat.le_refl _) _⟩
            case measure => simp [intOf]; omega
          · have q2 := run_add32
            clear nD
            go_wp2_with fail
            go_region
            go_wp2
            go_roundw
            case rel => exact ⟨j + 1, _, by omega, by go_num, own_stored (own_drew HOj.out _) j _, HR.out _, Below.setCell (Below.drewN HBj.out _) (Nat.le_refl _) _⟩
            case measure => simp [intOf]; omega
        · have hjn : j = n := by omega
          subst hjn
          have hL2 : LikeP Y (mixR S X (c + 1)) j := hLj.congr fun p hp => by rw [if_pos hp]
          clear hLj
          go_wp2
          go_roundw
          case rel => exact ⟨c + 1, Y, by omega, by go_num, hownj, hL2, hBj⟩
          case measure => simp [intOf]; omega
    · have hcK : c = K := by omega
      subst hcK
      have hBw : Below w.heap.size w wr := B2.trans (hBk.mono B2.size)
      have HF2 := Lib.hid (show LstRet (mixR S X c) (if finL (mixR S X c) n = true then n else 0) (finL (mixR S X c) n) w = LstRet (mixR S X c) m ok w by rw [hm.out, ho.out])
      go_wp2_with fail
      refine (onlyFinite_any _ _ n Z _ (by exact hownk) (by omega)).mono ?_
      rintro e w4 ⟨rfl, q3, rfl⟩
      have HV := Lib.hid (lstGive (w := w) hL.like (own_mono0 hownk B2.size) (by omega) hBw)
      clear hL hownk
      cases hfz : finL Z n
      · rw [hfz] at HV
        go_wp2
        go_ret2
        rw [← HF2.out]
        obtain ⟨a, b, h3, h4, h5, h6, h7⟩ := HV.out
        exact ⟨a, b, h3, h4, h5, h6, Below.drewN h7 _⟩
      · rw [hfz] at HV
        go_wp2
        go_ret2
        rw [← HF2.out]
        obtain ⟨a, b, h3, h4, h5, h6, h7⟩ := HV.out
        exact ⟨a, b, h3, h4, h5, h6, Below.drewN h7 _⟩
set_option maxRecDepth 100000 in
set_option maxHeartbeats 1600000 in
theorem implMix_any (xa : Option Addr) (K cap : Nat) (N : Nat → Nat) (X : Nat → Nat → Nat) (sa : Option Addr) (n cs : Nat) (S : Nat → Nat) (w : World) (hX : RdR w xa K N X) (hS : Rd w sa n S) (h : K + totN N K ≤ 1048576) (hn : n ≤ 1048576) (ok : Bool) (ho : Hid (ok = (okMix K N X n S && finL (mixR S X K) (N 0)))) (m : Nat) (hm : Hid (m = if ok = true then N 0 else 0)) :
    Calls Try.prog 64 #[.slice xa K cap, .slice sa n cs] w (LstRet (mixR S X K) m ok w) := by
  cases hk : okMix K N X n S
  · have HN := Lib.hid (fun w' (hb : Below w.heap.size w w') => show LstRet (mixR S X K) m ok w (.returned (.tuple #[.slice none 0 0, .bool false])) w' by
      have e : ok = false := by rw [ho.out, hk]; rfl
      rw [hm.out, e, if_neg (by simp)]; exact lstNo hb)
    have HT := Lib.hid (fun w hX => implSpc_any xa K cap N X w hX h _ (Lib.hid rfl))
    have HAF := Lib.hid (fun w hS => allFinite_any sa n cs S w hS hn)
    cases c1 : okSpc K N X
    · rw [c1] at HT
      clear hk
      go_enter Try.func64, Try.ntmps64
      go_wp2_with fail
      refine (HT.out _ (by exact hX)).mono ?_
      rintro e w1 ⟨rfl, B1⟩
      go_wp2
      go_ret2
      exact HN.out _ B1
    · rw [c1] at HT
      by_cases hnK : n = K
      · subst hnK
        have c3 : finL S n = false := by
          rw [okMix, c1, decide_eq_true rfl] at hk
          exact hk
        rw [c3] at HAF
        have hne : ((n : Int) != (n : Int)) = false := by simp
        clear hk c1 c3
        go_enter Try.func64, Try.ntmps64
        go_wp2_with fail
        refine (HT.out _ (by exact hX)).mono ?_
        rintro e w1 ⟨rfl, B1⟩
        go_wp2_with fail
        refine (HAF.out _ (by exact hS.below B1)).mono ?_
        rintro e w' ⟨rfl, q, rfl⟩
        go_wp2
        go_ret2
        exact HN.out _ (Below.drewN B1 _)
      · have hne : ((n : Int) != (K : Int)) = true := by simpa using (by omega : ¬ (n : Int) = (K : Int))
        clear hk c1 hnK
        go_enter Try.func64, Try.ntmps64
        go_wp2_with fail
        refine (HT.out _ (by exact hX)).mono ?_
        rintro e w1 ⟨rfl, B1⟩
        go_wp2
        go_ret2
        exact HN.out _ B1
  · have hk' := hk
    unfold okMix at hk'
    simp only [Bool.and_eq_true, decide_eq_true_eq] at hk'
    obtain ⟨⟨h1, h2⟩, h3⟩ := hk'
    obtain rfl : n = K := by omega
    exact implMix_yes xa n cap N X sa cs S w hX hS h h1 h3 ok (Lib.hid (by rw [ho.out, hk, Bool.true_and])) m hm
end Go.Proofs.Ytbblohjldkpcnab
