/- For all numbers and counts the program tells the weights of a rotor's levels just where the model does, and the same; the list is new at each call: for all arguments. -/
import Derived.Test.YtebelikahpnobabRtx
import Derived.Test.YtebelikahpnobabLv
import Derived.Test.YtebelikahpnobabGeA
import Derived.Test.YtebelikahpnobabIn
namespace Go.Proofs.Ytebelikahpnobab
open Go Go.ChangeShapes Go.WideShapes Go.ChangeAt Go.RowKit

theorem fin_order {x : Nat} (h : isFin .f32 x = true) : FloatKind.f32.format.order x 0 = some .lt ∨ FloatKind.f32.format.order x 0 = some .eq ∨ FloatKind.f32.format.order x 0 = some .gt := by
  obtain ⟨s, m, e, hd⟩ := fin_dec h
  obtain ⟨o1, o2, o3⟩ := order_val hd dec0_32
  by_cases a : sval s m e < sval false 0 (-149)
  · exact .inl (o1 a)
  · by_cases b : sval s m e = sval false 0 (-149)
    · exact .inr (.inl (o2 b))
    · exact .inr (.inr (o3 (by grind)))
set_option maxRecDepth 100000 in
set_option maxHeartbeats 3200000 in
theorem implRt_no (b t : Nat) (c : Int) (w : World) (R : Nat → Nat) (hk : okRt b t c = false) :
    Calls Try.prog 26 #[.float .f32 b, .float .f32 t, .int .i64 c] w (OutRet R 0 false w) := by
  have hg := gL_one b
  cases c1 : gL (fun _ => b) 1
  · skip
    clear hk hg
    go_enter Try.func26, Try.ntmps26
    go_wp2_with (first | (first | (go_at_call 85; refine (areAtLeastZero_any _ _ _ (fun _ => _) _ (by exact rd_one' _ _ _ (by simp)) (by omega)).mono ?_; rintro e w' ⟨rfl, q, rfl⟩) | (go_at_call 86; refine (isPositive_any _ _).mono ?_; rintro e w' ⟨rfl, q, rfl⟩)) | (go_at_call 87; refine (isRotorCount_any _ _).mono ?_; rintro e w' ⟨rfl, rfl⟩))
    go_ret2
    refine OutRet.no ?_
    (repeat (first | with_reducible exact Below.refl _ _ | with_reducible refine Below.drewN ?_ _ | with_reducible refine Below.setCell ?_ (by simp; try omega) _ | with_reducible refine Below.alloc ?_ (by simp; try omega) _))
  · skip
    cases c2 : isP t
    · skip
      clear hk hg
      go_enter Try.func26, Try.ntmps26
      go_wp2_with (first | (first | (go_at_call 85; refine (areAtLeastZero_any _ _ _ (fun _ => _) _ (by exact rd_one' _ _ _ (by simp)) (by omega)).mono ?_; rintro e w' ⟨rfl, q, rfl⟩) | (go_at_call 86; refine (isPositive_any _ _).mono ?_; rintro e w' ⟨rfl, q, rfl⟩)) | (go_at_call 87; refine (isRotorCount_any _ _).mono ?_; rintro e w' ⟨rfl, rfl⟩))
      go_ret2
      refine OutRet.no ?_
      (repeat (first | with_reducible exact Below.refl _ _ | with_reducible refine Below.drewN ?_ _ | with_reducible refine Below.setCell ?_ (by simp; try omega) _ | with_reducible refine Below.alloc ?_ (by simp; try omega) _))
    · skip
      cases c3 : inB c 1 40
      · skip
        clear hk hg
        go_enter Try.func26, Try.ntmps26
        go_wp2_with (first | (first | (go_at_call 85; refine (areAtLeastZero_any _ _ _ (fun _ => _) _ (by exact rd_one' _ _ _ (by simp)) (by omega)).mono ?_; rintro e w' ⟨rfl, q, rfl⟩) | (go_at_call 86; refine (isPositive_any _ _).mono ?_; rintro e w' ⟨rfl, q, rfl⟩)) | (go_at_call 87; refine (isRotorCount_any _ _).mono ?_; rintro e w' ⟨rfl, rfl⟩))
        go_ret2
        refine OutRet.no ?_
        (repeat (first | with_reducible exact Below.refl _ _ | with_reducible refine Below.drewN ?_ _ | with_reducible refine Below.setCell ?_ (by simp; try omega) _ | with_reducible refine Below.alloc ?_ (by simp; try omega) _))
      · skip
        exfalso
        rw [okRt, ← hg, c1, c2, c3] at hk
        cases hk
set_option maxRecDepth 100000 in
set_option maxHeartbeats 12800000 in
theorem implRt_yes (b t c : Nat) (w : World) (hb : isG b = true) (ht : isP t = true) (hc1 : 1 ≤ c) (hc2 : c ≤ 40) (W : Nat → Nat) (hW : W = rtW b t) (S : Nat) (hS : S = sumW W c) (R : Nat → Nat) (n : Nat) (ok : Bool)
    (hR : Hid (∀ i, i < c → R i = fbin .quo .f32 (W i) S)) (hn : Hid (n = if ok = true then c else 0)) (ho : Hid (ok = ((FloatKind.f32.format.order S 0 == some .gt) && finL R c))) :
    Calls Try.prog 26 #[.float .f32 b, .float .f32 t, .int .i64 (c : Int)] w (OutRet R n ok w) := by
  obtain ⟨i0, hi, hz0, hz1, hz2⟩ := info_parts infoF
  have hg : gL (fun _ => b) 1 = true := by rw [gL_one, hb]
  have hin : inB (c : Int) 1 40 = true := inB_yes (by omega) (by omega)
  have HSb := sum_bd hb ht c hc2
  rw [← hW, ← hS] at HSb
  have HSb0 := Lib.hid (bd_fin HSb)
  have HWn := Lib.hid (fun j (hj : j < c) => show isNaN .f32 (W j) = false by rw [hW]; exact (rtW_bd hb ht (show j < 40 by omega)).num)
  have HSn := Lib.hid (fun s => show pick .f32 S s = S from pick_num HSb.num s)
  have HA := Lib.hid (fun j (hj : j < c) (w : World) (s : Nat) => show Calls Try.prog 89 #[.float .f32 (pick .f32 (rtA b t j) s)] w (NumX (expF (rtB b t j)) w) by
    obtain ⟨hz, hx⟩ := rt_args hb ht (show j < 40 by omega)
    have hx' := hz.negX hx
    rw [pick_num (negX_num hx')]
    exact implExp_any _ hx' _ (Lib.hid hz.expF.symm) w)
  have HS0 := Lib.hid hS
  have HW0 := Lib.hid hW
  clear hS hW HSb
  have hp := fun op => fbin_pick_l op .f32
  have hq := fun op => fbin_pick_r op .f32
  have hm : c ≤ maxLen := by unfold maxLen; omega
  have hbz : i0.bytes * c ≤ 281474976710656 := by rw [hz2]; omega
  have hBa : Below w.heap.size w (w.alloc (.cells #[.float .f32 b] 23)) := (Below.refl _ w).alloc (Nat.le_refl _) _
  go_enter Try.func26, Try.ntmps26
  go_wp2_with (first | (go_at_call 85; refine (areAtLeastZero_any _ _ _ (fun _ => b) _ (by exact rd_one' _ _ _ (by simp)) (by omega)).mono ?_; rintro e w' ⟨rfl, q, rfl⟩) | (go_at_call 86; refine (isPositive_any _ _).mono ?_; rintro e w' ⟨rfl, q2, rfl⟩; have hBm2 := Below.drewN hBa (q + q2); have hsm := hBm2.size; clear hBa) | (go_at_call 87; refine (isRotorCount_any _ _).mono ?_; rintro e w' ⟨rfl, rfl⟩) | (at_make; refine wpList_make_full _ rfl _ _ 22 rfl w.heap.size 23 i0 (.float .f32 0) 1 Try.underlying22 hi hz0 hz1 _ _ _ _ c rfl rfl rfl rfl hbz hm (by exact hsm) ?_))
  intro w1 hown hgr
  rw [madeF] at hown
  have hB : Below w.heap.size w w1 := hBm2.grown hgr hsm (fun _ h => by cases h)
  clear hgr hbz hm hi hz0 hz1 hz2 hBm2 hsm hb ht hg hin
  go_wp2
  go_loopw [9, 32] (fun _ i wr => ∃ (k : Nat) (X : Nat → Nat), k ≤ c ∧ i = .int .i64 k ∧ wr.ownsRow w.heap.size 23 1 (.slice (some ⟨w.heap.size + 1, 0, none⟩) c c) c (rowOf X c) ∧ LikeP X W k ∧ Below w.heap.size w wr) (fun _ i _ => c - (intOf i).toNat)
  case atStart => exact ⟨0, fun _ => 0, Nat.zero_le _, rfl, hown, fun _ h => absurd h (Nat.not_lt_zero _), hB⟩
  case round =>
    obtain ⟨k, X, hk, rfl, hownk, hL, hBk⟩ := hrel
    clear hown hB
    by_cases hlt : k < c
    · have hk64 : k ≤ 64 := by omega
      obtain ⟨B, hBd⟩ : ∃ B, B = rtA b t k := ⟨_, rfl⟩
      have eB : fbin .quo .f32 (fbin .sub .f32 0 (fbin .mul .f32 b (qF k))) t = B := hBd.symm
      obtain ⟨E, hE⟩ : ∃ E, E = expF (rtB b t k) := ⟨_, rfl⟩
      have HAk := Lib.hid (fun w s => HA.out k hlt w s)
      rw [← hBd, ← hE] at HAk
      have eW : fbin .mul .f32 (floatOfInt .f32 (2 * (k : Int) + 1)) E = W k := by rw [HW0.out, hE]; rfl
      obtain ⟨V, hV⟩ : ∃ V, V = W k := ⟨_, rfl⟩
      rw [← hV] at eW
      have HV := Lib.hid hV
      have st := fun q u => own_store hownk hlt q u
      have HO := Lib.hid hownk
      clear hownk hBd hE hV
      go_wp2_with (first | ((with_reducible refine wpL_fbin ?_); refine ⟨_, _, _, rfl, rfl, rfl, fun s n => ?_⟩) | (go_at_call 88; refine (crossOf_any k hk64 _).mono ?_; rintro e w' ⟨rfl, rfl⟩) | (go_at_call 89; refine (HAk.out _ _).mono ?_; rintro e w' ⟨rfl, m', rfl⟩))
      go_roundw
      case rel => exact ⟨k + 1, _, by omega, by go_num, own_stored (own_drew HO.out _) k _, hL.push (by rw [HV.out]), Below.setCell (Below.drewN hBk _) (Nat.le_succ _) _⟩
      case measure => simp [intOf]; omega
    · have hkc : k = c := by omega
      subst hkc
      clear HA hlt hk
      have hXW := like_eq hL HWn.out
      have hSum := sumW_congr k hXW
      rw [← HS0.out] at hSum
      have HSM := Lib.hid (fun (w : World) (cx : Nat) (xa : Option Addr) (hX : Rd w xa k X) => show Calls Try.prog 90 #[.slice xa k cx] w (fun e w' => ∃ m, e = .returned (.tuple #[.float .f32 S, .bool true]) ∧ w' = w.drewN m) from
        (SumNumbers_any xa k cx X w hX (by omega)).mono fun e w' h => by
          obtain ⟨s, m, he, hw⟩ := h
          rw [hSum, HSn.out s] at he
          exact ⟨m, he, hw⟩)
      have hrX : Rd wr (some ⟨w.heap.size + 1, 0, none⟩) k X := by
        obtain ⟨xa, cap, e, _, _, hX⟩ := rd_of_own hownk
        cases e
        exact hX
      clear hXW hSum
      have hS3 := fin_order HSb0.out
      cases hgS : (FloatKind.f32.format.order S 0 == some .gt)
      · obtain rfl : ok = false := by rw [ho.out, hgS, Bool.false_and]
        obtain rfl : n = 0 := by rw [hn.out, if_neg (by simp)]
        rcases hS3 with hS3 | hS3 | hS3
        · go_wp2_with (go_at_call 90; refine (HSM.out _ _ _ (by exact hrX)).mono ?_; rintro e w' ⟨q, rfl, rfl⟩)
          go_ret2
          exact OutRet.no (Below.drewN hBk _)
        · go_wp2_with (go_at_call 90; refine (HSM.out _ _ _ (by exact hrX)).mono ?_; rintro e w' ⟨q, rfl, rfl⟩)
          go_ret2
          exact OutRet.no (Below.drewN hBk _)
        · rw [hS3] at hgS; cases hgS
      · have hS4 : FloatKind.f32.format.order S 0 = some .gt := by simpa using hgS
        have ho2 := ho.out
        rw [hgS, Bool.true_and] at ho2
        have HO := Lib.hid ho2
        clear ho2 ho hS3 hgS
        go_wp2_with (go_at_call 90; refine (HSM.out _ _ _ (by exact hrX)).mono ?_; rintro e w' ⟨q, rfl, rfl⟩)
        have hown2 := own_drew hownk q
        have hB2 := Below.drewN hBk q
        clear hownk hBk hrX
        obtain ⟨w2, hw2⟩ : ∃ w2, w2 = wr.drewN q := ⟨_, rfl⟩
        rw [← hw2] at hown2 hB2 ⊢
        clear hw2
        go_loopw [66] (fun i wr => ∃ (j : Nat) (Z : Nat → Nat), j ≤ k ∧ i = .int .i64 (j : Int) ∧ wr.ownsRow w.heap.size 23 1 (.slice (some ⟨w.heap.size + 1, 0, none⟩) k k) k (rowOf Z k) ∧ LikeP Z (fun i => if i < j then R i else W i) k ∧ Below w.heap.size w wr) (fun i _ => k - (intOf i).toNat)
        case atStart => exact ⟨0, X, Nat.zero_le _, rfl, hown2, by simpa using hL, hB2⟩
        case round =>
          obtain ⟨j, Z, hj, rfl, hoZ, hlZ, hbZ⟩ := hrel
          clear hown2 hB2
          by_cases hjk : j < k
          · have z1 := own_cell hoZ hjk
            obtain ⟨s2, e2⟩ := hlZ j hjk
            simp only [if_neg (show ¬ j < j by omega)] at e2
            rw [e2] at z1
            clear e2
            have HV := Lib.hid (hR.out j hjk)
            obtain ⟨V, hV⟩ : ∃ V, V = W j := ⟨_, rfl⟩
            rw [← hV] at z1 HV
            have st := fun q u => own_store hoZ hjk q u
            have HOZ := Lib.hid hoZ
            have HB := Lib.hid hbZ
            clear hoZ hbZ hV
            go_wp2_with ((with_reducible refine wpL_fbin ?_); refine ⟨_, _, _, rfl, rfl, rfl, fun s n => ?_⟩)
            go_roundw
            case rel => exact ⟨j + 1, _, by omega, by go_num, own_stored (own_drew HOZ.out _) j _, (hlZ.set (r := R j) (by rw [HV.out])).congr (fun i _ => by
              by_cases e : i = j
              · subst e; simp
              · by_cases e2 : i < j
                · simp [e, e2, show i < j + 1 by omega]
                · simp [e, e2, show ¬ i < j + 1 by omega]), Below.setCell (Below.drewN HB.out _) (Nat.le_succ _) _⟩
            case measure => simp [intOf]; omega
          · have hjk' : j = k := by omega
            subst hjk'
            have hlR : LikeP Z R j := hlZ.congr fun i hi => by simp only [if_pos hi]
            have e := finL_like hlR.like
            clear hlZ hjk hj
            cases hf : finL Z j
            · obtain rfl : ok = false := by rw [HO.out, ← e, hf]
              obtain rfl : n = 0 := by rw [hn.out, if_neg (by simp)]
              clear e
              go_wp2_with (go_at_call 91; refine (onlyFinite_any _ w.heap.size j Z _ hoZ (by omega)).mono ?_; rintro e w' ⟨rfl, q, rfl⟩)
              go_ret2
              exact OutRet.no (Below.drewN hbZ _)
            · obtain rfl : ok = true := by rw [HO.out, ← e, hf]
              obtain rfl : n = j := by rw [hn.out, if_pos rfl]
              clear e
              go_wp2_with (go_at_call 91; refine (onlyFinite_any _ w.heap.size n Z _ hoZ (by omega)).mono ?_; rintro e w' ⟨rfl, q, rfl⟩)
              go_ret2
              exact ⟨_, Z, rfl, hoZ, hlR.like, Below.drewN hbZ _⟩
/-- What is told of RotorWeights. -/
def RetRotorWeights (R0 : Nat → Nat) (m0 : Nat) (r1 : Bool) (w : World) (e : Ending) (w' : World) : Prop := ∃ (v0 : Value) (Y0 : Nat → Nat), e = .returned (.tuple #[v0, .bool r1]) ∧ w'.ownsRow w.heap.size 23 1 v0 m0 (rowOf Y0 m0) ∧ Like Y0 R0 m0 ∧ m0 ≤ 1048576 ∧ Below w.heap.size w w'
theorem bothRotorWeights (b : Nat) (_ : (Lit.float .f32 b).wf = true) (t : Nat) (_ : (Lit.float .f32 t).wf = true) (c : Int) (_ : (Lit.int .i64 c).wf = true) : ∃ (R : Nat → Nat) (m : Nat) (ok : Bool),
    (∀ (w : World), Calls Try.prog 25 #[.float .f32 b, .float .f32 t, .int .i64 c] w (RetRotorWeights R m ok w)) ∧ ∀ (w : World), Calls Try.prog 26 #[.float .f32 b, .float .f32 t, .int .i64 c] w (RetRotorWeights R m ok w) := by
  have conv : ∀ {R : Nat → Nat} {n : Nat} {ok : Bool} {w : World} {e : Ending} {w' : World}, n ≤ 1048576 → OutRet R n ok w e w' → RetRotorWeights R n ok w e w' := fun hn ⟨v, X, he, ho, hL, hB⟩ => ⟨v, X, he, ho, hL, hn, hB⟩
  cases hk : okRt b t c
  · exact ⟨fun _ => 0, 0, false, fun w => (specRt_no b t c w _ hk).mono fun e w' h => conv (by omega) h, fun w => (implRt_no b t c w _ hk).mono fun e w' h => conv (by omega) h⟩
  · unfold okRt at hk
    rw [Bool.and_eq_true, Bool.and_eq_true] at hk
    obtain ⟨⟨hb, ht⟩, hc⟩ := hk
    have h12 : 1 ≤ c ∧ c ≤ 40 := by simpa [inB] using hc
    obtain ⟨k, rfl⟩ : ∃ k : Nat, c = (k : Int) := ⟨c.toNat, by omega⟩
    obtain ⟨S, hS⟩ : ∃ S, S = sumW (rtW b t) k := ⟨_, rfl⟩
    obtain ⟨R, hR⟩ : ∃ R : Nat → Nat, R = fun i => fbin .quo .f32 (rtW b t i) S := ⟨_, rfl⟩
    obtain ⟨ok, ho⟩ : ∃ ok, ok = ((FloatKind.f32.format.order S 0 == some .gt) && finL R k) := ⟨_, rfl⟩
    obtain ⟨n, hn⟩ : ∃ n, n = if ok = true then k else 0 := ⟨_, rfl⟩
    have hn' : n ≤ 1048576 := by rw [hn]; split <;> omega
    have hR' : ∀ i, i < k → R i = fbin .quo .f32 (rtW b t i) S := fun i _ => by rw [hR]
    exact ⟨R, n, ok, fun w => (specRt_yes b t k w hb ht (by omega) (by omega) _ rfl S hS R n ok (Lib.hid hR') (Lib.hid hn) (Lib.hid ho)).mono fun e w' h => conv hn' h, fun w => (implRt_yes b t k w hb ht (by omega) (by omega) _ rfl S hS R n ok (Lib.hid hR') (Lib.hid hn) (Lib.hid ho)).mono fun e w' h => conv hn' h⟩
set_option maxRecDepth 100000 in
set_option maxHeartbeats 6400000 in
theorem lawRotorWeights_in (W : World) (a0 : Nat) (_wf0 : (Lit.float .f32 a0).wf = true) (a1 : Nat) (_wf1 : (Lit.float .f32 a1).wf = true) (a2 : Int) (_wf2 : (Lit.int .i64 a2).wf = true)  (R0 : Nat → Nat) (m0 : Nat) (r1 : Bool) (HS : Hid (∀  (w : World),  Calls Try.prog 25 #[.float .f32 a0, .float .f32 a1, .int .i64 a2] w (RetRotorWeights R0 m0 r1 w))) (HI : Hid (∀  (w : World),  Calls Try.prog 26 #[.float .f32 a0, .float .f32 a1, .int .i64 a2] w (RetRotorWeights R0 m0 r1 w))) :
    Calls Try.prog 6 #[.float .f32 a0, .float .f32 a1, .int .i64 a2] W fun e w' => e = .returned (.bool true) ∧ Below W.heap.size W w' := by
  have hcv := fun (R : Nat) (s t : Nat) => show canon .f64 (pick .f64 (fconv .f32 (pick .f32 R s) .f64) t) = canon .f64 (fconv .f32 R .f64) by rw [canon_pick, fconv_pick]
  have hcw := fun (R : Nat) (s t : Nat) => show canon .f64 (pick .f64 R s) = canon .f64 (pick .f64 R t) by rw [canon_pick, canon_pick]
  have HCV := Lib.hid hcv
  have HCW := Lib.hid hcw
  clear hcv hcw
  have hnb1 : (r1 != r1) = false := by simp
  have HB := Blw.refl W
  go_enter Try.func6, Try.ntmps6
  go_wp2_with fail
  refine (HS.out  _ ).mono ?_
  rintro e0 w1 ⟨vw0, Yw0, rfl, Ow0, Lw0, mw0, B0⟩
  replace HB := Blw.next (by exact HB) B0
  clear B0
  obtain ⟨xw0, cw0, rfl, _, _, Rw0⟩ := rd_of_own Ow0
  clear Ow0
  have HL := Blw.refl w1
  have Eg := (Blw.out (by exact HL)).size
  go_wp2_with fail
  refine (HI.out  _ ).mono ?_
  rintro e0 w2 ⟨vg0, Yg0, rfl, Og0, Lg0, mg0, B0⟩
  replace HL := Blw.next (by exact HL) B0
  clear B0
  have O_0 := Og0
  obtain ⟨xg0, cg0, rfl, _, _, Rg0⟩ := rd_of_own O_0
  clear O_0
  go_wp2_with fail
  refine (eqF_any _ _ _ _ _ Yg0 Yw0 _ (by exact Rg0) (by exact Rw0.below (Blw.out (by exact HL))) mw0 (fun i hi => (Lg0 i hi).trans (Lw0 i hi).symm)).mono ?_
  rintro e0 w0 ⟨rfl, q, rfl⟩
  clear Rg0
  go_wp2_with fail
  refine (markF_any _ _ m0 Yg0 _ _ (by exact Og0) mg0 (by omega) (by omega)).mono ?_
  rintro e0 w0 ⟨rfl, Ok0, B0⟩
  replace HL := Blw.nextB (by exact HL) (B0.mono Eg)
  clear B0 Og0
  have hm1 : (0 : Int) ≤ 1 + (m0 : Int) := by omega
  go_wp2_with fail
  refine (heldF_any _ _ m0 _ _ (by exact Ok0) mg0 (by omega) (by omega)).mono ?_
  rintro e0 w0 ⟨rfl, rfl⟩
  go_wp2_with fail
  refine (HI.out  _ ).mono ?_
  rintro e0 w3 ⟨vh0, Yh0, rfl, Oh0, Lh0, mh0, B0⟩
  replace Ok0 := own_below (by exact Ok0) B0
  replace HL := Blw.next (by exact HL) B0
  clear B0
  obtain ⟨xh0, ch0, rfl, _, _, Rh0⟩ := rd_of_own Oh0
  clear Oh0
  go_wp2_with fail
  refine (eqF_any _ _ _ _ _ Yh0 Yw0 _ (by exact Rh0) (by exact Rw0.below (Blw.out (by exact HL))) mw0 (fun i hi => (Lh0 i hi).trans (Lw0 i hi).symm)).mono ?_
  rintro e0 w0 ⟨rfl, q, rfl⟩
  clear Rh0
  go_wp2_with fail
  refine (heldF_any _ _ m0 _ _ (by exact Ok0) mg0 (by omega) (by omega)).mono ?_
  rintro e0 w0 ⟨rfl, rfl⟩
  go_wp2
  go_ret
  exact ⟨rfl, (Blw.out (by exact HB)).trans ((Blw.out (by exact HL)).mono (Blw.out (by exact HB)).size)⟩
set_option maxHeartbeats 1600000 in
theorem lawRotorWeights_any (W : World) (a0 : Nat) (_wf0 : (Lit.float .f32 a0).wf = true) (a1 : Nat) (_wf1 : (Lit.float .f32 a1).wf = true) (a2 : Int) (_wf2 : (Lit.int .i64 a2).wf = true) :
    Calls Try.prog 6 #[.float .f32 a0, .float .f32 a1, .int .i64 a2] W fun e w' => e = .returned (.bool true) ∧ Below W.heap.size W w' := by
  obtain ⟨R0, m0, r1, hs, hi⟩ := bothRotorWeights a0 _wf0 a1 _wf1 a2 _wf2
  exact lawRotorWeights_in W a0 _wf0 a1 _wf1 a2 _wf2  R0 m0 r1 (Lib.hid hs) (Lib.hid hi)
set_option maxRecDepth 100000 in
theorem FnExactRotorWeights_lifted (os : Os) (started : os.Started) (H : Type) (enc : TypeId × Value → H) :
    ReturnsInHanded {} Try.checked os 6 .any (Rows.fnExactRotorWeightsSpec.pre6 enc Try.prog Try.f6 Rows.fnExactRotorWeightsRow.domain false) (Rows.fnExactRotorWeightsSpec.post enc Try.prog Try.f6 false true false false) := by
  refine returnsInHanded_of_change (C := Try.checked) ownKnob_none started (by kernel_rfl) Try.func6
    (ChangeSpec.witness6 (enc := enc) (C := Try.checked) false ⟨#[], #[.float .f32 0, .float .f32 0, .int .i64 0], []⟩ 8 (by kernel_rfl) (by kernel_rfl) (by kernel_rfl) (by kernel_rfl)) ?_
  intro W base args ds gs before hval0 hW _ _
  have hval : ∀ (j : Nat) t v, Try.f6.params[j]? = some t → args[j]? = some v → Value.okWide Try.prog W .any base t v := hval0
  have hW' := hW
  obtain ⟨p, q, hA0, hV, rfl, _, _⟩ := hW
  have hA : DataW.TrodAll enc Try.prog W 0 (fun _ => true) true Try.f6.params.toList args.toList ds p := hA0
  rw [Try.params6] at hA hval
  obtain ⟨v0, v1, v2, d0, d1, d2, p0, p1, p2, rfl, rfl, rfl, h0, h1, h2⟩ := trodAll_three hA
  obtain ⟨rfl, rfl⟩ := trodVars_none hV
  obtain ⟨a0, rfl, rfl, rfl, w0⟩ := open_float Try.underlying23 (hval 0 23 v0 rfl rfl) h0
  obtain ⟨a1, rfl, rfl, rfl, w1⟩ := open_float Try.underlying23 (hval 1 23 v1 rfl rfl) h1
  obtain ⟨a2, rfl, rfl, rfl, w2⟩ := open_int Try.underlying2 (hval 2 2 v2 rfl rfl) h2
  clear hA0 hval0
  refine (lawRotorWeights_any W a0 w0 a1 w1 a2 w2).mono fun e W' ⟨he, hb⟩ => ?_
  subst he
  have hA2 := trodAll_mk3 (enc := enc) (w := W') (base := 0) (spare := fun b => decide (b < W.heap.size)) (held := true) (shut_float Try.underlying23 w0) (shut_float Try.underlying23 w1) (shut_int Try.underlying2 w2)
  exact ⟨_, rfl, _, _, _, [], _, [], hW', trodAll_cons_mk (shut_bool Try.underlying4 _) trodAll_mk0, hA2, rfl, hb.frame _, fun h => by cases h⟩
theorem FnExactRotorWeights_holds : Rows.FnExactRotorWeightsSaid :=
  OpenClaim.holds_of_wide_leaving 6 Try.f6 rfl rfl rfl rfl rfl rfl rfl ⟨rfl, rfl, rfl, rfl, rfl⟩ rfl rfl rfl rfl rfl (by kernel_rfl) Try.func6 (by kernel_rfl)
    (of_decide_eq_true (by kernel_rfl)) (by unfold Func.isWrapper; first | (rw [if_pos (by decide +kernel)]; kernel_rfl) | (rw [if_neg (by decide +kernel)]; exact ⟨rfl, rfl⟩))
    (fun os started H enc _ => leaving_of_handed (FnExactRotorWeights_lifted os started H enc))
end Go.Proofs.Ytebelikahpnobab
