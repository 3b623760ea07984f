/- Shares found in rounds: as the program does it. -/
import Derived.Test.YtehlflldnihamabUms
import Derived.Test.YtehlflldnihamabUmL
import Derived.Test.YtehlflldnihamabJump
namespace Go.Proofs.Ytehlflldnihamab
open Go Go.ChangeShapes Go.WideShapes Go.ChangeAt Go.RowKit

theorem like_eq {Y R : Nat → Nat} {n : Nat} (h : Like Y R n) (hf : finL R n = true) : ∀ j, j < n → Y j = R j := fun j hj => by
  have h1 : isNaN .f32 (R j) = false := num_fin (finL_at hf j hj)
  have h2 := h j hj
  have h3 : isNaN .f32 (Y j) = false := by rw [← isNaN_canon, h2, isNaN_canon, h1]
  rwa [canon_num h1, canon_num h3] at h2
theorem gL_zero (K : Nat) : gL (fun _ => 0) K = true := gL_yes' fun _ _ => by decide +kernel
theorem onV_isG {L : Nat → Nat} {X : Nat → Nat → Nat} {n K : Nat} {T : Nat → Nat} {f : Nat} (h : isFin .f32 (onV L X n K T f) = true) : isG (onV L X n K T f) = true := by
  rw [isGl h]
  unfold onV
  cases hz : ltZ (onX L X n K T f)
  · rw [if_neg (by simp), hz]; rfl
  · rw [if_pos rfl]; decide +kernel
theorem onT_gL {L : Nat → Nat} {X : Nat → Nat → Nat} {n K : Nat} {S : Nat → Nat} (hS : gL S K = true) : ∀ c, c ≤ K → (∀ f, f < c → onG L X n K S f = true) → gL (onT L X n K S c) K = true := by
  intro c
  induction c with
  | zero => intro _ _; exact hS
  | succ c ih =>
    intro hc h
    have h1 := ih (by omega) fun f hf => h f (by omega)
    refine gL_yes' fun i hi => ?_
    show isG (if i = c then _ else _) = true
    by_cases e : i = c
    · rw [if_pos e]
      have := h c (by omega)
      unfold onG at this
      rw [Bool.and_eq_true] at this
      exact onV_isG this.2
    · rw [if_neg e]; exact gL_at' h1 i hi
theorem umT_gL {L : Nat → Nat} {X : Nat → Nat → Nat} {n K : Nat} : ∀ t, (∀ j, j < t → onOk L X n K (umT L X n K j) = true) → gL (umT L X n K t) K = true := by
  intro t
  induction t with
  | zero => intro _; exact gL_zero K
  | succ t ih => intro h; exact onT_gL (ih fun j hj => h j (by omega)) K (Nat.le_refl _) (onOk_all (h t (by omega)))
set_option maxRecDepth 100000 in
set_option maxHeartbeats 12800000 in
theorem implUnm_yes (la : Option Addr) (n cl : Nat) (L : Nat → Nat) (xa : Option Addr) (K cap : Nat) (N : Nat → Nat) (X : Nat → Nat → Nat) (T : Nat) (w : World) (hL : Rd w la n L) (hX : RdR w xa K N X) (hn : n ≤ 1048576) (h : K + totN N K ≤ 1048576) (hT1 : 1 ≤ T) (hT2 : T ≤ 64) (ok : Bool) (ho : Hid (ok = umOk L n K N X (T : Int))) (m : Nat) (hm : Hid (m = if ok = true then K else 0)) (r : Nat) (hr : Hid (r = if ok = true then umD L X n K T else 0)) :
    Calls Try.prog 35 #[.slice la n cl, .slice xa K cap, .int .i64 (T : Int)] w (UmRet (umT L X n K T) m r ok w) := by
  obtain ⟨i0, hi, hz0, hz1, hz2⟩ := info_parts infoF
  have HNO := Lib.hid (fun (h : ok = false) w' (hb : Below w.heap.size w w') => show UmRet (umT L X n K T) m r ok w (.returned (.tuple #[.slice none 0 0, .float .f32 0, .bool false])) w' by
    rw [hm.out, hr.out, h, if_neg (by simp), if_neg (by simp)]; exact umNo hb)
  have hin : inB (T : Int) 1 64 = true := inB_yes (by omega) (by omega)
  have HO := Lib.hid (show ok = (okCan L n K N X && umG L X n K T && (finL (mixR (umT L X n K T) X K) n && isFin .f32 (umD L X n K T))) by
    rw [ho.out, umOk, hin, Int.toNat_natCast, Bool.and_true])
  have HON := Lib.hid (fun (S : Nat → Nat) (hg : gL S K = true) sa cs w1 (hB : Below w.heap.size w w1) hS (b : Bool) (hb : b = (okCan L n K N X && onOk L X n K S)) => implUmo_any la n cl L xa K cap N X sa K cs S w1 (hL.below hB) (hX.below hB) hS hn h (by omega) b (Lib.hid (by rw [hb, okUmo, hg, decide_eq_true rfl, Bool.and_true, Bool.and_true])) _ (Lib.hid rfl))
  have HMX := Lib.hid (fun (hk : okCan L n K N X = true) (S : Nat → Nat) (hfs : finL S K = true) sa cs w1 (hB : Below w.heap.size w w1) hS (b : Bool) (hb : b = finL (mixR S X K) n) => implMix_any xa K cap N X sa K cs S w1 (hX.below hB) hS h (by omega) b (Lib.hid (by rw [hb, okMix, (okCan_at hk).1, decide_eq_true rfl, hfs, (okCan_at hk).2.2.2]; rfl)) (if b = true then n else 0) (Lib.hid (by rw [(okCan_at hk).2.2.2])))
  have HFR := Lib.hid (fun (hk : okCan L n K N X = true) (Y : Nat → Nat) (hy : finL Y n = true) ya cy w1 (hB : Below w.heap.size w w1) hY (D : Nat) hD => implFar_yes la n cl L ya cy Y w1 (hL.below hB) hY hn (by
    have hl := (okCan_at hk).2.2.1
    have := (okLst_at hl).2
    rw [okTwo, hl, okLst, hy, inB_yes (by omega) (by omega), decide_eq_true rfl]; rfl) D hD)
  have hb : i0.bytes * K ≤ 281474976710656 := by rw [hz2]; omega
  have hmx : K ≤ maxLen := by unfold maxLen; omega
  have d0 : decide ((T : Int) < 1) = false := decide_eq_false (by omega)
  have d1 : decide ((64 : Int) < (T : Int)) = false := decide_eq_false (by omega)
  have HLX := Lib.hid (And.intro hL hX)
  clear ho hin
  go_enter Try.func35, Try.ntmps35
  go_wp2_with fail
  refine wp_scope_rest 0 (fun a' w' => ∃ (t : Nat) (ya : Option Addr) (cy : Nat) (u3 u4 u5 u10 u11 u12 u13 u14 u15 u16 u17 u18 u19 u20 u21 u22 u23 u24 u25 u26 u27 u28 u29 u30 u31 u32 u33 u34 u35 u36 u37 u38 u39 u40 u41 u42 u43 u44 u45 u46 u47 u48 u49 u50 u51 u52 : Value), a' = { tmps := #[.slice la n cl, .slice xa K cap, .int .i64 ((T : Int) - (t : Int)), u3, u4, u5, .slice none 0 0, .float .f32 0, .bool false, .slice ya K cy, u10, u11, u12, u13, u14, u15, u16, u17, u18, u19, u20, u21, u22, u23, u24, u25, u26, u27, u28, u29, u30, u31, u32, u33, u34, u35, u36, u37, u38, u39, u40, u41, u42, u43, u44, u45, u46, u47, u48, u49, u50, u51, u52], defers := [] } ∧ t < T ∧ w'.ownsRow w.heap.size 43 1 (.slice ya K cy) K (rowOf (umT L X n K t) K) ∧ Below w.heap.size w w' ∧ Hid ((t = 0 ∨ okCan L n K N X = true) ∧ ∀ j, j < t → onOk L X n K (umT L X n K j) = true)) (fun a' _ => (intOf (a'.tmps.getD 2 undef)).toNat) rfl ?_ ?_
  · rintro a' w' ⟨t, ya, cy, u3, u4, u5, u10, u11, u12, u13, u14, u15, u16, u17, u18, u19, u20, u21, u22, u23, u24, u25, u26, u27, u28, u29, u30, u31, u32, u33, u34, u35, u36, u37, u38, u39, u40, u41, u42, u43, u44, u45, u46, u47, u48, u49, u50, u51, u52, rfl, ht, hown, hB, HG⟩
    clear hb hmx hi hz0 hz1 hz2 d0 d1 hL hX
    have hgz := umT_gL t HG.out.2
    obtain ⟨b, hbb⟩ : ∃ b, b = (okCan L n K N X && onOk L X n K (umT L X n K t)) := ⟨_, rfl⟩
    have HE := Lib.hid (HON.out _ hgz ya cy w' hB (rd_own' hown) b hbb)
    cases b
    · have HN := Lib.hid (HNO.out (by
        rw [HO.out]
        cases hk : okCan L n K N X
        · rfl
        · rw [hk] at hbb
          rw [umG_no ht (by simpa using hbb.symm)]; rfl))
      clear hbb hgz HG
      go_wp2_with fail
      refine HE.out.mono ?_
      rintro e w2 ⟨v2, Y2, rfl, O2, L2, m2, B2⟩
      go_wp2
      simp only [Exit.jump]
      go_ret3
      exact HN.out _ (hB.trans (B2.mono hB.size))
    · have hb2 := hbb.symm
      rw [Bool.and_eq_true] at hb2
      obtain ⟨hk, hoo⟩ := hb2
      have hall : ∀ j, j < t + 1 → onOk L X n K (umT L X n K j) = true := fun j hj => by
        by_cases hj' : j < t
        · exact HG.out.2 j hj'
        · rw [show j = t by omega]; exact hoo
      have hfin := umT_fin (t + 1) hall
      have HA := Lib.hid hall
      have HKk := Lib.hid hk
      have HFi := Lib.hid hfin
      rw [if_pos rfl] at HE
      have HCV := Lib.hid (fun Y (hY : Like Y (onT L X n K (umT L X n K t) K) K) => show rowOf Y K = rowOf (umT L X n K (t + 1)) K from rowOf_congr fun j hj => by rw [like_eq hY hfin j hj]; rfl)
      clear hall hfin hoo hbb hgz HG hk hown
      by_cases hlt : t + 1 < T
      · have hgt : decide ((T : Int) - (t : Int) - 1 > 0) = true := decide_eq_true (by omega)
        have hgt' : decide (0 < (T : Int) - (t : Int) - 1) = true := decide_eq_true (by omega)
        have HST := Lib.hid (show (T : Int) - (t : Int) - 1 = (T : Int) - ((t + 1 : Nat) : Int) by omega)
        go_wp2_with fail
        refine HE.out.mono ?_
        rintro e w2 ⟨v2, Y2, rfl, O2, L2, m2, B2⟩
        rw [HCV.out Y2 L2] at O2
        have O3 := own_mono0 O2 (B' := w.heap.size) hB.size
        obtain ⟨y2, c2, rfl, _, _, _⟩ := rd_of_own O2
        have hB2 := hB.trans (B2.mono hB.size)
        clear O2 L2 B2
        go_wp2
        go_step3
        exact ⟨rfl, ⟨t + 1, y2, c2, _, _, _, _, _, _, _, _, _, _, _, _, _, _, _, _, _, _, _, _, _, _, _, _, _, _, _, _, _, _, _, _, _, _, _, _, _, _, _, _, _, _, _, _, _, _, by rw [HST.out], by omega, O3, hB2, Lib.hid ⟨.inr HKk.out, HA.out⟩⟩, by simp [intOf]; omega⟩
      · have htT : T = t + 1 := by omega
        have hgt : decide ((T : Int) - (t : Int) - 1 > 0) = false := decide_eq_false (by omega)
        have hgt' : decide (0 < (T : Int) - (t : Int) - 1) = false := decide_eq_false (by omega)
        go_wp2_with fail
        refine HE.out.mono ?_
        rintro e w2 ⟨v2, Y2, rfl, O2, L2, m2, B2⟩
        rw [HCV.out Y2 L2, ← htT] at O2
        have O3 := own_mono0 O2 (B' := w.heap.size) hB.size
        obtain ⟨y2, c2, rfl, _, _, R2⟩ := rd_of_own O2
        have hB2 := hB.trans (B2.mono hB.size)
        clear O2 L2 B2
        rw [← htT] at HA HFi
        clear htT hlt ht
        obtain ⟨c, hc⟩ : ∃ c, c = finL (mixR (umT L X n K T) X K) n := ⟨_, rfl⟩
        have HE3 := Lib.hid (HMX.out HKk.out _ HFi.out y2 c2 w2 hB2 R2 c hc)
        have HP := Lib.hid (show ok = (c && isFin .f32 (umD L X n K T)) by rw [HO.out, HKk.out, umG_yes HA.out, ← hc]; rfl)
        have HC := Lib.hid hc
        have HW := Lib.hid O3
        clear hc O3 R2
        cases c
        · have HN := Lib.hid (HNO.out (by rw [HP.out]; rfl))
          go_wp2_with fail
          refine HE3.out.mono ?_
          rintro e w3 ⟨v3, Y3, rfl, O3, L3, m3, B3⟩
          go_wp2
          simp only [Exit.jump]
          go_ret3
          exact HN.out _ (hB2.trans (B3.mono hB2.size))
        · obtain ⟨D, hD⟩ : ∃ D, D = umD L X n K T := ⟨_, rfl⟩
          rw [if_pos rfl] at HE3
          have HM := Lib.hid (show m = if isFin .f32 D = true then K else 0 by rw [hm.out, HP.out, ← hD]; rfl)
          have HR := Lib.hid (show r = if isFin .f32 D = true then D else 0 by rw [hr.out, HP.out, ← hD]; rfl)
          have HK := Lib.hid (show ok = isFin .f32 D by rw [HP.out, ← hD]; rfl)
          have HD := Lib.hid (show ∀ Y, Like Y (mixR (umT L X n K T) X K) n → D = farD L Y n from fun Y hY => by rw [hD, umD, farD_like hY])
          clear hD
          go_wp2_with fail
          refine HE3.out.mono ?_
          rintro e w3 ⟨v3, Y3, rfl, O3, L3, m3, B3⟩
          have hB3 := hB2.trans (B3.mono hB2.size)
          obtain ⟨ya3, cy3, rfl, _, _, R3⟩ := rd_of_own O3
          have HF := Lib.hid (HFR.out HKk.out Y3 (by rw [finL_like L3]; exact HC.out.symm) ya3 cy3 w3 hB3 R3 D (Lib.hid (HD.out Y3 L3)))
          have HO3 := Lib.hid (own_below HW.out B3)
          clear O3 L3 R3 B3
          go_wp2_with fail
          refine HF.out.mono ?_
          rintro e w4 ⟨s4, rfl, B4⟩
          have HO4 := Lib.hid (own_below HO3.out B4)
          have hB4 := hB3.trans (B4.mono hB3.size)
          clear B4
          cases hf : isFin .f32 D
          · have HN := Lib.hid (HNO.out (by rw [HK.out, hf]))
            go_wp2
            simp only [Exit.jump]
            go_ret3
            exact HN.out _ hB4
          · have h1 : m = K := by rw [HM.out, hf, if_pos rfl]
            have h2 : r = numQ D := by rw [HR.out, numQ]
            have h3 : ok = true := by rw [HK.out, hf]
            have HQ := Lib.hid (show UmRet (umT L X n K T) m r ok w = UmRet (umT L X n K T) K (numQ D) true w by rw [h1, h2, h3])
            clear h1 h2 h3
            go_wp2
            simp only [Exit.jump]
            go_ret3
            rw [HQ.out]
            exact ⟨_, umT L X n K T, s4, rfl, HO4.out, fun _ _ => rfl, by omega, hB4⟩
  · intro hrest
    go_wp2_with (at_make; refine wpList_make_full _ rfl _ _ 24 rfl w.heap.size 43 i0 (.float .f32 0) 1 Try.underlying24 hi hz0 hz1 _ _ _ _ K rfl rfl rfl rfl hb hmx (by simp) ?_)
    intro w1 hown hgr
    rw [madeF] at hown
    have hB : Below w.heap.size w w1 := (Below.refl _ w).grown hgr (by simp) (fun _ h => by cases h)
    go_wp2
    go_step3
    rename_i hK
    exact hK _ _ (hrest _ _ ⟨0, _, _, _, _, _, _, _, _, _, _, _, _, _, _, _, _, _, _, _, _, _, _, _, _, _, _, _, _, _, _, _, _, _, _, _, _, _, _, _, _, _, _, _, _, _, _, _, _, by rw [show (T : Int) - ((0 : Nat) : Int) = (T : Int) by omega], by omega, hown, hB, Lib.hid ⟨.inl rfl, fun j hj => absurd hj (Nat.not_lt_zero _)⟩⟩)
end Go.Proofs.Ytehlflldnihamab
