/- Shares found in rounds: as the model does it. -/
import Derived.Test.YtehlflldnihamabUmo
import Derived.Test.YtehlflldnihamabFa7
import Derived.Test.YtehlflldnihamabIn
namespace Go.Proofs.Ytehlflldnihamab
open Go Go.ChangeShapes Go.WideShapes Go.ChangeAt Go.RowKit

/-- The shares behind t rounds. -/
def umT (L : Nat → Nat) (X : Nat → Nat → Nat) (n K : Nat) : Nat → Nat → Nat
  | 0 => fun _ => 0
  | t + 1 => onT L X n K (umT L X n K t) K
def umG (L : Nat → Nat) (X : Nat → Nat → Nat) (n K : Nat) (T : Nat) : Bool := (List.range T).all fun t => onOk L X n K (umT L X n K t)
theorem umG_at {L : Nat → Nat} {X : Nat → Nat → Nat} {n K T : Nat} (h : umG L X n K T = true) : ∀ t, t < T → onOk L X n K (umT L X n K t) = true := fun t ht => by
  unfold umG at h
  rw [List.all_eq_true] at h
  exact h t (by simpa using ht)
theorem umG_no {L : Nat → Nat} {X : Nat → Nat → Nat} {n K T t : Nat} (ht : t < T) (h : onOk L X n K (umT L X n K t) = false) : umG L X n K T = false := by
  cases hc : umG L X n K T
  · rfl
  · rw [umG_at hc t ht] at h
    cases h
theorem umG_yes {L : Nat → Nat} {X : Nat → Nat → Nat} {n K T : Nat} (h : ∀ t, t < T → onOk L X n K (umT L X n K t) = true) : umG L X n K T = true := by
  unfold umG
  rw [List.all_eq_true]
  intro t ht
  exact h t (by simpa using ht)
theorem onOk_all {L : Nat → Nat} {X : Nat → Nat → Nat} {n K : Nat} {S : Nat → Nat} (h : onOk L X n K S = true) : ∀ f, f < K → onG L X n K S f = true := fun f hf => by
  unfold onOk at h
  rw [List.all_eq_true] at h
  exact h f (by simpa using hf)
theorem finL_zero (K : Nat) : finL (fun _ => 0) K = true := finL_yes fun _ _ => isFin_zero
theorem umT_fin {L : Nat → Nat} {X : Nat → Nat → Nat} {n K : Nat} : ∀ t, (∀ j, j < t → onOk L X n K (umT L X n K j) = true) → finL (umT L X n K t) K = true := by
  intro t
  induction t with
  | zero => intro _; exact finL_zero K
  | succ t ih => intro h; exact onT_fin (ih fun j hj => h j (by omega)) K (Nat.le_refl _) (onOk_all (h t (by omega)))
/-- Whether shares are told. -/
def umD (L : Nat → Nat) (X : Nat → Nat → Nat) (n K T : Nat) : Nat := farD L (mixR (umT L X n K T) X K) n
def umOk (L : Nat → Nat) (n K : Nat) (N : Nat → Nat) (X : Nat → Nat → Nat) (T : Int) : Bool :=
  okCan L n K N X && inB T 1 64 && umG L X n K T.toNat && (finL (mixR (umT L X n K T.toNat) X K) n && isFin .f32 (umD L X n K T.toNat))
theorem farD_like {X Y Z : Nat → Nat} {n : Nat} (h : Like Y Z n) : farD X Y n = farD X Z n := by
  have h1 : ∀ j, j < n → lesR X Y j = lesR X Z j := fun j hj => by rw [lesR, lesR, fbin_congr rfl (h j hj)]
  have h2 : Like (lesR X Y) (lesR X Z) n := fun j hj => by rw [h1 j hj]
  unfold farD
  rw [dotX_like n h2 h2]
/-- Shares, how far their mixture is, and whether. -/
def UmRet (R : Nat → Nat) (m r : Nat) (ok : Bool) (w : World) (e : Ending) (w' : World) : Prop := ∃ (v0 : Value) (Y0 : Nat → Nat) (s1 : Nat), e = .returned (.tuple #[v0, .float .f32 (pick .f32 r s1), .bool ok]) ∧ w'.ownsRow w.heap.size 43 1 v0 m (rowOf Y0 m) ∧ Like Y0 R m ∧ m ≤ 1048576 ∧ Below w.heap.size w w'
theorem umNo {R : Nat → Nat} {w w' : World} (hb : Below w.heap.size w w') : UmRet R 0 0 false w (.returned (.tuple #[.slice none 0 0, .float .f32 0, .bool false])) w' := by
  obtain ⟨v, Y, e, h1, h2, h3, h4⟩ := lstNo (R := R) (w := w) (w' := w') hb
  have hv : v = .slice none 0 0 := by simpa using e.symm
  subst hv
  exact ⟨_, Y, 0, by rw [pick_nul], h1, h2, h3, h4⟩
set_option maxRecDepth 100000 in
set_option maxHeartbeats 3200000 in
theorem specUnm_yes (la : Option Addr) (n cl : Nat) (L : Nat → Nat) (xa : Option Addr) (K cap : Nat) (N : Nat → Nat) (X : Nat → Nat → Nat) (T : Nat) (w : World) (hL : Rd w la n L) (hX : RdR w xa K N X) (h : K + totN N K ≤ 1048576) (hk : okCan L n K N X = true) (hT1 : 1 ≤ T) (hT2 : T ≤ 64) (ok : Bool) (ho : Hid (ok = umOk L n K N X (T : Int))) (m : Nat) (hm : Hid (m = if ok = true then K else 0)) (r : Nat) (hr : Hid (r = if ok = true then umD L X n K T else 0)) :
    Calls Try.prog 34 #[.slice la n cl, .slice xa K cap, .int .i64 (T : Int)] w (UmRet (umT L X n K T) m r ok w) := by
  obtain ⟨i0, hi, hz0, hz1, hz2⟩ := info_parts infoF
  obtain ⟨h1, h6, h2, h3⟩ := okCan_at hk
  obtain ⟨hK1, _, hall⟩ := okSpc_at h1
  have hn := (okLst_at h2)
  have HNO := Lib.hid (fun (h : ok = false) w' (hb : Below w.heap.size w w') => show UmRet (umT L X n K T) m r ok w (.returned (.tuple #[.slice none 0 0, .float .f32 0, .bool false])) w' by
    rw [hm.out, hr.out, h, if_neg (by simp), if_neg (by simp)]; exact umNo hb)
  have HT := Lib.hid (fun w hL hX => l07Can_any la n cl L xa K cap N X w hL hX (by omega) h true (Lib.hid hk.symm))
  have hin : inB (T : Int) 1 64 = true := inB_yes (by omega) (by omega)
  have HO := Lib.hid (show ok = (umG L X n K T && (finL (mixR (umT L X n K T) X K) n && isFin .f32 (umD L X n K T))) by
    rw [ho.out, umOk, hk, hin, Int.toNat_natCast]; rfl)
  have HON := Lib.hid (fun (S : Nat → Nat) (hfs : finL S K = true) g cs' w1 (hB : Below w.heap.size w w1) hown (b : Bool) hb => l07Once_any la cl L xa K cap N X g cs' n S w w1 hL hX hB hown h1 h h3 hn.1 hfs b hb)
  have HMX := Lib.hid (fun (S : Nat → Nat) (hfs : finL S K = true) g cs' w1 (hB : Below w.heap.size w w1) hS (b : Bool) (hb : b = finL (mixR S X K) n) => specMix_any xa K cap N X (some ⟨g, 0, none⟩) K cs' S w1 (hX.below hB) hS h (by omega) b (Lib.hid (by rw [hb, okMix, h1, decide_eq_true rfl, hfs, h3]; rfl)) (if b = true then n else 0) (Lib.hid (by rw [h3])))
  have HFR := Lib.hid (fun (Y : Nat → Nat) (hy : finL Y n = true) ya cy w1 (hB : Below w.heap.size w w1) hY (D : Nat) hD => specFar_yes la n cl L ya cy Y w1 (hL.below hB) hY (by omega) (by rw [okTwo, h2, okLst, hy, inB_yes (by omega) (by omega), decide_eq_true rfl]; rfl) D hD)
  have hb : i0.bytes * K ≤ 281474976710656 := by rw [hz2]; omega
  have hmx : K ≤ maxLen := by unfold maxLen; omega
  clear ho hk hall h1 h2 h3
  go_enter Try.func34, Try.ntmps34
  go_wp2_with (first | (go_at_call 73; refine (HT.out _ (by exact hL) (by exact hX)).mono ?_; rintro e w' ⟨rfl, q, rfl⟩) | (first | (go_at_call 82; refine (l00In_any _ _ _ _).mono ?_; rintro e w' ⟨rfl, rfl⟩)) | (at_make; refine wpList_make_full _ rfl _ _ 24 rfl w.heap.size 43 i0 (.float .f32 0) 1 Try.underlying24 hi hz0 hz1 _ _ _ _ K rfl rfl rfl rfl hb hmx (by simp) ?_))
  intro w1 hown hgr
  rw [madeF] at hown
  have hB : Below w.heap.size w w1 := (Below.drewN (Below.refl _ w) _).grown hgr (by simp) (fun _ h => by cases h)
  clear hgr hb hmx hi hz0 hz1 hz2
  go_wp2
  go_loopw [2] (fun i wr => ∃ (t : Nat), t ≤ T ∧ i = .int .i64 ((T : Int) - (t : Int)) ∧ wr.ownsRow w.heap.size 43 1 (.slice (some ⟨w.heap.size, 0, none⟩) K K) K (rowOf (umT L X n K t) K) ∧ Below w.heap.size w wr ∧ Hid (∀ j, j < t → onOk L X n K (umT L X n K j) = true)) (fun i _ => (intOf i).toNat)
  case atStart => exact ⟨0, Nat.zero_le _, by simp, hown, hB, Lib.hid fun j hj => absurd hj (Nat.not_lt_zero _)⟩
  case round =>
    obtain ⟨t, ht, rfl, hownt, hBt, HG⟩ := hrel
    clear hown hB
    by_cases hlt : t < T
    · have hfs := umT_fin t HG.out
      obtain ⟨b, hb⟩ : ∃ b, b = onOk L X n K (umT L X n K t) := ⟨_, rfl⟩
      have HE := Lib.hid (HON.out _ hfs w.heap.size K wr hBt hownt b (Lib.hid hb))
      have HY := Lib.hid (fun (h : b = true) => show ∀ j, j < t + 1 → onOk L X n K (umT L X n K j) = true from fun j hj => by
        by_cases hj' : j < t
        · exact HG.out j hj'
        · rw [show j = t by omega, ← hb, h])
      have HN := Lib.hid (fun (h : b = false) => HNO.out (by rw [HO.out, umG_no hlt (by rw [← hb, h])]; rfl))
      have hgt : decide ((T : Int) - (t : Int) > 0) = true := decide_eq_true (by omega)
      have hgt' : decide (0 < (T : Int) - (t : Int)) = true := decide_eq_true (by omega)
      clear hb hownt hfs
      cases b
      · go_wp2_with (go_at_call 75; refine HE.out.mono ?_; rintro e w2 ⟨rfl, B2, _⟩)
        go_ret3
        exact HN.out (by trivial) _ B2
      · go_wp2_with (go_at_call 75; refine HE.out.mono ?_; rintro e w2 ⟨rfl, B2, O2⟩)
        go_roundw
        case rel => exact ⟨t + 1, by omega, by go_num, O2 (by trivial), B2, Lib.hid (HY.out (by trivial))⟩
        case measure => simp [intOf]; omega
    · obtain rfl : t = T := by omega
      have hfs := umT_fin t HG.out
      have HU := umG_yes HG.out
      obtain ⟨c, hc⟩ : ∃ c, c = finL (mixR (umT L X n K t) X K) n := ⟨_, rfl⟩
      have HE := Lib.hid (HMX.out _ hfs w.heap.size K wr hBt (rd_own hownt) c hc)
      have HP := Lib.hid (show ok = (c && isFin .f32 (umD L X n K t)) by rw [HO.out, HU, ← hc]; rfl)
      have HC := Lib.hid hc
      have hz : decide ((t : Int) - (t : Int) > 0) = false := decide_eq_false (by omega)
      have hz' : decide (0 < (t : Int) - (t : Int)) = false := decide_eq_false (by omega)
      have HW := Lib.hid hownt
      clear hlt hc hfs HU hownt
      cases c
      · have HN := Lib.hid (HNO.out (by rw [HP.out]; rfl))
        go_wp2_with fail
        refine HE.out.mono ?_
        rintro e w2 ⟨v2, Y2, rfl, O2, L2, m2, B2⟩
        go_wp2
        go_ret3
        exact HN.out _ (hBt.trans (B2.mono hBt.size))
      · obtain ⟨D, hD⟩ : ∃ D, D = umD L X n K t := ⟨_, rfl⟩
        rw [if_pos rfl] at HE
        have HM := Lib.hid (show m = if isFin .f32 D = true then K else 0 by rw [hm.out, HP.out, ← hD]; rfl)
        have HR := Lib.hid (show r = if isFin .f32 D = true then D else 0 by rw [hr.out, HP.out, ← hD]; rfl)
        have HK := Lib.hid (show ok = isFin .f32 D by rw [HP.out, ← hD]; rfl)
        have HD := Lib.hid (show ∀ Y, Like Y (mixR (umT L X n K t) X K) n → D = farD L Y n from fun Y hY => by rw [hD, umD, farD_like hY])
        clear hD
        go_wp2_with fail
        refine HE.out.mono ?_
        rintro e w2 ⟨v2, Y2, rfl, O2, L2, m2, B2⟩
        have hB2 := hBt.trans (B2.mono hBt.size)
        obtain ⟨ya, cy, rfl, _, _, R2⟩ := rd_of_own O2
        have HF := Lib.hid (HFR.out Y2 (by rw [finL_like L2]; exact HC.out.symm) ya cy w2 hB2 R2 D (Lib.hid (HD.out Y2 L2)))
        have HO2 := Lib.hid (own_below HW.out B2)
        clear O2 L2 R2 B2 hBt
        go_wp2_with fail
        refine HF.out.mono ?_
        rintro e w3 ⟨s3, rfl, B3⟩
        have HO3 := Lib.hid (own_below HO2.out B3)
        have hB3 := hB2.trans (B3.mono hB2.size)
        clear B3
        cases hf : isFin .f32 D
        · have HN := Lib.hid (HNO.out (by rw [HK.out, hf]))
          go_wp2
          go_ret3
          exact HN.out _ hB3
        · have h1 : m = K := by rw [HM.out, hf, if_pos rfl]
          have h2 : r = numQ D := by rw [HR.out, numQ]
          have h3 : ok = true := by rw [HK.out, hf]
          go_wp2
          go_ret3
          rw [h1, h2, h3]
          exact ⟨_, umT L X n K t, s3, rfl, HO3.out, fun _ _ => rfl, by omega, hB3⟩
set_option maxRecDepth 100000 in
set_option maxHeartbeats 3200000 in
theorem specUnm_any (la : Option Addr) (n cl : Nat) (L : Nat → Nat) (xa : Option Addr) (K cap : Nat) (N : Nat → Nat) (X : Nat → Nat → Nat) (T : Int) (w : World) (hL : Rd w la n L) (hX : RdR w xa K N X) (hn : n ≤ 1048576) (h : K + totN N K ≤ 1048576) (ok : Bool) (ho : Hid (ok = umOk L n K N X T)) (m : Nat) (hm : Hid (m = if ok = true then K else 0)) (r : Nat) (hr : Hid (r = if ok = true then umD L X n K T.toNat else 0)) :
    Calls Try.prog 34 #[.slice la n cl, .slice xa K cap, .int .i64 T] w (UmRet (umT L X n K T.toNat) m r ok w) := by
  have HNO := Lib.hid (fun (h : ok = false) w' (hb : Below w.heap.size w w') => show UmRet (umT L X n K T.toNat) m r ok w (.returned (.tuple #[.slice none 0 0, .float .f32 0, .bool false])) w' by
    rw [hm.out, hr.out, h, if_neg (by simp), if_neg (by simp)]; exact umNo hb)
  cases hk : okCan L n K N X
  · have HN := Lib.hid (HNO.out (by rw [ho.out, umOk, hk]; rfl))
    have HT := Lib.hid (fun w hL hX => l07Can_any la n cl L xa K cap N X w hL hX hn h false (Lib.hid hk.symm))
    clear hk
    go_enter Try.func34, Try.ntmps34
    go_wp2_with (first | (go_at_call 73; refine (HT.out _ (by exact hL) (by exact hX)).mono ?_; rintro e w' ⟨rfl, q, rfl⟩))
    go_ret3
    refine HN.out _ ?_
    (repeat (first | with_reducible exact Below.refl _ _ | with_reducible refine Below.drewN ?_ _ | with_reducible refine Below.setCell ?_ (by simp; try omega) _ | with_reducible refine Below.alloc ?_ (by simp; try omega) _))
  · cases hi : inB T 1 64
    · have HN := Lib.hid (HNO.out (by rw [ho.out, umOk, hk, hi]; rfl))
      have HT := Lib.hid (fun w hL hX => l07Can_any la n cl L xa K cap N X w hL hX hn h true (Lib.hid hk.symm))
      clear hk
      go_enter Try.func34, Try.ntmps34
      go_wp2_with (first | (go_at_call 73; refine (HT.out _ (by exact hL) (by exact hX)).mono ?_; rintro e w' ⟨rfl, q, rfl⟩) | (first | (go_at_call 82; refine (l00In_any _ _ _ _).mono ?_; rintro e w' ⟨rfl, rfl⟩)))
      go_ret3
      refine HN.out _ ?_
      (repeat (first | with_reducible exact Below.refl _ _ | with_reducible refine Below.drewN ?_ _ | with_reducible refine Below.setCell ?_ (by simp; try omega) _ | with_reducible refine Below.alloc ?_ (by simp; try omega) _))
    · have h2 := inB_rng hi
      obtain ⟨t, rfl⟩ : ∃ t : Nat, T = (t : Int) := ⟨T.toNat, by omega⟩
      exact specUnm_yes la n cl L xa K cap N X t w hL hX h hk (by omega) (by omega) ok ho m hm r hr
end Go.Proofs.Ytehlflldnihamab
