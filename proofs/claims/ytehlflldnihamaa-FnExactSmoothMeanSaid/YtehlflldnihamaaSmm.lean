/- Of any list the program tells the means of neighbours just where the model does, and the same; the list is not changed: for all arguments. -/
import Derived.Test.YtehlflldnihamaaSame
import Derived.Test.YtehlflldnihamaaGiv
import Derived.Test.YtehlflldnihamaaAlk
import Derived.Test.YtehlflldnihamaaRo
import Derived.Test.YtehlflldnihamaaLiC
import Derived.Test.YtehlflldnihamaaLaw
namespace Go.Proofs.Ytehlflldnihamaa
open Go Go.ChangeShapes Go.WideShapes Go.ChangeAt Go.RowKit

def subX8 (X : Nat → Nat) (f i : Nat) : Nat := X (f + i)
theorem rd_sub8 {w : World} {xb xo n f l : Nat} {X : Nat → Nat} (hc : ∀ i, i < n → w.cell? ⟨xb, xo + i, none⟩ = some (.float .f32 (X i))) (h : f + l ≤ n) : Rd w (some ⟨xb, xo + f, none⟩) l (subX8 X f) :=
  ⟨xb, xo + f, fun _ => rfl, fun i hi => by rw [Nat.add_assoc]; exact hc (f + i) (by omega)⟩
def smL (h i : Nat) : Nat := i - h
def smH (n h i : Nat) : Nat := min (i + h + 1) n
def cntW (c : Nat) : Nat := floatOfInt .f32 (c : Int)
theorem cnt_table : (List.range 128).all (fun c => fbin .add .f32 (floatOfInt .f32 (c : Int)) 1065353216 == floatOfInt .f32 ((c + 1 : Nat) : Int)) = true := by decide +kernel
theorem cnt_succ {c : Nat} (h : c < 128) : fbin .add .f32 (cntW c) 1065353216 = cntW (c + 1) := by
  exact eq_of_beq (List.all_eq_true.1 cnt_table c (by simpa using h))
theorem cnt_zero : cntW 0 = 0 := by decide +kernel
def smR (X : Nat → Nat) (n h i : Nat) : Nat := fbin .quo .f32 (sumW (subX8 X (smL h i)) (smH n h i - smL h i)) (cntW (smH n h i - smL h i))
def okSmm (X : Nat → Nat) (n : Nat) (h : Int) : Bool := okLst X n && inB h 0 128
set_option maxRecDepth 100000 in
set_option maxHeartbeats 6400000 in
theorem specSmm_any (xa : Option Addr) (n cx : Nat) (X : Nat → Nat) (h : Nat) (w : World) (hX : Rd w xa n X) (hn : n ≤ 1048576) (hk : okLst X n = true) (hh : h ≤ 128) (ok : Bool) (ho : Hid (ok = finL (smR X n h) n)) (m : Nat) (hm : Hid (m = if ok = true then n else 0)) :
    Calls Try.prog 23 #[.slice xa n cx, .int .i64 (h : Int)] w (LstRet (smR X n h) m ok w) := by
  obtain ⟨i0, hi, hz0, hz1, hz2⟩ := info_parts infoF
  have HT := Lib.hid (fun w hX => specLst_any xa n cx X w hX hn true (Lib.hid hk.symm))
  have h128 := okLst_at hk
  have HFX := Lib.hid (finL_at h128.1)
  have h1 := h128.2.1
  have h2 := h128.2.2
  have hin : inB (h : Int) 0 128 = true := inB_yes (by omega) (by omega)
  have hX' := hX
  obtain ⟨xb, xo, hxa, hcx⟩ := hX'
  have e := hxa (by omega)
  subst e
  have HX := Lib.hid hcx
  clear hk hcx hxa h128
  go_enter Try.func23, Try.ntmps23
  go_wp2_with (first | (go_at_call 48; refine (HT.out _ (by exact hX)).mono ?_; rintro e w' ⟨rfl, q, rfl⟩) | (first | (go_at_call 60; refine (l00In_any _ _ _ _).mono ?_; rintro e w' ⟨rfl, rfl⟩)))
  go_loopw [6, 22] (fun v i wr => ∃ (c : Nat) (Z : Nat → Nat), c ≤ n ∧ i = .int .i64 (c : Int) ∧ wr.ownsRow w.heap.size 31 1 v c (rowOf Z c) ∧ Like Z (smR X n h) c ∧ Below w.heap.size w wr) (fun _ i _ => n - (intOf i).toNat)
  case atStart => exact ⟨0, fun _ => 0, Nat.zero_le _, rfl, own_empty (w.drewN q) _, fun _ h => absurd h (Nat.not_lt_zero _), Below.alloc (Below.drewN (Below.refl _ _) _) (Nat.le_refl _) _⟩
  case round =>
    obtain ⟨c, Z, hc, rfl, hownk, hL, hBk⟩ := hrel
    have hsz := hBk.size
    by_cases hltc : c < n
    · obtain ⟨wu, hwu⟩ : ∃ wu, wu = wr := ⟨_, rfl⟩
      subst hwu
      obtain ⟨L, hLd⟩ : ∃ L, L = smL h c := ⟨_, rfl⟩
      obtain ⟨H, hHd⟩ : ∃ H, H = smH n h c := ⟨_, rfl⟩
      obtain ⟨F, hF⟩ : ∃ F, F = subX8 X L := ⟨_, rfl⟩
      have hU : smR X n h c = fbin .quo .f32 (sumW F (H - L)) (cntW (H - L)) := by unfold smR; rw [← hLd, ← hHd, ← hF]
      have HU := Lib.hid hU
      have HF := Lib.hid hF
      have hL1 : L ≤ c ∧ (L = c - h) := by rw [hLd, smL]; omega
      have hH1 : c < H ∧ H ≤ n ∧ H = min (c + h + 1) n := by rw [hHd, smH]; omega
      clear hLd hHd hU hF
      go_wp2
      go_loopw [8, 9, 27] (fun q r i wr => ∃ (k mm s t : Nat), k ≤ n ∧ i = .int .i64 (k : Int) ∧ q = .float .f32 (pick .f32 (sumW F (min k H - L)) s) ∧ r = .float .f32 (cntW (min k H - L)) ∧ wr = wu.drewN mm) (fun _ _ i _ => n - (intOf i).toNat)
      case atStart => exact ⟨0, 0, 0, 0, by omega, rfl, by rw [show min 0 H - L = 0 by omega, show sumW F 0 = 0 from rfl, pick_zero], by rw [show min 0 H - L = 0 by omega, cnt_zero], rfl⟩
      case round =>
        obtain ⟨k, mm, s, t, hk, rfl, rfl, rfl, rfl⟩ := hrel
        by_cases hkn : k < n
        · have hw1 : IntKind.i64.wrap ((c : Int) - (h : Int)) = (c : Int) - (h : Int) := by rw [IntKind.wrap_i64]; omega
          have hw2 : IntKind.i64.wrap ((c : Int) + (h : Int)) = (c : Int) + (h : Int) := by rw [IntKind.wrap_i64]; omega
          obtain ⟨D, hD⟩ : ∃ D, D = sumW F (min k H - L) := ⟨_, rfl⟩
          obtain ⟨G, hG⟩ : ∃ G, G = cntW (min k H - L) := ⟨_, rfl⟩
          rw [← hD, ← hG]
          by_cases hin1 : (c : Int) - (h : Int) ≤ (k : Int)
          · by_cases hin2 : (k : Int) ≤ (c : Int) + (h : Int)
            · have c0 := HX.out k hkn
              have c1 : (wu.drewN mm).cell? ⟨xb, xo + k, none⟩ = some (.float .f32 (X k)) := (hBk.cell (p := ⟨xb, xo + k, none⟩) (World.block_lt_of_cell? w _ c0)).trans c0
              have e1 : min k H - L = k - L := by omega
              have e2 : min (k + 1) H - L = k - L + 1 := by omega
              have hfk : F (k - L) = X k := by rw [HF.out, subX8, show L + (k - L) = k by omega]
              have hs : fbin .add .f32 D (X k) = sumW F (k - L + 1) := by rw [hD, e1, ← hfk, sumW_succ]
              have hg : fbin .add .f32 G 1065353216 = cntW (k - L + 1) := by rw [hG, e1]; exact cnt_succ (by omega)
              obtain ⟨D2, hD2⟩ : ∃ D2, fbin .add .f32 D (X k) = D2 := ⟨_, rfl⟩
              obtain ⟨G2, hG2⟩ : ∃ G2, fbin .add .f32 G 1065353216 = G2 := ⟨_, rfl⟩
              rw [hD2] at hs
              rw [hG2] at hg
              have HS := Lib.hid (show D2 = sumW F (min (k + 1) H - L) by rw [e2]; exact hs)
              have HG := Lib.hid (show G2 = cntW (min (k + 1) H - L) by rw [e2]; exact hg)
              have nG : isNaN .f32 G2 = false := by rw [hg, cntW]; exact isNaN_encode .f32 (.number (decide (((k - L + 1 : Nat) : Int) < 0)) (((k - L + 1 : Nat) : Int)).natAbs 0) rfl
              have hp := fbin_pick_l .add .f32
              clear hD hG e1 e2 hfk hs hg c0
              go_wp2_with ((with_reducible refine wpL_fbin ?_); refine ⟨_, _, _, rfl, rfl, rfl, fun s n => ?_⟩)
              go_roundw
              case rel => exact ⟨k + 1, _, _, 0, by omega, by go_num, by rw [HS.out], by rw [pick_num nG, HG.out], rfl⟩
              case measure => simp [intOf]; omega
            · have e2 : min (k + 1) H - L = min k H - L := by omega
              have HS := Lib.hid (show D = sumW F (min (k + 1) H - L) by rw [e2]; exact hD)
              have HG := Lib.hid (show G = cntW (min (k + 1) H - L) by rw [e2]; exact hG)
              clear hD hG e2
              go_wp2
              go_roundw
              case rel => exact ⟨k + 1, _, _, 0, by omega, by go_num, by rw [HS.out], by rw [HG.out], rfl⟩
              case measure => simp [intOf]; omega
          · have e2 : min (k + 1) H - L = min k H - L := by omega
            have HS := Lib.hid (show D = sumW F (min (k + 1) H - L) by rw [e2]; exact hD)
            have HG := Lib.hid (show G = cntW (min (k + 1) H - L) by rw [e2]; exact hG)
            clear hD hG e2
            go_wp2
            go_roundw
            case rel => exact ⟨k + 1, _, _, 0, by omega, by go_num, by rw [HS.out], by rw [HG.out], rfl⟩
            case measure => simp [intOf]; omega
        · have e1 : min k H - L = H - L := by omega
          rw [e1]
          have hp := fbin_pick_l .quo .f32
          obtain ⟨D, hD⟩ : ∃ D, D = sumW F (H - L) := ⟨_, rfl⟩
          obtain ⟨G, hG⟩ : ∃ G, G = cntW (H - L) := ⟨_, rfl⟩
          obtain ⟨U, hU2⟩ : ∃ U, fbin .quo .f32 D G = U := ⟨_, rfl⟩
          have HV := Lib.hid (show smR X n h c = U by rw [HU.out, ← hD, ← hG, hU2])
          rw [← hD, ← hG]
          clear hD hG e1
          go_wp2_with (first | ((with_reducible refine wpL_fbin ?_); refine ⟨_, _, _, rfl, rfl, rfl, fun s n => ?_⟩) | (at_builtin; refine wpL_push hi hz0 hz1 hz2 rfl rfl rfl rfl (by exact own_drew hownk _) (by omega) (by exact hsz) ?_; intro v' w1 hown' hB'))
          go_roundw
          case rel => exact ⟨c + 1, _, by omega, by go_num, hown', like_push hL (by rw [HV.out]), Below.trans (Below.drewN hBk _) hB'⟩
          case measure => simp [intOf]; omega
    · have hck : c = n := by omega
      subst hck
      have HF := Lib.hid (show LstRet (smR X c h) (if finL (smR X c h) c = true then c else 0) (finL (smR X c h) c) w = LstRet (smR X c h) m ok w by rw [hm.out, ho.out])
      go_wp2_with fail
      refine (l07Give_any _ _ c Z _ (by exact hownk) (by omega)).mono ?_
      rintro e w' ⟨rfl, q2, rfl⟩
      have HV := Lib.hid (lstGive hL hownk (by omega) hBk)
      cases hfz : finL Z c
      · rw [hfz] at HV
        go_wp2
        go_ret2
        rw [← HF.out]
        obtain ⟨a, b, h3, h4, h5, h6, h7⟩ := HV.out
        exact ⟨a, b, h3, h4, h5, h6, Below.drewN h7 _⟩
      · rw [hfz] at HV
        go_wp2
        go_ret2
        rw [← HF.out]
        obtain ⟨a, b, h3, h4, h5, h6, h7⟩ := HV.out
        exact ⟨a, b, h3, h4, h5, h6, Below.drewN h7 _⟩
theorem run_maxI (P : Program) (ts : Array TypeId) (t : TypeId) (x y z : Int) (h : (if y > x then y else x) = z) (w : World) : (Builtin.max_ ts t #[.int .i64 x, .int .i64 y]).run P w = .ok (.int .i64 z) w := by rw [← h]; rfl
theorem run_minI (P : Program) (ts : Array TypeId) (t : TypeId) (x y z : Int) (h : (if y < x then y else x) = z) (w : World) : (Builtin.min_ ts t #[.int .i64 x, .int .i64 y]).run P w = .ok (.int .i64 z) w := by rw [← h]; rfl
set_option maxRecDepth 100000 in
set_option maxHeartbeats 1600000 in
theorem meanOf_any (xa : Option Addr) (n cx : Nat) (X : Nat → Nat) (w : World) (hX : Rd w xa n X) (hn : n ≤ 256) :
    Calls Try.prog 61 #[.slice xa n cx] w (FltRet (fbin .quo .f32 (sumW X n) (cntW n)) w) := by
  have HS := Lib.hid (fun w hX => SumNumbers_any xa n cx X w hX hn)
  obtain ⟨D, hD⟩ : ∃ D, D = sumW X n := ⟨_, rfl⟩
  rw [← hD] at HS ⊢
  obtain ⟨G, hG⟩ : ∃ G, G = cntW n := ⟨_, rfl⟩
  have hg : floatOfInt .f32 (n : Int) = G := hG.symm
  rw [← hG]
  clear hD hG
  have hp := fbin_pick_l .quo .f32
  go_enter Try.func61, Try.ntmps61
  go_wp2_with fail
  refine (HS.out _ (by exact hX)).mono ?_
  rintro e w' ⟨s, q, rfl, rfl⟩
  go_wp2_with ((with_reducible refine wpL_fbin ?_); refine ⟨_, _, _, rfl, rfl, rfl, fun s n => ?_⟩)
  go_ret
  exact ⟨_, _, rfl, rfl⟩
set_option maxRecDepth 100000 in
set_option maxHeartbeats 6400000 in
theorem implSmm_any (xa : Option Addr) (n cx : Nat) (X : Nat → Nat) (h : Nat) (w : World) (hX : Rd w xa n X) (hcx0 : n ≤ cx) (hn : n ≤ 1048576) (hk : okLst X n = true) (hh : h ≤ 128) (ok : Bool) (ho : Hid (ok = finL (smR X n h) n)) (m : Nat) (hm : Hid (m = if ok = true then n else 0)) :
    Calls Try.prog 24 #[.slice xa n cx, .int .i64 (h : Int)] w (LstRet (smR X n h) m ok w) := by
  obtain ⟨i0, hi, hz0, hz1, hz2⟩ := info_parts infoF
  have HT := Lib.hid (fun w hX => implLst_any xa n cx X w hX hn true (Lib.hid hk.symm))
  have h128 := okLst_at hk
  have h1 := h128.2.1
  have h2 := h128.2.2
  have d1 : decide ((h : Int) < 0) = false := decide_eq_false (by omega)
  have d2 : decide ((128 : Int) < (h : Int)) = false := decide_eq_false (by omega)
  have hb : i0.bytes * n ≤ 281474976710656 := by rw [hz2]; omega
  have hmx : n ≤ maxLen := by unfold maxLen; omega
  have hX' := hX
  obtain ⟨xb, xo, hxa, hcx⟩ := hX'
  have e := hxa (by omega)
  subst e
  have HX := Lib.hid hcx
  clear hk hcx hxa h128
  go_enter Try.func24, Try.ntmps24
  go_wp2_with (first | (go_at_call 50; refine (HT.out _ (by exact hX)).mono ?_; rintro e w' ⟨rfl, q, rfl⟩) | (at_make; refine wpList_make_full _ rfl _ _ 22 rfl w.heap.size 31 i0 (.float .f32 0) 1 Try.underlying22 hi hz0 hz1 _ _ _ _ n rfl rfl rfl rfl hb hmx (Nat.le_refl _) ?_))
  intro w1 hown hgr
  rw [madeF] at hown
  have HO : w1.ownsRow w.heap.size 31 1 (.slice (some ⟨w.heap.size, 0, none⟩) n n) n (rowOf (fun _ => 0) n) := hown
  have hB : Below w.heap.size w w1 := (Below.drewN (Below.refl _ w) _).grown hgr (Nat.le_refl _) (fun _ h => by cases h)
  clear hgr hb hmx hown hi hz0 hz1 hz2
  go_wp2
  go_loopw [26] (fun i wr => ∃ (c : Nat) (Z : Nat → Nat), c ≤ n ∧ i = .int .i64 (c : Int) ∧ wr.ownsRow w.heap.size 31 1 (.slice (some ⟨w.heap.size, 0, none⟩) n n) n (rowOf Z n) ∧ LikeP Z (smR X n h) c ∧ Below w.heap.size w wr) (fun i _ => n - (intOf i).toNat)
  case atStart => exact ⟨0, fun _ => 0, Nat.zero_le _, rfl, HO, fun _ h => absurd h (Nat.not_lt_zero _), hB⟩
  case round =>
    obtain ⟨c, Z, hc, rfl, hownk, hL, hBk⟩ := hrel
    clear HO hB
    by_cases hltc : c < n
    · obtain ⟨L, hLd⟩ : ∃ L, L = smL h c := ⟨_, rfl⟩
      obtain ⟨H, hHd⟩ : ∃ H, H = smH n h c := ⟨_, rfl⟩
      have HU := Lib.hid (show smR X n h c = fbin .quo .f32 (sumW (subX8 X L) (H - L)) (cntW (H - L)) by unfold smR; rw [← hLd, ← hHd])
      have hL1 : L ≤ c ∧ (L = c - h) := by rw [hLd, smL]; omega
      have hH1 : c < H ∧ H ≤ n ∧ H = min (c + h + 1) n := by rw [hHd, smH]; omega
      clear hLd hHd
      have hw1 : IntKind.i64.wrap ((c : Int) - (h : Int)) = (c : Int) - (h : Int) := by rw [IntKind.wrap_i64]; omega
      have hr1 := fun ts t w => run_maxI Try.prog ts t ((c : Int) - (h : Int)) 0 (L : Int) (by split <;> omega) w
      have hr2 := fun ts t w => run_minI Try.prog ts t ((c : Int) + (h : Int) + 1) (n : Int) (H : Int) (by split <;> omega) w
      have hLc : L ≤ c := hL1.1
      have hcH : c < H := hH1.1
      have hHn : H ≤ n := hH1.2.1
      clear hL1 hH1
      have hLH : (L : Int) ≤ (H : Int) := by omega
      have hLH' : L ≤ H := by omega
      have hHc : (H : Int) ≤ (cx : Int) := by omega
      have hHc' : H ≤ cx := by omega
      have hsub : Rd wr (some ⟨xb, xo + L, none⟩) (H - L) (subX8 X L) := Rd.below (rd_sub8 HX.out (by omega)) hBk
      have st := fun q u => own_store hownk hltc q u
      have HOw := Lib.hid hownk
      have HL := Lib.hid hL
      clear hownk hL
      go_wp2_with fail
      refine (meanOf_any _ (H - L) _ (subX8 X L) _ (by exact hsub) (by omega)).mono ?_
      rintro e w' ⟨s, q2, rfl, rfl⟩
      rw [← HU.out]
      go_wp2
      go_roundw
      case rel => exact ⟨c + 1, _, by omega, by go_num, own_stored (own_drew HOw.out _) c _, HL.out.push rfl, Below.setCell (Below.drewN hBk _) (Nat.le_refl _) _⟩
      case measure => simp [intOf]; omega
    · have hck : c = n := by omega
      subst hck
      have HF := Lib.hid (show LstRet (smR X c h) (if finL (smR X c h) c = true then c else 0) (finL (smR X c h) c) w = LstRet (smR X c h) m ok w by rw [hm.out, ho.out])
      go_wp2_with fail
      refine (onlyFinite_any _ _ c Z _ (by exact hownk) hn).mono ?_
      rintro e w' ⟨rfl, q2, rfl⟩
      have HV := Lib.hid (lstGive hL.like hownk hn hBk)
      cases hfz : finL Z c
      · rw [hfz] at HV
        go_wp2
        go_ret2
        rw [← HF.out]
        obtain ⟨a, b, h3, h4, h5, h6, h7⟩ := HV.out
        exact ⟨a, b, h3, h4, h5, h6, Below.drewN h7 _⟩
      · rw [hfz] at HV
        go_wp2
        go_ret2
        rw [← HF.out]
        obtain ⟨a, b, h3, h4, h5, h6, h7⟩ := HV.out
        exact ⟨a, b, h3, h4, h5, h6, Below.drewN h7 _⟩
set_option maxRecDepth 100000 in
set_option maxHeartbeats 3200000 in
theorem specSmm_no (xa : Option Addr) (n cx : Nat) (X : Nat → Nat) (h : Int) (w : World) (hX : Rd w xa n X) (hn : n ≤ 1048576) (R : Nat → Nat) (hk : okSmm X n h = false) :
    Calls Try.prog 23 #[.slice xa n cx, .int .i64 h] w (LstRet R 0 false w) := by
  have HT := Lib.hid (fun w hX => specLst_any xa n cx X w hX hn _ (Lib.hid rfl))
  cases c1 : okLst X n
  · rw [c1] at HT
    clear hk c1
    go_enter Try.func23, Try.ntmps23
    go_wp2_with (go_at_call 48; refine (HT.out _ (by exact hX)).mono ?_; rintro e w' ⟨rfl, q, rfl⟩)
    go_ret2
    refine lstNo ?_
    (repeat (first | with_reducible exact Below.refl _ _ | with_reducible refine Below.drewN ?_ _ | with_reducible refine Below.setCell ?_ (by simp; try omega) _ | with_reducible refine Below.alloc ?_ (by simp; try omega) _))
  · have c2 : inB h 0 128 = false := by rw [okSmm, c1, Bool.true_and] at hk; exact hk
    rw [c1] at HT
    clear hk c1
    go_enter Try.func23, Try.ntmps23
    go_wp2_with (first | (go_at_call 48; refine (HT.out _ (by exact hX)).mono ?_; rintro e w' ⟨rfl, q, rfl⟩) | (first | (go_at_call 60; refine (l00In_any _ _ _ _).mono ?_; rintro e w' ⟨rfl, rfl⟩)))
    go_ret2
    refine lstNo ?_
    (repeat (first | with_reducible exact Below.refl _ _ | with_reducible refine Below.drewN ?_ _ | with_reducible refine Below.setCell ?_ (by simp; try omega) _ | with_reducible refine Below.alloc ?_ (by simp; try omega) _))
set_option maxRecDepth 100000 in
set_option maxHeartbeats 3200000 in
theorem implSmm_no (xa : Option Addr) (n cx : Nat) (X : Nat → Nat) (h : Int) (w : World) (hX : Rd w xa n X) (hn : n ≤ 1048576) (R : Nat → Nat) (hk : okSmm X n h = false) :
    Calls Try.prog 24 #[.slice xa n cx, .int .i64 h] w (LstRet R 0 false w) := by
  have HT := Lib.hid (fun w hX => implLst_any xa n cx X w hX hn _ (Lib.hid rfl))
  cases c1 : okLst X n
  · skip
    rw [c1] at HT
    clear hk c1
    go_enter Try.func24, Try.ntmps24
    go_wp2_with (go_at_call 50; refine (HT.out _ (by exact hX)).mono ?_; rintro e w' ⟨rfl, q, rfl⟩)
    go_ret2
    refine lstNo ?_
    (repeat (first | with_reducible exact Below.refl _ _ | with_reducible refine Below.drewN ?_ _ | with_reducible refine Below.setCell ?_ (by simp; try omega) _ | with_reducible refine Below.alloc ?_ (by simp; try omega) _))
  · skip
    cases c2 : decide (h < 0)
    rotate_left
    · skip
      rw [c1] at HT
      clear hk c1
      go_enter Try.func24, Try.ntmps24
      go_wp2_with (go_at_call 50; refine (HT.out _ (by exact hX)).mono ?_; rintro e w' ⟨rfl, q, rfl⟩)
      go_ret2
      refine lstNo ?_
      (repeat (first | with_reducible exact Below.refl _ _ | with_reducible refine Below.drewN ?_ _ | with_reducible refine Below.setCell ?_ (by simp; try omega) _ | with_reducible refine Below.alloc ?_ (by simp; try omega) _))
    · skip
      cases c3 : decide (128 < h)
      rotate_left
      · skip
        rw [c1] at HT
        clear hk c1
        go_enter Try.func24, Try.ntmps24
        go_wp2_with (go_at_call 50; refine (HT.out _ (by exact hX)).mono ?_; rintro e w' ⟨rfl, q, rfl⟩)
        go_ret2
        refine lstNo ?_
        (repeat (first | with_reducible exact Below.refl _ _ | with_reducible refine Below.drewN ?_ _ | with_reducible refine Below.setCell ?_ (by simp; try omega) _ | with_reducible refine Below.alloc ?_ (by simp; try omega) _))
      · skip
        exfalso
        have h1 := of_decide_eq_false c2
        have h2 := of_decide_eq_false c3
        rw [okSmm, c1, inB_yes (by omega) (by omega)] at hk
        cases hk
/-- What is told of SmoothMean. -/
def RetSmoothMean (R0 : Nat → Nat) (m0 : Nat) (r1 : Bool) (w : World) (e : Ending) (w' : World) : Prop := ∃ (v0 : Value) (Y0 : Nat → Nat), e = .returned (.tuple #[v0, .bool r1]) ∧ w'.ownsRow w.heap.size 31 1 v0 m0 (rowOf Y0 m0) ∧ Like Y0 R0 m0 ∧ m0 ≤ 1048576 ∧ Below w.heap.size w w'
theorem bothSmoothMean (N : Nat) (X : Nat → Nat) (hN : N ≤ 1048576) (h : Int) (_ : (Lit.int .i64 h).wf = true) :
    ∃ (R : Nat → Nat) (m : Nat) (ok : Bool), (∀ (xa : Option Addr) (c : Nat) (w : World), Rd w xa N X → N ≤ c → Calls Try.prog 23 #[.slice xa N c, .int .i64 h] w (RetSmoothMean R m ok w)) ∧
      ∀ (xa : Option Addr) (c : Nat) (w : World), Rd w xa N X → N ≤ c → Calls Try.prog 24 #[.slice xa N c, .int .i64 h] w (RetSmoothMean R m ok w) := by
  cases hk : okSmm X N h
  · exact ⟨fun _ => 0, 0, false, fun xa c w hX _ => specSmm_no xa N c X h w hX hN _ hk, fun xa c w hX _ => implSmm_no xa N c X h w hX hN _ hk⟩
  · unfold okSmm at hk
    rw [Bool.and_eq_true] at hk
    have hr := inB_rng hk.2
    obtain ⟨H, rfl⟩ : ∃ H : Nat, h = H := ⟨h.toNat, by omega⟩
    exact ⟨_, _, _, fun xa c w hX _ => specSmm_any xa N c X H w hX hN hk.1 (by omega) _ (Lib.hid rfl) _ (Lib.hid rfl), fun xa c w hX hc => implSmm_any xa N c X H w hX hc hN hk.1 (by omega) _ (Lib.hid rfl) _ (Lib.hid rfl)⟩
set_option maxRecDepth 100000 in
set_option maxHeartbeats 6400000 in
theorem lawSmoothMean_in (W : World) (x0 : Option Addr) (n0 c0 : Nat) (X0 : Nat → Nat) (hX0 : Rd W x0 n0 X0) (a1 : Int) (_wf1 : (Lit.int .i64 a1).wf = true) (h0 : n0 ≤ 1048576) (R0 : Nat → Nat) (m0 : Nat) (r1 : Bool) (HS : Hid (∀ (x0 : Option Addr) (c0 : Nat) (w : World), Rd w x0 n0 X0 → n0 ≤ c0 → Calls Try.prog 23 #[.slice x0 n0 c0, .int .i64 a1] w (RetSmoothMean R0 m0 r1 w))) (HI : Hid (∀ (x0 : Option Addr) (c0 : Nat) (w : World), Rd w x0 n0 X0 → n0 ≤ c0 → Calls Try.prog 24 #[.slice x0 n0 c0, .int .i64 a1] w (RetSmoothMean R0 m0 r1 w))) :
    Calls Try.prog 5 #[.slice x0 n0 c0, .int .i64 a1] W fun e w' => e = .returned (.bool true) ∧ Below W.heap.size W w' := by
  have hcv := fun (R : Nat) (s t : Nat) => show canon .f64 (pick .f64 (fconv .f32 (pick .f32 R s) .f64) t) = canon .f64 (fconv .f32 R .f64) by rw [canon_pick, fconv_pick]
  have hcw := fun (R : Nat) (s t : Nat) => show canon .f64 (pick .f64 R s) = canon .f64 (pick .f64 R t) by rw [canon_pick, canon_pick]
  have HCV := Lib.hid hcv
  have HCW := Lib.hid hcw
  clear hcv hcw
  have hnb1 : (r1 != r1) = false := by simp
  have HB := Blw.refl W
  go_enter Try.func5, Try.ntmps5
  go_wp2_with fail
  refine (toF_any _ _ _ X0 _ (by exact hX0.below (Blw.out (by exact HB))) h0).mono ?_
  rintro e0 w0 ⟨rfl, O0, B0⟩
  replace HB := Blw.next (by exact HB) B0
  have C0 := O0
  clear O0 B0
  go_wp2_with fail
  refine (HS.out _ _ _ (rd_own (by exact C0)) (Nat.le_refl _)).mono ?_
  rintro e0 w1 ⟨vw0, Yw0, rfl, Ow0, Lw0, mw0, B0⟩
  clear C0
  replace HB := Blw.next (by exact HB) B0
  clear B0
  have Z0 := hX0.below HB.out
  obtain ⟨xw0, cw0, rfl, _, _, Rw0⟩ := rd_of_own Ow0
  clear Ow0
  have HL := Blw.refl w1
  have E0 := (Blw.out (by exact HL)).size
  go_wp2_with fail
  refine (toF_any _ _ _ X0 _ (by exact Z0.below (Blw.out (by exact HL))) h0).mono ?_
  rintro e0 w0 ⟨rfl, O0, B0⟩
  replace HL := Blw.next (by exact HL) B0
  have D0 := O0
  clear O0 B0
  have Qg0 := own_lt (by exact D0)
  have Eg := (Blw.out (by exact HL)).size
  go_wp2_with fail
  refine (HI.out _ _ _ (rd_own (by exact D0)) (Nat.le_refl _)).mono ?_
  rintro e0 w2 ⟨vg0, Yg0, rfl, Og0, Lg0, mg0, B0⟩
  replace D0 := own_below (by exact D0) B0
  replace HL := Blw.next (by exact HL) B0
  clear B0
  have O_0 := Og0
  obtain ⟨xg0, cg0, rfl, _, _, Rg0⟩ := rd_of_own O_0
  clear O_0
  go_wp2_with fail
  refine (eqF_any _ _ _ _ _ Yg0 Yw0 _ (by exact Rg0) (by exact Rw0.below (Blw.out (by exact HL))) mw0 (fun i hi => (Lg0 i hi).trans (Lw0 i hi).symm)).mono ?_
  rintro e0 w0 ⟨rfl, q, rfl⟩
  go_wp2_with fail
  refine (toF_any _ _ _ X0 _ (by exact Z0.below (Blw.out (by exact HL))) h0).mono ?_
  rintro e0 w0 ⟨rfl, O0, B0⟩
  replace D0 := own_below (by exact D0) B0
  replace Og0 := own_below (by exact Og0) B0
  replace HL := Blw.next (by exact HL) B0
  have K0 := O0
  clear O0 B0
  go_wp2_with fail
  refine (eqF_any _ _ _ _ _ X0 X0 _ (by exact rd_own (by exact D0)) (by exact rd_own (by exact K0)) h0 (fun _ _ => rfl)).mono ?_
  rintro e0 w0 ⟨rfl, q, rfl⟩
  clear K0
  go_wp2_with fail
  refine (markX_any _ _ n0 _ X0 _ _ (by exact D0) h0 (by omega) (by omega)).mono ?_
  rintro e0 w0 ⟨rfl, N0⟩
  replace Og0 := own_only (by exact Og0) (by exact Qg0) N0
  replace HL := Blw.only (by exact HL) E0 N0
  clear N0 D0
  have hk1 : (0 : Int) ≤ 1 + (n0 : Int) := by omega
  replace Rg0 := rd_own' (by exact Og0)
  go_wp2_with fail
  refine (eqF_any _ _ _ _ _ Yg0 Yw0 _ (by exact Rg0) (by exact Rw0.below (Blw.out (by exact HL))) mw0 (fun i hi => (Lg0 i hi).trans (Lw0 i hi).symm)).mono ?_
  rintro e0 w0 ⟨rfl, q, rfl⟩
  clear Rg0
  go_wp2_with fail
  refine (markF_any _ _ m0 Yg0 _ _ (by exact Og0) mg0 (by omega) (by omega)).mono ?_
  rintro e0 w0 ⟨rfl, Ok0, B0⟩
  replace HL := Blw.nextB (by exact HL) (B0.mono Eg)
  clear B0 Og0
  have hm1 : (0 : Int) ≤ 1 + (m0 : Int) := by omega
  go_wp2_with fail
  refine (heldF_any _ _ m0 _ _ (by exact Ok0) mg0 (by omega) (by omega)).mono ?_
  rintro e0 w0 ⟨rfl, rfl⟩
  go_wp2_with fail
  refine (toF_any _ _ _ X0 _ (by exact Z0.below (Blw.out (by exact HL))) h0).mono ?_
  rintro e0 w0 ⟨rfl, O0, B0⟩
  replace Ok0 := own_below (by exact Ok0) B0
  replace HL := Blw.next (by exact HL) B0
  have C0 := O0
  clear O0 B0
  go_wp2_with fail
  refine (HI.out _ _ _ (rd_own (by exact C0)) (Nat.le_refl _)).mono ?_
  rintro e0 w3 ⟨vh0, Yh0, rfl, Oh0, Lh0, mh0, B0⟩
  replace Ok0 := own_below (by exact Ok0) B0
  clear C0
  replace HL := Blw.next (by exact HL) B0
  clear B0
  obtain ⟨xh0, ch0, rfl, _, _, Rh0⟩ := rd_of_own Oh0
  clear Oh0
  go_wp2_with fail
  refine (eqF_any _ _ _ _ _ Yh0 Yw0 _ (by exact Rh0) (by exact Rw0.below (Blw.out (by exact HL))) mw0 (fun i hi => (Lh0 i hi).trans (Lw0 i hi).symm)).mono ?_
  rintro e0 w0 ⟨rfl, q, rfl⟩
  clear Rh0
  go_wp2_with fail
  refine (heldF_any _ _ m0 _ _ (by exact Ok0) mg0 (by omega) (by omega)).mono ?_
  rintro e0 w0 ⟨rfl, rfl⟩
  go_wp2
  go_ret
  exact ⟨rfl, (Blw.out (by exact HB)).trans ((Blw.out (by exact HL)).mono (Blw.out (by exact HB)).size)⟩
set_option maxRecDepth 100000 in
set_option maxHeartbeats 1600000 in
theorem lawSmoothMean_any (W : World) (x0 : Option Addr) (n0 c0 : Nat) (X0 : Nat → Nat) (hX0 : Rd W x0 n0 X0) (a1 : Int) (_wf1 : (Lit.int .i64 a1).wf = true) :
    Calls Try.prog 5 #[.slice x0 n0 c0, .int .i64 a1] W fun e w' => e = .returned (.bool true) ∧ Below W.heap.size W w' := by
  by_cases h0 : n0 ≤ 1048576
  · skip
    obtain ⟨R0, m0, r1, hs, hi⟩ := bothSmoothMean n0 X0 h0 a1 _wf1
    exact lawSmoothMean_in W x0 n0 c0 X0 hX0 a1 _wf1 h0 R0 m0 r1 (Lib.hid hs) (Lib.hid hi)
  · have h' : (1048576 : Int) < (n0 : Int) := by omega
    go_enter Try.func5, Try.ntmps5
    go_wp2
    go_ret
    exact ⟨rfl, (Blw.refl W).out⟩
set_option maxRecDepth 100000 in
theorem FnExactSmoothMean_lifted (os : Os) (started : os.Started) (H : Type) (enc : TypeId × Value → H) :
    ReturnsInHanded {} Try.checked os 5 .any (Rows.fnExactSmoothMeanSpec.pre6 enc Try.prog Try.f5 Rows.fnExactSmoothMeanRow.domain false) (Rows.fnExactSmoothMeanSpec.post enc Try.prog Try.f5 false true false false) := by
  refine returnsInHanded_of_change (C := Try.checked) ownKnob_none started (by kernel_rfl) Try.func5
    (ChangeSpec.witness6 (enc := enc) (C := Try.checked) false ⟨#[], #[.slice none 0 0, .int .i64 0], []⟩ 8 (by kernel_rfl) (by kernel_rfl) (by kernel_rfl) (by kernel_rfl)) ?_
  intro W base args ds gs before hval0 hW _ _
  have hval : ∀ (j : Nat) t v, Try.f5.params[j]? = some t → args[j]? = some v → Value.okWide Try.prog W .any base t v := hval0
  have hW' := hW
  obtain ⟨p, q, hA0, hV, rfl, _, _⟩ := hW
  have hA : DataW.TrodAll enc Try.prog W 0 (fun _ => true) true Try.f5.params.toList args.toList ds p := hA0
  rw [Try.params5] at hA hval
  obtain ⟨v0, v1, d0, d1, p0, p1, rfl, rfl, rfl, h0, h1⟩ := trodAll_two hA
  obtain ⟨rfl, rfl⟩ := trodVars_none hV
  obtain ⟨x0, n0, c0, rfl⟩ := okWide_slice Try.underlying22 (hval 0 22 v0 rfl rfl)
  have k0 := h0
  obtain ⟨_, _, a0, w0, _⟩ := open_f32s Try.underlying22 Try.underlying31 cellsF h0
  have b0 : ∀ x ∈ p0, x.block < W.heap.size := fun x hx => by have := hW'.lt x (by simp [hx]); simpa using this
  obtain ⟨a1, rfl, rfl, rfl, w1⟩ := open_int Try.underlying2 (hval 1 2 v1 rfl rfl) h1
  clear hA0 hval0
  refine (lawSmoothMean_any W x0 n0 c0 a0 w0 a1 w1).mono fun e W' ⟨he, hb⟩ => ?_
  subst he
  have hA2 := trodAll_mk2 (enc := enc) (w := W') (base := 0) (spare := fun b => decide (b < W.heap.size)) (held := true) (Below.trod laidOut (by kernel_rfl) (of_decide_eq_true (by kernel_rfl)) k0 hb b0) (shut_int Try.underlying2 w1)
  exact ⟨_, rfl, _, _, _, [], _, [], hW', trodAll_cons_mk (shut_bool Try.underlying4 _) trodAll_mk0, hA2, rfl, hb.frame _, fun h => by cases h⟩
theorem FnExactSmoothMean_holds : Rows.FnExactSmoothMeanSaid :=
  OpenClaim.holds_of_wide 5 Try.f5 rfl rfl rfl rfl rfl rfl rfl ⟨rfl, rfl, rfl, rfl, rfl⟩ rfl rfl rfl rfl rfl (by kernel_rfl) Try.func5 (by kernel_rfl)
    (of_decide_eq_true (by kernel_rfl)) (by unfold Func.isWrapper; first | (rw [if_pos (by decide +kernel)]; kernel_rfl) | (rw [if_neg (by decide +kernel)]; exact ⟨rfl, rfl⟩))
    (fun os started H enc _ => FnExactSmoothMean_lifted os started H enc)
end Go.Proofs.Ytehlflldnihamaa
