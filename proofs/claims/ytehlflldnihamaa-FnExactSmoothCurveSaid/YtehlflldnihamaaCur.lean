/- Of any list the program tells the list smoothed by curves just where the model does, and the same; the list is not changed: for all arguments. -/
import Derived.Test.YtehlflldnihamaaSame
import Derived.Test.YtehlflldnihamaaGiv
import Derived.Test.YtehlflldnihamaaAlk
import Derived.Test.YtehlflldnihamaaClo
import Derived.Test.YtehlflldnihamaaRo
import Derived.Test.YtehlflldnihamaaLiC
import Derived.Test.YtehlflldnihamaaLaw
import Derived.Test.YtehlflldnihamaaGeA
import Derived.Deep.QuietTactic
import Derived.BigQuiet
import Derived.StillTailTactics
namespace Go.Proofs.Ytehlflldnihamaa
open Go Go.ChangeShapes Go.WideShapes Go.ChangeAt Go.RowKit

def wts (j : Nat) : Nat := if j = 0 then 3225419776 else if j = 1 then 1094713344 else if j = 2 then 1099431936 else if j = 3 then 1094713344 else 3225419776
theorem wts_fin (j : Nat) : isFin .f32 (wts j) = true := by
  unfold wts
  split
  · decide +kernel
  · split
    · decide +kernel
    · split
      · decide +kernel
      · split <;> decide +kernel
def subX7 (X : Nat → Nat) (f i : Nat) : Nat := X (f + i)
theorem rd_sub7 {w : World} {xb xo n f l : Nat} {X : Nat → Nat} (hc : ∀ i, i < n → w.cell? ⟨xb, xo + i, none⟩ = some (.float .f32 (X i))) (h : f + l ≤ n) : Rd w (some ⟨xb, xo + f, none⟩) l (subX7 X f) :=
  ⟨xb, xo + f, fun _ => rfl, fun i hi => by rw [Nat.add_assoc]; exact hc (f + i) (by omega)⟩
def curR (X : Nat → Nat) (n i : Nat) : Nat := if i < 2 ∨ n ≤ i + 2 then X i else fbin .quo .f32 (dotW wts (fun j => X (i - 2 + j)) 5) 1108082688
theorem rd_wts (w : World) (t : TypeId) : Rd (w.alloc (.cells #[.float .f32 3225419776, .float .f32 1094713344, .float .f32 1099431936, .float .f32 1094713344, .float .f32 3225419776] t)) (some ⟨w.heap.size, 0, none⟩) 5 wts := by
  refine ⟨w.heap.size, 0, fun _ => rfl, fun i hi => ?_⟩
  match i, hi with
  | 0, _ => simp [wts]
  | 1, _ => simp [wts]
  | 2, _ => simp [wts]
  | 3, _ => simp [wts]
  | 4, _ => simp [wts]
set_option maxRecDepth 100000 in
set_option maxHeartbeats 6400000 in
theorem specCur_any (xa : Option Addr) (n cx : Nat) (X : Nat → Nat) (w : World) (hX : Rd w xa n X) (hn : n ≤ 1048576) (ok : Bool) (ho : Hid (ok = (okLst X n && finL (curR X n) n))) (m : Nat) (hm : Hid (m = if ok = true then n else 0)) :
    Calls Try.prog 25 #[.slice xa n cx] w (LstRet (curR X n) m ok w) := by
  obtain ⟨i0, hi, hz0, hz1, hz2⟩ := info_parts infoF
  have HNO := Lib.hid (fun (h : ok = false) w' (hb : Below w.heap.size w w') => show LstRet (curR X n) m ok w (.returned (.tuple #[.slice none 0 0, .bool false])) w' by
    rw [hm.out, h, if_neg (by simp)]; exact lstNo hb)
  cases hk : okLst X n
  · have HT := Lib.hid (fun w hX => specLst_any xa n cx X w hX hn false (Lib.hid hk.symm))
    have HN := Lib.hid (HNO.out (by rw [ho.out, hk]; rfl))
    clear hk
    go_enter Try.func25, Try.ntmps25
    go_wp2_with (go_at_call 48; refine (HT.out _ (by exact hX)).mono ?_; rintro e w' ⟨rfl, q, rfl⟩)
    go_ret2
    refine HN.out _ ?_
    (repeat (first | with_reducible exact Below.refl _ _ | with_reducible refine Below.drewN ?_ _ | with_reducible refine Below.setCell ?_ (by simp; try omega) _ | with_reducible refine Below.alloc ?_ (by simp; try omega) _))
  · have HT := Lib.hid (fun w hX => specLst_any xa n cx X w hX hn true (Lib.hid hk.symm))
    have h128 := okLst_at hk
    have HFX := Lib.hid (finL_at h128.1)
    have HO := Lib.hid (show ok = finL (curR X n) n by rw [ho.out, hk, Bool.true_and])
    have h1 := h128.2.1
    have h2 := h128.2.2
    have hX' := hX
    obtain ⟨xb, xo, hxa, hcx⟩ := hX'
    have e := hxa (by omega)
    subst e
    have HX := Lib.hid hcx
    clear hk hcx hxa h128
    go_enter Try.func25, Try.ntmps25
    go_wp2_with (go_at_call 48; refine (HT.out _ (by exact hX)).mono ?_; rintro e w' ⟨rfl, q, rfl⟩)
    obtain ⟨W1, hW1⟩ : ∃ W1, W1 = ((w.drewN q).alloc (.cells #[.float .f32 3225419776, .float .f32 1094713344, .float .f32 1099431936, .float .f32 1094713344, .float .f32 3225419776] 31)) := ⟨_, rfl⟩
    rw [← hW1]
    have hB1 : Below w.heap.size w W1 := by rw [hW1]; exact Below.alloc (Below.drewN (Below.refl _ _) _) (Nat.le_refl _) _
    have hs1 : W1.heap.size = w.heap.size + 1 := by rw [hW1]; simp
    have HWt := Lib.hid (show ∀ j, j < 5 → W1.cell? ⟨w.heap.size, j, none⟩ = some (.float .f32 (wts j)) from fun j hj => by
      have := rd_wts (w.drewN q) 31
      rw [← hW1] at this
      obtain ⟨b, o, e1, e2⟩ := this
      have e3 := e1 (by omega)
      cases e3
      have := e2 j hj
      rw [Nat.zero_add] at this
      exact this)
    have HXl := Lib.hid (show ∀ j, j < n → xb < w.heap.size from fun j hj => World.block_lt_of_cell? w _ (HX.out j hj))
    clear hW1
    go_loopw [5, 16] (fun v i wr => ∃ (c : Nat) (Z : Nat → Nat), c ≤ n ∧ i = .int .i64 (c : Int) ∧ wr.ownsRow W1.heap.size 31 1 v c (rowOf Z c) ∧ Like Z (curR X n) c ∧ Below W1.heap.size W1 wr) (fun _ i _ => n - (intOf i).toNat)
    case atStart => exact ⟨0, fun _ => 0, Nat.zero_le _, rfl, by rw [← hs1]; exact own_empty W1 _, fun _ h => absurd h (Nat.not_lt_zero _), Below.alloc (Below.refl _ _) (Nat.le_refl _) _⟩
    case round =>
      obtain ⟨c, Z, hc, rfl, hownk, hL, hBk⟩ := hrel
      have hsz := hBk.size
      have hBw : Below w.heap.size w wr := hB1.trans (hBk.mono hB1.size)
      by_cases hltc : c < n
      · have c0 := HX.out c hltc
        have c1 := (hBw.cell (p := ⟨xb, xo + c, none⟩) (World.block_lt_of_cell? w _ c0)).trans c0
        clear c0
        by_cases hcc : c < 2 ∨ n ≤ c + 2
        · have HU := Lib.hid (show curR X n c = X c by unfold curR; rw [if_pos hcc])
          by_cases h3 : c < 2
          · clear hcc
            go_wp2_with (at_builtin; refine wpL_push hi hz0 hz1 hz2 rfl rfl rfl rfl (by exact hownk) (by omega) (by exact hsz) ?_; intro v' w1 hown' hB')
            go_roundw
            case rel => exact ⟨c + 1, _, by omega, by go_num, hown', like_push (s := 0) hL (by rw [HU.out, pick_num (num_fin (HFX.out c hltc))]), hBk.trans hB'⟩
            case measure => simp [intOf]; omega
          · have h4 : (n : Int) ≤ (c : Int) + 2 := by omega
            have h5 : ¬ ((c : Int) < 2) := by omega
            clear hcc
            go_wp2_with (at_builtin; refine wpL_push hi hz0 hz1 hz2 rfl rfl rfl rfl (by exact hownk) (by omega) (by exact hsz) ?_; intro v' w1 hown' hB')
            go_roundw
            case rel => exact ⟨c + 1, _, by omega, by go_num, hown', like_push (s := 0) hL (by rw [HU.out, pick_num (num_fin (HFX.out c hltc))]), hBk.trans hB'⟩
            case measure => simp [intOf]; omega
        · obtain ⟨I, rfl⟩ : ∃ I, c = I + 2 := ⟨c - 2, by omega⟩
          obtain ⟨F, hF⟩ : ∃ F : Nat → Nat, F = fun j => X (I + j) := ⟨_, rfl⟩
          have HU := Lib.hid (show curR X n (I + 2) = fbin .quo .f32 (dotW wts F 5) 1108082688 by unfold curR; rw [if_neg hcc, Nat.add_sub_cancel, hF])
          have HF := Lib.hid hF
          have h4 : ¬ ((n : Int) ≤ ((I + 2 : Nat) : Int) + 2) := by omega
          have h5 : ¬ (((I + 2 : Nat) : Int) < 2) := by omega
          have h6 : I + 4 < n := by omega
          obtain ⟨wu, hwu⟩ : ∃ wu, wu = wr := ⟨_, rfl⟩
          subst hwu
          clear hF hcc c1
          go_wp2
          go_loopw [7, 37] (fun q i wr => ∃ (k mm s : Nat), k ≤ 5 ∧ i = .int .i64 (k : Int) ∧ q = .float .f32 (pick .f32 (dotW wts F k) s) ∧ wr = wu.drewN mm) (fun _ i _ => 5 - (intOf i).toNat)
          case atStart => exact ⟨0, 0, 0, by omega, rfl, by rw [show dotW wts F 0 = 0 from rfl, pick_zero], rfl⟩
          case round =>
            obtain ⟨k, mm, s, hk, rfl, rfl, hwr⟩ := hrel
            by_cases hk5 : k < 5
            · have HZ := Lib.hid hwr
              have c0 := HX.out (I + k) (by omega)
              have c1 : wr.cell? ⟨xb, xo + (I + k), none⟩ = some (.float .f32 (X (I + k))) := by
                rw [HZ.out]
                exact (hBw.cell (p := ⟨xb, xo + (I + k), none⟩) (World.block_lt_of_cell? w _ c0)).trans c0
              have c2 : wr.cell? ⟨w.heap.size, k, none⟩ = some (.float .f32 (wts k)) := by
                rw [HZ.out]
                exact (hBk.cell (p := ⟨w.heap.size, k, none⟩) (by show w.heap.size < _; omega)).trans (HWt.out k hk5)
              have hw1 : IntKind.i64.wrap (I : Int) = (I : Int) := by rw [IntKind.wrap_i64]; omega
              have hw2 : IntKind.i64.wrap ((I : Int) + (k : Int)) = (I : Int) + (k : Int) := by rw [IntKind.wrap_i64]; omega
              have hb4 : (I : Int) + (k : Int) < (n : Int) := by omega
              have hb5 : (0 : Int) ≤ (I : Int) + (k : Int) := by omega
              have hb6 : ((I : Int) + (k : Int)).toNat = I + k := by omega
              have hb1 : (k : Int) < 5 := by omega
              have hb2 : ((I + k : Nat) : Int) < (n : Int) := by omega
              have hb3 : I + k < n := by omega
              have hd := dotW_succ wts F k
              have hfk : F k = X (I + k) := by rw [HF.out]
              rw [hfk] at hd
              obtain ⟨P, hP⟩ : ∃ P, P = fbin .mul .f32 (wts k) (X (I + k)) := ⟨_, rfl⟩
              have nP : isNaN .f32 P = false := by rw [hP]; exact nan_mul (wts_fin k) (HFX.out _ hb3)
              have q1 := fun t => run_numop (op := .mul) rfl t _ _ _ hP.symm nP
              rw [← hP] at hd
              have hp := fbin_pick_l .add .f32
              obtain ⟨D, hD⟩ : ∃ D, D = dotW wts F k := ⟨_, rfl⟩
              rw [← hD] at hd
              have HD := Lib.hid hD
              have HE := Lib.hid hd
              rw [← HD.out]
              clear hD hd c0 hfk hP hwr
              go_wp2_with fail
              go_still_tail 13, (by kernel_rfl)
              change wpList _ _ _ _ _ wr.drew
              have hEw : wr.drew = wr.drewN 1 := rfl
              rw [hEw]
              clear hEw
              go_wp2_with ((with_reducible refine wpL_fbin ?_); refine ⟨_, _, _, rfl, rfl, rfl, fun s n => ?_⟩)
              go_roundw
              case rel => exact ⟨k + 1, _, _, by omega, by go_num, by rw [← HE.out], by rw [HZ.out, World.drewN_drewN]⟩
              case measure => simp [intOf]; omega
            · obtain rfl : k = 5 := by omega
              subst hwr
              have hp := fbin_pick_l .quo .f32
              obtain ⟨E, hE⟩ : ∃ E, E = dotW wts F 5 := ⟨_, rfl⟩
              obtain ⟨U, hU⟩ : ∃ U, fbin .quo .f32 E 1108082688 = U := ⟨_, rfl⟩
              have HV := Lib.hid (show curR X n (I + 2) = U by rw [HU.out, ← hE, hU])
              rw [← hE]
              clear hE
              go_wp2_with (first | ((with_reducible refine wpL_fbin ?_); refine ⟨_, _, _, rfl, rfl, rfl, fun s n => ?_⟩) | (at_builtin; refine wpL_push hi hz0 hz1 hz2 rfl rfl rfl rfl (by exact own_drew hownk _) (by omega) (by exact hsz) ?_; intro v' w1 hown' hB'))
              go_roundw
              case rel => exact ⟨I + 2 + 1, _, by omega, by go_num, hown', like_push hL (by rw [HV.out]), Below.trans (Below.drewN hBk _) hB'⟩
              case measure => simp [intOf]; omega
      · have hck : c = n := by omega
        subst hck
        have HF := Lib.hid (show LstRet (curR X c) (if finL (curR X c) c = true then c else 0) (finL (curR X c) c) w = LstRet (curR X c) m ok w by rw [hm.out, HO.out])
        go_wp2_with fail
        refine (l07Give_any _ _ c Z _ (by exact hownk) (by omega)).mono ?_
        rintro e w' ⟨rfl, q2, rfl⟩
        have HV := Lib.hid (lstGive hL (own_mono0 hownk hB1.size) (by omega) hBw)
        cases hfz : finL Z c
        · rw [hfz] at HV
          go_wp2
          go_ret2
          rw [← HF.out]
          obtain ⟨a, b, h3, h4, h5, h6, h7⟩ := HV.out
          exact ⟨a, b, h3, h4, h5, h6, Below.drewN h7 _⟩
        · rw [hfz] at HV
          go_wp2
          go_ret2
          rw [← HF.out]
          obtain ⟨a, b, h3, h4, h5, h6, h7⟩ := HV.out
          exact ⟨a, b, h3, h4, h5, h6, Below.drewN h7 _⟩
set_option maxRecDepth 100000 in
set_option maxHeartbeats 6400000 in
theorem implCur_any (xa : Option Addr) (n cx : Nat) (X : Nat → Nat) (w : World) (hX : Rd w xa n X) (hcx0 : n ≤ cx) (hn : n ≤ 1048576) (ok : Bool) (ho : Hid (ok = (okLst X n && finL (curR X n) n))) (m : Nat) (hm : Hid (m = if ok = true then n else 0)) :
    Calls Try.prog 26 #[.slice xa n cx] w (LstRet (curR X n) m ok w) := by
  have HNO := Lib.hid (fun (h : ok = false) w' (hb : Below w.heap.size w w') => show LstRet (curR X n) m ok w (.returned (.tuple #[.slice none 0 0, .bool false])) w' by
    rw [hm.out, h, if_neg (by simp)]; exact lstNo hb)
  cases hk : okLst X n
  · have HT := Lib.hid (fun w hX => implLst_any xa n cx X w hX hn false (Lib.hid hk.symm))
    have HN := Lib.hid (HNO.out (by rw [ho.out, hk]; rfl))
    clear hk
    go_enter Try.func26, Try.ntmps26
    go_wp2_with (go_at_call 50; refine (HT.out _ (by exact hX)).mono ?_; rintro e w' ⟨rfl, q, rfl⟩)
    go_ret2
    refine HN.out _ ?_
    (repeat (first | with_reducible exact Below.refl _ _ | with_reducible refine Below.drewN ?_ _ | with_reducible refine Below.setCell ?_ (by simp; try omega) _ | with_reducible refine Below.alloc ?_ (by simp; try omega) _))
  · have HT := Lib.hid (fun w hX => implLst_any xa n cx X w hX hn true (Lib.hid hk.symm))
    have h128 := okLst_at hk
    have HFX := Lib.hid (finL_at h128.1)
    have HO := Lib.hid (show ok = finL (curR X n) n by rw [ho.out, hk, Bool.true_and])
    have h1 := h128.2.1
    have h2 := h128.2.2
    have hX' := hX
    obtain ⟨xb, xo, hxa, hcx⟩ := hX'
    have e := hxa (by omega)
    subst e
    have HX := Lib.hid hcx
    clear hk hcx hxa h128
    go_enter Try.func26, Try.ntmps26
    go_wp2_with (go_at_call 50; refine (HT.out _ (by exact hX)).mono ?_; rintro e w' ⟨rfl, q, rfl⟩)
    obtain ⟨W1, hW1⟩ : ∃ W1, W1 = ((w.drewN q).alloc (.cells #[.float .f32 3225419776, .float .f32 1094713344, .float .f32 1099431936, .float .f32 1094713344, .float .f32 3225419776] 31)) := ⟨_, rfl⟩
    rw [← hW1]
    have hB1 : Below w.heap.size w W1 := by rw [hW1]; exact Below.alloc (Below.drewN (Below.refl _ _) _) (Nat.le_refl _) _
    have hs1 : W1.heap.size = w.heap.size + 1 := by rw [hW1]; simp
    have HWt := Lib.hid (show ∀ w', Below W1.heap.size W1 w' → Rd w' (some ⟨w.heap.size, 0, none⟩) 5 wts from fun w' hb => by
      have := rd_wts (w.drewN q) 31
      rw [← hW1] at this
      exact Rd.below this hb)
    clear hW1
    refine (clone_any _ _ _ X _ (by exact hX.below hB1) h1 hn).mono ?_
    rintro e w2 ⟨g, cp, rfl, hown, hB2⟩
    have hg := own_ge hown
    go_wp2
    go_loopw [6] (fun i wr => ∃ (I : Nat) (Z : Nat → Nat), (I = 0 ∨ I + 4 ≤ n) ∧ i = .int .i64 ((I : Int) + 2) ∧ wr.ownsRow W1.heap.size 31 1 (.slice (some ⟨g, 0, none⟩) n cp) n (rowOf Z n) ∧ LikeP Z (fun j => if j < I + 2 then curR X n j else X j) n ∧ Below W1.heap.size W1 wr) (fun i _ => n + 2 - (intOf i).toNat)
    case atStart =>
      refine ⟨0, X, .inl rfl, rfl, hown, fun j hj => ⟨0, ?_⟩, hB2⟩
      show X j = pick .f32 (if j < 0 + 2 then curR X n j else X j) 0
      have : (if j < 0 + 2 then curR X n j else X j) = X j := by
        split
        · unfold curR; rw [if_pos (.inl (by omega))]
        · rfl
      rw [this, pick_num (num_fin (HFX.out j hj))]
    case round =>
      obtain ⟨I, Z, hI, rfl, hownk, hL, hBk⟩ := hrel
      clear hown hB2
      have hsz := hBk.size
      have hBw : Below w.heap.size w wr := hB1.trans (hBk.mono hB1.size)
      by_cases hlt : I + 4 < n
      · have j1 : (I : Int) + 2 < (n : Int) - 2 := by omega
        have j2 : (I : Int) + 2 < (n : Int) := by omega
        have hc1 : I + 2 + 3 ≤ cx := by omega
        have hc2 : (I : Int) + 2 + 3 ≤ (cx : Int) := by omega
        have hw1 : IntKind.i64.wrap (I : Int) = (I : Int) := by rw [IntKind.wrap_i64]; omega
        have hU : curR X n (I + 2) = fbin .quo .f32 (dotW wts (subX7 X I) 5) 1108082688 := by
          unfold curR
          rw [if_neg (by omega), Nat.add_sub_cancel]
          rfl
        have hsub : Rd wr (some ⟨xb, xo + I, none⟩) 5 (subX7 X I) := Rd.below (rd_sub7 HX.out (by omega)) hBw
        have hwt := HWt.out wr hBk
        have st := fun q u => own_store hownk (k := I + 2) (by omega) q u
        have HOw := Lib.hid hownk
        have HL := Lib.hid hL
        have hp := fbin_pick_l .quo .f32
        obtain ⟨E, hE⟩ : ∃ E, E = dotW wts (subX7 X I) 5 := ⟨_, rfl⟩
        rw [← hE] at hU
        obtain ⟨U, hU2⟩ : ∃ U, fbin .quo .f32 E 1108082688 = U := ⟨_, rfl⟩
        rw [hU2] at hU
        have HU := Lib.hid hU
        have HE := Lib.hid hE
        clear hownk hL hU hE
        go_wp2_with fail
        rw [show I + 2 + 3 - I = 5 by omega]
        refine (DotNumbers_any _ _ 5 _ _ wts (subX7 X I) _ (by exact hwt) (by exact hsub) (by omega)).mono ?_
        rintro e w' ⟨s, q2, rfl, rfl⟩
        rw [← HE.out]
        go_wp2_with ((with_reducible refine wpL_fbin ?_); refine ⟨_, _, _, rfl, rfl, rfl, fun s n => ?_⟩)
        go_roundw
        case rel =>
          refine ⟨I + 1, _, by omega, by go_num, own_stored (own_drew HOw.out _) (I + 2) _, ?_, Below.setCell (Below.drewN hBk _) hg _⟩
          refine (HL.out.set (k := I + 2) rfl).congr fun j hj => ?_
          by_cases e : j = I + 2
          · rw [if_pos e, if_pos (by omega), e, HU.out]
          · rw [if_neg e]
            by_cases h : j < I + 2
            · rw [if_pos h, if_pos (by omega)]
            · rw [if_neg h, if_neg (by omega)]
        case measure => simp [intOf]; omega
      · have j1 : ¬ ((I : Int) + 2 < (n : Int) - 2) := by omega
        have HF := Lib.hid (show LstRet (curR X n) (if finL (curR X n) n = true then n else 0) (finL (curR X n) n) w = LstRet (curR X n) m ok w by rw [hm.out, HO.out])
        have hL2 : LikeP Z (curR X n) n := hL.congr fun j hj => by
          by_cases h : j < I + 2
          · rw [if_pos h]
          · rw [if_neg h]
            unfold curR
            rw [if_pos (by omega)]
        clear hL
        go_wp2_with fail
        refine (onlyFinite_any _ _ n Z _ (by exact hownk) hn).mono ?_
        rintro e w' ⟨rfl, q2, rfl⟩
        have HV := Lib.hid (lstGive hL2.like (own_mono0 hownk hB1.size) hn hBw)
        cases hfz : finL Z n
        · rw [hfz] at HV
          go_wp2
          go_ret2
          rw [← HF.out]
          obtain ⟨a, b, h3, h4, h5, h6, h7⟩ := HV.out
          exact ⟨a, b, h3, h4, h5, h6, Below.drewN h7 _⟩
        · rw [hfz] at HV
          go_wp2
          go_ret2
          rw [← HF.out]
          obtain ⟨a, b, h3, h4, h5, h6, h7⟩ := HV.out
          exact ⟨a, b, h3, h4, h5, h6, Below.drewN h7 _⟩
/-- What is told of SmoothCurve. -/
def RetSmoothCurve (R0 : Nat → Nat) (m0 : Nat) (r1 : Bool) (w : World) (e : Ending) (w' : World) : Prop := ∃ (v0 : Value) (Y0 : Nat → Nat), e = .returned (.tuple #[v0, .bool r1]) ∧ w'.ownsRow w.heap.size 31 1 v0 m0 (rowOf Y0 m0) ∧ Like Y0 R0 m0 ∧ m0 ≤ 1048576 ∧ Below w.heap.size w w'
theorem bothSmoothCurve (N : Nat) (X : Nat → Nat) (hN : N ≤ 1048576) :
    ∃ (R : Nat → Nat) (m : Nat) (ok : Bool), (∀ (xa : Option Addr) (c : Nat) (w : World), Rd w xa N X → N ≤ c → Calls Try.prog 25 #[.slice xa N c] w (RetSmoothCurve R m ok w)) ∧
      ∀ (xa : Option Addr) (c : Nat) (w : World), Rd w xa N X → N ≤ c → Calls Try.prog 26 #[.slice xa N c] w (RetSmoothCurve R m ok w) :=
  ⟨_, _, _, fun xa c w hX _ => specCur_any xa N c X w hX hN _ (Lib.hid rfl) _ (Lib.hid rfl), fun xa c w hX hc => implCur_any xa N c X w hX hc hN _ (Lib.hid rfl) _ (Lib.hid rfl)⟩
set_option maxRecDepth 100000 in
set_option maxHeartbeats 6400000 in
theorem lawSmoothCurve_in (W : World) (x0 : Option Addr) (n0 c0 : Nat) (X0 : Nat → Nat) (hX0 : Rd W x0 n0 X0) (h0 : n0 ≤ 1048576) (R0 : Nat → Nat) (m0 : Nat) (r1 : Bool) (HS : Hid (∀ (x0 : Option Addr) (c0 : Nat) (w : World), Rd w x0 n0 X0 → n0 ≤ c0 → Calls Try.prog 25 #[.slice x0 n0 c0] w (RetSmoothCurve R0 m0 r1 w))) (HI : Hid (∀ (x0 : Option Addr) (c0 : Nat) (w : World), Rd w x0 n0 X0 → n0 ≤ c0 → Calls Try.prog 26 #[.slice x0 n0 c0] w (RetSmoothCurve R0 m0 r1 w))) :
    Calls Try.prog 6 #[.slice x0 n0 c0] W fun e w' => e = .returned (.bool true) ∧ Below W.heap.size W w' := by
  have hcv := fun (R : Nat) (s t : Nat) => show canon .f64 (pick .f64 (fconv .f32 (pick .f32 R s) .f64) t) = canon .f64 (fconv .f32 R .f64) by rw [canon_pick, fconv_pick]
  have hcw := fun (R : Nat) (s t : Nat) => show canon .f64 (pick .f64 R s) = canon .f64 (pick .f64 R t) by rw [canon_pick, canon_pick]
  have HCV := Lib.hid hcv
  have HCW := Lib.hid hcw
  clear hcv hcw
  have hnb1 : (r1 != r1) = false := by simp
  have HB := Blw.refl W
  go_enter Try.func6, Try.ntmps6
  go_wp2_with fail
  refine (toF_any _ _ _ X0 _ (by exact hX0.below (Blw.out (by exact HB))) h0).mono ?_
  rintro e0 w0 ⟨rfl, O0, B0⟩
  replace HB := Blw.next (by exact HB) B0
  have C0 := O0
  clear O0 B0
  go_wp2_with fail
  refine (HS.out _ _ _ (rd_own (by exact C0)) (Nat.le_refl _)).mono ?_
  rintro e0 w1 ⟨vw0, Yw0, rfl, Ow0, Lw0, mw0, B0⟩
  clear C0
  replace HB := Blw.next (by exact HB) B0
  clear B0
  have Z0 := hX0.below HB.out
  obtain ⟨xw0, cw0, rfl, _, _, Rw0⟩ := rd_of_own Ow0
  clear Ow0
  have HL := Blw.refl w1
  have E0 := (Blw.out (by exact HL)).size
  go_wp2_with fail
  refine (toF_any _ _ _ X0 _ (by exact Z0.below (Blw.out (by exact HL))) h0).mono ?_
  rintro e0 w0 ⟨rfl, O0, B0⟩
  replace HL := Blw.next (by exact HL) B0
  have D0 := O0
  clear O0 B0
  have Qg0 := own_lt (by exact D0)
  have Eg := (Blw.out (by exact HL)).size
  go_wp2_with fail
  refine (HI.out _ _ _ (rd_own (by exact D0)) (Nat.le_refl _)).mono ?_
  rintro e0 w2 ⟨vg0, Yg0, rfl, Og0, Lg0, mg0, B0⟩
  replace D0 := own_below (by exact D0) B0
  replace HL := Blw.next (by exact HL) B0
  clear B0
  have O_0 := Og0
  obtain ⟨xg0, cg0, rfl, _, _, Rg0⟩ := rd_of_own O_0
  clear O_0
  go_wp2_with fail
  refine (eqF_any _ _ _ _ _ Yg0 Yw0 _ (by exact Rg0) (by exact Rw0.below (Blw.out (by exact HL))) mw0 (fun i hi => (Lg0 i hi).trans (Lw0 i hi).symm)).mono ?_
  rintro e0 w0 ⟨rfl, q, rfl⟩
  go_wp2_with fail
  refine (toF_any _ _ _ X0 _ (by exact Z0.below (Blw.out (by exact HL))) h0).mono ?_
  rintro e0 w0 ⟨rfl, O0, B0⟩
  replace D0 := own_below (by exact D0) B0
  replace Og0 := own_below (by exact Og0) B0
  replace HL := Blw.next (by exact HL) B0
  have K0 := O0
  clear O0 B0
  go_wp2_with fail
  refine (eqF_any _ _ _ _ _ X0 X0 _ (by exact rd_own (by exact D0)) (by exact rd_own (by exact K0)) h0 (fun _ _ => rfl)).mono ?_
  rintro e0 w0 ⟨rfl, q, rfl⟩
  clear K0
  go_wp2_with fail
  refine (markX_any _ _ n0 _ X0 _ _ (by exact D0) h0 (by omega) (by omega)).mono ?_
  rintro e0 w0 ⟨rfl, N0⟩
  replace Og0 := own_only (by exact Og0) (by exact Qg0) N0
  replace HL := Blw.only (by exact HL) E0 N0
  clear N0 D0
  have hk1 : (0 : Int) ≤ 1 + (n0 : Int) := by omega
  replace Rg0 := rd_own' (by exact Og0)
  go_wp2_with fail
  refine (eqF_any _ _ _ _ _ Yg0 Yw0 _ (by exact Rg0) (by exact Rw0.below (Blw.out (by exact HL))) mw0 (fun i hi => (Lg0 i hi).trans (Lw0 i hi).symm)).mono ?_
  rintro e0 w0 ⟨rfl, q, rfl⟩
  clear Rg0
  go_wp2_with fail
  refine (markF_any _ _ m0 Yg0 _ _ (by exact Og0) mg0 (by omega) (by omega)).mono ?_
  rintro e0 w0 ⟨rfl, Ok0, B0⟩
  replace HL := Blw.nextB (by exact HL) (B0.mono Eg)
  clear B0 Og0
  have hm1 : (0 : Int) ≤ 1 + (m0 : Int) := by omega
  go_wp2_with fail
  refine (heldF_any _ _ m0 _ _ (by exact Ok0) mg0 (by omega) (by omega)).mono ?_
  rintro e0 w0 ⟨rfl, rfl⟩
  go_wp2_with fail
  refine (toF_any _ _ _ X0 _ (by exact Z0.below (Blw.out (by exact HL))) h0).mono ?_
  rintro e0 w0 ⟨rfl, O0, B0⟩
  replace Ok0 := own_below (by exact Ok0) B0
  replace HL := Blw.next (by exact HL) B0
  have C0 := O0
  clear O0 B0
  go_wp2_with fail
  refine (HI.out _ _ _ (rd_own (by exact C0)) (Nat.le_refl _)).mono ?_
  rintro e0 w3 ⟨vh0, Yh0, rfl, Oh0, Lh0, mh0, B0⟩
  replace Ok0 := own_below (by exact Ok0) B0
  clear C0
  replace HL := Blw.next (by exact HL) B0
  clear B0
  obtain ⟨xh0, ch0, rfl, _, _, Rh0⟩ := rd_of_own Oh0
  clear Oh0
  go_wp2_with fail
  refine (eqF_any _ _ _ _ _ Yh0 Yw0 _ (by exact Rh0) (by exact Rw0.below (Blw.out (by exact HL))) mw0 (fun i hi => (Lh0 i hi).trans (Lw0 i hi).symm)).mono ?_
  rintro e0 w0 ⟨rfl, q, rfl⟩
  clear Rh0
  go_wp2_with fail
  refine (heldF_any _ _ m0 _ _ (by exact Ok0) mg0 (by omega) (by omega)).mono ?_
  rintro e0 w0 ⟨rfl, rfl⟩
  go_wp2
  go_ret
  exact ⟨rfl, (Blw.out (by exact HB)).trans ((Blw.out (by exact HL)).mono (Blw.out (by exact HB)).size)⟩
set_option maxRecDepth 100000 in
set_option maxHeartbeats 1600000 in
theorem lawSmoothCurve_any (W : World) (x0 : Option Addr) (n0 c0 : Nat) (X0 : Nat → Nat) (hX0 : Rd W x0 n0 X0) :
    Calls Try.prog 6 #[.slice x0 n0 c0] W fun e w' => e = .returned (.bool true) ∧ Below W.heap.size W w' := by
  by_cases h0 : n0 ≤ 1048576
  · skip
    obtain ⟨R0, m0, r1, hs, hi⟩ := bothSmoothCurve n0 X0 h0
    exact lawSmoothCurve_in W x0 n0 c0 X0 hX0 h0 R0 m0 r1 (Lib.hid hs) (Lib.hid hi)
  · have h' : (1048576 : Int) < (n0 : Int) := by omega
    go_enter Try.func6, Try.ntmps6
    go_wp2
    go_ret
    exact ⟨rfl, (Blw.refl W).out⟩
set_option maxRecDepth 100000 in
theorem FnExactSmoothCurve_lifted (os : Os) (started : os.Started) (H : Type) (enc : TypeId × Value → H) :
    ReturnsInHanded {} Try.checked os 6 .any (Rows.fnExactSmoothCurveSpec.pre6 enc Try.prog Try.f6 Rows.fnExactSmoothCurveRow.domain false) (Rows.fnExactSmoothCurveSpec.post enc Try.prog Try.f6 false true false false) := by
  refine returnsInHanded_of_change (C := Try.checked) ownKnob_none started (by kernel_rfl) Try.func6
    (ChangeSpec.witness6 (enc := enc) (C := Try.checked) false ⟨#[], #[.slice none 0 0], []⟩ 8 (by kernel_rfl) (by kernel_rfl) (by kernel_rfl) (by kernel_rfl)) ?_
  intro W base args ds gs before hval0 hW _ _
  have hval : ∀ (j : Nat) t v, Try.f6.params[j]? = some t → args[j]? = some v → Value.okWide Try.prog W .any base t v := hval0
  have hW' := hW
  obtain ⟨p, q, hA0, hV, rfl, _, _⟩ := hW
  have hA : DataW.TrodAll enc Try.prog W 0 (fun _ => true) true Try.f6.params.toList args.toList ds p := hA0
  rw [Try.params6] at hA hval
  obtain ⟨v0, vs0, d0, ds0, p0, q0, hargs, rfl, rfl, h0, r0⟩ := trodAll_cons hA
  obtain ⟨rfl, rfl, rfl⟩ := trodAll_nil r0
  obtain rfl : args = #[v0] := by cases args; simp_all
  obtain ⟨rfl, rfl⟩ := trodVars_none hV
  obtain ⟨x0, n0, c0, rfl⟩ := okWide_slice Try.underlying22 (hval 0 22 v0 rfl rfl)
  have k0 := h0
  obtain ⟨_, _, a0, w0, _⟩ := open_f32s Try.underlying22 Try.underlying31 cellsF h0
  have b0 : ∀ x ∈ p0, x.block < W.heap.size := fun x hx => by have := hW'.lt x (by simp [hx]); simpa using this
  clear hA0 hval0
  refine (lawSmoothCurve_any W x0 n0 c0 a0 w0).mono fun e W' ⟨he, hb⟩ => ?_
  subst he
  have hA2 := trodAll_cons_mk (enc := enc) (w := W') (base := 0) (spare := fun b => decide (b < W.heap.size)) (held := true) (Below.trod laidOut (by kernel_rfl) (of_decide_eq_true (by kernel_rfl)) k0 hb b0) trodAll_mk0
  exact ⟨_, rfl, _, _, _, [], _, [], hW', trodAll_cons_mk (shut_bool Try.underlying4 _) trodAll_mk0, hA2, rfl, hb.frame _, fun h => by cases h⟩
theorem FnExactSmoothCurve_holds : Rows.FnExactSmoothCurveSaid :=
  OpenClaim.holds_of_wide 6 Try.f6 rfl rfl rfl rfl rfl rfl rfl ⟨rfl, rfl, rfl, rfl, rfl⟩ rfl rfl rfl rfl rfl (by kernel_rfl) Try.func6 (by kernel_rfl)
    (of_decide_eq_true (by kernel_rfl)) (by unfold Func.isWrapper; first | (rw [if_pos (by decide +kernel)]; kernel_rfl) | (rw [if_neg (by decide +kernel)]; exact ⟨rfl, rfl⟩))
    (fun os started H enc _ => FnExactSmoothCurve_lifted os started H enc)
end Go.Proofs.Ytehlflldnihamaa
