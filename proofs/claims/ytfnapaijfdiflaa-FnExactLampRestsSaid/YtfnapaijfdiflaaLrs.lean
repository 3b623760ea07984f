/- Of any curve and lamps the program tells what the curve leaves just where the model does, and the same; the lists are not changed: for all arguments. -/
import Derived.Test.YtfnapaijfdiflaaWai
import Derived.Test.YtfnapaijfdiflaaSame
import Derived.Test.YtfnapaijfdiflaaPrs
import Derived.Test.YtfnapaijfdiflaaDt6
import Derived.Test.YtfnapaijfdiflaaRootC
import Derived.Test.YtfnapaijfdiflaaPuR
import Derived.Test.YtfnapaijfdiflaaRo
import Derived.Test.YtfnapaijfdiflaaLiC
import Derived.Test.YtfnapaijfdiflaaFlG
import Derived.Test.YtfnapaijfdiflaaLaw
import Derived.BigQuiet
import Derived.OwnWalk
namespace Go.Proofs.Ytfnapaijfdiflaa
open Go Go.ChangeShapes Go.WideShapes Go.ChangeAt Go.RowKit

/-- What is told of LampRests. -/
def RetLampRests (R0 : Nat → Nat) (m0 : Nat) (r1 : Nat) (r2 : Bool) (w : World) (e : Ending) (w' : World) : Prop := ∃ (v0 : Value) (Y0 : Nat → Nat) (s1 : Nat), e = .returned (.tuple #[v0, .float .f32 (pick .f32 r1 s1), .bool r2]) ∧ w'.ownsRow w.heap.size 22 1 v0 m0 (rowOf Y0 m0) ∧ Like Y0 R0 m0 ∧ m0 ≤ 1048576 ∧ Below w.heap.size w w'
def lrR (C : Nat → Nat) (n : Nat) (P V : Nat → Nat) (j : Nat) : Nat := fbin .sub .f32 (V j) (atW C n (P j) n)
def lrT (R : Nat → Nat) (m : Nat) : Nat := rootT (fbin .quo .f32 (dotW R R m) (floatOfInt .f32 m))
theorem few_fin {m : Nat} (h : m ≤ 16) : isFin .f32 (floatOfInt .f32 (m : Int)) = true := by
  have H : ∀ j : Fin 17, isFin .f32 (floatOfInt .f32 (j.val : Int)) = true := by decide +kernel
  exact H ⟨m, by omega⟩
/-- A rest that is no number leaves no root. -/
theorem lr_nf {R : Nat → Nat} {m : Nat} (hm : m ≤ 16) (h : finL R m = false) : isFin .f32 (lrT R m) = false := by
  unfold finL at h
  rw [List.all_eq_false] at h
  obtain ⟨j, hj, hx⟩ := h
  exact nf_root (nf_quo_l (nf_dot (by simpa using hx) m (List.mem_range.1 hj)) (few_fin hm))
theorem dotW_like {Z R : Nat → Nat} {m : Nat} (h : Like Z R m) : ∀ k, k ≤ m → dotW Z Z k = dotW R R k := by
  intro k
  induction k with
  | zero => intro _; rfl
  | succ k ih =>
    intro hk
    show fbin .add .f32 (dotW Z Z k) (fbin .mul .f32 (Z k) (Z k)) = fbin .add .f32 (dotW R R k) (fbin .mul .f32 (R k) (R k))
    rw [ih (by omega), fbin_congr (h k (by omega)) (h k (by omega))]
theorem lrsNo {R : Nat → Nat} {w w' : World} (hb : Below w.heap.size w w') : RetLampRests R 0 0 false w (.returned (.tuple #[.slice none 0 0, .float .f32 0, .bool false])) w' :=
  ⟨_, fun _ => 0, 0, by rw [pick_zero], World.ownsRow_nil _ _ _ _, fun _ h => absurd h (Nat.not_lt_zero _), Nat.zero_le _, hb⟩
/-- What both tell of rests and a root. -/
def LrIs (R : Nat → Nat) (m T c r : Nat) (ok : Bool) : Prop := ok = (finL R m && isFin .f32 T) ∧ c = (if ok = true then m else 0) ∧ r = if ok = true then T else 0
theorem LrIs.no {R : Nat → Nat} {m T c r : Nat} {ok : Bool} (h : LrIs R m T c r ok) (hf : (finL R m && isFin .f32 T) = false) {w w' : World} (hb : Below w.heap.size w w') : RetLampRests R c r ok w (.returned (.tuple #[.slice none 0 0, .float .f32 0, .bool false])) w' := by
  obtain ⟨rfl, rfl, rfl⟩ := h
  rw [hf, if_neg (by simp), if_neg (by simp)]
  exact lrsNo hb
theorem LrIs.yes {R Z : Nat → Nat} {m T c r : Nat} {ok : Bool} (h : LrIs R m T c r ok) (hf : (finL R m && isFin .f32 T) = true) {w w' : World} {v : Value} (s : Nat) (ho : w'.ownsRow w.heap.size 22 1 v m (rowOf Z m)) (hl : Like Z R m) (hm : m ≤ 1048576) (hb : Below w.heap.size w w') : RetLampRests R c r ok w (.returned (.tuple #[v, .float .f32 (pick .f32 T s), .bool true])) w' := by
  obtain ⟨rfl, rfl, rfl⟩ := h
  rw [hf, if_pos rfl, if_pos rfl]
  exact ⟨v, Z, s, rfl, ho, hl, hm, hb⟩
set_option maxRecDepth 100000 in
set_option maxHeartbeats 3200000 in
theorem specLrs_no (ca pa va : Option Addr) (n m m' cc cp cv : Nat) (C P V : Nat → Nat) (w : World) (hC : Rd w ca n C) (hP : Rd w pa m P) (hV : Rd w va m' V) (hn : n ≤ 1048576) (hm : m ≤ 1048576) (hm' : m' ≤ 1048576) (R : Nat → Nat) (hk : (crvB C n && prsB P V m m' 1 16) = false) :
    Calls Try.prog 34 #[.slice ca n cc, .slice pa m cp, .slice va m' cv] w (RetLampRests R 0 0 false w) := by
  cases c1 : crvB C n
  · have HB := Lib.hid (specCrv_any ca n cc C w hC hn false (Lib.hid c1.symm))
    clear hk
    go_enter Try.func34, Try.ntmps34
    go_wp2_with (go_at_call 74; refine HB.out.mono ?_; rintro e w' ⟨rfl, q, rfl⟩)
    go_ret3
    refine lrsNo ?_
    (repeat (first | with_reducible exact Below.refl _ _ | with_reducible refine Below.drewN ?_ _ | with_reducible refine Below.setCell ?_ (by simp; try omega) _ | with_reducible refine Below.alloc ?_ (by simp; try omega) _))
  · have c2 : prsB P V m m' 1 16 = false := by rw [c1, Bool.true_and] at hk; exact hk
    have HB := Lib.hid (specCrv_any ca n cc C w hC hn true (Lib.hid c1.symm))
    have HL := Lib.hid (fun q => l06Lamps_any pa va m m' cp cv P V 1 (w.drewN q) hP hV hm hm')
    rw [c2] at HL
    clear hk
    go_enter Try.func34, Try.ntmps34
    go_wp2_with (first | (go_at_call 74; refine HB.out.mono ?_; rintro e w' ⟨rfl, q, rfl⟩) | (go_at_call 71; refine (HL.out _).mono ?_; rintro e w' ⟨rfl, q2, rfl⟩))
    go_ret3
    refine lrsNo ?_
    (repeat (first | with_reducible exact Below.refl _ _ | with_reducible refine Below.drewN ?_ _ | with_reducible refine Below.setCell ?_ (by simp; try omega) _ | with_reducible refine Below.alloc ?_ (by simp; try omega) _))
set_option maxRecDepth 100000 in
set_option maxHeartbeats 6400000 in
theorem specLrs_yes (ca pa va : Option Addr) (n m cc cp cv : Nat) (C P V : Nat → Nat) (w : World) (hC : Rd w ca n C) (hP : Rd w pa m P) (hV : Rd w va m V) (hk1 : crvB C n = true) (hk2 : prsB P V m m 1 16 = true) (R : Nat → Nat) (c r : Nat) (ok : Bool) (T : Nat) (hR : Hid (R = lrR C n P V)) (hT : Hid (T = lrT R m)) (hI : Hid (LrIs R m T c r ok)) :
    Calls Try.prog 34 #[.slice ca n cc, .slice pa m cp, .slice va m cv] w (RetLampRests R c r ok w) := by
  obtain ⟨i0, hi, hz0, hz1, hz2⟩ := info_parts infoF
  have hn := crvB_at hk1
  have hp2 := prsB_at hk2
  have h1 : 1 ≤ m := by omega
  have h2 : m ≤ 16 := by omega
  have HB := Lib.hid (specCrv_any ca n cc C w hC (by omega) true (Lib.hid hk1.symm))
  have HL := Lib.hid (fun q => l06Lamps_any pa va m m cp cv P V 1 (w.drewN q) hP hV (by omega) (by omega))
  rw [hk2] at HL
  have HA := Lib.hid (fun w' (hb : Below w.heap.size w w') p D hD => l06At_any ca n cc C p w' (hC.below hb) (by omega) (by omega) D hD)
  have HRk := Lib.hid (show ∀ k, R k = fbin .sub .f32 (V k) (atW C n (P k) n) from fun k => by rw [hR.out]; rfl)
  obtain ⟨pb, po, hpa, hcp⟩ := hP
  obtain ⟨vb, vo, hva, hcv⟩ := hV
  have e := hpa (by omega)
  subst e
  have e := hva (by omega)
  subst e
  have CP := Lib.hid hcp
  have CV := Lib.hid hcv
  clear hk1 hk2 hn hp2 hcp hcv hpa hva hR
  go_enter Try.func34, Try.ntmps34
  go_wp2_with (first | (go_at_call 74; refine HB.out.mono ?_; rintro e w' ⟨rfl, q, rfl⟩) | (go_at_call 71; refine (HL.out _).mono ?_; rintro e w' ⟨rfl, q2, rfl⟩))
  go_loopw [9, 10] (fun v i wr => ∃ (k : Nat) (Z : Nat → Nat), k ≤ m ∧ i = .int .i64 (k : Int) ∧ wr.ownsRow w.heap.size 22 1 v k (rowOf Z k) ∧ Like Z R k ∧ Below w.heap.size w wr) (fun _ i _ => m - (intOf i).toNat)
  case atStart => exact ⟨0, fun _ => 0, Nat.zero_le _, rfl, own_empty _ _, fun _ h => absurd h (Nat.not_lt_zero _), Below.alloc (Below.drewN (Below.refl _ _) _) (Nat.le_refl _) _⟩
  case round =>
    obtain ⟨k, Z, hk, rfl, hownk, hL, hBk⟩ := hrel
    have hsz := hBk.size
    by_cases hlt : k < m
    · have c0x := CP.out k hlt
      have c0y := CV.out k hlt
      have c1x := (hBk.cell (p := ⟨pb, po + k, none⟩) (World.block_lt_of_cell? w _ c0x)).trans c0x
      have c1y := (hBk.cell (p := ⟨vb, vo + k, none⟩) (World.block_lt_of_cell? w _ c0y)).trans c0y
      obtain ⟨D, hD⟩ : ∃ D, D = atW C n (P k) n := ⟨_, rfl⟩
      have HAk := Lib.hid (fun w' (hb : Below wr.heap.size wr w') => HA.out w' (hBk.trans (hb.mono hsz)) (P k) D (Lib.hid hD))
      have hE : fbin .sub .f32 (V k) D = R k := by rw [HRk.out, hD]
      obtain ⟨E, hEE⟩ : ∃ E, E = R k := ⟨_, rfl⟩
      rw [← hEE] at hE
      have HE := Lib.hid hEE
      have hq := fun op => fbin_pick_r op .f32
      have hrs := run_sub32
      clear c0x c0y hD hEE
      go_wp2_with fail
      go_region_law (first | (refine step_push hi hz0 hz1 hz2 rfl (s := .tmp 28) (x := .tmp 40) rfl rfl rfl (by rfl) (by exact hownk) (by omega) (by exact hsz) ?_; intro v' w1 hown' hB') | (go_simp; go_at_call 75; refine (HAk.out _ (by first | exact Below.refl _ _ | exact Below.drewN (Below.refl _ _) _)).mono ?_; rintro e w' ⟨s', m', rfl, rfl⟩))
      all_goals go_wp2
      all_goals go_roundw
      all_goals first | exact ⟨k + 1, _, by omega, by go_num, hown', like_push hL (by rw [← HE.out]), Below.trans (Below.drewN hBk _) hB'⟩ | (simp [intOf]; omega)
    · have hkn : k = m := by omega
      subst hkn
      obtain ⟨xa, cz, hv, _, _, hZ⟩ := rd_of_own hownk
      subst hv
      have eS := dotW_like hL k (Nat.le_refl _)
      have eF := finL_like hL
      obtain ⟨S, hS⟩ : ∃ S, S = dotW R R k := ⟨_, rfl⟩
      rw [← hS] at eS
      have eT : rootT (fbin .quo .f32 S (floatOfInt .f32 k)) = T := by rw [hS]; exact hT.out.symm
      have HDt := Lib.hid (fun q => l01Dot_any xa xa k cz cz Z Z (wr.drewN q) hZ hZ (by omega))
      rw [eS] at HDt
      have HFt := Lib.hid (fun q => l02Finite_any xa k cz Z (wr.drewN q) hZ (by omega))
      rw [eF] at HFt
      have hp := fun op => fbin_pick_l op .f32
      have hrp := rootT_pick
      have hip := isFin_pick .f32
      have HO := Lib.hid hownk
      have HLk := Lib.hid hL
      clear hS eS eF hownk hL hZ HA HRk CP CV
      cases f1 : finL R k
      · have HN := Lib.hid (fun w' hb => hI.out.no (by rw [f1]; rfl) (w := w) (w' := w') hb)
        rw [f1] at HFt
        go_wp2_with (first | (go_at_call 78; refine (HDt.out 0).mono ?_; rintro e w' ⟨s', m', rfl, rfl⟩) | (first | ((with_reducible refine wpL_fbin ?_); refine ⟨_, _, _, rfl, rfl, rfl, fun s n => ?_⟩) | (go_at_call 59; refine (l01Sqrt_any _ _).mono ?_; rintro e w' ⟨s', m', rfl, rfl⟩)) | (go_at_call 79; refine (HFt.out _).mono ?_; rintro e w' ⟨rfl, q5, rfl⟩))
        go_ret3
        refine HN.out _ ?_
        exact Below.drewN hBk _
      · rw [f1] at HFt
        cases f2 : isFin .f32 T
        · have HN := Lib.hid (fun w' hb => hI.out.no (by rw [f2, Bool.and_false]) (w := w) (w' := w') hb)
          go_wp2_with (first | (go_at_call 78; refine (HDt.out 0).mono ?_; rintro e w' ⟨s', m', rfl, rfl⟩) | (first | ((with_reducible refine wpL_fbin ?_); refine ⟨_, _, _, rfl, rfl, rfl, fun s n => ?_⟩) | (go_at_call 59; refine (l01Sqrt_any _ _).mono ?_; rintro e w' ⟨s', m', rfl, rfl⟩) | (go_at_call 48; refine (l01Finite_any _ _).mono ?_; rintro e w' ⟨rfl, q, rfl⟩)) | (go_at_call 79; refine (HFt.out _).mono ?_; rintro e w' ⟨rfl, q5, rfl⟩))
          go_ret3
          refine HN.out _ ?_
          exact Below.drewN hBk _
        · have HN := Lib.hid (fun s q => hI.out.yes (by rw [f1, f2]; rfl) (w := w) (w' := wr.drewN q) s HO.out HLk.out (by omega) (Below.drewN hBk q))
          go_wp2_with (first | (go_at_call 78; refine (HDt.out 0).mono ?_; rintro e w' ⟨s', m', rfl, rfl⟩) | (first | ((with_reducible refine wpL_fbin ?_); refine ⟨_, _, _, rfl, rfl, rfl, fun s n => ?_⟩) | (go_at_call 59; refine (l01Sqrt_any _ _).mono ?_; rintro e w' ⟨s', m', rfl, rfl⟩) | (go_at_call 48; refine (l01Finite_any _ _).mono ?_; rintro e w' ⟨rfl, q, rfl⟩)) | (go_at_call 79; refine (HFt.out _).mono ?_; rintro e w' ⟨rfl, q5, rfl⟩))
          go_ret3
          exact HN.out _ _
set_option maxRecDepth 100000 in
set_option maxHeartbeats 3200000 in
theorem implLrs_no (ca pa va : Option Addr) (n m m' cc cp cv : Nat) (C P V : Nat → Nat) (w : World) (hC : Rd w ca n C) (hP : Rd w pa m P) (hV : Rd w va m' V) (hn : n ≤ 1048576) (hm : m ≤ 1048576) (hm' : m' ≤ 1048576) (R : Nat → Nat) (hk : (crvB C n && prsB P V m m' 1 16) = false) :
    Calls Try.prog 35 #[.slice ca n cc, .slice pa m cp, .slice va m' cv] w (RetLampRests R 0 0 false w) := by
  cases c2 : prsB P V m m' 1 16
  · have HL := Lib.hid (arePairs_any pa va m m' cp cv P V 1 16 w hP hV hm hm')
    rw [c2] at HL
    clear hk
    go_enter Try.func35, Try.ntmps35
    go_wp2_with (go_at_call 68; refine HL.out.mono ?_; rintro e w' ⟨rfl, q, rfl⟩)
    go_ret3
    refine lrsNo ?_
    (repeat (first | with_reducible exact Below.refl _ _ | with_reducible refine Below.drewN ?_ _ | with_reducible refine Below.setCell ?_ (by simp; try omega) _ | with_reducible refine Below.alloc ?_ (by simp; try omega) _))
  · have c1 : crvB C n = false := by rw [c2, Bool.and_true] at hk; exact hk
    have hp2 := prsB_at c2
    have h1 : 1 ≤ m := by omega
    have h2 : m ≤ 16 := by omega
    obtain ⟨i0, hi, hz0, hz1, hz2⟩ := info_parts infoF
    have hb : i0.bytes * m ≤ 281474976710656 := by rw [hz2]; omega
    have hmm : m ≤ maxLen := by unfold maxLen; omega
    have HL := Lib.hid (arePairs_any pa va m m' cp cv P V 1 16 w hP hV hm hm')
    rw [c2] at HL
    have HW := Lib.hid (fun w' (hb : Below w.heap.size w w') p => implWav_no ca n cc C p w' (hC.below hb) hn (by rw [okWav, c1]; rfl))
    obtain ⟨pb, po, hpa, hcp⟩ := hP
    have e := hpa (by omega)
    subst e
    have CP := Lib.hid hcp
    clear hk hpa hcp hp2
    go_enter Try.func35, Try.ntmps35
    go_wp2_with (first | (go_at_call 68; refine HL.out.mono ?_; rintro e w' ⟨rfl, q, rfl⟩) | (at_make; refine wpList_make_full _ rfl _ _ 30 rfl w.heap.size 22 i0 (.float .f32 0) 1 Try.underlying30 hi hz0 hz1 _ _ _ _ m rfl rfl rfl rfl hb hmm (Nat.le_refl _) ?_))
    intro w1 hown hgr
    have hB : Below w.heap.size w w1 := (Below.drewN (Below.refl _ w) _).grown hgr (Nat.le_refl _) (fun _ h => by cases h)
    clear hgr hb hmm hi hz0 hz1 hz2 hown
    go_wp2
    go_loopw [24] (fun i wr => i = .int .i64 0 ∧ Below w.heap.size w wr) (fun i _ => 0)
    case atStart => exact ⟨rfl, hB⟩
    case round =>
      obtain ⟨rfl, hBk⟩ := hrel
      have c0x := CP.out 0 h1
      rw [Nat.add_zero] at c0x
      have c1x := (hBk.cell (p := ⟨pb, po, none⟩) (World.block_lt_of_cell? w _ c0x)).trans c0x
      have v1 : (0 : Int) < (m : Int) := by omega
      clear c0x
      go_wp2_with fail
      refine (HW.out _ hBk _).mono ?_
      rintro e w2 ⟨s, rfl, hb2⟩
      go_wp2
      go_ret3
      exact lrsNo (hBk.trans (hb2.mono hBk.size))
set_option maxRecDepth 100000 in
set_option maxHeartbeats 6400000 in
theorem implLrs_yes (ca pa va : Option Addr) (n m cc cp cv : Nat) (C P V : Nat → Nat) (w : World) (hC : Rd w ca n C) (hP : Rd w pa m P) (hV : Rd w va m V) (hk1 : crvB C n = true) (hk2 : prsB P V m m 1 16 = true) (R : Nat → Nat) (c r : Nat) (ok : Bool) (T : Nat) (hR : Hid (R = lrR C n P V)) (hT : Hid (T = lrT R m)) (hI : Hid (LrIs R m T c r ok)) :
    Calls Try.prog 35 #[.slice ca n cc, .slice pa m cp, .slice va m cv] w (RetLampRests R c r ok w) := by
  obtain ⟨i0, hi, hz0, hz1, hz2⟩ := info_parts infoF
  have hn := crvB_at hk1
  have hp2 := prsB_at hk2
  have h1 : 1 ≤ m := by omega
  have h2 : m ≤ 16 := by omega
  have hb : i0.bytes * m ≤ 281474976710656 := by rw [hz2]; omega
  have hmm : m ≤ maxLen := by unfold maxLen; omega
  have HL := Lib.hid (arePairs_any pa va m m cp cv P V 1 16 w hP hV (by omega) (by omega))
  rw [hk2] at HL
  have HFP := Lib.hid (finL_at hp2.2.2.2.1)
  have HW := Lib.hid (fun w' (hb : Below w.heap.size w w') p (hp : isFin .f32 p = true) D hD => implWav_yes ca n cc C p w' (hC.below hb) (by rw [okWav, hk1, hp]; rfl) D hD)
  have HRk := Lib.hid (show ∀ k, R k = fbin .sub .f32 (V k) (atW C n (P k) n) from fun k => by rw [hR.out]; rfl)
  obtain ⟨pb, po, hpa, hcp⟩ := hP
  obtain ⟨vb, vo, hva, hcv⟩ := hV
  have e := hpa (by omega)
  subst e
  have e := hva (by omega)
  subst e
  have CP := Lib.hid hcp
  have CV := Lib.hid hcv
  clear hk1 hk2 hn hp2 hcp hcv hpa hva hR
  go_enter Try.func35, Try.ntmps35
  go_wp2_with (first | (go_at_call 68; refine HL.out.mono ?_; rintro e w' ⟨rfl, q, rfl⟩) | (at_make; refine wpList_make_full _ rfl _ _ 30 rfl w.heap.size 22 i0 (.float .f32 0) 1 Try.underlying30 hi hz0 hz1 _ _ _ _ m rfl rfl rfl rfl hb hmm (Nat.le_refl _) ?_))
  intro w1 hown hgr
  rw [madeF] at hown
  have hB : Below w.heap.size w w1 := (Below.drewN (Below.refl _ w) _).grown hgr (Nat.le_refl _) (fun _ h => by cases h)
  clear hgr hb hmm hi hz0 hz1 hz2 HL
  go_wp2
  go_loopw [24] (fun i wr => ∃ (k : Nat) (Z : Nat → Nat), k ≤ m ∧ i = .int .i64 (k : Int) ∧ wr.ownsRow w.heap.size 22 1 (.slice (some ⟨w.heap.size, 0, none⟩) m m) m (rowOf Z m) ∧ LikeP Z R k ∧ Below w.heap.size w wr) (fun i _ => m - (intOf i).toNat)
  case atStart => exact ⟨0, fun _ => 0, Nat.zero_le _, rfl, hown, fun _ h => absurd h (Nat.not_lt_zero _), hB⟩
  case round =>
    obtain ⟨k, Z, hk, rfl, hownk, hL, hBk⟩ := hrel
    clear hown hB
    by_cases hlt : k < m
    · have c0x := CP.out k hlt
      have c0y := CV.out k hlt
      have c1x := (hBk.cell (p := ⟨pb, po + k, none⟩) (World.block_lt_of_cell? w _ c0x)).trans c0x
      have c1y := (hBk.cell (p := ⟨vb, vo + k, none⟩) (World.block_lt_of_cell? w _ c0y)).trans c0y
      obtain ⟨D, hD⟩ : ∃ D, D = atW C n (P k) n := ⟨_, rfl⟩
      have HWk := Lib.hid (HW.out wr hBk (P k) (HFP.out k hlt) D (Lib.hid hD))
      have hE : fbin .sub .f32 (V k) D = R k := by rw [HRk.out, hD]
      obtain ⟨E, hEE⟩ : ∃ E, E = R k := ⟨_, rfl⟩
      rw [← hEE] at hE
      have HE := Lib.hid hEE
      have hq := fun op => fbin_pick_r op .f32
      have HO := Lib.hid hownk
      have HLk := Lib.hid hL
      clear c0x c0y hD hEE hownk hL
      cases f : isFin .f32 D
      · have HN := Lib.hid (fun w' hb => hI.out.no (by
          have hf : finL R m = false := finL_no hlt (by rw [← HE.out, ← hE]; exact nf_sub_r f)
          rw [hf]; rfl) (w := w) (w' := w') hb)
        rw [f] at HWk
        clear hE
        go_wp2_with fail
        refine HWk.out.mono ?_
        rintro e w2 ⟨s, rfl, hb2⟩
        go_wp2
        go_ret3
        exact HN.out _ (hBk.trans (hb2.mono hBk.size))
      · have eQ : numQ D = D := by rw [numQ, if_pos f]
        rw [f, eQ] at HWk
        have pD := fun s => pick_num (s := s) (num_fin f)
        clear eQ f
        go_wp2_with fail
        refine HWk.out.mono ?_
        rintro e w2 ⟨s, rfl, hb2⟩
        have hown2 := own_below HO.out hb2
        have c2y := (hb2.cell (p := ⟨vb, vo + k, none⟩) (World.block_lt_of_cell? wr _ c1y)).trans c1y
        have st := fun q u => own_store hown2 hlt q u
        have HO2 := Lib.hid hown2
        clear hown2 c1x c1y
        go_wp2_with ((with_reducible refine wpL_fbin ?_); refine ⟨_, _, _, rfl, rfl, rfl, fun s n => ?_⟩)
        go_roundw
        case rel => exact ⟨k + 1, _, by omega, by go_num, own_stored (own_drew HO2.out _) k _, HLk.out.push (by rw [← HE.out]), Below.setCell (Below.drewN (hBk.trans (hb2.mono hBk.size)) _) (Nat.le_refl _) _⟩
        case measure => simp [intOf]; omega
    · have hkn : k = m := by omega
      subst hkn
      have hZ := rd_own hownk
      have hLk := hL.like
      have eS := dotW_like hLk k (Nat.le_refl _)
      obtain ⟨S, hS⟩ : ∃ S, S = dotW R R k := ⟨_, rfl⟩
      rw [← hS] at eS
      have eT : rootT (fbin .quo .f32 S (floatOfInt .f32 k)) = T := by rw [hS]; exact hT.out.symm
      have HDt := Lib.hid (fun q => sumSq_any _ k k Z (wr.drewN q) hZ (by omega))
      rw [eS] at HDt
      have hp := fun op => fbin_pick_l op .f32
      have hrp := rootT_pick
      have hip := isFin_pick .f32
      have HO := Lib.hid hownk
      have HLk := Lib.hid hLk
      clear hS eS hownk hL hLk hZ HW HRk CP CV HFP
      cases f2 : isFin .f32 T
      · have HN := Lib.hid (fun w' hb => hI.out.no (by rw [f2, Bool.and_false]) (w := w) (w' := w') hb)
        go_wp2_with (first | (go_at_call 80; refine (HDt.out 0).mono ?_; rintro e w' ⟨s', m', rfl, rfl⟩) | (first | ((with_reducible refine wpL_fbin ?_); refine ⟨_, _, _, rfl, rfl, rfl, fun s n => ?_⟩) | (go_at_call 63; refine (RootNumber_any _ _).mono ?_; rintro e w' ⟨s', m', rfl, rfl⟩) | (go_at_call 52; refine (IsFinite_any _ _).mono ?_; rintro e w' ⟨rfl, q, rfl⟩)))
        go_ret3
        refine HN.out _ ?_
        exact Below.drewN hBk _
      · have f1 : finL R k = true := by
          cases f : finL R k
          · have := lr_nf h2 f
            rw [← hT.out, f2] at this
            cases this
          · rfl
        have HN := Lib.hid (fun s q => hI.out.yes (by rw [f1, f2]; rfl) (w := w) (w' := wr.drewN q) s HO.out HLk.out (by omega) (Below.drewN hBk q))
        go_wp2_with (first | (go_at_call 80; refine (HDt.out 0).mono ?_; rintro e w' ⟨s', m', rfl, rfl⟩) | (first | ((with_reducible refine wpL_fbin ?_); refine ⟨_, _, _, rfl, rfl, rfl, fun s n => ?_⟩) | (go_at_call 63; refine (RootNumber_any _ _).mono ?_; rintro e w' ⟨s', m', rfl, rfl⟩) | (go_at_call 52; refine (IsFinite_any _ _).mono ?_; rintro e w' ⟨rfl, q, rfl⟩)))
        go_ret3
        exact HN.out _ _
theorem bothLampRests (n : Nat) (C : Nat → Nat) (hn : n ≤ 1048576) (m : Nat) (P : Nat → Nat) (hm : m ≤ 1048576) (m' : Nat) (V : Nat → Nat) (hm' : m' ≤ 1048576) :
    ∃ (R : Nat → Nat) (c r : Nat) (ok : Bool), (∀ (ca : Option Addr) (cc : Nat) (pa : Option Addr) (cp : Nat) (va : Option Addr) (cv : Nat) (w : World), Rd w ca n C → Rd w pa m P → Rd w va m' V → Calls Try.prog 34 #[.slice ca n cc, .slice pa m cp, .slice va m' cv] w (RetLampRests R c r ok w)) ∧
      ∀ (ca : Option Addr) (cc : Nat) (pa : Option Addr) (cp : Nat) (va : Option Addr) (cv : Nat) (w : World), Rd w ca n C → Rd w pa m P → Rd w va m' V → Calls Try.prog 35 #[.slice ca n cc, .slice pa m cp, .slice va m' cv] w (RetLampRests R c r ok w) := by
  cases hk : (crvB C n && prsB P V m m' 1 16)
  · exact ⟨fun _ => 0, 0, 0, false, fun ca cc pa cp va cv w hC hP hV => specLrs_no ca pa va n m m' cc cp cv C P V w hC hP hV hn hm hm' _ hk, fun ca cc pa cp va cv w hC hP hV => implLrs_no ca pa va n m m' cc cp cv C P V w hC hP hV hn hm hm' _ hk⟩
  · rw [Bool.and_eq_true] at hk
    obtain ⟨h1, h2⟩ := hk
    obtain ⟨_, _, rfl, _, _⟩ := prsB_at h2
    exact ⟨_, _, _, _, fun ca cc pa cp va cv w hC hP hV => specLrs_yes ca pa va n _ cc cp cv C P V w hC hP hV h1 h2 _ _ _ _ _ (Lib.hid rfl) (Lib.hid rfl) (Lib.hid ⟨rfl, rfl, rfl⟩), fun ca cc pa cp va cv w hC hP hV => implLrs_yes ca pa va n _ cc cp cv C P V w hC hP hV h1 h2 _ _ _ _ _ (Lib.hid rfl) (Lib.hid rfl) (Lib.hid ⟨rfl, rfl, rfl⟩)⟩
end Go.Proofs.Ytfnapaijfdiflaa
