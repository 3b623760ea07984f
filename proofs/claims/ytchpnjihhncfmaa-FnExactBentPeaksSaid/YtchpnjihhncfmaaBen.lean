/- How a list bends: as the model tells it, and as the program does. -/
import Derived.Test.YtchpnjihhncfmaaLt5
import Derived.Test.YtchpnjihhncfmaaQ5
import Derived.Test.YtchpnjihhncfmaaArr
import Derived.Test.YtchpnjihhncfmaaRo
import Derived.Deep.QuietTactic
import Derived.BigQuiet
import Derived.Laws.Cover3
namespace Go.Proofs.Ytchpnjihhncfmaa
open Go Go.ChangeShapes Go.WideShapes Go.ChangeAt Go.RowKit

def benR (X : Nat → Nat) (j : Nat) : Nat := fbin .sub .f32 (fbin .sub .f32 (fbin .mul .f32 1073741824 (X (j + 1))) (X j)) (X (j + 2))
set_option maxRecDepth 100000 in
set_option maxHeartbeats 1600000 in
theorem l05Bend_any (xa : Option Addr) (n cap : Nat) (X : Nat → Nat) (j : Nat) (w : World) (hX : Rd w xa n X) (hj : j + 2 < n) (hn : n ≤ 1048576) (hf : finL X n = true) :
    Calls Try.prog 142 #[.slice xa n cap, .int .i64 ((j : Int) + 1)] w (FltRetL (benR X j) w) := by
  obtain ⟨xb, xo, hxa, hcx⟩ := hX
  have e := hxa (by omega)
  subst e
  have r0 := hcx j (by omega)
  have r1 := hcx (j + 1) (by omega)
  have r2 := hcx (j + 2) (by omega)
  clear hcx hxa
  have f0 := finL_at hf j (by omega)
  have f1 := finL_at hf (j + 1) (by omega)
  have f2 := finL_at hf (j + 2) (by omega)
  obtain ⟨M, hM⟩ : ∃ M, fbin .mul .f32 1073741824 (X (j + 1)) = M := ⟨_, rfl⟩
  obtain ⟨S, hS⟩ : ∃ S, fbin .sub .f32 M (X j) = S := ⟨_, rfl⟩
  obtain ⟨D, hD⟩ : ∃ D, fbin .sub .f32 S (X (j + 2)) = D := ⟨_, rfl⟩
  have n1 : isNaN .f32 M = false := by rw [← hM]; exact nan_mul (by decide +kernel) f1
  have n2 : isNaN .f32 S = false := by rw [← hS]; exact nan_sub n1 f0
  have n3 : isNaN .f32 D = false := by rw [← hD]; exact nan_sub n2 f2
  have eD : benR X j = D := by rw [benR, hM, hS, hD]
  have q1 := fun t => run_numop (op := .mul) rfl t _ _ _ hM n1
  have q2 := fun t => run_numop (op := .sub) rfl t _ _ _ hS n2
  have q3 := fun t => run_numop (op := .sub) rfl t _ _ _ hD n3
  have hR := Lib.hid (show ∀ m, FltRetL (benR X j) w (.returned (.float .f32 D)) (w.drewN m) from fun m => ⟨0, m, by rw [eD, pick_num n3], rfl⟩)
  have u1 : (0 : Int) ≤ (j : Int) + 1 := by omega
  have v1 : (j : Int) + 1 < (n : Int) := by omega
  have v0 : (j : Int) < (n : Int) := by omega
  have v2 : (j : Int) + 2 < (n : Int) := by omega
  have v3 : (j : Int) + 1 + 1 = (j : Int) + 2 := by omega
  clear hM hS hD n1 n2 n3 f0 f1 f2 eD hf
  go_enter Try.func142, Try.ntmps142
  go_wp2_with fail
  go_quiet (fail)
  go_wp2
  go_ret
  exact hR.out _
def benN (n : Nat) : Nat := n - 2
def benOk (X : Nat → Nat) (n : Nat) : Bool := okLst X n && decide (3 ≤ n)
/-- What both tell of a list's bends. -/
def BenRet (X : Nat → Nat) (n : Nat) (w : World) (e : Ending) (w' : World) : Prop := OutRet (benR X) (if (benOk X n && finL (benR X) (benN n)) = true then benN n else 0) (benOk X n && finL (benR X) (benN n)) w e w'
theorem ben_no {X : Nat → Nat} {n : Nat} {w w' : World} (h : (benOk X n && finL (benR X) (benN n)) = false) (hb : Below w.heap.size w w') : BenRet X n w (.returned (.tuple #[.slice none 0 0, .bool false])) w' := by
  unfold BenRet
  rw [h]
  exact OutRet.no hb
theorem ben_yes {X Z : Nat → Nat} {n : Nat} {v : Value} {w w' : World} (h : (benOk X n && finL (benR X) (benN n)) = true) (hown : w'.ownsRow w.heap.size 23 1 v (benN n) (rowOf Z (benN n))) (hL : Like Z (benR X) (benN n)) (hb : Below w.heap.size w w') : BenRet X n w (.returned (.tuple #[v, .bool true])) w' := by
  unfold BenRet
  rw [h]
  exact ⟨v, Z, rfl, hown, hL, hb⟩
set_option maxRecDepth 100000 in
set_option maxHeartbeats 3200000 in
theorem specBen_any (xa : Option Addr) (n cap : Nat) (X : Nat → Nat) (w : World) (hX : Rd w xa n X) (hn : n ≤ 1048576) : Calls Try.prog 78 #[.slice xa n cap] w (BenRet X n w) := by
  obtain ⟨k0, hk⟩ : ∃ k, k = okLst X n := ⟨_, rfl⟩
  have HL := Lib.hid (fun w hX => specLst_any xa n cap X w hX hn k0 (Lib.hid hk))
  cases k0
  · have HN := Lib.hid (fun w w' hb => ben_no (X := X) (n := n) (w := w) (w' := w') (by rw [benOk, ← hk]; rfl) hb)
    clear hk
    go_enter Try.func78, Try.ntmps78
    go_wp2_with (go_at_call 107; refine (HL.out _ (by exact hX)).mono ?_; rintro e w' ⟨rfl, q, rfl⟩)
    go_ret2
    refine HN.out _ _ ?_
    (repeat (first | with_reducible exact Below.refl _ _ | with_reducible refine Below.drewN ?_ _ | with_reducible refine Below.setCell ?_ (by simp; try omega) _ | with_reducible refine Below.alloc ?_ (by simp; try omega) _))
  · obtain ⟨hf, h1, h2⟩ := okLst_at hk.symm
    by_cases h3 : 3 ≤ n
    · obtain ⟨c, rfl⟩ : ∃ c, n = c + 2 := ⟨n - 2, by omega⟩
      have hbo : benOk X (c + 2) = true := by rw [benOk, ← hk, decide_eq_true h3]; rfl
      have hbn : benN (c + 2) = c := rfl
      have dl : decide ((c : Int) + 2 < 3) = false := decide_eq_false (by omega)
      have HN := Lib.hid (fun (hz : finL (benR X) c = false) w w' hb => ben_no (X := X) (n := c + 2) (w := w) (w' := w') (by rw [hbo, hbn, hz]; rfl) hb)
      have HY := Lib.hid (fun (hz : finL (benR X) c = true) w w' v Z => ben_yes (X := X) (n := c + 2) (w := w) (w' := w') (v := v) (Z := Z) (by rw [hbo, hbn, hz]; rfl))
      obtain ⟨i0, hi, hz0, hz1, hz2⟩ := info_parts infoF
      have hip := isFin_pick .f32
      have HX := hX
      have hf0 := Lib.hid hf
      clear hk hf hbo hbn
      go_enter Try.func78, Try.ntmps78
      go_wp2_with (go_at_call 107; refine (HL.out _ (by exact HX)).mono ?_; rintro e w' ⟨rfl, q, rfl⟩)
      go_loopw [4, 5] (fun v i wr => ∃ (k : Nat) (Z : Nat → Nat), k ≤ c ∧ i = .int .i64 ((k : Int) + 1) ∧ wr.ownsRow w.heap.size 23 1 v k (rowOf Z k) ∧ Like Z (benR X) k ∧ Below w.heap.size w wr ∧ Hid (∀ j, j < k → isFin .f32 (benR X j) = true)) (fun _ i _ => c + 1 - (intOf i).toNat)
      case atStart => exact ⟨0, fun _ => 0, Nat.zero_le _, rfl, own_empty _ _, fun _ h => absurd h (Nat.not_lt_zero _), Below.alloc (Below.drewN (Below.refl _ _) _) (Nat.le_refl _) _, Lib.hid fun j hj => absurd hj (Nat.not_lt_zero _)⟩
      case round =>
        obtain ⟨k, Z, hkc, rfl, hownk, hL, hBk, HF⟩ := hrel
        have hsz := hBk.size
        by_cases hlt : k < c
        · have HB := Lib.hid (fun w hX => l05Bend_any xa (c + 2) cap X k w hX (by omega) hn hf0.out)
          obtain ⟨D, hD⟩ : ∃ D, D = benR X k := ⟨_, rfl⟩
          rw [← hD] at HB
          have HXk := HX.below hBk
          cases f : isFin .f32 D
          · have HZ := HN.out (finL_no hlt (by rw [← hD]; exact f))
            clear hD
            go_wp2_with (first | (first | (go_at_call 79; refine (l01Finite_any _ _).mono ?_; rintro e w' ⟨rfl, q, rfl⟩)) | (go_at_call 142; refine (HB.out _ (by exact HXk)).mono ?_; rintro e w' ⟨s, m, rfl, rfl⟩))
            go_ret2
            exact HZ _ _ (Below.drewN hBk _)
          · have HG := Lib.hid (show ∀ j, j < k + 1 → isFin .f32 (benR X j) = true from fun j hj => by
              by_cases hj' : j < k
              · exact HF.out j hj'
              · rw [show j = k by omega, ← hD]; exact f)
            have HD := Lib.hid hD
            clear hD
            go_wp2_with (first | (first | (go_at_call 79; refine (l01Finite_any _ _).mono ?_; rintro e w' ⟨rfl, q, rfl⟩)) | (go_at_call 142; refine (HB.out _ (by exact HXk)).mono ?_; rintro e w' ⟨s, m, rfl, rfl⟩) | (at_builtin; refine wpL_push hi hz0 hz1 hz2 rfl rfl rfl rfl (by exact hownk) (by omega) (by exact hsz) ?_; intro v' w1 hown' hB'))
            go_roundw
            case rel => exact ⟨k + 1, _, by omega, by go_num, hown', like_push hL (by rw [← HD.out]), Below.trans (Below.drewN hBk _) hB', HG⟩
            case measure => simp [intOf]; omega
        · have hkc' : k = c := by omega
          subst hkc'
          have HZ := HY.out (finL_yes HF.out)
          go_wp2
          go_ret2
          exact HZ _ _ _ _ hownk hL hBk
    · have dl : decide ((n : Int) < 3) = true := decide_eq_true (by omega)
      have HN := Lib.hid (fun w w' hb => ben_no (X := X) (n := n) (w := w) (w' := w') (by rw [benOk, decide_eq_false h3, Bool.and_false, Bool.false_and]) hb)
      clear hk hf
      go_enter Try.func78, Try.ntmps78
      go_wp2_with (go_at_call 107; refine (HL.out _ (by exact hX)).mono ?_; rintro e w' ⟨rfl, q, rfl⟩)
      go_ret2
      refine HN.out _ _ ?_
      (repeat (first | with_reducible exact Below.refl _ _ | with_reducible refine Below.drewN ?_ _ | with_reducible refine Below.setCell ?_ (by simp; try omega) _ | with_reducible refine Below.alloc ?_ (by simp; try omega) _))
set_option maxRecDepth 100000 in
set_option maxHeartbeats 3200000 in
theorem implBen_any (xa : Option Addr) (n cap : Nat) (X : Nat → Nat) (w : World) (hX : Rd w xa n X) (hc : n ≤ cap) (hn : n ≤ 1048576) : Calls Try.prog 80 #[.slice xa n cap] w (BenRet X n w) := by
  obtain ⟨k0, hk⟩ : ∃ k, k = okLst X n := ⟨_, rfl⟩
  have HL := Lib.hid (fun w hX => implLst_any xa n cap X w hX hn k0 (Lib.hid hk))
  cases k0
  · have HN := Lib.hid (fun w w' hb => ben_no (X := X) (n := n) (w := w) (w' := w') (by rw [benOk, ← hk]; rfl) hb)
    clear hk
    go_enter Try.func80, Try.ntmps80
    go_wp2_with (go_at_call 100; refine (HL.out _ (by exact hX)).mono ?_; rintro e w' ⟨rfl, q, rfl⟩)
    go_ret2
    refine HN.out _ _ ?_
    (repeat (first | with_reducible exact Below.refl _ _ | with_reducible refine Below.drewN ?_ _ | with_reducible refine Below.setCell ?_ (by simp; try omega) _ | with_reducible refine Below.alloc ?_ (by simp; try omega) _))
  · obtain ⟨hf, h1, h2⟩ := okLst_at hk.symm
    by_cases h3 : 3 ≤ n
    · obtain ⟨c, rfl⟩ : ∃ c, n = c + 2 := ⟨n - 2, by omega⟩
      have hbo : benOk X (c + 2) = true := by rw [benOk, ← hk, decide_eq_true h3]; rfl
      have hbn : benN (c + 2) = c := rfl
      have dl : decide ((c : Int) + 2 < 3) = false := decide_eq_false (by omega)
      have HN := Lib.hid (fun (hz : finL (benR X) c = false) w w' hb => ben_no (X := X) (n := c + 2) (w := w) (w' := w') (by rw [hbo, hbn, hz]; rfl) hb)
      have HY := Lib.hid (fun (hz : finL (benR X) c = true) w w' v Z => ben_yes (X := X) (n := c + 2) (w := w) (w' := w') (v := v) (Z := Z) (by rw [hbo, hbn, hz]; rfl))
      obtain ⟨i0, hi, hz0, hz1, hz2⟩ := info_parts infoF
      have hb : i0.bytes * c ≤ 281474976710656 := by rw [hz2]; omega
      have hm : c ≤ maxLen := by unfold maxLen; omega
      have hst := run_store_f32
      have HX := hX
      obtain ⟨xb, xo, hxa, hcx⟩ := hX
      have e := hxa (by omega)
      subst e
      have HC := Lib.hid hcx
      clear hk hf hbo hbn hcx hxa
      go_enter Try.func80, Try.ntmps80
      go_wp2_with (first | (go_at_call 100; refine (HL.out _ (by exact HX)).mono ?_; rintro e w' ⟨rfl, q, rfl⟩) | (at_make; refine wpList_make_full _ rfl _ _ 22 rfl w.heap.size 23 i0 (.float .f32 0) 1 Try.underlying22 hi hz0 hz1 _ _ _ _ c rfl rfl (by omega) (by omega) hb hm (Nat.le_refl _) ?_))
      intro w1 hown hgr
      rw [madeF] at hown
      have hB : Below w.heap.size w w1 := (Below.drewN (Below.refl _ w) _).grown hgr (Nat.le_refl _) (fun _ h => by cases h)
      clear hgr hb hm hi hz0 hz1 hz2
      go_wp2
      go_loopw [21] (fun i wr => ∃ (k : Nat) (Z : Nat → Nat), k ≤ c ∧ i = .int .i64 k ∧ wr.ownsRow w.heap.size 23 1 (.slice (some ⟨w.heap.size, 0, none⟩) c c) c (rowOf Z c) ∧ LikeP Z (benR X) k ∧ Below w.heap.size w wr) (fun i _ => c - (intOf i).toNat)
      case atStart => exact ⟨0, fun _ => 0, Nat.zero_le _, rfl, hown, fun _ h => absurd h (Nat.not_lt_zero _), hB⟩
      case round =>
        obtain ⟨k, Z, hkc, rfl, hownk, hL, hBk⟩ := hrel
        clear hown hB
        by_cases hlt : k < c
        · have hkB := hBk.size
          have c0 := HC.out k (by omega)
          have c1 := HC.out (k + 1) (by omega)
          have c2 := HC.out (k + 2) (by omega)
          have r0 := (hBk.cell (p := ⟨xb, xo + k, none⟩) (World.block_lt_of_cell? w _ c0)).trans c0
          have r1 := (hBk.cell (p := ⟨xb, xo + (k + 1), none⟩) (World.block_lt_of_cell? w _ c1)).trans c1
          have r2 := (hBk.cell (p := ⟨xb, xo + (k + 2), none⟩) (World.block_lt_of_cell? w _ c2)).trans c2
          rw [← Nat.add_assoc] at r1 r2
          have hat : ∀ w, (Instr.arrayAt 149 (.slice (some ⟨xb, xo + k, none⟩) 3 (cap - k))).run Try.prog w = .ok (.pointer (some ⟨xb, xo + k, none⟩)) w := fun w => run_arrayAt w 149 _ 3 _ 3 (cap - k) Try.underlying149 (Nat.le_refl _)
          obtain ⟨D, hD⟩ : ∃ D, D = benR X k := ⟨_, rfl⟩
          have eD : fbin .sub .f32 (fbin .sub .f32 (fbin .mul .f32 1073741824 (X (k + 1))) (X k)) (X (k + 2)) = D := hD.symm
          have HD := Lib.hid hD
          have hp := fun op => fbin_pick_l op .f32
          have hq := fun op => fbin_pick_r op .f32
          have HO := Lib.hid hownk
          have HLk := Lib.hid hL
          have hfz := hownk.frozenAt k
          have hcl := own_cell hownk hlt
          have hlt0 := own_lt hownk
          have hne0 : ¬ w.heap.size = wr.heap.size := by omega
          have hne1 : ¬ wr.heap.size = w.heap.size := by omega
          clear hownk hL c0 c1 c2 hD
          go_wp2_with ((with_reducible refine wpL_fbin ?_); refine ⟨_, _, _, rfl, rfl, rfl, fun s n => ?_⟩)
          go_roundw
          case rel => exact ⟨k + 1, _, by omega, by go_num, own_stored (own_drew (own_below HO.out ((Below.refl _ wr).alloc (Nat.le_refl _) _)) _) k _, HLk.out.push (by rw [← HD.out]), Below.setCell (Below.drewN (Below.alloc hBk hkB _) _) (Nat.le_refl _) _⟩
          case measure => simp [intOf]; omega
        · have hkc' : k = c := by omega
          subst hkc'
          have HLk := Lib.hid hL
          cases hz : finL Z k
          · have HZ := HN.out (by rw [← finL_like hL.like]; exact hz)
            go_wp2_with (go_at_call 77; refine (onlyFinite_any _ w.heap.size k Z _ hownk (by omega)).mono ?_; rintro e w' ⟨rfl, q, rfl⟩)
            go_ret2
            exact HZ _ _ (Below.drewN hBk _)
          · have HZ := HY.out (by rw [← finL_like hL.like]; exact hz)
            go_wp2_with (go_at_call 77; refine (onlyFinite_any _ w.heap.size k Z _ hownk (by omega)).mono ?_; rintro e w' ⟨rfl, q, rfl⟩)
            go_ret2
            exact HZ _ _ _ _ hownk HLk.out.like (Below.drewN hBk _)
    · have dl : decide ((n : Int) < 3) = true := decide_eq_true (by omega)
      have HN := Lib.hid (fun w w' hb => ben_no (X := X) (n := n) (w := w) (w' := w') (by rw [benOk, decide_eq_false h3, Bool.and_false, Bool.false_and]) hb)
      clear hk hf
      go_enter Try.func80, Try.ntmps80
      go_wp2_with (go_at_call 100; refine (HL.out _ (by exact hX)).mono ?_; rintro e w' ⟨rfl, q, rfl⟩)
      go_ret2
      refine HN.out _ _ ?_
      (repeat (first | with_reducible exact Below.refl _ _ | with_reducible refine Below.drewN ?_ _ | with_reducible refine Below.setCell ?_ (by simp; try omega) _ | with_reducible refine Below.alloc ?_ (by simp; try omega) _))
end Go.Proofs.Ytchpnjihhncfmaa
