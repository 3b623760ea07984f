
/- Levels between which shares flow: what goes away from one, and how shares grow. -/
import Derived.Test.YtmpcalpapkedhaaLva
namespace Go.Proofs.Ytmpcalpapkedhaa
set_option linter.all false
open Go Go.ChangeShapes Go.WideShapes Go.ChangeAt Go.RowKit

set_option maxRecDepth 100000 in
set_option maxHeartbeats 3200000 in
theorem away_any (n k : Nat) (ra : Option Addr) (L rc : Nat) (A : Nat → Nat) (w : World) (hA : Rd w ra L A) (hL : L = n * n) (hrc : L ≤ rc) (hn : n ≤ 6) (h1 : 1 ≤ n) (hk : k < n) :
    Calls Try.prog 122 #[.agg #[.int .i64 (n : Int), .slice ra L rc], .int .i64 (k : Int)] w fun e w' => ∃ s, e = .returned (.float .f32 (pick .f32 (lvO n A k) s)) ∧ Below w.heap.size w w' := by
  obtain ⟨xb, xo, hxa, hcx⟩ := hA
  have hLp : 0 < L := by rw [hL]; exact Nat.mul_pos h1 h1
  have e := hxa hLp
  subst e
  have hL36 : L ≤ 36 := by rw [hL]; exact idx_small hn (by omega)
  have h5 : (k + 1) * n ≤ L := by rw [hL]; exact Nat.mul_le_mul_right n (by omega)
  obtain ⟨m, hm⟩ : ∃ m, m = k * n := ⟨_, rfl⟩
  have h6 : (k + 1) * n = m + n := by rw [Nat.add_mul, Nat.one_mul, hm]
  have hmw := mul_wrap hn (show k ≤ 6 by omega)
  have hmw1 := mul_wrap hn (show k + 1 ≤ 6 by omega)
  rw [← hm] at hmw
  rw [h6] at hmw1 h5
  have hk1 : ((k + 1 : Nat) : Int) = (k : Int) + 1 := by omega
  rw [hk1] at hmw1
  have hmn : ((m + n : Nat) : Int) = (m : Int) + (n : Int) := by omega
  rw [hmn] at hmw1
  have HA : Below w.heap.size w (w.alloc (.cells #[.int .i64 (n : Int), .slice (some ⟨xb, xo, none⟩) L rc] 151)) := (Below.refl _ _).alloc (Nat.le_refl _) _
  have hR : Rd w (some ⟨xb, xo + m, none⟩) n (fun i => A (k * n + i)) := ⟨xb, xo + m, fun _ => rfl, fun i hi => by
    have := hcx (m + i) (by omega)
    rw [← hm, Nat.add_assoc]
    exact this⟩
  have HS := Lib.hid (fun cx => SumNumbers_any (some ⟨xb, xo + m, none⟩) n cx (fun i => A (k * n + i)) _ (hR.below HA) (by omega))
  clear hcx hL hxa hR hm h6
  go_enter Try.func122, Try.ntmps122
  go_wp2_with fail
  refine (HS.out _).mono ?_
  rintro e w1 ⟨s, q, rfl, rfl⟩
  go_wp2
  go_ret
  exact ⟨s, rfl, Below.drewN HA _⟩
set_option maxRecDepth 100000 in
set_option maxHeartbeats 6400000 in
theorem levGrow_any (N : Nat) (ra : Option Addr) (L rc : Nat) (A : Nat → Nat) (xa : Option Addr) (cap : Nat) (Xs S : Nat → Nat) (w : World) (hA : Rd w ra L A) (hL : L = N * N) (hrc : L ≤ rc) (hn : N ≤ 6) (h1 : 1 ≤ N) (hX : Rd w xa N Xs) (hS : LikeP Xs S N) :
    Calls Try.prog 138 #[.agg #[.int .i64 (N : Int), .slice ra L rc], .slice xa N cap] w (GrowRet (levG N A S) N w) := by
  obtain ⟨i0, hi, hz0, hz1, hz2⟩ := info_parts infoF
  obtain ⟨xb, xo, hxa, hcx⟩ := id hX
  have HX := Lib.hid hcx
  have e := hxa (by omega)
  subst e
  have HL := Lib.hid hL
  have HRX := Lib.hid hX
  have HRA := Lib.hid hA
  have HS := Lib.hid hS
  have hb : i0.bytes * N ≤ 281474976710656 := by rw [hz2]; omega
  have hm : N ≤ maxLen := by unfold maxLen; omega
  have HQ := boxF_alloc w N L rc ra 151
  have HA : Below w.heap.size w (w.alloc (.cells #[.int .i64 (N : Int), .slice ra L rc] 151)) := (Below.refl _ _).alloc (Nat.le_refl _) _
  clear hcx hL hX hA hS
  go_enter Try.func138, Try.ntmps138
  go_wp2_with (at_make; refine wpList_make_full _ rfl _ _ 33 rfl w.heap.size 22 i0 (.float .f32 0) 1 Try.underlying33 hi hz0 hz1 _ _ _ _ N rfl rfl rfl rfl hb hm (by simp) ?_)
  intro w2 hown hgr
  rw [madeF] at hown
  have hB2 := (Below.refl (w.heap.size + 1) (w.alloc (.cells #[.int .i64 (N : Int), .slice ra L rc] 151))).grown hgr (by simp) (fun _ h => by cases h)
  have hB2' : Below (w.alloc (.cells #[.int .i64 (N : Int), .slice ra L rc] 151)).heap.size (w.alloc (.cells #[.int .i64 (N : Int), .slice ra L rc] 151)) w2 := by simpa using hB2
  have HQ2 := HQ.below hB2'
  have HB : Below w.heap.size w w2 := HA.trans (hB2'.mono (by simp))
  have hown' : w2.ownsRow w.heap.size 22 1 (.slice (some ⟨w.heap.size + 1, 0, none⟩) N N) N (rowOf (fun _ => 0) N) := by simpa using hown
  have hL0 : LikeP (fun _ => 0) (fun j => if j < 0 then levG N A S j else 0) N := fun j _ => ⟨0, by show (0 : Nat) = pick .f32 (if j < 0 then levG N A S j else 0) 0; rw [if_neg (Nat.not_lt_zero _), pick_num (by decide +kernel)]⟩
  clear hgr hb hm hi hz0 hz1 hz2 hown hB2 hB2' HQ HA
  have hpl := fun op => fbin_pick_l op .f32
  have hpr := fun op => fbin_pick_r op .f32
  go_wp2
  go_loopw [15] (fun i wr => ∃ (c : Nat) (Z : Nat → Nat), c ≤ N ∧ i = .int .i64 (c : Int) ∧ wr.ownsRow w.heap.size 22 1 (.slice (some ⟨w.heap.size + 1, 0, none⟩) N N) N (rowOf Z N) ∧ LikeP Z (fun j => if j < c then levG N A S j else 0) N ∧ BoxF wr w.heap.size N ra L rc ∧ Below w.heap.size w wr) (fun i _ => N - (intOf i).toNat)
  case atStart => exact ⟨0, _, Nat.zero_le _, rfl, hown', hL0, HQ2, HB⟩
  case round =>
    obtain ⟨c, Z, hc, rfl, hownk, hlk, hq, HD⟩ := hrel
    clear hown' hL0 HQ2 HB
    by_cases hlt : c < N
    · have r1 := HX.out c hlt
      have hxl := World.block_lt_of_cell? w _ r1
      have r2 : wr.cell? ⟨xb, xo + c, none⟩ = some (.float .f32 (Xs c)) := (HD.cell (p := ⟨xb, xo + c, none⟩) hxl).trans r1
      have hcn : (c : Int) < (N : Int) := by omega
      have HI := Lib.hid (into_any N c ra L rc A wr (HRA.out.below HD) HL.out hn h1 hlt)
      have hltw := own_lt hownk
      have HOk := Lib.hid hownk
      have HLk := Lib.hid hlk
      have HQk := Lib.hid hq
      have HDk := Lib.hid HD
      obtain ⟨q0, q1⟩ := hq
      clear hownk hlk r1 HD
      go_wp2_with fail
      refine HI.out.mono ?_
      rintro e w3 ⟨g, rfl, o3, b3⟩
      have HB3 := HDk.out.trans (b3.mono HDk.out.size)
      have hd3 := DotNumbers_any (some ⟨xb, xo, none⟩) (some ⟨g, 0, none⟩) N cap N Xs (lvI N A c) w3 (HRX.out.below HB3) (rd_own o3) (by omega)
      have HD3 := Lib.hid hd3
      have HO3 := Lib.hid (own_below HOk.out b3)
      have HQ3 := Lib.hid (HQk.out.below b3)
      clear hd3 q0 q1 r2 o3 b3
      go_wp2_with fail
      refine HD3.out.mono ?_
      rintro e w4 ⟨s4, q4, rfl, rfl⟩
      obtain ⟨q0, q1⟩ := HQ3.out
      have HW := Lib.hid (away_any N c ra L rc A (w3.drewN q4) (HRA.out.below (Below.drewN HB3 _)) HL.out hrc hn h1 hlt)
      go_wp2_with fail
      refine HW.out.mono ?_
      rintro e w5 ⟨s5, rfl, b5⟩
      have HB5 := (Below.drewN HB3 q4).trans (b5.mono (Below.drewN HB3 q4).size)
      have ho5 := own_below (own_drew HO3.out q4) b5
      have HQ5 := Lib.hid (BoxF.below (show BoxF (w3.drewN q4) w.heap.size N ra L rc from HQ3.out) b5)
      have HO5 := Lib.hid ho5
      have st := fun q u => own_store ho5 hlt q u
      obtain ⟨D, hD⟩ : ∃ D, fbin .sub .f32 (dotW Xs (lvI N A c) N) (fbin .mul .f32 (Xs c) (lvO N A c)) = D := ⟨_, rfl⟩
      have HG := Lib.hid (show levG N A S c = D by rw [← levG_likeP HS.out hlt, ← hD]; rfl)
      obtain ⟨V1, hV1⟩ : ∃ V, dotW Xs (lvI N A c) N = V := ⟨_, rfl⟩
      obtain ⟨V2, hV2⟩ : ∃ V, lvO N A c = V := ⟨_, rfl⟩
      obtain ⟨V3, hV3⟩ : ∃ V, Xs c = V := ⟨_, rfl⟩
      rw [hV1, hV2, hV3] at hD
      rw [hV1, hV2, hV3]
      have HR := Lib.hid (show ∀ t, LikeP (fun p => if p = c then pick .f32 D t else Z p) (fun j => if j < c + 1 then levG N A S j else 0) N from fun t => (HLk.out.set (k := c) rfl).congr fun p hp => by
        by_cases e : p = c
        · rw [if_pos e, e, if_pos (by omega), HG.out]
        · rw [if_neg e]
          by_cases e2 : p < c
          · rw [if_pos e2, if_pos (by omega)]
          · rw [if_neg e2, if_neg (by omega)])
      clear q0 q1 b5 ho5 hV1 hV2 hV3
      go_wp2_with (first | ((with_reducible refine wpL_fbin ?_); refine ⟨_, _, _, rfl, rfl, rfl, fun s n => ?_⟩))
      go_roundw
      case rel => exact ⟨c + 1, _, by omega, by go_num, own_stored (own_drew HO5.out _) c _, HR.out _, BoxF.only (show BoxF (w5.drewN _) w.heap.size N ra L rc from HQ5.out) (by omega) ((Only.refl (w.heap.size + 1) _).setCell c _), Below.setCell (Below.drewN HB5 _) (by simp) _⟩
      case measure => simp [intOf]; omega
    · have hcn : c = N := by omega
      subst hcn
      have hl2 : LikeP Z (levG c A S) c := hlk.congr fun j hj => by rw [if_pos hj]
      have HO := Lib.hid hownk
      have HL2 := Lib.hid hl2
      clear hownk hlk hl2 hq
      go_wp2
      go_ret
      exact ⟨_, Z, rfl, HO.out, HL2.out, HD⟩
end Go.Proofs.Ytmpcalpapkedhaa
