/- The levels of a box: as the model tells them, and as the program does. -/
import Derived.Test.YtdoaajmojfdjoaaSwing
namespace Go.Proofs.Ytdoaajmojfdjoaa
open Go Go.ChangeShapes Go.WideShapes Go.ChangeAt Go.RowKit

def boxQ (width : Nat) (j : Nat) : Nat := fbin .quo .f32 (fbin .mul .f32 (floatOfInt .f32 ((j : Int) + 1)) 1078530011) width
def boxR (width : Nat) (j : Nat) : Nat := fbin .mul .f32 (boxQ width j) (boxQ width j)
set_option maxRecDepth 100000 in
set_option maxHeartbeats 3200000 in
theorem specBox_yes (width : Nat) (c : Nat) (w : World) (hr : isP width = true) (h1 : 1 ≤ c) (h2 : c ≤ 48) :
    Calls Try.prog 31 #[.float .f32 width, .int .i64 (c : Int)] w (LevRet (boxR width) c w) := by
  obtain ⟨i0, hi, hz0, hz1, hz2⟩ := info_parts infoF
  have d1 : inB (c : Int) 1 48 = true := inB_yes (by omega) (by omega)
  have hp := fun op => fbin_pick_l op .f32
  have hq := fun op => fbin_pick_r op .f32
  go_enter Try.func31, Try.ntmps31
  go_wp2_with (first | (go_at_call 64; refine (l02Above_any _ _).mono ?_; rintro e w' ⟨rfl, q, rfl⟩) | (go_at_call 65; refine (l02Few_any _ _).mono ?_; rintro e w' ⟨rfl, rfl⟩))
  go_loopw [6, 7] (fun v i wr => ∃ (k : Nat) (X : Nat → Nat), k ≤ c ∧ i = .int .i64 ((k : Int) + 1) ∧ wr.ownsRow w.heap.size 32 1 v k (rowOf X k) ∧ Like X (boxR width) k ∧ Below w.heap.size w wr) (fun _ i _ => c + 1 - (intOf i).toNat)
  case atStart => exact ⟨0, fun _ => 0, Nat.zero_le _, rfl, own_empty _ _, fun _ h => absurd h (Nat.not_lt_zero _), Below.alloc (Below.drewN (Below.refl _ _) _) (Nat.le_refl _) _⟩
  case round =>
    obtain ⟨k, X, hk, rfl, hownk, hL, hBk⟩ := hrel
    have hsz := hBk.size
    by_cases hlt : k < c
    · go_wp2_with (first | ((with_reducible refine wpL_fbin ?_); refine ⟨_, _, _, rfl, rfl, rfl, fun s n => ?_⟩) | (at_builtin; refine wpL_push hi hz0 hz1 hz2 rfl rfl rfl rfl (by exact hownk) (by omega) (by exact hsz) ?_; intro v' w1 hown' hB'))
      go_roundw
      case rel => exact ⟨k + 1, _, by omega, by go_num, hown', like_push hL rfl, Below.trans (Below.drewN hBk _) hB'⟩
      case measure => simp [intOf]; omega
    · have hkc : k = c := by omega
      subst hkc
      cases hf : finL X k
      · go_wp2_with (go_at_call 66; refine (l02List_any _ w.heap.size k X _ hownk (by omega)).mono ?_; rintro e w' ⟨rfl, q, rfl⟩)
        go_ret2
        exact levRet_no hf hL hBk
      · go_wp2_with (go_at_call 66; refine (l02List_any _ w.heap.size k X _ hownk (by omega)).mono ?_; rintro e w' ⟨rfl, q, rfl⟩)
        go_ret2
        exact levRet_yes hf hL hownk hBk
theorem specBox_no (width : Nat) (c : Int) (w : World) (h : isP width = false ∨ c < 1 ∨ 48 < c) :
    Calls Try.prog 31 #[.float .f32 width, .int .i64 c] w (OutRet (boxR width) 0 false w) := by
  cases hr : isP width
  · clear h
    go_enter Try.func31, Try.ntmps31
    go_wp2_with (first | (go_at_call 64; refine (l02Above_any _ _).mono ?_; rintro e w' ⟨rfl, q, rfl⟩) | (go_at_call 65; refine (l02Few_any _ _).mono ?_; rintro e w' ⟨rfl, rfl⟩))
    go_ret2
    exact OutRet.no (Below.drewN (Below.refl _ _) _)
  · have d1 : inB c 1 48 = false := by
      rcases h with h | h | h
      · rw [hr] at h; cases h
      · exact inB_lo h
      · exact inB_hi h
    clear h
    go_enter Try.func31, Try.ntmps31
    go_wp2_with (first | (go_at_call 64; refine (l02Above_any _ _).mono ?_; rintro e w' ⟨rfl, q, rfl⟩) | (go_at_call 65; refine (l02Few_any _ _).mono ?_; rintro e w' ⟨rfl, rfl⟩))
    go_ret2
    exact OutRet.no (Below.drewN (Below.refl _ _) _)
/-- The closure that tells the level: its width lies in a cell. -/
theorem box1_any (k : Nat) (width : Nat) (g : Nat) (w : World) (hg : w.cell? ⟨g, 0, none⟩ = some (.float .f32 width)) (_ : k < 48) :
    Calls Try.prog 68 #[.int .i64 ((k : Int) + 1), .pointer (some ⟨g, 0, none⟩)] w (FltRetL (boxR width k) w) := by
  have hp := fun op => fbin_pick_l op .f32
  have hq := fun op => fbin_pick_r op .f32
  go_enter Try.func68, Try.ntmps68
  go_wp2_with ((with_reducible refine wpL_fbin ?_); refine ⟨_, _, _, rfl, rfl, rfl, fun s n => ?_⟩)
  go_ret
  exact ⟨_, _, rfl, rfl⟩
set_option maxRecDepth 100000 in
set_option maxHeartbeats 3200000 in
theorem firstBox_any (width : Nat) (c : Nat) (g : Nat) (w : World) (hg : w.cell? ⟨g, 0, none⟩ = some (.float .f32 width)) (h1 : 1 ≤ c) (h2 : c ≤ 48) :
    Calls Try.prog 67 #[.int .i64 (c : Int), .func (.func 68) #[] #[.pointer (some ⟨g, 0, none⟩)]] w (LevRet (boxR width) c w) := by
  obtain ⟨i0, hi, hz0, hz1, hz2⟩ := info_parts infoF
  have hb : i0.bytes * c ≤ 281474976710656 := by rw [hz2]; omega
  have hm : c ≤ maxLen := by unfold maxLen; omega
  have hgl : g < w.heap.size := World.block_lt_of_cell? w _ hg
  go_enter Try.func67, Try.ntmps67
  go_wp2_with (at_make; refine wpList_make_full _ rfl _ _ 22 rfl w.heap.size 32 i0 (.float .f32 0) 1 Try.underlying22 hi hz0 hz1 _ _ _ _ c rfl rfl rfl rfl hb hm (Nat.le_refl _) ?_)
  intro w1 hown hgr
  rw [madeF] at hown
  have hB : Below w.heap.size w w1 := (Below.refl _ w).grown hgr (Nat.le_refl _) (fun _ h => by cases h)
  clear hgr hb hm hi hz0 hz1 hz2
  go_wp2
  go_loopw [18] (fun i wr => ∃ (k : Nat) (X : Nat → Nat), k ≤ c ∧ i = .int .i64 k ∧ wr.ownsRow w.heap.size 32 1 (.slice (some ⟨w.heap.size, 0, none⟩) c c) c (rowOf X c) ∧ Like X (boxR width) k ∧ Below w.heap.size w wr) (fun i _ => c - (intOf i).toNat)
  case atStart => exact ⟨0, fun _ => 0, Nat.zero_le _, rfl, hown, fun _ h => absurd h (Nat.not_lt_zero _), hB⟩
  case round =>
    obtain ⟨k, X, hk, rfl, hownk, hL, hBk⟩ := hrel
    have hgk : wr.cell? ⟨g, 0, none⟩ = some (.float .f32 width) := (hBk.cell (p := ⟨g, 0, none⟩) hgl).trans hg
    clear hown hB
    by_cases hlt : k < c
    · go_wp2_with fail
      refine (box1_any k width g wr hgk (by omega)).mono ?_
      rintro e w' ⟨s, m, rfl, rfl⟩
      obtain ⟨u, hu⟩ : ∃ u, u = pick .f32 (boxR width k) s := ⟨_, rfl⟩
      rw [← hu]
      have HU := Lib.hid hu
      clear hu
      have hownm := own_drew hownk m
      have hfz := hownm.frozenAt k
      have hcl : (wr.drewN m).cell? ⟨w.heap.size, k, none⟩ = some (.float .f32 (X k)) := by rw [hownm.cellAt k (by omega), rowOf_get _ _ _ hlt]
      have hst := (hownm.stored k (.float .f32 u)).1
      rw [rowOf_set] at hst
      have hB' : Below w.heap.size w ((wr.drewN m).setCell ⟨w.heap.size, k, none⟩ (.float .f32 u)) := (Below.drewN hBk m).setCell (Nat.le_refl _) _
      have hsf := store_float (wr.drewN m) ⟨w.heap.size, k, none⟩ u hcl hfz
      have hL' := Lib.hid (like_push hL HU.out)
      clear hownk hownm hBk hgk hcl hfz
      go_wp2
      go_roundw
      case rel => exact ⟨k + 1, _, by omega, by go_num, hst, hL'.out, hB'⟩
      case measure => simp [intOf]; omega
    · have hkc : k = c := by omega
      subst hkc
      have hRd := rd_own hownk
      cases hf : finL X k
      · go_wp2_with (go_at_call 51; refine (allFinite_any _ _ _ X _ hRd (by omega)).mono ?_; rintro e w' ⟨rfl, q, rfl⟩)
        go_ret2
        exact levRet_no hf hL hBk
      · go_wp2_with (go_at_call 51; refine (allFinite_any _ _ _ X _ hRd (by omega)).mono ?_; rintro e w' ⟨rfl, q, rfl⟩)
        go_ret2
        exact levRet_yes hf hL hownk hBk
set_option maxHeartbeats 1600000 in
theorem implBox_yes (width : Nat) (c : Nat) (w : World) (hr : isP width = true) (h1 : 1 ≤ c) (h2 : c ≤ 48) :
    Calls Try.prog 32 #[.float .f32 width, .int .i64 (c : Int)] w (LevRet (boxR width) c w) := by
  go_enter Try.func32, Try.ntmps32
  go_wp2_with (go_at_call 60; refine (isPositive_any _ _).mono ?_; rintro e w' ⟨rfl, q, rfl⟩)
  refine (firstBox_any width c _ _ ?_ h1 h2).mono ?_
  · simp
  rintro e w' h
  have h' : LevRet (boxR width) c w e w' := outRet_grown (Below.drewN (Below.alloc (Below.refl _ _) (Nat.le_refl _) _) _) h
  obtain ⟨v, X, rfl, hown, hL, hb⟩ := h'
  clear h
  go_wp2
  go_ret2
  exact ⟨v, X, rfl, hown, hL, hb⟩
theorem implBox_no (width : Nat) (c : Int) (w : World) (h : isP width = false ∨ c < 1 ∨ 48 < c) :
    Calls Try.prog 32 #[.float .f32 width, .int .i64 c] w (OutRet (boxR width) 0 false w) := by
  cases hr : isP width
  · clear h
    go_enter Try.func32, Try.ntmps32
    go_wp2_with (go_at_call 60; refine (isPositive_any _ _).mono ?_; rintro e w' ⟨rfl, q, rfl⟩)
    go_ret2
    exact OutRet.no (Below.drewN (Below.alloc (Below.refl _ _) (Nat.le_refl _) _) _)
  · have d1 : c < 1 ∨ 48 < c := by
      rcases h with h | h
      · rw [hr] at h; cases h
      · exact h
    clear h
    go_enter Try.func32, Try.ntmps32
    go_wp2_with (go_at_call 60; refine (isPositive_any _ _).mono ?_; rintro e w' ⟨rfl, q, rfl⟩)
    refine (firstLevels_no _ _ _ d1 (boxR width)).mono ?_
    rintro e w' h
    have h' : OutRet (boxR width) 0 false w e w' := outRet_grown (Below.drewN (Below.alloc (Below.refl _ _) (Nat.le_refl _) _) _) h
    obtain ⟨v, X, rfl, hown, hL, hb⟩ := h'
    clear h
    go_wp2
    go_ret2
    exact ⟨v, X, rfl, hown, hL, hb⟩
end Go.Proofs.Ytdoaajmojfdjoaa
