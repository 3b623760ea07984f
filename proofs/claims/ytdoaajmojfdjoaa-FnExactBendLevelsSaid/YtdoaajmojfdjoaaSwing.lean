/- The levels of what swings: as the model tells them, and as the program does. -/
import Derived.Test.YtdoaajmojfdjoaaPush
namespace Go.Proofs.Ytdoaajmojfdjoaa
open Go Go.ChangeShapes Go.WideShapes Go.ChangeAt Go.RowKit

def swingR (rate : Nat) (j : Nat) : Nat := fbin .mul .f32 rate (floatOfInt .f32 (2 * ((j : Int) + 1) - 1))
def FltRetL (R : Nat) (w : World) (e : Ending) (w' : World) : Prop := ∃ s m, e = .returned (.float .f32 (pick .f32 R s)) ∧ w' = w.drewN m
/-- What the levels are, and whether there are any. -/
def LevRet (R : Nat → Nat) (c : Nat) (w : World) (e : Ending) (w' : World) : Prop := OutRet R (if finL R c = true then c else 0) (finL R c) w e w'
theorem levRet_yes {R X : Nat → Nat} {c : Nat} {v : Value} {w w' : World} {m : Nat} (hf : finL X c = true) (hL : Like X R c) (hown : w'.ownsRow w.heap.size 32 1 v c (rowOf X c)) (hb : Below w.heap.size w w') :
    LevRet R c w (.returned (.tuple #[v, .bool true])) (w'.drewN m) := by
  rw [finL_like hL] at hf
  unfold LevRet
  rw [hf]
  exact ⟨v, X, rfl, hown, hL, Below.drewN hb m⟩
theorem levRet_no {R X : Nat → Nat} {c : Nat} {w w' : World} {m : Nat} (hf : finL X c = false) (hL : Like X R c) (hb : Below w.heap.size w w') : LevRet R c w (.returned (.tuple #[.slice none 0 0, .bool false])) (w'.drewN m) := by
  rw [finL_like hL] at hf
  unfold LevRet
  rw [hf]
  exact OutRet.no (Below.drewN hb m)
set_option maxRecDepth 100000 in
set_option maxHeartbeats 3200000 in
theorem specSwing_yes (rate : Nat) (c : Nat) (w : World) (hr : isP rate = true) (h1 : 1 ≤ c) (h2 : c ≤ 48) :
    Calls Try.prog 36 #[.float .f32 rate, .int .i64 (c : Int)] w (LevRet (swingR rate) c w) := by
  obtain ⟨i0, hi, hz0, hz1, hz2⟩ := info_parts infoF
  have d1 : inB (c : Int) 1 48 = true := inB_yes (by omega) (by omega)
  go_enter Try.func36, Try.ntmps36
  go_wp2_with (first | (go_at_call 64; refine (l02Above_any _ _).mono ?_; rintro e w' ⟨rfl, q, rfl⟩) | (go_at_call 65; refine (l02Few_any _ _).mono ?_; rintro e w' ⟨rfl, rfl⟩))
  go_loopw [6, 7] (fun v i wr => ∃ (k : Nat) (X : Nat → Nat), k ≤ c ∧ i = .int .i64 ((k : Int) + 1) ∧ wr.ownsRow w.heap.size 32 1 v k (rowOf X k) ∧ Like X (swingR rate) k ∧ Below w.heap.size w wr) (fun _ i _ => c + 1 - (intOf i).toNat)
  case atStart => exact ⟨0, fun _ => 0, Nat.zero_le _, rfl, own_empty _ _, fun _ h => absurd h (Nat.not_lt_zero _), Below.alloc (Below.drewN (Below.refl _ _) _) (Nat.le_refl _) _⟩
  case round =>
    obtain ⟨k, X, hk, rfl, hownk, hL, hBk⟩ := hrel
    have hsz := hBk.size
    by_cases hlt : k < c
    · go_wp2_with (first | ((with_reducible refine wpL_fbin ?_); refine ⟨_, _, _, rfl, rfl, rfl, fun s n => ?_⟩) | (at_builtin; refine wpL_push hi hz0 hz1 hz2 rfl rfl rfl rfl (by exact hownk) (by omega) (by exact hsz) ?_; intro v' w1 hown' hB'))
      go_roundw
      case rel => exact ⟨k + 1, _, by omega, by go_num, hown', like_push hL rfl, Below.trans (Below.drewN hBk _) hB'⟩
      case measure => simp [intOf]; omega
    · have hkc : k = c := by omega
      subst hkc
      cases hf : finL X k
      · go_wp2_with (go_at_call 66; refine (l02List_any _ w.heap.size k X _ hownk (by omega)).mono ?_; rintro e w' ⟨rfl, q, rfl⟩)
        go_ret2
        exact levRet_no hf hL hBk
      · go_wp2_with (go_at_call 66; refine (l02List_any _ w.heap.size k X _ hownk (by omega)).mono ?_; rintro e w' ⟨rfl, q, rfl⟩)
        go_ret2
        exact levRet_yes hf hL hownk hBk
theorem specSwing_no (rate : Nat) (c : Int) (w : World) (h : isP rate = false ∨ c < 1 ∨ 48 < c) :
    Calls Try.prog 36 #[.float .f32 rate, .int .i64 c] w (OutRet (swingR rate) 0 false w) := by
  cases hr : isP rate
  · clear h
    go_enter Try.func36, Try.ntmps36
    go_wp2_with (first | (go_at_call 64; refine (l02Above_any _ _).mono ?_; rintro e w' ⟨rfl, q, rfl⟩) | (go_at_call 65; refine (l02Few_any _ _).mono ?_; rintro e w' ⟨rfl, rfl⟩))
    go_ret2
    exact OutRet.no (Below.drewN (Below.refl _ _) _)
  · have d1 : inB c 1 48 = false := by
      rcases h with h | h | h
      · rw [hr] at h; cases h
      · exact inB_lo h
      · exact inB_hi h
    clear h
    go_enter Try.func36, Try.ntmps36
    go_wp2_with (first | (go_at_call 64; refine (l02Above_any _ _).mono ?_; rintro e w' ⟨rfl, q, rfl⟩) | (go_at_call 65; refine (l02Few_any _ _).mono ?_; rintro e w' ⟨rfl, rfl⟩))
    go_ret2
    exact OutRet.no (Below.drewN (Below.refl _ _) _)
/-- The closure that tells the level: its rate lies in a cell. -/
theorem swing1_any (k : Nat) (rate : Nat) (g : Nat) (w : World) (hg : w.cell? ⟨g, 0, none⟩ = some (.float .f32 rate)) (hk : k < 48) :
    Calls Try.prog 69 #[.int .i64 ((k : Int) + 1), .pointer (some ⟨g, 0, none⟩)] w (FltRetL (swingR rate k) w) := by
  go_enter Try.func69, Try.ntmps69
  go_wp2_with ((with_reducible refine wpL_fbin ?_); refine ⟨_, _, _, rfl, rfl, rfl, fun s n => ?_⟩)
  go_ret
  exact ⟨_, _, rfl, rfl⟩
set_option maxRecDepth 100000 in
set_option maxHeartbeats 3200000 in
theorem firstSwing_any (rate : Nat) (c : Nat) (g : Nat) (w : World) (hg : w.cell? ⟨g, 0, none⟩ = some (.float .f32 rate)) (h1 : 1 ≤ c) (h2 : c ≤ 48) :
    Calls Try.prog 67 #[.int .i64 (c : Int), .func (.func 69) #[] #[.pointer (some ⟨g, 0, none⟩)]] w (LevRet (swingR rate) c w) := by
  obtain ⟨i0, hi, hz0, hz1, hz2⟩ := info_parts infoF
  have hb : i0.bytes * c ≤ 281474976710656 := by rw [hz2]; omega
  have hm : c ≤ maxLen := by unfold maxLen; omega
  have hgl : g < w.heap.size := World.block_lt_of_cell? w _ hg
  go_enter Try.func67, Try.ntmps67
  go_wp2_with (at_make; refine wpList_make_full _ rfl _ _ 22 rfl w.heap.size 32 i0 (.float .f32 0) 1 Try.underlying22 hi hz0 hz1 _ _ _ _ c rfl rfl rfl rfl hb hm (Nat.le_refl _) ?_)
  intro w1 hown hgr
  rw [madeF] at hown
  have hB : Below w.heap.size w w1 := (Below.refl _ w).grown hgr (Nat.le_refl _) (fun _ h => by cases h)
  clear hgr hb hm hi hz0 hz1 hz2
  go_wp2
  go_loopw [18] (fun i wr => ∃ (k : Nat) (X : Nat → Nat), k ≤ c ∧ i = .int .i64 k ∧ wr.ownsRow w.heap.size 32 1 (.slice (some ⟨w.heap.size, 0, none⟩) c c) c (rowOf X c) ∧ Like X (swingR rate) k ∧ Below w.heap.size w wr) (fun i _ => c - (intOf i).toNat)
  case atStart => exact ⟨0, fun _ => 0, Nat.zero_le _, rfl, hown, fun _ h => absurd h (Nat.not_lt_zero _), hB⟩
  case round =>
    obtain ⟨k, X, hk, rfl, hownk, hL, hBk⟩ := hrel
    have hgk : wr.cell? ⟨g, 0, none⟩ = some (.float .f32 rate) := (hBk.cell (p := ⟨g, 0, none⟩) hgl).trans hg
    clear hown hB
    by_cases hlt : k < c
    · go_wp2_with fail
      refine (swing1_any k rate g wr hgk (by omega)).mono ?_
      rintro e w' ⟨s, m, rfl, rfl⟩
      obtain ⟨u, hu⟩ : ∃ u, u = pick .f32 (swingR rate k) s := ⟨_, rfl⟩
      rw [← hu]
      have HU := Lib.hid hu
      clear hu
      have hownm := own_drew hownk m
      have hfz := hownm.frozenAt k
      have hcl : (wr.drewN m).cell? ⟨w.heap.size, k, none⟩ = some (.float .f32 (X k)) := by rw [hownm.cellAt k (by omega), rowOf_get _ _ _ hlt]
      have hst := (hownm.stored k (.float .f32 u)).1
      rw [rowOf_set] at hst
      have hB' : Below w.heap.size w ((wr.drewN m).setCell ⟨w.heap.size, k, none⟩ (.float .f32 u)) := (Below.drewN hBk m).setCell (Nat.le_refl _) _
      have hsf := store_float (wr.drewN m) ⟨w.heap.size, k, none⟩ u hcl hfz
      have hL' := Lib.hid (like_push hL HU.out)
      clear hownk hownm hBk hgk hcl hfz
      go_wp2
      go_roundw
      case rel => exact ⟨k + 1, _, by omega, by go_num, hst, hL'.out, hB'⟩
      case measure => simp [intOf]; omega
    · have hkc : k = c := by omega
      subst hkc
      have hRd := rd_own hownk
      cases hf : finL X k
      · go_wp2_with (go_at_call 51; refine (allFinite_any _ _ _ X _ hRd (by omega)).mono ?_; rintro e w' ⟨rfl, q, rfl⟩)
        go_ret2
        exact levRet_no hf hL hBk
      · go_wp2_with (go_at_call 51; refine (allFinite_any _ _ _ X _ hRd (by omega)).mono ?_; rintro e w' ⟨rfl, q, rfl⟩)
        go_ret2
        exact levRet_yes hf hL hownk hBk
theorem firstLevels_no (c : Int) (f : Value) (w : World) (h : c < 1 ∨ 48 < c) (R : Nat → Nat) : Calls Try.prog 67 #[.int .i64 c, f] w (OutRet R 0 false w) := by
  by_cases h1 : c < 1
  · have d1 : decide (c < 1) = true := decide_eq_true h1
    clear h
    go_enter Try.func67, Try.ntmps67
    go_wp2
    go_ret2
    exact OutRet.no (Below.refl _ _)
  · have d1 : decide (c < 1) = false := decide_eq_false h1
    have d2 : decide (48 < c) = true := decide_eq_true (by omega)
    clear h
    go_enter Try.func67, Try.ntmps67
    go_wp2
    go_ret2
    exact OutRet.no (Below.refl _ _)
/-- What a callee tells in a world that has grown. -/
theorem outRet_grown {R : Nat → Nat} {n : Nat} {ok : Bool} {w w1 w' : World} {e : Ending} (hb : Below w.heap.size w w1) (h : OutRet R n ok w1 e w') : OutRet R n ok w e w' := by
  obtain ⟨v, X, he, hown, hL, hb'⟩ := h
  refine ⟨v, X, he, ⟨hown.1, ?_⟩, hL, hb.trans (hb'.mono hb.size)⟩
  rcases hown.2 with h2 | ⟨g, cap, cur, h1, h2, h3⟩
  · exact .inl h2
  · exact .inr ⟨g, cap, cur, h1, Nat.le_trans hb.size h2, h3⟩
set_option maxHeartbeats 1600000 in
theorem implSwing_yes (rate : Nat) (c : Nat) (w : World) (hr : isP rate = true) (h1 : 1 ≤ c) (h2 : c ≤ 48) :
    Calls Try.prog 37 #[.float .f32 rate, .int .i64 (c : Int)] w (LevRet (swingR rate) c w) := by
  go_enter Try.func37, Try.ntmps37
  go_wp2_with (go_at_call 60; refine (isPositive_any _ _).mono ?_; rintro e w' ⟨rfl, q, rfl⟩)
  refine (firstSwing_any rate c _ _ ?_ h1 h2).mono ?_
  · simp
  rintro e w' h
  have h' : LevRet (swingR rate) c w e w' := outRet_grown (Below.drewN (Below.alloc (Below.refl _ _) (Nat.le_refl _) _) _) h
  obtain ⟨v, X, rfl, hown, hL, hb⟩ := h'
  clear h
  go_wp2
  go_ret2
  exact ⟨v, X, rfl, hown, hL, hb⟩
theorem implSwing_no (rate : Nat) (c : Int) (w : World) (h : isP rate = false ∨ c < 1 ∨ 48 < c) :
    Calls Try.prog 37 #[.float .f32 rate, .int .i64 c] w (OutRet (swingR rate) 0 false w) := by
  cases hr : isP rate
  · clear h
    go_enter Try.func37, Try.ntmps37
    go_wp2_with (go_at_call 60; refine (isPositive_any _ _).mono ?_; rintro e w' ⟨rfl, q, rfl⟩)
    go_ret2
    exact OutRet.no (Below.drewN (Below.alloc (Below.refl _ _) (Nat.le_refl _) _) _)
  · have d1 : c < 1 ∨ 48 < c := by
      rcases h with h | h
      · rw [hr] at h; cases h
      · exact h
    clear h
    go_enter Try.func37, Try.ntmps37
    go_wp2_with (go_at_call 60; refine (isPositive_any _ _).mono ?_; rintro e w' ⟨rfl, q, rfl⟩)
    refine (firstLevels_no _ _ _ d1 (swingR rate)).mono ?_
    rintro e w' h
    have h' : OutRet (swingR rate) 0 false w e w' := outRet_grown (Below.drewN (Below.alloc (Below.refl _ _) (Nat.le_refl _) _) _) h
    obtain ⟨v, X, rfl, hown, hL, hb⟩ := h'
    clear h
    go_wp2
    go_ret2
    exact ⟨v, X, rfl, hown, hL, hb⟩
end Go.Proofs.Ytdoaajmojfdjoaa
