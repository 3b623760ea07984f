
/- The laws' own copying and comparing of lists of lines. -/
import Derived.Test.YtmpcalpapkedhaaLns
import Derived.Test.YtmpcalpapkedhaaSame
import Derived.Test.YtmpcalpapkedhaaLiC
import Derived.Deep.QuietTactic
import Derived.BigQuiet
import Derived.StillTailTactics
namespace Go.Proofs.Ytmpcalpapkedhaa
open Go Go.ChangeShapes Go.WideShapes Go.ChangeAt Go.RowKit

theorem infoN : (Try.prog.info? 120).map (fun i => (i.zero, i.size, i.bytes)) = some (some (.agg #[.float .f32 0, .float .f32 0, .float .f32 0, .int .i64 0]), 4, 24) := by kernel_rfl
theorem rowN_set (X : Nat → Ln) (n k : Nat) (l : Ln) (hk : k < n) :
    ((((rowN X n).set (k * 4) (.float .f32 l.p)).set (k * 4 + 1) (.float .f32 l.h)).set (k * 4 + 2) (.float .f32 l.d)).set (k * 4 + 3) (.int .i64 l.k) = rowN (fun j => if j = k then l else X j) n := by
  apply List.ext_getElem?
  intro i
  by_cases hi : i < n * 4
  · obtain ⟨q, r, rfl, hr⟩ : ∃ q r, i = q * 4 + r ∧ r < 4 := ⟨i / 4, i % 4, by omega, by omega⟩
    have hq : q < n := by omega
    rw [rowN_get _ _ _ _ hq hr]
    have hlen := rowN_length X n
    simp only [List.getElem?_set, List.length_set, hlen]
    by_cases hqk : q = k
    · subst hqk
      rw [if_pos rfl]
      rcases (by omega : r = 0 ∨ r = 1 ∨ r = 2 ∨ r = 3) with rfl | rfl | rfl | rfl
      · rw [if_neg (by omega), if_neg (by omega), if_neg (by omega), if_pos (by omega), if_pos (by omega)]; rfl
      · rw [if_neg (by omega), if_neg (by omega), if_pos (by omega), if_pos (by omega)]; rfl
      · rw [if_neg (by omega), if_pos (by omega), if_pos (by omega)]; rfl
      · rw [if_pos (by omega), if_pos (by omega)]; rfl
    · rw [if_neg (by omega), if_neg (by omega), if_neg (by omega), if_neg (by omega), rowN_get X n q r hq hr, if_neg hqk]
  · rw [List.getElem?_eq_none (by simp [rowN_length]; omega), List.getElem?_eq_none (by simp [rowN_length]; omega)]
/-- A line stored into a list of the call's own. -/
theorem ownN_stored {w : World} {B e g n cap : Nat} {X : Nat → Ln} (h : w.ownsRow B e 4 (.slice (some ⟨g, 0, none⟩) n cap) n (rowN X n)) (k : Nat) (l : Ln) (hk : k < n) :
    ((((w.setCell ⟨g, k * 4, none⟩ (.float .f32 l.p)).setCell ⟨g, k * 4 + 1, none⟩ (.float .f32 l.h)).setCell ⟨g, k * 4 + 2, none⟩ (.float .f32 l.d)).setCell ⟨g, k * 4 + 3, none⟩ (.int .i64 l.k)).ownsRow B e 4 (.slice (some ⟨g, 0, none⟩) n cap) n (rowN (fun j => if j = k then l else X j) n) := by
  have h1 := (h.stored (k * 4) (.float .f32 l.p)).1
  have h2 := (h1.stored (k * 4 + 1) (.float .f32 l.h)).1
  have h3 := (h2.stored (k * 4 + 2) (.float .f32 l.d)).1
  have h4 := (h3.stored (k * 4 + 3) (.int .i64 l.k)).1
  rw [rowN_set X n k l hk] at h4
  exact h4
theorem ownN_cells {w : World} {B e g n cap k : Nat} {X : Nat → Ln} (h : w.ownsRow B e 4 (.slice (some ⟨g, 0, none⟩) n cap) n (rowN X n)) (hk : k < n) : LnIn w g (k * 4) (X k) := by
  obtain ⟨xa, cap', hv, _, _, b, o, h1, h2⟩ := rdN_of_own h
  cases hv
  have e := h1 (by omega)
  cases e
  have := h2 k hk
  rw [Nat.zero_add] at this
  exact this
theorem rdN_own {w : World} {B e n cap : Nat} {xa : Option Addr} {X : Nat → Ln} (h : w.ownsRow B e 4 (.slice xa n cap) n (rowN X n)) : RdN w xa n X := by
  obtain ⟨xa', cap', hv, _, _, hr⟩ := rdN_of_own h
  cases hv
  exact hr
/-- What is owned stays so where all that was there is as it was. -/
theorem ownS_below {w w' : World} {B e z : Nat} {v : Value} {n : Nat} {xs : List Value} (h : w.ownsRow B e z v n xs) (hb : Below w.heap.size w w') : w'.ownsRow B e z v n xs := by
  refine ⟨h.1, ?_⟩
  rcases h.2 with h2 | ⟨g, cap, cur, h1, h2, h3, h4⟩
  · exact .inl h2
  · refine .inr ⟨g, cap, cur, h1, h2, ?_, h4⟩
    have hg : g < w.heap.size := (Array.getElem?_eq_some_iff.1 h3).1
    rw [hb.block g hg]
    exact h3
def zln : Ln := ⟨0, 0, 0, 0⟩
theorem madeN (n : Nat) : (madeCells #[Value.float .f32 0, Value.float .f32 0, Value.float .f32 0, Value.int .i64 0] (n * 4)).toList = rowN (fun _ => zln) n := by
  apply List.ext_getElem?
  intro i
  have hL : ∀ (f : Nat → Value) (m : Nat), ((Array.range m).map f).toList = (List.range m).map f := fun f m => by simp
  unfold madeCells
  rw [hL, List.getElem?_map]
  by_cases hi : i < n * 4
  · rw [List.getElem?_range hi]
    obtain ⟨q, r, rfl, hr⟩ : ∃ q r, i = q * 4 + r ∧ r < 4 := ⟨i / 4, i % 4, by omega, by omega⟩
    rw [rowN_get _ _ _ _ (by omega) hr]
    have hm : (q * 4 + r) % 4 = r := by omega
    show some (#[Value.float .f32 0, Value.float .f32 0, Value.float .f32 0, Value.int .i64 0][(q * 4 + r) % 4]!) = _
    rw [hm]
    rcases (by omega : r = 0 ∨ r = 1 ∨ r = 2 ∨ r = 3) with rfl | rfl | rfl | rfl <;> rfl
  · rw [List.getElem?_eq_none (by simp; omega), List.getElem?_eq_none (by rw [rowN_length]; omega)]
    rfl
/-- A copy that is a list of the call's own. -/
def CopiedN (w : World) (n : Nat) (X : Nat → Ln) (e : Ending) (w' : World) : Prop :=
  e = .returned (.slice (some ⟨w.heap.size, 0, none⟩) n n) ∧ w'.ownsRow w.heap.size 120 4 (.slice (some ⟨w.heap.size, 0, none⟩) n n) n (rowN X n) ∧ Below w.heap.size w w'
set_option maxRecDepth 100000 in
set_option maxHeartbeats 3200000 in
theorem toN_any (xa : Option Addr) (n cap : Nat) (X : Nat → Ln) (w : World) (hX : RdN w xa n X) (hn : n ≤ 1048576) :
    Calls Try.prog 35 #[.slice xa n cap] w (CopiedN w n X) := by
  obtain ⟨i0, hi, hz0, hz1, hz2⟩ := info_parts infoN
  obtain ⟨xb, xo, hxa, hcell⟩ := hX
  have HC := Lib.hid hcell
  clear hcell
  have hb : i0.bytes * n ≤ 281474976710656 := by rw [hz2]; omega
  have hm : n ≤ maxLen := by unfold maxLen; omega
  go_enter Try.func35, Try.ntmps35
  go_wp2_with (at_make; refine wpList_make_full _ rfl _ _ 51 rfl w.heap.size 120 i0 (.agg #[.float .f32 0, .float .f32 0, .float .f32 0, .int .i64 0]) 4 Try.underlying51 hi hz0 hz1 _ _ _ _ n rfl rfl rfl rfl hb hm (Nat.le_refl _) ?_)
  intro w1 hown hgr
  rw [madeN] at hown
  have hB : Below w.heap.size w w1 := (Below.refl _ w).grown hgr (Nat.le_refl _) (fun _ h => by cases h)
  clear hgr hb hm hi hz0 hz1 hz2
  go_wp2
  go_loopw [4] (fun i wr => ∃ k : Nat, k ≤ n ∧ i = .int .i64 k ∧ wr.ownsRow w.heap.size 120 4 (.slice (some ⟨w.heap.size, 0, none⟩) n n) n (rowN (fun j => if j < k then X j else zln) n) ∧ Below w.heap.size w wr) (fun i _ => n - (intOf i).toNat)
  case atStart => exact ⟨0, Nat.zero_le _, rfl, by simpa using hown, hB⟩
  case round =>
    obtain ⟨k, hk, rfl, hownk, hBk⟩ := hrel
    clear hown hB
    by_cases hlt : k < n
    · have e := hxa (by omega)
      subst e
      obtain ⟨r0, r1, r2, r3⟩ := LnAt.below (HC.out k hlt) hBk
      have hsz := hBk.size
      go_wp2_with (go_at_call 95; refine (toLine_any _ _ _ _ _).mono ?_; rintro e w2 ⟨rfl, B0⟩; have O2 := ownS_below hownk B0; have B2 := hBk.trans (B0.mono hsz); obtain ⟨c0, c1, c2, c3⟩ := ownN_cells O2 hlt; have f0 := O2.frozenAt (k * 4); have f1 := O2.frozenAt (k * 4 + 1); have f2 := O2.frozenAt (k * 4 + 2); have f3 := O2.frozenAt (k * 4 + 3); have hst := run_store_f32; have hst2 := run_store_i64; have HO := Lib.hid O2; clear O2 hownk r0 r1 r2 r3)
      go_roundw
      case rel =>
        refine ⟨k + 1, by omega, by go_num, ?_, ?_⟩
        · have h5 := ownN_stored HO.out k (X k) hlt
          rw [rowN_congr (Y := fun j => if j < k + 1 then X j else zln) (fun j _ => by
            by_cases hj : j = k
            · subst hj; simp
            · rw [if_neg hj]; by_cases hj2 : j < k
              · rw [if_pos hj2, if_pos (by omega)]
              · rw [if_neg hj2, if_neg (by omega)])] at h5
          exact h5
        · exact (((B2.setCell (Nat.le_refl _) _).setCell (Nat.le_refl _) _).setCell (Nat.le_refl _) _).setCell (Nat.le_refl _) _
      case measure => simp [intOf]; omega
    · have hkn : k = n := by omega
      subst hkn
      have hown' : wr.ownsRow w.heap.size 120 4 (.slice (some ⟨w.heap.size, 0, none⟩) k k) k (rowN X k) := by
        rw [rowN_congr (Y := X) (fun j hj => by rw [if_pos hj])] at hownk
        exact hownk
      clear hownk
      go_wp2
      go_ret
      exact ⟨rfl, hown', hBk⟩
set_option maxRecDepth 100000 in
set_option maxHeartbeats 1600000 in
theorem eqLine_any (a b c : Nat) (d : Int) (a' b' c' : Nat) (ha : canon .f32 a' = canon .f32 a) (hb : canon .f32 b' = canon .f32 b) (hc : canon .f32 c' = canon .f32 c) (w : World) : Calls Try.prog 99 #[.agg #[.float .f32 a, .float .f32 b, .float .f32 c, .int .i64 d], .agg #[.float .f32 a', .float .f32 b', .float .f32 c', .int .i64 d]] w fun e w' => e = .returned (.bool true) ∧ Below w.heap.size w w' := by
  have hcv : ∀ (x x' s t : Nat), canon .f32 x' = canon .f32 x → canon .f64 (pick .f64 (fconv .f32 x .f64) s) = canon .f64 (pick .f64 (fconv .f32 x' .f64) t) := fun x x' s t h => by rw [canon_pick, canon_pick, fconv_congr h]
  have HC := Lib.hid hcv
  clear hcv
  have hne : (d != d) = false := by simp
  go_enter Try.func99, Try.ntmps99
  go_wp2_with (first | ((with_reducible refine wpL_fconv ?_); refine ⟨_, _, _, rfl, Option.isSome_iff_exists.2 ⟨_, Try.underlying22⟩, Try.underlying76, FloatKind.noConfusion, convOk_widen _, fun s n => ?_⟩))
  refine (sameFloat_any _ _ _ (HC.out _ _ _ _ ha)).mono ?_
  rintro e w' ⟨rfl, q, rfl⟩
  go_wp2_with (first | ((with_reducible refine wpL_fconv ?_); refine ⟨_, _, _, rfl, Option.isSome_iff_exists.2 ⟨_, Try.underlying22⟩, Try.underlying76, FloatKind.noConfusion, convOk_widen _, fun s n => ?_⟩))
  refine (sameFloat_any _ _ _ (HC.out _ _ _ _ hb)).mono ?_
  rintro e w' ⟨rfl, q2, rfl⟩
  go_wp2_with (first | ((with_reducible refine wpL_fconv ?_); refine ⟨_, _, _, rfl, Option.isSome_iff_exists.2 ⟨_, Try.underlying22⟩, Try.underlying76, FloatKind.noConfusion, convOk_widen _, fun s n => ?_⟩))
  refine (sameFloat_any _ _ _ (HC.out _ _ _ _ hc)).mono ?_
  rintro e w' ⟨rfl, q3, rfl⟩
  go_wp2
  go_ret
  refine ⟨rfl, ?_⟩
  (repeat (first | with_reducible exact Below.refl _ _ | with_reducible refine Below.drewN ?_ _ | with_reducible refine Below.setCell ?_ (by simp; try omega) _ | with_reducible refine Below.alloc ?_ (by simp; try omega) _))
/-- Lines that are the same but for the bits of not-a-numbers. -/
def LikeN (X Y : Nat → Ln) (n : Nat) : Prop := ∀ i, i < n → canon .f32 (X i).p = canon .f32 (Y i).p ∧ canon .f32 (X i).h = canon .f32 (Y i).h ∧ canon .f32 (X i).d = canon .f32 (Y i).d ∧ (X i).k = (Y i).k
theorem LikeN.refl (X : Nat → Ln) (n : Nat) : LikeN X X n := fun _ _ => ⟨rfl, rfl, rfl, rfl⟩
set_option maxRecDepth 100000 in
set_option maxHeartbeats 1600000 in
theorem eqN_any (xa ya : Option Addr) (n cx cy : Nat) (X Y : Nat → Ln) (w : World) (hX : RdN w xa n X) (hY : RdN w ya n Y) (hn : n ≤ 1048576) (hL : LikeN X Y n) :
    Calls Try.prog 37 #[.slice xa n cx, .slice ya n cy] w fun e w' => e = .returned (.bool true) ∧ Below w.heap.size w w' := by
  obtain ⟨xb, xo, hxa, hcx⟩ := hX
  obtain ⟨yb, yo, hya, hcy⟩ := hY
  have HX := Lib.hid hcx
  have HY := Lib.hid hcy
  have HL := Lib.hid hL
  clear hcx hcy hL
  have hnn : ((n : Int) != (n : Int)) = false := by simp
  go_enter Try.func37, Try.ntmps37
  go_wp2
  go_loopw [5] (fun i wr => ∃ k : Nat, k ≤ n ∧ i = .int .i64 k ∧ Below w.heap.size w wr) (fun i _ => n - (intOf i).toNat)
  case atStart => exact ⟨0, Nat.zero_le _, rfl, Below.refl _ _⟩
  case round =>
    obtain ⟨k, hk, rfl, hBk⟩ := hrel
    by_cases hlt : k < n
    · have e := hxa (by omega)
      subst e
      have e := hya (by omega)
      subst e
      obtain ⟨r0, r1, r2, r3⟩ := LnAt.below (HX.out k hlt) hBk
      obtain ⟨s0, s1, s2, s3⟩ := LnAt.below (HY.out k hlt) hBk
      have hi0 : (k : Int) < (n : Int) := by omega
      have HE := Lib.hid (fun w => eqLine_any (X k).p (X k).h (X k).d (X k).k (Y k).p (Y k).h (Y k).d (HL.out k hlt).1.symm (HL.out k hlt).2.1.symm (HL.out k hlt).2.2.1.symm w)
      have hkk : (Y k).k = (X k).k := (HL.out k hlt).2.2.2.symm
      rw [hkk] at s3
      have hsz := hBk.size
      go_wp2_with fail
      go_still_tail 8, (by kernel_rfl)
      change wpList _ _ _ _ _ wr.drew
      go_wp2_with (go_at_call 99; refine (HE.out _).mono ?_; rintro e w2 ⟨rfl, B0⟩; have B2 : Below w.heap.size w w2 := Below.trans (Below.drewN hBk 1) (B0.mono hsz))
      go_roundw
      case rel => exact ⟨k + 1, by omega, by go_num, B2⟩
      case measure => simp [intOf]; omega
    · have hkn : k = n := by omega
      subst hkn
      go_wp2
      go_ret
      exact ⟨rfl, hBk⟩
end Go.Proofs.Ytmpcalpapkedhaa
