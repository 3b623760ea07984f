/- The laws' own helpers on rows of numbers: what copies, weighs and compares them. -/
import Derived.Test.YtdoaajmojfdjoabLi
import Derived.Deep.RegionWith
import Derived.BigQuiet
import Derived.Laws.Entries
namespace Go.Proofs.Ytdoaajmojfdjoab
open Go Go.ChangeShapes Go.WideShapes Go.ChangeAt Go.RowKit

theorem infoF : (Try.prog.info? 23).map (fun i => (i.zero, i.size, i.bytes)) = some (some (.float .f32 0), 1, 4) := by kernel_rfl
theorem madeF (n : Nat) : (madeCells #[Value.float .f32 0] n).toList = rowOf (fun _ => 0) n := by
  rw [toList_madeCells_one]
  apply List.ext_getElem?
  intro i
  by_cases hi : i < n
  · rw [rowOf_get _ _ _ hi]; simp [hi]
  · rw [List.getElem?_eq_none (by simp; omega), List.getElem?_eq_none (by simp [rowOf_length]; omega)]
theorem store_float (w : World) (a : Addr) (b : Nat) {u : Value} (hc : w.cell? a = some u) (hf : w.frozen? a = false) : (store a (.float .f32 b)).run Try.prog w = .ok () (w.setCell a (.float .f32 b)) := by
  have h : (store a (.float .f32 b)).run Try.prog w = stored Try.prog w a (.float .f32 b) .plain := run_store Try.prog w a _ .plain rfl
  rw [h]
  simp [stored, hc, hf]
/-- A copy that is a row of the call's own. -/
def Copied (w : World) (n : Nat) (X : Nat → Nat) (e : Ending) (w' : World) : Prop :=
  e = .returned (.slice (some ⟨w.heap.size, 0, none⟩) n n) ∧ w'.ownsRow w.heap.size 23 1 (.slice (some ⟨w.heap.size, 0, none⟩) n n) n (rowOf X n) ∧ Below w.heap.size w w'
set_option maxHeartbeats 800000 in
theorem toF_any (xa : Option Addr) (n cap : Nat) (X : Nat → Nat) (w : World) (hX : Rd w xa n X) (hn : n ≤ 1048576) :
    Calls Try.prog 16 #[.slice xa n cap] w (Copied w n X) := by
  obtain ⟨i0, hi, hz0, hz1, hz2⟩ := info_parts infoF
  obtain ⟨xb, xo, hxa, hcell⟩ := hX
  have HC := Lib.hid hcell
  clear hcell
  have hb : i0.bytes * n ≤ 281474976710656 := by rw [hz2]; omega
  have hm : n ≤ maxLen := by unfold maxLen; omega
  go_enter Try.func16, Try.ntmps16
  go_wp2_with (at_make; refine wpList_make_full _ rfl _ _ 22 rfl w.heap.size 23 i0 (.float .f32 0) 1 Try.underlying22 hi hz0 hz1 _ _ _ _ n rfl rfl rfl rfl hb hm (Nat.le_refl _) ?_)
  intro w1 hown hgr
  rw [madeF] at hown
  have hB : Below w.heap.size w w1 := (Below.refl _ w).grown hgr (Nat.le_refl _) (fun _ h => by cases h)
  clear hgr hb hm hi hz0 hz1 hz2
  go_wp2
  go_loopw [4] (fun i wr => ∃ k : Nat, k ≤ n ∧ i = .int .i64 k ∧ wr.ownsRow w.heap.size 23 1 (.slice (some ⟨w.heap.size, 0, none⟩) n n) n (rowOf (fun j => if j < k then X j else 0) n) ∧ Below w.heap.size w wr) (fun i _ => n - (intOf i).toNat)
  case atStart => exact ⟨0, Nat.zero_le _, rfl, by simpa using hown, hB⟩
  case round =>
    obtain ⟨k, hk, rfl, hownk, hBk⟩ := hrel
    by_cases hlt : k < n
    · have e := hxa (by omega)
      subst e
      have hck := HC.out k hlt
      have hbl : xb < w.heap.size := World.block_lt_of_cell? w _ hck
      have hck' : wr.cell? ⟨xb, xo + k, none⟩ = some (.float .f32 (X k)) := (hBk.cell (p := ⟨xb, xo + k, none⟩) hbl).trans hck
      have hfz := hownk.frozenAt k
      have hcl : wr.cell? ⟨w.heap.size, k, none⟩ = some (.float .f32 0) := by
        rw [hownk.cellAt k (by omega), rowOf_get _ _ _ hlt, if_neg (by omega)]
      have hst := hownk.stored k (.float .f32 (X k))
      rw [rowOf_set] at hst
      have hst1 : (wr.setCell ⟨w.heap.size, k, none⟩ (.float .f32 (X k))).ownsRow w.heap.size 23 1 (.slice (some ⟨w.heap.size, 0, none⟩) n n) n (rowOf (fun j => if j < k + 1 then X j else 0) n) := by
        have := hst.1
        rw [rowOf_congr (Y := fun j => if j < k + 1 then X j else 0) (fun j _ => by
          by_cases hj : j = k
          · subst hj; simp
          · rw [if_neg hj]; by_cases hj2 : j < k
            · rw [if_pos hj2, if_pos (by omega)]
            · rw [if_neg hj2, if_neg (by omega)])] at this
        exact this
      have hB' : Below w.heap.size w (wr.setCell ⟨w.heap.size, k, none⟩ (.float .f32 (X k))) := hBk.setCell (Nat.le_refl _) _
      have hsf := store_float wr ⟨w.heap.size, k, none⟩ (X k) hcl hfz
      clear hck hst hownk hBk hown hB
      go_wp2
      go_roundw
      case rel => exact ⟨k + 1, by omega, by go_num, hst1, hB'⟩
      case measure => simp [intOf]; omega
    · have hkn : k = n := by omega
      subst hkn
      have hown' : wr.ownsRow w.heap.size 23 1 (.slice (some ⟨w.heap.size, 0, none⟩) k k) k (rowOf X k) := by
        rw [rowOf_congr (Y := X) (fun j hj => by rw [if_pos hj])] at hownk
        exact hownk
      clear hown hB hownk
      go_wp2
      go_ret
      exact ⟨rfl, hown', hBk⟩

theorem same64 {x y : Nat} (h : canon .f32 x = canon .f32 y) (s t : Nat) : canon .f64 (pick .f64 (fconv .f32 x .f64) s) = canon .f64 (pick .f64 (fconv .f32 y .f64) t) := by
  rw [canon_pick, canon_pick, fconv_congr h]
set_option maxHeartbeats 1600000 in
theorem eqF_any (xa ya : Option Addr) (n cx cy : Nat) (X Y : Nat → Nat) (w : World) (hX : Rd w xa n X) (hY : Rd w ya n Y) (hn : n ≤ 1048576) (hs : ∀ i, i < n → canon .f32 (X i) = canon .f32 (Y i)) :
    Calls Try.prog 19 #[.slice xa n cx, .slice ya n cy] w fun e w' => e = .returned (.bool true) ∧ ∃ m, w' = w.drewN m := by
  obtain ⟨xb, xo, hxa, hcx⟩ := hX
  obtain ⟨yb, yo, hya, hcy⟩ := hY
  have HX := Lib.hid hcx
  have HY := Lib.hid hcy
  have HS := Lib.hid hs
  clear hcx hcy hs
  go_enter Try.func19, Try.ntmps19
  go_wp2
  go_loopw [5] (fun i wr => ∃ k m : Nat, k ≤ n ∧ i = .int .i64 k ∧ wr = w.drewN m) (fun i _ => n - (intOf i).toNat)
  case atStart => exact ⟨0, 0, Nat.zero_le _, rfl, rfl⟩
  case round =>
    obtain ⟨k, m, hk, rfl, rfl⟩ := hrel
    by_cases hlt : k < n
    · have e := hxa (by omega)
      subst e
      have e := hya (by omega)
      subst e
      have h1 := HX.out k hlt
      have h2 := HY.out k hlt
      have hs := HS.out k hlt
      have hw := widen_run
      have H6 := Lib.hid (same64 hs)
      clear hs
      go_wp2_with fail
      go_region_with (go_at_call 18; refine (sameFloat_any _ _ _ (H6.out _ _)).mono ?_; rintro e w' ⟨rfl, q, rfl⟩)
      all_goals go_wp2
      all_goals go_roundw
      all_goals first | exact ⟨k + 1, _, by omega, by go_num, rfl⟩ | (simp [intOf]; omega)
    · have hkn : k = n := by omega
      subst hkn
      go_wp2
      go_ret
      exact ⟨rfl, m, rfl⟩
theorem rd_own {w : World} {B e g n cap : Nat} {X : Nat → Nat} (h : w.ownsRow B e 1 (.slice (some ⟨g, 0, none⟩) n cap) n (rowOf X n)) : Rd w (some ⟨g, 0, none⟩) n X :=
  ⟨g, 0, fun _ => rfl, fun i hi => by rw [Nat.zero_add, h.cellAt i (by omega), rowOf_get _ _ _ hi]⟩
theorem rd_copied {w : World} {B e g n : Nat} {X : Nat → Nat} (h : w.ownsRow B e 1 (.slice (some ⟨g, 0, none⟩) n n) n (rowOf X n)) : Rd w (some ⟨g, 0, none⟩) n X := rd_own h
/-- What was there in W is in w as it was: told of the heaps alone, so that draws make no difference. -/
def Blw (W w : World) : Prop := w.os = W.os ∧ w.tape = W.tape ∧ w.output = W.output ∧ W.heap.size ≤ w.heap.size ∧ ∀ k, k < W.heap.size → w.heap[k]? = W.heap[k]?
theorem Blw.refl (W : World) : Blw W W := ⟨rfl, rfl, rfl, Nat.le_refl _, fun _ _ => rfl⟩
theorem Blw.out {W w : World} (h : Blw W w) : Below W.heap.size W w := ⟨h.1, h.2.1, h.2.2.1, h.2.2.2.1, h.2.2.2.2⟩
theorem Blw.next {W w w' : World} (h : Blw W w) (h' : Below w.heap.size w w') : Blw W w' := ⟨h'.os.trans h.1, h'.tape.trans h.2.1, h'.output.trans h.2.2.1, Nat.le_trans h.2.2.2.1 h'.size, fun k hk => (h'.block k (Nat.lt_of_lt_of_le hk h.2.2.2.1)).trans (h.2.2.2.2 k hk)⟩
theorem Blw.nextB {W w w' : World} (h : Blw W w) (h' : Below W.heap.size w w') : Blw W w' := ⟨h'.os.trans h.1, h'.tape.trans h.2.1, h'.output.trans h.2.2.1, Nat.le_trans h.2.2.2.1 h'.size, fun k hk => (h'.block k hk).trans (h.2.2.2.2 k hk)⟩
theorem cellsF : Try.prog.cellsOf 23 = 1 := by kernel_rfl
end Go.Proofs.Ytdoaajmojfdjoab
