
/- The laws' own helpers on rows of numbers: what copies, weighs and compares them. -/
import Derived.Test.YtogmcinaoemnpabSame
import Derived.Test.YtogmcinaoemnpabLi
import Derived.Deep.RegionWith
import Derived.BigQuiet
import Derived.Laws.Entries
namespace Go.Proofs.Ytogmcinaoemnpab
open Go Go.ChangeShapes Go.WideShapes Go.ChangeAt Go.RowKit

theorem infoF : (Try.prog.info? 36).map (fun i => (i.zero, i.size, i.bytes)) = some (some (.float .f32 0), 1, 4) := by kernel_rfl
theorem madeF (n : Nat) : (madeCells #[Value.float .f32 0] n).toList = rowOf (fun _ => 0) n := by
  rw [toList_madeCells_one]
  apply List.ext_getElem?
  intro i
  by_cases hi : i < n
  · rw [rowOf_get _ _ _ hi]; simp [hi]
  · rw [List.getElem?_eq_none (by simp; omega), List.getElem?_eq_none (by simp [rowOf_length]; omega)]
theorem store_float (w : World) (a : Addr) (b : Nat) {u : Value} (hc : w.cell? a = some u) (hf : w.frozen? a = false) : (store a (.float .f32 b)).run Try.prog w = .ok () (w.setCell a (.float .f32 b)) := by
  have h : (store a (.float .f32 b)).run Try.prog w = stored Try.prog w a (.float .f32 b) .plain := run_store Try.prog w a _ .plain rfl
  rw [h]
  simp [stored, hc, hf]
theorem same64 {x y : Nat} (h : canon .f32 x = canon .f32 y) (s t : Nat) : canon .f64 (pick .f64 (fconv .f32 x .f64) s) = canon .f64 (pick .f64 (fconv .f32 y .f64) t) := by
  rw [canon_pick, canon_pick, fconv_congr h]
set_option maxHeartbeats 1600000 in
theorem eqF_any (xa ya : Option Addr) (n cx cy : Nat) (X Y : Nat → Nat) (w : World) (hX : Rd w xa n X) (hY : Rd w ya n Y) (hn : n ≤ 1048576) (hs : ∀ i, i < n → canon .f32 (X i) = canon .f32 (Y i)) :
    Calls Try.prog 24 #[.slice xa n cx, .slice ya n cy] w fun e w' => e = .returned (.bool true) ∧ ∃ m, w' = w.drewN m := by
  obtain ⟨xb, xo, hxa, hcx⟩ := hX
  obtain ⟨yb, yo, hya, hcy⟩ := hY
  have HX := Lib.hid hcx
  have HY := Lib.hid hcy
  have HS := Lib.hid hs
  clear hcx hcy hs
  go_enter Try.func24, Try.ntmps24
  go_wp2
  go_loopw [5] (fun i wr => ∃ k m : Nat, k ≤ n ∧ i = .int .i64 k ∧ wr = w.drewN m) (fun i _ => n - (intOf i).toNat)
  case atStart => exact ⟨0, 0, Nat.zero_le _, rfl, rfl⟩
  case round =>
    obtain ⟨k, m, hk, rfl, rfl⟩ := hrel
    by_cases hlt : k < n
    · have e := hxa (by omega)
      subst e
      have e := hya (by omega)
      subst e
      have h1 := HX.out k hlt
      have h2 := HY.out k hlt
      have hs := HS.out k hlt
      have hw := widen_run
      have H6 := Lib.hid (same64 hs)
      clear hs
      go_wp2_with fail
      go_region_with (go_at_call 35; refine (sameFloat_any _ _ _ (H6.out _ _)).mono ?_; rintro e w' ⟨rfl, q, rfl⟩)
      all_goals go_wp2
      all_goals go_roundw
      all_goals first | exact ⟨k + 1, _, by omega, by go_num, rfl⟩ | (simp [intOf]; omega)
    · have hkn : k = n := by omega
      subst hkn
      go_wp2
      go_ret
      exact ⟨rfl, m, rfl⟩
theorem rd_own {w : World} {B e g n cap : Nat} {X : Nat → Nat} (h : w.ownsRow B e 1 (.slice (some ⟨g, 0, none⟩) n cap) n (rowOf X n)) : Rd w (some ⟨g, 0, none⟩) n X :=
  ⟨g, 0, fun _ => rfl, fun i hi => by rw [Nat.zero_add, h.cellAt i (by omega), rowOf_get _ _ _ hi]⟩
theorem cellsF : Try.prog.cellsOf 36 = 1 := by kernel_rfl
end Go.Proofs.Ytogmcinaoemnpab
