
/- Lists of complex numbers: what they hold, how they are compared, marked and held. -/
import Derived.Test.YtmpcalpapkedhaaCplx
import Derived.Test.YtmpcalpapkedhaaLiW
import Derived.Test.YtmpcalpapkedhaaPush
import Derived.Test.YtmpcalpapkedhaaStm
import Derived.Test.YtmpcalpapkedhaaBd
namespace Go.Proofs.Ytmpcalpapkedhaa
set_option linter.all false
open Go Go.ChangeShapes Go.WideShapes Go.ChangeAt Go.RowKit

def RdC (w : World) (xa : Option Addr) (n : Nat) (X Y : Nat → Nat) : Prop := ∃ xb xo, (0 < n → xa = some ⟨xb, xo, none⟩) ∧ ∀ i, i < n → w.cell? ⟨xb, xo + i, none⟩ = some (.complex .f32 (X i) (Y i))
def rowC (X Y : Nat → Nat) (n : Nat) : List Value := (List.range n).map fun i => .complex .f32 (X i) (Y i)
theorem rowC_length (X Y : Nat → Nat) (n : Nat) : (rowC X Y n).length = n := by simp [rowC]
theorem rowC_get (X Y : Nat → Nat) (n i : Nat) (h : i < n) : (rowC X Y n)[i]? = some (.complex .f32 (X i) (Y i)) := by simp [rowC, h]
theorem rowC_congr {X Y X' Y' : Nat → Nat} {n : Nat} (h : ∀ i, i < n → X i = X' i ∧ Y i = Y' i) : rowC X Y n = rowC X' Y' n := by
  unfold rowC; exact List.map_congr_left fun i hi => by rw [(h i (List.mem_range.1 hi)).1, (h i (List.mem_range.1 hi)).2]
theorem rowC_set (X Y : Nat → Nat) (n j u v : Nat) : (rowC X Y n).set j (.complex .f32 u v) = rowC (fun i => if i = j then u else X i) (fun i => if i = j then v else Y i) n := by
  apply List.ext_getElem?
  intro i
  by_cases hi : i < n
  · rw [rowC_get _ _ _ _ hi, List.getElem?_set]
    by_cases hj : j = i
    · subst hj; simp [rowC_length, hi]
    · rw [if_neg hj, rowC_get _ _ _ _ hi, if_neg (fun h => hj h.symm), if_neg (fun h => hj h.symm)]
  · rw [List.getElem?_eq_none (by simp [rowC_length]; omega), List.getElem?_eq_none (by simp [rowC_length]; omega)]
theorem rowC_push (X Y : Nat → Nat) (k u v : Nat) : rowC X Y k ++ [.complex .f32 u v] = rowC (fun j => if j = k then u else X j) (fun j => if j = k then v else Y j) (k + 1) := by
  have e : rowC (fun j => if j = k then u else X j) (fun j => if j = k then v else Y j) (k + 1) = rowC (fun j => if j = k then u else X j) (fun j => if j = k then v else Y j) k ++ [.complex .f32 u v] := by simp [rowC, List.range_succ]
  rw [e]
  congr 1
  exact rowC_congr fun i hi => by constructor <;> rw [if_neg (by omega)]
theorem RdC.below {w w' : World} {xa : Option Addr} {n : Nat} {X Y : Nat → Nat} (h : RdC w xa n X Y) (hb : Below w.heap.size w w') : RdC w' xa n X Y := by
  obtain ⟨xb, xo, h1, h2⟩ := h
  refine ⟨xb, xo, h1, fun i hi => ?_⟩
  rw [hb.cell (p := ⟨xb, xo + i, none⟩) (World.block_lt_of_cell? w _ (h2 i hi))]
  exact h2 i hi
theorem RdC.nil (w : World) (xa : Option Addr) (X Y : Nat → Nat) : RdC w xa 0 X Y := ⟨0, 0, fun h => absurd h (Nat.lt_irrefl _), fun _ h => absurd h (Nat.not_lt_zero _)⟩
theorem rdC_of_own {w : World} {B e : Nat} {v : Value} {n : Nat} {X Y : Nat → Nat} (h : w.ownsRow B e 1 v n (rowC X Y n)) :
    ∃ xa cap, v = .slice xa n cap ∧ n ≤ cap ∧ cap ≤ maxLen ∧ RdC w xa n X Y := by
  have h0 := h
  rcases h.2 with ⟨rfl, rfl⟩ | ⟨g, cap, cur, rfl, hB, hg, hn, hc, hs, ht⟩
  · exact ⟨none, 0, rfl, Nat.le_refl _, Nat.zero_le _, RdC.nil _ _ _ _⟩
  · refine ⟨_, cap, rfl, hn, hc, g, 0, fun _ => rfl, fun i hi => ?_⟩
    rw [Nat.zero_add, h0.cellAt i (by omega), rowC_get _ _ _ _ hi]
theorem infoC : (Try.prog.info? 98).map (fun i => (i.zero, i.size, i.bytes)) = some (some (.complex .f32 0 0), 1, 8) := by kernel_rfl
theorem infoC_parts : ∃ i0, Try.prog.info? 98 = some i0 ∧ i0.zero = some (.complex .f32 0 0) ∧ i0.size = 1 ∧ i0.bytes = 8 := by
  have h := infoC
  cases hi : Try.prog.info? 98 with
  | none => rw [hi] at h; cases h
  | some i0 => rw [hi] at h; simp only [Option.map_some, Option.some.injEq, Prod.mk.injEq] at h; exact ⟨i0, rfl, h.1, h.2.1, h.2.2⟩
theorem madeC (n : Nat) : (madeCells #[Value.complex .f32 0 0] n).toList = rowC (fun _ => 0) (fun _ => 0) n := by
  rw [toList_madeCells_one]
  apply List.ext_getElem?
  intro i
  by_cases hi : i < n
  · rw [rowC_get _ _ _ _ hi]; simp [hi]
  · rw [List.getElem?_eq_none (by simp; omega), List.getElem?_eq_none (by simp [rowC_length]; omega)]
theorem store_cplx (w : World) (a : Addr) (b c : Nat) {u : Value} (hc : w.cell? a = some u) (hf : w.frozen? a = false) : (store a (.complex .f32 b c)).run Try.prog w = .ok () (w.setCell a (.complex .f32 b c)) := by
  have h : (store a (.complex .f32 b c)).run Try.prog w = stored Try.prog w a (.complex .f32 b c) .plain := run_store Try.prog w a _ .plain rfl
  rw [h]
  simp [stored, hc, hf]
/-- complex128 of a complex64, as an equation. -/
theorem cwiden_run (a b : Nat) (w : World) : (convert 98 107 (.complex .f32 a b)).run Try.prog w =
    .ok (.complex .f64 (pick .f64 (fconv .f32 a .f64) (sdc w .f64 a)) (pick .f64 (fconv .f32 b .f64) (sdc (w.drewN (nd .f64 (fconv .f32 a .f64))) .f64 b))) ((w.drewN (nd .f64 (fconv .f32 a .f64))).drewN (nd .f64 (fconv .f32 b .f64))) := by
  have h1 := run_conv (P := Try.prog) (show FloatKind.f32 ≠ .f64 from FloatKind.noConfusion) a (convOk_widen a) w
  have h2 := run_conv (P := Try.prog) (show FloatKind.f32 ≠ .f64 from FloatKind.noConfusion) b (convOk_widen b) (w.drewN (nd .f64 (fconv .f32 a .f64)))
  simp [convert, run_underlying Try.underlying98, run_underlying Try.underlying107, Conv.complexToComplex, h1, h2]
set_option maxHeartbeats 1600000 in
theorem eqC_any (xa ya : Option Addr) (n cx cy : Nat) (X Y X' Y' : Nat → Nat) (w : World) (hX : RdC w xa n X Y) (hY : RdC w ya n X' Y') (hn : n ≤ 1048576) (hs : ∀ i, i < n → canon .f32 (X i) = canon .f32 (X' i)) (ht : ∀ i, i < n → canon .f32 (Y i) = canon .f32 (Y' i)) :
    Calls Try.prog 18 #[.slice xa n cx, .slice ya n cy] w fun e w' => e = .returned (.bool true) ∧ ∃ m, w' = w.drewN m := by
  obtain ⟨xb, xo, hxa, hcx⟩ := hX
  obtain ⟨yb, yo, hya, hcy⟩ := hY
  have HX := Lib.hid hcx
  have HY := Lib.hid hcy
  have HS := Lib.hid hs
  have HT := Lib.hid ht
  clear hcx hcy hs ht
  go_enter Try.func18, Try.ntmps18
  go_wp2
  go_loopw [5] (fun i wr => ∃ k m : Nat, k ≤ n ∧ i = .int .i64 k ∧ wr = w.drewN m) (fun i _ => n - (intOf i).toNat)
  case atStart => exact ⟨0, 0, Nat.zero_le _, rfl, rfl⟩
  case round =>
    obtain ⟨k, m, hk, rfl, rfl⟩ := hrel
    by_cases hlt : k < n
    · have e := hxa (by omega)
      subst e
      have e := hya (by omega)
      subst e
      have h1 := HX.out k hlt
      have h2 := HY.out k hlt
      have hs := HS.out k hlt
      have ht := HT.out k hlt
      have hw := cwiden_run
      have H6 := Lib.hid (same64 hs)
      have H7 := Lib.hid (same64 ht)
      clear hs ht
      go_wp2_with fail
      go_region_with (go_at_call 79; refine (sameComplex_any _ _ _ _ _ (H6.out _ _) (H7.out _ _)).mono ?_; rintro e w' ⟨rfl, q, rfl⟩)
      all_goals go_wp2
      all_goals go_roundw
      all_goals first | exact ⟨k + 1, _, by omega, by go_num, rfl⟩ | (simp [intOf]; omega)
    · have hkn : k = n := by omega
      subst hkn
      go_wp2
      go_ret
      exact ⟨rfl, m, rfl⟩
/-- The mark of place j: its first part. -/
def mkC (k0 : Int) (j : Nat) : Nat := fconv .f64 (floatOfInt .f64 (k0 + j)) .f32
theorem int_bd {k : Int} (h0 : 0 ≤ k) (h1 : k ≤ 1073741824) : Bd .f64 (floatOfInt .f64 k) 30 := by
  refine encode_bd .f64 _ _ _ _ ?_ (by decide) (by decide)
  rw [show two 0 = 1 by decide +kernel, show two 30 = ((1073741824 : Nat) : Rat) by decide +kernel, Rat.mul_one]
  exact_mod_cast (by omega : k.natAbs ≤ 1073741824)
theorem mkC_nan (k0 : Int) (j : Nat) (h0 : 0 ≤ k0) (h1 : k0 + j ≤ 1073741824) : isNaN .f32 (mkC k0 j) = false := by
  unfold mkC
  rw [isNaN_fconv]
  exact (int_bd (by omega) h1).num
theorem mkC_self (k0 : Int) (j : Nat) (h0 : 0 ≤ k0) (h1 : k0 + j ≤ 1073741824) : (FloatKind.f32.format.order (mkC k0 j) (mkC k0 j) == some .eq) = true := by
  rw [order_eql_self, mkC_nan k0 j h0 h1]; rfl
theorem cnar_run (k0 : Int) (j : Nat) (h0 : 0 ≤ k0) (h1 : k0 + j ≤ 1073741824) (w : World) :
    (convert 107 98 (.complex .f64 (floatOfInt .f64 (k0 + j)) 4607182418800017408)).run Try.prog w = .ok (.complex .f32 (mkC k0 j) 1065353216) w := by
  have h1' := run_conv (P := Try.prog) (show FloatKind.f64 ≠ .f32 from FloatKind.noConfusion) (floatOfInt .f64 (k0 + j)) (convOk_narrow (int_bd (by omega) h1) (by decide)) w
  have hz : isNaN .f32 (fconv .f64 (floatOfInt .f64 (k0 + j)) .f32) = false := mkC_nan k0 j h0 h1
  rw [pick_num hz] at h1'
  simp only [nd, hz, Bool.false_eq_true, if_false, World.drewN_zero] at h1'
  have h2' := run_conv (P := Try.prog) (show FloatKind.f64 ≠ .f32 from FloatKind.noConfusion) 4607182418800017408 (.inr (.inr (by decide +kernel))) w
  have e : fconv .f64 4607182418800017408 .f32 = 1065353216 := by decide +kernel
  have hz2 : isNaN .f32 1065353216 = false := by decide +kernel
  rw [e, pick_num hz2] at h2'
  simp only [nd, hz2, Bool.false_eq_true, if_false, World.drewN_zero] at h2'
  simp [convert, run_underlying Try.underlying98, run_underlying Try.underlying107, Conv.complexToComplex, h1', h2', mkC]
/-- The marks, written. -/
def MarkedC (B : Nat) (v : Value) (n : Nat) (k0 : Int) (w : World) (e : Ending) (w' : World) : Prop :=
  e = .returned (.int .i64 (k0 + n)) ∧ w'.ownsRow B 98 1 v n (rowC (mkC k0) (fun _ => 1065353216) n) ∧ Below B w w'
set_option maxHeartbeats 1600000 in
theorem markC_any (B : Nat) (v : Value) (n : Nat) (X Y : Nat → Nat) (k0 : Int) (w : World) (hown : w.ownsRow B 98 1 v n (rowC X Y n)) (hn : n ≤ 1048576) (hk0 : 0 ≤ k0) (hk1 : k0 ≤ 100000000) :
    Calls Try.prog 19 #[v, .int .i64 k0] w (MarkedC B v n k0 w) := by
  obtain ⟨g, ao, cap, rfl, hao, hBg⟩ : ∃ g ao cap, v = .slice ao n cap ∧ (0 < n → ao = some ⟨g, 0, none⟩) ∧ (0 < n → B ≤ g) := by
    rcases hown.2 with ⟨rfl, rfl⟩ | ⟨g, cap, cur, rfl, hB, _⟩
    · exact ⟨0, none, 0, rfl, fun h => absurd h (Nat.lt_irrefl _), fun h => absurd h (Nat.lt_irrefl _)⟩
    · exact ⟨g, _, cap, rfl, fun _ => rfl, fun _ => hB⟩
  go_enter Try.func19, Try.ntmps19
  go_wp2
  go_loopw [1, 5] (fun q i wr => ∃ k : Nat, k ≤ n ∧ i = .int .i64 k ∧ q = .int .i64 (k0 + k) ∧ wr.ownsRow B 98 1 (.slice ao n cap) n (rowC (fun j => if j < k then mkC k0 j else X j) (fun j => if j < k then 1065353216 else Y j) n) ∧ Below B w wr) (fun _ i _ => n - (intOf i).toNat)
  case atStart => exact ⟨0, Nat.zero_le _, rfl, by simp, by simpa using hown, Below.refl _ _⟩
  case round =>
    obtain ⟨k, hk, rfl, rfl, hownk, hBk⟩ := hrel
    by_cases hlt : k < n
    · have e := hao (by omega)
      subst e
      have hg := hBg (by omega)
      have hfz := hownk.frozenAt k
      have hcl : wr.cell? ⟨g, k, none⟩ = some (.complex .f32 (X k) (Y k)) := by
        rw [hownk.cellAt k (by omega), rowC_get _ _ _ _ hlt, if_neg (by omega), if_neg (by omega)]
      have hst := (hownk.stored k (.complex .f32 (mkC k0 k) 1065353216)).1
      rw [rowC_set] at hst
      rw [rowC_congr (X' := fun j => if j < k + 1 then mkC k0 j else X j) (Y' := fun j => if j < k + 1 then 1065353216 else Y j) (fun j _ => by
          by_cases hj : j = k
          · subst hj; simp
          · rw [if_neg hj, if_neg hj]; by_cases hj2 : j < k
            · rw [if_pos hj2, if_pos (by omega), if_pos hj2, if_pos (by omega)]; exact ⟨rfl, rfl⟩
            · rw [if_neg hj2, if_neg (by omega), if_neg hj2, if_neg (by omega)]; exact ⟨rfl, rfl⟩)] at hst
      have hB' : Below B w (wr.setCell ⟨g, k, none⟩ (.complex .f32 (mkC k0 k) 1065353216)) := hBk.setCell hg _
      have hsf := store_cplx wr ⟨g, k, none⟩ (mkC k0 k) 1065353216 hcl hfz
      have hmk := cnar_run k0 k hk0 (by omega)
      clear hownk hBk hown hBg
      go_wp2
      go_roundw
      case rel => exact ⟨k + 1, by omega, by go_num, by go_num, hst, hB'⟩
      case measure => simp [intOf]; omega
    · have hkn : k = n := by omega
      subst hkn
      have hown' : wr.ownsRow B 98 1 (.slice ao k cap) k (rowC (mkC k0) (fun _ => 1065353216) k) := by
        rw [rowC_congr (X' := mkC k0) (Y' := fun _ => 1065353216) (fun j hj => by rw [if_pos hj, if_pos hj]; exact ⟨rfl, rfl⟩)] at hownk
        exact hownk
      clear hownk
      go_wp2
      go_ret
      exact ⟨rfl, hown', hBk⟩
set_option maxHeartbeats 1600000 in
theorem heldC_any (B : Nat) (v : Value) (n : Nat) (k0 : Int) (w : World) (hown : w.ownsRow B 98 1 v n (rowC (mkC k0) (fun _ => 1065353216) n)) (hn : n ≤ 1048576) (hk0 : 0 ≤ k0) (hk1 : k0 ≤ 100000000) :
    Calls Try.prog 20 #[v, .int .i64 k0] w fun e w' => e = .returned (.int .i64 (k0 + n)) ∧ w = w' := by
  obtain ⟨g, ao, cap, rfl, hao⟩ : ∃ g ao cap, v = .slice ao n cap ∧ (0 < n → ao = some ⟨g, 0, none⟩) := by
    rcases hown.2 with ⟨rfl, rfl⟩ | ⟨g, cap, cur, rfl, hB, _⟩
    · exact ⟨0, none, 0, rfl, fun h => absurd h (Nat.lt_irrefl _)⟩
    · exact ⟨g, _, cap, rfl, fun _ => rfl⟩
  have h11 : (FloatKind.f32.format.order 1065353216 1065353216 == some .eq) = true := by decide +kernel
  go_enter Try.func20, Try.ntmps20
  go_wp2
  go_loop [1, 5] (fun q i => ∃ k : Nat, k ≤ n ∧ i = .int .i64 k ∧ q = .int .i64 (k0 + k)) (fun _ i => n - (intOf i).toNat)
  case atStart => exact ⟨0, Nat.zero_le _, rfl, by simp⟩
  case round =>
    obtain ⟨k, hk, rfl, rfl⟩ := hrel
    by_cases hlt : k < n
    · have e := hao (by omega)
      subst e
      have hcl : w.cell? ⟨g, k, none⟩ = some (.complex .f32 (mkC k0 k) 1065353216) := by
        rw [hown.cellAt k (by omega), rowC_get _ _ _ _ hlt]
      have hmk := cnar_run k0 k hk0 (by omega)
      have hs := mkC_self k0 k hk0 (by omega)
      clear hown
      go_wp2
      go_round
      case rel => exact ⟨k + 1, by omega, by go_num, by go_num⟩
      case measure => simp [intOf]; omega
    · have hkn : k = n := by omega
      subst hkn
      go_wp2
      go_ret
      exact ⟨rfl, rfl⟩
end Go.Proofs.Ytmpcalpapkedhaa
