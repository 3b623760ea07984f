/- The iterator over every other integer of a reach, and the list that collects what an iterator gives. -/
import Derived.RangeFuncNested
import Derived.RangeFuncBound
import Derived.RangeFuncCalls
import Derived.RangeFuncLeaves
import Derived.RangeFuncBox
import Derived.Shelf.Abstract
import Derived.Shelf.RegionOpen
import Derived.WalkKit
import Derived.OwnWalkIn
import Derived.TacticsInMore
import Derived.LoopNIn
import Derived.LoopIn
import Derived.Maps.AppendAt
import Derived.Test.YtffhnkhjfggooaaIntL
namespace Go.Proofs.Ytffhnkhjfggooaa
open Go Go.ChangeShapes Go.WideShapes Go.ChangeAt Go.RowKit Go.Shelf

attribute [local go_sem] Oper.semAt_some
/-- What has come of every other integer when k rounds are over. -/
def upTwo (first : Int) (k : Nat) : List Int := (List.range k).map fun (i : Nat) => first + 2 * (i : Int)
theorem upTwo_succ (first : Int) (k : Nat) : upTwo first (k + 1) = upTwo first k ++ [first + 2 * (k : Int)] := by simp [upTwo, List.range_succ]
theorem upTwo_length (first : Int) (k : Nat) : (upTwo first k).length = k := by simp [upTwo]
theorem upTwo_row (first : Int) (k : Nat) : (upTwo first k).map (Value.int .i64) = rowI (fun i => first + 2 * (i : Int)) k := by simp [upTwo, rowI]
/-- How many there are. -/
def cntTwo (first last : Int) : Nat := ((last - first) / 2 + 1).toNat
theorem cntTwo_lt {first last : Int} {k : Nat} (h : k < cntTwo first last) : first + 2 * (k : Int) ≤ last := by unfold cntTwo at h; omega
theorem cntTwo_ge {first last : Int} (_h : -1 ≤ last - first) : last < first + 2 * (cntTwo first last : Int) := by unfold cntTwo; omega
theorem cntTwo_le {first last : Int} {B : Nat} (_h : last - first ≤ 2 * B) : cntTwo first last ≤ B + 1 := by unfold cntTwo; omega
set_option maxRecDepth 100000 in
set_option maxHeartbeats 2000000 in
theorem byTwo1_in (n : Nat) (hn : 1 ≤ n) (l Ba Bb n₀ : Nat) (first last : Int) (hf0 : -100 ≤ first) (hf1 : first ≤ 100) (hl0 : -100 ≤ last) (hl1 : last ≤ 100) (hfl : -1 ≤ last - first) (hBb : Bb < n₀) (J Jx : List Int → World → Prop)
    (hY : ∀ pre x W, J pre W → pre.length < cntTwo first last → YieldAt Fence.wide (n - 1) Try.prog l #[.int .i64 x] W fun e W' =>
      (e = .returned (.bool true) ∧ J (pre ++ [x]) W' ∧ Below n₀ W W') ∨ (e = .returned (.bool false) ∧ Jx (pre ++ [x]) W'))
    (W : World) (ca : W.cell? ⟨Ba, 0, none⟩ = some (.int .i64 first)) (cb : W.cell? ⟨Bb, 0, none⟩ = some (.int .i64 last)) (h0 : J [] W) :
    CallsIn Fence.wide n Try.prog 99 #[.func (.yield l) #[] #[], .pointer (some ⟨Ba, 0, none⟩), .pointer (some ⟨Bb, 0, none⟩)] W fun e W' => (∃ v, e = .returned v) ∧
      ((∃ ys, ys = upTwo first (cntTwo first last) ∧ J ys W') ∨ (∃ pre, (∃ k, k ≤ cntTwo first last ∧ pre = upTwo first k) ∧ Jx pre W')) := by
  refine callsIn_of_wp Try.func99 rfl trivial ?_ rfl
  simp only [Try.ntmps99, List.size_toArray, List.length_cons, List.length_nil, Nat.reduceAdd, Nat.reduceSub, Array.replicate_succ, Array.replicate_zero, List.push_toArray, List.append_toArray, List.nil_append, List.cons_append]
  gi_wp2
  gi_loopw [4] (fun i wr => ∃ k : Nat, k ≤ cntTwo first last ∧ i = .int .i64 (first + 2 * (k : Int)) ∧ J (upTwo first k) wr ∧ Below n₀ W wr)
    (fun i _ => (last + 1000 - intOf i).toNat)
  case atStart => exact ⟨0, Nat.zero_le _, by simp, h0, Below.refl _ _⟩
  case round =>
    obtain ⟨k, hk, rfl, hJs, hnx⟩ := hrel
    have cb' : wr.cell? ⟨Bb, 0, none⟩ = some (.int .i64 last) := (hnx.cell (p := ⟨Bb, 0, none⟩) hBb).trans cb
    by_cases hlt : k < cntTwo first last
    · have hle := cntTwo_lt hlt
      obtain ⟨fn, tmps, assign, body, hy, hR⟩ := hY _ (first + 2 * (k : Int)) wr hJs (by rw [upTwo_length]; exact hlt)
      gi_wp2
      refine hR.mono ?_
      rintro e W3 (⟨rfl, hJ3, hk3⟩ | ⟨rfl, hJx3⟩)
      · gi_wp2
        go_roundw
        case rel => exact ⟨k + 1, by omega, by go_num, by rw [upTwo_succ]; exact hJ3, hnx.trans hk3⟩
        case measure => simp [intOf]; omega
      · gi_wp2
        refine bodyPost_ret (results_none rfl _ _ _) rfl ?_
        exact ⟨⟨_, rfl⟩, .inr ⟨_, ⟨k + 1, by omega, (upTwo_succ _ _).symm⟩, hJx3⟩⟩
    · obtain rfl : k = cntTwo first last := by omega
      have hge := cntTwo_ge hfl
      gi_wp2
      go_end0
      exact ⟨⟨_, rfl⟩, .inl ⟨_, rfl, hJs⟩⟩
theorem byTwo_any (first last : Int) (w : World) :
    Calls Try.prog 89 #[.int .i64 first, .int .i64 last] w fun e w' => e = .returned (.func (.func 99) #[] #[.pointer (some ⟨w.heap.size, 0, none⟩), .pointer (some ⟨w.heap.size + 1, 0, none⟩)]) ∧ w' = (w.alloc (.cells #[.int .i64 first] 2)).alloc (.cells #[.int .i64 last] 2) := by
  go_enter Try.func89, Try.ntmps89
  go_wp2
  go_ret
  exact ⟨rfl, rfl⟩
/-- The value that the iterator's maker hands back gives every other integer. -/
theorem byTwo_stops (n : Nat) (hn : 1 ≤ n) (Ba Bb n₀ : Nat) (first last : Int) (hf0 : -100 ≤ first) (hf1 : first ≤ 100) (hl0 : -100 ≤ last) (hl1 : last ≤ 100) (hfl : -1 ≤ last - first) (w : World) (hBa : Ba < w.heap.size) (hBb : Bb < w.heap.size) (hBn : Bb < n₀)
    (ca : w.cell? ⟨Ba, 0, none⟩ = some (.int .i64 first)) (cb : w.cell? ⟨Bb, 0, none⟩ = some (.int .i64 last)) :
    SeqStopsK Fence.wide n Try.prog 99 #[.pointer (some ⟨Ba, 0, none⟩), .pointer (some ⟨Bb, 0, none⟩)] (fun x : Int => #[Value.int .i64 x]) (Below n₀) (fun ys => ys = upTwo first (cntTwo first last)) (fun pre => ∃ k, k ≤ cntTwo first last ∧ pre = upTwo first k) (cntTwo first last) w := fun l J Jx W hW _ _ hY h0 =>
  byTwo1_in n hn l Ba Bb n₀ first last hf0 hf1 hl0 hl1 hfl hBn J Jx hY W ((hW.cell (p := ⟨Ba, 0, none⟩) hBa).trans ca) ((hW.cell (p := ⟨Bb, 0, none⟩) hBb).trans cb) h0
set_option maxRecDepth 100000 in
set_option maxHeartbeats 2000000 in
/-- What is collected of an iterator that gives a list. -/
theorem appendSeq_in (n : Nat) (hn : 2 ≤ n) (gf : Nat) (lb : Array Value) (eg : ∀ args w, (callFunc gf args).run Try.prog w = .ok (.enter gf args) w) (xs : List Int) (N : Nat) (hN : N ≤ 1000) (Sp : List Int → Prop) (w : World)
    (hseq : SeqStopsK Fence.wide (n - 1) Try.prog gf lb (fun x : Int => #[Value.int .i64 x]) (Below w.heap.size) (fun ys => ys = xs) Sp N w) :
    CallsIn Fence.wide n Try.prog 94 #[.slice none 0 0, .func (.func gf) #[] lb] w fun e W' => ∃ v, e = .returned v ∧ W'.ownsRow w.heap.size 2 1 v xs.length (xs.map (Value.int .i64)) ∧ Below w.heap.size w W' := by
  have h1 : 1 ≤ n := by omega
  obtain ⟨i0, hi, hz0, hz1, hz2⟩ := info_parts infoI
  refine callsIn_of_wp_marks Try.func94 rfl trivial ?_ rfl
  simp only [Try.ntmps94, List.size_toArray, List.length_cons, List.length_nil, Nat.reduceAdd, Nat.reduceSub, Array.replicate_succ, Array.replicate_zero, List.push_toArray, List.append_toArray, List.nil_append, List.cons_append]
  gi_wp2
  have bO := Boxed.new w 40 (.slice none 0 0)
  have hB0 : Below w.heap.size w (w.alloc (.cells #[.slice none 0 0] 40)) := (Below.refl _ w).alloc (Nat.le_refl _) _
  refine wpIn_rangeFunc_ownG rfl h1 (gf := gf) (lb := lb) rfl trivial eg hseq belowK_t (belowK_b (by simp)) hB0 (fun _ => rfl)
    (fun pre W => (∃ v, Boxed W w.heap.size 40 v ∧ W.ownsRow w.heap.size 2 1 v pre.length (pre.map (Value.int .i64)) ∧ (v = .slice none 0 0 ↔ pre = [])) ∧ Below w.heap.size w W)
    (fun _ _ _ => False)
    (OwnFrom.and (Own.from (holdsRow_own w.heap.size w.heap.size 40 2 1 (fun pre => pre.length) (fun pre => pre.map (Value.int .i64)) (fun pre v => v = .slice none 0 0 ↔ pre = [])) _) (ownFrom_below (Nat.le_refl _) (by simp)))
    (fun _ _ _ _ _ hs _ _ => hs)
    ⟨⟨_, bO, World.ownsRow_nil _ _ _ _, by simp⟩, hB0⟩
    (fun x => { tmps := #[.slice none 0 0, .func (.func gf) #[] lb, .pointer (some ⟨w.heap.size, 0, none⟩), undef, .slice none 0 0, .int .i64 x, .func (.func gf) #[] lb, .int .i64 x, undef, undef, undef, undef, undef], defers := [] }) ?assign ?body ?done ?stop
  case assign =>
    intro l x W K hK
    gi_wp2
    exact hK
  case body =>
    rintro l pre x W ⟨⟨v, hv, hrow, hnil⟩, hB⟩ hlt
    have hc := hv.cell
    gi_wp2_with (gi_at_builtin; refine wpListIn_append_own _ rfl _ _ 40 rfl w.heap.size 2 i0 (.int .i64 0) 1 8 Try.underlying40 hi hz0 hz1 hz2 rfl (by decide) _ _ _ rfl (hrow.alloc _) ⟨W.heap.size, 0, none⟩ 1 1 [.int .i64 x] rfl rfl (cell_one_new _ _ _) (by simp [Value.oneCell']) (by unfold maxLen; omega) (by omega) (by have := hB.size; simp; omega) ?_; intro v' w1 hown' hgrow _; obtain ⟨g', cap', rfl⟩ := ownsRow_succ hown'; obtain ⟨hv1, hv2, hr2, hk2, hb2⟩ := hv.appended (by decide) hrow hB.size (Nat.le_refl _) hown' hgrow; have hc1 := hv1.cell; have hf1 := hv1.frozen)
    exact ⟨hk2.from _, hb2, ⟨_, hv2, by simpa using hr2, by simp⟩, hB.trans hb2⟩
  case done =>
    rintro D ys W hD rfl ⟨⟨v, hv, hrow, hnil⟩, hB⟩ hK
    have hc := hv.cell
    gi_wp2
    refine ⟨by simp, .inl ⟨_, _, rfl, run_takeDeferred hK, ?_⟩⟩
    exact ⟨_, results_tmp rfl _ _ _, v, rfl, ownsRow_putObj hrow _ hK rfl, hB.trans (belowK_b (w := w) (Nat.le_refl _) W D _ _ (by simp at hD; omega) hK rfl rfl)⟩
  case stop =>
    rintro D c pre W _ _ h _
    exact h.elim
end Go.Proofs.Ytffhnkhjfggooaa
