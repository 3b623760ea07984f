/- A list of the same number, over and over: slices.Repeat of a list of one. -/
import Derived.Test.YtbblohjldkpcnabCpy
import Derived.Test.YtbblohjldkpcnabArr
import Derived.Test.YtbblohjldkpcnabRo
import Derived.Shelf.Bits.Mul64
import Derived.StillTailTactics
import Derived.Deep.RegionWith
import Derived.IntWalk
namespace Go.Proofs.Ytbblohjldkpcnab
open Go Go.ChangeShapes Go.WideShapes Go.ChangeAt Go.RowKit

set_option maxRecDepth 100000 in
set_option maxHeartbeats 1600000 in
theorem mul64_any (x y : Nat) (hx : x < 18446744073709551616) (hy : y < 18446744073709551616) (w : World) :
    Calls Try.prog 171 #[.int .u64 x, .int .u64 y] w fun e w' => e = .returned (.tuple #[.int .u64 ((x * y / 18446744073709551616 : Nat) : Int), .int .u64 ((x * y % 18446744073709551616 : Nat) : Int)]) ∧ w' = w := by
  obtain ⟨bd, bt, bw, hhi⟩ := Lib.mul64_hi x y hx hy
  have ba := Lib.half_mul_le (a := x / 4294967296) (b := y / 4294967296) (by omega) (by omega)
  have bb := Lib.half_mul_le (a := x / 4294967296) (b := y % 4294967296) (by omega) (by omega)
  have bc := Lib.half_mul_le (a := x % 4294967296) (b := y / 4294967296) (by omega) (by omega)
  have ba' : x / 4294967296 * (y / 4294967296) < 18446744073709551616 := by omega
  have bb' : x / 4294967296 * (y % 4294967296) < 18446744073709551616 := by omega
  have bc' : x % 4294967296 * (y / 4294967296) < 18446744073709551616 := by omega
  have bh1 : x / 4294967296 * (y / 4294967296) + (x / 4294967296 * (y % 4294967296) + x % 4294967296 * (y % 4294967296) / 4294967296) / 4294967296 < 18446744073709551616 := by omega
  have bh : x / 4294967296 * (y / 4294967296) + (x / 4294967296 * (y % 4294967296) + x % 4294967296 * (y % 4294967296) / 4294967296) / 4294967296 + ((x / 4294967296 * (y % 4294967296) + x % 4294967296 * (y % 4294967296) / 4294967296) % 4294967296 + x % 4294967296 * (y / 4294967296)) / 4294967296 < 18446744073709551616 := by omega
  go_enter Try.func171, Try.ntmps171
  go_wp2
  simp only [Mul64.maskN x hx, Mul64.maskN y hy, Mul64.divN, Mul64.mulN, Mul64.addN, Mul64.wrapN _ bd, Mul64.wrapN _ bb', Mul64.wrapN _ bt, Mul64.maskN _ bt, Mul64.wrapN _ bc', Mul64.wrapN _ bw, Mul64.wrapN _ ba', Mul64.wrapN _ bh1, Mul64.wrapN _ bh, Mul64.wrapM (x * y)]
  rw [hhi]
  go_ret2
  exact ⟨rfl, rfl⟩
set_option maxRecDepth 100000 in
set_option maxHeartbeats 1600000 in
theorem mulBits_any (x y : Nat) (hx : x < 18446744073709551616) (hy : y < 18446744073709551616) (w : World) :
    Calls Try.prog 127 #[.int .u64 x, .int .u64 y] w fun e w' => e = .returned (.tuple #[.int .u64 ((x * y / 18446744073709551616 : Nat) : Int), .int .u64 ((x * y % 18446744073709551616 : Nat) : Int)]) ∧ w' = w := by
  have c64 := Lib.hid (mul64_any x y hx hy w)
  go_enter Try.func127, Try.ntmps127
  go_wp2_with (go_at_call 171; refine c64.out.mono ?_; rintro e w' ⟨rfl, hw⟩; rw [hw])
  go_ret2
  exact ⟨rfl, rfl⟩
def fillR (u m j : Nat) : Nat := if j < m then u else 0
def RepRet (u K : Nat) (w : World) (e : Ending) (w' : World) : Prop := ∃ v, e = .returned v ∧ w'.ownsRow w.heap.size 43 1 v K (rowOf (fun _ => u) K) ∧ Below w.heap.size w w'
theorem fill_all {u K : Nat} : rowOf (fillR u K) K = rowOf (fun _ => u) K := rowOf_congr fun _ hj => if_pos hj
theorem copyIn_run {w0 w1 : World} {B g m K u : Nat} (h1 : 1 ≤ m) (h2 : m < K) (ho : w1.ownsRow B 43 1 (.slice (some ⟨g, 0, none⟩) K K) K (rowOf (fillR u m) K)) (hb : Below B w0 w1) :
    ∃ (q : Nat) (w2 : World), 1 ≤ q ∧ m + q ≤ K ∧ (Builtin.copy_ #[24, 24] 3 #[.slice (some ⟨g, m, none⟩) (K - m) (K - m), .slice (some ⟨g, 0, none⟩) m K]).run Try.prog w1 = .ok (goInt q) w2 ∧
      w2.ownsRow B 43 1 (.slice (some ⟨g, 0, none⟩) K K) K (rowOf (fillR u (m + q)) K) ∧ Below B w0 w2 := by
  have hc0 : ∀ j, j < K → w1.cell? ⟨g, j, none⟩ = some (.float .f32 (fillR u m j)) := fun j hj => by
    have := own_cell ho hj
    simpa using this
  obtain ⟨hlen, hd⟩ := ho
  rcases hd with ⟨h, _⟩ | ⟨b, cap, cur, hv, hB, hg, hn, hc, hs, ht⟩
  · cases h
  · simp only [Value.slice.injEq, Option.some.injEq, Addr.mk.injEq, true_and, and_true] at hv
    obtain ⟨rfl, rfl⟩ := hv
    rw [Nat.mul_one] at hs ht
    have hcur : cur.toList = rowOf (fillR u m) K := by rw [← ht, List.take_of_length_le (by simp [hs])]
    obtain ⟨q, hq⟩ : ∃ q, q = min m (K - m) := ⟨_, rfl⟩
    have hq1 : q ≤ m := by omega
    have hq2 : m + q ≤ K := by omega
    have hr := run_copy_row (P := Try.prog) w1 24 24 3 43 g m (K - m) (K - m) ⟨g, 0, none⟩ m K cur 43 (rowOf (fun _ => u) q) Try.underlying24 sizeF hg
      (by rw [rowOf_length, hq]) (fun j v hj => by
        by_cases hjn : j < q
        · rw [rowOf_get _ _ _ hjn] at hj
          cases hj
          have := hc0 j (by omega)
          rw [fillR, if_pos (by omega)] at this
          by_cases h0 : j = 0
          · subst h0; simpa [Addr.add] using this
          · simpa [Addr.add, h0] using this
        · rw [List.getElem?_eq_none (by rw [rowOf_length]; omega)] at hj; cases hj) (by rw [rowOf_length, hs]; omega) (fun v hv => by obtain ⟨j, _, rfl⟩ := List.mem_map.1 hv; rfl)
    rw [rowOf_length] at hr
    have hrow : cur.toList.take m ++ rowOf (fun _ => u) q ++ cur.toList.drop (m + q) = rowOf (fillR u (m + q)) K := by
      rw [hcur]
      apply List.ext_getElem?
      intro i
      by_cases hi : i < K
      · rw [rowOf_get _ _ _ hi, List.append_assoc, List.getElem?_append]
        by_cases him : i < m
        · rw [if_pos (by simp [rowOf_length]; omega), List.getElem?_take, if_pos him, rowOf_get _ _ _ hi, fillR, fillR, if_pos him, if_pos (by omega)]
        · rw [if_neg (by simp [rowOf_length]; omega), List.getElem?_append, List.length_take, rowOf_length, Nat.min_eq_left (by omega : m ≤ K)]
          by_cases hiq : i < m + q
          · rw [if_pos (by rw [rowOf_length]; omega), rowOf_get _ _ _ (by omega), fillR, if_pos hiq]
          · rw [if_neg (by rw [rowOf_length]; omega), rowOf_length, List.getElem?_drop, rowOf_get _ _ _ (by omega), fillR, fillR, if_neg (by omega), if_neg hiq]
      · rw [List.getElem?_eq_none (by simp [rowOf_length]; omega), List.getElem?_eq_none (by simp [rowOf_length]; omega)]
    rw [hrow] at hr
    exact ⟨q, _, by omega, hq2, hr, ⟨by rw [rowOf_length, Nat.mul_one], .inr ⟨g, K, (rowOf (fillR u (m + q)) K).toArray, rfl, hB, setRow_heap w1 g _ _ _ _ hg, Nat.le_refl _, hc, by simp [rowOf_length], by rw [Nat.mul_one]; exact List.take_of_length_le (by simp [rowOf_length])⟩⟩, below_setRow hb hB _⟩
set_option maxRecDepth 100000 in
set_option maxHeartbeats 3200000 in
theorem repF_any (xa : Option Addr) (cx u K : Nat) (w : World) (hX : Rd w xa 1 (fun _ => u)) (hK : K ≤ 1048576) :
    Calls Try.prog 65 #[.slice xa 1 cx, .int .i64 K] w (RepRet u K w) := by
  obtain ⟨i0, hi, hz0, hz1, hz2⟩ := info_parts infoF
  have hb : i0.bytes * K ≤ 281474976710656 := by rw [hz2]; omega
  have hm : K ≤ maxLen := by unfold maxLen; omega
  have HM := Lib.hid (fun w => mulBits_any 1 K (by decide) (by omega) w)
  have e1 : 1 * K / 18446744073709551616 = 0 := by omega
  have e2 : 1 * K % 18446744073709551616 = K := by omega
  rw [e1, e2] at HM
  clear e1 e2
  have hk2 : (K : Int) ≤ 1048576 := by omega
  go_enter Try.func65, Try.ntmps65
  go_wp2_with (first | (go_at_call 127; refine (HM.out _).mono ?_; rintro e w' ⟨rfl, hw⟩; rw [hw]; clear hw) | (at_make; refine wpList_make_full _ rfl _ _ 24 rfl w.heap.size 43 i0 (.float .f32 0) 1 Try.underlying24 hi hz0 hz1 _ _ _ _ K rfl rfl rfl rfl hb hm (Nat.le_refl _) ?_))
  intro w1 hown hgr
  rw [madeF] at hown
  have hB : Below w.heap.size w w1 := (Below.refl _ w).grown hgr (Nat.le_refl _) (fun _ h => by cases h)
  clear hgr hb hm hi hz0 hz1 hz2
  have hX1 := hX.below hB
  by_cases h0 : K = 0
  · subst h0
    have hr0 := run_copy_none (P := Try.prog) w1 24 24 3 43 (some ⟨w.heap.size, 0, none⟩) xa 0 0 1 cx Try.underlying24 sizeF rfl
    go_wp2
    go_loopw [8] (fun i wr => i = .int .i64 0 ∧ wr = w1) (fun _ _ => 0)
    case atStart => exact ⟨rfl, rfl⟩
    case round =>
      obtain ⟨rfl, rfl⟩ := hrel
      go_wp2
      go_ret
      exact ⟨_, rfl, hown, hB⟩
  · obtain ⟨w2, hcp, ho2, hb2⟩ := copyF_run (cx := cx) hX1 (by omega) (by omega : 1 ≤ K) hown hB
    have ho3 : w2.ownsRow w.heap.size 43 1 (.slice (some ⟨w.heap.size, 0, none⟩) K K) K (rowOf (fillR u 1) K) := ho2
    have hk1 : (1 : Int) ≤ (K : Int) := by omega
    clear hX1 hB hown ho2
    go_wp2
    go_loopw [8] (fun i wr => ∃ m : Nat, 1 ≤ m ∧ m ≤ K ∧ i = .int .i64 m ∧ wr.ownsRow w.heap.size 43 1 (.slice (some ⟨w.heap.size, 0, none⟩) K K) K (rowOf (fillR u m) K) ∧ Below w.heap.size w wr) (fun i _ => K - (intOf i).toNat)
    case atStart => exact ⟨1, Nat.le_refl _, by omega, rfl, ho3, hb2⟩
    case round =>
      obtain ⟨m, h1, hmK, rfl, ho, hbw⟩ := hrel
      clear hb2 ho3 hcp
      by_cases hlt : m < K
      · have hlt' : (m : Int) < (K : Int) := by omega
        go_wp2_with fail
        obtain ⟨q, w3, hq1, hq2, hcp, ho3, hb3⟩ := copyIn_run (w1 := wr.drewN 1) h1 hlt (by exact own_drew ho 1) (Below.drewN hbw 1)
        have hq3 : (m : Int) + q ≤ K := by omega
        have hcp2 : (Builtin.copy_ #[24, 24] 3 #[.slice (some ⟨w.heap.size, m, none⟩) (K - m) (K - m), .slice (some ⟨w.heap.size, 0, none⟩) m K]).run Try.prog wr.drew = .ok (goInt q) w3 := hcp
        clear hcp
        have hw3 : IntKind.i64.wrap ((m : Int) + (q : Int)) = (m : Int) + q := IntWalk.i64_in _ (by omega)
        go_region_with (fail)
        all_goals clear hw3
        all_goals simp only [Act.put, go_sem]
        all_goals simp
        all_goals go_wp2
        all_goals go_roundw
        case rel => exact ⟨m + q, by omega, hq2, by simp [go_sem], ho3, hb3⟩
        case measure =>
          simp [intOf, go_sem]
          omega
      · have hkm : m = K := by omega
        subst hkm
        rw [fill_all] at ho
        go_wp2
        go_ret
        exact ⟨_, rfl, ho, hbw⟩
end Go.Proofs.Ytbblohjldkpcnab
