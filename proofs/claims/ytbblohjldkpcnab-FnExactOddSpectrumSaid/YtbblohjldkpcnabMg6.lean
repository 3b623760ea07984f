
import Derived.Test.YtbblohjldkpcnabLiW
import Derived.Laws.CopyOwn
import Derived.Test.YtbblohjldkpcnabArr
import Derived.Test.YtbblohjldkpcnabRo
import Derived.Shelf.Bits.Mul64
import Derived.StillTailTactics
import Derived.Deep.RegionWith
import Derived.IntWalk
import Derived.Test.YtbblohjldkpcnabSpc
import Derived.Test.YtbblohjldkpcnabGiv
import Derived.Test.YtbblohjldkpcnabHwP
import Derived.Test.YtbblohjldkpcnabNf
import Derived.Test.YtbblohjldkpcnabOrW
import Derived.Test.YtbblohjldkpcnabSq5
import Derived.Test.YtbblohjldkpcnabDiv
namespace Go.Proofs.Ytbblohjldkpcnab
open Go Go.ChangeShapes Go.WideShapes Go.ChangeAt Go.RowKit
/- 'copy' of a row that came in to the beginning of a row of the call's own. -/

theorem sizeF : (Try.prog.info? 43).map (·.size) = some 1 := by
  obtain ⟨i0, hi, _, hz, _⟩ := info_parts infoF
  rw [hi]
  exact congrArg some hz
theorem copyF_run {w0 w1 : World} {B g n M cx : Nat} {xa : Option Addr} {X Z : Nat → Nat} (hX : Rd w1 xa n X) (h1 : 0 < n) (hnM : n ≤ M)
    (ho : w1.ownsRow B 43 1 (.slice (some ⟨g, 0, none⟩) M M) M (rowOf Z M)) (hb : Below B w0 w1) :
    ∃ w2, (Builtin.copy_ #[24, 24] 3 #[.slice (some ⟨g, 0, none⟩) M M, .slice xa n cx]).run Try.prog w1 = .ok (goInt n) w2 ∧
      w2.ownsRow B 43 1 (.slice (some ⟨g, 0, none⟩) M M) M (rowOf (fun j => if j < n then X j else Z j) M) ∧ Below B w0 w2 := by
  obtain ⟨xb, xo, hxa, hcx⟩ := hX
  have e := hxa h1
  subst e
  obtain ⟨hlen, hd⟩ := ho
  rcases hd with ⟨h, _⟩ | ⟨b, cap, cur, hv, hB, hg, hn, hc, hs, ht⟩
  · cases h
  · simp only [Value.slice.injEq, Option.some.injEq, Addr.mk.injEq, true_and, and_true] at hv
    obtain ⟨rfl, rfl⟩ := hv
    rw [Nat.mul_one] at hs ht
    have hcur : cur.toList = rowOf Z M := by rw [← ht, List.take_of_length_le (by simp [hs])]
    have hr := run_copy_row (P := Try.prog) w1 24 24 3 43 g 0 M M ⟨xb, xo, none⟩ n cx cur 43 (rowOf X n) Try.underlying24 sizeF hg
      (by rw [rowOf_length]; exact (Nat.min_eq_left hnM).symm) (fun j v hj => by
        by_cases hjn : j < n
        · rw [rowOf_get _ _ _ hjn] at hj
          cases hj
          have := hcx j hjn
          by_cases h0 : j = 0
          · subst h0; simpa [Addr.add] using this
          · simpa [Addr.add, h0] using this
        · rw [List.getElem?_eq_none (by rw [rowOf_length]; omega)] at hj; cases hj) (by rw [rowOf_length, hs]; omega) (fun v hv => by obtain ⟨j, _, rfl⟩ := List.mem_map.1 hv; rfl)
    rw [rowOf_length] at hr
    have hrow : cur.toList.take 0 ++ rowOf X n ++ cur.toList.drop (0 + n) = rowOf (fun j => if j < n then X j else Z j) M := by
      rw [hcur, List.take_zero, List.nil_append, Nat.zero_add]
      apply List.ext_getElem?
      intro i
      by_cases hi : i < M
      · rw [rowOf_get _ _ _ hi, List.getElem?_append]
        by_cases hin : i < n
        · rw [if_pos (by rw [rowOf_length]; exact hin), rowOf_get _ _ _ hin, if_pos hin]
        · rw [if_neg (by rw [rowOf_length]; exact hin), rowOf_length, List.getElem?_drop, rowOf_get _ _ _ (by omega), if_neg hin, show n + (i - n) = i by omega]
      · rw [List.getElem?_eq_none (by simp [rowOf_length]; omega), List.getElem?_eq_none (by simp [rowOf_length]; omega)]
    rw [hrow] at hr
    refine ⟨_, hr, ⟨by rw [rowOf_length, Nat.mul_one], .inr ⟨g, M, _, rfl, hB, setRow_heap w1 g _ _ _ _ hg, Nat.le_refl _, hc, by simp [rowOf_length], by rw [Nat.mul_one]; exact List.take_of_length_le (by simp [rowOf_length])⟩⟩, below_setRow hb hB _⟩

/- A list of the same number, over and over: slices.Repeat of a list of one. -/

set_option maxRecDepth 100000 in
set_option maxHeartbeats 1600000 in
theorem mul64_any (x y : Nat) (hx : x < 18446744073709551616) (hy : y < 18446744073709551616) (w : World) :
    Calls Try.prog 171 #[.int .u64 x, .int .u64 y] w fun e w' => e = .returned (.tuple #[.int .u64 ((x * y / 18446744073709551616 : Nat) : Int), .int .u64 ((x * y % 18446744073709551616 : Nat) : Int)]) ∧ w' = w := by
  obtain ⟨bd, bt, bw, hhi⟩ := Lib.mul64_hi x y hx hy
  have ba := Lib.half_mul_le (a := x / 4294967296) (b := y / 4294967296) (by omega) (by omega)
  have bb := Lib.half_mul_le (a := x / 4294967296) (b := y % 4294967296) (by omega) (by omega)
  have bc := Lib.half_mul_le (a := x % 4294967296) (b := y / 4294967296) (by omega) (by omega)
  have ba' : x / 4294967296 * (y / 4294967296) < 18446744073709551616 := by omega
  have bb' : x / 4294967296 * (y % 4294967296) < 18446744073709551616 := by omega
  have bc' : x % 4294967296 * (y / 4294967296) < 18446744073709551616 := by omega
  have bh1 : x / 4294967296 * (y / 4294967296) + (x / 4294967296 * (y % 4294967296) + x % 4294967296 * (y % 4294967296) / 4294967296) / 4294967296 < 18446744073709551616 := by omega
  have bh : x / 4294967296 * (y / 4294967296) + (x / 4294967296 * (y % 4294967296) + x % 4294967296 * (y % 4294967296) / 4294967296) / 4294967296 + ((x / 4294967296 * (y % 4294967296) + x % 4294967296 * (y % 4294967296) / 4294967296) % 4294967296 + x % 4294967296 * (y / 4294967296)) / 4294967296 < 18446744073709551616 := by omega
  go_enter Try.func171, Try.ntmps171
  go_wp2
  simp only [Mul64.maskN x hx, Mul64.maskN y hy, Mul64.divN, Mul64.mulN, Mul64.addN, Mul64.wrapN _ bd, Mul64.wrapN _ bb', Mul64.wrapN _ bt, Mul64.maskN _ bt, Mul64.wrapN _ bc', Mul64.wrapN _ bw, Mul64.wrapN _ ba', Mul64.wrapN _ bh1, Mul64.wrapN _ bh, Mul64.wrapM (x * y)]
  rw [hhi]
  go_ret2
  exact ⟨rfl, rfl⟩
set_option maxRecDepth 100000 in
set_option maxHeartbeats 1600000 in
theorem mulBits_any (x y : Nat) (hx : x < 18446744073709551616) (hy : y < 18446744073709551616) (w : World) :
    Calls Try.prog 127 #[.int .u64 x, .int .u64 y] w fun e w' => e = .returned (.tuple #[.int .u64 ((x * y / 18446744073709551616 : Nat) : Int), .int .u64 ((x * y % 18446744073709551616 : Nat) : Int)]) ∧ w' = w := by
  have c64 := Lib.hid (mul64_any x y hx hy w)
  go_enter Try.func127, Try.ntmps127
  go_wp2_with (go_at_call 171; refine c64.out.mono ?_; rintro e w' ⟨rfl, hw⟩; rw [hw])
  go_ret2
  exact ⟨rfl, rfl⟩
def fillR (u m j : Nat) : Nat := if j < m then u else 0
def RepRet (u K : Nat) (w : World) (e : Ending) (w' : World) : Prop := ∃ v, e = .returned v ∧ w'.ownsRow w.heap.size 43 1 v K (rowOf (fun _ => u) K) ∧ Below w.heap.size w w'
theorem fill_all {u K : Nat} : rowOf (fillR u K) K = rowOf (fun _ => u) K := rowOf_congr fun _ hj => if_pos hj
theorem copyIn_run {w0 w1 : World} {B g m K u : Nat} (h1 : 1 ≤ m) (h2 : m < K) (ho : w1.ownsRow B 43 1 (.slice (some ⟨g, 0, none⟩) K K) K (rowOf (fillR u m) K)) (hb : Below B w0 w1) :
    ∃ (q : Nat) (w2 : World), 1 ≤ q ∧ m + q ≤ K ∧ (Builtin.copy_ #[24, 24] 3 #[.slice (some ⟨g, m, none⟩) (K - m) (K - m), .slice (some ⟨g, 0, none⟩) m K]).run Try.prog w1 = .ok (goInt q) w2 ∧
      w2.ownsRow B 43 1 (.slice (some ⟨g, 0, none⟩) K K) K (rowOf (fillR u (m + q)) K) ∧ Below B w0 w2 := by
  have hc0 : ∀ j, j < K → w1.cell? ⟨g, j, none⟩ = some (.float .f32 (fillR u m j)) := fun j hj => by
    have := own_cell ho hj
    simpa using this
  obtain ⟨hlen, hd⟩ := ho
  rcases hd with ⟨h, _⟩ | ⟨b, cap, cur, hv, hB, hg, hn, hc, hs, ht⟩
  · cases h
  · simp only [Value.slice.injEq, Option.some.injEq, Addr.mk.injEq, true_and, and_true] at hv
    obtain ⟨rfl, rfl⟩ := hv
    rw [Nat.mul_one] at hs ht
    have hcur : cur.toList = rowOf (fillR u m) K := by rw [← ht, List.take_of_length_le (by simp [hs])]
    obtain ⟨q, hq⟩ : ∃ q, q = min m (K - m) := ⟨_, rfl⟩
    have hq1 : q ≤ m := by omega
    have hq2 : m + q ≤ K := by omega
    have hr := run_copy_row (P := Try.prog) w1 24 24 3 43 g m (K - m) (K - m) ⟨g, 0, none⟩ m K cur 43 (rowOf (fun _ => u) q) Try.underlying24 sizeF hg
      (by rw [rowOf_length, hq]) (fun j v hj => by
        by_cases hjn : j < q
        · rw [rowOf_get _ _ _ hjn] at hj
          cases hj
          have := hc0 j (by omega)
          rw [fillR, if_pos (by omega)] at this
          by_cases h0 : j = 0
          · subst h0; simpa [Addr.add] using this
          · simpa [Addr.add, h0] using this
        · rw [List.getElem?_eq_none (by rw [rowOf_length]; omega)] at hj; cases hj) (by rw [rowOf_length, hs]; omega) (fun v hv => by obtain ⟨j, _, rfl⟩ := List.mem_map.1 hv; rfl)
    rw [rowOf_length] at hr
    have hrow : cur.toList.take m ++ rowOf (fun _ => u) q ++ cur.toList.drop (m + q) = rowOf (fillR u (m + q)) K := by
      rw [hcur]
      apply List.ext_getElem?
      intro i
      by_cases hi : i < K
      · rw [rowOf_get _ _ _ hi, List.append_assoc, List.getElem?_append]
        by_cases him : i < m
        · rw [if_pos (by simp [rowOf_length]; omega), List.getElem?_take, if_pos him, rowOf_get _ _ _ hi, fillR, fillR, if_pos him, if_pos (by omega)]
        · rw [if_neg (by simp [rowOf_length]; omega), List.getElem?_append, List.length_take, rowOf_length, Nat.min_eq_left (by omega : m ≤ K)]
          by_cases hiq : i < m + q
          · rw [if_pos (by rw [rowOf_length]; omega), rowOf_get _ _ _ (by omega), fillR, if_pos hiq]
          · rw [if_neg (by rw [rowOf_length]; omega), rowOf_length, List.getElem?_drop, rowOf_get _ _ _ (by omega), fillR, fillR, if_neg (by omega), if_neg hiq]
      · rw [List.getElem?_eq_none (by simp [rowOf_length]; omega), List.getElem?_eq_none (by simp [rowOf_length]; omega)]
    rw [hrow] at hr
    exact ⟨q, _, by omega, hq2, hr, ⟨by rw [rowOf_length, Nat.mul_one], .inr ⟨g, K, (rowOf (fillR u (m + q)) K).toArray, rfl, hB, setRow_heap w1 g _ _ _ _ hg, Nat.le_refl _, hc, by simp [rowOf_length], by rw [Nat.mul_one]; exact List.take_of_length_le (by simp [rowOf_length])⟩⟩, below_setRow hb hB _⟩
set_option maxRecDepth 100000 in
set_option maxHeartbeats 3200000 in
theorem repF_any (xa : Option Addr) (cx u K : Nat) (w : World) (hX : Rd w xa 1 (fun _ => u)) (hK : K ≤ 1048576) :
    Calls Try.prog 65 #[.slice xa 1 cx, .int .i64 K] w (RepRet u K w) := by
  obtain ⟨i0, hi, hz0, hz1, hz2⟩ := info_parts infoF
  have hb : i0.bytes * K ≤ 281474976710656 := by rw [hz2]; omega
  have hm : K ≤ maxLen := by unfold maxLen; omega
  have HM := Lib.hid (fun w => mulBits_any 1 K (by decide) (by omega) w)
  have e1 : 1 * K / 18446744073709551616 = 0 := by omega
  have e2 : 1 * K % 18446744073709551616 = K := by omega
  rw [e1, e2] at HM
  clear e1 e2
  have hk2 : (K : Int) ≤ 1048576 := by omega
  go_enter Try.func65, Try.ntmps65
  go_wp2_with (first | (go_at_call 127; refine (HM.out _).mono ?_; rintro e w' ⟨rfl, hw⟩; rw [hw]; clear hw) | (at_make; refine wpList_make_full _ rfl _ _ 24 rfl w.heap.size 43 i0 (.float .f32 0) 1 Try.underlying24 hi hz0 hz1 _ _ _ _ K rfl rfl rfl rfl hb hm (Nat.le_refl _) ?_))
  intro w1 hown hgr
  rw [madeF] at hown
  have hB : Below w.heap.size w w1 := (Below.refl _ w).grown hgr (Nat.le_refl _) (fun _ h => by cases h)
  clear hgr hb hm hi hz0 hz1 hz2
  have hX1 := hX.below hB
  by_cases h0 : K = 0
  · subst h0
    have hr0 := run_copy_none (P := Try.prog) w1 24 24 3 43 (some ⟨w.heap.size, 0, none⟩) xa 0 0 1 cx Try.underlying24 sizeF rfl
    go_wp2
    go_loopw [8] (fun i wr => i = .int .i64 0 ∧ wr = w1) (fun _ _ => 0)
    case atStart => exact ⟨rfl, rfl⟩
    case round =>
      obtain ⟨rfl, rfl⟩ := hrel
      go_wp2
      go_ret
      exact ⟨_, rfl, hown, hB⟩
  · obtain ⟨w2, hcp, ho2, hb2⟩ := copyF_run (cx := cx) hX1 (by omega) (by omega : 1 ≤ K) hown hB
    have ho3 : w2.ownsRow w.heap.size 43 1 (.slice (some ⟨w.heap.size, 0, none⟩) K K) K (rowOf (fillR u 1) K) := ho2
    have hk1 : (1 : Int) ≤ (K : Int) := by omega
    clear hX1 hB hown ho2
    go_wp2
    go_loopw [8] (fun i wr => ∃ m : Nat, 1 ≤ m ∧ m ≤ K ∧ i = .int .i64 m ∧ wr.ownsRow w.heap.size 43 1 (.slice (some ⟨w.heap.size, 0, none⟩) K K) K (rowOf (fillR u m) K) ∧ Below w.heap.size w wr) (fun i _ => K - (intOf i).toNat)
    case atStart => exact ⟨1, Nat.le_refl _, by omega, rfl, ho3, hb2⟩
    case round =>
      obtain ⟨m, h1, hmK, rfl, ho, hbw⟩ := hrel
      clear hb2 ho3 hcp
      by_cases hlt : m < K
      · have hlt' : (m : Int) < (K : Int) := by omega
        go_wp2_with fail
        obtain ⟨q, w3, hq1, hq2, hcp, ho3, hb3⟩ := copyIn_run (w1 := wr.drewN 1) h1 hlt (by exact own_drew ho 1) (Below.drewN hbw 1)
        have hq3 : (m : Int) + q ≤ K := by omega
        have hcp2 : (Builtin.copy_ #[24, 24] 3 #[.slice (some ⟨w.heap.size, m, none⟩) (K - m) (K - m), .slice (some ⟨w.heap.size, 0, none⟩) m K]).run Try.prog wr.drew = .ok (goInt q) w3 := hcp
        clear hcp
        have hw3 : IntKind.i64.wrap ((m : Int) + (q : Int)) = (m : Int) + q := IntWalk.i64_in _ (by omega)
        go_region_with (fail)
        all_goals clear hw3
        all_goals simp only [Act.put, go_sem]
        all_goals simp
        all_goals go_wp2
        all_goals go_roundw
        case rel => exact ⟨m + q, by omega, hq2, by simp [go_sem], ho3, hb3⟩
        case measure =>
          simp [intOf, go_sem]
          omega
      · have hkm : m = K := by omega
        subst hkm
        rw [fill_all] at ho
        go_wp2
        go_ret
        exact ⟨_, rfl, ho, hbw⟩

/- Mixtures: their numbers (of XMix, for seats that lack the rest). -/

/-- The mixture of K rows by shares S. -/
def mixR (S : Nat → Nat) (X : Nat → Nat → Nat) (K j : Nat) : Nat := dotW S (fun k => X k j) K
theorem RdR.row {w : World} {xb xo K i : Nat} {N : Nat → Nat} {X : Nat → Nat → Nat} (h : RdR w (some ⟨xb, xo, none⟩) K N X) (hi : i < K) : ∃ a c, w.cell? ⟨xb, xo + i, none⟩ = some (.slice a (N i) c) ∧ N i ≤ c ∧ Rd w a (N i) (X i) := by
  obtain ⟨yb, yo, h1, h2⟩ := h
  have e := h1 (by omega)
  cases e
  exact h2 i hi
theorem Rd.at {w : World} {a : Option Addr} {n : Nat} {X : Nat → Nat} (h : Rd w a n X) (hn : 0 < n) : ∃ b o, a = some ⟨b, o, none⟩ ∧ ∀ i, i < n → w.cell? ⟨b, o + i, none⟩ = some (.float .f32 (X i)) := by
  obtain ⟨b, o, h1, h2⟩ := h
  exact ⟨b, o, h1 hn, h2⟩
/-- Where the rows lie. -/
theorem RdR.lay {w : World} {xb xo K n : Nat} {N : Nat → Nat} {X : Nat → Nat → Nat} (h : RdR w (some ⟨xb, xo, none⟩) K N X) (hN : ∀ k, k < K → N k = n) (h0 : 0 < n) :
    ∃ (b o c : Nat → Nat), ∀ w', Below w.heap.size w w' → ∀ k, k < K → w'.cell? ⟨xb, xo + k, none⟩ = some (.slice (some ⟨b k, o k, none⟩) n (c k)) ∧ ∀ j, j < n → w'.cell? ⟨b k, o k + j, none⟩ = some (.float .f32 (X k j)) := by
  have key : ∀ k, k < K → ∃ q : Nat × Nat × Nat, w.cell? ⟨xb, xo + k, none⟩ = some (.slice (some ⟨q.1, q.2.1, none⟩) n q.2.2) ∧ ∀ j, j < n → w.cell? ⟨q.1, q.2.1 + j, none⟩ = some (.float .f32 (X k j)) := fun k hk => by
    obtain ⟨a, c, h1, _, h2⟩ := RdR.row h hk
    rw [hN k hk] at h1 h2
    obtain ⟨b, o, rfl, h3⟩ := h2.at h0
    exact ⟨(b, o, c), h1, h3⟩
  obtain ⟨Q, hQ⟩ := Deep.choose_lt (α := Nat × Nat × Nat) (n := K) (p := fun k q => w.cell? ⟨xb, xo + k, none⟩ = some (.slice (some ⟨q.1, q.2.1, none⟩) n q.2.2) ∧ ∀ j, j < n → w.cell? ⟨q.1, q.2.1 + j, none⟩ = some (.float .f32 (X k j))) key
  refine ⟨fun k => (Q k).1, fun k => (Q k).2.1, fun k => (Q k).2.2, fun w' hb k hk => ?_⟩
  obtain ⟨h1, h2⟩ := hQ k hk
  exact ⟨(hb.cell (p := ⟨xb, xo + k, none⟩) (World.block_lt_of_cell? w _ h1)).trans h1, fun j hj => (hb.cell (p := ⟨(Q k).1, (Q k).2.1 + j, none⟩) (World.block_lt_of_cell? w _ (h2 j hj))).trans (h2 j hj)⟩
def okMix (K : Nat) (N : Nat → Nat) (X : Nat → Nat → Nat) (n : Nat) (S : Nat → Nat) : Bool := okSpc K N X && decide ((n : Int) = (K : Int)) && finL S n

/- Mixtures: as the program makes them. -/

set_option maxRecDepth 100000 in
set_option maxHeartbeats 3200000 in
theorem implMix_yes (xa : Option Addr) (K cap : Nat) (N : Nat → Nat) (X : Nat → Nat → Nat) (sa : Option Addr) (cs : Nat) (S : Nat → Nat) (w : World) (hX : RdR w xa K N X) (hS : Rd w sa K S) (h : K + totN N K ≤ 1048576) (hk : okSpc K N X = true) (hfs : finL S K = true) (ok : Bool) (ho : Hid (ok = finL (mixR S X K) (N 0))) (m : Nat) (hm : Hid (m = if ok = true then N 0 else 0)) :
    Calls Try.prog 64 #[.slice xa K cap, .slice sa K cs] w (LstRet (mixR S X K) m ok w) := by
  obtain ⟨i0, hi, hz0, hz1, hz2⟩ := info_parts infoF
  have HT := Lib.hid (fun w hX => implSpc_any xa K cap N X w hX h true (Lib.hid hk.symm))
  have HAF := Lib.hid (fun w hS => allFinite_any sa K cs S w hS (by omega))
  rw [hfs] at HAF
  obtain ⟨hK1, hK8, hall⟩ := okSpc_at hk
  have HA := Lib.hid hall
  obtain ⟨n, hn⟩ : ∃ n, n = N 0 := ⟨_, rfl⟩
  have hn128 : 1 ≤ n ∧ n ≤ 128 := by have := okLst_at (hall 0 (by omega)).1; omega
  have hX0 := hX
  obtain ⟨xb, xo, hxa, _⟩ := hX
  have e := hxa (by omega)
  subst e
  have hS0 := hS
  obtain ⟨sb, so, hsa, hcs⟩ := hS
  have e := hsa (by omega)
  subst e
  obtain ⟨rb, ro, rc, hlay⟩ := RdR.lay hX0 (n := n) (fun k hk => by rw [(HA.out k hk).2, hn]) (by omega)
  have HX := Lib.hid hlay
  clear hlay
  have HS := Lib.hid (show ∀ w', Below w.heap.size w w' → ∀ k, k < K → w'.cell? ⟨sb, so + k, none⟩ = some (.float .f32 (S k)) from fun w' hb k hk =>
    (hb.cell (p := ⟨sb, so + k, none⟩) (World.block_lt_of_cell? w _ (hcs k hk))).trans (hcs k hk))
  have HFS := Lib.hid (finL_at hfs)
  have HFX := Lib.hid (show ∀ k, k < K → ∀ j, j < n → isFin .f32 (X k j) = true from fun k hk j hj => finL_at (okLst_at (HA.out k hk).1).1 j (by rw [(HA.out k hk).2, ← hn]; exact hj))
  have hi1 : (0 : Int) < (K : Int) := by omega
  have hi2 : 0 < K := by omega
  have hne : ((K : Int) != (K : Int)) = false := by simp
  have hb : i0.bytes * n ≤ 281474976710656 := by rw [hz2]; omega
  have hmx : n ≤ maxLen := by unfold maxLen; omega
  rw [← hn] at ho hm
  clear hall hxa hsa hcs hk hfs hn
  go_enter Try.func64, Try.ntmps64
  go_wp2_with fail
  refine (HT.out _ (by exact hX0)).mono ?_
  rintro e w1 ⟨rfl, B1⟩
  go_wp2_with fail
  refine (HAF.out _ (by exact hS0.below B1)).mono ?_
  rintro e w' ⟨rfl, q, rfl⟩
  have B2 : Below w.heap.size w (w1.drewN q) := Below.drewN B1 q
  obtain ⟨w2, hw2⟩ : ∃ w2, w2 = w1.drewN q := ⟨_, rfl⟩
  rw [← hw2] at B2 ⊢
  clear hw2 B1 hX0 hS0
  have h0 := (HX.out w2 B2 0 (by omega)).1
  rw [Nat.add_zero] at h0
  go_wp2_with (at_make; refine wpList_make_full _ rfl _ _ 24 rfl w2.heap.size 43 i0 (.float .f32 0) 1 Try.underlying24 hi hz0 hz1 _ _ _ _ n rfl rfl rfl rfl hb hmx (Nat.le_refl _) ?_)
  intro w3 hown hgr
  rw [madeF] at hown
  have HO : w3.ownsRow w2.heap.size 43 1 (.slice (some ⟨w2.heap.size, 0, none⟩) n n) n (rowOf (fun _ => 0) n) := hown
  have hB : Below w2.heap.size w2 w3 := (Below.refl _ w2).grown hgr (Nat.le_refl _) (fun _ h => by cases h)
  clear hgr hb hmx hown hi hz0 hz1 hz2 h0
  go_wp2
  go_loopw [33] (fun i wr => ∃ (c : Nat) (Z : Nat → Nat), c ≤ K ∧ i = .int .i64 (c : Int) ∧ wr.ownsRow w2.heap.size 43 1 (.slice (some ⟨w2.heap.size, 0, none⟩) n n) n (rowOf Z n) ∧ LikeP Z (mixR S X c) n ∧ Below w2.heap.size w2 wr) (fun i _ => K - (intOf i).toNat)
  case atStart => exact ⟨0, fun _ => 0, Nat.zero_le _, rfl, HO, fun j _ => ⟨0, by rw [show mixR S X 0 j = 0 from rfl, pick_zero]⟩, hB⟩
  case round =>
    obtain ⟨c, Z, hc, rfl, hownk, hL, hBk⟩ := hrel
    clear HO hB
    by_cases hltc : c < K
    · obtain ⟨wu, hwu⟩ : ∃ wu, wu = wr := ⟨_, rfl⟩
      subst hwu
      have hBw : Below w.heap.size w wu := B2.trans (hBk.mono B2.size)
      have h1 := (HX.out wu hBw c hltc).1
      have HOk := Lib.hid hownk
      have HLk := Lib.hid hL
      have HBk := Lib.hid hBk
      clear hownk hL hBk
      go_wp2
      go_loopw [40] (fun i wr => ∃ (j : Nat) (Y : Nat → Nat), j ≤ n ∧ i = .int .i64 (j : Int) ∧ wr.ownsRow w2.heap.size 43 1 (.slice (some ⟨w2.heap.size, 0, none⟩) n n) n (rowOf Y n) ∧ LikeP Y (fun p => if p < j then mixR S X (c + 1) p else mixR S X c p) n ∧ Below w2.heap.size w2 wr) (fun i _ => n - (intOf i).toNat)
      case atStart => exact ⟨0, Z, Nat.zero_le _, rfl, HOk.out, HLk.out.congr (fun p _ => by rw [if_neg (Nat.not_lt_zero _)]), HBk.out⟩
      case round =>
        obtain ⟨j, Y, hj, rfl, hownj, hLj, hBj⟩ := hrel
        by_cases hltj : j < n
        · have hBj' : Below w.heap.size w wr := B2.trans (hBj.mono B2.size)
          have h2 := (HX.out wr hBj' c hltc).2 j hltj
          have h4 := HS.out wr hBj' c hltc
          have h5 := own_cell hownj hltj
          obtain ⟨s, hs⟩ := hLj j hltj
          replace hs : Y j = pick .f32 (mixR S X c j) s := by
            rw [hs]
            show pick .f32 (if j < j then _ else _) s = _
            rw [if_neg (Nat.lt_irrefl _)]
          have st := fun q u => own_store hownj hltj q u
          have st1 := fun (u : Nat) => show (store ⟨w2.heap.size, j, none⟩ (.float .f32 u)).run Try.prog wr.drew = .ok () (wr.drew.setCell ⟨w2.heap.size, j, none⟩ (.float .f32 u)) from own_store hownj hltj 1 u
          obtain ⟨z, hz⟩ : ∃ z, z = Y j := ⟨_, rfl⟩
          rw [← hz] at hs h5
          have HOj := Lib.hid hownj
          have HLj := Lib.hid hLj
          have HBj := Lib.hid hBj
          obtain ⟨P, hP⟩ : ∃ P, P = fbin .mul .f32 (S c) (X c j) := ⟨_, rfl⟩
          have nP : isNaN .f32 P = false := by rw [hP]; exact nan_mul (HFS.out c hltc) (HFX.out c hltc j hltj)
          have q1 := fun t => run_numop (op := .mul) rfl t _ _ _ hP.symm nP
          obtain ⟨D, hD⟩ : ∃ D, fbin .add .f32 z P = D := ⟨_, rfl⟩
          have HD := Lib.hid (show mixR S X (c + 1) j = D by
            rw [← hD, hs, fbin_pick_l, hP]; rfl)
          have HR := Lib.hid (show ∀ t, LikeP (fun p => if p = j then pick .f32 D t else Y p) (fun p => if p < j + 1 then mixR S X (c + 1) p else mixR S X c p) n from fun t => (HLj.out.set (k := j) rfl).congr fun p hp => by
            by_cases e : p = j
            · rw [if_pos e, if_pos (by omega), e, HD.out]
            · rw [if_neg e]
              by_cases h : p < j
              · rw [if_pos h, if_pos (by omega)]
              · rw [if_neg h, if_neg (by omega)])
          have hb1 : (c : Int) < (K : Int) := by omega
          have hb2 : (j : Int) < (n : Int) := by omega
          clear hownj hLj hBj hP hs hz
          cases nD : isNaN .f32 D
          · have q2 := fun t => run_numop (op := .add) rfl t _ _ _ hD nD
            have HR0 := Lib.hid (show LikeP (fun p => if p = j then D else Y p) (fun p => if p < j + 1 then mixR S X (c + 1) p else mixR S X c p) n by
              have := HR.out 0
              rw [pick_num nD] at this
              exact this)
            clear nD
            go_wp2_with fail
            go_region
            go_wp2
            go_roundw
            case rel => exact ⟨j + 1, _, by omega, by go_num, own_stored (own_drew HOj.out 1) j _, HR0.out, Below.setCell (Below.drewN HBj.out 1) (Nat.le_refl _) _⟩
            case measure => simp [intOf]; omega
          · have q2 := run_add32
            clear nD
            go_wp2_with fail
            go_region
            go_wp2
            go_roundw
            case rel => exact ⟨j + 1, _, by omega, by go_num, own_stored (own_drew HOj.out _) j _, HR.out _, Below.setCell (Below.drewN HBj.out _) (Nat.le_refl _) _⟩
            case measure => simp [intOf]; omega
        · have hjn : j = n := by omega
          subst hjn
          have hL2 : LikeP Y (mixR S X (c + 1)) j := hLj.congr fun p hp => by rw [if_pos hp]
          clear hLj
          go_wp2
          go_roundw
          case rel => exact ⟨c + 1, Y, by omega, by go_num, hownj, hL2, hBj⟩
          case measure => simp [intOf]; omega
    · have hcK : c = K := by omega
      subst hcK
      have hBw : Below w.heap.size w wr := B2.trans (hBk.mono B2.size)
      have HF2 := Lib.hid (show LstRet (mixR S X c) (if finL (mixR S X c) n = true then n else 0) (finL (mixR S X c) n) w = LstRet (mixR S X c) m ok w by rw [hm.out, ho.out])
      go_wp2_with fail
      refine (onlyFinite_any _ _ n Z _ (by exact hownk) (by omega)).mono ?_
      rintro e w4 ⟨rfl, q3, rfl⟩
      have HV := Lib.hid (lstGive (w := w) hL.like (own_mono0 hownk B2.size) (by omega) hBw)
      clear hL hownk
      cases hfz : finL Z n
      · rw [hfz] at HV
        go_wp2
        go_ret2
        rw [← HF2.out]
        obtain ⟨a, b, h3, h4, h5, h6, h7⟩ := HV.out
        exact ⟨a, b, h3, h4, h5, h6, Below.drewN h7 _⟩
      · rw [hfz] at HV
        go_wp2
        go_ret2
        rw [← HF2.out]
        obtain ⟨a, b, h3, h4, h5, h6, h7⟩ := HV.out
        exact ⟨a, b, h3, h4, h5, h6, Below.drewN h7 _⟩
set_option maxRecDepth 100000 in
set_option maxHeartbeats 1600000 in
theorem implMix_any (xa : Option Addr) (K cap : Nat) (N : Nat → Nat) (X : Nat → Nat → Nat) (sa : Option Addr) (n cs : Nat) (S : Nat → Nat) (w : World) (hX : RdR w xa K N X) (hS : Rd w sa n S) (h : K + totN N K ≤ 1048576) (hn : n ≤ 1048576) (ok : Bool) (ho : Hid (ok = (okMix K N X n S && finL (mixR S X K) (N 0)))) (m : Nat) (hm : Hid (m = if ok = true then N 0 else 0)) :
    Calls Try.prog 64 #[.slice xa K cap, .slice sa n cs] w (LstRet (mixR S X K) m ok w) := by
  cases hk : okMix K N X n S
  · have HN := Lib.hid (fun w' (hb : Below w.heap.size w w') => show LstRet (mixR S X K) m ok w (.returned (.tuple #[.slice none 0 0, .bool false])) w' by
      have e : ok = false := by rw [ho.out, hk]; rfl
      rw [hm.out, e, if_neg (by simp)]; exact lstNo hb)
    have HT := Lib.hid (fun w hX => implSpc_any xa K cap N X w hX h _ (Lib.hid rfl))
    have HAF := Lib.hid (fun w hS => allFinite_any sa n cs S w hS hn)
    cases c1 : okSpc K N X
    · rw [c1] at HT
      clear hk
      go_enter Try.func64, Try.ntmps64
      go_wp2_with fail
      refine (HT.out _ (by exact hX)).mono ?_
      rintro e w1 ⟨rfl, B1⟩
      go_wp2
      go_ret2
      exact HN.out _ B1
    · rw [c1] at HT
      by_cases hnK : n = K
      · subst hnK
        have c3 : finL S n = false := by
          rw [okMix, c1, decide_eq_true rfl] at hk
          exact hk
        rw [c3] at HAF
        have hne : ((n : Int) != (n : Int)) = false := by simp
        clear hk c1 c3
        go_enter Try.func64, Try.ntmps64
        go_wp2_with fail
        refine (HT.out _ (by exact hX)).mono ?_
        rintro e w1 ⟨rfl, B1⟩
        go_wp2_with fail
        refine (HAF.out _ (by exact hS.below B1)).mono ?_
        rintro e w' ⟨rfl, q, rfl⟩
        go_wp2
        go_ret2
        exact HN.out _ (Below.drewN B1 _)
      · have hne : ((n : Int) != (K : Int)) = true := by simpa using (by omega : ¬ (n : Int) = (K : Int))
        clear hk c1 hnK
        go_enter Try.func64, Try.ntmps64
        go_wp2_with fail
        refine (HT.out _ (by exact hX)).mono ?_
        rintro e w1 ⟨rfl, B1⟩
        go_wp2
        go_ret2
        exact HN.out _ B1
  · have hk' := hk
    unfold okMix at hk'
    simp only [Bool.and_eq_true, decide_eq_true_eq] at hk'
    obtain ⟨⟨h1, h2⟩, h3⟩ := hk'
    obtain rfl : n = K := by omega
    exact implMix_yes xa n cap N X sa cs S w hX hS h h1 h3 ok (Lib.hid (by rw [ho.out, hk, Bool.true_and])) m hm

/- Sums of ones times numbers, and what is divided by a small count: 32-bit numbers. -/
open Go Go.RowKit

set_option maxRecDepth 100000 in
theorem read_mod (x : Nat) : FloatKind.f32.format.read (x % 4294967296) = FloatKind.f32.format.read x := by
  have e1 : FloatKind.f32.format.signWeight = 2147483648 := by decide +kernel
  have h1 : x % 4294967296 / 2147483648 % 2 = x / 2147483648 % 2 := by omega
  have h2 : x % 4294967296 % 2147483648 = x % 2147483648 := by omega
  simp only [Ieee.Format.read, e1, h1, h2]
theorem fin_mod {x : Nat} (h : isFin .f32 x = true) : isFin .f32 (x % 4294967296) = true := by
  unfold isFin FloatKind.decode at h ⊢
  rw [read_mod]
  exact h
/-- A finite number's parts. -/
theorem fin_parts {x : Nat} (h : isFin .f32 x = true) : ∃ s m i, FloatKind.f32.format.read x = .number s m i ∧ m < 16777216 ∧ i ≤ 104 ∧ rungN m i < 2139095040 := by
  obtain ⟨s, r, hr, hx⟩ := fin_word (Nat.mod_lt x (by decide : 0 < 4294967296)) (fin_mod h)
  obtain ⟨m, i, h1, h2⟩ := rung_read s r hr
  have h3 := read_wordS s r (by omega)
  have h3' : FloatKind.f32.format.read (Ieee.single.word s r) = _ := h3
  rw [h1] at h3'
  refine ⟨s, m, i, by rw [← read_mod, hx]; exact h1, ?_, ?_, by rw [h2]; exact hr⟩
  · by_cases c1 : r < 8388608
    · rw [if_pos c1] at h3'
      injection h3' with _ a b
      omega
    · rw [if_neg c1, if_pos hr] at h3'
      injection h3' with _ a b
      have := Nat.mod_lt r (by decide : 0 < 8388608)
      omega
  · by_cases c1 : r < 8388608
    · rw [if_pos c1] at h3'
      injection h3' with _ a b
      omega
    · rw [if_neg c1, if_pos hr] at h3'
      injection h3' with _ a b
      have : r / 8388608 ≤ 254 := by omega
      omega
theorem mul_mod (c x : Nat) : fbin .mul .f32 c (x % 4294967296) = fbin .mul .f32 c x := by
  show ((Ieee.Datum.product (FloatKind.f32.format.read c) (FloatKind.f32.format.read (x % 4294967296))).map FloatKind.f32.format.write).getD _ = ((Ieee.Datum.product (FloatKind.f32.format.read c) (FloatKind.f32.format.read x)).map FloatKind.f32.format.write).getD _
  rw [read_mod]
theorem add_mod (c x : Nat) : fbin .add .f32 c (x % 4294967296) = fbin .add .f32 c x := by
  show (((FloatKind.f32.format.read c).sum (FloatKind.f32.format.read (x % 4294967296))).map FloatKind.f32.format.write).getD _ = (((FloatKind.f32.format.read c).sum (FloatKind.f32.format.read x)).map FloatKind.f32.format.write).getD _
  rw [read_mod]
theorem fin_nan {x : Nat} (h : isFin .f32 x = true) : isNaN .f32 x = false := by
  obtain ⟨s, m, i, h1, _⟩ := fin_parts h
  simp [isNaN, FloatKind.decode, h1, Ieee.Datum.isNaN]
theorem add_one_mul {c x : Nat} (h : isFin .f32 x = true) : fbin .add .f32 c (fbin .mul .f32 1065353216 x) = fbin .add .f32 c x := by
  rw [← mul_mod, mul_one32 (Nat.mod_lt x (by decide)) (fun hn => by rw [fin_nan (fin_mod h)] at hn; cases hn), add_mod]
/-- The sum of numbers, in their order. -/
def smW (F : Nat → Nat) : Nat → Nat
  | 0 => 0
  | k + 1 => fbin .add .f32 (smW F k) (F k)
theorem smW_succ (F : Nat → Nat) (k : Nat) : fbin .add .f32 (smW F k) (F k) = smW F (k + 1) := rfl
theorem dot_ones {F : Nat → Nat} : ∀ K, (∀ k, k < K → isFin .f32 (F k) = true) → dotW (fun _ => 1065353216) F K = smW F K
  | 0, _ => rfl
  | K + 1, h => by
    show fbin .add .f32 (dotW (fun _ => 1065353216) F K) (fbin .mul .f32 1065353216 (F K)) = fbin .add .f32 (smW F K) (F K)
    rw [dot_ones K fun k hk => h k (by omega), add_one_mul (h K (by omega))]
theorem rung_low {m : Nat} {e : Int} (hm : m ≠ 0) (h : e + m.log2 ≤ 126) : rungN m e < 2139095040 := by
  unfold rungN
  rw [if_neg hm]
  obtain ⟨l, hl⟩ : ∃ l : Int, l = max (e + m.log2 - 23) (-149) := ⟨_, rfl⟩
  rw [← hl]
  have hk : Ieee.Toward.even.cut false (m <<< (e - l).toNat) (l - e).toNat ≤ 16777216 := by
    refine cut_le ?_
    rw [Nat.shiftLeft_eq]
    have g1 : m < 2 ^ (m.log2 + 1) := Nat.lt_log2_self
    have g2 : 2 ^ (m.log2 + 1) * 2 ^ (e - l).toNat ≤ 16777216 * 2 ^ (l - e).toNat := by
      rw [show (16777216 : Nat) = 2 ^ 24 by decide, ← Nat.pow_add, ← Nat.pow_add]
      exact Nat.pow_le_pow_right (by omega) (by omega)
    have g3 := Nat.mul_le_mul_right (2 ^ (e - l).toNat) (Nat.le_of_lt g1)
    omega
  have hl2 : (l - -149).toNat ≤ 252 := by omega
  have hmul : (l - -149).toNat * 8388608 ≤ 252 * 8388608 := Nat.mul_le_mul_right _ hl2
  omega
theorem cnt_read {n : Nat} (h1 : 1 ≤ n) (h8 : n ≤ 8) : ∃ b j, FloatKind.f32.format.read (floatOfInt .f32 (n : Int)) = .number false b j ∧ 8388608 ≤ b ∧ b < 16777216 ∧ (n = 1 → b = 8388608 ∧ j = -23) ∧ (2 ≤ n → -22 ≤ j) := by
  rcases (by omega : n = 1 ∨ n = 2 ∨ n = 3 ∨ n = 4 ∨ n = 5 ∨ n = 6 ∨ n = 7 ∨ n = 8) with rfl | rfl | rfl | rfl | rfl | rfl | rfl | rfl
  · exact ⟨8388608, -23, by decide +kernel, by decide, by decide, fun _ => ⟨rfl, rfl⟩, fun h => absurd h (by decide)⟩
  · exact ⟨8388608, -22, by decide +kernel, by decide, by decide, fun h => absurd h (by decide), fun _ => by decide⟩
  · exact ⟨12582912, -22, by decide +kernel, by decide, by decide, fun h => absurd h (by decide), fun _ => by decide⟩
  · exact ⟨8388608, -21, by decide +kernel, by decide, by decide, fun h => absurd h (by decide), fun _ => by decide⟩
  · exact ⟨10485760, -21, by decide +kernel, by decide, by decide, fun h => absurd h (by decide), fun _ => by decide⟩
  · exact ⟨12582912, -21, by decide +kernel, by decide, by decide, fun h => absurd h (by decide), fun _ => by decide⟩
  · exact ⟨14680064, -21, by decide +kernel, by decide, by decide, fun h => absurd h (by decide), fun _ => by decide⟩
  · exact ⟨8388608, -20, by decide +kernel, by decide, by decide, fun h => absurd h (by decide), fun _ => by decide⟩
theorem cnt_fin {n : Nat} (h1 : 1 ≤ n) (h8 : n ≤ 8) : isFin .f32 (floatOfInt .f32 (n : Int)) = true := by
  obtain ⟨b, j, h, _⟩ := cnt_read h1 h8
  unfold isFin FloatKind.decode
  rw [h]; rfl
theorem log_of {b k : Nat} (h1 : 2 ^ k ≤ b) (h2 : b < 2 ^ (k + 1)) : b.log2 = k := by
  have hb : b ≠ 0 := by have := Nat.two_pow_pos k; omega
  have a1 := (Nat.le_log2 hb).2 h1
  have a2 := (Nat.log2_lt hb).2 h2
  omega
/-- A finite number over a count of 1 to 8 is finite. -/
theorem quo_cnt {x n : Nat} (hx : isFin .f32 x = true) (h1 : 1 ≤ n) (h8 : n ≤ 8) : isFin .f32 (fbin .quo .f32 x (floatOfInt .f32 (n : Int))) = true := by
  obtain ⟨s, m, i, hr, hm, hi, hrg⟩ := fin_parts hx
  obtain ⟨b, j, hb, b1, b2, c1, c2⟩ := cnt_read h1 h8
  have hlb : b.log2 = 23 := log_of (by simpa using b1) (by simpa using b2)
  obtain ⟨more, hmore⟩ : ∃ more, more = 25 + b.log2 - m.log2 := ⟨_, rfl⟩
  have hfb : floatBits .quo .f32 x (floatOfInt .f32 (n : Int)) = some (FloatKind.f32.format.write (.number (s ^^ false) (2 * ((m <<< more) / b) + ((m <<< more) % b != 0).toNat) (i - j - more - 1))) := by
    have e1 : FloatKind.f32.format.fractionBits + 2 = 25 := rfl
    have e2 : b ≠ 0 := by omega
    simp [floatBits, Ieee.Format.div, hr, hb, Ieee.Datum.quotient, e2, e1, ← hmore]
  rw [show fbin .quo .f32 x (floatOfInt .f32 (n : Int)) = (floatBits .quo .f32 x (floatOfInt .f32 (n : Int))).getD (qnan .f32) from rfl, hfb, Option.getD_some]
  have hw : ∀ K p, FloatKind.f32.format.write (.number (s ^^ false) K p) = Ieee.single.word (s ^^ false) (rungN K p) := fun K p => nearest_word _ K p
  rw [hw]
  refine word_fin _ _ ?_
  by_cases hm0 : m = 0
  · subst hm0
    have e : (0 : Nat) <<< more = 0 := by simp
    rw [e]
    simp [rungN]
  · have hlm : m.log2 ≤ 23 := by
      have := (Nat.log2_lt hm0).2 (show m < 2 ^ 24 by simpa using hm)
      omega
    have g1 : m < 2 ^ (m.log2 + 1) := Nat.lt_log2_self
    have g2 : 2 ^ m.log2 ≤ m := Nat.log2_self_le hm0
    have hmo : m.log2 + more = 48 := by omega
    by_cases hn : n = 1
    · obtain ⟨rfl, rfl⟩ := c1 hn
      have hk : m <<< more = m * 2 ^ (more - 23) * 8388608 := by
        rw [Nat.shiftLeft_eq, show (8388608 : Nat) = 2 ^ 23 by decide, Nat.mul_assoc, ← Nat.pow_add, show more - 23 + 23 = more by omega]
      rw [hk, Nat.mul_div_cancel _ (by decide), Nat.mul_mod_left]
      have e1 : 2 * (m * 2 ^ (more - 23)) + ((0 : Nat) != 0).toNat = m * 2 ^ (more - 22) := by
        rw [show more - 22 = (more - 23) + 1 by omega, Nat.pow_succ]
        show 2 * (m * 2 ^ (more - 23)) + 0 = m * (2 ^ (more - 23) * 2)
        rw [Nat.add_zero, Nat.mul_comm 2, Nat.mul_assoc]
      rw [e1, show i - -23 - (more : Int) - 1 = i - ((more - 22 : Nat) : Int) by omega, rung_scale]
      exact hrg
    · have hj := c2 (by omega)
      have hs : m <<< more < 2 ^ 26 * b := by
        rw [Nat.shiftLeft_eq]
        have g3 := Nat.mul_lt_mul_of_lt_of_le g1 (Nat.le_refl (2 ^ more)) (Nat.two_pow_pos more)
        rw [← Nat.pow_add, show m.log2 + 1 + more = 49 by omega] at g3
        have g4 : 2 ^ 26 * 8388608 ≤ 2 ^ 26 * b := Nat.mul_le_mul_left _ b1
        have g5 : (2 : Nat) ^ 49 = 2 ^ 26 * 8388608 := by decide
        omega
      have hq : (m <<< more) / b < 2 ^ 26 := (Nat.div_lt_iff_lt_mul (by omega)).2 hs
      have hq1 : 1 ≤ (m <<< more) / b := by
        rw [Nat.le_div_iff_mul_le (by omega), Nat.one_mul, Nat.shiftLeft_eq]
        have g3 := Nat.mul_le_mul_right (2 ^ more) g2
        rw [← Nat.pow_add, hmo] at g3
        have : (16777216 : Nat) ≤ 2 ^ 48 := by decide
        omega
      have hbool := Bool.toNat_le ((m <<< more) % b != 0)
      have hK0 : 2 * ((m <<< more) / b) + ((m <<< more) % b != 0).toNat ≠ 0 := by omega
      have hK : (2 * ((m <<< more) / b) + ((m <<< more) % b != 0).toNat).log2 < 27 := (Nat.log2_lt hK0).2 (by have : (2 : Nat) ^ 27 = 2 * 2 ^ 26 := by decide
                                                                                                              omega)
      exact rung_low hK0 (by omega)
theorem finL_quo {S : Nat → Nat} {n L : Nat} (h1 : 1 ≤ n) (h8 : n ≤ 8) : finL (fun j => fbin .quo .f32 (S j) (floatOfInt .f32 (n : Int))) L = finL S L := by
  cases h : finL S L
  · cases h2 : finL (fun j => fbin .quo .f32 (S j) (floatOfInt .f32 (n : Int))) L
    · rfl
    · have := finL_yes (X := S) (n := L) fun k hk => by
        cases hs : isFin .f32 (S k)
        · have h3 := finL_at h2 k hk
          rw [nf_quo_l hs (cnt_fin h1 h8)] at h3
          cases h3
        · rfl
      rw [this] at h; cases h
  · exact finL_yes fun k hk => quo_cnt (finL_at h k hk) h1 h8

/- The mean of spectra: as the model makes it, and as the program does. -/

def sumR (X : Nat → Nat → Nat) (K j : Nat) : Nat := smW (fun k => X k j) K
def menR (X : Nat → Nat → Nat) (K j : Nat) : Nat := fbin .quo .f32 (sumR X K j) (floatOfInt .f32 (K : Int))
set_option maxRecDepth 100000 in
set_option maxHeartbeats 3200000 in
theorem specMen_yes (xa : Option Addr) (K cap : Nat) (N : Nat → Nat) (X : Nat → Nat → Nat) (w : World) (hX : RdR w xa K N X) (h : K + totN N K ≤ 1048576) (hk : okSpc K N X = true) (ok : Bool) (ho : Hid (ok = finL (menR X K) (N 0))) (m : Nat) (hm : Hid (m = if ok = true then N 0 else 0)) :
    Calls Try.prog 16 #[.slice xa K cap] w (LstRet (menR X K) m ok w) := by
  obtain ⟨i0, hi, hz0, hz1, hz2⟩ := info_parts infoF
  have HT := Lib.hid (fun w hX => specSpc_any xa K cap N X w hX h true (Lib.hid hk.symm))
  obtain ⟨hK1, hK8, hall⟩ := okSpc_at hk
  have HA := Lib.hid hall
  obtain ⟨n, hn⟩ : ∃ n, n = N 0 := ⟨_, rfl⟩
  have hn128 : 1 ≤ n ∧ n ≤ 128 := by have := okLst_at (hall 0 (by omega)).1; omega
  have hX0 := hX
  obtain ⟨xb, xo, hxa, _⟩ := hX0
  have e := hxa (by omega)
  subst e
  have HX := Lib.hid (show ∀ w', Below w.heap.size w w' → ∀ k, k < K → ∃ b o c, w'.cell? ⟨xb, xo + k, none⟩ = some (.slice (some ⟨b, o, none⟩) n c) ∧ ∀ j, j < n → w'.cell? ⟨b, o + j, none⟩ = some (.float .f32 (X k j)) from fun w' hb k hk => by
    obtain ⟨a, c, h1, _, h2⟩ := RdR.row (RdR.below hX hb) hk
    rw [(HA.out k hk).2, ← hn] at h1 h2
    obtain ⟨b, o, rfl, h3⟩ := h2.at (by omega)
    exact ⟨b, o, c, h1, h3⟩)
  obtain ⟨b0, o0, c0, h0, _⟩ := HX.out w (Below.refl _ _) 0 (by omega)
  rw [Nat.add_zero] at h0
  have hi1 : (0 : Int) < (K : Int) := by omega
  have hi2 : 0 < K := by omega
  rw [← hn] at ho hm
  clear hall hxa hk hn h
  go_enter Try.func16, Try.ntmps16
  go_wp2_with fail
  refine (HT.out _ (by exact hX)).mono ?_
  rintro e w' ⟨rfl, q, rfl⟩
  have h0' : ∀ o, ((w.drewN q).alloc o).cell? ⟨xb, xo, none⟩ = some (.slice (some ⟨b0, o0, none⟩) n c0) := fun o => by
    have hb : Below w.heap.size w ((w.drewN q).alloc o) := Below.alloc (Below.drewN (Below.refl _ _) q) (Nat.le_refl _) o
    exact (hb.cell (p := ⟨xb, xo, none⟩) (World.block_lt_of_cell? w _ h0)).trans h0
  clear hX
  go_wp2
  go_loopw [4, 16] (fun v i wr => ∃ (c : Nat) (Z : Nat → Nat), c ≤ n ∧ i = .int .i64 (c : Int) ∧ wr.ownsRow w.heap.size 43 1 v c (rowOf Z c) ∧ Like Z (menR X K) c ∧ Below w.heap.size w wr) (fun _ i _ => n - (intOf i).toNat)
  case atStart => exact ⟨0, fun _ => 0, Nat.zero_le _, rfl, own_empty (w.drewN q) _, fun _ h => absurd h (Nat.not_lt_zero _), Below.alloc (Below.drewN (Below.refl _ _) _) (Nat.le_refl _) _⟩
  case round =>
    obtain ⟨c, Z, hc, rfl, hownk, hL, hBk⟩ := hrel
    have hsz := hBk.size
    clear h0 h0'
    by_cases hltc : c < n
    · obtain ⟨wu, hwu⟩ : ∃ wu, wu = wr := ⟨_, rfl⟩
      subst hwu
      obtain ⟨F, hF⟩ : ∃ F : Nat → Nat, F = fun k => X k c := ⟨_, rfl⟩
      have HF := Lib.hid hF
      have HU := Lib.hid (show menR X K c = fbin .quo .f32 (smW F K) (floatOfInt .f32 (K : Int)) by rw [hF]; rfl)
      clear hF
      go_wp2
      go_loopw [6, 21] (fun q i wr => ∃ (k mm s : Nat), k ≤ K ∧ i = .int .i64 (k : Int) ∧ q = .float .f32 (pick .f32 (smW F k) s) ∧ wr = wu.drewN mm) (fun _ i _ => K - (intOf i).toNat)
      case atStart => exact ⟨0, 0, 0, by omega, rfl, by rw [show smW F 0 = 0 from rfl, pick_zero], rfl⟩
      case round =>
        obtain ⟨k, mm, s, hk, rfl, rfl, hwr⟩ := hrel
        by_cases hkK : k < K
        · have HZ := Lib.hid hwr
          have hBw : Below w.heap.size w wr := by rw [hwr]; exact Below.drewN hBk mm
          obtain ⟨b, o, cc, h1, h2⟩ := HX.out wr hBw k hkK
          have h3 := h2 c hltc
          have hb1 : (k : Int) < (K : Int) := by omega
          have hb2 : (c : Int) < (n : Int) := by omega
          have hd := smW_succ F k
          have hfk : F k = X k c := by rw [HF.out]
          rw [hfk] at hd
          have hp := fbin_pick_l .add .f32
          obtain ⟨D, hD⟩ : ∃ D, D = smW F k := ⟨_, rfl⟩
          rw [← hD] at hd
          have HD := Lib.hid hD
          have HE := Lib.hid hd
          rw [← HD.out]
          clear hD hd hfk hwr hBw h2
          go_wp2_with ((with_reducible refine wpL_fbin ?_); refine ⟨_, _, _, rfl, rfl, rfl, fun s n => ?_⟩)
          go_roundw
          case rel => exact ⟨k + 1, _, _, by omega, by go_num, by rw [← HE.out], by rw [HZ.out, World.drewN_drewN]⟩
          case measure => simp [intOf]; omega
        · have hkk : k = K := by omega
          subst hkk
          subst hwr
          obtain ⟨E, hE⟩ : ∃ E, E = smW F k := ⟨_, rfl⟩
          rw [← hE] at HU
          rw [← hE]
          clear hE
          have hp := fbin_pick_l .quo .f32
          have hk0 : (k : Int) ≤ 8 := by omega
          go_wp2_with (first | (at_builtin; refine wpL_push hi hz0 hz1 hz2 rfl rfl rfl rfl (by exact own_drew hownk _) (by omega) (by exact hsz) ?_; intro v' w1 hown' hB') | ((with_reducible refine wpL_fbin ?_); refine ⟨_, _, _, rfl, rfl, rfl, fun s n => ?_⟩))
          go_roundw
          case rel => exact ⟨c + 1, _, by omega, by go_num, hown', like_push hL (by rw [HU.out]), Below.trans (Below.drewN hBk _) hB'⟩
          case measure => simp [intOf]; omega
    · have hck : c = n := by omega
      subst hck
      go_wp2_with fail
      refine (l07Give_any _ _ _ Z _ (by exact hownk) (by omega)).mono ?_
      rintro e w' ⟨rfl, q2, rfl⟩
      have HF2 := Lib.hid (show LstRet (menR X K) (if finL (menR X K) c = true then c else 0) (finL (menR X K) c) w = LstRet (menR X K) m ok w by rw [hm.out, ho.out])
      have HV := Lib.hid (lstGive (w := w) hL hownk (by omega) hBk)
      clear hL hownk
      cases hfz : finL Z c
      · rw [hfz, HF2.out] at HV
        go_wp2
        go_ret2
        obtain ⟨a, b, h3, h4, h5, h6, h7⟩ := HV.out
        exact ⟨a, b, h3, h4, h5, h6, Below.drewN h7 _⟩
      · rw [hfz, HF2.out] at HV
        go_wp2
        go_ret2
        obtain ⟨a, b, h3, h4, h5, h6, h7⟩ := HV.out
        exact ⟨a, b, h3, h4, h5, h6, Below.drewN h7 _⟩
def okMen (K : Nat) (N : Nat → Nat) (X : Nat → Nat → Nat) : Bool := okSpc K N X && finL (menR X K) (N 0)
set_option maxRecDepth 100000 in
set_option maxHeartbeats 1600000 in
theorem specMen_any (xa : Option Addr) (K cap : Nat) (N : Nat → Nat) (X : Nat → Nat → Nat) (w : World) (hX : RdR w xa K N X) (h : K + totN N K ≤ 1048576) (ok : Bool) (ho : Hid (ok = okMen K N X)) (m : Nat) (hm : Hid (m = if ok = true then N 0 else 0)) :
    Calls Try.prog 16 #[.slice xa K cap] w (LstRet (menR X K) m ok w) := by
  cases hk : okSpc K N X
  · have HT := Lib.hid (fun w hX => specSpc_any xa K cap N X w hX h false (Lib.hid hk.symm))
    have HN := Lib.hid (fun w' (hb : Below w.heap.size w w') => show LstRet (menR X K) m ok w (.returned (.tuple #[.slice none 0 0, .bool false])) w' by
      have e : ok = false := by rw [ho.out, okMen, hk]; rfl
      rw [hm.out, e, if_neg (by simp)]; exact lstNo hb)
    clear hk
    go_enter Try.func16, Try.ntmps16
    go_wp2_with (go_at_call 62; refine (HT.out _ (by exact hX)).mono ?_; rintro e w' ⟨rfl, q, rfl⟩)
    go_ret2
    refine HN.out _ ?_
    (repeat (first | with_reducible exact Below.refl _ _ | with_reducible refine Below.drewN ?_ _ | with_reducible refine Below.setCell ?_ (by simp; try omega) _ | with_reducible refine Below.alloc ?_ (by simp; try omega) _))
  · exact specMen_yes xa K cap N X w hX h hk ok (Lib.hid (by rw [ho.out, okMen, hk]; rfl)) m hm
theorem sum_mix {K : Nat} {N : Nat → Nat} {X : Nat → Nat → Nat} (h : okSpc K N X = true) {j : Nat} (hj : j < N 0) : mixR (fun _ => 1065353216) X K j = sumR X K j := by
  obtain ⟨_, _, hall⟩ := okSpc_at h
  exact dot_ones K fun k hk => finL_at (okLst_at (hall k hk).1).1 j (by rw [(hall k hk).2]; exact hj)
theorem ones_fin (K : Nat) : finL (fun _ => 1065353216) K = true := finL_yes fun _ _ => by decide +kernel
theorem men_ok (K : Nat) (N : Nat → Nat) (X : Nat → Nat → Nat) : (okMix K N X K (fun _ => 1065353216) && finL (mixR (fun _ => 1065353216) X K) (N 0)) = okMen K N X := by
  unfold okMix okMen
  cases hk : okSpc K N X
  · rfl
  · obtain ⟨h1, h8, _⟩ := okSpc_at hk
    have e1 : finL (menR X K) (N 0) = finL (sumR X K) (N 0) := finL_quo h1 h8
    have e2 : finL (mixR (fun _ => 1065353216) X K) (N 0) = finL (sumR X K) (N 0) := finL_like fun j hj => by rw [sum_mix hk hj]
    rw [e1, e2, ones_fin, decide_eq_true rfl]
    simp
set_option maxRecDepth 100000 in
set_option maxHeartbeats 1600000 in
theorem implMen_any (xa : Option Addr) (K cap : Nat) (N : Nat → Nat) (X : Nat → Nat → Nat) (w : World) (hX : RdR w xa K N X) (h : K + totN N K ≤ 1048576) (ok : Bool) (ho : Hid (ok = okMen K N X)) (m : Nat) (hm : Hid (m = if ok = true then N 0 else 0)) :
    Calls Try.prog 18 #[.slice xa K cap] w (LstRet (menR X K) m ok w) := by
  have hb0 : Below w.heap.size w (w.alloc (.cells #[.float .f32 1065353216] 43)) := Below.alloc (Below.refl _ _) (Nat.le_refl _) _
  have HR := Lib.hid (fun (xa : Option Addr) cx w hX => repF_any xa cx 1065353216 K w hX (by omega))
  have HM := Lib.hid (fun (sa : Option Addr) cs w hX hS => implMix_any xa K cap N X sa K cs (fun _ => 1065353216) w hX hS h (by omega) ok (Lib.hid (by rw [ho.out, men_ok])) m hm)
  have HK := Lib.hid (show ok = true → okSpc K N X = true from fun e => by
    have := ho.out
    rw [e, okMen] at this
    cases hk : okSpc K N X
    · rw [hk] at this; cases this
    · rfl)
  have HL := Lib.hid (show ok = true → m = N 0 from fun e => by rw [hm.out, if_pos e])
  have HZ := Lib.hid (fun (e : ok = false) w' (hb : Below w.heap.size w w') => show LstRet (menR X K) m false w (.returned (.tuple #[.slice none 0 0, .bool false])) w' by
    rw [hm.out, e, if_neg (by simp)]; exact lstNo hb)
  have hK : (K : Int) ≤ 1048576 := by omega
  clear h ho hm
  go_enter Try.func18, Try.ntmps18
  go_wp2_with fail
  refine (HR.out _ _ _ (by exact rd_one' _ _ _ (by simp))).mono ?_
  rintro e w1 ⟨v, rfl, hown, B1⟩
  have B1' := hb0.trans (B1.mono hb0.size)
  obtain ⟨sa, cs, rfl, _, _, hS⟩ := rd_of_own hown
  go_wp2_with fail
  refine (HM.out _ _ _ (by exact hX.below B1') (by exact hS)).mono ?_
  rintro e w2 ⟨v0, Y0, rfl, O0, L0, hmm, B2⟩
  have B2' := B1'.trans (B2.mono B1'.size)
  have O0' := own_mono0 O0 B1'.size
  obtain ⟨x0, c0, rfl, _, _, R0⟩ := rd_of_own O0
  cases ok
  · go_wp2
    go_ret2
    exact HZ.out (by first | rfl | trivial) _ B2'
  · have hk := HK.out rfl
    have hmN := HL.out rfl
    obtain ⟨d, hd⟩ : ∃ d, d = floatOfInt .f32 (K : Int) := ⟨_, rfl⟩
    have hpk : pick .f32 d 0 = d := by rw [hd]; exact pick_num (fin_nan (cnt_fin (okSpc_at hk).1 (okSpc_at hk).2.1)) 0
    have HD := Lib.hid hpk
    have HE := Lib.hid hd
    have HY := Lib.hid (show ∀ Z : Nat → Nat, LikeP Z (divR Y0 d) m → Like Z (menR X K) m from fun Z hZ j hj => by
      rw [(LikeP.like hZ) j hj, show divR Y0 d j = fbin .quo .f32 (Y0 j) d from rfl, fbin_congr (L0 j hj) rfl, sum_mix hk (by rw [← hmN]; exact hj), hd]
      rfl)
    clear hk hmN hpk hd L0
    go_wp2_with fail
    rw [← HE.out, ← HD.out]
    refine (div_any _ _ _ Y0 d 0 _ (by exact R0) hmm).mono ?_
    rintro e w3 ⟨v3, Z3, rfl, O3, L3, B3⟩
    have B3' := B2'.trans (B3.mono B2'.size)
    have O3' := own_mono0 O3 B2'.size
    go_wp2
    go_ret2
    exact lstYes (HY.out _ L3) O3' hmm B3'

end Go.Proofs.Ytbblohjldkpcnab
