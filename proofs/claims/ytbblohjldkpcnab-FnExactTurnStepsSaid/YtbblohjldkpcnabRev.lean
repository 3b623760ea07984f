
/- A list of numbers, turned end for end in its own place. -/
import Derived.Test.YtbblohjldkpcnabLaw
import Derived.Test.YtbblohjldkpcnabNu5
import Derived.Deep.LoopGhost
import Derived.Sort.WalkB12
import Derived.Lib.SlicesMore
namespace Go.Proofs.Ytbblohjldkpcnab
open Go Go.ChangeShapes Go.WideShapes Go.ChangeAt Go.RowKit

abbrev wordV : Nat → Value := fun x => Value.float .f32 x
set_option maxRecDepth 100000 in
set_option maxHeartbeats 3200000 in
/-- Of a list that lies anywhere: the words behind the call are the words before it, from the last one on. -/
theorem turnCells_any (g o cap : Nat) (d : Array Nat) (w : World) (hw : Sort.Holds wordV w g o d) (hd : d.size ≤ 1048576) :
    Calls Try.prog 104 #[.slice (some ⟨g, o, none⟩) d.size cap] w fun e w' => e = .returned (.tuple #[]) ∧ ∃ q, w' = Sort.putRow wordV (Sort.ahead w q) g o d.reverse := by
  go_enter Try.func104, Try.ntmps104
  go_wp2
  go_loopg [2, 3] d.size (fun m lo hi wr => ∃ (i j q : Nat) (z : Int) (c : Array Nat), lo = .int .i64 i ∧ hi = .int .i64 z ∧ c.size = d.size ∧ j - i ≤ m ∧ ((i : Int) < z → z = j ∧ j < d.size) ∧ (¬ (i : Int) < z → ¬ i < j) ∧
    wr = Sort.putRow wordV (Sort.ahead w q) g o c ∧ Sort.reverseLoop i j c = Sort.reverseLoop 0 (d.size - 1) d)
  case atStart =>
    exact ⟨0, d.size - 1, 0, (d.size : Int) - 1, d, rfl, rfl, rfl, by omega, fun h => ⟨by omega, by omega⟩, fun h => by omega, (Sort.putRow_self wordV w g o d hw).symm, rfl⟩
  case round =>
    obtain ⟨i, j, q, z, c, rfl, rfl, hc, hm, hgo, hend, hwr, hl⟩ := hrel
    by_cases hlt : (i : Int) < z
    · obtain ⟨rfl, hj⟩ := hgo hlt
      have hij : i < j := by omega
      have hx : Sort.Holds wordV wr g o c := by rw [hwr]; exact Sort.holds_putRow wordV _ g o d c (Sort.holds_ahead wordV w q g o d hw) hc
      obtain ⟨ci, fi⟩ := hx i (by omega)
      obtain ⟨cj, fj⟩ := hx j (by omega)
      have HW := Lib.hid hwr
      clear hwr hx hw hgo hend
      have hid : i < d.size := by omega
      have hst := run_store_f32
      have mixed : Try.prog.follows .mixedOrders = true := by first | rfl | decide +kernel
      change wr.cell? ⟨g, o + i, none⟩ = some (Value.float .f32 c[i]!) at ci
      change wr.cell? ⟨g, o + j, none⟩ = some (Value.float .f32 c[j]!) at cj
      generalize hxi : c[i]! = x at ci
      generalize hyj : c[j]! = y at cj
      go_wp2_with fail
      go_region
      go_wp2
      go_roundg (j - 1 - (i + 1))
      case measure => omega
      case rel =>
        rw [Sort.reverseLoop, if_pos hij] at hl
        exact ⟨i + 1, j - 1, q + 1, (j : Int) - 1, Sort.swp c i j, by simp, rfl, by rw [Sort.size_swp]; exact hc, Nat.le_refl _, fun h => ⟨by omega, by omega⟩, fun h => by omega,
          swap_world wordV (by omega) (by omega) HW.out (by rw [← hyj]) (by rw [← hxi]), hl⟩
    · have hnot := hend hlt
      go_wp2
      go_end0
      refine ⟨rfl, q, ?_⟩
      rw [Sort.reverseLoop, if_neg hnot] at hl
      rw [← Lib.reverseLoop_reverse, ← hl]
/-- The words of a row. -/
def wordsOf (X : Nat → Nat) (n : Nat) : Array Nat := ((List.range n).map X).toArray
theorem wordsOf_size (X : Nat → Nat) (n : Nat) : (wordsOf X n).size = n := by simp [wordsOf]
theorem wordsOf_get (X : Nat → Nat) (n j : Nat) (h : j < n) : (wordsOf X n)[j]! = X j := by
  rw [getElem!_pos _ _ (by rw [wordsOf_size]; exact h)]
  simp [wordsOf]
theorem wordsOf_turn (X : Nat → Nat) (n j : Nat) (h : j < n) : (wordsOf X n).reverse[j]! = X (n - 1 - j) := by
  rw [getElem!_pos _ _ (by simp [wordsOf_size, h])]
  simp [wordsOf]
/-- Of a list of one's own: it is one's own behind the call, turned end for end; its block alone has changed. -/
theorem turnRow_any (B g n cap : Nat) (X : Nat → Nat) (w : World) (hown : w.ownsRow B 43 1 (.slice (some ⟨g, 0, none⟩) n cap) n (rowOf X n)) (hn : n ≤ 1048576) :
    Calls Try.prog 104 #[.slice (some ⟨g, 0, none⟩) n cap] w fun e w' => e = .returned (.tuple #[]) ∧
      w'.ownsRow B 43 1 (.slice (some ⟨g, 0, none⟩) n cap) n (rowOf (fun i => X (n - 1 - i)) n) ∧ Only g w w' := by
  obtain ⟨_, h2⟩ := hown
  rcases h2 with ⟨h, _⟩ | ⟨b, c, cur, hv, hB, hh, hnc, hcm, hcs, ht⟩
  · cases h
  simp only [Value.slice.injEq, Option.some.injEq, Addr.mk.injEq] at hv
  obtain ⟨⟨rfl, _⟩, _, rfl⟩ := hv
  rw [Nat.mul_one] at hcs ht
  have hcell : ∀ j, j < n → cur[j]? = some (.float .f32 (X j)) := fun j hj => by
    have := rowOf_get X n j hj
    rw [← ht, List.getElem?_take_of_lt hj, Array.getElem?_toList] at this
    exact this
  have hH : Sort.Holds wordV w g 0 (wordsOf X n) := fun j hj => by
    rw [wordsOf_size] at hj
    rw [wordsOf_get X n j hj]
    exact ⟨by simp [World.cell?, hh, hcell j hj], by simp [World.frozen?, hh]⟩
  have H := turnCells_any g 0 cap (wordsOf X n) w hH (by rw [wordsOf_size]; exact hn)
  rw [wordsOf_size] at H
  refine H.mono ?_
  rintro e w' ⟨rfl, q, rfl⟩
  refine ⟨rfl, ⟨by simp [rowOf_length], .inr ⟨g, cap, Sort.putCells wordV 0 (wordsOf X n).reverse cur, rfl, hB, ?_, hnc, hcm, by simp [Sort.putCells, hcs], ?_⟩⟩, ?_⟩
  · simp [Sort.putRow, Sort.mapBlock, Sort.ahead, Array.getElem?_modify, hh, Sort.onCells]
  · apply List.ext_getElem?
    intro j
    by_cases hj : j < n
    · rw [Nat.mul_one, List.getElem?_take_of_lt hj, Array.getElem?_toList, rowOf_get _ _ _ hj]
      have h3 := wordsOf_turn X n j hj
      have h4 : (Sort.putCells wordV 0 (wordsOf X n).reverse cur)[j]? = some (wordV (wordsOf X n).reverse[j]!) := by
        rw [Sort.putCells, Array.getElem?_mapIdx, Array.getElem?_eq_getElem (show j < cur.size by omega), Option.map_some, if_pos (by simp [wordsOf_size, hj]), Nat.sub_zero]
      rw [h4, h3]
    · rw [List.getElem?_eq_none (by simp; omega), List.getElem?_eq_none (by rw [rowOf_length]; omega)]
  · exact ⟨rfl, rfl, rfl, by simp [Sort.putRow, Sort.mapBlock, Sort.ahead], fun k _ hne => by simp [Sort.putRow, Sort.mapBlock, Sort.ahead, Array.getElem?_modify, Ne.symm hne]⟩
set_option maxHeartbeats 1600000 in
/-- Of an empty list, nil too, nothing is done. -/
theorem turnNone_any (a : Option Addr) (cap : Nat) (w : World) : Calls Try.prog 104 #[.slice a 0 cap] w fun e w' => e = .returned (.tuple #[]) ∧ w' = w := by
  go_enter Try.func104, Try.ntmps104
  go_wp2
  go_loopg [2, 3] 0 (fun _ lo hi wr => lo = .int .i64 0 ∧ hi = .int .i64 (-1) ∧ wr = w)
  case atStart => exact ⟨rfl, rfl, rfl⟩
  case round =>
    obtain ⟨rfl, rfl, rfl⟩ := hrel
    go_wp2
    go_end0
    exact ⟨rfl, rfl⟩
end Go.Proofs.Ytbblohjldkpcnab
