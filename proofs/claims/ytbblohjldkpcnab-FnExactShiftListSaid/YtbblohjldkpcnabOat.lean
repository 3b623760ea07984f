
/- A list that lies in the middle of a block of the call's own: read, marked, and found so again. -/
import Derived.Test.YtbblohjldkpcnabLaw
import Derived.Test.YtbblohjldkpcnabCpy
namespace Go.Proofs.Ytbblohjldkpcnab
open Go Go.ChangeShapes Go.WideShapes Go.ChangeAt Go.RowKit

theorem cell_same {w w' : World} {b : Nat} (h : w'.heap[b]? = w.heap[b]?) (o : Nat) : w'.cell? ⟨b, o, none⟩ = w.cell? ⟨b, o, none⟩ := by
  simp only [World.cell?, h]
/-- n cells of block g from o on, which can be written. -/
def OwnAt (w : World) (B g o n : Nat) (X : Nat → Nat) : Prop := B ≤ g ∧ g < w.heap.size ∧ ∀ i, i < n → w.cell? ⟨g, o + i, none⟩ = some (.float .f32 (X i)) ∧ w.frozen? ⟨g, o + i, none⟩ = false
/-- A list that lies so, or none. -/
def OwnV (w : World) (B : Nat) (v : Value) (n : Nat) (X : Nat → Nat) : Prop := (∃ g o cap, v = .slice (some ⟨g, o, none⟩) n cap ∧ OwnAt w B g o n X) ∨ (n = 0 ∧ v = .slice none 0 0)
theorem OwnV.rd {w : World} {B : Nat} {v : Value} {n : Nat} {X : Nat → Nat} (h : OwnV w B v n X) : ∃ xa cap, v = .slice xa n cap ∧ Rd w xa n X := by
  rcases h with ⟨g, o, cap, rfl, _, _, h3⟩ | ⟨rfl, rfl⟩
  · exact ⟨_, _, rfl, g, o, fun _ => rfl, fun i hi => (h3 i hi).1⟩
  · exact ⟨none, 0, rfl, 0, 0, fun h => absurd h (Nat.lt_irrefl _), fun i hi => absurd hi (Nat.not_lt_zero _)⟩
theorem OwnV.same {w w' : World} {B : Nat} {v : Value} {n : Nat} {X : Nat → Nat} (h : OwnV w B v n X) (hs : w.heap.size ≤ w'.heap.size) (hb : ∀ g, B ≤ g → g < w.heap.size → w'.heap[g]? = w.heap[g]?) : OwnV w' B v n X := by
  rcases h with ⟨g, o, cap, rfl, h1, h2, h3⟩ | h
  · refine .inl ⟨g, o, cap, rfl, h1, by omega, fun i hi => ?_⟩
    have e := hb g h1 h2
    refine ⟨(cell_same e _).trans (h3 i hi).1, ?_⟩
    have : w'.frozen? ⟨g, o + i, none⟩ = w.frozen? ⟨g, o + i, none⟩ := by simp only [World.frozen?, e]
    exact this.trans (h3 i hi).2
  · exact .inr h
theorem OwnV.below {w w' : World} {B : Nat} {v : Value} {n : Nat} {X : Nat → Nat} (h : OwnV w B v n X) (hb : Below w.heap.size w w') : OwnV w' B v n X := h.same hb.size fun g _ hg => hb.block g hg
theorem OwnV.only {w w' : World} {B b : Nat} {v : Value} {n : Nat} {X : Nat → Nat} (h : OwnV w B v n X) (hg : b < B) (o : Only b w w') : OwnV w' B v n X := h.same o.2.2.2.1 fun g h1 h2 => o.2.2.2.2 g h2 (by omega)
def MarkedV (B : Nat) (v : Value) (n : Nat) (k0 : Int) (w : World) (e : Ending) (w' : World) : Prop := e = .returned (.int .i64 (k0 + n)) ∧ OwnV w' B v n (mk k0) ∧ Below B w w'
set_option maxHeartbeats 1600000 in
theorem markV_any (B : Nat) (v : Value) (n : Nat) (X : Nat → Nat) (k0 : Int) (w : World) (hown : OwnV w B v n X) (hn : n ≤ 1048576) (hk0 : 0 ≤ k0) (hk1 : k0 ≤ 100000000) :
    Calls Try.prog 22 #[v, .int .i64 k0] w (MarkedV B v n k0 w) := by
  rcases hown with ⟨g, o, cap, rfl, h1, h2, h3⟩ | ⟨rfl, rfl⟩
  · have HC := Lib.hid h3
    have hE : Below B w w := Below.refl _ _
    clear h3
    go_enter Try.func22, Try.ntmps22
    go_wp2
    go_loopw [1, 5] (fun q i wr => ∃ k : Nat, k ≤ n ∧ i = .int .i64 k ∧ q = .int .i64 (k0 + k) ∧ OwnAt wr B g o n (fun j => if j < k then mk k0 j else X j) ∧ Below B w wr) (fun _ i _ => n - (intOf i).toNat)
    case atStart => exact ⟨0, Nat.zero_le _, rfl, by simp, ⟨h1, h2, fun i hi => by simpa using HC.out i hi⟩, hE⟩
    case round =>
      obtain ⟨k, hk, rfl, rfl, ho, hBk⟩ := hrel
      by_cases hlt : k < n
      · obtain ⟨a1, a2, a3⟩ := ho
        have hcl := (a3 k hlt).1
        have hfz := (a3 k hlt).2
        have hsf := store_float wr ⟨g, o + k, none⟩ (mk k0 k) hcl hfz
        have hmk : floatOfInt .f32 (k0 + k) = mk k0 k := rfl
        have HN := Lib.hid (show OwnAt (wr.setCell ⟨g, o + k, none⟩ (.float .f32 (mk k0 k))) B g o n (fun j => if j < k + 1 then mk k0 j else X j) from ⟨a1, by simpa using a2, fun i hi => by
          obtain ⟨c1, c2⟩ := a3 i hi
          by_cases hik : i = k
          · subst hik
            refine ⟨?_, by simpa using c2⟩
            rw [World.cell?_setCell_same _ _ _ hcl]
            simp
          · refine ⟨?_, by simpa using c2⟩
            rw [World.cell?_setCell_other _ _ _ _ (by simp; try omega), c1]
            show some (Value.float .f32 (if i < k then mk k0 i else X i)) = some (Value.float .f32 (if i < k + 1 then mk k0 i else X i))
            by_cases hj2 : i < k
            · rw [if_pos hj2, if_pos (by omega)]
            · rw [if_neg hj2, if_neg (by omega)]⟩)
        have HB := hBk.setCell (p := ⟨g, o + k, none⟩) a1 (.float .f32 (mk k0 k))
        clear a3
        go_wp2
        go_roundw
        case rel => exact ⟨k + 1, by omega, by go_num, by go_num, HN.out, HB⟩
        case measure => simp [intOf]; omega
      · have hkn : k = n := by omega
        subst hkn
        have HN := Lib.hid (show OwnAt wr B g o k (mk k0) from ⟨ho.1, ho.2.1, fun i hi => by simpa [hi] using ho.2.2 i hi⟩)
        go_wp2
        go_ret
        exact ⟨rfl, .inl ⟨g, o, cap, rfl, HN.out⟩, hBk⟩
  · go_enter Try.func22, Try.ntmps22
    go_wp2
    go_loopw [1, 5] (fun q i wr => i = .int .i64 0 ∧ q = .int .i64 k0 ∧ wr = w) (fun _ _ _ => 0)
    case atStart => exact ⟨rfl, rfl, rfl⟩
    case round =>
      obtain ⟨rfl, rfl, rfl⟩ := hrel
      go_wp2
      go_ret
      exact ⟨ret_i64 (by simp), .inr ⟨rfl, rfl⟩, Below.refl _ _⟩
set_option maxHeartbeats 1600000 in
theorem heldV_any (B : Nat) (v : Value) (n : Nat) (k0 : Int) (w : World) (hown : OwnV w B v n (mk k0)) (hn : n ≤ 1048576) (hk0 : 0 ≤ k0) (hk1 : k0 ≤ 100000000) :
    Calls Try.prog 23 #[v, .int .i64 k0] w fun e w' => e = .returned (.int .i64 (k0 + n)) ∧ w = w' := by
  obtain ⟨xa, cap, rfl, xb, xo, hxa, hcx⟩ := hown.rd
  have HX := Lib.hid hcx
  clear hcx hown
  go_enter Try.func23, Try.ntmps23
  go_wp2
  go_loopw [1, 5] (fun q i wr => ∃ k : Nat, k ≤ n ∧ i = .int .i64 k ∧ q = .int .i64 (k0 + k) ∧ wr = w) (fun _ i _ => n - (intOf i).toNat)
  case atStart => exact ⟨0, Nat.zero_le _, rfl, by simp, rfl⟩
  case round =>
    obtain ⟨k, hk, rfl, rfl, rfl⟩ := hrel
    by_cases hlt : k < n
    · have e := hxa (by omega)
      subst e
      have hcl := HX.out k hlt
      have hmk : floatOfInt .f32 (k0 + k) = mk k0 k := rfl
      have hs := mk_self k0 k
      go_wp2
      go_roundw
      case rel => exact ⟨k + 1, by omega, by go_num, by go_num, by first | rfl | trivial⟩
      case measure => simp [intOf]; omega
    · have hkn : k = n := by omega
      subst hkn
      go_wp2
      go_ret
      exact ⟨rfl, rfl⟩
end Go.Proofs.Ytbblohjldkpcnab
