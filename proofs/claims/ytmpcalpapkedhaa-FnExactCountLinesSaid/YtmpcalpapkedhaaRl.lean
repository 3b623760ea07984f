
/- Lists of lists of lines: as they are read, as an argument gives them, and as the laws' own functions copy, compare and measure them. -/
import Derived.Test.YtmpcalpapkedhaaLiC
import Derived.Test.YtmpcalpapkedhaaMk3
import Derived.Test.YtmpcalpapkedhaaMg4
import Derived.Test.YtmpcalpapkedhaaLaw
import Derived.Deep.QuietTactic
import Derived.BigQuiet
import Derived.StillTailTactics
namespace Go.Proofs.Ytmpcalpapkedhaa
open Go Go.ChangeShapes Go.WideShapes Go.ChangeAt Go.RowKit

theorem own_otherS {w w' : World} {B e z g h n cap : Nat} {xs : List Value} (hO : w.ownsRow B e z (.slice (some ⟨h, 0, none⟩) n cap) n xs) (hne : h ≠ g) (o : Only g w w') : w'.ownsRow B e z (.slice (some ⟨h, 0, none⟩) n cap) n xs := by
  refine ⟨hO.1, ?_⟩
  rcases hO.2 with ⟨h2, _⟩ | ⟨b, c, cur, h1, h2, h3, h4⟩
  · cases h2
  · have hb : b < w.heap.size := (Array.getElem?_eq_some_iff.1 h3).1
    have hbh : b = h := by simp only [Value.slice.injEq, Option.some.injEq, Addr.mk.injEq] at h1; exact h1.1.1.symm
    exact .inr ⟨b, c, cur, h1, h2, (o.2.2.2.2 b hb (by omega)).trans h3, h4⟩
theorem ownS_monoL {w : World} {B B' e z n : Nat} {v : Value} {xs : List Value} (h : w.ownsRow B e z v n xs) (hB : B' ≤ B) : w.ownsRow B' e z v n xs := by
  refine ⟨h.1, ?_⟩
  rcases h.2 with h2 | ⟨b, cap, cur, e1, e2, e3⟩
  · exact .inl h2
  · exact .inr ⟨b, cap, cur, e1, Nat.le_trans hB e2, e3⟩
/-- K rows, of which row i has N i numbers, X i. -/
def RdL (w : World) (xa : Option Addr) (K : Nat) (N : Nat → Nat) (X : Nat → Nat → Ln) : Prop :=
  ∃ xb xo, (0 < K → xa = some ⟨xb, xo, none⟩) ∧ ∀ i, i < K → ∃ a c, w.cell? ⟨xb, xo + i, none⟩ = some (.slice a (N i) c) ∧ N i ≤ c ∧ RdN w a (N i) (X i)
theorem RdL.drew {w : World} {xa : Option Addr} {K : Nat} {N : Nat → Nat} {X : Nat → Nat → Ln} (h : RdL w xa K N X) (k : Nat) : RdL (w.drewN k) xa K N X := h
theorem RdL.below {w w' : World} {xa : Option Addr} {K : Nat} {N : Nat → Nat} {X : Nat → Nat → Ln} (h : RdL w xa K N X) (hb : Below w.heap.size w w') : RdL w' xa K N X := by
  obtain ⟨xb, xo, h1, h2⟩ := h
  refine ⟨xb, xo, h1, fun i hi => ?_⟩
  obtain ⟨a, c, h3, hc, h4⟩ := h2 i hi
  exact ⟨a, c, (hb.cell (p := ⟨xb, xo + i, none⟩) (World.block_lt_of_cell? w _ h3)).trans h3, hc, h4.below hb⟩
theorem RdL.nil (w : World) (xa : Option Addr) (N : Nat → Nat) (X : Nat → Nat → Ln) : RdL w xa 0 N X := ⟨0, 0, fun h => absurd h (Nat.lt_irrefl _), fun _ h => absurd h (Nat.not_lt_zero _)⟩
def rowSL (V : Nat → Value) (n : Nat) : List Value := (List.range n).map V
theorem rowSL_length (V : Nat → Value) (n : Nat) : (rowSL V n).length = n := by simp [rowSL]
theorem rowSL_get (V : Nat → Value) (n i : Nat) (h : i < n) : (rowSL V n)[i]? = some (V i) := by simp [rowSL, h]
theorem rowSL_congr {X Y : Nat → Value} {n : Nat} (h : ∀ i, i < n → X i = Y i) : rowSL X n = rowSL Y n := by
  unfold rowSL; exact List.map_congr_left fun i hi => h i (List.mem_range.1 hi)
theorem rowSL_set (X : Nat → Value) (n j : Nat) (u : Value) : (rowSL X n).set j u = rowSL (fun i => if i = j then u else X i) n := by
  apply List.ext_getElem?
  intro i
  by_cases hi : i < n
  · rw [rowSL_get _ _ _ hi, List.getElem?_set]
    by_cases hij : j = i
    · subst hij; simp [rowSL_length, hi]
    · rw [if_neg hij, rowSL_get _ _ _ hi, if_neg (fun h => hij h.symm)]
  · rw [List.getElem?_eq_none (by simp [rowSL_length]; omega), List.getElem?_eq_none (by simp [rowSL_length]; omega)]
theorem infoSL : (Try.prog.info? 51).map (fun i => (i.zero, i.size, i.bytes)) = some (some (.slice none 0 0), 1, 24) := by kernel_rfl
theorem madeSL (n : Nat) : (madeCells #[Value.slice none 0 0] n).toList = rowSL (fun _ => .slice none 0 0) n := by
  rw [toList_madeCells_one]
  apply List.ext_getElem?
  intro i
  by_cases hi : i < n
  · rw [rowSL_get _ _ _ hi]; simp [hi]
  · rw [List.getElem?_eq_none (by simp; omega), List.getElem?_eq_none (by simp [rowSL_length]; omega)]
theorem cellsSL : Try.prog.cellsOf 51 = 1 := by kernel_rfl
theorem cellsSA : Try.prog.cellsOf 49 = 1 := by kernel_rfl
theorem store_sliceL (w : World) (a : Addr) (xa : Option Addr) (n c : Nat) {u : Value} (hc : w.cell? a = some u) (hf : w.frozen? a = false) : (store a (.slice xa n c)).run Try.prog w = .ok () (w.setCell a (.slice xa n c)) := by
  have h : (store a (.slice xa n c)).run Try.prog w = stored Try.prog w a (.slice xa n c) .plain := run_store Try.prog w a _ .plain rfl
  rw [h]
  simp [stored, hc, hf]
section
variable {H : Type} {enc : TypeId × Value → H} {w : World} {base : Nat} {spare : Nat → Bool} {held : Bool}
/-- An argument that is a slice of rows. -/
theorem open_lls {xa : Option Addr} {len cap : Nat} {d : DataW H} {ps : List MemPlace}
    (h : DataW.Trod enc Try.prog w base spare held 84 (.slice xa len cap) d ps) : len ≤ cap ∧ cap ≤ maxLen ∧ ∃ N X, RdL w xa len N X ∧ (∀ i, i < len → N i ≤ maxLen) ∧ ∀ i, i < len → ∀ j, j < N i → (X i j).wf := by
  obtain ⟨fuel, hf⟩ := h
  have hf' : DataW.trod enc Try.prog w base spare held fuel 84 [.slice xa len cap] = some (d, ps) := hf
  rcases Deep.open_slice1 Try.underlying84 cellsSA hf' with ⟨h1, _⟩ | ⟨a, len', cap', m, n, V, D, Pl, hcs, _, hl, hm, hmm, _, hx⟩
  · simp only [List.cons.injEq, Value.slice.injEq, and_true] at h1
    obtain ⟨rfl, rfl, rfl⟩ := h1
    exact ⟨Nat.le_refl _, Nat.zero_le _, fun _ => 0, fun _ _ => ⟨0, 0, 0, 0⟩, RdL.nil _ _ _ _, fun i hi => absurd hi (Nat.not_lt_zero _), fun i hi => absurd hi (Nat.not_lt_zero _)⟩
  · simp only [List.cons.injEq, Value.slice.injEq, and_true] at hcs
    obtain ⟨rfl, rfl, rfl⟩ := hcs
    have hlm : len ≤ m := by rw [hmm]; split <;> omega
    have key : ∀ i, i < len → ∃ (q : Nat × (Nat → Ln)) , ∃ a' c', V i = .slice a' q.1 c' ∧ q.1 ≤ c' ∧ q.1 ≤ maxLen ∧ RdN w a' q.1 q.2 ∧ ∀ j, j < q.1 → (q.2 j).wf := fun i hi => by
      have h2 := (hx i (by omega)).2
      have hv : ∃ a' l' c', V i = .slice a' l' c' := by
        rcases Deep.open_slice Try.underlying49 h2 with ⟨h1, _⟩ | ⟨a2, l2, c2, _, _, _, _, hcs2, _⟩
        · simp only [List.cons.injEq, and_true] at h1
          exact ⟨none, 0, 0, h1⟩
        · simp only [List.cons.injEq, and_true] at hcs2
          exact ⟨some a2, l2, c2, hcs2⟩
      obtain ⟨a', l', c', hv⟩ := hv
      rw [hv] at h2
      obtain ⟨e1, e2, X, e3, e4⟩ := open_lins ⟨_, h2⟩
      exact ⟨(l', X), a', c', hv, e1, Nat.le_trans e1 e2, e3, e4⟩
    obtain ⟨Q, hQ⟩ := Deep.choose_lt (α := Nat × (Nat → Ln)) (n := len) (p := fun i q => ∃ a' c', V i = .slice a' q.1 c' ∧ q.1 ≤ c' ∧ q.1 ≤ maxLen ∧ RdN w a' q.1 q.2 ∧ ∀ j, j < q.1 → (q.2 j).wf) key
    refine ⟨hl, hm, fun i => (Q i).1, fun i => (Q i).2, ⟨a.block, a.off, fun hp => ?_, fun i hi => ?_⟩, fun i hi => ?_, fun i hi => ?_⟩
    · have h0 := (hx 0 (by omega)).1
      have hs : a.spot = none := by simpa [Addr.add] using World.cell?_spot h0
      cases a
      simp only at hs
      rw [hs]
    · obtain ⟨a', c', hv, e1, _, e3, _⟩ := hQ i hi
      have h0 := (hx i (by omega)).1
      have hs := World.cell?_spot h0
      rw [hv] at h0
      refine ⟨a', c', ?_, e1, e3⟩
      rw [← h0]
      congr 1
      unfold Addr.add at hs ⊢
      by_cases hi0 : i = 0
      · subst hi0
        simp only [if_true] at hs ⊢
        cases a
        simp only at hs
        simp [hs]
      · simp [hi0]
    · obtain ⟨_, _, _, _, h3, _⟩ := hQ i hi
      exact h3
    · obtain ⟨_, _, _, _, _, _, h4⟩ := hQ i hi
      exact h4
end
/-- How many numbers there are. -/
def totNL (N : Nat → Nat) : Nat → Nat
  | 0 => 0
  | k + 1 => totNL N k + N k
theorem totNL_le {N : Nat → Nat} : ∀ K i, i < K → totNL N i + N i ≤ totNL N K := by
  intro K
  induction K with
  | zero => intro i h; omega
  | succ K ih =>
    intro i h
    show _ ≤ totNL N K + N K
    by_cases e : i = K
    · subst e; omega
    · have := ih i (by omega); omega
set_option maxRecDepth 100000 in
set_option maxHeartbeats 1600000 in
theorem szLL_yes (xa : Option Addr) (K cap : Nat) (N : Nat → Nat) (X : Nat → Nat → Ln) (w : World) (hX : RdL w xa K N X) (h : K + totNL N K ≤ 1048576) :
    Calls Try.prog 63 #[.slice xa K cap, .int .i64 1048576] w fun e w' => e = .returned (.int .i64 (1048576 - (K : Int) - (totNL N K : Int))) ∧ w' = w := by
  obtain ⟨xb, xo, hxa, hcx⟩ := hX
  have HX := Lib.hid hcx
  clear hcx
  have hK : (0 : Int) ≤ 1048576 - (K : Int) := by omega
  go_enter Try.func63, Try.ntmps63
  go_wp2
  go_loopw [1, 5] (fun l i wr => ∃ k : Nat, k ≤ K ∧ i = .int .i64 k ∧ l = .int .i64 (1048576 - (K : Int) - (totNL N k : Int)) ∧ wr = w) (fun _ i _ => K - (intOf i).toNat)
  case atStart => exact ⟨0, Nat.zero_le _, rfl, by rw [show totNL N 0 = 0 from rfl]; simp, rfl⟩
  case round =>
    obtain ⟨k, hk, rfl, rfl, rfl⟩ := hrel
    by_cases hlt : k < K
    · have e := hxa (by omega)
      subst e
      obtain ⟨a, c, h1, _, _⟩ := HX.out k hlt
      have ht := totNL_le (N := N) K k hlt
      have h0 : (0 : Int) ≤ 1048576 - (K : Int) - (totNL N k : Int) - (N k : Int) := by omega
      have h2 : (0 : Int) ≤ 1048576 - (K : Int) - (totNL N k : Int) := by omega
      have hs : (1048576 : Int) - (K : Int) - (totNL N k : Int) - (N k : Int) = 1048576 - (K : Int) - (totNL N (k + 1) : Int) := by rw [show totNL N (k + 1) = totNL N k + N k from rfl]; omega
      have HS := Lib.hid hs
      clear hs
      go_wp2_with (go_at_call 33; go_in)
      go_roundw
      case rel => exact ⟨k + 1, by omega, by go_num, by rw [HS.out]; rfl, by first | rfl | trivial⟩
      case measure => simp [intOf]; omega
    · have hkn : k = K := by omega
      subst hkn
      go_wp2
      go_ret
      exact ⟨rfl, rfl⟩
set_option maxRecDepth 100000 in
set_option maxHeartbeats 1600000 in
theorem szLL_no (xa : Option Addr) (K cap : Nat) (N : Nat → Nat) (X : Nat → Nat → Ln) (w : World) (hX : RdL w xa K N X) (hm : K ≤ maxLen) (hN : ∀ i, i < K → N i ≤ maxLen) (h : 1048576 < K + totNL N K) :
    Calls Try.prog 63 #[.slice xa K cap, .int .i64 1048576] w fun e w' => e = .returned (.int .i64 (-1)) ∧ w' = w := by
  obtain ⟨xb, xo, hxa, hcx⟩ := hX
  have HX := Lib.hid hcx
  have HN := Lib.hid hN
  clear hcx hN
  unfold maxLen at hm
  by_cases hK : K ≤ 1048576
  · have hK' : (0 : Int) ≤ 1048576 - (K : Int) := by omega
    go_enter Try.func63, Try.ntmps63
    go_wp2
    go_loopw [1, 5] (fun l i wr => ∃ k : Nat, k ≤ K ∧ i = .int .i64 k ∧ l = .int .i64 (1048576 - (K : Int) - (totNL N k : Int)) ∧ K + totNL N k ≤ 1048576 ∧ wr = w) (fun _ i _ => K - (intOf i).toNat)
    case atStart => exact ⟨0, Nat.zero_le _, rfl, by rw [show totNL N 0 = 0 from rfl]; simp, by rw [show totNL N 0 = 0 from rfl]; omega, rfl⟩
    case round =>
      obtain ⟨k, hk, rfl, rfl, hle, rfl⟩ := hrel
      by_cases hlt : k < K
      · have e := hxa (by omega)
        subst e
        obtain ⟨a, c, h1, _, _⟩ := HX.out k hlt
        have hNk := HN.out k hlt
        unfold maxLen at hNk
        have h2 : (0 : Int) ≤ 1048576 - (K : Int) - (totNL N k : Int) := by omega
        by_cases hc : K + totNL N k + N k ≤ 1048576
        · have h0 : (0 : Int) ≤ 1048576 - (K : Int) - (totNL N k : Int) - (N k : Int) := by omega
          have HS := Lib.hid (show (1048576 : Int) - (K : Int) - (totNL N k : Int) - (N k : Int) = 1048576 - (K : Int) - (totNL N (k + 1) : Int) by rw [show totNL N (k + 1) = totNL N k + N k from rfl]; omega)
          have HL := Lib.hid (show K + totNL N (k + 1) ≤ 1048576 by rw [show totNL N (k + 1) = totNL N k + N k from rfl]; omega)
          go_wp2_with (go_at_call 33; go_in)
          go_roundw
          case rel => exact ⟨k + 1, by omega, by go_num, by rw [HS.out]; rfl, HL.out, by first | rfl | trivial⟩
          case measure => simp [intOf]; omega
        · have h0 : (1048576 : Int) - (K : Int) - (totNL N k : Int) - (N k : Int) < 0 := by omega
          go_wp2_with (go_at_call 33; go_in)
          go_ret
          exact ⟨rfl, rfl⟩
      · exfalso
        have hkn : k = K := by omega
        subst hkn
        omega
  · have hK' : (1048576 : Int) - (K : Int) < 0 := by omega
    go_enter Try.func63, Try.ntmps63
    go_wp2
    go_ret
    exact ⟨rfl, rfl⟩
/-- Rows of rows that the call made: the outer row lies in block G, row i in block gs i. -/
def OwnLL (w : World) (B G : Nat) (gs : Nat → Nat) (K : Nat) (N : Nat → Nat) (X : Nat → Nat → Ln) : Prop :=
  w.ownsRow B 51 1 (.slice (some ⟨G, 0, none⟩) K K) K (rowSL (fun i => .slice (some ⟨gs i, 0, none⟩) (N i) (N i)) K) ∧
  (∀ i, i < K → w.ownsRow B 120 4 (.slice (some ⟨gs i, 0, none⟩) (N i) (N i)) (N i) (rowN (X i) (N i))) ∧
  (∀ i j, i < j → j < K → gs i < gs j) ∧ ∀ i, i < K → G < gs i
section
variable {w : World} {B G : Nat} {gs : Nat → Nat} {K : Nat} {N : Nat → Nat} {X : Nat → Nat → Ln}
theorem OwnLL.outer (h : OwnLL w B G gs K N X) : w.ownsRow B 51 1 (.slice (some ⟨G, 0, none⟩) K K) K (rowSL (fun i => .slice (some ⟨gs i, 0, none⟩) (N i) (N i)) K) := h.1
theorem OwnLL.inner (h : OwnLL w B G gs K N X) : ∀ i, i < K → w.ownsRow B 120 4 (.slice (some ⟨gs i, 0, none⟩) (N i) (N i)) (N i) (rowN (X i) (N i)) := h.2.1
theorem OwnLL.up (h : OwnLL w B G gs K N X) : ∀ i j, i < j → j < K → gs i < gs j := h.2.2.1
theorem OwnLL.low (h : OwnLL w B G gs K N X) : ∀ i, i < K → G < gs i := h.2.2.2
end
theorem OwnLL.rd {w : World} {B G : Nat} {gs : Nat → Nat} {K : Nat} {N : Nat → Nat} {X : Nat → Nat → Ln} (h : OwnLL w B G gs K N X) : RdL w (some ⟨G, 0, none⟩) K N X :=
  ⟨G, 0, fun _ => rfl, fun i hi => ⟨some ⟨gs i, 0, none⟩, N i, by rw [Nat.zero_add, h.outer.cellAt i (by omega), rowSL_get _ _ _ hi], Nat.le_refl _, rdN_own (h.inner i hi)⟩⟩
theorem OwnLL.below {w w' : World} {B G : Nat} {gs : Nat → Nat} {K : Nat} {N : Nat → Nat} {X : Nat → Nat → Ln} (h : OwnLL w B G gs K N X) (hb : Below w.heap.size w w') : OwnLL w' B G gs K N X :=
  ⟨own_below h.outer hb, fun i hi => ownS_below (h.inner i hi) hb, h.up, h.low⟩
theorem OwnLL.lt {w : World} {B G : Nat} {gs : Nat → Nat} {K : Nat} {N : Nat → Nat} {X : Nat → Nat → Ln} (h : OwnLL w B G gs K N X) {i : Nat} (hi : i < K) : gs i < w.heap.size := ownS_lt (h.inner i hi)
set_option maxRecDepth 100000 in
set_option maxHeartbeats 3200000 in
theorem toLL_any (xa : Option Addr) (K cap : Nat) (N : Nat → Nat) (X : Nat → Nat → Ln) (w : World) (hX : RdL w xa K N X) (h : K + totNL N K ≤ 1048576) :
    Calls Try.prog 65 #[.slice xa K cap] w fun e w' => ∃ G gs, e = .returned (.slice (some ⟨G, 0, none⟩) K K) ∧ OwnLL w' w.heap.size G gs K N X ∧ Below w.heap.size w w' := by
  obtain ⟨i0, hi, hz0, hz1, hz2⟩ := info_parts infoSL
  obtain ⟨xb, xo, hxa, hcx⟩ := hX
  have HX := Lib.hid hcx
  clear hcx
  have hb : i0.bytes * K ≤ 281474976710656 := by rw [hz2]; omega
  have hm : K ≤ maxLen := by unfold maxLen; omega
  go_enter Try.func65, Try.ntmps65
  go_wp2_with (at_make; refine wpList_make_full _ rfl _ _ 88 rfl w.heap.size 51 i0 (.slice none 0 0) 1 Try.underlying88 hi hz0 hz1 _ _ _ _ K rfl rfl rfl rfl hb hm (Nat.le_refl _) ?_)
  intro w1 hown hgr
  rw [madeSL] at hown
  have hB : Below w.heap.size w w1 := (Below.refl _ w).grown hgr (Nat.le_refl _) (fun _ h => by cases h)
  have hlt1 := own_lt hown
  clear hgr hb hm hi hz0 hz1 hz2
  go_wp2
  go_loopw [4] (fun i wr => ∃ (k : Nat) (gs : Nat → Nat), k ≤ K ∧ i = .int .i64 k ∧ wr.ownsRow w.heap.size 51 1 (.slice (some ⟨w.heap.size, 0, none⟩) K K) K (rowSL (fun i => if i < k then .slice (some ⟨gs i, 0, none⟩) (N i) (N i) else .slice none 0 0) K) ∧
    (∀ i, i < k → wr.ownsRow w.heap.size 120 4 (.slice (some ⟨gs i, 0, none⟩) (N i) (N i)) (N i) (rowN (X i) (N i)) ∧ w.heap.size < gs i) ∧ (∀ i j, i < j → j < k → gs i < gs j) ∧ Below w.heap.size w wr) (fun i _ => K - (intOf i).toNat)
  case atStart => exact ⟨0, fun _ => 0, Nat.zero_le _, rfl, by simpa using hown, fun i hi => absurd hi (Nat.not_lt_zero _), fun i j _ hj => absurd hj (Nat.not_lt_zero _), hB⟩
  case round =>
    obtain ⟨k, gs, hk, rfl, hownk, hin, hup, hBk⟩ := hrel
    have hltk := own_lt hownk
    by_cases hlt : k < K
    · have e := hxa (by omega)
      subst e
      obtain ⟨a, c, h1, _, hra⟩ := HX.out k hlt
      have c1 := (hBk.cell (p := ⟨xb, xo + k, none⟩) (World.block_lt_of_cell? w _ h1)).trans h1
      have ra := hra.below (Below.drewN hBk 1)
      have hNk := totNL_le (N := N) K k hlt
      have HIn := Lib.hid hin
      have HUp := Lib.hid hup
      have HOk := Lib.hid hownk
      clear hown hB hownk hin hup hra h1
      go_wp2_with fail
      refine (toN_any _ _ _ (X k) _ (by exact ra) (by omega)).mono ?_
      rintro e0 w2 ⟨rfl, O0, B0⟩
      have o1 := own_below HOk.out B0
      have hfz := o1.frozenAt k
      have hcl : w2.cell? ⟨w.heap.size, k, none⟩ = some (.slice none 0 0) := by
        rw [o1.cellAt k (by omega), rowSL_get _ _ _ hlt, if_neg (by omega)]
      have hsf := store_sliceL w2 ⟨w.heap.size, k, none⟩ (some ⟨wr.heap.size, 0, none⟩) (N k) (N k) hcl hfz
      have hst := (o1.stored k (.slice (some ⟨wr.heap.size, 0, none⟩) (N k) (N k))).1
      rw [rowSL_set] at hst
      have HS := Lib.hid hst
      have HO0 := Lib.hid O0
      have HO1 := Lib.hid o1
      have hBf : Below w.heap.size w (w2.setCell ⟨w.heap.size, k, none⟩ (.slice (some ⟨wr.heap.size, 0, none⟩) (N k) (N k))) := Below.setCell (hBk.trans (B0.mono hBk.size)) (Nat.le_refl _) _
      have hon : Only w.heap.size w2 (w2.setCell ⟨w.heap.size, k, none⟩ (.slice (some ⟨wr.heap.size, 0, none⟩) (N k) (N k))) := (Only.refl _ _).setCell _ _
      clear hst O0 o1
      go_wp2
      go_roundw
      case rel =>
        refine ⟨k + 1, fun i => if i = k then wr.heap.size else gs i, by omega, by go_num, ?_, fun i hi => ?_, fun i j hij hj => ?_, hBf⟩
        · rw [rowSL_congr (Y := fun i => if i = k then .slice (some ⟨wr.heap.size, 0, none⟩) (N k) (N k) else if i < k then .slice (some ⟨gs i, 0, none⟩) (N i) (N i) else .slice none 0 0) (fun i _ => by
            by_cases e : i = k
            · subst e; simp
            · by_cases h : i < k
              · simp [e, h, Nat.lt_succ_of_lt h]
              · have : ¬ i < k + 1 := by omega
                simp [e, h, this])]
          exact HS.out
        · by_cases e : i = k
          · subst e
            simp only [if_true]
            exact ⟨own_otherS (ownS_monoL HO0.out hBk.size) (by omega) hon, by omega⟩
          · simp only [if_neg e]
            obtain ⟨o2, o3⟩ := HIn.out i (by omega)
            exact ⟨own_otherS (ownS_below o2 B0) (by omega) hon, o3⟩
        · by_cases e : j = k
          · subst e
            have : ¬ i = j := by omega
            simp only [if_true, if_neg this]
            exact ownS_lt (HIn.out i hij).1
          · have h1 : ¬ i = k := by omega
            simp only [if_neg e, if_neg h1]
            exact HUp.out i j hij (by omega)
      case measure => simp [intOf]; omega
    · have hkn : k = K := by omega
      subst hkn
      have hO : OwnLL wr w.heap.size w.heap.size gs k N X := ⟨by
        rw [rowSL_congr (Y := fun i => if i < k then .slice (some ⟨gs i, 0, none⟩) (N i) (N i) else .slice none 0 0) (fun i hi => by rw [if_pos hi])]
        exact hownk, fun i hi => (hin i hi).1, hup, fun i hi => (hin i hi).2⟩
      clear hown hB hownk hin hup
      go_wp2
      go_ret
      exact ⟨_, gs, rfl, hO, hBk⟩
set_option maxRecDepth 100000 in
set_option maxHeartbeats 1600000 in
theorem eqLL_any (xa ya : Option Addr) (K cx cy : Nat) (N : Nat → Nat) (X : Nat → Nat → Ln) (w : World) (hX : RdL w xa K N X) (hY : RdL w ya K N X) (h : K + totNL N K ≤ 1048576) :
    Calls Try.prog 67 #[.slice xa K cx, .slice ya K cy] w fun e w' => e = .returned (.bool true) ∧ Below w.heap.size w w' := by
  obtain ⟨xb, xo, hxa, hcx⟩ := hX
  obtain ⟨yb, yo, hya, hcy⟩ := hY
  have HX := Lib.hid hcx
  have HY := Lib.hid hcy
  clear hcx hcy
  have hnn : ((K : Int) != (K : Int)) = false := by simp
  go_enter Try.func67, Try.ntmps67
  go_wp2
  go_loopw [5] (fun i wr => ∃ k : Nat, k ≤ K ∧ i = .int .i64 k ∧ Below w.heap.size w wr) (fun i _ => K - (intOf i).toNat)
  case atStart => exact ⟨0, Nat.zero_le _, rfl, Below.refl _ _⟩
  case round =>
    obtain ⟨k, hk, rfl, hBk⟩ := hrel
    by_cases hlt : k < K
    · have e := hxa (by omega)
      subst e
      have e := hya (by omega)
      subst e
      obtain ⟨a, c, h1, _, ra⟩ := HX.out k hlt
      obtain ⟨b, d, h2, _, rb⟩ := HY.out k hlt
      have hNk := totNL_le (N := N) K k hlt
      have hi0 : (k : Int) < (K : Int) := by omega
      obtain ⟨wz, hwz⟩ : ∃ wz, wz = wr := ⟨_, rfl⟩
      have h1' : wz.cell? ⟨xb, xo + k, none⟩ = some (.slice a (N k) c) := by rw [hwz]; exact (hBk.cell (p := ⟨xb, xo + k, none⟩) (World.block_lt_of_cell? w _ h1)).trans h1
      have h2' : wz.cell? ⟨yb, yo + k, none⟩ = some (.slice b (N k) d) := by rw [hwz]; exact (hBk.cell (p := ⟨yb, yo + k, none⟩) (World.block_lt_of_cell? w _ h2)).trans h2
      have HE := Lib.hid (show Calls Try.prog 37 #[.slice a (N k) c, .slice b (N k) d] (wz.drewN 1) fun e w' => e = .returned (.bool true) ∧ Below (wz.drewN 1).heap.size (wz.drewN 1) w' from eqN_any _ _ _ _ _ (X k) (X k) _ (by rw [hwz]; exact ra.below (Below.drewN hBk 1)) (by rw [hwz]; exact rb.below (Below.drewN hBk 1)) (by omega) (LikeN.refl _ _))
      have HBW := Lib.hid (show Below w.heap.size w wz by rw [hwz]; exact hBk)
      rw [← hwz]
      clear ra rb h1 h2 hwz hBk
      go_wp2_with fail
      go_still_tail 8, (by kernel_rfl)
      change wpList _ _ _ _ _ wz.drew
      have hEw : wz.drew = wz.drewN 1 := rfl
      rw [hEw]
      clear hEw
      go_wp2_with (go_at_call 37; refine HE.out.mono ?_; rintro e w2 ⟨rfl, B2⟩)
      go_roundw
      case rel => exact ⟨k + 1, by omega, by go_num, (HBW.out).trans ((Below.drewN (Below.refl _ wz) 1).trans B2 |>.mono HBW.out.size)⟩
      case measure => simp [intOf]; omega
    · have hkn : k = K := by omega
      subst hkn
      go_wp2
      go_ret
      exact ⟨rfl, hBk⟩
end Go.Proofs.Ytmpcalpapkedhaa
