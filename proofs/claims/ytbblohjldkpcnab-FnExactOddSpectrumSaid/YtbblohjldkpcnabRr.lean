/- Rows of rows of 32-bit numbers: as they are read, as an argument gives them, and as the laws' own functions copy, compare and measure them. -/
import Derived.Test.YtbblohjldkpcnabLiC
import Derived.Test.YtbblohjldkpcnabLaw
import Derived.Deep.QuietTactic
import Derived.BigQuiet
import Derived.StillTailTactics
namespace Go.Proofs.Ytbblohjldkpcnab
open Go Go.ChangeShapes Go.WideShapes Go.ChangeAt Go.RowKit

/-- K rows, of which row i has N i numbers, X i. -/
def RdR (w : World) (xa : Option Addr) (K : Nat) (N : Nat → Nat) (X : Nat → Nat → Nat) : Prop :=
  ∃ xb xo, (0 < K → xa = some ⟨xb, xo, none⟩) ∧ ∀ i, i < K → ∃ a c, w.cell? ⟨xb, xo + i, none⟩ = some (.slice a (N i) c) ∧ N i ≤ c ∧ Rd w a (N i) (X i)
theorem RdR.drew {w : World} {xa : Option Addr} {K : Nat} {N : Nat → Nat} {X : Nat → Nat → Nat} (h : RdR w xa K N X) (k : Nat) : RdR (w.drewN k) xa K N X := h
theorem RdR.below {w w' : World} {xa : Option Addr} {K : Nat} {N : Nat → Nat} {X : Nat → Nat → Nat} (h : RdR w xa K N X) (hb : Below w.heap.size w w') : RdR w' xa K N X := by
  obtain ⟨xb, xo, h1, h2⟩ := h
  refine ⟨xb, xo, h1, fun i hi => ?_⟩
  obtain ⟨a, c, h3, hc, h4⟩ := h2 i hi
  exact ⟨a, c, (hb.cell (p := ⟨xb, xo + i, none⟩) (World.block_lt_of_cell? w _ h3)).trans h3, hc, h4.below hb⟩
theorem RdR.nil (w : World) (xa : Option Addr) (N : Nat → Nat) (X : Nat → Nat → Nat) : RdR w xa 0 N X := ⟨0, 0, fun h => absurd h (Nat.lt_irrefl _), fun _ h => absurd h (Nat.not_lt_zero _)⟩
def rowS (V : Nat → Value) (n : Nat) : List Value := (List.range n).map V
theorem rowS_length (V : Nat → Value) (n : Nat) : (rowS V n).length = n := by simp [rowS]
theorem rowS_get (V : Nat → Value) (n i : Nat) (h : i < n) : (rowS V n)[i]? = some (V i) := by simp [rowS, h]
theorem rowS_congr {X Y : Nat → Value} {n : Nat} (h : ∀ i, i < n → X i = Y i) : rowS X n = rowS Y n := by
  unfold rowS; exact List.map_congr_left fun i hi => h i (List.mem_range.1 hi)
theorem rowS_set (X : Nat → Value) (n j : Nat) (u : Value) : (rowS X n).set j u = rowS (fun i => if i = j then u else X i) n := by
  apply List.ext_getElem?
  intro i
  by_cases hi : i < n
  · rw [rowS_get _ _ _ hi, List.getElem?_set]
    by_cases hij : j = i
    · subst hij; simp [rowS_length, hi]
    · rw [if_neg hij, rowS_get _ _ _ hi, if_neg (fun h => hij h.symm)]
  · rw [List.getElem?_eq_none (by simp [rowS_length]; omega), List.getElem?_eq_none (by simp [rowS_length]; omega)]
theorem infoS : (Try.prog.info? 24).map (fun i => (i.zero, i.size, i.bytes)) = some (some (.slice none 0 0), 1, 24) := by kernel_rfl
theorem madeS (n : Nat) : (madeCells #[Value.slice none 0 0] n).toList = rowS (fun _ => .slice none 0 0) n := by
  rw [toList_madeCells_one]
  apply List.ext_getElem?
  intro i
  by_cases hi : i < n
  · rw [rowS_get _ _ _ hi]; simp [hi]
  · rw [List.getElem?_eq_none (by simp; omega), List.getElem?_eq_none (by simp [rowS_length]; omega)]
theorem cellsS : Try.prog.cellsOf 24 = 1 := by kernel_rfl
theorem store_slice (w : World) (a : Addr) (xa : Option Addr) (n c : Nat) {u : Value} (hc : w.cell? a = some u) (hf : w.frozen? a = false) : (store a (.slice xa n c)).run Try.prog w = .ok () (w.setCell a (.slice xa n c)) := by
  have h : (store a (.slice xa n c)).run Try.prog w = stored Try.prog w a (.slice xa n c) .plain := run_store Try.prog w a _ .plain rfl
  rw [h]
  simp [stored, hc, hf]
section
variable {H : Type} {enc : TypeId × Value → H} {w : World} {base : Nat} {spare : Nat → Bool} {held : Bool}
/-- An argument that is a slice of rows. -/
theorem open_ffs {xa : Option Addr} {len cap : Nat} {d : DataW H} {ps : List MemPlace}
    (h : DataW.Trod enc Try.prog w base spare held 22 (.slice xa len cap) d ps) : len ≤ cap ∧ cap ≤ maxLen ∧ ∃ N X, RdR w xa len N X ∧ (∀ i, i < len → N i ≤ maxLen) ∧ ∀ i, i < len → ∀ j, j < N i → (Lit.float .f32 (X i j)).wf = true := by
  obtain ⟨fuel, hf⟩ := h
  have hf' : DataW.trod enc Try.prog w base spare held fuel 22 [.slice xa len cap] = some (d, ps) := hf
  rcases Deep.open_slice1 Try.underlying22 cellsS hf' with ⟨h1, _⟩ | ⟨a, len', cap', m, n, V, D, Pl, hcs, _, hl, hm, hmm, _, hx⟩
  · simp only [List.cons.injEq, Value.slice.injEq, and_true] at h1
    obtain ⟨rfl, rfl, rfl⟩ := h1
    exact ⟨Nat.le_refl _, Nat.zero_le _, fun _ => 0, fun _ _ => 0, RdR.nil _ _ _ _, fun i hi => absurd hi (Nat.not_lt_zero _), fun i hi => absurd hi (Nat.not_lt_zero _)⟩
  · simp only [List.cons.injEq, Value.slice.injEq, and_true] at hcs
    obtain ⟨rfl, rfl, rfl⟩ := hcs
    have hlm : len ≤ m := by rw [hmm]; split <;> omega
    have key : ∀ i, i < len → ∃ (q : Nat × (Nat → Nat)) , ∃ a' c', V i = .slice a' q.1 c' ∧ q.1 ≤ c' ∧ q.1 ≤ maxLen ∧ Rd w a' q.1 q.2 ∧ ∀ j, j < q.1 → (Lit.float .f32 (q.2 j)).wf = true := fun i hi => by
      have h2 := (hx i (by omega)).2
      have hv : ∃ a' l' c', V i = .slice a' l' c' := by
        rcases Deep.open_slice1 Try.underlying24 cellsF h2 with ⟨h1, _⟩ | ⟨a2, l2, c2, _, _, _, _, _, hcs2, _⟩
        · simp only [List.cons.injEq, and_true] at h1
          exact ⟨none, 0, 0, h1⟩
        · simp only [List.cons.injEq, and_true] at hcs2
          exact ⟨some a2, l2, c2, hcs2⟩
      obtain ⟨a', l', c', hv⟩ := hv
      rw [hv] at h2
      obtain ⟨e1, e2, X, e3, e4⟩ := open_f32s Try.underlying24 Try.underlying43 cellsF ⟨_, h2⟩
      exact ⟨(l', X), a', c', hv, e1, Nat.le_trans e1 e2, e3, e4⟩
    obtain ⟨Q, hQ⟩ := Deep.choose_lt (α := Nat × (Nat → Nat)) (n := len) (p := fun i q => ∃ a' c', V i = .slice a' q.1 c' ∧ q.1 ≤ c' ∧ q.1 ≤ maxLen ∧ Rd w a' q.1 q.2 ∧ ∀ j, j < q.1 → (Lit.float .f32 (q.2 j)).wf = true) key
    refine ⟨hl, hm, fun i => (Q i).1, fun i => (Q i).2, ⟨a.block, a.off, fun hp => ?_, fun i hi => ?_⟩, fun i hi => ?_, fun i hi => ?_⟩
    · have h0 := (hx 0 (by omega)).1
      have hs : a.spot = none := by simpa [Addr.add] using World.cell?_spot h0
      cases a
      simp only at hs
      rw [hs]
    · obtain ⟨a', c', hv, e1, _, e3, _⟩ := hQ i hi
      have h0 := (hx i (by omega)).1
      have hs := World.cell?_spot h0
      rw [hv] at h0
      refine ⟨a', c', ?_, e1, e3⟩
      rw [← h0]
      congr 1
      unfold Addr.add at hs ⊢
      by_cases hi0 : i = 0
      · subst hi0
        simp only [if_true] at hs ⊢
        cases a
        simp only at hs
        simp [hs]
      · simp [hi0]
    · obtain ⟨_, _, _, _, h3, _⟩ := hQ i hi
      exact h3
    · obtain ⟨_, _, _, _, _, _, h4⟩ := hQ i hi
      exact h4
end
/-- How many numbers there are. -/
def totN (N : Nat → Nat) : Nat → Nat
  | 0 => 0
  | k + 1 => totN N k + N k
theorem totN_le {N : Nat → Nat} : ∀ K i, i < K → totN N i + N i ≤ totN N K := by
  intro K
  induction K with
  | zero => intro i h; omega
  | succ K ih =>
    intro i h
    show _ ≤ totN N K + N K
    by_cases e : i = K
    · subst e; omega
    · have := ih i (by omega); omega
set_option maxRecDepth 100000 in
set_option maxHeartbeats 1600000 in
theorem szFF_yes (xa : Option Addr) (K cap : Nat) (N : Nat → Nat) (X : Nat → Nat → Nat) (w : World) (hX : RdR w xa K N X) (h : K + totN N K ≤ 1048576) :
    Calls Try.prog 15 #[.slice xa K cap, .int .i64 1048576] w fun e w' => e = .returned (.int .i64 (1048576 - (K : Int) - (totN N K : Int))) ∧ w' = w := by
  obtain ⟨xb, xo, hxa, hcx⟩ := hX
  have HX := Lib.hid hcx
  clear hcx
  have hK : (0 : Int) ≤ 1048576 - (K : Int) := by omega
  go_enter Try.func15, Try.ntmps15
  go_wp2
  go_loopw [1, 5] (fun l i wr => ∃ k : Nat, k ≤ K ∧ i = .int .i64 k ∧ l = .int .i64 (1048576 - (K : Int) - (totN N k : Int)) ∧ wr = w) (fun _ i _ => K - (intOf i).toNat)
  case atStart => exact ⟨0, Nat.zero_le _, rfl, by rw [show totN N 0 = 0 from rfl]; simp, rfl⟩
  case round =>
    obtain ⟨k, hk, rfl, rfl, rfl⟩ := hrel
    by_cases hlt : k < K
    · have e := hxa (by omega)
      subst e
      obtain ⟨a, c, h1, _, _⟩ := HX.out k hlt
      have ht := totN_le (N := N) K k hlt
      have h0 : (0 : Int) ≤ 1048576 - (K : Int) - (totN N k : Int) - (N k : Int) := by omega
      have h2 : (0 : Int) ≤ 1048576 - (K : Int) - (totN N k : Int) := by omega
      have hs : (1048576 : Int) - (K : Int) - (totN N k : Int) - (N k : Int) = 1048576 - (K : Int) - (totN N (k + 1) : Int) := by rw [show totN N (k + 1) = totN N k + N k from rfl]; omega
      have HS := Lib.hid hs
      clear hs
      go_wp2_with (go_at_call 61; go_in)
      go_roundw
      case rel => exact ⟨k + 1, by omega, by go_num, by rw [HS.out]; rfl, by first | rfl | trivial⟩
      case measure => simp [intOf]; omega
    · have hkn : k = K := by omega
      subst hkn
      go_wp2
      go_ret
      exact ⟨rfl, rfl⟩
set_option maxRecDepth 100000 in
set_option maxHeartbeats 1600000 in
theorem szFF_no (xa : Option Addr) (K cap : Nat) (N : Nat → Nat) (X : Nat → Nat → Nat) (w : World) (hX : RdR w xa K N X) (hm : K ≤ maxLen) (hN : ∀ i, i < K → N i ≤ maxLen) (h : 1048576 < K + totN N K) :
    Calls Try.prog 15 #[.slice xa K cap, .int .i64 1048576] w fun e w' => e = .returned (.int .i64 (-1)) ∧ w' = w := by
  obtain ⟨xb, xo, hxa, hcx⟩ := hX
  have HX := Lib.hid hcx
  have HN := Lib.hid hN
  clear hcx hN
  unfold maxLen at hm
  by_cases hK : K ≤ 1048576
  · have hK' : (0 : Int) ≤ 1048576 - (K : Int) := by omega
    go_enter Try.func15, Try.ntmps15
    go_wp2
    go_loopw [1, 5] (fun l i wr => ∃ k : Nat, k ≤ K ∧ i = .int .i64 k ∧ l = .int .i64 (1048576 - (K : Int) - (totN N k : Int)) ∧ K + totN N k ≤ 1048576 ∧ wr = w) (fun _ i _ => K - (intOf i).toNat)
    case atStart => exact ⟨0, Nat.zero_le _, rfl, by rw [show totN N 0 = 0 from rfl]; simp, by rw [show totN N 0 = 0 from rfl]; omega, rfl⟩
    case round =>
      obtain ⟨k, hk, rfl, rfl, hle, rfl⟩ := hrel
      by_cases hlt : k < K
      · have e := hxa (by omega)
        subst e
        obtain ⟨a, c, h1, _, _⟩ := HX.out k hlt
        have hNk := HN.out k hlt
        unfold maxLen at hNk
        have h2 : (0 : Int) ≤ 1048576 - (K : Int) - (totN N k : Int) := by omega
        by_cases hc : K + totN N k + N k ≤ 1048576
        · have h0 : (0 : Int) ≤ 1048576 - (K : Int) - (totN N k : Int) - (N k : Int) := by omega
          have HS := Lib.hid (show (1048576 : Int) - (K : Int) - (totN N k : Int) - (N k : Int) = 1048576 - (K : Int) - (totN N (k + 1) : Int) by rw [show totN N (k + 1) = totN N k + N k from rfl]; omega)
          have HL := Lib.hid (show K + totN N (k + 1) ≤ 1048576 by rw [show totN N (k + 1) = totN N k + N k from rfl]; omega)
          go_wp2_with (go_at_call 61; go_in)
          go_roundw
          case rel => exact ⟨k + 1, by omega, by go_num, by rw [HS.out]; rfl, HL.out, by first | rfl | trivial⟩
          case measure => simp [intOf]; omega
        · have h0 : (1048576 : Int) - (K : Int) - (totN N k : Int) - (N k : Int) < 0 := by omega
          go_wp2_with (go_at_call 61; go_in)
          go_ret
          exact ⟨rfl, rfl⟩
      · exfalso
        have hkn : k = K := by omega
        subst hkn
        omega
  · have hK' : (1048576 : Int) - (K : Int) < 0 := by omega
    go_enter Try.func15, Try.ntmps15
    go_wp2
    go_ret
    exact ⟨rfl, rfl⟩
/-- Rows of rows that the call made: the outer row lies in block G, row i in block gs i. -/
def OwnRR (w : World) (B G : Nat) (gs : Nat → Nat) (K : Nat) (N : Nat → Nat) (X : Nat → Nat → Nat) : Prop :=
  w.ownsRow B 24 1 (.slice (some ⟨G, 0, none⟩) K K) K (rowS (fun i => .slice (some ⟨gs i, 0, none⟩) (N i) (N i)) K) ∧
  (∀ i, i < K → w.ownsRow B 43 1 (.slice (some ⟨gs i, 0, none⟩) (N i) (N i)) (N i) (rowOf (X i) (N i))) ∧
  (∀ i j, i < j → j < K → gs i < gs j) ∧ ∀ i, i < K → G < gs i
section
variable {w : World} {B G : Nat} {gs : Nat → Nat} {K : Nat} {N : Nat → Nat} {X : Nat → Nat → Nat}
theorem OwnRR.outer (h : OwnRR w B G gs K N X) : w.ownsRow B 24 1 (.slice (some ⟨G, 0, none⟩) K K) K (rowS (fun i => .slice (some ⟨gs i, 0, none⟩) (N i) (N i)) K) := h.1
theorem OwnRR.inner (h : OwnRR w B G gs K N X) : ∀ i, i < K → w.ownsRow B 43 1 (.slice (some ⟨gs i, 0, none⟩) (N i) (N i)) (N i) (rowOf (X i) (N i)) := h.2.1
theorem OwnRR.up (h : OwnRR w B G gs K N X) : ∀ i j, i < j → j < K → gs i < gs j := h.2.2.1
theorem OwnRR.low (h : OwnRR w B G gs K N X) : ∀ i, i < K → G < gs i := h.2.2.2
end
theorem OwnRR.rd {w : World} {B G : Nat} {gs : Nat → Nat} {K : Nat} {N : Nat → Nat} {X : Nat → Nat → Nat} (h : OwnRR w B G gs K N X) : RdR w (some ⟨G, 0, none⟩) K N X :=
  ⟨G, 0, fun _ => rfl, fun i hi => ⟨some ⟨gs i, 0, none⟩, N i, by rw [Nat.zero_add, h.outer.cellAt i (by omega), rowS_get _ _ _ hi], Nat.le_refl _, rd_own (h.inner i hi)⟩⟩
theorem OwnRR.below {w w' : World} {B G : Nat} {gs : Nat → Nat} {K : Nat} {N : Nat → Nat} {X : Nat → Nat → Nat} (h : OwnRR w B G gs K N X) (hb : Below w.heap.size w w') : OwnRR w' B G gs K N X :=
  ⟨own_below h.outer hb, fun i hi => own_below (h.inner i hi) hb, h.up, h.low⟩
theorem OwnRR.lt {w : World} {B G : Nat} {gs : Nat → Nat} {K : Nat} {N : Nat → Nat} {X : Nat → Nat → Nat} (h : OwnRR w B G gs K N X) {i : Nat} (hi : i < K) : gs i < w.heap.size := own_lt (h.inner i hi)
set_option maxRecDepth 100000 in
set_option maxHeartbeats 3200000 in
theorem toFF_any (xa : Option Addr) (K cap : Nat) (N : Nat → Nat) (X : Nat → Nat → Nat) (w : World) (hX : RdR w xa K N X) (h : K + totN N K ≤ 1048576) :
    Calls Try.prog 17 #[.slice xa K cap] w fun e w' => ∃ G gs, e = .returned (.slice (some ⟨G, 0, none⟩) K K) ∧ OwnRR w' w.heap.size G gs K N X ∧ Below w.heap.size w w' := by
  obtain ⟨i0, hi, hz0, hz1, hz2⟩ := info_parts infoS
  obtain ⟨xb, xo, hxa, hcx⟩ := hX
  have HX := Lib.hid hcx
  clear hcx
  have hb : i0.bytes * K ≤ 281474976710656 := by rw [hz2]; omega
  have hm : K ≤ maxLen := by unfold maxLen; omega
  go_enter Try.func17, Try.ntmps17
  go_wp2_with (at_make; refine wpList_make_full _ rfl _ _ 22 rfl w.heap.size 24 i0 (.slice none 0 0) 1 Try.underlying22 hi hz0 hz1 _ _ _ _ K rfl rfl rfl rfl hb hm (Nat.le_refl _) ?_)
  intro w1 hown hgr
  rw [madeS] at hown
  have hB : Below w.heap.size w w1 := (Below.refl _ w).grown hgr (Nat.le_refl _) (fun _ h => by cases h)
  have hlt1 := own_lt hown
  clear hgr hb hm hi hz0 hz1 hz2
  go_wp2
  go_loopw [4] (fun i wr => ∃ (k : Nat) (gs : Nat → Nat), k ≤ K ∧ i = .int .i64 k ∧ wr.ownsRow w.heap.size 24 1 (.slice (some ⟨w.heap.size, 0, none⟩) K K) K (rowS (fun i => if i < k then .slice (some ⟨gs i, 0, none⟩) (N i) (N i) else .slice none 0 0) K) ∧
    (∀ i, i < k → wr.ownsRow w.heap.size 43 1 (.slice (some ⟨gs i, 0, none⟩) (N i) (N i)) (N i) (rowOf (X i) (N i)) ∧ w.heap.size < gs i) ∧ (∀ i j, i < j → j < k → gs i < gs j) ∧ Below w.heap.size w wr) (fun i _ => K - (intOf i).toNat)
  case atStart => exact ⟨0, fun _ => 0, Nat.zero_le _, rfl, by simpa using hown, fun i hi => absurd hi (Nat.not_lt_zero _), fun i j _ hj => absurd hj (Nat.not_lt_zero _), hB⟩
  case round =>
    obtain ⟨k, gs, hk, rfl, hownk, hin, hup, hBk⟩ := hrel
    have hltk := own_lt hownk
    by_cases hlt : k < K
    · have e := hxa (by omega)
      subst e
      obtain ⟨a, c, h1, _, hra⟩ := HX.out k hlt
      have c1 := (hBk.cell (p := ⟨xb, xo + k, none⟩) (World.block_lt_of_cell? w _ h1)).trans h1
      have ra := hra.below hBk
      have hNk := totN_le (N := N) K k hlt
      have HIn := Lib.hid hin
      have HUp := Lib.hid hup
      have HOk := Lib.hid hownk
      clear hown hB hownk hin hup hra h1
      go_wp2_with fail
      refine (toF_any _ _ _ (X k) _ (by exact ra) (by omega)).mono ?_
      rintro e0 w2 ⟨rfl, O0, B0⟩
      have o1 := own_below HOk.out B0
      have hfz := o1.frozenAt k
      have hcl : w2.cell? ⟨w.heap.size, k, none⟩ = some (.slice none 0 0) := by
        rw [o1.cellAt k (by omega), rowS_get _ _ _ hlt, if_neg (by omega)]
      have hsf := store_slice w2 ⟨w.heap.size, k, none⟩ (some ⟨wr.heap.size, 0, none⟩) (N k) (N k) hcl hfz
      have hst := (o1.stored k (.slice (some ⟨wr.heap.size, 0, none⟩) (N k) (N k))).1
      rw [rowS_set] at hst
      have HS := Lib.hid hst
      have HO0 := Lib.hid O0
      have HO1 := Lib.hid o1
      have hBf : Below w.heap.size w (w2.setCell ⟨w.heap.size, k, none⟩ (.slice (some ⟨wr.heap.size, 0, none⟩) (N k) (N k))) := Below.setCell (hBk.trans (B0.mono hBk.size)) (Nat.le_refl _) _
      have hon : Only w.heap.size w2 (w2.setCell ⟨w.heap.size, k, none⟩ (.slice (some ⟨wr.heap.size, 0, none⟩) (N k) (N k))) := (Only.refl _ _).setCell _ _
      clear hst O0 o1
      go_wp2
      go_roundw
      case rel =>
        refine ⟨k + 1, fun i => if i = k then wr.heap.size else gs i, by omega, by go_num, ?_, fun i hi => ?_, fun i j hij hj => ?_, hBf⟩
        · rw [rowS_congr (Y := fun i => if i = k then .slice (some ⟨wr.heap.size, 0, none⟩) (N k) (N k) else if i < k then .slice (some ⟨gs i, 0, none⟩) (N i) (N i) else .slice none 0 0) (fun i _ => by
            by_cases e : i = k
            · subst e; simp
            · by_cases h : i < k
              · simp [e, h, Nat.lt_succ_of_lt h]
              · have : ¬ i < k + 1 := by omega
                simp [e, h, this])]
          exact HS.out
        · by_cases e : i = k
          · subst e
            simp only [if_true]
            exact ⟨own_other (own_mono0 HO0.out hBk.size) (by omega) hon, by omega⟩
          · simp only [if_neg e]
            obtain ⟨o2, o3⟩ := HIn.out i (by omega)
            exact ⟨own_other (own_below o2 B0) (by omega) hon, o3⟩
        · by_cases e : j = k
          · subst e
            have : ¬ i = j := by omega
            simp only [if_true, if_neg this]
            exact own_lt (HIn.out i hij).1
          · have h1 : ¬ i = k := by omega
            simp only [if_neg e, if_neg h1]
            exact HUp.out i j hij (by omega)
      case measure => simp [intOf]; omega
    · have hkn : k = K := by omega
      subst hkn
      have hO : OwnRR wr w.heap.size w.heap.size gs k N X := ⟨by
        rw [rowS_congr (Y := fun i => if i < k then .slice (some ⟨gs i, 0, none⟩) (N i) (N i) else .slice none 0 0) (fun i hi => by rw [if_pos hi])]
        exact hownk, fun i hi => (hin i hi).1, hup, fun i hi => (hin i hi).2⟩
      clear hown hB hownk hin hup
      go_wp2
      go_ret
      exact ⟨_, gs, rfl, hO, hBk⟩
set_option maxRecDepth 100000 in
set_option maxHeartbeats 1600000 in
theorem eqFF_any (xa ya : Option Addr) (K cx cy : Nat) (N : Nat → Nat) (X : Nat → Nat → Nat) (w : World) (hX : RdR w xa K N X) (hY : RdR w ya K N X) (h : K + totN N K ≤ 1048576) :
    Calls Try.prog 20 #[.slice xa K cx, .slice ya K cy] w fun e w' => e = .returned (.bool true) ∧ ∃ m, w' = w.drewN m := by
  obtain ⟨xb, xo, hxa, hcx⟩ := hX
  obtain ⟨yb, yo, hya, hcy⟩ := hY
  have HX := Lib.hid hcx
  have HY := Lib.hid hcy
  clear hcx hcy
  have hnn : ((K : Int) != (K : Int)) = false := by simp
  go_enter Try.func20, Try.ntmps20
  go_wp2
  go_loopw [5] (fun i wr => ∃ k m : Nat, k ≤ K ∧ i = .int .i64 k ∧ wr = w.drewN m) (fun i _ => K - (intOf i).toNat)
  case atStart => exact ⟨0, 0, Nat.zero_le _, rfl, rfl⟩
  case round =>
    obtain ⟨k, m, hk, rfl, rfl⟩ := hrel
    by_cases hlt : k < K
    · have e := hxa (by omega)
      subst e
      have e := hya (by omega)
      subst e
      obtain ⟨a, c, h1, _, ra⟩ := HX.out k hlt
      obtain ⟨b, d, h2, _, rb⟩ := HY.out k hlt
      have hNk := totN_le (N := N) K k hlt
      have hi0 : (k : Int) < (K : Int) := by omega
      obtain ⟨wz, hwz⟩ : ∃ wz, wz = w.drewN m := ⟨_, rfl⟩
      have h1' : wz.cell? ⟨xb, xo + k, none⟩ = some (.slice a (N k) c) := by rw [hwz]; exact h1
      have h2' : wz.cell? ⟨yb, yo + k, none⟩ = some (.slice b (N k) d) := by rw [hwz]; exact h2
      have HE := Lib.hid (show Calls Try.prog 19 #[.slice a (N k) c, .slice b (N k) d] (wz.drewN 1) fun e w' => e = .returned (.bool true) ∧ ∃ m, w' = (wz.drewN 1).drewN m from eqF_any _ _ _ _ _ (X k) (X k) _ (by rw [hwz]; exact ra) (by rw [hwz]; exact rb) (by omega) (fun _ _ => rfl))
      have HWZ := Lib.hid hwz
      rw [← hwz]
      clear ra rb h1 h2 hwz
      go_wp2_with fail
      go_still_tail 8, (by kernel_rfl)
      change wpList _ _ _ _ _ wz.drew
      have hEw : wz.drew = wz.drewN 1 := rfl
      rw [hEw]
      clear hEw
      go_wp2_with (go_at_call 19; refine HE.out.mono ?_; rintro e w2 ⟨rfl, q, rfl⟩)
      go_roundw
      case rel => exact ⟨k + 1, m + (1 + q), by omega, by go_num, by rw [HWZ.out, World.drewN_drewN]⟩
      case measure => simp [intOf]; omega
    · have hkn : k = K := by omega
      subst hkn
      go_wp2
      go_ret
      exact ⟨rfl, m, rfl⟩
/-- Nothing has changed below block A, nor from block B on. -/
def Btw (A B : Nat) (w w' : World) : Prop := w'.os = w.os ∧ w'.tape = w.tape ∧ w'.output = w.output ∧ w.heap.size ≤ w'.heap.size ∧ ∀ k, k < w.heap.size → (k < A ∨ B ≤ k) → w'.heap[k]? = w.heap[k]?
theorem Btw.refl (A B : Nat) (w : World) : Btw A B w w := ⟨rfl, rfl, rfl, Nat.le_refl _, fun _ _ _ => rfl⟩
theorem Btw.only {A B g : Nat} {w w' w'' : World} (h : Btw A B w w') (h1 : A ≤ g) (h2 : g < B) (o : Only g w' w'') : Btw A B w w'' := by
  obtain ⟨a1, a2, a3, a4, a5⟩ := h
  obtain ⟨o1, o2, o3, o4, o5⟩ := o
  exact ⟨o1.trans a1, o2.trans a2, o3.trans a3, Nat.le_trans a4 o4, fun k hk hc => (o5 k (Nat.lt_of_lt_of_le hk a4) (by omega)).trans (a5 k hk hc)⟩
theorem Blw.btw {W w w' : World} {A B : Nat} (h : Blw W w) (hA : W.heap.size ≤ A) (b : Btw A B w w') : Blw W w' := by
  obtain ⟨h1, h2, h3, h4, h5⟩ := h
  obtain ⟨b1, b2, b3, b4, b5⟩ := b
  exact ⟨b1.trans h1, b2.trans h2, b3.trans h3, Nat.le_trans h4 b4, fun k hk => (b5 k (Nat.lt_of_lt_of_le hk h4) (.inl (by omega))).trans (h5 k hk)⟩
theorem own_btw {w w' : World} {B' e A B : Nat} {v : Value} {n : Nat} {xs : List Value} (h : w.ownsRow B' e 1 v n xs) (hB : B ≤ B') (b : Btw A B w w') : w'.ownsRow B' e 1 v n xs := by
  refine ⟨h.1, ?_⟩
  rcases h.2 with h2 | ⟨g, cap, cur, h1, h2, h3, h4⟩
  · exact .inl h2
  · refine .inr ⟨g, cap, cur, h1, h2, ?_, h4⟩
    have hg : g < w.heap.size := (Array.getElem?_eq_some_iff.1 h3).1
    rw [b.2.2.2.2 g hg (.inr (by omega))]
    exact h3
theorem own_btw_lo {w w' : World} {B' e g n cap A B : Nat} {xs : List Value} (h : w.ownsRow B' e 1 (.slice (some ⟨g, 0, none⟩) n cap) n xs) (hg : g < A) (b : Btw A B w w') : w'.ownsRow B' e 1 (.slice (some ⟨g, 0, none⟩) n cap) n xs := by
  refine ⟨h.1, ?_⟩
  rcases h.2 with ⟨h2, _⟩ | ⟨b', c, cur, h1, h2, h3, h4⟩
  · cases h2
  · have hb : b' < w.heap.size := (Array.getElem?_eq_some_iff.1 h3).1
    have hbg : b' = g := by simp only [Value.slice.injEq, Option.some.injEq, Addr.mk.injEq] at h1; exact h1.1.1.symm
    refine .inr ⟨b', c, cur, h1, h2, ?_, h4⟩
    rw [b.2.2.2.2 b' hb (.inl (by omega))]
    exact h3
set_option maxRecDepth 100000 in
set_option maxHeartbeats 1600000 in
theorem markFF_any (A G : Nat) (gs : Nat → Nat) (K : Nat) (N : Nat → Nat) (X : Nat → Nat → Nat) (k0 : Int) (w : World) (hO : OwnRR w A G gs K N X) (h : K + totN N K ≤ 1048576) (hk0 : 0 ≤ k0) (hk1 : k0 ≤ 50000000) :
    Calls Try.prog 21 #[.slice (some ⟨G, 0, none⟩) K K, .int .i64 k0] w fun e w' => e = .returned (.int .i64 (k0 + (totN N K : Int))) ∧ ∀ B, (∀ i, i < K → gs i < B) → Btw (G + 1) B w w' := by
  have HO := Lib.hid hO
  clear hO
  go_enter Try.func21, Try.ntmps21
  go_wp2
  go_loopw [1, 5] (fun q i wr => ∃ k : Nat, k ≤ K ∧ i = .int .i64 k ∧ q = .int .i64 (k0 + (totN N k : Int)) ∧ (∀ j, k ≤ j → j < K → wr.ownsRow A 43 1 (.slice (some ⟨gs j, 0, none⟩) (N j) (N j)) (N j) (rowOf (X j) (N j))) ∧
    wr.ownsRow A 24 1 (.slice (some ⟨G, 0, none⟩) K K) K (rowS (fun i => .slice (some ⟨gs i, 0, none⟩) (N i) (N i)) K) ∧ ∀ B, (∀ i, i < K → gs i < B) → Btw (G + 1) B w wr) (fun _ i _ => K - (intOf i).toNat)
  case atStart => exact ⟨0, Nat.zero_le _, rfl, by rw [show totN N 0 = 0 from rfl]; simp, fun j _ hj => HO.out.inner j hj, HO.out.outer, fun _ _ => Btw.refl _ _ _⟩
  case round =>
    obtain ⟨k, hk, rfl, rfl, hin, hout, hbt⟩ := hrel
    by_cases hlt : k < K
    · have hNk := totN_le (N := N) K k hlt
      have c1 : wr.cell? ⟨G, k, none⟩ = some (.slice (some ⟨gs k, 0, none⟩) (N k) (N k)) := by
        rw [hout.cellAt k (by omega), rowS_get _ _ _ hlt]
      have hGk := HO.out.low k hlt
      have hm := markX_any A (gs k) (N k) (N k) (X k) (k0 + (totN N k : Int)) wr (hin k (Nat.le_refl _) hlt) (by omega) (by omega) (by omega)
      have HM := Lib.hid hm
      have HI := Lib.hid hin
      have HOu := Lib.hid hout
      have HS := Lib.hid (show k0 + (totN N k : Int) + (N k : Int) = k0 + (totN N (k + 1) : Int) by rw [show totN N (k + 1) = totN N k + N k from rfl]; omega)
      clear hm hin hout
      go_wp2_with fail
      refine HM.out.mono ?_
      rintro e0 w2 ⟨rfl, o⟩
      rw [HS.out]
      have hb2 := Lib.hid (show ∀ B, (∀ i, i < K → gs i < B) → Btw (G + 1) B w w2 from fun B hB => (hbt B hB).only (by omega) (hB k hlt) o)
      clear hbt
      go_wp2
      go_roundw
      case rel =>
        refine ⟨k + 1, by omega, by go_num, by first | rfl | trivial, fun j hj hjK => ?_, own_other HOu.out (by omega) o, hb2.out⟩
        have := HO.out.up k j (by omega) hjK
        exact own_other (HI.out j (by omega) hjK) (by omega) o
      case measure => simp [intOf]; omega
    · have hkn : k = K := by omega
      subst hkn
      go_wp2
      go_ret
      exact ⟨rfl, hbt⟩
theorem OwnRR.btw {w w' : World} {A B B' G : Nat} {gs : Nat → Nat} {K : Nat} {N : Nat → Nat} {X : Nat → Nat → Nat} (h : OwnRR w B' G gs K N X) (hB : B ≤ B') (b : Btw A B w w') : OwnRR w' B' G gs K N X :=
  ⟨own_btw h.outer hB b, fun i hi => own_btw (h.inner i hi) hB b, h.up, h.low⟩
theorem OwnRR.only {w w' : World} {B' G g : Nat} {gs : Nat → Nat} {K : Nat} {N : Nat → Nat} {X : Nat → Nat → Nat} (h : OwnRR w B' G gs K N X) (hg : g < B') (o : Only g w w') : OwnRR w' B' G gs K N X :=
  ⟨own_only h.outer hg o, fun i hi => own_only (h.inner i hi) hg o, h.up, h.low⟩
theorem OwnRR.ge {w : World} {B G : Nat} {gs : Nat → Nat} {K : Nat} {N : Nat → Nat} {X : Nat → Nat → Nat} (h : OwnRR w B G gs K N X) : B ≤ G + 1 := Nat.le_succ_of_le (own_ge h.outer)
end Go.Proofs.Ytbblohjldkpcnab
