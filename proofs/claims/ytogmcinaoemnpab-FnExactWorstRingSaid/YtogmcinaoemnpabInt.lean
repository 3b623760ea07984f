
/- Rows of 64-bit integers in memory: read, owned, stored into, put behind; an argument that is a slice of them. -/
import Derived.Test.YtogmcinaoemnpabOwn
import Derived.Deep.RegionWith
import Derived.BigQuiet
import Derived.Laws.Entries
import Derived.ArgAppend
namespace Go.Proofs.Ytogmcinaoemnpab
open Go Go.ChangeShapes Go.WideShapes Go.ChangeAt Go.RowKit

def RdI (w : World) (xa : Option Addr) (n : Nat) (X : Nat → Int) : Prop := ∃ xb xo, (0 < n → xa = some ⟨xb, xo, none⟩) ∧ ∀ i, i < n → w.cell? ⟨xb, xo + i, none⟩ = some (.int .i64 (X i))
def rowI (X : Nat → Int) (n : Nat) : List Value := (List.range n).map fun i => .int .i64 (X i)
theorem rowI_length (X : Nat → Int) (n : Nat) : (rowI X n).length = n := by simp [rowI]
theorem rowI_get (X : Nat → Int) (n i : Nat) (h : i < n) : (rowI X n)[i]? = some (.int .i64 (X i)) := by simp [rowI, h]
theorem rowI_succ (X : Nat → Int) (n : Nat) : rowI X (n + 1) = rowI X n ++ [.int .i64 (X n)] := by simp [rowI, List.range_succ]
theorem rowI_congr {X Y : Nat → Int} {n : Nat} (h : ∀ i, i < n → X i = Y i) : rowI X n = rowI Y n := by
  unfold rowI; exact List.map_congr_left fun i hi => by rw [h i (List.mem_range.1 hi)]
theorem rowI_push (X : Nat → Int) (k : Nat) (u : Int) : rowI X k ++ [.int .i64 u] = rowI (fun j => if j = k then u else X j) (k + 1) := by
  rw [rowI_succ, if_pos rfl]
  congr 1
  exact rowI_congr fun i hi => by rw [if_neg (by omega)]
theorem rowI_set (X : Nat → Int) (n j : Nat) (u : Int) : (rowI X n).set j (.int .i64 u) = rowI (fun i => if i = j then u else X i) n := by
  apply List.ext_getElem?
  intro i
  by_cases hi : i < n
  · rw [rowI_get _ _ _ hi, List.getElem?_set]
    by_cases hj : j = i
    · subst hj; simp [rowI_length, hi]
    · rw [if_neg hj, rowI_get _ _ _ hi, if_neg (fun h => hj h.symm)]
  · rw [List.getElem?_eq_none (by simp [rowI_length]; omega), List.getElem?_eq_none (by simp [rowI_length]; omega)]
theorem RdI.below {w w' : World} {xa : Option Addr} {n : Nat} {X : Nat → Int} (h : RdI w xa n X) (hb : Below w.heap.size w w') : RdI w' xa n X := by
  obtain ⟨xb, xo, h1, h2⟩ := h
  refine ⟨xb, xo, h1, fun i hi => ?_⟩
  rw [hb.cell (p := ⟨xb, xo + i, none⟩) (World.block_lt_of_cell? w _ (h2 i hi))]
  exact h2 i hi
theorem RdI.nil (w : World) (xa : Option Addr) (X : Nat → Int) : RdI w xa 0 X := ⟨0, 0, fun h => absurd h (Nat.lt_irrefl _), fun _ h => absurd h (Nat.not_lt_zero _)⟩
theorem RdI.cell {w : World} {xa : Option Addr} {n : Nat} {X : Nat → Int} (h : RdI w xa n X) {k : Nat} (hk : k < n) : ∃ xb xo, xa = some ⟨xb, xo, none⟩ ∧ w.cell? ⟨xb, xo + k, none⟩ = some (.int .i64 (X k)) := by
  obtain ⟨xb, xo, h1, h2⟩ := h
  exact ⟨xb, xo, h1 (by omega), h2 k hk⟩
/-- What is owned reads. -/
theorem rdI_of_own {w : World} {B e : Nat} {v : Value} {n : Nat} {X : Nat → Int} (h : w.ownsRow B e 1 v n (rowI X n)) : ∃ xa cap, v = .slice xa n cap ∧ n ≤ cap ∧ cap ≤ maxLen ∧ RdI w xa n X := by
  have h0 := h
  rcases h.2 with ⟨rfl, rfl⟩ | ⟨g, cap, cur, rfl, hB, hg, hn, hc, hs, ht⟩
  · exact ⟨none, 0, rfl, Nat.le_refl _, Nat.zero_le _, RdI.nil _ _ _⟩
  · refine ⟨_, cap, rfl, hn, hc, g, 0, fun _ => rfl, fun i hi => ?_⟩
    rw [Nat.zero_add, h0.cellAt i (by omega), rowI_get _ _ _ hi]
theorem rdI_own {w : World} {B e g n cap : Nat} {X : Nat → Int} (h : w.ownsRow B e 1 (.slice (some ⟨g, 0, none⟩) n cap) n (rowI X n)) : RdI w (some ⟨g, 0, none⟩) n X :=
  ⟨g, 0, fun _ => rfl, fun i hi => by rw [Nat.zero_add, h.cellAt i (by omega), rowI_get _ _ _ hi]⟩
theorem rdI_own' {w : World} {B e n cap : Nat} {xa : Option Addr} {X : Nat → Int} (h : w.ownsRow B e 1 (.slice xa n cap) n (rowI X n)) : RdI w xa n X := by
  obtain ⟨xa', cap', hv, _, _, hr⟩ := rdI_of_own h
  cases hv
  exact hr
theorem infoI : (Try.prog.info? 2).map (fun i => (i.zero, i.size, i.bytes)) = some (some (.int .i64 0), 1, 8) := by kernel_rfl
theorem cellsI : Try.prog.cellsOf 2 = 1 := by kernel_rfl
theorem madeI (n : Nat) : (madeCells #[Value.int .i64 0] n).toList = rowI (fun _ => 0) n := by
  rw [toList_madeCells_one]
  apply List.ext_getElem?
  intro i
  by_cases hi : i < n
  · rw [rowI_get _ _ _ hi]; simp [hi]
  · rw [List.getElem?_eq_none (by simp; omega), List.getElem?_eq_none (by simp [rowI_length]; omega)]
theorem store_int (w : World) (a : Addr) (b : Int) {u : Value} (hc : w.cell? a = some u) (hf : w.frozen? a = false) : (store a (.int .i64 b)).run Try.prog w = .ok () (w.setCell a (.int .i64 b)) := by
  have h : (store a (.int .i64 b)).run Try.prog w = stored Try.prog w a (.int .i64 b) .plain := run_store Try.prog w a _ .plain rfl
  rw [h]
  simp [stored, hc, hf]
theorem ownI_cell {w : World} {B e g n cap k : Nat} {X : Nat → Int} (h : w.ownsRow B e 1 (.slice (some ⟨g, 0, none⟩) n cap) n (rowI X n)) (hk : k < n) : w.cell? ⟨g, k, none⟩ = some (.int .i64 (X k)) := by
  rw [h.cellAt k (by omega), rowI_get _ _ _ hk]
theorem ownI_store {w : World} {B e g n cap k : Nat} {X : Nat → Int} (h : w.ownsRow B e 1 (.slice (some ⟨g, 0, none⟩) n cap) n (rowI X n)) (hk : k < n) (u : Int) :
    (store ⟨g, k, none⟩ (.int .i64 u)).run Try.prog w = .ok () (w.setCell ⟨g, k, none⟩ (.int .i64 u)) := store_int w ⟨g, k, none⟩ u (ownI_cell h hk) (h.frozenAt k)
theorem ownI_stored {w : World} {B e g n cap : Nat} {X : Nat → Int} (h : w.ownsRow B e 1 (.slice (some ⟨g, 0, none⟩) n cap) n (rowI X n)) (k : Nat) (u : Int) :
    (w.setCell ⟨g, k, none⟩ (.int .i64 u)).ownsRow B e 1 (.slice (some ⟨g, 0, none⟩) n cap) n (rowI (fun j => if j = k then u else X j) n) := by
  have := (h.stored k (.int .i64 u)).1
  rw [rowI_set] at this
  exact this
section
variable {H : Type} {enc : TypeId × Value → H} {P : Program} {w : World} {base : Nat} {spare : Nat → Bool} {held : Bool}
theorem trod_i64 {n : Nat} {e : TypeId} {v : Value} {x : DataW H × List MemPlace} (he : P.underlying e = some (.int .i64)) (h : DataW.trod enc P w base spare held n e [v] = some x) : ∃ b, v = .int .i64 b ∧ (Lit.int .i64 b).wf = true := by
  cases n with
  | zero => simp [DataW.trod] at h
  | succ n =>
    rw [DataW.trod_step] at h
    unfold DataW.trodStep at h
    simp only [he] at h
    cases v <;> try (simp at h; done)
    rename_i k b
    by_cases hk : k = .i64
    · subst hk
      by_cases hw : (Lit.int .i64 b).wf = true
      · exact ⟨b, rfl, hw⟩
      · simp [hw] at h
    · simp [hk] at h
/-- An argument that is a slice of integers. -/
theorem open_i64s {t e : TypeId} {xa : Option Addr} {len cap : Nat} {d : DataW H} {ps : List MemPlace} (ht : P.underlying t = some (.slice e)) (he : P.underlying e = some (.int .i64)) (hc : P.cellsOf e = 1)
    (h : DataW.Trod enc P w base spare held t (.slice xa len cap) d ps) : len ≤ cap ∧ cap ≤ maxLen ∧ ∃ X, RdI w xa len X ∧ ∀ i, i < len → (Lit.int .i64 (X i)).wf = true := by
  obtain ⟨fuel, hf⟩ := h
  have hf' : DataW.trod enc P w base spare held fuel t [.slice xa len cap] = some (d, ps) := hf
  rcases Deep.open_slice1 ht hc hf' with ⟨h1, _⟩ | ⟨a, len', cap', m, n, V, D, Pl, hcs, _, hl, hm, hmm, _, hx⟩
  · simp only [List.cons.injEq, Value.slice.injEq, and_true] at h1
    obtain ⟨rfl, rfl, rfl⟩ := h1
    exact ⟨Nat.le_refl _, Nat.zero_le _, fun _ => 0, RdI.nil _ _ _, fun i hi => absurd hi (Nat.not_lt_zero _)⟩
  · simp only [List.cons.injEq, Value.slice.injEq, and_true] at hcs
    obtain ⟨rfl, rfl, rfl⟩ := hcs
    have hlm : len ≤ m := by rw [hmm]; split <;> omega
    obtain ⟨X, hX⟩ := Deep.choose_lt (α := Int) (n := len) (p := fun i b => V i = .int .i64 b ∧ (Lit.int .i64 b).wf = true) (fun i hi => trod_i64 he (hx i (by omega)).2)
    refine ⟨hl, hm, X, ⟨a.block, a.off, fun hp => ?_, fun i hi => ?_⟩, fun i hi => (hX i hi).2⟩
    · have h0 := (hx 0 (by omega)).1
      have hs : a.spot = none := by simpa [Addr.add] using World.cell?_spot h0
      cases a
      simp only at hs
      rw [hs]
    · have h0 := (hx i (by omega)).1
      have hs := World.cell?_spot h0
      rw [(hX i hi).1] at h0
      rw [← h0]
      congr 1
      unfold Addr.add at hs ⊢
      by_cases hi0 : i = 0
      · subst hi0
        simp only [if_true] at hs ⊢
        cases a
        simp only at hs
        simp [hs]
      · simp [hi0]
end
/-- An integer put behind a list of the call's own; 'ad': where what is put behind lies. -/
theorem wpL_pushI {B : Nat} {i0 : TypeInfo} (hi : Try.prog.info? 2 = some i0) (hz0 : i0.zero = some (.int .i64 0)) (hz1 : i0.size = 1) (hz2 : i0.bytes = 8)
    {w0 : World} {u : Int} {ad : Nat} {ops : Array Oper} {rest : List Oper} {o : Oper} {a : Act} {Q : Exit → Act → World → Prop} (hgd : o.guard = none) {s x : Operand}
    (ho : o.op = .call { callee := .builtin .append, args := #[s, x], argTypes := #[22, 22] }) {v : Value} {n : Nat} {X : Nat → Int} (hs : a.eval s = v) (hx : a.eval x = .slice (some ⟨ad, 0, none⟩) 1 1)
    (had : ad = w0.heap.size) (hown : w0.ownsRow B 2 1 v n (rowI X n)) (hn : n ≤ 1048576) (hB : B ≤ w0.heap.size)
    (h : ∀ v' w', w'.ownsRow B 2 1 v' (n + 1) (rowI (fun j => if j = n then u else X j) (n + 1)) → Below B w0 w' → wpList Try.prog ops Q rest (a.put o.dst v') w') :
    wpList Try.prog ops Q (o :: rest) a (w0.alloc (.cells #[.int .i64 u] 2)) := by
  subst had
  refine wpList_append_own _ hgd s x 22 ho B 2 i0 (.int .i64 0) 1 8 Try.underlying22 hi hz0 hz1 hz2 rfl (by decide) v n (rowI X n) hs (hown.alloc _) ⟨w0.heap.size, 0, none⟩ 1 1 [.int .i64 u] hx rfl ?_ ?_ (by unfold maxLen; omega) (by omega) ?_ ?_
  · intro j c hj
    match j, hj with
    | 0, hj => simp at hj; subst hj; simp [Addr.add]
  · intro c hc
    simp at hc
    subst hc
    rfl
  · have : (w0.alloc (.cells #[.int .i64 u] 2)).heap.size = w0.heap.size + 1 := by simp
    omega
  · intro v' w' h1 h2 _
    rw [rowI_push] at h1
    refine h v' w' h1 ?_
    refine ((Below.refl B w0).alloc hB _).grown h2 ?_ (fun k hk => (hown.lt k hk).1)
    have : (w0.alloc (.cells #[.int .i64 u] 2)).heap.size = w0.heap.size + 1 := by simp
    omega
/-- An empty list that is not nil. -/
theorem ownI_empty (w : World) (X : Nat → Int) : (w.alloc (.cells #[] 2)).ownsRow w.heap.size 2 1 (.slice (some ⟨w.heap.size, 0, none⟩) 0 0) 0 (rowI X 0) :=
  World.ownsRow_made w #[] 0 (Nat.le_refl _) (Nat.zero_le _) rfl
end Go.Proofs.Ytogmcinaoemnpab
