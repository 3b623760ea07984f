
/- Lists of edges in memory: 'RdE w xa n X'; an argument that is such a list, opened; the laws' own copying and comparing of them. -/
import Derived.Test.YtogmcinaoemnpabLnC
namespace Go.Proofs.Ytogmcinaoemnpab
open Go Go.ChangeShapes Go.WideShapes Go.ChangeAt Go.RowKit

structure Ed where
  a : Int
  b : Int
  p : Nat
instance : Inhabited Ed := ⟨⟨0, 0, 0⟩⟩
def Ed.wf (l : Ed) : Prop := (Lit.int .i64 l.a).wf = true ∧ (Lit.int .i64 l.b).wf = true ∧ l.p < 4294967296
def EdAt (w : World) (g o : Nat) (l : Ed) : Prop := w.cell? ⟨g, o, none⟩ = some (.int .i64 l.a) ∧ w.cell? ⟨g, o + 1, none⟩ = some (.int .i64 l.b) ∧ w.cell? ⟨g, o + 2, none⟩ = some (.float .f32 l.p)
theorem EdAt.below {w w' : World} {g o : Nat} {l : Ed} (h : EdAt w g o l) (hb : Below w.heap.size w w') : EdAt w' g o l :=
  ⟨(hb.cell (p := ⟨g, o, none⟩) (World.block_lt_of_cell? w _ h.1)).trans h.1, (hb.cell (p := ⟨g, o + 1, none⟩) (World.block_lt_of_cell? w _ h.2.1)).trans h.2.1, (hb.cell (p := ⟨g, o + 2, none⟩) (World.block_lt_of_cell? w _ h.2.2)).trans h.2.2⟩
def RdE (w : World) (xa : Option Addr) (n : Nat) (X : Nat → Ed) : Prop := ∃ xb xo, (0 < n → xa = some ⟨xb, xo, none⟩) ∧ ∀ i, i < n → EdAt w xb (xo + i * 3) (X i)
theorem RdE.drew {w : World} {xa : Option Addr} {n : Nat} {X : Nat → Ed} (h : RdE w xa n X) (k : Nat) : RdE (w.drewN k) xa n X := h
theorem RdE.below {w w' : World} {xa : Option Addr} {n : Nat} {X : Nat → Ed} (h : RdE w xa n X) (hb : Below w.heap.size w w') : RdE w' xa n X := by
  obtain ⟨xb, xo, h1, h2⟩ := h
  exact ⟨xb, xo, h1, fun i hi => (h2 i hi).below hb⟩
theorem RdE.nil (w : World) (xa : Option Addr) (X : Nat → Ed) : RdE w xa 0 X := ⟨0, 0, fun h => absurd h (Nat.lt_irrefl _), fun _ h => absurd h (Nat.not_lt_zero _)⟩
def edCells (l : Ed) : List Value := [.int .i64 l.a, .int .i64 l.b, .float .f32 l.p]
/-- The cells of edges. -/
def rowE (X : Nat → Ed) : Nat → List Value
  | 0 => []
  | n + 1 => rowE X n ++ edCells (X n)
theorem rowE_length (X : Nat → Ed) (n : Nat) : (rowE X n).length = n * 3 := by
  induction n with
  | zero => rfl
  | succ n ih => simp [rowE, ih, edCells]; omega
theorem rowE_congr {X Y : Nat → Ed} {n : Nat} (h : ∀ i, i < n → X i = Y i) : rowE X n = rowE Y n := by
  induction n with
  | zero => rfl
  | succ n ih => rw [rowE, rowE, ih (fun i hi => h i (by omega)), h n (by omega)]
theorem rowE_get (X : Nat → Ed) (n i j : Nat) (hi : i < n) (hj : j < 3) : (rowE X n)[i * 3 + j]? = (edCells (X i))[j]? := by
  induction n with
  | zero => omega
  | succ n ih =>
    rw [rowE]
    by_cases h : i < n
    · rw [List.getElem?_append_left (by rw [rowE_length]; omega), ih h]
    · obtain rfl : i = n := by omega
      rw [List.getElem?_append_right (by rw [rowE_length]; omega), rowE_length]
      congr 1
      omega
/-- What is owned reads. -/
theorem rdE_of_own {w : World} {B e : Nat} {v : Value} {n : Nat} {X : Nat → Ed} (h : w.ownsRow B e 3 v n (rowE X n)) :
    ∃ xa cap, v = .slice xa n cap ∧ n ≤ cap ∧ cap ≤ maxLen ∧ RdE w xa n X := by
  have h0 := h
  rcases h.2 with ⟨rfl, rfl⟩ | ⟨g, cap, cur, rfl, hB, hg, hn, hc, hs, ht⟩
  · exact ⟨none, 0, rfl, Nat.le_refl _, Nat.zero_le _, RdE.nil _ _ _⟩
  · refine ⟨_, cap, rfl, hn, hc, g, 0, fun _ => rfl, fun i hi => ?_⟩
    rw [Nat.zero_add]
    have c0 := rowE_get X n i 0 hi (by omega)
    rw [Nat.add_zero] at c0
    refine ⟨?_, ?_, ?_⟩
    · rw [h0.cellAt (i * 3) (by omega), c0]; rfl
    · rw [h0.cellAt (i * 3 + 1) (by omega), rowE_get X n i 1 hi (by omega)]; rfl
    · rw [h0.cellAt (i * 3 + 2) (by omega), rowE_get X n i 2 hi (by omega)]; rfl
theorem rdE_own {w : World} {B e n cap : Nat} {xa : Option Addr} {X : Nat → Ed} (h : w.ownsRow B e 3 (.slice xa n cap) n (rowE X n)) : RdE w xa n X := by
  obtain ⟨xa', cap', hv, _, _, hr⟩ := rdE_of_own h
  cases hv
  exact hr
section
variable {H : Type} {enc : TypeId × Value → H} {w : World} {base : Nat} {spare : Nat → Bool} {held : Bool}
theorem add_plain' {w : World} {a : Addr} (n : Nat) (v : Value) (h0 : w.cell? (a.add n) = some v) : w.cell? ⟨a.block, a.off + n, none⟩ = some v := by
  have hs := World.cell?_spot h0
  unfold Addr.add at hs h0
  by_cases hn : n = 0
  · subst hn
    simp only [if_true] at hs h0
    cases a
    simp only at hs
    subst hs
    exact h0
  · simp only [hn, if_false] at h0
    exact h0
set_option maxRecDepth 100000 in
/-- An argument that is a list of edges. -/
theorem open_eds {xa : Option Addr} {len cap : Nat} {d : DataW H} {ps : List MemPlace}
    (h : DataW.Trod enc Try.prog w base spare held 42 (.slice xa len cap) d ps) : len ≤ cap ∧ cap ≤ maxLen ∧ ∃ X, RdE w xa len X ∧ ∀ i, i < len → (X i).wf := by
  obtain ⟨fuel, hf⟩ := h
  have hf' : DataW.trod enc Try.prog w base spare held fuel 42 [.slice xa len cap] = some (d, ps) := hf
  have hC : Try.prog.cellsOf 82 = 3 := by kernel_rfl
  rcases Deep.open_slice Try.underlying42 hf' with ⟨h1, _⟩ | ⟨a, len', cap', m, n, D, Pl, hcs, _, hl, hm, hmm, _, hx⟩
  · simp only [List.cons.injEq, Value.slice.injEq, and_true] at h1
    obtain ⟨rfl, rfl, rfl⟩ := h1
    exact ⟨Nat.le_refl _, Nat.zero_le _, fun _ => ⟨0, 0, 0⟩, RdE.nil _ _ _, fun i hi => absurd hi (Nat.not_lt_zero _)⟩
  · simp only [List.cons.injEq, Value.slice.injEq, and_true] at hcs
    obtain ⟨rfl, rfl, rfl⟩ := hcs
    have hlm : len ≤ m := by rw [hmm]; split <;> omega
    have one : ∀ i, i < len → ∃ l : Ed, l.wf ∧ w.cell? (a.add (i * 3 + 0)) = some (.int .i64 l.a) ∧ w.cell? (a.add (i * 3 + 1)) = some (.int .i64 l.b) ∧ w.cell? (a.add (i * 3 + 2)) = some (.float .f32 l.p) := fun i hi => by
      obtain ⟨cs', hc, ht'⟩ := hx i (by omega)
      rw [hC] at hc
      obtain ⟨_, hcl, hat⟩ := World.cells?_some hc
      obtain ⟨xs, k, _, _, _, hlen, hg⟩ := DataW.trod_struct Try.underlying82 ht'
      match cs', hcl with
      | [c0, c1, c2], _ =>
        match xs, hlen with
        | [y0, y1, y2], _ =>
          have cF : Try.prog.cellsOf 36 = 1 := by kernel_rfl
          have cI : Try.prog.cellsOf 2 = 1 := by kernel_rfl
          have t0 := hg 0 _ rfl
          have t1 := hg 1 _ rfl
          have t2 := hg 2 _ rfl
          simp [cF, cI] at t0 t1 t2
          obtain ⟨x0, rfl, w0⟩ := trod_i64 Try.underlying2 t0
          obtain ⟨x1, rfl, w1⟩ := trod_i64 Try.underlying2 t1
          obtain ⟨x2, rfl, w2⟩ := trod_float Try.underlying36 t2
          have e0 := hat 0 (by omega)
          have e1 := hat 1 (by omega)
          have e2 := hat 2 (by omega)
          rw [Deep.add_add] at e0 e1 e2
          exact ⟨⟨x0, x1, x2⟩, ⟨w0, w1, f32_lt w2⟩, e0, e1, e2⟩
    obtain ⟨X, hX⟩ := Deep.choose_lt (α := Ed) (n := len) (p := fun i l => l.wf ∧ w.cell? (a.add (i * 3 + 0)) = some (.int .i64 l.a) ∧ w.cell? (a.add (i * 3 + 1)) = some (.int .i64 l.b) ∧ w.cell? (a.add (i * 3 + 2)) = some (.float .f32 l.p)) one
    refine ⟨hl, hm, X, ⟨a.block, a.off, fun hp => ?_, fun i hi => ?_⟩, fun i hi => (hX i hi).1⟩
    · have h1 : a.spot = none := World.cell?_spot (hX 0 (by omega)).2.1
      cases a
      simp only at h1
      rw [h1]
    · obtain ⟨_, h0, h1, h2⟩ := hX i hi
      have g0 := add_plain' _ _ h0
      have g1 := add_plain' _ _ h1
      have g2 := add_plain' _ _ h2
      rw [Nat.add_zero] at g0
      rw [← Nat.add_assoc] at g1 g2
      exact ⟨g0, g1, g2⟩
end
theorem infoE : (Try.prog.info? 80).map (fun i => (i.zero, i.size, i.bytes)) = some (some (.agg #[.int .i64 0, .int .i64 0, .float .f32 0]), 3, 24) := by kernel_rfl
theorem rowE_set (X : Nat → Ed) (n k : Nat) (l : Ed) (hk : k < n) :
    (((rowE X n).set (k * 3) (.int .i64 l.a)).set (k * 3 + 1) (.int .i64 l.b)).set (k * 3 + 2) (.float .f32 l.p) = rowE (fun j => if j = k then l else X j) n := by
  apply List.ext_getElem?
  intro i
  by_cases hi : i < n * 3
  · obtain ⟨q, r, rfl, hr⟩ : ∃ q r, i = q * 3 + r ∧ r < 3 := ⟨i / 3, i % 3, by omega, by omega⟩
    have hq : q < n := by omega
    rw [rowE_get _ _ _ _ hq hr]
    have hlen := rowE_length X n
    simp only [List.getElem?_set, List.length_set, hlen]
    by_cases hqk : q = k
    · subst hqk
      rw [if_pos rfl]
      rcases (by omega : r = 0 ∨ r = 1 ∨ r = 2) with rfl | rfl | rfl
      · rw [if_neg (by omega), if_neg (by omega), if_pos (by omega), if_pos (by omega)]; rfl
      · rw [if_neg (by omega), if_pos (by omega), if_pos (by omega)]; rfl
      · rw [if_pos (by omega), if_pos (by omega)]; rfl
    · rw [if_neg (by omega), if_neg (by omega), if_neg (by omega), rowE_get X n q r hq hr, if_neg hqk]
  · rw [List.getElem?_eq_none (by simp [rowE_length]; omega), List.getElem?_eq_none (by simp [rowE_length]; omega)]
theorem ownE_stored {w : World} {B e g n cap : Nat} {X : Nat → Ed} (h : w.ownsRow B e 3 (.slice (some ⟨g, 0, none⟩) n cap) n (rowE X n)) (k : Nat) (l : Ed) (hk : k < n) :
    (((w.setCell ⟨g, k * 3, none⟩ (.int .i64 l.a)).setCell ⟨g, k * 3 + 1, none⟩ (.int .i64 l.b)).setCell ⟨g, k * 3 + 2, none⟩ (.float .f32 l.p)).ownsRow B e 3 (.slice (some ⟨g, 0, none⟩) n cap) n (rowE (fun j => if j = k then l else X j) n) := by
  have h1 := (h.stored (k * 3) (.int .i64 l.a)).1
  have h2 := (h1.stored (k * 3 + 1) (.int .i64 l.b)).1
  have h3 := (h2.stored (k * 3 + 2) (.float .f32 l.p)).1
  rw [rowE_set X n k l hk] at h3
  exact h3
theorem ownE_cells {w : World} {B e g n cap k : Nat} {X : Nat → Ed} (h : w.ownsRow B e 3 (.slice (some ⟨g, 0, none⟩) n cap) n (rowE X n)) (hk : k < n) : EdAt w g (k * 3) (X k) := by
  obtain ⟨xa, cap', hv, _, _, b, o, h1, h2⟩ := rdE_of_own h
  cases hv
  have e := h1 (by omega)
  cases e
  have := h2 k hk
  rw [Nat.zero_add] at this
  exact this
def zed : Ed := ⟨0, 0, 0⟩
theorem madeE (n : Nat) : (madeCells #[Value.int .i64 0, Value.int .i64 0, Value.float .f32 0] (n * 3)).toList = rowE (fun _ => zed) n := by
  apply List.ext_getElem?
  intro i
  have hL : ∀ (f : Nat → Value) (m : Nat), ((Array.range m).map f).toList = (List.range m).map f := fun f m => by simp
  unfold madeCells
  rw [hL, List.getElem?_map]
  by_cases hi : i < n * 3
  · rw [List.getElem?_range hi]
    obtain ⟨q, r, rfl, hr⟩ : ∃ q r, i = q * 3 + r ∧ r < 3 := ⟨i / 3, i % 3, by omega, by omega⟩
    rw [rowE_get _ _ _ _ (by omega) hr]
    have hm : (q * 3 + r) % 3 = r := by omega
    show some (#[Value.int .i64 0, Value.int .i64 0, Value.float .f32 0][(q * 3 + r) % 3]!) = _
    rw [hm]
    rcases (by omega : r = 0 ∨ r = 1 ∨ r = 2) with rfl | rfl | rfl <;> rfl
  · rw [List.getElem?_eq_none (by simp; omega), List.getElem?_eq_none (by rw [rowE_length]; omega)]
    rfl
def EdgRet (l : Ed) (w : World) (e : Ending) (w' : World) : Prop := e = .returned (.agg #[.int .i64 l.a, .int .i64 l.b, .float .f32 l.p]) ∧ Below w.heap.size w w'
set_option maxRecDepth 100000 in
set_option maxHeartbeats 800000 in
theorem toEdge_any (l : Ed) (w : World) : Calls Try.prog 57 #[.agg #[.int .i64 l.a, .int .i64 l.b, .float .f32 l.p]] w (EdgRet l w) := by
  have hst := run_store_f32
  have hst2 := run_store_i64
  go_enter Try.func57, Try.ntmps57
  go_wp2
  exact bodyPost_ret (v := .agg #[.int .i64 l.a, .int .i64 l.b, .float .f32 l.p]) (by simp [results, Try.results57, go_sem]) rfl ⟨rfl, by repeat (first | with_reducible exact Below.refl _ _ | with_reducible refine Below.setCell ?_ (by simp; try omega) _ | with_reducible refine Below.alloc ?_ (by simp; try omega) _)⟩
/-- A copy that is a list of the call's own. -/
def CopiedE (w : World) (n : Nat) (X : Nat → Ed) (e : Ending) (w' : World) : Prop :=
  e = .returned (.slice (some ⟨w.heap.size, 0, none⟩) n n) ∧ w'.ownsRow w.heap.size 80 3 (.slice (some ⟨w.heap.size, 0, none⟩) n n) n (rowE X n) ∧ Below w.heap.size w w'
set_option maxRecDepth 100000 in
set_option maxHeartbeats 3200000 in
theorem toE_any (xa : Option Addr) (n cap : Nat) (X : Nat → Ed) (w : World) (hX : RdE w xa n X) (hn : n ≤ 1048576) :
    Calls Try.prog 28 #[.slice xa n cap] w (CopiedE w n X) := by
  obtain ⟨i0, hi, hz0, hz1, hz2⟩ := info_parts infoE
  obtain ⟨xb, xo, hxa, hcell⟩ := hX
  have HC := Lib.hid hcell
  clear hcell
  have hb : i0.bytes * n ≤ 281474976710656 := by rw [hz2]; omega
  have hm : n ≤ maxLen := by unfold maxLen; omega
  go_enter Try.func28, Try.ntmps28
  go_wp2_with (at_make; refine wpList_make_full _ rfl _ _ 46 rfl w.heap.size 80 i0 (.agg #[.int .i64 0, .int .i64 0, .float .f32 0]) 3 Try.underlying46 hi hz0 hz1 _ _ _ _ n rfl rfl rfl rfl hb hm (Nat.le_refl _) ?_)
  intro w1 hown hgr
  rw [madeE] at hown
  have hB : Below w.heap.size w w1 := (Below.refl _ w).grown hgr (Nat.le_refl _) (fun _ h => by cases h)
  clear hgr hb hm hi hz0 hz1 hz2
  go_wp2
  go_loopw [4] (fun i wr => ∃ k : Nat, k ≤ n ∧ i = .int .i64 k ∧ wr.ownsRow w.heap.size 80 3 (.slice (some ⟨w.heap.size, 0, none⟩) n n) n (rowE (fun j => if j < k then X j else zed) n) ∧ Below w.heap.size w wr) (fun i _ => n - (intOf i).toNat)
  case atStart => exact ⟨0, Nat.zero_le _, rfl, by simpa using hown, hB⟩
  case round =>
    obtain ⟨k, hk, rfl, hownk, hBk⟩ := hrel
    clear hown hB
    by_cases hlt : k < n
    · have e := hxa (by omega)
      subst e
      obtain ⟨r0, r1, r2⟩ := EdAt.below (HC.out k hlt) hBk
      have hsz := hBk.size
      go_wp2_with (go_at_call 57; refine (toEdge_any (X k) _).mono ?_; rintro e w2 ⟨rfl, B0⟩; have O2 := ownS_below hownk B0; have B2 := hBk.trans (B0.mono hsz); obtain ⟨c0, c1, c2⟩ := ownE_cells O2 hlt; have f0 := O2.frozenAt (k * 3); have f1 := O2.frozenAt (k * 3 + 1); have f2 := O2.frozenAt (k * 3 + 2); have hst := run_store_f32; have hst2 := run_store_i64; have HO := Lib.hid O2; clear O2 hownk r0 r1 r2)
      go_roundw
      case rel =>
        refine ⟨k + 1, by omega, by go_num, ?_, ?_⟩
        · have h5 := ownE_stored HO.out k (X k) hlt
          rw [rowE_congr (Y := fun j => if j < k + 1 then X j else zed) (fun j _ => by
            by_cases hj : j = k
            · subst hj; simp
            · rw [if_neg hj]; by_cases hj2 : j < k
              · rw [if_pos hj2, if_pos (by omega)]
              · rw [if_neg hj2, if_neg (by omega)])] at h5
          exact h5
        · exact ((B2.setCell (Nat.le_refl _) _).setCell (Nat.le_refl _) _).setCell (Nat.le_refl _) _
      case measure => simp [intOf]; omega
    · have hkn : k = n := by omega
      subst hkn
      have hown' : wr.ownsRow w.heap.size 80 3 (.slice (some ⟨w.heap.size, 0, none⟩) k k) k (rowE X k) := by
        rw [rowE_congr (Y := X) (fun j hj => by rw [if_pos hj])] at hownk
        exact hownk
      clear hownk
      go_wp2
      go_ret
      exact ⟨rfl, hown', hBk⟩
set_option maxRecDepth 100000 in
set_option maxHeartbeats 1600000 in
theorem eqEdge_any (l : Ed) (w : World) : Calls Try.prog 62 #[.agg #[.int .i64 l.a, .int .i64 l.b, .float .f32 l.p], .agg #[.int .i64 l.a, .int .i64 l.b, .float .f32 l.p]] w fun e w' => e = .returned (.bool true) ∧ Below w.heap.size w w' := by
  have hcv : ∀ (x s t : Nat), canon .f64 (pick .f64 (fconv .f32 x .f64) s) = canon .f64 (pick .f64 (fconv .f32 x .f64) t) := fun x s t => by rw [canon_pick, canon_pick]
  have HC := Lib.hid hcv
  clear hcv
  have hne : (l.a != l.a) = false := by simp
  have hne2 : (l.b != l.b) = false := by simp
  go_enter Try.func62, Try.ntmps62
  go_wp2_with (first | ((with_reducible refine wpL_fconv ?_); refine ⟨_, _, _, rfl, Option.isSome_iff_exists.2 ⟨_, Try.underlying36⟩, Try.underlying54, FloatKind.noConfusion, convOk_widen _, fun s n => ?_⟩))
  refine (sameFloat_any _ _ _ (HC.out _ _ _)).mono ?_
  rintro e w' ⟨rfl, q, rfl⟩
  go_wp2
  go_ret
  refine ⟨rfl, ?_⟩
  (repeat (first | with_reducible exact Below.refl _ _ | with_reducible refine Below.drewN ?_ _ | with_reducible refine Below.setCell ?_ (by simp; try omega) _ | with_reducible refine Below.alloc ?_ (by simp; try omega) _))
set_option maxRecDepth 100000 in
set_option maxHeartbeats 1600000 in
theorem eqE_any (xa ya : Option Addr) (n cx cy : Nat) (X : Nat → Ed) (w : World) (hX : RdE w xa n X) (hY : RdE w ya n X) (hn : n ≤ 1048576) :
    Calls Try.prog 30 #[.slice xa n cx, .slice ya n cy] w fun e w' => e = .returned (.bool true) ∧ Below w.heap.size w w' := by
  obtain ⟨xb, xo, hxa, hcx⟩ := hX
  obtain ⟨yb, yo, hya, hcy⟩ := hY
  have HX := Lib.hid hcx
  have HY := Lib.hid hcy
  clear hcx hcy
  have hnn : ((n : Int) != (n : Int)) = false := by simp
  go_enter Try.func30, Try.ntmps30
  go_wp2
  go_loopw [5] (fun i wr => ∃ k : Nat, k ≤ n ∧ i = .int .i64 k ∧ Below w.heap.size w wr) (fun i _ => n - (intOf i).toNat)
  case atStart => exact ⟨0, Nat.zero_le _, rfl, Below.refl _ _⟩
  case round =>
    obtain ⟨k, hk, rfl, hBk⟩ := hrel
    by_cases hlt : k < n
    · have e := hxa (by omega)
      subst e
      have e := hya (by omega)
      subst e
      obtain ⟨r0, r1, r2⟩ := EdAt.below (HX.out k hlt) hBk
      obtain ⟨s0, s1, s2⟩ := EdAt.below (HY.out k hlt) hBk
      have hi0 : (k : Int) < (n : Int) := by omega
      have HE := Lib.hid (fun w => eqEdge_any (X k) w)
      have hsz := hBk.size
      go_wp2_with fail
      go_still_tail 8, (by kernel_rfl)
      change wpList _ _ _ _ _ wr.drew
      go_wp2_with (go_at_call 62; refine (HE.out _).mono ?_; rintro e w2 ⟨rfl, B0⟩; have B2 : Below w.heap.size w w2 := Below.trans (Below.drewN hBk 1) (B0.mono hsz))
      go_roundw
      case rel => exact ⟨k + 1, by omega, by go_num, B2⟩
      case measure => simp [intOf]; omega
    · have hkn : k = n := by omega
      subst hkn
      go_wp2
      go_ret
      exact ⟨rfl, hBk⟩
end Go.Proofs.Ytogmcinaoemnpab
