
/- The curve of a lamp: the sums, the rows that are solved, and what is told of them. -/
import Derived.Test.YtogmcinaoemnpaaMsv
import Derived.Test.YtogmcinaoemnpaaMsv
import Derived.Test.YtogmcinaoemnpaaPrs
namespace Go.Proofs.Ytogmcinaoemnpaa
set_option linter.all false
open Go Go.ChangeShapes Go.WideShapes Go.ChangeAt Go.RowKit

/-- The powers of a place, and the sums behind some places. -/
def lcP (X : Nat → Nat) (i : Nat) : Nat → Nat
  | 0 => 1065353216
  | k + 1 => fbin .mul .f32 (lcP X i k) (X i)
def lcS (X : Nat → Nat) : Nat → Nat → Nat
  | 0, _ => 0
  | i + 1, k => fbin .add .f32 (lcS X i k) (lcP X i k)
def lcT (X Y : Nat → Nat) : Nat → Nat → Nat
  | 0, _ => 0
  | i + 1, k => fbin .add .f32 (lcT X Y i k) (fbin .mul .f32 (lcP X i k) (Y i))
/-- The numbers of the three rows and, as column 3, of their right sides. -/
def lcM (X Y : Nat → Nat) (n : Nat) : Nat → Nat → Nat := fun i j => if j < 3 then lcS X n (i + j) else lcT X Y n i
def lcR (X Y : Nat → Nat) (n : Nat) : Nat → Nat := bkW (runM szF 3 (lcM X Y n) 3).1 3 3
def lcG (X Y : Nat → Nat) (n : Nat) : Bool := (runM szF 3 (lcM X Y n) 3).2 && finL (lcR X Y n) 3
theorem lcM_words (X Y : Nat → Nat) (n : Nat) : Wds (lcM X Y n) := by
  intro i j
  unfold lcM
  split
  · cases n with
    | zero => show (0 : Nat) < _; omega
    | succ n => exact fbin_word _ _ _
  · cases n with
    | zero => show (0 : Nat) < _; omega
    | succ n => exact fbin_word _ _ _
theorem lcG_prog (X Y : Nat → Nat) (n : Nat) :
    ((runP szF 3 (lcM X Y n) 3).2 && finL (bkW (runP szF 3 (lcM X Y n) 3).1 3 3) 3) = lcG X Y n ∧ (lcG X Y n = true → bkW (runP szF 3 (lcM X Y n) 3).1 3 3 = lcR X Y n) :=
  solve_same size_ok (by omega) (lcM X Y n) (lcM_words X Y n)
/-- The sums while the powers of one more place are put to them: up to k they have it. -/
theorem lc_part (F G : Nat → Nat) (k : Nat) : (fun j => if j < k + 1 then G j else F j) = fun j => if j = k then G k else (fun j => if j < k then G j else F j) j := by
  funext j
  by_cases e : j = k
  · rw [if_pos e, if_pos (by omega), e]
  · rw [if_neg e]
    show _ = if j < k then G j else F j
    by_cases h : j < k
    · rw [if_pos h, if_pos (by omega)]
    · rw [if_neg h, if_neg (by omega)]
theorem LikeP.part {X F G : Nat → Nat} {n k u s : Nat} (h : LikeP X (fun j => if j < k then G j else F j) n) (hu : u = pick .f32 (G k) s) : LikeP (fun j => if j = k then u else X j) (fun j => if j < k + 1 then G j else F j) n := by
  rw [lc_part]
  exact h.set hu
theorem LikeP.old {X F G : Nat → Nat} {n k : Nat} (h : LikeP X (fun j => if j < k then G j else F j) n) (hk : k < n) : ∃ s, X k = pick .f32 (F k) s := by
  obtain ⟨s, e⟩ := h k hk
  exact ⟨s, by rw [e]; show pick .f32 (if k < k then G k else F k) s = _; rw [if_neg (Nat.lt_irrefl k)]⟩
theorem LikeP.over {X F G : Nat → Nat} {n k : Nat} (h : LikeP X (fun j => if j < k then G j else F j) n) (hk : n ≤ k) : LikeP X (fun j => if j < k + 1 then G j else F j) n := h.congr fun j hj => by
  rw [if_pos (by omega), if_pos (by omega)]
theorem LikeP.full {X F G : Nat → Nat} {n k : Nat} (h : LikeP X (fun j => if j < k then G j else F j) n) (hk : n ≤ k) : LikeP X G n := h.congr fun j hj => by
  rw [if_pos (by omega)]
/-- A new block that holds a row. -/
theorem own_arr (w : World) (cur : Array Value) (e n : Nat) (X : Nat → Nat) (hx : cur.toList = rowOf X n) (hn : n ≤ 1048576) : (w.alloc (.cells cur e)).ownsRow w.heap.size e 1 (.slice (some ⟨w.heap.size, 0, none⟩) n n) n (rowOf X n) := by
  have hs : cur.size = n := by rw [← Array.length_toList, hx, rowOf_length]
  refine ⟨by rw [rowOf_length, Nat.mul_one], .inr ⟨w.heap.size, n, cur, rfl, Nat.le_refl _, heap_alloc_new w _, Nat.le_refl _, by unfold maxLen; omega, by omega, ?_⟩⟩
  rw [hx, Nat.mul_one]
  exact List.take_of_length_le (by rw [rowOf_length]; omega)
/-- Three rows, of which the first k are laid. -/
structure Rows3 (w : World) (B xb k : Nat) (R C : Nat → Nat) (V : Nat → Nat → Nat) : Prop where
  outer : w.ownsRow B 22 1 (.slice (some ⟨xb, 0, none⟩) 3 3) 3 ((List.range 3).map fun i => if i < k then Value.slice (some ⟨R i, 0, none⟩) 4 (C i) else .slice none 0 0)
  inner : ∀ i, i < k → w.ownsRow B 32 1 (.slice (some ⟨R i, 0, none⟩) 4 (C i)) 4 (rowOf (V i) 4)
  one : ∀ i i', i < k → i' < k → R i = R i' → i = i'
theorem Rows3.lay {w w' : World} {B xb k g c : Nat} {R C : Nat → Nat} {V : Nat → Nat → Nat} {X : Nat → Nat} (h : Rows3 w B xb k R C V) (hk : k < 3) (hb : Below w.heap.size w w') (hg : w'.ownsRow B 32 1 (.slice (some ⟨g, 0, none⟩) 4 c) 4 (rowOf X 4)) (hge : w.heap.size ≤ g) :
    Rows3 (w'.setCell ⟨xb, k, none⟩ (.slice (some ⟨g, 0, none⟩) 4 c)) B xb (k + 1) (fun i => if i = k then g else R i) (fun i => if i = k then c else C i) (fun i => if i = k then X else V i) := by
  have ho := own_below h.outer hb
  have hx := own_lt h.outer
  have hO : Only xb w' (w'.setCell ⟨xb, k, none⟩ (.slice (some ⟨g, 0, none⟩) 4 c)) := (Only.refl _ _).setCell _ _
  refine ⟨?_, fun i hi => ?_, fun i i' hi hi' e => ?_⟩
  · have := (ho.stored k (.slice (some ⟨g, 0, none⟩) 4 c)).1
    have e : (((List.range 3).map fun i => if i < k then Value.slice (some ⟨R i, 0, none⟩) 4 (C i) else .slice none 0 0).set k (.slice (some ⟨g, 0, none⟩) 4 c)) = ((List.range 3).map fun i => if i < k + 1 then Value.slice (some ⟨if i = k then g else R i, 0, none⟩) 4 (if i = k then c else C i) else .slice none 0 0) := by
      rcases (by omega : k = 0 ∨ k = 1 ∨ k = 2) with rfl | rfl | rfl <;> rfl
    rw [e] at this
    exact this
  · by_cases e : i = k
    · simp only [if_pos e]
      exact own_other hg (by omega) hO
    · simp only [if_neg e]
      have hi2 : i < k := by omega
      refine own_other (own_below (h.inner i hi2) hb) (fun e' => ?_) hO
      rcases own_types (h.inner i hi2) h.outer types_ne with h1 | h1
      · simp [Value.ownBlock] at h1
      · exact h1 (by simp [Value.ownBlock, e'])
  · have hl : ∀ j, j < k → R j ≠ g := fun j hj e1 => by have := own_lt (h.inner j hj); omega
    by_cases e1 : i = k <;> by_cases e2 : i' = k
    · rw [e1, e2]
    · rw [if_pos e1, if_neg e2] at e; exact absurd e.symm (hl i' (by omega))
    · rw [if_neg e1, if_pos e2] at e; exact absurd e (hl i (by omega))
    · rw [if_neg e1, if_neg e2] at e; exact h.one i i' (by omega) (by omega) e
theorem Rows3.bld {w : World} {B xb : Nat} {R C : Nat → Nat} {V : Nat → Nat → Nat} (h : Rows3 w B xb 3 R C V) : Bld w B 4 3 (.slice (some ⟨xb, 0, none⟩) 3 3) R C V := ⟨h.outer, h.inner, h.one⟩
theorem made3S : (madeCells #[Value.slice none 0 0] 3).toList = (List.range 3).map (fun i => if i < 0 then Value.slice (some ⟨(fun _ : Nat => 0) i, 0, none⟩) 4 ((fun _ : Nat => 0) i) else .slice none 0 0) := by rw [toList_madeCells_one]; rfl
theorem row4 (a b c d : Nat) : [Value.float .f32 a, .float .f32 b, .float .f32 c] ++ [.float .f32 d] = rowOf (fun j => if j = 0 then a else if j = 1 then b else if j = 2 then c else d) 4 := rfl
theorem likeM_next {k m : Nat} {V M : Nat → Nat → Nat} {X : Nat → Nat} (h : LikeM k m V M) (hX : ∀ j, j < m → ∃ s, X j = pick .f32 (M k j) s) : LikeM (k + 1) m (fun i => if i = k then X else V i) M := fun i hi j hj => by
  by_cases e : i = k
  · subst e
    obtain ⟨s, e⟩ := hX j hj
    exact ⟨s, by show (if i = i then X else V i) j = _; rw [if_pos rfl]; exact e⟩
  · obtain ⟨s, e'⟩ := h i (by omega) j hj
    exact ⟨s, by show (if i = k then X else V i) j = _; rw [if_neg e]; exact e'⟩
theorem below_box {w w' : World} {o : Obj} (h : (w.drew.alloc o).grownBy w' none) : Below w.heap.size w w' :=
  ((Below.drewN (Below.refl _ w) 1).alloc (Nat.le_refl _) o).grown h (by simp) (fun _ h => by cases h)
theorem lc_olds {w : World} {b1 k : Nat} {Z : Nat → Nat} (z0 : w.cell? ⟨b1, k, none⟩ = some (.float .f32 (Z k))) (z1 : w.cell? ⟨b1, k + 1, none⟩ = some (.float .f32 (Z (k + 1)))) (z2 : w.cell? ⟨b1, k + 2, none⟩ = some (.float .f32 (Z (k + 2)))) (o : Obj) :
    ∀ b, some (⟨b1, k, none⟩ : Addr) = some b → ∀ j u, [Value.float .f32 (Z k), .float .f32 (Z (k + 1)), .float .f32 (Z (k + 2))][j]? = some u → (w.drew.alloc o).cell? (b.add j) = some u := by
  intro b hb j u hj
  cases hb
  have hl : b1 < w.heap.size := World.block_lt_of_cell? w _ z0
  have hc : ∀ i, (w.drew.alloc o).cell? ⟨b1, i, none⟩ = w.cell? ⟨b1, i, none⟩ := fun i => ((Below.drewN (Below.refl _ w) 1).alloc (Nat.le_refl _) o).cell (p := ⟨b1, i, none⟩) hl
  rw [Addr.add_lit, hc]
  match j, hj with
  | 0, hj => simp at hj; subst hj; exact z0
  | 1, hj => simp at hj; subst hj; exact z1
  | 2, hj => simp at hj; subst hj; exact z2
theorem own_list (w : World) (cur : Array Value) (e n : Nat) (xs : List Value) (hx : cur.toList = xs) (hl : xs.length = n) (hn : n ≤ 1048576) : (w.alloc (.cells cur e)).ownsRow w.heap.size e 1 (.slice (some ⟨w.heap.size, 0, none⟩) n n) n xs := by
  have hs : cur.size = n := by rw [← Array.length_toList, hx, hl]
  refine ⟨by omega, .inr ⟨w.heap.size, n, cur, rfl, Nat.le_refl _, heap_alloc_new w _, Nat.le_refl _, by unfold maxLen; omega, by omega, ?_⟩⟩
  rw [hx, Nat.mul_one]
  exact List.take_of_length_le (by omega)
/-- Three rows and the list of them, made one behind the other. -/
theorem lc_four (w : World) (a b c o : Array Value) (xa xb xc xo : List Value) (ha : a.toList = xa) (hb : b.toList = xb) (hc : c.toList = xc) (ho : o.toList = xo) (la : xa.length = 3) (lb : xb.length = 3) (lc : xc.length = 3) (lo : xo.length = 3) (W : World)
    (hW : W = ((((w.alloc (.cells a 32)).alloc (.cells b 32)).alloc (.cells c 32)).alloc (.cells o 22)).drew) :
    W.ownsRow w.heap.size 32 1 (.slice (some ⟨w.heap.size, 0, none⟩) 3 3) 3 xa ∧ W.ownsRow w.heap.size 32 1 (.slice (some ⟨w.heap.size + 1, 0, none⟩) 3 3) 3 xb ∧
    W.ownsRow w.heap.size 32 1 (.slice (some ⟨w.heap.size + 1 + 1, 0, none⟩) 3 3) 3 xc ∧ W.ownsRow w.heap.size 22 1 (.slice (some ⟨w.heap.size + 1 + 1 + 1, 0, none⟩) 3 3) 3 xo ∧ Below w.heap.size w W := by
  have hs : ∀ (u : World) (o : Obj), (u.alloc o).heap.size = u.heap.size + 1 := fun u o => by simp
  have h1 := own_list w a 32 3 xa ha la (by omega)
  have h2 := own_list (w.alloc (.cells a 32)) b 32 3 xb hb lb (by omega)
  have h3 := own_list ((w.alloc (.cells a 32)).alloc (.cells b 32)) c 32 3 xc hc lc (by omega)
  have h4 := own_list (((w.alloc (.cells a 32)).alloc (.cells b 32)).alloc (.cells c 32)) o 22 3 xo ho lo (by omega)
  rw [hs] at h2
  rw [hs, hs] at h3
  rw [hs, hs, hs] at h4
  subst hW
  refine ⟨own_drew ((((h1.alloc _).alloc _).alloc _)) 1, own_drew (own_mono0 ((h2.alloc _).alloc _) (by omega)) 1, own_drew (own_mono0 (h3.alloc _) (by omega)) 1, own_drew (own_mono0 h4 (by omega)) 1, ?_⟩
  exact Below.drewN (((((Below.refl _ w).alloc (Nat.le_refl _) _).alloc (by rw [hs]; omega) _).alloc (by rw [hs, hs]; omega) _).alloc (by rw [hs, hs, hs]; omega) _) 1
theorem lc_sys3 {W : World} {B b2 xb r0 r1 r2 : Nat} {Z U : Nat → Nat} (h0 : W.ownsRow B 32 1 (.slice (some ⟨r0, 0, none⟩) 3 3) 3 [.float .f32 (Z 0), .float .f32 (Z 1), .float .f32 (Z 2)]) (h1 : W.ownsRow B 32 1 (.slice (some ⟨r1, 0, none⟩) 3 3) 3 [.float .f32 (Z 1), .float .f32 (Z 2), .float .f32 (Z 3)])
    (h2 : W.ownsRow B 32 1 (.slice (some ⟨r2, 0, none⟩) 3 3) 3 [.float .f32 (Z 2), .float .f32 (Z 3), .float .f32 (Z 4)]) (ho : W.ownsRow B 22 1 (.slice (some ⟨xb, 0, none⟩) 3 3) 3 [.slice (some ⟨r0, 0, none⟩) 3 3, .slice (some ⟨r1, 0, none⟩) 3 3, .slice (some ⟨r2, 0, none⟩) 3 3])
    (hr : W.ownsRow B 32 1 (.slice (some ⟨b2, 0, none⟩) 3 3) 3 (rowOf U 3)) (n01 : r0 ≠ r1) (n02 : r0 ≠ r2) (n12 : r1 ≠ r2) (m0 : r0 ≠ b2) (m1 : r1 ≠ b2) (m2 : r2 ≠ b2) :
    Sys W B xb b2 3 (fun i => if i = 0 then r0 else if i = 1 then r1 else r2) (fun _ => 3) (fun i j => if j < 3 then Z (i + j) else U i) := by
  have hB : Bld W B 3 3 (.slice (some ⟨xb, 0, none⟩) 3 3) (fun i => if i = 0 then r0 else if i = 1 then r1 else r2) (fun _ => 3) (fun i j => Z (i + j)) := by
    refine ⟨ho, fun i hi => ?_, fun i i' hi hi' e => ?_⟩
    · rcases (by omega : i = 0 ∨ i = 1 ∨ i = 2) with rfl | rfl | rfl
      · have e : [Value.float .f32 (Z 0), .float .f32 (Z 1), .float .f32 (Z 2)] = rowOf (fun j => Z (0 + j)) 3 := rfl
        rw [e] at h0; exact h0
      · have e : [Value.float .f32 (Z 1), .float .f32 (Z 2), .float .f32 (Z 3)] = rowOf (fun j => Z (1 + j)) 3 := rfl
        rw [e] at h1; exact h1
      · have e : [Value.float .f32 (Z 2), .float .f32 (Z 3), .float .f32 (Z 4)] = rowOf (fun j => Z (2 + j)) 3 := rfl
        rw [e] at h2; exact h2
    · rcases (by omega : i = 0 ∨ i = 1 ∨ i = 2) with rfl | rfl | rfl <;> rcases (by omega : i' = 0 ∨ i' = 1 ∨ i' = 2) with rfl | rfl | rfl <;> simp at e <;> first | rfl | (exfalso; omega)
  exact hB.sys hr fun i hi => by
    rcases (by omega : i = 0 ∨ i = 1 ∨ i = 2) with rfl | rfl | rfl
    · exact m0
    · exact m1
    · exact m2
theorem lc_like3 {X Y Z U : Nat → Nat} {n : Nat} (h1 : LikeP Z (lcS X n) 5) (h2 : LikeP U (lcT X Y n) 3) : LikeM 3 (3 + 1) (fun i j => if j < 3 then Z (i + j) else U i) (lcM X Y n) := by
  intro i hi j hj
  unfold lcM
  show ∃ s, (if j < 3 then Z (i + j) else U i) = pick .f32 (if j < 3 then lcS X n (i + j) else lcT X Y n i) s
  by_cases e : j < 3
  · rw [if_pos e, if_pos e]; exact h1 (i + j) (by omega)
  · rw [if_neg e, if_neg e]; exact h2 i hi
/-- A row of three sums and a right side. -/
theorem lc_row {X Y Z U : Nat → Nat} {n k : Nat} (h1 : LikeP Z (lcS X n) 5) (h2 : LikeP U (lcT X Y n) 3) (hk : k < 3) : ∀ j, j < 4 → ∃ t, (fun j => if j = 0 then Z k else if j = 1 then Z (k + 1) else if j = 2 then Z (k + 2) else U k) j = pick .f32 (lcM X Y n k j) t := by
  intro j hj
  unfold lcM
  rcases (by omega : j = 0 ∨ j = 1 ∨ j = 2 ∨ j = 3) with rfl | rfl | rfl | rfl
  · exact h1 k (by omega)
  · exact h1 (k + 1) (by omega)
  · exact h1 (k + 2) (by omega)
  · exact h2 k hk
end Go.Proofs.Ytogmcinaoemnpaa
