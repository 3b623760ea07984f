/- The state of a level as a function of words: the middles, the right sides, the numbers from the last one back, the length. -/
import Derived.Test.YtdoaajmojfdjoabArr
import Derived.Test.YtdoaajmojfdjoabBelow
import Derived.Test.YtdoaajmojfdjoabRootC
namespace Go.Proofs.Ytdoaajmojfdjoab
open Go Go.ChangeShapes Go.WideShapes Go.ChangeAt Go.RowKit

def midR (X : Nat → Nat) (b near : Nat) : Nat → Nat
  | 0 => uz (fbin .sub .f32 (X 0) near)
  | k + 1 => uz (fbin .sub .f32 (fbin .sub .f32 (X (k + 1)) near) (fbin .mul .f32 (fbin .quo .f32 b (midR X b near k)) b))
def rgtR (X : Nat → Nat) (b near : Nat) (S : Nat → Nat) : Nat → Nat
  | 0 => S 0
  | k + 1 => fbin .sub .f32 (S (k + 1)) (fbin .mul .f32 (fbin .quo .f32 b (midR X b near k)) (rgtR X b near S k))
/-- The number at n - j, from behind the last one on. -/
def bckR (X : Nat → Nat) (b near : Nat) (S : Nat → Nat) (n : Nat) : Nat → Nat
  | 0 => 0
  | j + 1 => fbin .quo .f32 (fbin .sub .f32 (rgtR X b near S (n - 1 - j)) (fbin .mul .f32 b (bckR X b near S n j))) (midR X b near (n - 1 - j))
def solR (X : Nat → Nat) (b near : Nat) (S : Nat → Nat) (n i : Nat) : Nat := bckR X b near S n (n - i)
def sqR (Y : Nat → Nat) : Nat → Nat
  | 0 => 0
  | k + 1 => fbin .add .f32 (sqR Y k) (fbin .mul .f32 (Y k) (Y k))
def nextR (X : Nat → Nat) (b near : Nat) (S : Nat → Nat) (n i : Nat) : Nat := fbin .quo .f32 (solR X b near S n i) (rootT (sqR (solR X b near S n) n))
def staR (X : Nat → Nat) (b near n : Nat) : Nat → Nat → Nat
  | 0 => fun _ => 1065353216
  | r + 1 => nextR X b near (staR X b near n r) n
theorem solR_at {X : Nat → Nat} {b near : Nat} {S : Nat → Nat} {n k : Nat} (hk : k < n) :
    solR X b near S n k = fbin .quo .f32 (fbin .sub .f32 (rgtR X b near S k) (fbin .mul .f32 b (bckR X b near S n (n - 1 - k)))) (midR X b near k) := by
  unfold solR
  have e : n - k = (n - 1 - k) + 1 := by omega
  rw [e]
  show fbin .quo .f32 (fbin .sub .f32 (rgtR X b near S (n - 1 - (n - 1 - k))) _) (midR X b near (n - 1 - (n - 1 - k))) = _
  have e2 : n - 1 - (n - 1 - k) = k := by omega
  rw [e2]
theorem midR_pick (X : Nat → Nat) (b near s : Nat) : midR X b (pick .f32 near s) = midR X b near := by
  funext k
  induction k with
  | zero => simp only [midR, fbin_pick_r]
  | succ k ih => simp only [midR, fbin_pick_r, ih]
theorem rgtR_pick (X : Nat → Nat) (b near s : Nat) (S : Nat → Nat) : rgtR X b (pick .f32 near s) S = rgtR X b near S := by
  funext k
  induction k with
  | zero => rfl
  | succ k ih => simp only [rgtR, midR_pick, ih]
theorem bckR_pick (X : Nat → Nat) (b near s : Nat) (S : Nat → Nat) (n : Nat) : bckR X b (pick .f32 near s) S n = bckR X b near S n := by
  funext k
  induction k with
  | zero => rfl
  | succ k ih => simp only [bckR, midR_pick, rgtR_pick, ih]
theorem solR_pick (X : Nat → Nat) (b near s : Nat) (S : Nat → Nat) (n : Nat) : solR X b (pick .f32 near s) S n = solR X b near S n := by
  funext k
  simp only [solR, bckR_pick]
theorem rootT_pick (x s : Nat) : rootT (pick .f32 x s) = rootT x := by unfold rootT; rw [fconv_pick]
theorem uz_pick {Y s : Nat} (hz : (FloatKind.f32.format.order Y 0 == some .eq) = false) : pick .f32 Y s = pick .f32 (uz Y) s := by
  have h : isZ Y = false := hz
  simp [uz, h]
theorem uz_pick0 {Y : Nat} (hz : (FloatKind.f32.format.order Y 0 == some .eq) = true) : 897988541 = pick .f32 (uz Y) 0 := by
  have h : isZ Y = true := hz
  simp only [uz, h, if_true]
  exact (pick_uz 0).symm
/-- What is told of StateOf. -/
def RetStateOf (R0 : Nat → Nat) (m0 : Nat) (r1 : Bool) (w : World) (e : Ending) (w' : World) : Prop := ∃ (v0 : Value) (Y0 : Nat → Nat), e = .returned (.tuple #[v0, .bool r1]) ∧ w'.ownsRow w.heap.size 23 1 v0 m0 (rowOf Y0 m0) ∧ Like Y0 R0 m0 ∧ m0 ≤ 1048576 ∧ Below w.heap.size w w'
end Go.Proofs.Ytdoaajmojfdjoab
