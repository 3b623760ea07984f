/- For all turns and parts the program tells the share just as the model does. -/
import Derived.Test.YtffhnkhjfggooabDoorCj
namespace Go.Proofs.YtffhnkhjfggooabDoor
open Go Go.ChangeShapes Go.WideShapes Go.ChangeAt Go.RowKit

theorem lawJoinShare_any (W : World) (hG : Glob W) (a x b y c : Int) :
    Calls Tryd.prog 3 #[.int .i64 a, .int .i64 x, .int .i64 b, .int .i64 y, .int .i64 c] W fun e w' => e = .returned (.bool true) ∧ Below W.heap.size W w' := by
  cases h : canB a x b y c
  · go_enter Tryd.func3, Tryd.ntmps3
    go_wp2_with fail
    refine (specJ_any a x b y c _).mono ?_
    rintro e w1 ⟨_, hn1, hb1⟩
    obtain rfl := hn1 h
    clear hn1
    go_wp2_with fail
    refine (implJ_no a x b y c _ h).mono ?_
    rintro e w2 ⟨_, hn2, hb2⟩
    obtain rfl := hn2 h
    clear hn2
    go_wp2
    go_ret
    exact ⟨rfl, hb1.trans (hb2.mono hb1.size)⟩
  · go_enter Tryd.func3, Tryd.ntmps3
    go_wp2_with fail
    refine (specJ_any a x b y c _).mono ?_
    rintro e w1 ⟨hy1, _, hb1⟩
    obtain rfl := hy1 h
    clear hy1
    have hG1 := hG.below hb1
    obtain ⟨R1, hR1⟩ : ∃ R, R = sqG (expJ a x b y c) (sumAll a x b y c) := ⟨_, rfl⟩
    obtain ⟨R2, hR2⟩ : ∃ R, R = sqU (expJ a x b y c) (sumAll a x b y c) := ⟨_, rfl⟩
    obtain ⟨R3, hR3⟩ : ∃ R, R = sqD (expJ a x b y c) (sumAll a x b y c) := ⟨_, rfl⟩
    rw [← hR1, ← hR2, ← hR3]
    have HR1 := Lib.hid hR1
    have HR2 := Lib.hid hR2
    have HR3 := Lib.hid hR3
    clear hR1 hR2 hR3
    go_wp2_with fail
    refine (implJ_yes a x b y c _ hG1 h).mono ?_
    rintro e w2 ⟨hy2, _, hb2⟩
    obtain rfl := hy2 h
    clear hy2
    rw [← HR1.out, ← HR2.out, ← HR3.out]
    have z1 : (R1 != R1) = false := by simp
    have z2 : (R2 != R2) = false := by simp
    have z3 : (R3 != R3) = false := by simp
    go_wp2
    go_ret
    exact ⟨rfl, hb1.trans (hb2.mono hb1.size)⟩
end Go.Proofs.YtffhnkhjfggooabDoor
