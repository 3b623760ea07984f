
/- The laws' own helpers on desks: what weighs and copies them. -/
import Derived.Test.YtbblohjldkpcnaaDk
namespace Go.Proofs.Ytbblohjldkpcnaa
open Go Go.ChangeShapes Go.WideShapes Go.ChangeAt Go.RowKit

set_option maxRecDepth 100000 in
theorem szDk_yes (xa ya za : Option Addr) (n m k cx cy cz : Nat) (p q r s : Nat) (L : Int) (w : World) (h : (n : Int) + m + k ≤ L) (hL : L ≤ 1048576) :
    Calls Try.prog 11 #[.agg #[.slice xa n cx, .slice ya m cy, .float .f32 p, .float .f32 q, .float .f32 r, .float .f32 s, .slice za k cz], .int .i64 L] w fun e w' => e = .returned (.int .i64 (L - n - m - k)) ∧ Below w.heap.size w w' := by
  have HQ := Lib.hid (box7_alloc w (.slice xa n cx) (.slice ya m cy) (.float .f32 p) (.float .f32 q) (.float .f32 r) (.float .f32 s) (.slice za k cz) 37)
  have hb0 : Below w.heap.size w (w.alloc (.cells #[.slice xa n cx, .slice ya m cy, .float .f32 p, .float .f32 q, .float .f32 r, .float .f32 s, .slice za k cz] 37)) := (Below.refl _ _).alloc (Nat.le_refl _) _
  have h1 : (n : Int) + m ≤ L := by omega
  have h2 : (0 : Int) ≤ L - n - m := by omega
  have h3 : (k : Int) ≤ L - n - m := by omega
  have h4 : (0 : Int) ≤ L - n - m - k := by omega
  go_enter Try.func11, Try.ntmps11
  go_wp2_with fail
  refine (szSteps_yes _ _ n m _ _ L _ h1 hL).mono ?_
  rintro e0 w1 ⟨rfl, B1⟩
  obtain ⟨_, _, _, _, _, _, hbx⟩ := HQ.out.below B1
  have HB := hb0.trans (B1.mono hb0.size)
  go_wp2_with (go_at_call 25; go_in)
  go_ret
  exact ⟨rfl, HB⟩
set_option maxRecDepth 100000 in
theorem szDk_no (xa ya za : Option Addr) (n m k cx cy cz : Nat) (p q r s : Nat) (L : Int) (w : World) (h : L < (n : Int) + m + k) (h0 : 0 ≤ L) (hL : L ≤ 1048576) (hn : n ≤ maxLen) (hm : m ≤ maxLen) (hk : k ≤ maxLen) :
    Calls Try.prog 11 #[.agg #[.slice xa n cx, .slice ya m cy, .float .f32 p, .float .f32 q, .float .f32 r, .float .f32 s, .slice za k cz], .int .i64 L] w fun e w' => e = .returned (.int .i64 (-1)) ∧ Below w.heap.size w w' := by
  have HQ := Lib.hid (box7_alloc w (.slice xa n cx) (.slice ya m cy) (.float .f32 p) (.float .f32 q) (.float .f32 r) (.float .f32 s) (.slice za k cz) 37)
  have hb0 : Below w.heap.size w (w.alloc (.cells #[.slice xa n cx, .slice ya m cy, .float .f32 p, .float .f32 q, .float .f32 r, .float .f32 s, .slice za k cz] 37)) := (Below.refl _ _).alloc (Nat.le_refl _) _
  by_cases h1 : (n : Int) + m ≤ L
  · have h2 : (0 : Int) ≤ L - n - m := by omega
    have h3 : L - n - m - k < 0 := by omega
    unfold maxLen at hk
    clear h hn hm
    go_enter Try.func11, Try.ntmps11
    go_wp2_with fail
    refine (szSteps_yes _ _ n m _ _ L _ h1 hL).mono ?_
    rintro e0 w1 ⟨rfl, B1⟩
    obtain ⟨_, _, _, _, _, _, hbx⟩ := HQ.out.below B1
    have HB := hb0.trans (B1.mono hb0.size)
    go_wp2_with (go_at_call 25; go_in)
    go_ret
    exact ⟨rfl, HB⟩
  · have h2 : L < (n : Int) + m := by omega
    clear h hk
    go_enter Try.func11, Try.ntmps11
    go_wp2_with fail
    refine (szSteps_no _ _ n m _ _ L _ h2 h0 hL hn hm).mono ?_
    rintro e0 w1 ⟨rfl, B1⟩
    have HB := hb0.trans (B1.mono hb0.size)
    go_wp2
    go_ret
    exact ⟨rfl, HB⟩
/-- A desk that is a copy: all its rows are new. -/
def CopiedD (w : World) (n : Nat) (X : Nat → Nat) (m : Nat) (Y : Nat → Nat) (p q r s k : Nat) (Z : Nat → Nat) (e : Ending) (w' : World) : Prop :=
  ∃ g h l, e = .returned (.agg #[.slice (some ⟨g, 0, none⟩) n n, .slice (some ⟨h, 0, none⟩) m m, .float .f32 p, .float .f32 q, .float .f32 r, .float .f32 s, .slice (some ⟨l, 0, none⟩) k k]) ∧ w'.ownsRow w.heap.size 25 1 (.slice (some ⟨g, 0, none⟩) n n) n (rowOf X n) ∧
    w'.ownsRow w.heap.size 25 1 (.slice (some ⟨h, 0, none⟩) m m) m (rowOf Y m) ∧ w'.ownsRow w.heap.size 25 1 (.slice (some ⟨l, 0, none⟩) k k) k (rowOf Z k) ∧ Below w.heap.size w w'
/-- A box whose cells can be written. -/
def Wr7 (w : World) (b : Nat) : Prop := ∀ o, w.frozen? ⟨b, o, none⟩ = false
set_option maxRecDepth 100000 in
set_option maxHeartbeats 3200000 in
theorem toDesk_any (xa ya za : Option Addr) (n m k cx cy cz : Nat) (X Y Z : Nat → Nat) (p q r s : Nat) (w : World) (hX : Rd w xa n X) (hY : Rd w ya m Y) (hZ : Rd w za k Z) (hn : n ≤ 1048576) (hm : m ≤ 1048576) (hk : k ≤ 1048576) :
    Calls Try.prog 13 #[.agg #[.slice xa n cx, .slice ya m cy, .float .f32 p, .float .f32 q, .float .f32 r, .float .f32 s, .slice za k cz]] w (CopiedD w n X m Y p q r s k Z) := by
  have hst := run_store_f32
  go_enter Try.func13, Try.ntmps13
  go_wp2_with fail
  have HA : Below w.heap.size w (((w.alloc (.cells #[.slice xa n cx, .slice ya m cy, .float .f32 p, .float .f32 q, .float .f32 r, .float .f32 s, .slice za k cz] 37)).alloc (.cells #[.slice none 0 0, .slice none 0 0, .float .f32 0, .float .f32 0, .float .f32 0, .float .f32 0, .slice none 0 0] 29)).alloc (.cells #[.slice none 0 0, .slice none 0 0, .float .f32 0, .float .f32 0, .float .f32 0, .float .f32 0, .slice none 0 0] 29)) :=
    (((Below.refl _ _).alloc (Nat.le_refl _) _).alloc (by simp) _).alloc (by simp; omega) _
  have RX := hX.below HA
  have RY := hY.below HA
  have RZ := hZ.below HA
  refine (toSteps_any _ _ _ _ _ _ X Y _ (by exact RX) (by exact RY) hn hm).mono ?_
  rintro e0 w1 ⟨g, h, rfl, O1, O2, hgh, B1⟩
  obtain ⟨hc1, hf1⟩ := bcell B1
  have hz1 : w.heap.size + 3 ≤ w1.heap.size := by have := B1.size; simp at this; omega
  have gge := own_ge' O1
  have hge := own_ge' O2
  have hs0 : w.heap.size < w1.heap.size := by omega
  have hs1 : w.heap.size + 1 < w1.heap.size := by omega
  have hs2 : w.heap.size + 1 + 1 < w1.heap.size := by omega
  have hW2 : w.heap.size + 1 + 1 < (((w.alloc (.cells #[.slice xa n cx, .slice ya m cy, .float .f32 p, .float .f32 q, .float .f32 r, .float .f32 s, .slice za k cz] 37)).alloc (.cells #[.slice none 0 0, .slice none 0 0, .float .f32 0, .float .f32 0, .float .f32 0, .float .f32 0, .slice none 0 0] 29)).alloc (.cells #[.slice none 0 0, .slice none 0 0, .float .f32 0, .float .f32 0, .float .f32 0, .float .f32 0, .slice none 0 0] 29)).heap.size := by simp
  have hWz : (((w.alloc (.cells #[.slice xa n cx, .slice ya m cy, .float .f32 p, .float .f32 q, .float .f32 r, .float .f32 s, .slice za k cz] 37)).alloc (.cells #[.slice none 0 0, .slice none 0 0, .float .f32 0, .float .f32 0, .float .f32 0, .float .f32 0, .slice none 0 0] 29)).alloc (.cells #[.slice none 0 0, .slice none 0 0, .float .f32 0, .float .f32 0, .float .f32 0, .float .f32 0, .slice none 0 0] 29)).heap.size = w.heap.size + 1 + 1 + 1 := by simp
  go_wp2_with fail
  refine (toPulse_any _ _ _ _ _).mono ?_
  rintro e0 w2 ⟨rfl, B2⟩
  obtain ⟨hc2, hf2⟩ := bcell B2
  have hz2 : w1.heap.size ≤ w2.heap.size := by have := B2.size; simpa using this
  have ht0 : w.heap.size < w2.heap.size := by omega
  have ht1 : w.heap.size + 1 < w2.heap.size := by omega
  have ht2 : w.heap.size + 1 + 1 < w2.heap.size := by omega
  have P1 := own_below (ownsRow_setCell_below (ownsRow_setCell_below O1 (a := ⟨w.heap.size + 1 + 1, 0, none⟩) hW2 (.slice (some ⟨g, 0, none⟩) n n)) (a := ⟨w.heap.size + 1 + 1, 1, none⟩) hW2 (.slice (some ⟨h, 0, none⟩) m m)) B2
  have P2 := own_below (ownsRow_setCell_below (ownsRow_setCell_below O2 (a := ⟨w.heap.size + 1 + 1, 0, none⟩) hW2 (.slice (some ⟨g, 0, none⟩) n n)) (a := ⟨w.heap.size + 1 + 1, 1, none⟩) hW2 (.slice (some ⟨h, 0, none⟩) m m)) B2
  have HC : Below w.heap.size w w2 := (((HA.trans (B1.mono (by simp; omega))).setCell (p := ⟨w.heap.size + 1 + 1, 0, none⟩) (by simp; omega) (.slice (some ⟨g, 0, none⟩) n n)).setCell (p := ⟨w.heap.size + 1 + 1, 1, none⟩) (by simp; omega) (.slice (some ⟨h, 0, none⟩) m m)).trans (B2.mono (by simp; omega))
  clear O1 O2 RX RY RZ
  go_wp2_with fail
  have HD := (((HC.setCell (p := ⟨w.heap.size + 1 + 1, 2, none⟩) (by simp; omega) (.float .f32 p)).setCell (p := ⟨w.heap.size + 1 + 1, 3, none⟩) (by simp; omega) (.float .f32 q)).setCell (p := ⟨w.heap.size + 1 + 1, 4, none⟩) (by simp; omega) (.float .f32 r)).setCell (p := ⟨w.heap.size + 1 + 1, 5, none⟩) (by simp; omega) (.float .f32 s)
  refine (toF_any _ _ _ Z _ (by exact hZ.below HD) hk).mono ?_
  rintro e0 w3 ⟨rfl, O3, B3⟩
  have hz3 : ((((w2.setCell ⟨w.heap.size + 1 + 1, 2, none⟩ (.float .f32 p)).setCell ⟨w.heap.size + 1 + 1, 3, none⟩ (.float .f32 q)).setCell ⟨w.heap.size + 1 + 1, 4, none⟩ (.float .f32 r)).setCell ⟨w.heap.size + 1 + 1, 5, none⟩ (.float .f32 s)).heap.size = w2.heap.size := by simp
  obtain ⟨hc3, hf3⟩ := bcell B3
  rw [hWz] at P1 P2
  have Q1 := own_below (ownsRow_setCell_below (ownsRow_setCell_below (ownsRow_setCell_below (ownsRow_setCell_below P1 (a := ⟨w.heap.size + 1 + 1, 2, none⟩) (by simp; try omega) (.float .f32 p)) (a := ⟨w.heap.size + 1 + 1, 3, none⟩) (by simp; try omega) (.float .f32 q)) (a := ⟨w.heap.size + 1 + 1, 4, none⟩) (by simp; try omega) (.float .f32 r)) (a := ⟨w.heap.size + 1 + 1, 5, none⟩) (by simp; try omega) (.float .f32 s)) B3
  have Q2 := own_below (ownsRow_setCell_below (ownsRow_setCell_below (ownsRow_setCell_below (ownsRow_setCell_below P2 (a := ⟨w.heap.size + 1 + 1, 2, none⟩) (by simp; try omega) (.float .f32 p)) (a := ⟨w.heap.size + 1 + 1, 3, none⟩) (by simp; try omega) (.float .f32 q)) (a := ⟨w.heap.size + 1 + 1, 4, none⟩) (by simp; try omega) (.float .f32 r)) (a := ⟨w.heap.size + 1 + 1, 5, none⟩) (by simp; try omega) (.float .f32 s)) B3
  rw [hz3] at O3
  have hl3 := own_lt O3
  have hu0 : w.heap.size < w3.heap.size := by omega
  have hu1 : w.heap.size + 1 < w3.heap.size := by omega
  have hu2 : w.heap.size + 1 + 1 < w3.heap.size := by omega
  have HE := HD.trans (B3.mono (by rw [hz3]; omega))
  rw [hz3]
  have F1 := fun u0 u1 u2 u3 u4 u5 u6 u7 => own_mono (ownsRow_setCell_below (ownsRow_setCell_below (ownsRow_setCell_below (ownsRow_setCell_below (ownsRow_setCell_below (ownsRow_setCell_below (ownsRow_setCell_below (ownsRow_setCell_below Q1 (a := ⟨w.heap.size + 1 + 1, 6, none⟩) (by simp; try omega) u0) (a := ⟨w.heap.size + 1, 0, none⟩) (by simp; try omega) u1) (a := ⟨w.heap.size + 1, 1, none⟩) (by simp; try omega) u2) (a := ⟨w.heap.size + 1, 2, none⟩) (by simp; try omega) u3) (a := ⟨w.heap.size + 1, 3, none⟩) (by simp; try omega) u4) (a := ⟨w.heap.size + 1, 4, none⟩) (by simp; try omega) u5) (a := ⟨w.heap.size + 1, 5, none⟩) (by simp; try omega) u6) (a := ⟨w.heap.size + 1, 6, none⟩) (by simp; try omega) u7) (B' := w.heap.size) (by omega)
  have F2 := fun u0 u1 u2 u3 u4 u5 u6 u7 => own_mono (ownsRow_setCell_below (ownsRow_setCell_below (ownsRow_setCell_below (ownsRow_setCell_below (ownsRow_setCell_below (ownsRow_setCell_below (ownsRow_setCell_below (ownsRow_setCell_below Q2 (a := ⟨w.heap.size + 1 + 1, 6, none⟩) (by simp; try omega) u0) (a := ⟨w.heap.size + 1, 0, none⟩) (by simp; try omega) u1) (a := ⟨w.heap.size + 1, 1, none⟩) (by simp; try omega) u2) (a := ⟨w.heap.size + 1, 2, none⟩) (by simp; try omega) u3) (a := ⟨w.heap.size + 1, 3, none⟩) (by simp; try omega) u4) (a := ⟨w.heap.size + 1, 4, none⟩) (by simp; try omega) u5) (a := ⟨w.heap.size + 1, 5, none⟩) (by simp; try omega) u6) (a := ⟨w.heap.size + 1, 6, none⟩) (by simp; try omega) u7) (B' := w.heap.size) (by omega)
  have F3 := fun u0 u1 u2 u3 u4 u5 u6 u7 => own_mono (ownsRow_setCell_below (ownsRow_setCell_below (ownsRow_setCell_below (ownsRow_setCell_below (ownsRow_setCell_below (ownsRow_setCell_below (ownsRow_setCell_below (ownsRow_setCell_below O3 (a := ⟨w.heap.size + 1 + 1, 6, none⟩) (by simp; try omega) u0) (a := ⟨w.heap.size + 1, 0, none⟩) (by simp; try omega) u1) (a := ⟨w.heap.size + 1, 1, none⟩) (by simp; try omega) u2) (a := ⟨w.heap.size + 1, 2, none⟩) (by simp; try omega) u3) (a := ⟨w.heap.size + 1, 3, none⟩) (by simp; try omega) u4) (a := ⟨w.heap.size + 1, 4, none⟩) (by simp; try omega) u5) (a := ⟨w.heap.size + 1, 5, none⟩) (by simp; try omega) u6) (a := ⟨w.heap.size + 1, 6, none⟩) (by simp; try omega) u7) (B' := w.heap.size) (by omega)
  have F4 := fun u0 u1 u2 u3 u4 u5 u6 u7 => ((((((((HE.setCell (p := ⟨w.heap.size + 1 + 1, 6, none⟩) (by simp; try omega) u0).setCell (p := ⟨w.heap.size + 1, 0, none⟩) (by simp; try omega) u1).setCell (p := ⟨w.heap.size + 1, 1, none⟩) (by simp; try omega) u2).setCell (p := ⟨w.heap.size + 1, 2, none⟩) (by simp; try omega) u3).setCell (p := ⟨w.heap.size + 1, 3, none⟩) (by simp; try omega) u4).setCell (p := ⟨w.heap.size + 1, 4, none⟩) (by simp; try omega) u5).setCell (p := ⟨w.heap.size + 1, 5, none⟩) (by simp; try omega) u6).setCell (p := ⟨w.heap.size + 1, 6, none⟩) (by simp; try omega) u7)
  have HF := Lib.hid (And.intro F1 (And.intro F2 (And.intro F3 F4)))
  clear F1 F2 F3 F4 Q1 Q2 O3 P1 P2 HC HD HE HA hX hY hZ B1 B2 B3
  go_wp2
  exact bodyPost_ret (v := .agg #[.slice (some ⟨g, 0, none⟩) n n, .slice (some ⟨h, 0, none⟩) m m, .float .f32 p, .float .f32 q, .float .f32 r, .float .f32 s, .slice (some ⟨w2.heap.size, 0, none⟩) k k]) (by simp [results, Try.results13, go_sem, hc3, hc2, hc1, hs1, hs2, ht1, ht2, hu1, hu2]) rfl
    ⟨_, _, _, rfl, HF.out.1 _ _ _ _ _ _ _ _, HF.out.2.1 _ _ _ _ _ _ _ _, HF.out.2.2.1 _ _ _ _ _ _ _ _, HF.out.2.2.2 _ _ _ _ _ _ _ _⟩
end Go.Proofs.Ytbblohjldkpcnaa
