
/- The program's new desk is the model's, and no other desk shares memory with it: for every call. -/
import Derived.Test.YtbblohjldkpcnaaDk
namespace Go.Proofs.Ytbblohjldkpcnaa
open Go Go.ChangeShapes Go.WideShapes Go.ChangeAt Go.RowKit

def nd2 (j : Nat) : Nat := if j = 0 then 0 else 1065353216
def nd3 (j : Nat) : Nat := if j = 1 then 1073741824 else 0
def nd4 (_ : Nat) : Nat := 1065353216
def NdRet (w : World) (e : Ending) (w' : World) : Prop := ∃ g h l, e = .returned (.agg #[.slice (some ⟨g, 0, none⟩) 2 2, .slice (some ⟨h, 0, none⟩) 3 3, .float .f32 1065353216, .float .f32 0, .float .f32 0, .float .f32 1073741824, .slice (some ⟨l, 0, none⟩) 4 4]) ∧
  w'.ownsRow w.heap.size 25 1 (.slice (some ⟨g, 0, none⟩) 2 2) 2 (rowOf nd2 2) ∧ w'.ownsRow w.heap.size 25 1 (.slice (some ⟨h, 0, none⟩) 3 3) 3 (rowOf nd3 3) ∧
  w'.ownsRow w.heap.size 25 1 (.slice (some ⟨l, 0, none⟩) 4 4) 4 (rowOf nd4 4) ∧ g < h ∧ h < l ∧ Below w.heap.size w w'
theorem lit_own (w : World) {B : Nat} (cs : Array Value) (n : Nat) (X : Nat → Nat) (g : Nat) (hg : g = w.heap.size) (hB : B ≤ g) (hn : n ≤ 1000) (hs : cs.size = n) (hX : cs.toList = rowOf X n) :
    (w.alloc (.cells cs 25)).ownsRow B 25 1 (.slice (some ⟨g, 0, none⟩) n n) n (rowOf X n) := by
  subst hg
  have := World.ownsRow_lit (e := 25) (base := B) (size := 1) w cs n hB (by unfold maxLen; omega) (by rw [hs, Nat.mul_one])
  rwa [hX] at this
theorem own_alloc {w : World} {B e : Nat} {v : Value} {n : Nat} {xs : List Value} (h : w.ownsRow B e 1 v n xs) (o : Obj) : (w.alloc o).ownsRow B e 1 v n xs := own_below h ((Below.refl _ _).alloc (Nat.le_refl _) o)
set_option maxRecDepth 100000 in
set_option maxHeartbeats 1600000 in
theorem implNd_any (w : World) : Calls Try.prog 7 #[] w (NdRet w) := by
  have hst := run_store_f32
  go_enter Try.func7, Try.ntmps7
  go_wp2
  refine bodyPost_ret (v := .agg #[.slice (some ⟨w.heap.size + 1, 0, none⟩) 2 2, .slice (some ⟨w.heap.size + 1 + 1, 0, none⟩) 3 3, .float .f32 1065353216, .float .f32 0, .float .f32 0, .float .f32 1073741824, .slice (some ⟨w.heap.size + 1 + 1 + 1, 0, none⟩) 4 4]) (by simp [results, Try.results7, go_sem]) rfl ?_
  exact ⟨_, _, _, rfl, own_alloc (own_alloc (lit_own _ _ 2 nd2 _ (by simp) (by omega) (by decide) rfl rfl) _) _, own_alloc (lit_own _ _ 3 nd3 _ (by simp) (by omega) (by decide) rfl rfl) _, lit_own _ _ 4 nd4 _ (by simp) (by omega) (by decide) rfl rfl, by omega, by omega,
    (((Below.alloc (Below.refl _ w) (Nat.le_refl _) _).alloc (by simp) _).alloc (by simp; omega) _).alloc (by simp; omega) _⟩
set_option maxRecDepth 100000 in
set_option maxHeartbeats 1600000 in
theorem specNd_any (w : World) : Calls Try.prog 6 #[] w (NdRet w) := by
  have hst := run_store_f32
  go_enter Try.func6, Try.ntmps6
  go_wp2
  refine bodyPost_ret (v := .agg #[.slice (some ⟨w.heap.size + 1, 0, none⟩) 2 2, .slice (some ⟨w.heap.size + 1 + 1, 0, none⟩) 3 3, .float .f32 1065353216, .float .f32 0, .float .f32 0, .float .f32 1073741824, .slice (some ⟨w.heap.size + 1 + 1 + 1 + 1, 0, none⟩) 4 4]) (by simp [results, Try.results6, go_sem]) rfl ?_
  trace_state
  exact ⟨_, _, _, rfl, own_alloc (own_alloc (own_alloc (lit_own _ _ 2 nd2 _ (by simp) (by omega) (by decide) rfl rfl) _) _) _, own_alloc (own_alloc (lit_own _ _ 3 nd3 _ (by simp) (by omega) (by decide) rfl rfl) _) _, lit_own _ _ 4 nd4 _ (by simp) (by omega) (by decide) rfl rfl, by omega, by omega,
    ((((Below.alloc (Below.refl _ w) (Nat.le_refl _) _).alloc (by simp) _).alloc (by simp; omega) _).alloc (by simp; omega) _).alloc (by simp; omega) _⟩
set_option maxRecDepth 100000 in
set_option maxHeartbeats 1600000 in
theorem lawNewDesk_any (W : World) : Calls Try.prog 3 #[] W fun e w' => e = .returned (.bool true) ∧ Below W.heap.size W w' := by
  have hst := run_store_f32
  have HB := Blw.refl W
  go_enter Try.func3, Try.ntmps3
  go_wp2_with fail
  refine (specNd_any _).mono ?_
  rintro e0 w1 ⟨g0, h0, l0, rfl, O1, O2, O3, _, _, B0⟩
  have hwa : ∃ wa, wa = w1.alloc (.cells #[.slice (some ⟨g0, 0, none⟩) 2 2, .slice (some ⟨h0, 0, none⟩) 3 3, .float .f32 1065353216, .float .f32 0, .float .f32 0, .float .f32 1073741824, .slice (some ⟨l0, 0, none⟩) 4 4] 29) := ⟨_, rfl⟩
  obtain ⟨wa, hwa⟩ := hwa
  have P : Box7 wa w1.heap.size (.slice (some ⟨g0, 0, none⟩) 2 2) (.slice (some ⟨h0, 0, none⟩) 3 3) (.float .f32 1065353216) (.float .f32 0) (.float .f32 0) (.float .f32 1073741824) (.slice (some ⟨l0, 0, none⟩) 4 4) := by
    rw [hwa]; exact box7_alloc ..
  have R1 : Rd wa (some ⟨g0, 0, none⟩) 2 nd2 := by rw [hwa]; exact (rd_own' O1).alloc _
  have R2 : Rd wa (some ⟨h0, 0, none⟩) 3 nd3 := by rw [hwa]; exact (rd_own' O2).alloc _
  have R3 : Rd wa (some ⟨l0, 0, none⟩) 4 nd4 := by rw [hwa]; exact (rd_own' O3).alloc _
  have HA : Below W.heap.size W wa := by rw [hwa]; exact B0.alloc B0.size _
  clear O1 O2 O3
  go_wp2_with fail
  rw [← hwa]
  clear hwa
  have HB := Blw.refl wa
  refine (implNd_any _).mono ?_
  rintro e0 w2 ⟨g, h, l, rfl, O1, O2, O3, hgh, hhl, B1⟩
  have hp1 := World.block_lt_of_cell? wa _ P.1
  have P0 := P
  replace P := P.below B1
  have S1 := R1.below B1
  have S2 := R2.below B1
  have S3 := R3.below B1
  replace HB := HB.next B1
  have hwb : ∃ wb, wb = w2.alloc (.cells #[.slice (some ⟨g, 0, none⟩) 2 2, .slice (some ⟨h, 0, none⟩) 3 3, .float .f32 1065353216, .float .f32 0, .float .f32 0, .float .f32 1073741824, .slice (some ⟨l, 0, none⟩) 4 4] 29) := ⟨_, rfl⟩
  obtain ⟨wb, hwb⟩ := hwb
  have hb2 : Below w2.heap.size w2 wb := by rw [hwb]; exact Below.alloc (Below.refl _ _) (Nat.le_refl _) _
  have Q : Box7 wb w2.heap.size (.slice (some ⟨g, 0, none⟩) 2 2) (.slice (some ⟨h, 0, none⟩) 3 3) (.float .f32 1065353216) (.float .f32 0) (.float .f32 0) (.float .f32 1073741824) (.slice (some ⟨l, 0, none⟩) 4 4) := by
    rw [hwb]; exact box7_alloc ..
  have hgl := own_lt O1
  have hhl' := own_lt O2
  have hll := own_lt O3
  have hpl := World.block_lt_of_cell? w2 _ P.1
  have hgb := own_ge' O1
  clear B1
  obtain ⟨p0, p1, p2, p3, p4, p5, p6⟩ := id P
  go_wp2_with fail
  rw [← hwb]
  clear hwb p0 p1 p2 p3 p4 p5 p6
  refine (eqDesk_any _ _ _ _ _ _ 2 3 4 _ _ _ _ _ _ nd2 nd3 nd4 _ _ _ _ _ (by exact (rd_own' O1).below hb2) (by exact (rd_own' O2).below hb2) (by exact (rd_own' O3).below hb2) (by exact S1.below hb2) (by exact S2.below hb2) (by exact S3.below hb2) (by omega) (by omega) (by omega)).mono ?_
  rintro e0 w3 ⟨rfl, B3⟩
  have hb3 := hb2.trans (B3.mono hb2.size)
  replace O1 := own_below O1 hb3
  replace O2 := own_below O2 hb3
  replace O3 := own_below O3 hb3
  replace Q := Q.below B3
  replace HB := (HB.next hb2).next B3
  have hs3 := hb3.size
  have hq3 := World.block_lt_of_cell? w3 _ Q.1
  clear S1 S2 S3 B3 P
  obtain ⟨q0, q1, q2, q3, q4, q5, q6⟩ := id Q
  go_wp2_with fail
  refine (markDk_any _ g h l 2 3 4 2 3 4 nd2 nd3 nd4 _ _ _ _ 1 _ (by exact O1) (by exact O2) (by exact O3) (by omega) (by omega) (by omega) (by omega) (by omega) (by omega) (by omega) (by omega)).mono ?_
  rintro e0 w4 ⟨rfl, M1, M2, M3, B4, J4⟩
  have hm0 : (1 : Int) + ((2 : Nat) : Int) + ((3 : Nat) : Int) + ((4 : Nat) : Int) = 10 := by decide
  rw [hm0]
  replace Q := Q.same (J4 w2.heap.size hq3 (by omega) (by omega) (by omega))
  replace HB := Blw.nextB (by exact HB) B4
  clear J4 B4 q0 q1 q2 q3 q4 q5 q6 O1 O2 O3 hb3
  obtain ⟨q0, q1, q2, q3, q4, q5, q6⟩ := id Q
  go_wp2_with fail
  refine (heldDk_any _ _ _ _ 2 3 4 2 3 4 _ _ _ _ 1 _ (by exact M1) (by exact M2) (by exact M3) (by omega) (by omega) (by omega) (by omega) (by omega)).mono ?_
  rintro e0 w5 ⟨rfl, B5⟩
  rw [hm0]
  replace M1 := own_below M1 B5
  replace M2 := own_below M2 B5
  replace M3 := own_below M3 B5
  replace Q := Q.below B5
  replace HB := HB.next B5
  clear B5 q0 q1 q2 q3 q4 q5 q6
  go_wp2_with fail
  refine (implNd_any _).mono ?_
  rintro e0 w6 ⟨g', h', l', rfl, O1, O2, O3, _, _, B6⟩
  replace M1 := own_below M1 B6
  replace M2 := own_below M2 B6
  replace M3 := own_below M3 B6
  replace Q := Q.below B6
  replace HB := HB.next B6
  clear B6
  have hwb : ∃ wc, wc = w6.alloc (.cells #[.slice (some ⟨g', 0, none⟩) 2 2, .slice (some ⟨h', 0, none⟩) 3 3, .float .f32 1065353216, .float .f32 0, .float .f32 0, .float .f32 1073741824, .slice (some ⟨l', 0, none⟩) 4 4] 29) := ⟨_, rfl⟩
  obtain ⟨wc, hwb⟩ := hwb
  have hb7 : Below w6.heap.size w6 wc := by rw [hwb]; exact Below.alloc (Below.refl _ _) (Nat.le_refl _) _
  have hpl6 := World.block_lt_of_cell? w6 _ (P0.below HB.out).1
  obtain ⟨p0, p1, p2, p3, p4, p5, p6⟩ := P0.below HB.out
  go_wp2_with fail
  rw [← hwb]
  clear hwb p0 p1 p2 p3 p4 p5 p6
  refine (eqDesk_any _ _ _ _ _ _ 2 3 4 _ _ _ _ _ _ nd2 nd3 nd4 _ _ _ _ _ (by exact (rd_own' O1).below hb7) (by exact (rd_own' O2).below hb7) (by exact (rd_own' O3).below hb7) (by exact (R1.below HB.out).below hb7) (by exact (R2.below HB.out).below hb7) (by exact (R3.below HB.out).below hb7) (by omega) (by omega) (by omega)).mono ?_
  rintro e0 w8 ⟨rfl, B8⟩
  replace M1 := own_below (own_below M1 hb7) B8
  replace M2 := own_below (own_below M2 hb7) B8
  replace M3 := own_below (own_below M3 hb7) B8
  replace Q := (Q.below hb7).below B8
  replace HB := (HB.next hb7).next B8
  clear hb7 B8 O1 O2 O3
  obtain ⟨q0, q1, q2, q3, q4, q5, q6⟩ := id Q
  go_wp2_with fail
  refine (heldDk_any _ _ _ _ 2 3 4 2 3 4 _ _ _ _ 1 _ (by exact M1) (by exact M2) (by exact M3) (by omega) (by omega) (by omega) (by omega) (by omega)).mono ?_
  rintro e0 w9 ⟨rfl, B9⟩
  rw [hm0]
  replace HB := HB.next B9
  go_wp2
  go_ret
  exact ⟨rfl, HA.trans (HB.out.mono HA.size)⟩
set_option maxRecDepth 100000 in
theorem FnExactNewDesk_lifted (os : Os) (started : os.Started) (H : Type) (enc : TypeId × Value → H) :
    ReturnsInHanded {} Try.checked os 3 .any (Rows.fnExactNewDeskSpec.pre6 enc Try.prog Try.f3 Rows.fnExactNewDeskRow.domain false) (Rows.fnExactNewDeskSpec.post enc Try.prog Try.f3 false true false false) := by
  refine returnsInHanded_of_change (C := Try.checked) ownKnob_none started (by kernel_rfl) Try.func3
    (ChangeSpec.witness6 (enc := enc) (C := Try.checked) false ⟨#[], #[], []⟩ 8 (by kernel_rfl) (by kernel_rfl) (by kernel_rfl) (by kernel_rfl)) ?_
  intro W base args ds gs before hval0 hW _ _
  have hval : ∀ (j : Nat) t v, Try.f3.params[j]? = some t → args[j]? = some v → Value.okWide Try.prog W .any base t v := hval0
  have hW' := hW
  obtain ⟨p, q, hA0, hV, rfl, _, _⟩ := hW
  have hA : DataW.TrodAll enc Try.prog W 0 (fun _ => true) true Try.f3.params.toList args.toList ds p := hA0
  rw [Try.params3] at hA hval
  obtain ⟨hargs, rfl, rfl⟩ := trodAll_nil hA
  obtain rfl : args = #[] := by cases args; simp_all
  obtain ⟨rfl, rfl⟩ := trodVars_none hV
  clear hA0 hval0
  refine (lawNewDesk_any W).mono fun e W' ⟨he, hb⟩ => ?_
  subst he
  have hA2 := trodAll_mk0 (enc := enc) (P := Try.prog) (w := W') (base := 0) (spare := fun b => decide (b < W.heap.size)) (held := true)
  exact ⟨_, rfl, _, _, _, [], _, [], hW', trodAll_cons_mk (shut_bool Try.underlying4 _) trodAll_mk0, hA2, rfl, hb.frame _, fun h => by cases h⟩
theorem FnExactNewDesk_holds : Rows.FnExactNewDeskSaid :=
  OpenClaim.holds_of_wide 3 Try.f3 rfl rfl rfl rfl rfl rfl rfl ⟨rfl, rfl, rfl, rfl, rfl⟩ rfl rfl rfl rfl rfl (by kernel_rfl) Try.func3 (by kernel_rfl)
    (of_decide_eq_true (by kernel_rfl)) (by unfold Func.isWrapper; first | (rw [if_pos (by decide +kernel)]; kernel_rfl) | (rw [if_neg (by decide +kernel)]; exact ⟨rfl, rfl⟩))
    (fun os started H enc _ => FnExactNewDesk_lifted os started H enc)
end Go.Proofs.Ytbblohjldkpcnaa
