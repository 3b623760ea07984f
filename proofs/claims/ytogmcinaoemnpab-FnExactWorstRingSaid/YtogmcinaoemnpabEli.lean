
/- The levels that edges tell: as the program tells them. -/
import Derived.Test.YtogmcinaoemnpabEln
import Derived.Test.YtogmcinaoemnpabQ5
import Derived.Test.YtogmcinaoemnpabArr
import Derived.Test.YtogmcinaoemnpabNu5
import Derived.Test.YtogmcinaoemnpabLiW
import Derived.Test.YtogmcinaoemnpabRo
import Derived.Maps.RangeWalk
namespace Go.Proofs.Ytogmcinaoemnpab
set_option linter.all false
open Go Go.ChangeShapes Go.WideShapes Go.ChangeAt Go.RowKit Go.Maps

theorem okEds_in {L : Nat} {X : Nat → Ed} {n : Nat} (h : okEds (L : Int) X n = true) : 1 ≤ L ∧ L ≤ 12 ∧ n ≤ 32 ∧ ∀ j, j < n → EdIn L (X j) := by
  unfold okEds at h
  simp only [Bool.and_eq_true, decide_eq_true_eq, List.all_eq_true, List.mem_range] at h
  obtain ⟨⟨h1, h2⟩, h3⟩ := h
  have h4 := inB_rng h1
  refine ⟨by omega, by omega, h2, fun j hj => ?_⟩
  have h5 := h3 j hj
  unfold okEd at h5
  simp only [Bool.and_eq_true, Bool.not_eq_true', decide_eq_false_iff_not] at h5
  have h6 := inB_rng h5.1.1
  have h7 := inB_rng h5.1.2
  exact ⟨by omega, by omega, by omega, by omega, h5.2.1⟩
theorem madeF' (n : Nat) : (madeCells (Value.float .f32 0).cells (n * 1)).toList = rowOf (fun _ => 0) n := by rw [Nat.mul_one]; exact madeF n
set_option maxRecDepth 100000 in
set_option maxHeartbeats 6400000 in
theorem implEl_yes (L : Nat) (xa : Option Addr) (n cap : Nat) (X : Nat → Ed) (w : World) (hX : RdE w xa n X) (hk : okEds (L : Int) X n = true) (ok : Bool) (p : Nat)
    (ho : Hid (ok = (elAll X n (L - 1) && finL (elSt X n (L - 1)).2 L))) (hp : Hid (p = if ok = true then L else 0)) :
    Calls Try.prog 29 #[.int .i64 (L : Int), .slice xa n cap] w (OutRet (elSt X n (L - 1)).2 p ok w) := by
  obtain ⟨hL1, hL2, hn, hE⟩ := okEds_in hk
  obtain ⟨i0, hi, hz0, hz1, hz2⟩ := info_parts infoF
  have hb : i0.bytes * L ≤ 281474976710656 := by rw [hz2]; omega
  have hml : L ≤ maxLen := by unfold maxLen; omega
  have hmm := @run_makeMap Try.prog
  have HA := Lib.hid (implAE_any (L : Int) (WalkArith.wf_i64 (by omega)) xa n cap X w hX (by omega) true (Lib.hid hk.symm))
  have HE := Lib.hid hE
  have HX := Lib.hid hX
  clear hE hX hk
  go_enter Try.func29, Try.ntmps29
  go_wp2_with (first | (go_at_call 58; refine HA.out.mono ?_; rintro e w1 ⟨rfl, B1⟩; have hsz1 := B1.size) | (at_make; refine wpList_make_full _ rfl _ _ 35 rfl w.heap.size 36 i0 (.float .f32 0) 1 Try.underlying35 hi hz0 hz1 _ _ _ _ L rfl rfl rfl rfl hb hml (by exact hsz1) ?_; intro w2 hown hgr))
  rw [madeF'] at hown
  obtain ⟨f, hf⟩ : ∃ f, f = w1.heap.size := ⟨_, rfl⟩
  rw [← hf] at hown ⊢
  have hB2 : Below w.heap.size w w2 := B1.grown hgr hsz1 (fun _ h => by cases h)
  have hfl := own_lt hown
  have hfg := own_ge hown
  obtain ⟨b, hbb⟩ : ∃ b, b = w2.heap.size := ⟨_, rfl⟩
  obtain ⟨w3, hw3⟩ : ∃ w3, w3 = (w2.alloc (Obj.map #[] 0)).alloc (Obj.cells #[Value.map (some b)] 74) := ⟨_, rfl⟩
  have hmap3 : w3.ownsMap Try.prog 2 (plainElem (H := Unit) Try.prog 4) b 0 (.map []) := by rw [hw3, hbb]; exact (World.ownsMap_made _ _ _ _).alloc _
  have hB23 : Below w2.heap.size w2 w3 := by rw [hw3]; exact ((Below.refl _ _).alloc (Nat.le_refl _) _).alloc (by simp) _
  have hown3 := own_below hown hB23
  have hB3 : Below w.heap.size w w3 := hB2.trans (hB23.mono hB2.size)
  have hcell3 : w3.cell? ⟨b + 1, 0, none⟩ = some (.map (some b)) := by
    rw [hw3, hbb, show w2.heap.size + 1 = (w2.alloc (Obj.map #[] 0)).heap.size by simp]
    simp
  rw [← hbb]
  rw [← hw3]
  have hwb : w.heap.size ≤ b := by rw [hbb]; exact hB2.size
  have hfb : f < b := by omega
  clear hw3 hown hgr hB2 hbb hfl hB23 hf hmm hb hml hi hz0 hz1 hz2 B1 hsz1
  have HM3 := Lib.hid hmap3
  clear hmap3
  go_loopw [8] (fun i wr => ∃ (l : Nat) (D : DataW Unit), 1 ≤ l ∧ l ≤ L ∧ i = .int .i64 (l : Int) ∧ wr.ownsRow w.heap.size 36 1 (.slice (some ⟨f, 0, none⟩) L L) L (rowOf (fun _ => 0) L) ∧ wr.cell? ⟨b + 1, 0, none⟩ = some (.map (some b)) ∧ Hid (wr.ownsMap Try.prog 2 (plainElem (H := Unit) Try.prog 4) b l D) ∧ Hid (HOpen l (fun x => decide (x = 0)) D) ∧ Hid (Maps.size D + 1 = l) ∧ Below w.heap.size w wr) (fun i _ => L - (intOf i).toNat)
  case atStart => exact ⟨1, _, Nat.le_refl _, hL1, rfl, hown3, hcell3, Lib.hid (HM3.out.mono (Nat.zero_le _)), Lib.hid HOpen.start, Lib.hid rfl, hB3⟩
  case round =>
    obtain ⟨l, D, hl1, hl2, rfl, hown, hcell, HM, HO, HS, hBk⟩ := hrel
    clear hown3 hcell3 HM3 hB3
    by_cases hlt : l < L
    · have HKEY := Lib.hid (keyOf_int_mk Try.underlying2 (a := (l : Int)) (WalkArith.wf_i64 (by omega)))
      have HS2 := Lib.hid (show Maps.size (D.put (.int .i64 (l : Int)) (.lit (.bool true))) + 1 = l + 1 by
        have h1 := size_put (HM.out.tidy mapLaw') (k := .int .i64 (l : Int)) (.lit (.bool true))
        rw [(HO.out l).1, decide_eq_false (Nat.lt_irrefl l), Bool.false_and, if_neg (by simp)] at h1
        have := HS.out
        omega)
      have HO2 := Lib.hid (HO.out.put HM.out.isMap hl1)
      have hki : (l : Int) < (L : Int) := by omega
      go_wp2_with (at_mapUpdate; refine wpList_mapUpdate_own _ rfl _ _ _ 74 rfl 2 4 mapLaw' Try.underlying74 _ b l _ rfl (by exact HM.out) (by unfold maxLen; omega) _ _ _ rfl rfl HKEY.out _ [] (plainElem_bool Try.underlying4 _) ?_; intro w4 hmap4 hgrow4)
      go_roundw
      all_goals first | (simp [intOf]; omega) | exact ⟨l + 1, _, by omega, by omega, by go_num, World.ownsRow.kept hown hgrow4 (.inr (by simp [Value.ownBlock]; omega)), (World.cell?_of_block (w := wr) (hgrow4.block (b + 1) (World.block_lt_of_cell? wr _ hcell) (by simp))).trans hcell, Lib.hid hmap4, HO2, HS2, Below.grown hBk hgrow4 hBk.size (fun j hj => by cases hj; exact hwb)⟩
    · have e : l = L := by omega
      subst e
      have hnl : ¬ ((l : Int) < (l : Int)) := by omega
      go_wp2
      go_loopw [9] (fun _ wr => ∃ (r : Nat) (D : DataW Unit) (Z : Nat → Nat), r ≤ l - 1 ∧ wr.ownsRow w.heap.size 36 1 (.slice (some ⟨f, 0, none⟩) l l) l (rowOf Z l) ∧ Hid (LikeP Z (elSt X n r).2 l) ∧ wr.cell? ⟨b + 1, 0, none⟩ = some (.map (some b)) ∧ Hid (wr.ownsMap Try.prog 2 (plainElem (H := Unit) Try.prog 4) b l D) ∧ Hid (HOpen l (elSt X n r).1 D) ∧ Hid (Maps.size D + r + 1 = l) ∧ Hid (∀ i, i < r → (elFirst X (elSt X n i).1 n).isSome = true) ∧ Below w.heap.size w wr) (fun _ wr => mSize wr b)
      case atStart => exact ⟨0, D, _, Nat.zero_le _, hown, Lib.hid (fun j hj => ⟨0, by show (0 : Nat) = pick .f32 0 0; decide +kernel⟩), hcell, HM, HO, Lib.hid (by have := HS.out; omega), Lib.hid (fun i hi => absurd hi (Nat.not_lt_zero _)), hBk⟩
      case round =>
        clear hown hcell HM HO HS hBk
        obtain ⟨r, D, Z, hr, hown, HL, hcell, HM, HO, HS, HF, hBk⟩ := hrel
        by_cases hlt2 : r < l - 1
        · have hpos : (0 : Int) < ((Maps.size D : Nat) : Int) := by have := HS.out; omega
          have HIx := Lib.hid (elIndex_any xa n cap X (b + 1) b l l (elSt X n r).1 D wr (HX.out.below hBk) (by omega) hcell HM.out HO.out HE.out hL2)
          cases hF : elFirst X (elSt X n r).1 n with
          | none =>
            rw [show elIx X (elSt X n r).1 n = -1 by unfold elIx; rw [hF]] at HIx
            have e : ok = false := by rw [ho.out, elAll_no hlt2 hF]; rfl
            subst e
            have e : p = 0 := by rw [hp.out]; rfl
            subst e
            clear hF
            go_wp2_with (first | (at_len; refine wpList_len_own _ rfl _ 74 rfl 2 4 Try.underlying74 _ b l _ rfl (by exact HM.out) ?_) | (go_at_call 59; refine HIx.out.mono ?_; rintro e w5 ⟨rfl, B5⟩))
            go_ret2
            exact OutRet.no (hBk.trans (B5.mono hBk.size))
          | some j =>
            rw [show elIx X (elSt X n r).1 n = (j : Int) by unfold elIx; rw [hF]] at HIx
            obtain ⟨hjn, hab, _⟩ := elFirst_some hF
            obtain ⟨e1, e2, e3, e4, e5⟩ := HE.out j hjn
            obtain ⟨A, hA⟩ : ∃ A : Nat, (X j).a = A := ⟨(X j).a.toNat, by omega⟩
            obtain ⟨B, hB⟩ : ∃ B : Nat, (X j).b = B := ⟨(X j).b.toNat, by omega⟩
            obtain ⟨P, hP⟩ : ∃ P : Nat, (X j).p = P := ⟨_, rfl⟩
            rw [hA] at e1 e2 e5
            rw [hB] at e3 e4 e5
            have hAl : A < l := by omega
            have hBl : B < l := by omega
            have hne : A ≠ B := by omega
            rw [hA, hB, Int.toNat_natCast, Int.toNat_natCast] at hab
            obtain ⟨xb, xo, hxa, hcx⟩ := id HX.out
            have e := hxa (by omega)
            subst e
            have HW := Lib.hid (fun w5 (B5 : Below wr.heap.size wr w5) => show EdAt w5 xb (xo + j * 3) (X j) ∧ w5.cell? ⟨b + 1, 0, none⟩ = some (.map (some b)) ∧ Below w.heap.size w w5 from ⟨EdAt.below (hcx j hjn) (hBk.trans (B5.mono hBk.size)), (B5.cell (p := ⟨b + 1, 0, none⟩) (World.block_lt_of_cell? wr _ hcell)).trans hcell, hBk.trans (B5.mono hBk.size)⟩)
            simp only [EdAt, hA, hB, hP] at HW
            have KB := Lib.hid (keyOf_int_mk Try.underlying2 (a := (B : Int)) (WalkArith.wf_i64 (by omega)))
            have hbB := (HO.out B).2
            rw [decide_eq_true hBl, Bool.true_and] at hbB
            have HOw := Lib.hid hown
            clear hxa hcx e1 e2 e3 e4 e5 hown
            cases hTA : (elSt X n r).1 A
            · have hTB : (elSt X n r).1 B = true := by cases h : (elSt X n r).1 B; · rw [hTA, h] at hab; exact absurd rfl hab
                                                       · rfl
              rw [hTB] at hbB
              simp only [Bool.not_true, Bool.not_false] at hbB
              have HB1 := Lib.hid hbB
              clear hbB
              have hst := run_store_f32
              go_wp2_with (first | (at_len; refine wpList_len_own _ rfl _ 74 rfl 2 4 Try.underlying74 _ b l _ rfl (by exact HM.out) ?_) | (go_at_call 59; refine HIx.out.mono ?_; rintro e w5 ⟨rfl, B5⟩; have hm5 := Lib.hid (map_below HM.out B5); have ho5 := own_below HOw.out B5; obtain ⟨⟨r0, r1, r2⟩, r3, hB5⟩ := HW.out w5 B5; have B6 := (Below.refl w5.heap.size w5).alloc (Nat.le_refl _) (.cells #[.int .i64 (A : Int), .int .i64 (B : Int), .float .f32 P] 80); have r4 := (B6.cell (p := ⟨b + 1, 0, none⟩) (World.block_lt_of_cell? w5 _ r3)).trans r3; have ho6 := own_below ho5 B6; have hfl5 := own_lt ho5; have c6 := own_cell ho6 hBl; have st := fun q u => own_store ho6 hAl q u; clear B5) | (at_lookup; refine wpList_lookup_own_bool _ rfl _ _ 74 rfl 2 4 mapLaw' Try.underlying74 Try.underlying4 (zeroBool _) b l _ rfl (by exact hm5.out.alloc _) _ _ rfl KB.out ?_; intro c hat; have qc := hat.symm.trans HB1.out; simp only [DataW.lit.injEq, Lit.bool.injEq] at qc; subst qc; clear hat))
              obtain ⟨w6, hw6⟩ : ∃ w6, w6 = w5.alloc (.cells #[.int .i64 (A : Int), .int .i64 (B : Int), .float .f32 P] 80) := ⟨_, rfl⟩
              obtain ⟨c, hc⟩ : ∃ c, c = w5.heap.size := ⟨_, rfl⟩
              have p0 : w6.cell? ⟨c, 0, none⟩ = some (.int .i64 (A : Int)) := by rw [hw6, hc]; simp
              have p1 : w6.cell? ⟨c, 1, none⟩ = some (.int .i64 (B : Int)) := by rw [hw6, hc]; simp
              have p2 : w6.cell? ⟨c, 2, none⟩ = some (.float .f32 P) := by rw [hw6, hc]; simp
              have hm6 := Lib.hid (hm5.out.alloc (.cells #[.int .i64 (A : Int), .int .i64 (B : Int), .float .f32 P] 80))
              have hB6 := hB5.trans (B6.mono hB5.size)
              rw [← hw6] at r4 ho6 c6 st hm6 hB6 ⊢
              rw [← hc]
              have HO6 := Lib.hid ho6
              have HC := Lib.hid (show f < c ∧ b + 1 < c from ⟨by omega, by have := World.block_lt_of_cell? w5 _ r3; simp at this; omega⟩)
              clear hw6 hc B6 ho5 hm5 r3 r0 r1 r2 hfl5 HIx HW ho6 hB5 hcell hst
              have KA := Lib.hid (keyOf_int_mk Try.underlying2 (a := (A : Int)) (WalkArith.wf_i64 (by omega)))
              have r7 := fun k u => (World.cell?_setCell_other (w6.drewN k) ⟨f, A, none⟩ ⟨b + 1, 0, none⟩ (.float .f32 u) (by intro e; injection e with e1; omega)).trans r4
              have p7 := fun k u => (World.cell?_setCell_other (w6.drewN k) ⟨f, A, none⟩ ⟨c, 0, none⟩ (.float .f32 u) (by intro e; injection e with e1; have := HC.out; omega)).trans p0
              have q7 := fun k u => (World.cell?_setCell_other (w6.drewN k) ⟨f, A, none⟩ ⟨c, 1, none⟩ (.float .f32 u) (by intro e; injection e with e1; have := HC.out; omega)).trans p1
              have HM7 := Lib.hid (fun k u => (map_drew' hm6.out k).setCell (a := ⟨f, A, none⟩) (show b ≠ f by omega) (.float .f32 u))
              have HO7 := Lib.hid (fun k u => own_stored (own_drew HO6.out k) A u)
              have HB7 := Lib.hid (fun k u => Below.setCell (Below.drewN hB6 k) (p := ⟨f, A, none⟩) hfg (.float .f32 u))
              have HSZ := Lib.hid (del_size (HM.out.tidy mapLaw') HO.out hAl hBl hne hab)
              have HO9 := Lib.hid ((HO.out.del (a := A)).del (a := B))
              have hst1 : elSt X n (r + 1) = elDo (X j) (elSt X n r) := elIn_some hF
              have HT9 := Lib.hid (show HOpen l (elSt X n (r + 1)).1 _ from HO9.out.congr fun x => by
                rw [hst1, elDo_both (by rw [hA, hB]; exact hab), hA, hB, Int.toNat_natCast, Int.toNat_natCast, Bool.or_assoc])
              have HL9 := Lib.hid (fun s => show LikeP (fun y => if y = A then pick .f32 (fbin .sub .f32 (Z B) P) s else Z y) (elSt X n (r + 1)).2 l from by
                obtain ⟨t, ht⟩ := HL.out B (by omega)
                have e : (elSt X n (r + 1)).2 = fun y => if y = A then fbin .sub .f32 ((elSt X n r).2 B) P else (elSt X n r).2 y := by
                  rw [hst1]
                  unfold elDo
                  rw [hA, hB, hP, Int.toNat_natCast, Int.toNat_natCast, hTA]
                  rfl
                rw [e, ht, fbin_pick_l]
                exact LikeP.set HL.out rfl)
              have HF9 := Lib.hid (fun i (hi : i < r + 1) => show (elFirst X (elSt X n i).1 n).isSome = true by
                by_cases h : i < r
                · exact HF.out i h
                · rw [show i = r by omega, hF]; rfl)
              have HS9 := Lib.hid (show Maps.size ((D.del (.int .i64 (A : Int))).del (.int .i64 (B : Int))) + (r + 1) + 1 = l by have := HSZ.out; have := HS.out; omega)
              have HME := Lib.hid (mSize_own HM.out)
              have tok1 : True := trivial
              have tok2 : True := trivial
              clear hab hF hst1 hm6 HO6 HO9 HL HF HS hB6
              have hadd := run_sub32
              go_wp2_with fail
              go_region
              all_goals go_wp2_with (first | (at_delete; have _t := tok1; refine wpList_delete_own _ rfl _ _ 74 2 rfl 4 mapLaw' Try.underlying74 _ b l _ rfl (by exact HM7.out _ _) _ _ rfl KA.out ?_; intro w8 hm8 ht8; have g8 := ht8.grown; have r8 := (World.cell?_of_block (g8.block (b + 1) (World.block_lt_of_cell? _ _ (r7 _ _)) (by simp))).trans (r7 _ _); have q8 := (World.cell?_of_block (g8.block c (World.block_lt_of_cell? _ _ (q7 _ _)) (by have := HC.out; simp; omega))).trans (q7 _ _); have o8 := World.ownsRow.kept (HO7.out _ _) g8 (.inr (by simp [Value.ownBlock]; omega)); have B8 := Below.grown (HB7.out _ _) g8 (HB7.out _ _).size (fun j hj => by cases hj; exact hwb); clear tok1) | (at_delete; have _t := tok2; refine wpList_delete_own _ rfl _ _ 74 2 rfl 4 mapLaw' Try.underlying74 _ b l _ rfl (by exact hm8) _ _ rfl KB.out ?_; intro w9 hm9 ht9; have g9 := ht9.grown; have r9 := (World.cell?_of_block (g9.block (b + 1) (World.block_lt_of_cell? _ _ r8) (by simp))).trans r8; have o9 := World.ownsRow.kept o8 g9 (.inr (by simp [Value.ownBlock]; omega)); have B9 := Below.grown B8 g9 B8.size (fun j hj => by cases hj; exact hwb); clear tok2; go_frame))
              all_goals go_roundw
              all_goals first | exact ⟨r + 1, _, _, by omega, o9, Lib.hid (HL9.out _), r9, Lib.hid hm9, HT9, HS9, HF9, B9⟩ | (rw [mSize_own hm9, HME.out]; have := HSZ.out; omega) | skip
            · have hTB : (elSt X n r).1 B = false := by cases h : (elSt X n r).1 B; · rfl
                                                        · rw [hTA, h] at hab; exact absurd rfl hab
              rw [hTB] at hbB
              simp only [Bool.not_true, Bool.not_false] at hbB
              have HB1 := Lib.hid hbB
              clear hbB
              have hst := run_store_f32
              go_wp2_with (first | (at_len; refine wpList_len_own _ rfl _ 74 rfl 2 4 Try.underlying74 _ b l _ rfl (by exact HM.out) ?_) | (go_at_call 59; refine HIx.out.mono ?_; rintro e w5 ⟨rfl, B5⟩; have hm5 := Lib.hid (map_below HM.out B5); have ho5 := own_below HOw.out B5; obtain ⟨⟨r0, r1, r2⟩, r3, hB5⟩ := HW.out w5 B5; have B6 := (Below.refl w5.heap.size w5).alloc (Nat.le_refl _) (.cells #[.int .i64 (A : Int), .int .i64 (B : Int), .float .f32 P] 80); have r4 := (B6.cell (p := ⟨b + 1, 0, none⟩) (World.block_lt_of_cell? w5 _ r3)).trans r3; have ho6 := own_below ho5 B6; have hfl5 := own_lt ho5; have c6 := own_cell ho6 hAl; have st := fun q u => own_store ho6 hBl q u; clear B5) | (at_lookup; refine wpList_lookup_own_bool _ rfl _ _ 74 rfl 2 4 mapLaw' Try.underlying74 Try.underlying4 (zeroBool _) b l _ rfl (by exact hm5.out.alloc _) _ _ rfl KB.out ?_; intro c hat; have qc := hat.symm.trans HB1.out; simp only [DataW.lit.injEq, Lit.bool.injEq] at qc; subst qc; clear hat))
              obtain ⟨w6, hw6⟩ : ∃ w6, w6 = w5.alloc (.cells #[.int .i64 (A : Int), .int .i64 (B : Int), .float .f32 P] 80) := ⟨_, rfl⟩
              obtain ⟨c, hc⟩ : ∃ c, c = w5.heap.size := ⟨_, rfl⟩
              have p0 : w6.cell? ⟨c, 0, none⟩ = some (.int .i64 (A : Int)) := by rw [hw6, hc]; simp
              have p1 : w6.cell? ⟨c, 1, none⟩ = some (.int .i64 (B : Int)) := by rw [hw6, hc]; simp
              have p2 : w6.cell? ⟨c, 2, none⟩ = some (.float .f32 P) := by rw [hw6, hc]; simp
              have hm6 := Lib.hid (hm5.out.alloc (.cells #[.int .i64 (A : Int), .int .i64 (B : Int), .float .f32 P] 80))
              have hB6 := hB5.trans (B6.mono hB5.size)
              rw [← hw6] at r4 ho6 c6 st hm6 hB6 ⊢
              rw [← hc]
              have HO6 := Lib.hid ho6
              have HC := Lib.hid (show f < c ∧ b + 1 < c from ⟨by omega, by have := World.block_lt_of_cell? w5 _ r3; simp at this; omega⟩)
              clear hw6 hc B6 ho5 hm5 r3 r0 r1 r2 hfl5 HIx HW ho6 hB5 hcell hst
              have KA := Lib.hid (keyOf_int_mk Try.underlying2 (a := (A : Int)) (WalkArith.wf_i64 (by omega)))
              have r7 := fun k u => (World.cell?_setCell_other (w6.drewN k) ⟨f, B, none⟩ ⟨b + 1, 0, none⟩ (.float .f32 u) (by intro e; injection e with e1; omega)).trans r4
              have p7 := fun k u => (World.cell?_setCell_other (w6.drewN k) ⟨f, B, none⟩ ⟨c, 0, none⟩ (.float .f32 u) (by intro e; injection e with e1; have := HC.out; omega)).trans p0
              have q7 := fun k u => (World.cell?_setCell_other (w6.drewN k) ⟨f, B, none⟩ ⟨c, 1, none⟩ (.float .f32 u) (by intro e; injection e with e1; have := HC.out; omega)).trans p1
              have HM7 := Lib.hid (fun k u => (map_drew' hm6.out k).setCell (a := ⟨f, B, none⟩) (show b ≠ f by omega) (.float .f32 u))
              have HO7 := Lib.hid (fun k u => own_stored (own_drew HO6.out k) B u)
              have HB7 := Lib.hid (fun k u => Below.setCell (Below.drewN hB6 k) (p := ⟨f, B, none⟩) hfg (.float .f32 u))
              have HSZ := Lib.hid (del_size (HM.out.tidy mapLaw') HO.out hAl hBl hne hab)
              have HO9 := Lib.hid ((HO.out.del (a := A)).del (a := B))
              have hst1 : elSt X n (r + 1) = elDo (X j) (elSt X n r) := elIn_some hF
              have HT9 := Lib.hid (show HOpen l (elSt X n (r + 1)).1 _ from HO9.out.congr fun x => by
                rw [hst1, elDo_both (by rw [hA, hB]; exact hab), hA, hB, Int.toNat_natCast, Int.toNat_natCast, Bool.or_assoc])
              have HL9 := Lib.hid (fun s => show LikeP (fun y => if y = B then pick .f32 (fbin .add .f32 (Z A) P) s else Z y) (elSt X n (r + 1)).2 l from by
                obtain ⟨t, ht⟩ := HL.out A (by omega)
                have e : (elSt X n (r + 1)).2 = fun y => if y = B then fbin .add .f32 ((elSt X n r).2 A) P else (elSt X n r).2 y := by
                  rw [hst1]
                  unfold elDo
                  rw [hA, hB, hP, Int.toNat_natCast, Int.toNat_natCast, hTA]
                  rfl
                rw [e, ht, fbin_pick_l]
                exact LikeP.set HL.out rfl)
              have HF9 := Lib.hid (fun i (hi : i < r + 1) => show (elFirst X (elSt X n i).1 n).isSome = true by
                by_cases h : i < r
                · exact HF.out i h
                · rw [show i = r by omega, hF]; rfl)
              have HS9 := Lib.hid (show Maps.size ((D.del (.int .i64 (A : Int))).del (.int .i64 (B : Int))) + (r + 1) + 1 = l by have := HSZ.out; have := HS.out; omega)
              have HME := Lib.hid (mSize_own HM.out)
              have tok1 : True := trivial
              have tok2 : True := trivial
              clear hab hF hst1 hm6 HO6 HO9 HL HF HS hB6
              have hadd := run_add32
              go_wp2_with fail
              go_region
              all_goals go_wp2_with (first | (at_delete; have _t := tok1; refine wpList_delete_own _ rfl _ _ 74 2 rfl 4 mapLaw' Try.underlying74 _ b l _ rfl (by exact HM7.out _ _) _ _ rfl KA.out ?_; intro w8 hm8 ht8; have g8 := ht8.grown; have r8 := (World.cell?_of_block (g8.block (b + 1) (World.block_lt_of_cell? _ _ (r7 _ _)) (by simp))).trans (r7 _ _); have q8 := (World.cell?_of_block (g8.block c (World.block_lt_of_cell? _ _ (q7 _ _)) (by have := HC.out; simp; omega))).trans (q7 _ _); have o8 := World.ownsRow.kept (HO7.out _ _) g8 (.inr (by simp [Value.ownBlock]; omega)); have B8 := Below.grown (HB7.out _ _) g8 (HB7.out _ _).size (fun j hj => by cases hj; exact hwb); clear tok1) | (at_delete; have _t := tok2; refine wpList_delete_own _ rfl _ _ 74 2 rfl 4 mapLaw' Try.underlying74 _ b l _ rfl (by exact hm8) _ _ rfl KB.out ?_; intro w9 hm9 ht9; have g9 := ht9.grown; have r9 := (World.cell?_of_block (g9.block (b + 1) (World.block_lt_of_cell? _ _ r8) (by simp))).trans r8; have o9 := World.ownsRow.kept o8 g9 (.inr (by simp [Value.ownBlock]; omega)); have B9 := Below.grown B8 g9 B8.size (fun j hj => by cases hj; exact hwb); clear tok2; go_frame))
              all_goals go_roundw
              all_goals first | exact ⟨r + 1, _, _, by omega, o9, Lib.hid (HL9.out _), r9, Lib.hid hm9, HT9, HS9, HF9, B9⟩ | (rw [mSize_own hm9, HME.out]; have := HSZ.out; omega) | skip
        · have hr' : r = l - 1 := by omega
          subst hr'
          have hz : ¬ (0 : Int) < ((Maps.size D : Nat) : Int) := by have := HS.out; omega
          have hall := elAll_yes HF.out
          have HLk := Lib.hid HL.out
          have hf : finL Z l = ok := by rw [ho.out, hall, finL_like HL.out.like, Bool.true_and]
          clear hall
          cases ok
          · have e : p = 0 := by rw [hp.out]; rfl
            subst e
            go_wp2_with (first | (at_len; refine wpList_len_own _ rfl _ 74 rfl 2 4 Try.underlying74 _ b l _ rfl (by exact HM.out) ?_) | (go_at_call 61; refine (onlyFinite_any _ w.heap.size _ Z _ (by exact hown) (by omega)).mono ?_; rintro e w9 ⟨he, q, rfl⟩; rw [hf] at he; subst he))
            go_ret2
            exact OutRet.no (Below.drewN hBk _)
          · have e : p = l := by rw [hp.out]; rfl
            subst e
            go_wp2_with (first | (at_len; refine wpList_len_own _ rfl _ 74 rfl 2 4 Try.underlying74 _ b _ _ rfl (by exact HM.out) ?_) | (go_at_call 61; refine (onlyFinite_any _ w.heap.size _ Z _ (by exact hown) (by omega)).mono ?_; rintro e w9 ⟨he, q, rfl⟩; rw [hf] at he; subst he))
            go_ret2
            exact ⟨_, Z, rfl, own_drew hown _, HLk.out.like, Below.drewN hBk _⟩
end Go.Proofs.Ytogmcinaoemnpab
