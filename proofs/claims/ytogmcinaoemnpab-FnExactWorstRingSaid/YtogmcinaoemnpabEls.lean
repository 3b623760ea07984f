
/- The levels that edges tell: as the model tells them. -/
import Derived.Test.YtogmcinaoemnpabEli
namespace Go.Proofs.Ytogmcinaoemnpab
set_option linter.all false
open Go Go.ChangeShapes Go.WideShapes Go.ChangeAt Go.RowKit

def rowBl (X : Nat → Bool) (n : Nat) : List Value := (List.range n).map fun i => .bool (X i)
theorem rowBl_length (X : Nat → Bool) (n : Nat) : (rowBl X n).length = n := by simp [rowBl]
theorem rowBl_get (X : Nat → Bool) (n i : Nat) (h : i < n) : (rowBl X n)[i]? = some (.bool (X i)) := by simp [rowBl, h]
theorem rowBl_congr {X Y : Nat → Bool} {n : Nat} (h : ∀ i, i < n → X i = Y i) : rowBl X n = rowBl Y n := by
  unfold rowBl; exact List.map_congr_left fun i hi => by rw [h i (List.mem_range.1 hi)]
theorem rowBl_set (X : Nat → Bool) (n j : Nat) (u : Bool) : (rowBl X n).set j (.bool u) = rowBl (fun i => if i = j then u else X i) n := by
  apply List.ext_getElem?
  intro i
  by_cases hi : i < n
  · rw [rowBl_get _ _ _ hi, List.getElem?_set]
    by_cases hij : j = i
    · subst hij; simp [rowBl_length, hi]
    · rw [if_neg hij, rowBl_get _ _ _ hi, if_neg (fun e => hij e.symm)]
  · rw [List.getElem?_eq_none (by simp [rowBl_length]; omega), List.getElem?_eq_none (by simp [rowBl_length]; omega)]
theorem infoBl : (Try.prog.info? 4).map (fun i => (i.zero, i.size, i.bytes)) = some (some (.bool false), 1, 1) := by kernel_rfl
theorem madeBl (n : Nat) : (madeCells (Value.bool false).cells (n * 1)).toList = rowBl (fun _ => false) n := by
  rw [Nat.mul_one]
  show (madeCells #[Value.bool false] n).toList = _
  rw [toList_madeCells_one]
  apply List.ext_getElem?
  intro i
  by_cases hi : i < n
  · rw [rowBl_get _ _ _ hi]; simp [hi]
  · rw [List.getElem?_eq_none (by simp; omega), List.getElem?_eq_none (by simp [rowBl_length]; omega)]
theorem ownBl_cell {w : World} {B e g n cap k : Nat} {X : Nat → Bool} (h : w.ownsRow B e 1 (.slice (some ⟨g, 0, none⟩) n cap) n (rowBl X n)) (hk : k < n) : w.cell? ⟨g, k, none⟩ = some (.bool (X k)) := by
  rw [h.cellAt k (by omega), rowBl_get _ _ _ hk]
theorem ownBl_stored {w : World} {B e g n cap : Nat} {X : Nat → Bool} (h : w.ownsRow B e 1 (.slice (some ⟨g, 0, none⟩) n cap) n (rowBl X n)) (k : Nat) (u : Bool) :
    (w.setCell ⟨g, k, none⟩ (.bool u)).ownsRow B e 1 (.slice (some ⟨g, 0, none⟩) n cap) n (rowBl (fun j => if j = k then u else X j) n) := by
  have := (h.stored k (.bool u)).1
  rw [rowBl_set] at this
  exact this
theorem ownBl_cellf {w : World} {B e g n cap : Nat} {xs : List Value} (h : w.ownsRow B e 1 (.slice (some ⟨g, 0, none⟩) n cap) n xs) (k : Nat) : w.frozen? ⟨g, k, none⟩ = false := h.frozenAt k
theorem own_other' {w : World} {B e g g' n cap : Nat} {xs : List Value} (h : w.ownsRow B e 1 (.slice (some ⟨g, 0, none⟩) n cap) n xs) (hg : g ≠ g') (k u : Nat) : (w.setCell ⟨g', k, none⟩ (.float .f32 u)).ownsRow B e 1 (.slice (some ⟨g, 0, none⟩) n cap) n xs := own_other h hg ((Only.refl g' w).setCell k _)
theorem own_other'' {w : World} {B e g g' n cap : Nat} {xs : List Value} (h : w.ownsRow B e 1 (.slice (some ⟨g, 0, none⟩) n cap) n xs) (hg : g ≠ g') (k : Nat) (u : Bool) : (w.setCell ⟨g', k, none⟩ (.bool u)).ownsRow B e 1 (.slice (some ⟨g, 0, none⟩) n cap) n xs := own_other h hg ((Only.refl g' w).setCell k _)
set_option maxRecDepth 100000 in
set_option maxHeartbeats 12800000 in
theorem specEl_yes (L : Nat) (xa : Option Addr) (n cap : Nat) (X : Nat → Ed) (w : World) (hX : RdE w xa n X) (hk : okEds (L : Int) X n = true) (ok : Bool) (p : Nat)
    (ho : Hid (ok = (elAll X n (L - 1) && finL (elSt X n (L - 1)).2 L))) (hp : Hid (p = if ok = true then L else 0)) :
    Calls Try.prog 27 #[.int .i64 (L : Int), .slice xa n cap] w (OutRet (elSt X n (L - 1)).2 p ok w) := by
  obtain ⟨hL1, hL2, hn, hE⟩ := okEds_in hk
  obtain ⟨i0, hi, hz0, hz1, hz2⟩ := info_parts infoF
  obtain ⟨i1, hj, hy0, hy1, hy2⟩ := info_parts infoBl
  have hb : i0.bytes * L ≤ 281474976710656 := by rw [hz2]; omega
  have hb1 : i1.bytes * L ≤ 281474976710656 := by rw [hy2]; omega
  have hml : L ≤ maxLen := by unfold maxLen; omega
  have HA := Lib.hid (specEds_any (L : Int) (WalkArith.wf_i64 (by omega)) xa n cap X w hX (by omega) true (Lib.hid hk.symm))
  have HE := Lib.hid hE
  have HX := Lib.hid hX
  have tok1 : True := trivial
  have tok2 : True := trivial
  clear hE hX hk
  go_enter Try.func27, Try.ntmps27
  go_wp2_with (first | (go_at_call 55; refine HA.out.mono ?_; rintro e w1 ⟨rfl, q, rfl⟩) | (at_make; have _t := tok1; refine wpList_make_full _ rfl _ _ 35 rfl w.heap.size 36 i0 (.float .f32 0) 1 Try.underlying35 hi hz0 hz1 _ _ _ _ L rfl rfl rfl rfl hb hml (by simp) ?_; intro w2 hown hgr; have hB2 := (Below.drewN (Below.refl _ w) q).grown hgr (Nat.le_refl _) (fun _ h => by cases h); clear tok1) | (at_make; have _t := tok2; refine wpList_make_full _ rfl _ _ 77 rfl w.heap.size 4 i1 (.bool false) 1 Try.underlying77 hj hy0 hy1 _ _ _ _ L rfl rfl rfl rfl hb1 hml (by exact hB2.size) ?_; intro w3 hownT hgr3; rw [madeBl] at hownT; have hc0 := ownBl_cell hownT (show 0 < L by omega); have hf0 := hownT.frozenAt 0; clear tok2))
  obtain ⟨f, hf⟩ : ∃ f, f = w.heap.size := ⟨_, rfl⟩
  obtain ⟨t, ht⟩ : ∃ t, t = w2.heap.size := ⟨_, rfl⟩
  obtain ⟨w4, hw4⟩ : ∃ w4, w4 = w3.setCell ⟨t, 0, none⟩ (.bool true) := ⟨_, rfl⟩
  have hown' : w2.ownsRow w.heap.size 36 1 (.slice (some ⟨f, 0, none⟩) L L) L (rowOf (fun _ => 0) L) := by rw [madeF'] at hown; rw [hf]; exact hown
  have hft : f < t := by rw [ht]; exact own_lt hown'
  have hB4 : Below w2.heap.size w2 w4 := by rw [hw4, ht]; exact ((Below.refl _ w2).grown hgr3 (Nat.le_refl _) (fun _ h => by cases h)).setCell (p := ⟨w2.heap.size, 0, none⟩) (Nat.le_refl _) _
  have hown4 := own_below hown' hB4
  have hB : Below w.heap.size w w4 := hB2.trans (hB4.mono hB2.size)
  have hT4 : w4.ownsRow w.heap.size 4 1 (.slice (some ⟨t, 0, none⟩) L L) L (rowBl (elSt X n 0).1 L) := by
    rw [hw4, ht, show rowBl (elSt X n 0).1 L = rowBl (fun j => if j = 0 then true else false) L from rowBl_congr fun j _ => by show decide (j = 0) = _; by_cases h : j = 0 <;> simp [h]]
    exact ownBl_stored hownT 0 true
  have hfg : w.heap.size ≤ f := by omega
  have htg : w.heap.size ≤ t := by omega
  rw [← ht]
  rw [← hw4]
  rw [← hf]
  clear hw4 hown hown' hgr hgr3 hB2 hownT hc0 hf0 hB4 hb hb1 hml hi hz0 hz1 hz2 hj hy0 hy1 hy2 ht hf
  go_loopw [8] (fun cn wr => ∃ (r : Nat) (Z : Nat → Nat), r ≤ L - 1 ∧ cn = .int .i64 ((r : Int) + 1) ∧ wr.ownsRow w.heap.size 36 1 (.slice (some ⟨f, 0, none⟩) L L) L (rowOf Z L) ∧ Hid (LikeP Z (elSt X n r).2 L) ∧ wr.ownsRow w.heap.size 4 1 (.slice (some ⟨t, 0, none⟩) L L) L (rowBl (elSt X n r).1 L) ∧ Hid (∀ i, i < r → (elFirst X (elSt X n i).1 n).isSome = true) ∧ Below w.heap.size w wr) (fun cn _ => L - (intOf cn).toNat)
  case atStart => exact ⟨0, _, Nat.zero_le _, by go_num, hown4, Lib.hid (fun j hj => ⟨0, by show (0 : Nat) = pick .f32 0 0; decide +kernel⟩), hT4, Lib.hid (fun i hi => absurd hi (Nat.not_lt_zero _)), hB⟩
  case round =>
    obtain ⟨r, Z, hr, rfl, hout, HL, htold, HF, hBk⟩ := hrel
    clear hown4 hT4 hB
    by_cases hlt : r < L - 1
    · have hrl : (r : Int) + 1 < (L : Int) := by omega
      go_wp2
      go_loopw [9, 30] (fun fo ix wr => ∃ (i : Nat) (Z2 : Nat → Nat), i ≤ n ∧ ix = .int .i64 (i : Int) ∧ fo = .bool (elFirst X (elSt X n r).1 i).isSome ∧ wr.ownsRow w.heap.size 36 1 (.slice (some ⟨f, 0, none⟩) L L) L (rowOf Z2 L) ∧ Hid (LikeP Z2 (elIn X (elSt X n r) i).2 L) ∧ wr.ownsRow w.heap.size 4 1 (.slice (some ⟨t, 0, none⟩) L L) L (rowBl (elIn X (elSt X n r) i).1 L) ∧ Below w.heap.size w wr) (fun _ ix _ => n - (intOf ix).toNat)
      case atStart => exact ⟨0, _, Nat.zero_le _, rfl, rfl, hout, HL, htold, hBk⟩
      case round =>
        clear hout htold hBk
        obtain ⟨i, Z2, hin, rfl, rfl, hout, HL2, htold, hBi⟩ := hrel
        by_cases hlt2 : i < n
        · obtain ⟨e1, e2, e3, e4, e5⟩ := HE.out i hlt2
          obtain ⟨A, hA⟩ : ∃ A : Nat, (X i).a = A := ⟨(X i).a.toNat, by omega⟩
          obtain ⟨B, hB⟩ : ∃ B : Nat, (X i).b = B := ⟨(X i).b.toNat, by omega⟩
          obtain ⟨P, hP⟩ : ∃ P : Nat, (X i).p = P := ⟨_, rfl⟩
          rw [hA] at e1 e2 e5
          rw [hB] at e3 e4 e5
          have hAl : A < L := by omega
          have hBl : B < L := by omega
          have hne : A ≠ B := by omega
          obtain ⟨xb, xo, hxa, hcx⟩ := id HX.out
          have e := hxa (by omega)
          subst e
          have hxl := World.block_lt_of_cell? w _ (hcx i hlt2).1
          have hed := EdAt.below (hcx i hlt2) hBi
          simp only [EdAt, hA, hB, hP] at hed
          obtain ⟨r0, r1, r2⟩ := hed
          have hxf : xb ≠ f := by simp at hxl; omega
          clear e1 e2 e3 e4 e5 hxa hcx hxl
          cases hF : elFirst X (elSt X n r).1 i with
          | some j =>
            rw [show (some j : Option Nat).isSome = true from rfl]
            have HS := Lib.hid (elFirst_succ_some hF)
            have hI : elIn X (elSt X n r) (i + 1) = elIn X (elSt X n r) i := by rw [elIn_some HS.out, elIn_some hF]
            have HI := Lib.hid hI
            clear hF hI
            go_wp2_with fail
            go_quiet (fail)
            go_wp2
            go_roundw
            all_goals first | (simp [intOf]; omega) | exact ⟨i + 1, _, by omega, by go_num, by rw [HS.out]; rfl, own_drew hout _, by rw [HI.out]; exact HL2, by rw [HI.out]; exact own_drew htold _, Below.drewN hBi _⟩
          | none =>
            rw [show (none : Option Nat).isSome = false from rfl]
            rw [elIn_none hF] at HL2 htold
            have tA := ownBl_cell htold hAl
            have tB := ownBl_cell htold hBl
            have hS := elFirst_succ_none hF
            rw [hA, hB, Int.toNat_natCast, Int.toNat_natCast] at hS
            by_cases hab : (elSt X n r).1 A = (elSt X n r).1 B
            · rw [if_pos hab] at hS
              have HS := Lib.hid hS
              have hI : elIn X (elSt X n r) (i + 1) = elSt X n r := elIn_none hS
              have HI := Lib.hid hI
              have hq : ((elSt X n r).1 A == (elSt X n r).1 B) = true := by rw [hab]; simp
              clear hF hI hS hab
              go_wp2_with fail
              go_quiet (fail)
              go_wp2
              go_roundw
              all_goals first | (simp [intOf]; omega) | exact ⟨i + 1, _, by omega, by go_num, by rw [HS.out]; rfl, own_drew hout _, by rw [HI.out]; exact HL2, by rw [HI.out]; exact own_drew htold _, Below.drewN hBi _⟩
            · rw [if_neg hab] at hS
              have HS := Lib.hid hS
              clear hF hS
              cases hTA : (elSt X n r).1 A
              · have hTB : (elSt X n r).1 B = true := by cases h : (elSt X n r).1 B; · rw [hTA, h] at hab; exact absurd rfl hab
                                                         · rfl
                rw [hTA] at tA
                rw [hTB] at tB
                have c6 := own_cell hout hBl
                have st := fun q u => own_store hout hAl q u
                have hrun := run_sub32
                have s7 := fun k u => (World.cell?_setCell_other (wr.drewN k) ⟨f, A, none⟩ ⟨t, A, none⟩ (.float .f32 u) (by intro e; injection e with e1; omega)).trans (ownBl_cell htold hAl)
                have f7 := fun k u => (ownBl_cellf (own_other' (own_drew htold k) (show t ≠ f by omega) A u) A)
                have x7 := fun k u => (World.cell?_setCell_other (wr.drewN k) ⟨f, A, none⟩ ⟨xb, xo + i * 3, none⟩ (.float .f32 u) (by intro e; injection e with e1; omega)).trans r0
                have y7 := fun k u => (World.cell?_setCell_other (wr.drewN k) ⟨f, A, none⟩ ⟨xb, xo + i * 3 + 1, none⟩ (.float .f32 u) (by intro e; injection e with e1; omega)).trans r1
                have HO9 := Lib.hid (fun k u => own_other'' (own_stored (own_drew hout k) A u) (show f ≠ t by omega) A true)
                have HT9 := Lib.hid (fun k u => ownBl_stored (own_other' (own_drew htold k) (show t ≠ f by omega) A u) A true)
                have HB9 := Lib.hid (fun k u => Below.setCell (Below.setCell (Below.drewN hBi k) (p := ⟨f, A, none⟩) hfg (.float .f32 u)) (p := ⟨t, A, none⟩) htg (.bool true))
                have hI : elIn X (elSt X n r) (i + 1) = elDo (X i) (elSt X n r) := elIn_some HS.out
                have HTE := Lib.hid (show rowBl (fun x => if x = A then true else (elSt X n r).1 x) L = rowBl (elIn X (elSt X n r) (i + 1)).1 L by
                  rw [hI]
                  unfold elDo
                  rw [hA, hB, hP, Int.toNat_natCast, Int.toNat_natCast, hTA]
                  rfl)
                have HL9 := Lib.hid (fun s => show LikeP (fun y => if y = A then pick .f32 (fbin .sub .f32 (Z2 B) P) s else Z2 y) (elIn X (elSt X n r) (i + 1)).2 L from by
                  obtain ⟨tt, ht⟩ := HL2.out B (by omega)
                  have e : (elIn X (elSt X n r) (i + 1)).2 = fun y => if y = A then fbin .sub .f32 ((elSt X n r).2 B) P else (elSt X n r).2 y := by
                    rw [hI]
                    unfold elDo
                    rw [hA, hB, hP, Int.toNat_natCast, Int.toNat_natCast, hTA]
                    rfl
                  rw [e, ht, fbin_pick_l]
                  exact LikeP.set HL2.out rfl)
                rw [HTE.out] at HT9
                clear hI hab HTE
                go_wp2_with fail
                go_quiet (fail)
                go_wp2_with fail
                go_region
                all_goals go_wp2
                all_goals go_roundw
                all_goals first | (simp [intOf]; omega) | exact ⟨i + 1, _, by omega, by go_num, by rw [HS.out]; rfl, HO9.out _ _, Lib.hid (HL9.out _), HT9.out _ _, HB9.out _ _⟩
              · have hTB : (elSt X n r).1 B = false := by cases h : (elSt X n r).1 B; · rfl
                                                          · rw [hTA, h] at hab; exact absurd rfl hab
                rw [hTA] at tA
                rw [hTB] at tB
                have c6 := own_cell hout hAl
                have st := fun q u => own_store hout hBl q u
                have hrun := run_add32
                have s7 := fun k u => (World.cell?_setCell_other (wr.drewN k) ⟨f, B, none⟩ ⟨t, B, none⟩ (.float .f32 u) (by intro e; injection e with e1; omega)).trans (ownBl_cell htold hBl)
                have f7 := fun k u => (ownBl_cellf (own_other' (own_drew htold k) (show t ≠ f by omega) B u) B)
                have x7 := fun k u => (World.cell?_setCell_other (wr.drewN k) ⟨f, B, none⟩ ⟨xb, xo + i * 3, none⟩ (.float .f32 u) (by intro e; injection e with e1; omega)).trans r0
                have y7 := fun k u => (World.cell?_setCell_other (wr.drewN k) ⟨f, B, none⟩ ⟨xb, xo + i * 3 + 1, none⟩ (.float .f32 u) (by intro e; injection e with e1; omega)).trans r1
                have HO9 := Lib.hid (fun k u => own_other'' (own_stored (own_drew hout k) B u) (show f ≠ t by omega) B true)
                have HT9 := Lib.hid (fun k u => ownBl_stored (own_other' (own_drew htold k) (show t ≠ f by omega) B u) B true)
                have HB9 := Lib.hid (fun k u => Below.setCell (Below.setCell (Below.drewN hBi k) (p := ⟨f, B, none⟩) hfg (.float .f32 u)) (p := ⟨t, B, none⟩) htg (.bool true))
                have hI : elIn X (elSt X n r) (i + 1) = elDo (X i) (elSt X n r) := elIn_some HS.out
                have HTE := Lib.hid (show rowBl (fun x => if x = B then true else (elSt X n r).1 x) L = rowBl (elIn X (elSt X n r) (i + 1)).1 L by
                  rw [hI]
                  unfold elDo
                  rw [hA, hB, hP, Int.toNat_natCast, Int.toNat_natCast, hTA]
                  rfl)
                have HL9 := Lib.hid (fun s => show LikeP (fun y => if y = B then pick .f32 (fbin .add .f32 (Z2 A) P) s else Z2 y) (elIn X (elSt X n r) (i + 1)).2 L from by
                  obtain ⟨tt, ht⟩ := HL2.out A (by omega)
                  have e : (elIn X (elSt X n r) (i + 1)).2 = fun y => if y = B then fbin .add .f32 ((elSt X n r).2 A) P else (elSt X n r).2 y := by
                    rw [hI]
                    unfold elDo
                    rw [hA, hB, hP, Int.toNat_natCast, Int.toNat_natCast, hTA]
                    rfl
                  rw [e, ht, fbin_pick_l]
                  exact LikeP.set HL2.out rfl)
                rw [HTE.out] at HT9
                clear hI hab HTE
                go_wp2_with fail
                go_quiet (fail)
                go_wp2_with fail
                go_region
                all_goals go_wp2
                all_goals go_roundw
                all_goals first | (simp [intOf]; omega) | exact ⟨i + 1, _, by omega, by go_num, by rw [HS.out]; rfl, HO9.out _ _, Lib.hid (HL9.out _), HT9.out _ _, HB9.out _ _⟩
        · have e : i = n := by omega
          subst e
          cases hF : elFirst X (elSt X i r).1 i with
          | none =>
            rw [show (none : Option Nat).isSome = false from rfl]
            have e : ok = false := by rw [ho.out, elAll_no hlt hF]; rfl
            subst e
            have e : p = 0 := by rw [hp.out]; rfl
            subst e
            clear hF
            go_wp2
            go_ret2
            exact OutRet.no hBi
          | some j =>
            rw [show (some j : Option Nat).isSome = true from rfl]
            have HF2 := Lib.hid (fun k (hk : k < r + 1) => show (elFirst X (elSt X i k).1 i).isSome = true by
              by_cases h : k < r
              · exact HF.out k h
              · rw [show k = r by omega, hF]; rfl)
            clear hF
            go_wp2
            go_roundw
            all_goals first | (simp [intOf]; omega) | exact ⟨r + 1, _, by omega, by go_num, hout, HL2, htold, HF2, hBi⟩
    · have e : r = L - 1 := by omega
      subst e
      have hall := elAll_yes HF.out
      have hnl : ¬ (((L - 1 : Nat) : Int) + 1 < (L : Int)) := by omega
      have hfin : finL Z L = ok := by rw [ho.out, hall, finL_like HL.out.like, Bool.true_and]
      have HFin := Lib.hid hfin
      have HLk := Lib.hid HL.out.like
      have HOu := Lib.hid hout
      clear hall hfin htold hout HF HL
      go_wp2
      go_loopw [114] (fun ix wz => ∃ (k q : Nat), k ≤ L ∧ ix = .int .i64 (k : Int) ∧ Hid (∀ j, j < k → isFin .f32 (Z j) = true) ∧ wz = wr.drewN q) (fun ix _ => L - (intOf ix).toNat)
      case atStart => exact ⟨0, 0, Nat.zero_le _, rfl, Lib.hid (fun _ h => absurd h (Nat.not_lt_zero _)), rfl⟩
      case round =>
        obtain ⟨k, q2, hk, rfl, HZ, rfl⟩ := hrel
        by_cases hlt2 : k < L
        · have c1 := own_cell HOu.out hlt2
          cases hz : isFin .f32 (Z k)
          · have e : ok = false := by rw [← HFin.out, finL_no hlt2 hz]
            subst e
            have e : p = 0 := by rw [hp.out]; rfl
            subst e
            go_wp2_with (first | (go_at_call 56; refine (l01Finite_any _ _).mono ?_; rintro e w' ⟨rfl, q, rfl⟩))
            go_ret2
            exact OutRet.no (Below.drewN hBk _)
          · have HZ2 := Lib.hid (show ∀ j, j < k + 1 → isFin .f32 (Z j) = true from fun j hj => by
              by_cases hj' : j < k
              · exact HZ.out j hj'
              · rw [show j = k by omega]; exact hz)
            go_wp2_with (first | (go_at_call 56; refine (l01Finite_any _ _).mono ?_; rintro e w' ⟨rfl, q, rfl⟩))
            go_roundw
            all_goals first | (simp [intOf]; omega) | exact ⟨k + 1, _, by omega, by go_num, HZ2, by first | rfl | (rw [World.drewN_drewN])⟩
        · have e : k = L := by omega
          subst e
          have e : ok = true := by rw [← HFin.out]; exact finL_yes HZ.out
          subst e
          have e : p = k := by rw [hp.out]; rfl
          subst e
          go_wp2
          go_ret2
          exact ⟨_, Z, rfl, own_drew HOu.out _, HLk.out, Below.drewN hBk _⟩
end Go.Proofs.Ytogmcinaoemnpab
