
/- Rows that are solved by steps, as the model does it. -/
import Derived.Test.YtogmcinaoemnpaaMsv
import Derived.Test.YtogmcinaoemnpaaMsv
import Derived.Deep.Cut
import Derived.Deep.DeepCutAuto
namespace Go.Proofs.Ytogmcinaoemnpaa
set_option linter.all false
open Go Go.ChangeShapes Go.WideShapes Go.ChangeAt Go.RowKit

theorem mul32_runT (t : TypeId) (x y : Nat) (w : World) : (binOp .mul t (.float .f32 x) (.float .f32 y)).run Try.prog w = .ok (.float .f32 (pick .f32 (fbin .mul .f32 x y) (sdb w .f32 x y))) (w.drewN (nd .f32 (fbin .mul .f32 x y))) := run_binop rfl t .f32 x y w
theorem run_store_s2 (a : Addr) (xa : Option Addr) (n c : Nat) (m : Mode) (w : World) : (store a (.slice xa n c) m).run Try.prog w = stored Try.prog w a (.slice xa n c) m := run_store _ w a _ m rfl
theorem pvM_like {n m : Nat} {V M : Nat → Nat → Nat} (h : LikeM n m V M) {k : Nat} (hk : k < n) (hkm : k < m) : ∀ c, k + 1 + c ≤ n → pvM szF V k c = pvM szF M k c := by
  intro c
  induction c with
  | zero => intro _; rfl
  | succ c ih =>
    intro hc
    obtain ⟨s, e⟩ := h (k + 1 + c) (by omega) k hkm
    have hr := pvM_rng szF M k c
    obtain ⟨t, e2⟩ := h (pvM szF M k c) (by omega) k hkm
    rw [pvM, pvM, ih (by omega), e, e2, szF_pick, szF_pick]
theorem runM_dead {S : Nat → Nat} {n : Nat} {M : Nat → Nat → Nat} {k : Nat} (h : (runM S n M k).2 = false) : ∀ d, (runM S n M (k + d)).2 = false := by
  intro d
  induction d with
  | zero => exact h
  | succ d ih => show ((runM S n M (k + d)).2 && _) = false; rw [ih]; rfl
set_option maxRecDepth 100000 in
set_option maxHeartbeats 12800000 in
theorem l04Solve_any (n B xb rb cap cr : Nat) (R0 C0 : Nat → Nat) (V0 M : Nat → Nat → Nat) (w : World) (h : Sys w B xb rb n R0 C0 V0) (hL : LikeM n (n + 1) V0 M) (hM : Wds M) (hn1 : 1 ≤ n) (hn : n ≤ 64) (hB : B ≤ w.heap.size) :
    Calls Try.prog 47 #[.slice (some ⟨xb, 0, none⟩) n cap, .slice (some ⟨rb, 0, none⟩) n cr] w (SolRet B n (bkW (runM szF n M n).1 n n) ((runM szF n M n).2) w) := by
  have HWd := Lib.hid (fun k => runM_words (S := szF) (n := n) hM k)
  have H0 := Lib.hid (And.intro h hL)
  clear h hL
  go_enter Try.func47, Try.ntmps47
  go_wp2
  go_loopw [7] (fun i wr => ∃ (k : Nat) (R C : Nat → Nat) (V : Nat → Nat → Nat), k ≤ n ∧ i = .int .i64 (k : Int) ∧ Sys wr B xb rb n R C V ∧ LikeM n (n + 1) V (runM szF n M k).1 ∧ (runM szF n M k).2 = true ∧ Below B w wr) (fun i _ => n - (intOf i).toNat)
  case atStart => exact ⟨0, R0, C0, V0, Nat.zero_le _, rfl, H0.out.1, H0.out.2, rfl, Below.refl _ _⟩
  case round =>
    clear H0
    obtain ⟨k, R, C, V, hk, rfl, hMt, hLk, hal, hBk⟩ := hrel
    by_cases hlt : k < n
    · obtain ⟨wo, hwo⟩ : ∃ wo, wo = wr := ⟨_, rfl⟩
      subst hwo
      obtain ⟨M1, hM1⟩ : ∃ M1, M1 = (runM szF n M k).1 := ⟨_, rfl⟩
      have HM1 := Lib.hid hM1
      have hw1 : Wds M1 := by rw [hM1]; exact HWd.out k
      rw [← hM1] at hLk
      have HS := Lib.hid hMt
      have HLk := Lib.hid hLk
      have HWo := Lib.hid (hLk.words hw1)
      have HBk := Lib.hid hBk
      have HAl := Lib.hid hal
      clear hM1 hMt hLk hal hBk
      go_wp2
      go_loopw [8, 9] (fun b i wr => ∃ c q : Nat, k + 1 + c ≤ n ∧ i = .int .i64 ((k + 1 + c : Nat) : Int) ∧ b = .int .i64 ((pvM szF V k c : Nat) : Int) ∧ wr = wo.drewN q) (fun _ i _ => n - (intOf i).toNat)
      case atStart => exact ⟨0, 0, by omega, by simp, rfl, rfl⟩
      case round =>
        obtain ⟨c, q, hc, rfl, rfl, hwr⟩ := hrel
        by_cases hlc : k + 1 + c < n
        · obtain ⟨i, hi⟩ : ∃ i, i = k + 1 + c := ⟨_, rfl⟩
          have HI := Lib.hid hi
          have hb := pvM_rng szF V k c
          have HP : Hid (pvM szF V k (c + 1) = if gtF (szF (V i k)) (szF (V (pvM szF V k c) k)) = true then i else pvM szF V k c) := Lib.hid (by rw [pvM, hi])
          obtain ⟨b, hbv⟩ : ∃ b, b = pvM szF V k c := ⟨_, rfl⟩
          have HBv := Lib.hid hbv
          rw [← hi] at hlc ⊢
          rw [← hbv] at hb HP ⊢
          have hbn : b < n := by omega
          have HZ := Lib.hid hwr
          have r1 : wr.cell? ⟨xb, i, none⟩ = some (.slice (some ⟨R i, 0, none⟩) n (C i)) := by rw [hwr]; exact HS.out.mat.row i hlc
          have r2 : wr.cell? ⟨xb, b, none⟩ = some (.slice (some ⟨R b, 0, none⟩) n (C b)) := by rw [hwr]; exact HS.out.mat.row b hbn
          have r3 : wr.cell? ⟨R i, k, none⟩ = some (.float .f32 (V i k)) := by rw [hwr]; exact HS.out.mat.num i hlc k hlt
          have r4 : wr.cell? ⟨R b, k, none⟩ = some (.float .f32 (V b k)) := by rw [hwr]; exact HS.out.mat.num b hbn k hlt
          have hx1 := HWo.out i hlc k (by omega)
          have hx2 := HWo.out b hbn k (by omega)
          have hin : (i : Int) < (n : Int) := by omega
          have hbi : (b : Int) < (n : Int) := by omega
          have hki : (k : Int) < (n : Int) := by omega
          have ho : ∀ s t, (FloatKind.f32.format.order (pick .f32 (szF (V i k)) s) (pick .f32 (szF (V b k)) t) == some .gt) = gtF (szF (V i k)) (szF (V b k)) := fun s t => by rw [order_pick_l, order_pick_r]; rfl
          obtain ⟨s1, y1⟩ := l02Size_ex _ hx1
          obtain ⟨s2, y2⟩ := l02Size_ex _ hx2
          have HY1 := Lib.hid y1
          have HY2 := Lib.hid y2
          clear hi hbv hb hc hwr y1 y2
          cases hg : gtF (szF (V i k)) (szF (V b k))
          · rw [hg, if_neg (by simp)] at HP
            rw [hg] at ho
            go_wp2_with fail
            go_quiet ((go_at_call 92; first | exact Calls.quiet_of_same (HY1.out _) | exact Calls.quiet_of_same (HY2.out _)))
            all_goals go_wp2
            all_goals go_roundw
            all_goals first | (simp [intOf]; omega) | exact ⟨c + 1, _, by have := HI.out; omega, by have := HI.out; rw [show k + 1 + (c + 1) = i + 1 by omega]; go_num, by rw [HP.out], by rw [HZ.out, World.drewN_drewN]⟩
          · rw [hg, if_pos rfl] at HP
            rw [hg] at ho
            go_wp2_with fail
            go_quiet ((go_at_call 92; first | exact Calls.quiet_of_same (HY1.out _) | exact Calls.quiet_of_same (HY2.out _)))
            all_goals go_wp2
            all_goals go_roundw
            all_goals first | (simp [intOf]; omega) | exact ⟨c + 1, _, by have := HI.out; omega, by have := HI.out; rw [show k + 1 + (c + 1) = i + 1 by omega]; go_num, by rw [HP.out], by rw [HZ.out, World.drewN_drewN]⟩
        · have hcn : c = n - 1 - k := by omega
          have hnl : ¬ ((k + 1 + c : Nat) : Int) < (n : Int) := by omega
          obtain ⟨p, hp⟩ : ∃ p, p = pvM szF M1 k (n - 1 - k) := ⟨_, rfl⟩
          have hp2 : pvM szF V k c = p := by rw [hp, hcn]; exact pvM_like HLk.out hlt (by omega) (n - 1 - k) (by omega)
          have hpr := pvM_rng szF M1 k (n - 1 - k)
          rw [← hp] at hpr
          have hpk : k ≤ p := hpr.1
          have hpn : p < n := by omega
          rw [hp2]
          have HSt := Lib.hid (show runM szF n M (k + 1) = (elm (swp M1 k p) k, !isZF (swp M1 k p k k)) by
            show (elm (swp (runM szF n M k).1 k _) k, (runM szF n M k).2 && _) = _
            rw [HAl.out, ← HM1.out, ← hp]
            rfl)
          have HLs := Lib.hid (HLk.out.swap hlt hpn)
          have hSr : Sys wr B xb rb n R C V := by rw [hwr]; exact HS.out.drew q
          have hBr : Below B w wr := by rw [hwr]; exact Below.drewN HBk.out q
          have HSr := Lib.hid hSr
          have HBr := Lib.hid hBr
          have rk := hSr.mat.row k hlt
          have rp := hSr.mat.row p hpn
          have fk := hSr.mat.rowF k hlt
          have fp := hSr.mat.rowF p hpn
          have hst := run_store_s2
          have hki : (k : Int) < (n : Int) := by omega
          have hpi : (p : Int) < (n : Int) := by omega
          have hc2 : (wr.setCell ⟨xb, p, none⟩ (.slice (some ⟨R k, 0, none⟩) n (C k))).cell? ⟨xb, k, none⟩ = some (.slice (some ⟨R k, 0, none⟩) n (C k)) := by
            by_cases e : k = p
            · rw [← e]; exact World.cell?_setCell_same _ _ _ (by exact hSr.mat.row k hlt)
            · rw [World.cell?_setCell_other _ _ _ _ (by intro e'; injection e' with _ e2; exact e e2.symm)]
              exact hSr.mat.row k hlt
          clear hp hp2 hpr hSr hBr hcn hc hwr
          go_upto_region 14 with (fail)
          obtain ⟨w2, hw2⟩ : ∃ w2, w2 = (wr.setCell ⟨xb, p, none⟩ (.slice (some ⟨R k, 0, none⟩) n (C k))).setCell ⟨xb, k, none⟩ (.slice (some ⟨R p, 0, none⟩) n (C p)) := ⟨_, rfl⟩
          rw [← hw2]
          have hS2 := HSr.out.rows hlt hpn
          rw [← hw2] at hS2
          have hB2 : Below B w w2 := by
            rw [hw2]
            exact (HBr.out.setCell (p := ⟨xb, p, none⟩) HSr.out.mat.base _).setCell (p := ⟨xb, k, none⟩) HSr.out.mat.base _
          have hBR := HSr.out.ge
          have t1 : w2.cell? ⟨rb, p, none⟩ = some (.float .f32 (V p n)) := (hS2.num p hpn).trans (by show some (Value.float .f32 (if n < n then swp V k p p n else V p n)) = _; rw [if_neg (Nat.lt_irrefl n)])
          have t2 : w2.cell? ⟨rb, k, none⟩ = some (.float .f32 (V k n)) := (hS2.num k hlt).trans (by show some (Value.float .f32 (if n < n then swp V k p k n else V k n)) = _; rw [if_neg (Nat.lt_irrefl n)])
          have f1 := hS2.numF k hlt
          have f2 := hS2.numF p hpn
          have hc3 : (w2.setCell ⟨rb, p, none⟩ (.float .f32 (V k n))).cell? ⟨rb, k, none⟩ = some (.float .f32 (V k n)) := by
            by_cases e : k = p
            · rw [← e]; exact World.cell?_setCell_same _ _ _ (by exact t2)
            · rw [World.cell?_setCell_other _ _ _ _ (by intro e'; injection e' with _ e2; exact e e2.symm)]
              exact t2
          have hst2 := run_store_f32
          have HS2 := Lib.hid hS2
          have HB2 := Lib.hid hB2
          clear hw2 rk rp fk fp hc2 hst hS2 hB2
          go_upto_region 17 with (fail)
          obtain ⟨w3, hw3⟩ : ∃ w3, w3 = (w2.setCell ⟨rb, p, none⟩ (.float .f32 (V k n))).setCell ⟨rb, k, none⟩ (.float .f32 (V p n)) := ⟨_, rfl⟩
          rw [← hw3]
          have hM2 := (HS2.out.setR hpn (V k n)).setR hlt (V p n)
          rw [← hw3, swap_right] at hM2
          have hB2 : Below B w w3 := by
            rw [hw3]
            exact (HB2.out.setCell (p := ⟨rb, p, none⟩) hBR _).setCell (p := ⟨rb, k, none⟩) hBR _
          clear hw3 t1 t2 f1 f2 hc3 hst2 HB2 HS2 HSr HBr
          obtain ⟨R2, hR2⟩ : ∃ R2, R2 = (fun i => if i = p then R k else if i = k then R p else R i) := ⟨_, rfl⟩
          obtain ⟨C2, hC2⟩ : ∃ C2, C2 = (fun i => if i = p then C k else if i = k then C p else C i) := ⟨_, rfl⟩
          obtain ⟨V2, hV2⟩ : ∃ V2, V2 = (fun a b => if b ≤ n then swp V k p a b else V a b) := ⟨_, rfl⟩
          obtain ⟨T, hT⟩ : ∃ T, T = swp M1 k p := ⟨_, rfl⟩
          rw [← hR2, ← hC2, ← hV2] at hM2
          have hL2 : LikeM n (n + 1) V2 (swp M1 k p) := fun i hi j hj => by
            obtain ⟨s, e⟩ := HLs.out i hi j hj
            exact ⟨s, by rw [hV2]; show (if j ≤ n then swp V k p i j else V i j) = _; rw [if_pos (by omega)]; exact e⟩
          rw [← hT] at HSt hL2
          have hwT : Wds T := by rw [hT]; exact Wds.swp (by rw [HM1.out]; exact HWd.out k) _ _
          clear hR2 hC2 hV2 hT HLs HM1 HLk HWo HS HBk
          obtain ⟨s0, es0⟩ := hL2 k hlt k (by omega)
          obtain ⟨x, hxv⟩ : ∃ x, x = V2 k k := ⟨_, rfl⟩
          have r1 := hM2.mat.row k hlt
          have r2 := hM2.mat.num k hlt k hlt
          rw [← hxv] at r2 es0
          have hxz : (FloatKind.f32.format.order x 0 == some .eq) = isZF (T k k) := by rw [es0, order_pick_l]; rfl
          clear es0 hxv
          cases hg : isZF (T k k)
          case true =>
            rw [hg] at hxz
            have HD := Lib.hid (show (runM szF n M n).2 = false by
              have := runM_dead (S := szF) (n := n) (M := M) (k := k + 1) (by rw [HSt.out, hg]; rfl) (n - (k + 1))
              rwa [show k + 1 + (n - (k + 1)) = n by omega] at this)
            go_wp2
            go_ret2
            exact .inl ⟨HD.out, rfl, hB2⟩
          case false =>
            rw [hg] at hxz
            have HSt := Lib.hid (show runM szF n M (k + 1) = (elm T k, true) by rw [HSt.out, hg]; rfl)
            have HL2 := Lib.hid (show LikeM n (n + 1) V2 (elP T k (k + 1 + 0) (k + 1)) by rw [Nat.add_zero, elP_start]; exact hL2)
            clear hL2
            go_wp2
            clear r1 r2 hxz
            go_loopw [12] (fun i wr => ∃ (r : Nat) (V : Nat → Nat → Nat), r ≤ n - (k + 1) ∧ i = .int .i64 ((k + 1 + r : Nat) : Int) ∧ Sys wr B xb rb n R2 C2 V ∧ LikeM n (n + 1) V (elP T k (k + 1 + r) (k + 1)) ∧ Below B w wr) (fun i _ => n - (intOf i).toNat)
            case atStart => exact ⟨0, V2, Nat.zero_le _, by simp, hM2, HL2.out, hB2⟩
            case round =>
              clear hM2 hB2 HL2
              obtain ⟨r, V, hr, rfl, hMr, hLr, hBr⟩ := hrel
              by_cases hlr : r < n - (k + 1)
              · obtain ⟨wp, hwp⟩ : ∃ wp, wp = wr := ⟨_, rfl⟩
                subst hwp
                have haN : k + 1 + r < n := by omega
                obtain ⟨a, ha⟩ : ∃ a, a = k + 1 + r := ⟨_, rfl⟩
                have HA := Lib.hid ha
                rw [← ha] at hLr haN ⊢
                have r1 := hMr.mat.row a haN
                have r2 := hMr.mat.row k hlt
                obtain ⟨s1, e1⟩ := hLr a haN k (by omega)
                obtain ⟨s2, e2⟩ := hLr k hlt k (by omega)
                rw [elP_old T (by omega)] at e1 e2
                have r3 := hMr.mat.num a haN k hlt
                have r4 := hMr.mat.num k hlt k hlt
                rw [e1] at r3
                rw [e2] at r4
                have hp := fun op => fbin_pick_l op .f32
                have hq := fun op => fbin_pick_r op .f32
                have q1 := run_quo32
                obtain ⟨Q, hQ⟩ : ∃ Q, Q = fbin .quo .f32 (T a k) (T k k) := ⟨_, rfl⟩
                have hQ2 : fbin .quo .f32 (T a k) (T k k) = Q := hQ.symm
                have HQ := Lib.hid hQ
                have HMr := Lib.hid hMr
                have HLr := Lib.hid hLr
                have HBr := Lib.hid hBr
                have hai : (a : Int) < (n : Int) := by omega
                have hki2 : (k : Int) < (n : Int) := by omega
                clear hQ e1 e2 hMr hLr hBr ha
                go_wp2_with fail
                go_region
                generalize hsd : sdb _ _ _ _ = sQ
                clear hsd
                obtain ⟨wq, hwq⟩ : ∃ wq, wq = wp.drewN (1 + nd .f32 Q) := ⟨_, rfl⟩
                have hMq : Sys wq B xb rb n R2 C2 V := by rw [hwq]; exact HMr.out.drew _
                have hBq : Below B w wq := by rw [hwq]; exact Below.drewN HBr.out _
                rw [← hwq]
                have hkn1 : k + 1 ≤ n := by omega
                clear hwq r1 r2 r3 r4 hQ2 q1
                go_wp2
                go_loopw [14] (fun i wr => ∃ (c : Nat) (V : Nat → Nat → Nat), k + 1 ≤ c ∧ c ≤ n ∧ i = .int .i64 (c : Int) ∧ Sys wr B xb rb n R2 C2 V ∧ LikeM n (n + 1) V (elP T k a c) ∧ Below B w wr) (fun i _ => n - (intOf i).toNat)
                case atStart => exact ⟨k + 1, V, Nat.le_refl _, hkn1, by simp, hMq, HLr.out, hBq⟩
                case round =>
                  clear hMq hBq
                  obtain ⟨c, Vc, hc1, hc2, rfl, hMc, hLc, hBc⟩ := hrel
                  have hka : k < a := by have := HA.out; omega
                  by_cases hlc : c < n
                  · obtain ⟨wv, hwv⟩ : ∃ wv, wv = wr := ⟨_, rfl⟩
                    subst hwv
                    have t0 := hMc.mat.row a haN
                    have t1 := hMc.mat.row k hlt
                    obtain ⟨s1, e1⟩ := hLc a haN c (by omega)
                    obtain ⟨s2, e2⟩ := hLc k hlt c (by omega)
                    rw [elP_old T (by omega)] at e1 e2
                    have t2 := hMc.mat.num a haN c hlc
                    have t3 := hMc.mat.num k hlt c hlc
                    have t4 := hMc.mat.numF a haN c hlc
                    rw [e1] at t2
                    rw [e2] at t3
                    have m1 := mul32_runT
                    have m2 := run_sub32
                    have st := run_store_f32
                    obtain ⟨E, hE⟩ : ∃ E, E = fbin .sub .f32 (T a c) (fbin .mul .f32 Q (T k c)) := ⟨_, rfl⟩
                    have hE2 : fbin .sub .f32 (T a c) (fbin .mul .f32 Q (T k c)) = E := hE.symm
                    have HE := Lib.hid (show elP T k a (c + 1) = fun i j => if i = a ∧ j = c then E else elP T k a c i j by
                      rw [elP_set T hka (by omega), hE, HQ.out])
                    have HMc := Lib.hid hMc
                    have HLc := Lib.hid hLc
                    have HBc := Lib.hid hBc
                    have HRa := Lib.hid (hMc.mat.ge a haN)
                    have hci : (c : Int) < (n : Int) := by omega
                    clear hE e1 e2 hMc hLc hBc
                    go_wp2_with fail
                    go_region
                    go_wp2
                    go_roundw
                    case measure => simp [intOf]; omega
                    case rel =>
                      refine ⟨c + 1, _, by omega, by omega, by go_num, (HMc.out.drew _).set haN hlc _, ?_, (Below.drewN HBc.out _).setCell (p := ⟨R2 a, c, none⟩) HRa.out _⟩
                      rw [HE.out]
                      exact HLc.out.set a c rfl
                  · have hcm' : c = n := by omega
                    subst hcm'
                    obtain ⟨wv, hwv⟩ : ∃ wv, wv = wr := ⟨_, rfl⟩
                    subst hwv
                    obtain ⟨s1, e1⟩ := hLc a haN c (by omega)
                    obtain ⟨s2, e2⟩ := hLc k hlt c (by omega)
                    rw [elP_old T (by omega)] at e1 e2
                    have t2 := hMc.num a haN
                    have t3 := hMc.num k hlt
                    have t4 := hMc.numF a haN
                    rw [e1] at t2
                    rw [e2] at t3
                    have m1 := mul32_runT
                    have m2 := run_sub32
                    have st := run_store_f32
                    obtain ⟨E, hE⟩ : ∃ E, E = fbin .sub .f32 (T a c) (fbin .mul .f32 Q (T k c)) := ⟨_, rfl⟩
                    have hE2 : fbin .sub .f32 (T a c) (fbin .mul .f32 Q (T k c)) = E := hE.symm
                    have HE := Lib.hid (show elP T k a (c + 1) = fun i j => if i = a ∧ j = c then E else elP T k a c i j by
                      rw [elP_set T hka (by omega), hE, HQ.out])
                    have HX := Lib.hid (show ∀ Z, LikeM c (c + 1) Z (elP T k a (c + 1)) → LikeM c (c + 1) Z (elP T k (k + 1 + (r + 1)) (k + 1)) from fun Z h => h.congr fun i hi j hj => by rw [elP_next T hj, show a + 1 = k + 1 + (r + 1) by have := HA.out; omega])
                    have HMc := Lib.hid hMc
                    have HLc := Lib.hid hLc
                    have HBc := Lib.hid hBc
                    have HRa := Lib.hid hMc.ge
                    clear hE e1 e2 hMc hLc hBc
                    go_wp2_with fail
                    go_region
                    go_wp2
                    go_roundw
                    case measure => simp [intOf]; have := HA.out; omega
                    case rel =>
                      refine ⟨r + 1, _, by omega, by have := HA.out; rw [show k + 1 + (r + 1) = a + 1 by omega]; go_num, (HMc.out.drew _).setR haN _, HX.out _ ?_, (Below.drewN HBc.out _).setCell (p := ⟨rb, a, none⟩) HRa.out _⟩
                      rw [HE.out]
                      exact HLc.out.set a c rfl
              · have hrn : r = n - (k + 1) := by omega
                have HX := Lib.hid (show LikeM n (n + 1) V (runM szF n M (k + 1)).1 by
                  rw [HSt.out]
                  exact hLr.congr fun i hi j hj => elP_end T (by omega))
                have HY := Lib.hid (show (runM szF n M (k + 1)).2 = true by rw [HSt.out])
                have hnl2 : ¬ ((k + 1 + r : Nat) : Int) < (n : Int) := by omega
                obtain ⟨z, hz⟩ : ∃ z, z = k + 1 + r := ⟨_, rfl⟩
                rw [← hz] at hnl2 ⊢
                clear hLr hrn hz
                go_wp2
                go_roundw
                case rel => exact ⟨k + 1, R2, C2, V, by omega, by go_num, hMr, HX.out, HY.out, hBr⟩
                case measure => simp [intOf]; omega
    · have hkn : k = n := by omega
      obtain ⟨wo, hwo⟩ : ∃ wo, wo = wr := ⟨_, rfl⟩
      subst hwo
      rw [hkn] at hLk hal
      obtain ⟨M1, hM1⟩ : ∃ M1, M1 = (runM szF n M n).1 := ⟨_, rfl⟩
      rw [← hM1] at hLk
      have HM1 := Lib.hid hM1
      have HAl := Lib.hid hal
      have HMt := Lib.hid hMt
      have HLk := Lib.hid hLk
      have HBk := Lib.hid hBk
      have hBo : B ≤ wo.heap.size := Nat.le_trans hB hBk.size
      obtain ⟨i0, hi, hz0, hz1, hz2⟩ := info_parts infoF
      have hb : i0.bytes * n ≤ 281474976710656 := by rw [hz2]; omega
      have hmx : n ≤ maxLen := by unfold maxLen; omega
      have hkn' : ¬ (k : Int) < (n : Int) := by omega
      clear hM1 hal hMt hLk hBk hkn
      go_wp2_with (at_make; refine wpList_make_full _ rfl _ _ 22 rfl wo.heap.size 32 i0 (.float .f32 0) 1 Try.underlying22 hi hz0 hz1 _ _ _ _ n rfl rfl rfl rfl hb hmx (by simp) ?_)
      intro w2 hown hgr
      rw [madeF] at hown
      have hB2 : Below wo.heap.size wo w2 := (Below.refl wo.heap.size wo).grown hgr (by simp) (fun _ h => by cases h)
      clear hgr hb hmx hi hz0 hz1 hz2
      go_wp2
      go_loopw [16] (fun i wr => ∃ (c : Nat) (Y : Nat → Nat), c ≤ n ∧ i = .int .i64 ((n : Int) - 1 - (c : Int)) ∧ wr.ownsRow wo.heap.size 32 1 (.slice (some ⟨wo.heap.size, 0, none⟩) n n) n (rowOf Y n) ∧ LikeP Y (bkW M1 n c) n ∧ Below wo.heap.size wo wr) (fun i _ => (intOf i + 1).toNat)
      case atStart => exact ⟨0, fun _ => 0, Nat.zero_le _, by simp, hown, fun j _ => ⟨0, by show 0 = pick .f32 0 0; rw [pick_nul]⟩, hB2⟩
      case round =>
        clear hown hB2
        obtain ⟨c, Y, hc, rfl, hownY, hLY, hBr⟩ := hrel
        by_cases hlc : c < n
        · obtain ⟨wu, hwu⟩ : ∃ wu, wu = wr := ⟨_, rfl⟩
          subst hwu
          obtain ⟨r, hr⟩ : ∃ r, r = n - 1 - c := ⟨_, rfl⟩
          have hrI : (n : Int) - 1 - (c : Int) = (r : Int) := by omega
          rw [hrI]
          have hrn : r < n := by omega
          have hrn2 : (r : Int) < (n : Int) := by omega
          have hrc : r + 1 + c = n := by omega
          have HRC := Lib.hid hrc
          have HRI := Lib.hid hrI
          have hMr := HMt.out.below hBr
          obtain ⟨s0, e0⟩ := HLk.out r hrn n (by omega)
          have t2 := hMr.num r hrn
          rw [e0] at t2
          obtain ⟨F, hF⟩ : ∃ F, F = bkW M1 n c := ⟨_, rfl⟩
          rw [← hF] at hLY
          have HF := Lib.hid (show bkW M1 n (c + 1) = fun j => if j = r then fbin .quo .f32 (rstW M1 F n r c) (M1 r r) else F j by rw [hr, hF]; rfl)
          have HMr := Lib.hid hMr
          have HOY := Lib.hid hownY
          have HLY := Lib.hid hLY
          have HBr := Lib.hid hBr
          have HL0 := Lib.hid (show pick .f32 (M1 r n) s0 = pick .f32 (rstW M1 F n r 0) s0 from rfl)
          rw [HL0.out] at t2
          clear hr hF hMr hownY hLY hBr e0 hrI hrc
          go_wp2
          go_loopw [17, 18] (fun q i wr => ∃ d mm s : Nat, d ≤ c ∧ i = .int .i64 ((r + 1 + d : Nat) : Int) ∧ q = .float .f32 (pick .f32 (rstW M1 F n r d) s) ∧ wr = wu.drewN mm) (fun _ i _ => n - (intOf i).toNat)
          case atStart => exact ⟨0, 0, s0, Nat.zero_le _, by simp, rfl, rfl⟩
          case round =>
            clear t2
            obtain ⟨d, mm, sd, hd, rfl, rfl, rfl⟩ := hrel
            by_cases hld : d < c
            · obtain ⟨j, hj⟩ : ∃ j, j = r + 1 + d := ⟨_, rfl⟩
              have hjn : j < n := by have := HRC.out; omega
              have HJ := Lib.hid hj
              rw [← hj]
              obtain ⟨s1, e1⟩ := HLk.out r hrn j (by omega)
              obtain ⟨s2, e2⟩ := HLY.out j hjn
              have t1 := HMr.out.mat.row r hrn
              have t3 := HMr.out.mat.num r hrn j hjn
              have t4 := own_cell HOY.out hjn
              rw [e1] at t3
              rw [e2] at t4
              have hp := fun op => fbin_pick_l op .f32
              have hq := fun op => fbin_pick_r op .f32
              have m1 := mul32_runT
              have m2 := run_sub32
              obtain ⟨D, hD⟩ : ∃ D, D = rstW M1 F n r d := ⟨_, rfl⟩
              obtain ⟨E, hE⟩ : ∃ E, E = rstW M1 F n r (d + 1) := ⟨_, rfl⟩
              have hE2 : fbin .sub .f32 D (fbin .mul .f32 (M1 r j) (F j)) = E := by rw [hE, hD, hj]; rfl
              have HE := Lib.hid hE
              rw [← hD]
              have hji : (j : Int) < (n : Int) := by omega
              clear hj hE hD e1 e2
              go_wp2_with fail
              go_region
              go_wp2
              go_roundw
              case measure => simp [intOf]; omega
              case rel =>
                have e3 := HJ.out
                refine ⟨d + 1, _, _, by omega, ?_, by rw [← HE.out], rfl⟩
                rw [show r + 1 + (d + 1) = j + 1 by omega]
                go_num
            · have hdc : d = c := by omega
              rw [hdc]
              have hnl : ¬ ((r + 1 + c : Nat) : Int) < (n : Int) := by have := HRC.out; omega
              obtain ⟨j, hj⟩ : ∃ j, j = r + 1 + c := ⟨_, rfl⟩
              rw [← hj] at hnl ⊢
              obtain ⟨s1, e1⟩ := HLk.out r hrn r (by omega)
              have t1 := HMr.out.mat.row r hrn
              have t3 := HMr.out.mat.num r hrn r hrn
              rw [e1] at t3
              have t4 := own_cell HOY.out hrn
              have t5 := HOY.out.frozenAt r
              have hp := fun op => fbin_pick_l op .f32
              have hq := fun op => fbin_pick_r op .f32
              have q1 := run_quo32
              have st := run_store_f32
              obtain ⟨D, hD⟩ : ∃ D, D = rstW M1 F n r c := ⟨_, rfl⟩
              obtain ⟨E, hE⟩ : ∃ E, E = fbin .quo .f32 D (M1 r r) := ⟨_, rfl⟩
              have hE2 : fbin .quo .f32 D (M1 r r) = E := hE.symm
              have HE := Lib.hid (show bkW M1 n (c + 1) = fun j => if j = r then E else F j by rw [HF.out, hE, hD])
              rw [← hD]
              clear hj hE hD e1 hdc hld
              go_wp2
              go_roundw
              case measure => (simp [intOf]; try omega)
              case rel =>
                have e3 := HRI.out
                refine ⟨c + 1, _, by omega, ?_, own_stored (own_drew HOY.out _) r _, ?_, (Below.drewN HBr.out _).setCell (p := ⟨wo.heap.size, r, none⟩) (Nat.le_refl _) _⟩
                · rw [show (n : Int) - 1 - ((c + 1 : Nat) : Int) = (r : Int) - 1 by omega]
                  try go_num
                · rw [HE.out]
                  exact LikeP.set HLY.out rfl
        · have hcn : c = n := by omega
          have hneg : ¬ (n : Int) - 1 - (c : Int) ≥ 0 := by omega
          have HLf := Lib.hid (show LikeP Y (bkW (runM szF n M n).1 n n) n by rw [← HM1.out, ← hcn]; rw [hcn] at hLY ⊢; exact hLY)
          have HBf := Lib.hid (show Below B w wr from HBk.out.trans (hBr.mono hBo))
          have HOw := Lib.hid (own_mono0 hownY hBo)
          clear hLY hBr hcn
          go_wp2
          go_ret2
          exact .inr ⟨HAl.out, _, Y, rfl, HOw.out, HLf.out, HBf.out⟩
end Go.Proofs.Ytogmcinaoemnpaa
