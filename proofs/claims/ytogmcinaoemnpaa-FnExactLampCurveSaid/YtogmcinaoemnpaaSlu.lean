
/- Rows that are solved by steps, as the program does it. -/
import Derived.Test.YtogmcinaoemnpaaMsv
import Derived.Test.YtogmcinaoemnpaaRo
namespace Go.Proofs.Ytogmcinaoemnpaa
set_option linter.all false
open Go Go.ChangeShapes Go.WideShapes Go.ChangeAt Go.RowKit

theorem mul32_runS (t : TypeId) (x y : Nat) (w : World) : (binOp .mul t (.float .f32 x) (.float .f32 y)).run Try.prog w = .ok (.float .f32 (pick .f32 (fbin .mul .f32 x y) (sdb w .f32 x y))) (w.drewN (nd .f32 (fbin .mul .f32 x y))) := run_binop rfl t .f32 x y w
theorem run_store_s (a : Addr) (xa : Option Addr) (n c : Nat) (m : Mode) (w : World) : (store a (.slice xa n c) m).run Try.prog w = stored Try.prog w a (.slice xa n c) m := run_store _ w a _ m rfl
set_option maxRecDepth 100000 in
set_option maxHeartbeats 12800000 in
theorem solve_any (n B xb cap : Nat) (R0 C0 : Nat → Nat) (V0 M : Nat → Nat → Nat) (w : World) (m : Nat) (hm : m = n + 1) (h : Mat w B xb n m R0 C0 V0) (hL : LikeM n m V0 M) (hM : Wds M) (hn1 : 1 ≤ n) (hn : n ≤ 64) (hcap : n ≤ cap) (hB : B ≤ w.heap.size) :
    Calls Try.prog 52 #[.slice (some ⟨xb, 0, none⟩) n cap, .float .f32 0] w (SolRet B n (bkW (runP szF n M n).1 n n) ((runP szF n M n).2) w) := by
  have hmB : m ≤ 100 := by omega
  have Hm := Lib.hid hm
  have HWd := Lib.hid (fun k => runP_words (S := szF) (n := n) hM k)
  have H0 := Lib.hid (And.intro h hL)
  clear hm h hL
  go_enter Try.func52, Try.ntmps52
  go_wp2
  go_loopw [19] (fun i wr => ∃ (k : Nat) (R C : Nat → Nat) (V : Nat → Nat → Nat), k ≤ n ∧ i = .int .i64 (k : Int) ∧ Mat wr B xb n m R C V ∧ LikeM n m V (runP szF n M k).1 ∧ (runP szF n M k).2 = true ∧ Below B w wr) (fun i _ => n - (intOf i).toNat)
  case atStart => exact ⟨0, R0, C0, V0, Nat.zero_le _, rfl, H0.out.1, H0.out.2, rfl, Below.refl _ _⟩
  case round =>
    clear H0
    obtain ⟨k, R, C, V, hk, rfl, hMt, hLk, hal, hBk⟩ := hrel
    by_cases hlt : k < n
    · obtain ⟨wo, hwo⟩ : ∃ wo, wo = wr := ⟨_, rfl⟩
      subst hwo
      obtain ⟨M1, hM1⟩ : ∃ M1, M1 = (runP szF n M k).1 := ⟨_, rfl⟩
      have HM1 := Lib.hid hM1
      have hw1 : Wds M1 := by rw [hM1]; exact HWd.out k
      rw [← hM1] at hLk
      have hkm : k < m := by have := Hm.out; omega
      have HC := Lib.hid (rowOf_any B xb n m cap k R C V wo hMt hlt hkm (hLk.words hw1) hn)
      obtain ⟨p, hp⟩ : ∃ p, p = (pvP szF M1 k (n - k)).1 := ⟨_, rfl⟩
      rw [pvP_like hLk hkm (n - k) (by omega), ← hp] at HC
      have hpk : k ≤ p := by rw [hp]; exact (pvP_rng szF M1 k _).1
      have hpn : p < n := by have := pvP_lt szF M1 k (n - k) (by omega); omega
      have HSt := Lib.hid (show runP szF n M (k + 1) = (elm (swp M1 k p) k, gtF (szF (swp M1 k p k k)) 0) by
        show (elm (swp (runP szF n M k).1 k _) k, (runP szF n M k).2 && _) = _
        rw [hal, ← hM1, ← hp]
        rfl)
      have HLs := Lib.hid (hLk.swap hlt hpn)
      have HMs := Lib.hid (fun q => (hMt.drew q).swap hlt hpn)
      have HAl := Lib.hid hal
      have rk := hMt.row k hlt
      have rp := hMt.row p hpn
      have fk := hMt.rowF k hlt
      have fp := hMt.rowF p hpn
      have hst := run_store_s
      have mixed : Try.prog.follows .mixedOrders = true := by first | rfl | decide +kernel
      have hki : (k : Int) < (n : Int) := by omega
      have hpi : (p : Int) < (n : Int) := by omega
      have hc2 : ∀ q, ((wo.drewN q).setCell ⟨xb, k, none⟩ (.slice (some ⟨R p, 0, none⟩) m (C p))).cell? ⟨xb, p, none⟩ = some (.slice (some ⟨R p, 0, none⟩) m (C p)) := fun q => by
        by_cases e : k = p
        · rw [e]; exact World.cell?_setCell_same _ _ _ (by exact hMt.row p hpn)
        · rw [World.cell?_setCell_other _ _ _ _ (by intro e'; injection e' with _ e2; exact e e2)]
          exact hMt.row p hpn
      have HBx := Lib.hid hMt.base
      clear hM1 hp hLk hMt hal
      go_wp2_with (go_at_call 96; refine HC.out.mono ?_; rintro e w' ⟨rfl, q, rfl⟩)
      go_region
      obtain ⟨w2, hw2⟩ : ∃ w2, w2 = ((wo.drewN (q + 1)).setCell ⟨xb, k, none⟩ (.slice (some ⟨R p, 0, none⟩) m (C p))).setCell ⟨xb, p, none⟩ (.slice (some ⟨R k, 0, none⟩) m (C k)) := ⟨_, rfl⟩
      rw [← hw2]
      have hM2 := HMs.out (q + 1)
      rw [← hw2] at hM2
      have hB2 : Below B w w2 := by
        rw [hw2]
        exact ((Below.drewN hBk _).setCell (p := ⟨xb, k, none⟩) HBx.out _).setCell (p := ⟨xb, p, none⟩) HBx.out _
      clear hw2 rk rp fk fp hc2 HC HMs hBk
      obtain ⟨R2, hR2⟩ : ∃ R2, R2 = (fun i => if i = k then R p else if i = p then R k else R i) := ⟨_, rfl⟩
      obtain ⟨C2, hC2⟩ : ∃ C2, C2 = (fun i => if i = k then C p else if i = p then C k else C i) := ⟨_, rfl⟩
      obtain ⟨V2, hV2⟩ : ∃ V2, V2 = swp V k p := ⟨_, rfl⟩
      obtain ⟨T, hT⟩ : ∃ T, T = swp M1 k p := ⟨_, rfl⟩
      rw [← hR2, ← hC2, ← hV2] at hM2
      have hL2 := HLs.out
      rw [← hV2, ← hT] at hL2
      rw [← hT] at HSt
      have hwT : Wds T := by rw [hT]; exact hw1.swp _ _
      clear hR2 hC2 hV2 hT HLs HM1 hw1
      obtain ⟨s0, es0⟩ := hL2 k hlt k hkm
      have hx := hL2.words hwT k hlt k hkm
      obtain ⟨x, hxv⟩ : ∃ x, x = V2 k k := ⟨_, rfl⟩
      have r1 := hM2.row k hlt
      have r2 := hM2.num k hlt k hkm
      rw [← hxv] at r2 hx es0
      have hsz : szF x = szF (T k k) := by rw [es0, szF_pick]
      have hmax := fun ts t w => run_size x hx Try.prog ts t w
      have hneg : ∀ w, (Op.unary UnOp.neg (.float .f32 x)).run Try.prog w = .ok (.float .f32 (Op.negFloat .f32 x)) w := fun w => rfl
      obtain ⟨y, hy⟩ : ∃ y, y = Op.negFloat .f32 x := ⟨_, rfl⟩
      rw [← hy] at hmax hneg
      rw [hsz] at hmax
      obtain ⟨z, hz⟩ : ∃ z, z = szF (T k k) := ⟨_, rfl⟩
      rw [← hz] at hmax HSt
      have HZ := Lib.hid hz
      have hkM : (k : Int) < (m : Int) := by omega
      clear hy hx es0 hxv hsz hz
      cases hg : gtF z 0
      · have hgp : ∀ s, (FloatKind.f32.format.order (pick .f32 z s) 0 == some .gt) = false := fun s => by rw [order_pick_l]; exact hg
        have HD := Lib.hid (show (runP szF n M n).2 = false by
          have := runP_dead (S := szF) (n := n) (M := M) (k := k + 1) (by rw [HSt.out]; exact hg) (n - (k + 1))
          rwa [show k + 1 + (n - (k + 1)) = n by omega] at this)
        go_wp2
        go_ret2
        exact .inl ⟨HD.out, rfl, by first | exact hB2 | exact Below.drewN hB2 _⟩
      · have hgp : ∀ s, (FloatKind.f32.format.order (pick .f32 z s) 0 == some .gt) = true := fun s => by rw [order_pick_l]; exact hg
        have HSt := Lib.hid (show runP szF n M (k + 1) = (elm T k, true) by rw [HSt.out, hg])
        by_cases hk1 : k + 1 = n
        · have HX := Lib.hid (show LikeM n m V2 (runP szF n M (k + 1)).1 by
            rw [HSt.out]
            exact hL2.congr fun i hi j hj => by
              show _ = elm T k i j
              unfold elm
              rw [if_neg (by omega)])
          have HY := Lib.hid (show (runP szF n M (k + 1)).2 = true by rw [HSt.out])
          have HK := Lib.hid hk1
          have hz0 : n - (k + 1) = 0 := by omega
          have hcc : (k : Int) + 1 ≤ (cap : Int) := by omega
          have hcn3 : (k : Int) + 1 ≤ (n : Int) := by omega
          have HB3 := Lib.hid (fun q => Below.drewN hB2 q)
          have HM3 := Lib.hid (fun q => hM2.drew q)
          clear hL2 hk1
          obtain ⟨w3, hw3⟩ : ∃ w3, w3 = w2.drewN (nd .f32 z) := ⟨_, rfl⟩
          by_cases hcz : cap = k + 1
          · go_wp2
            rw [← hw3]
            go_loopw [58] (fun i wr => i = .int .i64 0 ∧ wr = w3) (fun _ _ => 0)
            case atStart => exact ⟨rfl, rfl⟩
            case round =>
              obtain ⟨rfl, rfl⟩ := hrel
              go_wp2
              go_roundw
              case rel => exact ⟨k + 1, R2, C2, V2, by have := HK.out; omega, by go_num, HM3.out _, HX.out, HY.out, HB3.out _⟩
              case measure => simp [intOf]; omega
          · have hcl : (k : Int) + 1 < (cap : Int) := by omega
            have hcn2 : ¬ cap - (k + 1) = 0 := by omega
            go_wp2
            rw [← hw3]
            go_loopw [58] (fun i wr => i = .int .i64 0 ∧ wr = w3) (fun _ _ => 0)
            case atStart => exact ⟨rfl, rfl⟩
            case round =>
              obtain ⟨rfl, rfl⟩ := hrel
              go_wp2
              go_roundw
              case rel => exact ⟨k + 1, R2, C2, V2, by have := HK.out; omega, by go_num, HM3.out _, HX.out, HY.out, HB3.out _⟩
              case measure => simp [intOf]; omega
        · have hcc : (k : Int) + 1 ≤ (cap : Int) := by omega
          have hcl : (k : Int) + 1 < (cap : Int) := by omega
          have hcn : ¬ cap = k + 1 := by omega
          have hcn2 : ¬ cap - (k + 1) = 0 := by omega
          have hcn3 : (k : Int) + 1 ≤ (n : Int) := by omega
          go_wp2
          obtain ⟨w3, hw3⟩ : ∃ w3, w3 = w2.drewN (nd .f32 z) := ⟨_, rfl⟩
          have hM3 : Mat w3 B xb n m R2 C2 V2 := by rw [hw3]; exact hM2.drew _
          have hB3 : Below B w w3 := by rw [hw3]; exact Below.drewN hB2 _
          rw [← hw3]
          clear hw3 hM2 hB2 r1 r2 hmax hneg hgp
          have HL2 := Lib.hid (show LikeM n m V2 (elP T k (k + 1 + 0) (k + 1)) by rw [Nat.add_zero, elP_start]; exact hL2)
          clear hL2
          go_loopw [58] (fun i wr => ∃ (r : Nat) (V : Nat → Nat → Nat), r ≤ n - (k + 1) ∧ i = .int .i64 (r : Int) ∧ Mat wr B xb n m R2 C2 V ∧ LikeM n m V (elP T k (k + 1 + r) (k + 1)) ∧ Below B w wr) (fun i _ => n - (intOf i).toNat)
          case atStart => exact ⟨0, V2, Nat.zero_le _, rfl, hM3, HL2.out, hB3⟩
          case round =>
            clear hM3 hB3 HL2
            obtain ⟨r, V, hr, rfl, hMr, hLr, hBr⟩ := hrel
            by_cases hlr : r < n - (k + 1)
            · obtain ⟨wp, hwp⟩ : ∃ wp, wp = wr := ⟨_, rfl⟩
              subst hwp
              have haN : k + 1 + r < n := by omega
              obtain ⟨a, ha⟩ : ∃ a, a = k + 1 + r := ⟨_, rfl⟩
              have HA := Lib.hid ha
              have r1 : wp.cell? ⟨xb, k + 1 + r, none⟩ = some (.slice (some ⟨R2 a, 0, none⟩) m (C2 a)) := by rw [ha]; exact hMr.row (k + 1 + r) haN
              rw [← ha] at hLr haN
              have r2 := hMr.row k hlt
              obtain ⟨s1, e1⟩ := hLr a haN k hkm
              obtain ⟨s2, e2⟩ := hLr k hlt k hkm
              rw [elP_old T (by omega)] at e1 e2
              have r3 := hMr.num a haN k hkm
              have r4 := hMr.num k hlt k hkm
              rw [e1] at r3
              rw [e2] at r4
              have hp := fun op => fbin_pick_l op .f32
              have hq := fun op => fbin_pick_r op .f32
              have q1 := run_quo32
              obtain ⟨Q, hQ⟩ : ∃ Q, Q = fbin .quo .f32 (T a k) (T k k) := ⟨_, rfl⟩
              have hQ2 : fbin .quo .f32 (T a k) (T k k) = Q := hQ.symm
              have HQ := Lib.hid hQ
              have HMr := Lib.hid hMr
              have HLr := Lib.hid hLr
              have HBr := Lib.hid hBr
              have hri : (r : Int) < ((n - (k + 1) : Nat) : Int) := by omega
              clear hQ e1 e2 hMr hLr hBr ha
              go_wp2_with fail
              go_region
              generalize hsd : sdb _ _ _ _ = sQ
              clear hsd
              obtain ⟨wq, hwq⟩ : ∃ wq, wq = wp.drewN (1 + nd .f32 Q) := ⟨_, rfl⟩
              have hMq : Mat wq B xb n m R2 C2 V := by rw [hwq]; exact HMr.out.drew _
              have hBq : Below B w wq := by rw [hwq]; exact Below.drewN HBr.out _
              rw [← hwq]
              have hkm1 : k + 1 ≤ m := by omega
              clear hwq r1 r2 r3 r4 hQ2 q1
              go_wp2
              go_loopw [12] (fun i wr => ∃ (c : Nat) (V : Nat → Nat → Nat), k + 1 ≤ c ∧ c ≤ m ∧ i = .int .i64 (c : Int) ∧ Mat wr B xb n m R2 C2 V ∧ LikeM n m V (elP T k a c) ∧ Below B w wr) (fun i _ => m - (intOf i).toNat)
              case atStart => exact ⟨k + 1, V, Nat.le_refl _, hkm1, by simp, hMq, HLr.out, hBq⟩
              case round =>
                clear hMq hBq
                obtain ⟨c, Vc, hc1, hc2, rfl, hMc, hLc, hBc⟩ := hrel
                by_cases hlc : c < m
                · obtain ⟨wv, hwv⟩ : ∃ wv, wv = wr := ⟨_, rfl⟩
                  subst hwv
                  have hka : k < a := by have := HA.out; omega
                  have t1 := hMc.row k hlt
                  obtain ⟨s1, e1⟩ := hLc a haN c hlc
                  obtain ⟨s2, e2⟩ := hLc k hlt c hlc
                  rw [elP_old T (by omega)] at e1 e2
                  have t2 := hMc.num a haN c hlc
                  have t3 := hMc.num k hlt c hlc
                  have t4 := hMc.numF a haN c hlc
                  rw [e1] at t2
                  rw [e2] at t3
                  have m1 := mul32_runS
                  have m2 := run_sub32
                  have st := run_store_f32
                  obtain ⟨E, hE⟩ : ∃ E, E = fbin .sub .f32 (T a c) (fbin .mul .f32 Q (T k c)) := ⟨_, rfl⟩
                  have hE2 : fbin .sub .f32 (T a c) (fbin .mul .f32 Q (T k c)) = E := hE.symm
                  have HE := Lib.hid (show elP T k a (c + 1) = fun i j => if i = a ∧ j = c then E else elP T k a c i j by
                    rw [elP_set T hka (by omega), hE, HQ.out])
                  have HMc := Lib.hid hMc
                  have HLc := Lib.hid hLc
                  have HBc := Lib.hid hBc
                  have HRa := Lib.hid (hMc.ge a haN)
                  have hci : (c : Int) < (m : Int) := by omega
                  clear hE e1 e2 hMc hLc hBc
                  go_wp2_with fail
                  go_region
                  go_wp2
                  go_roundw
                  case measure => simp [intOf]; omega
                  case rel =>
                    refine ⟨c + 1, _, by omega, by omega, by go_num, (HMc.out.drew _).set haN hlc _, ?_, (Below.drewN HBc.out _).setCell (p := ⟨R2 a, c, none⟩) HRa.out _⟩
                    rw [HE.out]
                    exact HLc.out.set a c rfl
                · have hcm' : c = m := by omega
                  subst hcm'
                  have HX := Lib.hid (show LikeM n c Vc (elP T k (k + 1 + (r + 1)) (k + 1)) from hLc.congr fun i hi j hj => by rw [elP_next T hj, show a + 1 = k + 1 + (r + 1) by have := HA.out; omega])
                  clear hLc
                  go_wp2
                  go_roundw
                  case rel => exact ⟨r + 1, Vc, by omega, by go_num, hMc, HX.out, hBc⟩
                  case measure => simp [intOf]; omega
            · have hrn : r = n - (k + 1) := by omega
              have HX := Lib.hid (show LikeM n m V (runP szF n M (k + 1)).1 by
                rw [HSt.out]
                exact hLr.congr fun i hi j hj => elP_end T (by omega))
              have HY := Lib.hid (show (runP szF n M (k + 1)).2 = true by rw [HSt.out])
              subst hrn
              clear hLr
              go_wp2
              go_roundw
              case rel => exact ⟨k + 1, R2, C2, V, by omega, by go_num, hMr, HX.out, HY.out, hBr⟩
              case measure => simp [intOf]; omega
    · have hkn : k = n := by omega
      obtain ⟨wo, hwo⟩ : ∃ wo, wo = wr := ⟨_, rfl⟩
      subst hwo
      rw [hkn] at hLk hal
      obtain ⟨M1, hM1⟩ : ∃ M1, M1 = (runP szF n M n).1 := ⟨_, rfl⟩
      rw [← hM1] at hLk
      have HM1 := Lib.hid hM1
      have HAl := Lib.hid hal
      have HMt := Lib.hid hMt
      have HLk := Lib.hid hLk
      have HBk := Lib.hid hBk
      have hBo : B ≤ wo.heap.size := Nat.le_trans hB hBk.size
      obtain ⟨i0, hi, hz0, hz1, hz2⟩ := info_parts infoF
      have hb : i0.bytes * n ≤ 281474976710656 := by rw [hz2]; omega
      have hmx : n ≤ maxLen := by unfold maxLen; omega
      have hkn' : ¬ (k : Int) < (n : Int) := by omega
      clear hM1 hal hMt hLk hBk hkn
      go_wp2_with (at_make; refine wpList_make_full _ rfl _ _ 22 rfl wo.heap.size 32 i0 (.float .f32 0) 1 Try.underlying22 hi hz0 hz1 _ _ _ _ n rfl rfl rfl rfl hb hmx (by simp) ?_)
      intro w2 hown hgr
      rw [madeF] at hown
      have hB2 : Below wo.heap.size wo w2 := (Below.refl wo.heap.size wo).grown hgr (by simp) (fun _ h => by cases h)
      clear hgr hb hmx hi hz0 hz1 hz2
      go_wp2
      go_loopw [14] (fun i wr => ∃ (c : Nat) (Y : Nat → Nat), c ≤ n ∧ i = .int .i64 ((n : Int) - 1 - (c : Int)) ∧ wr.ownsRow wo.heap.size 32 1 (.slice (some ⟨wo.heap.size, 0, none⟩) n n) n (rowOf Y n) ∧ LikeP Y (bkW M1 n c) n ∧ Below wo.heap.size wo wr) (fun i _ => (intOf i + 1).toNat)
      case atStart => exact ⟨0, fun _ => 0, Nat.zero_le _, by simp, hown, fun j _ => ⟨0, by show 0 = pick .f32 0 0; rw [pick_nul]⟩, hB2⟩
      case round =>
        clear hown hB2
        obtain ⟨c, Y, hc, rfl, hownY, hLY, hBr⟩ := hrel
        by_cases hlc : c < n
        · obtain ⟨wu, hwu⟩ : ∃ wu, wu = wr := ⟨_, rfl⟩
          subst hwu
          obtain ⟨r, hr⟩ : ∃ r, r = n - 1 - c := ⟨_, rfl⟩
          have hrI : (n : Int) - 1 - (c : Int) = (r : Int) := by omega
          rw [hrI]
          have hrn : r < n := by omega
          have hnm : (n : Int) < (m : Int) := by have := Hm.out; omega
          have hrn2 : (r : Int) < (n : Int) := by omega
          have hrc : r + 1 + c = n := by omega
          have HRC := Lib.hid hrc
          have HRI := Lib.hid hrI
          have hMr := HMt.out.below hBr
          obtain ⟨s0, e0⟩ := HLk.out r hrn n (by omega)
          have t1 := hMr.row r hrn
          have t2 := hMr.num r hrn n (by omega)
          rw [e0] at t2
          obtain ⟨F, hF⟩ : ∃ F, F = bkW M1 n c := ⟨_, rfl⟩
          rw [← hF] at hLY
          have HF := Lib.hid (show bkW M1 n (c + 1) = fun j => if j = r then fbin .quo .f32 (rstW M1 F n r c) (M1 r r) else F j by rw [hr, hF]; rfl)
          have HMr := Lib.hid hMr
          have HOY := Lib.hid hownY
          have HLY := Lib.hid hLY
          have HBr := Lib.hid hBr
          have HL0 := Lib.hid (show pick .f32 (M1 r n) s0 = pick .f32 (rstW M1 F n r 0) s0 from rfl)
          rw [HL0.out] at t2
          clear hr hF hMr hownY hLY hBr e0 hrI hrc
          go_wp2
          go_loopw [15, 16] (fun q i wr => ∃ d mm s : Nat, d ≤ c ∧ i = .int .i64 ((r + 1 + d : Nat) : Int) ∧ q = .float .f32 (pick .f32 (rstW M1 F n r d) s) ∧ wr = wu.drewN mm) (fun _ i _ => n - (intOf i).toNat)
          case atStart => exact ⟨0, 0, s0, Nat.zero_le _, by simp, rfl, rfl⟩
          case round =>
            clear t2
            obtain ⟨d, mm, sd, hd, rfl, rfl, rfl⟩ := hrel
            by_cases hld : d < c
            · obtain ⟨j, hj⟩ : ∃ j, j = r + 1 + d := ⟨_, rfl⟩
              have hjn : j < n := by have := HRC.out; omega
              have hjr : r < j := by omega
              have HJ := Lib.hid hj
              rw [← hj]
              obtain ⟨s1, e1⟩ := HLk.out r hrn j (by have := Hm.out; omega)
              obtain ⟨s2, e2⟩ := HLY.out j hjn
              have t3 := HMr.out.num r hrn j (by have := Hm.out; omega)
              have t4 := own_cell HOY.out hjn
              rw [e1] at t3
              rw [e2] at t4
              have hp := fun op => fbin_pick_l op .f32
              have hq := fun op => fbin_pick_r op .f32
              have m1 := mul32_runS
              have m2 := run_sub32
              obtain ⟨D, hD⟩ : ∃ D, D = rstW M1 F n r d := ⟨_, rfl⟩
              obtain ⟨E, hE⟩ : ∃ E, E = rstW M1 F n r (d + 1) := ⟨_, rfl⟩
              have hE2 : fbin .sub .f32 D (fbin .mul .f32 (M1 r j) (F j)) = E := by rw [hE, hD, hj]; rfl
              have HE := Lib.hid hE
              rw [← hD]
              have hji : (j : Int) < (n : Int) := by omega
              have hjm : (j : Int) < (m : Int) := by omega
              clear hj hE hD e1 e2
              go_wp2_with fail
              go_region
              go_wp2
              go_roundw
              case measure => simp [intOf]; omega
              case rel =>
                have e3 := HJ.out
                refine ⟨d + 1, _, _, by omega, ?_, by rw [← HE.out], rfl⟩
                rw [show r + 1 + (d + 1) = j + 1 by omega]
                go_num
            · have hdc : d = c := by omega
              rw [hdc]
              have hnl : ¬ ((r + 1 + c : Nat) : Int) < (n : Int) := by have := HRC.out; omega
              obtain ⟨j, hj⟩ : ∃ j, j = r + 1 + c := ⟨_, rfl⟩
              rw [← hj] at hnl ⊢
              obtain ⟨s1, e1⟩ := HLk.out r hrn r (by have := Hm.out; omega)
              have t3 := HMr.out.num r hrn r (by have := Hm.out; omega)
              rw [e1] at t3
              have t4 := own_cell HOY.out hrn
              have t5 := HOY.out.frozenAt r
              have hp := fun op => fbin_pick_l op .f32
              have hq := fun op => fbin_pick_r op .f32
              have q1 := run_quo32
              have st := run_store_f32
              obtain ⟨D, hD⟩ : ∃ D, D = rstW M1 F n r c := ⟨_, rfl⟩
              obtain ⟨E, hE⟩ : ∃ E, E = fbin .quo .f32 D (M1 r r) := ⟨_, rfl⟩
              have hE2 : fbin .quo .f32 D (M1 r r) = E := hE.symm
              have HE := Lib.hid (show bkW M1 n (c + 1) = fun j => if j = r then E else F j by rw [HF.out, hE, hD])
              have hrm : (r : Int) < (m : Int) := by omega
              rw [← hD]
              clear hj hE hD e1 hdc hld
              go_wp2
              go_roundw
              case measure => (simp [intOf]; try omega)
              case rel =>
                have e3 := HRI.out
                refine ⟨c + 1, _, by omega, ?_, own_stored (own_drew HOY.out _) r _, ?_, (Below.drewN HBr.out _).setCell (p := ⟨wo.heap.size, r, none⟩) (Nat.le_refl _) _⟩
                · rw [show (n : Int) - 1 - ((c + 1 : Nat) : Int) = (r : Int) - 1 by omega]
                  try go_num
                · rw [HE.out]
                  exact LikeP.set HLY.out rfl
        · have hcn : c = n := by omega
          have hneg : ¬ (n : Int) - 1 - (c : Int) ≥ 0 := by omega
          have HLf := Lib.hid (show LikeP Y (bkW (runP szF n M n).1 n n) n by rw [← HM1.out, ← hcn]; rw [hcn] at hLY ⊢; exact hLY)
          have HBf := Lib.hid (show Below B w wr from HBk.out.trans (hBr.mono hBo))
          have HOw := Lib.hid (own_mono0 hownY hBo)
          clear hLY hBr hcn
          go_wp2
          go_ret2
          exact .inr ⟨HAl.out, _, Y, rfl, HOw.out, HLf.out, HBf.out⟩
end Go.Proofs.Ytogmcinaoemnpaa
