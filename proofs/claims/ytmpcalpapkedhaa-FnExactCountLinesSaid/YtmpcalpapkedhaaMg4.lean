
import Derived.Test.YtmpcalpapkedhaaMg3
import Derived.Test.YtmpcalpapkedhaaArr
import Derived.Deep.RegionLaw
import Derived.Deep.RegionWith
import Derived.Test.YtmpcalpapkedhaaMk3
import Derived.Test.YtmpcalpapkedhaaOut
import Derived.Test.YtmpcalpapkedhaaLaw
namespace Go.Proofs.Ytmpcalpapkedhaa
open Go Go.ChangeShapes Go.WideShapes Go.ChangeAt Go.RowKit
/- A spectrum of lines: as the program tells it: its parts. -/

def plcF (p q : Nat) : Value := .func (.func 226) #[] #[.pointer (some ⟨p, 0, none⟩), .pointer (some ⟨q, 0, none⟩)]
theorem placesFrom_any (a b : Nat) (w : World) :
    Calls Try.prog 190 #[.float .f32 a, .float .f32 b] w fun e w' => e = .returned (.func (.func 226) #[] #[.pointer (some ⟨w.heap.size, 0, none⟩), .pointer (some ⟨w.heap.size + 1, 0, none⟩)]) ∧ w' = (w.alloc (.cells #[.float .f32 a] 22)).alloc (.cells #[.float .f32 b] 22) := by
  go_enter Try.func190, Try.ntmps190
  go_wp2
  go_ret
  exact ⟨rfl, rfl⟩
/-- The function that tells a place: what it begins with and its step lie in cells. -/
theorem place1_any (a b k p q : Nat) (w : World) (hp0 : w.cell? ⟨p, 0, none⟩ = some (.float .f32 a)) (hq0 : w.cell? ⟨q, 0, none⟩ = some (.float .f32 b)) :
    Calls Try.prog 226 #[.int .i64 (k : Int), .pointer (some ⟨p, 0, none⟩), .pointer (some ⟨q, 0, none⟩)] w (FltP (plc a b k) w) := by
  have hp := fun op => fbin_pick_l op .f32
  have hq := fun op => fbin_pick_r op .f32
  have HF := Lib.hid (show ∀ s m, FltP (plc a b k) w (.returned (.float .f32 (pick .f32 (fbin .add .f32 a (fbin .mul .f32 (floatOfInt .f32 (k : Int)) b)) s))) (w.drewN m) from fun s m => ⟨s, m, rfl, rfl⟩)
  go_enter Try.func226, Try.ntmps226
  go_wp2_with ((with_reducible refine wpL_fbin ?_); refine ⟨_, _, _, rfl, rfl, rfl, fun s n => ?_⟩)
  go_ret
  exact HF.out _ _
/-- A list made at a step of a region that draws its order. -/
theorem step_make {P : Program} (w : World) {ops : Array Oper} {o : Oper} {a : Act} {K : Act → World → Prop} {Q : Exit → Act → World → Prop} {E : Prop}
    (hg : o.guard = none) (l c : Operand) (t : TypeId) (hop : o.op = Op.makeSlice t l c)
    (base : Nat) (e : TypeId) (i : TypeInfo) (z : Value) (size : Nat) (h1 : P.underlying t = some (.slice e)) (h2 : P.info? e = some i) (h3 : i.zero = some z) (h4 : i.size = size)
    (kl kc : IntKind) (L C : Int) (n : Nat) (hl : a.eval l = .int kl L) (hc : a.eval c = .int kc C) (hL : L = (n : Int)) (hC : C = (n : Int)) (b2 : i.bytes * n ≤ 281474976710656) (b3 : n ≤ maxLen) (b4 : base ≤ w.heap.size)
    (hK : ∀ w', w'.ownsRow base e size (.slice (some ⟨w.heap.size, 0, none⟩) n n) n (madeCells z.cells (n * size)).toList → w.grownBy w' none → K (a.put o.dst (.slice (some ⟨w.heap.size, 0, none⟩) n n)) w') :
    if Region.wanted o (yielded ops a.tmps) = true then Oper.wp P o a w K Q else E := by
  have hw : Region.wanted o (yielded ops a.tmps) = true := by simp [Region.wanted, hg]
  rw [if_pos hw]
  obtain ⟨w', hrun, r1, r2⟩ := run_make_full (P := P) w base t e i z size h1 h2 h3 h4 kl kc n b2 b3 b4
  subst hL
  subst hC
  unfold Oper.wp
  simp [execOp, hop, hl, hc, hrun, Result.andThen]
  exact hK w' r1 r2

/- A spectrum of lines: as the program tells it. -/

theorem mkF_any (w : World) (c : Nat) (h2 : c ≤ 128) (O : Obj) (hO : O = .cells (madeCells #[.float .f32 0] c) 22) : (Instr.makeSlice 33 (.int .i64 (c : Int)) (.int .i64 (c : Int))).run Try.prog w = .ok (.slice (some ⟨w.heap.size, 0, none⟩) c c) (w.alloc O) := by
  obtain ⟨i0, hi, hz0, hz1, hz2⟩ := info_parts infoF
  have h := run_make (P := Try.prog) w 33 22 i0 (.float .f32 0) Try.underlying33 hi hz0 .i64 .i64 (c : Int) (c : Int) (by omega) (Int.le_refl _) (by rw [hz2]; omega) (by omega)
  rw [hz1, Nat.mul_one, Int.toNat_natCast] at h
  rw [hO]
  exact h
theorem mkF_own (w : World) (g c : Nat) (h2 : c ≤ 128) (O : Obj) (hO : O = .cells (madeCells #[.float .f32 0] c) 22) (base : Nat) (hg : w.heap.size = g) (hb : base ≤ w.heap.size) : (w.alloc O).ownsRow base 22 1 (.slice (some ⟨g, 0, none⟩) c c) c (rowOf (fun _ => 0) c) := by
  subst hg
  have h := World.ownsRow_lit (e := 22) (base := base) (size := 1) w (madeCells #[Value.float .f32 0] c) c hb (by unfold maxLen; omega) (by rw [size_madeCells, Nat.mul_one])
  rw [madeF] at h
  rw [hO]
  exact h
set_option maxRecDepth 100000 in
set_option maxHeartbeats 6400000 in
theorem implSp_yes (xa : Option Addr) (n cap : Nat) (X : Nat → Ln) (a b c : Nat) (w : World) (hX : RdN w xa n X) (hn : n ≤ 1048576) (ha : isFin .f32 a = true) (hb : isFin .f32 b = true) (h1 : 1 ≤ c) (h2 : c ≤ 128) (ok : Bool) (ho : ok = spB X n a b c) (m : Nat) (hm : m = if ok = true then c else 0) :
    Calls Try.prog 134 #[.slice xa n cap, .float .f32 a, .float .f32 b, .int .i64 (c : Int)] w (OutRet (spR X n a b) m ok w) := by
  obtain ⟨i0, hi, hz0, hz1, hz2⟩ := info_parts infoF
  have dl : decide ((c : Int) < 1) = false := decide_eq_false (by omega)
  have dg : decide (128 < (c : Int)) = false := decide_eq_false (by omega)
  have hf := finL_two a b
  rw [ha, hb] at hf
  have hm' : c ≤ maxLen := by unfold maxLen; omega
  have hbz : i0.bytes * c ≤ 281474976710656 := by rw [hz2]; omega
  obtain ⟨O, hO⟩ : ∃ O : Obj, O = .cells (madeCells #[.float .f32 0] c) 22 := ⟨_, rfl⟩
  have hmk := fun w => mkF_any w c h2 O hO
  have hol := fun w0 g hg h => mkF_own w0 g c h2 O hO w.heap.size hg h
  have HOL := Lib.hid hol
  clear hol hO
  have HO := Lib.hid ho
  have HM := Lib.hid hm
  clear ho hm
  go_enter Try.func134, Try.ntmps134
  go_wp2_with (first | (go_at_call 97; refine (allFinite_any _ _ _ (duo _ _) _ (by exact rd_two' _ _ _ _ (by simp)) (by omega)).mono ?_; rintro e w' ⟨rfl, q, rfl⟩))
  go_region_with (first | (go_at_call 190; refine (placesFrom_any _ _ _).mono ?_; rintro e0 w0 ⟨rfl, rfl⟩))
  · go_wp2
    go_loopw [35] (fun i wr => ∃ (k : Nat) (Z : Nat → Nat), k ≤ c ∧ i = .int .i64 k ∧ wr.ownsRow w.heap.size 22 1 (.slice (some ⟨w.heap.size + 1, 0, none⟩) c c) c (rowOf Z c) ∧ Like Z (spR X n a b) k ∧ Below w.heap.size w wr ∧ wr.cell? ⟨w.heap.size + 1 + 1, 0, none⟩ = some (.float .f32 a) ∧ wr.cell? ⟨w.heap.size + 1 + 1 + 1, 0, none⟩ = some (.float .f32 b) ∧ Hid (∀ j, j < k → lsB X n (plc a b j) = true)) (fun i _ => c - (intOf i).toNat)
    case atStart =>
      refine ⟨0, fun _ => 0, Nat.zero_le _, rfl, ?_, fun _ h => absurd h (Nat.not_lt_zero _), ?_, by simp [go_sem], by simp [go_sem], Lib.hid fun j hj => absurd hj (Nat.not_lt_zero _)⟩
      · exact ((HOL.out _ _ (by simp) (by simp)).alloc _).alloc _
      · (repeat (first | with_reducible exact Below.refl _ _ | with_reducible refine Below.drewN ?_ _ | with_reducible refine Below.setCell ?_ (by simp; try omega) _ | with_reducible refine Below.alloc ?_ (by simp; try omega) _))
    case round =>
      obtain ⟨k, Z, hk, rfl, hownk, hLk, hBk, hcp, hcq, HF⟩ := hrel
      have hsz := hBk.size
      by_cases hlt : k < c
      · have HP := Lib.hid (fun wz h1 h2 => place1_any a b k (w.heap.size + 1 + 1) (w.heap.size + 1 + 1 + 1) wz h1 h2)
        have HV := Lib.hid (fun s w hX => implLs_any xa n cap X (plc a b k) s w hX hn)
        have hXk := hX.below hBk
        obtain ⟨P, hP⟩ : ∃ P, P = plc a b k := ⟨_, rfl⟩
        obtain ⟨V, hV⟩ : ∃ V, V = lsV X n P := ⟨_, rfl⟩
        cases g : lsB X n P
        · have HN := Lib.hid (show ok = false by rw [HO.out, spB_no hlt (by rw [← hP]; exact g)])
          have HZ := Lib.hid (show m = 0 by rw [HM.out, HN.out, if_neg (by simp)])
          rw [← hP] at HP HV
          rw [g, ← hV] at HV
          clear g hV hP
          go_wp2_with (first | (go_at_call 226; refine (HP.out _ (by exact hcp) (by exact hcq)).mono ?_; rintro e w' ⟨s, m2, rfl, rfl⟩) | (go_at_call 191; refine (HV.out _ _ (by exact hXk)).mono ?_; rintro e w2 ⟨rfl, B2⟩))
          go_ret2
          rw [HN.out, HZ.out]
          exact OutRet.no ((Below.drewN hBk _).trans (B2.mono hsz))
        · have HG := Lib.hid (show ∀ j, j < k + 1 → lsB X n (plc a b j) = true from fun j hj => by
            by_cases hj' : j < k
            · exact HF.out j hj'
            · rw [show j = k by omega, ← hP]; exact g)
          have HE := Lib.hid (show V = pick .f32 (spR X n a b k) 0 by rw [spR, ← hP, lsV_num, hV])
          rw [← hP] at HP HV
          rw [g, ← hV] at HV
          clear g hV hP
          go_wp2_with (first | (go_at_call 226; refine (HP.out _ (by exact hcp) (by exact hcq)).mono ?_; rintro e w' ⟨s, m2, rfl, rfl⟩) | (go_at_call 191; refine (HV.out _ _ (by exact hXk)).mono ?_; rintro e w2 ⟨rfl, B2⟩; have hB3 := (Below.drewN hBk _).trans (B2.mono hsz); have c2p := (B2.cell (p := ⟨w.heap.size + 1 + 1, 0, none⟩) (World.block_lt_of_cell? wr _ hcp)).trans hcp; have c2q := (B2.cell (p := ⟨w.heap.size + 1 + 1 + 1, 0, none⟩) (World.block_lt_of_cell? wr _ hcq)).trans hcq; have O2 := own_below (own_drew hownk _) B2; have st := own_store0 O2 hlt V; have HO2 := Lib.hid O2; clear O2 hownk))
          go_roundw
          case rel => exact ⟨k + 1, _, by omega, by go_num, own_stored HO2.out k _, like_push hLk HE.out, Below.setCell hB3 (by simp; try omega) _, (World.cell?_setCell_other _ _ _ _ (by intro e; injection e with e1; omega)).trans c2p, (World.cell?_setCell_other _ _ _ _ (by intro e; injection e with e1; omega)).trans c2q, HG⟩
          case measure => simp [intOf]; omega
      · have hkn : k = c := by omega
        subst hkn
        have HN := Lib.hid (show ok = true by rw [HO.out, spB_yes HF.out])
        have HZ := Lib.hid (show m = k by rw [HM.out, HN.out, if_pos rfl])
        go_wp2
        go_ret2
        rw [HN.out, HZ.out]
        exact ⟨_, _, rfl, hownk, hLk, hBk⟩
  · go_wp2
    go_loopw [35] (fun i wr => ∃ (k : Nat) (Z : Nat → Nat), k ≤ c ∧ i = .int .i64 k ∧ wr.ownsRow w.heap.size 22 1 (.slice (some ⟨w.heap.size + 1 + 1 + 1, 0, none⟩) c c) c (rowOf Z c) ∧ Like Z (spR X n a b) k ∧ Below w.heap.size w wr ∧ wr.cell? ⟨w.heap.size + 1, 0, none⟩ = some (.float .f32 a) ∧ wr.cell? ⟨w.heap.size + 1 + 1, 0, none⟩ = some (.float .f32 b) ∧ Hid (∀ j, j < k → lsB X n (plc a b j) = true)) (fun i _ => c - (intOf i).toNat)
    case atStart =>
      refine ⟨0, fun _ => 0, Nat.zero_le _, rfl, ?_, fun _ h => absurd h (Nat.not_lt_zero _), ?_, by simp [go_sem], by simp [go_sem], Lib.hid fun j hj => absurd hj (Nat.not_lt_zero _)⟩
      · exact HOL.out _ _ (by simp) (by simp; try omega)
      · (repeat (first | with_reducible exact Below.refl _ _ | with_reducible refine Below.drewN ?_ _ | with_reducible refine Below.setCell ?_ (by simp; try omega) _ | with_reducible refine Below.alloc ?_ (by simp; try omega) _))
    case round =>
      obtain ⟨k, Z, hk, rfl, hownk, hLk, hBk, hcp, hcq, HF⟩ := hrel
      have hsz := hBk.size
      by_cases hlt : k < c
      · have HP := Lib.hid (fun wz h1 h2 => place1_any a b k (w.heap.size + 1) (w.heap.size + 1 + 1) wz h1 h2)
        have HV := Lib.hid (fun s w hX => implLs_any xa n cap X (plc a b k) s w hX hn)
        have hXk := hX.below hBk
        obtain ⟨P, hP⟩ : ∃ P, P = plc a b k := ⟨_, rfl⟩
        obtain ⟨V, hV⟩ : ∃ V, V = lsV X n P := ⟨_, rfl⟩
        cases g : lsB X n P
        · have HN := Lib.hid (show ok = false by rw [HO.out, spB_no hlt (by rw [← hP]; exact g)])
          have HZ := Lib.hid (show m = 0 by rw [HM.out, HN.out, if_neg (by simp)])
          rw [← hP] at HP HV
          rw [g, ← hV] at HV
          clear g hV hP
          go_wp2_with (first | (go_at_call 226; refine (HP.out _ (by exact hcp) (by exact hcq)).mono ?_; rintro e w' ⟨s, m2, rfl, rfl⟩) | (go_at_call 191; refine (HV.out _ _ (by exact hXk)).mono ?_; rintro e w2 ⟨rfl, B2⟩))
          go_ret2
          rw [HN.out, HZ.out]
          exact OutRet.no ((Below.drewN hBk _).trans (B2.mono hsz))
        · have HG := Lib.hid (show ∀ j, j < k + 1 → lsB X n (plc a b j) = true from fun j hj => by
            by_cases hj' : j < k
            · exact HF.out j hj'
            · rw [show j = k by omega, ← hP]; exact g)
          have HE := Lib.hid (show V = pick .f32 (spR X n a b k) 0 by rw [spR, ← hP, lsV_num, hV])
          rw [← hP] at HP HV
          rw [g, ← hV] at HV
          clear g hV hP
          go_wp2_with (first | (go_at_call 226; refine (HP.out _ (by exact hcp) (by exact hcq)).mono ?_; rintro e w' ⟨s, m2, rfl, rfl⟩) | (go_at_call 191; refine (HV.out _ _ (by exact hXk)).mono ?_; rintro e w2 ⟨rfl, B2⟩; have hB3 := (Below.drewN hBk _).trans (B2.mono hsz); have c2p := (B2.cell (p := ⟨w.heap.size + 1, 0, none⟩) (World.block_lt_of_cell? wr _ hcp)).trans hcp; have c2q := (B2.cell (p := ⟨w.heap.size + 1 + 1, 0, none⟩) (World.block_lt_of_cell? wr _ hcq)).trans hcq; have O2 := own_below (own_drew hownk _) B2; have st := own_store0 O2 hlt V; have HO2 := Lib.hid O2; clear O2 hownk))
          go_roundw
          case rel => exact ⟨k + 1, _, by omega, by go_num, own_stored HO2.out k _, like_push hLk HE.out, Below.setCell hB3 (by simp; try omega) _, (World.cell?_setCell_other _ _ _ _ (by intro e; injection e with e1; omega)).trans c2p, (World.cell?_setCell_other _ _ _ _ (by intro e; injection e with e1; omega)).trans c2q, HG⟩
          case measure => simp [intOf]; omega
      · have hkn : k = c := by omega
        subst hkn
        have HN := Lib.hid (show ok = true by rw [HO.out, spB_yes HF.out])
        have HZ := Lib.hid (show m = k by rw [HM.out, HN.out, if_pos rfl])
        go_wp2
        go_ret2
        rw [HN.out, HZ.out]
        exact ⟨_, _, rfl, hownk, hLk, hBk⟩

/- A spectrum of lines: what both sides tell, for all arguments. -/

set_option maxRecDepth 100000 in
set_option maxHeartbeats 1600000 in
theorem implSp_no (xa : Option Addr) (n cap : Nat) (a b : Nat) (c : Int) (w : World) (R : Nat → Nat) (h : finL (duo a b) 2 = false ∨ inB c 1 128 = false) :
    Calls Try.prog 134 #[.slice xa n cap, .float .f32 a, .float .f32 b, .int .i64 c] w (OutRet R 0 false w) := by
  cases c1 : finL (duo a b) 2
  · skip
    clear h
    go_enter Try.func134, Try.ntmps134
    go_wp2_with (first | (go_at_call 97; refine (allFinite_any _ _ _ (duo _ _) _ (by exact rd_two' _ _ _ _ (by simp)) (by omega)).mono ?_; rintro e w' ⟨rfl, q, rfl⟩))
    go_ret2
    refine OutRet.no ?_
    (repeat (first | with_reducible exact Below.refl _ _ | with_reducible refine Below.drewN ?_ _ | with_reducible refine Below.setCell ?_ (by simp; try omega) _ | with_reducible refine Below.alloc ?_ (by simp; try omega) _))
  · skip
    cases c2 : decide (c < 1)
    rotate_left
    · skip
      clear h
      go_enter Try.func134, Try.ntmps134
      go_wp2_with (first | (go_at_call 97; refine (allFinite_any _ _ _ (duo _ _) _ (by exact rd_two' _ _ _ _ (by simp)) (by omega)).mono ?_; rintro e w' ⟨rfl, q, rfl⟩))
      go_ret2
      refine OutRet.no ?_
      (repeat (first | with_reducible exact Below.refl _ _ | with_reducible refine Below.drewN ?_ _ | with_reducible refine Below.setCell ?_ (by simp; try omega) _ | with_reducible refine Below.alloc ?_ (by simp; try omega) _))
    · skip
      cases c3 : decide (128 < c)
      rotate_left
      · skip
        clear h
        go_enter Try.func134, Try.ntmps134
        go_wp2_with (first | (go_at_call 97; refine (allFinite_any _ _ _ (duo _ _) _ (by exact rd_two' _ _ _ _ (by simp)) (by omega)).mono ?_; rintro e w' ⟨rfl, q, rfl⟩))
        go_ret2
        refine OutRet.no ?_
        (repeat (first | with_reducible exact Below.refl _ _ | with_reducible refine Below.drewN ?_ _ | with_reducible refine Below.setCell ?_ (by simp; try omega) _ | with_reducible refine Below.alloc ?_ (by simp; try omega) _))
      · skip
        have hc := inB_yes (n := c) (a := 1) (b := 128) (by simpa using c2) (by simpa using c3)
        simp_all
/-- Whether a spectrum is told. -/
def spOk (X : Nat → Ln) (n a b : Nat) (c : Int) : Bool := ((allLn X n && decide (n ≤ 12)) && (isFin .f32 a && isFin .f32 b)) && (inB c 1 128 && spB X n a b c.toNat)
def spM (X : Nat → Ln) (n a b : Nat) (c : Int) : Nat := if spOk X n a b c = true then c.toNat else 0
theorem spM_le (X : Nat → Ln) (n a b : Nat) (c : Int) : spM X n a b c ≤ 1048576 := by
  unfold spM
  split
  · rename_i h
    simp only [spOk, Bool.and_eq_true] at h
    have := inB_rng h.2.1
    omega
  · omega
theorem sp_impl (X : Nat → Ln) (n a b : Nat) (c : Int) (hn : n ≤ 1048576) :
    (∀ xa cap w, RdN w xa n X → Calls Try.prog 134 #[.slice xa n cap, .float .f32 a, .float .f32 b, .int .i64 c] w (OutRet (spR X n a b) (spM X n a b c) (spOk X n a b c) w)) := by
  obtain ⟨ok, ho⟩ : ∃ ok, ok = spOk X n a b c := ⟨_, rfl⟩
  obtain ⟨m, hm⟩ : ∃ m, m = spM X n a b c := ⟨_, rfl⟩
  rw [← ho, ← hm]
  have hm' : m = if ok = true then c.toNat else 0 := by rw [hm, spM, ← ho]
  cases hL : (allLn X n && decide (n ≤ 12))
  · obtain rfl : ok = false := by rw [ho, spOk, hL, Bool.false_and, Bool.false_and]
    obtain rfl : m = 0 := by rw [hm', if_neg (by simp)]
    refine fun xa cap w hX => ?_
    cases hf : finL (duo a b) 2
    · exact implSp_no xa n cap a b c w _ (.inl hf)
    · cases hc : inB c 1 128
      · exact implSp_no xa n cap a b c w _ (.inr hc)
      · have hr := inB_rng hc
        obtain ⟨k, rfl⟩ : ∃ k : Nat, c = (k : Int) := ⟨c.toNat, by omega⟩
        rw [finL_two, Bool.and_eq_true] at hf
        exact implSp_yes xa n cap X a b k w hX hn hf.1 hf.2 (by omega) (by omega) false (by rw [spB_no (k := 0) (by omega) (lsB_bad hL)]) 0 (by rw [if_neg (by simp)])
  · have hE : ∀ b1 b2 b3 : Bool, ((true && (b1 && b2)) && b3) = (b1 && b2 && b3) := by decide
    rw [spOk, hL, hE] at ho
    have hfe : finL (duo a b) 2 = (isFin .f32 a && isFin .f32 b) := finL_two a b
    cases hf : (isFin .f32 a && isFin .f32 b)
    · rw [hf] at ho hfe
      obtain rfl : ok = false := by rw [ho, Bool.false_and]
      obtain rfl : m = 0 := by rw [hm', if_neg (by simp)]
      have h3 : isFin .f32 a = false ∨ isFin .f32 b = false ∨ inB c 1 128 = false := by
        cases h1 : isFin .f32 a
        · exact .inl rfl
        · rw [h1, Bool.true_and] at hf
          exact .inr (.inl hf)
      exact fun xa cap w hX => implSp_no xa n cap a b c w _ (.inl hfe)
    · rw [hf, Bool.true_and] at ho
      rw [Bool.and_eq_true] at hf
      cases hc : inB c 1 128
      · rw [hc, Bool.false_and] at ho
        subst ho
        obtain rfl : m = 0 := by rw [hm', if_neg (by simp)]
        exact fun xa cap w hX => implSp_no xa n cap a b c w _ (.inr hc)
      · have hr := inB_rng hc
        rw [hc, Bool.true_and] at ho
        obtain ⟨k, rfl⟩ : ∃ k : Nat, c = (k : Int) := ⟨c.toNat, by omega⟩
        rw [Int.toNat_natCast] at ho hm'
        exact fun xa cap w hX => implSp_yes xa n cap X a b k w hX hn hf.1 hf.2 (by omega) (by omega) ok ho m hm'

/- The laws' own marking of a list of lines. -/

def MarkedN (g n : Nat) (k0 : Int) (w : World) (e : Ending) (w' : World) : Prop := e = .returned (.int .i64 (k0 + 4 * n)) ∧ Only g w w'
theorem ownS_lt {w : World} {B e z g n cap : Nat} {xs : List Value} (h : w.ownsRow B e z (.slice (some ⟨g, 0, none⟩) n cap) n xs) : g < w.heap.size := by
  rcases h.2 with ⟨h2, _⟩ | ⟨b, cap, cur, h1, h2, h3, h4⟩
  · cases h2
  · simp only [Value.slice.injEq, Option.some.injEq, Addr.mk.injEq] at h1
    rw [h1.1.1]
    exact (Array.getElem?_eq_some_iff.1 h3).1
set_option maxRecDepth 100000 in
set_option maxHeartbeats 3200000 in
theorem markN_any (g n cap : Nat) (X : Nat → Ln) (k0 : Int) (w : World) (hown : w.ownsRow g 120 4 (.slice (some ⟨g, 0, none⟩) n cap) n (rowN X n)) (hn : n ≤ 1048576) (hk0 : 0 ≤ k0) (hk1 : k0 ≤ 100000000) :
    Calls Try.prog 38 #[.slice (some ⟨g, 0, none⟩) n cap, .int .i64 k0] w (MarkedN g n k0 w) := by
  go_enter Try.func38, Try.ntmps38
  go_wp2
  go_loopw [1, 5] (fun q i wr => ∃ (k : Nat) (Y : Nat → Ln), k ≤ n ∧ i = .int .i64 k ∧ q = .int .i64 (k0 + 4 * k) ∧ wr.ownsRow g 120 4 (.slice (some ⟨g, 0, none⟩) n cap) n (rowN Y n) ∧ Only g w wr) (fun _ i _ => n - (intOf i).toNat)
  case atStart => exact ⟨0, X, Nat.zero_le _, rfl, by simp, hown, Only.refl _ _⟩
  case round =>
    obtain ⟨k, Y, hk, rfl, rfl, hownk, hBk⟩ := hrel
    clear hown
    by_cases hlt : k < n
    · obtain ⟨c0, c1, c2, c3⟩ := ownN_cells hownk hlt
      have f0 := hownk.frozenAt (k * 4)
      have f1 := hownk.frozenAt (k * 4 + 1)
      have f2 := hownk.frozenAt (k * 4 + 2)
      have f3 := hownk.frozenAt (k * 4 + 3)
      have hst := run_store_f32
      have hst2 := run_store_i64
      have HO := Lib.hid hownk
      clear hownk
      go_wp2
      go_roundw
      case rel =>
        refine ⟨k + 1, _, by omega, by go_num, by go_num, ownN_stored HO.out k ⟨floatOfInt .f32 (k0 + 4 * k), floatOfInt .f32 (k0 + 4 * k + 1), floatOfInt .f32 (k0 + 4 * k + 1 + 1), k0 + 4 * k + 1 + 1 + 1⟩ hlt, ?_⟩
        exact (((hBk.setCell _ _).setCell _ _).setCell _ _).setCell _ _
      case measure => simp [intOf]; omega
    · have hkn : k = n := by omega
      subst hkn
      go_wp2
      go_ret
      exact ⟨ret_i64 (by go_num), hBk⟩

/- Of any lines, place, step and count the program tells the spectrum just where the model does, and the same; the lines are not changed, and the list is the caller's own: for all arguments. -/

end Go.Proofs.Ytmpcalpapkedhaa
