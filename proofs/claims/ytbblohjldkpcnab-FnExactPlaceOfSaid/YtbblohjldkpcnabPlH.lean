
/- The place of a wave: the rounds, as the program makes them. -/
import Derived.Test.YtbblohjldkpcnabPlI
import Derived.Test.YtbblohjldkpcnabPlS
namespace Go.Proofs.Ytbblohjldkpcnab
set_option linter.all false
open Go Go.ChangeShapes Go.WideShapes Go.ChangeAt Go.RowKit

/-- An end: a finite word, whose wave is less, or not. -/
def PlE (X : Nat → Nat) (n wave l : Nat) (u : Bool) : Prop := isFin .f32 l = true ∧ l < 4294967296 ∧ lsF (atW X n l n) wave = u
/-- How far the rounds are: a place has failed (and so it is told), or all is as the model has it. -/
def PlJ (X : Nat → Nat) (n wave : Nat) (up : Bool) (N l0 h0 : Nat) (f0 : Bool) (c l h : Nat) (f : Bool) : Prop :=
  (f = true ∧ (f0 = true ∨ plR X n wave up N l0 h0 = none)) ∨ (f = false ∧ PlE X n wave l up ∧ PlE X n wave h (!up) ∧ plR X n wave up N l0 h0 = plR X n wave up (N - c) l h)
theorem plJ_step {X : Nat → Nat} {n wave : Nat} {up : Bool} {N l0 h0 : Nat} {f0 : Bool} {c l h : Nat} {f : Bool} (hc : crvB X n = true ∨ f0 = true) (hj : PlJ X n wave up N l0 h0 f0 c l h f) (hlt : c < N) (m : Nat) (hm : isFin .f32 l = true → isFin .f32 h = true → m = midF l h) (hmw : m < 4294967296)
    (hf0 : f0 = true → f = true) :
    PlJ X n wave up N l0 h0 f0 (c + 1) (if (lsF (wvA X n m) wave == !up) = true then l else m) (if (lsF (wvA X n m) wave == !up) = true then m else h) (f || !wvK X n m) := by
  rcases hj with ⟨rfl, h1⟩ | ⟨rfl, hl, hh, h1⟩
  · exact .inl ⟨rfl, h1⟩
  · have hc' : crvB X n = true := by
      rcases hc with h | h
      · exact h
      · have := hf0 h; cases this
    have hm' := hm hl.1 hh.1
    obtain ⟨r, hr⟩ : ∃ r, N - c = r + 1 := ⟨N - c - 1, by omega⟩
    have hr2 : N - (c + 1) = r := by omega
    rw [hr] at h1
    rw [show plR X n wave up (r + 1) l h = if isFin .f32 (atW X n (midF l h) n) = true then (if (lsF (atW X n (midF l h) n) wave == up) = true then plR X n wave up r (midF l h) h else plR X n wave up r l (midF l h)) else none from rfl, ← hm'] at h1
    cases hx : isFin .f32 (atW X n m n)
    · rw [hx, if_neg (by simp)] at h1
      exact .inl ⟨by unfold wvK; rw [hx]; simp, .inr h1⟩
    · have hfm : isFin .f32 m = true := fin_of_at (crvB_at hc').1 hx
      have hok : okWav X n m = true := by unfold okWav; rw [hc', hfm]; rfl
      have hA : wvA X n m = atW X n m n := by unfold wvA numQ; rw [hok, hx]; rfl
      have hK : wvK X n m = true := by unfold wvK; rw [hok, hx]; rfl
      rw [hx, if_pos rfl] at h1
      rw [hA, hK]
      refine .inr ⟨rfl, ?_⟩
      rw [hr2]
      cases hu : (lsF (atW X n m n) wave == up)
      · have : (lsF (atW X n m n) wave == !up) = true := by
          revert hu; cases lsF (atW X n m n) wave <;> cases up <;> decide
        rw [this, if_pos rfl, if_pos rfl]
        rw [hu, if_neg (by simp)] at h1
        exact ⟨hl, ⟨hfm, hmw, by revert hu; cases lsF (atW X n m n) wave <;> cases up <;> decide⟩, h1⟩
      · have : (lsF (atW X n m n) wave == !up) = false := by
          revert hu; cases lsF (atW X n m n) wave <;> cases up <;> decide
        rw [this, if_neg (by simp), if_neg (by simp)]
        rw [hu, if_pos rfl] at h1
        exact ⟨⟨hfm, hmw, by revert hu; cases lsF (atW X n m n) wave <;> cases up <;> decide⟩, hh, h1⟩
/-- What the halving tells. -/
def HalveRet (W0 : World) (xa : Option Addr) (n cx : Nat) (X : Nat → Nat) (wave bc bf bw bi bh : Nat) (up : Bool) (N l0 h0 : Nat) (f0 : Bool) (e : Ending) (w' : World) : Prop :=
  ∃ l h f, e = .returned (.tuple #[.float .f32 l, .float .f32 h]) ∧ PlU W0 w' xa n cx X wave bc bf bw bi bh (!up) f ∧ (f0 = true → f = true) ∧ PlJ X n wave up N l0 h0 f0 N l h f
theorem half_quo (x : Nat) : fbin .quo .f32 x 1073741824 = fbin .mul .f32 1056964608 x := (half_eq x).symm
set_option maxRecDepth 100000 in
set_option maxHeartbeats 3200000 in
theorem halve_any (W0 : World) (xa : Option Addr) (n cx : Nat) (X : Nat → Nat) (wave bc bf bw bi bh : Nat) (up f0 : Bool) (N l0 h0 : Nat) (w : World) (hX : Rd W0 xa n X) (hn : n ≤ 1048576) (hN : N ≤ 32) (hc : crvB X n = true ∨ f0 = true)
    (hfin : f0 = false → PlE X n wave l0 up ∧ PlE X n wave h0 (!up)) (h : PlU W0 w xa n cx X wave bc bf bw bi bh (!up) f0) :
    Calls Try.prog 88 #[.float .f32 l0, .float .f32 h0, .int .i64 (N : Int), .func (.func 89) #[] #[.pointer (some ⟨bi, 0, none⟩), .pointer (some ⟨bh, 0, none⟩)]] w (HalveRet W0 xa n cx X wave bc bf bw bi bh up N l0 h0 f0) := by
  have HU := Lib.hid (fun w p f h => upper_any W0 xa n cx X wave bc bf bw bi bh (!up) f p w hX hn h)
  have HH := Lib.hid h
  have HC := Lib.hid hc
  have HF := Lib.hid hfin
  have hp1 := fun op => fbin_pick_l op .f32
  have hq2 := half_quo
  clear h hX hc hfin
  go_enter Try.func88, Try.ntmps88
  go_wp2
  go_loopw [0, 1, 12] (fun lv hv iv wr => ∃ (c l h : Nat) (f : Bool), c ≤ N ∧ lv = .float .f32 l ∧ hv = .float .f32 h ∧ iv = .int .i64 (c : Int) ∧ Hid (PlU W0 wr xa n cx X wave bc bf bw bi bh (!up) f ∧ (f0 = true → f = true) ∧ PlJ X n wave up N l0 h0 f0 c l h f)) (fun _ _ iv _ => N - (intOf iv).toNat)
  case atStart => exact ⟨0, l0, h0, f0, Nat.zero_le _, rfl, rfl, rfl, Lib.hid ⟨HH.out, fun h => h, by
    cases f0
    · exact .inr ⟨rfl, (HF.out rfl).1, (HF.out rfl).2, rfl⟩
    · exact .inl ⟨rfl, .inl rfl⟩⟩⟩
  case round =>
    obtain ⟨c, l, h, f, hcN, rfl, rfl, rfl, HJ⟩ := hrel
    by_cases hlt : c < N
    · have hci : (c : Int) < (N : Int) := by omega
      go_wp2_with (first | ((with_reducible refine wpL_fbin ?_); refine ⟨_, _, _, rfl, rfl, rfl, fun s n => ?_⟩))
      obtain ⟨m, hm⟩ : ∃ m, m = pick .f32 (fbin .mul .f32 1056964608 (fbin .add .f32 l h)) s := ⟨_, rfl⟩
      rw [← hm]
      have HM := Lib.hid (show isFin .f32 l = true → isFin .f32 h = true → m = midF l h from fun a b => by
        rw [hm]
        exact pick_num (nan_mul_fin ⟨false, 8388608, -24, read_halfW, by decide⟩ (nan_add (num_fin a) b)) s)
      have HMW := Lib.hid (show m < 4294967296 from by
        rw [hm]
        have := pick_wf (fbin_wf .mul .f32 1056964608 (fbin .add .f32 l h)) s
        simpa [Lit.wf] using this)
      clear hm
      refine (HU.out _ m f (by exact HJ.out.1.drew _)).mono ?_
      rintro e w1 ⟨rfl, HN⟩
      have HS := plJ_step HC.out HJ.out.2.2 hlt m HM.out HMW.out HJ.out.2.1
      have HG := Lib.hid (show ∀ b, f0 = true → (f || b) = true from fun b h => by rw [HJ.out.2.1 h]; rfl)
      generalize hu : (lsF (wvA X _ m) wave == !up) = u at HS ⊢
      have HN' := Lib.hid HN
      clear HN hu
      cases u
      · rw [if_neg (by simp), if_neg (by simp)] at HS
        have HS' := Lib.hid HS
        clear HS
        go_wp2
        go_roundw
        case rel => exact ⟨c + 1, _, _, _, by omega, rfl, rfl, by go_num, Lib.hid ⟨HN'.out, HG.out _, HS'.out⟩⟩
        case measure => simp [intOf]; omega
      · rw [if_pos rfl, if_pos rfl] at HS
        have HS' := Lib.hid HS
        clear HS
        go_wp2
        go_roundw
        case rel => exact ⟨c + 1, _, _, _, by omega, rfl, rfl, by go_num, Lib.hid ⟨HN'.out, HG.out _, HS'.out⟩⟩
        case measure => simp [intOf]; omega
    · have hcn : c = N := by omega
      subst hcn
      go_wp2
      go_ret2
      exact ⟨l, h, f, rfl, HJ.out.1, HJ.out.2.1, HJ.out.2.2⟩
end Go.Proofs.Ytbblohjldkpcnab
