
/- The square root of a 32-bit number, narrowed: a conversion that is never asked of the tape. -/
import Derived.Test.YtmpcalpapkedhaaSqrtW
import Derived.Test.YtmpcalpapkedhaaRowKit
namespace Go.Proofs.Ytmpcalpapkedhaa
open Go Go.RowKit
theorem convOk_root (x : Nat) : convOk .f64 (fsqrt (fconv .f32 x .f64)) .f32 := by
  cases hd : FloatKind.decode .f64 (fconv .f32 x .f64) with
  | nan s t =>
    have hd' : Ieee.double.read (fconv .f32 x .f64) = _ := hd
    have : fsqrt (fconv .f32 x .f64) = qnan .f64 := by simp [fsqrt, Ieee.Format.sqrt, hd', Ieee.Datum.root]
    rw [this]
    exact .inl (isNaN_qnan _)
  | infinity s =>
    have hd' : Ieee.double.read (fconv .f32 x .f64) = _ := hd
    cases s
    · have : fsqrt (fconv .f32 x .f64) = 9218868437227405312 := by simp [fsqrt, Ieee.Format.sqrt, hd', Ieee.Datum.root]; decide +kernel
      rw [this]
      exact .inr (.inl (by decide +kernel))
    · have : fsqrt (fconv .f32 x .f64) = qnan .f64 := by simp [fsqrt, Ieee.Format.sqrt, hd', Ieee.Datum.root]
      rw [this]
      exact .inl (isNaN_qnan _)
  | number s m i =>
    have hd' : Ieee.double.read (fconv .f32 x .f64) = _ := hd
    have hn : isNaN .f64 (fconv .f32 x .f64) = false := by simp [isNaN, hd, Ieee.Datum.isNaN]
    rw [isNaN_fconv] at hn
    have hi : (FloatKind.decode .f32 x).isInfinity = false := by
      cases hx : FloatKind.decode .f32 x with
      | nan => rfl
      | number => rfl
      | infinity t =>
        have : fconv .f32 x .f64 = FloatKind.encode .f64 (.infinity t) := by simp [fconv, hn, hx]
        rw [this] at hd
        have hx2 : FloatKind.decode .f64 (FloatKind.encode .f64 (.infinity t)) = .infinity t := by cases t <;> decide +kernel
        rw [hx2] at hd; cases hd
    obtain ⟨s', m', e', h1, h2⟩ := bd_widen hn hi
    rw [hd] at h1
    cases h1
    by_cases hs : s = false ∨ m = 0
    · refine convOk_narrow (B := 65) (bd_sqrt (m := m) (i := i) (H := 64) ?_ h2 (by decide) (by decide)) (by decide)
      rcases hs with rfl | rfl
      · exact .inl hd
      · cases s
        · exact .inl hd
        · exact .inr ⟨rfl, hd⟩
    · have hst : s = true := by cases s <;> simp_all
      have hm : m ≠ 0 := fun h => hs (.inr h)
      subst hst
      have : fsqrt (fconv .f32 x .f64) = qnan .f64 := by simp [fsqrt, Ieee.Format.sqrt, hd', Ieee.Datum.root, hm]
      rw [this]
      exact .inl (isNaN_qnan _)
/-- It hands back X, or, where X is a not-a-number, any. -/
def RetR (k : FloatKind) (X : Nat) (w : World) (e : Ending) (w' : World) : Prop := ∃ s n, e = .returned (.float k (pick k X s)) ∧ w' = w.drewN n
def rootT (x : Nat) : Nat := fconv .f64 (fsqrt (fconv .f32 x .f64)) .f32
theorem rootT_pick (x s : Nat) : rootT (pick .f32 x s) = rootT x := by unfold rootT; rw [fconv_pick]
set_option maxRecDepth 100000 in
set_option maxHeartbeats 400000 in
theorem l01Sqrt_any (x : Nat) (w : World) : Calls Try.prog 201 #[.float .f32 x] w (RetR .f32 (rootT x) w) := by
  have hq := fsqrt_pick
  have hf := fun X s => fconv_pick .f64 X s .f32
  have HO := Lib.hid (fun s => convOk_pick (t := s) (convOk_root x))
  go_enter Try.func201, Try.ntmps201
  go_wp2_with (first | ((with_reducible refine wpL_fconv ?_); refine ⟨_, _, _, rfl, Option.isSome_iff_exists.2 ⟨_, Try.underlying22⟩, Try.underlying76, FloatKind.noConfusion, convOk_widen _, fun s n => ?_⟩) | ((with_reducible refine wpL_fconv ?_); refine ⟨_, _, _, rfl, Option.isSome_iff_exists.2 ⟨_, Try.underlying76⟩, Try.underlying22, FloatKind.noConfusion, HO.out _, fun s n => ?_⟩) | (go_at_call 209; refine (mathSqrt_any _ _).mono ?_; rintro e w' ⟨s, n, rfl, rfl⟩) | go_in)
  go_ret
  exact ⟨_, _, rfl, rfl⟩
set_option maxRecDepth 100000 in
set_option maxHeartbeats 400000 in
theorem RootNumber_any (x : Nat) (w : World) : Calls Try.prog 151 #[.float .f32 x] w (RetR .f32 (rootT x) w) := by
  have hq := fsqrt_pick
  have hf := fun X s => fconv_pick .f64 X s .f32
  have HO := Lib.hid (fun s => convOk_pick (t := s) (convOk_root x))
  go_enter Try.func151, Try.ntmps151
  go_wp2_with (first | ((with_reducible refine wpL_fconv ?_); refine ⟨_, _, _, rfl, Option.isSome_iff_exists.2 ⟨_, Try.underlying22⟩, Try.underlying76, FloatKind.noConfusion, convOk_widen _, fun s n => ?_⟩) | ((with_reducible refine wpL_fconv ?_); refine ⟨_, _, _, rfl, Option.isSome_iff_exists.2 ⟨_, Try.underlying76⟩, Try.underlying22, FloatKind.noConfusion, HO.out _, fun s n => ?_⟩) | (go_at_call 209; refine (mathSqrt_any _ _).mono ?_; rintro e w' ⟨s, n, rfl, rfl⟩) | go_in)
  go_ret
  exact ⟨_, _, rfl, rfl⟩
end Go.Proofs.Ytmpcalpapkedhaa
