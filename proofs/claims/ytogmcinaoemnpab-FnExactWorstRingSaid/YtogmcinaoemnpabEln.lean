
/- The program's look for the first edge with one end told. -/
import Derived.Test.YtogmcinaoemnpabElm
namespace Go.Proofs.Ytogmcinaoemnpab
set_option linter.all false
open Go Go.ChangeShapes Go.WideShapes Go.ChangeAt Go.RowKit Go.Maps

def elIx (X : Nat → Ed) (T : Nat → Bool) (n : Nat) : Int := match elFirst X T n with
  | none => -1
  | some j => (j : Int)
set_option maxRecDepth 100000 in
set_option maxHeartbeats 1600000 in
theorem elIndex_any (xa : Option Addr) (n cap : Nat) (X : Nat → Ed) (g b m L : Nat) (T : Nat → Bool) (D : DataW Unit) (w : World) (hX : RdE w xa n X) (hn : n ≤ 1048576) (hg : w.cell? ⟨g, 0, none⟩ = some (.map (some b))) (hm : w.ownsMap Try.prog 2 (plainElem Try.prog 4) b m D) (hD : HOpen L T D) (hE : ∀ j, j < n → EdIn L (X j)) (hL : L ≤ 12) :
    Calls Try.prog 59 #[.slice xa n cap, .func (.func 60) #[] #[.pointer (some ⟨g, 0, none⟩)]] w fun e w' => e = .returned (.int .i64 (elIx X T n)) ∧ Below w.heap.size w w' := by
  obtain ⟨xb, xo, hxa, hcx⟩ := hX
  have HX := Lib.hid hcx
  have HM := Lib.hid hm
  have HD := Lib.hid hD
  have HE := Lib.hid hE
  have hgl := World.block_lt_of_cell? w _ hg
  clear hcx hm hD hE
  go_enter Try.func59, Try.ntmps59
  go_wp2
  go_loopw [8] (fun i wr => ∃ k : Nat, k ≤ n ∧ i = .int .i64 k ∧ Below w.heap.size w wr ∧ Hid (elFirst X T k = none)) (fun i _ => n - (intOf i).toNat)
  case atStart => exact ⟨0, Nat.zero_le _, rfl, Below.refl _ _, Lib.hid rfl⟩
  case round =>
    obtain ⟨k, hk, rfl, hBk, HF⟩ := hrel
    by_cases hlt : k < n
    · have e := hxa (by omega)
      subst e
      obtain ⟨r0, r1, r2⟩ := EdAt.below (HX.out k hlt) hBk
      have hg1 := (hBk.cell (p := ⟨g, 0, none⟩) hgl).trans hg
      have hsz := hBk.size
      have HO := Lib.hid (elOdd_any (X k) g b m L T D wr hg1 (map_below HM.out hBk) HD.out (HE.out k hlt) hL)
      have HS := elFirst_succ_none HF.out
      clear hg
      by_cases c : T (X k).a.toNat = T (X k).b.toNat
      · rw [if_pos c] at HS
        have HN := Lib.hid HS
        rw [show (T (X k).a.toNat != T (X k).b.toNat) = false by rw [c]; simp] at HO
        clear c HS
        go_wp2_with (go_at_call 60; refine HO.out.mono ?_; rintro e w2 ⟨rfl, B0⟩; have B2 := hBk.trans (B0.mono hsz))
        go_roundw
        case rel => exact ⟨k + 1, by omega, by go_num, B2, HN⟩
        case measure => simp [intOf]; omega
      · rw [if_neg c] at HS
        have HN := Lib.hid (show elIx X T n = (k : Int) by
          have : ∀ d, elFirst X T (k + 1 + d) = some k := fun d => by
            induction d with
            | zero => exact HS
            | succ d ih => exact elFirst_succ_some ih
          unfold elIx
          rw [show n = k + 1 + (n - k - 1) by omega, this])
        rw [show (T (X k).a.toNat != T (X k).b.toNat) = true by simpa using c] at HO
        clear c HS
        go_wp2_with (go_at_call 60; refine HO.out.mono ?_; rintro e w2 ⟨rfl, B0⟩; have B2 := hBk.trans (B0.mono hsz))
        go_ret
        exact ⟨by rw [HN.out]; rfl, B2⟩
    · have hkn : k = n := by omega
      subst hkn
      have HN := Lib.hid (show elIx X T k = -1 by unfold elIx; rw [HF.out])
      go_wp2
      go_ret
      exact ⟨by rw [HN.out]; rfl, hBk⟩
/-- How many entries a map's block has. -/
def mSize (w : World) (b : Nat) : Nat := match w.heap[b]? with
  | some (.map es _) => es.size
  | _ => 0
theorem mSize_own {P : Program} {k : TypeId} {R : Value → Option (DataW Unit × List MemPlace)} {w : World} {b n : Nat} {D : DataW Unit} (h : w.ownsMap P k R b n D) : mSize w b = Maps.size D := by
  obtain ⟨es, clock, hb, F, hs, rfl⟩ := h
  unfold mSize
  rw [hb]
  show es.size = (_ : List _).length
  rw [length_sorted]
  simp
theorem del_size {L : Nat} {D : DataW Unit} {T : Nat → Bool} {a c : Nat} (hT : Tidy D) (h : HOpen L T D) (ha : a < L) (hc : c < L) (hne : a ≠ c) (ht : T a ≠ T c) :
    Maps.size ((D.del (.int .i64 (a : Int))).del (.int .i64 (c : Int))) + 1 = Maps.size D := by
  have h1 := size_del hT (k := .int .i64 (a : Int))
  have h2 := size_del (hT.del (.int .i64 (a : Int))) (k := .int .i64 (c : Int))
  rw [(h a).1, decide_eq_true ha, Bool.true_and] at h1
  rw [(h.del (a := a) c).1] at h2
  dsimp only at h2
  rw [decide_eq_true hc, Bool.true_and, decide_eq_false (fun e => hne e.symm), Bool.or_false] at h2
  revert ht h1 h2
  cases T a <;> cases T c <;> simp <;> omega
end Go.Proofs.Ytogmcinaoemnpab
