/-
  What a call of layer 3's statements is told of a slice of numbers that came in: it is a row of numbers; and Places' answer as one row and one error.
-/
import Derived.Test.YtljanfmmhglpiaaDoorOwnQ
import Derived.Test.YtljanfmmhglpiaaDoorRows
import Derived.WalkKit
import Derived.ProofKit
import Derived.Below
import Derived.Deep.OwnRows
import Derived.Deep.QuietTactic
import Derived.BigQuiet
import Derived.Deep.RegionWith
import Derived.Laws.MakeOwn
import Derived.Deep.RegionHeld3
import Derived.OpenShut
import Derived.ChangeOld
import Derived.SizedLaws
namespace Go.Proofs.YtljanfmmhglpiaaDoor
open Go.ChangeShapes Go.WideShapes Go.ChangeAt Go.RowKit
set_option maxRecDepth 100000
set_option linter.unusedVariables false
theorem own : ownKnob Tryd.prog.godebug = none := by kernel_rfl
theorem laidOut : laidOutB Tryd.prog = true := by kernel_rfl
theorem bytes3 : Tryd.prog.bytesOf 3 = 8 := by kernel_rfl
/-- What Places tells: the places, and the error. -/
def plsL (l : List Int) (n : Int) : List Int := if sizeE l = 0 ∧ 0 ≤ n ∧ n < sizeV l then digits l n else []
def plsE (l : List Int) (n : Int) : Int := if sizeE l = 0 then (if 0 ≤ n ∧ n < sizeV l then 0 else 8) else sizeE l
theorem places_form {l : List Int} {n : Int} {w w' : World} {e : Ending} (h : PlacesIs l n w e w') :
    (∃ a, e = .returned (.tuple #[.slice a (plsL l n).length (plsL l n).length, .int .i64 (plsE l n)]) ∧ Row w.heap.size w' a (plsL l n)) ∧ Below w.heap.size w w' := by
  obtain ⟨hb, h1, h2, h3⟩ := h
  refine ⟨?_, hb⟩
  by_cases hs : sizeE l = 0
  · by_cases ho : 0 ≤ n ∧ n < sizeV l
    · obtain ⟨b, he, hr, -⟩ := h3 hs ho.1 ho.2
      have e1 : plsL l n = digits l n := by unfold plsL; rw [if_pos ⟨hs, ho⟩]
      have e2 : plsE l n = 0 := by unfold plsE; rw [if_pos hs, if_pos ho]
      rw [e1, e2, digits_length]
      exact ⟨_, he, hr⟩
    · have e1 : plsL l n = [] := by unfold plsL; rw [if_neg (fun h => ho h.2)]
      have e2 : plsE l n = 8 := by unfold plsE; rw [if_pos hs, if_neg ho]
      rw [e1, e2]
      exact ⟨none, h2 hs ho, row_nil _ _ _⟩
  · have e1 : plsL l n = [] := by unfold plsL; rw [if_neg (fun h => hs h.1)]
    have e2 : plsE l n = sizeE l := by unfold plsE; rw [if_neg hs]
    rw [e1, e2]
    exact ⟨none, h1 hs, row_nil _ _ _⟩
theorem pls_ok {l : List Int} {n : Int} (h : plsE l n = 0) : sizeE l = 0 ∧ 0 ≤ n ∧ n < sizeV l ∧ plsL l n = digits l n := by
  unfold plsE at h
  by_cases hs : sizeE l = 0
  · by_cases ho : 0 ≤ n ∧ n < sizeV l
    · exact ⟨hs, ho.1, ho.2, by unfold plsL; rw [if_pos ⟨hs, ho⟩]⟩
    · rw [if_pos hs, if_neg ho] at h; omega
  · rw [if_neg hs] at h; exact absurd h hs
theorem plc_ok {l m : List Int} (h : plcE l m = 0) : sizeE l = 0 ∧ inAxes l m ∧ plcV l m = place l m := by
  unfold plcE at h
  by_cases hs : sizeE l = 0
  · by_cases hl : m.length = l.length
    · by_cases hi : inAxes l m
      · exact ⟨hs, hi, by unfold plcV; rw [if_pos ⟨hs, hi⟩]⟩
      · simp [hs, hl, hi] at h
    · simp [hs, hl] at h
  · simp [hs] at h
/-- The places of the cell at places. -/
theorem there {l m : List Int} (h : plcE l m = 0) : plsE l (plcV l m) = 0 ∧ plsL l (plcV l m) = m := by
  obtain ⟨hs, hi, hv⟩ := plc_ok h
  obtain ⟨b1, b2, b3, b4⟩ := place_bound hi
  obtain ⟨s1, s2, s3⟩ := sizeE_ok hs
  have hz : ¬ hasZero l := by
    rintro ⟨z, hz, e⟩
    have := b1 z hz
    omega
  rcases s3 with s3 | ⟨-, s4⟩
  · exact absurd s3 hz
  have sv : sizeV l = prodL l := (size_ok s1 s2 hz (by omega)).1
  have hr : 0 ≤ plcV l m ∧ plcV l m < sizeV l := by rw [hv, sv]; exact ⟨b2, b3⟩
  refine ⟨by unfold plsE; rw [if_pos hs, if_pos hr], ?_⟩
  unfold plsL
  rw [if_pos ⟨hs, hr⟩, hv]
  exact digits_place hi
/-- The cell at the places of a cell. -/
theorem back {l : List Int} {n : Int} (h : plsE l n = 0) : plcE l (plsL l n) = 0 ∧ plcV l (plsL l n) = n := by
  obtain ⟨hs, h0, h1, hL⟩ := pls_ok h
  obtain ⟨s1, s2, s3, s4⟩ := sizeV_in hs h0 h1
  obtain ⟨d1, d2⟩ := digits_in s2 h0 (by omega)
  rw [hL]
  have hl := digits_length l n
  refine ⟨by unfold plcE; simp [hs, hl, d1], ?_⟩
  unfold plcV
  rw [if_pos ⟨hs, d1⟩]
  exact d2
/-- A slice of ints that came in, as a row. -/
theorem ints_row {H : Type} {enc : TypeId × Value → H} {W : World} {ts : List TypeId} {ds : List (DataW H)} {j : Nat} {d : DataW H} {a : Option Addr} {len cap : Nat} {p : List MemPlace}
    (hsz : (DataW.weightsEach Tryd.prog ts ds).all (· ≤ reachBytes) = true) (ht : ts[j]? = some 30) (hd : ds[j]? = some d)
    (h : DataW.Trod enc Tryd.prog W 0 (fun _ => true) true 30 (.slice a len cap) d p) : ∃ zs : List Int, zs.length = len ∧ Row 0 W a zs ∧ len * 8 ≤ 140737488351232 := by
  obtain ⟨fuel, hf⟩ := h
  rcases open_ints Tryd.underlying30 Tryd.underlying3 (by kernel_rfl) hf with ⟨hcs, hx⟩ | ⟨x, l, c, zs, hcs, _, hl, hm, hz, hx, hcell, hwz⟩
  · simp [Value.cells] at hcs
    obtain ⟨rfl, rfl, rfl⟩ := hcs
    exact ⟨[], rfl, row_nil _ _ _, by omega⟩
  · simp [Value.cells] at hcs
    obtain ⟨rfl, rfl, rfl⟩ := hcs
    have hd' := (Prod.mk.inj hx).1
    have hz' : zs.length = cap := by simpa using hz
    rw [hd'] at hd
    have hs := sized_slice hsz (j := j) (t := 30) (e := 3) ht hd Tryd.underlying30
    rw [bytes3] at hs
    simp only [lits, List.length_map, List.length_take, List.length_drop, reachBytes] at hs
    refine ⟨zs.take len, by rw [List.length_take]; omega, ?_, by omega⟩
    refine ⟨by rw [List.length_take]; omega, ?_⟩
    by_cases h0 : len = 0
    · left; subst h0; rfl
    · right
      obtain ⟨b, off, spot⟩ := x
      have hc0 := hcell 0 (by omega)
      have hspot : spot = none := by simpa [Addr.add] using World.cell?_spot hc0
      subst hspot
      refine ⟨b, off, rfl, Nat.zero_le _, ?_, ?_⟩
      · refine Decidable.byContradiction fun hb => ?_
        have : W.heap[b]? = none := by simp; omega
        simp [Addr.add, World.cell?, this] at hc0
      · intro i hi
        have hi' : i < len := by rw [List.length_take] at hi; omega
        have := hcell i (by omega)
        have ea : (⟨b, off, none⟩ : Addr).add i = ⟨b, off + i, none⟩ := by
          unfold Addr.add
          split
          · subst_vars; rfl
          · rfl
        rw [ea] at this
        rw [this]
        simp [hi']
end Go.Proofs.YtljanfmmhglpiaaDoor
