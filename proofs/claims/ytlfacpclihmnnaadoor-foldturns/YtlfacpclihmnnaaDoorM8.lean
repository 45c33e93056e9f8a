/-
  Layer 8: the document's Places, whose answer may be written; where the cells of a line lie, as the document's Scan reckons it.
  Layer 8: the document's Scan.
-/
import Derived.Test.YtlfacpclihmnnaaDoorM7
import Derived.WalkKit
import Derived.Test.YtlfacpclihmnnaaDoorChecked
import GoSem.Claim
import GoSem.ClaimJoined
import GoSem.ClaimMapViews
import Derived.JoinedTies
import Derived.KernelRfl
import Derived.ProofKit
import Derived.Below
import Derived.Deep.OwnRows
import Derived.Deep.QuietTactic
import Derived.BigQuiet
import Derived.Deep.RegionWith
import Derived.Laws.MakeOwn
import Derived.Deep.RegionHeld3
import Derived.OpenShut
import Derived.Lib.Mul64
import Derived.Laws.Bits64b
import Derived.ChangeOld
import Derived.SizedLaws
import Derived.Deep.Slices
import Derived.Deep.Strs
import Derived.Deep.LoopGhost
import Derived.Laws.IdiomCopy
import Derived.Deep.Cut
import Derived.Deep.RegionLaw
import Derived.Laws.AppendOwnNone
import Derived.BigFrame
import Derived.Laws.OwnMore
import Derived.OwnWalk
import Derived.Lib.SliceRun
import Derived.Deep.CutRange
import Derived.Laws.EntriesVeiled
import GoSem.ClaimSeven
import Derived.LaidByTextLater
import Derived.SevenTiedAt
import Derived.LaidSub
import Derived.LaidOnce
import Derived.Deep.DeepHandedRow
import Derived.Lib.LaidTab
namespace Go.Proofs.YtlfacpclihmnnaaDoor
open Go.ChangeShapes Go.WideShapes Go.ChangeAt Go.RowKit
open Num (resV resE In64 sgnI absI)
set_option linter.unusedVariables false
set_option linter.unusedSimpArgs false
set_option maxRecDepth 100000
def PlacesW (l : List Int) (n : Int) (w : World) (e : Ending) (w' : World) : Prop :=
  Below w.heap.size w w' ∧ (sizeE l ≠ 0 → e = .returned (.tuple #[.slice none 0 0, .int .i64 (sizeE l)])) ∧
  (sizeE l = 0 → ¬ (0 ≤ n ∧ n < sizeV l) → e = .returned (.tuple #[.slice none 0 0, .int .i64 8])) ∧
  (sizeE l = 0 → 0 ≤ n → n < sizeV l → ∃ b, e = .returned (.tuple #[.slice (some ⟨b, 0, none⟩) l.length l.length, .int .i64 0]) ∧ w.heap.size ≤ b ∧ b < w'.heap.size ∧ SoftC w' b (digits l n))
theorem placesW_bad {l : List Int} {n : Int} {w w' : World} (hs : ¬ sizeE l = 0) (hb : Below w.heap.size w w') : PlacesW l n w (.returned (.tuple #[.slice none 0 0, .int .i64 (sizeE l)])) w' :=
  ⟨hb, fun _ => rfl, fun h => absurd h hs, fun h => absurd h hs⟩
theorem placesW_out {l : List Int} {n : Int} {w w' : World} (hs : sizeE l = 0) (ho : ¬ (0 ≤ n ∧ n < sizeV l)) (hb : Below w.heap.size w w') : PlacesW l n w (.returned (.tuple #[.slice none 0 0, .int .i64 8])) w' :=
  ⟨hb, fun h => absurd hs h, fun _ _ => rfl, fun _ h1 h2 => absurd ⟨h1, h2⟩ ho⟩
theorem placesW_in {l : List Int} {n : Int} {w w' : World} (hs : sizeE l = 0) (h0 : 0 ≤ n) (h1 : n < sizeV l) (hb : Below w.heap.size w w') (f : Nat → Value) (hr : w'.rowIs w.heap.size 3 l.length f) (hf : ∀ i, i < l.length → f i = .int .i64 ((digits l n)[i]?.getD 0)) : PlacesW l n w (.returned (.tuple #[.slice (some ⟨w.heap.size, 0, none⟩) l.length l.length, .int .i64 0])) w' := by
  refine ⟨hb, fun h => absurd hs h, fun _ h => absurd ⟨h0, h1⟩ h, fun _ _ _ => ⟨_, rfl, Nat.le_refl _, ?_, fun i hi => ?_⟩⟩
  · obtain ⟨c, hc, -⟩ := hr
    exact lt_of_block hc
  · rw [digits_length] at hi
    exact ⟨(hr.cell (i := i) hi).trans (by rw [hf i hi]; rfl), hr.frozen i⟩
set_option maxHeartbeats 1000000 in
theorem rplacesW {lo : Nat} (l : List Int) (n : Int) (a : Option Addr) (cap : Nat) (w : World) (R : Row lo w a l) :
    Calls Tryd.prog 37 #[.slice a l.length cap, .int .i64 n] w fun e w' => PlacesW l n w e w' := by
  have C := rsize_any l a cap w R
  have hrow := @row_at _ _ _ _ R
  have hl := R.1
  clear R
  by_cases hs : sizeE l = 0
  · by_cases ho : 0 ≤ n ∧ n < sizeV l
    · obtain ⟨h0, h1⟩ := ho
      obtain ⟨s1, s2, s3, s4⟩ := sizeV_in hs h0 h1
      have FIN := fun (w' : World) (hb : Below w.heap.size w w') f hr hf => placesW_in hs h0 h1 hb f hr hf
      rw [hs] at C
      have DG : Hid (∀ i, i < l.length → (digits l n)[i]?.getD 0 = n % prodL (l.drop i) / prodL (l.drop (i + 1))) := fun i hi => digit_ref l s2 n h0 (by omega) i hi
      have DD : Hid (∀ i, i < l.length → 0 < l[i]?.getD 0 ∧ l[i]?.getD 0 ≤ 16384 ∧ 0 < prodL (l.drop (i + 1)) ∧ prodL (l.drop i) = l[i]?.getD 0 * prodL (l.drop (i + 1)) ∧ prodL (l.drop i) ≤ 16384 ∧ 0 ≤ n % prodL (l.drop i) ∧ n % prodL (l.drop i) ≤ 16384 ∧ n % prodL (l.drop i) % prodL (l.drop (i + 1)) = n % prodL (l.drop (i + 1))) := by
        intro i hi
        have p1 := s2 _ (getD_mem hi)
        have p2 := prod_of_mem s2 (getD_mem hi)
        have p3 := prodL_pos (l := l.drop (i + 1)) fun z hz => s2 z (List.mem_of_mem_drop hz)
        have p4 := prodL_pos (l := l.drop i) fun z hz => s2 z (List.mem_of_mem_drop hz)
        have p5 : prodL (l.drop i) ≤ prodL l := by
          have e : prodL l = prodL (l.take i) * prodL (l.drop i) := by rw [← prodL_append, List.take_append_drop]
          have p6 := prodL_pos (l := l.take i) fun z hz => s2 z (List.mem_of_mem_take hz)
          have := Int.mul_le_mul (a := 1) (b := prodL (l.drop i)) (c := prodL (l.take i)) (d := prodL (l.drop i)) (by omega) (by omega) (by omega) (by omega)
          omega
        have p7 := Int.emod_nonneg n (show prodL (l.drop i) ≠ 0 by omega)
        have p8 := Int.emod_lt_of_pos n (show 0 < prodL (l.drop i) by omega)
        refine ⟨p1, by omega, by omega, prodL_drop l i hi, by omega, p7, by omega, ?_⟩
        exact Int.emod_emod_of_dvd n ⟨l[i]?.getD 0, by rw [prodL_drop l i hi, Int.mul_comm]⟩
      have H0 : Hid (n = n % prodL (l.drop 0) ∧ sizeV l = prodL (l.drop 0)) := ⟨by rw [List.drop_zero, Int.emod_eq_of_lt h0 (by omega)], s3⟩
      have mk := run_make_row' (P := Tryd.prog) 22 3 (.int .i64 0) 8 Tryd.underlying22 int3 rfl .i64 .i64 l.length (by omega) (by omega)
      have rm := World.rowIs_made w (.int .i64 0) l.length 3
      have bm : Below w.heap.size w (w.alloc (.cells (madeCells #[.int .i64 0] l.length) 3)) := (Below.refl _ _).alloc (Nat.le_refl _) _
      have FIN' : Hid (∀ (w' : World) (hb : Below w.heap.size w w') f (hr : w'.rowIs w.heap.size 3 l.length f) (hf : ∀ i, i < l.length → f i = .int .i64 ((digits l n)[i]?.getD 0)), PlacesW l n w (.returned (.tuple #[.slice (some ⟨w.heap.size, 0, none⟩) l.length l.length, .int .i64 0])) w') := FIN
      clear FIN
      have BM : Hid _ := bm
      have RM : Hid ((w.alloc (.cells (madeCells #[.int .i64 0] l.length) 3)).rowIs w.heap.size 3 l.length (fun _ => .int .i64 0)) := rm
      clear bm rm s2 hs s3
      generalize sizeV l = S at C h1 H0
      go_enter Tryd.func37, Tryd.ntmps37
      go_wp2_with (go_at_call 36; refine C.mono ?_; rintro e w' ⟨rfl, hw⟩; rw [hw])
      clear C mk
      go_loopw [1, 9, 10] (fun nn st i wr => ∃ k : Nat, k ≤ l.length ∧ i = .int .i64 (k : Int) ∧ nn = .int .i64 (n % prodL (l.drop k)) ∧ st = .int .i64 (prodL (l.drop k)) ∧ Below w.heap.size w wr ∧ wr.rowIs w.heap.size 3 l.length (fun i => if i < k then .int .i64 ((digits l n)[i]?.getD 0) else .int .i64 0)) (fun _ _ i _ => l.length - (intOf i).toNat)
      case atStart =>
        refine ⟨0, Nat.zero_le _, by go_num, by rw [← H0.out.1], by rw [H0.out.2], BM.out, World.rowIs.congr RM.out ?_⟩
        intro i hi
        simp
      case round =>
        obtain ⟨k, hk, rfl, rfl, rfl, hnx, hr⟩ := hrel
        by_cases hlt : k < l.length
        · obtain ⟨b, off, ha, hb, hck⟩ := hrow hlt
          subst ha
          have hc1 : wr.cell? ⟨b, off + k, none⟩ = some (.int .i64 (l[k]?.getD 0)) := (hnx.cell (p := ⟨b, off + k, none⟩) hb).trans hck
          have hz := hr.cell hlt
          rw [if_neg (by omega)] at hz
          have hfz := hr.frozen k
          obtain ⟨d1, d2, d3, d4, d5, d6, d7, d8⟩ := DD.out k hlt
          have dg := DG.out k hlt
          obtain ⟨s, es⟩ : ∃ s, l[k]?.getD 0 = s := ⟨_, rfl⟩
          rw [es] at hc1 d1 d2 d4
          obtain ⟨q, eq⟩ : ∃ q, n % prodL (l.drop k) = q := ⟨_, rfl⟩
          rw [eq] at d6 d7 d8 dg ⊢
          obtain ⟨P, eP⟩ : ∃ P, prodL (l.drop k) = P := ⟨_, rfl⟩
          rw [eP] at d4 d5 ⊢
          have D8 : Hid (q % prodL (l.drop (k + 1)) = n % prodL (l.drop (k + 1))) := d8
          obtain ⟨p, ep⟩ : ∃ p, prodL (l.drop (k + 1)) = p := ⟨_, rfl⟩
          have EP : Hid (prodL (l.drop (k + 1)) = p) := ep
          rw [ep] at d3 d4 dg
          have u1 : P / s = p := by rw [d4]; exact Int.mul_ediv_cancel_left _ (by omega)
          have u2 : 1 ≤ s := by omega
          have u3 : p ≤ P := by
            have := Int.mul_le_mul (a := 1) (b := p) (c := s) (d := p) (by omega) (by omega) (by omega) (by omega)
            omega
          have hne : (s == 0) = false := beq_eq_false_iff_ne.2 (by omega)
          have hne2 : (p == 0) = false := beq_eq_false_iff_ne.2 (by omega)
          have t0 : P.tdiv s = p := by rw [Int.tdiv_eq_ediv_of_nonneg (by omega)]; exact u1
          have t1 : q.tmod p = q % p := Int.tmod_eq_emod_of_nonneg d6
          have t2 : q.tdiv p = q / p := Int.tdiv_eq_ediv_of_nonneg d6
          have t3 : 0 ≤ q / p := Int.ediv_nonneg d6 (by omega)
          have t4 : q / p ≤ q := Int.ediv_le_self _ d6
          have t5 : 0 ≤ q % p := Int.emod_nonneg _ (by omega)
          have t6 : q % p < p := Int.emod_lt_of_pos _ d3
          have hset := hr.set k (.int .i64 (q / p))
          have HS : Hid ((wr.setCell ⟨w.heap.size, k, none⟩ (.int .i64 (q / p))).rowIs w.heap.size 3 l.length (fun i => if i < k + 1 then .int .i64 ((digits l n)[i]?.getD 0) else .int .i64 0)) := by
            refine hset.congr ?_
            intro i hi
            by_cases e : i = k
            · subst e; rw [if_pos rfl, if_pos (Nat.lt_succ_self _), dg]
            · rw [if_neg e]
              by_cases e2 : i < k
              · rw [if_pos e2, if_pos (by omega)]
              · rw [if_neg e2, if_neg (by omega)]
          have HB : Hid (Below w.heap.size w (wr.setCell ⟨w.heap.size, k, none⟩ (.int .i64 (q / p)))) := hnx.setCell (p := ⟨w.heap.size, k, none⟩) (Nat.le_refl _) _
          clear hset hr dg es eq hrow hck DG DD FIN' eP d4 d8 ep u1
          go_wp2
          go_roundw
          case rel => exact ⟨k + 1, by omega, by go_num, by rw [← D8.out, EP.out], by rw [EP.out], HB.out, HS.out⟩
          case measure => simp [intOf]; omega
        · have hje : k = l.length := by omega
          subst hje
          have F := FIN'.out wr hnx _ hr (fun i hi => by rw [if_pos hi])
          have F' : Hid _ := F
          clear F hr FIN' DG DD
          go_wp2
          go_ret2
          exact F'.out
    · have F : Hid (PlacesW l n w (.returned (.tuple #[.slice none 0 0, .int .i64 8])) w) := placesW_out hs ho (Below.refl _ _)
      rw [hs] at C
      generalize sizeV l = S at C ho
      by_cases h0 : n < 0
      · have hd : decide (n < 0) = true := decide_eq_true h0
        clear hs ho
        go_enter Tryd.func37, Tryd.ntmps37
        go_wp2_with (go_at_call 36; refine C.mono ?_; rintro e w' ⟨rfl, hw⟩; rw [hw])
        go_ret2
        exact F.out
      · have hd : decide (n < 0) = false := decide_eq_false h0
        have h1 : S ≤ n := by omega
        clear hs ho
        go_enter Tryd.func37, Tryd.ntmps37
        go_wp2_with (go_at_call 36; refine C.mono ?_; rintro e w' ⟨rfl, hw⟩; rw [hw])
        go_ret2
        exact F.out
  · have F : Hid (PlacesW l n w (.returned (.tuple #[.slice none 0 0, .int .i64 (sizeE l)])) w) := placesW_bad hs (Below.refl _ _)
    generalize sizeE l = E at C hs F
    go_enter Tryd.func37, Tryd.ntmps37
    go_wp2_with (go_at_call 36; refine C.mono ?_; rintro e w' ⟨rfl, hw⟩; rw [hw])
    go_ret2
    exact F.out

/-- The places of a cell, along the axis that is folded. -/
theorem digit_ax {last : Bool} {s : List Int} {C P : Nat} (h1 : 0 < s.length) (hs : sizeE s = 0) (hC : sizeV s = (C : Int)) (hP : P < C) :
    gI (digits s (P : Int)) (axN last s.length) = (psO last (lgN last s) (mN last s) P : Int) := by
  obtain ⟨-, hpos, hpr, -⟩ := sizeV_in (l := s) (n := (P : Int)) hs (by omega) (by omega)
  obtain ⟨e1, e2, e3, e4, e5, -⟩ := lines_all (last := last) h1 hs hC (by omega)
  have hk := axN_lt (last := last) h1
  have hd := digit_own s hpos (P : Int) (by omega) (by omega) (axN last s.length) hk
  have hlg : gI s (axN last s.length) = (lgN last s : Int) := by rw [← lgI_ax]; unfold lgN at e4 ⊢; omega
  unfold gI at hlg ⊢
  rw [hd, hlg]
  cases last with
  | true =>
    have ea : axN true s.length + 1 = s.length := by unfold axN; simp; omega
    rw [ea, List.drop_length]
    simp only [prodL, psO, if_true, Int.ediv_one]
    exact (Int.natCast_emod _ _).symm
  | false =>
    have ea : prodL (s.drop (axN false s.length + 1)) = (mN false s : Int) := by
      rw [← e2, sizeV_prod e1]
      simp [axN, outS]
    rw [ea]
    simp only [psO, Bool.false_eq_true, if_false]
    have h3 : P / mN false s < lgN false s := (Nat.div_lt_iff_lt_mul e3).2 (by rw [Nat.mul_comm, e5]; exact hP)
    rw [← Int.natCast_ediv, ← Int.natCast_emod, Nat.mod_eq_of_lt h3]
theorem scan_place {last : Bool} {s : List Int} {C P i : Nat} (h1 : 0 < s.length) (hs : sizeE s = 0) (hC : sizeV s = (C : Int)) (hP : P < C) (h0 : psO last (lgN last s) (mN last s) P = 0) (hi : i < lgN last s) :
    plcV s ((digits s (P : Int)).set (axN last s.length) (i : Int)) = ((lnO last (lgN last s) (mN last s) P * nxN last s + i * stN last (mN last s) : Nat) : Int) := by
  obtain ⟨-, hpos, hpr, -⟩ := sizeV_in (l := s) (n := (P : Int)) hs (by omega) (by omega)
  obtain ⟨e1, e2, e3, e4, e5, -⟩ := lines_all (last := last) h1 hs hC (by omega)
  have hk := axN_lt (last := last) h1
  obtain ⟨hd, hpl⟩ := digits_in hpos (n := (P : Int)) (by omega) (by omega)
  have hdl := digits_length s (P : Int)
  have hax := digit_ax (last := last) h1 hs hC hP
  rw [h0] at hax
  have hlg : gI s (axN last s.length) = (lgN last s : Int) := by rw [← lgI_ax]; unfold lgN at e4 ⊢; omega
  have hin : inAxes s ((digits s (P : Int)).set (axN last s.length) (i : Int)) := by
    have hg := (inAxes_gI s _).1 hd
    refine (inAxes_gI s _).2 ⟨by simp [hdl], fun q hq => ?_⟩
    rw [gI_set _ _ _ _ (by rw [hdl]; exact hk)]
    by_cases h : q = axN last s.length
    · rw [if_pos h, h, hlg]; omega
    · rw [if_neg h]; exact hg.2 q hq
  rw [(plc_of hs hin).1, place_dot _ _ (by simp [hdl]), dot_set _ _ _ _ (by rw [strL_length]; exact hk) (by rw [hdl]; exact hk), ← place_dot _ _ hdl, hpl, hax, strL_at s _ hk]
  have hst : prodL (s.drop (axN last s.length + 1)) = (stN last (mN last s) : Int) := by
    cases last with
    | true =>
      have ea : axN true s.length + 1 = s.length := by unfold axN; simp; omega
      rw [ea, List.drop_length]
      rfl
    | false =>
      show prodL (s.drop (axN false s.length + 1)) = (mN false s : Int)
      rw [← e2, sizeV_prod e1]
      simp [axN, outS]
  have hb := (lnO_back (last := last) (s := s) (m := mN last s) (p := P) (by rw [e5]; exact hP)).2.2
  rw [h0, Nat.zero_mul, Nat.add_zero] at hb
  rw [hst]
  push_cast
  have hb' : (P : Int) = (lnO last (lgN last s) (mN last s) P : Int) * (nxN last s : Int) := by exact_mod_cast hb.symm
  rw [← hb', Int.mul_comm]
  simp
theorem lnC_take (cs : List Ce) (lg st nx j i : Nat) (h : i ≤ lg) : (lnC cs lg st nx j).take i = mkCs i fun k => cAt cs (j * nx + k * st) := by
  unfold lnC mkCs
  rw [← List.map_take, List.take_range, Nat.min_eq_left h]
end Go.Proofs.YtlfacpclihmnnaaDoor
namespace Go.Proofs.YtlfacpclihmnnaaDoor
open Go.ChangeShapes Go.WideShapes Go.ChangeAt Go.RowKit
open Num (resV resE In64 sgnI absI)
set_option linter.unusedVariables false
set_option linter.unusedSimpArgs false
set_option maxRecDepth 100000
theorem Off.new {bc k : Nat} {W A : World} {p : Addr} (h : Off bc W A) (hp : W.heap.size ≤ p.block) (v : Value) : Off bc W (A.setCell p v) :=
  ⟨h.io.setCell (p := p) (Nat.zero_le _) v, fun b h1 h2 => by rw [Below.heap_setCell _ _ _ _ (by show b ≠ p.block; omega)]; exact h.keep b h1 h2⟩
theorem Off.in2 {bc : Nat} {w W A : World} {v0 v1 : Value} (h : Off bc W A) (hs : In2 w v0 v1 W) (hc : w.heap.size + 2 ≤ bc) : In2 w v0 v1 A := by
  have hl := hs.size
  exact ⟨h.below hs.bel hs.bel.size (by omega), Nat.le_trans hl h.io.size, h.cell (by omega) (by omega) hs.q0, h.cell (by omega) (by omega) hs.q1, h.cell (by omega) (by omega) hs.p0, h.cell (by omega) (by omega) hs.p1, h.frozen (by omega) (by omega) hs.f0, h.frozen (by omega) (by omega) hs.f1⟩
theorem RowT.other {W : World} {g L b m : Nat} {T : Nat → Value × Value × Value} {v : Value} (h : RowT W g L T) (hne : g ≠ b) : RowT (W.setCell ⟨b, m, none⟩ v) g L T :=
  ⟨by simpa using h.lt, fun i hi => by rw [World.cell?_setCell_other _ _ _ _ (by simp [hne])]; exact h.c0 i hi, fun i hi => by rw [World.cell?_setCell_other _ _ _ _ (by simp [hne])]; exact h.c1 i hi, fun i hi => by rw [World.cell?_setCell_other _ _ _ _ (by simp [hne])]; exact h.c2 i hi, fun m => frozen_set _ _ _ _ (h.f m)⟩
theorem SoftC.other {W : World} {b g m : Nat} {l : List Int} {v : Value} (h : SoftC W b l) (hne : b ≠ g) : SoftC (W.setCell ⟨g, m, none⟩ v) b l := fun i hi => ⟨by rw [World.cell?_setCell_other _ _ _ _ (by simp [hne])]; exact (h i hi).1, frozen_set _ _ _ _ (h i hi).2⟩
theorem scan_made1 (w2 : World) (C : Nat) (v : Value) : ∃ bo bm, Value.pointer (some ⟨w2.heap.size + 1, 0, none⟩) = .pointer (some ⟨bo, 0, none⟩) ∧ Below w2.heap.size w2 ((w2.alloc (.cells (madeCells #[.int .i64 0, .int .i64 0, .slice none 0 0] (C * 3)) 43)).alloc (.cells #[v, .slice (some ⟨w2.heap.size, 0, none⟩) C C] 25)).drew ∧ w2.heap.size ≤ bo ∧ w2.heap.size ≤ bm ∧ bo ≠ bm ∧ bo < ((w2.alloc (.cells (madeCells #[.int .i64 0, .int .i64 0, .slice none 0 0] (C * 3)) 43)).alloc (.cells #[v, .slice (some ⟨w2.heap.size, 0, none⟩) C C] 25)).drew.heap.size ∧ bm < ((w2.alloc (.cells (madeCells #[.int .i64 0, .int .i64 0, .slice none 0 0] (C * 3)) 43)).alloc (.cells #[v, .slice (some ⟨w2.heap.size, 0, none⟩) C C] 25)).drew.heap.size ∧ ((w2.alloc (.cells (madeCells #[.int .i64 0, .int .i64 0, .slice none 0 0] (C * 3)) 43)).alloc (.cells #[v, .slice (some ⟨w2.heap.size, 0, none⟩) C C] 25)).drew.cell? ⟨bo, 0, none⟩ = some v ∧ ((w2.alloc (.cells (madeCells #[.int .i64 0, .int .i64 0, .slice none 0 0] (C * 3)) 43)).alloc (.cells #[v, .slice (some ⟨w2.heap.size, 0, none⟩) C C] 25)).drew.cell? ⟨bo, 1, none⟩ = some (.slice (some ⟨bm, 0, none⟩) C C) ∧ ((w2.alloc (.cells (madeCells #[.int .i64 0, .int .i64 0, .slice none 0 0] (C * 3)) 43)).alloc (.cells #[v, .slice (some ⟨w2.heap.size, 0, none⟩) C C] 25)).drew.rowIs bm 43 (C * 3) zero3 := by
  have hs : ((w2.alloc (.cells (madeCells #[.int .i64 0, .int .i64 0, .slice none 0 0] (C * 3)) 43)).alloc (.cells #[v, .slice (some ⟨w2.heap.size, 0, none⟩) C C] 25)).heap.size = w2.heap.size + 2 := size_two _ _ _
  refine ⟨w2.heap.size + 1, w2.heap.size, rfl, (two_allocs _ _ _).drew, by omega, Nat.le_refl _, by omega, ?_, ?_, cell_new2 w2 #[v, .slice (some ⟨w2.heap.size, 0, none⟩) C C] 25 (0, 0) _ 0 _ rfl, cell_new2 w2 #[v, .slice (some ⟨w2.heap.size, 0, none⟩) C C] 25 (0, 0) _ 1 _ rfl, ?_⟩
  · show _ < ((w2.alloc (.cells (madeCells #[.int .i64 0, .int .i64 0, .slice none 0 0] (C * 3)) 43)).alloc (.cells #[v, .slice (some ⟨w2.heap.size, 0, none⟩) C C] 25)).heap.size
    omega
  · show _ < ((w2.alloc (.cells (madeCells #[.int .i64 0, .int .i64 0, .slice none 0 0] (C * 3)) 43)).alloc (.cells #[v, .slice (some ⟨w2.heap.size, 0, none⟩) C C] 25)).heap.size
    omega
  · have h := rowIs_made3 w2 (C * 3)
    exact h.of_block ((one_alloc _ _).drew.block _ (by simp))
theorem scan_made2 (w2 : World) (C : Nat) (v : Value) : ∃ bo bm, Value.pointer (some ⟨w2.heap.size, 0, none⟩) = .pointer (some ⟨bo, 0, none⟩) ∧ Below w2.heap.size w2 ((w2.alloc (.cells #[v, .slice (some ⟨w2.heap.size + 1, 0, none⟩) C C] 25)).alloc (.cells (madeCells #[.int .i64 0, .int .i64 0, .slice none 0 0] (C * 3)) 43)).drew ∧ w2.heap.size ≤ bo ∧ w2.heap.size ≤ bm ∧ bo ≠ bm ∧ bo < ((w2.alloc (.cells #[v, .slice (some ⟨w2.heap.size + 1, 0, none⟩) C C] 25)).alloc (.cells (madeCells #[.int .i64 0, .int .i64 0, .slice none 0 0] (C * 3)) 43)).drew.heap.size ∧ bm < ((w2.alloc (.cells #[v, .slice (some ⟨w2.heap.size + 1, 0, none⟩) C C] 25)).alloc (.cells (madeCells #[.int .i64 0, .int .i64 0, .slice none 0 0] (C * 3)) 43)).drew.heap.size ∧ ((w2.alloc (.cells #[v, .slice (some ⟨w2.heap.size + 1, 0, none⟩) C C] 25)).alloc (.cells (madeCells #[.int .i64 0, .int .i64 0, .slice none 0 0] (C * 3)) 43)).drew.cell? ⟨bo, 0, none⟩ = some v ∧ ((w2.alloc (.cells #[v, .slice (some ⟨w2.heap.size + 1, 0, none⟩) C C] 25)).alloc (.cells (madeCells #[.int .i64 0, .int .i64 0, .slice none 0 0] (C * 3)) 43)).drew.cell? ⟨bo, 1, none⟩ = some (.slice (some ⟨bm, 0, none⟩) C C) ∧ ((w2.alloc (.cells #[v, .slice (some ⟨w2.heap.size + 1, 0, none⟩) C C] 25)).alloc (.cells (madeCells #[.int .i64 0, .int .i64 0, .slice none 0 0] (C * 3)) 43)).drew.rowIs bm 43 (C * 3) zero3 := by
  have hs : ((w2.alloc (.cells #[v, .slice (some ⟨w2.heap.size + 1, 0, none⟩) C C] 25)).alloc (.cells (madeCells #[.int .i64 0, .int .i64 0, .slice none 0 0] (C * 3)) 43)).heap.size = w2.heap.size + 2 := size_two _ _ _
  refine ⟨w2.heap.size, w2.heap.size + 1, rfl, (two_allocs _ _ _).drew, Nat.le_refl _, by omega, by omega, ?_, ?_, cell_new1 w2 #[v, .slice (some ⟨w2.heap.size + 1, 0, none⟩) C C] 25 (0, 0) _ 0 _ rfl, cell_new1 w2 #[v, .slice (some ⟨w2.heap.size + 1, 0, none⟩) C C] 25 (0, 0) _ 1 _ rfl, ?_⟩
  · show _ < ((w2.alloc (.cells #[v, .slice (some ⟨w2.heap.size + 1, 0, none⟩) C C] 25)).alloc (.cells (madeCells #[.int .i64 0, .int .i64 0, .slice none 0 0] (C * 3)) 43)).heap.size
    omega
  · show _ < ((w2.alloc (.cells #[v, .slice (some ⟨w2.heap.size + 1, 0, none⟩) C C] 25)).alloc (.cells (madeCells #[.int .i64 0, .int .i64 0, .slice none 0 0] (C * 3)) 43)).heap.size
    omega
  · have h := rowIs_made3 (w2.alloc (.cells #[v, .slice (some ⟨w2.heap.size + 1, 0, none⟩) C C] 25)) (C * 3)
    have hz : (w2.alloc (.cells #[v, .slice (some ⟨w2.heap.size + 1, 0, none⟩) C C] 25)).heap.size = w2.heap.size + 1 := by simp
    rw [hz] at h
    exact h
set_option maxHeartbeats 16000000 in
theorem rscan16 {n lo S C c1 c2 : Nat} {x : Ar} {a1 a2 : Option Addr} {op : Int} {t last : Bool} {w : World} (hx : ArIn (n + 1) lo w x (.agg #[.slice a1 S c1, .slice a2 C c2])) (hin : ∀ k, k < x.cells.length → In64 (cAt x.cells k).2.1) (hlo : lo ≤ w.heap.size) :
    Calls Tryd.prog 16 #[.int .i64 op, .bool t, .agg #[.slice a1 S c1, .slice a2 C c2], .bool last] w fun e w' => Gives2 (n + 1) 0 (scanR op t last x).1 (scanR op t last x).2 w e w' := by
  obtain ⟨a1', c1', a2', c2', hv, R, hc⟩ := hx.formC
  have hv2 : S = x.shape.length ∧ C = x.cells.length ∧ a1 = a1' ∧ a2 = a2' ∧ c1 = c1' ∧ c2 = c2' := by
    simp only [Value.agg.injEq, Array.mk.injEq, List.cons.injEq, Value.slice.injEq, and_true] at hv
    exact ⟨hv.1.2.1, hv.2.2.1, hv.1.1, hv.2.1, hv.1.2.2, hv.2.2.2⟩
  obtain ⟨hS, hC, rfl, rfl, rfl, rfl⟩ := hv2
  clear hv
  obtain ⟨i3, hi3, hz30, hz31, hz32⟩ := infoI3
  obtain ⟨i0, hi0, hz00, hz01, hz02⟩ := info33'
  have I := in2_new w (.slice a1 S c1) (.slice a2 C c2)
  obtain ⟨W2, e2⟩ : ∃ W2, (w.alloc (.cells #[.slice a1 S c1, .slice a2 C c2] 25)).alloc (.cells #[.slice none 0 0, .slice none 0 0] 25) = W2 := ⟨_, rfl⟩
  rw [e2] at I
  have CK := rstart op (hx.next I.bel)
  have HRED : Hid (scanR op t last x = if fchk op (fun _ => chkA 8 x) 1 ≠ 0 then (zeroA, fchk op (fun _ => chkA 8 x) 1) else if x.shape.length = 0 ∨ x.cells.length = 0 then (x, 0)
      else if firstUp (scE op t last x) (mN last x.shape) ≠ 0 then (zeroA, firstUp (scE op t last x) (mN last x.shape))
      else (.mk x.shape (mkCs x.cells.length fun p => (scG op t last x (lnO last (lgN last x.shape) (mN last x.shape) p) (psO last (lgN last x.shape) (mN last x.shape) p)).1), 0)) := rfl
  have HCK : Hid (fchk op (fun _ => chkA 8 x) 1 = 0 → chkA 8 x = 0) := fun h => fchk_zero h
  obtain ⟨RR, hRR⟩ : ∃ RR, scanR op t last x = RR := ⟨_, rfl⟩
  rw [hRR] at HRED ⊢
  generalize fchk op (fun _ => chkA 8 x) 1 = EC at *
  have q0 := I.q0
  have q1 := I.q1
  have HI := hide I
  have HX := hide hx
  have HIN := hide hin
  have HR := hide (And.intro R (And.intro hS hC))
  clear hx hin I R hc hRR hS hC
  go_enter Tryd.func16, Tryd.ntmps16
  go_wp2_with fail
  refine CK.mono ?_
  rintro e w1 ⟨rfl, hb1⟩
  clear CK q0 q1 e2
  have I1 := HI.out.next hb1
  have q0 := I1.q0
  have q1 := I1.q1
  have p0 := I1.p0
  have p1 := I1.p1
  have f0 := I1.f0
  have f1 := I1.f1
  have HI1 := hide I1
  clear I1 hb1 HI
  by_cases hE : EC = 0
  · subst hE
    have HRED2 := hide (HRED.out.trans (if_neg (fun h => h rfl)))
    by_cases hS0 : S = 0
    · subst hS0
      have HE : Hid (RR = (x, 0)) := HRED2.out.trans (if_pos (Or.inl HR.out.2.1.symm))
      have HT := hide (HI1.out.put (.slice a1 0 c1) (.slice a2 C c2))
      have HFI := hide HI1.out.fin
      clear HCK HIN HR HRED HRED2
      go_wp2
      exact bodyPost_ret (v := .tuple #[.agg #[.slice a1 0 c1, .slice a2 C c2], .int .i64 0]) (by simp [results, Tryd.results16, go_sem, HT.out.1, HT.out.2]) rfl (gives2z0 HE.out ((HX.out.mono (Nat.zero_le _) (HFI.out _ _))) (HFI.out _ _))
    · have hchk := HCK.out rfl
      obtain ⟨hsE, hsV⟩ := chk_size hchk
      have hS8 : S ≤ 8 := by rw [HR.out.2.1]; exact (fine_cases hsE).1
      have hSz : ((S : Int) == 0) = false := beq_eq_false_iff_ne.2 (by omega)
      have CX := raxis a1 a2 S c1 C c2 last w1 (by omega) (by omega)
      have hK := axN_lt (last := last) (S := S) (by omega)
      have HAX := hide (show axN last S = axN last x.shape.length by rw [HR.out.2.1])
      have HLG := hide (show lgI last x.shape = gI x.shape (axN last S) by rw [HR.out.2.1]; exact lgI_ax _ _)
      generalize axN last S = K at *
      have HCH := hide (And.intro hchk (And.intro hsE hsV))
      clear hchk hsE hsV HCK HRED
      have hC16 : C ≤ 16384 := by have := (sizeV_le HCH.out.2.1).2; rw [HCH.out.2.2, ← HR.out.2.2] at this; omega
      have mk1 := make_cells C (by omega)
      go_wp2_with fail
      refine CX.mono ?_
      rintro e w2 ⟨rfl, hb2⟩
      clear CX
      have I2 := HI1.out.next hb2
      have q0 := I2.q0
      have q1 := I2.q1
      have HI2 := hide I2
      have hs2 := I2.size
      have qa0 : ∀ o, (w2.alloc o).cell? ⟨w.heap.size, 0, none⟩ = some (.slice a1 S c1) := fun o => ((one_alloc w2 o).cell (p := ⟨w.heap.size, 0, none⟩) (by show w.heap.size < _; omega)).trans q0
      have qa1 : ∀ o, (w2.alloc o).cell? ⟨w.heap.size, 1, none⟩ = some (.slice a2 C c2) := fun o => ((one_alloc w2 o).cell (p := ⟨w.heap.size, 1, none⟩) (by show w.heap.size < _; omega)).trans q1
      have qb0 : ∀ o o', ((w2.alloc o).alloc o').cell? ⟨w.heap.size, 0, none⟩ = some (.slice a1 S c1) := fun o o' => ((two_allocs w2 o o').cell (p := ⟨w.heap.size, 0, none⟩) (by show w.heap.size < _; omega)).trans q0
      have qb1 : ∀ o o', ((w2.alloc o).alloc o').cell? ⟨w.heap.size, 1, none⟩ = some (.slice a2 C c2) := fun o o' => ((two_allocs w2 o o').cell (p := ⟨w.heap.size, 1, none⟩) (by show w.heap.size < _; omega)).trans q1
      clear I2 hb2 HI1 p0 p1 f0 f1
      go_wp2
      go_cut [12] from 36 (fun s12 wx => ∃ bo bm, s12 = .pointer (some ⟨bo, 0, none⟩) ∧ Below w2.heap.size w2 wx ∧ w2.heap.size ≤ bo ∧ w2.heap.size ≤ bm ∧ bo ≠ bm ∧ bo < wx.heap.size ∧ bm < wx.heap.size ∧ wx.cell? ⟨bo, 0, none⟩ = some (.slice a1 S c1) ∧ wx.cell? ⟨bo, 1, none⟩ = some (.slice (some ⟨bm, 0, none⟩) C C) ∧ wx.rowIs bm 43 (C * 3) zero3)
      case first =>
        go_region
        all_goals
          go_wp2
          go_meet
        all_goals
          case rel =>
            first
              | exact scan_made1 w2 C _
              | exact scan_made2 w2 C _
      case rest =>
      obtain ⟨bo, bm, rfl, hbB, go, gm, hne, hol, hml, o0, o1, hrow⟩ := hcut
      generalize wc = wB at *
      have IB := HI2.out.next hbB
      have HIB := hide IB
      have HTB := hide (rowT_of_is hrow hml)
      have HOB := hide (And.intro o0 o1)
      have hgo : w.heap.size + 2 ≤ bo ∧ w.heap.size + 2 ≤ bm ∧ bo < wB.heap.size ∧ bm < wB.heap.size ∧ bo ≠ bm := by omega
      have HGO := hide hgo
      have h1s : 0 < x.shape.length := by rw [← HR.out.2.1]; omega
      have hCV : sizeV x.shape = (C : Int) := by rw [HCH.out.2.2, HR.out.2.2]
      have HLA : Hid (0 < C → 0 < mN last x.shape ∧ 0 < lgN last x.shape ∧ mN last x.shape * lgN last x.shape = C ∧ lgN last x.shape ≤ 16384 ∧ 0 < nxN last x.shape ∧ ∀ i k, i < mN last x.shape → k < lgN last x.shape → i * nxN last x.shape + k * stN last (mN last x.shape) < C) := fun h => by
        obtain ⟨e1, e2, e3, e4, e5, e6⟩ := lines_all (last := last) h1s HCH.out.2.1 hCV h
        refine ⟨e3, e4, e5, e6, ?_, (lines_in (last := last) h1s HCH.out.2.1 hCV e1 e2 e3).2⟩
        unfold nxN
        cases last
        · simp
        · exact e4
      have HDG : Hid (∀ P, P < C → gI (digits x.shape (P : Int)) K = (psO last (lgN last x.shape) (mN last x.shape) P : Int)) := fun P hP => by rw [HAX.out]; exact digit_ax h1s HCH.out.2.1 hCV hP
      have HPL : Hid (∀ P i, P < C → psO last (lgN last x.shape) (mN last x.shape) P = 0 → i < lgN last x.shape → plcV x.shape ((digits x.shape (P : Int)).set K (i : Int)) = ((lnO last (lgN last x.shape) (mN last x.shape) P * nxN last x.shape + i * stN last (mN last x.shape) : Nat) : Int)) := fun P i hP h0 hi => by rw [HAX.out]; exact scan_place h1s HCH.out.2.1 hCV hP h0 hi
      have HBK : Hid (∀ P, P < C → lnO last (lgN last x.shape) (mN last x.shape) P < mN last x.shape ∧ psO last (lgN last x.shape) (mN last x.shape) P < lgN last x.shape ∧ lnO last (lgN last x.shape) (mN last x.shape) P * nxN last x.shape + psO last (lgN last x.shape) (mN last x.shape) P * stN last (mN last x.shape) = P) := fun P hP => lnO_back (by rw [(HLA.out (by omega)).2.2.1]; exact hP)
      have HAT : Hid (∀ j i, j < mN last x.shape → i < lgN last x.shape → lnO last (lgN last x.shape) (mN last x.shape) (j * nxN last x.shape + i * stN last (mN last x.shape)) = j ∧ psO last (lgN last x.shape) (mN last x.shape) (j * nxN last x.shape + i * stN last (mN last x.shape)) = i) := fun j i hj hi => lnO_at hj hi
      have HLG2 : Hid (0 < C → gI x.shape K = (lgN last x.shape : Int)) := fun h => by
        have := (HLA.out h).2.1
        rw [← HLG.out]
        unfold lgN at this ⊢
        omega
      have HGD : Hid (∀ j i, i < lgN last x.shape → scG op t last x j i = rowR op t (mkCs (i + 1) fun k => cAt x.cells (j * nxN last x.shape + k * stN last (mN last x.shape)))) := fun j i hi => by
        unfold scG rowP
        rw [lnC_take _ _ _ _ _ _ (by omega)]
      have HED : Hid (∀ j, scE op t last x j = firstUp (fun i => (scG op t last x j i).2) (lgN last x.shape)) := fun j => rfl
      obtain ⟨G, hG⟩ : ∃ G, scG op t last x = G := ⟨_, rfl⟩
      rw [hG] at HGD HED HRED2
      obtain ⟨EG, hEG⟩ : ∃ EG, scE op t last x = EG := ⟨_, rfl⟩
      rw [hEG] at HED HRED2
      obtain ⟨ln, hln⟩ : ∃ ln, lnO last (lgN last x.shape) (mN last x.shape) = ln := ⟨_, rfl⟩
      obtain ⟨ps, hps⟩ : ∃ ps, psO last (lgN last x.shape) (mN last x.shape) = ps := ⟨_, rfl⟩
      rw [hln] at HPL HBK HAT HRED2
      rw [hps] at HDG HPL HBK HAT HRED2
      generalize mN last x.shape = m at *
      generalize lgN last x.shape = lg at *
      generalize stN last m = st at *
      generalize nxN last x.shape = nx at *
      have HNC : Hid (∀ i, i < x.shape.length → (digits x.shape (i : Int)).length = x.shape.length) := fun i _ => digits_length _ _
      clear hbB go gm hne hol hml o0 o1 hrow IB hgo HI2 hG hEG hln hps HLG HAX q0 q1 qa0 qa1 qb0 qb1 mk1 hCV h1s hs2 HNC
      go_wp2
      go_loopg [13] C (fun gg iv wq => ∃ (P nn : Nat) (T : Nat → Value × Value × Value), gg + P = C ∧ iv = .int .i64 (P : Int) ∧ Off bm wB wq ∧ RowT wq bm C T ∧ (∀ q, q < C → ln q < nn → CeIn (ArIn n lo w) lo w (G (ln q) (ps q)).1 (T q).1 (T q).2.1 (T q).2.2) ∧ firstUp EG nn = 0 ∧ nn ≤ m ∧ ∀ k, k < m → (k < nn ↔ k * nx < P))
      case atStart => exact ⟨0, 0, _, rfl, rfl, Off.refl _ _, HTB.out, fun q _ h => absurd h (by omega), rfl, Nat.zero_le _, fun k _ => by omega⟩
      case round =>
      clear HTB
      obtain ⟨P, nn, T, hgP, rfl, hoff, hrow, hce, hfu, hnm, hk⟩ := hrel
      have hg := HGO.out
      have IW := hoff.in2 HIB.out hg.2.1
      have q0 := IW.q0
      have q1 := IW.q1
      have hszB : wB.heap.size ≤ wr.heap.size := hoff.io.size
      by_cases hlt : ¬ P < C
      · have hte : P = C := by omega
        subst hte
        have hnn : 0 < P → nn = m := fun h => by
          obtain ⟨hm0, hl0, hmC, hl16, hnx, hlin⟩ := HLA.out h
          rcases Nat.lt_or_ge nn m with h1 | h1
          · exfalso
            have h2 := (hk nn h1).2 (by have := hlin nn 0 h1 hl0; omega)
            omega
          · omega
        have HE : Hid (RR = (.mk x.shape (mkCs P fun p => (G (ln p) (ps p)).1), 0)) := by
          have h3 := HRED2.out
          by_cases h0 : P = 0
          · rw [if_pos (Or.inr (by rw [← HR.out.2.2]; exact h0))] at h3
            rw [h3]
            congr 1
            have hx0 : x.cells = [] := List.eq_nil_of_length_eq_zero (by rw [← HR.out.2.2]; exact h0)
            rw [h0]
            cases x with
            | mk s cs => simp only [Ar.cells] at hx0; rw [hx0]; rfl
          · rw [if_neg (by rw [← HR.out.2.1, ← HR.out.2.2]; omega)] at h3
            have := hnn (by omega)
            rw [← this, if_neg (fun h => h hfu), ← HR.out.2.2] at h3
            exact h3
        have o0 := hoff.cell hg.2.2.1 (by omega) HOB.out.1
        have o1 := hoff.cell hg.2.2.1 (by omega) HOB.out.2
        have p0 := IW.p0
        have p1 := IW.p1
        have f0 := IW.f0
        have f1 := IW.f1
        have HT := hide (IW.put (.slice a1 S c1) (.slice (some ⟨bm, 0, none⟩) P P))
        have HFIN : Hid (∀ u v, Gives2 (n + 1) 0 RR.1 RR.2 w (.returned (.tuple #[.agg #[.slice a1 S c1, .slice (some ⟨bm, 0, none⟩) P P], .int .i64 0])) ((wr.setCell ⟨w.heap.size + 1, 0, none⟩ u).setCell ⟨w.heap.size + 1, 1, none⟩ v)) := by
          intro u v
          have hbf := IW.fin u v
          refine gives2z0 HE.out ?_ hbf
          refine arIn_mk (x := .mk x.shape (mkCs P fun p => (G (ln p) (ps p)).1)) ((HR.out.1.next hbf).low (Nat.zero_le _)) (by show (mkCs _ _).length ≤ _; rw [mkCs_len]; omega) ?_ HR.out.2.1.symm (by show (mkCs _ _).length = _; rw [mkCs_len])
          have T9 := (hrow.other (b := w.heap.size + 1) (m := 0) (v := u) (by omega)).other (b := w.heap.size + 1) (m := 1) (v := v) (by omega)
          refine Or.inr ⟨bm, 0, rfl, Nat.zero_le _, T9.lt, fun i hi => ?_⟩
          have hi' : i < P := by have h : (mkCs P fun p => (G (ln p) (ps p)).1).length = P := mkCs_len _ _; simp only [Ar.cells] at hi; omega
          rw [Nat.zero_add]
          refine ⟨_, _, _, T9.c0 i hi', T9.c1 i hi', T9.c2 i hi', ?_⟩
          show CeIn _ _ _ (cAt (mkCs P fun p => (G (ln p) (ps p)).1) i) _ _ _
          rw [mkCs_at _ _ _ hi']
          exact (hce i hi' (by rw [hnn (by omega)]; exact (HBK.out i hi').1)).mono (Nat.zero_le _) hbf fun y v hy => hy.mono (Nat.zero_le _) hbf
        clear IW hoff hrow hce hfu hnm hk HE HRED2 HIN HX HR HCH HLA HDG HPL HBK HAT HLG2 HGD HED HOB HIB hnn
        go_wp2
        exact bodyPost_ret (v := .tuple #[.agg #[.slice a1 S c1, .slice (some ⟨bm, 0, none⟩) P P], .int .i64 0]) (by simp [results, Tryd.results16, go_sem, HT.out.1, HT.out.2]) rfl (HFIN.out _ _)
      have hlt := Classical.not_not.1 hlt
      obtain ⟨hm0, hl0, hmC, hl16, hnx, hlin⟩ := HLA.out (by omega)
      have C7 := rplacesW x.shape (P : Int) a1 c1 wr (HR.out.1.next IW.bel)
      rw [← HR.out.2.1] at C7
      have HIW := hide (And.intro IW (And.intro hoff (And.intro hrow (And.intro hce (And.intro hfu (And.intro hnm hk))))))
      clear IW hoff hrow hce hfu hnm hk
      go_wp2_with fail
      refine C7.mono ?_
      clear C7
      rintro e w6 ⟨hb6, -, -, h4⟩
      obtain ⟨b, rfl, hbge, hbl, SC6⟩ := h4 HCH.out.2.1 (by omega) (by rw [HCH.out.2.2, ← HR.out.2.2]; omega)
      rw [← HR.out.2.1]
      clear h4 q0 q1
      obtain ⟨D, hD⟩ : ∃ D, digits x.shape (P : Int) = D := ⟨_, rfl⟩
      have hDl : D.length = S := by rw [← hD, digits_length, HR.out.2.1]
      rw [hD] at SC6
      have hDK := HDG.out P hlt
      rw [hD] at hDK
      obtain ⟨k0, k0f⟩ := SC6 K (by rw [hDl]; exact hK)
      rw [hDK] at k0
      have hKz : (K : Int) < (S : Int) := by omega
      have O6 := HIW.out.2.1.next hb6
      have T6 := HIW.out.2.2.1.next hb6
      by_cases hps : ¬ ps P = 0
      · have gps : ((ps P : Int) == 0) = false := beq_eq_false_iff_ne.2 (by omega)
        have HN : Hid (Off bm wB w6 ∧ RowT w6 bm C T ∧ (∀ q, q < C → ln q < nn → CeIn (ArIn n lo w) lo w (G (ln q) (ps q)).1 (T q).1 (T q).2.1 (T q).2.2) ∧ firstUp EG nn = 0 ∧ nn ≤ m ∧ ∀ k, k < m → (k < nn ↔ k * nx < P + 1)) := by
          refine ⟨O6, T6, HIW.out.2.2.2.1, HIW.out.2.2.2.2.1, HIW.out.2.2.2.2.2.1, fun k hk => ?_⟩
          have h := HIW.out.2.2.2.2.2.2 k hk
          have hne : k * nx ≠ P := fun h2 => hps (by
            have h3 := (HAT.out k 0 hk hl0).2
            rw [Nat.zero_mul, Nat.add_zero, h2] at h3
            exact h3)
          omega
        generalize ((ps P : Nat) : Int) = psP at *
        clear HIW O6 T6 SC6 hb6 hDK hD hDl hps
        go_wp2
        go_roundg (C - (P + 1))
        case rel => exact ⟨P + 1, nn, T, by omega, by go_num, HN.out⟩
        case measure => omega
      have hps := Classical.not_not.1 hps
      have hNP := HBK.out P hlt
      rw [hps, Nat.zero_mul, Nat.add_zero] at hNP
      obtain ⟨N0, hN0⟩ : ∃ N0, ln P = N0 := ⟨_, rfl⟩
      rw [hN0] at hNP
      have hnN : nn = N0 := by
        have h1 := HIW.out.2.2.2.2.2.2
        rcases Nat.lt_trichotomy nn N0 with h | h | h
        · have h2 := (h1 nn (by omega)).2 (by
            have := (Nat.mul_lt_mul_right hnx).2 h
            omega)
          omega
        · exact h
        · have h2 := (h1 N0 (by omega)).1 h
          omega
      subst hnN
      have k1 : w6.cell? ⟨b, K, none⟩ = some (.int .i64 0) := by rw [k0, hps]; rfl
      have HPP : Hid (∀ i, i < lg → plcV x.shape (D.set K (i : Int)) = ((nn * nx + i * st : Nat) : Int) ∧ nn * nx + i * st < C) := fun i hi => ⟨by rw [← hD, HPL.out P i hlt hps hi, hN0], hlin nn i hNP.1 hi⟩
      have hDS : D.set K (gI D K) = D := gI_ext (by simp) fun i hi => by
        rw [gI_set _ _ _ _ (by rw [hDl]; exact hK)]
        by_cases h : i = K
        · rw [if_pos h, h]
        · rw [if_neg h]
      have HIN2 : Hid (Off bm wB w6 ∧ RowT w6 bm C T ∧ (∀ q, q < C → (ln q < nn ∨ (ln q = nn ∧ ps q < 0)) → CeIn (ArIn n lo w) lo w (G (ln q) (ps q)).1 (T q).1 (T q).2.1 (T q).2.2) ∧ SoftC w6 b (D.set K (gI D K)) ∧ b < w6.heap.size) := ⟨O6, T6, fun q hq h => HIW.out.2.2.2.1 q hq (by omega), by rw [hDS]; exact SC6, hbl⟩
      have HOUT := hide (And.intro HIW.out.2.2.2.2 (And.intro hNP hDl))
      have hbB : wB.heap.size ≤ b := by omega
      clear HIW O6 T6 SC6 hb6 hDK hDS hD k0 hN0 HPL HDG
      go_wp2
      clear k1 k0f
      go_loopg [16] lg (fun gg iv wq => ∃ (j : Nat) (z : Int) (T : Nat → Value × Value × Value), gg + j = lg ∧ iv = .int .i64 (j : Int) ∧ Off bm wB wq ∧ RowT wq bm C T ∧ (∀ q, q < C → (ln q < nn ∨ (ln q = nn ∧ ps q < j)) → CeIn (ArIn n lo w) lo w (G (ln q) (ps q)).1 (T q).1 (T q).2.1 (T q).2.2) ∧ SoftC wq b (D.set K z) ∧ b < wq.heap.size ∧ firstUp (fun i => (G nn i).2) j = 0)
      case atStart => exact ⟨0, _, T, rfl, rfl, HIN2.out.1, HIN2.out.2.1, HIN2.out.2.2.1, HIN2.out.2.2.2.1, HIN2.out.2.2.2.2, rfl⟩
      case round =>
      clear HIN2
      obtain ⟨j, z, T2, hgj, rfl, hoff, hrow, hce, SC, hbw, hfj⟩ := hrel
      have IW := hoff.in2 HIB.out hg.2.1
      have q0 := IW.q0
      have q1 := IW.q1
      obtain ⟨bs, os, rfl, hbs, hsc⟩ := row_at HR.out.1 (j := K) (by rw [← HR.out.2.1]; exact hK)
      have u0 := (IW.bel.cell (p := ⟨bs, os + K, none⟩) hbs).trans hsc
      rw [show x.shape[K]?.getD 0 = gI x.shape K from rfl, HLG2.out (by omega)] at u0
      by_cases hlj : ¬ j < lg
      · have hje : j = lg := by omega
        subst hje
        have HN : Hid (Off bm wB wr ∧ RowT wr bm C T2 ∧ (∀ q, q < C → ln q < nn + 1 → CeIn (ArIn n lo w) lo w (G (ln q) (ps q)).1 (T2 q).1 (T2 q).2.1 (T2 q).2.2) ∧ firstUp EG (nn + 1) = 0 ∧ nn + 1 ≤ m ∧ ∀ k, k < m → (k < nn + 1 ↔ k * nx < P + 1)) := by
          refine ⟨hoff, hrow, fun q hq h => hce q hq (by have := (HBK.out q hq).2.1; omega), by rw [firstUp_step HOUT.out.1.1, HED.out]; exact hfj, by have := HOUT.out.2.1.1; omega, fun k hk => ?_⟩
          have hNP := HOUT.out.2.1.2.2
          constructor
          · intro h
            have : k * nx ≤ nn * nx := Nat.mul_le_mul_right nx (by omega)
            omega
          · intro h
            rcases Nat.lt_or_ge k (nn + 1) with h1 | h1
            · exact h1
            · exfalso
              have : (nn + 1) * nx ≤ k * nx := Nat.mul_le_mul_right nx h1
              rw [Nat.add_mul, Nat.one_mul] at this
              omega
        clear hoff hrow hce SC IW hfj HOUT HPP
        go_wp2
        go_roundg (C - (P + 1))
        case rel => exact ⟨P + 1, nn + 1, T2, by omega, by go_num, HN.out⟩
        case measure => omega
      have hlj := Classical.not_not.1 hlj
      have hjz : (j : Int) < (lg : Int) := by omega
      have hDl := HOUT.out.2.2
      have CA := rline (cA := S) (k := K) (U := j + 1) (P := fun i => nn * nx + i * st) HX.out IW.bel (Nat.le_trans hlo IW.bel.size) (SC.row (lo := 0) hbw (Nat.zero_le _) (by rw [List.length_set, hDl]; omega)) (by rw [List.length_set, hDl]) hK hS8 (by omega) (fun i hi => by rw [List.set_set]; exact HPP.out i (by omega))
      rw [show (((j + 1 : Nat)) : Int) = (j : Int) + 1 by omega] at CA
      have hGD := HGD.out nn j hlj
      obtain ⟨LL, hLL⟩ : ∃ LL, (mkCs (j + 1) fun i => cAt x.cells (nn * nx + i * st)) = LL := ⟨_, rfl⟩
      rw [hLL] at CA hGD
      have hLLl : LL.length = j + 1 := by rw [← hLL, mkCs_len]
      have hLin : ∀ i, i < LL.length → In64 (cAt LL i).2.1 := fun i hi => by
        rw [hLLl] at hi
        rw [← hLL, mkCs_at _ _ _ hi]
        exact HIN.out _ (by rw [← HR.out.2.2]; exact (HPP.out i (by omega)).2)
      have HST := hide (And.intro IW (And.intro hoff (And.intro hrow (And.intro hce (And.intro SC (And.intro hbw hfj))))))
      have HLL := hide (And.intro hLLl (And.intro hLin hGD))
      clear IW hoff hrow hce SC hfj hLL hLLl hLin hGD hbw
      go_wp2_with fail
      refine CA.mono ?_
      rintro e w7 ⟨⟨a', c', rfl, hO⟩, hb7⟩
      clear CA
      have B7 := HST.out.1.bel.trans (hb7.mono HST.out.1.bel.size)
      have CB := rrow_any (op := op) (t := t) (cap := c') hO B7 (by rw [HLL.out.1]; omega) HLL.out.2.1
      rw [HLL.out.1, ← HLL.out.2.2] at CB
      have HB7 := hide hb7
      clear hb7 hO B7 q0 q1
      go_wp2_with fail
      refine CB.mono ?_
      rintro e w8 ⟨⟨y0, y1, y2, rfl, hceg⟩, hb8⟩
      clear CB
      obtain ⟨rfl, rfl, ya, yc, rfl, -⟩ := id hceg
      have HCEG := hide hceg
      obtain ⟨v0, hv0⟩ : ∃ v0, (G nn j).1.1 = v0 := ⟨_, rfl⟩
      obtain ⟨v1, hv1⟩ : ∃ v1, (G nn j).1.2.1 = v1 := ⟨_, rfl⟩
      obtain ⟨v2, hv2⟩ : ∃ v2, (G nn j).1.2.2.length = v2 := ⟨_, rfl⟩
      obtain ⟨EE, hEE⟩ : ∃ EE, (G nn j).2 = EE := ⟨_, rfl⟩
      rw [hv0, hv1, hv2] at HCEG ⊢
      rw [hEE]
      have HEE := hide hEE
      have B8 := HB7.out.trans (hb8.mono HB7.out.size)
      have B9 := B8.trans ((one_alloc w8 (.cells #[.int .i64 v0, .int .i64 v1, .slice ya v2 yc] 43)).mono B8.size)
      have Z9 := Zc.new w8 (.int .i64 v0) (.int .i64 v1) (.slice ya v2 yc)
      obtain ⟨w9, e9⟩ : ∃ w9, w8.alloc (.cells #[.int .i64 v0, .int .i64 v1, .slice ya v2 yc] 43) = w9 := ⟨_, rfl⟩
      rw [e9] at B9 Z9
      obtain ⟨cb9, hcb⟩ : ∃ cb9, w8.heap.size = cb9 := ⟨_, rfl⟩
      rw [hcb] at Z9
      have I9 := HST.out.1.next B9
      have O9 := HST.out.2.1.next B9
      have T9 := HST.out.2.2.1.next B9
      have S9 := HST.out.2.2.2.2.1.next HST.out.2.2.2.2.2.1 B9
      have hb9 : b < w9.heap.size := Nat.lt_of_lt_of_le HST.out.2.2.2.2.2.1 B9.size
      have hcbg : wr.heap.size ≤ cb9 := by rw [← hcb]; exact B8.size
      have HE9 := hide (And.intro e9 hcb)
      clear hceg hv0 hv1 hv2 hEE hb8 HB7 B8 B9 e9 hcb HLL
      by_cases hE0 : ¬ EE = 0
      · have gE : (EE == 0) = false := beq_eq_false_iff_ne.2 hE0
        have HE : Hid (RR = (zeroA, EE)) := by
          have h3 := HRED2.out
          rw [if_neg (by rw [← HR.out.2.1, ← HR.out.2.2]; omega)] at h3
          have h5 : EG nn = EE := by
            rw [HED.out, firstUp_hit HST.out.2.2.2.2.2.2 (by show (G nn j).2 ≠ 0; rw [HEE.out]; exact hE0) lg hlj]
            exact HEE.out
          have h4 : firstUp EG m = EE := by rw [firstUp_hit HOUT.out.1.1 (by rw [h5]; exact hE0) m HOUT.out.2.1.1, h5]
          rw [h4, if_pos hE0] at h3
          exact h3
        have p0 := I9.p0
        have p1 := I9.p1
        have f0 := I9.f0
        have f1 := I9.f1
        have HT := hide (I9.put (.slice none 0 0) (.slice none 0 0))
        have HFI := hide I9.fin
        clear HIN HX HR HCH HLA HBK HAT HLG2 HGD HED HOB HIB HST HOUT HPP HCEG HRED2 I9 O9 T9 S9 Z9 u0
        go_upto_region 17 with fail
        rw [HE9.out.1, HE9.out.2]
        clear HE9
        go_wp2
        exact bodyPost_ret (v := .tuple #[.agg #[.slice none 0 0, .slice none 0 0], .int .i64 EE]) (by simp [results, Tryd.results16, go_sem, HT.out.1, HT.out.2]) rfl (gives2z0 HE.out (zeroA_in _ _ _) (HFI.out _ _))
      have hE1 : EE = 0 := Classical.not_not.1 hE0
      clear hE0
      subst hE1
      obtain ⟨k0, k0f⟩ := S9 K (by rw [List.length_set, hDl]; exact hK)
      have S10 := S9.set K (by rw [List.length_set, hDl]; exact hK) (j : Int)
      rw [List.set_set] at S10
      obtain ⟨w10, e10⟩ : ∃ w10, w9.setCell ⟨b, K, none⟩ (.int .i64 (j : Int)) = w10 := ⟨_, rfl⟩
      rw [e10] at S10
      have O10 : Off bm wB w10 := by rw [← e10]; exact O9.new (k := 0) hbB _
      have T10 : RowT w10 bm C T2 := by rw [← e10]; exact T9.other (by omega)
      have hcbb : b ≠ cb9 := by have := HST.out.2.2.2.2.2.1; omega
      have Z10 : Zc w10 cb9 (.int .i64 v0) (.int .i64 v1) (.slice ya v2 yc) := by
        rw [← e10]
        refine ⟨by simpa using Z9.lt, ?_, ?_, ?_, frozen_set _ _ _ _ Z9.f0, frozen_set _ _ _ _ Z9.f1, frozen_set _ _ _ _ Z9.f2⟩
        · rw [World.cell?_setCell_other _ _ _ _ (by simp <;> omega)]; exact Z9.c0
        · rw [World.cell?_setCell_other _ _ _ _ (by simp <;> omega)]; exact Z9.c1
        · rw [World.cell?_setCell_other _ _ _ _ (by simp <;> omega)]; exact Z9.c2
      have hb10 : b < w10.heap.size := by rw [← e10]; simpa using hb9
      have I10 := O10.in2 HIB.out hg.2.1
      have CP := rplace_any x.shape (D.set K (j : Int)) (some ⟨bs, os, none⟩) (some ⟨b, 0, none⟩) c1 S w10 (HR.out.1.next I10.bel) (S10.row (lo := 0) hb10 (Nat.zero_le _) (by rw [List.length_set, hDl]; omega))
      rw [(HPP.out j hlj).1, List.length_set, hDl, ← HR.out.2.1] at CP
      generalize plcE x.shape (D.set K (j : Int)) = PE at CP
      obtain ⟨q, hq⟩ : ∃ q, nn * nx + j * st = q := ⟨_, rfl⟩
      have hqC : q < C := by rw [← hq]; exact (HPP.out j hlj).2
      rw [hq] at CP
      have Q0 := I10.q0
      have HST2 := hide (And.intro O10 (And.intro T10 (And.intro S10 (And.intro hb10 (And.intro Z10 I10)))))
      have HQ := hide hq
      have HE10 := hide e10
      generalize gI (D.set K z) K = zK at *
      clear I9 O9 T9 S9 Z9 O10 T10 S10 Z10 I10 hb9 hb10 e10 hq u0
      go_upto_region 17 with fail
      rw [HE9.out.1, HE9.out.2]
      clear HE9
      go_upto_region 20 with fail
      rw [HE10.out]
      clear HE10 k0 k0f
      go_wp2_with fail
      refine CP.mono ?_
      rintro e w11 ⟨rfl, hb11⟩
      clear CP Q0
      have O11 := HST2.out.1.next hb11
      have T11 := HST2.out.2.1.next hb11
      have S11 := HST2.out.2.2.1.next HST2.out.2.2.2.1 hb11
      have Z11 := HST2.out.2.2.2.2.1.next hb11
      have hb11' : b < w11.heap.size := Nat.lt_of_lt_of_le HST2.out.2.2.2.1 hb11.size
      have o1 := O11.cell hg.2.2.1 (by omega) HOB.out.2
      have c0' := Z11.c0
      have c1' := Z11.c1
      have c2' := Z11.c2
      have t0 := T11.c0 q hqC
      have t1 := T11.c1 q hqC
      have t2 := T11.c2 q hqC
      have t3 := T11.f (q * 3)
      have t4 := T11.f (q * 3 + 1)
      have t5 := T11.f (q * 3 + 2)
      have hqz : (q : Int) < (C : Int) := by omega
      have hq0 : (0 : Int) ≤ (q : Int) := by omega
      have HN : Hid (Off bm wB (((w11.setCell ⟨bm, q * 3, none⟩ (.int .i64 v0)).setCell ⟨bm, q * 3 + 1, none⟩ (.int .i64 v1)).setCell ⟨bm, q * 3 + 2, none⟩ (.slice ya v2 yc)) ∧ RowT (((w11.setCell ⟨bm, q * 3, none⟩ (.int .i64 v0)).setCell ⟨bm, q * 3 + 1, none⟩ (.int .i64 v1)).setCell ⟨bm, q * 3 + 2, none⟩ (.slice ya v2 yc)) bm C (setT T2 q (.int .i64 v0, .int .i64 v1, .slice ya v2 yc)) ∧ (∀ r, r < C → (ln r < nn ∨ (ln r = nn ∧ ps r < j + 1)) → CeIn (ArIn n lo w) lo w (G (ln r) (ps r)).1 (setT T2 q (.int .i64 v0, .int .i64 v1, .slice ya v2 yc) r).1 (setT T2 q (.int .i64 v0, .int .i64 v1, .slice ya v2 yc) r).2.1 (setT T2 q (.int .i64 v0, .int .i64 v1, .slice ya v2 yc) r).2.2) ∧ SoftC (((w11.setCell ⟨bm, q * 3, none⟩ (.int .i64 v0)).setCell ⟨bm, q * 3 + 1, none⟩ (.int .i64 v1)).setCell ⟨bm, q * 3 + 2, none⟩ (.slice ya v2 yc)) b (D.set K (j : Int)) ∧ b < (((w11.setCell ⟨bm, q * 3, none⟩ (.int .i64 v0)).setCell ⟨bm, q * 3 + 1, none⟩ (.int .i64 v1)).setCell ⟨bm, q * 3 + 2, none⟩ (.slice ya v2 yc)).heap.size ∧ firstUp (fun i => (G nn i).2) (j + 1) = 0) := by
        refine ⟨O11.put _ _ _, T11.put hqC _ _ _, fun r hr h => ?_, ((S11.other (by omega)).other (by omega)).other (by omega), by simpa using hb11', by rw [firstUp_step HST.out.2.2.2.2.2.2]; exact HEE.out⟩
        unfold setT
        by_cases hrq : r = q
        · have ha := HAT.out nn j HOUT.out.2.1.1 hlj
          rw [HQ.out, ← hrq] at ha
          rw [if_pos hrq, ha.1, ha.2]
          exact HCEG.out
        · rw [if_neg hrq]
          refine HST.out.2.2.2.1 r hr ?_
          rcases h with h | ⟨h1, h2⟩
          · exact Or.inl h
          · refine Or.inr ⟨h1, ?_⟩
            rcases Nat.lt_or_ge (ps r) j with h3 | h3
            · exact h3
            · exfalso
              have h4 := (HBK.out r hr).2.2
              have h5 : ps r = j := by omega
              rw [h1, h5, HQ.out] at h4
              exact hrq h4.symm
      clear O11 T11 S11 Z11 HST2 HST hb11 HCEG HEE HQ
      generalize (T2 q).1 = x0 at *
      generalize (T2 q).2.1 = x1 at *
      generalize (T2 q).2.2 = x2 at *
      go_wp2
      go_roundg (lg - (j + 1))
      case rel => exact ⟨j + 1, (j : Int), _, by omega, by go_num, HN.out⟩
      case measure => omega
  · have gE : (EC == 0) = false := beq_eq_false_iff_ne.2 hE
    have HE : Hid (RR = (zeroA, EC)) := HRED.out.trans (if_pos hE)
    have HT := hide (HI1.out.put (.slice none 0 0) (.slice none 0 0))
    have HFI := hide HI1.out.fin
    clear HCK HIN HR HRED HX
    go_wp2
    exact bodyPost_ret (v := .tuple #[.agg #[.slice none 0 0, .slice none 0 0], .int .i64 EC]) (by simp [results, Tryd.results16, go_sem, HT.out.1, HT.out.2]) rfl (gives2z0 HE.out (zeroA_in _ _ _) (HFI.out _ _))
end Go.Proofs.YtlfacpclihmnnaaDoor
