/-
  The contract of the document's By, rule by rule.
  The contracts of the library's Clone of a row of numbers and of layer 6's reshaped, listed, numberOf and filling.
  Layer 8: a shape without its first axis or its last (without), the lines of an array (linesOf), the errors told first (check).
  The contracts of the document's Check and of layer 3's; for all arrays.
  Layer 8: the errors told first (check).
  Layer 8: the document's row whole (it gives rowR), axis, start.
  Layer 8: fill: an array of a shape whose cells come each of its place; by the closure of Red (31).
  Layer 8: the closure of Red: a line folded.
  Layer 8: the document's line: the cells along an axis, as far as a place of it.
  Layer 8: a row of cells that may be written (RowT); Clone of cells; Sub and Res of numbers, folded from the right.
-/
import Derived.Test.YtlfacpclihmnnaaDoorM3
import Derived.WalkKit
import Derived.Test.YtlfacpclihmnnaaDoorChecked
import GoSem.Claim
import GoSem.ClaimJoined
import GoSem.ClaimMapViews
import Derived.JoinedTies
import Derived.KernelRfl
import Derived.ProofKit
import Derived.Below
import Derived.Deep.OwnRows
import Derived.Deep.QuietTactic
import Derived.BigQuiet
import Derived.Deep.RegionWith
import Derived.Laws.MakeOwn
import Derived.Deep.RegionHeld3
import Derived.OpenShut
import Derived.Lib.Mul64
import Derived.Laws.Bits64b
import Derived.ChangeOld
import Derived.SizedLaws
import Derived.Deep.Slices
import Derived.Deep.Strs
import Derived.Deep.LoopGhost
import Derived.Laws.IdiomCopy
import Derived.Deep.Cut
import Derived.Deep.RegionLaw
import Derived.Laws.AppendOwnNone
import Derived.BigFrame
import Derived.Laws.OwnMore
import Derived.OwnWalk
import Derived.Lib.SliceRun
import Derived.Deep.CutRange
import Derived.Laws.EntriesVeiled
import GoSem.ClaimSeven
import Derived.LaidByTextLater
import Derived.SevenTiedAt
import Derived.LaidSub
import Derived.LaidOnce
import Derived.Deep.DeepHandedRow
import Derived.Lib.LaidTab
namespace Go.Proofs.YtlfacpclihmnnaaDoor
open Go.ChangeShapes Go.WideShapes Go.ChangeAt Go.RowKit
set_option linter.unusedVariables false
set_option maxRecDepth 100000
theorem ArIn.formC {n lo : Nat} {w : World} {x : Ar} {v : Value} (h : ArIn (n + 1) lo w x v) : ∃ a1 c1 a2 c2, v = .agg #[.slice a1 x.shape.length c1, .slice a2 x.cells.length c2] ∧ Row lo w a1 x.shape ∧ CellsIn n lo w x.cells a2 := by
  obtain ⟨a1, c1, a2, c2, h1, h2, -, h3⟩ := h
  exact ⟨a1, c1, a2, c2, h1, h2, h3⟩
theorem infoI3 : ∃ i, Tryd.prog.info? 3 = some i ∧ i.zero = some (.int .i64 0) ∧ i.size = 1 ∧ i.bytes = 8 := by
  obtain ⟨i, hi, hzz⟩ := Option.map_eq_some_iff.1 int3
  simp only [Prod.mk.injEq] at hzz
  exact ⟨i, hi, hzz.1, hzz.2.1, hzz.2.2⟩
/-- The place that a rule names. -/
def ruleL (r : Nat) (s d : List Int) : List Int := if r = 0 then turnL s d 0 else if r = 1 then turnL s d (s.length - 1) else d.reverse
def byR (r : Nat) (s : List Int) (x : Ar) : Ar := .mk s (mkCs (sizeV s).toNat fun i => cAt x.cells (place x.shape (ruleL r s (digits s i))).toNat)
theorem plc_of {l m : List Int} (hs : sizeE l = 0) (h : inAxes l m) : plcV l m = place l m ∧ m.length = l.length := by
  have h2 := (inAxes_iff l m).1 h
  exact ⟨(plc_in hs h2.1 h2.2).1, h2.1⟩
theorem SoftC.next {w w' : World} {b : Nat} {l : List Int} (h : SoftC w b l) (hb : b < w.heap.size) (hn : Below w.heap.size w w') : SoftC w' b l := fun i hi => ⟨(hn.cell (p := ⟨b, i, none⟩) hb).trans (h i hi).1, (hn.frozen (p := ⟨b, i, none⟩) hb).trans (h i hi).2⟩
theorem GrowC.new {W : World} {o : Nat} {sv : Value} {T : Nat → Value × Value × Value} (c0 : W.cell? ⟨o, 0, none⟩ = some sv) (c1 : W.cell? ⟨o, 1, none⟩ = some (.slice none 0 0)) (f1 : W.frozen? ⟨o, 1, none⟩ = false) : GrowC W o sv T 0 (.slice none 0 0) W :=
  ⟨Below.refl _ _, fun _ _ _ => rfl, c0, c1, f1, World.ownsRow_nil _ _ _ _⟩
set_option maxHeartbeats 8000000 in
theorem rby0_any {n lo lo' : Nat} {s : List Int} {x : Ar} {aS : Option Addr} {cs : Nat} {va : Value} {w0 w : World} (Rs : Row lo' w aS s) (hx : ArIn (n + 1) lo w0 x va) (hb0 : Below w0.heap.size w0 w) (hsE : sizeE s = 0) (hxE : sizeE x.shape = 0) (hc16 : x.cells.length ≤ 16384)
    (hin : ∀ d, inAxes s d → inAxes x.shape (ruleL 0 s d) ∧ place x.shape (ruleL 0 s d) < x.cells.length) :
    Calls Tryd.prog 22 #[.slice aS s.length cs, va, .int .i64 0] w fun e w' => GivesZ (n + 1) w0 (byR 0 s x) w e w' := by
  obtain ⟨a1, c1, a2, c2, rfl, R, hc⟩ := hx.formC
  have HB0 := hide hb0
  obtain ⟨i3, hi3, hz30, hz31, hz32⟩ := infoI3
  obtain ⟨i0, hi0, hz00, hz01, hz02⟩ := info33'
  have hs8 : s.length ≤ 8 := by have := (fine_cases hsE).1; exact this
  obtain ⟨N, hN⟩ : ∃ N : Nat, sizeV s = (N : Int) := ⟨(sizeV s).toNat, by have := (sizeV_le hsE).1; omega⟩
  have hN16 : N ≤ 16384 := by have := (sizeV_le hsE).2; omega
  obtain ⟨ab, cb, hcf⟩ := cells_fn hc
  obtain ⟨T, hT⟩ : ∃ T : Nat → Value × Value × Value, ∀ i, T i = cellT x.cells ab cb (place x.shape (ruleL 0 s (digits s i))).toNat := ⟨fun i => cellT x.cells ab cb (place x.shape (ruleL 0 s (digits s i))).toNat, fun i => rfl⟩
  have HTT := hide hT
  have HP : Hid (∀ i : Nat, i < N → (∀ z ∈ s, 0 < z) ∧ inAxes s (digits s i) ∧ ∃ p : Nat, place x.shape (ruleL 0 s (digits s i)) = (p : Int) ∧ p < x.cells.length ∧ plcV x.shape (ruleL 0 s (digits s i)) = (p : Int) ∧ (ruleL 0 s (digits s i)).length = x.shape.length) := by
    intro i hi
    obtain ⟨-, hp, hpr, -⟩ := sizeV_in (l := s) (n := (i : Int)) hsE (by omega) (by omega)
    have hd := (digits_in (l := s) hp (n := (i : Int)) (by omega) (by omega)).1
    obtain ⟨h1, h2⟩ := hin _ hd
    obtain ⟨-, b0, -, -⟩ := place_bound h1
    obtain ⟨e1, e2⟩ := plc_of hxE h1
    refine ⟨hp, hd, (place x.shape (ruleL 0 s (digits s i))).toNat, by omega, by omega, by omega, e2⟩
  have I := in2_new w (.slice a1 x.shape.length c1) (.slice a2 x.cells.length c2)
  obtain ⟨W2, e2⟩ : ∃ W2, (w.alloc (.cells #[.slice a1 x.shape.length c1, .slice a2 x.cells.length c2] 25)).alloc (.cells #[.slice none 0 0, .slice none 0 0] 25) = W2 := ⟨_, rfl⟩
  rw [e2] at I
  have z2 : W2.heap.size = w.heap.size + 2 := by rw [← e2]; simp
  have C := rsize_any s aS cs W2 (Rs.next I.bel)
  rw [hN] at C
  generalize sizeE s = EE at C
  have HI := hide I
  have HR := hide (And.intro Rs (And.intro R hc))
  have HZ2 := hide z2
  have HCF := hide hcf
  have HN := hide hN
  have HSE := hide (And.intro hsE hxE)
  obtain ⟨SX, hSX⟩ : ∃ SX, x.shape.length = SX := ⟨_, rfl⟩
  obtain ⟨CX, hCX⟩ : ∃ CX, x.cells.length = CX := ⟨_, rfl⟩
  obtain ⟨SS, hSS⟩ : ∃ SS, s.length = SS := ⟨_, rfl⟩
  have HSC := hide (And.intro hSX (And.intro hCX hSS))
  simp only [hSX, hCX, hSS] at C e2 HI HCF HP hc16 hs8 ⊢
  clear R hc I hx hSX hCX hSS hin hcf hT Rs hsE hxE hN
  go_enter Tryd.func22, Tryd.ntmps22
  go_wp2_with fail
  refine C.mono ?_
  rintro e w1 ⟨rfl, rfl⟩
  clear e2 C
  obtain ⟨W3, e3⟩ : ∃ W3, w1.alloc (.cells #[.slice none 0 0, .slice none 0 0] 25) = W3 := ⟨_, rfl⟩
  have z3 : W3.heap.size = w.heap.size + 3 := by rw [← e3]; simp [z2]
  have B3 : Below w1.heap.size w1 W3 := by rw [← e3]; exact one_alloc _ _
  have o0 : W3.cell? ⟨w.heap.size + 2, 0, none⟩ = some (.slice none 0 0) := by rw [← e3, ← z2]; exact cell_new0 w1 _ 25 0 _ rfl
  have o1 : W3.cell? ⟨w.heap.size + 2, 1, none⟩ = some (.slice none 0 0) := by rw [← e3, ← z2]; exact cell_new0 w1 _ 25 1 _ rfl
  have of0 : W3.frozen? ⟨w.heap.size + 2, 0, none⟩ = false := by rw [← e3, ← z2]; exact frozen_new w1 _ 25 0
  have of1 : W3.frozen? ⟨w.heap.size + 2, 1, none⟩ = false := by rw [← e3, ← z2]; exact frozen_new w1 _ 25 1
  have I3 := HI.out.next B3
  have HLS : Hid (Lies W3 aS (s.map (Value.int .i64))) := Lies.row_next HR.out.1 I3.bel
  have hsl : (s.map (Value.int .i64)).length = SS * 1 := by rw [List.length_map, HSC.out.2.2]; omega
  have HI3 := hide I3
  have HO := hide (And.intro o1 of1)
  clear I3 B3
  subst e3
  go_wp2_with (at_builtin; refine wpList_append_any rfl _ _ 22 rfl (w1.alloc (.cells #[.slice none 0 0, .slice none 0 0] 25)).heap.size 3 i3 (.int .i64 0) 1 8 Tryd.underlying22 hi3 hz30 hz31 hz32 rfl (by decide) (.slice none 0 0) 0 [] rfl (World.ownsRow_nil _ _ _ _) aS SS cs (s.map (Value.int .i64)) rfl hsl HLS.out ?c3 ?c4 (Nat.le_refl _) ?_)
  case c3 => unfold maxLen; omega
  case c4 => omega
  intro v' w4 hown4 hb4
  obtain ⟨W3, e3⟩ : ∃ W3, w1.alloc (.cells #[.slice none 0 0, .slice none 0 0] 25) = W3 := ⟨_, rfl⟩
  rw [e3] at hb4 z3 o0 o1 of0 of1 HI3 HO
  rw [← z3] at hown4 hb4
  clear e3
  obtain ⟨al, cl, rfl, RL⟩ := owns_rowE s (by rw [HSC.out.2.2]; omega) (by rw [HSC.out.2.2]; exact hown4)
  rw [HSC.out.2.2]
  have d0 : w4.cell? ⟨w.heap.size + 2, 0, none⟩ = some (.slice none 0 0) := (hb4.cell (p := ⟨w.heap.size + 2, 0, none⟩) (by show w.heap.size + 2 < _; omega)).trans o0
  have df0 : w4.frozen? ⟨w.heap.size + 2, 0, none⟩ = false := (hb4.frozen (p := ⟨w.heap.size + 2, 0, none⟩) (by show w.heap.size + 2 < _; omega)).trans of0
  obtain ⟨w5, e5⟩ : ∃ w5, w4.setCell ⟨w.heap.size + 2, 0, none⟩ (.slice al SS cl) = w5 := ⟨_, rfl⟩
  have z5 : w5.heap.size = w4.heap.size := by rw [← e5]; simp
  have I5 : In2 w (.slice a1 SX c1) (.slice a2 CX c2) w5 := by rw [← e5]; exact (HI3.out.belowS hb4 (by omega)).set (by omega) _
  have t0 : w5.cell? ⟨w.heap.size + 2, 0, none⟩ = some (.slice al SS cl) := by rw [← e5]; exact World.cell?_setCell_same' _ _ _ (by rw [d0]; rfl)
  have t1 : w5.cell? ⟨w.heap.size + 2, 1, none⟩ = some (.slice none 0 0) := by rw [← e5, World.cell?_setCell_other _ _ _ _ (by simp)]; exact (hb4.cell (p := ⟨w.heap.size + 2, 1, none⟩) (by show w.heap.size + 2 < _; omega)).trans HO.out.1
  have tf1 : w5.frozen? ⟨w.heap.size + 2, 1, none⟩ = false := by rw [← e5]; exact frozen_set _ _ _ _ ((hb4.frozen (p := ⟨w.heap.size + 2, 1, none⟩) (by show w.heap.size + 2 < _; omega)).trans HO.out.2)
  have K5 : Keeps W3.heap.size w4 w5 := by rw [← e5]; exact (Keeps.refl _ _).setCell (p := ⟨w.heap.size + 2, 0, none⟩) (by show w.heap.size + 2 < _; omega) _
  have HRL := hide (RL.keeps K5)
  have HG5 := hide (GrowC.new (T := T) t0 t1 tf1)
  have HI5 := hide I5
  have HZ : Hid (w.heap.size + 3 ≤ w5.heap.size ∧ W3.heap.size = w.heap.size + 3) := ⟨by have := hb4.size; omega, z3⟩
  clear hown4 hb4 RL K5 t0 t1 tf1 z5 HO HI3 HI HLS hsl o0 o1 of0 of1 I5 z3 z2
  go_wp2
  clear e5 d0 df0
  go_loopg [10] N (fun g i wr => ∃ (t : Nat) (v : Value), g + t = N ∧ i = .int .i64 (t : Int) ∧ GrowC w5 (w.heap.size + 2) (.slice al SS cl) T t v wr)
  case atStart => exact ⟨0, _, rfl, rfl, HG5.out⟩
  case round =>
    clear HG5
    obtain ⟨t, v, hg, rfl, hgr⟩ := hrel
    obtain ⟨wo, hwo⟩ : ∃ wo, wo = wr := ⟨_, rfl⟩
    subst hwo
    have HGR := hide hgr
    have hz := HZ.out
    have BW := hgr.below (B := w.heap.size + 2) (Nat.le_refl _) (by omega)
    have I6 : In2 w (.slice a1 SX c1) (.slice a2 CX c2) wo := HI5.out.belowS BW (Nat.le_refl _)
    by_cases hlt : t < N
    · obtain ⟨hpos, hdin, p, hp1, hp2, hp3, hp4⟩ := HP.out t hlt
      have C := rplaces_any s (t : Int) aS cs wo (HR.out.1.next I6.bel)
      rw [HSC.out.2.2] at C
      have HI6 := hide I6
      clear I6 hgr BW
      go_wp2_with fail
      refine C.mono ?_
      clear C
      rintro e w6 ⟨hb6, -, -, h4⟩
      obtain ⟨b, rfl, RD, -, -⟩ := h4 HSE.out.1 (by omega) (by rw [HN.out]; omega)
      clear h4
      rw [HSC.out.2.2]
      obtain ⟨D, hD⟩ : ∃ D, digits s (t : Int) = D := ⟨_, rfl⟩
      have hDl : D.length = SS := by rw [← hD, digits_length, HSC.out.2.2]
      rw [hD] at RD hp1 hp3 hp4 hdin
      have HPL := hide (And.intro hp1 (And.intro hp3 (And.intro hp4 hdin)))
      have HDR : Hid (∀ j, j < SS → b < w6.heap.size ∧ w6.cell? ⟨b, j, none⟩ = some (.int .i64 (gI D j))) := fun j hj => by
        obtain ⟨b', off', hbo, hb', hcc⟩ := row_at RD (j := j) (by omega)
        simp only [Option.some.injEq, Addr.mk.injEq, and_true] at hbo
        obtain ⟨rfl, rfl⟩ := hbo
        rw [Nat.zero_add] at hcc
        exact ⟨hb', hcc⟩
      have HB6 := hide hb6
      have HDD := hide (And.intro hD hDl)
      have HPOS := hide hpos
      clear hp1 hp3 hp4 hdin hD hb6 RD hpos
      go_wp2
      go_loopg [13, 14] SS (fun g mv i wq => ∃ k : Nat, g + k = SS ∧ i = .int .i64 (k : Int) ∧ Below w6.heap.size w6 wq ∧ wq.ownsRow w6.heap.size 3 1 mv k ((D.take k).map (Value.int .i64)))
      case atStart => exact ⟨0, rfl, rfl, Below.refl _ _, World.ownsRow_nil _ _ _ _⟩
      case round =>
        obtain ⟨k, hgk, rfl, hnx, hown⟩ := hrel
        by_cases hlk : k < SS
        · obtain ⟨hbl, hck⟩ := HDR.out k hlk
          have hc1 : wr.cell? ⟨b, k, none⟩ = some (.int .i64 (gI D k)) := (hnx.cell (p := ⟨b, k, none⟩) hbl).trans hck
          have HST := hide (take_map_step D k (by rw [HDD.out.2]; exact hlk))
          generalize gI D k = z at *
          have OWN := hown.alloc (.cells #[.int .i64 z] 3)
          have HNW : Hid (∀ i u, [Value.int .i64 z][i]? = some u → (wr.alloc (.cells #[.int .i64 z] 3)).cell? ((⟨wr.heap.size, 0, none⟩ : Addr).add i) = some u) := by
            intro i u hu
            rw [add_off, Nat.zero_add]
            exact cell_new0 wr _ 3 i u (by simpa using hu)
          have HZZ : Hid (w6.heap.size ≤ (wr.alloc (.cells #[.int .i64 z] 3)).heap.size) := Nat.le_trans hnx.size (one_alloc _ _).size
          have HNX := hide (hnx.trans ((one_alloc wr (.cells #[.int .i64 z] 3)).mono hnx.size))
          clear hown hck hbl
          go_wp2_with (at_builtin; refine wpList_append_B rfl _ _ 22 rfl w6.heap.size 3 i3 (.int .i64 0) 1 8 Tryd.underlying22 hi3 hz30 hz31 hz32 rfl (by decide) _ _ _ rfl OWN ⟨wr.heap.size, 0, none⟩ 1 1 [.int .i64 z] rfl rfl HNW.out ?c2 ?c3 ?c4 HZZ.out ?_)
          case c2 =>
            intro u hu
            simp at hu
            subst hu
            rfl
          case c3 => unfold maxLen; omega
          case c4 => omega
          intro v' w1 hown1 hb1
          have hown2 : w1.ownsRow w6.heap.size 3 1 v' (k + 1) ((D.take (k + 1)).map (Value.int .i64)) := by rw [HST.out]; simpa using hown1
          have HF := hide (And.intro (HNX.out.trans hb1) hown2)
          clear hown1 hown2 hb1 OWN HNW HZZ HNX HST hc1 hnx
          go_wp2
          go_roundg (SS - (k + 1))
          case rel => exact ⟨k + 1, by omega, by go_num, HF.out⟩
          case measure => omega
        · have hke : k = SS := by omega
          subst hke
          rw [List.take_of_length_le (by rw [HDD.out.2]; omega)] at hown
          have HBW0 : Hid (Below wo.heap.size wo wr) := HB6.out.trans (hnx.mono HB6.out.size)
          by_cases hk0 : k = 0
          · subst hk0
            have hD0 : D = [] := List.eq_nil_of_length_eq_zero HDD.out.2
            have hrD : ruleL 0 s D = D := by rw [hD0]; simp [ruleL, turnL]
            obtain ⟨af, cf, rfl, RF0⟩ := owns_rowE D (by rw [HDD.out.2]; omega) (by rw [HDD.out.2]; exact hown)
            rw [HDD.out.2]
            have hrl : (ruleL 0 s D).length = 0 := by rw [hrD]; exact HDD.out.2
            have RF := RF0
            rw [← hrD] at RF
            have HBW := HBW0
            clear hown hnx RF0 HBW0 hrD hD0
            have hz := HZ.out
            have HGB : Below w5.heap.size wo wr := HBW.out.mono HGR.out.io.size
            have BW2 : Below (w.heap.size + 2) w5 wr := (HGR.out.below (B := w.heap.size + 2) (Nat.le_refl _) (by omega)).trans (HGB.mono (by omega))
            have I7 : In2 w (.slice a1 SX c1) (.slice a2 CX c2) wr := HI5.out.belowS BW2 (Nat.le_refl _)
            have C9 := rplace_any x.shape (ruleL 0 s D) a1 af c1 cf wr (HR.out.2.1.next (HB0.out.trans (I7.bel.mono HB0.out.size))) RF
            rw [HPL.out.2.1, hrl, HSC.out.1] at C9
            generalize plcE x.shape (ruleL 0 s D) = PE at C9
            have q0 := I7.q0
            have HGB2 := hide HGB
            have HI7 := hide I7
            clear RF I7 BW2 HGB hrl
            go_wp2_with fail
            refine C9.mono ?_
            clear C9 q0
            rintro e w9 ⟨rfl, hb9⟩
            have HG9 := hide (HGB2.out.trans (hb9.mono (Nat.le_trans HGR.out.io.size HGB2.out.size)))
            have HB9 := hide (HBW.out.trans (hb9.mono HBW.out.size))
            have I9 := HI7.out.next hb9
            obtain ⟨bb, off, rfl, -, hbb, hcells⟩ := HCF.out (by omega)
            obtain ⟨g0, g1, g2, -⟩ := hcells p hp2
            have HTi : Hid (T t = (.int .i64 (cAt x.cells p).1, .int .i64 (cAt x.cells p).2.1, .slice (ab p) (cAt x.cells p).2.2.length (cb p))) := by unfold Hid; rw [HTT.out, HDD.out.1, HPL.out.1]; rfl
            have hbw := HB0.out.trans (I9.bel.mono HB0.out.size)
            have u0 := (hbw.cell (p := ⟨bb, off + p * 3, none⟩) hbb).trans g0
            have u1 := (hbw.cell (p := ⟨bb, off + p * 3 + 1, none⟩) hbb).trans g1
            have u2 := (hbw.cell (p := ⟨bb, off + p * 3 + 2, none⟩) hbb).trans g2
            have r1 := I9.q1
            have hp5 : (0 : Int) ≤ (p : Int) := by omega
            have hp6 : (p : Int) < (CX : Int) := by omega
            clear g0 g1 g2 hcells
            generalize (cAt x.cells p).1 = kk at *
            generalize (cAt x.cells p).2.1 = NN at *
            generalize (cAt x.cells p).2.2.length = nb at *
            generalize ab p = abp at *
            generalize cb p = cbp at *
            have d1' := (HG9.out.cell (p := ⟨w.heap.size + 2, 1, none⟩) (by show w.heap.size + 2 < _; omega)).trans HGR.out.c1
            have d2' := (HG9.out.frozen (p := ⟨w.heap.size + 2, 1, none⟩) (by show w.heap.size + 2 < _; omega)).trans HGR.out.f1
            have BA := one_alloc w9 (.cells #[.int .i64 kk, .int .i64 NN, .slice abp nb cbp] 43)
            have hs9 := I9.size
            have hs59 : w5.heap.size ≤ w9.heap.size := Nat.le_trans HGR.out.io.size HG9.out.size
            have x0 : (w9.alloc (.cells #[.int .i64 kk, .int .i64 NN, .slice abp nb cbp] 43)).cell? ⟨w.heap.size + 2, 1, none⟩ = some v := (BA.cell (p := ⟨w.heap.size + 2, 1, none⟩) (by show w.heap.size + 2 < _; omega)).trans d1'
            have HSTEP : Hid (rowT T (t + 1) = rowT T t ++ [.int .i64 kk, .int .i64 NN, .slice abp nb cbp]) := by unfold Hid; rw [rowT_step, HTi.out]
            have OW9 : w9.ownsRow w5.heap.size 43 3 v t (rowT T t) := owns_below HGR.out.own HB9.out
            have HOWN : Hid ((w9.alloc (.cells #[.int .i64 kk, .int .i64 NN, .slice abp nb cbp] 43)).drew.ownsRow w5.heap.size 43 3 v t (rowT T t)) := OW9.alloc (.cells #[.int .i64 kk, .int .i64 NN, .slice abp nb cbp] 43)
            have HNEWS : Hid (∀ i u, [Value.int .i64 kk, .int .i64 NN, .slice abp nb cbp][i]? = some u → (w9.alloc (.cells #[.int .i64 kk, .int .i64 NN, .slice abp nb cbp] 43)).drew.cell? ((⟨w9.heap.size, 0, none⟩ : Addr).add i) = some u) := by
              intro i u hu
              rw [add_off, Nat.zero_add]
              exact cell_new0 w9 _ 43 i u (by simpa using hu)
            have HONE : Hid (∀ u ∈ [Value.int .i64 kk, .int .i64 NN, .slice abp nb cbp], u.oneCell' = true) := by
              intro u hu
              simp at hu
              rcases hu with rfl | rfl | rfl <;> rfl
            have HMAX : Hid (t + 1 ≤ maxLen ∧ (t + 1) * 40 ≤ 140737488355328 ∧ w5.heap.size ≤ (w9.alloc (.cells #[.int .i64 kk, .int .i64 NN, .slice abp nb cbp] 43)).drew.heap.size) := by
              refine ⟨by unfold maxLen; omega, by omega, ?_⟩
              have : (w9.alloc (.cells #[.int .i64 kk, .int .i64 NN, .slice abp nb cbp] 43)).drew.heap.size = w9.heap.size + 1 := by simp
              omega
            have HAB : Hid (Below w5.heap.size wo (w9.alloc (.cells #[.int .i64 kk, .int .i64 NN, .slice abp nb cbp] 43)).drew) := (HG9.out.trans ((Below.refl _ _).alloc (by show _ ≤ w9.heap.size; omega) _)).drew
            have hO1 : Hid (w.heap.size + 2 < w5.heap.size) := by unfold Hid; omega
            clear I9 hs9 hbw BA HTi hbb HCF hb9 HG9 OW9 HI7 HPL HDD HDR HB6 HTT HSC HN HR HP HI6 HI5 HSE HGB2 hs59 HBW HB9
            go_wp2
            go_region_law (refine step_append_own rfl (.tmp 116) (.tmp 122) 23 rfl w5.heap.size 43 i0 (.agg #[.int .i64 0, .int .i64 0, .slice none 0 0]) 3 40 Tryd.underlying23 hi0 hz00 hz01 hz02 rfl (by decide) v t (rowT T t) rfl HOWN.out ⟨w9.heap.size, 0, none⟩ 1 1 [.int .i64 kk, .int .i64 NN, .slice abp nb cbp] rfl rfl HNEWS.out HONE.out HMAX.out.1 HMAX.out.2.1 HMAX.out.2.2 ?_; intro v' w1 hown1 hb1; obtain ⟨g, cp, rfl, -⟩ := owns_form hown1 (Nat.succ_pos t); have dd1 := (HAB.out.trans hb1).cell (p := ⟨w.heap.size + 2, 1, none⟩) hO1.out |>.trans HGR.out.c1; have dd3 := (HAB.out.trans hb1).frozen (p := ⟨w.heap.size + 2, 1, none⟩) hO1.out |>.trans HGR.out.f1)
            all_goals
              have hown2 : w1.ownsRow w5.heap.size 43 3 (.slice (some ⟨g, 0, none⟩) (t + 1) cp) (t + 1) (rowT T (t + 1)) := by rw [HSTEP.out]; exact hown1
              have HNX := hide (HGR.out.step hO1.out (HAB.out.trans hb1) hown2)
              clear hown1 hown2 hb1 dd1 dd3 HOWN HNEWS HONE HMAX HAB HGR HSTEP x0 u0 u1 u2 r1
              go_wp2
              go_roundg (N - (t + 1))
              case rel => exact ⟨t + 1, _, by omega, by go_num, HNX.out⟩
              case measure => omega
          · obtain ⟨gb, cf, rfl, hgb1, hgb2⟩ := owns_form1' hown (by omega)
            have SC := owns_softC HDD.out.2 hown
            have HBN : Hid (Below w.heap.size w wr) := HI6.out.bel.trans (HBW0.out.mono HI6.out.bel.size)
            obtain ⟨bs, os, rfl, hbs, hsc⟩ := row_at HR.out.1 (j := 0) (by rw [HSC.out.2.2]; omega)
            have u0 := (HBN.out.cell (p := ⟨bs, os + 0, none⟩) hbs).trans hsc
            obtain ⟨hbd, hdc⟩ := HDR.out 0 (by omega)
            have u1 := (hnx.cell (p := ⟨b, 0, none⟩) hbd).trans hdc
            obtain ⟨u2, u3⟩ := SC 0 (by rw [HDD.out.2]; omega)
            have hdi := (inAxes_gI s D).1 HPL.out.2.2.2
            have hdb := hdi.2 0 (by rw [HSC.out.2.2]; omega)
            have hs16 : gI s 0 ≤ 16384 := by
              have := prod_of_mem HPOS.out (z := gI s 0) (getD_mem (by rw [HSC.out.2.2]; omega))
              have h2 := sizeV_prod HSE.out.1
              have h3 := HN.out
              omega
            have es : s[0]?.getD 0 = gI s 0 := rfl
            rw [es] at u0
            have HRU0 : D.set 0 (gI s 0 - 1 - gI D 0) = ruleL 0 s D := by unfold ruleL turnL; rw [if_pos rfl]
            have HRLN : Hid (SX = k) := by unfold Hid; rw [← HPL.out.2.2.1, ← HRU0]; simp [HDD.out.2]
            have HRU : Hid (D.set 0 (gI s 0 - 1 - gI D 0) = ruleL 0 s D) := HRU0
            clear HRU0
            generalize gI s 0 = zs at *
            generalize gI D 0 = zd at *
            have HW : Hid (SoftC (wr.setCell ⟨gb, 0, none⟩ (.int .i64 (zs - 1 - zd))) gb (ruleL 0 s D) ∧ Below wo.heap.size wo (wr.setCell ⟨gb, 0, none⟩ (.int .i64 (zs - 1 - zd)))) := by
              refine ⟨by rw [← HRU.out]; exact SC.set _ (by rw [HDD.out.2]; omega) _, ?_⟩
              exact HBW0.out.setCell (p := ⟨gb, 0, none⟩) (by show _ ≤ gb; exact Nat.le_trans HB6.out.size hgb1) _
            have hwrap : IntKind.i64.wrap (zs - 1) = zs - 1 := IntWalk.i64_in _ ⟨by omega, by omega⟩
            have hwrap2 : IntKind.i64.wrap (zs - 1 - zd) = zs - 1 - zd := IntWalk.i64_in _ ⟨by omega, by omega⟩
            have hk1 : (0 : Int) < (k : Int) := by omega
            skip
            simp only [Nat.add_zero] at u0 u1 u2 u3 hwrap hwrap2 HW
            clear hown hdc hbd SC HBN hsc hbs hdi hdb es HRU hs16
            go_wp2
            go_region
            obtain ⟨W8, e8⟩ : ∃ W8, (wr.setCell ⟨gb, 0, none⟩ (.int .i64 (zs - 1 - zd))).drew = W8 := ⟨_, rfl⟩
            have HW8 : Hid (SoftC W8 gb (ruleL 0 s D) ∧ Below wo.heap.size wo W8) := by rw [← e8]; exact ⟨HW.out.1, HW.out.2.drew⟩
            rw [e8]
            have hrl : (ruleL 0 s D).length = k := by rw [HPL.out.2.2.1, HRLN.out]
            have RF : Row 0 W8 (some ⟨gb, 0, none⟩) (ruleL 0 s D) := SoftC.row HW8.out.1 (by rw [← e8]; simpa using hgb2) (Nat.zero_le _) (by rw [hrl]; omega)
            have HBW : Hid (Below wo.heap.size wo W8) := HW8.out.2
            clear e8 HW8 HW hwrap hwrap2 u0 u1 u2 u3 hnx HBW0
            have hz := HZ.out
            have HGB : Below w5.heap.size wo W8 := HBW.out.mono HGR.out.io.size
            have BW2 : Below (w.heap.size + 2) w5 W8 := (HGR.out.below (B := w.heap.size + 2) (Nat.le_refl _) (by omega)).trans (HGB.mono (by omega))
            have I7 : In2 w (.slice a1 SX c1) (.slice a2 CX c2) W8 := HI5.out.belowS BW2 (Nat.le_refl _)
            have C9 := rplace_any x.shape (ruleL 0 s D) a1 (some ⟨gb, 0, none⟩) c1 cf W8 (HR.out.2.1.next (HB0.out.trans (I7.bel.mono HB0.out.size))) RF
            rw [HPL.out.2.1, hrl, HSC.out.1] at C9
            generalize plcE x.shape (ruleL 0 s D) = PE at C9
            have q0 := I7.q0
            have HGB2 := hide HGB
            have HI7 := hide I7
            clear RF I7 BW2 HGB hrl
            go_wp2_with fail
            refine C9.mono ?_
            clear C9 q0
            rintro e w9 ⟨rfl, hb9⟩
            have HG9 := hide (HGB2.out.trans (hb9.mono (Nat.le_trans HGR.out.io.size HGB2.out.size)))
            have HB9 := hide (HBW.out.trans (hb9.mono HBW.out.size))
            have I9 := HI7.out.next hb9
            obtain ⟨bb, off, rfl, -, hbb, hcells⟩ := HCF.out (by omega)
            obtain ⟨g0, g1, g2, -⟩ := hcells p hp2
            have HTi : Hid (T t = (.int .i64 (cAt x.cells p).1, .int .i64 (cAt x.cells p).2.1, .slice (ab p) (cAt x.cells p).2.2.length (cb p))) := by unfold Hid; rw [HTT.out, HDD.out.1, HPL.out.1]; rfl
            have hbw := HB0.out.trans (I9.bel.mono HB0.out.size)
            have u0 := (hbw.cell (p := ⟨bb, off + p * 3, none⟩) hbb).trans g0
            have u1 := (hbw.cell (p := ⟨bb, off + p * 3 + 1, none⟩) hbb).trans g1
            have u2 := (hbw.cell (p := ⟨bb, off + p * 3 + 2, none⟩) hbb).trans g2
            have r1 := I9.q1
            have hp5 : (0 : Int) ≤ (p : Int) := by omega
            have hp6 : (p : Int) < (CX : Int) := by omega
            clear g0 g1 g2 hcells
            generalize (cAt x.cells p).1 = kk at *
            generalize (cAt x.cells p).2.1 = NN at *
            generalize (cAt x.cells p).2.2.length = nb at *
            generalize ab p = abp at *
            generalize cb p = cbp at *
            have d1' := (HG9.out.cell (p := ⟨w.heap.size + 2, 1, none⟩) (by show w.heap.size + 2 < _; omega)).trans HGR.out.c1
            have d2' := (HG9.out.frozen (p := ⟨w.heap.size + 2, 1, none⟩) (by show w.heap.size + 2 < _; omega)).trans HGR.out.f1
            have BA := one_alloc w9 (.cells #[.int .i64 kk, .int .i64 NN, .slice abp nb cbp] 43)
            have hs9 := I9.size
            have hs59 : w5.heap.size ≤ w9.heap.size := Nat.le_trans HGR.out.io.size HG9.out.size
            have x0 : (w9.alloc (.cells #[.int .i64 kk, .int .i64 NN, .slice abp nb cbp] 43)).cell? ⟨w.heap.size + 2, 1, none⟩ = some v := (BA.cell (p := ⟨w.heap.size + 2, 1, none⟩) (by show w.heap.size + 2 < _; omega)).trans d1'
            have HSTEP : Hid (rowT T (t + 1) = rowT T t ++ [.int .i64 kk, .int .i64 NN, .slice abp nb cbp]) := by unfold Hid; rw [rowT_step, HTi.out]
            have OW9 : w9.ownsRow w5.heap.size 43 3 v t (rowT T t) := owns_below HGR.out.own HB9.out
            have HOWN : Hid ((w9.alloc (.cells #[.int .i64 kk, .int .i64 NN, .slice abp nb cbp] 43)).drew.ownsRow w5.heap.size 43 3 v t (rowT T t)) := OW9.alloc (.cells #[.int .i64 kk, .int .i64 NN, .slice abp nb cbp] 43)
            have HNEWS : Hid (∀ i u, [Value.int .i64 kk, .int .i64 NN, .slice abp nb cbp][i]? = some u → (w9.alloc (.cells #[.int .i64 kk, .int .i64 NN, .slice abp nb cbp] 43)).drew.cell? ((⟨w9.heap.size, 0, none⟩ : Addr).add i) = some u) := by
              intro i u hu
              rw [add_off, Nat.zero_add]
              exact cell_new0 w9 _ 43 i u (by simpa using hu)
            have HONE : Hid (∀ u ∈ [Value.int .i64 kk, .int .i64 NN, .slice abp nb cbp], u.oneCell' = true) := by
              intro u hu
              simp at hu
              rcases hu with rfl | rfl | rfl <;> rfl
            have HMAX : Hid (t + 1 ≤ maxLen ∧ (t + 1) * 40 ≤ 140737488355328 ∧ w5.heap.size ≤ (w9.alloc (.cells #[.int .i64 kk, .int .i64 NN, .slice abp nb cbp] 43)).drew.heap.size) := by
              refine ⟨by unfold maxLen; omega, by omega, ?_⟩
              have : (w9.alloc (.cells #[.int .i64 kk, .int .i64 NN, .slice abp nb cbp] 43)).drew.heap.size = w9.heap.size + 1 := by simp
              omega
            have HAB : Hid (Below w5.heap.size wo (w9.alloc (.cells #[.int .i64 kk, .int .i64 NN, .slice abp nb cbp] 43)).drew) := (HG9.out.trans ((Below.refl _ _).alloc (by show _ ≤ w9.heap.size; omega) _)).drew
            have hO1 : Hid (w.heap.size + 2 < w5.heap.size) := by unfold Hid; omega
            clear I9 hs9 hbw BA HTi hbb HCF hb9 HG9 OW9 HI7 HPL HDD HDR HB6 HTT HSC HN HR HP HI6 HI5 HSE HGB2 hs59 HBW HB9
            go_wp2
            go_region_law (refine step_append_own rfl (.tmp 116) (.tmp 122) 23 rfl w5.heap.size 43 i0 (.agg #[.int .i64 0, .int .i64 0, .slice none 0 0]) 3 40 Tryd.underlying23 hi0 hz00 hz01 hz02 rfl (by decide) v t (rowT T t) rfl HOWN.out ⟨w9.heap.size, 0, none⟩ 1 1 [.int .i64 kk, .int .i64 NN, .slice abp nb cbp] rfl rfl HNEWS.out HONE.out HMAX.out.1 HMAX.out.2.1 HMAX.out.2.2 ?_; intro v' w1 hown1 hb1; obtain ⟨g, cp, rfl, -⟩ := owns_form hown1 (Nat.succ_pos t); have dd1 := (HAB.out.trans hb1).cell (p := ⟨w.heap.size + 2, 1, none⟩) hO1.out |>.trans HGR.out.c1; have dd3 := (HAB.out.trans hb1).frozen (p := ⟨w.heap.size + 2, 1, none⟩) hO1.out |>.trans HGR.out.f1)
            all_goals
              have hown2 : w1.ownsRow w5.heap.size 43 3 (.slice (some ⟨g, 0, none⟩) (t + 1) cp) (t + 1) (rowT T (t + 1)) := by rw [HSTEP.out]; exact hown1
              have HNX := hide (HGR.out.step hO1.out (HAB.out.trans hb1) hown2)
              clear hown1 hown2 hb1 dd1 dd3 HOWN HNEWS HONE HMAX HAB HGR HSTEP x0 u0 u1 u2 r1
              go_wp2
              go_roundg (N - (t + 1))
              case rel => exact ⟨t + 1, _, by omega, by go_num, HNX.out⟩
              case measure => omega

    · have hte : t = N := by omega
      subst hte
      obtain ⟨g2, cp2, rfl, hcells⟩ := owns_cellsT T hgr.own
      have d0' := hgr.c0
      have d1' := hgr.c1
      have p0 := I6.p0
      have p1 := I6.p1
      have f0 := I6.f0
      have f1 := I6.f1
      have HT := hide (I6.put (.slice al SS cl) (.slice g2 t cp2))
      have HFIN : Hid (∀ u v, GivesZ (n + 1) w0 (byR 0 s x) w (.returned (.agg #[.slice al SS cl, .slice g2 t cp2])) ((wo.setCell ⟨w.heap.size + 1, 0, none⟩ u).setCell ⟨w.heap.size + 1, 1, none⟩ v)) := by
        intro u v
        refine ⟨⟨_, rfl, fun W hW hK => ?_⟩, I6.fin u v⟩
        have hO := HZ.out
        have K1 : Keeps W3.heap.size w5 wo := ⟨hgr.io.size, fun b h1 h2 => hgr.keep b h2 (by omega)⟩
        have K2 : Keeps W3.heap.size wo ((wo.setCell ⟨w.heap.size + 1, 0, none⟩ u).setCell ⟨w.heap.size + 1, 1, none⟩ v) := ((Keeps.refl _ _).setCell (p := ⟨w.heap.size + 1, 0, none⟩) (by show w.heap.size + 1 < _; omega) u).setCell (p := ⟨w.heap.size + 1, 1, none⟩) (by show w.heap.size + 1 < _; omega) v
        have K3 := K2.trans (hK.mono (show w.heap.size ≤ W3.heap.size by omega))
        have RF := (((HRL.out.keeps K1).keeps K3).low (Nat.zero_le _))
        have hcl : (byR 0 s x).cells.length = t := by show (mkCs _ _).length = t; rw [mkCs_len, HN.out]; simp
        refine arIn_mk (x := byR 0 s x) RF (by rw [hcl]; omega) ?_ (by show s.length = SS; exact HSC.out.2.2) hcl
        rcases hcells with h0 | ⟨g, rfl, hg1, hg2, hcc⟩
        · exact Or.inl (List.eq_nil_of_length_eq_zero (by rw [hcl]; exact h0))
        · refine Or.inr ⟨g, 0, rfl, Nat.zero_le _, Nat.lt_of_lt_of_le hg2 K3.1, fun i hi => ?_⟩
          rw [hcl] at hi
          obtain ⟨-, -, p, hp1, hp2, -, -⟩ := HP.out i hi
          obtain ⟨b, off, -, -, hb, hcl2⟩ := HCF.out (by omega)
          obtain ⟨-, -, -, hce⟩ := hcl2 p hp2
          obtain ⟨e0, e1, e2⟩ := hcc i hi
          rw [Nat.zero_add]
          have ap : ∀ (o : Nat) (q : Value), wo.cell? ⟨g, o, none⟩ = some q → W.cell? ⟨g, o, none⟩ = some q := fun o q h => (K3.cell (p := ⟨g, o, none⟩) (by show W3.heap.size ≤ g; omega) hg2).trans h
          refine ⟨_, _, _, ap _ _ e0, ap _ _ e1, ap _ _ e2, ?_⟩
          have ec : cAt (byR 0 s x).cells i = cAt x.cells p := by show cAt (mkCs _ _) i = _; rw [mkCs_at _ _ _ (by rw [HN.out]; simpa using hi), hp1]; rfl
          rw [ec, HTT.out, hp1, Int.toNat_natCast]
          exact hce.mono (Nat.zero_le _) hW fun x v h => h.mono (Nat.zero_le _) hW
      clear I6 hgr HGR HCF hcells BW
      go_wp2
      exact bodyPost_ret (v := .agg #[.slice al SS cl, .slice g2 t cp2]) (by simp [results, Tryd.results22, go_sem, HT.out.1, HT.out.2]) rfl (HFIN.out _ _)
set_option maxHeartbeats 8000000 in
theorem rby1_any {n lo lo' : Nat} {s : List Int} {x : Ar} {aS : Option Addr} {cs : Nat} {va : Value} {w0 w : World} (Rs : Row lo' w aS s) (hx : ArIn (n + 1) lo w0 x va) (hb0 : Below w0.heap.size w0 w) (hsE : sizeE s = 0) (hxE : sizeE x.shape = 0) (hc16 : x.cells.length ≤ 16384)
    (hin : ∀ d, inAxes s d → inAxes x.shape (ruleL 1 s d) ∧ place x.shape (ruleL 1 s d) < x.cells.length) :
    Calls Tryd.prog 22 #[.slice aS s.length cs, va, .int .i64 1] w fun e w' => GivesZ (n + 1) w0 (byR 1 s x) w e w' := by
  obtain ⟨a1, c1, a2, c2, rfl, R, hc⟩ := hx.formC
  have HB0 := hide hb0
  obtain ⟨i3, hi3, hz30, hz31, hz32⟩ := infoI3
  obtain ⟨i0, hi0, hz00, hz01, hz02⟩ := info33'
  have hs8 : s.length ≤ 8 := by have := (fine_cases hsE).1; exact this
  obtain ⟨N, hN⟩ : ∃ N : Nat, sizeV s = (N : Int) := ⟨(sizeV s).toNat, by have := (sizeV_le hsE).1; omega⟩
  have hN16 : N ≤ 16384 := by have := (sizeV_le hsE).2; omega
  obtain ⟨ab, cb, hcf⟩ := cells_fn hc
  obtain ⟨T, hT⟩ : ∃ T : Nat → Value × Value × Value, ∀ i, T i = cellT x.cells ab cb (place x.shape (ruleL 1 s (digits s i))).toNat := ⟨fun i => cellT x.cells ab cb (place x.shape (ruleL 1 s (digits s i))).toNat, fun i => rfl⟩
  have HTT := hide hT
  have HP : Hid (∀ i : Nat, i < N → (∀ z ∈ s, 0 < z) ∧ inAxes s (digits s i) ∧ ∃ p : Nat, place x.shape (ruleL 1 s (digits s i)) = (p : Int) ∧ p < x.cells.length ∧ plcV x.shape (ruleL 1 s (digits s i)) = (p : Int) ∧ (ruleL 1 s (digits s i)).length = x.shape.length) := by
    intro i hi
    obtain ⟨-, hp, hpr, -⟩ := sizeV_in (l := s) (n := (i : Int)) hsE (by omega) (by omega)
    have hd := (digits_in (l := s) hp (n := (i : Int)) (by omega) (by omega)).1
    obtain ⟨h1, h2⟩ := hin _ hd
    obtain ⟨-, b0, -, -⟩ := place_bound h1
    obtain ⟨e1, e2⟩ := plc_of hxE h1
    refine ⟨hp, hd, (place x.shape (ruleL 1 s (digits s i))).toNat, by omega, by omega, by omega, e2⟩
  have I := in2_new w (.slice a1 x.shape.length c1) (.slice a2 x.cells.length c2)
  obtain ⟨W2, e2⟩ : ∃ W2, (w.alloc (.cells #[.slice a1 x.shape.length c1, .slice a2 x.cells.length c2] 25)).alloc (.cells #[.slice none 0 0, .slice none 0 0] 25) = W2 := ⟨_, rfl⟩
  rw [e2] at I
  have z2 : W2.heap.size = w.heap.size + 2 := by rw [← e2]; simp
  have C := rsize_any s aS cs W2 (Rs.next I.bel)
  rw [hN] at C
  generalize sizeE s = EE at C
  have HI := hide I
  have HR := hide (And.intro Rs (And.intro R hc))
  have HZ2 := hide z2
  have HCF := hide hcf
  have HN := hide hN
  have HSE := hide (And.intro hsE hxE)
  obtain ⟨SX, hSX⟩ : ∃ SX, x.shape.length = SX := ⟨_, rfl⟩
  obtain ⟨CX, hCX⟩ : ∃ CX, x.cells.length = CX := ⟨_, rfl⟩
  obtain ⟨SS, hSS⟩ : ∃ SS, s.length = SS := ⟨_, rfl⟩
  have HSC := hide (And.intro hSX (And.intro hCX hSS))
  simp only [hSX, hCX, hSS] at C e2 HI HCF HP hc16 hs8 ⊢
  clear R hc I hx hSX hCX hSS hin hcf hT Rs hsE hxE hN
  go_enter Tryd.func22, Tryd.ntmps22
  go_wp2_with fail
  refine C.mono ?_
  rintro e w1 ⟨rfl, rfl⟩
  clear e2 C
  obtain ⟨W3, e3⟩ : ∃ W3, w1.alloc (.cells #[.slice none 0 0, .slice none 0 0] 25) = W3 := ⟨_, rfl⟩
  have z3 : W3.heap.size = w.heap.size + 3 := by rw [← e3]; simp [z2]
  have B3 : Below w1.heap.size w1 W3 := by rw [← e3]; exact one_alloc _ _
  have o0 : W3.cell? ⟨w.heap.size + 2, 0, none⟩ = some (.slice none 0 0) := by rw [← e3, ← z2]; exact cell_new0 w1 _ 25 0 _ rfl
  have o1 : W3.cell? ⟨w.heap.size + 2, 1, none⟩ = some (.slice none 0 0) := by rw [← e3, ← z2]; exact cell_new0 w1 _ 25 1 _ rfl
  have of0 : W3.frozen? ⟨w.heap.size + 2, 0, none⟩ = false := by rw [← e3, ← z2]; exact frozen_new w1 _ 25 0
  have of1 : W3.frozen? ⟨w.heap.size + 2, 1, none⟩ = false := by rw [← e3, ← z2]; exact frozen_new w1 _ 25 1
  have I3 := HI.out.next B3
  have HLS : Hid (Lies W3 aS (s.map (Value.int .i64))) := Lies.row_next HR.out.1 I3.bel
  have hsl : (s.map (Value.int .i64)).length = SS * 1 := by rw [List.length_map, HSC.out.2.2]; omega
  have HI3 := hide I3
  have HO := hide (And.intro o1 of1)
  clear I3 B3
  subst e3
  go_wp2_with (at_builtin; refine wpList_append_any rfl _ _ 22 rfl (w1.alloc (.cells #[.slice none 0 0, .slice none 0 0] 25)).heap.size 3 i3 (.int .i64 0) 1 8 Tryd.underlying22 hi3 hz30 hz31 hz32 rfl (by decide) (.slice none 0 0) 0 [] rfl (World.ownsRow_nil _ _ _ _) aS SS cs (s.map (Value.int .i64)) rfl hsl HLS.out ?c3 ?c4 (Nat.le_refl _) ?_)
  case c3 => unfold maxLen; omega
  case c4 => omega
  intro v' w4 hown4 hb4
  obtain ⟨W3, e3⟩ : ∃ W3, w1.alloc (.cells #[.slice none 0 0, .slice none 0 0] 25) = W3 := ⟨_, rfl⟩
  rw [e3] at hb4 z3 o0 o1 of0 of1 HI3 HO
  rw [← z3] at hown4 hb4
  clear e3
  obtain ⟨al, cl, rfl, RL⟩ := owns_rowE s (by rw [HSC.out.2.2]; omega) (by rw [HSC.out.2.2]; exact hown4)
  rw [HSC.out.2.2]
  have d0 : w4.cell? ⟨w.heap.size + 2, 0, none⟩ = some (.slice none 0 0) := (hb4.cell (p := ⟨w.heap.size + 2, 0, none⟩) (by show w.heap.size + 2 < _; omega)).trans o0
  have df0 : w4.frozen? ⟨w.heap.size + 2, 0, none⟩ = false := (hb4.frozen (p := ⟨w.heap.size + 2, 0, none⟩) (by show w.heap.size + 2 < _; omega)).trans of0
  obtain ⟨w5, e5⟩ : ∃ w5, w4.setCell ⟨w.heap.size + 2, 0, none⟩ (.slice al SS cl) = w5 := ⟨_, rfl⟩
  have z5 : w5.heap.size = w4.heap.size := by rw [← e5]; simp
  have I5 : In2 w (.slice a1 SX c1) (.slice a2 CX c2) w5 := by rw [← e5]; exact (HI3.out.belowS hb4 (by omega)).set (by omega) _
  have t0 : w5.cell? ⟨w.heap.size + 2, 0, none⟩ = some (.slice al SS cl) := by rw [← e5]; exact World.cell?_setCell_same' _ _ _ (by rw [d0]; rfl)
  have t1 : w5.cell? ⟨w.heap.size + 2, 1, none⟩ = some (.slice none 0 0) := by rw [← e5, World.cell?_setCell_other _ _ _ _ (by simp)]; exact (hb4.cell (p := ⟨w.heap.size + 2, 1, none⟩) (by show w.heap.size + 2 < _; omega)).trans HO.out.1
  have tf1 : w5.frozen? ⟨w.heap.size + 2, 1, none⟩ = false := by rw [← e5]; exact frozen_set _ _ _ _ ((hb4.frozen (p := ⟨w.heap.size + 2, 1, none⟩) (by show w.heap.size + 2 < _; omega)).trans HO.out.2)
  have K5 : Keeps W3.heap.size w4 w5 := by rw [← e5]; exact (Keeps.refl _ _).setCell (p := ⟨w.heap.size + 2, 0, none⟩) (by show w.heap.size + 2 < _; omega) _
  have HRL := hide (RL.keeps K5)
  have HG5 := hide (GrowC.new (T := T) t0 t1 tf1)
  have HI5 := hide I5
  have HZ : Hid (w.heap.size + 3 ≤ w5.heap.size ∧ W3.heap.size = w.heap.size + 3) := ⟨by have := hb4.size; omega, z3⟩
  clear hown4 hb4 RL K5 t0 t1 tf1 z5 HO HI3 HI HLS hsl o0 o1 of0 of1 I5 z3 z2
  go_wp2
  clear e5 d0 df0
  go_loopg [10] N (fun g i wr => ∃ (t : Nat) (v : Value), g + t = N ∧ i = .int .i64 (t : Int) ∧ GrowC w5 (w.heap.size + 2) (.slice al SS cl) T t v wr)
  case atStart => exact ⟨0, _, rfl, rfl, HG5.out⟩
  case round =>
    clear HG5
    obtain ⟨t, v, hg, rfl, hgr⟩ := hrel
    obtain ⟨wo, hwo⟩ : ∃ wo, wo = wr := ⟨_, rfl⟩
    subst hwo
    have HGR := hide hgr
    have hz := HZ.out
    have BW := hgr.below (B := w.heap.size + 2) (Nat.le_refl _) (by omega)
    have I6 : In2 w (.slice a1 SX c1) (.slice a2 CX c2) wo := HI5.out.belowS BW (Nat.le_refl _)
    by_cases hlt : t < N
    · obtain ⟨hpos, hdin, p, hp1, hp2, hp3, hp4⟩ := HP.out t hlt
      have C := rplaces_any s (t : Int) aS cs wo (HR.out.1.next I6.bel)
      rw [HSC.out.2.2] at C
      have HI6 := hide I6
      clear I6 hgr BW
      go_wp2_with fail
      refine C.mono ?_
      clear C
      rintro e w6 ⟨hb6, -, -, h4⟩
      obtain ⟨b, rfl, RD, -, -⟩ := h4 HSE.out.1 (by omega) (by rw [HN.out]; omega)
      clear h4
      rw [HSC.out.2.2]
      obtain ⟨D, hD⟩ : ∃ D, digits s (t : Int) = D := ⟨_, rfl⟩
      have hDl : D.length = SS := by rw [← hD, digits_length, HSC.out.2.2]
      rw [hD] at RD hp1 hp3 hp4 hdin
      have HPL := hide (And.intro hp1 (And.intro hp3 (And.intro hp4 hdin)))
      have HDR : Hid (∀ j, j < SS → b < w6.heap.size ∧ w6.cell? ⟨b, j, none⟩ = some (.int .i64 (gI D j))) := fun j hj => by
        obtain ⟨b', off', hbo, hb', hcc⟩ := row_at RD (j := j) (by omega)
        simp only [Option.some.injEq, Addr.mk.injEq, and_true] at hbo
        obtain ⟨rfl, rfl⟩ := hbo
        rw [Nat.zero_add] at hcc
        exact ⟨hb', hcc⟩
      have HB6 := hide hb6
      have HDD := hide (And.intro hD hDl)
      have HPOS := hide hpos
      clear hp1 hp3 hp4 hdin hD hb6 RD hpos
      go_wp2
      go_loopg [13, 14] SS (fun g mv i wq => ∃ k : Nat, g + k = SS ∧ i = .int .i64 (k : Int) ∧ Below w6.heap.size w6 wq ∧ wq.ownsRow w6.heap.size 3 1 mv k ((D.take k).map (Value.int .i64)))
      case atStart => exact ⟨0, rfl, rfl, Below.refl _ _, World.ownsRow_nil _ _ _ _⟩
      case round =>
        obtain ⟨k, hgk, rfl, hnx, hown⟩ := hrel
        by_cases hlk : k < SS
        · obtain ⟨hbl, hck⟩ := HDR.out k hlk
          have hc1 : wr.cell? ⟨b, k, none⟩ = some (.int .i64 (gI D k)) := (hnx.cell (p := ⟨b, k, none⟩) hbl).trans hck
          have HST := hide (take_map_step D k (by rw [HDD.out.2]; exact hlk))
          generalize gI D k = z at *
          have OWN := hown.alloc (.cells #[.int .i64 z] 3)
          have HNW : Hid (∀ i u, [Value.int .i64 z][i]? = some u → (wr.alloc (.cells #[.int .i64 z] 3)).cell? ((⟨wr.heap.size, 0, none⟩ : Addr).add i) = some u) := by
            intro i u hu
            rw [add_off, Nat.zero_add]
            exact cell_new0 wr _ 3 i u (by simpa using hu)
          have HZZ : Hid (w6.heap.size ≤ (wr.alloc (.cells #[.int .i64 z] 3)).heap.size) := Nat.le_trans hnx.size (one_alloc _ _).size
          have HNX := hide (hnx.trans ((one_alloc wr (.cells #[.int .i64 z] 3)).mono hnx.size))
          clear hown hck hbl
          go_wp2_with (at_builtin; refine wpList_append_B rfl _ _ 22 rfl w6.heap.size 3 i3 (.int .i64 0) 1 8 Tryd.underlying22 hi3 hz30 hz31 hz32 rfl (by decide) _ _ _ rfl OWN ⟨wr.heap.size, 0, none⟩ 1 1 [.int .i64 z] rfl rfl HNW.out ?c2 ?c3 ?c4 HZZ.out ?_)
          case c2 =>
            intro u hu
            simp at hu
            subst hu
            rfl
          case c3 => unfold maxLen; omega
          case c4 => omega
          intro v' w1 hown1 hb1
          have hown2 : w1.ownsRow w6.heap.size 3 1 v' (k + 1) ((D.take (k + 1)).map (Value.int .i64)) := by rw [HST.out]; simpa using hown1
          have HF := hide (And.intro (HNX.out.trans hb1) hown2)
          clear hown1 hown2 hb1 OWN HNW HZZ HNX HST hc1 hnx
          go_wp2
          go_roundg (SS - (k + 1))
          case rel => exact ⟨k + 1, by omega, by go_num, HF.out⟩
          case measure => omega
        · have hke : k = SS := by omega
          subst hke
          rw [List.take_of_length_le (by rw [HDD.out.2]; omega)] at hown
          have HBW0 : Hid (Below wo.heap.size wo wr) := HB6.out.trans (hnx.mono HB6.out.size)
          by_cases hk0 : k = 0
          · subst hk0
            have hD0 : D = [] := List.eq_nil_of_length_eq_zero HDD.out.2
            have hrD : ruleL 1 s D = D := by rw [hD0]; simp [ruleL, turnL]
            obtain ⟨af, cf, rfl, RF0⟩ := owns_rowE D (by rw [HDD.out.2]; omega) (by rw [HDD.out.2]; exact hown)
            rw [HDD.out.2]
            have hrl : (ruleL 1 s D).length = 0 := by rw [hrD]; exact HDD.out.2
            have RF := RF0
            rw [← hrD] at RF
            have HBW := HBW0
            clear hown hnx RF0 HBW0 hrD hD0
            have hz := HZ.out
            have HGB : Below w5.heap.size wo wr := HBW.out.mono HGR.out.io.size
            have BW2 : Below (w.heap.size + 2) w5 wr := (HGR.out.below (B := w.heap.size + 2) (Nat.le_refl _) (by omega)).trans (HGB.mono (by omega))
            have I7 : In2 w (.slice a1 SX c1) (.slice a2 CX c2) wr := HI5.out.belowS BW2 (Nat.le_refl _)
            have C9 := rplace_any x.shape (ruleL 1 s D) a1 af c1 cf wr (HR.out.2.1.next (HB0.out.trans (I7.bel.mono HB0.out.size))) RF
            rw [HPL.out.2.1, hrl, HSC.out.1] at C9
            generalize plcE x.shape (ruleL 1 s D) = PE at C9
            have q0 := I7.q0
            have HGB2 := hide HGB
            have HI7 := hide I7
            clear RF I7 BW2 HGB hrl
            go_wp2_with fail
            refine C9.mono ?_
            clear C9 q0
            rintro e w9 ⟨rfl, hb9⟩
            have HG9 := hide (HGB2.out.trans (hb9.mono (Nat.le_trans HGR.out.io.size HGB2.out.size)))
            have HB9 := hide (HBW.out.trans (hb9.mono HBW.out.size))
            have I9 := HI7.out.next hb9
            obtain ⟨bb, off, rfl, -, hbb, hcells⟩ := HCF.out (by omega)
            obtain ⟨g0, g1, g2, -⟩ := hcells p hp2
            have HTi : Hid (T t = (.int .i64 (cAt x.cells p).1, .int .i64 (cAt x.cells p).2.1, .slice (ab p) (cAt x.cells p).2.2.length (cb p))) := by unfold Hid; rw [HTT.out, HDD.out.1, HPL.out.1]; rfl
            have hbw := HB0.out.trans (I9.bel.mono HB0.out.size)
            have u0 := (hbw.cell (p := ⟨bb, off + p * 3, none⟩) hbb).trans g0
            have u1 := (hbw.cell (p := ⟨bb, off + p * 3 + 1, none⟩) hbb).trans g1
            have u2 := (hbw.cell (p := ⟨bb, off + p * 3 + 2, none⟩) hbb).trans g2
            have r1 := I9.q1
            have hp5 : (0 : Int) ≤ (p : Int) := by omega
            have hp6 : (p : Int) < (CX : Int) := by omega
            clear g0 g1 g2 hcells
            generalize (cAt x.cells p).1 = kk at *
            generalize (cAt x.cells p).2.1 = NN at *
            generalize (cAt x.cells p).2.2.length = nb at *
            generalize ab p = abp at *
            generalize cb p = cbp at *
            have d1' := (HG9.out.cell (p := ⟨w.heap.size + 2, 1, none⟩) (by show w.heap.size + 2 < _; omega)).trans HGR.out.c1
            have d2' := (HG9.out.frozen (p := ⟨w.heap.size + 2, 1, none⟩) (by show w.heap.size + 2 < _; omega)).trans HGR.out.f1
            have BA := one_alloc w9 (.cells #[.int .i64 kk, .int .i64 NN, .slice abp nb cbp] 43)
            have hs9 := I9.size
            have hs59 : w5.heap.size ≤ w9.heap.size := Nat.le_trans HGR.out.io.size HG9.out.size
            have x0 : (w9.alloc (.cells #[.int .i64 kk, .int .i64 NN, .slice abp nb cbp] 43)).cell? ⟨w.heap.size + 2, 1, none⟩ = some v := (BA.cell (p := ⟨w.heap.size + 2, 1, none⟩) (by show w.heap.size + 2 < _; omega)).trans d1'
            have HSTEP : Hid (rowT T (t + 1) = rowT T t ++ [.int .i64 kk, .int .i64 NN, .slice abp nb cbp]) := by unfold Hid; rw [rowT_step, HTi.out]
            have OW9 : w9.ownsRow w5.heap.size 43 3 v t (rowT T t) := owns_below HGR.out.own HB9.out
            have HOWN : Hid ((w9.alloc (.cells #[.int .i64 kk, .int .i64 NN, .slice abp nb cbp] 43)).drew.ownsRow w5.heap.size 43 3 v t (rowT T t)) := OW9.alloc (.cells #[.int .i64 kk, .int .i64 NN, .slice abp nb cbp] 43)
            have HNEWS : Hid (∀ i u, [Value.int .i64 kk, .int .i64 NN, .slice abp nb cbp][i]? = some u → (w9.alloc (.cells #[.int .i64 kk, .int .i64 NN, .slice abp nb cbp] 43)).drew.cell? ((⟨w9.heap.size, 0, none⟩ : Addr).add i) = some u) := by
              intro i u hu
              rw [add_off, Nat.zero_add]
              exact cell_new0 w9 _ 43 i u (by simpa using hu)
            have HONE : Hid (∀ u ∈ [Value.int .i64 kk, .int .i64 NN, .slice abp nb cbp], u.oneCell' = true) := by
              intro u hu
              simp at hu
              rcases hu with rfl | rfl | rfl <;> rfl
            have HMAX : Hid (t + 1 ≤ maxLen ∧ (t + 1) * 40 ≤ 140737488355328 ∧ w5.heap.size ≤ (w9.alloc (.cells #[.int .i64 kk, .int .i64 NN, .slice abp nb cbp] 43)).drew.heap.size) := by
              refine ⟨by unfold maxLen; omega, by omega, ?_⟩
              have : (w9.alloc (.cells #[.int .i64 kk, .int .i64 NN, .slice abp nb cbp] 43)).drew.heap.size = w9.heap.size + 1 := by simp
              omega
            have HAB : Hid (Below w5.heap.size wo (w9.alloc (.cells #[.int .i64 kk, .int .i64 NN, .slice abp nb cbp] 43)).drew) := (HG9.out.trans ((Below.refl _ _).alloc (by show _ ≤ w9.heap.size; omega) _)).drew
            have hO1 : Hid (w.heap.size + 2 < w5.heap.size) := by unfold Hid; omega
            clear I9 hs9 hbw BA HTi hbb HCF hb9 HG9 OW9 HI7 HPL HDD HDR HB6 HTT HSC HN HR HP HI6 HI5 HSE HGB2 hs59 HBW HB9
            go_wp2
            go_region_law (refine step_append_own rfl (.tmp 116) (.tmp 122) 23 rfl w5.heap.size 43 i0 (.agg #[.int .i64 0, .int .i64 0, .slice none 0 0]) 3 40 Tryd.underlying23 hi0 hz00 hz01 hz02 rfl (by decide) v t (rowT T t) rfl HOWN.out ⟨w9.heap.size, 0, none⟩ 1 1 [.int .i64 kk, .int .i64 NN, .slice abp nb cbp] rfl rfl HNEWS.out HONE.out HMAX.out.1 HMAX.out.2.1 HMAX.out.2.2 ?_; intro v' w1 hown1 hb1; obtain ⟨g, cp, rfl, -⟩ := owns_form hown1 (Nat.succ_pos t); have dd1 := (HAB.out.trans hb1).cell (p := ⟨w.heap.size + 2, 1, none⟩) hO1.out |>.trans HGR.out.c1; have dd3 := (HAB.out.trans hb1).frozen (p := ⟨w.heap.size + 2, 1, none⟩) hO1.out |>.trans HGR.out.f1)
            all_goals
              have hown2 : w1.ownsRow w5.heap.size 43 3 (.slice (some ⟨g, 0, none⟩) (t + 1) cp) (t + 1) (rowT T (t + 1)) := by rw [HSTEP.out]; exact hown1
              have HNX := hide (HGR.out.step hO1.out (HAB.out.trans hb1) hown2)
              clear hown1 hown2 hb1 dd1 dd3 HOWN HNEWS HONE HMAX HAB HGR HSTEP x0 u0 u1 u2 r1
              go_wp2
              go_roundg (N - (t + 1))
              case rel => exact ⟨t + 1, _, by omega, by go_num, HNX.out⟩
              case measure => omega
          · obtain ⟨gb, cf, rfl, hgb1, hgb2⟩ := owns_form1' hown (by omega)
            have SC := owns_softC HDD.out.2 hown
            have HBN : Hid (Below w.heap.size w wr) := HI6.out.bel.trans (HBW0.out.mono HI6.out.bel.size)
            obtain ⟨bs, os, rfl, hbs, hsc⟩ := row_at HR.out.1 (j := (k - 1)) (by rw [HSC.out.2.2]; omega)
            have u0 := (HBN.out.cell (p := ⟨bs, os + (k - 1), none⟩) hbs).trans hsc
            obtain ⟨hbd, hdc⟩ := HDR.out (k - 1) (by omega)
            have u1 := (hnx.cell (p := ⟨b, (k - 1), none⟩) hbd).trans hdc
            obtain ⟨u2, u3⟩ := SC (k - 1) (by rw [HDD.out.2]; omega)
            have hdi := (inAxes_gI s D).1 HPL.out.2.2.2
            have hdb := hdi.2 (k - 1) (by rw [HSC.out.2.2]; omega)
            have hs16 : gI s (k - 1) ≤ 16384 := by
              have := prod_of_mem HPOS.out (z := gI s (k - 1)) (getD_mem (by rw [HSC.out.2.2]; omega))
              have h2 := sizeV_prod HSE.out.1
              have h3 := HN.out
              omega
            have es : s[(k - 1)]?.getD 0 = gI s (k - 1) := rfl
            rw [es] at u0
            have HRU0 : D.set (k - 1) (gI s (k - 1) - 1 - gI D (k - 1)) = ruleL 1 s D := by unfold ruleL turnL; rw [if_neg (by decide), if_pos rfl, HSC.out.2.2]
            have HRLN : Hid (SX = k) := by unfold Hid; rw [← HPL.out.2.2.1, ← HRU0]; simp [HDD.out.2]
            have HRU : Hid (D.set (k - 1) (gI s (k - 1) - 1 - gI D (k - 1)) = ruleL 1 s D) := HRU0
            clear HRU0
            generalize gI s (k - 1) = zs at *
            generalize gI D (k - 1) = zd at *
            have HW : Hid (SoftC (wr.setCell ⟨gb, (k - 1), none⟩ (.int .i64 (zs - 1 - zd))) gb (ruleL 1 s D) ∧ Below wo.heap.size wo (wr.setCell ⟨gb, (k - 1), none⟩ (.int .i64 (zs - 1 - zd)))) := by
              refine ⟨by rw [← HRU.out]; exact SC.set _ (by rw [HDD.out.2]; omega) _, ?_⟩
              exact HBW0.out.setCell (p := ⟨gb, (k - 1), none⟩) (by show _ ≤ gb; exact Nat.le_trans HB6.out.size hgb1) _
            have hwrap : IntKind.i64.wrap (zs - 1) = zs - 1 := IntWalk.i64_in _ ⟨by omega, by omega⟩
            have hwrap2 : IntKind.i64.wrap (zs - 1 - zd) = zs - 1 - zd := IntWalk.i64_in _ ⟨by omega, by omega⟩
            have hk1 : (0 : Int) < (k : Int) := by omega
            skip
            skip
            clear hown hdc hbd SC HBN hsc hbs hdi hdb es HRU hs16
            go_wp2
            go_region
            obtain ⟨W8, e8⟩ : ∃ W8, (wr.setCell ⟨gb, (k - 1), none⟩ (.int .i64 (zs - 1 - zd))).drew = W8 := ⟨_, rfl⟩
            have HW8 : Hid (SoftC W8 gb (ruleL 1 s D) ∧ Below wo.heap.size wo W8) := by rw [← e8]; exact ⟨HW.out.1, HW.out.2.drew⟩
            rw [e8]
            have hrl : (ruleL 1 s D).length = k := by rw [HPL.out.2.2.1, HRLN.out]
            have RF : Row 0 W8 (some ⟨gb, 0, none⟩) (ruleL 1 s D) := SoftC.row HW8.out.1 (by rw [← e8]; simpa using hgb2) (Nat.zero_le _) (by rw [hrl]; omega)
            have HBW : Hid (Below wo.heap.size wo W8) := HW8.out.2
            clear e8 HW8 HW hwrap hwrap2 u0 u1 u2 u3 hnx HBW0
            have hz := HZ.out
            have HGB : Below w5.heap.size wo W8 := HBW.out.mono HGR.out.io.size
            have BW2 : Below (w.heap.size + 2) w5 W8 := (HGR.out.below (B := w.heap.size + 2) (Nat.le_refl _) (by omega)).trans (HGB.mono (by omega))
            have I7 : In2 w (.slice a1 SX c1) (.slice a2 CX c2) W8 := HI5.out.belowS BW2 (Nat.le_refl _)
            have C9 := rplace_any x.shape (ruleL 1 s D) a1 (some ⟨gb, 0, none⟩) c1 cf W8 (HR.out.2.1.next (HB0.out.trans (I7.bel.mono HB0.out.size))) RF
            rw [HPL.out.2.1, hrl, HSC.out.1] at C9
            generalize plcE x.shape (ruleL 1 s D) = PE at C9
            have q0 := I7.q0
            have HGB2 := hide HGB
            have HI7 := hide I7
            clear RF I7 BW2 HGB hrl
            go_wp2_with fail
            refine C9.mono ?_
            clear C9 q0
            rintro e w9 ⟨rfl, hb9⟩
            have HG9 := hide (HGB2.out.trans (hb9.mono (Nat.le_trans HGR.out.io.size HGB2.out.size)))
            have HB9 := hide (HBW.out.trans (hb9.mono HBW.out.size))
            have I9 := HI7.out.next hb9
            obtain ⟨bb, off, rfl, -, hbb, hcells⟩ := HCF.out (by omega)
            obtain ⟨g0, g1, g2, -⟩ := hcells p hp2
            have HTi : Hid (T t = (.int .i64 (cAt x.cells p).1, .int .i64 (cAt x.cells p).2.1, .slice (ab p) (cAt x.cells p).2.2.length (cb p))) := by unfold Hid; rw [HTT.out, HDD.out.1, HPL.out.1]; rfl
            have hbw := HB0.out.trans (I9.bel.mono HB0.out.size)
            have u0 := (hbw.cell (p := ⟨bb, off + p * 3, none⟩) hbb).trans g0
            have u1 := (hbw.cell (p := ⟨bb, off + p * 3 + 1, none⟩) hbb).trans g1
            have u2 := (hbw.cell (p := ⟨bb, off + p * 3 + 2, none⟩) hbb).trans g2
            have r1 := I9.q1
            have hp5 : (0 : Int) ≤ (p : Int) := by omega
            have hp6 : (p : Int) < (CX : Int) := by omega
            clear g0 g1 g2 hcells
            generalize (cAt x.cells p).1 = kk at *
            generalize (cAt x.cells p).2.1 = NN at *
            generalize (cAt x.cells p).2.2.length = nb at *
            generalize ab p = abp at *
            generalize cb p = cbp at *
            have d1' := (HG9.out.cell (p := ⟨w.heap.size + 2, 1, none⟩) (by show w.heap.size + 2 < _; omega)).trans HGR.out.c1
            have d2' := (HG9.out.frozen (p := ⟨w.heap.size + 2, 1, none⟩) (by show w.heap.size + 2 < _; omega)).trans HGR.out.f1
            have BA := one_alloc w9 (.cells #[.int .i64 kk, .int .i64 NN, .slice abp nb cbp] 43)
            have hs9 := I9.size
            have hs59 : w5.heap.size ≤ w9.heap.size := Nat.le_trans HGR.out.io.size HG9.out.size
            have x0 : (w9.alloc (.cells #[.int .i64 kk, .int .i64 NN, .slice abp nb cbp] 43)).cell? ⟨w.heap.size + 2, 1, none⟩ = some v := (BA.cell (p := ⟨w.heap.size + 2, 1, none⟩) (by show w.heap.size + 2 < _; omega)).trans d1'
            have HSTEP : Hid (rowT T (t + 1) = rowT T t ++ [.int .i64 kk, .int .i64 NN, .slice abp nb cbp]) := by unfold Hid; rw [rowT_step, HTi.out]
            have OW9 : w9.ownsRow w5.heap.size 43 3 v t (rowT T t) := owns_below HGR.out.own HB9.out
            have HOWN : Hid ((w9.alloc (.cells #[.int .i64 kk, .int .i64 NN, .slice abp nb cbp] 43)).drew.ownsRow w5.heap.size 43 3 v t (rowT T t)) := OW9.alloc (.cells #[.int .i64 kk, .int .i64 NN, .slice abp nb cbp] 43)
            have HNEWS : Hid (∀ i u, [Value.int .i64 kk, .int .i64 NN, .slice abp nb cbp][i]? = some u → (w9.alloc (.cells #[.int .i64 kk, .int .i64 NN, .slice abp nb cbp] 43)).drew.cell? ((⟨w9.heap.size, 0, none⟩ : Addr).add i) = some u) := by
              intro i u hu
              rw [add_off, Nat.zero_add]
              exact cell_new0 w9 _ 43 i u (by simpa using hu)
            have HONE : Hid (∀ u ∈ [Value.int .i64 kk, .int .i64 NN, .slice abp nb cbp], u.oneCell' = true) := by
              intro u hu
              simp at hu
              rcases hu with rfl | rfl | rfl <;> rfl
            have HMAX : Hid (t + 1 ≤ maxLen ∧ (t + 1) * 40 ≤ 140737488355328 ∧ w5.heap.size ≤ (w9.alloc (.cells #[.int .i64 kk, .int .i64 NN, .slice abp nb cbp] 43)).drew.heap.size) := by
              refine ⟨by unfold maxLen; omega, by omega, ?_⟩
              have : (w9.alloc (.cells #[.int .i64 kk, .int .i64 NN, .slice abp nb cbp] 43)).drew.heap.size = w9.heap.size + 1 := by simp
              omega
            have HAB : Hid (Below w5.heap.size wo (w9.alloc (.cells #[.int .i64 kk, .int .i64 NN, .slice abp nb cbp] 43)).drew) := (HG9.out.trans ((Below.refl _ _).alloc (by show _ ≤ w9.heap.size; omega) _)).drew
            have hO1 : Hid (w.heap.size + 2 < w5.heap.size) := by unfold Hid; omega
            clear I9 hs9 hbw BA HTi hbb HCF hb9 HG9 OW9 HI7 HPL HDD HDR HB6 HTT HSC HN HR HP HI6 HI5 HSE HGB2 hs59 HBW HB9
            go_wp2
            go_region_law (refine step_append_own rfl (.tmp 116) (.tmp 122) 23 rfl w5.heap.size 43 i0 (.agg #[.int .i64 0, .int .i64 0, .slice none 0 0]) 3 40 Tryd.underlying23 hi0 hz00 hz01 hz02 rfl (by decide) v t (rowT T t) rfl HOWN.out ⟨w9.heap.size, 0, none⟩ 1 1 [.int .i64 kk, .int .i64 NN, .slice abp nb cbp] rfl rfl HNEWS.out HONE.out HMAX.out.1 HMAX.out.2.1 HMAX.out.2.2 ?_; intro v' w1 hown1 hb1; obtain ⟨g, cp, rfl, -⟩ := owns_form hown1 (Nat.succ_pos t); have dd1 := (HAB.out.trans hb1).cell (p := ⟨w.heap.size + 2, 1, none⟩) hO1.out |>.trans HGR.out.c1; have dd3 := (HAB.out.trans hb1).frozen (p := ⟨w.heap.size + 2, 1, none⟩) hO1.out |>.trans HGR.out.f1)
            all_goals
              have hown2 : w1.ownsRow w5.heap.size 43 3 (.slice (some ⟨g, 0, none⟩) (t + 1) cp) (t + 1) (rowT T (t + 1)) := by rw [HSTEP.out]; exact hown1
              have HNX := hide (HGR.out.step hO1.out (HAB.out.trans hb1) hown2)
              clear hown1 hown2 hb1 dd1 dd3 HOWN HNEWS HONE HMAX HAB HGR HSTEP x0 u0 u1 u2 r1
              go_wp2
              go_roundg (N - (t + 1))
              case rel => exact ⟨t + 1, _, by omega, by go_num, HNX.out⟩
              case measure => omega

    · have hte : t = N := by omega
      subst hte
      obtain ⟨g2, cp2, rfl, hcells⟩ := owns_cellsT T hgr.own
      have d0' := hgr.c0
      have d1' := hgr.c1
      have p0 := I6.p0
      have p1 := I6.p1
      have f0 := I6.f0
      have f1 := I6.f1
      have HT := hide (I6.put (.slice al SS cl) (.slice g2 t cp2))
      have HFIN : Hid (∀ u v, GivesZ (n + 1) w0 (byR 1 s x) w (.returned (.agg #[.slice al SS cl, .slice g2 t cp2])) ((wo.setCell ⟨w.heap.size + 1, 0, none⟩ u).setCell ⟨w.heap.size + 1, 1, none⟩ v)) := by
        intro u v
        refine ⟨⟨_, rfl, fun W hW hK => ?_⟩, I6.fin u v⟩
        have hO := HZ.out
        have K1 : Keeps W3.heap.size w5 wo := ⟨hgr.io.size, fun b h1 h2 => hgr.keep b h2 (by omega)⟩
        have K2 : Keeps W3.heap.size wo ((wo.setCell ⟨w.heap.size + 1, 0, none⟩ u).setCell ⟨w.heap.size + 1, 1, none⟩ v) := ((Keeps.refl _ _).setCell (p := ⟨w.heap.size + 1, 0, none⟩) (by show w.heap.size + 1 < _; omega) u).setCell (p := ⟨w.heap.size + 1, 1, none⟩) (by show w.heap.size + 1 < _; omega) v
        have K3 := K2.trans (hK.mono (show w.heap.size ≤ W3.heap.size by omega))
        have RF := (((HRL.out.keeps K1).keeps K3).low (Nat.zero_le _))
        have hcl : (byR 1 s x).cells.length = t := by show (mkCs _ _).length = t; rw [mkCs_len, HN.out]; simp
        refine arIn_mk (x := byR 1 s x) RF (by rw [hcl]; omega) ?_ (by show s.length = SS; exact HSC.out.2.2) hcl
        rcases hcells with h0 | ⟨g, rfl, hg1, hg2, hcc⟩
        · exact Or.inl (List.eq_nil_of_length_eq_zero (by rw [hcl]; exact h0))
        · refine Or.inr ⟨g, 0, rfl, Nat.zero_le _, Nat.lt_of_lt_of_le hg2 K3.1, fun i hi => ?_⟩
          rw [hcl] at hi
          obtain ⟨-, -, p, hp1, hp2, -, -⟩ := HP.out i hi
          obtain ⟨b, off, -, -, hb, hcl2⟩ := HCF.out (by omega)
          obtain ⟨-, -, -, hce⟩ := hcl2 p hp2
          obtain ⟨e0, e1, e2⟩ := hcc i hi
          rw [Nat.zero_add]
          have ap : ∀ (o : Nat) (q : Value), wo.cell? ⟨g, o, none⟩ = some q → W.cell? ⟨g, o, none⟩ = some q := fun o q h => (K3.cell (p := ⟨g, o, none⟩) (by show W3.heap.size ≤ g; omega) hg2).trans h
          refine ⟨_, _, _, ap _ _ e0, ap _ _ e1, ap _ _ e2, ?_⟩
          have ec : cAt (byR 1 s x).cells i = cAt x.cells p := by show cAt (mkCs _ _) i = _; rw [mkCs_at _ _ _ (by rw [HN.out]; simpa using hi), hp1]; rfl
          rw [ec, HTT.out, hp1, Int.toNat_natCast]
          exact hce.mono (Nat.zero_le _) hW fun x v h => h.mono (Nat.zero_le _) hW
      clear I6 hgr HGR HCF hcells BW
      go_wp2
      exact bodyPost_ret (v := .agg #[.slice al SS cl, .slice g2 t cp2]) (by simp [results, Tryd.results22, go_sem, HT.out.1, HT.out.2]) rfl (HFIN.out _ _)
end Go.Proofs.YtlfacpclihmnnaaDoor
namespace Go.Proofs.YtlfacpclihmnnaaDoor
open Go.ChangeShapes Go.WideShapes Go.ChangeAt Go.RowKit
set_option linter.unusedVariables false
set_option maxRecDepth 100000
/-- A row of the call's own, which may be written. -/
def Own1 (w w' : World) (a : Option Addr) (cap : Nat) (l : List Int) : Prop := l.length ≤ cap ∧ (0 < l.length → ∃ g, a = some ⟨g, 0, none⟩ ∧ w.heap.size ≤ g ∧ g < w'.heap.size ∧ SoftC w' g l) ∧ Row w.heap.size w' a l
theorem own1_of {w w' : World} {v : Value} {l : List Int} (hl : l.length ≤ 16384) (h : w'.ownsRow w.heap.size 3 1 v l.length (l.map (Value.int .i64))) : ∃ a cap, v = .slice a l.length cap ∧ Own1 w w' a cap l := by
  obtain ⟨a, cap, rfl, hc⟩ := owns_cap h
  obtain ⟨a', cap', he, RR⟩ := owns_rowE l (by omega) h
  simp only [Value.slice.injEq] at he
  obtain ⟨rfl, -, rfl⟩ := he
  refine ⟨a, cap, rfl, hc, fun h0 => ?_, RR⟩
  obtain ⟨g, cp, hg, h1, h2⟩ := owns_form1' h h0
  simp only [Value.slice.injEq] at hg
  obtain ⟨rfl, -, rfl⟩ := hg
  exact ⟨g, rfl, h1, h2, owns_softC rfl h⟩
set_option maxHeartbeats 4000000 in
theorem clone_any {lo : Nat} (l : List Int) (a : Option Addr) (cap : Nat) (w : World) (R : Row lo w a l) (hl : l.length ≤ 16) :
    Calls Tryd.prog 59 #[.slice a l.length cap] w fun e w' => (∃ a' cap', e = .returned (.slice a' l.length cap') ∧ Own1 w w' a' cap' l) ∧ Below w.heap.size w w' := by
  obtain ⟨i3, hi3, hz30, hz31, hz32⟩ := infoI3
  cases a with
  | none =>
    have h0 : l = [] := by
      rcases R.2 with h | ⟨b, o, h, -⟩
      · exact h
      · cases h
    subst h0
    have HO : Hid (Own1 w w none 0 []) := ⟨by simp, fun h => by simp at h, row_nil _ _ _⟩
    clear R
    simp only [List.length_nil]
    have hq : ∀ W, (binOp .eql 22 (.slice none 0 cap) (.slice none 0 0)).run Tryd.prog W = .ok (.bool true) W := fun W => Go.Lib.run_eql_slice_nil W 22 3 none 0 cap 0 0 Tryd.underlying22
    go_enter Tryd.func59, Tryd.ntmps59
    go_wp2
    go_ret
    exact ⟨⟨_, _, rfl, HO.out⟩, Below.refl _ _⟩
  | some p =>
    obtain ⟨W2, e2⟩ : ∃ W2, w.alloc (.cells #[] 3) = W2 := ⟨_, rfl⟩
    have B2 : Below w.heap.size w W2 := by rw [← e2]; exact one_alloc _ _
    have HO : Hid (W2.ownsRow w.heap.size 3 1 (.slice (some ⟨w.heap.size, 0, none⟩) 0 0) 0 []) := by
      have := World.ownsRow_lit (base := w.heap.size) (e := 3) (size := 1) w #[] 0 (Nat.le_refl _) (by unfold maxLen; omega) rfl
      rw [e2] at this
      exact this
    have HL := hide (R.next B2).lies
    have hsl : (l.map (Value.int .i64)).length = l.length * 1 := by rw [List.length_map]; omega
    have HB2 := hide B2
    have HLL := hide hl
    obtain ⟨L, hL⟩ : ∃ L, l.length = L := ⟨_, rfl⟩
    rw [hL] at hl hsl ⊢
    have HLE := hide hL
    clear R B2 hL
    have hq : ∀ W, (binOp .eql 22 (.slice (some p) L cap) (.slice none 0 0)).run Tryd.prog W = .ok (.bool false) W := fun W => Go.Lib.run_eql_slice_nil W 22 3 (some p) L cap 0 0 Tryd.underlying22
    go_enter Tryd.func59, Tryd.ntmps59
    go_wp2_with (at_builtin; refine wpList_append_any rfl _ _ 22 rfl w.heap.size 3 i3 (.int .i64 0) 1 8 Tryd.underlying22 hi3 hz30 hz31 hz32 rfl (by decide) (.slice (some ⟨w.heap.size, 0, none⟩) 0 0) 0 [] rfl HO.out (some p) L cap (l.map (Value.int .i64)) rfl hsl HL.out ?c3 ?c4 HB2.out.size ?_)
    case c3 => unfold maxLen; omega
    case c4 => omega
    intro v' w3 hown hb
    have hown' : w3.ownsRow w.heap.size 3 1 v' l.length (l.map (Value.int .i64)) := by rw [HLE.out]; simpa using hown
    obtain ⟨a', cap', rfl, ho⟩ := own1_of (by rw [HLE.out]; omega) hown'
    rw [HLE.out]
    have HF := hide (And.intro ho (HB2.out.trans hb))
    clear hown hown' hb ho HL hsl
    go_wp2
    go_ret
    exact ⟨⟨_, _, rfl, HF.out.1⟩, HF.out.2⟩
end Go.Proofs.YtlfacpclihmnnaaDoor
namespace Go.Proofs.YtlfacpclihmnnaaDoor
open Go.ChangeShapes Go.WideShapes Go.ChangeAt Go.RowKit
open Num (resV resE In64 sgnI absI)
set_option linter.unusedVariables false
set_option linter.unusedSimpArgs false
set_option maxRecDepth 100000
/-- A shape without its first axis, or its last. -/
def outS (last : Bool) (s : List Int) : List Int := if last then s.take (s.length - 1) else s.drop 1
theorem outS_len (last : Bool) (s : List Int) : (outS last s).length = s.length - 1 := by
  unfold outS
  cases last <;> simp
set_option maxHeartbeats 4000000 in
theorem without27 {lo : Nat} (s : List Int) (last : Bool) (a : Option Addr) (c : Nat) (w : World) (R : Row lo w a s) (h1 : 0 < s.length) (h2 : s.length ≤ 16) (hc : s.length ≤ c) :
    Calls Tryd.prog 27 #[.slice a s.length c, .bool last] w fun e w' => (∃ a' cap', e = .returned (.slice a' (s.length - 1) cap') ∧ Own1 w w' a' cap' (outS last s)) ∧ Below w.heap.size w w' := by
  have HL := hide (outS_len last s)
  cases last with
  | true =>
    have RP := R.part 0 c (s.length - 1) (by omega) hc
    have e1 : (s.drop 0).take (s.length - 1) = outS true s := by simp [outS]
    have e2 : subA a 0 c 1 = a := by
      unfold subA
      split
      · rfl
      · cases a <;> simp [Addr.add]
    rw [e1, e2] at RP
    have CC := clone_any (outS true s) a c w RP (by rw [HL.out]; omega)
    have HP1 := fun W => part_h (P := Tryd.prog) Tryd.underlying22 size3 a s.length c (s.length - 1) ((s.length : Int) - 1) (by omega) (by omega) W
    rw [HL.out] at CC
    clear RP R e1 e2
    go_enter Tryd.func27, Tryd.ntmps27
    go_wp2_with fail
    refine CC.mono ?_
    rintro e w1 ⟨⟨a', c', rfl, h⟩, hb⟩
    have HH := hide (And.intro h hb)
    clear h hb
    go_wp2
    go_ret
    exact ⟨⟨a', c', rfl, HH.out.1⟩, HH.out.2⟩
  | false =>
    have RP := R.part 1 c (s.length - 1) (by omega) hc
    have e1 : (s.drop 1).take (s.length - 1) = outS false s := by
      unfold outS
      rw [List.take_of_length_le (by simp)]
      rfl
    rw [e1] at RP
    have CC := clone_any (outS false s) (subA a 1 c 1) (c - 1) w RP (by rw [HL.out]; omega)
    have HP1 := fun W => part_l (P := Tryd.prog) Tryd.underlying22 size3 a s.length c 1 1 rfl (by omega) W
    rw [HL.out] at CC
    clear RP R e1
    go_enter Tryd.func27, Tryd.ntmps27
    go_wp2_with fail
    refine CC.mono ?_
    rintro e w1 ⟨⟨a', c', rfl, h⟩, hb⟩
    have HH := hide (And.intro h hb)
    clear h hb
    go_wp2
    go_ret
    exact ⟨⟨a', c', rfl, HH.out.1⟩, HH.out.2⟩
/-- The length of an array's lines along its first axis, or its last; how far the next cell of a line stands, how far the next line. -/
def lgI (last : Bool) (s : List Int) : Int := if last then gI s (s.length - 1) else gI s 0
def stI (last : Bool) (many : Int) : Int := if last then 1 else many
def nxI (last : Bool) (s : List Int) : Int := if last then gI s (s.length - 1) else 1
set_option maxHeartbeats 4000000 in
theorem linesOf29 {lo CA c1 c2 : Nat} (s : List Int) (last : Bool) (many : Int) (a1 a2 : Option Addr) (w : World) (R : Row lo w a1 s) (h1 : 0 < s.length) (h2 : s.length ≤ 16) :
    Calls Tryd.prog 29 #[.agg #[.slice a1 s.length c1, .slice a2 CA c2], .int .i64 many, .bool last] w fun e w' => e = .returned (.agg #[.slice a2 CA c2, .int .i64 (lgI last s), .int .i64 (stI last many), .int .i64 (nxI last s)]) ∧ Below w.heap.size w w' := by
  have hrow := @row_at _ _ _ _ R
  cases last with
  | true =>
    obtain ⟨b, off, rfl, hb, hc⟩ := hrow (j := s.length - 1) (by omega)
    replace hc : w.cell? ⟨b, off + (s.length - 1), none⟩ = some (.int .i64 (gI s (s.length - 1))) := hc
    have e1 : lgI true s = gI s (s.length - 1) := rfl
    have e2 : stI true many = 1 := rfl
    have e3 : nxI true s = gI s (s.length - 1) := rfl
    rw [e1, e2, e3]
    have hz : ((s.length : Int) - 1).toNat = s.length - 1 := by omega
    have hz1 : (s.length : Int) - 1 < (s.length : Int) := by omega
    have hz2 : 0 ≤ (s.length : Int) - 1 := by omega
    clear hrow R e1 e2 e3
    generalize gI s (s.length - 1) = g at *
    go_enter Tryd.func29, Tryd.ntmps29
    go_wp2
    exact bodyPost_ret (v := .agg #[.slice a2 CA c2, .int .i64 g, .int .i64 1, .int .i64 g]) (by simp [results, Tryd.results29, go_sem]) rfl ⟨rfl, two_allocs _ _ _⟩
  | false =>
    obtain ⟨b, off, rfl, hb, hc⟩ := hrow (j := 0) (by omega)
    have e1 : lgI false s = gI s 0 := rfl
    have e2 : stI false many = many := rfl
    have e3 : nxI false s = 1 := rfl
    rw [e1, e2, e3]
    have hz1 : (0 : Int) < (s.length : Int) := by omega
    rw [Nat.add_zero] at hc
    replace hc : w.cell? ⟨b, off, none⟩ = some (.int .i64 (gI s 0)) := hc
    clear hrow R e1 e2 e3
    generalize gI s 0 = g at *
    go_enter Tryd.func29, Tryd.ntmps29
    go_wp2
    go_region
    all_goals
      go_wp2
      exact bodyPost_ret (v := .agg #[.slice a2 CA c2, .int .i64 g, .int .i64 many, .int .i64 1]) (by simp [results, Tryd.results29, go_sem]) rfl ⟨rfl, by first | exact two_allocs _ _ _ | exact (two_allocs _ _ _).drew⟩
end Go.Proofs.YtlfacpclihmnnaaDoor
namespace Go.Proofs.YtlfacpclihmnnaaDoor
open Go.ChangeShapes Go.WideShapes Go.ChangeAt Go.RowKit
set_option linter.unusedVariables false
set_option maxHeartbeats 2000000 in
theorem rcheckB_any (n B : Nat) (f : Ar → Int) (IH : InnerC 49 n B f) (x : Ar) (lo : Nat) (va : Value) (w : World) (hx : ArIn (n + 1) lo w x va) :
    Calls Tryd.prog 49 #[va, .int .i64 (B : Int)] w fun e w' => e = .returned (.int .i64 (chkB f x)) ∧ Below w.heap.size w w' := by
  obtain ⟨a1, c1, a2, c2, rfl, R, hl, hc⟩ := hx
  have K1 : Hid (¬ sizeE x.shape = 0 → chkB f x = sizeE x.shape) := fun h => by unfold chkB; rw [if_pos h]
  have K2 : Hid (sizeE x.shape = 0 → ¬ sizeV x.shape = x.cells.length → chkB f x = 1) := fun h h' => by unfold chkB; rw [if_neg (fun k => k h), if_pos h']
  have K3 : Hid (sizeE x.shape = 0 → sizeV x.shape = x.cells.length → hasLong x.shape → chkB f x = 12) := fun h h' h'' => by unfold chkB; rw [if_neg (fun k => k h), if_neg (fun k => k h'), if_pos h'']
  have K4 : Hid (sizeE x.shape = 0 → sizeV x.shape = x.cells.length → ¬ hasLong x.shape → chkB f x = firstUp (chkF f x) x.cells.length) := fun h h' h'' => by unfold chkB; rw [if_neg (fun k => k h), if_neg (fun k => k h'), if_neg h'']
  generalize chkB f x = r at K1 K2 K3 K4
  have b0 := one_alloc w (.cells #[.slice a1 x.shape.length c1, .slice a2 x.cells.length c2] 25)
  have C1 := rsize_any x.shape a1 c1 _ (R.next b0)
  have hlR := R.1
  have HB0 : Hid (Below w.heap.size w (w.alloc (.cells #[.slice a1 x.shape.length c1, .slice a2 x.cells.length c2] 25))) := b0
  have HS : Hid (∀ i, i < x.shape.length → ∃ b off s, a1 = some ⟨b, off, none⟩ ∧ (16384 < s → hasLong x.shape) ∧ (x.shape[i]?.getD 0 = s) ∧ (w.alloc (.cells #[.slice a1 x.shape.length c1, .slice a2 x.cells.length c2] 25)).cell? ⟨b, off + i, none⟩ = some (.int .i64 s)) := by
    intro i hi
    obtain ⟨b, off, ha, hb, hck⟩ := row_at (R.next b0) hi
    exact ⟨b, off, _, ha, fun h => ⟨_, getD_mem hi, h⟩, rfl, hck⟩
  have D3 : Hid ((∀ i, i < x.shape.length → ¬ 16384 < x.shape[i]?.getD 0) → ¬ hasLong x.shape) := by
    rintro h ⟨z, hz, hz'⟩
    obtain ⟨k, hk, e⟩ := mem_getD hz
    exact h k hk (by omega)
  have HC : Hid (∀ i, i < x.cells.length → ∃ b off z0 z1 ab nb cb, a2 = some ⟨b, off, none⟩ ∧ ∀ wr, Below w.heap.size w wr → (wr.cell? ⟨b, off + i * 3, none⟩ = some (.int .i64 z0) ∧ wr.cell? ⟨b, off + i * 3 + 1, none⟩ = some (.int .i64 z1) ∧ wr.cell? ⟨b, off + i * 3 + 2, none⟩ = some (.slice ab nb cb)) ∧ Calls Tryd.prog 75 #[.agg #[.int .i64 z0, .int .i64 z1, .slice ab nb cb], .int .i64 (B : Int)] wr fun e w' => e = .returned (.int .i64 (chkF f x i)) ∧ Below wr.heap.size wr w') := by
    intro i hi
    obtain ⟨b, off, z0, z1, ab, nb, cb, ha, h⟩ := cells_at hc i hi
    refine ⟨b, off, z0, z1, ab, nb, cb, ha, fun wr hw => ?_⟩
    obtain ⟨e0, e1, e2, e3⟩ := h wr hw
    exact ⟨⟨e0, e1, e2⟩, rcheckCell_any n B f IH _ lo wr _ _ _ e3⟩
  clear R hc b0 IH
  by_cases h1 : sizeE x.shape = 0
  · rw [h1] at C1
    by_cases h2 : sizeV x.shape = x.cells.length
    · rw [h2] at C1
      have K3' : Hid (hasLong x.shape → r = 12) := K3.out h1 h2
      have K4' : Hid (¬ hasLong x.shape → r = firstUp (chkF f x) x.cells.length) := K4.out h1 h2
      clear K1 K2 K3 K4 h1 h2
      have H0 : Hid (firstUp (chkF f x) 0 = 0) := rfl
      generalize chkF f x = F at *
      generalize x.shape = SS at *
      generalize x.cells.length = CA at *
      have W1 := one_alloc w (.cells #[.slice a1 SS.length c1, .slice a2 CA c2] 25)
      go_enter Tryd.func49, Tryd.ntmps49
      go_wp2_with fail
      refine C1.mono ?_
      rintro e w1 ⟨rfl, hw⟩
      rw [hw]
      clear hw C1 W1
      go_wp2
      go_loop [7] (fun i => ∃ j : Nat, j ≤ SS.length ∧ i = .int .i64 (j : Int) ∧ ∀ i, i < j → ¬ 16384 < SS[i]?.getD 0) (fun i => SS.length - (intOf i).toNat)
      case atStart => exact ⟨0, Nat.zero_le _, rfl, by simp⟩
      case round =>
        obtain ⟨j, hj, rfl, hall⟩ := hrel
        have HALL := hide hall
        clear hall
        by_cases hlt : j < SS.length
        · obtain ⟨b, off, s, rfl, hL, hs, hck⟩ := HS.out j hlt
          have HSS := hide hs
          have HL := hide hL
          clear HS HC hs hL
          by_cases hlong : 16384 < s
          · have hr : Hid (r = 12) := K3'.out (HL.out hlong)
            go_wp2
            go_ret
            exact ⟨retI hr.out.symm, HB0.out⟩
          · have HN := hide hlong
            go_wp2
            go_round
            case rel =>
              refine ⟨j + 1, by omega, by go_num, ?_⟩
              intro i hi
              rcases Nat.lt_succ_iff_lt_or_eq.1 hi with h | rfl
              · exact HALL.out i h
              · rw [HSS.out]; exact HN.out
            case measure => simp [intOf]; omega
        · have hje : j = SS.length := by omega
          subst hje
          have HR := hide (K4'.out (D3.out (fun i hi => by have := HALL.out i hi; omega)))
          clear HS HALL D3 K3' K4'
          go_wp2
          go_loopw [8] (fun i wr => ∃ j : Nat, j ≤ CA ∧ i = .int .i64 (j : Int) ∧ firstUp F j = 0 ∧ wr.cell? ⟨w.heap.size, 1, none⟩ = some (.slice a2 CA c2) ∧ w.heap.size + 1 ≤ wr.heap.size ∧ Below w.heap.size w wr) (fun i _ => CA - (intOf i).toNat)
          case atStart => exact ⟨0, Nat.zero_le _, rfl, H0.out, cell_new0 w _ 25 1 _ rfl, by simp, HB0.out⟩
          case round =>
            clear HB0
            obtain ⟨j, hj, rfl, hz, hcl, hsz, hnx⟩ := hrel
            have HZ := hide hz
            have HSZ := hide hsz
            clear hz hsz
            by_cases hlt : j < CA
            · obtain ⟨b, off, z0, z1, ab, nb, cb, rfl, hcs⟩ := HC.out j hlt
              obtain ⟨⟨k0, k1, k2⟩, C⟩ := hcs wr hnx
              have HT : Hid (F j ≠ 0 → r = F j) := fun h => by rw [HR.out]; exact firstUp_hit HZ.out h CA hlt
              have HS : Hid (firstUp F (j + 1) = F j) := firstUp_step HZ.out
              clear hcs HC
              obtain ⟨z, ez⟩ : ∃ z, F j = z := ⟨_, rfl⟩
              rw [ez] at C HT HS
              clear ez
              by_cases hz0 : z = 0
              · subst hz0
                go_wp2_with fail
                refine C.mono ?_
                rintro e w1 ⟨rfl, hb1⟩
                go_wp2
                go_roundw
                case rel => exact ⟨j + 1, by omega, by go_num, HS.out, (hb1.cell (p := ⟨w.heap.size, 1, none⟩) (by have := HSZ.out; show w.heap.size < _; omega)).trans hcl, Nat.le_trans HSZ.out hb1.size, hnx.trans (hb1.mono hnx.size)⟩
                case measure => simp [intOf]; omega
              · have HN := hide hz0
                go_wp2_with fail
                refine C.mono ?_
                rintro e w1 ⟨rfl, hb1⟩
                go_wp2
                go_ret
                exact ⟨retI (HT.out HN.out).symm, hnx.trans (hb1.mono hnx.size)⟩
            · have hje : j = CA := by omega
              subst hje
              have hr : Hid (r = 0) := by show r = 0; rw [HR.out]; exact HZ.out
              clear HC HR HZ
              go_wp2
              go_ret
              exact ⟨retI hr.out.symm, hnx⟩
    · have hr : Hid (r = 1) := K2.out h1 h2
      clear K1 K2 K3 K4 HC h1 HS D3
      generalize sizeV x.shape = S at C1 h2
      generalize x.shape.length = SA at *
      generalize x.cells.length = CA at *
      go_enter Tryd.func49, Tryd.ntmps49
      go_wp2_with fail
      refine C1.mono ?_
      rintro e w1 ⟨rfl, hw⟩
      rw [hw]
      clear hw
      go_wp2
      go_ret
      exact ⟨retI hr.out.symm, HB0.out⟩
  · have hr := hide (K1.out h1)
    clear K1 K2 K3 K4 HC HS D3
    generalize sizeV x.shape = S at C1
    generalize sizeE x.shape = E at C1 h1 hr
    generalize x.shape.length = SA at *
    generalize x.cells.length = CA at *
    go_enter Tryd.func49, Tryd.ntmps49
    go_wp2_with fail
    refine C1.mono ?_
    rintro e w1 ⟨rfl, hw⟩
    rw [hw]
    clear hw
    go_wp2
    go_ret
    exact ⟨retI hr.out.symm, HB0.out⟩
theorem within_any (r : Nat) : ∀ (hr : r ≤ 8) (n : Nat) (x : Ar) (lo : Nat) (va : Value) (w : World), ArIn n lo w x va → Calls Tryd.prog 76 #[va, .int .i64 ((8 - r : Nat) : Int)] w fun e w' => e = .returned (.int .i64 (chkA r x)) ∧ Below w.heap.size w w' := by
  induction r with
  | zero =>
    intro hr n x lo va w hx
    cases n with
    | zero => exact hx.elim
    | succ n => exact checkB_any n 8 (fun _ => 15) ⟨by omega, fun _ => rfl, fun h => absurd h (by omega)⟩ x lo va w hx
  | succ r ih =>
    intro hr n x lo va w hx
    cases n with
    | zero => exact hx.elim
    | succ n =>
      refine checkB_any n (8 - (r + 1)) (chkA r) ⟨by omega, fun h => absurd h (by omega), fun _ => ?_⟩ x lo va w hx
      intro y lo vb w hy
      have := ih (by omega) n y lo vb w hy
      have e : ((8 - r : Nat) : Int) = ((8 - (r + 1) : Nat) : Int) + 1 := by omega
      rw [e] at this
      exact this
theorem rwithin_any (r : Nat) : ∀ (hr : r ≤ 8) (n : Nat) (x : Ar) (lo : Nat) (va : Value) (w : World), ArIn n lo w x va → Calls Tryd.prog 49 #[va, .int .i64 ((8 - r : Nat) : Int)] w fun e w' => e = .returned (.int .i64 (chkA r x)) ∧ Below w.heap.size w w' := by
  induction r with
  | zero =>
    intro hr n x lo va w hx
    cases n with
    | zero => exact hx.elim
    | succ n => exact rcheckB_any n 8 (fun _ => 15) ⟨by omega, fun _ => rfl, fun h => absurd h (by omega)⟩ x lo va w hx
  | succ r ih =>
    intro hr n x lo va w hx
    cases n with
    | zero => exact hx.elim
    | succ n =>
      refine rcheckB_any n (8 - (r + 1)) (chkA r) ⟨by omega, fun h => absurd h (by omega), fun _ => ?_⟩ x lo va w hx
      intro y lo vb w hy
      have := ih (by omega) n y lo vb w hy
      have e : ((8 - r : Nat) : Int) = ((8 - (r + 1) : Nat) : Int) + 1 := by omega
      rw [e] at this
      exact this
theorem check_any (n : Nat) (x : Ar) (lo : Nat) (va : Value) (w : World) (hx : ArIn n lo w x va) : Calls Tryd.prog 56 #[va] w fun e w' => e = .returned (.int .i64 (chkA 8 x)) ∧ Below w.heap.size w w' := by
  have C := fun w' hb => within_any 8 (Nat.le_refl _) n x lo va w' (hx.next hb)
  cases n with
  | zero => exact hx.elim
  | succ n =>
    obtain ⟨a1, c1, a2, c2, rfl, -⟩ := hx
    generalize chkA 8 x = r at C
    generalize x.shape.length = SA at *
    generalize x.cells.length = CA at *
    have C1 := C _ (one_alloc w (.cells #[.slice a1 SA c1, .slice a2 CA c2] 25))
    clear C
    go_enter Tryd.func56, Tryd.ntmps56
    go_wp2_with fail
    refine C1.mono ?_
    rintro e w1 ⟨rfl, hb1⟩
    go_wp2
    go_ret
    exact ⟨rfl, (one_alloc _ _).trans (hb1.mono (one_alloc _ _).size)⟩
theorem rcheck_any (n : Nat) (x : Ar) (lo : Nat) (va : Value) (w : World) (hx : ArIn n lo w x va) : Calls Tryd.prog 21 #[va] w fun e w' => e = .returned (.int .i64 (chkA 8 x)) ∧ Below w.heap.size w w' := by
  have C := fun w' hb => rwithin_any 8 (Nat.le_refl _) n x lo va w' (hx.next hb)
  cases n with
  | zero => exact hx.elim
  | succ n =>
    obtain ⟨a1, c1, a2, c2, rfl, -⟩ := hx
    generalize chkA 8 x = r at C
    generalize x.shape.length = SA at *
    generalize x.cells.length = CA at *
    have C1 := C _ (one_alloc w (.cells #[.slice a1 SA c1, .slice a2 CA c2] 25))
    clear C
    go_enter Tryd.func21, Tryd.ntmps21
    go_wp2_with fail
    refine C1.mono ?_
    rintro e w1 ⟨rfl, hb1⟩
    go_wp2
    go_ret
    exact ⟨rfl, (one_alloc _ _).trans (hb1.mono (one_alloc _ _).size)⟩
end Go.Proofs.YtlfacpclihmnnaaDoor
namespace Go.Proofs.YtlfacpclihmnnaaDoor
open Go.ChangeShapes Go.WideShapes Go.ChangeAt Go.RowKit
open Num (resV resE In64 sgnI absI)
set_option linter.unusedVariables false
set_option linter.unusedSimpArgs false
set_option maxRecDepth 100000
/-- Whether a function goes cell by cell. -/
def opE (op : Int) : Int := if isOp op then 0 else 1
/-- The first error of arrays, then that of the function. -/
def fchk (op : Int) (E : Nat → Int) (k : Nat) : Int := if firstUp E k = 0 then opE op else firstUp E k
set_option maxHeartbeats 4000000 in
theorem check25 {n lo bA k c : Nat} {op : Int} {t : Bool} {X : Nat → Ar} {A1 A2 : Nat → Option Addr} {M1 C1 M2 C2 : Nat → Nat} {w : World} (hk : k ≤ 4) (hbA : bA < w.heap.size) (hU : ∀ i, i < k → w.cell? ⟨bA, i * 2, none⟩ = some ((.slice (A1 i) (M1 i) (C1 i))) ∧ w.cell? ⟨bA, i * 2 + 1, none⟩ = some ((.slice (A2 i) (M2 i) (C2 i))) ∧ ArIn n lo w (X i) (.agg #[(.slice (A1 i) (M1 i) (C1 i)), (.slice (A2 i) (M2 i) (C2 i))])) :
    Calls Tryd.prog 25 #[.agg #[.int .i64 op, .bool t], .slice (some ⟨bA, 0, none⟩) k c] w fun e w' => e = .returned (.int .i64 (fchk op (fun i => chkA 8 (X i)) k)) ∧ Below w.heap.size w w' := by
  have HU := hide hU
  obtain ⟨E, hE⟩ : ∃ E : Nat → Int, E = fun i => chkA 8 (X i) := ⟨_, rfl⟩
  have HE := hide hE
  rw [← hE]
  have HC : Hid (∀ W i, i < k → Below w.heap.size w W → Calls Tryd.prog 56 #[.agg #[(.slice (A1 i) (M1 i) (C1 i)), (.slice (A2 i) (M2 i) (C2 i))]] W fun e w' => e = .returned (.int .i64 (E i)) ∧ Below W.heap.size W w') := fun W i hi hW => by
    have := check_any n (X i) lo _ W ((hU i hi).2.2.next hW)
    rw [HE.out]
    exact this
  have CI := hide (fun w => is_any op w)
  clear hU hE HE
  go_enter Tryd.func25, Tryd.ntmps25
  go_wp2
  go_loopg [10] k (fun g iv wq => ∃ j : Nat, g + j = k ∧ iv = .int .i64 (j : Int) ∧ firstUp E j = 0 ∧ Below w.heap.size w wq ∧ w.heap.size < wq.heap.size ∧ wq.cell? ⟨w.heap.size, 0, none⟩ = some (.int .i64 op))
  case atStart => exact ⟨0, rfl, rfl, rfl, one_alloc _ _, by simp, cell_new0 w _ 32 0 _ rfl⟩
  case round =>
    obtain ⟨j, hg, rfl, h0, hbl, hsz, hop⟩ := hrel
    by_cases hlt : j < k
    · obtain ⟨d0, d1, -⟩ := HU.out j hlt
      have x0 := (hbl.cell (p := ⟨bA, j * 2, none⟩) hbA).trans d0
      have x1 := (hbl.cell (p := ⟨bA, j * 2 + 1, none⟩) hbA).trans d1
      have CC := HC.out (wr.alloc (.cells #[.slice (A1 j) (M1 j) (C1 j), .slice (A2 j) (M2 j) (C2 j)] 25)) j hlt (hbl.trans ((one_alloc _ _).mono hbl.size))
      have HF : Hid (firstUp E (j + 1) = E j) := firstUp_step h0
      have HB := hide hbl
      have hjz : (j : Int) < (k : Int) := by omega
      clear d0 d1 hbl h0 HC
      generalize A1 j = aa at *
      generalize M1 j = ma at *
      generalize C1 j = ca at *
      generalize A2 j = ab at *
      generalize M2 j = mb at *
      generalize C2 j = cb at *
      obtain ⟨EE, hEE⟩ : ∃ EE, E j = EE := ⟨_, rfl⟩
      rw [hEE] at CC HF
      go_wp2_with fail
      refine CC.mono ?_
      rintro e w1 ⟨rfl, hb1⟩
      have B1 := HB.out.trans (((one_alloc _ _).trans (hb1.mono (one_alloc _ _).size)).mono HB.out.size)
      have hop1 := (((one_alloc _ _).trans (hb1.mono (one_alloc _ _).size)).cell (p := ⟨w.heap.size, 0, none⟩) hsz).trans hop
      have hs1 : w.heap.size < w1.heap.size := by have := hb1.size; simp at this; omega
      have HH := hide (And.intro B1 (And.intro hs1 hop1))
      clear B1 hop1 hs1 hb1 CC hop x0 x1
      by_cases hE0 : EE = 0
      · subst hE0
        go_wp2
        go_roundg (k - (j + 1))
        case rel => exact ⟨j + 1, by omega, by go_num, HF.out, HH.out⟩
        case measure => omega
      · have gE : (EE == 0) = false := beq_eq_false_iff_ne.2 hE0
        have HR : Hid (fchk op E k = EE) := by
          unfold Hid fchk
          rw [firstUp_stays (j := j + 1) (by rw [HF.out]; exact hE0) k (by omega), HF.out, if_neg hE0]
        go_wp2
        go_ret
        exact ⟨by rw [HR.out]; rfl, HH.out.1⟩
    · have hje : j = k := by omega
      subst hje
      have HR : Hid (fchk op E j = opE op) := by
        unfold Hid fchk
        rw [if_pos h0]
      have HB := hide hbl
      have hjz : ¬ ((j : Int) < (j : Int)) := by omega
      clear HU HC hbl
      by_cases hO : isOp op = true
      · have hop' : opE op = 0 := by simp [opE, hO]
        rw [hO] at CI
        rw [hop'] at HR
        go_wp2_with fail
        refine (CI.out _).mono ?_
        rintro e w1 ⟨rfl, hw⟩
        subst hw
        go_wp2
        go_ret
        exact ⟨by rw [HR.out]; rfl, HB.out⟩
      · have hO' : isOp op = false := by simpa using hO
        have hop' : opE op = 1 := by simp [opE, hO']
        rw [hO'] at CI
        rw [hop'] at HR
        go_wp2_with fail
        refine (CI.out _).mono ?_
        rintro e w1 ⟨rfl, hw⟩
        subst hw
        go_wp2
        go_ret
        exact ⟨by rw [HR.out]; rfl, HB.out⟩
end Go.Proofs.YtlfacpclihmnnaaDoor
namespace Go.Proofs.YtlfacpclihmnnaaDoor
open Go.ChangeShapes Go.WideShapes Go.ChangeAt Go.RowKit
open Num (resV resE In64 sgnI absI)
set_option linter.unusedVariables false
set_option linter.unusedSimpArgs false
set_option maxRecDepth 100000
theorem rrow_any {n lo : Nat} {cs : List Ce} {a : Option Addr} {cap : Nat} {op : Int} {t : Bool} {w0 w : World} (hcO : CellsO n lo w0 w cs a) (hb0 : Below w0.heap.size w0 w) (hl : cs.length ≤ 16384) (hin : ∀ i, i < cs.length → In64 (cAt cs i).2.1) :
    Calls Tryd.prog 38 #[.int .i64 op, .bool t, .slice a cs.length cap] w fun e w' => GivesF n lo w0 (rowR op t cs) w e w' := by
  have hc := hcO.now hb0
  by_cases h0 : cs.length = 0
  · have hR : rowR op t cs = ((0, nonV op, []), nonE op) := by unfold rowR; rw [if_pos h0]
    rw [hR, h0]
    refine (rrow0 op t a cap w).mono ?_
    rintro e w' ⟨rfl, hb⟩
    exact gives_num (r := ((0, nonV op, []), nonE op)) rfl hb
  by_cases h1 : cs.length = 1
  · have hR : rowR op t cs = (cAt cs 0, 0) := by unfold rowR; rw [if_neg h0, if_pos h1]
    rw [hR, h1]
    exact rrow1 hcO h1
  by_cases h2 : op = 21
  · subst h2
    have hR : rowR 21 t cs = onceR List.sum cs := by unfold rowR; rw [if_neg h0, if_neg h1, if_pos rfl]
    rw [hR]
    refine (rrow21 (t := t) (cap := cap) hc hl (by omega) hin).mono ?_
    rintro e w' ⟨rfl, hb⟩
    exact gives_num (onceR_num _ _) hb
  by_cases h3 : op = 23
  · subst h3
    have hR : rowR 23 t cs = onceR Num.prodL cs := by unfold rowR; rw [if_neg h0, if_neg h1, if_neg h2, if_pos rfl]
    rw [hR]
    refine (rrow23 (t := t) (cap := cap) hc hl (by omega) hin).mono ?_
    rintro e w' ⟨rfl, hb⟩
    exact gives_num (onceR_num _ _) hb
  have hR : rowR op t cs = frL op t cs := by unfold rowR; rw [if_neg h0, if_neg h1, if_neg h2, if_neg h3]
  rw [hR]
  refine (rrowFr (t := t) (cap := cap) hc hl (by omega) hin h2 h3).mono ?_
  rintro e w' ⟨rfl, hb⟩
  exact gives_num (frL_num op t cs (by omega)) hb
/-- Which axis: the last, or the first. -/
def axN (last : Bool) (S : Nat) : Nat := if last then S - 1 else 0
theorem raxis (a1 a2 : Option Addr) (S c1 C c2 : Nat) (last : Bool) (w : World) (h1 : 0 < S) (h2 : S ≤ 16) :
    Calls Tryd.prog 35 #[.agg #[.slice a1 S c1, .slice a2 C c2], .bool last] w fun e w' => e = .returned (.int .i64 (axN last S : Nat)) ∧ Below w.heap.size w w' := by
  cases last
  · go_enter Tryd.func35, Tryd.ntmps35
    go_wp2
    go_ret
    exact ⟨rfl, one_alloc _ _⟩
  · have hs : ((axN true S : Nat) : Int) = (S : Int) - 1 := by simp only [axN, if_true]; omega
    rw [hs]
    go_enter Tryd.func35, Tryd.ntmps35
    go_wp2
    go_ret
    exact ⟨rfl, one_alloc _ _⟩
set_option maxHeartbeats 4000000 in
theorem rstart {n lo : Nat} {x : Ar} {v0 v1 : Value} {w : World} (op : Int) (hx : ArIn n lo w x (.agg #[v0, v1])) :
    Calls Tryd.prog 34 #[.int .i64 op, .agg #[v0, v1]] w fun e w' => e = .returned (.int .i64 (fchk op (fun _ => chkA 8 x) 1)) ∧ Below w.heap.size w w' := by
  have C := rcheck_any n x lo _ _ (hx.next (one_alloc w (.cells #[v0, v1] 25)))
  have hF : fchk op (fun _ => chkA 8 x) 1 = if chkA 8 x = 0 then opE op else chkA 8 x := by simp [fchk, firstUp]
  obtain ⟨F, hFF⟩ : ∃ F, fchk op (fun _ => chkA 8 x) 1 = F := ⟨_, rfl⟩
  rw [hFF] at hF ⊢
  have HF := hide hF
  generalize chkA 8 x = E at *
  clear hx hF hFF
  go_enter Tryd.func34, Tryd.ntmps34
  go_wp2_with fail
  refine C.mono ?_
  rintro e w1 ⟨rfl, hb1⟩
  have B1 := (one_alloc w (.cells #[v0, v1] 25)).trans (hb1.mono (one_alloc _ _).size)
  clear C hb1
  by_cases h0 : E = 0
  · subst h0
    by_cases h1 : op < 21
    · have hO : F = 1 := by rw [HF.out, if_pos rfl]; unfold opE isOp; rw [if_neg]; simp; omega
      subst hO
      go_wp2
      go_ret
      exact ⟨rfl, B1⟩
    · by_cases h2 : 32 < op
      · have hO : F = 1 := by rw [HF.out, if_pos rfl]; unfold opE isOp; rw [if_neg]; simp; omega
        subst hO
        go_wp2
        go_ret
        exact ⟨rfl, B1⟩
      · have hO : F = 0 := by rw [HF.out, if_pos rfl]; unfold opE isOp; rw [if_pos]; simp; omega
        subst hO
        go_wp2
        go_ret
        exact ⟨rfl, B1⟩
  · have gE : (E == 0) = false := beq_eq_false_iff_ne.2 h0
    have hO : F = E := by rw [HF.out, if_neg h0]
    subst hO
    clear h0
    go_wp2
    go_ret
    exact ⟨rfl, B1⟩
end Go.Proofs.YtlfacpclihmnnaaDoor
namespace Go.Proofs.YtlfacpclihmnnaaDoor
open Go.ChangeShapes Go.WideShapes Go.ChangeAt Go.RowKit
open Num (resV resE In64 sgnI absI)
set_option linter.unusedVariables false
set_option linter.unusedSimpArgs false
set_option maxRecDepth 100000
/-- What fill makes: the first error is that of all. -/
def filR (s : List Int) (N : Nat) (G : Nat → Ce × Int) : Ar × Int := if firstUp (fun i => (G i).2) N = 0 then (.mk s (mkCs N fun i => (G i).1), 0) else (zeroA, firstUp (fun i => (G i).2) N)
/-- An array with its error, handed back. -/
def GivesR (n lo : Nat) (r : Ar × Int) (w : World) (e : Ending) (w' : World) : Prop :=
  (∃ v, e = .returned (.tuple #[v, .int .i64 r.2]) ∧ ArIn n lo w' r.1 v) ∧ Below w.heap.size w w'
theorem gF_congr {T T' : Nat → Value × Value × Value} {j : Nat} (h : ∀ i, i < j → T i = T' i) (m : Nat) : gF T j m = gF T' j m := by
  unfold gF
  by_cases hm : m < j * 3
  · rw [if_pos hm, if_pos hm, h (m / 3) (by omega)]
  · rw [if_neg hm, if_neg hm]
/-- Where filling stands. -/
structure FillS (n lo N : Nat) (w0 w : World) (G : Nat → Ce × Int) (T : Nat → Value × Value × Value) (j : Nat) (W : World) : Prop where
  row : W.rowIs (w.heap.size + 1) 43 (N * 3) (gF T j)
  bel : Below w.heap.size w W
  lt : w.heap.size + 1 < W.heap.size
  c0 : W.cell? ⟨w.heap.size, 0, none⟩ = some (.slice none 0 0)
  c1 : W.cell? ⟨w.heap.size, 1, none⟩ = some (.slice none 0 0)
  f0 : W.frozen? ⟨w.heap.size, 0, none⟩ = false
  f1 : W.frozen? ⟨w.heap.size, 1, none⟩ = false
  e0 : firstUp (fun i => (G i).2) j = 0
  ce : ∀ i, i < j → CeIn (ArIn n lo w0) lo w0 (G i).1 (T i).1 (T i).2.1 (T i).2.2
theorem FillS.next {n lo N : Nat} {w0 w W W' : World} {G : Nat → Ce × Int} {T : Nat → Value × Value × Value} {j : Nat} (h : FillS n lo N w0 w G T j W) (hb : Below W.heap.size W W') : FillS n lo N w0 w G T j W' :=
  have hB : w.heap.size < W.heap.size := by have := h.lt; omega
  ⟨h.row.of_block (hb.block _ h.lt), h.bel.trans (hb.mono h.bel.size), Nat.lt_of_lt_of_le h.lt hb.size, (hb.cell (p := ⟨w.heap.size, 0, none⟩) hB).trans h.c0, (hb.cell (p := ⟨w.heap.size, 1, none⟩) hB).trans h.c1, (hb.frozen (p := ⟨w.heap.size, 0, none⟩) hB).trans h.f0, (hb.frozen (p := ⟨w.heap.size, 1, none⟩) hB).trans h.f1, h.e0, h.ce⟩
theorem FillS.put {n lo N : Nat} {w0 w W : World} {G : Nat → Ce × Int} {T : Nat → Value × Value × Value} {j : Nat} {v0 v1 v2 : Value} (h : FillS n lo N w0 w G T j W) (hG : (G j).2 = 0) (hce : CeIn (ArIn n lo w0) lo w0 (G j).1 v0 v1 v2) :
    ∃ T', FillS n lo N w0 w G T' (j + 1) (((W.setCell ⟨w.heap.size + 1, j * 3, none⟩ v0).setCell ⟨w.heap.size + 1, j * 3 + 1, none⟩ v1).setCell ⟨w.heap.size + 1, j * 3 + 2, none⟩ v2) := by
  obtain ⟨T', hT'⟩ : ∃ T' : Nat → Value × Value × Value, T' = fun i => if i = j then (v0, v1, v2) else T i := ⟨_, rfl⟩
  have hj : T' j = (v0, v1, v2) := by rw [hT']; simp
  have hlt : ∀ i, i < j → T' i = T i := fun i hi => by rw [hT']; simp [show i ≠ j by omega]
  have hs : Below (w.heap.size + 1) W (((W.setCell ⟨w.heap.size + 1, j * 3, none⟩ v0).setCell ⟨w.heap.size + 1, j * 3 + 1, none⟩ v1).setCell ⟨w.heap.size + 1, j * 3 + 2, none⟩ v2) := ((((Below.refl (w.heap.size + 1) W)).setCell (p := ⟨w.heap.size + 1, j * 3, none⟩) (Nat.le_refl _) _).setCell (p := ⟨w.heap.size + 1, j * 3 + 1, none⟩) (Nat.le_refl _) _).setCell (p := ⟨w.heap.size + 1, j * 3 + 2, none⟩) (Nat.le_refl _) _
  have hB : w.heap.size < w.heap.size + 1 := by omega
  refine ⟨T', ?_, h.bel.trans (hs.mono (by omega)), by have := h.lt; simpa using this, (hs.cell (p := ⟨w.heap.size, 0, none⟩) hB).trans h.c0, (hs.cell (p := ⟨w.heap.size, 1, none⟩) hB).trans h.c1, (hs.frozen (p := ⟨w.heap.size, 0, none⟩) hB).trans h.f0, (hs.frozen (p := ⟨w.heap.size, 1, none⟩) hB).trans h.f1, by rw [firstUp_step h.e0]; exact hG, fun i hi => ?_⟩
  · refine (((h.row.set (j * 3) v0).set (j * 3 + 1) v1).set (j * 3 + 2) v2).congr (fun i _ => ?_)
    rw [gF_step T' j i, hj, gF_congr hlt]
  · by_cases e : i = j
    · subst e; rw [hj]; exact hce
    · rw [hlt i (by omega)]; exact h.ce i (by omega)
set_option maxHeartbeats 8000000 in
theorem fill31 {n lo N S c1 : Nat} {s : List Int} {a1 : Option Addr} {p1 p2 : Value} {G : Nat → Ce × Int} {w0 w : World} (hb0 : Below w0.heap.size w0 w) (R : Row lo w a1 s) (hS : s.length = S) (hlo : lo ≤ w.heap.size) (h16 : N ≤ 16384)
    (K : ∀ W, Below w.heap.size w W → ∀ i, i < N → Calls Tryd.prog 31 #[.int .i64 (i : Int), p1, p2] W fun e w' => GivesF n lo w0 (G i) W e w') :
    Calls Tryd.prog 30 #[.slice a1 S c1, .int .i64 (N : Int), .func (.func 31) #[] #[p1, p2]] w fun e w' => GivesR (n + 1) lo (filR s N G) w e w' := by
  have mk1 := make_cells N (by omega)
  obtain ⟨W1, hW1⟩ : ∃ W1, w.alloc (.cells #[.slice none 0 0, .slice none 0 0] 25) = W1 := ⟨_, rfl⟩
  have z1 : W1.heap.size = w.heap.size + 1 := by rw [← hW1]; simp
  obtain ⟨W2, hW2⟩ : ∃ W2, W1.alloc (.cells (madeCells #[.int .i64 0, .int .i64 0, .slice none 0 0] (N * 3)) 43) = W2 := ⟨_, rfl⟩
  have S0 : FillS n lo N w0 w G (fun _ => (.int .i64 0, .int .i64 0, .slice none 0 0)) 0 W2 := by
    have B1 : Below w.heap.size w W1 := by rw [← hW1]; exact one_alloc _ _
    have B2 : Below W1.heap.size W1 W2 := by rw [← hW2]; exact one_alloc _ _
    have hr := rowIs_made3 W1 (N * 3)
    rw [hW2, z1] at hr
    have hB : w.heap.size < W1.heap.size := by omega
    refine ⟨hr.congr fun i hi => (gF_zero _ i).symm, B1.trans (B2.mono (by omega)), by rw [← hW2]; simp; omega, (B2.cell (p := ⟨w.heap.size, 0, none⟩) hB).trans ?_, (B2.cell (p := ⟨w.heap.size, 1, none⟩) hB).trans ?_, (B2.frozen (p := ⟨w.heap.size, 0, none⟩) hB).trans ?_, (B2.frozen (p := ⟨w.heap.size, 1, none⟩) hB).trans ?_, rfl, fun i hi => absurd hi (by omega)⟩
    · rw [← hW1]; exact cell_new0 w _ 25 0 _ rfl
    · rw [← hW1]; exact cell_new0 w _ 25 1 _ rfl
    · rw [← hW1]; simp
    · rw [← hW1]; simp
  have HS0 := hide S0
  have HK := hide K
  have HR := hide R
  have HZ1 := hide z1
  have HB0 := hide hb0
  clear S0 K R z1 hb0
  go_enter Tryd.func30, Tryd.ntmps30
  go_wp2
  rw [HZ1.out]
  clear mk1 hW1 hW2
  go_loopg [16] N (fun g iv wq => ∃ (j : Nat) (T : Nat → Value × Value × Value), g + j = N ∧ iv = .int .i64 (j : Int) ∧ FillS n lo N w0 w G T j wq)
  case atStart => exact ⟨0, _, rfl, rfl, HS0.out⟩
  case round =>
    obtain ⟨j, T, hg, rfl, hst⟩ := hrel
    clear HS0
    have HST := hide hst
    by_cases hlt : j < N
    · have CC := HK.out wr hst.bel j hlt
      have hjz : (j : Int) < (N : Int) := by omega
      clear hst
      go_wp2_with fail
      refine CC.mono ?_
      rintro e w1 ⟨⟨v0, v1, v2, rfl, hce⟩, hb1⟩
      clear CC
      obtain ⟨rfl, rfl, ab0, cb0, rfl, -⟩ := id hce
      have S1 := HST.out.next hb1
      have HCE := hide hce
      obtain ⟨EE, hEE⟩ : ∃ EE, (G j).2 = EE := ⟨_, rfl⟩
      rw [hEE]
      obtain ⟨k0, hk0⟩ : ∃ k0, (G j).1.1 = k0 := ⟨_, rfl⟩
      obtain ⟨k1, hk1⟩ : ∃ k1, (G j).1.2.1 = k1 := ⟨_, rfl⟩
      obtain ⟨k2, hk2⟩ : ∃ k2, (G j).1.2.2.length = k2 := ⟨_, rfl⟩
      rw [hk0, hk1, hk2] at HCE ⊢
      have S2 := S1.next (one_alloc w1 (.cells #[.int .i64 k0, .int .i64 k1, .slice ab0 k2 cb0] 43))
      have ZN := Zc.new w1 (.int .i64 k0) (.int .i64 k1) (.slice ab0 k2 cb0)
      obtain ⟨w2, hw2⟩ : ∃ w2, w1.alloc (.cells #[.int .i64 k0, .int .i64 k1, .slice ab0 k2 cb0] 43) = w2 := ⟨_, rfl⟩
      rw [hw2] at S2 ZN
      have hl12 : w.heap.size + 1 < w1.heap.size := S1.lt
      have m0 := ZN.c0
      have m1 := ZN.c1
      have m2 := ZN.c2
      have r0 := S2.c0
      have r1 := S2.c1
      have t0 := S2.f0
      have t1 := S2.f1
      have z0 := S2.row.cell (i := j * 3) (by omega)
      have z1 := S2.row.cell (i := j * 3 + 1) (by omega)
      have z2 := S2.row.cell (i := j * 3 + 2) (by omega)
      have y0 := S2.row.frozen (j * 3)
      have y1 := S2.row.frozen (j * 3 + 1)
      have y2 := S2.row.frozen (j * 3 + 2)
      have HEE := hide hEE
      have HS2 := hide S2
      clear S1 S2 ZN hce hk0 hk1 hk2 hEE hb1 HST
      generalize gF T j (j * 3) = g0 at *
      generalize gF T j (j * 3 + 1) = g1 at *
      generalize gF T j (j * 3 + 2) = g2 at *
      by_cases hE0 : EE = 0
      · subst hE0
        have HPUT := hide (HS2.out.put HEE.out HCE.out)
        go_wp2
        obtain ⟨T', HN⟩ := HPUT.out
        go_roundg (N - (j + 1))
        case rel => exact ⟨j + 1, T', by omega, by go_num, HN⟩
        case measure => omega
      · have gE : (EE == 0) = false := beq_eq_false_iff_ne.2 hE0
        have HFR : Hid (filR s N G = (zeroA, EE)) := by
          unfold Hid filR
          have h1 : firstUp (fun i => (G i).2) N = EE := by
            rw [firstUp_hit HS2.out.e0 (by show (G j).2 ≠ 0; rw [HEE.out]; exact hE0) N hlt]
            exact HEE.out
          rw [h1, if_neg hE0]
        go_wp2
        have hbf := below_set2 (v0 := .slice none 0 0) (v1 := .slice none 0 0) HS2.out.bel (Nat.le_refl _)
        have HT := set_two HS2.out.c0 HS2.out.c1 (.slice none 0 0) (.slice none 0 0)
        exact bodyPost_ret (v := .tuple #[.agg #[.slice none 0 0, .slice none 0 0], .int .i64 EE]) (by simp [results, Tryd.results30, go_sem, HT.1, HT.2]) rfl ⟨⟨_, by rw [HFR.out], by rw [HFR.out]; exact zeroA_in _ _ _⟩, hbf⟩
    · have hje : j = N := by omega
      subst hje
      have r0 := hst.c0
      have r1 := hst.c1
      have t0 := hst.f0
      have t1 := hst.f1
      have hjz : ¬ ((j : Int) < (j : Int)) := by omega
      have HFR : Hid (filR s j G = (.mk s (mkCs j fun i => (G i).1), 0)) := by
        unfold Hid filR
        rw [if_pos hst.e0]
      clear HK hst
      go_wp2
      have hbf := below_set2 (v0 := .slice a1 S c1) (v1 := .slice (some ⟨w.heap.size + 1, 0, none⟩) j j) HST.out.bel (Nat.le_refl _)
      have HT := set_two HST.out.c0 HST.out.c1 (.slice a1 S c1) (.slice (some ⟨w.heap.size + 1, 0, none⟩) j j)
      refine bodyPost_ret (v := .tuple #[.agg #[.slice a1 S c1, .slice (some ⟨w.heap.size + 1, 0, none⟩) j j], .int .i64 0]) (by simp [results, Tryd.results30, go_sem, HT.1, HT.2]) rfl ⟨⟨_, by rw [HFR.out], ?_⟩, hbf⟩
      rw [HFR.out]
      refine arIn_mk (x := .mk s (mkCs j fun i => (G i).1)) (HR.out.next hbf) (by simp only [Ar.cells, mkCs_len]; omega) ?_ hS (by simp only [Ar.cells, mkCs_len])
      have hro : ((wr.setCell ⟨w.heap.size, 0, none⟩ (.slice a1 S c1)).setCell ⟨w.heap.size, 1, none⟩ (.slice (some ⟨w.heap.size + 1, 0, none⟩) j j)).rowIs (w.heap.size + 1) 43 (j * 3) (gF T j) := HST.out.row.of_block (by rw [Below.heap_setCell _ _ _ _ (by show w.heap.size + 1 ≠ w.heap.size; omega), Below.heap_setCell _ _ _ _ (by show w.heap.size + 1 ≠ w.heap.size; omega)])
      exact (cells_gF hro (by have := HST.out.lt; simpa using this) (by omega) HST.out.ce).now (HB0.out.trans (hbf.mono HB0.out.size))
end Go.Proofs.YtlfacpclihmnnaaDoor
namespace Go.Proofs.YtlfacpclihmnnaaDoor
open Go.ChangeShapes Go.WideShapes Go.ChangeAt Go.RowKit
open Num (resV resE In64 sgnI absI)
set_option linter.unusedVariables false
set_option linter.unusedSimpArgs false
set_option maxRecDepth 100000
theorem lnC_len (cs : List Ce) (lg st nx n : Nat) : (lnC cs lg st nx n).length = lg := mkCs_len _ _
theorem CellsO.next {n lo : Nat} {w0 w w' : World} {cs : List Ce} {a2 : Option Addr} (h : CellsO n lo w0 w cs a2) (hb : Below w.heap.size w w') : CellsO n lo w0 w' cs a2 := by
  rcases h with h | ⟨b, off, ha, hl, hbb, hc⟩
  · exact Or.inl h
  · refine Or.inr ⟨b, off, ha, hl, Nat.lt_of_lt_of_le hbb hb.size, fun i hi => ?_⟩
    obtain ⟨v0, v1, v2, e0, e1, e2, hce⟩ := hc i hi
    exact ⟨v0, v1, v2, (hb.cell (p := ⟨b, off + i * 3, none⟩) hbb).trans e0, (hb.cell (p := ⟨b, off + i * 3 + 1, none⟩) hbb).trans e1, (hb.cell (p := ⟨b, off + i * 3 + 2, none⟩) hbb).trans e2, hce⟩
set_option maxHeartbeats 8000000 in
theorem red31 {N lo L : Nat} {cs : List Ce} {a : Option Addr} {c lg st nx i bF bL : Nat} {op : Int} {t : Bool} {w0 w : World} (hb0 : Below w0.heap.size w0 w) (hc : CellsO N lo w0 w cs a) (hL : cs.length = L) (hlo : lo ≤ w.heap.size) (h16 : L ≤ 16384) (hlg : lg ≤ 16384) (hp : ∀ k, k < lg → i * nx + k * st < L) (hin : ∀ k, k < L → In64 (cAt cs k).2.1) (T : Tab w)
    (hF : bF < w.heap.size) (F0 : w.cell? ⟨bF, 0, none⟩ = some (.int .i64 op)) (F1 : w.cell? ⟨bF, 1, none⟩ = some (.bool t)) (hLb : bL < w.heap.size) (L0 : w.cell? ⟨bL, 0, none⟩ = some (.slice a L c)) (L1 : w.cell? ⟨bL, 1, none⟩ = some (.int .i64 (lg : Int))) (L2 : w.cell? ⟨bL, 2, none⟩ = some (.int .i64 (st : Int))) (L3 : w.cell? ⟨bL, 3, none⟩ = some (.int .i64 (nx : Int))) :
    Calls Tryd.prog 31 #[.int .i64 (i : Int), .pointer (some ⟨bF, 0, none⟩), .pointer (some ⟨bL, 0, none⟩)] w fun e w' => GivesF N lo w0 (rowR op t (lnC cs lg st nx i)) w e w' := by
  subst hL
  obtain ⟨W1, hW1⟩ : ∃ W1, w.alloc (.cells #[.int .i64 0, .int .i64 0, .slice none 0 0] 43) = W1 := ⟨_, rfl⟩
  have B1 : Below w.heap.size w W1 := by rw [← hW1]; exact one_alloc _ _
  have ZR : Zc W1 w.heap.size (.int .i64 0) (.int .i64 0) (.slice none 0 0) := by rw [← hW1]; exact Zc.new w _ _ _
  have hs1 := ZR.lt
  have C1 : Hid (∀ W, Below W1.heap.size W1 W → Calls Tryd.prog 33 #[.agg #[.slice a cs.length c, .int .i64 (lg : Int), .int .i64 (st : Int), .int .i64 (nx : Int)], .int .i64 (i : Int)] W fun e w' => (∃ a' c', e = .returned (.slice a' lg c') ∧ CellsO N lo w0 w' (lnC cs lg st nx i) a') ∧ Below W1.heap.size W1 w') := fun W hW => by
    have hBW := B1.trans (hW.mono B1.size)
    refine (line33 (hc.next hBW) (Nat.le_trans hlo hBW.size) h16 hlg hp).mono ?_
    rintro e w' ⟨h1, h2⟩
    exact ⟨h1, hW.trans (h2.mono hW.size)⟩
  have hin' : ∀ k, k < (lnC cs lg st nx i).length → In64 (cAt (lnC cs lg st nx i) k).2.1 := fun k hk => by
    rw [lnC_len] at hk
    unfold lnC
    rw [mkCs_at _ _ _ hk]
    exact hin _ (hp k hk)
  have C2 : Hid (∀ W a' c', Below W1.heap.size W1 W → CellsO N lo w0 W (lnC cs lg st nx i) a' → Calls Tryd.prog 32 #[.agg #[.int .i64 op, .bool t], .slice a' lg c'] W fun e w' => GivesF N lo w0 (rowR op t (lnC cs lg st nx i)) W1 e w') := fun W a' c' hW hco => by
    have hBW := B1.trans (hW.mono B1.size)
    have := folded32 (cap := c') (op := op) (t := t) hco (hb0.trans (hBW.mono hb0.size)) (by rw [lnC_len]; exact hlg) hin' (T.next hBW)
    rw [lnC_len] at this
    refine this.mono ?_
    rintro e w' ⟨h1, h2⟩
    exact ⟨h1, hW.trans (h2.mono hW.size)⟩
  have HZ := hide (And.intro ZR B1)
  generalize rowR op t (lnC cs lg st nx i) = R at *
  generalize cs.length = L at *
  have KS : Hid (∀ W, Below W1.heap.size W1 W → (W.cell? ⟨bF, 0, none⟩ = some (.int .i64 op) ∧ W.cell? ⟨bF, 1, none⟩ = some (.bool t) ∧ W.cell? ⟨bL, 0, none⟩ = some (.slice a L c) ∧ W.cell? ⟨bL, 1, none⟩ = some (.int .i64 (lg : Int)) ∧ W.cell? ⟨bL, 2, none⟩ = some (.int .i64 (st : Int)) ∧ W.cell? ⟨bL, 3, none⟩ = some (.int .i64 (nx : Int)))) := fun W h => by
    have hBW := B1.trans (h.mono B1.size)
    exact ⟨(hBW.cell (p := ⟨bF, 0, none⟩) hF).trans F0, (hBW.cell (p := ⟨bF, 1, none⟩) hF).trans F1, (hBW.cell (p := ⟨bL, 0, none⟩) hLb).trans L0, (hBW.cell (p := ⟨bL, 1, none⟩) hLb).trans L1, (hBW.cell (p := ⟨bL, 2, none⟩) hLb).trans L2, (hBW.cell (p := ⟨bL, 3, none⟩) hLb).trans L3⟩
  have KT : Hid (∀ W u, Below W1.heap.size W1 W → ((((W.setCell ⟨w.heap.size, 0, none⟩ (.int .i64 R.1.1)).setCell ⟨w.heap.size, 1, none⟩ (.int .i64 R.1.2.1)).setCell ⟨w.heap.size, 2, none⟩ u).cell? ⟨bF, 0, none⟩ = some (.int .i64 op) ∧ (((W.setCell ⟨w.heap.size, 0, none⟩ (.int .i64 R.1.1)).setCell ⟨w.heap.size, 1, none⟩ (.int .i64 R.1.2.1)).setCell ⟨w.heap.size, 2, none⟩ u).cell? ⟨bF, 1, none⟩ = some (.bool t) ∧ (((W.setCell ⟨w.heap.size, 0, none⟩ (.int .i64 R.1.1)).setCell ⟨w.heap.size, 1, none⟩ (.int .i64 R.1.2.1)).setCell ⟨w.heap.size, 2, none⟩ u).cell? ⟨bL, 0, none⟩ = some (.slice a L c) ∧ (((W.setCell ⟨w.heap.size, 0, none⟩ (.int .i64 R.1.1)).setCell ⟨w.heap.size, 1, none⟩ (.int .i64 R.1.2.1)).setCell ⟨w.heap.size, 2, none⟩ u).cell? ⟨bL, 1, none⟩ = some (.int .i64 (lg : Int)) ∧ (((W.setCell ⟨w.heap.size, 0, none⟩ (.int .i64 R.1.1)).setCell ⟨w.heap.size, 1, none⟩ (.int .i64 R.1.2.1)).setCell ⟨w.heap.size, 2, none⟩ u).cell? ⟨bL, 2, none⟩ = some (.int .i64 (st : Int)) ∧ (((W.setCell ⟨w.heap.size, 0, none⟩ (.int .i64 R.1.1)).setCell ⟨w.heap.size, 1, none⟩ (.int .i64 R.1.2.1)).setCell ⟨w.heap.size, 2, none⟩ u).cell? ⟨bL, 3, none⟩ = some (.int .i64 (nx : Int)))) := fun W u h => by
    have hw := KS.out W h
    have hs : Below w.heap.size W (((W.setCell ⟨w.heap.size, 0, none⟩ (.int .i64 R.1.1)).setCell ⟨w.heap.size, 1, none⟩ (.int .i64 R.1.2.1)).setCell ⟨w.heap.size, 2, none⟩ u) := below_set3 (Below.refl _ _) (Nat.le_refl _)
    exact ⟨(hs.cell (p := ⟨bF, 0, none⟩) hF).trans hw.1, (hs.cell (p := ⟨bF, 1, none⟩) hF).trans hw.2.1, (hs.cell (p := ⟨bL, 0, none⟩) hLb).trans hw.2.2.1, (hs.cell (p := ⟨bL, 1, none⟩) hLb).trans hw.2.2.2.1, (hs.cell (p := ⟨bL, 2, none⟩) hLb).trans hw.2.2.2.2.1, (hs.cell (p := ⟨bL, 3, none⟩) hLb).trans hw.2.2.2.2.2⟩
  have HD0 : Hid (Below W1.heap.size W1 W1.drew) := (Below.refl _ _).drew
  clear hb0 hc hlo h16 hlg hp hin hin' T F0 F1 L0 L1 L2 L3 B1 ZR
  go_enter Tryd.func31, Tryd.ntmps31
  go_upto_region 1 with fail
  go_region_held3 (fun W => W.cell? ⟨bF, 0, none⟩ = some (.int .i64 op) ∧ W.cell? ⟨bF, 1, none⟩ = some (.bool t) ∧ W.cell? ⟨bL, 0, none⟩ = some (.slice a L c) ∧ W.cell? ⟨bL, 1, none⟩ = some (.int .i64 (lg : Int)) ∧ W.cell? ⟨bL, 2, none⟩ = some (.int .i64 (st : Int)) ∧ W.cell? ⟨bL, 3, none⟩ = some (.int .i64 (nx : Int)))
    (first | with_reducible exact KS.out _ HD0.out | with_reducible exact KS.out _ (by with_reducible assumption) | with_reducible exact KT.out _ _ (by with_reducible assumption))
    (first | (go_at_call 33; (with_reducible refine (C1.out _ HD0.out).mono ?_); rintro e w5 ⟨⟨a', c', rfl, hco⟩, g5⟩) | (go_at_call 32; (with_reducible refine (C2.out _ _ _ (by with_reducible assumption) (by with_reducible assumption)).mono ?_); rintro e w6 ⟨⟨v0, v1, v2, rfl, hce⟩, g6⟩; obtain ⟨rfl, rfl, ab0, cb0, rfl, -⟩ := id hce; obtain ⟨-, n0, n1, n2, n3, n4, n5⟩ := HZ.out.1.next g6))
  all_goals
    have ZF := (HZ.out.1.next g6).set (.int .i64 R.1.1) (.int .i64 R.1.2.1) (.slice ab0 R.1.2.2.length cb0)
    have hbf := below_set3 (v0 := .int .i64 R.1.1) (v1 := .int .i64 R.1.2.1) (v2 := .slice ab0 R.1.2.2.length cb0) (HZ.out.2.trans (g6.mono HZ.out.2.size)) (Nat.le_refl _)
    have HF := hide (And.intro ZF (And.intro hbf hce))
    clear ZF hbf hce g6 g5 hco KS KT C1 C2 HD0 n0 n1 n2 n3 n4 n5 HZ
    go_wp2
    obtain ⟨ZF, hbf, hce⟩ := HF.out
    exact bodyPost_ret (v := .tuple #[.agg #[.int .i64 R.1.1, .int .i64 R.1.2.1, .slice ab0 R.1.2.2.length cb0], .int .i64 R.2]) (by simp [results, Tryd.results31, go_sem, ZF.c0, ZF.c1, ZF.c2]) rfl ⟨⟨_, _, _, rfl, hce⟩, hbf⟩
end Go.Proofs.YtlfacpclihmnnaaDoor
namespace Go.Proofs.YtlfacpclihmnnaaDoor
open Go.ChangeShapes Go.WideShapes Go.ChangeAt Go.RowKit
open Num (resV resE In64 sgnI absI)
set_option linter.unusedVariables false
set_option linter.unusedSimpArgs false
set_option maxRecDepth 100000
theorem SoftC.below {w w' : World} {b B : Nat} {l : List Int} (h : SoftC w b l) (hn : Below B w w') (hb : b < B) : SoftC w' b l := fun i hi => ⟨(hn.cell (p := ⟨b, i, none⟩) hb).trans (h i hi).1, (hn.frozen (p := ⟨b, i, none⟩) hb).trans (h i hi).2⟩
theorem cellsO_own {n lo base m : Nat} {w0 w : World} {g : Nat → Ce} {T : Nat → Value × Value × Value} {v : Value} (hown : w.ownsRow base 43 3 v m (rowT T m)) (hlo : lo ≤ base) (hT : ∀ i, i < m → CeIn (ArIn n lo w0) lo w0 (g i) (T i).1 (T i).2.1 (T i).2.2) : ∃ a c, v = .slice a m c ∧ CellsO n lo w0 w (mkCs m g) a := by
  obtain ⟨a, c, rfl, h⟩ := owns_cellsT T hown
  refine ⟨a, c, rfl, ?_⟩
  rcases h with h0 | ⟨b, rfl, hg1, hg2, hcc⟩
  · subst h0; exact Or.inl rfl
  · refine Or.inr ⟨b, 0, rfl, by omega, hg2, fun i hi => ?_⟩
    rw [mkCs_len] at hi
    obtain ⟨e0, e1, e2⟩ := hcc i hi
    rw [Nat.zero_add, mkCs_at _ _ _ hi]
    exact ⟨_, _, _, e0, e1, e2, hT i hi⟩
set_option maxHeartbeats 8000000 in
theorem rline {N lo lo' S C c1 c2 cA k U : Nat} {x : Ar} {at' : List Int} {a1 a2 aA : Option Addr} {P : Nat → Nat} {w0 w : World} (hx : ArIn (N + 1) lo w0 x (.agg #[.slice a1 S c1, .slice a2 C c2])) (hb0 : Below w0.heap.size w0 w) (hlo : lo ≤ w.heap.size)
    (RA : Row lo' w aA at') (hat : at'.length = S) (hk : k < S) (hS8 : S ≤ 8) (hU : U ≤ 16384) (hp : ∀ i, i < U → plcV x.shape (at'.set k (i : Int)) = (P i : Int) ∧ P i < C) :
    Calls Tryd.prog 39 #[.agg #[.slice a1 S c1, .slice a2 C c2], .slice aA S cA, .int .i64 (k : Int), .int .i64 (U : Int)] w fun e w' => (∃ a' c', e = .returned (.slice a' U c') ∧ CellsO N lo w0 w' (mkCs U fun i => cAt x.cells (P i)) a') ∧ Below w.heap.size w w' := by
  obtain ⟨a1', c1', a2', c2', hv, R, hc⟩ := hx.formC
  have hv2 : S = x.shape.length ∧ C = x.cells.length ∧ a1 = a1' ∧ a2 = a2' ∧ c1 = c1' ∧ c2 = c2' := by
    simp only [Value.agg.injEq, Array.mk.injEq, List.cons.injEq, Value.slice.injEq, and_true] at hv
    exact ⟨hv.1.2.1, hv.2.2.1, hv.1.1, hv.2.1, hv.1.2.2, hv.2.2.2⟩
  obtain ⟨hS, hC, rfl, rfl, rfl, rfl⟩ := hv2
  obtain ⟨i3, hi3, hz30, hz31, hz32⟩ := infoI3
  obtain ⟨i0, hi0, hz00, hz01, hz02⟩ := info33'
  obtain ⟨ab, cb, hcf⟩ := cells_fn hc
  obtain ⟨T, hT⟩ : ∃ T : Nat → Value × Value × Value, ∀ i, T i = cellT x.cells ab cb (P i) := ⟨fun i => cellT x.cells ab cb (P i), fun i => rfl⟩
  have HCE : Hid (∀ i, i < U → CeIn (ArIn N lo w0) lo w0 (cAt x.cells (P i)) (T i).1 (T i).2.1 (T i).2.2) := fun i hi => by
    obtain ⟨b, off, -, -, -, h⟩ := hcf (by have := (hp i hi).2; omega)
    rw [hT i]
    exact (h (P i) (by have := (hp i hi).2; omega)).2.2.2
  rw [← hC] at hcf
  have HCF := hide hcf
  have HTT := hide hT
  have HPP := hide hp
  have HB0 := hide hb0
  obtain ⟨W1, hW1⟩ : ∃ W1, w.alloc (.cells #[.slice a1 S c1, .slice a2 C c2] 25) = W1 := ⟨_, rfl⟩
  have z1 : W1.heap.size = w.heap.size + 1 := by rw [← hW1]; simp
  have B1 : Below w.heap.size w W1 := by rw [← hW1]; exact one_alloc _ _
  have HQ : Hid (W1.cell? ⟨w.heap.size, 0, none⟩ = some (.slice a1 S c1) ∧ W1.cell? ⟨w.heap.size, 1, none⟩ = some (.slice a2 C c2)) := by rw [← hW1]; exact ⟨cell_new0 w _ 25 0 _ rfl, cell_new0 w _ 25 1 _ rfl⟩
  have HLS : Hid (Lies W1 aA (at'.map (Value.int .i64))) := Lies.row_next RA B1
  have hsl : (at'.map (Value.int .i64)).length = S * 1 := by rw [List.length_map, hat]; omega
  have HR := hide (And.intro R hS)
  have HAT := hide hat
  clear hx hv R hc hcf hp hT hb0 RA hat hS hC
  go_enter Tryd.func39, Tryd.ntmps39
  go_wp2_with (at_builtin; refine wpList_append_any rfl _ _ 22 rfl W1.heap.size 3 i3 (.int .i64 0) 1 8 Tryd.underlying22 hi3 hz30 hz31 hz32 rfl (by decide) (.slice none 0 0) 0 [] rfl (World.ownsRow_nil _ _ _ _) aA S cA (at'.map (Value.int .i64)) rfl hsl HLS.out ?c3 ?c4 (Nat.le_refl _) ?_)
  case c3 => unfold maxLen; omega
  case c4 => omega
  intro v' w4 hown4 hb4
  obtain ⟨gb, cf, rfl, hgb1, hgb2⟩ := owns_form1' hown4 (by omega)
  have SC := owns_softC HAT.out hown4
  have B4 := B1.trans (hb4.mono (Nat.le_succ _))
  have HQ4 : Hid (w4.cell? ⟨w.heap.size, 0, none⟩ = some (.slice a1 S c1) ∧ w4.cell? ⟨w.heap.size, 1, none⟩ = some (.slice a2 C c2)) := ⟨(hb4.cell (p := ⟨w.heap.size, 0, none⟩) (by show w.heap.size < _; omega)).trans HQ.out.1, (hb4.cell (p := ⟨w.heap.size, 1, none⟩) (by show w.heap.size < _; omega)).trans HQ.out.2⟩
  have HS4 : Hid (SoftC w4 gb (at'.set k (gI at' k))) := by
    have e : at'.set k (gI at' k) = at' := gI_ext (by simp) fun i hi => by
      rw [gI_set _ _ _ _ (by rw [HAT.out]; exact hk)]
      by_cases h : i = k
      · rw [if_pos h, h]
      · rw [if_neg h]
    unfold Hid
    rw [e]; exact SC
  have HB4 := hide B4

  clear hown4 hb4 SC B4 HLS hsl HQ B1
  go_wp2
  go_loopg [10, 11] U (fun g v i wq => ∃ (t : Nat) (z : Int), g + t = U ∧ i = .int .i64 (t : Int) ∧ Below (w.heap.size + 1) w4 wq ∧ SoftC wq gb (at'.set k z) ∧ gb < w4.heap.size ∧ wq.ownsRow w4.heap.size 43 3 v t (rowT T t))
  case atStart => exact ⟨0, _, rfl, rfl, Below.refl _ _, HS4.out, hgb2, World.ownsRow_nil _ _ _ _⟩
  case round =>
    clear HS4
    obtain ⟨t, z, hg, rfl, hbt, sc, -, hown⟩ := hrel
    by_cases hlt : t < U
    · obtain ⟨hp1, hp2⟩ := HPP.out t hlt
      obtain ⟨u0, u1⟩ := sc k (by simp [HAT.out, hk])
      have hkz : (k : Int) < (S : Int) := by omega
      obtain ⟨W5, hW5⟩ : ∃ W5, wr.setCell ⟨gb, k, none⟩ (.int .i64 (t : Int)) = W5 := ⟨_, rfl⟩
      have SC5 : SoftC W5 gb (at'.set k (t : Int)) := by
        have := sc.set k (by simp [HAT.out, hk]) (t : Int)
        rw [List.set_set, hW5] at this
        exact this
      have B5 : Below (w.heap.size + 1) w4 W5 := by rw [← hW5]; exact hbt.setCell (p := ⟨gb, k, none⟩) (by show _ ≤ gb; omega) _
      have z5 : W5.heap.size = wr.heap.size := by rw [← hW5]; simp
      have hs4 := hbt.size
      have BB5 : Below w.heap.size w W5 := HB4.out.trans (B5.mono (Nat.le_succ _))
      have OW5 := owns_keeps hown ((Keeps.refl w4.heap.size wr).setCell (p := ⟨gb, k, none⟩) hgb2 (.int .i64 (t : Int))) (Nat.le_refl _)
      rw [hW5] at OW5
      have hlen : (at'.set k (t : Int)).length = S := by simp [HAT.out]
      have RF : Row 0 W5 (some ⟨gb, 0, none⟩) (at'.set k (t : Int)) := SoftC.row SC5 (by omega) (Nat.zero_le _) (by rw [hlen]; omega)
      have C9 := rplace_any x.shape (at'.set k (t : Int)) a1 (some ⟨gb, 0, none⟩) c1 cf W5 (HR.out.1.next (HB0.out.trans (BB5.mono HB0.out.size))) RF
      rw [hp1, hlen, ← HR.out.2] at C9
      generalize plcE x.shape (at'.set k (t : Int)) = PE at C9
      have q0 := (B5.cell (p := ⟨w.heap.size, 0, none⟩) (Nat.lt_succ_self _)).trans HQ4.out.1
      have HS := hide (And.intro SC5 (And.intro B5 (And.intro OW5 (And.intro BB5 (And.intro z5 hs4)))))
      have HZT := hide hgb2
      clear RF SC5 B5 OW5 BB5 hlen sc hbt hown hp1 z5 hs4
      go_wp2_with fail
      refine C9.mono ?_
      rintro e w9 ⟨rfl, hb9⟩
      clear C9 q0 u0 u1 hW5
      obtain ⟨bb, off, rfl, -, hbb, hcells⟩ := HCF.out (by omega)
      obtain ⟨g0, g1, g2, -⟩ := hcells (P t) hp2
      have HTi : Hid (T t = (.int .i64 (cAt x.cells (P t)).1, .int .i64 (cAt x.cells (P t)).2.1, .slice (ab (P t)) (cAt x.cells (P t)).2.2.length (cb (P t)))) := by unfold Hid; rw [HTT.out]; rfl
      have B9 : Below (w.heap.size + 1) w4 w9 := HS.out.2.1.trans (hb9.mono (by have := HS.out.2.1.size; have := HS.out.2.2.2.2.2; have := HB4.out.size; omega))
      have BB9 : Below w.heap.size w w9 := HB4.out.trans (B9.mono (Nat.le_succ _))
      have hbw := HB0.out.trans (BB9.mono HB0.out.size)
      have u0 := (hbw.cell (p := ⟨bb, off + (P t) * 3, none⟩) hbb).trans g0
      have u1 := (hbw.cell (p := ⟨bb, off + (P t) * 3 + 1, none⟩) hbb).trans g1
      have u2 := (hbw.cell (p := ⟨bb, off + (P t) * 3 + 2, none⟩) hbb).trans g2
      have q1 := (B9.cell (p := ⟨w.heap.size, 1, none⟩) (Nat.lt_succ_self _)).trans HQ4.out.2
      have SC9 := HS.out.1.next (by have := HZT.out; have := HS.out.2.2.2.2; omega) hb9
      have OW9 := owns_below HS.out.2.2.1 hb9
      have hp5 : (0 : Int) ≤ (P t : Int) := by omega
      have hp6 : (P t : Int) < (C : Int) := by omega
      have HPI := hide hp2
      clear g0 g1 g2 hcells hbw hp2
      generalize (cAt x.cells (P t)).1 = kk at *
      generalize (cAt x.cells (P t)).2.1 = NN at *
      generalize (cAt x.cells (P t)).2.2.length = nb at *
      generalize ab (P t) = abp at *
      generalize cb (P t) = cbp at *
      generalize P t = p at *
      have OWN := OW9.alloc (.cells #[.int .i64 kk, .int .i64 NN, .slice abp nb cbp] 43)
      have HNW : Hid (∀ i u, [Value.int .i64 kk, .int .i64 NN, .slice abp nb cbp][i]? = some u → (w9.alloc (.cells #[.int .i64 kk, .int .i64 NN, .slice abp nb cbp] 43)).cell? ((⟨w9.heap.size, 0, none⟩ : Addr).add i) = some u) := by
        intro i u hu
        rw [add_off, Nat.zero_add]
        exact cell_new0 w9 _ 43 i u (by simpa using hu)
      have h49 : w4.heap.size ≤ w9.heap.size := B9.size
      have HZZ := hide (show w4.heap.size ≤ (w9.alloc (.cells #[.int .i64 kk, .int .i64 NN, .slice abp nb cbp] 43)).heap.size by simp; omega)
      have HST : Hid (rowT T (t + 1) = rowT T t ++ [.int .i64 kk, .int .i64 NN, .slice abp nb cbp]) := by unfold Hid; rw [rowT_step, HTi.out]
      have BA := one_alloc w9 (.cells #[.int .i64 kk, .int .i64 NN, .slice abp nb cbp] 43)
      have HNX := hide (And.intro (B9.trans (BA.mono (by have := HB4.out.size; have := HZT.out; omega))) (And.intro (SC9.next (by have := HZT.out; omega) BA) (show w.heap.size + 1 ≤ w4.heap.size by have := HZT.out; omega)))
      clear B9 BB9 SC9 OW9 BA HTi hb9 HS h49
      go_wp2_with (at_builtin; refine wpList_append_B rfl _ _ 23 rfl w4.heap.size 43 i0 (.agg #[.int .i64 0, .int .i64 0, .slice none 0 0]) 3 40 Tryd.underlying23 hi0 hz00 hz01 hz02 rfl (by decide) _ _ _ rfl OWN ⟨w9.heap.size, 0, none⟩ 1 1 [.int .i64 kk, .int .i64 NN, .slice abp nb cbp] rfl rfl HNW.out ?c2 ?c3 ?c4 HZZ.out ?_)
      case c2 =>
        intro u hu
        simp at hu
        rcases hu with rfl | rfl | rfl <;> rfl
      case c3 => unfold maxLen; omega
      case c4 => omega
      intro v' w1 hown1 hb1
      have hown2 : w1.ownsRow w4.heap.size 43 3 v' (t + 1) (rowT T (t + 1)) := by rw [HST.out]; exact hown1
      have HF := hide (And.intro (HNX.out.1.trans (hb1.mono HNX.out.2.2)) (And.intro (HNX.out.2.1.below hb1 HZT.out) (And.intro HZT.out hown2)))
      clear hown1 hown2 hb1 OWN HNW HZZ HNX HST u0 u1 u2 q1
      go_wp2
      go_roundg (U - (t + 1))
      case rel => exact ⟨t + 1, (t : Int), by omega, by go_num, HF.out⟩
      case measure => omega
    · have hte : t = U := by omega
      subst hte
      obtain ⟨a', c', rfl, hO⟩ := cellsO_own (n := N) (lo := lo) (w0 := w0) (g := fun i => cAt x.cells (P i)) hown (by have := HB4.out.size; omega) HCE.out
      have HO := hide (And.intro hO (HB4.out.trans (hbt.mono (Nat.le_succ _))))
      clear hO hown sc hbt
      go_wp2
      go_ret
      exact ⟨⟨a', c', rfl, HO.out.1⟩, HO.out.2⟩
end Go.Proofs.YtlfacpclihmnnaaDoor
namespace Go.Proofs.YtlfacpclihmnnaaDoor
open Go.ChangeShapes Go.WideShapes Go.ChangeAt Go.RowKit
open Num (resV resE In64 sgnI absI)
set_option linter.unusedVariables false
set_option linter.unusedSimpArgs false
set_option maxRecDepth 100000
/-- L cells in block g, from its beginning on, that may be written. -/
structure RowT (W : World) (g L : Nat) (T : Nat → Value × Value × Value) : Prop where
  lt : g < W.heap.size
  c0 : ∀ i, i < L → W.cell? ⟨g, i * 3, none⟩ = some (T i).1
  c1 : ∀ i, i < L → W.cell? ⟨g, i * 3 + 1, none⟩ = some (T i).2.1
  c2 : ∀ i, i < L → W.cell? ⟨g, i * 3 + 2, none⟩ = some (T i).2.2
  f : ∀ m, W.frozen? ⟨g, m, none⟩ = false
theorem RowT.below {W W' : World} {g L B : Nat} {T : Nat → Value × Value × Value} (h : RowT W g L T) (hb : Below B W W') (hB : g < B) : RowT W' g L T :=
  ⟨Nat.lt_of_lt_of_le h.lt hb.size, fun i hi => (hb.cell (p := ⟨g, i * 3, none⟩) hB).trans (h.c0 i hi), fun i hi => (hb.cell (p := ⟨g, i * 3 + 1, none⟩) hB).trans (h.c1 i hi), fun i hi => (hb.cell (p := ⟨g, i * 3 + 2, none⟩) hB).trans (h.c2 i hi), fun m => (hb.frozen (p := ⟨g, m, none⟩) hB).trans (h.f m)⟩
theorem RowT.next {W W' : World} {g L : Nat} {T : Nat → Value × Value × Value} (h : RowT W g L T) (hb : Below W.heap.size W W') : RowT W' g L T := h.below hb h.lt
def setT (T : Nat → Value × Value × Value) (k : Nat) (v : Value × Value × Value) (i : Nat) : Value × Value × Value := if i = k then v else T i
theorem RowT.put {W : World} {g L k : Nat} {T : Nat → Value × Value × Value} (h : RowT W g L T) (hk : k < L) (v0 v1 v2 : Value) :
    RowT (((W.setCell ⟨g, k * 3, none⟩ v0).setCell ⟨g, k * 3 + 1, none⟩ v1).setCell ⟨g, k * 3 + 2, none⟩ v2) g L (setT T k (v0, v1, v2)) := by
  refine ⟨by simpa using h.lt, fun i hi => ?_, fun i hi => ?_, fun i hi => ?_, fun m => frozen_set _ _ _ _ (frozen_set _ _ _ _ (frozen_set _ _ _ _ (h.f m)))⟩
  · unfold setT
    by_cases e : i = k
    · subst e
      rw [if_pos rfl, World.cell?_setCell_other _ _ _ _ (by simp), World.cell?_setCell_other _ _ _ _ (by simp)]
      exact World.cell?_setCell_same' _ _ _ (by rw [h.c0 i hi]; rfl)
    · rw [if_neg e, World.cell?_setCell_other _ _ _ _ (by simp <;> omega), World.cell?_setCell_other _ _ _ _ (by simp <;> omega), World.cell?_setCell_other _ _ _ _ (by simp <;> omega)]
      exact h.c0 i hi
  · unfold setT
    by_cases e : i = k
    · subst e
      rw [if_pos rfl, World.cell?_setCell_other _ _ _ _ (by simp)]
      exact World.cell?_setCell_same' _ _ _ (by rw [World.cell?_setCell_other _ _ _ _ (by simp), h.c1 i hi]; rfl)
    · rw [if_neg e, World.cell?_setCell_other _ _ _ _ (by simp <;> omega), World.cell?_setCell_other _ _ _ _ (by simp <;> omega), World.cell?_setCell_other _ _ _ _ (by simp <;> omega)]
      exact h.c1 i hi
  · unfold setT
    by_cases e : i = k
    · subst e
      rw [if_pos rfl]
      exact World.cell?_setCell_same' _ _ _ (by rw [World.cell?_setCell_other _ _ _ _ (by simp), World.cell?_setCell_other _ _ _ _ (by simp), h.c2 i hi]; rfl)
    · rw [if_neg e, World.cell?_setCell_other _ _ _ _ (by simp <;> omega), World.cell?_setCell_other _ _ _ _ (by simp <;> omega), World.cell?_setCell_other _ _ _ _ (by simp <;> omega)]
      exact h.c2 i hi
theorem below_put {B : Nat} {w W : World} {g k : Nat} {v0 v1 v2 : Value} (h : Below B w W) (hg : B ≤ g) : Below B w (((W.setCell ⟨g, k * 3, none⟩ v0).setCell ⟨g, k * 3 + 1, none⟩ v1).setCell ⟨g, k * 3 + 2, none⟩ v2) :=
  ((h.setCell (p := ⟨g, k * 3, none⟩) hg _).setCell (p := ⟨g, k * 3 + 1, none⟩) hg _).setCell (p := ⟨g, k * 3 + 2, none⟩) hg _
theorem RowT.cells {n lo g L : Nat} {w0 W : World} {T : Nat → Value × Value × Value} {G : Nat → Ce} (h : RowT W g L T) (hlo : lo ≤ g) (hT : ∀ i, i < L → CeIn (ArIn n lo w0) lo w0 (G i) (T i).1 (T i).2.1 (T i).2.2) : CellsO n lo w0 W (mkCs L G) (some ⟨g, 0, none⟩) := by
  refine Or.inr ⟨g, 0, rfl, hlo, h.lt, fun i hi => ?_⟩
  rw [mkCs_len] at hi
  rw [Nat.zero_add, mkCs_at _ _ _ hi]
  exact ⟨_, _, _, h.c0 i hi, h.c1 i hi, h.c2 i hi, hT i hi⟩
theorem cellsO_lie {n lo : Nat} {w0 w : World} {cs : List Ce} {a : Option Addr} (h : CellsO n lo w0 w cs a) (h0 : 0 < cs.length) : ∃ (p : Addr) (ab : Nat → Option Addr) (cb : Nat → Nat), a = some p ∧ Lies w a (rowT (cellT cs ab cb) cs.length) ∧ ∀ i, i < cs.length → CeIn (ArIn n lo w0) lo w0 (cAt cs i) (cellT cs ab cb i).1 (cellT cs ab cb i).2.1 (cellT cs ab cb i).2.2 := by
  obtain ⟨ab, cb, hf⟩ := cellsO_fn h
  obtain ⟨b, off, rfl, -, hb, hc⟩ := hf h0
  refine ⟨_, ab, cb, rfl, ⟨?_, rowT_one _ _ fun i _ => ⟨rfl, rfl, rfl⟩⟩, fun i hi => (hc i hi).2.2.2⟩
  refine Or.inr ⟨_, rfl, hb, fun j u hj => ?_⟩
  have hjl : j < cs.length * 3 := by
    rcases Nat.lt_or_ge j (cs.length * 3) with h | h
    · exact h
    · rw [List.getElem?_eq_none (by rw [rowT_len]; exact h)] at hj; cases hj
  obtain ⟨t0, t1, t2⟩ := rowT_at (cellT cs ab cb) cs.length (j / 3) (by omega)
  obtain ⟨g0, g1, g2, -⟩ := hc (j / 3) (by omega)
  rw [add_off]
  have hm : j = j / 3 * 3 ∨ j = j / 3 * 3 + 1 ∨ j = j / 3 * 3 + 2 := by omega
  rcases hm with e | e | e
  · rw [← e] at t0 g0; rw [t0] at hj; cases hj; exact g0
  · rw [← e] at t1; rw [t1] at hj; cases hj
    rw [show off + j = off + j / 3 * 3 + 1 by omega]; exact g1
  · rw [← e] at t2; rw [t2] at hj; cases hj
    rw [show off + j = off + j / 3 * 3 + 2 by omega]; exact g2
theorem rowT_owned {w : World} {base L : Nat} {v : Value} {T : Nat → Value × Value × Value} (h : w.ownsRow base 43 3 v L (rowT T L)) (h0 : 0 < L) : ∃ g c, v = .slice (some ⟨g, 0, none⟩) L c ∧ base ≤ g ∧ RowT w g L T := by
  have h' := h
  obtain ⟨h1, h2⟩ := h'
  rcases h2 with ⟨rfl, h3⟩ | ⟨g, cap, cur, rfl, hb, hg, -⟩
  · omega
  · refine ⟨g, cap, rfl, hb, lt_of_block hg, fun i hi => ?_, fun i hi => ?_, fun i hi => ?_, fun m => frozen_of_heap hg⟩
    · exact (h.cellAt _ (by omega)).trans (rowT_at T L i hi).1
    · exact (h.cellAt _ (by omega)).trans (rowT_at T L i hi).2.1
    · exact (h.cellAt _ (by omega)).trans (rowT_at T L i hi).2.2
set_option maxHeartbeats 4000000 in
theorem clone86 {n lo L cap : Nat} {cs : List Ce} {a : Option Addr} {w0 w : World} (hc : CellsO n lo w0 w cs a) (hL : cs.length = L) (h0 : 0 < L) (h16 : L ≤ 16384) :
    Calls Tryd.prog 86 #[.slice a L cap] w fun e w' => (∃ g c' ab cb, e = .returned (.slice (some ⟨g, 0, none⟩) L c') ∧ w.heap.size ≤ g ∧ RowT w' g L (cellT cs ab cb) ∧ ∀ i, i < L → CeIn (ArIn n lo w0) lo w0 (cAt cs i) (cellT cs ab cb i).1 (cellT cs ab cb i).2.1 (cellT cs ab cb i).2.2) ∧ Below w.heap.size w w' := by
  obtain ⟨i0, hi0, hz00, hz01, hz02⟩ := info33'
  obtain ⟨p, ab, cb, rfl, hlie, hce⟩ := cellsO_lie hc (by omega)
  rw [hL] at hlie hce
  obtain ⟨W2, e2⟩ : ∃ W2, w.alloc (.cells #[] 43) = W2 := ⟨_, rfl⟩
  have B2 : Below w.heap.size w W2 := by rw [← e2]; exact one_alloc _ _
  have HO : Hid (W2.ownsRow w.heap.size 43 3 (.slice (some ⟨w.heap.size, 0, none⟩) 0 0) 0 []) := by
    have := World.ownsRow_lit (base := w.heap.size) (e := 43) (size := 3) w #[] 0 (Nat.le_refl _) (by unfold maxLen; omega) rfl
    rw [e2] at this
    exact this
  have HL := hide (hlie.next B2)
  have hsl : (rowT (cellT cs ab cb) L).length = L * 3 := rowT_len _ _
  have HB2 := hide B2
  have HCE := hide hce
  clear hc B2 hlie hce
  generalize hTT : cellT cs ab cb = T at *
  have hq : ∀ W, (binOp .eql 23 (.slice (some p) L cap) (.slice none 0 0)).run Tryd.prog W = .ok (.bool false) W := fun W => Go.Lib.run_eql_slice_nil W 23 43 (some p) L cap 0 0 Tryd.underlying23
  go_enter Tryd.func86, Tryd.ntmps86
  go_wp2_with (at_builtin; refine wpList_append_any rfl _ _ 23 rfl w.heap.size 43 i0 (.agg #[.int .i64 0, .int .i64 0, .slice none 0 0]) 3 40 Tryd.underlying23 hi0 hz00 hz01 hz02 rfl (by decide) (.slice (some ⟨w.heap.size, 0, none⟩) 0 0) 0 [] rfl HO.out (some p) L cap (rowT T L) rfl hsl HL.out ?c3 ?c4 HB2.out.size ?_)
  case c3 => unfold maxLen; omega
  case c4 => omega
  intro v' w3 hown hb
  have hown' : w3.ownsRow w.heap.size 43 3 v' L (rowT T L) := by simpa using hown
  obtain ⟨g, c, rfl, hg, hr⟩ := rowT_owned hown' h0
  have HF := hide (And.intro hg (And.intro hr (HB2.out.trans hb)))
  clear hown hown' hb hg hr HL hsl
  go_wp2
  go_ret
  exact ⟨⟨g, c, ab, cb, rfl, HF.out.1, by rw [hTT]; exact HF.out.2.1, by rw [hTT]; exact HCE.out⟩, HF.out.2.2⟩
set_option maxHeartbeats 4000000 in
theorem ofNum70 (op : Int) (t : Bool) (h : op = 22 ∨ op = 26) (a b : Int) (ha : In64 a) (hb : In64 b) (w : World) :
    Calls Tryd.prog 70 #[.agg #[.int .i64 op, .bool t], .int .i64 a, .int .i64 b] w fun e w' => e = .returned (.tuple #[.int .i64 (tvI op t a b), .int .i64 (teI op t a b)]) ∧ Below w.heap.size w w' := by
  have hv : tvI op t a b = if t then twoV op b a else twoV op a b := rfl
  have he : teI op t a b = if t then twoE op b a else twoE op a b := rfl
  rw [hv, he]
  clear hv he
  rcases h with rfl | rfl
  · cases t
    · have C := Num.sub_any a b ha hb (w.alloc (.cells #[.int .i64 22, .bool false] 32))
      have e1 : (if false = true then twoV 22 b a else twoV 22 a b) = resV (a - b) := by simp [twoV]
      have e2 : (if false = true then twoE 22 b a else twoE 22 a b) = resE (a - b) := by simp [twoE]
      rw [e1, e2]
      generalize resV (a - b) = V at *
      generalize resE (a - b) = E at *
      clear e1 e2
      go_enter Tryd.func70, Tryd.ntmps70
      go_wp2_with fail
      refine C.mono ?_
      rintro e w1 ⟨rfl, hw⟩
      subst hw
      go_wp2
      exact bodyPost_ret (v := .tuple #[.int .i64 V, .int .i64 E]) (by simp [results, Tryd.results70, go_sem]) rfl ⟨rfl, one_alloc _ _⟩
    · have C := Num.sub_any b a hb ha (w.alloc (.cells #[.int .i64 22, .bool true] 32))
      have e1 : (if true = true then twoV 22 b a else twoV 22 a b) = resV (b - a) := by simp [twoV]
      have e2 : (if true = true then twoE 22 b a else twoE 22 a b) = resE (b - a) := by simp [twoE]
      rw [e1, e2]
      generalize resV (b - a) = V at *
      generalize resE (b - a) = E at *
      clear e1 e2
      go_enter Tryd.func70, Tryd.ntmps70
      go_wp2_with fail
      refine C.mono ?_
      rintro e w1 ⟨rfl, hw⟩
      subst hw
      go_wp2
      exact bodyPost_ret (v := .tuple #[.int .i64 V, .int .i64 E]) (by simp [results, Tryd.results70, go_sem]) rfl ⟨rfl, one_alloc _ _⟩
  · cases t
    · have C := Num.res_any a b ha (w.alloc (.cells #[.int .i64 26, .bool false] 32))
      have e1 : (if false = true then twoV 26 b a else twoV 26 a b) = b.fmod a := by simp [twoV]
      have e2 : (if false = true then twoE 26 b a else twoE 26 a b) = 0 := by simp [twoE]
      rw [e1, e2]
      generalize b.fmod a = V at *
      clear e1 e2
      go_enter Tryd.func70, Tryd.ntmps70
      go_wp2_with fail
      refine C.mono ?_
      rintro e w1 ⟨rfl, hw⟩
      subst hw
      go_wp2
      exact bodyPost_ret (v := .tuple #[.int .i64 V, .int .i64 0]) (by simp [results, Tryd.results70, go_sem]) rfl ⟨rfl, one_alloc _ _⟩
    · have C := Num.res_any b a hb (w.alloc (.cells #[.int .i64 26, .bool true] 32))
      have e1 : (if true = true then twoV 26 b a else twoV 26 a b) = a.fmod b := by simp [twoV]
      have e2 : (if true = true then twoE 26 b a else twoE 26 a b) = 0 := by simp [twoE]
      rw [e1, e2]
      generalize a.fmod b = V at *
      clear e1 e2
      go_enter Tryd.func70, Tryd.ntmps70
      go_wp2_with fail
      refine C.mono ?_
      rintro e w1 ⟨rfl, hw⟩
      subst hw
      go_wp2
      exact bodyPost_ret (v := .tuple #[.int .i64 V, .int .i64 0]) (by simp [results, Tryd.results70, go_sem]) rfl ⟨rfl, one_alloc _ _⟩
theorem dropI_cons (zs : List Int) (i : Nat) (h : i < zs.length) : zs.drop i = gI zs i :: zs.drop (i + 1) := by
  rw [List.drop_eq_getElem_cons h]
  congr 1
  simp [gI, h]
theorem frI_last (op : Int) (t : Bool) (zs : List Int) (h : 0 < zs.length) : frI op t (zs.drop (zs.length - 1)) = (gI zs (zs.length - 1), 0) := by
  rw [dropI_cons zs _ (by omega), show zs.length - 1 + 1 = zs.length by omega, List.drop_length]
  rfl
theorem frI_step (op : Int) (t : Bool) (zs : List Int) (i : Nat) (h : i + 1 < zs.length) (h0 : (frI op t (zs.drop (i + 1))).2 = 0) :
    frI op t (zs.drop i) = (tvI op t (gI zs i) (frI op t (zs.drop (i + 1))).1, teI op t (gI zs i) (frI op t (zs.drop (i + 1))).1) := by
  rw [dropI_cons zs i (by omega), dropI_cons zs (i + 1) h] at *
  rw [frI, if_pos h0]
theorem frI_stop (op : Int) (t : Bool) (zs : List Int) (i : Nat) (h : i < zs.length) (h0 : (frI op t (zs.drop i)).2 ≠ 0) : frI op t zs = frI op t (zs.drop i) := by
  induction i with
  | zero => rfl
  | succ i ih =>
    have e : frI op t (zs.drop i) = frI op t (zs.drop (i + 1)) := by
      rw [dropI_cons zs i (by omega), dropI_cons zs (i + 1) h] at *
      rw [frI, if_neg h0]
    rw [← e]
    exact ih (by omega) (by rw [e]; exact h0)
theorem tvI_bad {op : Int} {t : Bool} {a b : Int} (h : teI op t a b ≠ 0) : tvI op t a b = 0 := by
  unfold teI at h; unfold tvI
  cases t
  · exact two_bad h
  · exact two_bad h
theorem tvI_in64 {op : Int} {t : Bool} {a b : Int} (ha : In64 a) (hb : In64 b) : In64 (tvI op t a b) := by
  unfold tvI
  cases t
  · exact twoV_in64 ha hb
  · exact twoV_in64 hb ha
set_option maxHeartbeats 4000000 in
theorem fromR87 {lo L cap : Nat} {zs : List Int} {a : Option Addr} {op : Int} {t : Bool} {w : World} (ho : op = 22 ∨ op = 26) (R : Row lo w a zs) (hL : zs.length = L) (h1 : 1 ≤ L) (h16 : L ≤ 16384) (hin : ∀ z ∈ zs, In64 z) :
    Calls Tryd.prog 87 #[.slice a L cap, .func (.func 70) #[.agg #[.int .i64 op, .bool t]] #[]] w fun e w' => e = .returned (.tuple #[.int .i64 (frI op t zs).1, .int .i64 (frI op t zs).2]) ∧ Below w.heap.size w w' := by
  have hI : ∀ i, i < L → In64 (gI zs i) := fun i hi => hin _ (getD_mem (by rw [hL]; exact hi))
  have HI := hide hI
  have HLA := hide (show frI op t (zs.drop (L - 1)) = (gI zs (L - 1), 0) by have := frI_last op t zs (by omega); rw [hL] at this; exact this)
  have HST : Hid (∀ i, i + 1 < L → (frI op t (zs.drop (i + 1))).2 = 0 → frI op t (zs.drop i) = (tvI op t (gI zs i) (frI op t (zs.drop (i + 1))).1, teI op t (gI zs i) (frI op t (zs.drop (i + 1))).1)) := fun i hi h => frI_step op t zs i (by omega) h
  have HSP : Hid (∀ i, i < L → (frI op t (zs.drop i)).2 ≠ 0 → frI op t zs = frI op t (zs.drop i)) := fun i hi h => frI_stop op t zs i (by omega) h
  obtain ⟨b, off, rfl, hbl, hc0⟩ := row_at R (j := L - 1) (by omega)
  have HCC : Hid (∀ i, i < L → w.cell? ⟨b, off + i, none⟩ = some (.int .i64 (gI zs i))) := fun i hi => by
    obtain ⟨b', off', hbo, -, hcc⟩ := row_at R (j := i) (by omega)
    simp only [Option.some.injEq, Addr.mk.injEq, and_true] at hbo
    obtain ⟨rfl, rfl⟩ := hbo
    exact hcc
  have d0 := HCC.out (L - 1) (by omega)
  have hLz : (L : Int) - 1 < (L : Int) := by omega
  have hLn : ((L : Int) - 1).toNat = L - 1 := by omega
  have hi0 := hI (L - 1) (by omega)
  clear R hin hI hc0
  generalize gI zs (L - 1) = z0 at *
  go_enter Tryd.func87, Tryd.ntmps87
  go_wp2
  go_loopg [7, 8] (L - 1) (fun g ov iv wq => ∃ (j : Nat) (z : Int), g = j ∧ iv = .int .i64 ((j : Int) - 1) ∧ ov = .int .i64 z ∧ j < L ∧ frI op t (zs.drop j) = (z, 0) ∧ In64 z ∧ Below w.heap.size w wq)
  case atStart => exact ⟨L - 1, z0, rfl, by go_num, rfl, by omega, HLA.out, hi0, Below.refl _ _⟩
  case round =>
  obtain ⟨j, z, hgj, rfl, rfl, hjL, hfr, hz, hbt⟩ := hrel
  clear d0 hLz hLn HLA hi0
  rcases Nat.eq_zero_or_pos j with h0 | h0
  · subst h0
    rw [List.drop_zero] at hfr
    have HFR := hide hfr
    clear hfr HST HSP HCC HI
    go_wp2
    exact bodyPost_ret (v := .tuple #[.int .i64 z, .int .i64 0]) (by simp [results, Tryd.results87, go_sem]) rfl ⟨by rw [HFR.out], hbt⟩
  · obtain ⟨i, rfl⟩ : ∃ i, j = i + 1 := ⟨j - 1, by omega⟩
    rw [show ((i + 1 : Nat) : Int) - 1 = (i : Int) by omega]
    have hstep := HST.out i hjL (by rw [hfr])
    rw [hfr] at hstep
    have x0 := (hbt.cell (p := ⟨b, off + i, none⟩) hbl).trans (HCC.out i (by omega))
    have C := ofNum70 op t ho (gI zs i) z (HI.out i (by omega)) hz wr
    have HV := hide (tvI_in64 (op := op) (t := t) (HI.out i (by omega)) hz)
    have HB := hide (@tvI_bad op t (gI zs i) z)
    have HS := hide (And.intro hstep hbt)
    have hiz : (i : Int) < (L : Int) := by omega
    simp only at hstep HS
    generalize tvI op t (gI zs i) z = V at *
    generalize teI op t (gI zs i) z = E at *
    generalize gI zs i = y at *
    clear hfr hz hstep hbt HST HI HCC
    go_wp2_with fail
    refine C.mono ?_
    rintro e w1 ⟨rfl, hb1⟩
    clear C x0
    have HN := hide (HS.out.2.trans (hb1.mono HS.out.2.size))
    clear hb1
    by_cases hE : E = 0
    · subst hE
      go_wp2
      go_roundg i
      case rel => exact ⟨i, V, rfl, by go_num, rfl, by omega, HS.out.1, HV.out, HN.out⟩
      case measure => omega
    · have gE : (E == 0) = false := beq_eq_false_iff_ne.2 hE
      obtain rfl := HB.out hE
      have HFR : Hid (frI op t zs = (0, E)) := by
        unfold Hid
        rw [HSP.out i (by omega) (by rw [HS.out.1]; exact hE), HS.out.1]
      go_wp2
      exact bodyPost_ret (v := .tuple #[.int .i64 0, .int .i64 E]) (by simp [results, Tryd.results87, go_sem]) rfl ⟨by rw [HFR.out], HN.out⟩
end Go.Proofs.YtlfacpclihmnnaaDoor
