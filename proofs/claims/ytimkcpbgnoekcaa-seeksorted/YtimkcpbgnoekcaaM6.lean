/-
  The document's Item and Items of an array whose shape lies in a newer world than its cells.
  The contract of layer 6's repeated.
  The contracts of layer 6's pieces and Dy for RepF and RepL, and of the document's Listed.
  The document's Listed: its cells stay where they lie.
  The contracts of the document's Check and of layer 3's; for all arrays.
  The contract of the document's Mo (layer 7): each item once.
  The contract of the document's Mo (layer 7).
  Items that are gathered in an array of the call's own, with their number as its first axis.
-/
import Derived.Test.YtimkcpbgnoekcaaM5
import Derived.Test.YtimkcpbgnoekcaaChecked
import GoSem.Claim
import GoSem.ClaimJoined
import GoSem.ClaimMapViews
import Derived.JoinedTies
import Derived.KernelRfl
import Derived.WalkKit
import Derived.ProofKit
import Derived.Below
import Derived.Deep.OwnRows
import Derived.Deep.QuietTactic
import Derived.BigQuiet
import Derived.Deep.RegionWith
import Derived.Laws.MakeOwn
import Derived.Deep.RegionHeld3
import Derived.Laws.IdiomCopy
import Derived.Deep.Cut
import Derived.Deep.LoopGhost
import Derived.OpenShut
import Derived.ChangeOld
import Derived.SizedLaws
import Derived.Deep.Slices
import Derived.Deep.Strs
import Derived.Laws.AppendOwn
import Derived.BigFrame
import Derived.Deep.CutRange
import Derived.Deep.RegionLaw
import Derived.Laws.OwnMore
import Derived.Lib.SliceRun
import Derived.Laws.CopyOwn
import Derived.Lib.Mul64
import Derived.Lib.Overlaps
import Derived.Laws.EntriesVeiled
namespace Go.Proofs.Ytimkcpbgnoekcaa
open Go.ChangeShapes Go.WideShapes Go.ChangeAt Go.RowKit
set_option linter.unusedVariables false
set_option maxRecDepth 100000
/-- An array whose shape lies in one world and whose cells in another. -/
def ArW (n lo : Nat) (ws w0 : World) (x : Ar) (v : Value) : Prop := ∃ a1 c1 a2 c2, v = .agg #[.slice a1 x.shape.length c1, .slice a2 x.cells.length c2] ∧ Row lo ws a1 x.shape ∧ CellsIn n lo w0 x.cells a2
theorem ArIn.two {n lo : Nat} {w0 : World} {x : Ar} {v : Value} (h : ArIn (n + 1) lo w0 x v) : ArW n lo w0 w0 x v := h.form
set_option maxHeartbeats 4000000 in
theorem ritem_two {ws : World} {n lo i m : Nat} {x : Ar} {a1 a2 : Option Addr} {c1 c2 : Nat} {ab : Nat → Option Addr} {cb : Nat → Nat} {w0 w : World} (hx : ArW n lo ws w0 x (.agg #[.slice a1 x.shape.length c1, .slice a2 x.cells.length c2])) (hbs : Below ws.heap.size ws w) (hcf : CellsFn n lo w0 x.cells a2 ab cb) (hb0 : Below w0.heap.size w0 w) (hs : 0 < x.shape.length) (h8 : x.shape.length ≤ 8) (hE : sizeV x.shape.tail = (m : Int)) (hm : i * m + m ≤ x.cells.length) (hc16 : x.cells.length ≤ 16384) (hi16 : i ≤ 16384) (hc1 : x.shape.length ≤ c1) (hc2 : x.cells.length ≤ c2) :
    Calls Try.prog 19 #[.agg #[.slice a1 x.shape.length c1, .slice a2 x.cells.length c2], .int .i64 (i : Int)] w fun e w' => ItemC (fun q => cellT x.cells ab cb (i * m + q)) m w e w' := by
  obtain ⟨a1', c1', a2', c2', he, R, hc⟩ := id hx
  simp only [Value.agg.injEq, Array.mk.injEq, List.cons.injEq, Value.slice.injEq, and_true, true_and] at he
  obtain ⟨⟨rfl, rfl⟩, rfl, rfl⟩ := he
  obtain ⟨i3, hi3, hz30, hz31, hz32⟩ := infoI3
  obtain ⟨i0, hi0, hz00, hz01, hz02⟩ := info33'
  have I := in2_new w (.slice a1 x.shape.length c1) (.slice a2 x.cells.length c2)
  obtain ⟨W2, e2⟩ : ∃ W2, (w.alloc (.cells #[.slice a1 x.shape.length c1, .slice a2 x.cells.length c2] 25)).alloc (.cells #[.slice none 0 0, .slice none 0 0] 25) = W2 := ⟨_, rfl⟩
  rw [e2] at I
  have z2 : W2.heap.size = w.heap.size + 2 := by rw [← e2]; simp
  have q0 := I.q0
  have q1 := I.q1
  have HI := hide I
  have HP1 := hide fun W => part_l (P := Try.prog) Try.underlying22 size3 a1 x.shape.length c1 1 1 rfl hs W
  have hp1 := HP1.out
  have ht : ((x.shape.drop 1).take (x.shape.length - 1)) = x.shape.tail := by rw [List.take_of_length_le (by rw [List.length_drop]; omega), List.drop_one]
  have RT : Row lo ws (subA a1 1 c1 1) x.shape.tail := by have := R.part 1 c1 (x.shape.length - 1) (by omega) hc1; rw [ht] at this; exact this
  have tl : x.shape.tail.length = x.shape.length - 1 := by rw [List.length_tail]
  have C := rsize_any x.shape.tail (subA a1 1 c1 1) (c1 - 1) W2 (RT.next (hbs.trans (I.bel.mono hbs.size)))
  rw [tl, hE] at C
  generalize sizeE x.shape.tail = EE at *
  have CP := hc.part (i * m) c2 m hm hc2
  have hcl : ((x.cells.drop (i * m)).take m).length = m := by rw [List.length_take, List.length_drop]; omega
  obtain ⟨pp, hpp⟩ : ∃ pp : Nat, i * m = pp := ⟨_, rfl⟩
  obtain ⟨qq, hqq⟩ : ∃ qq : Nat, pp + m = qq := ⟨_, rfl⟩
  have hwp : IntKind.i64.wrap ((i : Int) * (m : Int)) = (pp : Int) := by rw [← Int.natCast_mul, hpp]; exact IntWalk.i64_in _ ⟨by omega, by omega⟩
  have hwq : IntKind.i64.wrap ((pp : Int) + (m : Int)) = (qq : Int) := by rw [← Int.natCast_add, hqq]; exact IntWalk.i64_in _ ⟨by omega, by omega⟩
  have hp2 : ∀ W, (Instr.sliceAt 23 (.slice a2 x.cells.length c2) (some (.int .i64 (pp : Int))) (some (.int .i64 (qq : Int))) none).run Try.prog W = .ok (.slice (subA a2 (i * m) c2 3) m (c2 - i * m)) W := fun W => by
    have := part_lh (P := Try.prog) Try.underlying23 size36 a2 x.cells.length c2 (i * m) (i * m + m) (pp : Int) (qq : Int) (by rw [hpp]) (by rw [hpp, hqq]) (by omega) (by omega) W
    rw [this, show i * m + m - i * m = m by omega]
  have hlie : Lies w0 (subA a2 (i * m) c2 3) (rowT (fun q => cellT x.cells ab cb (i * m + q)) m) := part_lies hcf (i * m) m hm hc2
  have hm16 : m ≤ 16384 := by omega
  have HL := hide hlie
  have HR := hide (And.intro RT CP)
  have HB0 := hide hb0
  have HBS := hide hbs
  have HK := hide (And.intro hs (And.intro h8 (And.intro tl hcl)))
  have hSA := hide (rfl : x.shape.length = x.shape.length)
  obtain ⟨SA, hSA⟩ : ∃ SA, x.shape.length = SA := ⟨_, rfl⟩
  obtain ⟨CA, hCA⟩ : ∃ CA, x.cells.length = CA := ⟨_, rfl⟩
  simp only [hSA, hCA] at C e2 q0 q1 HI hp1 hp2 HK hc1 hc2 hm hc16 h8 hs ⊢
  obtain ⟨at', hat⟩ : ∃ at', subA a1 1 c1 1 = at' := ⟨_, rfl⟩
  obtain ⟨ac, hac⟩ : ∃ ac, subA a2 (i * m) c2 3 = ac := ⟨_, rfl⟩
  obtain ⟨cc, hcc⟩ : ∃ cc, c2 - i * m = cc := ⟨_, rfl⟩
  obtain ⟨ct, hct⟩ : ∃ ct, c1 - 1 = ct := ⟨_, rfl⟩
  obtain ⟨SM, hSM⟩ : ∃ SM, SA - 1 = SM := ⟨_, rfl⟩
  rw [hat] at C HR
  simp only [hat, hct, hSM] at hp1 C HK
  simp only [hac, hcc] at hp2 HR HL
  have hSM8 : SM ≤ 8 := by omega
  clear RT CP hlie ht tl hcl hE hx hcf R hc I HP1 hSA hCA hat hac hcc hct hSM hpp hqq
  go_enter Try.func19, Try.ntmps19
  go_wp2_with fail
  clear e2
  refine C.mono ?_
  rintro e w1 ⟨rfl, rfl⟩
  clear C q0 q1
  obtain ⟨W3, e3⟩ : ∃ W3, w1.alloc (.cells #[.slice none 0 0, .slice none 0 0] 25) = W3 := ⟨_, rfl⟩
  have z3 : W3.heap.size = w.heap.size + 3 := by rw [← e3]; simp [z2]
  have B3 : Below w1.heap.size w1 W3 := by rw [← e3]; exact one_alloc _ _
  have o0 : W3.cell? ⟨w.heap.size + 2, 0, none⟩ = some (.slice none 0 0) := by rw [← e3, ← z2]; exact cell_new0 w1 _ 25 0 _ rfl
  have o1 : W3.cell? ⟨w.heap.size + 2, 1, none⟩ = some (.slice none 0 0) := by rw [← e3, ← z2]; exact cell_new0 w1 _ 25 1 _ rfl
  have of0 : W3.frozen? ⟨w.heap.size + 2, 0, none⟩ = false := by rw [← e3, ← z2]; exact frozen_new w1 _ 25 0
  have of1 : W3.frozen? ⟨w.heap.size + 2, 1, none⟩ = false := by rw [← e3, ← z2]; exact frozen_new w1 _ 25 1
  have I3 := HI.out.next B3
  have q0 := I3.q0
  have HLS : Hid (Lies W3.drew at' (x.shape.tail.map (Value.int .i64))) := (Lies.row_next HR.out.1 (HBS.out.trans (I3.bel.mono HBS.out.size))).drew
  have hsl : (x.shape.tail.map (Value.int .i64)).length = SM * 1 := by rw [List.length_map, HK.out.2.2.1]; omega
  have HI3 := hide I3
  have HZ3 := hide z3
  have HMX : Hid (0 + SM ≤ maxLen ∧ (0 + SM) * 8 ≤ 140737488355328) := ⟨by unfold maxLen; omega, by omega⟩
  have hO : Hid (w.heap.size + 2 < W3.heap.size) := by unfold Hid; omega
  have HE3 := hide e3
  clear I3 B3 HI z3 e3
  go_wp2
  rw [HE3.out]
  clear HE3
  go_cut [5] from 16 to 22 (fun s5 wx => s5 = .int .i64 (m : Int) ∧ ∃ al cl w4, SM ≤ cl ∧ w4.ownsRow W3.heap.size 3 1 (.slice al SM cl) SM (x.shape.tail.map (Value.int .i64)) ∧ Below W3.heap.size W3 w4 ∧ wx = w4.setCell ⟨w.heap.size + 2, 0, none⟩ (.slice al SM cl))
  case first =>
    go_region_law (refine step_append_any rfl (.tmp 17) (.tmp 20) 22 rfl W3.heap.size 3 i3 (.int .i64 0) 1 8 Try.underlying22 hi3 hz30 hz31 hz32 rfl (by decide) (.slice none 0 0) 0 [] rfl (World.ownsRow_nil _ _ _ _) at' SM ct (x.shape.tail.map (Value.int .i64)) rfl hsl HLS.out HMX.out.1 HMX.out.2 (Nat.le_refl _) ?_; intro v' w4 hown4 hb4; obtain ⟨al, cl, rfl, hcap4⟩ := owns_cap hown4; have d0 := hb4.cell (p := ⟨w.heap.size + 2, 0, none⟩) hO.out |>.trans o0; have df0 := hb4.frozen (p := ⟨w.heap.size + 2, 0, none⟩) hO.out |>.trans of0)
    all_goals
      simp only [List.nil_append, Nat.zero_add] at hown4 hcap4 ⊢
      have HF4 := hide (And.intro hcap4 (And.intro hown4 hb4))
      clear hown4 hcap4 hb4
      go_wp2
      go_meet
    all_goals
      case rel => exact ⟨rfl, _, _, _, HF4.out.1, HF4.out.2.1, (Below.refl _ _).drew.trans HF4.out.2.2, rfl⟩
  case rest =>
    obtain ⟨rfl, al, cl, w4, hcl, hown4, hb4, rfl⟩ := hcut
    clear q0 HLS hsl HMX
    obtain ⟨al', cl', hal, RL⟩ := owns_rowE x.shape.tail (by rw [HK.out.2.2.1]; omega) (by rw [HK.out.2.2.1]; exact hown4)
    simp only [Value.slice.injEq] at hal
    obtain ⟨rfl, -, rfl⟩ := hal
    have hz3 := HZ3.out
    have d0 : w4.cell? ⟨w.heap.size + 2, 0, none⟩ = some (.slice none 0 0) := (hb4.cell (p := ⟨w.heap.size + 2, 0, none⟩) (by show w.heap.size + 2 < _; omega)).trans o0
    obtain ⟨w5, e5⟩ : ∃ w5, w4.setCell ⟨w.heap.size + 2, 0, none⟩ (.slice al SM cl) = w5 := ⟨_, rfl⟩
    have z5 : w5.heap.size = w4.heap.size := by rw [← e5]; simp
    have z45 := hb4.size
    have I5 : In2 w (.slice a1 SA c1) (.slice a2 CA c2) w5 := by rw [← e5]; exact (HI3.out.belowS hb4 (by omega)).set (by omega) _
    have t0 : w5.cell? ⟨w.heap.size + 2, 0, none⟩ = some (.slice al SM cl) := by rw [← e5]; exact World.cell?_setCell_same' _ _ _ (by rw [d0]; rfl)
    have t1 : w5.cell? ⟨w.heap.size + 2, 1, none⟩ = some (.slice none 0 0) := by rw [← e5, World.cell?_setCell_other _ _ _ _ (by simp)]; exact (hb4.cell (p := ⟨w.heap.size + 2, 1, none⟩) (by show w.heap.size + 2 < _; omega)).trans o1
    have tf1 : w5.frozen? ⟨w.heap.size + 2, 1, none⟩ = false := by rw [← e5]; exact frozen_set _ _ _ _ ((hb4.frozen (p := ⟨w.heap.size + 2, 1, none⟩) (by show w.heap.size + 2 < _; omega)).trans of1)
    have K5 : Keeps W3.heap.size w4 w5 := by rw [← e5]; exact (Keeps.refl _ _).setCell (p := ⟨w.heap.size + 2, 0, none⟩) (by show w.heap.size + 2 < _; omega) _
    have HRL := hide (RL.keeps K5)
    have HI5 := hide I5
    have q1 := I5.q1
    have HLC : Hid (Lies w5.drew ac (rowT (fun q => cellT x.cells ab cb (i * m + q)) m)) := (HL.out.next (HB0.out.trans (I5.bel.mono HB0.out.size))).drew
    have hsl : (rowT (fun q => cellT x.cells ab cb (i * m + q)) m).length = m * 3 := rowT_len _ _
    have HMX : Hid (0 + m ≤ maxLen ∧ (0 + m) * 40 ≤ 140737488355328) := ⟨by unfold maxLen; omega, by omega⟩
    have hO5 : Hid (w.heap.size + 2 < w5.heap.size) := by unfold Hid; omega
    have HS := hide (And.intro z5 (And.intro z45 hz3))
    clear I5 K5 RL d0 hown4 hb4 HI3 z5 z45 hz3 o0 o1 of0 of1 hO hp1 HZ3
    rw [e5]
    clear e5
    go_wp2
    go_cut [5] from 23 to 37 (fun s5 wx => s5 = .int .i64 (m : Int) ∧ ∃ a3 c3 w6, m ≤ c3 ∧ w6.ownsRow w5.heap.size 39 3 (.slice a3 m c3) m (rowT (fun q => cellT x.cells ab cb (i * m + q)) m) ∧ Below w5.heap.size w5 w6 ∧ wx = w6.setCell ⟨w.heap.size + 2, 1, none⟩ (.slice a3 m c3))
    case first =>
      go_region_law (refine step_append_any rfl (.tmp 24) (.tmp 35) 23 rfl w5.heap.size 39 i0 (.agg #[.int .i64 0, .int .i64 0, .slice none 0 0]) 3 40 Try.underlying23 hi0 hz00 hz01 hz02 rfl (by decide) (.slice none 0 0) 0 [] rfl (World.ownsRow_nil _ _ _ _) ac m cc (rowT (fun q => cellT x.cells ab cb (i * m + q)) m) rfl hsl HLC.out HMX.out.1 HMX.out.2 (Nat.le_refl _) ?_; intro v' w6 hown6 hb6; obtain ⟨a3, c3, rfl, hcap6⟩ := owns_cap hown6; have d0 := hb6.cell (p := ⟨w.heap.size + 2, 1, none⟩) hO5.out |>.trans t1; have df0 := hb6.frozen (p := ⟨w.heap.size + 2, 1, none⟩) hO5.out |>.trans tf1)
      all_goals
        simp only [List.nil_append, Nat.zero_add] at hown6 hcap6 ⊢
        have HF4 := hide (And.intro hcap6 (And.intro hown6 hb6))
        clear hown6 hcap6 hb6
        go_wp2
        go_meet
      all_goals
        case rel => exact ⟨rfl, _, _, _, HF4.out.1, HF4.out.2.1, (Below.refl _ _).drew.trans HF4.out.2.2, rfl⟩
    case rest =>
      obtain ⟨rfl, a3, c3, w6, hcl3, hown6, hb6, rfl⟩ := hcut
      clear q1 HLC hsl HMX hwp hwq hp2
      have hz := HS.out
      have hb6s := hb6.size
      have hcl := HK.out.2.2.2
      have d1 : w6.cell? ⟨w.heap.size + 2, 1, none⟩ = some (.slice none 0 0) := (hb6.cell (p := ⟨w.heap.size + 2, 1, none⟩) (by show w.heap.size + 2 < _; omega)).trans t1
      have d0 : w6.cell? ⟨w.heap.size + 2, 0, none⟩ = some (.slice al SM cl) := (hb6.cell (p := ⟨w.heap.size + 2, 0, none⟩) (by show w.heap.size + 2 < _; omega)).trans t0
      obtain ⟨w7, e7⟩ : ∃ w7, w6.setCell ⟨w.heap.size + 2, 1, none⟩ (.slice a3 m c3) = w7 := ⟨_, rfl⟩
      have I7 : In2 w (.slice a1 SA c1) (.slice a2 CA c2) w7 := by rw [← e7]; exact (HI5.out.belowS hb6 (by omega)).set (by omega) _
      have s0 : w7.cell? ⟨w.heap.size + 2, 0, none⟩ = some (.slice al SM cl) := by rw [← e7, World.cell?_setCell_other _ _ _ _ (by simp)]; exact d0
      have s1 : w7.cell? ⟨w.heap.size + 2, 1, none⟩ = some (.slice a3 m c3) := by rw [← e7]; exact World.cell?_setCell_same' _ _ _ (by rw [d1]; rfl)
      have K7 : Keeps (w.heap.size + 3) w6 w7 := by rw [← e7]; exact (Keeps.refl _ _).setCell (p := ⟨w.heap.size + 2, 1, none⟩) (by show w.heap.size + 2 < _; omega) _
      have p0 := I7.p0
      have p1 := I7.p1
      have f0 := I7.f0
      have f1 := I7.f1
      have HT := hide (I7.put (.slice al SM cl) (.slice a3 m c3))
      have HFIN : Hid (∀ u v, ItemC (fun q => cellT x.cells ab cb (i * m + q)) m w (.returned (.agg #[.slice al SM cl, .slice a3 m c3])) ((w7.setCell ⟨w.heap.size + 1, 0, none⟩ u).setCell ⟨w.heap.size + 1, 1, none⟩ v)) := by
        intro u v
        have K8 : Keeps (w.heap.size + 3) w7 ((w7.setCell ⟨w.heap.size + 1, 0, none⟩ u).setCell ⟨w.heap.size + 1, 1, none⟩ v) := ((Keeps.refl _ _).setCell (p := ⟨w.heap.size + 1, 0, none⟩) (by show w.heap.size + 1 < _; omega) u).setCell (p := ⟨w.heap.size + 1, 1, none⟩) (by show w.heap.size + 1 < _; omega) v
        have hown8 := owns_keeps hown6 (K7.trans K8) (by omega)
        exact ⟨⟨_, _, _, _, _, rfl, lies_own hown8 fun q => ⟨rfl, rfl, rfl⟩⟩, I7.fin u v⟩
      clear I7 K7 hown6 hb6 d0 d1 hz HS HL HRL HR
      rw [e7]
      clear e7
      go_wp2
      exact bodyPost_ret (v := .agg #[.slice al SM cl, .slice a3 m c3]) (by simp [results, Try.results19, go_sem, HT.out.1, HT.out.2]) rfl (HFIN.out _ _)
set_option maxHeartbeats 8000000 in
theorem ritems_two {ws : World} {n lo lo' m : Nat} {x : Ar} {va : Value} {wh : List Int} {aw : Option Addr} {cw : Nat} {w0 w : World} (fk fN : Int) (hx : ArW n lo ws w0 x va) (hbs : Below ws.heap.size ws w) (hb0 : Below w0.heap.size w0 w) (Rw : Row lo' w aw wh) (hs : 0 < x.shape.length) (h8 : x.shape.length ≤ 8) (hE : sizeV x.shape.tail = (m : Int)) (hc16 : x.cells.length ≤ 16384) (hcap : Caps va) (hL : wh.length ≤ 16384) (hLm : wh.length * m ≤ 16384) (hm16 : m ≤ 16384)
    (hj : ∀ t, t < wh.length → 0 ≤ gI wh t → (gI wh t).toNat * m + m ≤ x.cells.length ∧ (gI wh t).toNat ≤ 16384) :
    Calls Try.prog 34 #[va, .slice aw wh.length cw, .agg #[.int .i64 fk, .int .i64 fN, .slice none 0 0]] w fun e w' => GivesZ (n + 1) w0 (itmsA x m wh fk fN) w e w' := by
  obtain ⟨a1, c1, a2, c2, rfl, R, hc⟩ := id hx
  obtain ⟨hc1, hc2⟩ := caps_form hcap
  obtain ⟨i3, hi3, hz30, hz31, hz32⟩ := infoI3
  obtain ⟨i0, hi0, hz00, hz01, hz02⟩ := info33'
  obtain ⟨ab, cb, hcf⟩ := cells_fn hc
  have I := inF_new w (.slice a1 x.shape.length c1) (.slice a2 x.cells.length c2) fk fN
  obtain ⟨W3, e3⟩ : ∃ W3, ((w.alloc (.cells #[.slice a1 x.shape.length c1, .slice a2 x.cells.length c2] 25)).alloc (.cells #[.int .i64 fk, .int .i64 fN, .slice none 0 0] 39)).alloc (.cells #[.slice none 0 0, .slice none 0 0] 25) = W3 := ⟨_, rfl⟩
  rw [e3] at I
  have z3 : W3.heap.size = w.heap.size + 3 := by rw [← e3]; simp
  obtain ⟨B, hB⟩ : ∃ B, W3.heap.size = B := ⟨_, rfl⟩
  obtain ⟨L, hLL⟩ : ∃ L, wh.length = L := ⟨_, rfl⟩
  obtain ⟨W5, e5⟩ : ∃ W5, (W3.alloc (.cells #[.int .i64 (L : Int)] 3)).alloc (.cells #[.slice (some ⟨B, 0, none⟩) 1 1, .slice none 0 0] 25) = W5 := ⟨_, rfl⟩
  have z4 : (W3.alloc (.cells #[.int .i64 (L : Int)] 3)).heap.size = B + 1 := by simp [hB]
  have z5 : W5.heap.size = B + 2 := by rw [← e5]; simp [hB]
  have B5 : Below W3.heap.size W3 W5 := by rw [← e5]; exact (two_allocs W3 _ _)
  have I5 := I.next B5
  have o0 : W5.cell? ⟨B + 1, 0, none⟩ = some (.slice (some ⟨B, 0, none⟩) 1 1) := by rw [← e5, ← z4]; exact cell_new0 _ _ 25 0 _ rfl
  have o1 : W5.cell? ⟨B + 1, 1, none⟩ = some (.slice none 0 0) := by rw [← e5, ← z4]; exact cell_new0 _ _ 25 1 _ rfl
  have of0 : W5.frozen? ⟨B + 1, 0, none⟩ = false := by rw [← e5, ← z4]; exact frozen_new _ _ 25 0
  have of1 : W5.frozen? ⟨B + 1, 1, none⟩ = false := by rw [← e5, ← z4]; exact frozen_new _ _ 25 1
  have ob : W5.heap[B + 1]? = some (.cells #[.slice (some ⟨B, 0, none⟩) 1 1, .slice none 0 0] 25) := by rw [← e5, ← z4]; exact heap_top _ _
  have ow : W5.ownsRow B 3 1 (.slice (some ⟨B, 0, none⟩) 1 1) 1 [.int .i64 (L : Int)] := by
    refine ⟨rfl, Or.inr ⟨B, 1, #[.int .i64 (L : Int)], rfl, Nat.le_refl _, ?_, Nat.le_refl _, by unfold maxLen; omega, rfl, rfl⟩⟩
    rw [← e5, ← hB]
    exact ((one_alloc (W3.alloc (.cells #[.int .i64 (L : Int)] 3)) _).block W3.heap.size (by rw [z4]; omega)).trans (heap_top _ _)
  have HP1 := hide fun W => part_l (P := Try.prog) Try.underlying22 size3 a1 x.shape.length c1 1 1 rfl hs W
  have hp1 := HP1.out
  have ht : ((x.shape.drop 1).take (x.shape.length - 1)) = x.shape.tail := by rw [List.take_of_length_le (by rw [List.length_drop]; omega), List.drop_one]
  have RT : Row lo ws (subA a1 1 c1 1) x.shape.tail := by have := R.part 1 c1 (x.shape.length - 1) (by omega) hc1; rw [ht] at this; exact this
  have tl : x.shape.tail.length = x.shape.length - 1 := by rw [List.length_tail]
  have HR := hide RT
  have HX := hide hx
  have HCF : Hid (CellsFn n lo w0 x.cells a2 ab cb) := hcf
  have HB0 := hide hb0
  have HBS := hide hbs
  have HRW := hide Rw
  have HJ := hide hj
  have HK := hide (And.intro hs (And.intro h8 (And.intro hc16 (And.intro hc1 hc2))))
  have HE := hide hE
  have HLL := hide hLL
  have HI5 := hide I5
  have HZ := hide (And.intro z3 (And.intro hB z5))
  have HE5 := hide e5
  have HOW := hide (And.intro ow ob)
  obtain ⟨SA, hSA⟩ : ∃ SA, x.shape.length = SA := ⟨_, rfl⟩
  obtain ⟨CA, hCA⟩ : ∃ CA, x.cells.length = CA := ⟨_, rfl⟩
  have HSC := hide (And.intro hSA hCA)
  obtain ⟨SM, hSM⟩ : ∃ SM, SA - 1 = SM := ⟨_, rfl⟩
  have HTL : Hid (x.shape.tail.length = SM) := by unfold Hid; rw [tl, hSA, hSM]
  obtain ⟨at', hat⟩ : ∃ at', subA a1 1 c1 1 = at' := ⟨_, rfl⟩
  obtain ⟨ct, hct⟩ : ∃ ct, c1 - 1 = ct := ⟨_, rfl⟩
  simp only [hSA, hCA, hLL] at e3 HI5 hp1 hL hLm hc16 h8 hs ⊢
  rw [hat] at HR
  simp only [hat, hct, hSM] at hp1
  have hSM8 : SM ≤ 8 := by omega
  clear RT ht tl hE hx R hc I hcap HP1 hSA hCA hat hct hSM hcf hb0 Rw hj hc1 hc2 hLL I5 B5 z3 z4 z5 e5 ow ob
  go_enter Try.func34, Try.ntmps34
  go_wp2
  rw [HE5.out]
  clear HE5 e3 hB
  have q0 := HI5.out.base.q0
  have HLS : Hid (Lies W5.drew at' (x.shape.tail.map (Value.int .i64))) := (Lies.row_next HR.out (HBS.out.trans (HI5.out.base.bel.mono HBS.out.size))).drew
  have hsl : (x.shape.tail.map (Value.int .i64)).length = SM * 1 := by rw [List.length_map, HTL.out]; omega
  have HMX : Hid (1 + SM ≤ maxLen ∧ (1 + SM) * 8 ≤ 140737488355328 ∧ B ≤ W5.drew.heap.size) := ⟨by unfold maxLen; omega, by omega, by have := HZ.out.2.2; show B ≤ W5.heap.size; omega⟩
  have hBn : Hid (some (B + 1) ≠ some B) := by unfold Hid; simp
  have hBl : Hid (B + 1 < W5.drew.heap.size) := by have := HZ.out.2.2; show B + 1 < W5.heap.size; omega
  go_cut [7] from 16 to 22 (fun s7 wx => s7 = .pointer (some ⟨B + 1, 0, none⟩) ∧ ∃ gb cl w6, w6.ownsRow B 3 1 (.slice (some ⟨gb, 0, none⟩) (1 + SM) cl) (1 + SM) ([.int .i64 (L : Int)] ++ x.shape.tail.map (Value.int .i64)) ∧ W5.grownBy w6 (some B) ∧ wx = w6.setCell ⟨B + 1, 0, none⟩ (.slice (some ⟨gb, 0, none⟩) (1 + SM) cl))
  case first =>
    go_region_law (refine step_append_grown rfl (.tmp 17) (.tmp 20) 22 rfl B 3 i3 (.int .i64 0) 1 8 Try.underlying22 hi3 hz30 hz31 hz32 rfl (by decide) (.slice (some ⟨B, 0, none⟩) 1 1) 1 [.int .i64 (L : Int)] rfl HOW.out.1 at' SM ct (x.shape.tail.map (Value.int .i64)) rfl hsl HLS.out HMX.out.1 HMX.out.2.1 HMX.out.2.2 ?_; intro v' w4 hown4 hg4; obtain ⟨gb, cl, rfl, -, -⟩ := owns_form1' hown4 (by omega); have d0 := hg4.cell (a := ⟨B + 1, 0, none⟩) o0 hBn.out; have df0 := (World.frozen?_of_block (a := ⟨B + 1, 0, none⟩) (hg4.block (B + 1) hBl.out hBn.out)).trans of0)
    all_goals
      have HF4 := hide (And.intro hown4 hg4)
      clear hown4 hg4
      go_wp2
      go_meet
    all_goals
      case rel => exact ⟨rfl, _, _, _, HF4.out.1, ⟨HF4.out.2.os, HF4.out.2.tape, HF4.out.2.output, HF4.out.2.size, HF4.out.2.block⟩, rfl⟩
  case rest =>
  obtain ⟨rfl, gb, cl, w4, hown4, hg4, rfl⟩ := hcut
  clear q0 HLS hsl HMX
  have hz := HZ.out
  have hne : gb ≠ B + 1 := own_ne hown4 ((hg4.block (B + 1) (by omega) (by simp)).trans HOW.out.2)
  obtain ⟨gb', cl', hge, hgl, hgs⟩ := owns_form1' hown4 (by omega)
  simp only [Value.slice.injEq, Option.some.injEq, Addr.mk.injEq, and_true, true_and] at hge
  obtain ⟨rfl, rfl⟩ := hge
  have SC4 : SoftC w4 gb ((L : Int) :: x.shape.tail) := owns_softC (by rw [List.length_cons, HTL.out]; omega) hown4
  have d0 : w4.cell? ⟨B + 1, 0, none⟩ = some (.slice (some ⟨B, 0, none⟩) 1 1) := hg4.cell (a := ⟨B + 1, 0, none⟩) o0 (by simp)
  have d1 : w4.cell? ⟨B + 1, 1, none⟩ = some (.slice none 0 0) := hg4.cell (a := ⟨B + 1, 1, none⟩) o1 (by simp)
  have df1 : w4.frozen? ⟨B + 1, 1, none⟩ = false := (World.frozen?_of_block (a := ⟨B + 1, 1, none⟩) (hg4.block (B + 1) (by omega) (by simp))).trans of1
  have B54 : Below B W5 w4 := ⟨hg4.os, hg4.tape, hg4.output, hg4.size, fun b hb => hg4.block b (by omega) (by simp; omega)⟩
  obtain ⟨w6, e6⟩ : ∃ w6, w4.setCell ⟨B + 1, 0, none⟩ (.slice (some ⟨gb, 0, none⟩) (1 + SM) cl) = w6 := ⟨_, rfl⟩
  have z6 : w6.heap.size = w4.heap.size := by rw [← e6]; simp
  have B6 : Below B W5 w6 := by rw [← e6]; exact B54.setCell (p := ⟨B + 1, 0, none⟩) (by show B ≤ B + 1; omega) _
  have I6 := HI5.out.belowS B6 (by omega)
  have t0 : w6.cell? ⟨B + 1, 0, none⟩ = some (.slice (some ⟨gb, 0, none⟩) (1 + SM) cl) := by rw [← e6]; exact World.cell?_setCell_same' _ _ _ (by rw [d0]; rfl)
  have t1 : w6.cell? ⟨B + 1, 1, none⟩ = some (.slice none 0 0) := by rw [← e6, World.cell?_setCell_other _ _ _ _ (by simp)]; exact d1
  have tf1 : w6.frozen? ⟨B + 1, 1, none⟩ = false := by rw [← e6]; exact frozen_set _ _ _ _ df1
  have HSF : Hid (SoftC w6 gb ((L : Int) :: x.shape.tail) ∧ gb ≠ B + 1 ∧ B ≤ gb ∧ gb < w6.heap.size) := by
    refine ⟨fun i hi => ?_, hne, hgl, by rw [z6]; exact hgs⟩
    obtain ⟨s1, s2⟩ := SC4 i hi
    rw [← e6]
    exact ⟨by rw [World.cell?_setCell_other _ _ _ _ (by simp)]; exact s1, frozen_set _ _ _ _ s2⟩
  have HO6 : Hid (B + 1 < w6.heap.size) := by unfold Hid; rw [z6]; have := hg4.size; omega
  have C := rsize_any x.shape.tail at' ct w6 (HR.out.next (HBS.out.trans (I6.base.bel.mono HBS.out.size)))
  rw [HTL.out, HE.out] at C
  generalize sizeE x.shape.tail = EE at *
  obtain ⟨T, hT⟩ : ∃ T, T = itT x.cells ab cb m wh fk fN := ⟨_, rfl⟩
  have HTT := hide hT
  have HG6 := hide (GrowC.new (T := T) t0 t1 tf1)
  have HI6 := hide I6
  have q0 := I6.base.q0
  have HBZ : Hid (B = w.heap.size + 3) := by unfold Hid; omega
  rw [e6]
  clear hne hgl hgs SC4 d0 d1 df1 B54 B6 I6 e6 hown4 hg4 z6 hz t0 t1 tf1 HOW HI5 HZ o0 o1 of0 of1 hBn hBl hT
  go_wp2_with fail
  refine C.mono ?_
  clear C q0
  rintro e w7 ⟨rfl, rfl⟩
  go_wp2
  go_loopg [10] L (fun g i wr => ∃ (t : Nat) (v : Value), g + t = L ∧ i = .int .i64 (t : Int) ∧ GrowC w7 (B + 1) (.slice (some ⟨gb, 0, none⟩) (1 + SM) cl) T (t * m) v wr)
  case atStart => exact ⟨0, _, rfl, rfl, by rw [Nat.zero_mul]; exact HG6.out⟩
  case round =>
    clear HG6
    obtain ⟨t, v, hg, rfl, hgr⟩ := hrel
    obtain ⟨wo, hwo⟩ : ∃ wo, wo = wr := ⟨_, rfl⟩
    subst hwo
    have HGR := hide hgr
    have hBz := HBZ.out
    have BW := hgr.below (B := B) (by omega) HO6.out
    have I6 := HI6.out.belowS BW (by omega)
    by_cases hlt : t < L
    · obtain ⟨wb, wf, rfl, hwb, hwc⟩ := row_at HRW.out (j := t) (by rw [HLL.out]; exact hlt)
      have hwc' : w.cell? ⟨wb, wf + t, none⟩ = some (.int .i64 (gI wh t)) := hwc
      have k0 := (I6.base.bel.cell (p := ⟨wb, wf + t, none⟩) hwb).trans hwc'
      have hLz : (t : Int) < (L : Int) := by omega
      have hJ := HJ.out t (by rw [HLL.out]; exact hlt)
      have HTS : Hid (∀ q, q < m → T (t * m + q) = if 0 ≤ gI wh t then cellT x.cells ab cb ((gI wh t).toNat * m + q) else (.int .i64 fk, .int .i64 fN, .slice none 0 0)) := fun q hq => by
        rw [HTT.out]; unfold itT; rw [(div_at hq).1, (div_at hq).2]
      have htm : t * m + m ≤ 16384 := by
        have := Nat.mul_le_mul_right m (show t + 1 ≤ L by omega)
        rw [Nat.succ_mul] at this; omega
      have HTM := hide htm
      have d1 := hgr.c1
      have df1 := hgr.f1
      have hO := HO6.out
      have hsz := hgr.io.size
      clear hwc hwc' hwb
      by_cases hz0 : 0 ≤ gI wh t
      · obtain ⟨j, hjz⟩ : ∃ j : Nat, gI wh t = (j : Int) := ⟨(gI wh t).toNat, by omega⟩
        obtain ⟨hj1, hj2⟩ := hJ hz0
        have HTI : Hid (rowT T (t * m + m) = rowT T (t * m) ++ rowT (fun q => cellT x.cells ab cb (j * m + q)) m) := by
          unfold Hid
          rw [rowT_add]
          congr 1
          exact rowT_congr fun q hq => by rw [HTS.out q hq, if_pos hz0, hjz, Int.toNat_natCast]
        rw [hjz] at k0 hj1 hj2
        rw [Int.toNat_natCast] at hj1 hj2
        have hkk := HK.out
        have HX' := HX.out
        have C9 := ritem_two (i := j) (m := m) (w := wo.drew) HX' (HBS.out.trans (I6.base.bel.mono HBS.out.size)).drew HCF.out (HB0.out.trans (I6.base.bel.mono HB0.out.size)).drew hkk.1 hkk.2.1 HE.out hj1 hkk.2.2.1 hj2 hkk.2.2.2.1 hkk.2.2.2.2
        rw [HSC.out.1, HSC.out.2] at C9
        have HC9 := hide C9
        have q0 := I6.base.q0
        have q1 := I6.base.q1
        have hjn : (0 : Int) ≤ (j : Int) := by omega
        have hfld := field25
        have HWS : Hid (B + 1 < wo.drew.heap.size ∧ w7.heap.size ≤ wo.drew.heap.size) := ⟨by show B + 1 < wo.heap.size; omega, by show _ ≤ wo.heap.size; omega⟩
        have HMX : Hid (t * m + m ≤ maxLen ∧ (t * m + m) * 40 ≤ 140737488355328) := ⟨by unfold maxLen; omega, by omega⟩
        have HRL : Hid ((rowT (fun q => cellT x.cells ab cb (j * m + q)) m).length = m * 3) := rowT_len _ _
        clear hj1 hj2 hJ hkk HX' C9 I6 BW HTS hz0 hjz hgr htm hsz hO hBz
        go_wp2
        go_region_law (first
          | (refine step_append_any rfl (.tmp 42) (.tmp 49) 23 rfl w7.heap.size 39 i0 (.agg #[.int .i64 0, .int .i64 0, .slice none 0 0]) 3 40 Try.underlying23 hi0 hz00 hz01 hz02 rfl (by decide) v (t * m) (rowT T (t * m)) (by first | rfl | go_simp) HO9.out a3 m c3 (rowT (fun q => cellT x.cells ab cb (j * m + q)) m) (by first | rfl | go_simp) HRL.out HL9.out HMX.out.1 HMX.out.2 HS9.out ?_; intro v' w1 hown1 hb1; obtain ⟨a4, c4, rfl, -⟩ := owns_cap hown1; have dd1 := (hb1.cell (p := ⟨B + 1, 1, none⟩) HO6.out).trans d9; have dd3 := (hb1.frozen (p := ⟨B + 1, 1, none⟩) HO6.out).trans df9)
          | (go_simp; go_at_call 19; refine HC9.out.mono ?_; rintro e w9 ⟨⟨sa9, sn9, sc9, a3, c3, rfl, hl9⟩, hb9⟩; have HO9 := hide (owns_below HGR.out.own ((Below.refl wo.heap.size wo).drew.trans hb9)); have HL9 := hide hl9; have HS9 := hide (Nat.le_trans HWS.out.2 hb9.size); have HB9 := hide hb9; have d9 := (hb9.cell (p := ⟨B + 1, 1, none⟩) HWS.out.1).trans d1; have df9 := (hb9.frozen (p := ⟨B + 1, 1, none⟩) HWS.out.1).trans df1))
        all_goals
          have hown2 : w1.ownsRow w7.heap.size 39 3 (.slice a4 (t * m + m) c4) (t * m + m) (rowT T (t * m + m)) := by rw [HTI.out]; exact hown1
          have HNX := hide (HGR.out.stepN HO6.out (((Below.refl w7.heap.size wo).drew.trans (HB9.out.mono HWS.out.2)).trans hb1) hown2)
          clear hown1 hown2 hb1 dd1 dd3 HB9 HL9 HO9 HS9 hb9 hl9 d9 df9 HC9 HTI HMX HRL hfld
          go_wp2
          go_roundg (L - (t + 1))
          case rel => exact ⟨t + 1, _, by omega, by go_num, by rw [Nat.succ_mul]; exact HNX.out⟩
          case measure => omega
      · have hzn : ¬ (0 : Int) ≤ gI wh t := hz0
        have hzl : gI wh t < 0 := by omega
        have HT2 : Hid (∀ q, q < m → T (t * m + q) = (.int .i64 fk, .int .i64 fN, .slice none 0 0)) := fun q hq => by rw [HTS.out q hq, if_neg hz0]
        have HG0 := hide hgr
        generalize gI wh t = z at *
        clear hJ HTS hz0 hgr htm hsz hO hBz I6 BW d1 df1
        go_wp2
        go_loopg [11] m (fun g i wr => ∃ (k : Nat) (v : Value), g + k = m ∧ i = .int .i64 (k : Int) ∧ GrowC w7 (B + 1) (.slice (some ⟨gb, 0, none⟩) (1 + SM) cl) T (t * m + k) v wr)
        case atStart => exact ⟨0, _, rfl, rfl, HG0.out⟩
        case round =>
          clear HG0 k0 HGR
          obtain ⟨k, v2, hgk, rfl, hgr⟩ := hrel
          obtain ⟨wq, hwq⟩ : ∃ wq, wq = wr := ⟨_, rfl⟩
          subst hwq
          have HGR := hide hgr
          by_cases hk : k < m
          · have hBz := HBZ.out
            have hO := HO6.out
            have hsz := hgr.io.size
            have htm := HTM.out
            have I8 := HI6.out.belowS (hgr.below (B := B) (by omega) HO6.out) (by omega)
            have r0 := I8.base.r0
            have r1 := I8.base.r1
            have r2 := I8.r2
            have d1 := hgr.c1
            have df1 := hgr.f1
            have hkm : (k : Int) < (m : Int) := by omega
            have HSTEP : Hid (rowT T (t * m + k + 1) = rowT T (t * m + k) ++ [.int .i64 fk, .int .i64 fN, .slice none 0 0]) := by unfold Hid; rw [rowT_step, HT2.out k hk]
            have OWN := hgr.own.alloc (.cells #[.int .i64 fk, .int .i64 fN, .slice none 0 0] 39)
            have x0 : (wq.alloc (.cells #[.int .i64 fk, .int .i64 fN, .slice none 0 0] 39)).cell? ⟨B + 1, 1, none⟩ = some v2 := ((one_alloc wq _).cell (p := ⟨B + 1, 1, none⟩) (by show B + 1 < _; omega)).trans d1
            have HNW : Hid (∀ i u, [Value.int .i64 fk, .int .i64 fN, .slice none 0 0][i]? = some u → (wq.alloc (.cells #[.int .i64 fk, .int .i64 fN, .slice none 0 0] 39)).cell? ((⟨wq.heap.size, 0, none⟩ : Addr).add i) = some u) := by
              intro i u hu
              rw [add_off, Nat.zero_add]
              exact cell_new0 wq _ 39 i u (by simpa using hu)
            have HMX : Hid (t * m + k + 1 ≤ maxLen ∧ (t * m + k + 1) * 40 ≤ 140737488355328 ∧ w7.heap.size ≤ (wq.alloc (.cells #[.int .i64 fk, .int .i64 fN, .slice none 0 0] 39)).heap.size) := ⟨by unfold maxLen; omega, by omega, Nat.le_trans hsz (one_alloc _ _).size⟩
            have HAB : Hid (Below w7.heap.size wq (wq.alloc (.cells #[.int .i64 fk, .int .i64 fN, .slice none 0 0] 39))) := (one_alloc wq _).mono hsz
            have HONE : Hid (∀ u ∈ [Value.int .i64 fk, .int .i64 fN, .slice none 0 0], u.oneCell' = true) := by
              intro u hu
              simp at hu
              rcases hu with rfl | rfl | rfl <;> rfl
            clear hgr I8 hBz hO hsz htm
            go_wp2_with (at_builtin; refine wpList_append_B rfl _ _ 23 rfl w7.heap.size 39 i0 (.agg #[.int .i64 0, .int .i64 0, .slice none 0 0]) 3 40 Try.underlying23 hi0 hz00 hz01 hz02 rfl (by decide) _ _ _ rfl OWN ⟨wq.heap.size, 0, none⟩ 1 1 [.int .i64 fk, .int .i64 fN, .slice none 0 0] rfl rfl HNW.out HONE.out HMX.out.1 HMX.out.2.1 HMX.out.2.2 ?_)
            intro v' w1 hown1 hb1
            obtain ⟨a4, c4, rfl, -⟩ := owns_cap hown1
            have hown2 : w1.ownsRow w7.heap.size 39 3 (.slice a4 (t * m + k + 1) c4) (t * m + k + 1) (rowT T (t * m + k + 1)) := by rw [HSTEP.out]; exact hown1
            have dd1 := (HAB.out.trans hb1).cell (p := ⟨B + 1, 1, none⟩) HO6.out |>.trans d1
            have dd3 := (HAB.out.trans hb1).frozen (p := ⟨B + 1, 1, none⟩) HO6.out |>.trans df1
            have HNX := hide (HGR.out.step HO6.out (HAB.out.trans hb1) hown2)
            clear hown1 hown2 hb1 OWN HNW HMX HAB HONE HSTEP x0 d1 df1 r0 r1 r2
            go_wp2
            go_roundg (m - (k + 1))
            case rel => exact ⟨k + 1, _, by omega, by go_num, HNX.out⟩
            case measure => omega
          · have hke : k = m := by omega
            subst hke
            have hkm : ¬ (k : Int) < (k : Int) := by omega
            clear hgr
            go_wp2
            go_roundg (L - (t + 1))
            case rel => exact ⟨t + 1, _, by omega, by go_num, by rw [Nat.succ_mul]; exact HGR.out⟩
            case measure => omega
    · have hte : t = L := by omega
      subst hte
      obtain ⟨g2, cp2, rfl, hcells⟩ := owns_cellsT T hgr.own
      have d0' := hgr.c0
      have d1' := hgr.c1
      have p0 := I6.base.p0
      have p1 := I6.base.p1
      have f0 := I6.base.f0
      have f1 := I6.base.f1
      have HT := hide (I6.base.put (.slice (some ⟨gb, 0, none⟩) (1 + SM) cl) (.slice g2 (t * m) cp2))
      have HFIN : Hid (∀ u v, GivesZ (n + 1) w0 (itmsA x m wh fk fN) w (.returned (.agg #[.slice (some ⟨gb, 0, none⟩) (1 + SM) cl, .slice g2 (t * m) cp2])) ((wo.setCell ⟨w.heap.size + 2, 0, none⟩ u).setCell ⟨w.heap.size + 2, 1, none⟩ v)) := by
        intro u v
        refine ⟨⟨_, rfl, fun W hW hK => ?_⟩, I6.base.fin u v⟩
        obtain ⟨SC, hne, hgl, hgs⟩ := HSF.out
        have hsz := hgr.io.size
        have hO := HO6.out
        have K2 : Keeps B wo ((wo.setCell ⟨w.heap.size + 2, 0, none⟩ u).setCell ⟨w.heap.size + 2, 1, none⟩ v) := ((Keeps.refl _ _).setCell (p := ⟨w.heap.size + 2, 0, none⟩) (by show w.heap.size + 2 < _; omega) u).setCell (p := ⟨w.heap.size + 2, 1, none⟩) (by show w.heap.size + 2 < _; omega) v
        have K3 := K2.trans (hK.mono (show w.heap.size ≤ B by omega))
        have RF : Row 0 W (some ⟨gb, 0, none⟩) ((t : Int) :: x.shape.tail) := by
          refine ⟨by rw [List.length_cons, HTL.out]; omega, Or.inr ⟨gb, 0, rfl, Nat.zero_le _, by have := K3.1; omega, fun i hi => ?_⟩⟩
          rw [Nat.zero_add]
          exact (K3.cell (p := ⟨gb, i, none⟩) hgl (by show gb < _; omega)).trans (hgr.cell hgs hne (SC i hi).1)
        have hcl : (itmsA x m wh fk fN).cells.length = t * m := by show (mkCs _ _).length = _; rw [mkCs_len, HLL.out]
        refine arIn_mk (x := itmsA x m wh fk fN) (by show Row 0 W _ ((wh.length : Int) :: x.shape.tail); rw [HLL.out]; exact RF) (by rw [hcl]; omega) ?_ (by show (List.cons _ x.shape.tail).length = _; rw [List.length_cons, HTL.out]; omega) hcl
        rcases hcells with h0 | ⟨g, rfl, hg1, hg2, hcc⟩
        · exact Or.inl (List.eq_nil_of_length_eq_zero (by rw [hcl]; exact h0))
        · refine Or.inr ⟨g, 0, rfl, Nat.zero_le _, Nat.lt_of_lt_of_le hg2 K3.1, fun i hi => ?_⟩
          rw [hcl] at hi
          obtain ⟨e0, e1, e2⟩ := hcc i hi
          rw [Nat.zero_add]
          have ap : ∀ (o : Nat) (q : Value), wo.cell? ⟨g, o, none⟩ = some q → W.cell? ⟨g, o, none⟩ = some q := fun o q h => (K3.cell (p := ⟨g, o, none⟩) (by show B ≤ g; omega) hg2).trans h
          refine ⟨_, _, _, ap _ _ e0, ap _ _ e1, ap _ _ e2, ?_⟩
          have hm0 : 0 < m := by
            rcases Nat.eq_zero_or_pos m with h | h
            · rw [h] at hi; simp at hi
            · exact h
          have hd : i / m < t := Nat.div_lt_of_lt_mul (by rw [Nat.mul_comm]; exact hi)
          have hr := Nat.mod_lt i hm0
          have ec : cAt (itmsA x m wh fk fN).cells i = itC x m wh fk fN i := mkCs_at _ _ _ (by rw [HLL.out]; exact hi)
          rw [ec, HTT.out]
          unfold itC itT
          by_cases hz : 0 ≤ gI wh (i / m)
          · rw [if_pos hz, if_pos hz]
            obtain ⟨hj1, -⟩ := HJ.out (i / m) (by rw [HLL.out]; exact hd) hz
            obtain ⟨b, off, -, -, hb, hcl2⟩ := HCF.out (by omega)
            obtain ⟨-, -, -, hce⟩ := hcl2 ((gI wh (i / m)).toNat * m + i % m) (by omega)
            exact hce.mono (Nat.zero_le _) hW fun x v h => h.mono (Nat.zero_le _) hW
          · rw [if_neg hz, if_neg hz]
            exact ⟨rfl, rfl, none, 0, rfl, by simp, Or.inl rfl⟩
      clear I6 hgr HGR HCF hcells BW HSF HJ HSC HTT hBz HI6 HX HBZ
      go_wp2
      exact bodyPost_ret (v := .agg #[.slice (some ⟨gb, 0, none⟩) (1 + SM) cl, .slice g2 (t * m) cp2]) (by simp [results, Try.results34, go_sem, HT.out.1, HT.out.2]) rfl (HFIN.out _ _)
end Go.Proofs.Ytimkcpbgnoekcaa
namespace Go.Proofs.Ytimkcpbgnoekcaa
open Go.ChangeShapes Go.WideShapes Go.ChangeAt Go.RowKit
set_option linter.unusedVariables false
set_option maxRecDepth 100000
theorem belowN {B : Nat} {a w : World} (h : Below B a w) (n : Nat) : Below B a (w.drewN n) := h.trans ⟨rfl, rfl, rfl, Nat.le_refl _, fun _ _ => rfl⟩
end Go.Proofs.Ytimkcpbgnoekcaa
namespace Go.Proofs.Ytimkcpbgnoekcaa
open Go.ChangeShapes Go.WideShapes Go.ChangeAt Go.RowKit
set_option linter.unusedVariables false
set_option maxRecDepth 100000
set_option maxHeartbeats 4000000 in
theorem rlisted_any {n lo : Nat} {x : Ar} {va : Value} {w0 w : World} (hx : ArIn (n + 1) lo w0 x va) (hb0 : Below w0.heap.size w0 w) (hcap : Caps va) : Calls Try.prog 20 #[va] w fun e w' => GivesK (n + 1) w0 (lstA x) w e w' := by
  obtain ⟨a1, c1, a2, c2, rfl, R, hc⟩ := hx.form
  have I := in2_new w (.slice a1 x.shape.length c1) (.slice a2 x.cells.length c2)
  obtain ⟨W2, e2⟩ : ∃ W2, (w.alloc (.cells #[.slice a1 x.shape.length c1, .slice a2 x.cells.length c2] 25)).alloc (.cells #[.slice none 0 0, .slice none 0 0] 25) = W2 := ⟨_, rfl⟩
  have hz2 : W2.heap.size = w.heap.size + 2 := by rw [← e2]; simp
  have hf0 : W2.frozen? ⟨w.heap.size, 0, none⟩ = false := by
    rw [← e2]
    exact ((one_alloc (w.alloc (.cells #[.slice a1 x.shape.length c1, .slice a2 x.cells.length c2] 25)) _).frozen (p := ⟨w.heap.size, 0, none⟩) (by simp)).trans (frozen_new w _ 25 0)
  rw [e2] at I
  have q0 := I.q0
  have q1 := I.q1
  have HX := hide (And.intro hx hcap)
  have HXC := hide hc
  have HC16 : Hid (x.cells.length ≤ 5864062014805) := by obtain ⟨_, _, _, _, -, -, h, -⟩ := hx; exact h
  by_cases h0 : x.shape.length = 0
  · have HE : Hid (lstA x = .mk [1] x.cells) := by unfold Hid lstA; rw [if_pos h0]
    obtain ⟨W3, e3⟩ : ∃ W3, W2.alloc (.cells #[.int .i64 1] 3) = W3 := ⟨_, rfl⟩
    have B3 : Below W2.heap.size W2 W3 := by rw [← e3]; exact one_alloc _ _
    have z3 : W3.heap.size = w.heap.size + 3 := by rw [← e3]; simp [hz2]
    have o0 : W3.cell? ⟨w.heap.size + 2, 0, none⟩ = some (.int .i64 1) := by rw [← e3, ← hz2]; exact cell_new0 W2 _ 3 0 _ rfl
    have I3 := I.next B3
    have s0 : W3.cell? ⟨w.heap.size, 0, none⟩ = some (.slice a1 x.shape.length c1) := I3.q0
    have s1 : W3.cell? ⟨w.heap.size, 1, none⟩ = some (.slice a2 x.cells.length c2) := I3.q1
    have g0 := I3.p0
    have g1 := I3.p1
    have gf0 := I3.f0
    have gf1 := I3.f1
    have HT := hide (set_two g0 g1 (.slice (some ⟨w.heap.size + 2, 0, none⟩) 1 1) (.slice a2 x.cells.length c2))
    have HF : Hid (∀ u v, GivesK (n + 1) w0 (lstA x) w (.returned (.agg #[.slice (some ⟨w.heap.size + 2, 0, none⟩) 1 1, .slice a2 x.cells.length c2])) ((W3.setCell ⟨w.heap.size + 1, 0, none⟩ u).setCell ⟨w.heap.size + 1, 1, none⟩ v)) := by
      intro u v
      have B4 : Below w.heap.size w W3 := I3.bel
      refine ⟨⟨_, rfl, ⟨_, _, _, _, _, _, rfl, Nat.le_refl _, (caps_form HX.out.2).2⟩, fun W hW hK => ?_⟩, (B4.setCell (p := ⟨w.heap.size + 1, 0, none⟩) (by show _ ≤ w.heap.size + 1; omega) _).setCell (p := ⟨w.heap.size + 1, 1, none⟩) (by show _ ≤ w.heap.size + 1; omega) _⟩
      have K := (keeps_two W3 w.heap.size u v).trans (hK.mono (show w.heap.size ≤ w.heap.size + 2 by omega))
      have o1 := (K.cell (p := ⟨w.heap.size + 2, 0, none⟩) (Nat.le_refl _) (by show w.heap.size + 2 < _; omega)).trans o0
      have hk := K.1
      rw [HE.out]
      exact arIn_mk (x := .mk [1] x.cells) (row_one (by omega) (Nat.zero_le _) o1) HC16.out (HXC.out.mono (Nat.zero_le _) hW) rfl rfl
    clear hx hc R hb0 hcap B3 z3 I I3 o0 HX HXC hf0
    simp only [h0] at q0 e2 ⊢
    clear h0
    generalize x.cells.length = CA at *
    go_enter Try.func20, Try.ntmps20
    go_wp2
    exact bodyPost_ret (v := .agg #[.slice (some ⟨w.heap.size + 2, 0, none⟩) 1 1, .slice a2 CA c2]) (by simp [results, Try.results20, go_sem, HT.out.1, HT.out.2]) rfl (HF.out _ _)
  · have HE : Hid (lstA x = x) := by unfold Hid lstA; rw [if_neg h0]
    have p0 := I.p0
    have p1 := I.p1
    have f0 := I.f0
    have f1 := I.f1
    have HT := hide (I.put (.slice a1 x.shape.length c1) (.slice a2 x.cells.length c2))
    have HF : Hid (∀ u v, GivesK (n + 1) w0 (lstA x) w (.returned (.agg #[.slice a1 x.shape.length c1, .slice a2 x.cells.length c2])) ((W2.setCell ⟨w.heap.size + 1, 0, none⟩ u).setCell ⟨w.heap.size + 1, 1, none⟩ v)) := fun u v => ⟨⟨_, rfl, HX.out.2, fun W hW _ => by rw [HE.out]; exact HX.out.1.mono (Nat.zero_le _) hW⟩, I.fin u v⟩
    have hSb : ((x.shape.length : Int) == 0) = false := by simp; exact fun h => h0 (by rw [h]; rfl)
    clear hx hc R hb0 hcap I h0 HX HXC
    generalize x.cells.length = CA at *
    generalize x.shape.length = SA at *
    go_enter Try.func20, Try.ntmps20
    go_wp2
    exact bodyPost_ret (v := .agg #[.slice a1 SA c1, .slice a2 CA c2]) (by simp [results, Try.results20, go_sem, HT.out.1, HT.out.2]) rfl (HF.out _ _)
end Go.Proofs.Ytimkcpbgnoekcaa
namespace Go.Proofs.Ytimkcpbgnoekcaa
open Go.ChangeShapes Go.WideShapes Go.ChangeAt Go.RowKit
set_option linter.unusedVariables false
set_option maxRecDepth 100000
def ListW (a2 : Option Addr) (c2 : Nat) (x : Ar) (w0 w : World) (e : Ending) (w' : World) : Prop := (∃ s1 k1, e = .returned (.agg #[.slice s1 (lstA x).shape.length k1, .slice a2 x.cells.length c2]) ∧ (lstA x).shape.length ≤ k1 ∧ ∀ W, Below w0.heap.size w0 W → Keeps w.heap.size w' W → Row 0 W s1 (lstA x).shape) ∧ Below w.heap.size w w'
set_option maxHeartbeats 4000000 in
theorem rlistedW {n lo c1 c2 : Nat} {a1 a2 : Option Addr} {x : Ar} {w0 w : World} (hx : ArIn (n + 1) lo w0 x (.agg #[.slice a1 x.shape.length c1, .slice a2 x.cells.length c2])) (R : Row lo w0 a1 x.shape) (hb0 : Below w0.heap.size w0 w) (hcap : Caps (.agg #[.slice a1 x.shape.length c1, .slice a2 x.cells.length c2])) : Calls Try.prog 20 #[.agg #[.slice a1 x.shape.length c1, .slice a2 x.cells.length c2]] w fun e w' => ListW a2 c2 x w0 w e w' := by
  have HRR := hide R
  have I := in2_new w (.slice a1 x.shape.length c1) (.slice a2 x.cells.length c2)
  obtain ⟨W2, e2⟩ : ∃ W2, (w.alloc (.cells #[.slice a1 x.shape.length c1, .slice a2 x.cells.length c2] 25)).alloc (.cells #[.slice none 0 0, .slice none 0 0] 25) = W2 := ⟨_, rfl⟩
  have hz2 : W2.heap.size = w.heap.size + 2 := by rw [← e2]; simp
  have hf0 : W2.frozen? ⟨w.heap.size, 0, none⟩ = false := by
    rw [← e2]
    exact ((one_alloc (w.alloc (.cells #[.slice a1 x.shape.length c1, .slice a2 x.cells.length c2] 25)) _).frozen (p := ⟨w.heap.size, 0, none⟩) (by simp)).trans (frozen_new w _ 25 0)
  rw [e2] at I
  have q0 := I.q0
  have q1 := I.q1
  have HX := hide (And.intro hx hcap)
  have HC16 : Hid (x.cells.length ≤ 5864062014805) := by obtain ⟨_, _, _, _, -, -, h, -⟩ := hx; exact h
  by_cases h0 : x.shape.length = 0
  · have HE : Hid (lstA x = .mk [1] x.cells) := by unfold Hid lstA; rw [if_pos h0]
    obtain ⟨W3, e3⟩ : ∃ W3, W2.alloc (.cells #[.int .i64 1] 3) = W3 := ⟨_, rfl⟩
    have B3 : Below W2.heap.size W2 W3 := by rw [← e3]; exact one_alloc _ _
    have z3 : W3.heap.size = w.heap.size + 3 := by rw [← e3]; simp [hz2]
    have o0 : W3.cell? ⟨w.heap.size + 2, 0, none⟩ = some (.int .i64 1) := by rw [← e3, ← hz2]; exact cell_new0 W2 _ 3 0 _ rfl
    have I3 := I.next B3
    have s0 : W3.cell? ⟨w.heap.size, 0, none⟩ = some (.slice a1 x.shape.length c1) := I3.q0
    have s1 : W3.cell? ⟨w.heap.size, 1, none⟩ = some (.slice a2 x.cells.length c2) := I3.q1
    have g0 := I3.p0
    have g1 := I3.p1
    have gf0 := I3.f0
    have gf1 := I3.f1
    have HT := hide (set_two g0 g1 (.slice (some ⟨w.heap.size + 2, 0, none⟩) 1 1) (.slice a2 x.cells.length c2))
    have HF : Hid (∀ u v, ListW a2 c2 x w0 w (.returned (.agg #[.slice (some ⟨w.heap.size + 2, 0, none⟩) 1 1, .slice a2 x.cells.length c2])) ((W3.setCell ⟨w.heap.size + 1, 0, none⟩ u).setCell ⟨w.heap.size + 1, 1, none⟩ v)) := by
      intro u v
      have B4 : Below w.heap.size w W3 := I3.bel
      have hsl : (lstA x).shape = [1] := by rw [HE.out]; rfl
      refine ⟨⟨some ⟨w.heap.size + 2, 0, none⟩, 1, by rw [hsl]; rfl, by rw [hsl]; exact Nat.le_refl _, fun W hW hK => ?_⟩, (B4.setCell (p := ⟨w.heap.size + 1, 0, none⟩) (by show _ ≤ w.heap.size + 1; omega) _).setCell (p := ⟨w.heap.size + 1, 1, none⟩) (by show _ ≤ w.heap.size + 1; omega) _⟩
      have K := (keeps_two W3 w.heap.size u v).trans (hK.mono (show w.heap.size ≤ w.heap.size + 2 by omega))
      have o1 := (K.cell (p := ⟨w.heap.size + 2, 0, none⟩) (Nat.le_refl _) (by show w.heap.size + 2 < _; omega)).trans o0
      have hk := K.1
      rw [hsl]
      exact row_one (by omega) (Nat.zero_le _) o1
    clear hx R hb0 hcap B3 z3 I I3 o0 HX hf0 HRR
    simp only [h0] at q0 e2 ⊢
    clear h0
    generalize x.cells.length = CA at *
    go_enter Try.func20, Try.ntmps20
    go_wp2
    exact bodyPost_ret (v := .agg #[.slice (some ⟨w.heap.size + 2, 0, none⟩) 1 1, .slice a2 CA c2]) (by simp [results, Try.results20, go_sem, HT.out.1, HT.out.2]) rfl (HF.out _ _)
  · have HE : Hid (lstA x = x) := by unfold Hid lstA; rw [if_neg h0]
    have p0 := I.p0
    have p1 := I.p1
    have f0 := I.f0
    have f1 := I.f1
    have HT := hide (I.put (.slice a1 x.shape.length c1) (.slice a2 x.cells.length c2))
    have HF : Hid (∀ u v, ListW a2 c2 x w0 w (.returned (.agg #[.slice a1 x.shape.length c1, .slice a2 x.cells.length c2])) ((W2.setCell ⟨w.heap.size + 1, 0, none⟩ u).setCell ⟨w.heap.size + 1, 1, none⟩ v)) := fun u v => ⟨⟨a1, c1, by rw [HE.out], by rw [HE.out]; exact (caps_form HX.out.2).1, fun W hW _ => by rw [HE.out]; exact (HRR.out.low (Nat.zero_le _)).next hW⟩, I.fin u v⟩
    have hSb : ((x.shape.length : Int) == 0) = false := by simp; exact fun h => h0 (by rw [h]; rfl)
    clear hx R hb0 hcap I h0 HX HRR
    generalize x.cells.length = CA at *
    generalize x.shape.length = SA at *
    go_enter Try.func20, Try.ntmps20
    go_wp2
    exact bodyPost_ret (v := .agg #[.slice a1 SA c1, .slice a2 CA c2]) (by simp [results, Try.results20, go_sem, HT.out.1, HT.out.2]) rfl (HF.out _ _)
end Go.Proofs.Ytimkcpbgnoekcaa
namespace Go.Proofs.Ytimkcpbgnoekcaa
open Go.ChangeShapes Go.WideShapes Go.ChangeAt Go.RowKit
set_option linter.unusedVariables false
set_option maxHeartbeats 2000000 in
theorem rcheckB_any (n B : Nat) (f : Ar → Int) (IH : InnerC 35 n B f) (x : Ar) (lo : Nat) (va : Value) (w : World) (hx : ArIn (n + 1) lo w x va) :
    Calls Try.prog 35 #[va, .int .i64 (B : Int)] w fun e w' => e = .returned (.int .i64 (chkB f x)) ∧ Below w.heap.size w w' := by
  obtain ⟨a1, c1, a2, c2, rfl, R, hl, hc⟩ := hx
  have K1 : Hid (¬ sizeE x.shape = 0 → chkB f x = sizeE x.shape) := fun h => by unfold chkB; rw [if_pos h]
  have K2 : Hid (sizeE x.shape = 0 → ¬ sizeV x.shape = x.cells.length → chkB f x = 1) := fun h h' => by unfold chkB; rw [if_neg (fun k => k h), if_pos h']
  have K3 : Hid (sizeE x.shape = 0 → sizeV x.shape = x.cells.length → hasLong x.shape → chkB f x = 12) := fun h h' h'' => by unfold chkB; rw [if_neg (fun k => k h), if_neg (fun k => k h'), if_pos h'']
  have K4 : Hid (sizeE x.shape = 0 → sizeV x.shape = x.cells.length → ¬ hasLong x.shape → chkB f x = firstUp (chkF f x) x.cells.length) := fun h h' h'' => by unfold chkB; rw [if_neg (fun k => k h), if_neg (fun k => k h'), if_neg h'']
  generalize chkB f x = r at K1 K2 K3 K4
  have b0 := one_alloc w (.cells #[.slice a1 x.shape.length c1, .slice a2 x.cells.length c2] 25)
  have C1 := rsize_any x.shape a1 c1 _ (R.next b0)
  have hlR := R.1
  have HB0 : Hid (Below w.heap.size w (w.alloc (.cells #[.slice a1 x.shape.length c1, .slice a2 x.cells.length c2] 25))) := b0
  have HS : Hid (∀ i, i < x.shape.length → ∃ b off s, a1 = some ⟨b, off, none⟩ ∧ (16384 < s → hasLong x.shape) ∧ (x.shape[i]?.getD 0 = s) ∧ (w.alloc (.cells #[.slice a1 x.shape.length c1, .slice a2 x.cells.length c2] 25)).cell? ⟨b, off + i, none⟩ = some (.int .i64 s)) := by
    intro i hi
    obtain ⟨b, off, ha, hb, hck⟩ := row_at (R.next b0) hi
    exact ⟨b, off, _, ha, fun h => ⟨_, getD_mem hi, h⟩, rfl, hck⟩
  have D3 : Hid ((∀ i, i < x.shape.length → ¬ 16384 < x.shape[i]?.getD 0) → ¬ hasLong x.shape) := by
    rintro h ⟨z, hz, hz'⟩
    obtain ⟨k, hk, e⟩ := mem_getD hz
    exact h k hk (by omega)
  have HC : Hid (∀ i, i < x.cells.length → ∃ b off z0 z1 ab nb cb, a2 = some ⟨b, off, none⟩ ∧ ∀ wr, Below w.heap.size w wr → (wr.cell? ⟨b, off + i * 3, none⟩ = some (.int .i64 z0) ∧ wr.cell? ⟨b, off + i * 3 + 1, none⟩ = some (.int .i64 z1) ∧ wr.cell? ⟨b, off + i * 3 + 2, none⟩ = some (.slice ab nb cb)) ∧ Calls Try.prog 61 #[.agg #[.int .i64 z0, .int .i64 z1, .slice ab nb cb], .int .i64 (B : Int)] wr fun e w' => e = .returned (.int .i64 (chkF f x i)) ∧ Below wr.heap.size wr w') := by
    intro i hi
    obtain ⟨b, off, z0, z1, ab, nb, cb, ha, h⟩ := cells_at hc i hi
    refine ⟨b, off, z0, z1, ab, nb, cb, ha, fun wr hw => ?_⟩
    obtain ⟨e0, e1, e2, e3⟩ := h wr hw
    exact ⟨⟨e0, e1, e2⟩, rcheckCell_any n B f IH _ lo wr _ _ _ e3⟩
  clear R hc b0 IH
  by_cases h1 : sizeE x.shape = 0
  · rw [h1] at C1
    by_cases h2 : sizeV x.shape = x.cells.length
    · rw [h2] at C1
      have K3' : Hid (hasLong x.shape → r = 12) := K3.out h1 h2
      have K4' : Hid (¬ hasLong x.shape → r = firstUp (chkF f x) x.cells.length) := K4.out h1 h2
      clear K1 K2 K3 K4 h1 h2
      have H0 : Hid (firstUp (chkF f x) 0 = 0) := rfl
      generalize chkF f x = F at *
      generalize x.shape = SS at *
      generalize x.cells.length = CA at *
      have W1 := one_alloc w (.cells #[.slice a1 SS.length c1, .slice a2 CA c2] 25)
      go_enter Try.func35, Try.ntmps35
      go_wp2_with fail
      refine C1.mono ?_
      rintro e w1 ⟨rfl, hw⟩
      rw [hw]
      clear hw C1 W1
      go_wp2
      go_loop [7] (fun i => ∃ j : Nat, j ≤ SS.length ∧ i = .int .i64 (j : Int) ∧ ∀ i, i < j → ¬ 16384 < SS[i]?.getD 0) (fun i => SS.length - (intOf i).toNat)
      case atStart => exact ⟨0, Nat.zero_le _, rfl, by simp⟩
      case round =>
        obtain ⟨j, hj, rfl, hall⟩ := hrel
        have HALL := hide hall
        clear hall
        by_cases hlt : j < SS.length
        · obtain ⟨b, off, s, rfl, hL, hs, hck⟩ := HS.out j hlt
          have HSS := hide hs
          have HL := hide hL
          clear HS HC hs hL
          by_cases hlong : 16384 < s
          · have hr : Hid (r = 12) := K3'.out (HL.out hlong)
            go_wp2
            go_ret
            exact ⟨retI hr.out.symm, HB0.out⟩
          · have HN := hide hlong
            go_wp2
            go_round
            case rel =>
              refine ⟨j + 1, by omega, by go_num, ?_⟩
              intro i hi
              rcases Nat.lt_succ_iff_lt_or_eq.1 hi with h | rfl
              · exact HALL.out i h
              · rw [HSS.out]; exact HN.out
            case measure => simp [intOf]; omega
        · have hje : j = SS.length := by omega
          subst hje
          have HR := hide (K4'.out (D3.out (fun i hi => by have := HALL.out i hi; omega)))
          clear HS HALL D3 K3' K4'
          go_wp2
          go_loopw [8] (fun i wr => ∃ j : Nat, j ≤ CA ∧ i = .int .i64 (j : Int) ∧ firstUp F j = 0 ∧ wr.cell? ⟨w.heap.size, 1, none⟩ = some (.slice a2 CA c2) ∧ w.heap.size + 1 ≤ wr.heap.size ∧ Below w.heap.size w wr) (fun i _ => CA - (intOf i).toNat)
          case atStart => exact ⟨0, Nat.zero_le _, rfl, H0.out, cell_new0 w _ 25 1 _ rfl, by simp, HB0.out⟩
          case round =>
            clear HB0
            obtain ⟨j, hj, rfl, hz, hcl, hsz, hnx⟩ := hrel
            have HZ := hide hz
            have HSZ := hide hsz
            clear hz hsz
            by_cases hlt : j < CA
            · obtain ⟨b, off, z0, z1, ab, nb, cb, rfl, hcs⟩ := HC.out j hlt
              obtain ⟨⟨k0, k1, k2⟩, C⟩ := hcs wr hnx
              have HT : Hid (F j ≠ 0 → r = F j) := fun h => by rw [HR.out]; exact firstUp_hit HZ.out h CA hlt
              have HS : Hid (firstUp F (j + 1) = F j) := firstUp_step HZ.out
              clear hcs HC
              obtain ⟨z, ez⟩ : ∃ z, F j = z := ⟨_, rfl⟩
              rw [ez] at C HT HS
              clear ez
              by_cases hz0 : z = 0
              · subst hz0
                go_wp2_with fail
                refine C.mono ?_
                rintro e w1 ⟨rfl, hb1⟩
                go_wp2
                go_roundw
                case rel => exact ⟨j + 1, by omega, by go_num, HS.out, (hb1.cell (p := ⟨w.heap.size, 1, none⟩) (by have := HSZ.out; show w.heap.size < _; omega)).trans hcl, Nat.le_trans HSZ.out hb1.size, hnx.trans (hb1.mono hnx.size)⟩
                case measure => simp [intOf]; omega
              · have HN := hide hz0
                go_wp2_with fail
                refine C.mono ?_
                rintro e w1 ⟨rfl, hb1⟩
                go_wp2
                go_ret
                exact ⟨retI (HT.out HN.out).symm, hnx.trans (hb1.mono hnx.size)⟩
            · have hje : j = CA := by omega
              subst hje
              have hr : Hid (r = 0) := by show r = 0; rw [HR.out]; exact HZ.out
              clear HC HR HZ
              go_wp2
              go_ret
              exact ⟨retI hr.out.symm, hnx⟩
    · have hr : Hid (r = 1) := K2.out h1 h2
      clear K1 K2 K3 K4 HC h1 HS D3
      generalize sizeV x.shape = S at C1 h2
      generalize x.shape.length = SA at *
      generalize x.cells.length = CA at *
      go_enter Try.func35, Try.ntmps35
      go_wp2_with fail
      refine C1.mono ?_
      rintro e w1 ⟨rfl, hw⟩
      rw [hw]
      clear hw
      go_wp2
      go_ret
      exact ⟨retI hr.out.symm, HB0.out⟩
  · have hr := hide (K1.out h1)
    clear K1 K2 K3 K4 HC HS D3
    generalize sizeV x.shape = S at C1
    generalize sizeE x.shape = E at C1 h1 hr
    generalize x.shape.length = SA at *
    generalize x.cells.length = CA at *
    go_enter Try.func35, Try.ntmps35
    go_wp2_with fail
    refine C1.mono ?_
    rintro e w1 ⟨rfl, hw⟩
    rw [hw]
    clear hw
    go_wp2
    go_ret
    exact ⟨retI hr.out.symm, HB0.out⟩
theorem within_any (r : Nat) : ∀ (hr : r ≤ 8) (n : Nat) (x : Ar) (lo : Nat) (va : Value) (w : World), ArIn n lo w x va → Calls Try.prog 46 #[va, .int .i64 ((8 - r : Nat) : Int)] w fun e w' => e = .returned (.int .i64 (chkA r x)) ∧ Below w.heap.size w w' := by
  induction r with
  | zero =>
    intro hr n x lo va w hx
    cases n with
    | zero => exact hx.elim
    | succ n => exact checkB_any n 8 (fun _ => 15) ⟨by omega, fun _ => rfl, fun h => absurd h (by omega)⟩ x lo va w hx
  | succ r ih =>
    intro hr n x lo va w hx
    cases n with
    | zero => exact hx.elim
    | succ n =>
      refine checkB_any n (8 - (r + 1)) (chkA r) ⟨by omega, fun h => absurd h (by omega), fun _ => ?_⟩ x lo va w hx
      intro y lo vb w hy
      have := ih (by omega) n y lo vb w hy
      have e : ((8 - r : Nat) : Int) = ((8 - (r + 1) : Nat) : Int) + 1 := by omega
      rw [e] at this
      exact this
theorem rwithin_any (r : Nat) : ∀ (hr : r ≤ 8) (n : Nat) (x : Ar) (lo : Nat) (va : Value) (w : World), ArIn n lo w x va → Calls Try.prog 35 #[va, .int .i64 ((8 - r : Nat) : Int)] w fun e w' => e = .returned (.int .i64 (chkA r x)) ∧ Below w.heap.size w w' := by
  induction r with
  | zero =>
    intro hr n x lo va w hx
    cases n with
    | zero => exact hx.elim
    | succ n => exact rcheckB_any n 8 (fun _ => 15) ⟨by omega, fun _ => rfl, fun h => absurd h (by omega)⟩ x lo va w hx
  | succ r ih =>
    intro hr n x lo va w hx
    cases n with
    | zero => exact hx.elim
    | succ n =>
      refine rcheckB_any n (8 - (r + 1)) (chkA r) ⟨by omega, fun h => absurd h (by omega), fun _ => ?_⟩ x lo va w hx
      intro y lo vb w hy
      have := ih (by omega) n y lo vb w hy
      have e : ((8 - r : Nat) : Int) = ((8 - (r + 1) : Nat) : Int) + 1 := by omega
      rw [e] at this
      exact this
theorem check_any (n : Nat) (x : Ar) (lo : Nat) (va : Value) (w : World) (hx : ArIn n lo w x va) : Calls Try.prog 25 #[va] w fun e w' => e = .returned (.int .i64 (chkA 8 x)) ∧ Below w.heap.size w w' := by
  have C := fun w' hb => within_any 8 (Nat.le_refl _) n x lo va w' (hx.next hb)
  cases n with
  | zero => exact hx.elim
  | succ n =>
    obtain ⟨a1, c1, a2, c2, rfl, -⟩ := hx
    generalize chkA 8 x = r at C
    generalize x.shape.length = SA at *
    generalize x.cells.length = CA at *
    have C1 := C _ (one_alloc w (.cells #[.slice a1 SA c1, .slice a2 CA c2] 25))
    clear C
    go_enter Try.func25, Try.ntmps25
    go_wp2_with fail
    refine C1.mono ?_
    rintro e w1 ⟨rfl, hb1⟩
    go_wp2
    go_ret
    exact ⟨rfl, (one_alloc _ _).trans (hb1.mono (one_alloc _ _).size)⟩
theorem rcheck_any (n : Nat) (x : Ar) (lo : Nat) (va : Value) (w : World) (hx : ArIn n lo w x va) : Calls Try.prog 16 #[va] w fun e w' => e = .returned (.int .i64 (chkA 8 x)) ∧ Below w.heap.size w w' := by
  have C := fun w' hb => rwithin_any 8 (Nat.le_refl _) n x lo va w' (hx.next hb)
  cases n with
  | zero => exact hx.elim
  | succ n =>
    obtain ⟨a1, c1, a2, c2, rfl, -⟩ := hx
    generalize chkA 8 x = r at C
    generalize x.shape.length = SA at *
    generalize x.cells.length = CA at *
    have C1 := C _ (one_alloc w (.cells #[.slice a1 SA c1, .slice a2 CA c2] 25))
    clear C
    go_enter Try.func16, Try.ntmps16
    go_wp2_with fail
    refine C1.mono ?_
    rintro e w1 ⟨rfl, hb1⟩
    go_wp2
    go_ret
    exact ⟨rfl, (one_alloc _ _).trans (hb1.mono (one_alloc _ _).size)⟩
end Go.Proofs.Ytimkcpbgnoekcaa
namespace Go.Proofs.Ytimkcpbgnoekcaa
open Go.ChangeShapes Go.WideShapes Go.ChangeAt Go.RowKit
set_option linter.unusedVariables false
set_option maxRecDepth 100000
theorem same_byI {n : Nat} {y : Ar} (hy : chkA 8 y = 0) (hS : 0 < y.shape.length) {i k : Nat} (hi : i < nW y) (hk : k < nW y) : cmpA (n + 1) (itemAt y i (mW y)) (itemAt y k (mW y)) = byI n y.cells (mW y) (i : Int) (k : Int) := by
  obtain ⟨-, a1, a2⟩ := item_len hy hS hi
  obtain ⟨-, b1, b2⟩ := item_len hy hS hk
  rw [cmpA_lex]
  have e1 : (itemAt y i (mW y)).shape = (itemAt y k (mW y)).shape := rfl
  have e2 : cmp3 ((itemAt y i (mW y)).shape.length : Int) ((itemAt y k (mW y)).shape.length : Int) = 0 := by rw [e1]; simp [cmp3]
  have e3 : listCmp cmp3 (itemAt y i (mW y)).shape (itemAt y k (mW y)).shape = 0 := by rw [e1]; exact (ord_list ord3).self _
  rw [if_neg (by simpa using e2), if_neg (by simpa using e3), a2, b2]
  rfl
theorem gives2_Z {n : Nat} {x : Ar} {E : Int} {w w' : World} {e : Ending} (h : Gives2 n w.heap.size x E w e w') : Gives2Z n w x E w e w' := by
  obtain ⟨⟨v, he, hv⟩, hb⟩ := h
  exact ⟨⟨v, he, fun W _ hK => (hv.keeps hK).mono (Nat.zero_le _) (Below.refl _ _)⟩, hb⟩
theorem thereB_step (c : Int → Int → Int) (i : Nat) (wh : List Int) (t : Nat) : decide (∃ u, u < t + 1 ∧ c (i : Int) (gI wh u) = 0) = (decide (∃ u, u < t ∧ c (i : Int) (gI wh u) = 0) || decide (c (i : Int) (gI wh t) = 0)) := by
  rw [Bool.eq_iff_iff]
  simp only [decide_eq_true_eq, Bool.or_eq_true]
  constructor
  · rintro ⟨u, hu, h⟩
    by_cases e : u = t
    · right; rw [← e]; exact h
    · left; exact ⟨u, by omega, h⟩
  · rintro (⟨u, hu, h⟩ | h)
    · exact ⟨u, by omega, h⟩
    · exact ⟨t, by omega, h⟩
set_option maxHeartbeats 8000000 in
theorem rmo_14 {n lo : Nat} {x : Ar} {va : Value} {w : World} (hx : ArIn (n + 1) lo w x va) (hcx : chkA 8 x = 0) (hcap : Caps va) :
    Calls Try.prog 15 #[.int .i64 14, va] w fun e w' => Gives2Z (n + 1) w (onceR n x) 0 w e w' := by
  obtain ⟨i3, hi3, hz30, hz31, hz32⟩ := infoI3
  obtain ⟨a1, c1, a2, c2, rfl, R, hc⟩ := hx.form
  obtain ⟨hc1, hc2⟩ := caps_form hcap
  obtain ⟨lx8, cx16⟩ := chk_len hcx
  obtain ⟨hcy, hyc, hS⟩ := lst_facts hcx
  have I := in2_new w (.slice a1 x.shape.length c1) (.slice a2 x.cells.length c2)
  obtain ⟨W2, e2⟩ : ∃ W2, (w.alloc (.cells #[.slice a1 x.shape.length c1, .slice a2 x.cells.length c2] 25)).alloc (.cells #[.slice none 0 0, .slice none 0 0] 25) = W2 := ⟨_, rfl⟩
  have hfq : ∀ i, W2.frozen? ⟨w.heap.size, i, none⟩ = false := fun i => by
    rw [← e2]
    exact ((one_alloc (w.alloc (.cells #[.slice a1 x.shape.length c1, .slice a2 x.cells.length c2] 25)) _).frozen (p := ⟨w.heap.size, i, none⟩) (by simp)).trans (frozen_new w _ 25 i)
  rw [e2] at I
  have q0 := I.q0
  have q1 := I.q1
  have HI := hide I
  have HFQ := hide hfq
  have CK := rcheck_any (n + 1) x _ _ W2 (hx.next I.bel)
  rw [hcx] at CK
  have HL : Hid (∀ W, Below w.heap.size w W → Calls Try.prog 20 #[.agg #[.slice a1 x.shape.length c1, .slice a2 x.cells.length c2]] W fun e w' => ListW a2 c2 x w W e w') := fun W h => rlistedW hx R h hcap
  have HOD : Hid (onceR n x = itmsA (lstA x) (mW (lstA x)) (onceW n (lstA x)) 0 0) := rfl
  have ly8 := (chk_len hcy).1
  have hy16 := (chk_len hcy).2
  obtain ⟨y, hy⟩ : ∃ y, lstA x = y := ⟨_, rfl⟩
  unfold ListW at HL
  rw [hy] at HL HOD hcy hyc hS ly8 hy16
  obtain ⟨wdA, wdB, wdC, wdD, wdE⟩ := wid hcy hS
  have HCX : Hid (CellsIn n 0 w y.cells a2) := by unfold Hid; rw [hyc]; exact hc.mono (Nat.zero_le _) (Below.refl _ _)
  have HKY := hide (And.intro hcy (And.intro hS (And.intro ly8 (And.intro hy16 (And.intro wdA (And.intro wdB wdC))))))
  have hCC : x.cells.length = y.cells.length := by rw [hyc]
  rw [hCC] at hc2
  simp only [hCC] at e2 q1 HI HL CK ⊢
  have HW : Hid (onceW n y = fstL (fstB (byI n y.cells (mW y))) (nW y)) := rfl
  have HSM : Hid (∀ i k : Nat, i < nW y → k < nW y → cmpA (n + 1) (itemAt y i (mW y)) (itemAt y k (mW y)) = byI n y.cells (mW y) (i : Int) (k : Int)) := fun i k hi hk => same_byI hcy hS hi hk
  have HFU : Hid (Ord (byI n y.cells (mW y))) := byI_full _ _ _
  have HIL : Hid (∀ i, i < nW y → i * mW y + mW y ≤ y.cells.length) := fun i hi => (item_len hcy hS hi).1
  rw [HOD.out]
  obtain ⟨c, hc'⟩ : ∃ c, byI n y.cells (mW y) = c := ⟨_, rfl⟩
  rw [hc'] at HW HFU
  simp only [hc'] at HSM
  obtain ⟨M, hM⟩ : ∃ M, mW y = M := ⟨_, rfl⟩
  obtain ⟨N, hN⟩ : ∃ N, nW y = N := ⟨_, rfl⟩
  rw [hN] at HW wdD
  rw [hM] at wdE
  simp only [hM, hN] at HSM HIL HKY ⊢
  obtain ⟨SX, hSX⟩ : ∃ SX, x.shape.length = SX := ⟨_, rfl⟩
  simp only [hSX] at e2 q0 HI HL CK ⊢
  obtain ⟨SY, hSY⟩ : ∃ SY, y.shape.length = SY := ⟨_, rfl⟩
  have HSY := hide hSY
  simp only [hSY] at HL ly8 hS
  obtain ⟨CY, hCY⟩ : ∃ CY, y.cells.length = CY := ⟨_, rfl⟩
  have HCY := hide hCY
  simp only [hCY] at e2 q1 HI HL CK hc2 ⊢
  clear hx hcx hcap R hc hc1 hcy hyc hCC hc' hM hN hSX hSY hCY I wdA wdB wdC hy hy16 lx8 HOD hfq
  go_enter Try.func15, Try.ntmps15
  go_wp2_with fail
  clear e2
  refine CK.mono ?_
  clear CK q0 q1
  rintro e w1 ⟨rfl, hb1⟩
  have I1 := HI.out.next hb1
  have HFQ1 : Hid (∀ i, w1.frozen? ⟨w.heap.size, i, none⟩ = false) := fun i => (hb1.frozen (p := ⟨w.heap.size, i, none⟩) (by have := HI.out.size; show w.heap.size < _; omega)).trans (HFQ.out i)
  have HI1 := hide I1
  have C1 := HL.out w1 I1.bel
  have q0 := I1.q0
  have q1 := I1.q1
  clear hb1 HI I1 HL HFQ
  go_wp2_with fail
  refine C1.mono ?_
  clear C1 q0 q1
  rintro e w3 ⟨⟨s1, k1, rfl, hk1, hrow⟩, hb3⟩
  have I3 := HI1.out.next hb3
  have q0 := I3.q0
  have q1 := I3.q1
  have hz1 := HI1.out.size
  have fq0 := (hb3.frozen (p := ⟨w.heap.size, 0, none⟩) (by show w.heap.size < _; omega)).trans (HFQ1.out 0)
  have fq1 := (hb3.frozen (p := ⟨w.heap.size, 1, none⟩) (by show w.heap.size < _; omega)).trans (HFQ1.out 1)
  obtain ⟨W4, e4⟩ : ∃ W4, (w3.setCell ⟨w.heap.size, 0, none⟩ (.slice s1 SY k1)).setCell ⟨w.heap.size, 1, none⟩ (.slice a2 CY c2) = W4 := ⟨_, rfl⟩
  have I4 : In2 w (.slice s1 SY k1) (.slice a2 CY c2) W4 := by
    have st := set_two I3.q0 I3.q1 (.slice s1 SY k1) (.slice a2 CY c2)
    rw [← e4]
    refine ⟨(I3.bel.setCell (p := ⟨w.heap.size, 0, none⟩) (Nat.le_refl _) _).setCell (p := ⟨w.heap.size, 1, none⟩) (Nat.le_refl _) _, by simp; exact I3.size, ?_, st.2, ?_, ?_, frozen_set _ _ _ _ (frozen_set _ _ _ _ I3.f0), frozen_set _ _ _ _ (frozen_set _ _ _ _ I3.f1)⟩
    · rw [World.cell?_setCell_other _ _ _ _ (by simp)]; exact st.1
    · exact cell_apart (p := ⟨w.heap.size + 1, 0, none⟩) (q := ⟨w.heap.size, 1, none⟩) (by show w.heap.size + 1 ≠ w.heap.size; omega) _ (cell_apart (p := ⟨w.heap.size + 1, 0, none⟩) (q := ⟨w.heap.size, 0, none⟩) (by show w.heap.size + 1 ≠ w.heap.size; omega) _ I3.p0)
    · exact cell_apart (p := ⟨w.heap.size + 1, 1, none⟩) (q := ⟨w.heap.size, 1, none⟩) (by show w.heap.size + 1 ≠ w.heap.size; omega) _ (cell_apart (p := ⟨w.heap.size + 1, 1, none⟩) (q := ⟨w.heap.size, 0, none⟩) (by show w.heap.size + 1 ≠ w.heap.size; omega) _ I3.p1)
  have k34 : Keeps w1.heap.size w3 W4 := by rw [← e4]; exact ((Keeps.refl _ _).setCell (p := ⟨w.heap.size, 0, none⟩) (by show w.heap.size < _; omega) _).setCell (p := ⟨w.heap.size, 1, none⟩) (by show w.heap.size < _; omega) _
  have KR : Hid (∀ W, Below W4.heap.size W4 W → In2 w (.slice s1 SY k1) (.slice a2 CY c2) W ∧ Row 0 W s1 y.shape) := fun W h => ⟨I4.next h, hrow W (I4.bel.trans (h.mono I4.bel.size)) (k34.trans (keeps_below h))⟩
  have KA : Hid (∀ W, Below W4.heap.size W4 W → ArIn (n + 1) 0 W y (.agg #[.slice s1 SY k1, .slice a2 CY c2])) := fun W h => by
    have hr := (KR.out W h).2
    have hb := (KR.out W h).1.bel
    exact arIn_mk hr (by have := HKY.out.2.2.2.1; omega) (HCX.out.mono (Nat.le_refl _) hb) HSY.out HCY.out
  obtain ⟨b, off, rfl, hbl, hcl⟩ := row_at (KR.out W4 (Below.refl _ _)).2 (j := 0) (by rw [HSY.out]; exact hS)
  have KN : Hid (∀ W, Below W4.heap.size W4 W → W.cell? ⟨b, off, none⟩ = some (.int .i64 (N : Int))) := fun W h => (h.cell (p := ⟨b, off, none⟩) hbl).trans (by rw [← HKY.out.2.2.2.2.1]; exact hcl)
  have HE4 := hide e4
  clear I3 I4 k34 hrow hb3 hz1 HI1 hcl hbl e4 HFQ1
  obtain ⟨p, hp⟩ : ∃ p, fstB c = p := ⟨_, rfl⟩
  rw [hp] at HW
  have HPP := hide hp
  clear hp
  have hSYz : (0 : Int) < (SY : Int) := by omega
  go_wp2
  rw [HE4.out]
  clear HE4 q0 q1 fq0 fq1
  go_loopg [7, 8] N (fun gg wv iv wr => ∃ i : Nat, gg + i = N ∧ iv = .int .i64 (i : Int) ∧ wr.ownsRow W4.heap.size 3 1 wv (fstL p i).length ((fstL p i).map (Value.int .i64)) ∧ Below W4.heap.size W4 wr)
  case atStart => exact ⟨0, rfl, rfl, World.ownsRow_nil _ _ _ _, Below.refl _ _⟩
  case round =>
    obtain ⟨i, hg, rfl, hown, hbr⟩ := hrel
    obtain ⟨wo, hwo⟩ : ∃ wo, wo = wr := ⟨_, rfl⟩
    subst hwo
    obtain ⟨wh, hwh⟩ : ∃ wh, fstL p i = wh := ⟨_, rfl⟩
    rw [hwh] at hown
    obtain ⟨L, hL⟩ : ∃ L, wh.length = L := ⟨_, rfl⟩
    have hLi : L ≤ i := by have := fstL_len p i; rw [hwh, hL] at this; exact this
    rw [hL] at hown
    obtain ⟨aw, cw, rfl, hcw⟩ := owns_cap hown
    have HOWN := hide hown
    have HBR := hide hbr
    have HWH := hide (And.intro hwh hL)
    obtain ⟨I5, R5⟩ := KR.out wo hbr
    have n0 := KN.out wo hbr
    have q0 := I5.q0
    have HI5 := hide I5
    by_cases hlt : i < N
    · have hltz : (i : Int) < (N : Int) := by omega
      clear hown hbr I5 R5 hwh hL
      go_wp2
      go_loopg [9, 10] L (fun gg th kv wr => ∃ t : Nat, gg + t = L ∧ kv = .int .i64 (t : Int) ∧ th = .bool (decide (∃ u, u < t ∧ c (i : Int) (gI wh u) = 0)) ∧ Below wo.heap.size wo wr)
      case atStart => exact ⟨0, rfl, rfl, by simp, Below.refl _ _⟩
      case round =>
        clear n0 q0
        obtain ⟨t, hgt, rfl, rfl, hbt⟩ := hrel
        have HBT := hide hbt
        have hb4t := HBR.out.trans (hbt.mono HBR.out.size)
        have HSTP := hide (thereB_step c i wh t)
        by_cases hlt2 : t < L
        · have hltz2 : (t : Int) < (L : Int) := by omega
          obtain ⟨gb, cp, he, hgb1, hgb2⟩ := owns_form1' HOWN.out (by omega)
          simp only [Value.slice.injEq, true_and] at he
          obtain ⟨rfl, rfl⟩ := he
          have hsc := (owns_softC HWH.out.2 HOWN.out) t (by rw [HWH.out.2]; exact hlt2)
          obtain ⟨j, hji, hj, -⟩ := fstL_at p (m := i) (t := t) (by rw [HWH.out.1, HWH.out.2]; exact hlt2)
          rw [HWH.out.1] at hj
          rw [hj] at HSTP
          have kc := (hbt.cell (p := ⟨gb, t, none⟩) hgb2).trans hsc.1
          rw [hj] at kc
          obtain ⟨TB, hTB⟩ : ∃ TB, decide (∃ u, u < t ∧ c (i : Int) (gI wh u) = 0) = TB := ⟨_, rfl⟩
          rw [hTB] at HSTP
          simp only [hTB]
          clear hTB hsc
          cases TB
          case true =>
            clear hb4t hbt hgb1 hgb2 hj kc
            go_wp2
            go_quiet (fail)
            all_goals
              go_wp2
              go_roundg (L - (t + 1))
              case rel => exact ⟨t + 1, by omega, by go_num, by rw [HSTP.out]; rfl, drewN_below HBT.out _⟩
              case measure => omega
          case false =>
            have hk := HKY.out
            have HC1 : Hid (∀ W, Below wo.heap.size wo W → Calls Try.prog 19 #[.agg #[.slice (some ⟨b, off, none⟩) SY k1, .slice a2 CY c2], .int .i64 (i : Int)] W fun e w' => (∃ v, e = .returned v ∧ ∀ V, Below w'.heap.size w' V → ArIn (n + 1) 0 V (itemAt y i M) v) ∧ Below W.heap.size W w' ∧ Below wo.heap.size wo w') := fun W h => by
              refine (ritem_any (i := i) (m := M) (KA.out wo HBR.out) h (by rw [HSY.out]; exact hS) (by rw [HSY.out]; exact ly8) hk.2.2.2.2.2.1 (HIL.out i hlt) hk.2.2.2.1 (by omega) ⟨_, _, _, _, _, _, rfl, hk1, hc2⟩).mono ?_
              rintro e w' ⟨⟨v, rfl, hv⟩, hw'⟩
              exact ⟨⟨v, rfl, fun V hV => hv V ((h.trans (hw'.mono h.size)).trans (hV.mono (Nat.le_trans h.size hw'.size))) (keeps_below hV)⟩, hw', h.trans (hw'.mono h.size)⟩
            have HC2 : Hid (∀ W, Below wo.heap.size wo W → Calls Try.prog 19 #[.agg #[.slice (some ⟨b, off, none⟩) SY k1, .slice a2 CY c2], .int .i64 (j : Int)] W fun e w' => (∃ v, e = .returned v ∧ ∀ V, Below w'.heap.size w' V → ArIn (n + 1) 0 V (itemAt y j M) v) ∧ Below W.heap.size W w' ∧ Below wo.heap.size wo w') := fun W h => by
              refine (ritem_any (i := j) (m := M) (KA.out wo HBR.out) h (by rw [HSY.out]; exact hS) (by rw [HSY.out]; exact ly8) hk.2.2.2.2.2.1 (HIL.out j (by omega)) hk.2.2.2.1 (by omega) ⟨_, _, _, _, _, _, rfl, hk1, hc2⟩).mono ?_
              rintro e w' ⟨⟨v, rfl, hv⟩, hw'⟩
              exact ⟨⟨v, rfl, fun V hV => hv V ((h.trans (hw'.mono h.size)).trans (hV.mono (Nat.le_trans h.size hw'.size))) (keeps_below hV)⟩, hw', h.trans (hw'.mono h.size)⟩
            obtain ⟨sb, hsb⟩ : ∃ sb, decide (c (i : Int) (j : Int) = 0) = sb := ⟨_, rfl⟩
            have HSA : Hid (∀ w6 w7 v6 v7, (∀ V, Below w6.heap.size w6 V → ArIn (n + 1) 0 V (itemAt y i M) v6) → (∀ V, Below w7.heap.size w7 V → ArIn (n + 1) 0 V (itemAt y j M) v7) → Below w6.heap.size w6 w7 → Below wo.heap.size wo w7 → Calls Try.prog 12 #[v6, v7] w7 fun e w' => e = .returned (.bool sb) ∧ Below wo.heap.size wo w') := fun w6 w7 v6 v7 h6 h7 h67 ho => by
              refine (rsame_any (h6 w7 h67) (h7 w7 (Below.refl _ _))).mono ?_
              rintro e w' ⟨rfl, hw'⟩
              exact ⟨by rw [HSM.out i j hlt (by omega), hsb], ho.trans (hw'.mono ho.size)⟩
            have KS : Hid (∀ W, Below wo.heap.size wo W → Below wo.heap.size wo W ∧ W.cell? ⟨w.heap.size, 0, none⟩ = some (.slice (some ⟨b, off, none⟩) SY k1) ∧ W.cell? ⟨w.heap.size, 1, none⟩ = some (.slice a2 CY c2) ∧ W.cell? ⟨gb, t, none⟩ = some (.int .i64 (j : Int))) := fun W h => by
              have I6 := HI5.out.next h
              have hsc2 := (owns_softC HWH.out.2 HOWN.out) t (by rw [HWH.out.2]; exact hlt2)
              refine ⟨h, I6.q0, I6.q1, (h.cell (p := ⟨gb, t, none⟩) hgb2).trans ?_⟩
              rw [hsc2.1, hj]
            rw [hsb] at HSTP
            have hd0 : Below wo.heap.size wo wr.drew := hbt.drew
            clear hb4t hbt hgb1 hgb2 hj kc hk hsb
            go_upto_region 17 with fail
            go_region_held3 (fun W => Below wo.heap.size wo W ∧ W.cell? ⟨w.heap.size, 0, none⟩ = some (.slice (some ⟨b, off, none⟩) SY k1) ∧ W.cell? ⟨w.heap.size, 1, none⟩ = some (.slice a2 CY c2) ∧ W.cell? ⟨gb, t, none⟩ = some (.int .i64 (j : Int)))
              (first | with_reducible exact KS.out _ (by with_reducible assumption))
              (first | (go_at_call 19; (with_reducible refine (HC1.out _ (by with_reducible assumption)).mono ?_); rintro e w6 ⟨⟨v6, rfl, hv6⟩, hs6, hb6⟩) | (go_at_call 19; (with_reducible refine (HC2.out _ (by with_reducible assumption)).mono ?_); rintro e w7 ⟨⟨v7, rfl, hv7⟩, hs7, hb7⟩) | (go_at_call 12; refine (HSA.out _ _ _ _ hv6 hv7 hs7 hb7).mono ?_; rintro e w8 ⟨rfl, hb8⟩))
            all_goals
              have HB8 := hide hb8
              clear hv6 hv7 hs6 hs7 hb6 hb7 hb8
              go_wp2
              go_roundg (L - (t + 1))
              case rel => exact ⟨t + 1, by omega, by go_num, by rw [HSTP.out]; rfl, HB8.out⟩
              case measure => omega
        · have hte : t = L := by omega
          subst hte
          have hth := there_is HFU.out i
          rw [HPP.out, HWH.out.1, HWH.out.2] at hth
          simp only [hth]
          have HO2 := hide (owns_below HOWN.out hbt)
          have HB4 := hide hb4t
          clear hth hbt hb4t
          cases hpi : p i
          case false =>
            have HNX : Hid (fstL p (i + 1) = wh) := by unfold Hid; simp only [fstL]; rw [if_neg (by rw [hpi]; simp)]; exact HWH.out.1
            clear hpi
            go_wp2
            go_roundg (N - (i + 1))
            case rel => exact ⟨i + 1, by omega, by go_num, by rw [HNX.out, HWH.out.2]; exact HO2.out, HB4.out⟩
            case measure => omega
          case true =>
            have HNX : Hid (fstL p (i + 1) = wh ++ [(i : Int)]) := by unfold Hid; simp only [fstL]; rw [if_pos hpi, HWH.out.1]
            have HO3 := hide (owns_below HO2.out (one_alloc wr (.cells #[.int .i64 (i : Int)] 3)))
            have HLI : Hid (Lies (wr.alloc (.cells #[.int .i64 (i : Int)] 3)) (some ⟨wr.heap.size, 0, none⟩) [.int .i64 (i : Int)]) := by
              refine ⟨Or.inr ⟨_, rfl, by simp, fun q u hu => ?_⟩, fun u hu => by simp at hu; rw [hu]; rfl⟩
              rw [add_off, Nat.zero_add]
              exact cell_new0 wr _ 3 q u (by simpa using hu)
            have HAB : Hid (Below W4.heap.size W4 (wr.alloc (.cells #[.int .i64 (i : Int)] 3))) := HB4.out.alloc HB4.out.size _
            have HZ9 : Hid (W4.heap.size ≤ (wr.alloc (.cells #[.int .i64 (i : Int)] 3)).heap.size) := HAB.out.size
            clear hpi
            go_wp2_with (at_builtin; refine wpList_append_any rfl _ _ 22 rfl W4.heap.size 3 i3 (.int .i64 0) 1 8 Try.underlying22 hi3 hz30 hz31 hz32 rfl (by decide) (.slice aw t cw) t (wh.map (Value.int .i64)) rfl HO3.out (some ⟨wr.heap.size, 0, none⟩) 1 1 [.int .i64 (i : Int)] rfl rfl HLI.out ?c3 ?c4 HZ9.out ?_)
            case c3 => unfold maxLen; omega
            case c4 => omega
            intro v' w9 hown9 hb9
            have HN9 : Hid (w9.ownsRow W4.heap.size 3 1 v' (fstL p (i + 1)).length ((fstL p (i + 1)).map (Value.int .i64)) ∧ Below W4.heap.size W4 w9) := by
              refine ⟨?_, HAB.out.trans hb9⟩
              rw [HNX.out, List.length_append, HWH.out.2, List.map_append]
              exact hown9
            clear hown9 hb9 HLI HO3
            go_wp2
            go_roundg (N - (i + 1))
            case rel => exact ⟨i + 1, by omega, by go_num, HN9.out.1, HN9.out.2⟩
            case measure => omega
    · have hie : i = N := by omega
      subst hie
      have hk := HKY.out
      have hNM : i * M = CY := by rw [← HCY.out]; exact hk.2.2.2.2.2.2
      have hLm : L * M ≤ 16384 := by
        have h1 := Nat.mul_le_mul_right M hLi
        have h2 := hk.2.2.2.1
        rw [HCY.out] at h2
        omega
      have hwW : onceW n y = wh := by rw [HW.out]; exact hwh
      obtain ⟨aw', cw', he, Rw⟩ := owns_rowE wh (by rw [hL]; omega) (by rw [hL]; exact hown)
      simp only [Value.slice.injEq, hL, true_and] at he
      obtain ⟨rfl, rfl⟩ := he
      have hxW : ArW n 0 wo w y (.agg #[.slice (some ⟨b, off, none⟩) SY k1, .slice a2 CY c2]) := ⟨_, k1, a2, c2, by rw [HSY.out, HCY.out], R5, HCX.out⟩
      have C9 := ritems_two (m := M) (wh := wh) (cw := cw) 0 0 hxW (Below.refl _ _) I5.bel Rw (by rw [HSY.out]; exact hS) (by rw [HSY.out]; exact ly8) hk.2.2.2.2.2.1 hk.2.2.2.1 ⟨_, _, _, _, _, _, rfl, hk1, hc2⟩ (by rw [hL]; omega) (by rw [hL]; exact hLm) wdE (fun t ht h0 => by
        obtain ⟨j, hj, e, -⟩ := fstL_at p (m := i) (t := t) (by rw [hwh]; exact ht)
        rw [hwh] at e
        rw [e, Int.toNat_natCast]
        exact ⟨HIL.out j hj, by omega⟩)
      rw [hL] at C9
      have q1 := I5.q1
      obtain ⟨Z, hZ⟩ : ∃ Z, itmsA y M wh 0 0 = Z := ⟨_, rfl⟩
      rw [hZ] at C9
      have HZZ : Hid (itmsA y M (onceW n y) 0 0 = Z) := by unfold Hid; rw [hwW]; exact hZ
      clear hown hbr I5 R5 hwh hL hk hNM hLm hwW Rw hxW hZ HOWN HWH HBR KA KN KR HCX HKY HSM HIL HW HFU HPP
      go_wp2_with fail
      refine C9.mono ?_
      clear C9 q0 q1 n0
      rintro e w6 ⟨⟨v6, rfl, hv6⟩, hb6⟩
      have I6 := HI5.out.next hb6
      obtain ⟨z1, m1, z2, m2, rfl, -, -⟩ := (hv6 w6 I6.bel (Keeps.refl _ _)).form
      have p0 := I6.p0
      have p1 := I6.p1
      have f0 := I6.f0
      have f1 := I6.f1
      have HT := hide (I6.put (.slice z1 Z.shape.length m1) (.slice z2 Z.cells.length m2))
      have HF : Hid (∀ u v, Gives2Z (n + 1) w (itmsA y M (onceW n y) 0 0) 0 w (.returned (.tuple #[.agg #[.slice z1 Z.shape.length m1, .slice z2 Z.cells.length m2], .int .i64 0])) ((w6.setCell ⟨w.heap.size + 1, 0, none⟩ u).setCell ⟨w.heap.size + 1, 1, none⟩ v)) := fun u v => by
        rw [HZZ.out]
        refine ⟨⟨_, rfl, fun W hW hK => hv6 W hW ?_⟩, I6.fin u v⟩
        have hz := HI5.out.size
        have K2 : Keeps wo.heap.size w6 ((w6.setCell ⟨w.heap.size + 1, 0, none⟩ u).setCell ⟨w.heap.size + 1, 1, none⟩ v) := ((Keeps.refl _ _).setCell (p := ⟨w.heap.size + 1, 0, none⟩) (by show w.heap.size + 1 < _; omega) u).setCell (p := ⟨w.heap.size + 1, 1, none⟩) (by show w.heap.size + 1 < _; omega) v
        exact K2.trans (hK.mono (by omega))
      generalize Z.shape.length = SZ at *
      generalize Z.cells.length = CZ at *
      clear hv6 hb6 I6 HI5
      go_wp2
      exact bodyPost_ret (v := .tuple #[.agg #[.slice z1 SZ m1, .slice z2 CZ m2], .int .i64 0]) (by simp [results, Try.results15, go_sem, HT.out.1, HT.out.2]) rfl (HF.out _ _)
end Go.Proofs.Ytimkcpbgnoekcaa
namespace Go.Proofs.Ytimkcpbgnoekcaa
open Go.ChangeShapes Go.WideShapes Go.ChangeAt Go.RowKit
set_option linter.unusedVariables false
set_option maxRecDepth 100000
set_option maxHeartbeats 4000000 in
theorem rmo_bad {n lo : Nat} {op : Int} {x : Ar} {va : Value} {w : World} (hx : ArIn (n + 1) lo w x va) (hcx : ¬ chkA 8 x = 0) :
    Calls Try.prog 15 #[.int .i64 op, va] w fun e w' => Gives2 (n + 1) w.heap.size zeroA (chkA 8 x) w e w' := by
  obtain ⟨a1, c1, a2, c2, rfl, -, -⟩ := hx.form
  have I := in2_new w (.slice a1 x.shape.length c1) (.slice a2 x.cells.length c2)
  obtain ⟨W2, e2⟩ : ∃ W2, (w.alloc (.cells #[.slice a1 x.shape.length c1, .slice a2 x.cells.length c2] 25)).alloc (.cells #[.slice none 0 0, .slice none 0 0] 25) = W2 := ⟨_, rfl⟩
  rw [e2] at I
  have q0 := I.q0
  have q1 := I.q1
  have HI := hide I
  have CK := rcheck_any (n + 1) x _ _ W2 (hx.next I.bel)
  obtain ⟨E, hE⟩ : ∃ E, chkA 8 x = E := ⟨_, rfl⟩
  rw [hE] at CK hcx ⊢
  have hEb : (E != 0) = true := by simp; exact hcx
  generalize x.shape.length = SX at *
  generalize x.cells.length = CX at *
  clear hx I hE
  go_enter Try.func15, Try.ntmps15
  go_wp2_with fail
  clear e2
  refine CK.mono ?_
  clear CK q0 q1
  rintro e w1 ⟨rfl, hb1⟩
  have I1 := HI.out.next hb1
  have p0 := I1.p0
  have p1 := I1.p1
  have f0 := I1.f0
  have f1 := I1.f1
  have HT := hide (I1.put (.slice none 0 0) (.slice none 0 0))
  have HF : Hid (∀ u v, Gives2 (n + 1) w.heap.size zeroA E w (.returned (.tuple #[.agg #[.slice none 0 0, .slice none 0 0], .int .i64 E])) ((w1.setCell ⟨w.heap.size + 1, 0, none⟩ u).setCell ⟨w.heap.size + 1, 1, none⟩ v)) := fun u v => ⟨⟨_, rfl, zeroA_in _ _ _⟩, I1.fin u v⟩
  clear hb1 HI I1
  go_wp2
  exact bodyPost_ret (v := .tuple #[.agg #[.slice none 0 0, .slice none 0 0], .int .i64 E]) (by simp [results, Try.results15, go_sem, HT.out.1, HT.out.2]) rfl (HF.out _ _)
set_option maxHeartbeats 4000000 in
theorem rmo_none {n lo : Nat} {op : Int} {x : Ar} {va : Value} {w : World} (hx : ArIn (n + 1) lo w x va) (hcx : chkA 8 x = 0) (h12 : ¬ op = 12) (h13 : ¬ op = 13) (h14 : ¬ op = 14) :
    Calls Try.prog 15 #[.int .i64 op, va] w fun e w' => Gives2 (n + 1) w.heap.size zeroA 1 w e w' := by
  obtain ⟨a1, c1, a2, c2, rfl, -, -⟩ := hx.form
  have I := in2_new w (.slice a1 x.shape.length c1) (.slice a2 x.cells.length c2)
  obtain ⟨W2, e2⟩ : ∃ W2, (w.alloc (.cells #[.slice a1 x.shape.length c1, .slice a2 x.cells.length c2] 25)).alloc (.cells #[.slice none 0 0, .slice none 0 0] 25) = W2 := ⟨_, rfl⟩
  rw [e2] at I
  have q0 := I.q0
  have q1 := I.q1
  have HI := hide I
  have CK := rcheck_any (n + 1) x _ _ W2 (hx.next I.bel)
  rw [hcx] at CK
  have hb12 : (op == 12) = false := by simp; exact h12
  have hb13 : (op == 13) = false := by simp; exact h13
  have hb14 : (op == 14) = false := by simp; exact h14
  have hb15 : (op != 14) = true := by simp; exact h14
  generalize x.shape.length = SX at *
  generalize x.cells.length = CX at *
  clear hx I hcx
  go_enter Try.func15, Try.ntmps15
  go_wp2_with fail
  clear e2
  refine CK.mono ?_
  clear CK q0 q1
  rintro e w1 ⟨rfl, hb1⟩
  have I1 := HI.out.next hb1
  have p0 := I1.p0
  have p1 := I1.p1
  have f0 := I1.f0
  have f1 := I1.f1
  have HT := hide (I1.put (.slice none 0 0) (.slice none 0 0))
  have HF : Hid (∀ u v, Gives2 (n + 1) w.heap.size zeroA 1 w (.returned (.tuple #[.agg #[.slice none 0 0, .slice none 0 0], .int .i64 1])) ((w1.setCell ⟨w.heap.size + 1, 0, none⟩ u).setCell ⟨w.heap.size + 1, 1, none⟩ v)) := fun u v => ⟨⟨_, rfl, zeroA_in _ _ _⟩, I1.fin u v⟩
  clear hb1 HI I1
  go_wp2
  exact bodyPost_ret (v := .tuple #[.agg #[.slice none 0 0, .slice none 0 0], .int .i64 1]) (by simp [results, Try.results15, go_sem, HT.out.1, HT.out.2]) rfl (HF.out _ _)
set_option maxHeartbeats 4000000 in
theorem rmo_12 {n lo : Nat} {op : Int} {x : Ar} {va : Value} {w : World} (hx : ArIn (n + 1) lo w x va) (hcx : chkA 8 x = 0) (hcap : Caps va) :
    Calls Try.prog 15 #[.int .i64 12, va] w fun e w' => Gives2 (n + 1) w.heap.size (gradR false n x).1 (gradR false n x).2 w e w' := by
  obtain ⟨a1, c1, a2, c2, rfl, -, -⟩ := hx.form
  have I := in2_new w (.slice a1 x.shape.length c1) (.slice a2 x.cells.length c2)
  obtain ⟨W2, e2⟩ : ∃ W2, (w.alloc (.cells #[.slice a1 x.shape.length c1, .slice a2 x.cells.length c2] 25)).alloc (.cells #[.slice none 0 0, .slice none 0 0] 25) = W2 := ⟨_, rfl⟩
  rw [e2] at I
  have q0 := I.q0
  have q1 := I.q1
  have HI := hide I
  have CK := rcheck_any (n + 1) x _ _ W2 (hx.next I.bel)
  rw [hcx] at CK
  have HC : Hid (∀ W, Below w.heap.size w W → Calls Try.prog 33 #[.agg #[.slice a1 x.shape.length c1, .slice a2 x.cells.length c2], .bool false] W fun e w' => Gives2 (n + 1) W.heap.size (gradR false n x).1 (gradR false n x).2 W e w') := fun W h => grade33 false (hx.next h) hcx hcap
  obtain ⟨⟨Y, EY⟩, hR⟩ : ∃ p, gradR false n x = p := ⟨_, rfl⟩
  rw [hR] at HC ⊢
  simp only at HC ⊢
  clear hx I hR hcap
  generalize x.shape.length = SX at *
  generalize x.cells.length = CX at *
  go_enter Try.func15, Try.ntmps15
  go_wp2_with fail
  clear e2
  refine CK.mono ?_
  clear CK q0 q1
  rintro e w1 ⟨rfl, hb1⟩
  have I1 := HI.out.next hb1
  have HI1 := hide I1
  have C := HC.out w1 I1.bel
  have q0 := I1.q0
  have q1 := I1.q1
  clear hb1 HI I1 HC hcx
  go_wp2_with fail
  refine C.mono ?_
  clear C q0 q1
  rintro e w4 ⟨⟨v, rfl, hv⟩, hb4⟩
  obtain ⟨z1, m1, z2, m2, rfl, -, -⟩ := hv.form
  have I4 := HI1.out.next hb4
  have p0 := I4.p0
  have p1 := I4.p1
  have f0 := I4.f0
  have f1 := I4.f1
  have HT := hide (I4.put (.slice z1 Y.shape.length m1) (.slice z2 Y.cells.length m2))
  have HF : Hid (∀ u v, Gives2 (n + 1) w.heap.size Y EY w (.returned (.tuple #[.agg #[.slice z1 Y.shape.length m1, .slice z2 Y.cells.length m2], .int .i64 EY])) ((w4.setCell ⟨w.heap.size + 1, 0, none⟩ u).setCell ⟨w.heap.size + 1, 1, none⟩ v)) := fun u v => ⟨⟨_, rfl, I4.give hv HI1.out.size u v⟩, I4.fin u v⟩
  generalize Y.shape.length = SY at *
  generalize Y.cells.length = CY at *
  clear hv hb4 HI1 I4
  go_wp2
  exact bodyPost_ret (v := .tuple #[.agg #[.slice z1 SY m1, .slice z2 CY m2], .int .i64 EY]) (by simp [results, Try.results15, go_sem, HT.out.1, HT.out.2]) rfl (HF.out _ _)
set_option maxHeartbeats 4000000 in
theorem rmo_13 {n lo : Nat} {op : Int} {x : Ar} {va : Value} {w : World} (hx : ArIn (n + 1) lo w x va) (hcx : chkA 8 x = 0) (hcap : Caps va) :
    Calls Try.prog 15 #[.int .i64 13, va] w fun e w' => Gives2 (n + 1) w.heap.size (gradR true n x).1 (gradR true n x).2 w e w' := by
  obtain ⟨a1, c1, a2, c2, rfl, -, -⟩ := hx.form
  have I := in2_new w (.slice a1 x.shape.length c1) (.slice a2 x.cells.length c2)
  obtain ⟨W2, e2⟩ : ∃ W2, (w.alloc (.cells #[.slice a1 x.shape.length c1, .slice a2 x.cells.length c2] 25)).alloc (.cells #[.slice none 0 0, .slice none 0 0] 25) = W2 := ⟨_, rfl⟩
  rw [e2] at I
  have q0 := I.q0
  have q1 := I.q1
  have HI := hide I
  have CK := rcheck_any (n + 1) x _ _ W2 (hx.next I.bel)
  rw [hcx] at CK
  have HC : Hid (∀ W, Below w.heap.size w W → Calls Try.prog 33 #[.agg #[.slice a1 x.shape.length c1, .slice a2 x.cells.length c2], .bool true] W fun e w' => Gives2 (n + 1) W.heap.size (gradR true n x).1 (gradR true n x).2 W e w') := fun W h => grade33 true (hx.next h) hcx hcap
  obtain ⟨⟨Y, EY⟩, hR⟩ : ∃ p, gradR true n x = p := ⟨_, rfl⟩
  rw [hR] at HC ⊢
  simp only at HC ⊢
  clear hx I hR hcap
  generalize x.shape.length = SX at *
  generalize x.cells.length = CX at *
  go_enter Try.func15, Try.ntmps15
  go_wp2_with fail
  clear e2
  refine CK.mono ?_
  clear CK q0 q1
  rintro e w1 ⟨rfl, hb1⟩
  have I1 := HI.out.next hb1
  have HI1 := hide I1
  have C := HC.out w1 I1.bel
  have q0 := I1.q0
  have q1 := I1.q1
  clear hb1 HI I1 HC hcx
  go_wp2_with fail
  refine C.mono ?_
  clear C q0 q1
  rintro e w4 ⟨⟨v, rfl, hv⟩, hb4⟩
  obtain ⟨z1, m1, z2, m2, rfl, -, -⟩ := hv.form
  have I4 := HI1.out.next hb4
  have p0 := I4.p0
  have p1 := I4.p1
  have f0 := I4.f0
  have f1 := I4.f1
  have HT := hide (I4.put (.slice z1 Y.shape.length m1) (.slice z2 Y.cells.length m2))
  have HF : Hid (∀ u v, Gives2 (n + 1) w.heap.size Y EY w (.returned (.tuple #[.agg #[.slice z1 Y.shape.length m1, .slice z2 Y.cells.length m2], .int .i64 EY])) ((w4.setCell ⟨w.heap.size + 1, 0, none⟩ u).setCell ⟨w.heap.size + 1, 1, none⟩ v)) := fun u v => ⟨⟨_, rfl, I4.give hv HI1.out.size u v⟩, I4.fin u v⟩
  generalize Y.shape.length = SY at *
  generalize Y.cells.length = CY at *
  clear hv hb4 HI1 I4
  go_wp2
  exact bodyPost_ret (v := .tuple #[.agg #[.slice z1 SY m1, .slice z2 CY m2], .int .i64 EY]) (by simp [results, Try.results15, go_sem, HT.out.1, HT.out.2]) rfl (HF.out _ _)
theorem rmo_any {n lo : Nat} {op : Int} {x : Ar} {va : Value} {w : World} (hx : ArIn (n + 1) lo w x va) (hcap : Caps va) :
    Calls Try.prog 15 #[.int .i64 op, va] w fun e w' => Gives2Z (n + 1) w (seekM n op x).1 (seekM n op x).2 w e w' := by
  unfold seekM
  by_cases hcx : chkA 8 x = 0
  · rw [if_neg (by simpa using hcx)]
    by_cases h12 : op = 12
    · rw [if_pos h12, h12]; exact (rmo_12 (op := 0) hx hcx hcap).mono fun e w' h => gives2_Z h
    · rw [if_neg h12]
      by_cases h13 : op = 13
      · rw [if_pos h13, h13]; exact (rmo_13 (op := 0) hx hcx hcap).mono fun e w' h => gives2_Z h
      · rw [if_neg h13]
        by_cases h14 : op = 14
        · rw [if_pos h14, h14]; exact rmo_14 hx hcx hcap
        · rw [if_neg h14]; exact (rmo_none hx hcx h12 h13 h14).mono fun e w' h => gives2_Z h
  · rw [if_pos hcx]; exact (rmo_bad hx hcx).mono fun e w' h => gives2_Z h
end Go.Proofs.Ytimkcpbgnoekcaa
namespace Go.Proofs.Ytimkcpbgnoekcaa
open Go.ChangeShapes Go.WideShapes Go.ChangeAt Go.RowKit
set_option linter.unusedVariables false
set_option maxRecDepth 100000
/-- The array that is gathered: its variable o, its shape's row bs, L items of M cells up to now. -/
structure OnE (W : World) (o bs SX cp : Nat) (tl : List Int) (T : Nat → Value × Value × Value) (L M : Nat) (v : Value) (wr : World) : Prop where
  io : Below 0 W wr
  keep : ∀ b, b < W.heap.size → b ≠ o → b ≠ bs → wr.heap[b]? = W.heap[b]?
  c0 : wr.cell? ⟨o, 0, none⟩ = some (.slice (some ⟨bs, 0, none⟩) SX cp)
  c1 : wr.cell? ⟨o, 1, none⟩ = some v
  f1 : wr.frozen? ⟨o, 1, none⟩ = false
  sc : SoftC wr bs ((L : Int) :: tl)
  own : wr.ownsRow W.heap.size 39 3 v (L * M) (rowT T (L * M))
theorem OnE.below {W wr : World} {o bs SX cp L M B : Nat} {tl : List Int} {T : Nat → Value × Value × Value} {v : Value} (h : OnE W o bs SX cp tl T L M v wr) (h1 : B ≤ o) (h2 : B ≤ bs) (h3 : B ≤ W.heap.size) : Below B W wr := ⟨h.io.os, h.io.tape, h.io.output, h.io.size, fun k hk => h.keep k (by omega) (by omega) (by omega)⟩
theorem OnE.cell {W wr : World} {o bs SX cp L M b i : Nat} {tl : List Int} {T : Nat → Value × Value × Value} {v u : Value} (h : OnE W o bs SX cp tl T L M v wr) (hb : b < W.heap.size) (h1 : b ≠ o) (h2 : b ≠ bs) (hc : W.cell? ⟨b, i, none⟩ = some u) : wr.cell? ⟨b, i, none⟩ = some u := (World.cell?_of_block (w := W) (a := ⟨b, i, none⟩) (h.keep b hb h1 h2)).trans hc
/-- One more is counted. -/
structure OnI (W : World) (o bs SX cp : Nat) (tl : List Int) (T : Nat → Value × Value × Value) (L M : Nat) (v : Value) (wr : World) : Prop where
  io : Below 0 W wr
  keep : ∀ b, b < W.heap.size → b ≠ o → b ≠ bs → wr.heap[b]? = W.heap[b]?
  c0 : wr.cell? ⟨o, 0, none⟩ = some (.slice (some ⟨bs, 0, none⟩) SX cp)
  c1 : wr.cell? ⟨o, 1, none⟩ = some v
  f1 : wr.frozen? ⟨o, 1, none⟩ = false
  sc : SoftC wr bs (((L + 1 : Nat) : Int) :: tl)
  own : wr.ownsRow W.heap.size 39 3 v (L * M) (rowT T (L * M))
theorem OnE.inc {W wr : World} {o bs SX cp L M : Nat} {tl : List Int} {T : Nat → Value × Value × Value} {v : Value} (h : OnE W o bs SX cp tl T L M v wr) (hne : o ≠ bs) (hbs : bs < W.heap.size) : OnI W o bs SX cp tl T L M v (wr.setCell ⟨bs, 0, none⟩ (.int .i64 ((L + 1 : Nat) : Int))) := by
  refine ⟨h.io.setCell (p := ⟨bs, 0, none⟩) (Nat.zero_le _) _, fun b hb h1 h2 => ?_, cell_apart (p := ⟨o, 0, none⟩) (q := ⟨bs, 0, none⟩) hne _ h.c0, cell_apart (p := ⟨o, 1, none⟩) (q := ⟨bs, 0, none⟩) hne _ h.c1, frozen_set _ _ _ _ h.f1, ?_, ownsRow_setCell_below h.own (a := ⟨bs, 0, none⟩) hbs _⟩
  · rw [Below.heap_setCell _ _ _ _ (by show b ≠ bs; exact h2)]
    exact h.keep b hb h1 h2
  · exact h.sc.set 0 (by simp) ((L + 1 : Nat) : Int)
theorem OnI.add {W wr w1 : World} {o bs SX cp L M : Nat} {tl : List Int} {T : Nat → Value × Value × Value} {v v' : Value} (h : OnI W o bs SX cp tl T L M v wr) (hne : o ≠ bs) (ho : o < W.heap.size) (hbs : bs < W.heap.size) (hb : Below W.heap.size wr w1) (hown : w1.ownsRow W.heap.size 39 3 v' (L * M + M) (rowT T (L * M + M))) : OnE W o bs SX cp tl T (L + 1) M v' (w1.setCell ⟨o, 1, none⟩ v') := by
  have e0 : w1.cell? ⟨o, 0, none⟩ = _ := (hb.cell (p := ⟨o, 0, none⟩) ho).trans h.c0
  have e1 : w1.cell? ⟨o, 1, none⟩ = _ := (hb.cell (p := ⟨o, 1, none⟩) ho).trans h.c1
  refine ⟨(h.io.trans (hb.mono (Nat.zero_le _))).setCell (p := ⟨o, 1, none⟩) (Nat.zero_le _) _, fun b hb1 h1 h2 => ?_, ?_, ?_, ?_, fun i hi => ?_, ?_⟩
  · rw [Below.heap_setCell _ _ _ _ (by show b ≠ o; exact h1), hb.block b hb1]
    exact h.keep b hb1 h1 h2
  · rw [World.cell?_setCell_other _ _ _ _ (by simp)]; exact e0
  · exact World.cell?_setCell_same' _ _ _ (by rw [e1]; rfl)
  · exact frozen_set _ _ _ _ ((hb.frozen (p := ⟨o, 1, none⟩) ho).trans h.f1)
  · obtain ⟨s1, s2⟩ := h.sc i hi
    exact ⟨cell_apart (p := ⟨bs, i, none⟩) (q := ⟨o, 1, none⟩) hne.symm _ ((hb.cell (p := ⟨bs, i, none⟩) hbs).trans s1), frozen_set _ _ _ _ ((hb.frozen (p := ⟨bs, i, none⟩) hbs).trans s2)⟩
  · rw [Nat.succ_mul]
    exact ownsRow_setCell_below hown (a := ⟨o, 1, none⟩) ho _
/-- What was gathered is an array. -/
theorem OnE.arr {n lo W0s : Nat} {w W wr : World} {o bs SX cp : Nat} {y : Ar} {ab : Nat → Option Addr} {cb : Nat → Nat} {a2 : Option Addr} {wh : List Int} {v : Value} {m : Nat} (h : OnE W o bs SX cp y.shape.tail (itT y.cells ab cb m wh 0 0) wh.length m v wr) (hb : Below w.heap.size w wr) (hcf : CellsFn n lo w y.cells a2 ab cb) (hS : 0 < y.shape.length) (h8 : y.shape.length ≤ 8) (hSX : y.shape.length = SX) (hbs : bs < W.heap.size) (hLm : wh.length * m ≤ 16384)
    (hj : ∀ t, t < wh.length → 0 ≤ gI wh t ∧ (gI wh t).toNat * m + m ≤ y.cells.length) : ∃ a c, v = .slice a (wh.length * m) c ∧ ArIn (n + 1) 0 wr (itmsA y m wh 0 0) (.agg #[.slice (some ⟨bs, 0, none⟩) SX cp, .slice a (wh.length * m) c]) := by
  have hcl : (itmsA y m wh 0 0).cells.length = wh.length * m := by show (mkCs _ _).length = _; rw [mkCs_len]
  have htl : y.shape.tail.length = SX - 1 := by rw [List.length_tail, hSX]
  obtain ⟨a, c, rfl, hcap, hin⟩ := cells_of_own (n := n) (lo := lo) (cs := (itmsA y m wh 0 0).cells) (T := itT y.cells ab cb m wh 0 0) (by rw [hcl]; exact h.own) hb (fun i hi => by
    rw [hcl] at hi
    have hm0 : 0 < m := by
      rcases Nat.eq_zero_or_pos m with h | h
      · rw [h] at hi; simp at hi
      · exact h
    have hd : i / m < wh.length := Nat.div_lt_of_lt_mul (by rw [Nat.mul_comm]; exact hi)
    have hr := Nat.mod_lt i hm0
    have ec : cAt (itmsA y m wh 0 0).cells i = itC y m wh 0 0 i := mkCs_at _ _ _ hi
    rw [ec]
    unfold itC itT
    obtain ⟨hz, hj1⟩ := hj _ hd
    rw [if_pos hz, if_pos hz]
    obtain ⟨b, off, -, -, hb, hcl2⟩ := hcf (by omega)
    obtain ⟨-, -, -, hce⟩ := hcl2 ((gI wh (i / m)).toNat * m + i % m) (by omega)
    exact hce)
  rw [hcl] at hcap ⊢
  refine ⟨a, c, rfl, arIn_mk (x := itmsA y m wh 0 0) ?_ (by rw [hcl]; omega) hin (by show (List.cons _ y.shape.tail).length = _; rw [List.length_cons, htl]; omega) hcl⟩
  refine ⟨by show (List.cons _ y.shape.tail).length ≤ _; rw [List.length_cons, htl]; omega, Or.inr ⟨bs, 0, rfl, Nat.zero_le _, by have := h.io.size; omega, fun i hi => ?_⟩⟩
  rw [Nat.zero_add]
  exact (h.sc i hi).1
theorem onE_new {W w7 : World} {o bs SX cp : Nat} {d : Int} {tl : List Int} {T : Nat → Value × Value × Value} {M : Nat} (hne : o ≠ bs) (c0 : w7.cell? ⟨o, 0, none⟩ = some (.slice (some ⟨bs, 0, none⟩) SX cp)) (c1 : w7.cell? ⟨o, 1, none⟩ = some (.slice none 0 0)) (f1 : w7.frozen? ⟨o, 1, none⟩ = false) (sc : SoftC w7 bs ((0 : Int) :: tl)) : OnE w7 o bs SX cp tl T 0 M (.slice none 0 0) w7 := by
  refine ⟨Below.refl _ _, fun _ _ _ _ => rfl, c0, c1, f1, sc, ?_⟩
  rw [Nat.zero_mul]
  exact World.ownsRow_nil _ _ _ _
end Go.Proofs.Ytimkcpbgnoekcaa
