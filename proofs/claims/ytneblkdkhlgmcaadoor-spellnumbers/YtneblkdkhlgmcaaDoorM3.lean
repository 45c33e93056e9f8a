/-
  The contracts of the document's Nums and Text: numbers and signs as arrays, put together by append; at most 16384 numbers.
  The grammars of the three dialects, as far as a writer reads them; an array and a program of the trial run.
  The trial run of layer 16's statements; a number as a text, both ways.
  What a call of layer 16's statements is told of the package-level variables: they lie as their texts lay them; a world for the witness.
-/
import Derived.Test.YtneblkdkhlgmcaaDoorM2
import Derived.Shelf.Strconv.Itoa4
import Derived.Test.YtneblkdkhlgmcaaDoorProg
import Derived.WalkKit
import Derived.Test.YtneblkdkhlgmcaaDoorChecked
import GoSem.Claim
import GoSem.ClaimJoined
import GoSem.ClaimMapViews
import Derived.JoinedTies
import Derived.KernelRfl
import Derived.ProofKit
import Derived.Below
import Derived.Deep.OwnRows
import Derived.Deep.QuietTactic
import Derived.BigQuiet
import Derived.Deep.RegionWith
import Derived.Lib.AppendIntMem
import Derived.Lib.ConvBytes
import Derived.Lib.Builder
import Derived.Lib.AppendStr
import Derived.Lib.UnsafeStr
import Derived.Deep.LoopGhost
import Derived.Deep.RegionHeld3
import Derived.Lib.MakeNoZero
import Derived.Laws.MakeOwn
import Derived.Laws.BitsAllLaws
import Derived.Lib.Bits
import Derived.Deep.Cut
import Derived.Deep.MidRow
import Derived.Deep.RegionLaw
import GoSem.ClaimSeven
import Derived.LaidByTextLater
import Derived.SevenTiedAt
import Derived.LaidSub
import Derived.LaidOnce
import Derived.Deep.DeepHandedRow
import Derived.Lib.LaidTab
import Derived.OpenShut
import Derived.Lay
import Derived.ChangeOld
import Derived.SizedLaws
namespace Go.Proofs.YtneblkdkhlgmcaaDoor
open Go.ChangeShapes Go.WideShapes Go.ChangeAt Go.RowKit
set_option maxRecDepth 100000
set_option linter.unusedVariables false
/-- What holds while the document's Nums or Text goes on: its answer's place (block s), the array (block o, its shape sv) and its cells so far. -/
def Inv (s o : Nat) (sv : Value) (k : Int) (l : List Int) (j : Nat) (v : Value) (w wr : World) : Prop :=
  Below s w wr ∧ o < wr.heap.size ∧ (wr.cell? ⟨s, 0, none⟩ = some (.slice none 0 0) ∧ wr.cell? ⟨s, 1, none⟩ = some (.slice none 0 0) ∧ wr.frozen? ⟨s, 0, none⟩ = false ∧ wr.frozen? ⟨s, 1, none⟩ = false) ∧
  (wr.cell? ⟨o, 0, none⟩ = some sv ∧ wr.cell? ⟨o, 1, none⟩ = some v ∧ wr.frozen? ⟨o, 0, none⟩ = false ∧ wr.frozen? ⟨o, 1, none⟩ = false) ∧ wr.ownsRow (o + 1) 72 3 v j (rowF k l j)
theorem frozen_set (w : World) (a b : Addr) (v : Value) (h : w.frozen? b = false) : (w.setCell a v).frozen? b = false := by
  simpa using h
theorem inv_step {s o : Nat} {sv : Value} {k : Int} {l : List Int} {j : Nat} {v v' : Value} {w wr w1 : World} (so : s < o) (h : Inv s o sv k l j v w wr) (hb : Below (o + 1) wr w1) (hown : w1.ownsRow (o + 1) 72 3 v' (j + 1) (rowF k l (j + 1))) : Inv s o sv k l (j + 1) v' w (w1.setCell ⟨o, 1, none⟩ v') := by
  obtain ⟨h1, h2, ⟨c0, c1, c2, c3⟩, ⟨d0, d1, d2, d3⟩, -⟩ := h
  have e0 : w1.cell? ⟨o, 0, none⟩ = some sv := (hb.cell (p := ⟨o, 0, none⟩) (by show o < _; omega)).trans d0
  have e1 : w1.cell? ⟨o, 1, none⟩ = some v := (hb.cell (p := ⟨o, 1, none⟩) (by show o < _; omega)).trans d1
  refine ⟨(h1.trans (hb.mono (by omega))).setCell (p := ⟨o, 1, none⟩) (by show s ≤ o; omega) _, ?_, ⟨?_, ?_, ?_, ?_⟩, ⟨?_, ?_, ?_, ?_⟩, ownsRow_setCell_below hown (a := ⟨o, 1, none⟩) (by show o < _; omega) _⟩
  · have : (w1.setCell ⟨o, 1, none⟩ v').heap.size = w1.heap.size := by simp
    rw [this]; exact Nat.lt_of_lt_of_le h2 hb.size
  · exact cell_apart (p := ⟨s, 0, none⟩) (q := ⟨o, 1, none⟩) (by show s ≠ o; omega) _ ((hb.cell (p := ⟨s, 0, none⟩) (by show s < _; omega)).trans c0)
  · exact cell_apart (p := ⟨s, 1, none⟩) (q := ⟨o, 1, none⟩) (by show s ≠ o; omega) _ ((hb.cell (p := ⟨s, 1, none⟩) (by show s < _; omega)).trans c1)
  · exact frozen_set _ _ _ _ ((hb.frozen (p := ⟨s, 0, none⟩) (by show s < _; omega)).trans c2)
  · exact frozen_set _ _ _ _ ((hb.frozen (p := ⟨s, 1, none⟩) (by show s < _; omega)).trans c3)
  · rw [World.cell?_setCell_other _ _ _ _ (by simp)]; exact e0
  · exact World.cell?_setCell_same' _ _ _ (by rw [e1]; rfl)
  · exact frozen_set _ _ _ _ ((hb.frozen (p := ⟨o, 0, none⟩) (by show o < _; omega)).trans d2)
  · exact frozen_set _ _ _ _ ((hb.frozen (p := ⟨o, 1, none⟩) (by show o < _; omega)).trans d3)
theorem info33' : ∃ i, Tryd.prog.info? 72 = some i ∧ i.zero = some (.agg #[.int .i64 0, .int .i64 0, .slice none 0 0]) ∧ i.size = 3 ∧ i.bytes = 40 := by
  obtain ⟨i, hi, hzz⟩ := Option.map_eq_some_iff.1 info33
  simp only [Prod.mk.injEq] at hzz
  exact ⟨i, hi, hzz.1, hzz.2.1, hzz.2.2⟩
theorem owns_drew {w : World} {base e size n : Nat} {v : Value} {xs : List Value} (h : w.ownsRow base e size v n xs) : w.drew.ownsRow base e size v n xs := h
set_option maxHeartbeats 4000000 in
theorem rnums_any {lo : Nat} (n : Nat) (l : List Int) (a : Option Addr) (cap : Nat) (w : World) (R : Row lo w a l) (hl : l.length ≤ 16384) :
    Calls Tryd.prog 16 #[.slice a l.length cap] w fun e w' => GivesA (n + 1) (numsA l) w e w' := by
  obtain ⟨i0, hi, hz0, hz1, hz2⟩ := info33'
  have hrow := @row_at _ _ _ _ R
  clear R
  have b1 : Below w.heap.size w ((w.alloc (.cells #[.slice none 0 0, .slice none 0 0] 31)).alloc (.cells #[.int .i64 (l.length : Int)] 3)) := two_allocs _ _ _
  have s1 := size_two w (.cells #[.slice none 0 0, .slice none 0 0] 31) (.cells #[.int .i64 (l.length : Int)] 3)
  have HST : Hid (Inv w.heap.size (w.heap.size + 2) (.slice (some ⟨w.heap.size + 1, 0, none⟩) 1 1) 0 l 0 (.slice none 0 0) w (((w.alloc (.cells #[.slice none 0 0, .slice none 0 0] 31)).alloc (.cells #[.int .i64 (l.length : Int)] 3)).alloc (.cells #[.slice (some ⟨w.heap.size + 1, 0, none⟩) 1 1, .slice none 0 0] 31))) := by
    have g := fun (b i : Nat) (v : Value) (hb : b < w.heap.size + 2) (h : ((w.alloc (.cells #[.slice none 0 0, .slice none 0 0] 31)).alloc (.cells #[.int .i64 (l.length : Int)] 3)).cell? ⟨b, i, none⟩ = some v) => ((one_alloc _ (.cells #[.slice (some ⟨w.heap.size + 1, 0, none⟩) 1 1, .slice none 0 0] 31)).cell (p := ⟨b, i, none⟩) (by rw [s1]; exact hb)).trans h
    have gf : ∀ i, (((w.alloc (.cells #[.slice none 0 0, .slice none 0 0] 31)).alloc (.cells #[.int .i64 (l.length : Int)] 3)).alloc (.cells #[.slice (some ⟨w.heap.size + 1, 0, none⟩) 1 1, .slice none 0 0] 31)).frozen? ⟨w.heap.size, i, none⟩ = false := fun i =>
      (((two_allocs (w.alloc (.cells #[.slice none 0 0, .slice none 0 0] 31)) (.cells #[.int .i64 (l.length : Int)] 3) (.cells #[.slice (some ⟨w.heap.size + 1, 0, none⟩) 1 1, .slice none 0 0] 31)).frozen (p := ⟨w.heap.size, i, none⟩) (by simp))).trans (frozen_new w _ 31 i)
    have n0 := cell_new0 ((w.alloc (.cells #[.slice none 0 0, .slice none 0 0] 31)).alloc (.cells #[.int .i64 (l.length : Int)] 3)) #[.slice (some ⟨w.heap.size + 1, 0, none⟩) 1 1, .slice none 0 0] 31 0 _ rfl
    have n1 := cell_new0 ((w.alloc (.cells #[.slice none 0 0, .slice none 0 0] 31)).alloc (.cells #[.int .i64 (l.length : Int)] 3)) #[.slice (some ⟨w.heap.size + 1, 0, none⟩) 1 1, .slice none 0 0] 31 1 _ rfl
    have nf := fun i => frozen_new ((w.alloc (.cells #[.slice none 0 0, .slice none 0 0] 31)).alloc (.cells #[.int .i64 (l.length : Int)] 3)) #[.slice (some ⟨w.heap.size + 1, 0, none⟩) 1 1, .slice none 0 0] 31 i
    rw [s1] at n0 n1 nf
    refine ⟨b1.trans ((one_alloc _ _).mono (by rw [s1]; omega)), by simp, ⟨g _ _ _ (by omega) (cell_new1 w _ 31 (0, 0) _ 0 _ rfl), g _ _ _ (by omega) (cell_new1 w _ 31 (0, 0) _ 1 _ rfl), gf 0, gf 1⟩, ⟨n0, n1, nf 0, nf 1⟩, ?_⟩
    exact World.ownsRow_nil _ _ _ _
  have HLEN : Hid ((((w.alloc (.cells #[.slice none 0 0, .slice none 0 0] 31)).alloc (.cells #[.int .i64 (l.length : Int)] 3)).alloc (.cells #[.slice (some ⟨w.heap.size + 1, 0, none⟩) 1 1, .slice none 0 0] 31)).cell? ⟨w.heap.size + 1, 0, none⟩ = some (.int .i64 (l.length : Int))) :=
    ((one_alloc _ (.cells #[.slice (some ⟨w.heap.size + 1, 0, none⟩) 1 1, .slice none 0 0] 31)).cell (p := ⟨w.heap.size + 1, 0, none⟩) (by rw [s1]; show w.heap.size + 1 < _; omega)).trans (cell_new2 w #[.int .i64 (l.length : Int)] 3 (0, 0) (.cells #[.slice none 0 0, .slice none 0 0] 31) 0 _ rfl)
  clear b1 s1
  go_enter Tryd.func16, Tryd.ntmps16
  go_wp2
  go_loopw [4] (fun i wr => ∃ (j : Nat) (v : Value), j ≤ l.length ∧ i = .int .i64 (j : Int) ∧ Inv w.heap.size (w.heap.size + 2) (.slice (some ⟨w.heap.size + 1, 0, none⟩) 1 1) 0 l j v w wr ∧ wr.cell? ⟨w.heap.size + 1, 0, none⟩ = some (.int .i64 (l.length : Int))) (fun i _ => l.length - (intOf i).toNat)
  case atStart => exact ⟨0, _, Nat.zero_le _, rfl, HST.out, HLEN.out⟩
  case round =>
    clear HST HLEN
    obtain ⟨j, v, hj, rfl, hinv, hlen⟩ := hrel
    have HI := hide hinv
    have HL := hide hlen
    obtain ⟨hnx, hsz, ⟨c0, c1, c2, c3⟩, ⟨d0, d1, d2, d3⟩, hown⟩ := hinv
    by_cases hlt : j < l.length
    · obtain ⟨b, off, ha, hb, hck⟩ := hrow hlt
      subst ha
      have hc1 : wr.cell? ⟨b, off + j, none⟩ = some (.int .i64 (l[j]?.getD 0)) := (hnx.cell (p := ⟨b, off + j, none⟩) hb).trans hck
      have hc2 : ∀ o, (wr.drew.alloc o).cell? ⟨w.heap.size + 2, 1, none⟩ = some v := fun o => ((one_alloc wr.drew o).cell (p := ⟨w.heap.size + 2, 1, none⟩) hsz).trans d1
      have HSTEP := hide (rowF_step 0 l j hlt)
      generalize l[j]?.getD 0 = z at *
      have HOWN := hide ((owns_drew hown).alloc (.cells #[.int .i64 0, .int .i64 z, .slice none 0 0] 72))
      have HNEWS : Hid (∀ i u, [Value.int .i64 0, .int .i64 z, .slice none 0 0][i]? = some u → (wr.drew.alloc (.cells #[.int .i64 0, .int .i64 z, .slice none 0 0] 72)).cell? ((⟨wr.heap.size, 0, none⟩ : Addr).add i) = some u) := by
        intro i u hu
        have ha : (⟨wr.heap.size, 0, none⟩ : Addr).add i = ⟨wr.drew.heap.size, i, none⟩ := by
          unfold Addr.add
          split
          · subst_vars; rfl
          · simp
        rw [ha]
        exact cell_new0 wr.drew _ 72 i u (by simpa using hu)
      have HONE : Hid (∀ u ∈ [Value.int .i64 0, .int .i64 z, .slice none 0 0], u.oneCell' = true) := by
        intro u hu
        simp at hu
        rcases hu with rfl | rfl | rfl <;> rfl
      have HMAX : Hid (j + 1 ≤ maxLen ∧ (j + 1) * 40 ≤ 140737488355328 ∧ w.heap.size + 2 + 1 ≤ (wr.drew.alloc (.cells #[.int .i64 0, .int .i64 z, .slice none 0 0] 72)).heap.size) := by
        refine ⟨by unfold maxLen; omega, by omega, ?_⟩
        have : (wr.drew.alloc (.cells #[.int .i64 0, .int .i64 z, .slice none 0 0] 72)).heap.size = wr.heap.size + 1 := by simp
        omega
      have HAL : Hid (Below (w.heap.size + 2 + 1) wr (wr.drew.alloc (.cells #[.int .i64 0, .int .i64 z, .slice none 0 0] 72))) := ((Below.refl _ _).drew).alloc (by show _ ≤ wr.heap.size; omega) _
      clear hown hck hrow hlen c0 c1 c2 c3 d0 d2 hb hnx
      go_wp2
      go_region_law (refine step_append_own rfl (.tmp 16) (.tmp 22) 29 rfl (w.heap.size + 2 + 1) 72 i0 (.agg #[.int .i64 0, .int .i64 0, .slice none 0 0]) 3 40 Tryd.underlying29 hi hz0 hz1 hz2 rfl (by decide) v j (rowF 0 l j) rfl HOWN.out ⟨wr.heap.size, 0, none⟩ 1 1 [.int .i64 0, .int .i64 z, .slice none 0 0] rfl rfl HNEWS.out HONE.out HMAX.out.1 HMAX.out.2.1 HMAX.out.2.2 ?_; intro v' w1 hown1 hb1; obtain ⟨g, cp, rfl, -⟩ := owns_form hown1 (Nat.succ_pos j); have dd1 := (HAL.out.trans hb1).cell (p := ⟨w.heap.size + 2, 1, none⟩) (Nat.lt_succ_self _) |>.trans d1; have dd3 := (HAL.out.trans hb1).frozen (p := ⟨w.heap.size + 2, 1, none⟩) (Nat.lt_succ_self _) |>.trans d3)
      all_goals
        have hown2 : w1.ownsRow (w.heap.size + 2 + 1) 72 3 (.slice (some ⟨g, 0, none⟩) (j + 1) cp) (j + 1) (rowF 0 l (j + 1)) := by rw [HSTEP.out]; exact hown1
        have HN := hide (inv_step (by omega) HI.out (HAL.out.trans hb1) hown2)
        have HN2 : Hid ((w1.setCell ⟨w.heap.size + 2, 1, none⟩ (.slice (some ⟨g, 0, none⟩) (j + 1) cp)).cell? ⟨w.heap.size + 1, 0, none⟩ = some (.int .i64 (l.length : Int))) := cell_apart (p := ⟨w.heap.size + 1, 0, none⟩) (q := ⟨w.heap.size + 2, 1, none⟩) (by show w.heap.size + 1 ≠ w.heap.size + 2; omega) _ (((HAL.out.trans hb1).cell (p := ⟨w.heap.size + 1, 0, none⟩) (by show w.heap.size + 1 < _; omega)).trans HL.out)
        clear hown1 hown2 hb1 dd1 dd3 HOWN HNEWS HONE HMAX HAL HI HL HSTEP
        go_wp2
        go_roundw
        case rel => exact ⟨j + 1, _, by omega, by go_num, HN.out, HN2.out⟩
        case measure => simp [intOf]; omega
    · have hje : j = l.length := by omega
      subst hje
      obtain ⟨a2, cp, rfl, hcs⟩ := owns_cells (n := n) (lo := w.heap.size + 2 + 1) 0 l hown (Nat.le_refl _)
      have HF : Hid (∀ x y, ArIn (n + 1) w.heap.size ((wr.setCell ⟨w.heap.size, 0, none⟩ x).setCell ⟨w.heap.size, 1, none⟩ y) (numsA l) (.agg #[.slice (some ⟨w.heap.size + 1, 0, none⟩) 1 1, .slice a2 l.length cp])) := by
        intro x y
        have hk : Keeps (w.heap.size + 1) wr ((wr.setCell ⟨w.heap.size, 0, none⟩ x).setCell ⟨w.heap.size, 1, none⟩ y) := ((Keeps.refl _ _).setCell (p := ⟨w.heap.size, 0, none⟩) (by show w.heap.size < _; omega) x).setCell (p := ⟨w.heap.size, 1, none⟩) (by show w.heap.size < _; omega) y
        refine arIn_mk (x := numsA l) ?_ (by simp [numsA, Ar.cells, numCs_len]; omega) ?_ rfl (numCs_len 0 l)
        · exact ((row_one (lo := w.heap.size + 1) (b := w.heap.size + 1) (by omega) (Nat.le_refl _) HL.out).keeps hk).low (by omega)
        · exact ((hcs.mono (lo' := w.heap.size + 1) (by omega) (Below.refl _ _)).keeps hk).mono (by omega) (Below.refl _ _)
      have HT := hide (set_two c0 c1 (.slice (some ⟨w.heap.size + 1, 0, none⟩) 1 1) (.slice a2 l.length cp))
      have HB := hide hnx
      clear hown hrow hcs HI HL hnx
      go_wp2
      exact bodyPost_ret (v := .agg #[.slice (some ⟨w.heap.size + 1, 0, none⟩) 1 1, .slice a2 l.length cp]) (by simp [results, Tryd.results16, go_sem, HT.out.1, HT.out.2]) rfl ⟨⟨_, rfl, HF.out _ _⟩, (HB.out.setCell (p := ⟨w.heap.size, 0, none⟩) (Nat.le_refl _) _).setCell (p := ⟨w.heap.size, 1, none⟩) (Nat.le_refl _) _⟩
end Go.Proofs.YtneblkdkhlgmcaaDoor
namespace Go.Proofs.YtneblkdkhlgmcaaDoor
open Go.ChangeShapes Go.WideShapes Go.ChangeAt Go.RowKit
set_option maxRecDepth 100000
set_option linter.unusedVariables false
set_option linter.unusedSimpArgs false
theorem results_cell_mid {P : Program} {fn : Func} {p : Tmp} {ty : TypeId} (h : fn.results = #[.cell p ty]) (tmps : Array Value) (w : World) (b o : Nat) (hp : tmps.getD p undef = .pointer (some ⟨b, o, none⟩)) (cs : List Value) (d : TypeDesc) (hc : w.rangeAt b o cs)
    (hu : P.underlying ty = some d) (hd : d.isRow = true) (hi : (P.info? ty).map (·.size) = some cs.length) :
    (results fn tmps).run P w = .ok (.agg cs.toArray) w := by
  have hp' : tmps[p]?.getD undef = .pointer (some ⟨b, o, none⟩) := by simpa using hp
  simp [results, h, hp', asAddr, run_loadVar_mid w b o ty cs d hc hu hd hi]
theorem old_at {w : World} {q : Nat} {o : Obj} (h : w.heap[q]? = some o) (o' : Obj) : (w.alloc o').heap[q]? = some o := (Lib.alloc_old w o' q (lt_heap h)).trans h
theorem range_of {w : World} {q : Nat} {l : List Value} {T : TypeId} {fz : Nat × Nat} (h : w.heap[q]? = some (.cells l.toArray T fz)) : w.rangeAt q 0 l := fun k v hv => by
  rw [Nat.zero_add, Lib.cell_of_heap h]
  simpa using hv
def aplS (s1 s2 s3 : Value) : Gs := ⟨s1, s2, s3, ⟨#[226, 136, 152, 46]⟩, ⟨#[226, 141, 163]⟩, ⟨#[123]⟩, ⟨#[125]⟩, ⟨#[226, 141, 186]⟩, ⟨#[226, 141, 181]⟩, ⟨#[194, 175]⟩, ⟨#[39]⟩, false, false, true⟩
theorem aplSL {w W1 W2 W3 W4 : World} {l1 l2 l3 : Array Value} (h1 : w.alloc (.cells #[.slice (some ⟨w.heap.size + 1, 0, none⟩) 31 31, .slice (some ⟨w.heap.size + 1 + 1, 0, none⟩) 5 5, .slice (some ⟨w.heap.size + 1 + 1 + 1, 0, none⟩) 2 2, .string ⟨#[226, 136, 152, 46]⟩, .string ⟨#[226, 141, 163]⟩, .string ⟨#[123]⟩, .string ⟨#[125]⟩, .string ⟨#[226, 141, 186]⟩, .string ⟨#[226, 141, 181]⟩, .string ⟨#[194, 175]⟩, .string ⟨#[39]⟩, .bool false, .bool false, .bool true] 27) = W1) (h2 : W1.alloc (.cells l1 9) = W2) (h3 : W2.alloc (.cells l2 9) = W3) (h4 : W3.alloc (.cells l3 9) = W4) : Below w.heap.size w W4 ∧ W4.rangeAt w.heap.size 0 [.slice (some ⟨w.heap.size + 1, 0, none⟩) 31 31, .slice (some ⟨w.heap.size + 1 + 1, 0, none⟩) 5 5, .slice (some ⟨w.heap.size + 1 + 1 + 1, 0, none⟩) 2 2, .string ⟨#[226, 136, 152, 46]⟩, .string ⟨#[226, 141, 163]⟩, .string ⟨#[123]⟩, .string ⟨#[125]⟩, .string ⟨#[226, 141, 186]⟩, .string ⟨#[226, 141, 181]⟩, .string ⟨#[194, 175]⟩, .string ⟨#[39]⟩, .bool false, .bool false, .bool true] := by
  have b1 : Below w.heap.size w W1 := by rw [← h1]; exact alloc_one _ _
  have q1 : W1.heap[w.heap.size]? = some (.cells ([.slice (some ⟨w.heap.size + 1, 0, none⟩) 31 31, .slice (some ⟨w.heap.size + 1 + 1, 0, none⟩) 5 5, .slice (some ⟨w.heap.size + 1 + 1 + 1, 0, none⟩) 2 2, .string ⟨#[226, 136, 152, 46]⟩, .string ⟨#[226, 141, 163]⟩, .string ⟨#[123]⟩, .string ⟨#[125]⟩, .string ⟨#[226, 141, 186]⟩, .string ⟨#[226, 141, 181]⟩, .string ⟨#[194, 175]⟩, .string ⟨#[39]⟩, .bool false, .bool false, .bool true] : List Value).toArray 27 (0, 0)) := by rw [← h1]; exact heap_alloc_new w _
  have b2 : Below w.heap.size w W2 := by rw [← h2]; exact b1.trans ((alloc_one _ _).mono b1.size)
  have q2 := old_at q1 (.cells l1 9)
  rw [h2] at q2
  have b3 : Below w.heap.size w W3 := by rw [← h3]; exact b2.trans ((alloc_one _ _).mono b2.size)
  have q3 := old_at q2 (.cells l2 9)
  rw [h3] at q3
  have b4 : Below w.heap.size w W4 := by rw [← h4]; exact b3.trans ((alloc_one _ _).mono b3.size)
  have q4 := old_at q3 (.cells l3 9)
  rw [h4] at q4
  exact ⟨b4, range_of q4⟩
set_option maxHeartbeats 4000000 in
theorem aplS17 {w : World} : Calls Tryd.prog 17 #[] w fun e w' => ∃ a1 c1 d1 a2 c2 d2 a3 c3 d3, e = .returned (gV (aplS (.slice a1 c1 d1) (.slice a2 c2 d2) (.slice a3 c3 d3))) ∧ Below w.heap.size w w' := by
  go_enter Tryd.func17, Tryd.ntmps17
  go_wp2
  obtain ⟨k1, kr⟩ := aplSL (w := w) rfl rfl rfl rfl
  refine bodyPost_ret (v := .agg #[.slice (some ⟨w.heap.size + 1, 0, none⟩) 31 31, .slice (some ⟨w.heap.size + 1 + 1, 0, none⟩) 5 5, .slice (some ⟨w.heap.size + 1 + 1 + 1, 0, none⟩) 2 2, .string ⟨#[226, 136, 152, 46]⟩, .string ⟨#[226, 141, 163]⟩, .string ⟨#[123]⟩, .string ⟨#[125]⟩, .string ⟨#[226, 141, 186]⟩, .string ⟨#[226, 141, 181]⟩, .string ⟨#[194, 175]⟩, .string ⟨#[39]⟩, .bool false, .bool false, .bool true]) (results_cell_mid rfl _ _ w.heap.size 0 rfl [.slice (some ⟨w.heap.size + 1, 0, none⟩) 31 31, .slice (some ⟨w.heap.size + 1 + 1, 0, none⟩) 5 5, .slice (some ⟨w.heap.size + 1 + 1 + 1, 0, none⟩) 2 2, .string ⟨#[226, 136, 152, 46]⟩, .string ⟨#[226, 141, 163]⟩, .string ⟨#[123]⟩, .string ⟨#[125]⟩, .string ⟨#[226, 141, 186]⟩, .string ⟨#[226, 141, 181]⟩, .string ⟨#[194, 175]⟩, .string ⟨#[39]⟩, .bool false, .bool false, .bool true] _ kr Tryd.underlying27 rfl (by kernel_rfl)) rfl ?_
  exact ⟨_, _, _, _, _, _, _, _, _, rfl, k1⟩
def jS (s1 s2 s3 : Value) : Gs := ⟨s1, s2, s3, ⟨#[]⟩, ⟨#[94, 58]⟩, ⟨#[123, 123]⟩, ⟨#[125, 125]⟩, ⟨#[120]⟩, ⟨#[121]⟩, ⟨#[95]⟩, ⟨#[39]⟩, true, false, false⟩
theorem jSL {w W1 W2 W3 : World} {l1 l2 : Array Value} (h1 : w.alloc (.cells #[.slice (some ⟨w.heap.size + 1, 0, none⟩) 28 28, .slice (some ⟨w.heap.size + 1 + 1, 0, none⟩) 4 4, .slice none 0 0, .string ⟨#[]⟩, .string ⟨#[94, 58]⟩, .string ⟨#[123, 123]⟩, .string ⟨#[125, 125]⟩, .string ⟨#[120]⟩, .string ⟨#[121]⟩, .string ⟨#[95]⟩, .string ⟨#[39]⟩, .bool true, .bool false, .bool false] 27) = W1) (h2 : W1.alloc (.cells l1 9) = W2) (h3 : W2.alloc (.cells l2 9) = W3) : Below w.heap.size w W3 ∧ W3.rangeAt w.heap.size 0 [.slice (some ⟨w.heap.size + 1, 0, none⟩) 28 28, .slice (some ⟨w.heap.size + 1 + 1, 0, none⟩) 4 4, .slice none 0 0, .string ⟨#[]⟩, .string ⟨#[94, 58]⟩, .string ⟨#[123, 123]⟩, .string ⟨#[125, 125]⟩, .string ⟨#[120]⟩, .string ⟨#[121]⟩, .string ⟨#[95]⟩, .string ⟨#[39]⟩, .bool true, .bool false, .bool false] := by
  have b1 : Below w.heap.size w W1 := by rw [← h1]; exact alloc_one _ _
  have q1 : W1.heap[w.heap.size]? = some (.cells ([.slice (some ⟨w.heap.size + 1, 0, none⟩) 28 28, .slice (some ⟨w.heap.size + 1 + 1, 0, none⟩) 4 4, .slice none 0 0, .string ⟨#[]⟩, .string ⟨#[94, 58]⟩, .string ⟨#[123, 123]⟩, .string ⟨#[125, 125]⟩, .string ⟨#[120]⟩, .string ⟨#[121]⟩, .string ⟨#[95]⟩, .string ⟨#[39]⟩, .bool true, .bool false, .bool false] : List Value).toArray 27 (0, 0)) := by rw [← h1]; exact heap_alloc_new w _
  have b2 : Below w.heap.size w W2 := by rw [← h2]; exact b1.trans ((alloc_one _ _).mono b1.size)
  have q2 := old_at q1 (.cells l1 9)
  rw [h2] at q2
  have b3 : Below w.heap.size w W3 := by rw [← h3]; exact b2.trans ((alloc_one _ _).mono b2.size)
  have q3 := old_at q2 (.cells l2 9)
  rw [h3] at q3
  exact ⟨b3, range_of q3⟩
set_option maxHeartbeats 4000000 in
theorem jS18 {w : World} : Calls Tryd.prog 18 #[] w fun e w' => ∃ a1 c1 d1 a2 c2 d2 a3 c3 d3, e = .returned (gV (jS (.slice a1 c1 d1) (.slice a2 c2 d2) (.slice a3 c3 d3))) ∧ Below w.heap.size w w' := by
  go_enter Tryd.func18, Tryd.ntmps18
  go_wp2
  obtain ⟨k1, kr⟩ := jSL (w := w) rfl rfl rfl
  refine bodyPost_ret (v := .agg #[.slice (some ⟨w.heap.size + 1, 0, none⟩) 28 28, .slice (some ⟨w.heap.size + 1 + 1, 0, none⟩) 4 4, .slice none 0 0, .string ⟨#[]⟩, .string ⟨#[94, 58]⟩, .string ⟨#[123, 123]⟩, .string ⟨#[125, 125]⟩, .string ⟨#[120]⟩, .string ⟨#[121]⟩, .string ⟨#[95]⟩, .string ⟨#[39]⟩, .bool true, .bool false, .bool false]) (results_cell_mid rfl _ _ w.heap.size 0 rfl [.slice (some ⟨w.heap.size + 1, 0, none⟩) 28 28, .slice (some ⟨w.heap.size + 1 + 1, 0, none⟩) 4 4, .slice none 0 0, .string ⟨#[]⟩, .string ⟨#[94, 58]⟩, .string ⟨#[123, 123]⟩, .string ⟨#[125, 125]⟩, .string ⟨#[120]⟩, .string ⟨#[121]⟩, .string ⟨#[95]⟩, .string ⟨#[39]⟩, .bool true, .bool false, .bool false] _ kr Tryd.underlying27 rfl (by kernel_rfl)) rfl ?_
  exact ⟨_, _, _, _, _, _, _, _, _, rfl, k1⟩
def kS (s1 s2 s3 : Value) : Gs := ⟨s1, s2, s3, ⟨#[]⟩, ⟨#[]⟩, ⟨#[123]⟩, ⟨#[125]⟩, ⟨#[120]⟩, ⟨#[121]⟩, ⟨#[45]⟩, ⟨#[34]⟩, false, true, true⟩
theorem kSL {w W1 W2 W3 : World} {l1 l2 : Array Value} (h1 : w.alloc (.cells #[.slice (some ⟨w.heap.size + 1, 0, none⟩) 17 17, .slice (some ⟨w.heap.size + 1 + 1, 0, none⟩) 2 2, .slice none 0 0, .string ⟨#[]⟩, .string ⟨#[]⟩, .string ⟨#[123]⟩, .string ⟨#[125]⟩, .string ⟨#[120]⟩, .string ⟨#[121]⟩, .string ⟨#[45]⟩, .string ⟨#[34]⟩, .bool false, .bool true, .bool true] 27) = W1) (h2 : W1.alloc (.cells l1 9) = W2) (h3 : W2.alloc (.cells l2 9) = W3) : Below w.heap.size w W3 ∧ W3.rangeAt w.heap.size 0 [.slice (some ⟨w.heap.size + 1, 0, none⟩) 17 17, .slice (some ⟨w.heap.size + 1 + 1, 0, none⟩) 2 2, .slice none 0 0, .string ⟨#[]⟩, .string ⟨#[]⟩, .string ⟨#[123]⟩, .string ⟨#[125]⟩, .string ⟨#[120]⟩, .string ⟨#[121]⟩, .string ⟨#[45]⟩, .string ⟨#[34]⟩, .bool false, .bool true, .bool true] := by
  have b1 : Below w.heap.size w W1 := by rw [← h1]; exact alloc_one _ _
  have q1 : W1.heap[w.heap.size]? = some (.cells ([.slice (some ⟨w.heap.size + 1, 0, none⟩) 17 17, .slice (some ⟨w.heap.size + 1 + 1, 0, none⟩) 2 2, .slice none 0 0, .string ⟨#[]⟩, .string ⟨#[]⟩, .string ⟨#[123]⟩, .string ⟨#[125]⟩, .string ⟨#[120]⟩, .string ⟨#[121]⟩, .string ⟨#[45]⟩, .string ⟨#[34]⟩, .bool false, .bool true, .bool true] : List Value).toArray 27 (0, 0)) := by rw [← h1]; exact heap_alloc_new w _
  have b2 : Below w.heap.size w W2 := by rw [← h2]; exact b1.trans ((alloc_one _ _).mono b1.size)
  have q2 := old_at q1 (.cells l1 9)
  rw [h2] at q2
  have b3 : Below w.heap.size w W3 := by rw [← h3]; exact b2.trans ((alloc_one _ _).mono b2.size)
  have q3 := old_at q2 (.cells l2 9)
  rw [h3] at q3
  exact ⟨b3, range_of q3⟩
set_option maxHeartbeats 4000000 in
theorem kS21 {w : World} : Calls Tryd.prog 21 #[] w fun e w' => ∃ a1 c1 d1 a2 c2 d2 a3 c3 d3, e = .returned (gV (kS (.slice a1 c1 d1) (.slice a2 c2 d2) (.slice a3 c3 d3))) ∧ Below w.heap.size w w' := by
  go_enter Tryd.func21, Tryd.ntmps21
  go_wp2
  obtain ⟨k1, kr⟩ := kSL (w := w) rfl rfl rfl
  refine bodyPost_ret (v := .agg #[.slice (some ⟨w.heap.size + 1, 0, none⟩) 17 17, .slice (some ⟨w.heap.size + 1 + 1, 0, none⟩) 2 2, .slice none 0 0, .string ⟨#[]⟩, .string ⟨#[]⟩, .string ⟨#[123]⟩, .string ⟨#[125]⟩, .string ⟨#[120]⟩, .string ⟨#[121]⟩, .string ⟨#[45]⟩, .string ⟨#[34]⟩, .bool false, .bool true, .bool true]) (results_cell_mid rfl _ _ w.heap.size 0 rfl [.slice (some ⟨w.heap.size + 1, 0, none⟩) 17 17, .slice (some ⟨w.heap.size + 1 + 1, 0, none⟩) 2 2, .slice none 0 0, .string ⟨#[]⟩, .string ⟨#[]⟩, .string ⟨#[123]⟩, .string ⟨#[125]⟩, .string ⟨#[120]⟩, .string ⟨#[121]⟩, .string ⟨#[45]⟩, .string ⟨#[34]⟩, .bool false, .bool true, .bool true] _ kr Tryd.underlying27 rfl (by kernel_rfl)) rfl ?_
  exact ⟨_, _, _, _, _, _, _, _, _, rfl, k1⟩
end Go.Proofs.YtneblkdkhlgmcaaDoor
namespace Go.Proofs.YtneblkdkhlgmcaaDoor
open Go.ChangeShapes Go.WideShapes Go.ChangeAt Go.RowKit
set_option maxRecDepth 100000
set_option linter.unusedVariables false
set_option linter.unusedSimpArgs false
theorem dd (i : Nat) (h : i < 10) : Lib.decDigits i = [UInt8.ofNat (48 + i)] := Lib.decDigits_one h
def xA : Ar := numsA [1, -2]
def xB : Nd := .mk 5 0 noS noA [.mk 21 0 ⟨#[105, 46]⟩ noA [] 0, litD (atomA 3)] 0
def xZ : Nd := .mk 0 0 noS noA [] 0
theorem litA (s1 s2 s3 : Value) : litE xA = 0 ∧ litS (aplS s1 s2 s3) xA = [49, 32, 194, 175, 50] := by
  have hb : litB xA = true := by kernel_rfl
  have ht : txB xA = false := by kernel_rfl
  unfold litE litS litT
  rw [hb, ht]
  refine ⟨rfl, ?_⟩
  have e1 : numT 1 (aplS s1 s2 s3).minus.data.toList = [49] := by
    unfold numT
    rw [if_neg (by decide)]
    exact dd 1 (by decide)
  have e2 : numT (-2) (aplS s1 s2 s3).minus.data.toList = [194, 175, 50] := by
    unfold numT
    rw [if_pos (by decide), show (-2 : Int).natAbs = 2 from rfl, dd 2 (by decide)]
    rfl
  have e3 : numW (aplS s1 s2 s3).minus xA.cells = [str [49], str [194, 175, 50]] := by
    show [str (numT 1 (aplS s1 s2 s3).minus.data.toList), str (numT (-2) (aplS s1 s2 s3).minus.data.toList)] = _
    rw [e1, e2]
  rw [e3]
  rfl
theorem wrA (s1 s2 s3 : Value) : wrB (jS s1 s2 s3) 2 xB = true ∧ (TX (jS s1 s2 s3) 2).E (jS s1 s2 s3).right xB = [105, 46, 32, 51] := by
  refine ⟨by kernel_rfl, ?_⟩
  have e1 : numT 3 (jS s1 s2 s3).minus.data.toList = [51] := by
    unfold numT
    rw [if_neg (by decide)]
    exact dd 3 (by decide)
  have e2 : litT (jS s1 s2 s3) (atomA 3) = [51] := by
    unfold litT
    rw [show txB (atomA 3) = false from by kernel_rfl]
    have e3 : numW (jS s1 s2 s3).minus (atomA 3).cells = [str [51]] := by
      show [str (numT 3 (jS s1 s2 s3).minus.data.toList)] = _
      rw [e1]
    rw [e3]
    rfl
  show [105, 46] ++ ([32] ++ litT (jS s1 s2 s3) (atomA 3)) = _
  rw [e2]
  rfl
theorem wrZ (s1 s2 s3 : Value) : wrB (kS s1 s2 s3) 1 xZ = false := by kernel_rfl
theorem numM : numT (-5) [95] = [95, 53] := by
  unfold numT
  rw [if_pos (by decide), show (-5 : Int).natAbs = 5 from rfl, dd 5 (by decide)]
  rfl
theorem sndA_mk {x : Nd} (h1 : I64 x.op) (h2 : x.lit.cells.length ≤ 100000) (h3 : ∀ i, i < x.lit.cells.length → I64 (cAt x.lit.cells i).2.1) (h4 : ∀ i, i < x.kids.length → sndA (kp x i)) : sndA x := fun m => by
  cases m with
  | zero => trivial
  | succ m => exact ⟨h1, h2, h3, fun i hi => h4 i hi m⟩
theorem sndZ : sndA xZ := sndA_mk (by unfold I64; decide) (by decide) (fun i hi => absurd hi (by simp [xZ, noA, Nd.lit, Ar.cells])) (fun i hi => absurd hi (by simp [xZ, Nd.kids]))
theorem sndP : sndA (.mk 21 0 ⟨#[105, 46]⟩ noA [] 0) := sndA_mk (by unfold I64; decide) (by decide) (fun i hi => absurd hi (by simp [noA, Nd.lit, Ar.cells])) (fun i hi => absurd hi (by simp [Nd.kids]))
theorem sndL : sndA (litD (atomA 3)) := sndA_mk (by unfold I64; decide) (by decide) (fun i hi => by
  have h0 : i = 0 := by have : i < 1 := hi; omega
  subst h0
  unfold I64
  decide) (fun i hi => absurd hi (by simp [litD, Nd.kids]))
theorem sndB : sndA xB := sndA_mk (by unfold I64; decide) (by decide) (fun i hi => absurd hi (by simp [xB, noA, Nd.lit, Ar.cells])) (fun i hi => by
  have h2 : i < 2 := hi
  rcases (by omega : i = 0 ∨ i = 1) with rfl | rfl
  · exact sndP
  · exact sndL)
theorem leaf0 (w : World) : NdIn 1 1 0 w (.mk 21 0 ⟨#[105, 46]⟩ noA [] 0) (.agg #[.int .i64 21, .int .i64 0, .string ⟨#[105, 46]⟩, .slice none 0 0, .slice none 0 0, .slice none 0 0, .int .i64 0]) :=
  ⟨none, 0, none, 0, none, 0, rfl, noA_in 0 0 _, by decide, by decide, Or.inl rfl⟩
theorem row2 (w : World) : Row 0 (w.alloc (.cells #[.int .i64 1, .int .i64 (-2)] 2)) (some ⟨w.heap.size, 0, none⟩) [1, -2] := by
  refine ⟨by decide, Or.inr ⟨w.heap.size, 0, rfl, Nat.zero_le _, by simp, fun i hi => ?_⟩⟩
  have h2 : i < 2 := hi
  rcases (by omega : i = 0 ∨ i = 1) with rfl | rfl
  · exact cell_new0 w _ 2 0 _ rfl
  · exact cell_new0 w _ 2 1 _ rfl
set_option maxHeartbeats 8000000 in
theorem works7 {w : World} (T : Rn.Tab w) (P : Pw w) : Calls Tryd.prog 7 #[] w fun e w' => e = .returned (.bool true) ∧ Below w.heap.size w w' := by
  have HT : Hid (∀ W, Below w.heap.size w W → Rn.Tab W ∧ Pw W) := hide fun W hW => ⟨T.below hW T.1, Lib.tabBelow_of_tabIs P _ hW⟩
  have HA := hide (fun W => rnums_any (lo := 0) 0 [1, -2] (some ⟨w.heap.size, 0, none⟩) 2 W)
  have HR := hide (row2 w)
  have HB1 := hide (alloc_one w (.cells #[.int .i64 1, .int .i64 (-2)] 2))
  clear T P
  go_enter Tryd.func7, Tryd.ntmps7
  go_wp2_with fail
  refine (HA.out _ HR.out (by decide)).mono ?_
  rintro e w2 ⟨⟨v2, rfl, hx2⟩, hb2⟩
  have HB2 := hide (HB1.out.trans (hb2.mono HB1.out.size))
  have HX2 := hide hx2
  clear hx2 hb2 HA HR HB1
  go_wp2_with fail
  refine aplS17.mono ?_
  rintro e w3 ⟨a1, c1, d1, a2, c2, d2, a3, c3, d3, rfl, hb3⟩
  have HX3 := hide (HX2.out.next hb3)
  have HB3 := hide (HB2.out.trans (hb3.mono HB2.out.size))
  obtain ⟨GA, hGA⟩ : ∃ GA, aplS (.slice a1 c1 d1) (.slice a2 c2 d2) (.slice a3 c3 d3) = GA := ⟨_, rfl⟩
  have HL := hide (lit15 (G := GA) HX3.out (by decide) (fun i hi => by
    have h2 : i < 2 := hi
    rcases (by omega : i = 0 ∨ i = 1) with rfl | rfl <;> (unfold I64; decide)) (by rw [← hGA]; show ByteArray.size ⟨#[194, 175]⟩ ≤ _; decide) (by rw [← hGA]; show ByteArray.size ⟨#[39]⟩ ≤ _; decide) (HT.out _ HB3.out).1 (HT.out _ HB3.out).2)
  have hla := litA (.slice a1 c1 d1) (.slice a2 c2 d2) (.slice a3 c3 d3)
  rw [hGA] at hla ⊢
  have HLA : Hid (litE (numsA [1, -2]) = 0 ∧ litS GA (numsA [1, -2]) = [49, 32, 194, 175, 50]) := hide hla
  clear hGA hla hb3 HX2 HB2
  go_wp2_with fail
  refine HL.out.mono ?_
  rintro e w4 ⟨rfl, hb4⟩
  rw [HLA.out.1, HLA.out.2]
  have HB4 := hide (HB3.out.trans (hb4.mono HB3.out.size))
  clear hb4 HL HLA HX3 HB3
  go_wp2_with fail
  refine jS18.mono ?_
  rintro e w5 ⟨b1, e1, f1, b2, e2, f2, b3, e3, f3, rfl, hb5⟩
  have HB5 := hide (HB4.out.trans (hb5.mono HB4.out.size))
  clear hb5 HB4
  obtain ⟨GJ, hGJ⟩ : ∃ GJ, jS (.slice b1 e1 f1) (.slice b2 e2 f2) (.slice b3 e3 f3) = GJ := ⟨_, rfl⟩
  rw [hGJ]
  go_wp2_with fail
  refine (ratom_any 0 3 w5).mono ?_
  rintro e w6 ⟨⟨v6, rfl, hx6⟩, hb6⟩
  have HX6 := hide hx6
  have HB6 := hide (HB5.out.trans (hb6.mono HB5.out.size))
  clear hx6 hb6 HB5
  go_wp2_with fail
  refine (lit30 0 1 (atomA 3) v6 w6 (by
    have h := HX6.out
    exact h.mono (Nat.zero_le _) (Below.refl _ _))).mono ?_
  rintro e w7 ⟨⟨v7, rfl, hx7⟩, hb7⟩
  have HB7 := hide (HB6.out.trans (hb7.mono HB6.out.size))
  have HX7 := hide hx7
  obtain ⟨la1, lc1, la2, lc2, lak, lck, hv, -⟩ := hx7
  change v7 = .agg #[.int .i64 1, .int .i64 0, .string ⟨#[]⟩, .slice la1 0 lc1, .slice la2 1 lc2, .slice lak 0 lck, .int .i64 0] at hv
  subst hv
  have hb8 := alloc_one w7 (.cells #[.int .i64 21, .int .i64 0, .string ⟨#[105, 46]⟩, .slice none 0 0, .slice none 0 0, .slice none 0 0, .int .i64 0, .int .i64 1, .int .i64 0, .string ⟨#[]⟩, .slice la1 0 lc1, .slice la2 1 lc2, .slice lak 0 lck, .int .i64 0] 34)
  have HN : Hid (NdIn 2 1 0 (w7.alloc (.cells #[.int .i64 21, .int .i64 0, .string ⟨#[105, 46]⟩, .slice none 0 0, .slice none 0 0, .slice none 0 0, .int .i64 0, .int .i64 1, .int .i64 0, .string ⟨#[]⟩, .slice la1 0 lc1, .slice la2 1 lc2, .slice lak 0 lck, .int .i64 0] 34)) xB (.agg #[.int .i64 5, .int .i64 0, .string ⟨#[]⟩, .slice none 0 0, .slice none 0 0, .slice (some ⟨w7.heap.size, 0, none⟩) 2 2, .int .i64 0])) := hide (by
    refine ⟨none, 0, none, 0, some ⟨w7.heap.size, 0, none⟩, 2, rfl, noA_in 0 0 _, by decide, by decide, Or.inr ⟨w7.heap.size, 0, rfl, Nat.zero_le _, by simp, fun j hj => ?_⟩⟩
    have h2 : j < 2 := hj
    rcases (by omega : j = 0 ∨ j = 1) with rfl | rfl
    · refine ⟨none, 0, none, 0, none, 0, ⟨?_, ?_, ?_, ?_, ?_, ?_, ?_⟩, leaf0 _⟩
      · exact cell_new0 w7 #[.int .i64 21, .int .i64 0, .string ⟨#[105, 46]⟩, .slice none 0 0, .slice none 0 0, .slice none 0 0, .int .i64 0, .int .i64 1, .int .i64 0, .string ⟨#[]⟩, .slice la1 0 lc1, .slice la2 1 lc2, .slice lak 0 lck, .int .i64 0] 34 0 _ rfl
      · exact cell_new0 w7 #[.int .i64 21, .int .i64 0, .string ⟨#[105, 46]⟩, .slice none 0 0, .slice none 0 0, .slice none 0 0, .int .i64 0, .int .i64 1, .int .i64 0, .string ⟨#[]⟩, .slice la1 0 lc1, .slice la2 1 lc2, .slice lak 0 lck, .int .i64 0] 34 1 _ rfl
      · exact cell_new0 w7 #[.int .i64 21, .int .i64 0, .string ⟨#[105, 46]⟩, .slice none 0 0, .slice none 0 0, .slice none 0 0, .int .i64 0, .int .i64 1, .int .i64 0, .string ⟨#[]⟩, .slice la1 0 lc1, .slice la2 1 lc2, .slice lak 0 lck, .int .i64 0] 34 2 _ rfl
      · exact cell_new0 w7 #[.int .i64 21, .int .i64 0, .string ⟨#[105, 46]⟩, .slice none 0 0, .slice none 0 0, .slice none 0 0, .int .i64 0, .int .i64 1, .int .i64 0, .string ⟨#[]⟩, .slice la1 0 lc1, .slice la2 1 lc2, .slice lak 0 lck, .int .i64 0] 34 3 _ rfl
      · exact cell_new0 w7 #[.int .i64 21, .int .i64 0, .string ⟨#[105, 46]⟩, .slice none 0 0, .slice none 0 0, .slice none 0 0, .int .i64 0, .int .i64 1, .int .i64 0, .string ⟨#[]⟩, .slice la1 0 lc1, .slice la2 1 lc2, .slice lak 0 lck, .int .i64 0] 34 4 _ rfl
      · exact cell_new0 w7 #[.int .i64 21, .int .i64 0, .string ⟨#[105, 46]⟩, .slice none 0 0, .slice none 0 0, .slice none 0 0, .int .i64 0, .int .i64 1, .int .i64 0, .string ⟨#[]⟩, .slice la1 0 lc1, .slice la2 1 lc2, .slice lak 0 lck, .int .i64 0] 34 5 _ rfl
      · exact cell_new0 w7 #[.int .i64 21, .int .i64 0, .string ⟨#[105, 46]⟩, .slice none 0 0, .slice none 0 0, .slice none 0 0, .int .i64 0, .int .i64 1, .int .i64 0, .string ⟨#[]⟩, .slice la1 0 lc1, .slice la2 1 lc2, .slice lak 0 lck, .int .i64 0] 34 6 _ rfl
    · refine ⟨la1, lc1, la2, lc2, lak, lck, ⟨?_, ?_, ?_, ?_, ?_, ?_, ?_⟩, HX7.out.next hb8⟩
      · exact cell_new0 w7 #[.int .i64 21, .int .i64 0, .string ⟨#[105, 46]⟩, .slice none 0 0, .slice none 0 0, .slice none 0 0, .int .i64 0, .int .i64 1, .int .i64 0, .string ⟨#[]⟩, .slice la1 0 lc1, .slice la2 1 lc2, .slice lak 0 lck, .int .i64 0] 34 7 _ rfl
      · exact cell_new0 w7 #[.int .i64 21, .int .i64 0, .string ⟨#[105, 46]⟩, .slice none 0 0, .slice none 0 0, .slice none 0 0, .int .i64 0, .int .i64 1, .int .i64 0, .string ⟨#[]⟩, .slice la1 0 lc1, .slice la2 1 lc2, .slice lak 0 lck, .int .i64 0] 34 8 _ rfl
      · exact cell_new0 w7 #[.int .i64 21, .int .i64 0, .string ⟨#[105, 46]⟩, .slice none 0 0, .slice none 0 0, .slice none 0 0, .int .i64 0, .int .i64 1, .int .i64 0, .string ⟨#[]⟩, .slice la1 0 lc1, .slice la2 1 lc2, .slice lak 0 lck, .int .i64 0] 34 9 _ rfl
      · exact cell_new0 w7 #[.int .i64 21, .int .i64 0, .string ⟨#[105, 46]⟩, .slice none 0 0, .slice none 0 0, .slice none 0 0, .int .i64 0, .int .i64 1, .int .i64 0, .string ⟨#[]⟩, .slice la1 0 lc1, .slice la2 1 lc2, .slice lak 0 lck, .int .i64 0] 34 10 _ rfl
      · exact cell_new0 w7 #[.int .i64 21, .int .i64 0, .string ⟨#[105, 46]⟩, .slice none 0 0, .slice none 0 0, .slice none 0 0, .int .i64 0, .int .i64 1, .int .i64 0, .string ⟨#[]⟩, .slice la1 0 lc1, .slice la2 1 lc2, .slice lak 0 lck, .int .i64 0] 34 11 _ rfl
      · exact cell_new0 w7 #[.int .i64 21, .int .i64 0, .string ⟨#[105, 46]⟩, .slice none 0 0, .slice none 0 0, .slice none 0 0, .int .i64 0, .int .i64 1, .int .i64 0, .string ⟨#[]⟩, .slice la1 0 lc1, .slice la2 1 lc2, .slice lak 0 lck, .int .i64 0] 34 12 _ rfl
      · exact cell_new0 w7 #[.int .i64 21, .int .i64 0, .string ⟨#[105, 46]⟩, .slice none 0 0, .slice none 0 0, .slice none 0 0, .int .i64 0, .int .i64 1, .int .i64 0, .string ⟨#[]⟩, .slice la1 0 lc1, .slice la2 1 lc2, .slice lak 0 lck, .int .i64 0] 34 13 _ rfl)
  have HB8 := hide (HB7.out.trans (hb8.mono HB7.out.size))
  have hwa := wrA (.slice b1 e1 f1) (.slice b2 e2 f2) (.slice b3 e3 f3)
  have HW := hide (write11 (G := GJ) HN.out sndB (HT.out _ HB8.out).1 (HT.out _ HB8.out).2 (by rw [← hGJ]; show ByteArray.size ⟨#[95]⟩ ≤ _; decide) (by rw [← hGJ]; show ByteArray.size ⟨#[39]⟩ ≤ _; decide) (fun _ => by rw [← hGJ, hwa.2]; decide) (by rw [← hGJ]; exact ⟨_, _, _, rfl⟩) (by rw [← hGJ]; exact ⟨_, _, _, rfl⟩) (by rw [← hGJ]; exact ⟨_, _, _, rfl⟩))
  rw [hGJ] at hwa
  have HWA : Hid (wrS GJ 2 xB = [105, 46, 32, 51] ∧ wrE GJ 2 xB = 0) := hide (by
    unfold wrS wrE
    rw [hwa.1]
    exact ⟨hwa.2, rfl⟩)
  clear hb7 HX7 hb8 hwa hGJ HN HX6 HB6 HB7
  go_wp2_with fail
  refine HW.out.mono ?_
  rintro e w9 ⟨rfl, hb9⟩
  rw [HWA.out.1, HWA.out.2]
  have HB9 := hide (HB8.out.trans (hb9.mono HB8.out.size))
  clear hb9 HW HWA HB8
  go_wp2_with fail
  refine kS21.mono ?_
  rintro e w10 ⟨g1, h1, i1, g2, h2, i2, g3, h3, i3, rfl, hb10⟩
  have HB10 := hide (HB9.out.trans (hb10.mono HB9.out.size))
  clear hb10 HB9
  obtain ⟨GK, hGK⟩ : ∃ GK, kS (.slice g1 h1 i1) (.slice g2 h2 i2) (.slice g3 h3 i3) = GK := ⟨_, rfl⟩
  rw [hGK]
  have hwz := wrZ (.slice g1 h1 i1) (.slice g2 h2 i2) (.slice g3 h3 i3)
  rw [hGK] at hwz
  have HZI : Hid (NdIn 1 1 0 w10 xZ (.agg #[.int .i64 0, .int .i64 0, .string ⟨#[]⟩, .slice none 0 0, .slice none 0 0, .slice none 0 0, .int .i64 0])) := hide ⟨none, 0, none, 0, none, 0, rfl, noA_in 0 0 _, by decide, by decide, Or.inl rfl⟩
  have HW := hide (write11 (G := GK) HZI.out sndZ (HT.out _ HB10.out).1 (HT.out _ HB10.out).2 (by rw [← hGK]; show ByteArray.size ⟨#[45]⟩ ≤ _; decide) (by rw [← hGK]; show ByteArray.size ⟨#[34]⟩ ≤ _; decide) (fun h => by rw [hwz] at h; cases h) (by rw [← hGK]; exact ⟨_, _, _, rfl⟩) (by rw [← hGK]; exact ⟨_, _, _, rfl⟩) (by rw [← hGK]; exact ⟨_, _, _, rfl⟩))
  have HWA : Hid (wrS GK 1 xZ = [] ∧ wrE GK 1 xZ = 1) := hide (by
    unfold wrS wrE
    rw [hwz]
    exact ⟨rfl, rfl⟩)
  clear hGK hwz HZI
  go_wp2_with fail
  refine HW.out.mono ?_
  rintro e w11 ⟨rfl, hb11⟩
  rw [HWA.out.1, HWA.out.2]
  have HB11 := hide (HB10.out.trans (hb11.mono HB10.out.size))
  have HN := hide (num5 (-5) ⟨#[95]⟩ (by decide) (by decide) (by decide) w11 (HT.out _ HB11.out).2)
  clear hb11 HW HWA HB10
  change _ at HN
  have hs1 : str [49, 32, 194, 175, 50] = ⟨#[49, 32, 194, 175, 50]⟩ := rfl
  have hs2 : str [105, 46, 32, 51] = ⟨#[105, 46, 32, 51]⟩ := rfl
  rw [hs1, hs2]
  clear hs1 hs2
  go_wp2_with fail
  refine HN.out.mono ?_
  rintro e w12 ⟨rfl, hb12⟩
  rw [numM]
  have HB12 := hide (HB11.out.trans (hb12.mono HB11.out.size))
  clear hb12 HN HB11
  go_wp2
  go_ret
  exact ⟨rfl, HB12.out⟩
end Go.Proofs.YtneblkdkhlgmcaaDoor
namespace Go.Proofs.YtneblkdkhlgmcaaDoor
open Go.ChangeShapes Go.WideShapes Go.ChangeAt Go.RowKit
set_option linter.unusedVariables false
set_option maxRecDepth 100000
theorem cells2' : Tryd.prog.cellsOf 2 = 1 := by kernel_rfl
theorem cells43' : Tryd.prog.cellsOf 43 = 1 := by kernel_rfl
theorem cellsL : Tryd.prog.cellsOf 124 = 4 := by kernel_rfl
theorem cellsP : Tryd.prog.cellsOf 96 = 20 := by kernel_rfl
theorem gLeast : Tryd.prog.globalNamed "triglyph/runes.leasts" = some 3 := by kernel_rfl
theorem gPow : Tryd.prog.globalNamed "internal/strconv.uint64pow10" = some 0 := by kernel_rfl
theorem tLeast : (Tryd.prog.globals[3]?).map (·.type) = some 124 := by kernel_rfl
theorem tPow : (Tryd.prog.globals[0]?).map (·.type) = some 96 := by kernel_rfl
theorem var_lt {W : World} {n : String} {g : Nat} {cs : Array Value} (hg : Tryd.prog.globalNamed n = some g) (h : W.var? Tryd.prog n = some cs) : g < W.heap.size := by
  unfold World.var? at h
  simp only [hg, Option.bind_some] at h
  rcases Nat.lt_or_ge g W.heap.size with h' | h'
  · exact h'
  · simp [Array.getElem?_eq_none h'] at h
structure Glb (w : World) : Prop where
  tab : Rn.Tab w
  pw : Pw w
theorem glb_of {W : World} (h : laidMetH Tryd.prog Rows.spellNumbersRow.laid W) : Glb W := by
  obtain ⟨ps, ⟨-, -, -, -, -, -, -, -, -, -, ⟨-, -, -, -, -, -, -, -, -, -, ⟨g3, t3, cs3, f3, p3, q3, hg3, ht3, hv3, hd3, ⟨g4, t4, cs4, f4, p4, q4, hg4, ht4, hv4, hd4, -, -⟩, -⟩, -⟩, -⟩, -⟩ := h
  obtain rfl := Option.some.inj (gPow.symm.trans hg3)
  obtain rfl := Option.some.inj (gLeast.symm.trans hg4)
  obtain rfl := Option.some.inj (tPow.symm.trans ht3)
  obtain rfl := Option.some.inj (tLeast.symm.trans ht4)
  have hc4 := Lib.cells_of_tab (zs := [0, 128, 2048, 65536]) Tryd.underlying124 Tryd.underlying2 cells2' cellsL hd4
  have hc3 := Lib.cells_of_tab (zs := Lib.pow10Tab) Tryd.underlying96 Tryd.underlying43 cells43' cellsP hd3
  refine ⟨⟨var_lt gLeast hv4, fun k hk => ?_⟩, ?_⟩
  · have := World.var?_cell gLeast hv4 k
    rw [this]
    have e : cs4.toList[k]? = some (.int .i64 (Rn.least k)) := by
      rw [hc4]
      rcases (by omega : k = 0 ∨ k = 1 ∨ k = 2 ∨ k = 3) with rfl | rfl | rfl | rfl <;> rfl
    simpa using e
  · show Lib.TabIs _ _ _ _ _
    unfold Lib.TabIs
    rw [hv3, ← hc3]
theorem own : ownKnob Tryd.prog.godebug = none := by kernel_rfl
/-- A world for the witness: the settled one, each listed variable as its text lays it. -/
noncomputable def laidWorld (os : Os) : World := World.laidAll Tryd.prog os Rows.spellNumbersRow.laid
theorem bounds_i64 {n : Int} (h : (Lit.int .i64 n).wf = true) : -9223372036854775808 ≤ n ∧ n ≤ 9223372036854775807 := by
  simp only [Lit.wf, Bool.and_eq_true, decide_eq_true_eq] at h
  exact h
end Go.Proofs.YtneblkdkhlgmcaaDoor
