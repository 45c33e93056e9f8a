/-
  The contracts of layer 5's axes, tally, isCount and upTo.
-/
import Derived.Test.YtmjncdhahdpplaaLyB
namespace Go.Proofs.Ytmjncdhahdpplaa
open Go.ChangeShapes Go.WideShapes Go.ChangeAt Go.RowKit
set_option linter.unusedVariables false
set_option maxRecDepth 100000
theorem int2 : (Try.prog.info? 2).map (fun i => (i.zero, i.size, i.bytes)) = some (some (.int .i64 0), 1, 8) := by kernel_rfl
/-- A row of int64 that is filled as far as j. -/
def toF (l : List Int) (j m : Nat) : Value := .int .i64 (if m < j then gI l m else 0)
theorem toF_step (l : List Int) (j m : Nat) : toF l (j + 1) m = if m = j then .int .i64 (gI l j) else toF l j m := by
  unfold toF
  by_cases h : m = j
  · subst h; rw [if_pos rfl, if_pos (by omega)]
  · rw [if_neg h]; congr 1
    by_cases h2 : m < j
    · rw [if_pos h2, if_pos (by omega)]
    · rw [if_neg h2, if_neg (by omega)]
theorem row_toF {w : World} {b lo : Nat} {l : List Int} (h : w.rowIs b 2 l.length (toF l l.length)) (hlo : lo ≤ b) (hl : l.length ≤ 140737488355328) : Row lo w (some ⟨b, 0, none⟩) l := by
  refine ⟨hl, ?_⟩
  by_cases h0 : l = []
  · exact Or.inl h0
  · have h' := h
    obtain ⟨c, h1, -⟩ := h'
    exact Or.inr ⟨b, 0, rfl, hlo, lt_of_block h1, fun i hi => by rw [Nat.zero_add, h.cell hi]; unfold toF; rw [if_pos hi]; rfl⟩
set_option maxHeartbeats 2000000 in
theorem axes_any {lo : Nat} (n : Nat) (l : List Int) (a : Option Addr) (cap : Nat) (w : World) (R : Row lo w a l) (hl : l.length ≤ 8) :
    Calls Try.prog 27 #[.slice a l.length cap] w fun e w' => GivesA (n + 1) (numsA l) w e w' := by
  have HR : Hid (∀ j, j < l.length → ∃ b off, a = some ⟨b, off, none⟩ ∧ b < w.heap.size ∧ w.cell? ⟨b, off + j, none⟩ = some (.int .i64 (gI l j))) := fun j h => row_at R h
  have mk := run_make_row' (P := Try.prog) 47 2 (.int .i64 0) 8 Try.underlying47 int2 rfl .i64 .i64 l.length (by omega) (by omega)
  obtain ⟨W1, e1⟩ : ∃ W1, W1 = w.alloc (.cells #[.slice none 0 0, .slice none 0 0] 25) := ⟨_, rfl⟩
  have s1 : W1.heap.size = w.heap.size + 1 := by rw [e1]; simp
  have B1 : Below w.heap.size w W1 := by rw [e1]; exact one_alloc _ _
  have p0 : W1.cell? ⟨w.heap.size, 0, none⟩ = some (.slice none 0 0) := by rw [e1]; exact cell_new0 w _ 25 0 _ rfl
  have p1 : W1.cell? ⟨w.heap.size, 1, none⟩ = some (.slice none 0 0) := by rw [e1]; exact cell_new0 w _ 25 1 _ rfl
  have pf : ∀ i, W1.frozen? ⟨w.heap.size, i, none⟩ = false := by intro i; rw [e1]; exact frozen_new w _ 25 i
  have RM : Hid ((W1.alloc (.cells (madeCells #[.int .i64 0] l.length) 2)).rowIs (w.heap.size + 1) 2 l.length (toF l 0)) := by
    have := World.rowIs_made W1 (.int .i64 0) l.length 2
    rw [s1] at this
    exact this.congr fun i hi => by unfold toF; rw [if_neg (by omega)]
  have HP := hide (And.intro s1 (And.intro B1 (And.intro p0 (And.intro p1 pf))))
  have BM : Hid (Below (w.heap.size + 1) W1 (W1.alloc (.cells (madeCells #[.int .i64 0] l.length) 2))) := by rw [← s1]; exact one_alloc _ _
  clear R s1 B1 p0 p1 pf
  go_enter Try.func27, Try.ntmps27
  go_wp2
  rw [← e1]
  clear mk e1
  go_loopw [11] (fun i wr => ∃ j : Nat, j ≤ l.length ∧ i = .int .i64 (j : Int) ∧ Below (w.heap.size + 1) W1 wr ∧ wr.rowIs (w.heap.size + 1) 2 l.length (toF l j)) (fun i _ => l.length - (intOf i).toNat)
  case atStart => exact ⟨0, Nat.zero_le _, rfl, BM.out, RM.out⟩
  case round =>
    clear BM RM
    obtain ⟨j, hj, rfl, hnx, hr⟩ := hrel
    have hs1 := HP.out.1
    by_cases hlt : j < l.length
    · obtain ⟨b, off, rfl, hb, hck⟩ := HR.out j hlt
      have hc1 : wr.cell? ⟨b, off + j, none⟩ = some (.int .i64 (gI l j)) := (hnx.cell (p := ⟨b, off + j, none⟩) (by show b < _; omega)).trans ((HP.out.2.1.cell (p := ⟨b, off + j, none⟩) hb).trans hck)
      have z0 := hr.cell (i := j) hlt
      have y0 := hr.frozen j
      have HS := hide ((hr.set j (.int .i64 (gI l j))).congr (g := toF l (j + 1)) (fun i _ => (toF_step l j i).symm))
      have HB := hide (hnx.setCell (p := ⟨w.heap.size + 1, j, none⟩) (Nat.le_refl _) (.int .i64 (gI l j)))
      generalize gI l j = z at *
      generalize toF l j j = y at *
      clear hr hck hs1 HR
      go_wp2
      go_roundw
      case rel => exact ⟨j + 1, by omega, by go_num, HB.out, HS.out⟩
      case measure => simp [intOf]; omega
    · have hje : j = l.length := by omega
      subst hje
      have C := nums_any n l (some ⟨w.heap.size + 1, 0, none⟩) l.length wr (row_toF hr (Nat.le_refl _) (by omega)) (by omega)
      have hlt2 : w.heap.size + 1 ≤ wr.heap.size := by have := hnx.size; omega
      have HN := hide hnx
      clear hr hnx HR hs1
      go_wp2_with fail
      refine C.mono ?_
      rintro e w1 ⟨⟨v, rfl, hv⟩, hb1⟩
      obtain ⟨a1, c1, a2, c2, rfl, -, -⟩ := hv.form
      have hnx := HN.out.trans (hb1.mono hlt2)
      have t0 := (hnx.cell (p := ⟨w.heap.size, 0, none⟩) (by show w.heap.size < _; omega)).trans HP.out.2.2.1
      have t1 := (hnx.cell (p := ⟨w.heap.size, 1, none⟩) (by show w.heap.size < _; omega)).trans HP.out.2.2.2.1
      have f0 := (hnx.frozen (p := ⟨w.heap.size, 0, none⟩) (by show w.heap.size < _; omega)).trans (HP.out.2.2.2.2 0)
      have f1 := (hnx.frozen (p := ⟨w.heap.size, 1, none⟩) (by show w.heap.size < _; omega)).trans (HP.out.2.2.2.2 1)
      have HT := hide (set_two t0 t1 (.slice a1 (numsA l).shape.length c1) (.slice a2 (numsA l).cells.length c2))
      have HF : Hid (∀ x y, GivesA (n + 1) (numsA l) w (.returned (.agg #[.slice a1 (numsA l).shape.length c1, .slice a2 (numsA l).cells.length c2])) ((w1.setCell ⟨w.heap.size, 0, none⟩ x).setCell ⟨w.heap.size, 1, none⟩ y)) := by
        intro x y
        have hk : Keeps (w.heap.size + 1) w1 ((w1.setCell ⟨w.heap.size, 0, none⟩ x).setCell ⟨w.heap.size, 1, none⟩ y) := ((Keeps.refl _ _).setCell (p := ⟨w.heap.size, 0, none⟩) (by show w.heap.size < _; omega) x).setCell (p := ⟨w.heap.size, 1, none⟩) (by show w.heap.size < _; omega) y
        refine ⟨⟨_, rfl, ((hv.mono hlt2 (Below.refl _ _)).keeps hk).mono (by omega) (Below.refl _ _)⟩, ?_⟩
        exact ((HP.out.2.1.trans (hnx.mono (by omega))).setCell (p := ⟨w.heap.size, 0, none⟩) (Nat.le_refl _) _).setCell (p := ⟨w.heap.size, 1, none⟩) (Nat.le_refl _) _
      clear hnx hb1 hv C HN hlt2 HP
      generalize (numsA l).shape.length = SA at *
      generalize (numsA l).cells.length = CA at *
      go_wp2
      exact bodyPost_ret (v := .agg #[.slice a1 SA c1, .slice a2 CA c2]) (by simp [results, Try.results27, go_sem, HT.out.1, HT.out.2]) rfl (HF.out _ _)
theorem tally_any {n lo : Nat} {x : Ar} {va : Value} {w : World} (hx : ArIn (n + 1) lo w x va) : Calls Try.prog 29 #[va] w fun e w' => e = .returned (.int .i64 (tallyN x)) ∧ Below w.heap.size w w' := by
  obtain ⟨a1, c1, a2, c2, rfl, R, -⟩ := hx.form
  have hb0 := one_alloc w (.cells #[.slice a1 x.shape.length c1, .slice a2 x.cells.length c2] 25)
  have q0 := cell_new0 w #[.slice a1 x.shape.length c1, .slice a2 x.cells.length c2] 25 0 _ rfl
  have hl := R.1
  by_cases h0 : x.shape.length = 0
  · have HT : Hid (tallyN x = 1) := by unfold tallyN Hid; rw [if_pos h0]
    have HB := hide hb0
    rw [h0] at q0 ⊢
    clear R hb0 h0
    generalize x.cells.length = CA at *
    go_enter Try.func29, Try.ntmps29
    go_wp2
    go_ret
    exact ⟨by rw [HT.out]; rfl, (one_alloc _ _)⟩
  · obtain ⟨b, off, rfl, hb, hc⟩ := row_at R (j := 0) (by omega)
    have HT : Hid (tallyN x = gI x.shape 0) := by unfold tallyN Hid; rw [if_neg h0]
    have hc1 := (hb0.cell (p := ⟨b, off + 0, none⟩) hb).trans hc
    simp only [Nat.add_zero] at hc1
    have e : x.shape[0]?.getD 0 = gI x.shape 0 := rfl
    rw [e] at hc1
    generalize gI x.shape 0 = z at *
    clear R hb0 hc e
    generalize x.shape.length = SA at *
    generalize x.cells.length = CA at *
    go_enter Try.func29, Try.ntmps29
    go_wp2
    go_ret
    exact ⟨by rw [HT.out]; rfl, (one_alloc _ _)⟩
theorem isCount_any (c : Ce) (ab : Option Addr) (nb cb : Nat) (w : World) : Calls Try.prog 61 #[.agg #[.int .i64 c.1, .int .i64 c.2.1, .slice ab nb cb]] w fun e w' => e = .returned (.bool (isC c)) ∧ Below w.heap.size w w' := by
  obtain ⟨k, N, box⟩ := c
  simp only
  unfold isC
  simp only
  by_cases h0 : k = 0
  · subst h0
    by_cases h1 : 0 ≤ N
    · have hd : decide (0 ≤ N) = true := decide_eq_true h1
      go_enter Try.func61, Try.ntmps61
      go_wp2
      go_ret
      exact ⟨by simp [hd], (one_alloc _ _)⟩
    · have hd : decide (0 ≤ N) = false := decide_eq_false h1
      go_enter Try.func61, Try.ntmps61
      go_wp2
      go_ret
      exact ⟨by simp, (one_alloc _ _)⟩
  · have hk : (k == 0) = false := beq_eq_false_iff_ne.2 h0
    go_enter Try.func61, Try.ntmps61
    go_wp2
    go_ret
    exact ⟨by simp [h0], (one_alloc _ _)⟩
end Go.Proofs.Ytmjncdhahdpplaa
