/-
  The contract of the statements' own comparison of two lists, where they are the same, and of layer 2's trial run on two small inputs: both answer true.
-/
import Derived.Test.YtkigpbajbafpcaaDoorOwnG
import Derived.Deep.QuietTactic
import Derived.BigQuiet
import Derived.Lib.SlBytesConst
import Derived.Laws.BytesArg
namespace Go.Proofs.YtkigpbajbafpcaaDoor
open Go.ChangeShapes Go.WideShapes Go.ChangeAt Go.RowKit
set_option maxHeartbeats 1000000 in
theorem same_any (l : List Int) (a a' : Option Addr) (c c' : Nat) (w : World) (R : Row .i64 w a l) (R' : Row .i64 w a' l) :
    Calls Tryd.prog 17 #[.slice a l.length c, .slice a' l.length c'] w fun e w' => e = .returned (.bool true) ∧ Below w.heap.size w w' := by
  have hrow := @row_at _ _ _ _ R
  have hrow' := @row_at _ _ _ _ R'
  have hl := R.1
  go_enter Tryd.func17, Tryd.ntmps17
  go_wp2
  go_loopw [5] (fun i wr => ∃ j : Nat, j ≤ l.length ∧ i = .int .i64 j ∧ Below w.heap.size w wr) (fun i _ => l.length - (intOf i).toNat)
  case atStart => exact ⟨0, Nat.zero_le _, rfl, Below.refl _ _⟩
  case round =>
    obtain ⟨j, hj, rfl, hnx⟩ := hrel
    by_cases hlt : j < l.length
    · obtain ⟨b, off, ha, hb, hck⟩ := hrow hlt
      obtain ⟨b', off', ha', hb', hck'⟩ := hrow' hlt
      subst ha
      subst ha'
      have hc1 : wr.cell? ⟨b, off + j, none⟩ = some (.int .i64 (l[j]?.getD 0)) := (hnx.cell (p := ⟨b, off + j, none⟩) hb).trans hck
      have hc2 : wr.cell? ⟨b', off' + j, none⟩ = some (.int .i64 (l[j]?.getD 0)) := (hnx.cell (p := ⟨b', off' + j, none⟩) hb').trans hck'
      obtain ⟨z, hz⟩ : ∃ z, l[j]?.getD 0 = z := ⟨_, rfl⟩
      rw [hz] at hc1 hc2
      clear hrow hrow' hck hck' hz
      go_wp2
      go_region
      all_goals go_wp2
      all_goals go_roundw
      case rel => exact ⟨j + 1, by omega, by go_num, hnx.drew⟩
      case measure => simp [intOf]; omega
    · go_wp2
      go_ret
      exact ⟨rfl, hnx⟩
theorem tab_alloc {w : World} (T : Tab w) (o : Obj) : Tab (w.alloc o) := T.below ((Below.refl w.heap.size w).alloc (Nat.le_refl _) o) T.1
theorem parse_works : Parse [97, 255] [97] [255] := by
  refine ⟨by decide, by decide, ?_⟩
  intro m r hm h
  have := (yes_facts hm h).1
  have := wid_pos m
  have : fM 255 = -1 := by decide
  omega
theorem str_of_row {w : World} {a : Option Addr} {zs : List Int} (R : Row .u8 w a zs) (n : Nat) (hn : zs.length = n) (c : Nat) : (convert 23 9 (.slice a n c)).run Tryd.prog w = .ok (.string (strOfNums zs)) w := by
  subst hn
  rcases R.2 with h | ⟨b, off, ha, hb, hc⟩
  · subst h
    cases a with
    | none =>
      rw [run_convert_bytes_nil w 23 5 Tryd.underlying23 Tryd.underlying5 _ _ 9 Tryd.underlying9]
      rfl
    | some x =>
      rw [run_convert_bytes_string w 23 9 5 _ _ _ Tryd.underlying23 Tryd.underlying5 Tryd.underlying9]
      have := run_bytesToString (P := Tryd.prog) w x 0 c [] (run_loadCells_list w x [] (fun j v h => by simp at h))
      exact this
  · subst ha
    exact run_convert_bytes_arg w 23 5 Tryd.underlying23 Tryd.underlying5 b off zs.length c zs rfl (fun i hi => by rw [hc i hi, List.getD_eq_getElem?_getD]) 9 Tryd.underlying9
theorem write_at (l : List Int) (p n : Nat) (hn : l.length = n) (a : Option Addr) (cap : Nat) (w : World) (R : Row .i64 w a l) (T : Tab w) (hl : l.length * 8 ≤ 140737488355328) (hp : p ≤ l.length) (hg : ∀ z ∈ l.take p, Good z) (hb : p < l.length → ¬ Good (l[p]?.getD 0)) :
    Calls Tryd.prog 8 #[.slice a n cap] w fun e w' => Wrote l p w e w' := by
  subst hn
  exact write_any l p a cap w R T hl hp hg hb
theorem read_at (b l r : List Int) (P : Parse b l r) (n : Nat) (hn : b.length = n) (a : Option Addr) (cap : Nat) (w : World) (R : Row .u8 w a b) (T : Tab w) (hB : ∀ z ∈ b, Byte z) (hcap : n ≤ cap) (hl : l.length * 8 ≤ 140737488355328) :
    Calls Tryd.prog 13 #[.slice a n cap] w fun e w' => ReadTold l r w e w' := by
  subst hn
  exact read_any b l r P a cap w R T hB (by omega) hl
theorem row_new (k : IntKind) (e : TypeId) (w : World) (zs : List Int) (m : Nat × Nat) (hz : zs.length ≤ 140737488355328) : Row k (w.alloc (.cells (zs.map (Value.int k)).toArray e m)) (some ⟨w.heap.size, 0, none⟩) zs := by
  refine ⟨hz, Or.inr ⟨_, _, rfl, by simp, ?_⟩⟩
  intro i hi
  have : (w.alloc (.cells (zs.map (Value.int k)).toArray e m)).heap[w.heap.size]? = some (.cells (zs.map (Value.int k)).toArray e m) := by
    show (w.heap.push _)[w.heap.size]? = _
    simp
  unfold World.cell?
  simp only [this]
  simp [List.getElem?_eq_getElem hi]
set_option maxHeartbeats 2000000 in
theorem works_any (w : World) (T : Tab w) : Calls Tryd.prog 12 #[] w fun e w' => e = .returned (.bool true) ∧ Below w.heap.size w w' := by
  have kc := fun (w : World) (C : Array Value) (n c : Nat) => Lib.run_convert_bytes_const (P := Tryd.prog) w 23 5 C n c Tryd.underlying23 Tryd.underlying5
  go_enter Tryd.func12, Tryd.ntmps12
  go_wp2_with fail
  refine (write_at [97, 9075] 2 2 rfl _ _ _ (row_new .i64 2 w [97, 9075] (0, 0) (by simp)) (tab_alloc T _) (by simp) (by simp) (by decide) (by simp)).mono ?_
  rintro e w1 ⟨h1, _, hb1⟩
  obtain ⟨a1, rfl, R1, hx1⟩ := h1 rfl
  have T1 : Tab w1 := (tab_alloc T _).below hb1 (by simp)
  have B1 : Below w.heap.size w w1 := ((Below.refl _ _).alloc (Nat.le_refl _) _).trans (hb1.mono (by simp))
  clear h1 hb1
  go_wp2_with fail
  refine (read_at [97, 255] [97] [255] parse_works 2 rfl _ _ _ (row_new .u8 5 w1 [97, 255] (2, 3) (by simp)) (tab_alloc T1 _) (by unfold Byte; decide) (by omega) (by simp)).mono ?_
  rintro e w2 ⟨_, h2, hb2⟩
  have h2' := h2 (by simp)
  subst h2'
  have T2 : Tab w2 := (tab_alloc T1 _).below hb2 (by simp)
  have B2 : Below w.heap.size w w2 := B1.trans (((Below.refl _ _).alloc (Nat.le_refl _) _).trans (hb2.mono (by simp)) |>.mono B1.size)
  have R2 : Row .u8 w2 a1 (enc [97, 9075]) := R1.below (B := w1.heap.size) ((((Below.refl _ _).alloc (Nat.le_refl _) _)).trans (hb2.mono (by simp))) (fun x hx => by
    rcases R1.2 with h | ⟨b, off, ha, hb, _⟩
    · exact absurd h (by decide)
    · rw [ha] at hx; cases hx; exact hb)
  clear h2 hb2
  go_wp2_with fail
  refine (one_some [226, 141, 179, 98] 9075 [98] (by decide) (by decide) 4 rfl w2.heap.size 0 4 _ (tab_alloc T2 _) (by unfold Byte; decide) (by omega) ?_).mono ?_
  · intro i hi
    rcases (row_new .u8 5 w2 [226, 141, 179, 98] (4, 5) (by simp)).2 with h | ⟨b, off, ha, _, hc⟩
    · cases h
    · cases ha; exact hc i hi
  · rintro e w3 ⟨rfl, hw⟩
    rw [hw]
    have B3 := B2.alloc B2.size (.cells #[Value.int .u8 226, Value.int .u8 141, Value.int .u8 179, Value.int .u8 98] 5 (4, 5))
    have R3 : Row .u8 (w2.alloc (.cells #[Value.int .u8 226, Value.int .u8 141, Value.int .u8 179, Value.int .u8 98] 5 (4, 5))) a1 (enc [97, 9075]) := R2.below (B := w2.heap.size) ((Below.refl _ _).alloc (Nat.le_refl _) _) (fun x hx => by
      rcases R2.2 with h | ⟨b, off, ha, hb, _⟩
      · exact absurd h (by decide)
      · rw [ha] at hx; cases hx; exact hb)
    have hstr := str_of_row R3 _ rfl (enc [97, 9075]).length
    have hs : strOfNums (enc [97, 9075]) = ⟨#[97, 226, 141, 179]⟩ := by decide
    rw [hs] at hstr
    have hw9 : wid 9075 = 3 := by decide
    have he1 : (enc [97]).length = 1 := by decide
    go_wp2
    go_ret
    exact ⟨rfl, B3⟩
end Go.Proofs.YtkigpbajbafpcaaDoor
