/-
  The contracts of the document's flat (a shape without an axis) and wide (a shape with an axis put in).
  The contract of the document's fit: an array for joining along an axis.
  Two arrays joined, as the document says it: shapes, cells by their places. Mathematics.
  Where each cell of two arrays joined comes from, by places. Mathematics.
  The contract of the document's Ints, the same ones or not.
  The contract of the document's join (CatF, CatL).
-/
import Derived.Test.YtmjncdhahdpplaaM5
import Derived.Test.YtmjncdhahdpplaaChecked
import GoSem.Claim
import GoSem.ClaimJoined
import GoSem.ClaimMapViews
import Derived.JoinedTies
import Derived.KernelRfl
import Derived.WalkKit
import Derived.ProofKit
import Derived.Below
import Derived.Deep.OwnRows
import Derived.Deep.QuietTactic
import Derived.BigQuiet
import Derived.Deep.RegionWith
import Derived.Laws.MakeOwn
import Derived.Deep.RegionHeld3
import Derived.Laws.IdiomCopy
import Derived.Deep.Cut
import Derived.Deep.LoopGhost
import Derived.OpenShut
import Derived.ChangeOld
import Derived.SizedLaws
import Derived.Deep.Slices
import Derived.Deep.Strs
import Derived.Laws.AppendOwn
import Derived.BigFrame
import Derived.Deep.CutRange
import Derived.Deep.RegionLaw
import Derived.Laws.OwnMore
import Derived.Lib.SliceRun
import Derived.Laws.CopyOwn
import Derived.Lib.Overlaps
import Derived.Lib.Mul64
namespace Go.Proofs.Ytmjncdhahdpplaa
open Go.ChangeShapes Go.WideShapes Go.ChangeAt Go.RowKit
set_option linter.unusedVariables false
set_option maxRecDepth 100000
def flP (s : List Int) (k : Nat) : Nat → List Int
  | 0 => []
  | j + 1 => if j = k then flP s k j else flP s k j ++ [gI s j]
def wdP (s : List Int) (k : Nat) (n : Int) : Nat → List Int
  | 0 => []
  | j + 1 => (if j = k then wdP s k n j ++ [n] else wdP s k n j) ++ (if j < s.length then [gI s j] else [])
theorem take_gI (s : List Int) (j : Nat) (hj : j < s.length) : s.take (j + 1) = s.take j ++ [gI s j] := by
  rw [List.take_add_one]
  unfold gI
  simp [hj]
theorem flP_len (s : List Int) (k j : Nat) : (flP s k j).length ≤ j := by
  induction j with
  | zero => exact Nat.le_refl _
  | succ j ih =>
    show (if j = k then flP s k j else flP s k j ++ [gI s j]).length ≤ _
    split
    · omega
    · rw [List.length_append]; simp; omega
theorem wdP_len (s : List Int) (k : Nat) (n : Int) (j : Nat) : (wdP s k n j).length ≤ 2 * j := by
  induction j with
  | zero => exact Nat.le_refl _
  | succ j ih =>
    show ((if j = k then wdP s k n j ++ [n] else wdP s k n j) ++ (if j < s.length then [gI s j] else [])).length ≤ _
    rw [List.length_append]
    split <;> split <;> simp <;> omega
theorem flP_is (s : List Int) (k : Nat) (hk : k < s.length) : flP s k s.length = s.take k ++ s.drop (k + 1) := by
  have : ∀ j, j ≤ s.length → flP s k j = if j ≤ k then s.take j else s.take k ++ (s.take j).drop (k + 1) := by
    intro j
    induction j with
    | zero => intro _; rw [if_pos (Nat.zero_le _)]; rfl
    | succ j ih =>
      intro hj
      have ih := ih (by omega)
      show (if j = k then flP s k j else flP s k j ++ [gI s j]) = _
      by_cases h : j = k
      · subst h
        rw [if_pos rfl, ih, if_pos (Nat.le_refl _), if_neg (by omega), List.drop_eq_nil_of_le (by rw [List.length_take]; omega), List.append_nil]
      · rw [if_neg h, ih]
        by_cases h2 : j ≤ k
        · rw [if_pos h2, if_pos (by omega), take_gI s j (by omega)]
        · rw [if_neg h2, if_neg (by omega), take_gI s j (by omega), List.drop_append_of_le_length (by rw [List.length_take]; omega), List.append_assoc]
  rw [this _ (Nat.le_refl _), if_neg (by omega), List.take_length]
theorem wdP_is (s : List Int) (k : Nat) (n : Int) (hk : k ≤ s.length) : wdP s k n (s.length + 1) = s.take k ++ n :: s.drop k := by
  have : ∀ j, j ≤ s.length → wdP s k n j = if j ≤ k then s.take j else s.take k ++ n :: (s.take j).drop k := by
    intro j
    induction j with
    | zero => intro _; rw [if_pos (Nat.zero_le _)]; rfl
    | succ j ih =>
      intro hj
      have ih := ih (by omega)
      show (if j = k then wdP s k n j ++ [n] else wdP s k n j) ++ (if j < s.length then [gI s j] else []) = _
      rw [if_pos (show j < s.length by omega)]
      by_cases h : j = k
      · subst h
        rw [if_pos rfl, ih, if_pos (Nat.le_refl _), if_neg (by omega), take_gI s j (by omega), List.drop_append_of_le_length (by rw [List.length_take]; omega), List.drop_eq_nil_of_le (by rw [List.length_take]; omega)]
        simp
      · rw [if_neg h, ih]
        by_cases h2 : j ≤ k
        · rw [if_pos h2, if_pos (by omega), take_gI s j (by omega)]
        · rw [if_neg h2, if_neg (by omega), take_gI s j (by omega), List.drop_append_of_le_length (by rw [List.length_take]; omega), List.append_assoc, List.cons_append]
  show (if s.length = k then wdP s k n s.length ++ [n] else wdP s k n s.length) ++ (if s.length < s.length then [gI s s.length] else []) = _
  rw [if_neg (Nat.lt_irrefl _), List.append_nil]
  by_cases h : s.length = k
  · rw [if_pos h, this _ (Nat.le_refl _), if_pos (by omega), List.take_length, ← h, List.take_length, List.drop_length]
  · rw [if_neg h, this _ (Nat.le_refl _), if_neg (by omega), List.take_length]
def RowIs (l : List Int) (w : World) (e : Ending) (w' : World) : Prop := (∃ a cap, e = .returned (.slice a l.length cap) ∧ l.length ≤ cap ∧ Row w.heap.size w' a l) ∧ Below w.heap.size w w'
set_option maxHeartbeats 2000000 in
theorem flat_any {lo : Nat} (s : List Int) (a : Option Addr) (c k : Nat) (w : World) (R : Row lo w a s) (hs : s.length ≤ 16) (hk16 : k ≤ 16) (hk : k < s.length) :
    Calls Try.prog 82 #[.slice a s.length c, .int .i64 (k : Int)] w fun e w' => RowIs (s.take k ++ s.drop (k + 1)) w e w' := by
  rw [← flP_is s k hk]
  obtain ⟨i3, hi3, hz30, hz31, hz32⟩ := infoI3
  have HR := hide R
  obtain ⟨S, hS⟩ : ∃ S, s.length = S := ⟨_, rfl⟩
  have HS := hide hS
  rw [hS] at hs ⊢
  clear R hS hk
  go_enter Try.func82, Try.ntmps82
  go_wp2
  go_loopg [5, 6] S (fun g mv i wr => ∃ (j : Nat) (a' : Option Addr) (c' : Nat), g + j = S ∧ i = .int .i64 (j : Int) ∧ mv = .slice a' (flP s k j).length c' ∧ Below w.heap.size w wr ∧ wr.ownsRow w.heap.size 3 1 (.slice a' (flP s k j).length c') (flP s k j).length ((flP s k j).map (Value.int .i64)))
  case atStart => exact ⟨0, _, _, rfl, rfl, rfl, Below.refl _ _, World.ownsRow_nil _ _ _ _⟩
  case round =>
    obtain ⟨j, a0, c0, hg, rfl, rfl, hbw, hown⟩ := hrel
    have hL := flP_len s k j
    by_cases hlt : j < S
    · obtain ⟨b, off, rfl, hb, hck⟩ := row_at HR.out (j := j) (by rw [HS.out]; exact hlt)
      have u1 := (hbw.cell (p := ⟨b, off + j, none⟩) hb).trans hck
      have HST : Hid (flP s k (j + 1) = if j = k then flP s k j else flP s k j ++ [gI s j]) := rfl
      have eg : s[j]?.getD 0 = gI s j := rfl
      rw [eg] at u1
      obtain ⟨L, hLL⟩ : ∃ L, (flP s k j).length = L := ⟨_, rfl⟩
      have HL := hide hLL
      rw [hLL] at hL hown
      simp only [hLL]
      by_cases hjk : j = k
      · have hb1 : ((j : Int) == (k : Int)) = true := by rw [hjk]; exact beq_self_eq_true _
        have HF : Hid (Below w.heap.size w wr ∧ wr.ownsRow w.heap.size 3 1 (.slice a0 L c0) (flP s k (j + 1)).length ((flP s k (j + 1)).map (Value.int .i64)) ∧ (flP s k (j + 1)).length = L) := by
          rw [HST.out, if_pos hjk, HL.out]; exact ⟨hbw, hown, rfl⟩
        clear hown hbw hck hLL hjk
        go_wp2
        go_roundg (S - (j + 1))
        case rel => exact ⟨j + 1, _, _, by omega, by go_num, by rw [HF.out.2.2], HF.out.1, by have := HF.out.2; rw [this.2] at *; exact this.1⟩
        case measure => omega
      · have hb1 : ((j : Int) == (k : Int)) = false := beq_eq_false_iff_ne.2 (by omega)
        obtain ⟨z, hz⟩ : ∃ z, gI s j = z := ⟨_, rfl⟩
        rw [hz] at u1 HST
        obtain ⟨W1, e1⟩ : ∃ W1, wr.alloc (.cells #[.int .i64 z] 3) = W1 := ⟨_, rfl⟩
        have B1 : Below wr.heap.size wr W1 := by rw [← e1]; exact one_alloc _ _
        have HOWN : Hid (W1.ownsRow w.heap.size 3 1 (.slice a0 L c0) L ((flP s k j).map (Value.int .i64))) := by rw [← e1]; exact hown.alloc _
        have HLI : Hid (Lies W1 (some ⟨wr.heap.size, 0, none⟩) [.int .i64 z]) := by
          have : Row 0 W1 (some ⟨wr.heap.size, 0, none⟩) [z] := by rw [← e1]; exact row_one (by simp) (Nat.zero_le _) (cell_new0 wr _ 3 0 _ rfl)
          exact this.lies
        have HBW : Hid (Below w.heap.size w W1) := hbw.trans (B1.mono hbw.size)
        have HNE := hide hjk
        clear hown hbw B1 hck hLL hz hjk
        go_wp2_with (at_builtin; refine wpList_append_any rfl _ _ 22 rfl w.heap.size 3 i3 (.int .i64 0) 1 8 Try.underlying22 hi3 hz30 hz31 hz32 rfl (by decide) _ L _ rfl HOWN.out (some ⟨wr.heap.size, 0, none⟩) 1 1 [.int .i64 z] rfl rfl HLI.out ?c3 ?c4 HBW.out.size ?_)
        case c3 => unfold maxLen; omega
        case c4 => omega
        intro v' w5 hown5 hb5
        obtain ⟨a6, c6, rfl⟩ : ∃ a c, v' = .slice a (L + 1) c := by obtain ⟨a, c, h, -⟩ := owns_cap hown5; exact ⟨a, c, h⟩
        have HF : Hid (Below w.heap.size w w5 ∧ w5.ownsRow w.heap.size 3 1 (.slice a6 (L + 1) c6) (flP s k (j + 1)).length ((flP s k (j + 1)).map (Value.int .i64)) ∧ (flP s k (j + 1)).length = L + 1) := by
          rw [HST.out, if_neg HNE.out]
          refine ⟨HBW.out.trans hb5, ?_, by rw [List.length_append, HL.out]; rfl⟩
          rw [List.length_append, HL.out, List.map_append]; exact hown5
        clear hown5 hb5 HOWN HLI HBW e1
        go_wp2
        go_roundg (S - (j + 1))
        case rel => exact ⟨j + 1, _, _, by omega, by go_num, by rw [HF.out.2.2], HF.out.1, by have := HF.out.2; rw [this.2] at *; exact this.1⟩
        case measure => omega
    · have hje : j = S := by omega
      subst hje
      obtain ⟨a1, c1, he, RR⟩ := owns_rowE (flP s k j) (by omega) hown
      simp only [Value.slice.injEq] at he
      obtain ⟨rfl, -, rfl⟩ := he
      obtain ⟨a2, c2, he, hcap⟩ := owns_cap hown
      simp only [Value.slice.injEq] at he
      obtain ⟨rfl, -, rfl⟩ := he
      have HF : Hid (RowIs (flP s k j) w (.returned (.slice a0 (flP s k j).length c0)) wr) := ⟨⟨_, _, rfl, hcap, RR⟩, hbw⟩
      clear hown RR hbw hcap
      generalize (flP s k j).length = L at *
      go_wp2
      go_ret
      exact HF.out
set_option maxHeartbeats 4000000 in
theorem wide_any {lo : Nat} (s : List Int) (a : Option Addr) (c k : Nat) (n : Int) (w : World) (R : Row lo w a s) (hs : s.length ≤ 16) (hk16 : k ≤ 16) (hk : k ≤ s.length) :
    Calls Try.prog 85 #[.slice a s.length c, .int .i64 (k : Int), .int .i64 n] w fun e w' => RowIs (s.take k ++ n :: s.drop k) w e w' := by
  rw [← wdP_is s k n hk]
  obtain ⟨i3, hi3, hz30, hz31, hz32⟩ := infoI3
  have HR := hide R
  obtain ⟨S, hS⟩ : ∃ S, s.length = S := ⟨_, rfl⟩
  have HS := hide hS
  rw [hS] at hs ⊢
  clear R hS hk
  go_enter Try.func85, Try.ntmps85
  go_wp2
  go_loopg [7, 8] (S + 1) (fun g mv i wr => ∃ (j : Nat) (a' : Option Addr) (c' : Nat), g + j = S + 1 ∧ i = .int .i64 (j : Int) ∧ mv = .slice a' (wdP s k n j).length c' ∧ Below w.heap.size w wr ∧ wr.ownsRow w.heap.size 3 1 (.slice a' (wdP s k n j).length c') (wdP s k n j).length ((wdP s k n j).map (Value.int .i64)))
  case atStart => exact ⟨0, _, _, by omega, rfl, rfl, Below.refl _ _, World.ownsRow_nil _ _ _ _⟩
  case round =>
    obtain ⟨j, a0, c0, hg, rfl, rfl, hbw, hown⟩ := hrel
    have hL := wdP_len s k n j
    by_cases hle : j ≤ S
    · have HST : Hid (wdP s k n (j + 1) = (if j = k then wdP s k n j ++ [n] else wdP s k n j) ++ (if j < S then [gI s j] else [])) := by unfold Hid; rw [← HS.out]; rfl
      obtain ⟨L, hLL⟩ : ∃ L, (wdP s k n j).length = L := ⟨_, rfl⟩
      have HL := hide hLL
      rw [hLL] at hL hown
      simp only [hLL]
      clear hLL
      by_cases hlt : j < S
      · obtain ⟨b, off, rfl, hb, hck⟩ := row_at HR.out (j := j) (by rw [HS.out]; exact hlt)
        have eg : s[j]?.getD 0 = gI s j := rfl
        rw [eg] at hck
        rw [if_pos hlt] at HST
        obtain ⟨z, hz⟩ : ∃ z, gI s j = z := ⟨_, rfl⟩
        rw [hz] at hck HST
        by_cases hjk : j = k
        · have hb1 : ((j : Int) == (k : Int)) = true := by rw [hjk]; exact beq_self_eq_true _
          rw [if_pos hjk] at HST
          clear hz hjk
          obtain ⟨W1, e1⟩ : ∃ W1, wr.alloc (.cells #[.int .i64 n] 3) = W1 := ⟨_, rfl⟩
          have B1 : Below wr.heap.size wr W1 := by rw [← e1]; exact one_alloc _ _
          have HOWN1 : Hid (W1.ownsRow w.heap.size 3 1 (.slice a0 L c0) L ((wdP s k n j).map (Value.int .i64))) := by rw [← e1]; exact hown.alloc _
          have HLI1 : Hid (Lies W1 (some ⟨wr.heap.size, 0, none⟩) [.int .i64 n]) := by
            have : Row 0 W1 (some ⟨wr.heap.size, 0, none⟩) [n] := by rw [← e1]; exact row_one (by simp) (Nat.zero_le _) (cell_new0 wr _ 3 0 _ rfl)
            exact this.lies
          have HBW1 : Hid (Below w.heap.size w W1) := hbw.trans (B1.mono hbw.size)
          have HU : Hid (∀ W, Below w.heap.size w W → W.cell? ⟨b, off + j, none⟩ = some (.int .i64 z)) := fun W h => (h.cell (p := ⟨b, off + j, none⟩) hb).trans hck
          clear hown hbw B1 hck
          go_wp2_with (at_builtin; refine wpList_append_any rfl _ _ 22 rfl w.heap.size 3 i3 (.int .i64 0) 1 8 Try.underlying22 hi3 hz30 hz31 hz32 rfl (by decide) _ L _ rfl HOWN1.out (some ⟨wr.heap.size, 0, none⟩) 1 1 [.int .i64 n] rfl rfl HLI1.out ?c3 ?c4 HBW1.out.size ?_)
          case c3 => unfold maxLen; omega
          case c4 => omega
          intro v1' w5 hown5 hb5
          obtain ⟨a6, c6, rfl⟩ : ∃ a c, v1' = .slice a (L + 1) c := by obtain ⟨a, c, h, -⟩ := owns_cap hown5; exact ⟨a, c, h⟩
          have hbw5 : Below w.heap.size w w5 := HBW1.out.trans hb5
          have u1 := HU.out w5 hbw5
          obtain ⟨W2, e2⟩ : ∃ W2, w5.alloc (.cells #[.int .i64 z] 3) = W2 := ⟨_, rfl⟩
          have B2 : Below w5.heap.size w5 W2 := by rw [← e2]; exact one_alloc _ _
          have HOWN2 : Hid (W2.ownsRow w.heap.size 3 1 (.slice a6 (L + 1) c6) (L + 1) ((wdP s k n j).map (Value.int .i64) ++ [.int .i64 n])) := by rw [← e2]; exact hown5.alloc _
          have HLI2 : Hid (Lies W2 (some ⟨w5.heap.size, 0, none⟩) [.int .i64 z]) := by
            have : Row 0 W2 (some ⟨w5.heap.size, 0, none⟩) [z] := by rw [← e2]; exact row_one (by simp) (Nat.zero_le _) (cell_new0 w5 _ 3 0 _ rfl)
            exact this.lies
          have HBW2 : Hid (Below w.heap.size w W2) := hbw5.trans (B2.mono hbw5.size)
          clear hown5 hbw5 B2 hb5 HOWN1 HLI1 HBW1 e1 HU
          go_wp2_with (at_builtin; refine wpList_append_any rfl _ _ 22 rfl w.heap.size 3 i3 (.int .i64 0) 1 8 Try.underlying22 hi3 hz30 hz31 hz32 rfl (by decide) _ (L + 1) _ rfl HOWN2.out (some ⟨w5.heap.size, 0, none⟩) 1 1 [.int .i64 z] rfl rfl HLI2.out ?c3 ?c4 HBW2.out.size ?_)
          case c3 => unfold maxLen; omega
          case c4 => omega
          intro v2' w7 hown7 hb7
          obtain ⟨a8, c8, rfl⟩ : ∃ a c, v2' = .slice a (L + 1 + 1) c := by obtain ⟨a, c, h, -⟩ := owns_cap hown7; exact ⟨a, c, h⟩
          have HF : Hid (Below w.heap.size w w7 ∧ w7.ownsRow w.heap.size 3 1 (.slice a8 (L + 1 + 1) c8) (wdP s k n (j + 1)).length ((wdP s k n (j + 1)).map (Value.int .i64)) ∧ (wdP s k n (j + 1)).length = (L + 1 + 1)) := by
            rw [HST.out]
            refine ⟨HBW2.out.trans hb7, ?_, by simp [HL.out]⟩
            have e : ((wdP s k n j ++ [n] ++ [z]).map (Value.int .i64)) = (wdP s k n j).map (Value.int .i64) ++ [.int .i64 n] ++ [.int .i64 z] := by simp
            rw [e, show (wdP s k n j ++ [n] ++ [z]).length = L + 1 + 1 by simp [HL.out], List.append_assoc]; exact hown7
          clear hown7 hb7 HOWN2 HLI2 HBW2 e2 u1
          go_wp2
          go_roundg (S + 1 - (j + 1))
          case rel => exact ⟨j + 1, _, _, by omega, by go_num, by rw [HF.out.2.2], HF.out.1, by have := HF.out.2; rw [this.2] at *; exact this.1⟩
          case measure => omega
        · have hb1 : ((j : Int) == (k : Int)) = false := beq_eq_false_iff_ne.2 (by omega)
          rw [if_neg hjk] at HST
          have u1 := (hbw.cell (p := ⟨b, off + j, none⟩) hb).trans hck
          clear hz hjk
          obtain ⟨W1, e1⟩ : ∃ W1, wr.alloc (.cells #[.int .i64 z] 3) = W1 := ⟨_, rfl⟩
          have B1 : Below wr.heap.size wr W1 := by rw [← e1]; exact one_alloc _ _
          have HOWN1 : Hid (W1.ownsRow w.heap.size 3 1 (.slice a0 L c0) L ((wdP s k n j).map (Value.int .i64))) := by rw [← e1]; exact hown.alloc _
          have HLI1 : Hid (Lies W1 (some ⟨wr.heap.size, 0, none⟩) [.int .i64 z]) := by
            have : Row 0 W1 (some ⟨wr.heap.size, 0, none⟩) [z] := by rw [← e1]; exact row_one (by simp) (Nat.zero_le _) (cell_new0 wr _ 3 0 _ rfl)
            exact this.lies
          have HBW1 : Hid (Below w.heap.size w W1) := hbw.trans (B1.mono hbw.size)
          clear hown hbw B1 hck
          go_wp2_with (at_builtin; refine wpList_append_any rfl _ _ 22 rfl w.heap.size 3 i3 (.int .i64 0) 1 8 Try.underlying22 hi3 hz30 hz31 hz32 rfl (by decide) _ L _ rfl HOWN1.out (some ⟨wr.heap.size, 0, none⟩) 1 1 [.int .i64 z] rfl rfl HLI1.out ?c3 ?c4 HBW1.out.size ?_)
          case c3 => unfold maxLen; omega
          case c4 => omega
          intro v1' w5 hown5 hb5
          obtain ⟨a6, c6, rfl⟩ : ∃ a c, v1' = .slice a (L + 1) c := by obtain ⟨a, c, h, -⟩ := owns_cap hown5; exact ⟨a, c, h⟩
          have HF : Hid (Below w.heap.size w w5 ∧ w5.ownsRow w.heap.size 3 1 (.slice a6 (L + 1) c6) (wdP s k n (j + 1)).length ((wdP s k n (j + 1)).map (Value.int .i64)) ∧ (wdP s k n (j + 1)).length = (L + 1)) := by
            rw [HST.out]
            refine ⟨HBW1.out.trans hb5, ?_, by simp [HL.out]⟩
            rw [List.map_append, show (wdP s k n j ++ [z]).length = L + 1 by simp [HL.out]]; exact hown5
          clear hown5 hb5 HOWN1 HLI1 HBW1 e1 u1
          go_wp2
          go_roundg (S + 1 - (j + 1))
          case rel => exact ⟨j + 1, _, _, by omega, by go_num, by rw [HF.out.2.2], HF.out.1, by have := HF.out.2; rw [this.2] at *; exact this.1⟩
          case measure => omega
      · rw [if_neg hlt, List.append_nil] at HST
        by_cases hjk : j = k
        · have hb1 : ((j : Int) == (k : Int)) = true := by rw [hjk]; exact beq_self_eq_true _
          rw [if_pos hjk] at HST
          clear hjk
          obtain ⟨W1, e1⟩ : ∃ W1, wr.alloc (.cells #[.int .i64 n] 3) = W1 := ⟨_, rfl⟩
          have B1 : Below wr.heap.size wr W1 := by rw [← e1]; exact one_alloc _ _
          have HOWN1 : Hid (W1.ownsRow w.heap.size 3 1 (.slice a0 L c0) L ((wdP s k n j).map (Value.int .i64))) := by rw [← e1]; exact hown.alloc _
          have HLI1 : Hid (Lies W1 (some ⟨wr.heap.size, 0, none⟩) [.int .i64 n]) := by
            have : Row 0 W1 (some ⟨wr.heap.size, 0, none⟩) [n] := by rw [← e1]; exact row_one (by simp) (Nat.zero_le _) (cell_new0 wr _ 3 0 _ rfl)
            exact this.lies
          have HBW1 : Hid (Below w.heap.size w W1) := hbw.trans (B1.mono hbw.size)
          clear hown hbw B1
          go_wp2_with (at_builtin; refine wpList_append_any rfl _ _ 22 rfl w.heap.size 3 i3 (.int .i64 0) 1 8 Try.underlying22 hi3 hz30 hz31 hz32 rfl (by decide) _ L _ rfl HOWN1.out (some ⟨wr.heap.size, 0, none⟩) 1 1 [.int .i64 n] rfl rfl HLI1.out ?c3 ?c4 HBW1.out.size ?_)
          case c3 => unfold maxLen; omega
          case c4 => omega
          intro v1' w5 hown5 hb5
          obtain ⟨a6, c6, rfl⟩ : ∃ a c, v1' = .slice a (L + 1) c := by obtain ⟨a, c, h, -⟩ := owns_cap hown5; exact ⟨a, c, h⟩
          have HF : Hid (Below w.heap.size w w5 ∧ w5.ownsRow w.heap.size 3 1 (.slice a6 (L + 1) c6) (wdP s k n (j + 1)).length ((wdP s k n (j + 1)).map (Value.int .i64)) ∧ (wdP s k n (j + 1)).length = (L + 1)) := by
            rw [HST.out]
            refine ⟨HBW1.out.trans hb5, ?_, by simp [HL.out]⟩
            rw [List.map_append, show (wdP s k n j ++ [n]).length = L + 1 by simp [HL.out]]; exact hown5
          clear hown5 hb5 HOWN1 HLI1 HBW1 e1
          go_wp2
          go_roundg (S + 1 - (j + 1))
          case rel => exact ⟨j + 1, _, _, by omega, by go_num, by rw [HF.out.2.2], HF.out.1, by have := HF.out.2; rw [this.2] at *; exact this.1⟩
          case measure => omega
        · have hb1 : ((j : Int) == (k : Int)) = false := beq_eq_false_iff_ne.2 (by omega)
          rw [if_neg hjk] at HST
          have HF : Hid (Below w.heap.size w wr ∧ wr.ownsRow w.heap.size 3 1 (.slice a0 L c0) (wdP s k n (j + 1)).length ((wdP s k n (j + 1)).map (Value.int .i64)) ∧ (wdP s k n (j + 1)).length = L) := by
            rw [HST.out, HL.out]; exact ⟨hbw, hown, rfl⟩
          clear hown hbw hjk
          go_wp2
          go_roundg (S + 1 - (j + 1))
          case rel => exact ⟨j + 1, _, _, by omega, by go_num, by rw [HF.out.2.2], HF.out.1, by have := HF.out.2; rw [this.2] at *; exact this.1⟩
          case measure => omega
    · have hje : j = S + 1 := by omega
      subst hje
      obtain ⟨a1, c1, he, RR⟩ := owns_rowE (wdP s k n (S + 1)) (by omega) hown
      simp only [Value.slice.injEq] at he
      obtain ⟨rfl, -, rfl⟩ := he
      obtain ⟨a2, c2, he, hcap⟩ := owns_cap hown
      simp only [Value.slice.injEq] at he
      obtain ⟨rfl, -, rfl⟩ := he
      have HF : Hid (RowIs (wdP s k n (S + 1)) w (.returned (.slice a0 (wdP s k n (S + 1)).length c0)) wr) := ⟨⟨_, _, rfl, hcap, RR⟩, hbw⟩
      clear hown RR hbw hcap
      generalize (wdP s k n (S + 1)).length = L at *
      go_wp2
      go_ret
      exact HF.out
end Go.Proofs.Ytmjncdhahdpplaa
namespace Go.Proofs.Ytmjncdhahdpplaa
open Go.ChangeShapes Go.WideShapes Go.ChangeAt Go.RowKit
set_option linter.unusedVariables false
set_option maxRecDepth 100000
/-- The shape that fit gives. -/
def fitS (s : List Int) (rank k : Nat) (rest : List Int) : List Int := if s.length = rank then s else if 0 < s.length then s.take k ++ 1 :: s.drop k else rest.take k ++ 1 :: rest.drop k
def FitC (n lo : Nat) (w0 : World) (P : List Int) (cs : List Ce) (w : World) (e : Ending) (w' : World) : Prop :=
  (∃ s1 kc a3 c3, e = .returned (.agg #[.slice s1 P.length kc, .slice a3 cs.length c3]) ∧ Row 0 w' s1 P ∧ CinP n lo w0 w' cs a3 cs.length c3) ∧ Below w.heap.size w w'
set_option maxHeartbeats 4000000 in
theorem rfit_any {n lo : Nat} {s : List Int} {cs : List Ce} {a1 a2 ar : Option Addr} {c1 c2 cr rank k N : Nat} {rest : List Int} {w0 w : World} (R : Row 0 w a1 s) (hc : CellsIn n lo w0 cs a2) (hb0 : Below w0.heap.size w0 w) (l8 : s.length ≤ 8) (c16 : cs.length ≤ 16384) (hc2 : cs.length ≤ c2) (hat : s.length = 0 → cs.length = 1) (RR : Row 0 w ar rest) (hr8 : rest.length ≤ 8) (hk8 : k ≤ 8)
    (hrank : rank ≤ 8) (h1 : ¬ s.length = rank → 0 < s.length → k ≤ s.length) (h2 : ¬ s.length = rank → ¬ 0 < s.length → k ≤ rest.length) (hN : sizeV rest = (N : Int)) (hN16 : N ≤ 16384) (h0 : 0 < rank) :
    Calls Try.prog 83 #[.agg #[.slice a1 s.length c1, .slice a2 cs.length c2], .int .i64 (rank : Int), .int .i64 (k : Int), .slice ar rest.length cr] w fun e w' => FitC n lo w0 (fitS s rank k rest) (cinL s.length cs N) w e w' := by
  have I := in2_new w (.slice a1 s.length c1) (.slice a2 cs.length c2)
  obtain ⟨W2, e2⟩ : ∃ W2, (w.alloc (.cells #[.slice a1 s.length c1, .slice a2 cs.length c2] 25)).alloc (.cells #[.slice none 0 0, .slice none 0 0] 25) = W2 := ⟨_, rfl⟩
  rw [e2] at I
  have z2 : W2.heap.size = w.heap.size + 2 := by rw [← e2]; simp
  have q0 := I.q0
  have q1 := I.q1
  have hNB := hb0.trans (I.bel.mono hb0.size)
  have hCP : 0 < s.length → ∀ W, Below w0.heap.size w0 W → CinP n lo w0 W (cinL s.length cs N) a2 cs.length c2 := fun hS W hW => by
    have : cinL s.length cs N = cs := by unfold cinL; rw [if_pos hS]
    rw [this]
    exact cinP_of hc hW hc2
  have HCP := hide hCP
  have HCL : Hid (0 < s.length → (cinL s.length cs N).length = cs.length) := fun hS => by unfold cinL; rw [if_pos hS]
  clear hCP
  by_cases hS1 : s.length = rank
  · have HF : Hid (∀ u v, FitC n lo w0 (fitS s rank k rest) (cinL s.length cs N) w (.returned (.agg #[.slice a1 s.length c1, .slice a2 cs.length c2])) ((W2.setCell ⟨w.heap.size + 1, 0, none⟩ u).setCell ⟨w.heap.size + 1, 1, none⟩ v)) := by
      intro u v
      have hS : 0 < s.length := by omega
      have hW := hb0.trans ((I.fin u v).mono hb0.size)
      refine ⟨⟨a1, c1, a2, c2, ?_, ?_, ?_⟩, I.fin u v⟩
      · rw [HCL.out hS]; unfold fitS; rw [if_pos hS1]
      · unfold fitS; rw [if_pos hS1]; exact ((R.next (I.fin u v))).low (Nat.zero_le _)
      · rw [HCL.out hS]; exact HCP.out hS _ hW
    have p0 := I.p0
    have p1 := I.p1
    have f0 := I.f0
    have f1 := I.f1
    have HT := hide (I.put (.slice a1 s.length c1) (.slice a2 cs.length c2))
    have hb1 : ((s.length : Int) == (rank : Int)) = true := by rw [hS1]; exact beq_self_eq_true _
    clear R hc I RR hS1 h1 h2 hN HCP HCL hNB
    generalize cs.length = CA at *
    generalize s.length = SA at *
    generalize rest.length = RL at *
    go_enter Try.func83, Try.ntmps83
    go_wp2
    exact bodyPost_ret (v := .agg #[.slice a1 SA c1, .slice a2 CA c2]) (by simp [results, Try.results83, go_sem, HT.out.1, HT.out.2]) rfl (HF.out _ _)
  have hb1 : ((s.length : Int) == (rank : Int)) = false := beq_eq_false_iff_ne.2 (by omega)
  by_cases hS : 0 < s.length
  · have HEP : Hid (fitS s rank k rest = s.take k ++ 1 :: s.drop k) := by unfold Hid fitS; rw [if_neg hS1, if_pos hS]
    have C := wide_any (w := W2.drew) s a1 c1 k 1 (R.next I.bel.drew) (by omega) (by omega) (h1 hS1 hS)
    unfold RowIs at C
    rw [← HEP.out] at C
    have HC := hide C
    have HI := hide I
    have HB := hide hb0
    have HK := hide (And.intro hS z2)
    have hSz : (0 : Int) < (s.length : Int) := by omega
    have p0 := I.p0
    have p1 := I.p1
    have f0 := I.f0
    have f1 := I.f1
    clear R hc I RR hS1 h1 h2 hN hNB C
    generalize fitS s rank k rest = P at *
    generalize cs.length = CA at *
    generalize s.length = SA at *
    generalize rest.length = RL at *
    go_enter Try.func83, Try.ntmps83
    go_upto_region 4 with fail
    go_region_with (go_at_call 85; refine HC.out.mono ?_; rintro e w5 ⟨⟨aw, cw, rfl, hcw, hrow⟩, hb5⟩; have I5 := (HI.out.drew).next hb5; have q15 := I5.q1; have p05 := I5.p0; have p15 := I5.p1; have f05 := I5.f0; have f15 := I5.f1)
    all_goals
      have HI5 := hide I5
      have HT := hide (I5.put (.slice aw P.length cw) (.slice a2 CA c2))
      have HF : Hid (∀ u v, FitC n lo w0 P (cinL SA cs N) w (.returned (.agg #[.slice aw P.length cw, .slice a2 CA c2])) ((w5.setCell ⟨w.heap.size + 1, 0, none⟩ u).setCell ⟨w.heap.size + 1, 1, none⟩ v)) := by
        intro u v
        have hS := HK.out.1
        have hz := HK.out.2
        have hW := HB.out.trans ((HI5.out.fin u v).mono HB.out.size)
        have K : Keeps (w.heap.size + 2) w5 ((w5.setCell ⟨w.heap.size + 1, 0, none⟩ u).setCell ⟨w.heap.size + 1, 1, none⟩ v) := keeps_two w5 w.heap.size u v
        refine ⟨⟨aw, cw, a2, c2, ?_, ?_, ?_⟩, HI5.out.fin u v⟩
        · rw [HCL.out hS]
        · exact ((hrow.low (show w.heap.size + 2 ≤ W2.drew.heap.size by show _ ≤ W2.heap.size; omega)).keeps K).low (Nat.zero_le _)
        · rw [HCL.out hS]; exact HCP.out hS _ hW
      clear hrow hb5 I5 HC HCP HCL HI5 HI
      go_wp2
      exact bodyPost_ret (v := .agg #[.slice aw P.length cw, .slice a2 CA c2]) (by simp [results, Try.results83, go_sem, HT.out.1, HT.out.2]) rfl (HF.out _ _)
  have hS0 : s.length = 0 := by omega
  have hcl : cs.length = 1 := hat hS0
  have HEP : Hid (fitS s rank k rest = rest.take k ++ 1 :: rest.drop k) := by unfold Hid fitS; rw [if_neg hS1, if_neg hS]
  obtain ⟨i0, hi0, hz00, hz01, hz02⟩ := info33'
  obtain ⟨ab, cb, hcf⟩ := cells_fn hc
  obtain ⟨b, off, rfl, -, hl, hcells⟩ := hcf (by omega)
  obtain ⟨g0, g1, g2, hce⟩ := hcells 0 (by omega)
  rw [Nat.zero_mul, Nat.add_zero] at g0 g1 g2
  have HCE := hide hce
  have HEL : Hid (cinL s.length cs N = List.replicate N (cAt cs 0)) := by unfold Hid cinL; rw [if_neg hS]
  have HU : Hid (∀ W, Below w0.heap.size w0 W → W.cell? ⟨b, off, none⟩ = some (.int .i64 (cAt cs 0).1) ∧ W.cell? ⟨b, off + 1, none⟩ = some (.int .i64 (cAt cs 0).2.1) ∧ W.cell? ⟨b, off + 2, none⟩ = some (.slice (ab 0) (cAt cs 0).2.2.length (cb 0))) := fun W h => ⟨(h.cell (p := ⟨b, off, none⟩) hl).trans g0, (h.cell (p := ⟨b, off + 1, none⟩) hl).trans g1, (h.cell (p := ⟨b, off + 2, none⟩) hl).trans g2⟩
  have C1 := wide_any (w := W2) rest ar cr k 1 (RR.next I.bel) (by omega) (by omega) (h2 hS1 hS)
  unfold RowIs at C1
  rw [← HEP.out] at C1
  have HI := hide I
  have HB := hide hb0
  have HRR := hide RR
  have HNN := hide (And.intro hN z2)
  rw [hcl] at e2 q1 HI ⊢
  rw [hS0] at e2 q0 HI hb1 ⊢
  rw [hS0] at HEL
  obtain ⟨T, hT⟩ : ∃ T : Nat → Value × Value × Value, T = fun _ => (.int .i64 (cAt cs 0).1, .int .i64 (cAt cs 0).2.1, .slice (ab 0) (cAt cs 0).2.2.length (cb 0)) := ⟨_, rfl⟩
  have HTT := hide hT
  obtain ⟨kk, hkk⟩ : ∃ kk, (cAt cs 0).1 = kk := ⟨_, rfl⟩
  obtain ⟨NN, hNN⟩ : ∃ NN, (cAt cs 0).2.1 = NN := ⟨_, rfl⟩
  obtain ⟨nb, hnb⟩ : ∃ nb, (cAt cs 0).2.2.length = nb := ⟨_, rfl⟩
  obtain ⟨abp, habp⟩ : ∃ z, ab 0 = z := ⟨_, rfl⟩
  obtain ⟨cbp, hcbp⟩ : ∃ z, cb 0 = z := ⟨_, rfl⟩
  have HSAME := hide (And.intro hkk (And.intro hNN (And.intro hnb (And.intro habp hcbp))))
  simp only [hkk, hNN, hnb, habp, hcbp] at HU HTT HCE
  obtain ⟨P, hP⟩ : ∃ P, fitS s rank k rest = P := ⟨_, rfl⟩
  obtain ⟨PL, hPL⟩ : ∃ PL, P.length = PL := ⟨_, rfl⟩
  obtain ⟨RL, hRL⟩ : ∃ RL, rest.length = RL := ⟨_, rfl⟩
  have HPL := hide hPL
  rw [hP] at C1 ⊢
  rw [hPL] at C1
  rw [hRL] at C1 hr8 ⊢
  clear R hc I RR hS1 h1 h2 hN HCP HCL hNB hcells hcf g0 g1 g2 hce hT hkk hNN hnb habp hcbp hP hPL HEP hS hcl
  go_enter Try.func83, Try.ntmps83
  go_wp2_with fail
  clear e2
  refine C1.mono ?_
  clear C1
  rintro e w6 ⟨⟨ao, ko, rfl, hko, RO⟩, hb6⟩
  have HRO := hide RO
  have I6 := HI.out.next hb6
  obtain ⟨O, hO⟩ : ∃ O, w6.heap.size = O := ⟨_, rfl⟩
  obtain ⟨W7, e7⟩ : ∃ W7, w6.alloc (.cells #[.slice ao PL ko, .slice none 0 0] 25) = W7 := ⟨_, rfl⟩
  have z7 : W7.heap.size = O + 1 := by rw [← e7]; simp [hO]
  have B7 : Below w6.heap.size w6 W7 := by rw [← e7]; exact one_alloc _ _
  have o0 : W7.cell? ⟨O, 0, none⟩ = some (.slice ao PL ko) := by rw [← e7, ← hO]; exact cell_new0 _ _ 25 0 _ rfl
  have o1 : W7.cell? ⟨O, 1, none⟩ = some (.slice none 0 0) := by rw [← e7, ← hO]; exact cell_new0 _ _ 25 1 _ rfl
  have of1 : W7.frozen? ⟨O, 1, none⟩ = false := by rw [← e7, ← hO]; exact frozen_new _ _ 25 1
  have HI9 := hide (I6.next B7)
  have HE7 := hide e7
  have hz6 := hb6.size
  have HZ := hide (And.intro hO (And.intro z7 (And.intro I6.size hz6)))
  have HBO := hide B7
  have C3 := rsize_any rest ar cr W7 ((HRR.out.next I6.bel).next B7)
  rw [HNN.out.1, hRL] at C3
  generalize sizeE rest = EE at C3
  have HG7 := hide (GrowC.new (T := T) o0 o1 of1)
  have hO5 : Hid (O < W7.heap.size) := by unfold Hid; omega
  have HRL := hide hRL
  clear RO hb6 I6 hO e7 z7 B7 q0 q1 hRL o0 o1 of1 hz6
  go_upto_region 6 with fail
  rw [HE7.out, HZ.out.1]
  clear HE7
  go_wp2_with fail
  refine C3.mono ?_
  clear C3
  rintro e w8 ⟨rfl, rfl⟩
  go_wp2
  go_loopg [12] N (fun g i wr => ∃ (t : Nat) (v : Value), g + t = N ∧ i = .int .i64 (t : Int) ∧ GrowC w8 O (.slice ao PL ko) T t v wr)
  case atStart => exact ⟨0, _, rfl, rfl, HG7.out⟩
  case round =>
    clear HG7
    obtain ⟨t, v, hg, rfl, hgr⟩ := hrel
    obtain ⟨wo, hwo⟩ : ∃ wo, wo = wr := ⟨_, rfl⟩
    subst hwo
    have HGR := hide hgr
    have hz := HZ.out
    have BW := hgr.below (B := O) (Nat.le_refl _) (by omega)
    have I10 := HI9.out.belowS BW (by omega)
    have BW6 : Below w6.heap.size w6 wo := HBO.out.trans (by rw [hz.1]; exact BW)
    have HNB : Hid (Below w0.heap.size w0 wo) := HB.out.trans (I10.bel.mono HB.out.size)
    have hTt : Hid (T t = (.int .i64 kk, .int .i64 NN, .slice abp nb cbp)) := by unfold Hid; rw [HTT.out]
    by_cases hlt : t < N
    · have hltz : (t : Int) < (N : Int) := by omega
      have q1 := I10.q1
      obtain ⟨u0, u1, u2⟩ := HU.out wo HNB.out
      have d1' := hgr.c1
      have d2' := hgr.f1
      have BA := one_alloc wo (.cells #[.int .i64 kk, .int .i64 NN, .slice abp nb cbp] 36)
      have hs59 : w8.heap.size ≤ wo.heap.size := hgr.io.size
      have hO5v := hO5.out
      have x0 : (wo.alloc (.cells #[.int .i64 kk, .int .i64 NN, .slice abp nb cbp] 36)).cell? ⟨O, 1, none⟩ = some v := (BA.cell (p := ⟨O, 1, none⟩) (by show O < _; omega)).trans d1'
      have HSTEP : Hid (rowT T (t + 1) = rowT T t ++ [.int .i64 kk, .int .i64 NN, .slice abp nb cbp]) := by unfold Hid; rw [rowT_step, hTt.out]
      have HOWN : Hid ((wo.alloc (.cells #[.int .i64 kk, .int .i64 NN, .slice abp nb cbp] 36)).drew.ownsRow w8.heap.size 36 3 v t (rowT T t)) := hgr.own.alloc (.cells #[.int .i64 kk, .int .i64 NN, .slice abp nb cbp] 36)
      have HNEWS : Hid (∀ i u, [Value.int .i64 kk, .int .i64 NN, .slice abp nb cbp][i]? = some u → (wo.alloc (.cells #[.int .i64 kk, .int .i64 NN, .slice abp nb cbp] 36)).drew.cell? ((⟨wo.heap.size, 0, none⟩ : Addr).add i) = some u) := by
        intro i u hu
        rw [add_off, Nat.zero_add]
        exact cell_new0 wo _ 36 i u (by simpa using hu)
      have HONE : Hid (∀ u ∈ [Value.int .i64 kk, .int .i64 NN, .slice abp nb cbp], u.oneCell' = true) := by
        intro u hu
        simp at hu
        rcases hu with rfl | rfl | rfl <;> rfl
      have HMAX : Hid (t + 1 ≤ maxLen ∧ (t + 1) * 40 ≤ 140737488355328 ∧ w8.heap.size ≤ (wo.alloc (.cells #[.int .i64 kk, .int .i64 NN, .slice abp nb cbp] 36)).drew.heap.size) := by
        refine ⟨by unfold maxLen; omega, by omega, ?_⟩
        have : (wo.alloc (.cells #[.int .i64 kk, .int .i64 NN, .slice abp nb cbp] 36)).drew.heap.size = wo.heap.size + 1 := by simp
        omega
      have HAB : Hid (Below w8.heap.size wo (wo.alloc (.cells #[.int .i64 kk, .int .i64 NN, .slice abp nb cbp] 36)).drew) := ((Below.refl _ _).alloc (by show _ ≤ wo.heap.size; omega) _).drew
      clear BA hTt hs59 hO5v I10 BW BW6 hgr HNB HU
      go_wp2
      go_region_law (refine step_append_own rfl (.tmp 45) (.tmp 50) 23 rfl w8.heap.size 36 i0 (.agg #[.int .i64 0, .int .i64 0, .slice none 0 0]) 3 40 Try.underlying23 hi0 hz00 hz01 hz02 rfl (by decide) v t (rowT T t) (by first | rfl | go_simp) HOWN.out ⟨wo.heap.size, 0, none⟩ 1 1 [.int .i64 kk, .int .i64 NN, .slice abp nb cbp] (by first | rfl | go_simp) rfl HNEWS.out HONE.out HMAX.out.1 HMAX.out.2.1 HMAX.out.2.2 ?_; intro v' w1 hown1 hb1; obtain ⟨g, cp, rfl, -⟩ := owns_form hown1 (Nat.succ_pos t); have dd1 := (HAB.out.trans hb1).cell (p := ⟨O, 1, none⟩) hO5.out |>.trans HGR.out.c1; have dd3 := (HAB.out.trans hb1).frozen (p := ⟨O, 1, none⟩) hO5.out |>.trans HGR.out.f1)
      all_goals
        have hown2 : w1.ownsRow w8.heap.size 36 3 (.slice (some ⟨g, 0, none⟩) (t + 1) cp) (t + 1) (rowT T (t + 1)) := by rw [HSTEP.out]; exact hown1
        have HNX := hide (HGR.out.step hO5.out (HAB.out.trans hb1) hown2)
        clear hown1 hown2 hb1 dd1 dd3 HOWN HNEWS HONE HMAX HAB HSTEP x0 u0 u1 u2
        go_wp2
        go_roundg (N - (t + 1))
        case rel => exact ⟨t + 1, _, by omega, by go_num, HNX.out⟩
        case measure => omega
    · have hte : t = N := by omega
      subst hte
      obtain ⟨g2, cp2, rfl, hcells⟩ := owns_cellsT T hgr.own
      obtain ⟨g2', cp2', he, hcap⟩ := owns_cap hgr.own
      simp only [Value.slice.injEq, true_and] at he
      obtain ⟨rfl, rfl⟩ := he
      have d0' := hgr.c0
      have d1' := hgr.c1
      have p0 := I10.p0
      have p1 := I10.p1
      have f0 := I10.f0
      have f1 := I10.f1
      have HT := hide (I10.put (.slice ao PL ko) (.slice g2 t cp2))
      have HFIN : Hid (∀ u v, FitC n lo w0 P (cinL 0 cs t) w (.returned (.agg #[.slice ao PL ko, .slice g2 t cp2])) ((wo.setCell ⟨w.heap.size + 1, 0, none⟩ u).setCell ⟨w.heap.size + 1, 1, none⟩ v)) := by
        intro u v
        have hel : (cinL 0 cs t).length = t := by rw [HEL.out, List.length_replicate]
        have K3 : Keeps (w.heap.size + 2) wo ((wo.setCell ⟨w.heap.size + 1, 0, none⟩ u).setCell ⟨w.heap.size + 1, 1, none⟩ v) := keeps_two wo w.heap.size u v
        refine ⟨⟨ao, ko, g2, cp2, by rw [HPL.out, hel], ?_, ?_⟩, I10.fin u v⟩
        · exact (((HRO.out.next BW6).low (show w.heap.size + 2 ≤ W2.heap.size by have := HNN.out.2; omega)).keeps K3).low (Nat.zero_le _)
        · rw [hel, HEL.out]
          refine ⟨by simp, T, ⟨hcap, fun i => by rw [HTT.out]; exact ⟨rfl, rfl, rfl⟩, fun h0 => ?_⟩, fun i hi => ?_⟩
          · rcases hcells with h | ⟨g, rfl, hg1, hg2, hcc⟩
            · omega
            · have hg3 : w.heap.size + 2 ≤ g := by omega
              refine ⟨g, 0, rfl, Nat.lt_of_lt_of_le hg2 K3.1, fun i hi => ?_⟩
              obtain ⟨e0, e1, e2⟩ := hcc i hi
              rw [Nat.zero_add]
              have ap : ∀ (o : Nat) (q : Value), wo.cell? ⟨g, o, none⟩ = some q → ((wo.setCell ⟨w.heap.size + 1, 0, none⟩ u).setCell ⟨w.heap.size + 1, 1, none⟩ v).cell? ⟨g, o, none⟩ = some q := fun o q h => (K3.cell (p := ⟨g, o, none⟩) hg3 hg2).trans h
              exact ⟨ap _ _ e0, ap _ _ e1, ap _ _ e2⟩
          · rw [replicate_at _ hi, HTT.out]
            exact HCE.out
      clear I10 hgr HGR hcells BW HTT HEL hz HZ HCE HU
      go_wp2
      exact bodyPost_ret (v := .agg #[.slice ao PL ko, .slice g2 t cp2]) (by simp [results, Try.results83, go_sem, HT.out.1, HT.out.2]) rfl (HFIN.out _ _)
end Go.Proofs.Ytmjncdhahdpplaa
namespace Go.Proofs.Ytmjncdhahdpplaa
open Go.ChangeShapes Go.WideShapes Go.ChangeAt Go.RowKit
set_option linter.unusedVariables false
set_option maxRecDepth 100000
def flatL (s : List Int) (k : Nat) : List Int := s.take k ++ s.drop (k + 1)
/-- What fit is given of the other one's shape. -/
def restL (o : List Int) (R k : Nat) : List Int := if o.length = R then flatL o k else o
theorem flat_wide {o : List Int} {k : Nat} (hk : k < o.length) (v : Int) : (flatL o k).take k ++ v :: (flatL o k).drop k = o.set k v := by
  have hlt : (o.take k).length = k := by rw [List.length_take]; omega
  unfold flatL
  rw [List.take_append_of_le_length (by omega), List.take_of_length_le (by omega), List.drop_append_of_le_length (by omega), List.drop_of_length_le (by omega), List.nil_append, List.set_eq_take_append_cons_drop, if_pos hk]
theorem flat_len {o : List Int} {k : Nat} (hk : k < o.length) : (flatL o k).length = o.length - 1 := by
  unfold flatL; rw [List.length_append, List.length_take, List.length_drop]; omega
theorem fitS_bes {s o : List Int} {k R : Nat} (hR : R = max s.length o.length) (hk : k < R) (h : ¬ (0 < s.length ∧ s.length < R - 1)) : besR s o k = (fitS s R k (restL o R k), 0) := by
  unfold besR fitS restL
  by_cases h1 : s.length = R
  · rw [if_pos (by omega), if_pos h1]
  · have ho : o.length = R := by omega
    rw [if_neg (by omega), if_neg h1, if_pos ho]
    by_cases h2 : s.length = 0
    · rw [if_pos h2, if_neg (by omega), flat_wide (by omega)]
    · rw [if_neg h2, if_pos (by omega), if_pos (by omega)]
theorem bes_err {s o : List Int} {k R : Nat} (hR : R = max s.length o.length) (h : 0 < s.length ∧ s.length < R - 1) : besR s o k = ([], 6) := by
  unfold besR
  rw [if_neg (by omega), if_neg (by omega), if_neg (by omega)]
theorem gI_take (l : List Int) {k i : Nat} (h : i < k) : gI (l.take k) i = gI l i := by unfold gI; rw [List.getElem?_take_of_lt h]
theorem gI_drop (l : List Int) (k i : Nat) : gI (l.drop k) i = gI l (k + i) := by unfold gI; rw [List.getElem?_drop]
theorem flat_same {P Q : List Int} {k : Nat} (hl : P.length = Q.length) (hk : k < P.length) : flatL P k = flatL Q k ↔ ∀ i, i < P.length → ¬ i = k → gI P i = gI Q i := by
  unfold flatL
  have l1 : (P.take k).length = (Q.take k).length := by rw [List.length_take, List.length_take, hl]
  constructor
  · intro h i hi hik
    obtain ⟨h1, h2⟩ := List.append_inj h l1
    by_cases hlt : i < k
    · have := congrArg (gI · i) h1
      simp only [gI_take _ hlt] at this
      exact this
    · have := congrArg (gI · (i - (k + 1))) h2
      simp only [gI_drop] at this
      rw [show k + 1 + (i - (k + 1)) = i by omega] at this
      exact this
  · intro h
    have h1 : P.take k = Q.take k := gI_ext l1 fun i hi => by
      rw [List.length_take] at hi
      rw [gI_take _ (by omega), gI_take _ (by omega)]
      exact h i (by omega) (by omega)
    have h2 : P.drop (k + 1) = Q.drop (k + 1) := gI_ext (by rw [List.length_drop, List.length_drop, hl]) fun i hi => by
      rw [List.length_drop] at hi
      rw [gI_drop, gI_drop]
      exact h _ (by omega) (by omega)
    rw [h1, h2]
theorem firstUp_fit {P Q : List Int} {k : Nat} (hl : P.length = Q.length) (hk : k < P.length) : firstUp (fitF P Q k) P.length = 0 ↔ flatL P k = flatL Q k := by
  rw [flat_same hl hk]
  constructor
  · intro h i hi hik
    have := firstUp_none h i hi
    unfold fitF at this
    by_cases hg : gI P i = gI Q i
    · exact hg
    · rw [if_pos ⟨hik, hg⟩] at this; omega
  · intro h
    refine firstUp_all fun i hi => ?_
    unfold fitF
    rw [if_neg]
    rintro ⟨h1, h2⟩
    exact h2 (h i hi h1)
/-- The shapes, as the document fits them. -/
theorem fitR_doc {s o : List Int} {k R : Nat} (hR : R = max s.length o.length) (hk : k < R) :
    (((0 < s.length ∧ s.length < R - 1) ∨ (0 < o.length ∧ o.length < R - 1)) → fitR s o k = ([], [], 6)) ∧
    (¬ ((0 < s.length ∧ s.length < R - 1) ∨ (0 < o.length ∧ o.length < R - 1)) → (fitS s R k (restL o R k)).length = R ∧ (fitS o R k (restL s R k)).length = R ∧
      (¬ flatL (fitS s R k (restL o R k)) k = flatL (fitS o R k (restL s R k)) k → fitR s o k = ([], [], 7)) ∧
      (flatL (fitS s R k (restL o R k)) k = flatL (fitS o R k (restL s R k)) k → fitR s o k = (fitS s R k (restL o R k), fitS o R k (restL s R k), 0))) := by
  have hR' : R = max o.length s.length := by omega
  constructor
  · intro h
    unfold fitR
    by_cases h1 : 0 < s.length ∧ s.length < R - 1
    · rw [bes_err hR h1, if_pos (by decide)]
    · rw [fitS_bes hR hk h1]
      have h2 := h.resolve_left h1
      rw [bes_err hR' h2, if_neg (by simp), if_pos (by decide)]
  · intro h
    have e1 := fitS_bes hR hk (fun g => h (Or.inl g))
    have e2 := fitS_bes hR' hk (fun g => h (Or.inr g))
    have l1 := bes_len (s := s) (o := o) (k := k) (by rw [e1])
    have l2 := bes_len (s := o) (o := s) (k := k) (by rw [e2])
    rw [e1] at l1
    rw [e2] at l2
    simp only at l1 l2
    refine ⟨by omega, by omega, fun g => ?_, fun g => ?_⟩
    · unfold fitR
      rw [e1, e2, if_neg (by simp), if_neg (by simp)]
      simp only
      rw [if_pos (fun g2 => g ((firstUp_fit (by omega) (by omega)).1 g2))]
    · unfold fitR
      rw [e1, e2, if_neg (by simp), if_neg (by simp)]
      simp only
      rw [if_neg (fun g2 => g2 ((firstUp_fit (by omega) (by omega)).2 g))]
theorem sizeV_flat {o : List Int} {k : Nat} (h8 : o.length ≤ 8) (hk : k < o.length) : sizeV (flatL o k) = sizeV (o.set k 1) := by
  have hm : ∀ z : Int, ¬ z = 1 → (z ∈ flatL o k ↔ z ∈ o.set k 1) := fun z hz => by
    rw [set_parts o k hk 1]
    unfold flatL
    simp [hz]
  have hp : prodL (flatL o k) = prodL (o.set k 1) := by
    rw [set_parts o k hk 1]
    unfold flatL
    rw [prodL_append, prodL_append]
    have : prodL (1 :: o.drop (k + 1)) = 1 * prodL (o.drop (k + 1)) := rfl
    rw [this, Int.one_mul]
  have hn : hasNeg (flatL o k) ↔ hasNeg (o.set k 1) := ⟨fun ⟨z, h1, h2⟩ => ⟨z, (hm z (by omega)).1 h1, h2⟩, fun ⟨z, h1, h2⟩ => ⟨z, (hm z (by omega)).2 h1, h2⟩⟩
  have h0 : hasZero (flatL o k) ↔ hasZero (o.set k 1) := ⟨fun ⟨z, h1, h2⟩ => ⟨z, (hm z (by omega)).1 h1, h2⟩, fun ⟨z, h1, h2⟩ => ⟨z, (hm z (by omega)).2 h1, h2⟩⟩
  have l1 := flat_len hk
  have l2 : (o.set k 1).length = o.length := List.length_set
  unfold sizeV
  rw [hp, l1, l2]
  by_cases c : 8 < o.length ∨ hasNeg (o.set k 1) ∨ hasZero (o.set k 1) ∨ 16384 < prodL (o.set k 1)
  · rw [if_pos c, if_pos]
    rcases c with c | c | c | c
    · omega
    · exact Or.inr (Or.inl (hn.2 c))
    · exact Or.inr (Or.inr (Or.inl (h0.2 c)))
    · exact Or.inr (Or.inr (Or.inr c))
  · rw [if_neg c, if_neg]
    rintro (d | d | d | d)
    · exact c (Or.inl (by omega))
    · exact c (Or.inr (Or.inl (hn.1 d)))
    · exact c (Or.inr (Or.inr (Or.inl (h0.1 d))))
    · exact c (Or.inr (Or.inr (Or.inr d)))
/-- The cells that fit lays out are those that the program's side lays out. -/
theorem cin_rest {s o P : List Int} {k R N : Nat} (cs : List Ce) (h8 : o.length ≤ 8) (hR : R = max s.length o.length) (hk : k < R) (hP : besR s o k = (P, 0)) (hN : sizeV (restL o R k) = (N : Int)) : cinL s.length cs N = cinL s.length cs (sizeV P).toNat := by
  unfold cinL
  by_cases h : 0 < s.length
  · rw [if_pos h, if_pos h]
  · rw [if_neg h, if_neg h]
    have ho : o.length = R := by omega
    unfold besR at hP
    rw [if_neg (by omega), if_pos (by omega)] at hP
    simp only [Prod.mk.injEq, and_true] at hP
    have : sizeV P = (N : Int) := by
      rw [← hN, ← hP]
      unfold restL
      rw [if_pos ho, sizeV_flat h8 (by omega)]
    rw [this, Int.toNat_natCast]
theorem sizeE_12 {l : List Int} (h8 : l.length ≤ 8) (h0 : ∀ z ∈ l, 0 ≤ z) (h : ¬ sizeE l = 0) : sizeE l = 12 := by
  unfold sizeE at h ⊢
  have hn : ¬ hasNeg l := by rintro ⟨z, hz, g⟩; have := h0 z hz; omega
  rw [if_neg (by omega), if_neg hn] at h ⊢
  by_cases c : hasZero l
  · rw [if_pos c] at h; omega
  · rw [if_neg c] at h ⊢
    by_cases d : 16384 < prodL l
    · rw [if_pos d]
    · rw [if_neg d] at h; omega
end Go.Proofs.Ytmjncdhahdpplaa
namespace Go.Proofs.Ytmjncdhahdpplaa
open Go.ChangeShapes Go.WideShapes Go.ChangeAt Go.RowKit
set_option linter.unusedVariables false
set_option maxRecDepth 100000
/-- What is known where there is a cell at all. -/
theorem joi_facts2 {x y : Ar} (hx : chkA 8 x = 0) (hy : chkA 8 y = 0) {k : Nat} {P Q : List Int} (hF : fitR x.shape y.shape k = (P, Q, 0)) (hk : k < P.length) (hs : sizeE (P.set k (gI P k + gI Q k)) = 0) (hN : ¬ sizeV (P.set k (gI P k + gI Q k)) = 0) :
    ∃ t p q d NP NQ : Nat, 0 < t ∧ t ≤ 16384 ∧ sizeV (P.take k) = (t : Int) ∧ gI P k = (p : Int) ∧ gI Q k = (q : Int) ∧ prodL (P.drop (k + 1)) = (d : Int) ∧ 0 < d ∧ sizeV P = (NP : Int) ∧ NP ≤ 16384 ∧ sizeV Q = (NQ : Int) ∧ NQ ≤ 16384 ∧ (cinL x.shape.length x.cells NP).length = t * (p * d) ∧ (cinL y.shape.length y.cells NQ).length = t * (q * d) ∧ sizeV (P.set k (gI P k + gI Q k)) = ((t * (p * d) + t * (q * d) : Nat) : Int) ∧ t * (p * d) + t * (q * d) ≤ 16384 ∧ sizeE P = 0 ∧ sizeE Q = 0 ∧ Q = P.set k (q : Int) ∧ prodL P = ((t * (p * d) : Nat) : Int) ∧ prodL Q = ((t * (q * d) : Nat) : Int) := by
  obtain ⟨hP, hQ, lP, lQ, hsame⟩ := fit_ok hF
  have nP : ∀ z ∈ P, 0 ≤ z := fun z hz => by
    rcases bes_mem hP hz with h | h | h
    · exact ((chk_axes hx).1 z h).1
    · exact ((chk_axes hy).1 z h).1
    · omega
  have nQ : ∀ z ∈ Q, 0 ≤ z := fun z hz => by
    rcases bes_mem hQ hz with h | h | h
    · exact ((chk_axes hy).1 z h).1
    · exact ((chk_axes hx).1 z h).1
    · omega
  obtain ⟨l8, -, hc⟩ := fine_cases hs
  rw [List.length_set] at l8
  rcases hc with ⟨-, h0⟩ | ⟨hpos, hle, hv⟩
  · exact absurd h0 hN
  have hp0 := nP _ (getD_mem hk)
  have hq0 := nQ _ (getD_mem (l := Q) (k := k) (by omega))
  change 0 ≤ gI P k at hp0
  change 0 ≤ gI Q k at hq0
  have hL0 : 0 < gI P k + gI Q k := hpos _ (mem_set_self' hk _)
  have e1 := prodL_set P k hk (gI P k + gI Q k)
  have e2 := prodL_set P k hk (gI P k)
  rw [set_gI _ _ hk] at e2
  have e3 := prodL_set Q k (by omega) (gI Q k)
  rw [set_gI _ _ (by omega)] at e3
  have tk : Q.take k = P.take k := gI_ext (by rw [List.length_take, List.length_take, lQ]) fun i hi => by
    rw [List.length_take] at hi
    have h1 : gI (Q.take k) i = gI Q i := by unfold gI; rw [List.getElem?_take_of_lt (by omega)]
    have h2 : gI (P.take k) i = gI P i := by unfold gI; rw [List.getElem?_take_of_lt (by omega)]
    rw [h1, h2]; exact (hsame i (by omega) (by omega)).symm
  have dk : Q.drop (k + 1) = P.drop (k + 1) := gI_ext (by rw [List.length_drop, List.length_drop, lQ]) fun i hi => by
    rw [List.length_drop] at hi
    have h1 : gI (Q.drop (k + 1)) i = gI Q (k + 1 + i) := by unfold gI; rw [List.getElem?_drop]
    have h2 : gI (P.drop (k + 1)) i = gI P (k + 1 + i) := by unfold gI; rw [List.getElem?_drop]
    rw [h1, h2]; exact (hsame _ (by omega) (by omega)).symm
  rw [tk, dk] at e3
  have pT : ∀ z ∈ P.take k, 0 < z := fun z hz => hpos z (by rw [← take_set P k (gI P k + gI Q k)] at hz; exact List.mem_of_mem_take hz)
  have pD : ∀ z ∈ P.drop (k + 1), 0 < z := fun z hz => hpos z (by
    have : (P.set k (gI P k + gI Q k)).drop (k + 1) = P.drop (k + 1) := by rw [List.drop_set_of_lt (by omega)]
    rw [← this] at hz; exact List.mem_of_mem_drop hz)
  have pa := prodL_pos pT
  have pd := prodL_pos pD
  obtain ⟨t, ht⟩ : ∃ t : Nat, prodL (P.take k) = (t : Int) := ⟨(prodL (P.take k)).toNat, by omega⟩
  obtain ⟨d, hd⟩ : ∃ d : Nat, prodL (P.drop (k + 1)) = (d : Int) := ⟨(prodL (P.drop (k + 1))).toNat, by omega⟩
  obtain ⟨p, hp⟩ : ∃ p : Nat, gI P k = (p : Int) := ⟨(gI P k).toNat, by omega⟩
  obtain ⟨q, hq⟩ : ∃ q : Nat, gI Q k = (q : Int) := ⟨(gI Q k).toNat, by omega⟩
  rw [hp, hq, ht, hd] at e1
  rw [hp, ht, hd] at e2
  rw [hq, ht, hd] at e3
  have c1 : prodL (P.set k ((p : Int) + (q : Int))) = ((t * (p * d) + t * (q * d) : Nat) : Int) := by
    rw [e1]; push_cast; rw [Int.add_mul, Int.mul_add]
  have c2 : prodL P = ((t * (p * d) : Nat) : Int) := by rw [e2]; push_cast; rfl
  have c3 : prodL Q = ((t * (q * d) : Nat) : Int) := by rw [e3]; push_cast; rfl
  rw [hp, hq] at hle hv
  rw [c1] at hle hv
  have h16 : t * (p * d) + t * (q * d) ≤ 16384 := by omega
  have ht16 : t ≤ 16384 := by
    have a1 : 1 ≤ (p + q) * d := Nat.mul_pos (by omega) (by omega)
    have a2 : t * 1 ≤ t * ((p + q) * d) := Nat.mul_le_mul_left _ a1
    rw [Nat.add_mul, Nat.mul_add] at a2
    omega
  have fT := fine_mk (l := P.take k) (by rw [List.length_take]; omega) (fun z hz => by have := pT z hz; omega) (Or.inr (by rw [ht]; omega))
  have fP := fine_mk (l := P) l8 nP (Or.inr (by rw [c2]; omega))
  have fQ := fine_mk (l := Q) (by omega) nQ (Or.inr (by rw [c3]; omega))
  have gx := (chkA_iff 8 x).1 hx
  have gy := (chkA_iff 8 y).1 hy
  have hQP : Q = P.set k (q : Int) := gI_ext (by rw [List.length_set, lQ]) fun i hi => by
    rw [gI_set _ _ _ _ hk]
    by_cases h : i = k
    · rw [if_pos h, h, hq]
    · rw [if_neg h]; exact (hsame i (by omega) h).symm
  refine ⟨t, p, q, d, t * (p * d), t * (q * d), by omega, ht16, by rw [fT.2, ht], hp, hq, hd, by omega, by rw [fP.2, c2], by omega, by rw [fQ.2, c3], by omega, ?_, ?_, ?_, h16, fP.1, fQ.1, hQP, c2, c3⟩
  · unfold cinL
    by_cases h0 : 0 < x.shape.length
    · rw [if_pos h0]
      have := bes_prod hP h0
      have e := sizeV_prod gx.1
      rw [gx.2.1, ← this, c2] at e
      omega
    · rw [if_neg h0, List.length_replicate]
  · unfold cinL
    by_cases h0 : 0 < y.shape.length
    · rw [if_pos h0]
      have := bes_prod hQ h0
      have e := sizeV_prod gy.1
      rw [gy.2.1, ← this, c3] at e
      omega
    · rw [if_neg h0, List.length_replicate]
  · rw [hp, hq, hv]
/-- The cell at a number, by its places. -/
theorem joi_place {x y : Ar} (hx : chkA 8 x = 0) (hy : chkA 8 y = 0) {k : Nat} {P Q : List Int} (hF : fitR x.shape y.shape k = (P, Q, 0)) (hk : k < P.length) (hs : sizeE (P.set k (gI P k + gI Q k)) = 0) {i : Nat} (hi : (i : Int) < sizeV (P.set k (gI P k + gI Q k))) :
    ∃ a p q : Nat, gI P k = (p : Int) ∧ gI Q k = (q : Int) ∧ gI (digits (P.set k (gI P k + gI Q k)) (i : Int)) k = (a : Int) ∧ p ≤ 16384 ∧ q ≤ 16384 ∧ a < p + q ∧
      (a < p → ∃ t : Nat, plcV P (digits (P.set k (gI P k + gI Q k)) (i : Int)) = (t : Int) ∧ t < (cinL x.shape.length x.cells (sizeV P).toNat).length ∧ cAt (joiC x y P Q k) i = cAt (cinL x.shape.length x.cells (sizeV P).toNat) t) ∧
      (¬ a < p → ∃ t : Nat, plcV Q ((digits (P.set k (gI P k + gI Q k)) (i : Int)).set k ((a - p : Nat) : Int)) = (t : Int) ∧ t < (cinL y.shape.length y.cells (sizeV Q).toNat).length ∧ cAt (joiC x y P Q k) i = cAt (cinL y.shape.length y.cells (sizeV Q).toNat) t) := by
  obtain ⟨t, p, q, d, NP, NQ, ht, ht16, sT, hp, hq, hd, hd0, sP, -, sQ, -, lA, lB, sS, h16, eP, eQ, hQP, cP, cQ⟩ := joi_facts2 hx hy hF hk hs (by omega)
  have hLk : gI P k + gI Q k = ((p + q : Nat) : Int) := by rw [hp, hq]; push_cast; rfl
  obtain ⟨-, hpos, hpr, -⟩ := sizeV_in hs (show (0 : Int) ≤ (i : Int) by omega) hi
  have hjl : (joiC x y P Q k).length = t * (p * d) + t * (q * d) := by unfold joiC; rw [mkCs_len, sP, sQ, Int.toNat_natCast, Int.toNat_natCast, lA, lB]
  rw [sS] at hi
  have hi2 : i < t * (p * d) + t * (q * d) := by omega
  rw [hLk] at hpos hpr sS ⊢
  obtain ⟨X, a, b, w, hw, hw0, ha, hb, hie, hg, hpl, hin⟩ := axis_place (s := P) (k := k) (L := p + q) hk hpos (i := i) (by rw [← hpr, sS]; omega)
  obtain rfl : w = d := by omega
  have hone : w ≤ p * w ∨ p = 0 := by rcases Nat.eq_zero_or_pos p with h | h; exact Or.inr h; exact Or.inl (Nat.le_mul_of_pos_left _ h)
  have htwo : w ≤ q * w ∨ q = 0 := by rcases Nat.eq_zero_or_pos q with h | h; exact Or.inr h; exact Or.inl (Nat.le_mul_of_pos_left _ h)
  have hJ : cAt (joiC x y P Q k) i = turnF (cAt (cinL x.shape.length x.cells NP)) (cAt (cinL y.shape.length y.cells NQ)) (p * w) (q * w) i := by
    unfold joiC
    rw [sP, sQ, Int.toNat_natCast, Int.toNat_natCast, sT, Int.toNat_natCast, mkCs_at _ _ _ (by rw [lA, lB]; exact hi2), lA, lB, Nat.mul_div_cancel_left _ ht, Nat.mul_div_cancel_left _ ht]
  have hp16 : p ≤ 16384 := by
    have a1 : p * 1 ≤ p * w := Nat.mul_le_mul_left _ hw0
    have a2 : 1 * (p * w) ≤ t * (p * w) := Nat.mul_le_mul_right _ ht
    omega
  have hq16 : q ≤ 16384 := by
    have a1 : q * 1 ≤ q * w := Nat.mul_le_mul_left _ hw0
    have a2 : 1 * (q * w) ≤ t * (q * w) := Nat.mul_le_mul_right _ ht
    omega
  refine ⟨a, p, q, hp, hq, hg, hp16, hq16, ha, fun h => ?_, fun h => ?_⟩
  · have hset : P.set k (p : Int) = P := by rw [← hp]; exact set_gI _ _ hk
    have hdl : k < (digits (P.set k ((p + q : Nat) : Int)) (i : Int)).length := by rw [digits_length, List.length_set]; exact hk
    have hds : (digits (P.set k ((p + q : Nat) : Int)) (i : Int)).set k (a : Int) = digits (P.set k ((p + q : Nat) : Int)) (i : Int) := by rw [← hg]; exact set_gI _ _ hdl
    have h1 := hin p a h
    have h2 := hpl p a
    rw [hset, hds] at h1 h2
    have hbd := (place_bound h1).2.2.1
    rw [h2, cP] at hbd
    refine ⟨X * (p * w) + a * w + b, by rw [(plc_of eP h1).1, h2], by rw [sP, Int.toNat_natCast, lA]; omega, ?_⟩
    have hq' : a * w + b < p * w := by
      have : (a + 1) * w ≤ p * w := Nat.mul_le_mul_right _ h
      rw [Nat.add_mul, Nat.one_mul] at this
      omega
    have hi3 : i = X * (p * w + q * w) + (a * w + b) := by rw [hie, Nat.add_mul (X * (p + q)) a w, Nat.mul_assoc, Nat.add_mul p q w, Nat.add_assoc]
    rw [hJ, sP, Int.toNat_natCast, hi3, turnF_a _ _ _ _ _ _ hq', Nat.add_assoc]
  · have h1 := hin q (a - p) (by omega)
    have h2 := hpl q (a - p)
    rw [← hQP] at h1 h2
    have hbd := (place_bound h1).2.2.1
    rw [h2, cQ] at hbd
    refine ⟨X * (q * w) + (a - p) * w + b, by rw [(plc_of eQ h1).1, h2], by rw [sQ, Int.toNat_natCast, lB]; omega, ?_⟩
    have hq' : (a - p) * w + b < q * w := by
      have : (a - p + 1) * w ≤ q * w := Nat.mul_le_mul_right _ (by omega)
      rw [Nat.add_mul, Nat.one_mul] at this
      omega
    have haw : a * w = p * w + (a - p) * w := by rw [← Nat.add_mul]; congr 1; omega
    have hi3 : i = X * (p * w + q * w) + p * w + ((a - p) * w + b) := by rw [hie, Nat.add_mul (X * (p + q)) a w, Nat.mul_assoc, Nat.add_mul p q w, haw]; omega
    rw [hJ, sQ, Int.toNat_natCast, hi3, turnF_b _ _ _ _ _ _ hq', Nat.add_assoc]
end Go.Proofs.Ytmjncdhahdpplaa
namespace Go.Proofs.Ytmjncdhahdpplaa
open Go.ChangeShapes Go.WideShapes Go.ChangeAt Go.RowKit
set_option linter.unusedVariables false
set_option maxRecDepth 100000
set_option maxHeartbeats 1000000 in
/-- Whether two lists of numbers are the same. -/
theorem rints_all {lo lo' : Nat} (l m : List Int) (a a' : Option Addr) (cap cap' : Nat) (w : World) (R : Row lo w a l) (R' : Row lo' w a' m) :
    Calls Try.prog 84 #[.slice a l.length cap, .slice a' m.length cap'] w fun e w' => e = .returned (.bool (decide (l = m))) ∧ Below w.heap.size w w' := by
  have hrow := @row_at _ _ _ _ R
  have hrow' := @row_at _ _ _ _ R'
  have hl := R.1
  by_cases hll : l.length = m.length
  case neg =>
    have hne : decide (l = m) = false := decide_eq_false fun h => hll (by rw [h])
    have hb : ((l.length : Int) != (m.length : Int)) = true := by simp; omega
    rw [hne]
    clear R R' hrow hrow' hl hne
    generalize l.length = L at *
    generalize m.length = M at *
    go_enter Try.func84, Try.ntmps84
    go_wp2
    go_ret
    exact ⟨rfl, Below.refl _ _⟩
  rw [← hll]
  have HLL := hide hll
  rw [← hll] at hrow'
  clear R R' hll
  go_enter Try.func84, Try.ntmps84
  go_wp2
  go_loopw [5] (fun i wr => ∃ j : Nat, j ≤ l.length ∧ i = .int .i64 j ∧ (∀ i, i < j → gI l i = gI m i) ∧ Below w.heap.size w wr) (fun i _ => l.length - (intOf i).toNat)
  case atStart => exact ⟨0, Nat.zero_le _, rfl, fun i hi => absurd hi (by omega), Below.refl _ _⟩
  case round =>
    obtain ⟨j, hj, rfl, hsame, hnx⟩ := hrel
    have HSM := hide hsame
    by_cases hlt : j < l.length
    · obtain ⟨b, off, ha, hb, hck⟩ := hrow hlt
      obtain ⟨b', off', ha', hb', hck'⟩ := hrow' hlt
      subst ha
      subst ha'
      have hc1 : wr.cell? ⟨b, off + j, none⟩ = some (.int .i64 (l[j]?.getD 0)) := (hnx.cell (p := ⟨b, off + j, none⟩) hb).trans hck
      have hc2 : wr.cell? ⟨b', off' + j, none⟩ = some (.int .i64 (m[j]?.getD 0)) := (hnx.cell (p := ⟨b', off' + j, none⟩) hb').trans hck'
      obtain ⟨z, hz⟩ : ∃ z, l[j]?.getD 0 = z := ⟨_, rfl⟩
      obtain ⟨z', hz'⟩ : ∃ z, m[j]?.getD 0 = z := ⟨_, rfl⟩
      rw [hz] at hc1
      rw [hz'] at hc2
      have HZ : Hid (gI l j = z ∧ gI m j = z') := ⟨hz, hz'⟩
      by_cases hzz : z = z'
      · have hb1 : (z != z') = false := by simp [hzz]
        have HEQ := hide hzz
        clear hrow hrow' hck hck' hz hz' hzz hsame
        go_wp2
        go_region
        all_goals go_wp2
        all_goals go_roundw
        case rel => exact ⟨j + 1, by omega, by go_num, fun i hi => by
          by_cases h : i < j
          · exact HSM.out i h
          · obtain rfl : i = j := by omega
            rw [HZ.out.1, HZ.out.2, HEQ.out], hnx.drew⟩
        case measure => simp [intOf]; omega
      · have hb1 : (z != z') = true := by simp [hzz]
        have hne : decide (l = m) = false := decide_eq_false fun h => hzz (by rw [← HZ.out.1, ← HZ.out.2, h])
        have HNE := hide hne
        clear hrow hrow' hck hck' hz hz' hzz hsame hne
        go_wp2
        go_region
        all_goals go_wp2
        all_goals go_ret
        all_goals exact ⟨by rw [HNE.out]; rfl, hnx.drew⟩
    · have heq : decide (l = m) = true := decide_eq_true (gI_ext HLL.out fun i hi => HSM.out i (by omega))
      have HNE := hide heq
      clear hsame heq
      go_wp2
      go_ret
      exact ⟨by rw [HNE.out]; rfl, hnx⟩
end Go.Proofs.Ytmjncdhahdpplaa
namespace Go.Proofs.Ytmjncdhahdpplaa
open Go.ChangeShapes Go.WideShapes Go.ChangeAt Go.RowKit
set_option linter.unusedVariables false
set_option maxRecDepth 100000
/-- All blocks from a number on, but one, are as they were. -/
def KeepsBut (lo o : Nat) (w w' : World) : Prop := w.heap.size ≤ w'.heap.size ∧ ∀ b, lo ≤ b → b < w.heap.size → b ≠ o → w'.heap[b]? = w.heap[b]?
theorem row_but {lo lo' o : Nat} {w5 wx V : World} {a : Option Addr} {l : List Int} (R : Row lo w5 a l) (hl : lo' ≤ lo) (hK : Keeps lo w5 wx) (ho : o < lo ∨ w5.heap.size ≤ o) (hV : KeepsBut lo' o wx V) : Row 0 V a l :=
  (R.keeps ⟨Nat.le_trans hK.1 hV.1, fun b h1 h2 => (hV.2 b (by omega) (Nat.lt_of_lt_of_le h2 hK.1) (by omega)).trans (hK.2 b h1 h2)⟩).low (Nat.zero_le _)
theorem GrowC.but {W : World} {lo o : Nat} {sv : Value} {T : Nat → Value × Value × Value} {j : Nat} {v : Value} {wr : World} (h : GrowC W o sv T j v wr) : KeepsBut lo o W wr := ⟨h.io.size, fun b _ => h.keep b⟩
/-- What fit gives, with the lengths as letters. -/
theorem rfit_at {n lo : Nat} {s P : List Int} {cs : List Ce} {a1 a2 ar : Option Addr} {c1 c2 cr rank k N S C L RL NC : Nat} {rest : List Int} {w0 w : World} (R : Row 0 w a1 s) (hc : CellsIn n lo w0 cs a2) (hb0 : Below w0.heap.size w0 w) (hS : s.length = S) (hC : cs.length = C) (l8 : S ≤ 8) (c16 : C ≤ 16384) (hc2 : C ≤ c2) (hat : S = 0 → C = 1) (RR : Row 0 w ar rest) (hL : rest.length = L) (hr8 : L ≤ 8) (hk8 : k ≤ 8)
    (hrank : rank ≤ 8) (h1 : ¬ S = rank → 0 < S → k ≤ S) (h2 : ¬ S = rank → ¬ 0 < S → k ≤ L) (hN : sizeV rest = (N : Int)) (hN16 : N ≤ 16384) (h0 : 0 < rank) (hP : fitS s rank k rest = P) (hRL : P.length = RL) (hNC : (cinL S cs N).length = NC) :
    Calls Try.prog 83 #[.agg #[.slice a1 S c1, .slice a2 C c2], .int .i64 (rank : Int), .int .i64 (k : Int), .slice ar L cr] w fun e w' => (∃ s1 kc a3 c3, e = .returned (.agg #[.slice s1 RL kc, .slice a3 NC c3]) ∧ Row 0 w' s1 P ∧ CinP n lo w0 w' (cinL S cs N) a3 NC c3) ∧ Below w.heap.size w w' := by
  subst hS hC hL hP hRL hNC
  exact rfit_any R hc hb0 l8 c16 hc2 hat RR hr8 hk8 hrank h1 h2 hN hN16 h0
/-- The variable that the answer is put together in: its shape lies apart. -/
structure OutV (W wx : World) (B : Nat) (sz : Option Addr) (RR kz : Nat) (S : List Int) : Prop where
  bel : Below W.heap.size W wx
  hi : W.heap.size ≤ B
  lt : B < wx.heap.size
  c0 : wx.cell? ⟨B, 0, none⟩ = some (.slice sz RR kz)
  c1 : wx.cell? ⟨B, 1, none⟩ = some (.slice none 0 0)
  f1 : wx.frozen? ⟨B, 1, none⟩ = false
  row : ∀ V, KeepsBut W.heap.size B wx V → Row 0 V sz S
theorem out_new {lo : Nat} {W w5 : World} {sz : Option Addr} {RR kz : Nat} {S : List Int} (hl : W.heap.size ≤ lo) (g : Below W.heap.size W w5) (R : Row lo w5 sz S) : OutV W (w5.alloc (.cells #[.slice sz RR kz, .slice none 0 0] 25)) w5.heap.size sz RR kz S :=
  ⟨g.alloc g.size _, g.size, by simp, cell_new0 w5 _ 25 0 _ rfl, cell_new0 w5 _ 25 1 _ rfl, frozen_new w5 _ 25 1, fun V hV => row_but R hl (keeps_of_below (one_alloc _ _)) (Or.inr (Nat.le_refl _)) hV⟩
theorem out_old {B : Nat} {W w4 w5 : World} {sz : Option Addr} {RR kz : Nat} {S : List Int} (t : Zb w4 B) (hB : W.heap.size ≤ B) (g : Below W.heap.size W w5) (hb : Below w4.heap.size w4 w5) (R : Row w4.heap.size w5 sz S) : OutV W ((w5.setCell ⟨B, 0, none⟩ (.slice sz RR kz)).setCell ⟨B, 1, none⟩ (.slice none 0 0)) B sz RR kz S := by
  obtain ⟨k0, k1, k2, k3, k4⟩ := t.next hb
  have st := set_two k0 k1 (.slice sz RR kz) (.slice none 0 0)
  have hk := ((Keeps.refl w4.heap.size w5).setCell (p := ⟨B, 0, none⟩) t.2.2.2.2 (.slice sz RR kz)).setCell (p := ⟨B, 1, none⟩) t.2.2.2.2 (.slice none 0 0)
  exact ⟨(g.setCell (p := ⟨B, 0, none⟩) hB _).setCell (p := ⟨B, 1, none⟩) hB _, hB, by simpa using k4, by rw [World.cell?_setCell_other _ _ _ _ (by simp)]; exact st.1, st.2, frozen_set _ _ _ _ (frozen_set _ _ _ _ k3), fun V hV => row_but R (Nat.le_trans hB (Nat.le_of_lt t.2.2.2.2)) hk (Or.inl t.2.2.2.2) hV⟩
theorem KeepsBut.refl (lo o : Nat) (w : World) : KeepsBut lo o w w := ⟨Nat.le_refl _, fun _ _ _ _ => rfl⟩
set_option maxHeartbeats 8000000 in
theorem rjoin_any {n lo lo' : Nat} {x y : Ar} {va vb : Value} {w0 w : World} (last : Bool) (hx : ArIn (n + 1) lo w0 x va) (hy : ArIn (n + 1) lo' w0 y vb) (hb0 : Below w0.heap.size w0 w) (hcx : chkA 8 x = 0) (hcy : chkA 8 y = 0) (hcapx : Caps va) (hcapy : Caps vb) :
    Calls Try.prog 47 #[va, vb, .bool last] w fun e w' => Gives2Z (n + 1) w0 (joiR last x y).1 (joiR last x y).2 w e w' := by
  obtain ⟨a1, c1, a2, c2, rfl, R, hc⟩ := hx.form
  obtain ⟨b1, d1, b2, d2, rfl, R', hc'⟩ := hy.form
  have I := in3_new w (.slice a1 x.shape.length c1) (.slice a2 x.cells.length c2) (.slice b1 y.shape.length d1) (.slice b2 y.cells.length d2)
  have hfq := fun i => ((two_allocs (w.alloc (.cells #[.slice a1 x.shape.length c1, .slice a2 x.cells.length c2] 25)) (.cells #[.slice b1 y.shape.length d1, .slice b2 y.cells.length d2] 25) (.cells #[.slice none 0 0, .slice none 0 0] 25)).frozen (p := ⟨w.heap.size, i, none⟩) (by simp)).trans (frozen_new w #[.slice a1 x.shape.length c1, .slice a2 x.cells.length c2] 25 i)
  have hfr := fun i => ((one_alloc ((w.alloc (.cells #[.slice a1 x.shape.length c1, .slice a2 x.cells.length c2] 25)).alloc (.cells #[.slice b1 y.shape.length d1, .slice b2 y.cells.length d2] 25)) (.cells #[.slice none 0 0, .slice none 0 0] 25)).frozen (p := ⟨w.heap.size + 1, i, none⟩) (by simp)).trans (frozen_new1 w #[.slice b1 y.shape.length d1, .slice b2 y.cells.length d2] 25 (.cells #[.slice a1 x.shape.length c1, .slice a2 x.cells.length c2] 25) i)
  obtain ⟨W3, e3⟩ : ∃ W3, ((w.alloc (.cells #[.slice a1 x.shape.length c1, .slice a2 x.cells.length c2] 25)).alloc (.cells #[.slice b1 y.shape.length d1, .slice b2 y.cells.length d2] 25)).alloc (.cells #[.slice none 0 0, .slice none 0 0] 25) = W3 := ⟨_, rfl⟩
  rw [e3] at I hfq hfr
  have NB : Below w0.heap.size w0 W3 := hb0.trans (I.bel.mono hb0.size)
  have q0 := I.q0
  have q1 := I.q1
  have r0 := I.r0
  have r1 := I.r1
  have HI := hide I
  have HNB := hide NB
  have HB0 := hide hb0
  have HFQ := hide hfq
  have HFR := hide hfr
  obtain ⟨lx8, cx16⟩ := chk_len hcx
  obtain ⟨ly8, cy16⟩ := chk_len hcy
  have HCC := hide (And.intro hc (And.intro hc' (And.intro (caps_form hcapx).2 (caps_form hcapy).2)))
  obtain ⟨X, hX⟩ : ∃ X, (joiS x y).1 = X := ⟨_, rfl⟩
  obtain ⟨Y, hY⟩ : ∃ Y, (joiS x y).2 = Y := ⟨_, rfl⟩
  have HXY : Hid (X.cells = x.cells ∧ Y.cells = y.cells ∧ chkA 8 X = 0 ∧ chkA 8 Y = 0 ∧ 0 < max X.shape.length Y.shape.length) := by
    rw [← hX, ← hY]
    unfold joiS
    by_cases h : x.shape.length = 0 ∧ y.shape.length = 0
    · rw [if_pos h]
      have h1 := lst_facts hcx
      have h2 := lst_facts hcy
      exact ⟨h1.2.1, h2.2.1, h1.1, h2.1, by have := h1.2.2; show 0 < max (lstA x).shape.length _; omega⟩
    · rw [if_neg h]
      exact ⟨rfl, rfl, hcx, hcy, by show 0 < max x.shape.length y.shape.length; omega⟩
  have HJ : Hid (joiR last x y = joiT X Y (joiK last X Y) (fitR X.shape Y.shape (joiK last X Y))) := by unfold Hid joiR; rw [hX, hY]
  have HRR := hide (And.intro R R')
  have HPX : Hid (∀ W, Below w0.heap.size w0 W → Calls Try.prog 21 #[.agg #[.slice a1 x.shape.length c1, .slice a2 x.cells.length c2]] W fun e w' => LstIs w0 x a2 c2 W e w') := fun W h => rlisted_row hx h (caps_form hcapx).1
  have HPY : Hid (∀ W, Below w0.heap.size w0 W → Calls Try.prog 21 #[.agg #[.slice b1 y.shape.length d1, .slice b2 y.cells.length d2]] W fun e w' => LstIs w0 y b2 d2 W e w') := fun W h => rlisted_row hy h (caps_form hcapy).1
  obtain ⟨SX, hSX⟩ : ∃ SX, x.shape.length = SX := ⟨_, rfl⟩
  obtain ⟨CX, hCX⟩ : ∃ CX, x.cells.length = CX := ⟨_, rfl⟩
  obtain ⟨SY, hSY⟩ : ∃ SY, y.shape.length = SY := ⟨_, rfl⟩
  obtain ⟨CY, hCY⟩ : ∃ CY, y.cells.length = CY := ⟨_, rfl⟩
  have HSC := hide (And.intro hSX (And.intro hCX (And.intro hSY hCY)))
  have HXYS : Hid ((SX = 0 ∧ SY = 0 → X.shape = [1] ∧ Y.shape = [1] ∧ (lstA x).shape = [1] ∧ (lstA y).shape = [1]) ∧ (¬ (SX = 0 ∧ SY = 0) → X = x ∧ Y = y)) := by
    rw [← hX, ← hY, ← hSX, ← hSY]
    unfold joiS
    refine ⟨fun h => ?_, fun h => ?_⟩
    · rw [if_pos h]
      have e1 : (lstA x).shape = [1] := by unfold lstA; rw [if_pos h.1]; rfl
      have e2 : (lstA y).shape = [1] := by unfold lstA; rw [if_pos h.2]; rfl
      exact ⟨e1, e2, e1, e2⟩
    · rw [if_neg h]; exact ⟨rfl, rfl⟩
  simp only [hSX, hCX, hSY, hCY] at e3 q0 q1 r0 r1 HI HCC HPX HPY lx8 cx16 ly8 cy16 ⊢
  clear R hc I hx R' hc' hSX hCX hSY hCY hb0 hcx hcy hcapx hcapy NB hfq hfr hX hY hy
  go_enter Try.func47, Try.ntmps47
  obtain ⟨RK, hRK⟩ : ∃ RK, max SX SY = RK := ⟨_, rfl⟩
  obtain ⟨bb, hbb⟩ : ∃ bb, decide (SX < SY) = bb := ⟨_, rfl⟩
  go_upto_if 30 with fail
  go_cut [8] from 31 to 33 (fun s wx => s = .int .i64 (RK : Int) ∧ wx = W3)
  case first =>
    cases bb
    case true =>
      have h := of_decide_eq_true hbb
      have HE : Hid (SY = RK) := by unfold Hid; omega
      clear hRK h
      go_wp2
      go_meet
      exact ⟨by rw [HE.out], rfl⟩
    case false =>
      have h := of_decide_eq_false hbb
      have HE : Hid (SX = RK) := by unfold Hid; omega
      clear hRK h
      go_wp2
      go_meet
      exact ⟨by rw [HE.out], rfl⟩
  case rest =>
  obtain ⟨rfl, hwc⟩ := hcut
  have hwc' := hwc.symm
  subst hwc'
  clear hwc
  have HRK := hide hRK
  have hRK8 : RK ≤ 8 := by omega
  clear hRK hbb
  obtain ⟨b2', hb2'⟩ : ∃ b2' : Bool, ((RK : Int) == 0) = b2' := ⟨_, rfl⟩
  obtain ⟨A, hA⟩ : ∃ A, X.shape = A := ⟨_, rfl⟩
  obtain ⟨B, hB⟩ : ∃ B, Y.shape = B := ⟨_, rfl⟩
  have HAB := hide (And.intro hA hB)
  obtain ⟨RR, hRR⟩ : ∃ RR, max A.length B.length = RR := ⟨_, rfl⟩
  have HRR2 := hide hRR
  go_upto_if 35 with fail
  go_cut [8] from 36 to 39 (fun s wx => s = .int .i64 (RR : Int) ∧ ∃ s1 k1 s2 k2, In3 w (.slice s1 A.length k1) (.slice a2 CX c2) (.slice s2 B.length k2) (.slice b2 CY d2) wx ∧ Row 0 wx s1 A ∧ Row 0 wx s2 B ∧ Below w0.heap.size w0 wx)
  case first =>
    cases b2'
    case true =>
      have h : RK = 0 := by simp at hb2'; omega
      obtain ⟨x1, y1, lx, ly⟩ := HXYS.out.1 (by have := HRK.out; omega)
      have C1 := HPX.out W3 HNB.out
      unfold LstIs at C1
      rw [lx] at C1
      have HC2 : Hid (∀ W, Below w0.heap.size w0 W → Calls Try.prog 21 #[.agg #[.slice b1 SY d1, .slice b2 CY d2]] W fun e w' => (∃ s1 k1, e = .returned (.agg #[.slice s1 1 k1, .slice b2 CY d2]) ∧ 1 ≤ k1 ∧ ∀ V, Below w0.heap.size w0 V → Keeps W.heap.size w' V → Row 0 V s1 [1]) ∧ Below W.heap.size W w') := fun W hW => by
        have C := HPY.out W hW
        unfold LstIs at C
        rw [ly, HSC.out.2.2.2] at C
        exact C
      have HRE : Hid (RR = 1 ∧ A = [1] ∧ B = [1]) := by
        have hab := HAB.out
        have hr := HRR2.out
        rw [← hab.1, ← hab.2, x1, y1] at hr
        exact ⟨by simpa using hr.symm, by rw [← hab.1, x1], by rw [← hab.2, y1]⟩
      have C1' : Calls Try.prog 21 #[.agg #[.slice a1 SX c1, .slice a2 CX c2]] W3 fun e w' => (∃ s1 k1, e = .returned (.agg #[.slice s1 1 k1, .slice a2 CX c2]) ∧ 1 ≤ k1 ∧ ∀ V, Below w0.heap.size w0 V → Keeps W3.heap.size w' V → Row 0 V s1 [1]) ∧ Below W3.heap.size W3 w' := by
        rw [HSC.out.2.1] at C1
        exact C1
      clear h x1 y1 lx ly C1 hA hB hRR hRK8
      go_wp2_with fail
      refine C1'.mono ?_
      clear C1' q0 q1 r0 r1
      rintro e w4 ⟨⟨s1, k1, rfl, hk1, hr1⟩, hb4⟩
      have I4 := HI.out.next hb4
      have hz3 := HI.out.size
      have q0 := I4.q0
      have q1 := I4.q1
      have fq0 := (hb4.frozen (p := ⟨w.heap.size, 0, none⟩) (by show w.heap.size < _; omega)).trans (HFQ.out 0)
      have fq1 := (hb4.frozen (p := ⟨w.heap.size, 1, none⟩) (by show w.heap.size < _; omega)).trans (HFQ.out 1)
      obtain ⟨W5, e5⟩ : ∃ W5, (w4.setCell ⟨w.heap.size, 0, none⟩ (.slice s1 1 k1)).setCell ⟨w.heap.size, 1, none⟩ (.slice a2 CX c2) = W5 := ⟨_, rfl⟩
      have I5 : In3 w (.slice s1 1 k1) (.slice a2 CX c2) (.slice b1 SY d1) (.slice b2 CY d2) W5 := by rw [← e5]; exact I4.setQ _ _
      have K5 : Keeps W3.heap.size w4 W5 := by rw [← e5]; exact ((Keeps.refl _ _).setCell (p := ⟨w.heap.size, 0, none⟩) (by show w.heap.size < _; omega) _).setCell (p := ⟨w.heap.size, 1, none⟩) (by show w.heap.size < _; omega) _
      have z5 : W5.heap.size = w4.heap.size := by rw [← e5]; simp
      have FR5 : ∀ i, W5.frozen? ⟨w.heap.size + 1, i, none⟩ = false := fun i => by
        rw [← e5]
        exact frozen_set _ _ _ _ (frozen_set _ _ _ _ ((hb4.frozen (p := ⟨w.heap.size + 1, i, none⟩) (by show w.heap.size + 1 < _; omega)).trans (HFR.out i)))
      have hz4 := hb4.size
      have C2 := HC2.out W5 (HB0.out.trans (I5.bel.mono HB0.out.size))
      have r0 := I5.r0
      have r1 := I5.r1
      have HI5 := hide I5
      have HK5 := hide (And.intro K5 hr1)
      have HZ5 := hide (And.intro z5 (And.intro hz4 hz3))
      have HF5 := hide FR5
      clear I4 I5 K5 hr1 hb4 hz3 z5 FR5 hz4 HC2
      go_wp2_with fail
      refine C2.mono ?_
      clear C2 e5 q0 q1 fq0 fq1 r0 r1
      rintro e w6 ⟨⟨s2, k2, rfl, hk2, hr2⟩, hb6⟩
      have hz := HZ5.out
      have I6 := HI5.out.next hb6
      have r0 := I6.r0
      have r1 := I6.r1
      have fr0 := (hb6.frozen (p := ⟨w.heap.size + 1, 0, none⟩) (by show w.heap.size + 1 < _; omega)).trans (HF5.out 0)
      have fr1 := (hb6.frozen (p := ⟨w.heap.size + 1, 1, none⟩) (by show w.heap.size + 1 < _; omega)).trans (HF5.out 1)
      obtain ⟨W7, e7⟩ : ∃ W7, (w6.setCell ⟨w.heap.size + 1, 0, none⟩ (.slice s2 1 k2)).setCell ⟨w.heap.size + 1, 1, none⟩ (.slice b2 CY d2) = W7 := ⟨_, rfl⟩
      have I7 : In3 w (.slice s1 1 k1) (.slice a2 CX c2) (.slice s2 1 k2) (.slice b2 CY d2) W7 := by rw [← e7]; exact I6.setR _ _
      have K7 : Keeps W3.heap.size w6 W7 := by rw [← e7]; exact ((Keeps.refl _ _).setCell (p := ⟨w.heap.size + 1, 0, none⟩) (by show w.heap.size + 1 < _; omega) _).setCell (p := ⟨w.heap.size + 1, 1, none⟩) (by show w.heap.size + 1 < _; omega) _
      have hNB7 := HB0.out.trans (I7.bel.mono HB0.out.size)
      have HFI : Hid (∃ s1 k1 s2 k2, In3 w (.slice s1 A.length k1) (.slice a2 CX c2) (.slice s2 B.length k2) (.slice b2 CY d2) W7 ∧ Row 0 W7 s1 A ∧ Row 0 W7 s2 B ∧ Below w0.heap.size w0 W7) := by
        rw [HRE.out.2.1, HRE.out.2.2]
        exact ⟨s1, k1, s2, k2, I7, HK5.out.2 _ hNB7 ((HK5.out.1.trans (keeps_of_below hb6)).trans K7), hr2 _ hNB7 (K7.mono (by omega)), hNB7⟩
      clear I6 I7 K7 hNB7 hr2 hb6 hz
      go_wp2
      go_meet
      exact ⟨by rw [HRE.out.1]; rfl, HFI.out⟩
    case false =>
      have h : ¬ RK = 0 := by simp at hb2'; omega
      have HFI : Hid (RK = RR ∧ ∃ s1 k1 s2 k2, In3 w (.slice s1 A.length k1) (.slice a2 CX c2) (.slice s2 B.length k2) (.slice b2 CY d2) W3 ∧ Row 0 W3 s1 A ∧ Row 0 W3 s2 B ∧ Below w0.heap.size w0 W3) := by
        have hk := HRK.out
        obtain ⟨hx1, hy1⟩ := HXYS.out.2 (by omega)
        have hsc := HSC.out
        subst hx1 hy1
        have hab := HAB.out
        rw [← hab.1, ← hab.2]
        have hr := HRR2.out
        rw [← hab.1, ← hab.2] at hr
        rw [hsc.1, hsc.2.2.1] at hr ⊢
        exact ⟨by omega, a1, c1, b1, d1, HI.out, (HRR.out.1.next HNB.out).low (Nat.zero_le _), (HRR.out.2.next HNB.out).low (Nat.zero_le _), HNB.out⟩
      clear h hA hB hRR
      go_wp2
      go_meet
      exact ⟨by rw [HFI.out.1], HFI.out.2⟩
  case rest =>
  obtain ⟨rfl, s1, k1, s2, k2, I4, RA, RB, hNB4⟩ := hcut
  clear q0 q1 r0 r1
  have hA8 : A.length ≤ 8 := by rw [← hA]; exact (chk_len HXY.out.2.2.1).1
  have hB8 : B.length ≤ 8 := by rw [← hB]; exact (chk_len HXY.out.2.2.2.1).1
  have hRR0 : 0 < RR := by have := HXY.out.2.2.2.2; rw [hA, hB] at this; omega
  have hRR8 : RR ≤ 8 := by omega
  obtain ⟨k, hk⟩ : ∃ k, joiK last X Y = k := ⟨_, rfl⟩
  have hkR : k < RR := by rw [← hk]; unfold joiK; rw [hA, hB, hRR]; split <;> omega
  have HK : Hid ((last = true → k = RR - 1) ∧ (last = false → k = 0)) := by
    rw [← hk]; unfold joiK; rw [hA, hB, hRR]
    exact ⟨fun h => by rw [h]; rfl, fun h => by rw [h]; rfl⟩
  have HKK := hide hk
  have HI4 := hide I4
  have HAR := hide (And.intro RA (And.intro RB hNB4))
  obtain ⟨W4, hW4⟩ : ∃ W4, W4 = wc := ⟨_, rfl⟩
  subst hW4
  obtain ⟨SA, hSA⟩ : ∃ SA, A.length = SA := ⟨_, rfl⟩
  obtain ⟨SB, hSB⟩ : ∃ SB, B.length = SB := ⟨_, rfl⟩
  have HS := hide (And.intro hSA hSB)
  have HMX : Hid (max SA SB = RR) := by unfold Hid; rw [← hSA, ← hSB]; exact hRR
  rw [hSA] at hA8 I4 HI4
  rw [hSB] at hB8 I4 HI4
  have q0 := I4.q0
  have q1 := I4.q1
  have r0 := I4.r0
  have r1 := I4.r1
  clear hA hB hRR hk I4 RA RB hNB4 hSA hSB hb2' hRK8 lx8 cx16 ly8 cy16 HI HNB HFQ HFR HPX HPY HRR HRK HXYS
  go_upto_if 40 with fail
  go_cut [9] from 41 to 42 (fun s wx => s = .int .i64 (k : Int) ∧ wx = W4)
  case first =>
    cases last with
    | false =>
      have H0 := hide (HK.out.2 rfl)
      go_wp2
      go_meet
      exact ⟨by rw [H0.out]; rfl, rfl⟩
    | true =>
      have H0 := hide (HK.out.1 rfl)
      go_wp2
      go_meet
      exact ⟨congrArg (Value.int .i64) (by have := H0.out; omega), rfl⟩
  case rest =>
  obtain ⟨rfl, hwc⟩ := hcut
  have hwc' := hwc.symm
  subst hwc'
  clear hwc
  obtain ⟨er, her⟩ : ∃ er : Bool, decide ((0 < SA ∧ SA < RR - 1) ∨ (0 < SB ∧ SB < RR - 1)) = er := ⟨_, rfl⟩
  have HER := hide her
  clear her
  go_upto_region 11 with fail
  go_cut [68] from 43 to 68 (fun s wx => s = .bool er ∧ wx = W4)
  case first =>
    have hm := HMX.out
    by_cases h1 : SA = 0
    · have hE : er = false := by rw [← HER.out]; exact decide_eq_false (by omega)
      have hB1 : 0 < SB := by omega
      have hB2 : (0 : Int) < (SB : Int) := by omega
      have hB3 : ¬ (SB : Int) < (RR : Int) - 1 := by omega
      subst hE
      subst h1
      clear hm
      go_wp2
      go_meet
      exact ⟨rfl, rfl⟩
    · have hA2 : (0 : Int) < (SA : Int) := by omega
      by_cases h2 : SA < RR - 1
      · have hE : er = true := by rw [← HER.out]; exact decide_eq_true (by omega)
        have hA3 : (SA : Int) < (RR : Int) - 1 := by omega
        subst hE
        clear hm h1 h2
        go_wp2
        go_meet
        exact ⟨rfl, rfl⟩
      · have hA3 : ¬ (SA : Int) < (RR : Int) - 1 := by omega
        by_cases h3 : SB = 0
        · have hE : er = false := by rw [← HER.out]; exact decide_eq_false (by omega)
          subst hE
          subst h3
          clear hm h1 h2
          go_wp2
          go_meet
          exact ⟨rfl, rfl⟩
        · have hB2 : (0 : Int) < (SB : Int) := by omega
          by_cases h4 : SB < RR - 1
          · have hE : er = true := by rw [← HER.out]; exact decide_eq_true (by omega)
            have hB3 : (SB : Int) < (RR : Int) - 1 := by omega
            subst hE
            clear hm h1 h2 h3 h4
            go_wp2
            go_meet
            exact ⟨rfl, rfl⟩
          · have hE : er = false := by rw [← HER.out]; exact decide_eq_false (by omega)
            have hB3 : ¬ (SB : Int) < (RR : Int) - 1 := by omega
            subst hE
            clear hm h1 h2 h3 h4
            go_wp2
            go_meet
            exact ⟨rfl, rfl⟩
  case rest =>
  obtain ⟨rfl, hwc⟩ := hcut
  have hwc' := hwc.symm
  subst hwc'
  clear hwc
  have HFR := hide (fitR_doc (s := A) (o := B) (k := k) (R := RR) HRR2.out.symm hkR)
  have HJ2 : Hid (joiR last x y = joiT X Y k (fitR A B k)) := by unfold Hid; rw [HJ.out, HKK.out, HAB.out.1, HAB.out.2]
  cases er
  case true =>
    have HE5 : Hid (joiR last x y = (zeroA, 6)) := by
      rw [HJ2.out, HFR.out.1 (by rw [HS.out.1, HS.out.2]; exact of_decide_eq_true HER.out)]
      rfl
    have p0 := HI4.out.p0
    have p1 := HI4.out.p1
    have f0 := HI4.out.f0
    have f1 := HI4.out.f1
    have HT := hide (HI4.out.put (.slice none 0 0) (.slice none 0 0))
    have HF : Hid (∀ u v, Gives2Z (n + 1) w0 (joiR last x y).1 (joiR last x y).2 w (.returned (.tuple #[.agg #[.slice none 0 0, .slice none 0 0], .int .i64 6])) ((W4.setCell ⟨w.heap.size + 2, 0, none⟩ u).setCell ⟨w.heap.size + 2, 1, none⟩ v)) := fun u v => gives2z_of HE5.out (fun W _ _ => zeroA_in _ _ _) (HI4.out.fin u v)
    clear HCC HE5 HFR
    go_wp2
    exact bodyPost_ret (v := .tuple #[.agg #[.slice none 0 0, .slice none 0 0], .int .i64 6]) (by simp [results, Try.results47, go_sem, HT.out.1, HT.out.2]) rfl (HF.out _ _)
  case false =>
  obtain ⟨lP, lQ, F7, F0⟩ := HFR.out.2 (by rw [HS.out.1, HS.out.2]; exact of_decide_eq_false HER.out)
  have HNE : Hid (¬ ((0 < SA ∧ SA < RR - 1) ∨ (0 < SB ∧ SB < RR - 1))) := of_decide_eq_false HER.out
  obtain ⟨rA, hrA⟩ : ∃ rA, restL A RR k = rA := ⟨_, rfl⟩
  obtain ⟨rB, hrB⟩ : ∃ rB, restL B RR k = rB := ⟨_, rfl⟩
  obtain ⟨P, hP⟩ : ∃ P, fitS A RR k rB = P := ⟨_, rfl⟩
  obtain ⟨Q, hQ⟩ : ∃ Q, fitS B RR k rA = Q := ⟨_, rfl⟩
  rw [hrA, hrB, hP, hQ] at F7 F0
  rw [hrB, hP] at lP
  rw [hrA, hQ] at lQ
  have HF := hide (And.intro F7 F0)
  have HPQ := hide (And.intro lP lQ)
  have HDEF := hide (And.intro hrA (And.intro hrB (And.intro hP hQ)))
  obtain ⟨lrA, hlrA⟩ : ∃ l, rA.length = l := ⟨_, rfl⟩
  obtain ⟨lrB, hlrB⟩ : ∃ l, rB.length = l := ⟨_, rfl⟩
  have HLR : Hid (rA.length = lrA ∧ rB.length = lrB ∧ lrA ≤ 8 ∧ lrB ≤ 8) := by
    refine ⟨hlrA, hlrB, ?_, ?_⟩
    · rw [← hlrA, ← hrA]; unfold restL; split
      · rename_i h; rw [flat_len (by omega)]; rw [HS.out.1]; omega
      · rw [HS.out.1]; exact hA8
    · rw [← hlrB, ← hrB]; unfold restL; split
      · rename_i h; rw [flat_len (by omega)]; rw [HS.out.2]; omega
      · rw [HS.out.2]; exact hB8
  clear lP lQ F7 F0 hrA hrB hP hQ hlrA hlrB HFR HER HKK HJ
  go_upto_region 13 with fail
  go_cut [10, 11] from 70 to 73 (fun s t wx => s = .slice s1 SA k1 ∧ t = .slice s2 SB k2 ∧ Below W4.heap.size W4 wx)
  case first =>
    go_region
    all_goals
      go_wp2
      go_meet
    all_goals
      case rel => exact ⟨rfl, rfl, (Below.refl _ _).drew⟩
  case rest =>
  obtain ⟨rfl, rfl, hb5⟩ := hcut
  obtain ⟨W5, hW5⟩ : ∃ W5, W5 = wc := ⟨_, rfl⟩
  subst hW5
  have I5 := HI4.out.next hb5
  have HI5 := hide I5
  have HAR5 : Hid (Row 0 W5 s1 A ∧ Row 0 W5 s2 B ∧ Below w0.heap.size w0 W5) := ⟨HAR.out.1.next hb5, HAR.out.2.1.next hb5, HB0.out.trans (I5.bel.mono HB0.out.size)⟩
  clear q0 q1 r0 r1
  have q0 := I5.q0
  have q1 := I5.q1
  have r0 := I5.r0
  have r1 := I5.r1
  clear I5 hb5 HI4 HAR
  obtain ⟨e1, he1⟩ : ∃ e1 : Bool, ((SA : Int) == (RR : Int)) = e1 := ⟨_, rfl⟩
  go_upto_if 78 with fail
  go_cut [10] from 79 to 82 (fun s wx => ∃ a c, s = .slice a lrA c ∧ Row 0 wx a rA ∧ Below W5.heap.size W5 wx)
  case first =>
    cases e1
    case true =>
      have h : SA = RR := by simp at he1; omega
      have C := flat_any (w := W5) A s1 k1 k HAR5.out.1 (by rw [HS.out.1]; omega) (by omega) (by rw [HS.out.1]; omega)
      have hr : A.take k ++ A.drop (k + 1) = rA := by rw [← HDEF.out.1]; unfold restL; rw [if_pos (by rw [HS.out.1]; exact h)]; rfl
      rw [hr, HS.out.1] at C
      unfold RowIs at C
      rw [HLR.out.1] at C
      clear h hr
      go_wp2_with fail
      refine C.mono ?_
      clear C
      rintro e w6 ⟨⟨a, c, rfl, -, RF⟩, hb6⟩
      have HFI : Hid (Row 0 w6 a rA ∧ Below W5.heap.size W5 w6) := ⟨RF.low (Nat.zero_le _), hb6⟩
      clear RF hb6
      go_wp2
      go_meet
      exact ⟨_, _, rfl, HFI.out⟩
    case false =>
      have h : ¬ SA = RR := by simp at he1; omega
      have HFI : Hid (SA = lrA ∧ Row 0 W5 s1 rA) := by
        have e : rA = A := by rw [← HDEF.out.1]; unfold restL; rw [if_neg (by rw [HS.out.1]; exact h)]
        rw [← HLR.out.1, e]
        exact ⟨HS.out.1.symm, HAR5.out.1⟩
      clear h
      go_wp2
      go_meet
      exact ⟨_, _, by rw [HFI.out.1], HFI.out.2, Below.refl _ _⟩
  case rest =>
  obtain ⟨ra, ca, rfl, RRA, hb6⟩ := hcut
  obtain ⟨W6, hW6⟩ : ∃ W6, W6 = wc := ⟨_, rfl⟩
  subst hW6
  have I6 := HI5.out.next hb6
  have HI6 := hide I6
  have HAR6 : Hid (Row 0 W6 s1 A ∧ Row 0 W6 s2 B ∧ Below w0.heap.size w0 W6 ∧ Row 0 W6 ra rA) := ⟨HAR5.out.1.next hb6, HAR5.out.2.1.next hb6, HB0.out.trans (I6.bel.mono HB0.out.size), RRA⟩
  clear q0 q1 r0 r1
  have q0 := I6.q0
  have q1 := I6.q1
  have r0 := I6.r0
  have r1 := I6.r1
  clear I6 hb6 HI5 HAR5 RRA he1
  obtain ⟨e2, he2⟩ : ∃ e2 : Bool, ((SB : Int) == (RR : Int)) = e2 := ⟨_, rfl⟩
  go_upto_if 87 with fail
  go_cut [11] from 88 to 91 (fun s wx => ∃ a c, s = .slice a lrB c ∧ Row 0 wx a rB ∧ Below W6.heap.size W6 wx)
  case first =>
    cases e2
    case true =>
      have h : SB = RR := by simp at he2; omega
      have C := flat_any (w := W6) B s2 k2 k HAR6.out.2.1 (by rw [HS.out.2]; omega) (by omega) (by rw [HS.out.2]; omega)
      have hr : B.take k ++ B.drop (k + 1) = rB := by rw [← HDEF.out.2.1]; unfold restL; rw [if_pos (by rw [HS.out.2]; exact h)]; rfl
      rw [hr, HS.out.2] at C
      unfold RowIs at C
      rw [HLR.out.2.1] at C
      clear h hr
      go_wp2_with fail
      refine C.mono ?_
      clear C
      rintro e w6 ⟨⟨a, c, rfl, -, RF⟩, hb6⟩
      have HFI : Hid (Row 0 w6 a rB ∧ Below W6.heap.size W6 w6) := ⟨RF.low (Nat.zero_le _), hb6⟩
      clear RF hb6
      go_wp2
      go_meet
      exact ⟨_, _, rfl, HFI.out⟩
    case false =>
      have h : ¬ SB = RR := by simp at he2; omega
      have HFI : Hid (SB = lrB ∧ Row 0 W6 s2 rB) := by
        have e : rB = B := by rw [← HDEF.out.2.1]; unfold restL; rw [if_neg (by rw [HS.out.2]; exact h)]
        rw [← HLR.out.2.1, e]
        exact ⟨HS.out.2.symm, HAR6.out.2.1⟩
      clear h
      go_wp2
      go_meet
      exact ⟨_, _, by rw [HFI.out.1], HFI.out.2, Below.refl _ _⟩
  case rest =>
  obtain ⟨rb, cb, rfl, RRB, hb7⟩ := hcut
  obtain ⟨W7, hW7⟩ : ∃ W7, W7 = wc := ⟨_, rfl⟩
  subst hW7
  have I7 := HI6.out.next hb7
  have HI7 := hide I7
  have HAR7 : Hid (Row 0 W7 s1 A ∧ Row 0 W7 s2 B ∧ Below w0.heap.size w0 W7 ∧ Row 0 W7 ra rA ∧ Row 0 W7 rb rB) := ⟨HAR6.out.1.next hb7, HAR6.out.2.1.next hb7, HB0.out.trans (I7.bel.mono HB0.out.size), HAR6.out.2.2.2.next hb7, RRB⟩
  clear q0 q1 r0 r1
  have q0 := I7.q0
  have q1 := I7.q1
  have r0 := I7.r0
  have r1 := I7.r1
  clear I7 hb7 HI6 HAR6 RRB he2
  obtain ⟨NB, hNB, hNB16⟩ := sizeV_nat rB
  obtain ⟨NA, hNA, hNA16⟩ := sizeV_nat rA
  obtain ⟨CX2, hCX2⟩ : ∃ l, (cinL SA x.cells NB).length = l := ⟨_, rfl⟩
  obtain ⟨CY2, hCY2⟩ : ∃ l, (cinL SB y.cells NA).length = l := ⟨_, rfl⟩
  have hcl := HSC.out
  have hxy := HXY.out
  have hm := HMX.out
  have hne := HNE.out
  have hatX : SA = 0 → CX = 1 := fun h => by
    have := (atom_one hxy.2.2.1 (by rw [HAB.out.1, HS.out.1]; exact h)).2
    rw [hxy.1, hcl.2.1] at this; exact this
  have hatY : SB = 0 → CY = 1 := fun h => by
    have := (atom_one hxy.2.2.2.1 (by rw [HAB.out.2, HS.out.2]; exact h)).2
    rw [hxy.2.1, hcl.2.2.2] at this; exact this
  have hCX16 : CX ≤ 16384 := by have := (chk_len hxy.2.2.1).2; rw [hxy.1, hcl.2.1] at this; exact this
  have hCY16 : CY ≤ 16384 := by have := (chk_len hxy.2.2.2.1).2; rw [hxy.2.1, hcl.2.2.2] at this; exact this
  have hrBl : ¬ SA = RR → ¬ 0 < SA → k ≤ lrB := fun h1 h2 => by
    have e : rB = flatL B k := by rw [← HDEF.out.2.1]; unfold restL; rw [if_pos (by rw [HS.out.2]; omega)]
    have := flat_len (o := B) (k := k) (by rw [HS.out.2]; omega)
    rw [← e, HLR.out.2.1, HS.out.2] at this
    omega
  have hrAl : ¬ SB = RR → ¬ 0 < SB → k ≤ lrA := fun h1 h2 => by
    have e : rA = flatL A k := by rw [← HDEF.out.1]; unfold restL; rw [if_pos (by rw [HS.out.1]; omega)]
    have := flat_len (o := A) (k := k) (by rw [HS.out.1]; omega)
    rw [← e, HLR.out.1, HS.out.1] at this
    omega
  have C1 := rfit_at (n := n) (w := W7) (c1 := k1) (cr := cb) (rank := RR) (k := k) HAR7.out.1 HCC.out.1 HAR7.out.2.2.1 HS.out.1 hcl.2.1 hA8 hCX16 HCC.out.2.2.1 hatX HAR7.out.2.2.2.2 HLR.out.2.1 HLR.out.2.2.2 (by omega) hRR8 (fun h1 h2 => by omega) hrBl hNB hNB16 hRR0 HDEF.out.2.2.1 HPQ.out.1 hCX2
  have HC2 : Hid (∀ W, Below W7.heap.size W7 W → Calls Try.prog 83 #[.agg #[.slice s2 SB k2, .slice b2 CY d2], .int .i64 (RR : Int), .int .i64 (k : Int), .slice ra lrA ca] W fun e w' => (∃ s1 kc a3 c3, e = .returned (.agg #[.slice s1 RR kc, .slice a3 CY2 c3]) ∧ Row 0 w' s1 Q ∧ CinP n lo' w0 w' (cinL SB y.cells NA) a3 CY2 c3) ∧ Below W.heap.size W w') := fun W hW =>
    rfit_at (n := n) (w := W) (c1 := k2) (cr := ca) (rank := RR) (k := k) (HAR7.out.2.1.next hW) HCC.out.2.1 (HAR7.out.2.2.1.trans (hW.mono HAR7.out.2.2.1.size)) HS.out.2 hcl.2.2.2 hB8 hCY16 HCC.out.2.2.2 hatY (HAR7.out.2.2.2.1.next hW) HLR.out.1 HLR.out.2.2.1 (by omega) hRR8 (fun h1 h2 => by omega) hrAl hNA hNA16 hRR0 HDEF.out.2.2.2 HPQ.out.2 hCY2
  have HNN := hide (And.intro hNB hNA)
  have HCL2 := hide (And.intro hCX2 hCY2)
  clear hcl hxy hm hne hatX hatY hrBl hrAl hCX2 hCY2 hNB hNA hNB16 hNA16
  go_wp2_with fail
  refine C1.mono ?_
  clear C1
  rintro e w8 ⟨⟨px, kx, xa, xc, rfl, RP, CPX⟩, hb8⟩
  obtain ⟨OX, hOX⟩ : ∃ O, w8.heap.size = O := ⟨_, rfl⟩
  obtain ⟨W8, e8⟩ : ∃ W8, w8.alloc (.cells #[.slice px RR kx, .slice xa CX2 xc] 25) = W8 := ⟨_, rfl⟩
  have z8 : W8.heap.size = OX + 1 := by rw [← e8]; simp [hOX]
  have B8 : Below w8.heap.size w8 W8 := by rw [← e8]; exact one_alloc _ _
  have o0 : W8.cell? ⟨OX, 0, none⟩ = some (.slice px RR kx) := by rw [← e8, ← hOX]; exact cell_new0 _ _ 25 0 _ rfl
  have o1 : W8.cell? ⟨OX, 1, none⟩ = some (.slice xa CX2 xc) := by rw [← e8, ← hOX]; exact cell_new0 _ _ 25 1 _ rfl
  have B78 : Below W7.heap.size W7 W8 := hb8.trans (B8.mono hb8.size)
  have I8 := HI7.out.next B78
  have HXF : Hid (Row 0 W8 px P ∧ CinP n lo w0 W8 (cinL SA x.cells NB) xa CX2 xc ∧ OX < W8.heap.size ∧ W8.cell? ⟨OX, 0, none⟩ = some (.slice px RR kx) ∧ W8.cell? ⟨OX, 1, none⟩ = some (.slice xa CX2 xc)) := ⟨RP.next B8, CPX.next B8, by omega, o0, o1⟩
  have HE8 := hide (And.intro e8 hOX)
  have HI8 := hide I8
  have C2 := HC2.out W8 B78
  have hB8s := hide B78
  clear RP CPX hb8 e8 hOX z8 B8 B78 I8 o0 o1 q0 q1 HC2 r0 r1
  go_upto_region 19 with fail
  rw [HE8.out.1, HE8.out.2]
  clear HE8
  have r0 := HI8.out.r0
  have r1 := HI8.out.r1
  go_wp2_with fail
  refine C2.mono ?_
  clear C2
  rintro e w9 ⟨⟨py, ky, ya, yc, rfl, RQ, CPY⟩, hb9⟩
  obtain ⟨OY, hOY⟩ : ∃ O, w9.heap.size = O := ⟨_, rfl⟩
  obtain ⟨W9, e9⟩ : ∃ W9, w9.alloc (.cells #[.slice py RR ky, .slice ya CY2 yc] 25) = W9 := ⟨_, rfl⟩
  have z9 : W9.heap.size = OY + 1 := by rw [← e9]; simp [hOY]
  have B9 : Below w9.heap.size w9 W9 := by rw [← e9]; exact one_alloc _ _
  have o0 : W9.cell? ⟨OY, 0, none⟩ = some (.slice py RR ky) := by rw [← e9, ← hOY]; exact cell_new0 _ _ 25 0 _ rfl
  have o1 : W9.cell? ⟨OY, 1, none⟩ = some (.slice ya CY2 yc) := by rw [← e9, ← hOY]; exact cell_new0 _ _ 25 1 _ rfl
  have B89 : Below W8.heap.size W8 W9 := hb9.trans (B9.mono hb9.size)
  have HI9 := hide (HI8.out.next B89)
  have hxf := HXF.out
  have HV : Hid (Row 0 W9 px P ∧ CinP n lo w0 W9 (cinL SA x.cells NB) xa CX2 xc ∧ OX < W9.heap.size ∧ W9.cell? ⟨OX, 0, none⟩ = some (.slice px RR kx) ∧ W9.cell? ⟨OX, 1, none⟩ = some (.slice xa CX2 xc) ∧
      Row 0 W9 py Q ∧ CinP n lo' w0 W9 (cinL SB y.cells NA) ya CY2 yc ∧ OY < W9.heap.size ∧ W9.cell? ⟨OY, 0, none⟩ = some (.slice py RR ky) ∧ W9.cell? ⟨OY, 1, none⟩ = some (.slice ya CY2 yc)) :=
    ⟨hxf.1.next B89, hxf.2.1.next B89, Nat.lt_of_lt_of_le hxf.2.2.1 B89.size, (B89.cell (p := ⟨OX, 0, none⟩) hxf.2.2.1).trans hxf.2.2.2.1, (B89.cell (p := ⟨OX, 1, none⟩) hxf.2.2.1).trans hxf.2.2.2.2, RQ.next B9, CPY.next B9, by omega, o0, o1⟩
  have HE9 := hide (And.intro e9 hOY)
  clear RQ CPY hb9 e9 hOY z9 B9 B89 o0 o1 r0 r1 hxf HXF HI8 HI7 HAR7 hB8s
  go_upto_region 20 with fail
  rw [HE9.out.1, HE9.out.2]
  clear HE9
  have o0 := HV.out.2.2.2.1
  have o1 := HV.out.2.2.2.2.2.2.2.2.1
  obtain ⟨LF, hLF⟩ : ∃ l, (flatL P k).length = l := ⟨_, rfl⟩
  have hLF2 : LF = RR - 1 := by rw [← hLF, flat_len (by rw [HPQ.out.1]; exact hkR), HPQ.out.1]
  have hLQ : (flatL Q k).length = LF := by rw [hLF2, flat_len (by rw [HPQ.out.2]; exact hkR), HPQ.out.2]
  have CF1 : Hid (∀ W, Below W9.heap.size W9 W → Calls Try.prog 82 #[.slice px RR kx, .int .i64 (k : Int)] W fun e w' => (∃ a c, e = .returned (.slice a LF c) ∧ Row 0 w' a (flatL P k)) ∧ Below W9.heap.size W9 w' ∧ Below W.heap.size W w') := fun W hW => by
    have C := flat_any (w := W) P px kx k (HV.out.1.next hW) (by rw [HPQ.out.1]; omega) (by omega) (by rw [HPQ.out.1]; exact hkR)
    rw [HPQ.out.1] at C
    refine C.mono ?_
    rintro e w' ⟨⟨a, c, rfl, -, R⟩, hb⟩
    refine ⟨⟨a, c, ?_, R.low (Nat.zero_le _)⟩, hW.trans (hb.mono hW.size), hb⟩
    rw [show (P.take k ++ P.drop (k + 1)).length = LF from hLF]
  have CF2 : Hid (∀ W, Below W9.heap.size W9 W → Calls Try.prog 82 #[.slice py RR ky, .int .i64 (k : Int)] W fun e w' => (∃ a c, e = .returned (.slice a LF c) ∧ Row 0 w' a (flatL Q k)) ∧ Below W9.heap.size W9 w' ∧ Below W.heap.size W w') := fun W hW => by
    have C := flat_any (w := W) Q py ky k (HV.out.2.2.2.2.2.1.next hW) (by rw [HPQ.out.2]; omega) (by omega) (by rw [HPQ.out.2]; exact hkR)
    rw [HPQ.out.2] at C
    refine C.mono ?_
    rintro e w' ⟨⟨a, c, rfl, -, R⟩, hb⟩
    refine ⟨⟨a, c, ?_, R.low (Nat.zero_le _)⟩, hW.trans (hb.mono hW.size), hb⟩
    rw [show (Q.take k ++ Q.drop (k + 1)).length = LF from hLQ]
  obtain ⟨bq, hbq⟩ : ∃ bq, decide (flatL P k = flatL Q k) = bq := ⟨_, rfl⟩
  have HBQ := hide hbq
  have CI : Hid (∀ W a c a' c', Row 0 W a (flatL P k) → Row 0 W a' (flatL Q k) → Below W9.heap.size W9 W → Calls Try.prog 84 #[.slice a LF c, .slice a' LF c'] W fun e w' => e = .returned (.bool bq) ∧ Below W9.heap.size W9 w') := fun W a c a' c' h1 h2 hW => by
    have C := rints_all (flatL P k) (flatL Q k) a a' c c' W h1 h2
    rw [hLF, hLQ, hbq] at C
    refine C.mono ?_
    rintro e w' ⟨rfl, hb⟩
    exact ⟨rfl, hW.trans (hb.mono hW.size)⟩
  have HLF := hide (And.intro hLF (And.intro hLF2 hLQ))
  clear hLF hLF2 hLQ hbq
  have KS : Hid (∀ W, Below W9.heap.size W9 W → (Below W9.heap.size W9 W ∧ W.cell? ⟨OX, 0, none⟩ = some (.slice px RR kx) ∧ W.cell? ⟨OY, 0, none⟩ = some (.slice py RR ky))) := fun W h => ⟨h, (h.cell (p := ⟨OX, 0, none⟩) HV.out.2.2.1).trans HV.out.2.2.2.1, (h.cell (p := ⟨OY, 0, none⟩) HV.out.2.2.2.2.2.2.2.1).trans HV.out.2.2.2.2.2.2.2.2.1⟩
  go_cut [111] from 102 to 111 (fun s wx => s = .bool (!bq) ∧ Below W9.heap.size W9 wx)
  case first =>
    have HD0 : Hid (Below W9.heap.size W9 W9.drew) := (Below.refl _ _).drew
    go_region_held3 (fun W => Below W9.heap.size W9 W ∧ W.cell? ⟨OX, 0, none⟩ = some (.slice px RR kx) ∧ W.cell? ⟨OY, 0, none⟩ = some (.slice py RR ky))
      (first | with_reducible exact KS.out _ HD0.out | with_reducible exact KS.out _ (by with_reducible assumption))
      (first
        | (go_at_call 82; first
            | ((with_reducible refine (CF1.out _ HD0.out).mono ?_); rintro e w4 ⟨⟨f1, g1, rfl, R1⟩, h4, hb4⟩; clear hb4)
            | ((with_reducible refine (CF2.out _ HD0.out).mono ?_); rintro e w4 ⟨⟨f2, g2, rfl, R2⟩, h4, hb4⟩; clear hb4)
            | ((with_reducible refine (CF2.out _ h4).mono ?_); rintro e w5 ⟨⟨f2, g2, rfl, R2⟩, h5, hb5⟩; have R1' := R1.next hb5; clear hb5)
            | ((with_reducible refine (CF1.out _ h4).mono ?_); rintro e w5 ⟨⟨f1, g1, rfl, R1'⟩, h5, hb5⟩; have R2' := R2.next hb5; clear hb5))
        | (go_at_call 84; first
            | ((with_reducible refine (CI.out w5 f1 g1 f2 g2 R1' R2 h5).mono ?_); rintro e w6 ⟨rfl, h6⟩)
            | ((with_reducible refine (CI.out w5 f1 g1 f2 g2 R1' R2' h5).mono ?_); rintro e w6 ⟨rfl, h6⟩)))
    all_goals
      go_wp2
      go_meet
    all_goals
      case rel => exact ⟨rfl, h6⟩
  case rest =>
  obtain ⟨rfl, hb10⟩ := hcut
  obtain ⟨W10, hW10⟩ : ∃ W10, W10 = wc := ⟨_, rfl⟩
  subst hW10
  have HI10 := hide (HI9.out.next hb10)
  cases bq
  case false =>
    have HE5 : Hid (joiR last x y = (zeroA, 7)) := by
      unfold Hid
      rw [HJ2.out, HF.out.1 (of_decide_eq_false HBQ.out)]
      rfl
    have p0 := HI10.out.p0
    have p1 := HI10.out.p1
    have f0 := HI10.out.f0
    have f1 := HI10.out.f1
    have HT := hide (HI10.out.put (.slice none 0 0) (.slice none 0 0))
    have HFF : Hid (∀ u v, Gives2Z (n + 1) w0 (joiR last x y).1 (joiR last x y).2 w (.returned (.tuple #[.agg #[.slice none 0 0, .slice none 0 0], .int .i64 7])) ((W10.setCell ⟨w.heap.size + 2, 0, none⟩ u).setCell ⟨w.heap.size + 2, 1, none⟩ v)) := fun u v => gives2z_of HE5.out (fun W _ _ => zeroA_in _ _ _) (HI10.out.fin u v)
    clear HCC HE5 HF CF1 CF2 CI KS HV
    go_wp2
    exact bodyPost_ret (v := .tuple #[.agg #[.slice none 0 0, .slice none 0 0], .int .i64 7]) (by simp [results, Try.results47, go_sem, HT.out.1, HT.out.2]) rfl (HFF.out _ _)
  case true =>
  have F0 := HF.out.2 (of_decide_eq_true HBQ.out)
  obtain ⟨bP, bQ, -, -, -⟩ := fit_ok F0
  have hP16 : ∀ z ∈ P, 0 ≤ z ∧ z ≤ 16384 := fun z hz => by
    rcases bes_mem bP hz with h | h | h
    · rw [← HAB.out.1] at h; exact (chk_axes HXY.out.2.2.1).1 z h
    · rw [← HAB.out.2] at h; exact (chk_axes HXY.out.2.2.2.1).1 z h
    · omega
  have hQ16 : ∀ z ∈ Q, 0 ≤ z ∧ z ≤ 16384 := fun z hz => by
    rcases bes_mem bQ hz with h | h | h
    · rw [← HAB.out.2] at h; exact (chk_axes HXY.out.2.2.2.1).1 z h
    · rw [← HAB.out.1] at h; exact (chk_axes HXY.out.2.2.1).1 z h
    · omega
  have hpP := hP16 _ (getD_mem (l := P) (k := k) (by rw [HPQ.out.1]; exact hkR))
  have hqQ := hQ16 _ (getD_mem (l := Q) (k := k) (by rw [HPQ.out.2]; exact hkR))
  change 0 ≤ gI P k ∧ gI P k ≤ 16384 at hpP
  change 0 ≤ gI Q k ∧ gI Q k ≤ 16384 at hqQ
  have HCX : Hid (cinL SA x.cells NB = cinL SA x.cells (sizeV P).toNat ∧ cinL SB y.cells NA = cinL SB y.cells (sizeV Q).toNat) := by
    have h1 := HS.out
    have h2 := HRR2.out
    refine ⟨?_, ?_⟩
    · rw [← h1.1]
      exact cin_rest x.cells (by rw [h1.2]; exact hB8) h2.symm hkR bP (by rw [HDEF.out.2.1]; exact HNN.out.1)
    · rw [← h1.2]
      exact cin_rest y.cells (by rw [h1.1]; exact hA8) (by omega) hkR bQ (by rw [HDEF.out.1]; exact HNN.out.2)
  obtain ⟨gp, hgp⟩ : ∃ z, gI P k = z := ⟨_, rfl⟩
  obtain ⟨gq, hgq⟩ : ∃ z, gI Q k = z := ⟨_, rfl⟩
  obtain ⟨V, hV⟩ : ∃ V, gp + gq = V := ⟨_, rfl⟩
  obtain ⟨S, hS⟩ : ∃ S, P.set k V = S := ⟨_, rfl⟩
  rw [hgp] at hpP
  rw [hgq] at hqQ
  have hwr : IntKind.i64.wrap (gp + gq) = V := by rw [← hV]; exact IntWalk.i64_in _ ⟨by omega, by omega⟩
  have HG := hide (And.intro hgp (And.intro hgq (And.intro hV hS)))
  have HSL : Hid (S.length = RR ∧ (∀ z ∈ S, 0 ≤ z) ∧ gI S k = V) := by
    refine ⟨by rw [← hS, List.length_set, HPQ.out.1], fun z hz => ?_, ?_⟩
    · rw [← hS] at hz
      rcases List.mem_or_eq_of_mem_set hz with h | h
      · exact (hP16 z h).1
      · omega
    · rw [← hS, gI_set _ _ _ _ (by rw [HPQ.out.1]; exact hkR), if_pos rfl]
  have HF0 := hide F0
  have HV10 : Hid (Row 0 W10 px P ∧ CinP n lo w0 W10 (cinL SA x.cells NB) xa CX2 xc ∧ OX < W10.heap.size ∧ W10.cell? ⟨OX, 0, none⟩ = some (.slice px RR kx) ∧ W10.cell? ⟨OX, 1, none⟩ = some (.slice xa CX2 xc) ∧
      Row 0 W10 py Q ∧ CinP n lo' w0 W10 (cinL SB y.cells NA) ya CY2 yc ∧ OY < W10.heap.size ∧ W10.cell? ⟨OY, 0, none⟩ = some (.slice py RR ky) ∧ W10.cell? ⟨OY, 1, none⟩ = some (.slice ya CY2 yc)) := by
    obtain ⟨v1, v2, v3, v4, v5, v6, v7, v8, v9, v10⟩ := HV.out
    exact ⟨v1.next hb10, v2.next hb10, Nat.lt_of_lt_of_le v3 hb10.size, (hb10.cell (p := ⟨OX, 0, none⟩) v3).trans v4, (hb10.cell (p := ⟨OX, 1, none⟩) v3).trans v5, v6.next hb10, v7.next hb10, Nat.lt_of_lt_of_le v8 hb10.size, (hb10.cell (p := ⟨OY, 0, none⟩) v8).trans v9, (hb10.cell (p := ⟨OY, 1, none⟩) v8).trans v10⟩
  obtain ⟨pb, po, rfl, hpb, hpc⟩ := row_at HV10.out.1 (j := k) (by rw [HPQ.out.1]; exact hkR)
  obtain ⟨qb, qo, rfl, hqb, hqc⟩ := row_at HV10.out.2.2.2.2.2.1 (j := k) (by rw [HPQ.out.2]; exact hkR)
  have ep : P[k]?.getD 0 = gp := hgp
  have eq' : Q[k]?.getD 0 = gq := hgq
  rw [ep] at hpc
  rw [eq'] at hqc
  have CF : Hid (∀ W, Below W10.heap.size W10 W → Calls Try.prog 82 #[.slice (some ⟨pb, po, none⟩) RR kx, .int .i64 (k : Int)] W fun e w' => (∃ a c, e = .returned (.slice a LF c) ∧ Row 0 w' a (flatL P k)) ∧ Below W10.heap.size W10 w' ∧ Below W.heap.size W w') := fun W hW => by
    have C := flat_any (w := W) P (some ⟨pb, po, none⟩) kx k (HV10.out.1.next hW) (by rw [HPQ.out.1]; omega) (by omega) (by rw [HPQ.out.1]; exact hkR)
    rw [HPQ.out.1] at C
    refine C.mono ?_
    rintro e w' ⟨⟨a, c, rfl, -, R⟩, hb⟩
    refine ⟨⟨a, c, ?_, R.low (Nat.zero_le _)⟩, hW.trans (hb.mono hW.size), hb⟩
    rw [show (P.take k ++ P.drop (k + 1)).length = LF from HLF.out.1]
  have CW : Hid (∀ W a c, Row 0 W a (flatL P k) → Below W10.heap.size W10 W → Calls Try.prog 85 #[.slice a LF c, .int .i64 (k : Int), .int .i64 V] W fun e w' => (∃ sz kz, e = .returned (.slice sz RR kz) ∧ Row W.heap.size w' sz S) ∧ Below W10.heap.size W10 w' ∧ Below W.heap.size W w') := fun W a c hr hW => by
    have hl := HLF.out
    have C := wide_any (w := W) (flatL P k) a c k V hr (by omega) (by omega) (by omega)
    rw [flat_wide (by rw [HPQ.out.1]; exact hkR), hS] at C
    unfold RowIs at C
    rw [HSL.out.1, hl.1] at C
    refine C.mono ?_
    rintro e w' ⟨⟨a, c, rfl, -, R⟩, hb⟩
    exact ⟨⟨a, c, rfl, R⟩, hW.trans (hb.mono hW.size), hb⟩
  have KS2 : Hid (∀ W, Below W10.heap.size W10 W → (Below W10.heap.size W10 W ∧ W.cell? ⟨OX, 0, none⟩ = some (.slice (some ⟨pb, po, none⟩) RR kx) ∧ W.cell? ⟨OY, 0, none⟩ = some (.slice (some ⟨qb, qo, none⟩) RR ky) ∧ W.cell? ⟨pb, po + k, none⟩ = some (.int .i64 gp) ∧ W.cell? ⟨qb, qo + k, none⟩ = some (.int .i64 gq))) := fun W h => ⟨h, (h.cell (p := ⟨OX, 0, none⟩) HV10.out.2.2.1).trans HV10.out.2.2.2.1, (h.cell (p := ⟨OY, 0, none⟩) HV10.out.2.2.2.2.2.2.2.1).trans HV10.out.2.2.2.2.2.2.2.2.1, (h.cell (p := ⟨pb, po + k, none⟩) hpb).trans hpc, (h.cell (p := ⟨qb, qo + k, none⟩) hqb).trans hqc⟩
  have hkz : (k : Int) < (RR : Int) := by omega
  have HBD := hide (And.intro hpP hqQ)
  clear F0 bP bQ hP16 hQ16 hgp hgq hV hS ep eq' hpc hqc hpb hqb CF1 CF2 CI KS o0 o1 HV HI9 hb10 hpP hqQ
  go_upto_region 22 with fail
  go_cut [14] from 113 to 130 (fun s wx => ∃ B sz kz, s = .pointer (some ⟨B, 0, none⟩) ∧ OutV W10 wx B sz RR kz S)
  case first =>
    have HD0 : Hid (Below W10.heap.size W10 W10.drew) := (Below.refl _ _).drew
    have HD1 : Hid (Below W10.heap.size W10 (W10.alloc (.cells #[.slice none 0 0, .slice none 0 0] 25)).drew) := (one_alloc _ _).drew
    have HD2 : Hid (Below W10.heap.size W10 (W10.drew.alloc (.cells #[.slice none 0 0, .slice none 0 0] 25))) := (Below.refl _ _).drew.alloc (Nat.le_refl _) _
    have HAL : Hid (∀ W o, Below W10.heap.size W10 W → Below W10.heap.size W10 (W.alloc o)) := fun W o h => h.alloc h.size o
    have HSET : Hid (∀ W b u v, Below W10.heap.size W10 W → W10.heap.size ≤ b → Below W10.heap.size W10 ((W.setCell ⟨b, 0, none⟩ u).setCell ⟨b, 1, none⟩ v)) := fun W b u v h hb => (h.setCell (p := ⟨b, 0, none⟩) hb u).setCell (p := ⟨b, 1, none⟩) hb v
    have HLE : Hid (W10.heap.size ≤ W10.heap.size) := Nat.le_refl _
    go_region_held3 (fun W => Below W10.heap.size W10 W ∧ W.cell? ⟨OX, 0, none⟩ = some (.slice (some ⟨pb, po, none⟩) RR kx) ∧ W.cell? ⟨OY, 0, none⟩ = some (.slice (some ⟨qb, qo, none⟩) RR ky) ∧ W.cell? ⟨pb, po + k, none⟩ = some (.int .i64 gp) ∧ W.cell? ⟨qb, qo + k, none⟩ = some (.int .i64 gq))
      (first | with_reducible exact KS2.out _ HD0.out | with_reducible exact KS2.out _ HD1.out | with_reducible exact KS2.out _ HD2.out | with_reducible exact KS2.out _ (by with_reducible assumption) | with_reducible exact KS2.out _ (HAL.out _ _ (by with_reducible assumption)) | with_reducible exact KS2.out _ (HSET.out _ _ _ _ (by with_reducible assumption) (by with_reducible assumption)) | with_reducible exact KS2.out _ (HSET.out _ _ _ _ (by with_reducible assumption) HLE.out))
      (first
        | (go_at_call 82; first
            | ((with_reducible refine (CF.out _ HD0.out).mono ?_); rintro e w4 ⟨⟨y1, n1, rfl, hy⟩, g4, hb4⟩; have s4 := g4.size; clear hb4)
            | ((with_reducible refine (CF.out _ HD1.out).mono ?_); rintro e w4 ⟨⟨y1, n1, rfl, hy⟩, g4, hb4⟩; have t4 := (Zb.new W10).drew.next hb4; clear hb4)
            | ((with_reducible refine (CF.out _ HD2.out).mono ?_); rintro e w4 ⟨⟨y1, n1, rfl, hy⟩, g4, hb4⟩; have t4 := (Zb.new W10.drew).next hb4; clear hb4))
        | (go_at_call 85; first
            | ((with_reducible refine (CW.out w4 y1 n1 hy g4).mono ?_); rintro e w5 ⟨⟨z1, l1, rfl, hz⟩, g5, hb5⟩; first | (obtain ⟨k0, k1', k2', k3, -⟩ := t4.next hb5) | skip)
            | ((with_reducible refine (CW.out (w4.alloc (.cells #[.slice none 0 0, .slice none 0 0] 25)) y1 n1 (hy.next (one_alloc _ _)) (g4.alloc g4.size _)).mono ?_); rintro e w5 ⟨⟨z1, l1, rfl, hz⟩, g5, hb5⟩; obtain ⟨k0, k1', k2', k3, -⟩ := (Zb.new w4).next hb5)))
    all_goals
      go_wp2
      go_meet
    all_goals
      case rel =>
        first
          | exact ⟨_, _, _, rfl, out_new g4.size g5 hz⟩
          | exact ⟨_, _, _, rfl, out_old (Zb.new w4) g4.size g5 hb5 hz⟩
          | exact ⟨_, _, _, rfl, out_old t4 (Nat.le_refl _) g5 hb5 hz⟩
  case rest =>
  obtain ⟨O, sz, kz, rfl, OV⟩ := hcut
  obtain ⟨W11, hW11⟩ : ∃ W11, W11 = wc := ⟨_, rfl⟩
  subst hW11
  have HOV := hide OV
  have HI11 := hide (HI10.out.next OV.bel)
  have o0 := OV.c0
  have RS0 := OV.row _ (KeepsBut.refl _ _ _)
  have C3 := rsize_any S sz kz W11 RS0
  rw [HSL.out.1] at C3
  have HJT : Hid (joiR last x y = if ¬ sizeE S = 0 then (zeroA, sizeE S) else if 16384 < V then (zeroA, 12) else if sizeV S = 0 then (.mk S [], 0) else (.mk S (joiC X Y P Q k), 0)) := by
    unfold Hid
    obtain ⟨h1, h2, h3, h4⟩ := HG.out
    rw [HJ2.out, HF0.out]
    unfold joiT
    simp only [h1, h2, h3, h4]
    rw [if_neg (by simp)]
  obtain ⟨zb, zo, rfl, hzb, hzc⟩ := row_at RS0 (j := k) (by rw [HSL.out.1]; exact hkR)
  have ez : S[k]?.getD 0 = V := HSL.out.2.2
  rw [ez] at hzc
  clear OV RS0 hzb ez hwr CF CW KS2
  by_cases hsN : ¬ sizeE S = 0
  · have HE5 : Hid (joiR last x y = (zeroA, 12)) := by
      unfold Hid
      rw [HJT.out, if_pos hsN, sizeE_12 (by rw [HSL.out.1]; exact hRR8) HSL.out.2.1 hsN]
    have p0 := HI11.out.p0
    have p1 := HI11.out.p1
    have f0 := HI11.out.f0
    have f1 := HI11.out.f1
    have HT := hide (HI11.out.put (.slice none 0 0) (.slice none 0 0))
    have HFF : Hid (∀ u v, Gives2Z (n + 1) w0 (joiR last x y).1 (joiR last x y).2 w (.returned (.tuple #[.agg #[.slice none 0 0, .slice none 0 0], .int .i64 12])) ((W11.setCell ⟨w.heap.size + 2, 0, none⟩ u).setCell ⟨w.heap.size + 2, 1, none⟩ v)) := fun u v => gives2z_of HE5.out (fun W _ _ => zeroA_in _ _ _) (HI11.out.fin u v)
    generalize sizeE S = EE at *
    have hEb : (EE == 0) = false := by simp [hsN]
    generalize sizeV S = SV at C3
    clear HCC HE5 HJT HV10 HF HF0 hzc
    go_wp2_with fail
    refine C3.mono ?_
    clear C3
    rintro e w8' ⟨rfl, rfl⟩
    go_wp2
    exact bodyPost_ret (v := .tuple #[.agg #[.slice none 0 0, .slice none 0 0], .int .i64 12]) (by simp [results, Try.results47, go_sem, HT.out.1, HT.out.2]) rfl (HFF.out _ _)
  have hsE : sizeE S = 0 := Classical.not_not.1 hsN
  rw [hsE] at C3
  obtain ⟨N, hNv, hN16⟩ : ∃ N : Nat, sizeV S = (N : Int) ∧ N ≤ 16384 := sizeV_nat S
  rw [hNv] at C3
  have HSV := hide (And.intro hsE hNv)
  have hjt := HJT.out
  rw [if_neg hsN] at hjt
  by_cases hV16 : 16384 < V
  · have HE5 : Hid (joiR last x y = (zeroA, 12)) := by
      unfold Hid
      rw [hjt, if_pos hV16]
    have p0 := HI11.out.p0
    have p1 := HI11.out.p1
    have f0 := HI11.out.f0
    have f1 := HI11.out.f1
    have HT := hide (HI11.out.put (.slice none 0 0) (.slice none 0 0))
    have HFF : Hid (∀ u v, Gives2Z (n + 1) w0 (joiR last x y).1 (joiR last x y).2 w (.returned (.tuple #[.agg #[.slice none 0 0, .slice none 0 0], .int .i64 12])) ((W11.setCell ⟨w.heap.size + 2, 0, none⟩ u).setCell ⟨w.heap.size + 2, 1, none⟩ v)) := fun u v => gives2z_of HE5.out (fun W _ _ => zeroA_in _ _ _) (HI11.out.fin u v)
    clear HCC HE5 HJT HV10 HF HF0 hsN hsE hNv hjt
    go_wp2_with fail
    refine C3.mono ?_
    clear C3
    rintro e w8' ⟨rfl, rfl⟩
    go_wp2
    exact bodyPost_ret (v := .tuple #[.agg #[.slice none 0 0, .slice none 0 0], .int .i64 12]) (by simp [results, Try.results47, go_sem, HT.out.1, HT.out.2]) rfl (HFF.out _ _)
  rw [if_neg hV16] at hjt
  have HRES : Hid (∃ cs, joiR last x y = (.mk S cs, 0) ∧ cs.length = N ∧ ∀ t, t < N → cAt cs t = cAt (joiC X Y P Q k) t) := by
    unfold Hid
    by_cases h0 : sizeV S = 0
    · rw [if_pos h0] at hjt
      exact ⟨[], hjt, by show 0 = N; omega, fun t ht => by omega⟩
    · rw [if_neg h0] at hjt
      refine ⟨_, hjt, ?_, fun _ _ => rfl⟩
      have hF' : fitR X.shape Y.shape k = (P, Q, 0) := by rw [HAB.out.1, HAB.out.2]; exact HF0.out
      have hSS : P.set k (gI P k + gI Q k) = S := by obtain ⟨h1, h2, h3, h4⟩ := HG.out; rw [h1, h2, h3, h4]
      obtain ⟨t, p, q, d, NP, NQ, -, -, -, -, -, -, -, sP, -, sQ, -, lA, lB, sS, -⟩ := joi_facts2 HXY.out.2.2.1 HXY.out.2.2.2.1 hF' (by rw [HPQ.out.1]; exact hkR) (by rw [hSS]; exact hsE) (by rw [hSS]; exact h0)
      rw [hSS] at sS
      unfold joiC
      rw [mkCs_len, sP, sQ, Int.toNat_natCast, Int.toNat_natCast, lA, lB]
      omega
  obtain ⟨-, TX, hTX, hcX⟩ := HV10.out.2.1
  obtain ⟨-, TY, hTY, hcY⟩ := HV10.out.2.2.2.2.2.2.1
  obtain ⟨T, hT⟩ : ∃ T : Nat → Value × Value × Value, T = fun (i : Nat) => if gI (digits S (i : Int)) k < gp then TX (plcV P (digits S (i : Int))).toNat else TY (plcV Q ((digits S (i : Int)).set k (gI (digits S (i : Int)) k - gp))).toNat := ⟨_, rfl⟩
  obtain ⟨pn, hpn⟩ : ∃ pn : Nat, gp = (pn : Int) := ⟨gp.toNat, by have := HBD.out; omega⟩
  subst hpn
  have hpn16 : pn ≤ 16384 := by have := HBD.out; omega
  have HSEL : Hid (∀ t, t < N → ∃ a : Nat, gI (digits S (t : Int)) k = (a : Int) ∧ a ≤ 32768 ∧ CeIn (ArIn n 0 w0) 0 w0 (cAt (joiC X Y P Q k) t) (T t).1 (T t).2.1 (T t).2.2 ∧
      (a < pn → ∃ r : Nat, plcV P (digits S (t : Int)) = (r : Int) ∧ r < CX2 ∧ T t = TX r) ∧ (¬ a < pn → ∃ r : Nat, plcV Q ((digits S (t : Int)).set k ((a - pn : Nat) : Int)) = (r : Int) ∧ r < CY2 ∧ T t = TY r)) := by
    intro t ht
    have hF' : fitR X.shape Y.shape k = (P, Q, 0) := by rw [HAB.out.1, HAB.out.2]; exact HF0.out
    obtain ⟨h1, h2, h3, h4⟩ := HG.out
    have hSS : P.set k (gI P k + gI Q k) = S := by rw [h1, h2, h3, h4]
    obtain ⟨a, p, q, hp, hq, ha, hp16, hq16, hapq, hL, hR⟩ := joi_place HXY.out.2.2.1 HXY.out.2.2.2.1 hF' (by rw [HPQ.out.1]; exact hkR) (by rw [hSS]; exact HSV.out.1) (i := t) (by rw [hSS, HSV.out.2]; omega)
    rw [hSS] at ha hL hR
    rw [HAB.out.1, HS.out.1, HXY.out.1, ← HCX.out.1, HCL2.out.1] at hL
    rw [HAB.out.2, HS.out.2, HXY.out.2.1, ← HCX.out.2, HCL2.out.2] at hR
    obtain rfl : p = pn := by omega
    have hm : ∀ {lo : Nat} {c : Ce} {v0 v1 v2 : Value}, CeIn (ArIn n lo w0) lo w0 c v0 v1 v2 → CeIn (ArIn n 0 w0) 0 w0 c v0 v1 v2 := fun h => h.mono (Nat.zero_le _) (Below.refl _ _) fun x v g => g.mono (Nat.zero_le _) (Below.refl _ _)
    by_cases hap : a < p
    · obtain ⟨r, hr1, hr2, hr3⟩ := hL hap
      have hTt : T t = TX r := by
        rw [hT]; simp only [ha]
        rw [if_pos (by omega), hr1, Int.toNat_natCast]
      refine ⟨a, ha, by omega, ?_, fun _ => ⟨r, hr1, hr2, hTt⟩, fun h => absurd hap h⟩
      rw [hr3, hTt]
      exact hm (hcX r hr2)
    · obtain ⟨r, hr1, hr2, hr3⟩ := hR hap
      have hTt : T t = TY r := by
        rw [hT]; simp only [ha]
        rw [if_neg (by omega), show (a : Int) - (p : Int) = ((a - p : Nat) : Int) by omega, hr1, Int.toNat_natCast]
      refine ⟨a, ha, by omega, ?_, fun h => absurd h hap, fun _ => ⟨r, hr1, hr2, hTt⟩⟩
      rw [hr3, hTt]
      exact hm (hcY r hr2)
  have HSX := hide (And.intro hTX hTY)
  obtain ⟨i0, hi0, hz00, hz01, hz02⟩ := info33'
  have HG7 := hide (GrowC.new (T := T) HOV.out.c0 HOV.out.c1 HOV.out.f1)
  have hC16 : CX2 ≤ 16384 ∧ CY2 ≤ 16384 := by
    rw [← HCL2.out.1, ← HCL2.out.2]
    have h1 := HSC.out
    refine ⟨?_, ?_⟩
    · unfold cinL; split
      · rw [h1.2.1]; exact hCX16
      · rw [List.length_replicate]; obtain ⟨m, hm, hm2⟩ := sizeV_nat rB; have := HNN.out.1; omega
    · unfold cinL; split
      · rw [h1.2.2.2]; exact hCY16
      · rw [List.length_replicate]; obtain ⟨m, hm, hm2⟩ := sizeV_nat rA; have := HNN.out.2; omega
  clear hTX hTY hcX hcY hT hjt hsN hsE hNv HJT
  go_wp2_with fail
  refine C3.mono ?_
  clear C3
  rintro e w8' ⟨rfl, rfl⟩
  obtain ⟨W11, hW11⟩ : ∃ W11, W11 = w8' := ⟨_, rfl⟩
  subst hW11
  go_wp2
  clear o0 hzc
  go_loopg [17] N (fun g i wr => ∃ (t : Nat) (v : Value), g + t = N ∧ i = .int .i64 (t : Int) ∧ GrowC W11 O (.slice (some ⟨zb, zo, none⟩) RR kz) T t v wr)
  case atStart => exact ⟨0, _, rfl, rfl, HG7.out⟩
  case round =>
    clear HG7
    obtain ⟨t, v, hg, rfl, hgr⟩ := hrel
    obtain ⟨wo, hwo⟩ : ∃ wo, wo = wr := ⟨_, rfl⟩
    subst hwo
    have HGR := hide hgr
    have BW : Below W10.heap.size W10 wo := HOV.out.bel.trans (hgr.below HOV.out.hi HOV.out.lt)
    have I12 := HI10.out.next BW
    have RS := HOV.out.row wo hgr.but
    have o0 := hgr.c0
    by_cases hlt : t < N
    · have hltz : (t : Int) < (N : Int) := by omega
      obtain ⟨a, ha, ha16, hce, hTA, hTB⟩ := HSEL.out t hlt
      obtain ⟨kk, NN, abp, nb, cbp, hTt⟩ : ∃ kk NN abp nb cbp, T t = (.int .i64 kk, .int .i64 NN, .slice abp nb cbp) := by
        obtain ⟨h1, h2, a3, c3, h3, -⟩ := hce
        exact ⟨_, _, _, _, _, Prod.ext h1 (Prod.ext h2 h3)⟩
      have C := rplaces_soft S (t : Int) (some ⟨zb, zo, none⟩) kz wo RS
      rw [HSL.out.1] at C
      have HI12 := hide I12
      have HBW := hide BW
      clear I12 hgr BW RS hce
      go_wp2_with fail
      refine C.mono ?_
      clear C
      rintro e w9' ⟨hb9', h4⟩
      obtain ⟨b, rfl, hbw, hbl, SC⟩ := h4 HSV.out.1 (by omega) (by rw [HSV.out.2]; omega)
      clear h4
      rw [HSL.out.1]
      obtain ⟨DG, hDG⟩ : ∃ DG, digits S (t : Int) = DG := ⟨_, rfl⟩
      have hDl : DG.length = RR := by rw [← hDG, digits_length, HSL.out.1]
      rw [hDG] at SC ha hTA hTB
      have B9 : Below W10.heap.size W10 w9' := HBW.out.trans (hb9'.mono HBW.out.size)
      obtain ⟨OZ, hOZ⟩ : ∃ OZ, w9'.heap.size = OZ := ⟨_, rfl⟩
      obtain ⟨WZ, eZ⟩ : ∃ WZ, w9'.alloc (.cells #[.slice (some ⟨pb, po, none⟩) RR kx, .slice xa CX2 xc] 25) = WZ := ⟨_, rfl⟩
      have zZ : WZ.heap.size = OZ + 1 := by rw [← eZ]; simp [hOZ]
      have BZ : Below w9'.heap.size w9' WZ := by rw [← eZ]; exact one_alloc _ _
      have z0 : WZ.cell? ⟨OZ, 0, none⟩ = some (.slice (some ⟨pb, po, none⟩) RR kx) := by rw [← eZ, ← hOZ]; exact cell_new0 _ _ 25 0 _ rfl
      have z1 : WZ.cell? ⟨OZ, 1, none⟩ = some (.slice xa CX2 xc) := by rw [← eZ, ← hOZ]; exact cell_new0 _ _ 25 1 _ rfl
      have zf0 : WZ.frozen? ⟨OZ, 0, none⟩ = false := by rw [← eZ, ← hOZ]; exact frozen_new _ _ 25 0
      have zf1 : WZ.frozen? ⟨OZ, 1, none⟩ = false := by rw [← eZ, ← hOZ]; exact frozen_new _ _ 25 1
      have SCZ : SoftC WZ b DG := SC.next hbl BZ
      have BZ10 : Below W10.heap.size W10 WZ := B9.trans (BZ.mono B9.size)
      have BZo : Below wo.heap.size wo WZ := hb9'.trans (BZ.mono hb9'.size)
      have x0 := (B9.cell (p := ⟨OX, 0, none⟩) HV10.out.2.2.1).trans HV10.out.2.2.2.1
      have x1 := (B9.cell (p := ⟨OX, 1, none⟩) HV10.out.2.2.1).trans HV10.out.2.2.2.2.1
      have HEZ := hide (And.intro eZ hOZ)
      have HZZ := hide (And.intro zZ (And.intro hbw (And.intro (show b < OZ by omega) (And.intro BZ10 BZo))))
      have HZC := hide (And.intro z0 (And.intro z1 (And.intro zf0 zf1)))
      have HSC2 := hide (And.intro SCZ hDl)
      have HTT := hide (And.intro ha (And.intro hTA (And.intro hTB hTt)))
      clear SC hDG hDl B9 eZ hOZ zZ BZ SCZ BZ10 BZo hb9' hbw hbl ha hTA hTB hTt o0 z0 z1 zf0 zf1
      go_upto_region 31 with fail
      rw [HEZ.out.1, HEZ.out.2]
      clear HEZ x0 x1
      have hz := HZZ.out
      have x0 := (hz.2.2.2.1.cell (p := ⟨OX, 0, none⟩) HV10.out.2.2.1).trans HV10.out.2.2.2.1
      obtain ⟨pb', po', he', hpb, hpc⟩ := row_at HV10.out.1 (j := k) (by rw [HPQ.out.1]; exact hkR)
      simp only [Option.some.injEq, Addr.mk.injEq, and_true] at he'
      obtain ⟨rfl, rfl⟩ := he'
      have ep : P[k]?.getD 0 = (pn : Int) := HG.out.1
      rw [ep] at hpc
      have x2 := (hz.2.2.2.1.cell (p := ⟨pb, po + k, none⟩) hpb).trans hpc
      have HX2 := hide (And.intro hpb hpc)
      obtain ⟨x3, x4⟩ := HSC2.out.1 k (by rw [HSC2.out.2]; exact hkR)
      rw [HTT.out.1] at x3
      obtain ⟨ge, hge⟩ : ∃ ge, decide (pn ≤ a) = ge := ⟨_, rfl⟩
      clear hz ep hpb hpc
      go_cut [170] from 161 to 170 (fun s wx => s = .bool ge ∧ Below WZ.heap.size WZ wx)
      case first =>
        go_region
        all_goals
          go_wp2
          go_meet
        all_goals
          case rel => exact ⟨rfl, (Below.refl _ _).drew⟩
      case rest =>
      obtain ⟨rfl, hbD⟩ := hcut
      obtain ⟨WD, hWD⟩ : ∃ WD, WD = wc := ⟨_, rfl⟩
      subst hWD
      clear x0 x2 x3 x4
      have hz := HZZ.out
      have BD10 : Below W10.heap.size W10 WD := hz.2.2.2.1.trans (hbD.mono hz.2.2.2.1.size)
      have BDo : Below wo.heap.size wo WD := hz.2.2.2.2.trans (hbD.mono hz.2.2.2.2.size)
      have hOZl : OZ < WZ.heap.size := by omega
      have z0 := (hbD.cell (p := ⟨OZ, 0, none⟩) hOZl).trans HZC.out.1
      have z1 := (hbD.cell (p := ⟨OZ, 1, none⟩) hOZl).trans HZC.out.2.1
      have zf0 := (hbD.frozen (p := ⟨OZ, 0, none⟩) hOZl).trans HZC.out.2.2.1
      have zf1 := (hbD.frozen (p := ⟨OZ, 1, none⟩) hOZl).trans HZC.out.2.2.2
      have SCD : SoftC WD b DG := HSC2.out.1.next (by omega) hbD
      have hzs := hbD.size
      have HBD2 := hide (And.intro BD10 (And.intro BDo hzs))
      have HSD := hide SCD
      clear hz BD10 BDo hOZl SCD hzs hbD
      go_upto_if 170 with fail
      go_cut [20] from 171 to 184 (fun s wx => s = .pointer (some ⟨OZ, 0, none⟩) ∧ ∃ (zs : Option Addr) (zk : Nat) (za : Option Addr) (zn zc : Nat) (ZS DH : List Int) (r gb go : Nat), wx.cell? ⟨OZ, 0, none⟩ = some (.slice zs RR zk) ∧ wx.cell? ⟨OZ, 1, none⟩ = some (.slice (some ⟨gb, go, none⟩) zn zc) ∧ Row 0 wx zs ZS ∧ ZS.length = RR ∧ Row 0 wx (some ⟨b, 0, none⟩) DH ∧ DH.length = RR ∧ plcV ZS DH = (r : Int) ∧ r < zn ∧ zn ≤ 16384 ∧ gb < W10.heap.size ∧ W10.cell? ⟨gb, go + r * 3, none⟩ = some (.int .i64 kk) ∧ W10.cell? ⟨gb, go + r * 3 + 1, none⟩ = some (.int .i64 NN) ∧ W10.cell? ⟨gb, go + r * 3 + 2, none⟩ = some (.slice abp nb cbp) ∧ OZ < wx.heap.size ∧ Below wo.heap.size wo wx)
      case first =>
        cases ge
        case false =>
          have hap : a < pn := by have := of_decide_eq_false hge; omega
          obtain ⟨r, hr1, hr2, hr3⟩ := HTT.out.2.1 hap
          obtain ⟨gb, go, hxa, hgb, hgc⟩ := HSX.out.1.lies (by omega)
          obtain ⟨g0, g1, g2⟩ := hgc r hr2
          rw [← hr3, HTT.out.2.2.2] at g0 g1 g2
          have hz := HZZ.out
          have HFI : Hid (∃ (zs : Option Addr) (zk : Nat) (za : Option Addr) (zn zc : Nat) (ZS DH : List Int) (r gb go : Nat), WD.cell? ⟨OZ, 0, none⟩ = some (.slice zs RR zk) ∧ WD.cell? ⟨OZ, 1, none⟩ = some (.slice (some ⟨gb, go, none⟩) zn zc) ∧ Row 0 WD zs ZS ∧ ZS.length = RR ∧ Row 0 WD (some ⟨b, 0, none⟩) DH ∧ DH.length = RR ∧ plcV ZS DH = (r : Int) ∧ r < zn ∧ zn ≤ 16384 ∧ gb < W10.heap.size ∧ W10.cell? ⟨gb, go + r * 3, none⟩ = some (.int .i64 kk) ∧ W10.cell? ⟨gb, go + r * 3 + 1, none⟩ = some (.int .i64 NN) ∧ W10.cell? ⟨gb, go + r * 3 + 2, none⟩ = some (.slice abp nb cbp) ∧ OZ < WD.heap.size ∧ Below wo.heap.size wo WD) := by
            have h2 := HBD2.out
            rw [hxa] at z1
            exact ⟨_, _, xa, _, _, P, DG, r, gb, go, z0, z1, HV10.out.1.next h2.1, HPQ.out.1, HSD.out.row (by omega) (Nat.zero_le _) (by rw [HSC2.out.2]; omega), HSC2.out.2, hr1, hr2, hC16.1, hgb, g0, g1, g2, by omega, h2.2.1⟩
          clear hap hr1 hr2 hr3 hxa hgb hgc g0 g1 g2 hz
          go_wp2
          go_meet
          exact ⟨rfl, HFI.out⟩
        case true =>
          have hap : ¬ a < pn := by have := of_decide_eq_true hge; omega
          obtain ⟨r, hr1, hr2, hr3⟩ := HTT.out.2.2.1 hap
          obtain ⟨gb, go, hya, hgb, hgc⟩ := HSX.out.2.lies (by omega)
          obtain ⟨g0, g1, g2⟩ := hgc r hr2
          rw [← hr3, HTT.out.2.2.2] at g0 g1 g2
          have hz := HZZ.out
          have h2 := HBD2.out
          have x0 := (h2.1.cell (p := ⟨OX, 0, none⟩) HV10.out.2.2.1).trans HV10.out.2.2.2.1
          have x2 := (h2.1.cell (p := ⟨pb, po + k, none⟩) HX2.out.1).trans HX2.out.2
          obtain ⟨x3, x4⟩ := HSD.out k (by rw [HSC2.out.2]; exact hkR)
          rw [HTT.out.1] at x3
          obtain ⟨dd, hdd⟩ : ∃ dd : Nat, a - pn = dd := ⟨_, rfl⟩
          have hwr : IntKind.i64.wrap ((a : Int) - (pn : Int)) = (dd : Int) := by rw [show (a : Int) - (pn : Int) = (dd : Int) by omega]; exact IntWalk.i64_in _ ⟨by omega, by omega⟩
          rw [hdd] at hr1
          obtain ⟨WE, eE⟩ : ∃ WE, WD.drew.setCell ⟨b, k, none⟩ (.int .i64 (dd : Int)) = WE := ⟨_, rfl⟩
          have BE : Below wo.heap.size wo WE := by rw [← eE]; exact h2.2.1.drew.setCell (p := ⟨b, k, none⟩) hz.2.1 _
          have zE : WE.heap.size = WD.heap.size := by rw [← eE]; simp
          have hoW := HBW.out.size
          have BE10 : Below W10.heap.size W10 WE := by rw [← eE]; exact h2.1.drew.setCell (p := ⟨b, k, none⟩) (by show _ ≤ b; omega) _
          have SCE : SoftC WE b (DG.set k (dd : Int)) := by rw [← eE]; exact SoftC.set (fun i hi => HSD.out i hi) k (by rw [HSC2.out.2]; exact hkR) _
          have y0 := (BE10.cell (p := ⟨OY, 0, none⟩) HV10.out.2.2.2.2.2.2.2.1).trans HV10.out.2.2.2.2.2.2.2.2.1
          have y1 := (BE10.cell (p := ⟨OY, 1, none⟩) HV10.out.2.2.2.2.2.2.2.1).trans HV10.out.2.2.2.2.2.2.2.2.2
          have zE0 : WE.cell? ⟨OZ, 0, none⟩ = some (.slice (some ⟨pb, po, none⟩) RR kx) := by rw [← eE, World.cell?_setCell_other _ _ _ _ (by simp <;> omega)]; exact z0
          have zE1 : WE.cell? ⟨OZ, 1, none⟩ = some (.slice xa CX2 xc) := by rw [← eE, World.cell?_setCell_other _ _ _ _ (by simp <;> omega)]; exact z1
          have zEf0 : WE.frozen? ⟨OZ, 0, none⟩ = false := by rw [← eE]; exact frozen_set _ _ _ _ zf0
          have zEf1 : WE.frozen? ⟨OZ, 1, none⟩ = false := by rw [← eE]; exact frozen_set _ _ _ _ zf1
          obtain ⟨WF, eF⟩ : ∃ WF, (WE.setCell ⟨OZ, 0, none⟩ (.slice (some ⟨qb, qo, none⟩) RR ky)).setCell ⟨OZ, 1, none⟩ (.slice ya CY2 yc) = WF := ⟨_, rfl⟩
          have zF : WF.heap.size = WE.heap.size := by rw [← eF]; simp
          have st := set_two zE0 zE1 (.slice (some ⟨qb, qo, none⟩) RR ky) (.slice ya CY2 yc)
          have hOZw : wo.heap.size ≤ OZ := by omega
          have BF : Below wo.heap.size wo WF := by rw [← eF]; exact (BE.setCell (p := ⟨OZ, 0, none⟩) hOZw _).setCell (p := ⟨OZ, 1, none⟩) hOZw _
          have BF10 : Below W10.heap.size W10 WF := by rw [← eF]; exact (BE10.setCell (p := ⟨OZ, 0, none⟩) (by show _ ≤ OZ; omega) _).setCell (p := ⟨OZ, 1, none⟩) (by show _ ≤ OZ; omega) _
          have HFI : Hid (∃ (zs : Option Addr) (zk : Nat) (za : Option Addr) (zn zc : Nat) (ZS DH : List Int) (r gb go : Nat), WF.cell? ⟨OZ, 0, none⟩ = some (.slice zs RR zk) ∧ WF.cell? ⟨OZ, 1, none⟩ = some (.slice (some ⟨gb, go, none⟩) zn zc) ∧ Row 0 WF zs ZS ∧ ZS.length = RR ∧ Row 0 WF (some ⟨b, 0, none⟩) DH ∧ DH.length = RR ∧ plcV ZS DH = (r : Int) ∧ r < zn ∧ zn ≤ 16384 ∧ gb < W10.heap.size ∧ W10.cell? ⟨gb, go + r * 3, none⟩ = some (.int .i64 kk) ∧ W10.cell? ⟨gb, go + r * 3 + 1, none⟩ = some (.int .i64 NN) ∧ W10.cell? ⟨gb, go + r * 3 + 2, none⟩ = some (.slice abp nb cbp) ∧ OZ < WF.heap.size ∧ Below wo.heap.size wo WF) := by
            have d0 : WF.cell? ⟨OZ, 0, none⟩ = some (.slice (some ⟨qb, qo, none⟩) RR ky) := by rw [← eF, World.cell?_setCell_other _ _ _ _ (by simp)]; exact st.1
            have d1 : WF.cell? ⟨OZ, 1, none⟩ = some (.slice (some ⟨gb, go, none⟩) CY2 yc) := by rw [← hya, ← eF]; exact st.2
            have SCF : SoftC WF b (DG.set k (dd : Int)) := fun i hi => by
              rw [← eF, World.cell?_setCell_other _ _ _ _ (by simp <;> omega), World.cell?_setCell_other _ _ _ _ (by simp <;> omega)]
              exact ⟨(SCE i hi).1, frozen_set _ _ _ _ (frozen_set _ _ _ _ (SCE i hi).2)⟩
            have hl : (DG.set k (dd : Int)).length = RR := by rw [List.length_set, HSC2.out.2]
            exact ⟨_, _, ya, _, _, Q, DG.set k (dd : Int), r, gb, go, d0, d1, HV10.out.2.2.2.2.2.1.next BF10, HPQ.out.2, SCF.row (by omega) (Nat.zero_le _) (by rw [hl]; omega), hl, hr1, hr2, hC16.2, hgb, g0, g1, g2, by omega, BF⟩
          clear hap hr1 hr2 hr3 hya hgb hgc g0 g1 g2 hz h2 BE zE hoW BE10 SCE zF st BF BF10 z0 z1 zf0 zf1 hdd hOZw
          go_wp2
          go_region
          all_goals
            go_wp2
            go_meet
          all_goals
            case rel => exact ⟨rfl, HFI.out⟩
      case rest =>
      obtain ⟨rfl, zs, zk, za, zn, zc, ZS, DH, r, gb, go, z0', z1', RZS, lZS, RDH, lDH, hpl, hrn, hzn, hgb, g0, g1, g2, hOZ2, BG⟩ := hcut
      obtain ⟨WG, hWG⟩ : ∃ WG, WG = wc := ⟨_, rfl⟩
      subst hWG
      clear z0 z1 zf0 zf1
      have I13 := HI12.out.next BG
      have HI13 := hide I13
      have C9 := rplace_any ZS DH zs (some ⟨b, 0, none⟩) zk RR WG RZS RDH
      rw [hpl, lZS, lDH] at C9
      generalize plcE ZS DH = PE at C9
      have HBG := hide BG
      have HGG := hide (And.intro hgb (And.intro g0 (And.intro g1 g2)))
      have hrz : (r : Int) < (zn : Int) := by omega
      have hr16 : r ≤ 16384 := by omega
      have hTt : Hid (T t = (.int .i64 kk, .int .i64 NN, .slice abp nb cbp)) := HTT.out.2.2.2
      have HOZ2 := hide hOZ2
      have HZ1 := hide z1'
      clear RZS RDH lZS lDH hpl BG hgb g0 g1 g2 I13 HTT HSD HSC2 HZC HZZ HBD2 hge HX2 hOZ2 z1'
      go_wp2_with fail
      refine C9.mono ?_
      clear C9 z0'
      rintro e w9 ⟨rfl, hb9⟩
      have HB9 := hide (HBG.out.trans (hb9.mono HBG.out.size))
      have HG9 := hide (HB9.out.mono HGR.out.io.size)
      have z1 := (hb9.cell (p := ⟨OZ, 1, none⟩) HOZ2.out).trans HZ1.out
      have B910 : Below W10.heap.size W10 w9 := HBW.out.trans (HB9.out.mono HBW.out.size)
      have hgg := HGG.out
      have u0 := (B910.cell (p := ⟨gb, go + r * 3, none⟩) hgg.1).trans hgg.2.1
      have u1 := (B910.cell (p := ⟨gb, go + r * 3 + 1, none⟩) hgg.1).trans hgg.2.2.1
      have u2 := (B910.cell (p := ⟨gb, go + r * 3 + 2, none⟩) hgg.1).trans hgg.2.2.2
      have hO5 : Hid (O < W11.heap.size) := HOV.out.lt
      have hO5v := hO5.out
      have d1' := (HG9.out.cell (p := ⟨O, 1, none⟩) hO5v).trans HGR.out.c1
      have d2' := (HG9.out.frozen (p := ⟨O, 1, none⟩) hO5v).trans HGR.out.f1
      have BA := one_alloc w9 (.cells #[.int .i64 kk, .int .i64 NN, .slice abp nb cbp] 36)
      have hs59 : W11.heap.size ≤ w9.heap.size := Nat.le_trans HGR.out.io.size HG9.out.size
      have x0 : (w9.alloc (.cells #[.int .i64 kk, .int .i64 NN, .slice abp nb cbp] 36)).cell? ⟨O, 1, none⟩ = some v := (BA.cell (p := ⟨O, 1, none⟩) (by show O < _; omega)).trans d1'
      have HSTEP : Hid (rowT T (t + 1) = rowT T t ++ [.int .i64 kk, .int .i64 NN, .slice abp nb cbp]) := by unfold Hid; rw [rowT_step, hTt.out]
      have OW9 : w9.ownsRow W11.heap.size 36 3 v t (rowT T t) := owns_below HGR.out.own HB9.out
      have HOWN : Hid ((w9.alloc (.cells #[.int .i64 kk, .int .i64 NN, .slice abp nb cbp] 36)).drew.ownsRow W11.heap.size 36 3 v t (rowT T t)) := OW9.alloc (.cells #[.int .i64 kk, .int .i64 NN, .slice abp nb cbp] 36)
      have HNEWS : Hid (∀ i u, [Value.int .i64 kk, .int .i64 NN, .slice abp nb cbp][i]? = some u → (w9.alloc (.cells #[.int .i64 kk, .int .i64 NN, .slice abp nb cbp] 36)).drew.cell? ((⟨w9.heap.size, 0, none⟩ : Addr).add i) = some u) := by
        intro i u hu
        rw [add_off, Nat.zero_add]
        exact cell_new0 w9 _ 36 i u (by simpa using hu)
      have HONE : Hid (∀ u ∈ [Value.int .i64 kk, .int .i64 NN, .slice abp nb cbp], u.oneCell' = true) := by
        intro u hu
        simp at hu
        rcases hu with rfl | rfl | rfl <;> rfl
      have HMAX : Hid (t + 1 ≤ maxLen ∧ (t + 1) * 40 ≤ 140737488355328 ∧ W11.heap.size ≤ (w9.alloc (.cells #[.int .i64 kk, .int .i64 NN, .slice abp nb cbp] 36)).drew.heap.size) := by
        refine ⟨by unfold maxLen; omega, by omega, ?_⟩
        have : (w9.alloc (.cells #[.int .i64 kk, .int .i64 NN, .slice abp nb cbp] 36)).drew.heap.size = w9.heap.size + 1 := by simp
        omega
      have HAB2 : Hid (Below W11.heap.size wo (w9.alloc (.cells #[.int .i64 kk, .int .i64 NN, .slice abp nb cbp] 36)).drew) := (HG9.out.trans ((Below.refl _ _).alloc (by show _ ≤ w9.heap.size; omega) _)).drew
      clear BA hgg HG9 OW9 hs59 HB9 B910 hO5v hb9 hTt
      go_wp2
      go_region_law (refine step_append_own rfl (.tmp 193) (.tmp 199) 23 rfl W11.heap.size 36 i0 (.agg #[.int .i64 0, .int .i64 0, .slice none 0 0]) 3 40 Try.underlying23 hi0 hz00 hz01 hz02 rfl (by decide) v t (rowT T t) (by first | rfl | go_simp) HOWN.out ⟨w9.heap.size, 0, none⟩ 1 1 [.int .i64 kk, .int .i64 NN, .slice abp nb cbp] (by first | rfl | go_simp) rfl HNEWS.out HONE.out HMAX.out.1 HMAX.out.2.1 HMAX.out.2.2 ?_; intro v' w1 hown1 hb1; obtain ⟨g, cp, rfl, -⟩ := owns_form hown1 (Nat.succ_pos t); have dd1 := (HAB2.out.trans hb1).cell (p := ⟨O, 1, none⟩) hO5.out |>.trans HGR.out.c1; have dd3 := (HAB2.out.trans hb1).frozen (p := ⟨O, 1, none⟩) hO5.out |>.trans HGR.out.f1)
      all_goals
        have hown2 : w1.ownsRow W11.heap.size 36 3 (.slice (some ⟨g, 0, none⟩) (t + 1) cp) (t + 1) (rowT T (t + 1)) := by rw [HSTEP.out]; exact hown1
        have HNX := hide (HGR.out.step hO5.out (HAB2.out.trans hb1) hown2)
        clear hown1 hown2 hb1 dd1 dd3 HOWN HNEWS HONE HMAX HAB2 HSTEP x0 u0 u1 u2
        go_wp2
        go_roundg (N - (t + 1))
        case rel => exact ⟨t + 1, _, by omega, by go_num, HNX.out⟩
        case measure => omega
    · have hte : t = N := by omega
      subst hte
      obtain ⟨g2, cp2, rfl, hcells⟩ := owns_cellsT T hgr.own
      have d1' := hgr.c1
      have p0 := I12.p0
      have p1 := I12.p1
      have f0 := I12.f0
      have f1 := I12.f1
      have HT := hide (I12.put (.slice (some ⟨zb, zo, none⟩) RR kz) (.slice g2 t cp2))
      have HFIN : Hid (∀ u v, Gives2Z (n + 1) w0 (joiR last x y).1 (joiR last x y).2 w (.returned (.tuple #[.agg #[.slice (some ⟨zb, zo, none⟩) RR kz, .slice g2 t cp2], .int .i64 0])) ((wo.setCell ⟨w.heap.size + 2, 0, none⟩ u).setCell ⟨w.heap.size + 2, 1, none⟩ v)) := by
        intro u v
        obtain ⟨cs, hres, hcl, hcc0⟩ := HRES.out
        refine gives2z_of hres (fun W hW hK => ?_) (I12.fin u v)
        have hs6 := HI10.out.size
        have hov1 := HOV.out.hi
        have hov2 := HOV.out.lt
        have K3 : Keeps (w.heap.size + 3) wo W := (((Keeps.refl _ _).setCell (p := ⟨w.heap.size + 2, 0, none⟩) (by show w.heap.size + 2 < _; omega) u).setCell (p := ⟨w.heap.size + 2, 1, none⟩) (by show w.heap.size + 2 < _; omega) v).trans (hK.mono (by omega))
        have RF : Row 0 W (some ⟨zb, zo, none⟩) S := HOV.out.row W ⟨Nat.le_trans hgr.io.size K3.1, fun b h1 h2 h3 => (K3.2 b (by omega) (Nat.lt_of_lt_of_le h2 hgr.io.size)).trans (hgr.keep b h2 h3)⟩
        refine arIn_mk (x := .mk S cs) RF (by show cs.length ≤ _; omega) ?_ HSL.out.1 hcl
        rcases hcells with h0 | ⟨g, rfl, hg1, hg2, hcc⟩
        · exact Or.inl (List.eq_nil_of_length_eq_zero (by show cs.length = 0; omega))
        · refine Or.inr ⟨g, 0, rfl, Nat.zero_le _, Nat.lt_of_lt_of_le hg2 K3.1, fun i hi => ?_⟩
          change i < cs.length at hi
          rw [hcl] at hi
          obtain ⟨_, -, -, hce, -, -⟩ := HSEL.out i hi
          obtain ⟨e0, e1', e2'⟩ := hcc i hi
          rw [Nat.zero_add]
          have ap : ∀ (o : Nat) (q : Value), wo.cell? ⟨g, o, none⟩ = some q → W.cell? ⟨g, o, none⟩ = some q := fun o q h => (K3.cell (p := ⟨g, o, none⟩) (by show w.heap.size + 3 ≤ g; omega) hg2).trans h
          refine ⟨_, _, _, ap _ _ e0, ap _ _ e1', ap _ _ e2', ?_⟩
          rw [show cAt (Ar.mk S cs).cells i = cAt (joiC X Y P Q k) i from hcc0 i hi]
          exact hce.mono (Nat.zero_le _) hW fun x v h => h.mono (Nat.zero_le _) hW
      clear I12 hgr HGR hcells BW RS HSEL HSC HRES HSX HJ2 HF HF0 HV10
      go_wp2
      exact bodyPost_ret (v := .tuple #[.agg #[.slice (some ⟨zb, zo, none⟩) RR kz, .slice g2 t cp2], .int .i64 0]) (by simp [results, Try.results47, go_sem, HT.out.1, HT.out.2]) rfl (HFIN.out _ _)
end Go.Proofs.Ytmjncdhahdpplaa
