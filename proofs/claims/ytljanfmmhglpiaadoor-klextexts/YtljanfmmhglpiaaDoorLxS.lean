/-
  A text of any signs, written and read back, as plain mathematics; the document's own Put.
-/
import Derived.Test.YtljanfmmhglpiaaDoorLxQ
import Derived.Laws.MakeOwn
namespace Go.Proofs.YtljanfmmhglpiaaDoor
open Go.ChangeShapes Go.WideShapes Go.ChangeAt Go.RowKit
open Rn
set_option linter.unusedVariables false
set_option linter.unusedSimpArgs false
set_option maxRecDepth 100000
/-- A sign within a text: the one that ends it and the one that turns it with one ahead. -/
def dq (c : Int) : List Int := if c = 34 ∨ c = 92 then [92, c] else put c
def enq (l : List Int) : List Int := l.flatMap dq
theorem enq_cons (c : Int) (l : List Int) : enq (c :: l) = dq c ++ enq l := by simp [enq]
theorem enq_snoc (l : List Int) (c : Int) : enq (l ++ [c]) = enq l ++ dq c := by simp [enq]
def TOk (c : Int) : Prop := Good c ∧ 32 ≤ c ∧ c ≠ 127
theorem put34 : put 34 = [34] := by decide
theorem put92 : put 92 = [92] := by decide
theorem dq_len (c : Int) : 1 ≤ (dq c).length ∧ (dq c).length ≤ 4 := by
  unfold dq
  split
  · simp
  · rw [put_length]; exact wid_pos c
theorem enq_len (l : List Int) : (enq l).length ≤ 4 * l.length := by
  induction l with
  | nil => simp [enq]
  | cons c l ih =>
    rw [enq_cons, List.length_append, List.length_cons]
    have := dq_len c
    omega
theorem put_no {c : Int} (h : Good c) (hc : ¬ (c = 34 ∨ c = 92)) : ∀ z ∈ put c, z ≠ 34 ∧ z ≠ 92 := by
  intro z hz
  have hr := Rn.Good.rng h
  unfold put at hz
  split at hz
  · simp at hz; omega
  · split at hz
    · simp at hz; omega
    · split at hz
      · simp at hz; omega
      · simp at hz; omega
theorem dq_byte {c : Int} (h : Good c) : ∀ z ∈ dq c, Byte z := by
  intro z hz
  unfold dq at hz
  split at hz
  · rename_i hc
    simp at hz
    unfold Byte
    omega
  · exact put_bytes h z hz
theorem lastQ_skip (p r : List Int) (hp : ∀ z ∈ p, z ≠ 34 ∧ z ≠ 92) : lastQ false (p ++ r) = (lastQ false r).map (· + p.length) := by
  induction p with
  | nil => simp
  | cons c p ih =>
    have hc := hp c (by simp)
    have e : (!false && decide (c = 92)) = false := by simp [hc.2]
    rw [List.cons_append, lastQ, if_neg (fun h => hc.1 h.2), e, ih (fun z hz => hp z (by simp [hz]))]
    cases lastQ false r with
    | none => rfl
    | some k => simp; omega
theorem lastQ_enq (l : List Int) (h : ∀ z ∈ l, TOk z) : lastQ false (enq l ++ [34]) = some (enq l).length := by
  induction l with
  | nil => simp [enq, lastQ]
  | cons c l ih =>
    have ih := ih fun z hz => h z (by simp [hz])
    rw [enq_cons, List.append_assoc]
    by_cases hc : c = 34 ∨ c = 92
    · have e : dq c = [92, c] := by unfold dq; rw [if_pos hc]
      rw [e]
      show lastQ false (92 :: c :: (enq l ++ [34])) = _
      have e1 : lastQ false (92 :: c :: (enq l ++ [34])) = (lastQ true (c :: (enq l ++ [34]))).map (· + 1) := by rw [lastQ, if_neg (by simp)]; rfl
      have e2 : lastQ true (c :: (enq l ++ [34])) = (lastQ false (enq l ++ [34])).map (· + 1) := by rw [lastQ, if_neg (by simp)]; rfl
      rw [e1, e2, ih]
      simp
    · unfold dq
      rw [if_neg hc, lastQ_skip _ _ (put_no (h c (by simp)).1 hc), ih]
      simp
      omega
theorem signF_enq (l : List Int) : (∀ z ∈ l, TOk z) → ∀ f, (enq l).length < f → (signF f (enq l)).1 = l ∧ (signF f (enq l)).2.1 = 0 := by
  induction l with
  | nil =>
    intro _ f hf
    cases f with
    | zero => simp at hf
    | succ f => simp [enq, signF]
  | cons c l ih =>
    intro h f hf
    obtain ⟨hg, h32, h127⟩ := h c (by simp)
    have ih := ih fun z hz => h z (by simp [hz])
    have hlen := dq_len c
    rw [enq_cons, List.length_append] at hf
    cases f with
    | zero => omega
    | succ f =>
      obtain ⟨i1, i2⟩ := ih f (by omega)
      have hne : dq c ++ enq l ≠ [] := fun e => by
        have := congrArg List.length e
        rw [List.length_append, List.length_nil] at this
        omega
      have hs : sgF (dq c ++ enq l) = (c, (dq c).length, 0) := by
        by_cases hc : c = 34 ∨ c = 92
        · have e : dq c = [92, c] := by unfold dq; rw [if_pos hc]
          have e0 : oneF ([92, c] ++ enq l) = some (92, 1) := by
            have := oneF_put (m := 92) (r := c :: enq l) (by decide)
            rw [put92] at this
            exact this
          have ee : escB c = true := by unfold escB; rcases hc with rfl | rfl <;> rfl
          rw [e]
          unfold sgF
          rw [e0]
          simp [ee]
        · have hq : dq c = put c := by unfold dq; rw [if_neg hc]
          unfold sgF
          rw [hq, oneF_put hg, put_length]
          simp only
          rw [if_neg (by omega), if_pos (by omega)]
      rw [enq_cons, signF, if_neg hne, hs]
      have ed : (dq c ++ enq l).drop (dq c).length = enq l := by simp
      simp only
      rw [if_neg (by simp), ed]
      exact ⟨by rw [i1], i2⟩
theorem lex_text (l : List Int) (h : ∀ z ∈ l, TOk z) (hl : l.length ≤ 500) : lexM (34 :: (enq l ++ [34])) = ([⟨2, [], textA l, 0⟩], 0, 0) := by
  have hn := enq_len l
  have hlen : (34 :: (enq l ++ [34])).length = (enq l).length + 2 := by simp
  unfold lexM
  rw [if_neg (by omega), hlen]
  obtain ⟨s1, s2⟩ := signF_enq l h ((enq l).length + 1) (by omega)
  have e0 : lead blB (34 :: (enq l ++ [34])) = 0 := rfl
  have e1 : remB 32 (34 :: (enq l ++ [34])) = false := rfl
  have e2 : wrd 32 (34 :: (enq l ++ [34])) = ⟨2, [], textA l, (enq l).length + 2, 0, 0⟩ := by
    have n1 : numB 32 (34 :: (enq l ++ [34])) = false := rfl
    show readW 32 (34 :: (enq l ++ [34])) = _
    unfold readW
    rw [n1, if_neg (by simp), if_pos (show (34 :: (enq l ++ [34])).headD 0 = 34 from rfl)]
    unfold readT
    rw [List.tail_cons, lastQ_enq l h]
    simp only
    have et : (enq l ++ [34]).take (enq l).length = enq l := by simp
    rw [et, if_pos s2, s1]
  rw [lexB, e0]
  simp only [List.drop_zero, Nat.add_zero, ahd_zero]
  rw [e1, e2]
  have ed : (34 :: (enq l ++ [34])).drop (0 + ((enq l).length + 2)) = [] := List.drop_eq_nil_of_le (by omega)
  rw [if_neg (by simp), if_neg (by simp), if_neg (by simp)]
  simp only
  rw [ed]
  have er : ∀ v, lexB ((enq l).length + 2) (0 + 1) (0 + ((enq l).length + 2)) v [] = ([], 0, 0) := by
    intro v
    rw [lexB]
    exact if_pos (Or.inl rfl)
  rw [er]
  rfl
theorem info5 : (Tryd.prog.info? 5).map (fun i => (i.zero, i.size, i.bytes)) = some (some (.int .u8 0), 1, 1) := by kernel_rfl
abbrev bv (zs : List Int) : List Value := zs.map (Value.int .u8)
theorem made (v : Value) (k : Nat) : madeCells #[v] k = Array.replicate k v := by
  apply Array.ext
  · simp [madeCells]
  · intro i h1 h2
    simp [madeCells, Nat.mod_one]
theorem make_run (k : Nat) (hk : k ≤ 4) (w : World) : (Instr.makeSlice 45 (.int .i64 (k : Int)) (.int .i64 (k : Int))).run Tryd.prog w = .ok (.slice (some ⟨w.heap.size, 0, none⟩) k k) (w.alloc (.cells (Array.replicate k (.int .u8 0)) 5)) := by
  obtain ⟨i0, hi, hz0, hz1, hz2⟩ := info_parts info5
  have := run_make (P := Tryd.prog) w 45 5 i0 (.int .u8 0) Tryd.underlying45 hi hz0 .i64 .i64 k k (by omega) (Int.le_refl _) (by rw [hz2]; omega) (by omega)
  rw [this, hz1, show (Value.int .u8 0).cells = #[Value.int .u8 0] from rfl, made]
  simp
theorem make1 (w : World) : (Instr.makeSlice 45 (.int .i64 1) (.int .i64 1)).run Tryd.prog w = .ok (.slice (some ⟨w.heap.size, 0, none⟩) 1 1) (w.alloc (.cells #[.int .u8 0] 5)) := make_run 1 (by omega) w
theorem make2 (w : World) : (Instr.makeSlice 45 (.int .i64 2) (.int .i64 2)).run Tryd.prog w = .ok (.slice (some ⟨w.heap.size, 0, none⟩) 2 2) (w.alloc (.cells #[.int .u8 0, .int .u8 0] 5)) := make_run 2 (by omega) w
theorem make3 (w : World) : (Instr.makeSlice 45 (.int .i64 3) (.int .i64 3)).run Tryd.prog w = .ok (.slice (some ⟨w.heap.size, 0, none⟩) 3 3) (w.alloc (.cells #[.int .u8 0, .int .u8 0, .int .u8 0] 5)) := make_run 3 (by omega) w
theorem make4 (w : World) : (Instr.makeSlice 45 (.int .i64 4) (.int .i64 4)).run Tryd.prog w = .ok (.slice (some ⟨w.heap.size, 0, none⟩) 4 4) (w.alloc (.cells #[.int .u8 0, .int .u8 0, .int .u8 0, .int .u8 0] 5)) := make_run 4 (by omega) w
set_option maxHeartbeats 2000000 in
theorem put1 (n : Int) (w : World) (hn0 : 0 ≤ n) (hn : n < 128) :
    Calls Tryd.prog 11 #[.int .i64 n] w fun e w' => e = .returned (.slice (some ⟨w.heap.size, 0, none⟩) 1 1) ∧ w' = w.alloc (.cells #[.int .u8 (n)] 5) := by
  have hw : wid n = 1 := by unfold wid; rw [if_pos hn]
  have mk := make1
  have dt : n < 128 := by omega
  go_enter Tryd.func11, Tryd.ntmps11
  go_wp2_with (go_at_call 20; refine (wid_any _ _).mono ?_; rintro e w' ⟨rfl, hw'⟩; rw [hw'])
  go_loopw [0, 5] (fun m i wr => (i = .int .i64 0 ∧ m = .int .i64 (n) ∧ wr = w.alloc (.cells #[.int .u8 0] 5))) (fun _ i _ => (intOf i).toNat)
  case atStart => exact ⟨rfl, rfl, rfl⟩
  case round =>
    obtain ⟨rfl, rfl, rfl⟩ := hrel
    go_wp2
    go_ret
    exact ⟨rfl, rfl⟩
set_option maxHeartbeats 2000000 in
theorem put2 (n : Int) (w : World) (hn0 : 128 ≤ n) (hn : n < 2048) :
    Calls Tryd.prog 11 #[.int .i64 n] w fun e w' => e = .returned (.slice (some ⟨w.heap.size, 0, none⟩) 2 2) ∧ w' = w.alloc (.cells #[.int .u8 (192 + n / 64), .int .u8 (128 + n % 64)] 5) := by
  have hw : wid n = 2 := by unfold wid; rw [if_neg (by omega), if_pos hn]
  have mk := make2
  have d1 : 0 ≤ n / 64 := by omega
  have dt : n / 64 < 64 := by omega
  go_enter Tryd.func11, Tryd.ntmps11
  go_wp2_with (go_at_call 20; refine (wid_any _ _).mono ?_; rintro e w' ⟨rfl, hw'⟩; rw [hw'])
  go_loopw [0, 5] (fun m i wr => (i = .int .i64 1 ∧ m = .int .i64 (n) ∧ wr = w.alloc (.cells #[.int .u8 0, .int .u8 0] 5)) ∨ (i = .int .i64 0 ∧ m = .int .i64 (n / 64) ∧ wr = w.alloc (.cells #[.int .u8 0, .int .u8 (128 + n % 64)] 5))) (fun _ i _ => (intOf i).toNat)
  case atStart => exact Or.inl ⟨rfl, rfl, rfl⟩
  case round =>
    rcases hrel with ⟨rfl, rfl, rfl⟩ | ⟨rfl, rfl, rfl⟩
    · go_wp2
      go_roundw
      case rel => exact Or.inr (⟨rfl, rfl, trivial⟩)
      case measure => simp [intOf]
    · go_wp2
      go_ret
      exact ⟨rfl, rfl⟩
set_option maxHeartbeats 2000000 in
theorem put3 (n : Int) (w : World) (hn0 : 2048 ≤ n) (hn : n < 65536) :
    Calls Tryd.prog 11 #[.int .i64 n] w fun e w' => e = .returned (.slice (some ⟨w.heap.size, 0, none⟩) 3 3) ∧ w' = w.alloc (.cells #[.int .u8 (224 + n / 64 / 64), .int .u8 (128 + n / 64 % 64), .int .u8 (128 + n % 64)] 5) := by
  have hw : wid n = 3 := by unfold wid; rw [if_neg (by omega), if_neg (by omega), if_pos hn]
  have mk := make3
  have d1 : 0 ≤ n / 64 := by omega
  have d2 : 0 ≤ n / 64 / 64 := by omega
  have dt : n / 64 / 64 < 32 := by omega
  go_enter Tryd.func11, Tryd.ntmps11
  go_wp2_with (go_at_call 20; refine (wid_any _ _).mono ?_; rintro e w' ⟨rfl, hw'⟩; rw [hw'])
  go_loopw [0, 5] (fun m i wr => (i = .int .i64 2 ∧ m = .int .i64 (n) ∧ wr = w.alloc (.cells #[.int .u8 0, .int .u8 0, .int .u8 0] 5)) ∨ (i = .int .i64 1 ∧ m = .int .i64 (n / 64) ∧ wr = w.alloc (.cells #[.int .u8 0, .int .u8 0, .int .u8 (128 + n % 64)] 5)) ∨ (i = .int .i64 0 ∧ m = .int .i64 (n / 64 / 64) ∧ wr = w.alloc (.cells #[.int .u8 0, .int .u8 (128 + n / 64 % 64), .int .u8 (128 + n % 64)] 5))) (fun _ i _ => (intOf i).toNat)
  case atStart => exact Or.inl ⟨rfl, rfl, rfl⟩
  case round =>
    rcases hrel with ⟨rfl, rfl, rfl⟩ | ⟨rfl, rfl, rfl⟩ | ⟨rfl, rfl, rfl⟩
    · go_wp2
      go_roundw
      case rel => exact Or.inr (Or.inl ⟨rfl, rfl, trivial⟩)
      case measure => simp [intOf]
    · go_wp2
      go_roundw
      case rel => exact Or.inr (Or.inr (⟨rfl, rfl, trivial⟩))
      case measure => simp [intOf]
    · go_wp2
      go_ret
      exact ⟨rfl, rfl⟩
set_option maxHeartbeats 2000000 in
theorem put4 (n : Int) (w : World) (hn0 : 65536 ≤ n) (hn : n < 1114112) :
    Calls Tryd.prog 11 #[.int .i64 n] w fun e w' => e = .returned (.slice (some ⟨w.heap.size, 0, none⟩) 4 4) ∧ w' = w.alloc (.cells #[.int .u8 (240 + n / 64 / 64 / 64), .int .u8 (128 + n / 64 / 64 % 64), .int .u8 (128 + n / 64 % 64), .int .u8 (128 + n % 64)] 5) := by
  have hw : wid n = 4 := by unfold wid; rw [if_neg (by omega), if_neg (by omega), if_neg (by omega)]
  have mk := make4
  have d1 : 0 ≤ n / 64 := by omega
  have d2 : 0 ≤ n / 64 / 64 := by omega
  have d3 : 0 ≤ n / 64 / 64 / 64 := by omega
  have dt : n / 64 / 64 / 64 < 16 := by omega
  go_enter Tryd.func11, Tryd.ntmps11
  go_wp2_with (go_at_call 20; refine (wid_any _ _).mono ?_; rintro e w' ⟨rfl, hw'⟩; rw [hw'])
  go_loopw [0, 5] (fun m i wr => (i = .int .i64 3 ∧ m = .int .i64 (n) ∧ wr = w.alloc (.cells #[.int .u8 0, .int .u8 0, .int .u8 0, .int .u8 0] 5)) ∨ (i = .int .i64 2 ∧ m = .int .i64 (n / 64) ∧ wr = w.alloc (.cells #[.int .u8 0, .int .u8 0, .int .u8 0, .int .u8 (128 + n % 64)] 5)) ∨ (i = .int .i64 1 ∧ m = .int .i64 (n / 64 / 64) ∧ wr = w.alloc (.cells #[.int .u8 0, .int .u8 0, .int .u8 (128 + n / 64 % 64), .int .u8 (128 + n % 64)] 5)) ∨ (i = .int .i64 0 ∧ m = .int .i64 (n / 64 / 64 / 64) ∧ wr = w.alloc (.cells #[.int .u8 0, .int .u8 (128 + n / 64 / 64 % 64), .int .u8 (128 + n / 64 % 64), .int .u8 (128 + n % 64)] 5))) (fun _ i _ => (intOf i).toNat)
  case atStart => exact Or.inl ⟨rfl, rfl, rfl⟩
  case round =>
    rcases hrel with ⟨rfl, rfl, rfl⟩ | ⟨rfl, rfl, rfl⟩ | ⟨rfl, rfl, rfl⟩ | ⟨rfl, rfl, rfl⟩
    · go_wp2
      go_roundw
      case rel => exact Or.inr (Or.inl ⟨rfl, rfl, trivial⟩)
      case measure => simp [intOf]
    · go_wp2
      go_roundw
      case rel => exact Or.inr (Or.inr (Or.inl ⟨rfl, rfl, trivial⟩))
      case measure => simp [intOf]
    · go_wp2
      go_roundw
      case rel => exact Or.inr (Or.inr (Or.inr (⟨rfl, rfl, trivial⟩)))
      case measure => simp [intOf]
    · go_wp2
      go_ret
      exact ⟨rfl, rfl⟩
theorem put_any (n : Int) (w : World) (hn : Good n) :
    Calls Tryd.prog 11 #[.int .i64 n] w fun e w' => e = .returned (.slice (some ⟨w.heap.size, 0, none⟩) (wid n) (wid n)) ∧ w' = w.alloc (.cells (bv (put n)).toArray 5) := by
  have hr := Rn.Good.rng hn
  unfold wid put
  by_cases h1 : n < 128
  · rw [if_pos h1, if_pos h1]; exact put1 n w hr.1 h1
  · rw [if_neg h1, if_neg h1]
    by_cases h2 : n < 2048
    · rw [if_pos h2, if_pos h2]; exact put2 n w (by omega) h2
    · rw [if_neg h2, if_neg h2]
      by_cases h3 : n < 65536
      · rw [if_pos h3, if_pos h3]
        have e1 : n / 64 / 64 = n / 4096 := by omega
        have := put3 n w (by omega) h3
        rw [e1] at this
        exact this
      · rw [if_neg h3, if_neg h3]
        have e1 : n / 64 / 64 = n / 4096 := by omega
        have e2 : n / 4096 / 64 = n / 262144 := by omega
        have := put4 n w (by omega) hr.2
        rw [e1, e2] at this
        exact this
end Go.Proofs.YtljanfmmhglpiaaDoor
