/-
  The contracts of the library's Grow of nothing and of its Concat of two rows of numbers.
  The contract of layer 6's lookedUp.
  The contracts of layer 6's listed (its own cells kept) and of pieces, function by function.
  The contract of layer 6's Dy, out of that of pieces.
  What comes of layer 6's rotated, lookedUp and taken may be; Dy of these.
  Rotations add up; by as many as there are an array is itself. Mathematics.
  The contract of layer 6's statements' light.
  The contracts of the document's Atom and Nums once more: the slices of what they give are no longer than their rows.
  The contract of layer 6's dropped.
-/
import Derived.Test.YtmjncdhahdpplaaM6
import Derived.Test.YtmjncdhahdpplaaM4
namespace Go.Proofs.Ytmjncdhahdpplaa
open Go.ChangeShapes Go.WideShapes Go.ChangeAt Go.RowKit
set_option linter.unusedVariables false
set_option maxRecDepth 100000
theorem run_append_zeros0 (w : World) (L : Nat) (hL : L ≤ 16) (h0 : 0 < L) : ∃ gc cs, (∀ ty, (Builtin.append_ #[22, 3] ty #[.slice none 0 0, .int .i64 (L : Int)]).run Try.prog w = .ok (.slice (some ⟨w.heap.size, 0, none⟩) L gc) (w.drew.alloc (.cells cs 3))) ∧ L ≤ gc ∧ gc ≤ maxLen ∧ cs.size = gc ∧ ∀ i, i < gc → cs[i]? = some (.int .i64 0) := by
  obtain ⟨i, hi, hz, hs, hb⟩ := infoI3
  have hg := grownCap_ge w L 0 3
  refine ⟨grownCap w L 0 3, Builtin.zeroCells #[.int .i64 0] L ++ Builtin.zeroCells #[.int .i64 0] (grownCap w L 0 3 - L), ?_, hg, grownCap_le_maxLen w L 0 3 (by unfold maxLen; omega), ?_, ?_⟩
  · intro ty
    have hn : ¬ ((L : Int) ≤ 0) := by omega
    have hw : IntKind.i64.wrap (L : Int) = (L : Int) := IntWalk.i64_in _ ⟨by omega, by omega⟩
    have h1 : ¬ ((L : Int) < 0) := by omega
    have h2 : ¬ (281474976710656 < (L : Int) * 8) := by omega
    have h4 : ¬ (9223372036854775807 < max (L : Int) 0) := by omega
    have h5 := growslice_fits (need := L) (old := 0) (bytes := 8) (by omega) (by omega)
    have h48 : ¬ (281474976710656 < Builtin.nextslicecap L 0 * 8) := by omega
    have h6 : ¬ L = 0 := by omega
    simp [Builtin.append_, run_underlying Try.underlying22, run_underlying under3, sizeOf, typeInfo, zeroValue, hi, hz, hs, hb, Builtin.lenOf, hw, h1, h2, h48, h6, Question.forced, newRow, grownCap, asInt, asIntOf, Builtin.firstCells]
    rw [if_neg (by omega)]
    rfl
  · rw [Array.size_append, size_zeroCells, size_zeroCells]
    simp
    omega
  · intro i hi
    rw [Array.getElem?_append, size_zeroCells]
    simp only [List.size_toArray, List.length_cons, List.length_nil, Nat.zero_add, Nat.mul_one]
    by_cases h : i < L
    · rw [if_pos h]; simp [Builtin.zeroCells, h, Nat.mod_one]
    · have hh : i - L < grownCap w L 0 3 - L := by omega
      rw [if_neg h]; simp [Builtin.zeroCells, Nat.mod_one, hh]
set_option maxHeartbeats 2000000 in
theorem grow_any (L : Nat) (hL : L ≤ 16) (w : World) : Calls Try.prog 109 #[.slice none 0 0, .int .i64 (L : Int)] w fun e w' => (∃ v, e = .returned v ∧ w'.ownsRow w.heap.size 3 1 v 0 []) ∧ Below w.heap.size w w' := by
  by_cases h0 : L = 0
  · subst h0
    go_enter Try.func109, Try.ntmps109
    go_wp2
    go_ret
    exact ⟨⟨_, rfl, World.ownsRow_nil _ _ _ _⟩, Below.refl _ _⟩
  · obtain ⟨gc, cs, hrun, h1, hmx, h2, h3⟩ := run_append_zeros0 w L hL (by omega)
    have HRUN := hide hrun
    have hp1 : ∀ W, (Instr.sliceAt 22 (.slice none 0 0) none (some (.int .i64 0)) none).run Try.prog W = .ok (.slice none 0 0) W := fun W => part_h (P := Try.prog) Try.underlying22 size3 none 0 0 0 0 rfl (Nat.le_refl _) W
    have hp2 : ∀ W, (Instr.sliceAt 22 (.slice (some ⟨w.heap.size, 0, none⟩) L gc) none (some (.int .i64 0)) none).run Try.prog W = .ok (.slice (some ⟨w.heap.size, 0, none⟩) 0 gc) W := fun W => part_h (P := Try.prog) Try.underlying22 size3 (some ⟨w.heap.size, 0, none⟩) L gc 0 0 rfl (Nat.zero_le _) W
    have HF : Hid ((w.drew.alloc (.cells cs 3)).ownsRow w.heap.size 3 1 (.slice (some ⟨w.heap.size, 0, none⟩) 0 gc) 0 [] ∧ Below w.heap.size w (w.drew.alloc (.cells cs 3))) := by
      refine ⟨⟨by simp, Or.inr ⟨w.heap.size, gc, cs, rfl, Nat.le_refl _, ?_, Nat.zero_le _, hmx, by omega, by simp⟩⟩, ((Below.refl _ _).drew).alloc (Nat.le_refl _) _⟩
      show (w.heap.push _)[w.heap.size]? = _
      simp
    clear hrun h1 h2 h3 hmx
    go_enter Try.func109, Try.ntmps109
    go_wp2_with (at_builtin; refine wpList_append_run (by rfl) (.tmp 20) (.tmp 21) 22 3 rfl _ _ rfl rfl _ _ (HRUN.out _) ?_)
    go_wp2
    go_ret
    exact ⟨⟨_, rfl, HF.out.1⟩, HF.out.2⟩
set_option maxHeartbeats 4000000 in
theorem concat_any {lo lo' : Nat} (l1 l2 : List Int) (a1 a2 : Option Addr) (c1 c2 V : Nat) (w : World) (R1 : Row lo w a1 l1) (R2 : Row lo' w a2 l2) (hV : V < w.heap.size) (v0 : w.cell? ⟨V, 0, none⟩ = some (.slice a1 l1.length c1)) (v1 : w.cell? ⟨V, 1, none⟩ = some (.slice a2 l2.length c2)) (h1 : l1.length ≤ 8) (h2 : l2.length ≤ 8) :
    Calls Try.prog 102 #[.slice (some ⟨V, 0, none⟩) 2 2] w fun e w' => (∃ a cap, e = .returned (.slice a (l1.length + l2.length) cap) ∧ Own1 w w' a cap (l1 ++ l2)) ∧ Below w.heap.size w w' := by
  obtain ⟨i3, hi3, hz30, hz31, hz32⟩ := infoI3
  have HRR := hide (And.intro R1 R2)
  have HVV := hide (And.intro hV (And.intro v0 v1))
  obtain ⟨n1, hn1⟩ : ∃ n1, l1.length = n1 := ⟨_, rfl⟩
  obtain ⟨n2, hn2⟩ : ∃ n2, l2.length = n2 := ⟨_, rfl⟩
  have HNN := hide (And.intro hn1 hn2)
  rw [hn1] at v0 h1 HVV ⊢
  rw [hn2] at v1 h2 HVV ⊢
  have C := grow_any (n1 + n2) (by omega) w
  clear R1 R2 hn1 hn2
  go_enter Try.func102, Try.ntmps102
  go_wp2
  go_loopg [3, 11] 2 (fun g s i wr => wr = w ∧ ∃ j : Nat, g + j = 2 ∧ i = .int .i64 (j : Int) ∧ s = .int .i64 (if j = 0 then 0 else if j = 1 then (n1 : Int) else (n1 : Int) + (n2 : Int)))
  case atStart => exact ⟨rfl, 0, rfl, rfl, rfl⟩
  case round =>
    obtain ⟨hw, j, hg, rfl, rfl⟩ := hrel
    have hw' := hw.symm
    subst hw'
    have hj : j = 0 ∨ j = 1 ∨ j = 2 := by omega
    rcases hj with rfl | rfl | rfl
    · clear C
      go_wp2
      go_roundg 1
      case rel => exact ⟨rfl, 1, by omega, by go_num, by go_num⟩
      case measure => omega
    · clear C
      go_wp2
      go_roundg 0
      case rel => exact ⟨rfl, 2, by omega, by go_num, by go_num⟩
      case measure => omega
    · go_wp2_with fail
      clear v0 v1
      refine C.mono ?_
      clear C
      rintro e w2 ⟨⟨v, rfl, hown⟩, hb2⟩
      have HST := hide (And.intro hb2 hown)
      obtain ⟨a0, c0, rfl⟩ : ∃ a c, v = .slice a 0 c := by obtain ⟨a, c, h, -⟩ := owns_cap hown; exact ⟨a, c, h⟩
      clear hb2 hown
      go_wp2
      go_loopg [6, 27] 2 (fun g mv i wr => ∃ j : Nat, g + j = 2 ∧ i = .int .i64 (j : Int) ∧ Below w.heap.size w wr ∧ (if j = 0 then wr.ownsRow w.heap.size 3 1 mv 0 [] else if j = 1 then wr.ownsRow w.heap.size 3 1 mv n1 (l1.map (Value.int .i64)) else wr.ownsRow w.heap.size 3 1 mv (n1 + n2) ((l1 ++ l2).map (Value.int .i64))))
      case atStart => exact ⟨0, rfl, rfl, HST.out.1, by rw [if_pos rfl]; exact HST.out.2⟩
      case round =>
        clear HST
        obtain ⟨j, hg, rfl, hbw, hown⟩ := hrel
        have u0 := (hbw.cell (p := ⟨V, 0, none⟩) HVV.out.1).trans HVV.out.2.1
        have u1 := (hbw.cell (p := ⟨V, 1, none⟩) HVV.out.1).trans HVV.out.2.2
        have HBW := hide hbw
        have HSZ : Hid (w.heap.size ≤ wr.heap.size) := hbw.size
        have hj : j = 0 ∨ j = 1 ∨ j = 2 := by omega
        rcases hj with rfl | rfl | rfl
        · skip
          rw [if_pos rfl] at hown
          have HOWN := hide hown
          clear hown
          have HLI : Hid (Lies wr a1 (l1.map (Value.int .i64))) := (HRR.out.1.next hbw).lies
          have HLN : Hid ((l1.map (Value.int .i64)).length = n1 * 1) := by unfold Hid; rw [List.length_map, HNN.out.1, Nat.mul_one]
          clear hbw
          go_wp2_with (at_builtin; refine wpList_append_any rfl _ _ 22 rfl w.heap.size 3 i3 (.int .i64 0) 1 8 Try.underlying22 hi3 hz30 hz31 hz32 rfl (by decide) _ 0 [] rfl HOWN.out a1 n1 c1 (l1.map (Value.int .i64)) rfl HLN.out HLI.out ?c3 ?c4 HSZ.out ?_)
          case c3 => unfold maxLen; omega
          case c4 => omega
          intro v' w5 hown5 hb5
          have HF : Hid (Below w.heap.size w w5 ∧ w5.ownsRow w.heap.size 3 1 v' n1 (l1.map (Value.int .i64))) := ⟨HBW.out.trans hb5, by simpa using hown5⟩
          clear hown5 hb5 HOWN HLN HLI HSZ HBW u0 u1
          go_wp2
          go_roundg 1
          case rel => exact ⟨1, by omega, by go_num, HF.out.1, by rw [if_neg (by decide), if_pos rfl]; exact HF.out.2⟩
          case measure => omega
        · skip
          rw [if_neg (by decide), if_pos rfl] at hown
          have HOWN := hide hown
          clear hown
          have HLI : Hid (Lies wr a2 (l2.map (Value.int .i64))) := (HRR.out.2.next hbw).lies
          have HLN : Hid ((l2.map (Value.int .i64)).length = n2 * 1) := by unfold Hid; rw [List.length_map, HNN.out.2, Nat.mul_one]
          clear hbw
          go_wp2_with (at_builtin; refine wpList_append_any rfl _ _ 22 rfl w.heap.size 3 i3 (.int .i64 0) 1 8 Try.underlying22 hi3 hz30 hz31 hz32 rfl (by decide) _ n1 (l1.map (Value.int .i64)) rfl HOWN.out a2 n2 c2 (l2.map (Value.int .i64)) rfl HLN.out HLI.out ?c3 ?c4 HSZ.out ?_)
          case c3 => unfold maxLen; omega
          case c4 => omega
          intro v' w5 hown5 hb5
          have HF : Hid (Below w.heap.size w w5 ∧ w5.ownsRow w.heap.size 3 1 v' (n1 + n2) ((l1 ++ l2).map (Value.int .i64))) := ⟨HBW.out.trans hb5, by rw [List.map_append]; exact hown5⟩
          clear hown5 hb5 HOWN HLN HLI HSZ HBW u0 u1
          go_wp2
          go_roundg 0
          case rel => exact ⟨2, by omega, by go_num, HF.out.1, by rw [if_neg (by decide), if_neg (by decide)]; exact HF.out.2⟩
          case measure => omega
        · skip
          rw [if_neg (by decide), if_neg (by decide), ← HNN.out.1, ← HNN.out.2, ← List.length_append] at hown
          obtain ⟨a, cap, rfl, ho⟩ := own1_of (by rw [List.length_append, HNN.out.1, HNN.out.2]; omega) hown
          have HF := hide (And.intro ho hbw)
          rw [List.length_append, HNN.out.1, HNN.out.2]
          clear hown ho hbw u0 u1
          go_wp2
          go_ret
          exact ⟨⟨_, _, rfl, HF.out.1⟩, HF.out.2⟩
end Go.Proofs.Ytmjncdhahdpplaa
namespace Go.Proofs.Ytmjncdhahdpplaa
open Go.ChangeShapes Go.WideShapes Go.ChangeAt Go.RowKit
set_option linter.unusedVariables false
set_option maxRecDepth 100000
/-- All blocks but one are kept. -/
structure Kp (W : World) (B : Nat) (wr : World) : Prop where
  io : Below 0 W wr
  keep : ∀ b, b < W.heap.size → b ≠ B → wr.heap[b]? = W.heap[b]?
theorem Kp.refl (W : World) (B : Nat) : Kp W B W := ⟨Below.refl _ _, fun _ _ _ => rfl⟩
theorem Kp.below {W wr : World} {B b : Nat} (h : Kp W B wr) (hb : b ≤ B) (hW : b ≤ W.heap.size) : Below b W wr := ⟨h.io.os, h.io.tape, h.io.output, h.io.size, fun k hk => h.keep k (by omega) (by omega)⟩
theorem Kp.step {W wr : World} {B : Nat} (h : Kp W B wr) (o : Obj) (i : Nat) (v : Value) : Kp W B ((wr.setCell ⟨B, i, none⟩ v).alloc o).drew := by
  have h1 := one_alloc (wr.setCell ⟨B, i, none⟩ v) o
  have hs : (wr.setCell ⟨B, i, none⟩ v).heap.size = wr.heap.size := by simp
  refine ⟨((h.io.setCell (p := ⟨B, i, none⟩) (Nat.zero_le _) v).trans (h1.mono (Nat.zero_le _))).drew, fun b hb hne => ?_⟩
  have e1 : ((wr.setCell ⟨B, i, none⟩ v).alloc o).heap[b]? = (wr.setCell ⟨B, i, none⟩ v).heap[b]? := h1.block b (by rw [hs]; exact Nat.lt_of_lt_of_le hb h.io.size)
  have e2 : (wr.setCell ⟨B, i, none⟩ v).heap[b]? = wr.heap[b]? := Below.heap_setCell _ _ _ _ (by show b ≠ B; exact hne)
  exact (e1.trans e2).trans (h.keep b hb hne)
def lkF (x y : Ar) (i : Nat) : Int := if ¬ (cAt x.cells i).1 = 0 then 5 else if (cAt x.cells i).2.1 < 0 ∨ gI y.shape 0 ≤ (cAt x.cells i).2.1 then 8 else 0
def lkL (x : Ar) : List Int := (List.range x.cells.length).map fun i => (cAt x.cells i).2.1
theorem lkL_len (x : Ar) : (lkL x).length = x.cells.length := by simp [lkL]
theorem lkL_at (x : Ar) (i : Nat) (hi : i < x.cells.length) : gI (lkL x) i = (cAt x.cells i).2.1 := by simp [gI, lkL, hi]
def lookR (x y : Ar) : Ar × Int :=
  if y.shape.length = 0 ∨ 9 < x.shape.length + y.shape.length then (zeroA, 6) else if ¬ firstUp (lkF x y) x.cells.length = 0 then (zeroA, firstUp (lkF x y) x.cells.length) else
  if ¬ sizeE (x.shape ++ y.shape.tail) = 0 then (zeroA, sizeE (x.shape ++ y.shape.tail)) else (.mk (x.shape ++ y.shape.tail) (alongA y 0 (lkL x)).cells, 0)
theorem look_size {x y : Ar} (hx : chkA 8 x = 0) (hy : chkA 8 y = 0) (hS : 0 < y.shape.length) (hE : sizeE (x.shape ++ y.shape.tail) = 0) : sizeE (y.shape.set 0 (x.cells.length : Int)) = 0 := by
  obtain ⟨d, t, hdt⟩ : ∃ d t, y.shape = d :: t := by
    cases hsh : y.shape with
    | nil => rw [hsh] at hS; simp at hS
    | cons d t => exact ⟨d, t, rfl⟩
  rw [hdt] at hE ⊢
  simp only [List.tail_cons, List.set_cons_zero] at hE ⊢
  obtain ⟨h1, h2, h3, -⟩ := (chkA_iff 8 x).1 hx
  obtain ⟨l8, g2, g3⟩ := fine_cases hE
  have ly := (fine_cases ((chkA_iff 8 y).1 hy).1).1
  rw [hdt] at ly
  refine (fine_mk (l := (x.cells.length : Int) :: t) (by simpa using ly) (fun z hz => ?_) ?_).1
  · rcases List.mem_cons.1 hz with h | h
    · omega
    · exact g2 z (List.mem_append.2 (Or.inr h))
  · rcases g3 with ⟨⟨z, hz, hz0⟩, -⟩ | ⟨hp, hle, -⟩
    · left
      rcases List.mem_append.1 hz with h | h
      · refine ⟨_, List.mem_cons_self, ?_⟩
        have : sizeV x.shape = 0 := by rw [sizeV_prod h1]; exact prodL_zero ⟨z, h, hz0⟩
        omega
      · exact ⟨z, List.mem_cons.2 (Or.inr h), hz0⟩
    · right
      rw [prodL_append] at hle
      have : prodL ((x.cells.length : Int) :: t) = (x.cells.length : Int) * prodL t := rfl
      rw [this, ← h2, sizeV_prod h1]; exact hle
set_option maxHeartbeats 8000000 in
theorem looked_any {n m lo lo' : Nat} {x y : Ar} {va vb : Value} {w0 w : World} (hx : ArIn (m + 1) lo w0 x va) (hy : ArIn (n + 1) lo' w0 y vb) (hb0 : Below w0.heap.size w0 w) (hcx : chkA 8 x = 0) (hcy : chkA 8 y = 0) (hcap : Caps vb) :
    Calls Try.prog 80 #[va, vb] w fun e w' => Gives2K (n + 1) w0 (lookR x y).1 (lookR x y).2 w e w' := by
  obtain ⟨a1, c1, a2, c2, rfl, R, hc⟩ := hx.form
  obtain ⟨b1, d1, b2, d2, rfl, R', hc'⟩ := hy.form
  have I := in3_new w (.slice a1 x.shape.length c1) (.slice a2 x.cells.length c2) (.slice b1 y.shape.length d1) (.slice b2 y.cells.length d2)
  obtain ⟨W3, e3⟩ : ∃ W3, ((w.alloc (.cells #[.slice a1 x.shape.length c1, .slice a2 x.cells.length c2] 25)).alloc (.cells #[.slice b1 y.shape.length d1, .slice b2 y.cells.length d2] 25)).alloc (.cells #[.slice none 0 0, .slice none 0 0] 25) = W3 := ⟨_, rfl⟩
  rw [e3] at I
  have z3 : W3.heap.size = w.heap.size + 3 := by rw [← e3]; simp
  have HI := hide I
  have HB0 := hide hb0
  have HX := hide hcx
  have HY := hide (And.intro hy (And.intro hcy hcap))
  have HR := hide (And.intro R (And.intro R' hc))
  obtain ⟨lx8, cx16⟩ := chk_len hcx
  obtain ⟨ly8, cy16⟩ := chk_len hcy
  have HE : Hid (lookR x y = if y.shape.length = 0 ∨ 9 < x.shape.length + y.shape.length then (zeroA, 6) else if ¬ firstUp (lkF x y) x.cells.length = 0 then (zeroA, firstUp (lkF x y) x.cells.length) else if ¬ sizeE (x.shape ++ y.shape.tail) = 0 then (zeroA, sizeE (x.shape ++ y.shape.tail)) else (.mk (x.shape ++ y.shape.tail) (alongA y 0 (lkL x)).cells, 0)) := rfl
  have hlx := R.1
  have hly := R'.1
  obtain ⟨SX, hSX⟩ : ∃ SX, x.shape.length = SX := ⟨_, rfl⟩
  obtain ⟨CX, hCX⟩ : ∃ CX, x.cells.length = CX := ⟨_, rfl⟩
  obtain ⟨SY, hSY⟩ : ∃ SY, y.shape.length = SY := ⟨_, rfl⟩
  obtain ⟨CY, hCY⟩ : ∃ CY, y.cells.length = CY := ⟨_, rfl⟩
  have HSC := hide (And.intro hSX (And.intro hCX (And.intro hSY hCY)))
  have q0 := I.q0
  have q1 := I.q1
  have r0 := I.r0
  have r1 := I.r1
  have p0 := I.p0
  have p1 := I.p1
  have f0 := I.f0
  have f1 := I.f1
  have HT0 := hide (I.put (.slice none 0 0) (.slice none 0 0))
  simp only [hSX, hCX, hSY, hCY] at e3 q0 q1 r0 r1 HI HY HE lx8 cx16 ly8 cy16 ⊢
  have HZ3 := hide z3
  clear R hc I hx hy R' hc' hSX hCX hSY hCY hb0 hcx hcy hcap hlx hly z3
  by_cases hS0 : SY = 0
  · have HE5 : Hid (lookR x y = (zeroA, 6)) := by unfold Hid; rw [HE.out, if_pos (Or.inl hS0)]
    have hSb : ((SY : Int) == 0) = true := by simp [hS0]
    clear HE HY HR hS0
    go_enter Try.func80, Try.ntmps80
    go_wp2
    exact bodyPost_ret (v := .tuple #[.agg #[.slice none 0 0, .slice none 0 0], .int .i64 6]) (by simp [results, Try.results80, go_sem, HT0.out.1, HT0.out.2]) rfl (gives2k_of HE5.out caps_nil (fun _ _ _ => zeroA_in _ _ _) (HI.out.fin _ _))
  have hSb : ((SY : Int) == 0) = false := by simp; omega
  by_cases h9 : 9 < SX + SY
  · have HE5 : Hid (lookR x y = (zeroA, 6)) := by unfold Hid; rw [HE.out, if_pos (Or.inr h9)]
    have h9' : (8 : Int) < (SX : Int) + (SY : Int) - 1 := by omega
    clear HE HY HR hS0
    go_enter Try.func80, Try.ntmps80
    go_wp2
    exact bodyPost_ret (v := .tuple #[.agg #[.slice none 0 0, .slice none 0 0], .int .i64 6]) (by simp [results, Try.results80, go_sem, HT0.out.1, HT0.out.2]) rfl (gives2k_of HE5.out caps_nil (fun _ _ _ => zeroA_in _ _ _) (HI.out.fin _ _))
  have h9' : ¬ (8 : Int) < (SX : Int) + (SY : Int) - 1 := by omega
  have mk := run_make_row' (P := Try.prog) 22 3 (.int .i64 0) 8 Try.underlying22 int3 rfl .i64 .i64 CX (by omega) (by omega) W3
  obtain ⟨W4, e4⟩ : ∃ W4, W3.alloc (.cells (madeCells #[.int .i64 0] CX) 3) = W4 := ⟨_, rfl⟩
  rw [e4] at mk
  have B4 : Below W3.heap.size W3 W4 := by rw [← e4]; exact one_alloc _ _
  have z4 : W4.heap.size = W3.heap.size + 1 := by rw [← e4]; simp
  have RM : W4.rowIs W3.heap.size 3 CX (toF (lkL x) 0) := by
    rw [← e4]
    exact (World.rowIs_made W3 (.int .i64 0) CX 3).congr fun i hi => by unfold toF; rw [if_neg (by omega)]
  have I4 := HI.out.next B4
  have q14 := I4.q1
  have HI4 := hide I4
  have HZ4 := hide z4
  have HRM := hide RM
  obtain ⟨ab, cb, hcf⟩ := cells_fn HR.out.2.2
  have HCF := hide hcf
  rw [HSC.out.2.1] at HCF
  obtain ⟨bs, os, rfl, hbs, hcs⟩ := row_at HR.out.2.1 (j := 0) (by rw [HSC.out.2.2.1]; omega)
  obtain ⟨D, hD⟩ : ∃ D, gI y.shape 0 = D := ⟨_, rfl⟩
  have eg : y.shape[0]?.getD 0 = D := hD
  rw [eg, Nat.add_zero] at hcs
  have HBS := hide (And.intro hbs hcs)
  have HD := hide hD
  clear B4 z4 RM I4 hcf p0 p1 f0 f1 HT0 hbs hcs eg hD
  go_enter Try.func80, Try.ntmps80
  go_wp2
  clear mk e3 e4 q0 q1 r0 r1 q14
  go_loopg [35] CX (fun g i wr => ∃ j : Nat, g + j = CX ∧ i = .int .i64 (j : Int) ∧ firstUp (lkF x y) j = 0 ∧ Kp W4 W3.heap.size wr ∧ wr.rowIs W3.heap.size 3 CX (toF (lkL x) j))
  case atStart => exact ⟨0, rfl, rfl, rfl, Kp.refl _ _, HRM.out⟩
  case round =>
    clear HRM
    obtain ⟨j, hgj, rfl, hfu, hK, hrow⟩ := hrel
    have hz3 := HZ3.out
    have hz4 := HZ4.out
    have I6 : In3 w (.slice a1 SX c1) (.slice a2 CX c2) (.slice (some ⟨bs, os, none⟩) SY d1) (.slice b2 CY d2) wr := HI4.out.belowS (hK.below (b := w.heap.size + 3) (by omega) (by omega)) (Nat.le_refl _)
    have hNB := HB0.out.trans (I6.bel.mono HB0.out.size)
    by_cases hlt : j < CX
    · obtain ⟨b, off, rfl, -, hb, hcells⟩ := HCF.out (by omega)
      obtain ⟨g0, g1, g2, -⟩ := hcells j hlt
      have u0 := (hNB.cell (p := ⟨b, off + j * 3, none⟩) hb).trans g0
      have u1 := (hNB.cell (p := ⟨b, off + j * 3 + 1, none⟩) hb).trans g1
      have u2 := (hNB.cell (p := ⟨b, off + j * 3 + 2, none⟩) hb).trans g2
      have HLF : Hid (lkF x y j = if ¬ (cAt x.cells j).1 = 0 then 5 else if (cAt x.cells j).2.1 < 0 ∨ D ≤ (cAt x.cells j).2.1 then 8 else 0) := by unfold Hid lkF; rw [HD.out]
      have HLA : Hid (gI (lkL x) j = (cAt x.cells j).2.1) := lkL_at x j (by rw [HSC.out.2.1]; exact hlt)
      clear g0 g1 g2 hcells
      generalize (cAt x.cells j).1 = kk at *
      generalize (cAt x.cells j).2.1 = NN at *
      generalize (cAt x.cells j).2.2.length = nb at *
      generalize ab j = abp at *
      generalize cb j = cbp at *
      have BA := one_alloc wr (.cells #[.int .i64 kk, .int .i64 NN, .slice abp nb cbp] 36)
      have I5 := I6.next BA
      have HERR : Hid (∀ E, lkF x y j = E → ¬ E = 0 → lookR x y = (zeroA, E)) := fun E h1 h2 => by
        rw [HE.out, if_neg (by omega), firstUp_hit hfu (by rw [h1]; exact h2) CX hlt, h1, if_pos h2]
      by_cases hkk : kk = 0
      case neg =>
        have HE5 : Hid (lookR x y = (zeroA, 5)) := HERR.out 5 (by rw [HLF.out, if_pos hkk]) (by decide)
        have hkb : (kk == 0) = false := beq_eq_false_iff_ne.2 hkk
        have HT5 := hide (I5.put (.slice none 0 0) (.slice none 0 0))
        have HI5 := hide I5
        have p0 := I5.p0
        have p1 := I5.p1
        have f0 := I5.f0
        have f1 := I5.f1
        clear hrow hK I6 I5 HY HR HCF
        go_wp2
        exact bodyPost_ret (v := .tuple #[.agg #[.slice none 0 0, .slice none 0 0], .int .i64 5]) (by simp [results, Try.results80, go_sem, HT5.out.1, HT5.out.2]) rfl (gives2k_of HE5.out caps_nil (fun _ _ _ => zeroA_in _ _ _) (HI5.out.fin _ _))
      subst hkk
      by_cases hN0 : NN < 0
      · have HE5 : Hid (lookR x y = (zeroA, 8)) := HERR.out 8 (by rw [HLF.out, if_neg (by simp), if_pos (Or.inl hN0)]) (by decide)
        have HT5 := hide (I5.put (.slice none 0 0) (.slice none 0 0))
        have HI5 := hide I5
        have p0 := I5.p0
        have p1 := I5.p1
        have f0 := I5.f0
        have f1 := I5.f1
        clear hrow hK I6 I5 HY HR HCF
        go_wp2
        exact bodyPost_ret (v := .tuple #[.agg #[.slice none 0 0, .slice none 0 0], .int .i64 8]) (by simp [results, Try.results80, go_sem, HT5.out.1, HT5.out.2]) rfl (gives2k_of HE5.out caps_nil (fun _ _ _ => zeroA_in _ _ _) (HI5.out.fin _ _))
      have y0 := I5.r0
      have y1 := ((hNB.trans (BA.mono hNB.size)).cell (p := ⟨bs, os, none⟩) HBS.out.1).trans HBS.out.2
      have x1 : (wr.alloc (.cells #[.int .i64 0, .int .i64 NN, .slice abp nb cbp] 36)).cell? ⟨wr.heap.size, 1, none⟩ = some (.int .i64 NN) := cell_new0 wr _ 36 1 _ rfl
      by_cases hND : D ≤ NN
      · have HE5 : Hid (lookR x y = (zeroA, 8)) := HERR.out 8 (by rw [HLF.out, if_neg (by simp), if_pos (Or.inr hND)]) (by decide)
        have HT5 := hide (I5.put (.slice none 0 0) (.slice none 0 0))
        have HI5 := hide I5
        have p0 := I5.p0
        have p1 := I5.p1
        have f0 := I5.f0
        have f1 := I5.f1
        clear hrow hK I6 I5 HY HR HCF
        go_wp2
        go_region
        all_goals
          go_wp2
          exact bodyPost_ret (v := .tuple #[.agg #[.slice none 0 0, .slice none 0 0], .int .i64 8]) (by simp [results, Try.results80, go_sem, HT5.out.1, HT5.out.2]) rfl (gives2k_of HE5.out caps_nil (fun _ _ _ => zeroA_in _ _ _) (HI5.out.fin _ _).drew)
      · have zN := hrow.cell (i := j) hlt
        have yN := hrow.frozen j
        have hBl : W3.heap.size < wr.heap.size := by have := hK.io.size; omega
        have zN' := (BA.cell (p := ⟨W3.heap.size, j, none⟩) hBl).trans zN
        have yN' := (BA.frozen (p := ⟨W3.heap.size, j, none⟩) hBl).trans yN
        have HS : Hid (Kp W4 W3.heap.size ((wr.setCell ⟨W3.heap.size, j, none⟩ (.int .i64 NN)).alloc (.cells #[.int .i64 0, .int .i64 NN, .slice abp nb cbp] 36)).drew ∧ ((wr.setCell ⟨W3.heap.size, j, none⟩ (.int .i64 NN)).alloc (.cells #[.int .i64 0, .int .i64 NN, .slice abp nb cbp] 36)).drew.rowIs W3.heap.size 3 CX (toF (lkL x) (j + 1)) ∧ firstUp (lkF x y) (j + 1) = 0) := by
          refine ⟨hK.step _ _ _, ?_, ?_⟩
          · have hr2 : (wr.setCell ⟨W3.heap.size, j, none⟩ (.int .i64 NN)).rowIs W3.heap.size 3 CX (toF (lkL x) (j + 1)) := (hrow.set j (.int .i64 NN)).congr (fun i _ => by rw [toF_step, HLA.out])
            obtain ⟨cc, k1, k2, k3⟩ := hr2
            exact ⟨cc, ((one_alloc (wr.setCell ⟨W3.heap.size, j, none⟩ (.int .i64 NN)) _).block _ (by simpa using hBl)).trans k1, k2, k3⟩
          · rw [firstUp_step hfu, HLF.out, if_neg (by simp), if_neg (by omega)]
        generalize toF (lkL x) j j = yv at *
        clear hrow hK I6 I5 HY HR HCF BA zN yN hNB hz3 hz4
        go_wp2
        go_region
        all_goals
          go_wp2
          go_roundg (CX - (j + 1))
          case rel => exact ⟨j + 1, by omega, by go_num, HS.out.2.2, HS.out.1, HS.out.2.1⟩
          case measure => omega
    · have hje : j = CX := by omega
      subst hje
      have q0 := I6.q0
      have r0 := I6.r0
      have HI6 := hide I6
      have hc1 := (caps_form HY.out.2.2).1
      have hp1 : ∀ W, (Instr.sliceAt 22 (.slice (some ⟨bs, os, none⟩) SY d1) (some (.int .i64 1)) none none).run Try.prog W = .ok (.slice (subA (some ⟨bs, os, none⟩) 1 d1 1) (SY - 1) (d1 - 1)) W := fun W => part_l (P := Try.prog) Try.underlying22 size3 (some ⟨bs, os, none⟩) SY d1 1 1 rfl (by omega) W
      have RT : Row lo' w0 (subA (some ⟨bs, os, none⟩) 1 d1 1) y.shape.tail := by
        have ht : ((y.shape.drop 1).take (SY - 1)) = y.shape.tail := by rw [List.take_of_length_le (by rw [List.length_drop, HSC.out.2.2.1]; omega), List.drop_one]
        have := HR.out.2.1.part 1 d1 (SY - 1) (by rw [HSC.out.2.2.1]; omega) (by rw [HSC.out.2.2.1]; exact hc1)
        rw [ht] at this
        exact this
      obtain ⟨bt, hbt⟩ : ∃ bt, subA (some ⟨bs, os, none⟩) 1 d1 1 = bt := ⟨_, rfl⟩
      rw [hbt] at RT
      simp only [hbt] at hp1
      have tl : y.shape.tail.length = SY - 1 := by rw [List.length_tail, HSC.out.2.2.1]
      have HCC : Hid (∀ W V, Below w0.heap.size w0 W → V < W.heap.size → W.cell? ⟨V, 0, none⟩ = some (.slice a1 SX c1) → W.cell? ⟨V, 1, none⟩ = some (.slice bt (SY - 1) (d1 - 1)) → Calls Try.prog 102 #[.slice (some ⟨V, 0, none⟩) 2 2] W fun e w' => (∃ a cap, e = .returned (.slice a (SX + (SY - 1)) cap) ∧ Own1 W w' a cap (x.shape ++ y.shape.tail)) ∧ Below W.heap.size W w') := by
        intro W V hW hV h0 h1
        have := concat_any x.shape y.shape.tail a1 bt c1 (d1 - 1) V W (HR.out.1.next hW) (RT.next hW) hV (by rw [HSC.out.1]; exact h0) (by rw [tl]; exact h1) (by rw [HSC.out.1]; exact lx8) (by rw [tl]; omega)
        rw [HSC.out.1, tl] at this
        exact this
      have HC2 : Hid (Calls Try.prog 102 #[.slice (some ⟨wr.heap.size, 0, none⟩) 2 2] (wr.alloc (.cells #[.slice a1 SX c1, .slice bt (SY - 1) (d1 - 1)] 22)).drew fun e w' => (∃ a cap, e = .returned (.slice a (SX + (SY - 1)) cap) ∧ Own1 (wr.alloc (.cells #[.slice a1 SX c1, .slice bt (SY - 1) (d1 - 1)] 22)).drew w' a cap (x.shape ++ y.shape.tail)) ∧ Below (wr.alloc (.cells #[.slice a1 SX c1, .slice bt (SY - 1) (d1 - 1)] 22)).drew.heap.size (wr.alloc (.cells #[.slice a1 SX c1, .slice bt (SY - 1) (d1 - 1)] 22)).drew w') := by
        have BA := one_alloc wr (.cells #[.slice a1 SX c1, .slice bt (SY - 1) (d1 - 1)] 22)
        exact HCC.out _ _ (hNB.trans (BA.mono hNB.size)).drew (by show wr.heap.size < (wr.alloc _).heap.size; simp) (cell_new0 wr _ 22 0 _ rfl) (cell_new0 wr _ 22 1 _ rfl)
      have HST := hide (And.intro hK (And.intro hrow hfu))
      have HTL := hide tl
      clear hK hrow hfu I6 hNB RT hbt tl hc1 hz3 hz4
      go_wp2
      go_cut [9] from 63 to 69 (fun s9 wx => ∃ as' cs' wv, s9 = .slice as' (SX + (SY - 1)) cs' ∧ Below wr.heap.size wr wv ∧ Below wv.heap.size wv wx ∧ Own1 wv wx as' cs' (x.shape ++ y.shape.tail))
      case first =>
        go_region_with (go_at_call 102; refine HC2.out.mono ?_; rintro e w9 ⟨⟨as', cs', rfl, ho⟩, hb9⟩)
        all_goals
          have HF9 := hide (And.intro ho hb9)
          clear ho hb9
          go_wp2
          go_meet
        all_goals
          case rel => exact ⟨as', cs', _, rfl, (one_alloc wr _).drew, HF9.out.2, HF9.out.1⟩
      case rest =>
        obtain ⟨as', cs', wv, rfl, hbv, hb9, ho⟩ := hcut
        have BWC : Below wr.heap.size wr wc := hbv.trans (hb9.mono hbv.size)
        have I9 := HI6.out.next BWC
        have HI9 := hide I9
        have hlen : (x.shape ++ y.shape.tail).length = SX + (SY - 1) := by rw [List.length_append, HSC.out.1, HTL.out]
        have CS := size_any (x.shape ++ y.shape.tail) as' cs' wc ho.2.2
        rw [hlen] at CS
        have HO9 := hide (And.intro ho (And.intro hbv hb9))
        obtain ⟨SE, hSE⟩ : ∃ z, sizeE (x.shape ++ y.shape.tail) = z := ⟨_, rfl⟩
        have HSE := hide hSE
        rw [hSE] at CS HE
        generalize sizeV (x.shape ++ y.shape.tail) = SV at CS
        have HBWC := hide BWC
        clear ho hbv hb9 BWC I9 hSE HCC HC2 hp1 q0 r0
        go_wp2_with fail
        refine CS.mono ?_
        clear CS
        rintro e wz ⟨rfl, rfl⟩
        have HE2 : Hid (lookR x y = if ¬ SE = 0 then (zeroA, SE) else (.mk (x.shape ++ y.shape.tail) (alongA y 0 (lkL x)).cells, 0)) := by unfold Hid; rw [HE.out, if_neg (by omega), if_neg (by rw [HST.out.2.2]; simp)]
        by_cases hS2 : SE = 0
        case neg =>
          have HE5 : Hid (lookR x y = (zeroA, SE)) := by unfold Hid; rw [HE2.out, if_pos hS2]
          have hne : (SE == 0) = false := beq_eq_false_iff_ne.2 hS2
          have HT9 := hide (HI9.out.put (.slice none 0 0) (.slice none 0 0))
          have p0 := HI9.out.p0
          have p1 := HI9.out.p1
          have f0 := HI9.out.f0
          have f1 := HI9.out.f1
          clear HE HE2 HY HR HCF HST
          go_wp2
          exact bodyPost_ret (v := .tuple #[.agg #[.slice none 0 0, .slice none 0 0], .int .i64 SE]) (by simp [results, Try.results80, go_sem, HT9.out.1, HT9.out.2]) rfl (gives2k_of HE5.out caps_nil (fun _ _ _ => zeroA_in _ _ _) (HI9.out.fin _ _))
        subst hS2
        have HE5 : Hid (lookR x y = (.mk (x.shape ++ y.shape.tail) (alongA y 0 (lkL x)).cells, 0)) := by unfold Hid; rw [HE2.out, if_neg (by simp)]
        have hll : (lkL x).length = j := by rw [lkL_len, HSC.out.2.1]
        have RR : Row 0 wz (some ⟨W3.heap.size, 0, none⟩) (lkL x) := (row_toF3 (lo := 0) (by rw [hll]; exact HST.out.2.1) (Nat.zero_le _) (by rw [hll]; omega)).next HBWC.out
        have C := along_any (k := 0) HY.out.1 (HB0.out.trans (HI9.out.bel.mono HB0.out.size)) HY.out.2.2 HY.out.2.1 (by rw [HSC.out.2.2.1]; omega) (lkL x) (some ⟨W3.heap.size, 0, none⟩) j RR (fun i hi => by
          rw [hll] at hi
          have h1 := firstUp_zero HST.out.2.2 i (by omega)
          have h2 := firstUp_zero HST.out.2.2 (i + 1) (by omega)
          rw [firstUp_step h1] at h2
          rw [lkL_at x i (by rw [HSC.out.2.1]; exact hi)]
          unfold lkF at h2
          by_cases hk : (cAt x.cells i).1 = 0
          · rw [if_neg (by simpa using hk)] at h2
            by_cases hn : (cAt x.cells i).2.1 < 0 ∨ gI y.shape 0 ≤ (cAt x.cells i).2.1
            · rw [if_pos hn] at h2; omega
            · omega
          · rw [if_pos hk] at h2; omega) (by rw [hll, ← HSC.out.2.1]; exact look_size HX.out HY.out.2.1 (by rw [HSC.out.2.2.1]; omega) HSE.out) (by rw [hll]; exact cx16)
        rw [hll] at C
        have r0 := HI9.out.r0
        have r1 := HI9.out.r1
        obtain ⟨Y, hYY⟩ : ∃ Y, alongA y 0 (lkL x) = Y := ⟨_, rfl⟩
        rw [hYY] at C HE5
        clear HE HE2 RR hYY HR HCF HST hll
        go_wp2_with fail
        refine C.mono ?_
        clear C r0 r1
        rintro e w5 ⟨⟨v, rfl, hcv, hv⟩, hb5⟩
        have NB : Below w0.heap.size w0 w5 := HB0.out.trans ((HI9.out.bel.trans (hb5.mono HI9.out.bel.size)).mono HB0.out.size)
        obtain ⟨z1, m1, z2, m2, rfl, -, -⟩ := (hv w5 NB (Keeps.refl _ _)).form
        have I5 := HI9.out.next hb5
        have p0 := I5.p0
        have p1 := I5.p1
        have f0 := I5.f0
        have f1 := I5.f1
        have fld := field25 z1 z2 Y.shape.length m1 Y.cells.length m2
        have HT := hide (I5.put (.slice as' (SX + (SY - 1)) cs') (.slice z2 Y.cells.length m2))
        have HF : Hid (∀ u v, Gives2K (n + 1) w0 (lookR x y).1 (lookR x y).2 w (.returned (.tuple #[.agg #[.slice as' (SX + (SY - 1)) cs', .slice z2 Y.cells.length m2], .int .i64 0])) ((w5.setCell ⟨w.heap.size + 2, 0, none⟩ u).setCell ⟨w.heap.size + 2, 1, none⟩ v)) := by
          intro u v
          refine gives2k_of HE5.out ⟨_, _, _, _, _, _, rfl, by have := HO9.out.1.1; rw [hlen] at this; exact this, (caps_form hcv).2⟩ (fun W hW hK => ?_) (I5.fin u v)
          have K2 := (keeps_three w5 w.heap.size u v).trans (hK.mono (show w.heap.size ≤ w.heap.size + 3 by omega))
          have hs6 := HI6.out.size
          have hs9 := HI9.out.size
          have hsv := HO9.out.2.1.size
          have A := hv W hW (K2.mono hs9)
          obtain ⟨y1, e1, y2, e2, hval, -, hcells⟩ := A.form
          simp only [Value.agg.injEq, Array.mk.injEq, List.cons.injEq, Value.slice.injEq, and_true] at hval
          obtain ⟨-, rfl, -⟩ := hval
          have RS := ((HO9.out.1.2.2.next hb5).keeps (K2.mono (show w.heap.size + 3 ≤ wv.heap.size by omega))).low (Nat.zero_le _)
          have hcl : Y.cells.length ≤ 5864062014805 := by obtain ⟨_, _, _, _, -, -, h, -⟩ := A; exact h
          exact arIn_mk (x := .mk (x.shape ++ y.shape.tail) Y.cells) RS hcl hcells hlen rfl
        clear I5 hv hcv hb5 NB
        generalize Y.shape.length = YS at *
        generalize Y.cells.length = YC at *
        go_wp2
        exact bodyPost_ret (v := .tuple #[.agg #[.slice as' (SX + (SY - 1)) cs', .slice z2 YC m2], .int .i64 0]) (by simp [results, Try.results80, go_sem, HT.out.1, HT.out.2]) rfl (HF.out _ _)
end Go.Proofs.Ytmjncdhahdpplaa
namespace Go.Proofs.Ytmjncdhahdpplaa
open Go.ChangeShapes Go.WideShapes Go.ChangeAt Go.RowKit
set_option linter.unusedVariables false
set_option maxRecDepth 100000
/-- What listed gives: the argument's own cells, and a shape that has an axis. -/
def LstIs (w0 : World) (x : Ar) (a2 : Option Addr) (c2 : Nat) (w : World) (e : Ending) (w' : World) : Prop := (∃ s1 k1, e = .returned (.agg #[.slice s1 (lstA x).shape.length k1, .slice a2 x.cells.length c2]) ∧ (lstA x).shape.length ≤ k1 ∧ ∀ W, Below w0.heap.size w0 W → Keeps w.heap.size w' W → Row 0 W s1 (lstA x).shape) ∧ Below w.heap.size w w'
set_option maxHeartbeats 4000000 in
theorem plisted_row {n lo : Nat} {x : Ar} {a1 a2 : Option Addr} {c1 c2 : Nat} {w0 w : World} (hx : ArIn (n + 1) lo w0 x (.agg #[.slice a1 x.shape.length c1, .slice a2 x.cells.length c2])) (hb0 : Below w0.heap.size w0 w) (hcap : Caps (.agg #[.slice a1 x.shape.length c1, .slice a2 x.cells.length c2])) : Calls Try.prog 76 #[.agg #[.slice a1 x.shape.length c1, .slice a2 x.cells.length c2]] w fun e w' => LstIs w0 x a2 c2 w e w' := by
  have R : Row lo w0 a1 x.shape := by
    obtain ⟨b1, e1, b2, e2, hv, R, -⟩ := hx.form
    simp only [Value.agg.injEq, Array.mk.injEq, List.cons.injEq, Value.slice.injEq, and_true] at hv
    obtain ⟨⟨rfl, -, rfl⟩, -⟩ := hv
    exact R
  have HRW := hide R
  have I := in2_new w (.slice a1 x.shape.length c1) (.slice a2 x.cells.length c2)
  obtain ⟨W2, e2⟩ : ∃ W2, (w.alloc (.cells #[.slice a1 x.shape.length c1, .slice a2 x.cells.length c2] 25)).alloc (.cells #[.slice none 0 0, .slice none 0 0] 25) = W2 := ⟨_, rfl⟩
  have hz2 : W2.heap.size = w.heap.size + 2 := by rw [← e2]; simp
  have hf0 : W2.frozen? ⟨w.heap.size, 0, none⟩ = false := by
    rw [← e2]
    exact ((one_alloc (w.alloc (.cells #[.slice a1 x.shape.length c1, .slice a2 x.cells.length c2] 25)) _).frozen (p := ⟨w.heap.size, 0, none⟩) (by simp)).trans (frozen_new w _ 25 0)
  rw [e2] at I
  have q0 := I.q0
  have q1 := I.q1
  have HX := hide (And.intro hx hcap)
  by_cases h0 : x.shape.length = 0
  · have HE : Hid (lstA x = .mk [1] x.cells) := by unfold Hid lstA; rw [if_pos h0]
    obtain ⟨W3, e3⟩ : ∃ W3, W2.alloc (.cells #[.int .i64 1] 3) = W3 := ⟨_, rfl⟩
    have B3 : Below W2.heap.size W2 W3 := by rw [← e3]; exact one_alloc _ _
    have z3 : W3.heap.size = w.heap.size + 3 := by rw [← e3]; simp [hz2]
    have o0 : W3.cell? ⟨w.heap.size + 2, 0, none⟩ = some (.int .i64 1) := by rw [← e3, ← hz2]; exact cell_new0 W2 _ 3 0 _ rfl
    have I3 := I.next B3
    have s0 : W3.cell? ⟨w.heap.size, 0, none⟩ = some (.slice a1 x.shape.length c1) := I3.q0
    have s1 : W3.cell? ⟨w.heap.size, 1, none⟩ = some (.slice a2 x.cells.length c2) := I3.q1
    have sf : W3.frozen? ⟨w.heap.size, 0, none⟩ = false := (B3.frozen (p := ⟨w.heap.size, 0, none⟩) (by show w.heap.size < _; omega)).trans hf0
    have p0 := I3.p0
    have p1 := I3.p1
    have f0 := I3.f0
    have f1 := I3.f1
    obtain ⟨W4, e4⟩ : ∃ W4, W3.setCell ⟨w.heap.size, 0, none⟩ (.slice (some ⟨w.heap.size + 2, 0, none⟩) 1 1) = W4 := ⟨_, rfl⟩
    have r0 : W4.cell? ⟨w.heap.size, 0, none⟩ = some (.slice (some ⟨w.heap.size + 2, 0, none⟩) 1 1) := by rw [← e4]; exact World.cell?_setCell_same' _ _ _ (by rw [s0]; rfl)
    have r1 : W4.cell? ⟨w.heap.size, 1, none⟩ = some (.slice a2 x.cells.length c2) := by rw [← e4, World.cell?_setCell_other _ _ _ _ (by simp)]; exact s1
    have g0 : W4.cell? ⟨w.heap.size + 1, 0, none⟩ = some (.slice none 0 0) := by rw [← e4, World.cell?_setCell_other _ _ _ _ (by simp)]; exact p0
    have g1 : W4.cell? ⟨w.heap.size + 1, 1, none⟩ = some (.slice none 0 0) := by rw [← e4, World.cell?_setCell_other _ _ _ _ (by simp)]; exact p1
    have gf0 : W4.frozen? ⟨w.heap.size + 1, 0, none⟩ = false := by rw [← e4]; exact frozen_set _ _ _ _ f0
    have gf1 : W4.frozen? ⟨w.heap.size + 1, 1, none⟩ = false := by rw [← e4]; exact frozen_set _ _ _ _ f1
    have HT := hide (set_two g0 g1 (.slice (some ⟨w.heap.size + 2, 0, none⟩) 1 1) (.slice a2 x.cells.length c2))
    have HF : Hid (∀ u v, LstIs w0 x a2 c2 w (.returned (.agg #[.slice (some ⟨w.heap.size + 2, 0, none⟩) 1 1, .slice a2 x.cells.length c2])) ((W4.setCell ⟨w.heap.size + 1, 0, none⟩ u).setCell ⟨w.heap.size + 1, 1, none⟩ v)) := by
      intro u v
      have B4 : Below w.heap.size w W4 := by rw [← e4]; exact I3.bel.setCell (p := ⟨w.heap.size, 0, none⟩) (Nat.le_refl _) _
      have el : (lstA x).shape = [1] := by rw [HE.out]; rfl
      refine ⟨⟨some ⟨w.heap.size + 2, 0, none⟩, 1, by rw [el]; rfl, by rw [el]; exact Nat.le_refl _, fun W hW hK => ?_⟩, (B4.setCell (p := ⟨w.heap.size + 1, 0, none⟩) (by show _ ≤ w.heap.size + 1; omega) _).setCell (p := ⟨w.heap.size + 1, 1, none⟩) (by show _ ≤ w.heap.size + 1; omega) _⟩
      have K4 : Keeps (w.heap.size + 2) W3 W4 := by rw [← e4]; exact (Keeps.refl _ _).setCell (p := ⟨w.heap.size, 0, none⟩) (by show w.heap.size < _; omega) _
      have K := (K4.trans (keeps_two W4 w.heap.size u v)).trans (hK.mono (show w.heap.size ≤ w.heap.size + 2 by omega))
      have o1 := (K.cell (p := ⟨w.heap.size + 2, 0, none⟩) (Nat.le_refl _) (by show w.heap.size + 2 < _; omega)).trans o0
      have hk := K.1
      rw [el]
      exact row_one (by omega) (Nat.zero_le _) o1
    have HE4 := hide e4
    clear hx R hb0 hcap B3 z3 I I3 o0 HX HRW
    simp only [h0] at q0 e2 ⊢
    clear h0
    generalize x.cells.length = CA at *
    go_enter Try.func76, Try.ntmps76
    go_wp2
    exact bodyPost_ret (v := .agg #[.slice (some ⟨w.heap.size + 2, 0, none⟩) 1 1, .slice a2 CA c2]) (by simp [results, Try.results76, go_sem, HT.out.1, HT.out.2]) rfl (HF.out _ _)
  · have HE : Hid (lstA x = x) := by unfold Hid lstA; rw [if_neg h0]
    have p0 := I.p0
    have p1 := I.p1
    have f0 := I.f0
    have f1 := I.f1
    have HT := hide (I.put (.slice a1 x.shape.length c1) (.slice a2 x.cells.length c2))
    have HF : Hid (∀ u v, LstIs w0 x a2 c2 w (.returned (.agg #[.slice a1 x.shape.length c1, .slice a2 x.cells.length c2])) ((W2.setCell ⟨w.heap.size + 1, 0, none⟩ u).setCell ⟨w.heap.size + 1, 1, none⟩ v)) := fun u v => ⟨⟨a1, c1, by rw [HE.out], by rw [HE.out]; exact (caps_form HX.out.2).1, fun W hW _ => by rw [HE.out]; exact ((HRW.out.low (Nat.zero_le _)).next hW)⟩, I.fin u v⟩
    have hSb : ((x.shape.length : Int) == 0) = false := by simp; exact fun h => h0 (by rw [h]; rfl)
    clear hx R hb0 hcap I h0 HX HRW
    generalize x.cells.length = CA at *
    generalize x.shape.length = SA at *
    go_enter Try.func76, Try.ntmps76
    go_wp2
    exact bodyPost_ret (v := .agg #[.slice a1 SA c1, .slice a2 CA c2]) (by simp [results, Try.results76, go_sem, HT.out.1, HT.out.2]) rfl (HF.out _ _)
set_option maxHeartbeats 4000000 in
theorem pieces_44 {n lo lo' : Nat} {x y : Ar} {va vb : Value} {w0 w : World} (hx : ArIn (n + 1) lo w0 x va) (hy : ArIn (n + 1) lo' w0 y vb) (hb0 : Below w0.heap.size w0 w) (hcx : chkA 8 x = 0) (hcy : chkA 8 y = 0) (hcapx : Caps va) (hcapy : Caps vb) :
    Calls Try.prog 46 #[.int .i64 44, va, vb] w fun e w' => Gives2K (n + 1) w0 (rotR x y 0).1 (rotR x y 0).2 w e w' := by
  obtain ⟨a1, c1, a2, c2, rfl, R, hc⟩ := hx.form
  obtain ⟨b1, d1, b2, d2, rfl, R', hc'⟩ := hy.form
  have I := in3_new w (.slice a1 x.shape.length c1) (.slice a2 x.cells.length c2) (.slice b1 y.shape.length d1) (.slice b2 y.cells.length d2)
  obtain ⟨W3, e3⟩ : ∃ W3, ((w.alloc (.cells #[.slice a1 x.shape.length c1, .slice a2 x.cells.length c2] 25)).alloc (.cells #[.slice b1 y.shape.length d1, .slice b2 y.cells.length d2] 25)).alloc (.cells #[.slice none 0 0, .slice none 0 0] 25) = W3 := ⟨_, rfl⟩
  rw [e3] at I
  have NB : Below w0.heap.size w0 W3 := hb0.trans (I.bel.mono hb0.size)
  have q0 := I.q0
  have q1 := I.q1
  have r0 := I.r0
  have r1 := I.r1
  have HI := hide I
  have HNB := hide NB
  obtain ⟨lx8, cx16⟩ := chk_len hcx
  obtain ⟨ly8, cy16⟩ := chk_len hcy
  have C := rotated_any hx hy NB hcx hcy hcapy 0 0 (fun h => ⟨h, rfl⟩)
  obtain ⟨⟨Y, EY⟩, hR⟩ : ∃ p, rotR x y 0 = p := ⟨_, rfl⟩
  rw [hR] at C ⊢
  simp only at C ⊢
  clear hR R hc R' hc' hx hy hcx hcy hcapx hcapy NB I hb0
  generalize x.shape.length = SX at *
  generalize x.cells.length = CX at *
  generalize y.shape.length = SY at *
  generalize y.cells.length = CY at *
  go_enter Try.func46, Try.ntmps46
  go_wp2_with fail
  clear e3
  refine C.mono ?_
  clear C
  rintro e w2 ⟨⟨v, rfl, hcv, hv⟩, hb2⟩
  obtain ⟨z1, m1, z2, m2, rfl, -, -⟩ := (hv w2 (HNB.out.trans (hb2.mono HNB.out.size)) (Keeps.refl _ _)).form
  have I2 := HI.out.next hb2
  have p0 := I2.p0
  have p1 := I2.p1
  have f0 := I2.f0
  have f1 := I2.f1
  have HT := hide (I2.put (.slice z1 Y.shape.length m1) (.slice z2 Y.cells.length m2))
  have HCV := hide hcv
  have hs3 := HI.out.size
  have HF : Hid (∀ u v W, Below w0.heap.size w0 W → Keeps w.heap.size ((w2.setCell ⟨w.heap.size + 2, 0, none⟩ u).setCell ⟨w.heap.size + 2, 1, none⟩ v) W → ArIn (n + 1) 0 W Y (.agg #[.slice z1 Y.shape.length m1, .slice z2 Y.cells.length m2])) := by
    intro u v W hW hK
    exact hv W hW (((keeps_three w2 w.heap.size u v).trans (hK.mono (show w.heap.size ≤ w.heap.size + 3 by omega))).mono hs3)
  have HFI := hide I2.fin
  clear I2 hv hcv hb2 HI hs3 q0 q1 r0 r1 HNB
  generalize Y.shape.length = YS at *
  generalize Y.cells.length = YC at *
  go_wp2
  exact bodyPost_ret (v := .tuple #[.agg #[.slice z1 YS m1, .slice z2 YC m2], .int .i64 EY]) (by simp [results, Try.results46, go_sem, HT.out.1, HT.out.2]) rfl ⟨⟨_, rfl, HCV.out, HF.out _ _⟩, HFI.out _ _⟩
set_option maxHeartbeats 4000000 in
theorem pieces_45 {n lo lo' : Nat} {x y : Ar} {va vb : Value} {w0 w : World} (hx : ArIn (n + 1) lo w0 x va) (hy : ArIn (n + 1) lo' w0 y vb) (hb0 : Below w0.heap.size w0 w) (hcx : chkA 8 x = 0) (hcy : chkA 8 y = 0) (hcapx : Caps va) (hcapy : Caps vb) :
    Calls Try.prog 46 #[.int .i64 45, va, vb] w fun e w' => Gives2K (n + 1) w0 (rotR x y (y.shape.length - 1)).1 (rotR x y (y.shape.length - 1)).2 w e w' := by
  obtain ⟨a1, c1, a2, c2, rfl, R, hc⟩ := hx.form
  obtain ⟨b1, d1, b2, d2, rfl, R', hc'⟩ := hy.form
  have I := in3_new w (.slice a1 x.shape.length c1) (.slice a2 x.cells.length c2) (.slice b1 y.shape.length d1) (.slice b2 y.cells.length d2)
  obtain ⟨W3, e3⟩ : ∃ W3, ((w.alloc (.cells #[.slice a1 x.shape.length c1, .slice a2 x.cells.length c2] 25)).alloc (.cells #[.slice b1 y.shape.length d1, .slice b2 y.cells.length d2] 25)).alloc (.cells #[.slice none 0 0, .slice none 0 0] 25) = W3 := ⟨_, rfl⟩
  rw [e3] at I
  have NB : Below w0.heap.size w0 W3 := hb0.trans (I.bel.mono hb0.size)
  have q0 := I.q0
  have q1 := I.q1
  have r0 := I.r0
  have r1 := I.r1
  have HI := hide I
  have HNB := hide NB
  obtain ⟨lx8, cx16⟩ := chk_len hcx
  obtain ⟨ly8, cy16⟩ := chk_len hcy
  have C := rotated_any hx hy NB hcx hcy hcapy (y.shape.length - 1) ((y.shape.length : Int) - 1) (fun h => ⟨by omega, by omega⟩)
  obtain ⟨⟨Y, EY⟩, hR⟩ : ∃ p, rotR x y (y.shape.length - 1) = p := ⟨_, rfl⟩
  rw [hR] at C ⊢
  simp only at C ⊢
  clear hR R hc R' hc' hx hy hcx hcy hcapx hcapy NB I hb0
  generalize x.shape.length = SX at *
  generalize x.cells.length = CX at *
  generalize y.shape.length = SY at *
  generalize y.cells.length = CY at *
  go_enter Try.func46, Try.ntmps46
  go_wp2_with fail
  clear e3
  refine C.mono ?_
  clear C
  rintro e w2 ⟨⟨v, rfl, hcv, hv⟩, hb2⟩
  obtain ⟨z1, m1, z2, m2, rfl, -, -⟩ := (hv w2 (HNB.out.trans (hb2.mono HNB.out.size)) (Keeps.refl _ _)).form
  have I2 := HI.out.next hb2
  have p0 := I2.p0
  have p1 := I2.p1
  have f0 := I2.f0
  have f1 := I2.f1
  have HT := hide (I2.put (.slice z1 Y.shape.length m1) (.slice z2 Y.cells.length m2))
  have HCV := hide hcv
  have hs3 := HI.out.size
  have HF : Hid (∀ u v W, Below w0.heap.size w0 W → Keeps w.heap.size ((w2.setCell ⟨w.heap.size + 2, 0, none⟩ u).setCell ⟨w.heap.size + 2, 1, none⟩ v) W → ArIn (n + 1) 0 W Y (.agg #[.slice z1 Y.shape.length m1, .slice z2 Y.cells.length m2])) := by
    intro u v W hW hK
    exact hv W hW (((keeps_three w2 w.heap.size u v).trans (hK.mono (show w.heap.size ≤ w.heap.size + 3 by omega))).mono hs3)
  have HFI := hide I2.fin
  clear I2 hv hcv hb2 HI hs3 q0 q1 r0 r1 HNB
  generalize Y.shape.length = YS at *
  generalize Y.cells.length = YC at *
  go_wp2
  exact bodyPost_ret (v := .tuple #[.agg #[.slice z1 YS m1, .slice z2 YC m2], .int .i64 EY]) (by simp [results, Try.results46, go_sem, HT.out.1, HT.out.2]) rfl ⟨⟨_, rfl, HCV.out, HF.out _ _⟩, HFI.out _ _⟩
set_option maxHeartbeats 4000000 in
theorem pieces_52 {n lo lo' : Nat} {x y : Ar} {va vb : Value} {w0 w : World} (hx : ArIn (n + 1) lo w0 x va) (hy : ArIn (n + 1) lo' w0 y vb) (hb0 : Below w0.heap.size w0 w) (hcx : chkA 8 x = 0) (hcy : chkA 8 y = 0) (hcapx : Caps va) (hcapy : Caps vb) :
    Calls Try.prog 46 #[.int .i64 52, va, vb] w fun e w' => Gives2K (n + 1) w0 (lookR x y).1 (lookR x y).2 w e w' := by
  obtain ⟨a1, c1, a2, c2, rfl, R, hc⟩ := hx.form
  obtain ⟨b1, d1, b2, d2, rfl, R', hc'⟩ := hy.form
  have I := in3_new w (.slice a1 x.shape.length c1) (.slice a2 x.cells.length c2) (.slice b1 y.shape.length d1) (.slice b2 y.cells.length d2)
  obtain ⟨W3, e3⟩ : ∃ W3, ((w.alloc (.cells #[.slice a1 x.shape.length c1, .slice a2 x.cells.length c2] 25)).alloc (.cells #[.slice b1 y.shape.length d1, .slice b2 y.cells.length d2] 25)).alloc (.cells #[.slice none 0 0, .slice none 0 0] 25) = W3 := ⟨_, rfl⟩
  rw [e3] at I
  have NB : Below w0.heap.size w0 W3 := hb0.trans (I.bel.mono hb0.size)
  have q0 := I.q0
  have q1 := I.q1
  have r0 := I.r0
  have r1 := I.r1
  have HI := hide I
  have HNB := hide NB
  obtain ⟨lx8, cx16⟩ := chk_len hcx
  obtain ⟨ly8, cy16⟩ := chk_len hcy
  have C := looked_any hx hy NB hcx hcy hcapy
  obtain ⟨⟨Y, EY⟩, hR⟩ : ∃ p, lookR x y = p := ⟨_, rfl⟩
  rw [hR] at C ⊢
  simp only at C ⊢
  clear hR R hc R' hc' hx hy hcx hcy hcapx hcapy NB I hb0
  generalize x.shape.length = SX at *
  generalize x.cells.length = CX at *
  generalize y.shape.length = SY at *
  generalize y.cells.length = CY at *
  go_enter Try.func46, Try.ntmps46
  go_wp2_with fail
  clear e3
  refine C.mono ?_
  clear C
  rintro e w2 ⟨⟨v, rfl, hcv, hv⟩, hb2⟩
  obtain ⟨z1, m1, z2, m2, rfl, -, -⟩ := (hv w2 (HNB.out.trans (hb2.mono HNB.out.size)) (Keeps.refl _ _)).form
  have I2 := HI.out.next hb2
  have p0 := I2.p0
  have p1 := I2.p1
  have f0 := I2.f0
  have f1 := I2.f1
  have HT := hide (I2.put (.slice z1 Y.shape.length m1) (.slice z2 Y.cells.length m2))
  have HCV := hide hcv
  have hs3 := HI.out.size
  have HF : Hid (∀ u v W, Below w0.heap.size w0 W → Keeps w.heap.size ((w2.setCell ⟨w.heap.size + 2, 0, none⟩ u).setCell ⟨w.heap.size + 2, 1, none⟩ v) W → ArIn (n + 1) 0 W Y (.agg #[.slice z1 Y.shape.length m1, .slice z2 Y.cells.length m2])) := by
    intro u v W hW hK
    exact hv W hW (((keeps_three w2 w.heap.size u v).trans (hK.mono (show w.heap.size ≤ w.heap.size + 3 by omega))).mono hs3)
  have HFI := hide I2.fin
  clear I2 hv hcv hb2 HI hs3 q0 q1 r0 r1 HNB
  generalize Y.shape.length = YS at *
  generalize Y.cells.length = YC at *
  go_wp2
  exact bodyPost_ret (v := .tuple #[.agg #[.slice z1 YS m1, .slice z2 YC m2], .int .i64 EY]) (by simp [results, Try.results46, go_sem, HT.out.1, HT.out.2]) rfl ⟨⟨_, rfl, HCV.out, HF.out _ _⟩, HFI.out _ _⟩
set_option maxHeartbeats 4000000 in
theorem pieces_53 {n lo lo' : Nat} {x y : Ar} {va vb : Value} {w0 w : World} (hx : ArIn (n + 1) lo w0 x va) (hy : ArIn (n + 1) lo' w0 y vb) (hb0 : Below w0.heap.size w0 w) (hcx : chkA 8 x = 0) (hcy : chkA 8 y = 0) (hcapx : Caps va) (hcapy : Caps vb) :
    Calls Try.prog 46 #[.int .i64 53, va, vb] w fun e w' => Gives2K (n + 1) w0 (lookR y x).1 (lookR y x).2 w e w' := by
  obtain ⟨a1, c1, a2, c2, rfl, R, hc⟩ := hx.form
  obtain ⟨b1, d1, b2, d2, rfl, R', hc'⟩ := hy.form
  have I := in3_new w (.slice a1 x.shape.length c1) (.slice a2 x.cells.length c2) (.slice b1 y.shape.length d1) (.slice b2 y.cells.length d2)
  obtain ⟨W3, e3⟩ : ∃ W3, ((w.alloc (.cells #[.slice a1 x.shape.length c1, .slice a2 x.cells.length c2] 25)).alloc (.cells #[.slice b1 y.shape.length d1, .slice b2 y.cells.length d2] 25)).alloc (.cells #[.slice none 0 0, .slice none 0 0] 25) = W3 := ⟨_, rfl⟩
  rw [e3] at I
  have NB : Below w0.heap.size w0 W3 := hb0.trans (I.bel.mono hb0.size)
  have q0 := I.q0
  have q1 := I.q1
  have r0 := I.r0
  have r1 := I.r1
  have HI := hide I
  have HNB := hide NB
  obtain ⟨lx8, cx16⟩ := chk_len hcx
  obtain ⟨ly8, cy16⟩ := chk_len hcy
  have C := looked_any hy hx NB hcy hcx hcapx
  obtain ⟨⟨Y, EY⟩, hR⟩ : ∃ p, lookR y x = p := ⟨_, rfl⟩
  rw [hR] at C ⊢
  simp only at C ⊢
  clear hR R hc R' hc' hx hy hcx hcy hcapx hcapy NB I hb0
  generalize x.shape.length = SX at *
  generalize x.cells.length = CX at *
  generalize y.shape.length = SY at *
  generalize y.cells.length = CY at *
  go_enter Try.func46, Try.ntmps46
  go_wp2_with fail
  clear e3
  refine C.mono ?_
  clear C
  rintro e w2 ⟨⟨v, rfl, hcv, hv⟩, hb2⟩
  obtain ⟨z1, m1, z2, m2, rfl, -, -⟩ := (hv w2 (HNB.out.trans (hb2.mono HNB.out.size)) (Keeps.refl _ _)).form
  have I2 := HI.out.next hb2
  have p0 := I2.p0
  have p1 := I2.p1
  have f0 := I2.f0
  have f1 := I2.f1
  have HT := hide (I2.put (.slice z1 Y.shape.length m1) (.slice z2 Y.cells.length m2))
  have HCV := hide hcv
  have hs3 := HI.out.size
  have HF : Hid (∀ u v W, Below w0.heap.size w0 W → Keeps w.heap.size ((w2.setCell ⟨w.heap.size + 2, 0, none⟩ u).setCell ⟨w.heap.size + 2, 1, none⟩ v) W → ArIn (n + 1) 0 W Y (.agg #[.slice z1 Y.shape.length m1, .slice z2 Y.cells.length m2])) := by
    intro u v W hW hK
    exact hv W hW (((keeps_three w2 w.heap.size u v).trans (hK.mono (show w.heap.size ≤ w.heap.size + 3 by omega))).mono hs3)
  have HFI := hide I2.fin
  clear I2 hv hcv hb2 HI hs3 q0 q1 r0 r1 HNB
  generalize Y.shape.length = YS at *
  generalize Y.cells.length = YC at *
  go_wp2
  exact bodyPost_ret (v := .tuple #[.agg #[.slice z1 YS m1, .slice z2 YC m2], .int .i64 EY]) (by simp [results, Try.results46, go_sem, HT.out.1, HT.out.2]) rfl ⟨⟨_, rfl, HCV.out, HF.out _ _⟩, HFI.out _ _⟩
theorem lst_facts {y : Ar} (h : chkA 8 y = 0) : chkA 8 (lstA y) = 0 ∧ (lstA y).cells = y.cells ∧ 0 < (lstA y).shape.length := by
  by_cases h0 : y.shape.length = 0
  · have e : lstA y = .mk [1] y.cells := by unfold lstA; rw [if_pos h0]
    obtain ⟨-, h1⟩ := atom_one h h0
    have hf := fine_mk (l := [1]) (by decide) (fun z hz => by simp at hz; omega) (Or.inr (by simp [prodL]))
    rw [e]
    refine ⟨chk_of h hf.1 (by rw [hf.2, h1]; simp [prodL]) ?_ (fun i hi => ⟨i, hi, rfl⟩), rfl, by show 0 < ([1] : List Int).length; simp⟩
    rintro ⟨z, hz, hl⟩
    simp at hz
    omega
  · have e : lstA y = y := by unfold lstA; rw [if_neg h0]
    rw [e]
    exact ⟨h, rfl, by omega⟩
set_option maxHeartbeats 4000000 in
theorem pieces_42 {n lo lo' : Nat} {x y : Ar} {va vb : Value} {w0 w : World} (hx : ArIn (n + 1) lo w0 x va) (hy : ArIn (n + 1) lo' w0 y vb) (hb0 : Below w0.heap.size w0 w) (hcx : chkA 8 x = 0) (hcy : chkA 8 y = 0) (hcapx : Caps va) (hcapy : Caps vb) :
    Calls Try.prog 46 #[.int .i64 42, va, vb] w fun e w' => Gives2K (n + 1) w0 (takR x (lstA y)).1 (takR x (lstA y)).2 w e w' := by
  obtain ⟨a1, c1, a2, c2, rfl, R, hc⟩ := hx.form
  obtain ⟨b1, d1, b2, d2, rfl, R', hc'⟩ := hy.form
  have I := in3_new w (.slice a1 x.shape.length c1) (.slice a2 x.cells.length c2) (.slice b1 y.shape.length d1) (.slice b2 y.cells.length d2)
  obtain ⟨W3, e3⟩ : ∃ W3, ((w.alloc (.cells #[.slice a1 x.shape.length c1, .slice a2 x.cells.length c2] 25)).alloc (.cells #[.slice b1 y.shape.length d1, .slice b2 y.cells.length d2] 25)).alloc (.cells #[.slice none 0 0, .slice none 0 0] 25) = W3 := ⟨_, rfl⟩
  rw [e3] at I
  have NB : Below w0.heap.size w0 W3 := hb0.trans (I.bel.mono hb0.size)
  have q0 := I.q0
  have q1 := I.q1
  have r0 := I.r0
  have r1 := I.r1
  have HI := hide I
  have HNB := hide NB
  obtain ⟨lx8, cx16⟩ := chk_len hcx
  obtain ⟨ly8, cy16⟩ := chk_len hcy
  obtain ⟨k1, k2, k3⟩ := lst_facts hcy
  have HC1 := hide (plisted_row hy NB.drew hcapy)
  have HC2 : Hid (∀ W s1 j1, Below w0.heap.size w0 W → Row 0 W s1 (lstA y).shape → (lstA y).shape.length ≤ j1 → Calls Try.prog 75 #[.agg #[.slice a1 x.shape.length c1, .slice a2 x.cells.length c2], .agg #[.slice s1 (lstA y).shape.length j1, .slice b2 y.cells.length d2]] W fun e w' => Gives2K (n + 1) w0 (takR x (lstA y)).1 (takR x (lstA y)).2 W e w') := by
    intro W s1 j1 hW hRW hj
    have := taken_row (y := lstA y) (b2 := b2) (d1 := j1) (d2 := d2) hx hRW (by rw [k2]; exact hc') hW hcx k1 (by rw [k2]; exact ⟨_, _, _, _, _, _, rfl, hj, (caps_form hcapy).2⟩) k3
    rw [k2] at this
    exact this
  obtain ⟨⟨Y, EY⟩, hR⟩ : ∃ p, takR x (lstA y) = p := ⟨_, rfl⟩
  rw [hR] at HC2 ⊢
  simp only at HC2 ⊢
  unfold LstIs at HC1
  obtain ⟨SL, hSL⟩ : ∃ SL, (lstA y).shape.length = SL := ⟨_, rfl⟩
  rw [hSL] at HC1 HC2
  obtain ⟨lsh, hlsh⟩ : ∃ l, (lstA y).shape = l := ⟨_, rfl⟩
  rw [hlsh] at HC1 HC2
  have HID : Hid (In3 w (.slice a1 x.shape.length c1) (.slice a2 x.cells.length c2) (.slice b1 y.shape.length d1) (.slice b2 y.cells.length d2) W3.drew) := I.next (Below.refl _ _).drew
  clear hR R hc R' hc' hx hy hcx hcy hcapx hcapy NB I hb0 k1 k2 k3 hSL hlsh
  generalize x.shape.length = SX at *
  generalize x.cells.length = CX at *
  generalize y.shape.length = SY at *
  generalize y.cells.length = CY at *
  go_enter Try.func46, Try.ntmps46
  go_wp2
  clear e3
  go_region_with (first
    | (go_at_call 76; refine HC1.out.mono ?_; rintro e w1 ⟨⟨s1, j1, rfl, hj, hrw⟩, hb1⟩; have I1 := HID.out.next hb1; have t0 := I1.q0; have t1 := I1.q1; have NB1 := (HNB.out.drew.trans (hb1.mono HNB.out.drew.size)); have RW1 := hrw w1 NB1 (Keeps.refl _ _))
    | (go_at_call 75; refine (HC2.out _ _ _ NB1 RW1 hj).mono ?_; rintro e w2 ⟨⟨v, rfl, hcv, hv⟩, hb2⟩; obtain ⟨z1, m1, z2, m2, rfl, -, -⟩ := (hv w2 (NB1.trans (hb2.mono NB1.size)) (Keeps.refl _ _)).form; have I2 := I1.next hb2; have p0 := I2.p0; have p1 := I2.p1; have f0 := I2.f0; have f1 := I2.f1))
  all_goals
    have HT := hide (I2.put (.slice z1 Y.shape.length m1) (.slice z2 Y.cells.length m2))
    have HCV := hide hcv
    have hs3 := I1.size
    have HF : Hid (∀ u v W, Below w0.heap.size w0 W → Keeps w.heap.size ((w2.setCell ⟨w.heap.size + 2, 0, none⟩ u).setCell ⟨w.heap.size + 2, 1, none⟩ v) W → ArIn (n + 1) 0 W Y (.agg #[.slice z1 Y.shape.length m1, .slice z2 Y.cells.length m2])) := by
      intro u v W hW hK
      exact hv W hW (((keeps_three w2 w.heap.size u v).trans (hK.mono (show w.heap.size ≤ w.heap.size + 3 by omega))).mono hs3)
    have HFI := hide I2.fin
    clear I2 hv hcv hb2 HI hs3 q0 q1 r0 r1 HNB I1 t0 t1 NB1 RW1 hrw hb1 HC1 HC2 HID
    generalize Y.shape.length = YS at *
    generalize Y.cells.length = YC at *
    go_wp2
    exact bodyPost_ret (v := .tuple #[.agg #[.slice z1 YS m1, .slice z2 YC m2], .int .i64 EY]) (by simp [results, Try.results46, go_sem, HT.out.1, HT.out.2]) rfl ⟨⟨_, rfl, HCV.out, HF.out _ _⟩, HFI.out _ _⟩
end Go.Proofs.Ytmjncdhahdpplaa
namespace Go.Proofs.Ytmjncdhahdpplaa
open Go.ChangeShapes Go.WideShapes Go.ChangeAt Go.RowKit
set_option linter.unusedVariables false
set_option maxRecDepth 100000
/-- An array in new memory and an error; its slices are no longer than their rows. -/
def GivesD (n : Nat) (x : Ar) (E : Int) (w : World) (e : Ending) (w' : World) : Prop := (∃ v, e = .returned (.tuple #[v, .int .i64 E]) ∧ Caps v ∧ ArIn n w.heap.size w' x v) ∧ Below w.heap.size w w'
set_option maxHeartbeats 4000000 in
theorem dy_of {n lo lo' : Nat} {op : Int} {x y : Ar} {va vb : Value} {w : World} {R : Ar × Int} (hx : ArIn (n + 1) lo w x va) (hy : ArIn (n + 1) lo' w y vb) (hcx : chkA 8 x = 0) (hcy : chkA 8 y = 0)
    (hP : ∀ W, Below w.heap.size w W → Calls Try.prog 46 #[.int .i64 op, va, vb] W fun e w' => Gives2K (n + 1) w R.1 R.2 W e w') (hz : ¬ R.2 = 0 → R.1 = zeroA) (hchk : R.2 = 0 → chkA 8 R.1 = 0) :
    Calls Try.prog 19 #[.int .i64 op, va, vb] w fun e w' => GivesD (n + 1) R.1 R.2 w e w' := by
  obtain ⟨a1, c1, a2, c2, rfl, RX, hc⟩ := hx.form
  obtain ⟨b1, d1, b2, d2, rfl, R', hc'⟩ := hy.form
  have I := in3_new w (.slice a1 x.shape.length c1) (.slice a2 x.cells.length c2) (.slice b1 y.shape.length d1) (.slice b2 y.cells.length d2)
  obtain ⟨W3, e3⟩ : ∃ W3, ((w.alloc (.cells #[.slice a1 x.shape.length c1, .slice a2 x.cells.length c2] 25)).alloc (.cells #[.slice b1 y.shape.length d1, .slice b2 y.cells.length d2] 25)).alloc (.cells #[.slice none 0 0, .slice none 0 0] 25) = W3 := ⟨_, rfl⟩
  rw [e3] at I
  have q0 := I.q0
  have q1 := I.q1
  have CK := check_any (n + 1) x _ _ W3 (hx.next I.bel)
  rw [hcx] at CK
  have HI := hide I
  have HY := hide (And.intro hy hcy)
  have HP := hide hP
  obtain ⟨Y, E⟩ := R
  simp only at HP hz hchk ⊢
  have HZC := hide (And.intro hz hchk)
  obtain ⟨SX, hSX⟩ : ∃ SX, x.shape.length = SX := ⟨_, rfl⟩
  obtain ⟨CX, hCX⟩ : ∃ CX, x.cells.length = CX := ⟨_, rfl⟩
  obtain ⟨SY, hSY⟩ : ∃ SY, y.shape.length = SY := ⟨_, rfl⟩
  obtain ⟨CY, hCY⟩ : ∃ CY, y.cells.length = CY := ⟨_, rfl⟩
  simp only [hSX, hCX, hSY, hCY] at CK e3 q0 q1 HI HY HP ⊢
  clear RX hc I hx hy R' hc' hSX hCX hSY hCY hcx hcy hP hz hchk
  go_enter Try.func19, Try.ntmps19
  go_wp2_with fail
  clear e3 q0 q1
  refine CK.mono ?_
  clear CK
  rintro e w1 ⟨rfl, hb1⟩
  have I1 := HI.out.next hb1
  have r0 := I1.r0
  have r1 := I1.r1
  have CK2 := check_any (n + 1) y _ _ w1 (HY.out.1.next I1.bel)
  rw [HY.out.2] at CK2
  have HI1 := hide I1
  clear I1 hb1 HI
  go_wp2_with fail
  refine CK2.mono ?_
  clear CK2 r0 r1
  rintro e w2 ⟨rfl, hb2⟩
  have I2 := HI1.out.next hb2
  have q0 := I2.q0
  have q1 := I2.q1
  have r0 := I2.r0
  have r1 := I2.r1
  have CP := HP.out w2 I2.bel
  have HI2 := hide I2
  clear I2 hb2 HI1 HP
  go_wp2_with fail
  clear q0 q1 r0 r1
  refine CP.mono ?_
  clear CP
  rintro e w3 ⟨⟨v, rfl, hcv, hv⟩, hb3⟩
  have NB : Below w.heap.size w w3 := HI2.out.bel.trans (hb3.mono HI2.out.bel.size)
  have hA := hv w3 NB (Keeps.refl _ _)
  obtain ⟨z1, m1, z2, m2, rfl, -, -⟩ := hA.form
  have I3 := HI2.out.next hb3
  obtain ⟨YS, hYS⟩ : ∃ z, Y.shape.length = z := ⟨_, rfl⟩
  obtain ⟨YC, hYC⟩ : ∃ z, Y.cells.length = z := ⟨_, rfl⟩
  simp only [hYS, hYC] at hA ⊢
  have HYL := hide (And.intro hYS hYC)
  obtain ⟨W4, e4⟩ : ∃ W4, w3.alloc (.cells #[.slice z1 YS m1, .slice z2 YC m2] 25) = W4 := ⟨_, rfl⟩
  have B4 : Below w3.heap.size w3 W4 := by rw [← e4]; exact one_alloc _ _
  have o0 : W4.cell? ⟨w3.heap.size, 0, none⟩ = some (.slice z1 YS m1) := by rw [← e4]; exact cell_new0 w3 _ 25 0 _ rfl
  have o1 : W4.cell? ⟨w3.heap.size, 1, none⟩ = some (.slice z2 YC m2) := by rw [← e4]; exact cell_new0 w3 _ 25 1 _ rfl
  have I4 := I3.next B4
  have HI4 := hide I4
  by_cases hE : E = 0
  case neg =>
    have p0 := I4.p0
    have p1 := I4.p1
    have f0 := I4.f0
    have f1 := I4.f1
    have HT := hide (I4.put (.slice none 0 0) (.slice none 0 0))
    have hne : (E == 0) = false := beq_eq_false_iff_ne.2 hE
    have HYZ : Hid (Y = zeroA) := HZC.out.1 hE
    clear I3 I4 hA hv hb3 NB B4 hcv o0 o1 hYS hYC
    go_wp2
    exact bodyPost_ret (v := .tuple #[.agg #[.slice none 0 0, .slice none 0 0], .int .i64 E]) (by simp [results, Try.results19, go_sem, HT.out.1, HT.out.2]) rfl ⟨⟨_, rfl, caps_nil, by rw [HYZ.out]; exact zeroA_in _ _ _⟩, HI4.out.fin _ _⟩
  subst hE
  have CC := copy_at n 8 Y 0 _ W4 (HZC.out.2 rfl) (hA.next B4)
  clear I3 I4 hA hv hb3 NB B4 hcv hYS hYC
  go_wp2_with fail
  clear e4 o0 o1
  refine CC.mono ?_
  clear CC
  rintro e w5 ⟨⟨v, rfl, hv5, ap⟩, hb5⟩
  obtain ⟨bs, bc, rfl, -⟩ := ap
  rw [HYL.out.1, HYL.out.2] at hv5 ⊢
  have I5 := HI4.out.next hb5.b
  have p0 := I5.p0
  have p1 := I5.p1
  have f0 := I5.f0
  have f1 := I5.f1
  have HT := hide (I5.put (.slice (some ⟨bs, 0, none⟩) YS YS) (.slice (some ⟨bc, 0, none⟩) YC YC))
  have HF := hide (I5.give hv5 HI4.out.size)
  have HFI := hide I5.fin
  clear I5 hv5 hb5
  go_wp2
  exact bodyPost_ret (v := .tuple #[.agg #[.slice (some ⟨bs, 0, none⟩) YS YS, .slice (some ⟨bc, 0, none⟩) YC YC], .int .i64 0]) (by simp [results, Try.results19, go_sem, HT.out.1, HT.out.2]) rfl ⟨⟨_, rfl, ⟨_, _, _, _, _, _, rfl, Nat.le_refl _, Nat.le_refl _⟩, HF.out _ _⟩, HFI.out _ _⟩
end Go.Proofs.Ytmjncdhahdpplaa
namespace Go.Proofs.Ytmjncdhahdpplaa
open Go.ChangeShapes Go.WideShapes Go.ChangeAt Go.RowKit
set_option linter.unusedVariables false
set_option maxRecDepth 100000
theorem alongQ_lt {r : Nat} {x : Ar} (h : chkA r x = 0) {k : Nat} {l : List Int} (hk : k < x.shape.length) (hin : ∀ i, i < l.length → 0 ≤ gI l i ∧ gI l i < gI x.shape k) (hs : sizeE (x.shape.set k (l.length : Int)) = 0) (i : Nat) (hi : i < (sizeV (x.shape.set k (l.length : Int))).toNat) :
    alongQ (gI x.shape k).toNat (sizeV (x.shape.drop (k + 1))).toNat l.length (fun i => (gI l i).toNat) i < x.cells.length := by
  obtain ⟨A, D, wd, hD, hwd, hw0, hL0, hNA, hCAA, -, -, -⟩ := along_facts h hk hs (fun h0 => by have := hin 0 h0; omega) (by omega)
  rw [hD, hwd, Int.toNat_natCast, Int.toNat_natCast]
  rw [hNA, Int.toNat_natCast] at hi
  have hM0 : 0 < l.length * wd := Nat.mul_pos hL0 hw0
  have hr : i / (l.length * wd) < A := by rw [Nat.div_lt_iff_lt_mul hM0]; exact hi
  have hj : i % (l.length * wd) / wd < l.length := by rw [Nat.div_lt_iff_lt_mul hw0]; exact Nat.mod_lt _ hM0
  have hq : i % (l.length * wd) % wd < wd := Nat.mod_lt _ hw0
  have e1 : i = (i / (l.length * wd) * l.length + i % (l.length * wd) / wd) * wd + i % (l.length * wd) % wd := by
    have h1 := Nat.div_add_mod i (l.length * wd)
    have h2 := Nat.div_add_mod (i % (l.length * wd)) wd
    rw [Nat.add_mul, Nat.mul_assoc, Nat.mul_comm (i / (l.length * wd)), Nat.mul_comm (i % (l.length * wd) / wd)]
    omega
  rw [e1, alongQ_at D wd l.length (fun i => (gI l i).toNat) _ _ _ hj hq]
  have h1 := hin _ hj
  rw [hD] at h1
  have a1 : ((gI l (i % (l.length * wd) / wd)).toNat + 1) * wd ≤ D * wd := Nat.mul_le_mul_right _ (by omega)
  have a2 : (i / (l.length * wd) + 1) * (D * wd) ≤ A * (D * wd) := Nat.mul_le_mul_right _ hr
  rw [Nat.add_mul, Nat.one_mul] at a1 a2
  omega
theorem alongA_cells {r : Nat} {x : Ar} (h : chkA r x = 0) {k : Nat} {l : List Int} (hk : k < x.shape.length) (hin : ∀ i, i < l.length → 0 ≤ gI l i ∧ gI l i < gI x.shape k) (hs : sizeE (x.shape.set k (l.length : Int)) = 0) : ((alongA x k l).cells.length : Int) = sizeV (x.shape.set k (l.length : Int)) ∧ ∀ i, i < (alongA x k l).cells.length → ∃ j, j < x.cells.length ∧ cAt (alongA x k l).cells i = cAt x.cells j := by
  have hl : (alongA x k l).cells.length = (sizeV (x.shape.set k (l.length : Int))).toNat := by show (mkCs _ _).length = _; rw [mkCs_len]
  have h0 := (sizeV_le hs).1
  refine ⟨by rw [hl]; omega, fun i hi => ?_⟩
  rw [hl] at hi
  refine ⟨_, alongQ_lt h hk hin hs i hi, ?_⟩
  show cAt (mkCs _ _) i = _
  rw [mkCs_at _ _ _ hi]
theorem rot_chk {x y : Ar} (hy : chkA 8 y = 0) (k : Nat) (hk : 0 < y.shape.length → k < y.shape.length) : (¬ (rotR x y k).2 = 0 → (rotR x y k).1 = zeroA) ∧ ((rotR x y k).2 = 0 → chkA 8 (rotR x y k).1 = 0) := by
  unfold rotR
  by_cases h1 : (numR x).2 = 0
  · rw [if_neg (by simpa using h1)]
    by_cases h2 : y.shape.length = 0
    · rw [if_pos h2]; exact ⟨fun h => absurd rfl h, fun _ => hy⟩
    · rw [if_neg h2]
      refine ⟨fun h => absurd rfl h, fun _ => ?_⟩
      have hkk := hk (by omega)
      have hD := (chk_axes hy).1 (gI y.shape k) (getD_mem hkk)
      obtain ⟨D, hDn⟩ : ∃ D : Nat, gI y.shape k = (D : Int) := ⟨(gI y.shape k).toNat, by omega⟩
      rw [hDn, Int.toNat_natCast]
      have hset : y.shape.set k ((rotL (numR x).1 D).length : Int) = y.shape := by rw [rotL_len, ← hDn]; exact set_gI _ _ hkk
      have hin : ∀ i, i < (rotL (numR x).1 D).length → 0 ≤ gI (rotL (numR x).1 D) i ∧ gI (rotL (numR x).1 D) i < gI y.shape k := fun i hi => by
        rw [rotL_len] at hi
        rw [rotL_at _ D i hi, hDn]
        exact (rot_rem _ D i hi).2.2.2
      obtain ⟨g1, g2, g3, -⟩ := (chkA_iff 8 y).1 hy
      have hA := alongA_cells hy hkk hin (by rw [hset]; exact g1)
      have e : alongA y k (rotL (numR x).1 D) = .mk y.shape (alongA y k (rotL (numR x).1 D)).cells := by
        unfold alongA; rw [hset]; rfl
      rw [e]
      exact chk_of hy g1 (by rw [hset] at hA; exact hA.1.symm) g3 hA.2
  · rw [if_pos h1]; exact ⟨fun _ => rfl, fun h => absurd h h1⟩
theorem look_chk {x y : Ar} (hx : chkA 8 x = 0) (hy : chkA 8 y = 0) : (¬ (lookR x y).2 = 0 → (lookR x y).1 = zeroA) ∧ ((lookR x y).2 = 0 → chkA 8 (lookR x y).1 = 0) := by
  unfold lookR
  by_cases h1 : y.shape.length = 0 ∨ 9 < x.shape.length + y.shape.length
  · rw [if_pos h1]; exact ⟨fun _ => rfl, fun h => by simp at h⟩
  rw [if_neg h1]
  by_cases h2 : firstUp (lkF x y) x.cells.length = 0
  case neg => rw [if_pos h2]; exact ⟨fun _ => rfl, fun h => absurd h h2⟩
  rw [if_neg (by simpa using h2)]
  by_cases h3 : sizeE (x.shape ++ y.shape.tail) = 0
  case neg => rw [if_pos h3]; exact ⟨fun _ => rfl, fun h => absurd h h3⟩
  rw [if_neg (by simpa using h3)]
  refine ⟨fun h => absurd rfl h, fun _ => ?_⟩
  have hS : 0 < y.shape.length := by omega
  have hsz := look_size hx hy hS h3
  rw [← lkL_len] at hsz
  have hin : ∀ i, i < (lkL x).length → 0 ≤ gI (lkL x) i ∧ gI (lkL x) i < gI y.shape 0 := fun i hi => by
    rw [lkL_len] at hi
    have g1 := firstUp_zero h2 i (by omega)
    have g2 := firstUp_zero h2 (i + 1) (by omega)
    rw [firstUp_step g1] at g2
    rw [lkL_at x i hi]
    unfold lkF at g2
    by_cases hk : (cAt x.cells i).1 = 0
    · rw [if_neg (by simpa using hk)] at g2
      by_cases hn : (cAt x.cells i).2.1 < 0 ∨ gI y.shape 0 ≤ (cAt x.cells i).2.1
      · rw [if_pos hn] at g2; omega
      · omega
    · rw [if_pos hk] at g2; omega
  have hA := alongA_cells hy hS hin hsz
  obtain ⟨x1, x2, x3, -⟩ := (chkA_iff 8 x).1 hx
  obtain ⟨y1, y2, y3, -⟩ := (chkA_iff 8 y).1 hy
  refine chk_of hy h3 ?_ ?_ hA.2
  · rw [hA.1, sizeV_prod h3, sizeV_prod hsz, prodL_append, lkL_len, ← x2, sizeV_prod x1]
    obtain ⟨d, t, hdt⟩ : ∃ d t, y.shape = d :: t := by
      cases hsh : y.shape with
      | nil => rw [hsh] at hS; simp at hS
      | cons d t => exact ⟨d, t, rfl⟩
    rw [hdt]; rfl
  · rintro ⟨z, hz, hl⟩
    rcases List.mem_append.1 hz with h | h
    · exact x3 ⟨z, h, hl⟩
    · exact y3 ⟨z, List.mem_of_mem_tail h, hl⟩
theorem fill_chk {y : Ar} (h : (fillR y).2.2 = 0) : chkC (inF 8) ((fillR y).1, (fillR y).2.1, []) = 0 := by
  rw [chkC_iff]
  right
  refine ⟨rfl, ?_⟩
  unfold fillR at h ⊢
  by_cases h1 : 0 < y.cells.length
  · simp only [if_pos h1] at h ⊢
    by_cases h2 : (cAt y.cells 0).1 = 1
    · right; simp only [if_pos h2]; exact ⟨trivial, by unfold Good; omega⟩
    · simp only [if_neg h2] at h ⊢
      by_cases h3 : (cAt y.cells 0).1 = 2
      · simp only [if_pos h3] at h; omega
      · left; simp only [if_neg h3]
  · left; simp only [if_neg h1]
theorem tak_chk {x y : Ar} (hy : chkA 8 y = 0) (hS : 0 < y.shape.length) : (¬ (takR x y).2 = 0 → (takR x y).1 = zeroA) ∧ ((takR x y).2 = 0 → chkA 8 (takR x y).1 = 0) := by
  unfold takR
  by_cases h1 : (numR x).2 = 0
  case neg => rw [if_pos h1]; exact ⟨fun _ => rfl, fun h => absurd h h1⟩
  rw [if_neg (by simpa using h1)]
  by_cases h2 : 16384 < (numR x).1 ∨ (numR x).1 < -16384
  · rw [if_pos h2]; exact ⟨fun _ => rfl, fun h => by simp at h⟩
  rw [if_neg h2]
  generalize (numR x).1 = Nn at *
  obtain ⟨sh, hsh⟩ : ∃ sh, y.shape.set 0 (Nn.natAbs : Int) = sh := ⟨_, rfl⟩
  rw [hsh]
  by_cases h3 : sizeE sh = 0
  case neg => rw [if_pos h3]; exact ⟨fun _ => rfl, fun h => absurd h h3⟩
  rw [if_neg (by simpa using h3)]
  obtain ⟨N, hN⟩ : ∃ N, (sizeV sh).toNat = N := ⟨_, rfl⟩
  have hN0 := (sizeV_le h3).1
  rw [hN]
  by_cases h4 : y.cells.length < N ∧ ¬ (fillR y).2.2 = 0
  · rw [if_pos h4]; exact ⟨fun _ => rfl, fun h => absurd h h4.2⟩
  rw [if_neg h4]
  refine ⟨fun h => absurd rfl h, fun _ => ?_⟩
  obtain ⟨y1, y2, y3, y4⟩ := (chkA_iff 8 y).1 hy
  refine (chkA_iff 8 _).2 ⟨h3, ?_, ?_, fun i hi => ?_⟩
  · show sizeV sh = ((mkCs _ _).length : Int)
    rw [mkCs_len]; omega
  · show ¬ hasLong sh
    rintro ⟨z, hz, hl⟩
    rw [← hsh] at hz
    rcases List.mem_or_eq_of_mem_set hz with h | h
    · exact y3 ⟨z, h, hl⟩
    · omega
  · have hi' : i < N := by
      have : (mkCs N (layC y.cells (fillR y).1 (fillR y).2.1 (if Nn < 0 then N - y.cells.length else 0) (if Nn < 0 then y.cells.length - N else 0) (Nat.min y.cells.length N))).length = N := mkCs_len _ _
      rw [← this]; exact hi
    show chkC (inF 8) (cAt (mkCs N _) i) = 0
    rw [mkCs_at _ _ _ hi']
    have hmn : y.cells.length ≤ N ∧ Nat.min y.cells.length N = y.cells.length ∨ N ≤ y.cells.length ∧ Nat.min y.cells.length N = N := by
      rcases Nat.le_total y.cells.length N with h | h
      · exact Or.inl ⟨h, Nat.min_eq_left h⟩
      · exact Or.inr ⟨h, Nat.min_eq_right h⟩
    unfold layC
    by_cases hneg : Nn < 0
    · simp only [if_pos hneg]
      split
      · exact y4 _ (by omega)
      · have hlt : y.cells.length < N := by omega
        have hFE : (fillR y).2.2 = 0 := Decidable.byContradiction fun h => h4 ⟨hlt, h⟩
        exact fill_chk hFE
    · simp only [if_neg hneg]
      split
      · exact y4 _ (by omega)
      · have hlt : y.cells.length < N := by omega
        have hFE : (fillR y).2.2 = 0 := Decidable.byContradiction fun h => h4 ⟨hlt, h⟩
        exact fill_chk hFE
theorem dy_42 {n lo lo' : Nat} {x y : Ar} {va vb : Value} {w : World} (hx : ArIn (n + 1) lo w x va) (hy : ArIn (n + 1) lo' w y vb) (hcx : chkA 8 x = 0) (hcy : chkA 8 y = 0) (kx : Caps va) (ky : Caps vb) : Calls Try.prog 19 #[.int .i64 42, va, vb] w fun e w' => GivesD (n + 1) (takR x (lstA y)).1 (takR x (lstA y)).2 w e w' :=
  dy_of hx hy hcx hcy (fun W hW => pieces_42 hx hy hW hcx hcy kx ky) (tak_chk (lst_facts hcy).1 (lst_facts hcy).2.2).1 (tak_chk (lst_facts hcy).1 (lst_facts hcy).2.2).2
theorem dy_44 {n lo lo' : Nat} {x y : Ar} {va vb : Value} {w : World} (hx : ArIn (n + 1) lo w x va) (hy : ArIn (n + 1) lo' w y vb) (hcx : chkA 8 x = 0) (hcy : chkA 8 y = 0) (kx : Caps va) (ky : Caps vb) : Calls Try.prog 19 #[.int .i64 44, va, vb] w fun e w' => GivesD (n + 1) (rotR x y 0).1 (rotR x y 0).2 w e w' :=
  dy_of hx hy hcx hcy (fun W hW => pieces_44 hx hy hW hcx hcy kx ky) (rot_chk hcy 0 (fun h => h)).1 (rot_chk hcy 0 (fun h => h)).2
theorem dy_45 {n lo lo' : Nat} {x y : Ar} {va vb : Value} {w : World} (hx : ArIn (n + 1) lo w x va) (hy : ArIn (n + 1) lo' w y vb) (hcx : chkA 8 x = 0) (hcy : chkA 8 y = 0) (kx : Caps va) (ky : Caps vb) : Calls Try.prog 19 #[.int .i64 45, va, vb] w fun e w' => GivesD (n + 1) (rotR x y (y.shape.length - 1)).1 (rotR x y (y.shape.length - 1)).2 w e w' :=
  dy_of hx hy hcx hcy (fun W hW => pieces_45 hx hy hW hcx hcy kx ky) (rot_chk hcy _ (fun h => by omega)).1 (rot_chk hcy _ (fun h => by omega)).2
theorem dy_52 {n lo lo' : Nat} {x y : Ar} {va vb : Value} {w : World} (hx : ArIn (n + 1) lo w x va) (hy : ArIn (n + 1) lo' w y vb) (hcx : chkA 8 x = 0) (hcy : chkA 8 y = 0) (kx : Caps va) (ky : Caps vb) : Calls Try.prog 19 #[.int .i64 52, va, vb] w fun e w' => GivesD (n + 1) (lookR x y).1 (lookR x y).2 w e w' :=
  dy_of hx hy hcx hcy (fun W hW => pieces_52 hx hy hW hcx hcy kx ky) (look_chk hcx hcy).1 (look_chk hcx hcy).2
theorem dy_53 {n lo lo' : Nat} {x y : Ar} {va vb : Value} {w : World} (hx : ArIn (n + 1) lo w x va) (hy : ArIn (n + 1) lo' w y vb) (hcx : chkA 8 x = 0) (hcy : chkA 8 y = 0) (kx : Caps va) (ky : Caps vb) : Calls Try.prog 19 #[.int .i64 53, va, vb] w fun e w' => GivesD (n + 1) (lookR y x).1 (lookR y x).2 w e w' :=
  dy_of hx hy hcx hcy (fun W hW => pieces_53 hx hy hW hcx hcy kx ky) (look_chk hcy hcx).1 (look_chk hcy hcx).2
end Go.Proofs.Ytmjncdhahdpplaa
namespace Go.Proofs.Ytmjncdhahdpplaa
open Go.ChangeShapes Go.WideShapes Go.ChangeAt Go.RowKit
set_option linter.unusedVariables false
set_option maxRecDepth 100000
theorem numR_atom (z : Int) : numR (atomA z) = (z, 0) := by simp [numR, atomA, Ar.shape, Ar.cells, numCs, cAt]
/-- Where the cell at a place comes from, of a rotation. -/
def rq (D w : Nat) (m : Int) (p : Nat) : Nat := (p / w / D * D + ((((p / w % D : Nat) : Int) + m) % (D : Int)).toNat) * w + p % w
theorem rq_along (D w : Nat) (m : Int) (p : Nat) (hD : 0 < D) : alongQ D w D (fun i => (gI (rotL m D) i).toNat) p = rq D w m p := by
  unfold alongQ rq
  simp only [rotL_at m D _ (Nat.mod_lt _ hD)]
  rw [Nat.add_mul, Nat.mul_assoc]
theorem rq_at (D w : Nat) (m : Int) (r j q : Nat) (hj : j < D) (hq : q < w) : rq D w m ((r * D + j) * w + q) = (r * D + ((((j : Nat) : Int) + m) % (D : Int)).toNat) * w + q := by
  unfold rq
  have h1 : ((r * D + j) * w + q) / w = r * D + j := by
    rw [Nat.mul_comm, Nat.mul_add_div (by omega), Nat.div_eq_of_lt hq]; omega
  have h2 : ((r * D + j) * w + q) % w = q := by rw [Nat.mul_comm, Nat.mul_add_mod, Nat.mod_eq_of_lt hq]
  have h3 : (r * D + j) / D = r := by rw [Nat.mul_comm, Nat.mul_add_div (by omega), Nat.div_eq_of_lt hj]; omega
  have h4 : (r * D + j) % D = j := by rw [Nat.mul_comm, Nat.mul_add_mod, Nat.mod_eq_of_lt hj]
  rw [h1, h2, h3, h4]
theorem rq_parts (D w p : Nat) : p = (p / w / D * D + p / w % D) * w + p % w := by
  have h1 := Nat.div_add_mod p w
  have h2 := Nat.div_add_mod (p / w) D
  rw [Nat.mul_comm D] at h2
  rw [h2, Nat.mul_comm]
  exact h1.symm
theorem rq_rq (D w : Nat) (m n : Int) (p : Nat) (hD : 0 < D) (hw : 0 < w) : rq D w m (rq D w n p) = rq D w (m + n) p := by
  have hj := Nat.mod_lt (p / w) hD
  have hq := Nat.mod_lt p hw
  have hb1 : 0 ≤ (((p / w % D : Nat) : Int) + n) % (D : Int) := Int.emod_nonneg _ (by omega)
  have hb2 : (((p / w % D : Nat) : Int) + n) % (D : Int) < D := Int.emod_lt_of_pos _ (by omega)
  have e1 : rq D w n p = (p / w / D * D + ((((p / w % D : Nat) : Int) + n) % (D : Int)).toNat) * w + p % w := rfl
  rw [e1, rq_at D w m _ _ _ (by omega) hq]
  have e2 : rq D w (m + n) p = (p / w / D * D + ((((p / w % D : Nat) : Int) + (m + n)) % (D : Int)).toNat) * w + p % w := rfl
  rw [e2, Int.toNat_of_nonneg hb1, Int.emod_add_emod]
  have e3 : ((p / w % D : Nat) : Int) + n + m = ((p / w % D : Nat) : Int) + (m + n) := by omega
  rw [e3]
theorem rq_self (D w p : Nat) (hD : 0 < D) : rq D w (D : Int) p = p := by
  have hj := Nat.mod_lt (p / w) hD
  have e : ((((p / w % D : Nat) : Int) + (D : Int)) % (D : Int)).toNat = p / w % D := by
    rw [Int.add_emod_right, Int.emod_eq_of_lt (by omega) (by omega)]; omega
  unfold rq
  rw [e]
  exact (rq_parts D w p).symm
/-- A rotated array, cell by cell. -/
theorem rot_form {y : Ar} (hy : chkA 8 y = 0) {k D : Nat} (hk : k < y.shape.length) (hD : gI y.shape k = (D : Int)) (m : Int) : alongA y k (rotL m D) = .mk y.shape (mkCs y.cells.length fun p => cAt y.cells (rq D (sizeV (y.shape.drop (k + 1))).toNat m p)) := by
  have hset : y.shape.set k ((rotL m D).length : Int) = y.shape := by rw [rotL_len, ← hD]; exact set_gI _ _ hk
  have hv := ((chkA_iff 8 y).1 hy).2.1
  unfold alongA
  rw [hset, hv, Int.toNat_natCast, hD, Int.toNat_natCast, rotL_len]
  congr 1
  by_cases h0 : y.cells.length = 0
  · rw [h0]; rfl
  · have hDp : 0 < D := by
      have := ((chk_axes hy).2.1 (by omega)).1 (gI y.shape k) (getD_mem hk)
      omega
    congr 1
    funext p
    rw [rq_along D _ m p hDp]
theorem rq_lt {y : Ar} (hy : chkA 8 y = 0) {k D : Nat} (hk : k < y.shape.length) (hD : gI y.shape k = (D : Int)) (m : Int) (p : Nat) (hp : p < y.cells.length) : rq D (sizeV (y.shape.drop (k + 1))).toNat m p < y.cells.length ∧ 0 < D ∧ 0 < (sizeV (y.shape.drop (k + 1))).toNat := by
  have hset : y.shape.set k ((rotL m D).length : Int) = y.shape := by rw [rotL_len, ← hD]; exact set_gI _ _ hk
  obtain ⟨g1, g2, -, -⟩ := (chkA_iff 8 y).1 hy
  have hDp : 0 < D := by
    have := ((chk_axes hy).2.1 (by omega)).1 (gI y.shape k) (getD_mem hk)
    omega
  have hq := alongQ_lt hy (k := k) (l := rotL m D) hk (fun i hi => by
    rw [rotL_len] at hi
    rw [rotL_at m D i hi, hD]
    exact (rot_rem m D i hi).2.2.2) (by rw [hset]; exact g1) p (by rw [hset, g2, Int.toNat_natCast]; exact hp)
  rw [hD, Int.toNat_natCast, rotL_len, rq_along D _ m p hDp] at hq
  obtain ⟨A, D', wd, -, hwd, hw0, -⟩ := along_facts hy (k := k) (L := (rotL m D).length) hk (by rw [hset]; exact g1) (fun _ => by omega) (by rw [hset, g2]; omega)
  exact ⟨hq, hDp, by omega⟩
theorem rot_add {y : Ar} (hy : chkA 8 y = 0) {k D : Nat} (hk : k < y.shape.length) (hD : gI y.shape k = (D : Int)) (m n : Int) (h1 : chkA 8 (alongA y k (rotL m D)) = 0) : alongA (alongA y k (rotL m D)) k (rotL n D) = alongA y k (rotL (m + n) D) := by
  have f1 := rot_form hy hk hD m
  have f2 := rot_form hy hk hD (m + n)
  have s1 : (alongA y k (rotL m D)).shape = y.shape := by rw [f1]; rfl
  have l1 : (alongA y k (rotL m D)).cells.length = y.cells.length := by rw [f1]; exact mkCs_len _ _
  have f3 := rot_form h1 (k := k) (D := D) (by rw [s1]; exact hk) (by rw [s1]; exact hD) n
  rw [f3, f2, s1, l1]
  congr 1
  refine cs_ext (by rw [mkCs_len, mkCs_len]) fun i hi => ?_
  rw [mkCs_len] at hi
  rw [mkCs_at _ _ _ hi, mkCs_at _ _ _ hi]
  obtain ⟨hq, hDp, hw⟩ := rq_lt hy hk hD n i hi
  rw [f1]
  show cAt (mkCs _ _) _ = _
  rw [mkCs_at _ _ _ hq, rq_rq D _ m n i hDp hw]
theorem rot_self {y : Ar} (hy : chkA 8 y = 0) {k D : Nat} (hk : k < y.shape.length) (hD : gI y.shape k = (D : Int)) : alongA y k (rotL (D : Int) D) = y := by
  rw [rot_form hy hk hD]
  have : mkCs y.cells.length (fun p => cAt y.cells (rq D (sizeV (y.shape.drop (k + 1))).toNat (D : Int) p)) = y.cells := mkCs_self _ _ fun i hi => by
    rw [rq_self D _ i (rq_lt hy hk hD (D : Int) i hi).2.1]
  rw [this]; exact Ar.eta y
end Go.Proofs.Ytmjncdhahdpplaa
namespace Go.Proofs.Ytmjncdhahdpplaa
open Go.ChangeShapes Go.WideShapes Go.ChangeAt Go.RowKit
set_option linter.unusedVariables false
set_option maxRecDepth 100000
theorem plight_any {n lo : Nat} {x : Ar} {va : Value} {w : World} (hx : ArIn n lo w x va) : Calls Try.prog 17 #[va] w fun e w' => (∃ r : Bool, e = .returned (.bool r)) ∧ Below w.heap.size w w' := by
  have C := fun w' hb => weight_any' (w := w') (hx.next hb)
  cases n with
  | zero => exact hx.elim
  | succ n =>
    obtain ⟨a1, c1, a2, c2, rfl, -⟩ := hx
    generalize x.shape.length = SA at *
    generalize x.cells.length = CA at *
    have C1 := C _ (one_alloc w (.cells #[.slice a1 SA c1, .slice a2 CA c2] 25))
    clear C
    go_enter Try.func17, Try.ntmps17
    go_wp2_with fail
    refine C1.mono ?_
    rintro e w1 ⟨⟨r, rfl⟩, hb1⟩
    go_wp2
    go_ret
    exact ⟨⟨_, rfl⟩, (one_alloc _ _).trans (hb1.mono (one_alloc _ _).size)⟩
end Go.Proofs.Ytmjncdhahdpplaa
namespace Go.Proofs.Ytmjncdhahdpplaa
open Go.ChangeShapes Go.WideShapes Go.ChangeAt Go.RowKit
set_option linter.unusedVariables false
set_option maxRecDepth 100000
def GivesAK (n : Nat) (x : Ar) (w : World) (e : Ending) (w' : World) : Prop := (∃ v, e = .returned v ∧ Caps v ∧ ArIn n w.heap.size w' x v) ∧ Below w.heap.size w w'
theorem ratomK_any (n : Nat) (z : Int) (w : World) : Calls Try.prog 22 #[.int .i64 z] w fun e w' => GivesAK (n + 1) (atomA z) w e w' := by
  go_enter Try.func22, Try.ntmps22
  go_wp2
  exact bodyPost_ret (v := .agg #[.slice none 0 0, .slice (some ⟨w.heap.size + 1, 0, none⟩) 1 1]) (by simp [results, Try.results22, go_sem]) rfl ⟨⟨_, rfl, ⟨_, _, _, _, _, _, rfl, Nat.le_refl _, Nat.le_refl _⟩, atom_cells n z w _⟩, two_allocs _ _ _⟩
set_option maxHeartbeats 4000000 in
theorem rnumsK_any {lo : Nat} (n : Nat) (l : List Int) (a : Option Addr) (cap : Nat) (w : World) (R : Row lo w a l) (hl : l.length ≤ 16384) :
    Calls Try.prog 25 #[.slice a l.length cap] w fun e w' => GivesAK (n + 1) (numsA l) w e w' := by
  obtain ⟨i0, hi, hz0, hz1, hz2⟩ := info33'
  have hrow := @row_at _ _ _ _ R
  clear R
  have b1 : Below w.heap.size w ((w.alloc (.cells #[.slice none 0 0, .slice none 0 0] 25)).alloc (.cells #[.int .i64 (l.length : Int)] 3)) := two_allocs _ _ _
  have s1 := size_two w (.cells #[.slice none 0 0, .slice none 0 0] 25) (.cells #[.int .i64 (l.length : Int)] 3)
  have HST : Hid (Inv w.heap.size (w.heap.size + 2) (.slice (some ⟨w.heap.size + 1, 0, none⟩) 1 1) 0 l 0 (.slice none 0 0) w (((w.alloc (.cells #[.slice none 0 0, .slice none 0 0] 25)).alloc (.cells #[.int .i64 (l.length : Int)] 3)).alloc (.cells #[.slice (some ⟨w.heap.size + 1, 0, none⟩) 1 1, .slice none 0 0] 25))) := by
    have g := fun (b i : Nat) (v : Value) (hb : b < w.heap.size + 2) (h : ((w.alloc (.cells #[.slice none 0 0, .slice none 0 0] 25)).alloc (.cells #[.int .i64 (l.length : Int)] 3)).cell? ⟨b, i, none⟩ = some v) => ((one_alloc _ (.cells #[.slice (some ⟨w.heap.size + 1, 0, none⟩) 1 1, .slice none 0 0] 25)).cell (p := ⟨b, i, none⟩) (by rw [s1]; exact hb)).trans h
    have gf : ∀ i, (((w.alloc (.cells #[.slice none 0 0, .slice none 0 0] 25)).alloc (.cells #[.int .i64 (l.length : Int)] 3)).alloc (.cells #[.slice (some ⟨w.heap.size + 1, 0, none⟩) 1 1, .slice none 0 0] 25)).frozen? ⟨w.heap.size, i, none⟩ = false := fun i =>
      (((two_allocs (w.alloc (.cells #[.slice none 0 0, .slice none 0 0] 25)) (.cells #[.int .i64 (l.length : Int)] 3) (.cells #[.slice (some ⟨w.heap.size + 1, 0, none⟩) 1 1, .slice none 0 0] 25)).frozen (p := ⟨w.heap.size, i, none⟩) (by simp))).trans (frozen_new w _ 25 i)
    have n0 := cell_new0 ((w.alloc (.cells #[.slice none 0 0, .slice none 0 0] 25)).alloc (.cells #[.int .i64 (l.length : Int)] 3)) #[.slice (some ⟨w.heap.size + 1, 0, none⟩) 1 1, .slice none 0 0] 25 0 _ rfl
    have n1 := cell_new0 ((w.alloc (.cells #[.slice none 0 0, .slice none 0 0] 25)).alloc (.cells #[.int .i64 (l.length : Int)] 3)) #[.slice (some ⟨w.heap.size + 1, 0, none⟩) 1 1, .slice none 0 0] 25 1 _ rfl
    have nf := fun i => frozen_new ((w.alloc (.cells #[.slice none 0 0, .slice none 0 0] 25)).alloc (.cells #[.int .i64 (l.length : Int)] 3)) #[.slice (some ⟨w.heap.size + 1, 0, none⟩) 1 1, .slice none 0 0] 25 i
    rw [s1] at n0 n1 nf
    refine ⟨b1.trans ((one_alloc _ _).mono (by rw [s1]; omega)), by simp, ⟨g _ _ _ (by omega) (cell_new1 w _ 25 (0, 0) _ 0 _ rfl), g _ _ _ (by omega) (cell_new1 w _ 25 (0, 0) _ 1 _ rfl), gf 0, gf 1⟩, ⟨n0, n1, nf 0, nf 1⟩, ?_⟩
    exact World.ownsRow_nil _ _ _ _
  have HLEN : Hid ((((w.alloc (.cells #[.slice none 0 0, .slice none 0 0] 25)).alloc (.cells #[.int .i64 (l.length : Int)] 3)).alloc (.cells #[.slice (some ⟨w.heap.size + 1, 0, none⟩) 1 1, .slice none 0 0] 25)).cell? ⟨w.heap.size + 1, 0, none⟩ = some (.int .i64 (l.length : Int))) :=
    ((one_alloc _ (.cells #[.slice (some ⟨w.heap.size + 1, 0, none⟩) 1 1, .slice none 0 0] 25)).cell (p := ⟨w.heap.size + 1, 0, none⟩) (by rw [s1]; show w.heap.size + 1 < _; omega)).trans (cell_new2 w #[.int .i64 (l.length : Int)] 3 (0, 0) (.cells #[.slice none 0 0, .slice none 0 0] 25) 0 _ rfl)
  clear b1 s1
  go_enter Try.func25, Try.ntmps25
  go_wp2
  go_loopw [4] (fun i wr => ∃ (j : Nat) (v : Value), j ≤ l.length ∧ i = .int .i64 (j : Int) ∧ Inv w.heap.size (w.heap.size + 2) (.slice (some ⟨w.heap.size + 1, 0, none⟩) 1 1) 0 l j v w wr ∧ wr.cell? ⟨w.heap.size + 1, 0, none⟩ = some (.int .i64 (l.length : Int))) (fun i _ => l.length - (intOf i).toNat)
  case atStart => exact ⟨0, _, Nat.zero_le _, rfl, HST.out, HLEN.out⟩
  case round =>
    clear HST HLEN
    obtain ⟨j, v, hj, rfl, hinv, hlen⟩ := hrel
    have HI := hide hinv
    have HL := hide hlen
    obtain ⟨hnx, hsz, ⟨c0, c1, c2, c3⟩, ⟨d0, d1, d2, d3⟩, hown⟩ := hinv
    by_cases hlt : j < l.length
    · obtain ⟨b, off, ha, hb, hck⟩ := hrow hlt
      subst ha
      have hc1 : wr.cell? ⟨b, off + j, none⟩ = some (.int .i64 (l[j]?.getD 0)) := (hnx.cell (p := ⟨b, off + j, none⟩) hb).trans hck
      have hc2 : ∀ o, (wr.drew.alloc o).cell? ⟨w.heap.size + 2, 1, none⟩ = some v := fun o => ((one_alloc wr.drew o).cell (p := ⟨w.heap.size + 2, 1, none⟩) hsz).trans d1
      have HSTEP := hide (rowF_step 0 l j hlt)
      generalize l[j]?.getD 0 = z at *
      have HOWN := hide ((owns_drew hown).alloc (.cells #[.int .i64 0, .int .i64 z, .slice none 0 0] 36))
      have HNEWS : Hid (∀ i u, [Value.int .i64 0, .int .i64 z, .slice none 0 0][i]? = some u → (wr.drew.alloc (.cells #[.int .i64 0, .int .i64 z, .slice none 0 0] 36)).cell? ((⟨wr.heap.size, 0, none⟩ : Addr).add i) = some u) := by
        intro i u hu
        have ha : (⟨wr.heap.size, 0, none⟩ : Addr).add i = ⟨wr.drew.heap.size, i, none⟩ := by
          unfold Addr.add
          split
          · subst_vars; rfl
          · simp
        rw [ha]
        exact cell_new0 wr.drew _ 36 i u (by simpa using hu)
      have HONE : Hid (∀ u ∈ [Value.int .i64 0, .int .i64 z, .slice none 0 0], u.oneCell' = true) := by
        intro u hu
        simp at hu
        rcases hu with rfl | rfl | rfl <;> rfl
      have HMAX : Hid (j + 1 ≤ maxLen ∧ (j + 1) * 40 ≤ 140737488355328 ∧ w.heap.size + 2 + 1 ≤ (wr.drew.alloc (.cells #[.int .i64 0, .int .i64 z, .slice none 0 0] 36)).heap.size) := by
        refine ⟨by unfold maxLen; omega, by omega, ?_⟩
        have : (wr.drew.alloc (.cells #[.int .i64 0, .int .i64 z, .slice none 0 0] 36)).heap.size = wr.heap.size + 1 := by simp
        omega
      have HAL : Hid (Below (w.heap.size + 2 + 1) wr (wr.drew.alloc (.cells #[.int .i64 0, .int .i64 z, .slice none 0 0] 36))) := ((Below.refl _ _).drew).alloc (by show _ ≤ wr.heap.size; omega) _
      clear hown hck hrow hlen c0 c1 c2 c3 d0 d2 hb hnx
      go_wp2
      go_region_law (refine step_append_own rfl (.tmp 16) (.tmp 22) 23 rfl (w.heap.size + 2 + 1) 36 i0 (.agg #[.int .i64 0, .int .i64 0, .slice none 0 0]) 3 40 Try.underlying23 hi hz0 hz1 hz2 rfl (by decide) v j (rowF 0 l j) rfl HOWN.out ⟨wr.heap.size, 0, none⟩ 1 1 [.int .i64 0, .int .i64 z, .slice none 0 0] rfl rfl HNEWS.out HONE.out HMAX.out.1 HMAX.out.2.1 HMAX.out.2.2 ?_; intro v' w1 hown1 hb1; obtain ⟨g, cp, rfl, -⟩ := owns_form hown1 (Nat.succ_pos j); have dd1 := (HAL.out.trans hb1).cell (p := ⟨w.heap.size + 2, 1, none⟩) (Nat.lt_succ_self _) |>.trans d1; have dd3 := (HAL.out.trans hb1).frozen (p := ⟨w.heap.size + 2, 1, none⟩) (Nat.lt_succ_self _) |>.trans d3)
      all_goals
        have hown2 : w1.ownsRow (w.heap.size + 2 + 1) 36 3 (.slice (some ⟨g, 0, none⟩) (j + 1) cp) (j + 1) (rowF 0 l (j + 1)) := by rw [HSTEP.out]; exact hown1
        have HN := hide (inv_step (by omega) HI.out (HAL.out.trans hb1) hown2)
        have HN2 : Hid ((w1.setCell ⟨w.heap.size + 2, 1, none⟩ (.slice (some ⟨g, 0, none⟩) (j + 1) cp)).cell? ⟨w.heap.size + 1, 0, none⟩ = some (.int .i64 (l.length : Int))) := cell_apart (p := ⟨w.heap.size + 1, 0, none⟩) (q := ⟨w.heap.size + 2, 1, none⟩) (by show w.heap.size + 1 ≠ w.heap.size + 2; omega) _ (((HAL.out.trans hb1).cell (p := ⟨w.heap.size + 1, 0, none⟩) (by show w.heap.size + 1 < _; omega)).trans HL.out)
        clear hown1 hown2 hb1 dd1 dd3 HOWN HNEWS HONE HMAX HAL HI HL HSTEP
        go_wp2
        go_roundw
        case rel => exact ⟨j + 1, _, by omega, by go_num, HN.out, HN2.out⟩
        case measure => simp [intOf]; omega
    · have hje : j = l.length := by omega
      subst hje
      obtain ⟨a2, cp, rfl, hcs⟩ := owns_cells (n := n) (lo := w.heap.size + 2 + 1) 0 l hown (Nat.le_refl _)
      have HCP : Hid (l.length ≤ cp) := by
        obtain ⟨a', cap', he, hle⟩ := owns_cap hown
        simp only [Value.slice.injEq] at he
        obtain ⟨-, -, rfl⟩ := he
        exact hle
      have HF : Hid (∀ x y, ArIn (n + 1) w.heap.size ((wr.setCell ⟨w.heap.size, 0, none⟩ x).setCell ⟨w.heap.size, 1, none⟩ y) (numsA l) (.agg #[.slice (some ⟨w.heap.size + 1, 0, none⟩) 1 1, .slice a2 l.length cp])) := by
        intro x y
        have hk : Keeps (w.heap.size + 1) wr ((wr.setCell ⟨w.heap.size, 0, none⟩ x).setCell ⟨w.heap.size, 1, none⟩ y) := ((Keeps.refl _ _).setCell (p := ⟨w.heap.size, 0, none⟩) (by show w.heap.size < _; omega) x).setCell (p := ⟨w.heap.size, 1, none⟩) (by show w.heap.size < _; omega) y
        refine arIn_mk (x := numsA l) ?_ (by simp [numsA, Ar.cells, numCs_len]; omega) ?_ rfl (numCs_len 0 l)
        · exact ((row_one (lo := w.heap.size + 1) (b := w.heap.size + 1) (by omega) (Nat.le_refl _) HL.out).keeps hk).low (by omega)
        · exact ((hcs.mono (lo' := w.heap.size + 1) (by omega) (Below.refl _ _)).keeps hk).mono (by omega) (Below.refl _ _)
      have HT := hide (set_two c0 c1 (.slice (some ⟨w.heap.size + 1, 0, none⟩) 1 1) (.slice a2 l.length cp))
      have HB := hide hnx
      clear hown hrow hcs HI HL hnx
      go_wp2
      exact bodyPost_ret (v := .agg #[.slice (some ⟨w.heap.size + 1, 0, none⟩) 1 1, .slice a2 l.length cp]) (by simp [results, Try.results25, go_sem, HT.out.1, HT.out.2]) rfl ⟨⟨_, rfl, ⟨_, _, _, _, _, _, rfl, Nat.le_refl _, HCP.out⟩, HF.out _ _⟩, (HB.out.setCell (p := ⟨w.heap.size, 0, none⟩) (Nat.le_refl _) _).setCell (p := ⟨w.heap.size, 1, none⟩) (Nat.le_refl _) _⟩
end Go.Proofs.Ytmjncdhahdpplaa
namespace Go.Proofs.Ytmjncdhahdpplaa
open Go.ChangeShapes Go.WideShapes Go.ChangeAt Go.RowKit
set_option linter.unusedVariables false
set_option maxRecDepth 100000
def fromL (f L : Nat) : List Int := (List.range L).map fun i : Nat => ((f + i : Nat) : Int)
theorem fromL_len (f L : Nat) : (fromL f L).length = L := by simp [fromL]
theorem fromL_at (f L i : Nat) (hi : i < L) : gI (fromL f L) i = ((f + i : Nat) : Int) := by simp [gI, fromL, hi]
/-- Where Drop begins, and how many it leaves. -/
def drpF (n : Int) (D : Nat) : Nat := if n < 0 then 0 else (min n (D : Int)).toNat
def drpN (n : Int) (D : Nat) : Nat := if n < 0 then (max ((D : Int) + n) 0).toNat else D - (min n (D : Int)).toNat
def drpR (x y : Ar) : Ar × Int := if ¬ (numR x).2 = 0 then (zeroA, (numR x).2) else (alongA y 0 (fromL (drpF (numR x).1 (gI y.shape 0).toNat) (drpN (numR x).1 (gI y.shape 0).toNat)), 0)
theorem drp_le (n : Int) (D : Nat) : drpF n D + drpN n D ≤ D := by
  unfold drpF drpN
  split <;> omega
theorem drop_size {y : Ar} (hy : chkA 8 y = 0) (hS : 0 < y.shape.length) {D L : Nat} (hD : gI y.shape 0 = (D : Int)) (hL : L ≤ D) : sizeE (y.shape.set 0 (L : Int)) = 0 := by
  obtain ⟨d, t, hdt⟩ : ∃ d t, y.shape = d :: t := by
    cases hsh : y.shape with
    | nil => rw [hsh] at hS; simp at hS
    | cons d t => exact ⟨d, t, rfl⟩
  have ed : d = (D : Int) := by rw [← hD, hdt]; rfl
  obtain ⟨h1, -, -, -⟩ := (chkA_iff 8 y).1 hy
  rw [hdt] at h1 ⊢
  rw [List.set_cons_zero]
  obtain ⟨l8, g2, g3⟩ := fine_cases h1
  refine (fine_mk (l := (L : Int) :: t) (by simpa using l8) (fun z hz => ?_) ?_).1
  · rcases List.mem_cons.1 hz with h | h
    · omega
    · exact g2 z (List.mem_cons.2 (Or.inr h))
  · by_cases hL0 : L = 0
    · left; exact ⟨_, List.mem_cons_self, by omega⟩
    · rcases g3 with ⟨⟨z, hz, hz0⟩, -⟩ | ⟨hp, hle, -⟩
      · left
        rcases List.mem_cons.1 hz with h | h
        · omega
        · exact ⟨z, List.mem_cons.2 (Or.inr h), hz0⟩
      · right
        have e1 : prodL (d :: t) = d * prodL t := rfl
        have e2 : prodL ((L : Int) :: t) = (L : Int) * prodL t := rfl
        have pt := prodL_pos (l := t) fun z hz => hp z (List.mem_cons.2 (Or.inr hz))
        have := Int.mul_le_mul_of_nonneg_right (show (L : Int) ≤ d by omega) (show (0 : Int) ≤ prodL t by omega)
        rw [e1] at hle
        rw [e2]; omega
set_option maxHeartbeats 8000000 in
theorem dropped_row {n m lo lo' lo2 : Nat} {x y : Ar} {va : Value} {b1 b2 : Option Addr} {d1 d2 : Nat} {w0 w : World} (hx : ArIn (m + 1) lo w0 x va) (R' : Row lo2 w b1 y.shape) (hc' : CellsIn n lo' w0 y.cells b2) (hb0 : Below w0.heap.size w0 w) (hcx : chkA 8 x = 0) (hcy : chkA 8 y = 0) (hcap : Caps (.agg #[.slice b1 y.shape.length d1, .slice b2 y.cells.length d2])) (hS : 0 < y.shape.length) (hI64 : I64 (numR x).1) :
    Calls Try.prog 77 #[va, .agg #[.slice b1 y.shape.length d1, .slice b2 y.cells.length d2]] w fun e w' => Gives2K (n + 1) w0 (drpR x y).1 (drpR x y).2 w e w' := by
  obtain ⟨a1, c1, a2, c2, rfl, R, hc⟩ := hx.form
  have I := in3_new w (.slice a1 x.shape.length c1) (.slice a2 x.cells.length c2) (.slice b1 y.shape.length d1) (.slice b2 y.cells.length d2)
  obtain ⟨W3, e3⟩ : ∃ W3, ((w.alloc (.cells #[.slice a1 x.shape.length c1, .slice a2 x.cells.length c2] 25)).alloc (.cells #[.slice b1 y.shape.length d1, .slice b2 y.cells.length d2] 25)).alloc (.cells #[.slice none 0 0, .slice none 0 0] 25) = W3 := ⟨_, rfl⟩
  rw [e3] at I
  have q0 := I.q0
  have q1 := I.q1
  have CN := number_any (hx.next (hb0.trans (I.bel.mono hb0.size))) hcx
  have HI := hide I
  have HB0 := hide hb0
  have HY := hide (And.intro hc' (And.intro hcy hcap))
  have HRY := hide R'
  obtain ⟨l8, cy16⟩ := chk_len hcy
  have hDb := (chk_axes hcy).1 (gI y.shape 0) (getD_mem hS)
  obtain ⟨D, hD⟩ : ∃ D : Nat, gI y.shape 0 = (D : Int) := ⟨(gI y.shape 0).toNat, by omega⟩
  have hD16 : D ≤ 16384 := by omega
  have HE : Hid (drpR x y = if ¬ (numR x).2 = 0 then (zeroA, (numR x).2) else (alongA y 0 (fromL (drpF (numR x).1 D) (drpN (numR x).1 D)), 0)) := by unfold Hid drpR; rw [hD, Int.toNat_natCast]
  obtain ⟨⟨Nn, NE⟩, hNR⟩ : ∃ p, numR x = p := ⟨_, rfl⟩
  rw [hNR] at HE CN hI64
  simp only at CN HE hI64
  have HD := hide hD
  obtain ⟨by', oy, rfl, hby, hcy0⟩ := row_at R' (j := 0) hS
  have eg : y.shape[0]?.getD 0 = (D : Int) := hD
  rw [eg, Nat.add_zero] at hcy0
  have HCY0 := hide (And.intro hby hcy0)
  obtain ⟨SX, hSX⟩ : ∃ SX, x.shape.length = SX := ⟨_, rfl⟩
  obtain ⟨CX, hCX⟩ : ∃ CX, x.cells.length = CX := ⟨_, rfl⟩
  obtain ⟨SY, hSY⟩ : ∃ SY, y.shape.length = SY := ⟨_, rfl⟩
  obtain ⟨CY, hCY⟩ : ∃ CY, y.cells.length = CY := ⟨_, rfl⟩
  have HSC := hide (And.intro hSY hCY)
  simp only [hSX, hCX, hSY, hCY] at CN e3 q0 q1 HI HY l8 cy16 hS ⊢
  clear R hc I hx R' hc' hSX hCX hSY hCY hb0 hcx hcy hcap hNR hD hby hcy0 eg hDb
  obtain ⟨i1, i2⟩ := hI64
  go_enter Try.func77, Try.ntmps77
  go_wp2_with fail
  clear e3 q0 q1
  refine CN.mono ?_
  clear CN
  rintro e w1 ⟨rfl, hb1⟩
  have I1 := HI.out.next hb1
  have r0 := I1.r0
  have r1 := I1.r1
  have p0 := I1.p0
  have p1 := I1.p1
  have f0 := I1.f0
  have f1 := I1.f1
  have HI1 := hide I1
  by_cases hNE : NE = 0
  case neg =>
    have HE5 : Hid (drpR x y = (zeroA, NE)) := by unfold Hid; rw [HE.out, if_pos hNE]
    have HT := hide (I1.put (.slice none 0 0) (.slice none 0 0))
    have hne : (NE == 0) = false := beq_eq_false_iff_ne.2 hNE
    clear I1 HE HY HRY hb1 HI r0 r1
    go_wp2
    exact bodyPost_ret (v := .tuple #[.agg #[.slice none 0 0, .slice none 0 0], .int .i64 NE]) (by simp [results, Try.results77, go_sem, HT.out.1, HT.out.2]) rfl (gives2k_of HE5.out caps_nil (fun _ _ _ => zeroA_in _ _ _) (HI1.out.fin _ _))
  subst hNE
  have u0 := (I1.bel.cell (p := ⟨by', oy, none⟩) HCY0.out.1).trans HCY0.out.2
  have hle := drp_le Nn D
  obtain ⟨fz, hfz⟩ : ∃ fz, drpF Nn D = fz := ⟨_, rfl⟩
  obtain ⟨L, hL⟩ : ∃ L, drpN Nn D = L := ⟨_, rfl⟩
  have HE5 : Hid (drpR x y = (alongA y 0 (fromL fz L), 0)) := by unfold Hid; rw [HE.out, if_neg (by simp), hfz, hL]
  rw [hfz, hL] at hle
  have mk := run_make_row' (P := Try.prog) 22 3 (.int .i64 0) 8 Try.underlying22 int3 rfl .i64 .i64 L (by omega) (by omega) w1
  obtain ⟨W4, e4⟩ : ∃ W4, w1.alloc (.cells (madeCells #[.int .i64 0] L) 3) = W4 := ⟨_, rfl⟩
  rw [e4] at mk
  have B4 : Below w1.heap.size w1 W4 := by rw [← e4]; exact one_alloc _ _
  have z4 : W4.heap.size = w1.heap.size + 1 := by rw [← e4]; simp
  have RM : W4.rowIs w1.heap.size 3 L (toF (fromL fz L) 0) := by
    rw [← e4]
    exact (World.rowIs_made w1 (.int .i64 0) L 3).congr fun i hi => by unfold toF; rw [if_neg (by omega)]
  have I4 := I1.next B4
  have HI4 := hide I4
  have HZ4 := hide (And.intro z4 I1.size)
  have HRM := hide RM
  clear I1 HE hb1 HI p0 p1 f0 f1 B4 z4 RM I4
  by_cases hneg : Nn < 0
  · have hfz0 : fz = 0 := by rw [← hfz]; unfold drpF; rw [if_pos hneg]
    subst hfz0
    have hLv : (max ((D : Int) + Nn) 0) = (L : Int) := by
      have : drpN Nn D = (max ((D : Int) + Nn) 0).toNat := by unfold drpN; rw [if_pos hneg]
      omega
    have hm1 : ¬ (D : Int) < Nn := by omega
    by_cases hA : (D : Int) + Nn < 0
    · have hL0 : L = 0 := by omega
      subst hL0
      change (Instr.makeSlice 22 (.int .i64 0) (.int .i64 0)).run Try.prog w1 = _ at mk
      clear hfz hL hLv
      go_wp2
      clear mk e4 u0 r0 r1
      go_loopg [42] 0 (fun g i wr => ∃ j : Nat, g + j = 0 ∧ i = .int .i64 (j : Int) ∧ Two W4 w1.heap.size w1.heap.size wr ∧ wr.rowIs w1.heap.size 3 0 (toF (fromL 0 0) j))
      case atStart => exact ⟨0, rfl, rfl, Two.refl _ _ _, HRM.out⟩
      case round =>
        clear HRM
        obtain ⟨j, hgj, rfl, hTw, hrow⟩ := hrel
        by_cases hlt : j < 0
        · exact absurd hlt (by omega)
        · have hje : j = 0 := by omega
          subst hje
          have hz := HZ4.out
          have RR : Row 0 wr (some ⟨w1.heap.size, 0, none⟩) (fromL 0 0) := row_toF3 (by rw [fromL_len]; exact hrow) (Nat.zero_le _) (by rw [fromL_len]; omega)
          have I5 : In3 w (.slice a1 SX c1) (.slice a2 CX c2) (.slice (some ⟨by', oy, none⟩) SY d1) (.slice b2 CY d2) wr := HI4.out.belowS (hTw.belowB (B := w.heap.size + 3) (by omega) (by omega)) (Nat.le_refl _)
          have C := along_row (k := 0) (c1 := d1) (c2 := d2) (HRY.out.next I5.bel) HY.out.1 (HB0.out.trans (I5.bel.mono HB0.out.size)) (by rw [HSC.out.1, HSC.out.2]; exact HY.out.2.2) HY.out.2.1 (by rw [HSC.out.1]; exact hS) (fromL 0 0) (some ⟨w1.heap.size, 0, none⟩) 0 RR (fun i hi => by
            rw [fromL_len] at hi
            rw [fromL_at _ 0 i hi, HD.out]
            omega) (by rw [fromL_len]; exact drop_size HY.out.2.1 (by rw [HSC.out.1]; exact hS) HD.out (by omega)) (by rw [fromL_len]; omega)
          rw [fromL_len, HSC.out.1, HSC.out.2] at C
          have r0 := I5.r0
          have r1 := I5.r1
          have HI5 := hide I5
          obtain ⟨Y, hYY⟩ : ∃ Y, alongA y 0 (fromL 0 0) = Y := ⟨_, rfl⟩
          rw [hYY] at C HE5
          clear RR I5 hrow hTw hz hYY
          go_wp2_with fail
          refine C.mono ?_
          clear C
          rintro e w5 ⟨⟨v, rfl, hcv, hv⟩, hb5⟩
          have NB : Below w0.heap.size w0 w5 := HB0.out.trans ((HI5.out.bel.trans (hb5.mono HI5.out.bel.size)).mono HB0.out.size)
          obtain ⟨z1, m1, z2, m2, rfl, -, -⟩ := (hv w5 NB (Keeps.refl _ _)).form
          have I6 := HI5.out.next hb5
          have p0 := I6.p0
          have p1 := I6.p1
          have f0 := I6.f0
          have f1 := I6.f1
          have HT := hide (I6.put (.slice z1 Y.shape.length m1) (.slice z2 Y.cells.length m2))
          have HCV := hide hcv
          have HF : Hid (∀ u v W, Below w0.heap.size w0 W → Keeps w.heap.size ((w5.setCell ⟨w.heap.size + 2, 0, none⟩ u).setCell ⟨w.heap.size + 2, 1, none⟩ v) W → ArIn (n + 1) 0 W Y (.agg #[.slice z1 Y.shape.length m1, .slice z2 Y.cells.length m2])) := by
            intro u v W hW hK
            exact hv W hW (((keeps_three w5 w.heap.size u v).trans (hK.mono (show w.heap.size ≤ w.heap.size + 3 by omega))).mono HI5.out.size)
          have HFI := hide I6.fin
          clear I6 hv hcv hb5 NB r0 r1
          generalize Y.shape.length = YS at *
          generalize Y.cells.length = YC at *
          go_wp2
          exact bodyPost_ret (v := .tuple #[.agg #[.slice z1 YS m1, .slice z2 YC m2], .int .i64 0]) (by simp [results, Try.results77, go_sem, HT.out.1, HT.out.2]) rfl (gives2k_of HE5.out HCV.out (HF.out _ _) (HFI.out _ _))
    · have hDN : (D : Int) + Nn = (L : Int) := by omega
      clear hfz hL hLv hA
      go_wp2
      clear mk e4 u0 r0 r1
      go_loopg [42] L (fun g i wr => ∃ j : Nat, g + j = L ∧ i = .int .i64 (j : Int) ∧ Two W4 w1.heap.size w1.heap.size wr ∧ wr.rowIs w1.heap.size 3 L (toF (fromL 0 L) j))
      case atStart => exact ⟨0, rfl, rfl, Two.refl _ _ _, HRM.out⟩
      case round =>
        clear HRM
        obtain ⟨j, hgj, rfl, hTw, hrow⟩ := hrel
        by_cases hlt : j < L
        · have z0 := hrow.cell (i := j) hlt
          have y0 := hrow.frozen j
          have HS : Hid (Two W4 w1.heap.size w1.heap.size (wr.setCell ⟨w1.heap.size, j, none⟩ (.int .i64 ((0 + j : Nat) : Int))) ∧ (wr.setCell ⟨w1.heap.size, j, none⟩ (.int .i64 ((0 + j : Nat) : Int))).rowIs w1.heap.size 3 L (toF (fromL 0 L) (j + 1))) := ⟨hTw.set1 _ _, (hrow.set j (.int .i64 ((0 + j : Nat) : Int))).congr (fun i _ => by rw [toF_step, fromL_at 0 L j hlt])⟩
          obtain ⟨fj, hfj⟩ : ∃ fj, 0 + j = fj := ⟨_, rfl⟩
          rw [hfj] at HS
          have hfj2 : (0 : Int) + (j : Int) = (fj : Int) := by omega
          generalize toF (fromL 0 L) j j = yv at *
          clear hrow hTw hfj
          go_wp2
          go_roundg (L - (j + 1))
          case rel => exact ⟨j + 1, by omega, by go_num, HS.out⟩
          case measure => omega
        · have hje : j = L := by omega
          subst hje
          have hz := HZ4.out
          have RR : Row 0 wr (some ⟨w1.heap.size, 0, none⟩) (fromL 0 j) := row_toF3 (by rw [fromL_len]; exact hrow) (Nat.zero_le _) (by rw [fromL_len]; omega)
          have I5 : In3 w (.slice a1 SX c1) (.slice a2 CX c2) (.slice (some ⟨by', oy, none⟩) SY d1) (.slice b2 CY d2) wr := HI4.out.belowS (hTw.belowB (B := w.heap.size + 3) (by omega) (by omega)) (Nat.le_refl _)
          have C := along_row (k := 0) (c1 := d1) (c2 := d2) (HRY.out.next I5.bel) HY.out.1 (HB0.out.trans (I5.bel.mono HB0.out.size)) (by rw [HSC.out.1, HSC.out.2]; exact HY.out.2.2) HY.out.2.1 (by rw [HSC.out.1]; exact hS) (fromL 0 j) (some ⟨w1.heap.size, 0, none⟩) j RR (fun i hi => by
            rw [fromL_len] at hi
            rw [fromL_at _ j i hi, HD.out]
            omega) (by rw [fromL_len]; exact drop_size HY.out.2.1 (by rw [HSC.out.1]; exact hS) HD.out (by omega)) (by rw [fromL_len]; omega)
          rw [fromL_len, HSC.out.1, HSC.out.2] at C
          have r0 := I5.r0
          have r1 := I5.r1
          have HI5 := hide I5
          obtain ⟨Y, hYY⟩ : ∃ Y, alongA y 0 (fromL 0 j) = Y := ⟨_, rfl⟩
          rw [hYY] at C HE5
          clear RR I5 hrow hTw hz hYY
          go_wp2_with fail
          refine C.mono ?_
          clear C
          rintro e w5 ⟨⟨v, rfl, hcv, hv⟩, hb5⟩
          have NB : Below w0.heap.size w0 w5 := HB0.out.trans ((HI5.out.bel.trans (hb5.mono HI5.out.bel.size)).mono HB0.out.size)
          obtain ⟨z1, m1, z2, m2, rfl, -, -⟩ := (hv w5 NB (Keeps.refl _ _)).form
          have I6 := HI5.out.next hb5
          have p0 := I6.p0
          have p1 := I6.p1
          have f0 := I6.f0
          have f1 := I6.f1
          have HT := hide (I6.put (.slice z1 Y.shape.length m1) (.slice z2 Y.cells.length m2))
          have HCV := hide hcv
          have HF : Hid (∀ u v W, Below w0.heap.size w0 W → Keeps w.heap.size ((w5.setCell ⟨w.heap.size + 2, 0, none⟩ u).setCell ⟨w.heap.size + 2, 1, none⟩ v) W → ArIn (n + 1) 0 W Y (.agg #[.slice z1 Y.shape.length m1, .slice z2 Y.cells.length m2])) := by
            intro u v W hW hK
            exact hv W hW (((keeps_three w5 w.heap.size u v).trans (hK.mono (show w.heap.size ≤ w.heap.size + 3 by omega))).mono HI5.out.size)
          have HFI := hide I6.fin
          clear I6 hv hcv hb5 NB r0 r1
          generalize Y.shape.length = YS at *
          generalize Y.cells.length = YC at *
          go_wp2
          exact bodyPost_ret (v := .tuple #[.agg #[.slice z1 YS m1, .slice z2 YC m2], .int .i64 0]) (by simp [results, Try.results77, go_sem, HT.out.1, HT.out.2]) rfl (gives2k_of HE5.out HCV.out (HF.out _ _) (HFI.out _ _))
  · have hF : drpF Nn D = (min Nn (D : Int)).toNat := by unfold drpF; rw [if_neg hneg]
    have hG : drpN Nn D = D - (min Nn (D : Int)).toNat := by unfold drpN; rw [if_neg hneg]
    by_cases hB : (D : Int) < Nn
    · have h1 : fz = D := by omega
      have h2 : L = 0 := by omega
      subst h1 h2
      change (Instr.makeSlice 22 (.int .i64 0) (.int .i64 0)).run Try.prog w1 = _ at mk
      clear hfz hL hF hG
      go_wp2
      clear mk e4 u0 r0 r1
      go_loopg [42] 0 (fun g i wr => ∃ j : Nat, g + j = 0 ∧ i = .int .i64 (j : Int) ∧ Two W4 w1.heap.size w1.heap.size wr ∧ wr.rowIs w1.heap.size 3 0 (toF (fromL fz 0) j))
      case atStart => exact ⟨0, rfl, rfl, Two.refl _ _ _, HRM.out⟩
      case round =>
        clear HRM
        obtain ⟨j, hgj, rfl, hTw, hrow⟩ := hrel
        by_cases hlt : j < 0
        · exact absurd hlt (by omega)
        · have hje : j = 0 := by omega
          subst hje
          have hz := HZ4.out
          have RR : Row 0 wr (some ⟨w1.heap.size, 0, none⟩) (fromL fz 0) := row_toF3 (by rw [fromL_len]; exact hrow) (Nat.zero_le _) (by rw [fromL_len]; omega)
          have I5 : In3 w (.slice a1 SX c1) (.slice a2 CX c2) (.slice (some ⟨by', oy, none⟩) SY d1) (.slice b2 CY d2) wr := HI4.out.belowS (hTw.belowB (B := w.heap.size + 3) (by omega) (by omega)) (Nat.le_refl _)
          have C := along_row (k := 0) (c1 := d1) (c2 := d2) (HRY.out.next I5.bel) HY.out.1 (HB0.out.trans (I5.bel.mono HB0.out.size)) (by rw [HSC.out.1, HSC.out.2]; exact HY.out.2.2) HY.out.2.1 (by rw [HSC.out.1]; exact hS) (fromL fz 0) (some ⟨w1.heap.size, 0, none⟩) 0 RR (fun i hi => by
            rw [fromL_len] at hi
            rw [fromL_at _ 0 i hi, HD.out]
            omega) (by rw [fromL_len]; exact drop_size HY.out.2.1 (by rw [HSC.out.1]; exact hS) HD.out (by omega)) (by rw [fromL_len]; omega)
          rw [fromL_len, HSC.out.1, HSC.out.2] at C
          have r0 := I5.r0
          have r1 := I5.r1
          have HI5 := hide I5
          obtain ⟨Y, hYY⟩ : ∃ Y, alongA y 0 (fromL fz 0) = Y := ⟨_, rfl⟩
          rw [hYY] at C HE5
          clear RR I5 hrow hTw hz hYY
          go_wp2_with fail
          refine C.mono ?_
          clear C
          rintro e w5 ⟨⟨v, rfl, hcv, hv⟩, hb5⟩
          have NB : Below w0.heap.size w0 w5 := HB0.out.trans ((HI5.out.bel.trans (hb5.mono HI5.out.bel.size)).mono HB0.out.size)
          obtain ⟨z1, m1, z2, m2, rfl, -, -⟩ := (hv w5 NB (Keeps.refl _ _)).form
          have I6 := HI5.out.next hb5
          have p0 := I6.p0
          have p1 := I6.p1
          have f0 := I6.f0
          have f1 := I6.f1
          have HT := hide (I6.put (.slice z1 Y.shape.length m1) (.slice z2 Y.cells.length m2))
          have HCV := hide hcv
          have HF : Hid (∀ u v W, Below w0.heap.size w0 W → Keeps w.heap.size ((w5.setCell ⟨w.heap.size + 2, 0, none⟩ u).setCell ⟨w.heap.size + 2, 1, none⟩ v) W → ArIn (n + 1) 0 W Y (.agg #[.slice z1 Y.shape.length m1, .slice z2 Y.cells.length m2])) := by
            intro u v W hW hK
            exact hv W hW (((keeps_three w5 w.heap.size u v).trans (hK.mono (show w.heap.size ≤ w.heap.size + 3 by omega))).mono HI5.out.size)
          have HFI := hide I6.fin
          clear I6 hv hcv hb5 NB r0 r1
          generalize Y.shape.length = YS at *
          generalize Y.cells.length = YC at *
          go_wp2
          exact bodyPost_ret (v := .tuple #[.agg #[.slice z1 YS m1, .slice z2 YC m2], .int .i64 0]) (by simp [results, Try.results77, go_sem, HT.out.1, HT.out.2]) rfl (gives2k_of HE5.out HCV.out (HF.out _ _) (HFI.out _ _))
    · have h1 : Nn = (fz : Int) := by omega
      have h2 : D = fz + L := by omega
      subst h1
      have hsub : (D : Int) - (fz : Int) = (L : Int) := by omega
      clear hfz hL hF hG h2
      go_wp2
      clear mk e4 u0 r0 r1
      go_loopg [42] L (fun g i wr => ∃ j : Nat, g + j = L ∧ i = .int .i64 (j : Int) ∧ Two W4 w1.heap.size w1.heap.size wr ∧ wr.rowIs w1.heap.size 3 L (toF (fromL fz L) j))
      case atStart => exact ⟨0, rfl, rfl, Two.refl _ _ _, HRM.out⟩
      case round =>
        clear HRM
        obtain ⟨j, hgj, rfl, hTw, hrow⟩ := hrel
        by_cases hlt : j < L
        · have z0 := hrow.cell (i := j) hlt
          have y0 := hrow.frozen j
          have HS : Hid (Two W4 w1.heap.size w1.heap.size (wr.setCell ⟨w1.heap.size, j, none⟩ (.int .i64 ((fz + j : Nat) : Int))) ∧ (wr.setCell ⟨w1.heap.size, j, none⟩ (.int .i64 ((fz + j : Nat) : Int))).rowIs w1.heap.size 3 L (toF (fromL fz L) (j + 1))) := ⟨hTw.set1 _ _, (hrow.set j (.int .i64 ((fz + j : Nat) : Int))).congr (fun i _ => by rw [toF_step, fromL_at fz L j hlt])⟩
          obtain ⟨fj, hfj⟩ : ∃ fj, fz + j = fj := ⟨_, rfl⟩
          rw [hfj] at HS
          have hfj2 : (fz : Int) + (j : Int) = (fj : Int) := by omega
          generalize toF (fromL fz L) j j = yv at *
          clear hrow hTw hfj
          go_wp2
          go_roundg (L - (j + 1))
          case rel => exact ⟨j + 1, by omega, by go_num, HS.out⟩
          case measure => omega
        · have hje : j = L := by omega
          subst hje
          have hz := HZ4.out
          have RR : Row 0 wr (some ⟨w1.heap.size, 0, none⟩) (fromL fz j) := row_toF3 (by rw [fromL_len]; exact hrow) (Nat.zero_le _) (by rw [fromL_len]; omega)
          have I5 : In3 w (.slice a1 SX c1) (.slice a2 CX c2) (.slice (some ⟨by', oy, none⟩) SY d1) (.slice b2 CY d2) wr := HI4.out.belowS (hTw.belowB (B := w.heap.size + 3) (by omega) (by omega)) (Nat.le_refl _)
          have C := along_row (k := 0) (c1 := d1) (c2 := d2) (HRY.out.next I5.bel) HY.out.1 (HB0.out.trans (I5.bel.mono HB0.out.size)) (by rw [HSC.out.1, HSC.out.2]; exact HY.out.2.2) HY.out.2.1 (by rw [HSC.out.1]; exact hS) (fromL fz j) (some ⟨w1.heap.size, 0, none⟩) j RR (fun i hi => by
            rw [fromL_len] at hi
            rw [fromL_at _ j i hi, HD.out]
            omega) (by rw [fromL_len]; exact drop_size HY.out.2.1 (by rw [HSC.out.1]; exact hS) HD.out (by omega)) (by rw [fromL_len]; omega)
          rw [fromL_len, HSC.out.1, HSC.out.2] at C
          have r0 := I5.r0
          have r1 := I5.r1
          have HI5 := hide I5
          obtain ⟨Y, hYY⟩ : ∃ Y, alongA y 0 (fromL fz j) = Y := ⟨_, rfl⟩
          rw [hYY] at C HE5
          clear RR I5 hrow hTw hz hYY
          go_wp2_with fail
          refine C.mono ?_
          clear C
          rintro e w5 ⟨⟨v, rfl, hcv, hv⟩, hb5⟩
          have NB : Below w0.heap.size w0 w5 := HB0.out.trans ((HI5.out.bel.trans (hb5.mono HI5.out.bel.size)).mono HB0.out.size)
          obtain ⟨z1, m1, z2, m2, rfl, -, -⟩ := (hv w5 NB (Keeps.refl _ _)).form
          have I6 := HI5.out.next hb5
          have p0 := I6.p0
          have p1 := I6.p1
          have f0 := I6.f0
          have f1 := I6.f1
          have HT := hide (I6.put (.slice z1 Y.shape.length m1) (.slice z2 Y.cells.length m2))
          have HCV := hide hcv
          have HF : Hid (∀ u v W, Below w0.heap.size w0 W → Keeps w.heap.size ((w5.setCell ⟨w.heap.size + 2, 0, none⟩ u).setCell ⟨w.heap.size + 2, 1, none⟩ v) W → ArIn (n + 1) 0 W Y (.agg #[.slice z1 Y.shape.length m1, .slice z2 Y.cells.length m2])) := by
            intro u v W hW hK
            exact hv W hW (((keeps_three w5 w.heap.size u v).trans (hK.mono (show w.heap.size ≤ w.heap.size + 3 by omega))).mono HI5.out.size)
          have HFI := hide I6.fin
          clear I6 hv hcv hb5 NB r0 r1
          generalize Y.shape.length = YS at *
          generalize Y.cells.length = YC at *
          go_wp2
          exact bodyPost_ret (v := .tuple #[.agg #[.slice z1 YS m1, .slice z2 YC m2], .int .i64 0]) (by simp [results, Try.results77, go_sem, HT.out.1, HT.out.2]) rfl (gives2k_of HE5.out HCV.out (HF.out _ _) (HFI.out _ _))
end Go.Proofs.Ytmjncdhahdpplaa
