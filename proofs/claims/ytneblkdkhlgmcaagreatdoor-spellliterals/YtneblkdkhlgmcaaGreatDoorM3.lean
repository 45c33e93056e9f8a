/-
  The checker's walk over a program: the contract of fits; for all programs.
  Write of layer 16: a program as a text, or that it can't be written; for all programs and grammars.
  The contracts of layer 3's Atom and of the document's, and of layer 3's trial run: it answers true.
  Nodes that are made: Prim, Lit, One, Two, With, and what a node without parts is; for all parts.
  The contracts of layer 3's Places and of the document's: where a cell stands, axis by axis, in memory of its own; for all shapes and numbers.
  The contract of layer 3's Text; and what the document's Nums and Text rest on: a row of cells put together by append.
  The contracts of the document's Nums and Text: numbers and signs as arrays, put together by append; at most 16384 numbers.
  The grammars of the three dialects, as far as a writer reads them; an array and a program of the trial run.
  The trial run of layer 16's statements; a number as a text, both ways.
  What a call of layer 16's statements is told of the package-level variables: they lie as their texts lay them; a world for the witness.
-/
import Derived.Test.YtneblkdkhlgmcaaGreatDoorM2
import Derived.Shelf.Strconv.Itoa4
import Derived.Test.YtneblkdkhlgmcaaGreatDoorProg
import Derived.WalkKit
import Derived.Test.YtneblkdkhlgmcaaGreatDoorChecked
import GoSem.Claim
import GoSem.ClaimJoined
import GoSem.ClaimMapViews
import Derived.JoinedTies
import Derived.KernelRfl
import Derived.ProofKit
import Derived.Below
import Derived.Deep.OwnRows
import Derived.Deep.QuietTactic
import Derived.BigQuiet
import Derived.Deep.RegionWith
import Derived.Lib.AppendIntMem
import Derived.Lib.ConvBytes
import Derived.Lib.Builder
import Derived.Lib.AppendStr
import Derived.Lib.UnsafeStr
import Derived.Deep.LoopGhost
import Derived.Deep.RegionHeld3
import Derived.Lib.MakeNoZero
import Derived.Laws.MakeOwn
import Derived.Laws.BitsAllLaws
import Derived.Lib.Bits
import Derived.Deep.Cut
import Derived.Deep.MidRow
import Derived.Deep.RegionLaw
import GoSem.ClaimSeven
import Derived.LaidByTextLater
import Derived.SevenTiedAt
import Derived.LaidSub
import Derived.LaidOnce
import Derived.Deep.DeepHandedRow
import Derived.Lib.LaidTab
import Derived.OpenShut
import Derived.Lay
import Derived.ChangeOld
import Derived.SizedLaws
import Derived.Deep.Slices
import Derived.Deep.Strs
namespace Go.Proofs.YtneblkdkhlgmcaaGreatDoor
open Go.ChangeShapes Go.WideShapes Go.ChangeAt Go.RowKit
set_option maxRecDepth 100000
set_option linter.unusedVariables false
set_option linter.unusedSimpArgs false
/-- The parts, one by one, until one does not fit. -/
def lpM (F : Int → Bool → Int → Nd → Bool × Int) (x : Nd) : Nat → Nat → Int → Bool × Int
  | 0, _, c => (true, c)
  | n + 1, j, c => if (F c (fnP x.kind j) x.kind (kp x j)).1 then lpM F x n (j + 1) (F c (fnP x.kind j) x.kind (kp x j)).2 else (false, (F c (fnP x.kind j) x.kind (kp x j)).2)
/-- Whether a program fits, and how many nodes were counted. -/
def fitM (lone : Bool) : Nat → Int → Bool → Int → Nd → Bool × Int
  | 0, c, _, _, _ => (false, c)
  | m + 1, c, f, wh, x =>
    if c + 1 > 2048 ∨ arK x.kind < 0 ∨ f ≠ decide (21 ≤ x.kind) ∨ (x.kids.length : Int) ≠ arK x.kind then (false, c + 1)
    else if riB lone wh x = false then (false, c + 1)
    else lpM (fitM lone m) x x.kids.length 0 (c + 1)
theorem lpM_le {F : Int → Bool → Int → Nd → Bool × Int} (hF : ∀ c f wh x, (F c f wh x).1 = true → c ≤ (F c f wh x).2 ∧ (F c f wh x).2 ≤ 2048) (x : Nd) (n j : Nat) (c : Int) (hc : c ≤ 2048) (h : (lpM F x n j c).1 = true) : c ≤ (lpM F x n j c).2 ∧ (lpM F x n j c).2 ≤ 2048 := by
  induction n generalizing j c with
  | zero => exact ⟨Int.le_refl _, hc⟩
  | succ n ih =>
    unfold lpM at h ⊢
    split at h
    · rename_i h1
      rw [if_pos h1]
      obtain ⟨h2, h3⟩ := hF _ _ _ _ h1
      obtain ⟨h4, h5⟩ := ih (j + 1) _ h3 h
      exact ⟨Int.le_trans h2 h4, h5⟩
    · cases h
theorem fitM_le (lone : Bool) (m : Nat) : ∀ c f wh x, (fitM lone m c f wh x).1 = true → c ≤ (fitM lone m c f wh x).2 ∧ (fitM lone m c f wh x).2 ≤ 2048 := by
  induction m with
  | zero => intro c f wh x h; cases h
  | succ m ih =>
    intro c f wh x h
    unfold fitM at h ⊢
    split at h
    · cases h
    · rename_i h1
      rw [if_neg h1]
      split at h
      · cases h
      · rename_i h2
        rw [if_neg h2]
        have := lpM_le ih x x.kids.length 0 (c + 1) (by omega) h
        exact ⟨by omega, this.2⟩
theorem ar_kinds {k : Int} (h : 0 ≤ arK k) : k = 1 ∨ k = 2 ∨ k = 3 ∨ k = 4 ∨ k = 21 ∨ k = 22 ∨ k = 23 ∨ k = 24 ∨ k = 25 ∨ k = 26 ∨ k = 5 ∨ k = 8 ∨ k = 28 ∨ k = 6 ∨ k = 27 := by
  unfold arK at h
  repeat' split at h
  all_goals omega
theorem pt_size {k : Int} (h : 0 ≤ arK k) : ((ptS k).size : Int) = arK k := by
  rcases ar_kinds h with rfl | rfl | rfl | rfl | rfl | rfl | rfl | rfl | rfl | rfl | rfl | rfl | rfl | rfl | rfl <;> rfl
theorem ar_le (k : Int) : arK k ≤ 3 := by
  unfold arK
  repeat' split
  all_goals omega
theorem pt_at {k : Int} {j : Nat} (h : (j : Int) < arK k) : byt (ptS k) j = fb (fnP k j) := by
  have h0 : 0 ≤ arK k := by omega
  have h3 := ar_le k
  rcases (show j = 0 ∨ j = 1 ∨ j = 2 by omega) with rfl | rfl | rfl
  all_goals (rcases ar_kinds h0 with rfl | rfl | rfl | rfl | rfl | rfl | rfl | rfl | rfl | rfl | rfl | rfl | rfl | rfl | rfl)
  all_goals (first | rfl | exact absurd h (by decide))
/-- What the look at a part promises. -/
def CFit (n m : Nat) (w0 : World) (B p : Nat) (lone : Bool) : Prop := ∀ (c : Int) (f : Bool) (wh : Int) (w : World) (x : Nd) (v : Value), NdIn m n 0 w0 x v → 0 ≤ c → c ≤ 2048 → Ck w0 B w p lone c →
  Calls Tryz.prog 33 #[.pointer (some ⟨p, 0, none⟩), v, .int .u8 (fb f), .int .i64 wh] w fun e w' => e = .returned (.bool (fitM lone m c f wh x).1) ∧ Ck w0 B w' p lone (fitM lone m c f wh x).2 ∧ Kp B p w w'
set_option maxHeartbeats 8000000 in
theorem fit_step {n m : Nat} {w0 : World} {B p : Nat} {lone : Bool} (IH : CFit n m w0 B p lone) : CFit n (m + 1) w0 B p lone := by
  intro c f wh w x v hx hc0 hc1 h
  obtain ⟨v1, v2, ak, ck, rfl, hv1, hlit, hkid⟩ := nd_kids hx
  obtain ⟨⟨la1, ll1, lc1, rfl⟩, ⟨la2, ll2, lc2, rfl⟩, -⟩ := nd_slices hx
  have HIH := hide (fun c j (hj : j < x.kids.length) u1 u2 u3 (hn : NdIn m n 0 w0 (kp x j) (.agg (sv (kp x j).kind (kp x j).op (kp x j).name u1 u2 u3 (kp x j).pos))) W h0 h1 (hck : Ck w0 B W p lone c) => IH c (fnP x.kind j) x.kind W (kp x j) _ hn h0 h1 hck)
  have HKID := hide hkid
  have HRI := hide (fun W (hW : Below w0.heap.size w0 W) (hc : W.cell? ⟨p, 0, none⟩ = some (.bool lone)) hp => right38 (v3 := .slice ak x.kids.length ck) (wh := wh) (hlit.next hW) rfl rfl hc hp)
  have HM1 : Hid (c + 1 > 2048 ∨ arK x.kind < 0 ∨ f ≠ decide (21 ≤ x.kind) ∨ (x.kids.length : Int) ≠ arK x.kind → fitM lone (m + 1) c f wh x = (false, c + 1)) := hide (fun h => if_pos h)
  have HM2 : Hid (¬ (c + 1 > 2048 ∨ arK x.kind < 0 ∨ f ≠ decide (21 ≤ x.kind) ∨ (x.kids.length : Int) ≠ arK x.kind) → riB lone wh x = false → fitM lone (m + 1) c f wh x = (false, c + 1)) := hide (fun h h' => by unfold fitM; rw [if_neg h, if_pos h'])
  have HM3 : Hid (¬ (c + 1 > 2048 ∨ arK x.kind < 0 ∨ f ≠ decide (21 ≤ x.kind) ∨ (x.kids.length : Int) ≠ arK x.kind) → riB lone wh x = true → fitM lone (m + 1) c f wh x = lpM (fitM lone m) x x.kids.length 0 (c + 1)) := hide (fun h h' => by
    unfold fitM
    rw [if_neg h, if_neg (by rw [h']; simp)])
  have HLP : Hid (∀ n j c, lpM (fitM lone m) x (n + 1) j c = if (fitM lone m c (fnP x.kind j) x.kind (kp x j)).1 then lpM (fitM lone m) x n (j + 1) (fitM lone m c (fnP x.kind j) x.kind (kp x j)).2 else (false, (fitM lone m c (fnP x.kind j) x.kind (kp x j)).2)) := hide (fun n j c => rfl)
  have HLP0 : Hid (∀ j c, lpM (fitM lone m) x 0 j c = (true, c)) := hide (fun j c => rfl)
  have HFL := hide (fun j c => fitM_le lone m c (fnP x.kind j) x.kind (kp x j))
  have HPS := hide (fun (h : 0 ≤ arK x.kind) => pt_size h)
  have HPA := hide (fun (j : Nat) (hj : (j : Int) < arK x.kind) (hs : j < (ptS x.kind).size) (w : World) => (byt_run (ptS x.kind) j hs w).trans (by rw [pt_at hj]))
  obtain ⟨RB, hRB⟩ : ∃ RB, riB lone wh x = RB := ⟨_, rfl⟩
  rw [hRB] at HRI HM2 HM3
  obtain ⟨R, hR⟩ : ∃ R, fitM lone (m + 1) c f wh x = R := ⟨_, rfl⟩
  rw [hR] at HM1 HM2 HM3 ⊢
  obtain ⟨LP, hLP⟩ : ∃ LP, lpM (fitM lone m) x = LP := ⟨_, rfl⟩
  rw [hLP] at HM3 HLP HLP0
  obtain ⟨PS, hPS⟩ : ∃ PS, ptS x.kind = PS := ⟨_, rfl⟩
  have HP36 := hide (fun W => parts36 x.kind W)
  rw [hPS] at HPS HPA HP36
  obtain ⟨AR, hAR⟩ : ∃ AR, arK x.kind = AR := ⟨_, rfl⟩
  rw [hAR] at HM1 HM2 HM3 HPS HPA HP36
  obtain ⟨KL, hKL⟩ : ∃ KL, x.kids.length = KL := ⟨_, rfl⟩
  have hklb : KL ≤ 1256584717421 := by
    rw [← hKL]
    obtain ⟨_, _, _, _, _, _, _, _, h9, _⟩ := hx
    exact h9
  rw [hKL] at HIH HKID HRI HM1 HM2 HM3 ⊢
  obtain ⟨k, hk⟩ : ∃ k, x.kind = k := ⟨_, rfl⟩
  rw [hk] at HIH HRI HM1 HM2 HM3 HLP HFL HPA HP36 ⊢
  generalize x.op = o at *
  generalize x.name = nm at *
  generalize x.pos = ps at *
  clear hx IH hlit hkid hRB hR hLP hPS hAR hKL hk hv1
  obtain ⟨W1, hW1⟩ : ∃ W1, w.alloc (.cells (sv (k) (o) nm (.slice la1 ll1 lc1) (.slice la2 ll2 lc2) (.slice ak KL ck) (ps)) 42) = W1 := ⟨_, rfl⟩
  have hb1 : Below w.heap.size w W1 := by rw [← hW1]; exact alloc_one _ _
  have s1 : W1.heap.size = w.heap.size + 1 := by rw [← hW1]; simp
  have hbx : W1.heap[w.heap.size]? = some (.cells (sv (k) (o) nm (.slice la1 ll1 lc1) (.slice la2 ll2 lc2) (.slice ak KL ck) (ps)) 42 (0, 0)) := by rw [← hW1]; exact heap_alloc_new w _
  have hql : w.heap.size ≠ p := Nat.ne_of_gt h.lt
  have H1 := hide (h.next hb1)
  have HK1 := hide (h.kpn hb1)
  have HB1 := hide hbx
  have k0 : W1.cell? ⟨w.heap.size, 0, none⟩ = some (.int .i64 k) := (Lib.cell_of_heap hbx 0).trans rfl
  have k1 : W1.cell? ⟨w.heap.size, 1, none⟩ = some (.int .i64 o) := (Lib.cell_of_heap hbx 1).trans rfl
  have k2 : W1.cell? ⟨w.heap.size, 2, none⟩ = some (.string nm) := (Lib.cell_of_heap hbx 2).trans rfl
  have k3 : W1.cell? ⟨w.heap.size, 3, none⟩ = some (.slice la1 ll1 lc1) := (Lib.cell_of_heap hbx 3).trans rfl
  have k4 : W1.cell? ⟨w.heap.size, 4, none⟩ = some (.slice la2 ll2 lc2) := (Lib.cell_of_heap hbx 4).trans rfl
  have k5 : W1.cell? ⟨w.heap.size, 5, none⟩ = some (.slice ak KL ck) := (Lib.cell_of_heap hbx 5).trans rfl
  have k6 : W1.cell? ⟨w.heap.size, 6, none⟩ = some (.int .i64 ps) := (Lib.cell_of_heap hbx 6).trans rfl
  clear hb1 hbx
  have hwc : IntKind.i64.wrap (c + 1) = c + 1 := IntWalk.i64_in _ ⟨by omega, by omega⟩
  have p1 : W1.cell? ⟨p, 1, none⟩ = some (.int .i64 c) := (Lib.cell_of_heap H1.out.blk 1).trans rfl
  have pf : W1.frozen? ⟨p, 1, none⟩ = false := Lib.frozen_of_heap H1.out.blk 1
  have hp1 := H1.out.lt
  have H2 := hide (H1.out.set (c + 1))
  go_enter Tryz.func33, Tryz.ntmps33
  go_upto_region 2 with fail
  obtain ⟨W2, hW2⟩ : ∃ W2, W1.setCell ⟨p, 1, none⟩ (.int .i64 (c + 1)) = W2 := ⟨_, rfl⟩
  rw [hW2] at H2
  try rw [hW2]
  have HK2 := hide (HK1.out.trans H2.out.2)
  have hb2 := H2.out.2.box HB1.out hql
  have HB2 := hide hb2
  have H2 := hide H2.out.1
  have d0 : W2.cell? ⟨p, 0, none⟩ = some (.bool lone) := (Lib.cell_of_heap H2.out.blk 0).trans rfl
  have d1 : W2.cell? ⟨p, 1, none⟩ = some (.int .i64 (c + 1)) := (Lib.cell_of_heap H2.out.blk 1).trans rfl
  clear hW2 p1 pf hp1 k0 k1 k2 k3 k4 k5 k6
  have k0 : W2.cell? ⟨w.heap.size, 0, none⟩ = some (.int .i64 k) := (Lib.cell_of_heap hb2 0).trans rfl
  have k1 : W2.cell? ⟨w.heap.size, 1, none⟩ = some (.int .i64 o) := (Lib.cell_of_heap hb2 1).trans rfl
  have k2 : W2.cell? ⟨w.heap.size, 2, none⟩ = some (.string nm) := (Lib.cell_of_heap hb2 2).trans rfl
  have k3 : W2.cell? ⟨w.heap.size, 3, none⟩ = some (.slice la1 ll1 lc1) := (Lib.cell_of_heap hb2 3).trans rfl
  have k4 : W2.cell? ⟨w.heap.size, 4, none⟩ = some (.slice la2 ll2 lc2) := (Lib.cell_of_heap hb2 4).trans rfl
  have k5 : W2.cell? ⟨w.heap.size, 5, none⟩ = some (.slice ak KL ck) := (Lib.cell_of_heap hb2 5).trans rfl
  have k6 : W2.cell? ⟨w.heap.size, 6, none⟩ = some (.int .i64 ps) := (Lib.cell_of_heap hb2 6).trans rfl
  clear hb2
  by_cases ha : c + 1 > 2048
  · obtain rfl := HM1.out (Or.inl ha)
    go_wp2_with (first | (go_at_call 59; refine (HP36.out _).mono ?_; rintro e w3 ⟨rfl, rfl⟩))
    go_ret
    exact ⟨rfl, H2.out, HK2.out⟩
  · have ha' : c + 1 ≤ 2048 := by omega
    by_cases hb : AR < 0
    · obtain rfl := HM1.out (Or.inr (Or.inl hb))
      have hb' : decide (0 ≤ AR) = false := decide_eq_false (by omega)
      rw [hb'] at HP36
      go_wp2_with (first | (go_at_call 59; refine (HP36.out _).mono ?_; rintro e w3 ⟨rfl, rfl⟩))
      go_ret
      exact ⟨rfl, H2.out, HK2.out⟩
    · have hb' : decide (0 ≤ AR) = true := decide_eq_true (by omega)
      rw [hb'] at HP36
      have hps := HPS.out (by omega)
      by_cases hf : f ≠ decide (21 ≤ k)
      · obtain rfl := HM1.out (Or.inr (Or.inr (Or.inl hf)))
        have hne : (fb f != fb (decide (21 ≤ k))) = true := bne_iff_ne.2 (by
          intro e
          apply hf
          cases f <;> cases hd : decide (21 ≤ k) <;> first | rfl | (rw [hd] at e; cases e))
        generalize fb f = FB at *
        have HS37 := hide (fun W => stands37 k W)
        generalize fb (decide (21 ≤ k)) = SB at *
        go_wp2_with (first | (go_at_call 59; refine (HP36.out _).mono ?_; rintro e w3 ⟨rfl, rfl⟩) | (go_at_call 60; refine (HS37.out _).mono ?_; rintro e w3 ⟨rfl, rfl⟩))
        go_ret
        exact ⟨rfl, H2.out, HK2.out⟩
      · have hf' : f = decide (21 ≤ k) := Decidable.not_not.1 hf
        have HS37 := hide (fun W => stands37 k W)
        rw [← hf'] at HS37
        obtain ⟨FB, hFB⟩ : ∃ FB, fb f = FB := ⟨_, rfl⟩
        rw [hFB] at HS37 ⊢
        by_cases hd : (KL : Int) ≠ AR
        · obtain rfl := HM1.out (Or.inr (Or.inr (Or.inr hd)))
          have hdd : ((KL : Int) != (PS.size : Int)) = true := bne_iff_ne.2 (by omega)
          have hdn : ¬ KL = PS.size := by omega
          have hde : ((KL : Int) != AR) = true := bne_iff_ne.2 hd
          have hdb : (KL == PS.size) = false := beq_eq_false_iff_ne.2 hdn
          have hdc : ((KL : Int) == (PS.size : Int)) = false := beq_eq_false_iff_ne.2 (by omega)
          go_wp2_with (first | (go_at_call 59; refine (HP36.out _).mono ?_; rintro e w3 ⟨rfl, rfl⟩) | (go_at_call 60; refine (HS37.out _).mono ?_; rintro e w3 ⟨rfl, rfl⟩))
          go_ret
          exact ⟨rfl, H2.out, HK2.out⟩
        · have hnot : ¬ (c + 1 > 2048 ∨ AR < 0 ∨ f ≠ decide (21 ≤ k) ∨ (KL : Int) ≠ AR) := by
            rintro (h1 | h1 | h1 | h1)
            · exact ha h1
            · exact hb h1
            · exact hf h1
            · exact hd h1
          have hke : (KL : Int) = AR := Decidable.not_not.1 hd
          have hsz : PS.size = KL := by omega
          have HRC := hide (HRI.out W2 H2.out.old d0 H2.out.lt)
          have HN2 := hide (fun h => HM2.out hnot h)
          have HN3 := hide (fun h => HM3.out hnot h)
          have HPA2 : Hid (∀ j, j < KL → ∀ w, (Instr.index 9 (.string PS) (.int .i64 (j : Int))).run Tryz.prog w = .ok (.int .u8 (fb (fnP k j))) w) := hide (fun j hj w => HPA.out j (by omega) (by omega) w)
          clear hnot HM1 HM2 HM3 HPA HPS hps hf hf' hd hFB hke
          go_wp2_with (first | (go_at_call 59; refine (HP36.out _).mono ?_; rintro e w3 ⟨rfl, rfl⟩) | (go_at_call 60; refine (HS37.out _).mono ?_; rintro e w3 ⟨rfl, rfl⟩))
          refine HRC.out.mono ?_
          rintro e w3 ⟨rfl, hb3⟩
          have H3 := hide (H2.out.next hb3)
          have HK3 := hide (HK2.out.trans (H2.out.kpn hb3))
          have hb4 := (H2.out.kpn hb3).box HB2.out hql
          have HB3 := hide hb4
          clear hb3 HRC H2 HK2 HB2 d0 d1 k0 k1 k2 k3 k4 k5 k6
          have k0 : w3.cell? ⟨w.heap.size, 0, none⟩ = some (.int .i64 k) := (Lib.cell_of_heap hb4 0).trans rfl
          have k1 : w3.cell? ⟨w.heap.size, 1, none⟩ = some (.int .i64 o) := (Lib.cell_of_heap hb4 1).trans rfl
          have k2 : w3.cell? ⟨w.heap.size, 2, none⟩ = some (.string nm) := (Lib.cell_of_heap hb4 2).trans rfl
          have k3 : w3.cell? ⟨w.heap.size, 3, none⟩ = some (.slice la1 ll1 lc1) := (Lib.cell_of_heap hb4 3).trans rfl
          have k4 : w3.cell? ⟨w.heap.size, 4, none⟩ = some (.slice la2 ll2 lc2) := (Lib.cell_of_heap hb4 4).trans rfl
          have k5 : w3.cell? ⟨w.heap.size, 5, none⟩ = some (.slice ak KL ck) := (Lib.cell_of_heap hb4 5).trans rfl
          have k6 : w3.cell? ⟨w.heap.size, 6, none⟩ = some (.int .i64 ps) := (Lib.cell_of_heap hb4 6).trans rfl
          clear hb4
          cases RB with
          | false =>
            obtain rfl := HN2.out rfl
            go_wp2
            go_ret
            exact ⟨rfl, H3.out, HK3.out⟩
          | true =>
            obtain rfl := HN3.out rfl
            go_wp2
            go_loopw [58] (fun i wr => ∃ (j : Nat) (cj : Int), j ≤ KL ∧ i = .int .i64 j ∧ (0 ≤ cj ∧ cj ≤ 2048) ∧ LP KL 0 (c + 1) = LP (KL - j) j cj ∧ Ck w0 B wr p lone cj ∧ Kp B p w wr ∧ Kp B p w3 wr) (fun i _ => KL - (match i with | .int _ z => z.toNat | _ => 0))
            case atStart => exact ⟨0, c + 1, Nat.zero_le _, rfl, ⟨by omega, ha'⟩, rfl, H3.out, HK3.out, ⟨Below.refl _ _, fun _ _ _ => rfl⟩⟩
            case round =>
              obtain ⟨j, cj, hj, rfl, hcj, hlp, hck, hkp, hkp3⟩ := hrel
              have HCK := hide hck
              have HKP := hide hkp
              have HKP3 := hide hkp3
              have HLQ := hide hlp
              have hbw := hkp3.box HB3.out hql
              have HBW := hide hbw
              have r0 : wr.cell? ⟨w.heap.size, 0, none⟩ = some (.int .i64 k) := (Lib.cell_of_heap hbw 0).trans rfl
              clear hck hkp hkp3 hlp hbw k0 k1 k2 k3 k4 k5 k6
              by_cases hlt : j < KL
              · obtain ⟨b, off, u1, u2, u3, rfl, hn, h7⟩ := HKID.out j hlt
                obtain ⟨⟨d1, l1, e1, rfl⟩, ⟨d2, l2, e2, rfl⟩, ⟨d3, l3, e3, rfl⟩⟩ := nd_slices hn
                obtain ⟨y0, y1, y2, y3, y4, y5, y6⟩ := h7 wr HCK.out.old
                have HCL := hide (fun W (hw : Ck w0 B W p lone cj) => HIH.out cj j hlt _ _ _ hn W hcj.1 hcj.2 hw)
                have hlp1 := HLP.out (KL - (j + 1)) j cj
                rw [show KL - (j + 1) + 1 = KL - j by omega] at hlp1
                have HL1 := hide (HLQ.out.trans hlp1)
                have HFF := hide (HFL.out j cj)
                have hix := HPA2.out j hlt
                obtain ⟨FR, hFR⟩ : ∃ FR, fitM lone m cj (fnP k j) k (kp x j) = FR := ⟨_, rfl⟩
                rw [hFR] at HCL HL1 HFF
                obtain ⟨fbj, hfbj⟩ : ∃ z, fb (fnP k j) = z := ⟨_, rfl⟩
                rw [hfbj] at hix HCL
                generalize (kp x j).kind = k' at *
                generalize (kp x j).op = o' at *
                generalize (kp x j).name = nm' at *
                generalize (kp x j).pos = ps' at *
                clear hn h7 hlp1 hFR hfbj HLP HFL HLQ HPA2 HKID HIH
                obtain ⟨W5, hW5⟩ : ∃ W5, wr.alloc (.cells (sv k' o' nm' (.slice d1 l1 e1) (.slice d2 l2 e2) (.slice d3 l3 e3) ps') 42) = W5 := ⟨_, rfl⟩
                have hb5 : Below wr.heap.size wr W5 := by rw [← hW5]; exact alloc_one _ _
                have s5 : W5.heap.size = wr.heap.size + 1 := by rw [← hW5]; simp
                have hbx5 : W5.heap[wr.heap.size]? = some (.cells (sv k' o' nm' (.slice d1 l1 e1) (.slice d2 l2 e2) (.slice d3 l3 e3) ps') 42 (0, 0)) := by rw [← hW5]; exact heap_alloc_new wr _
                have H5 := hide (HCK.out.next hb5)
                have HK5 := hide (HKP.out.trans (HCK.out.kpn hb5))
                have HK53 := hide (HKP3.out.trans (HCK.out.kpn hb5))
                have hbo5 : W5.heap[w.heap.size]? = _ := (hb5.block w.heap.size (lt_heap HBW.out)).trans HBW.out
                have hqr : wr.heap.size ≠ p := Nat.ne_of_gt HCK.out.lt
                have hlt5 := lt_heap hbx5
                have hlto5 := lt_heap hbo5
                have KS : Hid (∀ W, Below W5.heap.size W5 W → (W.cell? ⟨wr.heap.size, 0, none⟩ = some ((.int .i64 k')) ∧ W.cell? ⟨wr.heap.size, 1, none⟩ = some ((.int .i64 o')) ∧ W.cell? ⟨wr.heap.size, 2, none⟩ = some ((.string nm')) ∧ W.cell? ⟨wr.heap.size, 3, none⟩ = some ((.slice d1 l1 e1)) ∧ W.cell? ⟨wr.heap.size, 4, none⟩ = some ((.slice d2 l2 e2)) ∧ W.cell? ⟨wr.heap.size, 5, none⟩ = some ((.slice d3 l3 e3)) ∧ W.cell? ⟨wr.heap.size, 6, none⟩ = some ((.int .i64 ps'))) ∧ W.cell? ⟨w.heap.size, 0, none⟩ = some (.int .i64 k)) := hide fun W hW => by
                  have q1 := (hW.block wr.heap.size hlt5).trans hbx5
                  have q2 := (hW.block w.heap.size hlto5).trans hbo5
                  exact ⟨⟨(Lib.cell_of_heap q1 0).trans rfl, (Lib.cell_of_heap q1 1).trans rfl, (Lib.cell_of_heap q1 2).trans rfl, (Lib.cell_of_heap q1 3).trans rfl, (Lib.cell_of_heap q1 4).trans rfl, (Lib.cell_of_heap q1 5).trans rfl, (Lib.cell_of_heap q1 6).trans rfl⟩, (Lib.cell_of_heap q2 0).trans rfl⟩
                have KT : Hid (∀ W' W, Below W5.heap.size W5 W' → Kp B p W' W → (W.cell? ⟨wr.heap.size, 0, none⟩ = some ((.int .i64 k')) ∧ W.cell? ⟨wr.heap.size, 1, none⟩ = some ((.int .i64 o')) ∧ W.cell? ⟨wr.heap.size, 2, none⟩ = some ((.string nm')) ∧ W.cell? ⟨wr.heap.size, 3, none⟩ = some ((.slice d1 l1 e1)) ∧ W.cell? ⟨wr.heap.size, 4, none⟩ = some ((.slice d2 l2 e2)) ∧ W.cell? ⟨wr.heap.size, 5, none⟩ = some ((.slice d3 l3 e3)) ∧ W.cell? ⟨wr.heap.size, 6, none⟩ = some ((.int .i64 ps'))) ∧ W.cell? ⟨w.heap.size, 0, none⟩ = some (.int .i64 k)) := hide fun W' W hW hk => by
                  have q1 := hk.box ((hW.block wr.heap.size hlt5).trans hbx5) hqr
                  have q2 := hk.box ((hW.block w.heap.size hlto5).trans hbo5) hql
                  exact ⟨⟨(Lib.cell_of_heap q1 0).trans rfl, (Lib.cell_of_heap q1 1).trans rfl, (Lib.cell_of_heap q1 2).trans rfl, (Lib.cell_of_heap q1 3).trans rfl, (Lib.cell_of_heap q1 4).trans rfl, (Lib.cell_of_heap q1 5).trans rfl, (Lib.cell_of_heap q1 6).trans rfl⟩, (Lib.cell_of_heap q2 0).trans rfl⟩
                clear hbx5 hbo5 hb5 HCK HKP HKP3 HBW
                go_upto_region 10 with fail
                try rw [hW5]
                have HD5 : Hid (Below W5.heap.size W5 W5.drew) := hide ((Below.refl W5.heap.size W5).drew)
                clear hW5 y0 y1 y2 y3 y4 y5 y6 r0
                go_region_held3 (fun W => (W.cell? ⟨wr.heap.size, 0, none⟩ = some ((.int .i64 k')) ∧ W.cell? ⟨wr.heap.size, 1, none⟩ = some ((.int .i64 o')) ∧ W.cell? ⟨wr.heap.size, 2, none⟩ = some ((.string nm')) ∧ W.cell? ⟨wr.heap.size, 3, none⟩ = some ((.slice d1 l1 e1)) ∧ W.cell? ⟨wr.heap.size, 4, none⟩ = some ((.slice d2 l2 e2)) ∧ W.cell? ⟨wr.heap.size, 5, none⟩ = some ((.slice d3 l3 e3)) ∧ W.cell? ⟨wr.heap.size, 6, none⟩ = some ((.int .i64 ps'))) ∧ W.cell? ⟨w.heap.size, 0, none⟩ = some (.int .i64 k)) (first | with_reducible exact KS.out _ HD5.out | with_reducible exact KS.out _ (by with_reducible assumption) | with_reducible assumption) (first | (go_at_call 33; refine (HCL.out _ (H5.out.next HD5.out)).mono ?_; rintro e w6 ⟨rfl, hc6, hk6⟩; have hs6 := KT.out _ _ HD5.out hk6))
                have H6 := hide hc6
                have HK6 := hide (HK5.out.trans ((H5.out.kpn HD5.out).trans hk6))
                have HK63 := hide (HK53.out.trans ((H5.out.kpn HD5.out).trans hk6))
                obtain ⟨fb1, fc⟩ := FR
                clear hc6 hk6 hs6 HCL hix
                cases fb1 with
                | false =>
                  have hres : LP KL 0 (c + 1) = (false, fc) := HL1.out.trans rfl
                  have HRES := hide hres
                  clear hres
                  go_wp2
                  go_ret
                  rw [HRES.out]
                  exact ⟨rfl, H6.out, HK6.out⟩
                | true =>
                  have hff := HFF.out rfl
                  have hres : LP KL 0 (c + 1) = LP (KL - (j + 1)) (j + 1) fc := HL1.out.trans rfl
                  have HRES := hide hres
                  clear hres
                  go_wp2
                  refine ⟨⟨j + 1, fc, by omega, by go_num, ⟨Int.le_trans hcj.1 hff.1, hff.2⟩, HRES.out, H6.out, HK6.out, HK63.out⟩, ?_⟩
                  show KL - _ < KL - _
                  simp
                  omega
              · have hje : j = KL := by omega
                subst hje
                have hres : LP j 0 (c + 1) = (true, cj) := by
                  rw [HLQ.out, Nat.sub_self]
                  exact HLP0.out _ _
                have HRES := hide hres
                clear hres
                go_wp2
                go_ret
                rw [HRES.out]
                exact ⟨rfl, HCK.out, HKP.out⟩
theorem fits {w0 : World} {B p : Nat} {lone : Bool} (n m : Nat) : CFit n m w0 B p lone := by
  induction m with
  | zero => exact fun _ _ _ _ _ _ hx => hx.elim
  | succ m ih => exact fit_step ih
end Go.Proofs.YtneblkdkhlgmcaaGreatDoor
namespace Go.Proofs.YtneblkdkhlgmcaaGreatDoor
open Go.ChangeShapes Go.WideShapes Go.ChangeAt Go.RowKit
set_option maxRecDepth 100000
set_option linter.unusedVariables false
set_option linter.unusedSimpArgs false
theorem lpM_all {F : Int → Bool → Int → Nd → Bool × Int} {x : Nd} (n j : Nat) (c : Int) (h : (lpM F x n j c).1 = true) : ∀ i, j ≤ i → i < j + n → ∃ c', (F c' (fnP x.kind i) x.kind (kp x i)).1 = true := by
  induction n generalizing j c with
  | zero => intro i h1 h2; omega
  | succ n ih =>
    intro i h1 h2
    unfold lpM at h
    split at h
    · rename_i h3
      by_cases hij : i = j
      · subst hij; exact ⟨c, h3⟩
      · exact ih (j + 1) _ h i (by omega) (by omega)
    · cases h
theorem fitM_ok (lone : Bool) (m : Nat) : ∀ c f wh x, (fitM lone m c f wh x).1 = true → okN m f x := by
  induction m with
  | zero => intro c f wh x h; cases h
  | succ m ih =>
    intro c f wh x h
    unfold fitM at h
    split at h
    · cases h
    · rename_i h1
      split at h
      · cases h
      · rename_i h2
        have h3 : ¬ f ≠ decide (21 ≤ x.kind) := fun e => h1 (Or.inr (Or.inr (Or.inl e)))
        have h4 : ¬ (x.kids.length : Int) ≠ arK x.kind := fun e => h1 (Or.inr (Or.inr (Or.inr e)))
        refine ⟨Decidable.not_not.1 h4, Decidable.not_not.1 h3, fun hk => ?_, fun i hi => ?_⟩
        · unfold riB at h2
          rw [if_pos hk] at h2
          simpa using h2
        · obtain ⟨c', hc'⟩ := lpM_all _ _ _ h i (Nat.zero_le _) (by omega)
          exact ih _ _ _ _ hc'
/-- What Write tells. -/
def wrB (G : Gs) (m : Nat) (x : Nd) : Bool := (fitM G.lone m 0 false 0 x).1
def wrE (G : Gs) (m : Nat) (x : Nd) : Int := if wrB G m x then 0 else 1
def wrS (G : Gs) (m : Nat) (x : Nd) : List UInt8 := if wrB G m x then (TX G m).E G.right x else []
set_option maxHeartbeats 8000000 in
theorem write11 {n m : Nat} {w : World} {G : Gs} {x : Nd} {v : Value} (hx : NdIn m n 0 w x v) (hs : sndA x) (T : Rn.Tab w) (P : Pw w) (hm : G.minus.size ≤ 1000000) (hq : G.quote.size ≤ 1000000) (hl : wrB G m x = true → 1 + ((TX G m).E G.right x).length ≤ 140737488355328) (c1 : ∃ a l c, G.s1 = .slice a l c) (c2 : ∃ a l c, G.s2 = .slice a l c) (c3 : ∃ a l c, G.s3 = .slice a l c) :
    Calls Tryz.prog 12 #[gV G, v] w fun e w' => e = .returned (.tuple #[.string (str (wrS G m x)), .int .i64 (wrE G m x)]) ∧ Below w.heap.size w w' := by
  obtain ⟨xa1, xl1, xc1, hg1⟩ := c1
  obtain ⟨xa2, xl2, xc2, hg2⟩ := c2
  obtain ⟨xa3, xl3, xc3, hg3⟩ := c3
  have HG3 := hide (And.intro hg1 (And.intro hg2 hg3))
  obtain ⟨v1, v2, v3, rfl, hv1⟩ := nd_form hx
  obtain ⟨⟨la1, ll1, lc1, rfl⟩, ⟨la2, ll2, lc2, rfl⟩, ⟨la3, ll3, lc3, rfl⟩⟩ := nd_slices hx
  have HZ : Hid ((wrB G m x = true → wrE G m x = 0 ∧ wrS G m x = (TX G m).E G.right x) ∧ (wrB G m x = false → wrE G m x = 1 ∧ wrS G m x = [])) := hide (by
    unfold wrE wrS
    constructor <;> intro h <;> rw [h] <;> exact ⟨rfl, rfl⟩)
  have HFT := hide (fun pc W (hck : Ck w pc W pc G.lone 0) => fits n m 0 false 0 W x _ hx (Int.le_refl 0) (by decide) hck)
  have HCE := hide (fun (hb : wrB G m x = true) B W p (hst : St w B W p G G.right false []) => (writers (w0 := w) (B := B) (p := p) (G := G) n m).2.1 G.right false [] W x _ hx (fitM_ok _ _ _ _ _ _ hb) hs hst (by have := hl hb; simp only [List.length_nil]; omega))
  have HAM : Hid (∀ B p, w.heap.size ≤ B → Am w B p G) := hide (fun B p hB => ⟨hB, T, P, hm, hq⟩)
  obtain ⟨FR, hFR⟩ : ∃ FR, fitM G.lone m 0 false 0 x = FR := ⟨_, rfl⟩
  have hwb : wrB G m x = FR.1 := by unfold wrB; rw [hFR]
  rw [hFR] at HFT
  rw [hwb] at HZ HCE
  obtain ⟨LE, hLE⟩ : ∃ LE, wrE G m x = LE := ⟨_, rfl⟩
  obtain ⟨LS, hLS⟩ : ∃ LS, wrS G m x = LS := ⟨_, rfl⟩
  rw [hLE, hLS] at HZ ⊢
  obtain ⟨ET, hET⟩ : ∃ ET, (TX G m).E G.right x = ET := ⟨_, rfl⟩
  rw [hET] at HZ HCE
  generalize x.kind = k at *
  generalize x.op = o at *
  generalize x.name = nm at *
  generalize x.pos = ps at *
  clear hx hs T P hm hq hl hFR hwb hLE hLS hET hv1
  obtain ⟨fb1, fc⟩ := FR
  obtain ⟨W2, hW2⟩ : ∃ W2, (w.alloc (.cells #[.slice xa1 xl1 xc1, .slice xa2 xl2 xc2, .slice xa3 xl3 xc3, .string G.outer, .string G.power, .string G.opn, .string G.cls, .string G.left, .string G.right, .string G.minus, .string G.quote, .bool G.trains, .bool G.lone, .bool G.square] 30)).alloc (.cells (sv k o nm (.slice la1 ll1 lc1) (.slice la2 ll2 lc2) (.slice la3 ll3 lc3) ps) 42) = W2 := ⟨_, rfl⟩
  have hb2 : Below w.heap.size w W2 := by rw [← hW2]; exact two_allocs _ _ _
  have s2 : W2.heap.size = w.heap.size + 2 := by rw [← hW2]; simp
  have hA : W2.heap[w.heap.size]? = some (.cells #[.slice xa1 xl1 xc1, .slice xa2 xl2 xc2, .slice xa3 xl3 xc3, .string G.outer, .string G.power, .string G.opn, .string G.cls, .string G.left, .string G.right, .string G.minus, .string G.quote, .bool G.trains, .bool G.lone, .bool G.square] 30 (0, 0)) := by
    rw [← hW2]; exact (Lib.alloc_old _ _ w.heap.size (by simp)).trans (heap_alloc_new w _)
  have hB : W2.heap[w.heap.size + 1]? = some (.cells (sv k o nm (.slice la1 ll1 lc1) (.slice la2 ll2 lc2) (.slice la3 ll3 lc3) ps) 42 (0, 0)) := by
    have h := heap_alloc_new (w.alloc (.cells #[.slice xa1 xl1 xc1, .slice xa2 xl2 xc2, .slice xa3 xl3 xc3, .string G.outer, .string G.power, .string G.opn, .string G.cls, .string G.left, .string G.right, .string G.minus, .string G.quote, .bool G.trains, .bool G.lone, .bool G.square] 30)) (.cells (sv k o nm (.slice la1 ll1 lc1) (.slice la2 ll2 lc2) (.slice la3 ll3 lc3) ps) 42)
    have e : (w.alloc (.cells #[.slice xa1 xl1 xc1, .slice xa2 xl2 xc2, .slice xa3 xl3 xc3, .string G.outer, .string G.power, .string G.opn, .string G.cls, .string G.left, .string G.right, .string G.minus, .string G.quote, .bool G.trains, .bool G.lone, .bool G.square] 30)).heap.size = w.heap.size + 1 := by simp
    rw [e] at h
    rw [← hW2]; exact h
  have HB2 := hide hb2
  have g12 : W2.cell? ⟨w.heap.size, 12, none⟩ = some (.bool G.lone) := (Lib.cell_of_heap hA 12).trans rfl
  have HA := hide hA
  have HB := hide hB
  unfold gV
  rw [hg1, hg2, hg3]
  clear hg1 hg2 hg3
  go_enter Tryz.func12, Tryz.ntmps12
  go_upto_region 1 with fail
  try rw [hW2]
  clear hW2 hA hB hb2
  go_upto_region 2 with fail
  obtain ⟨W3, hW3⟩ : ∃ W3, W2.alloc (.cells #[.bool G.lone, .int .i64 0] 74) = W3 := ⟨_, rfl⟩
  try rw [hW3]
  have hb3 : Below W2.heap.size W2 W3 := by rw [← hW3]; exact alloc_one _ _
  have s3 : W3.heap.size = w.heap.size + 3 := by rw [← hW3]; simp [s2]
  have hC : W3.heap[w.heap.size + 2]? = some (.cells #[.bool G.lone, .int .i64 0] 74 (0, 0)) := by
    have h := heap_alloc_new W2 (.cells #[.bool G.lone, .int .i64 0] 74)
    rw [s2] at h
    rw [← hW3]; exact h
  have hA3 := (hb3.block w.heap.size (by omega)).trans HA.out
  have hB3 := (hb3.block (w.heap.size + 1) (by omega)).trans HB.out
  have HCK : Hid (Ck w (w.heap.size + 2) W3 (w.heap.size + 2) G.lone 0) := hide ⟨by omega, Nat.le_refl _, HB2.out.trans (hb3.mono HB2.out.size), hC⟩
  have HC := hide (HFT.out _ W3 HCK.out)
  have HA3 := hide hA3
  have HB3 := hide hB3
  have n0 : W3.cell? ⟨w.heap.size + 1, 0, none⟩ = some (.int .i64 k) := (Lib.cell_of_heap hB3 0).trans rfl
  have n1 : W3.cell? ⟨w.heap.size + 1, 1, none⟩ = some (.int .i64 o) := (Lib.cell_of_heap hB3 1).trans rfl
  have n2 : W3.cell? ⟨w.heap.size + 1, 2, none⟩ = some (.string nm) := (Lib.cell_of_heap hB3 2).trans rfl
  have n3 : W3.cell? ⟨w.heap.size + 1, 3, none⟩ = some (.slice la1 ll1 lc1) := (Lib.cell_of_heap hB3 3).trans rfl
  have n4 : W3.cell? ⟨w.heap.size + 1, 4, none⟩ = some (.slice la2 ll2 lc2) := (Lib.cell_of_heap hB3 4).trans rfl
  have n5 : W3.cell? ⟨w.heap.size + 1, 5, none⟩ = some (.slice la3 ll3 lc3) := (Lib.cell_of_heap hB3 5).trans rfl
  have n6 : W3.cell? ⟨w.heap.size + 1, 6, none⟩ = some (.int .i64 ps) := (Lib.cell_of_heap hB3 6).trans rfl
  clear hW3 hb3 hC hA3 hB3 HFT HA HB HB2 g12
  go_wp2_with fail
  refine HC.out.mono ?_
  rintro e w4 ⟨rfl, hc4, hk4⟩
  have HA4 := hide (hk4.box HA3.out (by omega))
  have HB4 := hide (hk4.box HB3.out (by omega))
  have HO4 := hide (HCK.out.old.trans (hk4.bel.mono (by omega)))
  have hs4 := hk4.bel.size
  clear hc4 hk4 HC HA3 HB3 HCK n0 n1 n2 n3 n4 n5 n6
  cases fb1 with
  | false =>
    obtain ⟨rfl, rfl⟩ := HZ.out.2 rfl
    go_wp2
    go_ret2
    exact ⟨rfl, HO4.out⟩
  | true =>
    obtain ⟨rfl, rfl⟩ := HZ.out.1 rfl
    have hA4 := HA4.out
    have hB4 := HB4.out
    have g0 : w4.cell? ⟨w.heap.size, 0, none⟩ = some (.slice xa1 xl1 xc1) := (Lib.cell_of_heap hA4 0).trans rfl
    have g1 : w4.cell? ⟨w.heap.size, 1, none⟩ = some (.slice xa2 xl2 xc2) := (Lib.cell_of_heap hA4 1).trans rfl
    have g2 : w4.cell? ⟨w.heap.size, 2, none⟩ = some (.slice xa3 xl3 xc3) := (Lib.cell_of_heap hA4 2).trans rfl
    have g3 : w4.cell? ⟨w.heap.size, 3, none⟩ = some (.string G.outer) := (Lib.cell_of_heap hA4 3).trans rfl
    have g4 : w4.cell? ⟨w.heap.size, 4, none⟩ = some (.string G.power) := (Lib.cell_of_heap hA4 4).trans rfl
    have g5 : w4.cell? ⟨w.heap.size, 5, none⟩ = some (.string G.opn) := (Lib.cell_of_heap hA4 5).trans rfl
    have g6 : w4.cell? ⟨w.heap.size, 6, none⟩ = some (.string G.cls) := (Lib.cell_of_heap hA4 6).trans rfl
    have g7 : w4.cell? ⟨w.heap.size, 7, none⟩ = some (.string G.left) := (Lib.cell_of_heap hA4 7).trans rfl
    have g8 : w4.cell? ⟨w.heap.size, 8, none⟩ = some (.string G.right) := (Lib.cell_of_heap hA4 8).trans rfl
    have g9 : w4.cell? ⟨w.heap.size, 9, none⟩ = some (.string G.minus) := (Lib.cell_of_heap hA4 9).trans rfl
    have g10 : w4.cell? ⟨w.heap.size, 10, none⟩ = some (.string G.quote) := (Lib.cell_of_heap hA4 10).trans rfl
    have g11 : w4.cell? ⟨w.heap.size, 11, none⟩ = some (.bool G.trains) := (Lib.cell_of_heap hA4 11).trans rfl
    have g12 : w4.cell? ⟨w.heap.size, 12, none⟩ = some (.bool G.lone) := (Lib.cell_of_heap hA4 12).trans rfl
    have g13 : w4.cell? ⟨w.heap.size, 13, none⟩ = some (.bool G.square) := (Lib.cell_of_heap hA4 13).trans rfl
    clear hA4 hB4
    go_upto_region 5 with fail
    have hWC : w4.alloc (.cells #[.slice xa1 xl1 xc1, .slice xa2 xl2 xc2, .slice xa3 xl3 xc3, .string G.outer, .string G.power, .string G.opn, .string G.cls, .string G.left, .string G.right, .string G.minus, .string G.quote, .bool G.trains, .bool G.lone, .bool G.square, .string G.right, .bool false, .pointer none, .slice none 0 0] 80) = w4.alloc (.cells (wC G G.right false (.pointer none) (.slice none 0 0)) 80) := by
      unfold wC
      rw [HG3.out.1, HG3.out.2.1, HG3.out.2.2]
    have HWR := hide (Wr.new w4 G G.right)
    rw [← hWC] at HWR
    have hb5 := alloc_one w4 (.cells #[.slice xa1 xl1 xc1, .slice xa2 xl2 xc2, .slice xa3 xl3 xc3, .string G.outer, .string G.power, .string G.opn, .string G.cls, .string G.left, .string G.right, .string G.minus, .string G.quote, .bool G.trains, .bool G.lone, .bool G.square, .string G.right, .bool false, .pointer none, .slice none 0 0] 80)
    have HB5 := hide ((hb5.block _ (by omega)).trans HB4.out)
    have HST : Hid (St w w4.heap.size (w4.alloc (.cells #[.slice xa1 xl1 xc1, .slice xa2 xl2 xc2, .slice xa3 xl3 xc3, .string G.outer, .string G.power, .string G.opn, .string G.cls, .string G.left, .string G.right, .string G.minus, .string G.quote, .bool G.trains, .bool G.lone, .bool G.square, .string G.right, .bool false, .pointer none, .slice none 0 0] 80)) w4.heap.size G G.right false []) := hide ⟨HAM.out _ _ (by omega), HO4.out.trans (hb5.mono HO4.out.size), _, _, HWR.out⟩
    have HK5 := hide (HO4.out.trans (hb5.mono HO4.out.size))
    have HC := hide (HCE.out (by first | rfl | trivial) _ _ _ HST.out)
    obtain ⟨W5, hW5⟩ : ∃ W5, w4.alloc (.cells #[.slice xa1 xl1 xc1, .slice xa2 xl2 xc2, .slice xa3 xl3 xc3, .string G.outer, .string G.power, .string G.opn, .string G.cls, .string G.left, .string G.right, .string G.minus, .string G.quote, .bool G.trains, .bool G.lone, .bool G.square, .string G.right, .bool false, .pointer none, .slice none 0 0] 80) = W5 := ⟨_, rfl⟩
    rw [hW5] at HC HB5 HK5
    try rw [hW5]
    have hB5 := HB5.out
    have n0 : W5.cell? ⟨w.heap.size + 1, 0, none⟩ = some (.int .i64 k) := (Lib.cell_of_heap hB5 0).trans rfl
    have n1 : W5.cell? ⟨w.heap.size + 1, 1, none⟩ = some (.int .i64 o) := (Lib.cell_of_heap hB5 1).trans rfl
    have n2 : W5.cell? ⟨w.heap.size + 1, 2, none⟩ = some (.string nm) := (Lib.cell_of_heap hB5 2).trans rfl
    have n3 : W5.cell? ⟨w.heap.size + 1, 3, none⟩ = some (.slice la1 ll1 lc1) := (Lib.cell_of_heap hB5 3).trans rfl
    have n4 : W5.cell? ⟨w.heap.size + 1, 4, none⟩ = some (.slice la2 ll2 lc2) := (Lib.cell_of_heap hB5 4).trans rfl
    have n5 : W5.cell? ⟨w.heap.size + 1, 5, none⟩ = some (.slice la3 ll3 lc3) := (Lib.cell_of_heap hB5 5).trans rfl
    have n6 : W5.cell? ⟨w.heap.size + 1, 6, none⟩ = some (.int .i64 ps) := (Lib.cell_of_heap hB5 6).trans rfl
    clear hW5 hb5 hB5 HWR HST hWC HA4 HB4 g0 g1 g2 g3 g4 g5 g6 g7 g8 g9 g10 g11 g12 g13
    go_wp2_with fail
    refine HC.out.mono ?_
    rintro e w6 ⟨rfl, ⟨a6, v6, h6⟩, k6⟩
    have HS := hide (string26 h6)
    have HK6 := hide (HK5.out.trans (k6.bel.mono (by omega)))
    have hle := k6.bel.size
    clear h6 k6 HC n0 n1 n2 n3 n4 n5 n6
    go_wp2_with fail
    refine HS.out.mono ?_
    rintro e w7 ⟨rfl, hb7⟩
    have HF := hide (HK6.out.trans (hb7.mono (by omega)))
    clear hb7 HS
    go_wp2
    go_ret2
    refine ⟨?_, HF.out⟩
    simp [sep, str]
end Go.Proofs.YtneblkdkhlgmcaaGreatDoor
namespace Go.Proofs.YtneblkdkhlgmcaaGreatDoor
open Go.ChangeShapes Go.WideShapes Go.ChangeAt Go.RowKit
set_option maxRecDepth 100000
set_option linter.unusedVariables false
theorem row_nil (lo : Nat) (w : World) (a : Option Addr) : Row lo w a [] := ⟨by simp, Or.inl rfl⟩
theorem atom_cells (n : Nat) (z : Int) (w : World) (o : Obj) : ArIn (n + 1) w.heap.size ((w.alloc o).alloc (.cells #[.int .i64 0, .int .i64 z, .slice none 0 0] 64)) (atomA z) (.agg #[.slice none 0 0, .slice (some ⟨w.heap.size + 1, 0, none⟩) 1 1]) := by
  refine arIn_mk (x := atomA z) (row_nil _ _ _) (by simp [atomA, Ar.cells, numCs]) ?_ rfl (by simp [atomA, Ar.cells, numCs])
  refine Or.inr ⟨w.heap.size + 1, 0, rfl, by omega, by simp, ?_⟩
  intro i hi
  have : i = 0 := by simpa [atomA, Ar.cells, numCs] using hi
  subst this
  refine ⟨_, _, _, cell_new2 w #[.int .i64 0, .int .i64 z, .slice none 0 0] 64 (0, 0) o 0 _ rfl, cell_new2 w #[.int .i64 0, .int .i64 z, .slice none 0 0] 64 (0, 0) o 1 _ rfl, cell_new2 w #[.int .i64 0, .int .i64 z, .slice none 0 0] 64 (0, 0) o 2 _ rfl, rfl, rfl, none, 0, rfl, by simp [atomA, Ar.cells, numCs, cAt], Or.inl rfl⟩
set_option maxHeartbeats 1000000 in
theorem ratom_any (n : Nat) (z : Int) (w : World) : Calls Tryz.prog 20 #[.int .i64 z] w fun e w' => GivesA (n + 1) (atomA z) w e w' := by
  go_enter Tryz.func20, Tryz.ntmps20
  go_wp2
  exact bodyPost_ret (v := .agg #[.slice none 0 0, .slice (some ⟨w.heap.size + 1, 0, none⟩) 1 1]) (by simp [results, Tryz.results20, go_sem]) rfl ⟨⟨_, rfl, atom_cells n z w _⟩, two_allocs _ _ _⟩
end Go.Proofs.YtneblkdkhlgmcaaGreatDoor
namespace Go.Proofs.YtneblkdkhlgmcaaGreatDoor
open Go.ChangeShapes Go.WideShapes Go.ChangeAt Go.RowKit
set_option maxRecDepth 100000
set_option linter.unusedVariables false
set_option linter.unusedSimpArgs false
def noA : Ar := .mk [] []
def noS : ByteArray := { data := #[] }
def litD (a : Ar) : Nd := .mk 1 0 noS a [] 0
def GivesN (m n : Nat) (x : Nd) (w : World) (e : Ending) (w' : World) : Prop := (∃ v, e = .returned v ∧ NdIn m n 0 w' x v) ∧ Below w.heap.size w w'
theorem noA_in (n lo : Nat) (w : World) : ArIn (n + 1) lo w noA (.agg #[.slice none 0 0, .slice none 0 0]) := arIn_mk (x := noA) (row_nil _ _ _) (by simp [noA, Ar.cells]) (Or.inl rfl) rfl rfl
theorem leaf_in (n lo : Nat) (w : World) (k op : Int) (a : Ar) (a1 : Option Addr) (c1 : Nat) (a2 : Option Addr) (c2 : Nat) (h : ArIn n lo w a (.agg #[.slice a1 a.shape.length c1, .slice a2 a.cells.length c2])) (m : Nat) : NdIn (m + 1) n lo w (.mk k op noS a [] 0) (.agg #[.int .i64 k, .int .i64 op, .string noS, .slice a1 a.shape.length c1, .slice a2 a.cells.length c2, .slice none 0 0, .int .i64 0]) :=
  ⟨a1, c1, a2, c2, none, 0, rfl, h, by simp [Nd.kids], (by show 0 ≤ _; omega), Or.inl rfl⟩
set_option maxHeartbeats 1000000 in
theorem lit30 (m n : Nat) (a : Ar) (va : Value) (w : World) (h : ArIn n 0 w a va) : Calls Tryz.prog 19 #[va] w fun e w' => GivesN (m + 1) n (litD a) w e w' := by
  have h' := h
  cases n with
  | zero => exact h.elim
  | succ n =>
  obtain ⟨a1, c1, a2, c2, rfl, -⟩ := h
  have H1 := hide h'
  clear h'
  have HL : Hid (∀ W, Below w.heap.size w W → NdIn (m + 1) (n + 1) 0 W (litD a) (.agg #[.int .i64 1, .int .i64 0, .string noS, .slice a1 a.shape.length c1, .slice a2 a.cells.length c2, .slice none 0 0, .int .i64 0])) := fun W hW => leaf_in (n + 1) 0 W 1 0 a a1 c1 a2 c2 (H1.out.next hW) m
  clear H1
  generalize a.shape.length = L1 at *
  generalize a.cells.length = L2 at *
  go_enter Tryz.func19, Tryz.ntmps19
  go_wp2
  exact bodyPost_ret (v := .agg #[.int .i64 1, .int .i64 0, .string noS, .slice a1 L1 c1, .slice a2 L2 c2, .slice none 0 0, .int .i64 0]) (by simp [results, Tryz.results19, go_sem, noS]) rfl ⟨⟨_, rfl, HL.out _ (two_allocs _ _ _)⟩, two_allocs _ _ _⟩
end Go.Proofs.YtneblkdkhlgmcaaGreatDoor
namespace Go.Proofs.YtneblkdkhlgmcaaGreatDoor
open Go.ChangeShapes Go.WideShapes Go.ChangeAt Go.RowKit
set_option maxRecDepth 100000
theorem cell_apart {w : World} {p q : Addr} {v : Value} (h : p.block ≠ q.block) (x : Value) (hc : w.cell? p = some v) : (w.setCell q x).cell? p = some v := by
  rw [World.cell?_of_block (w := w) (Below.heap_setCell w q x p.block h)]
  exact hc
end Go.Proofs.YtneblkdkhlgmcaaGreatDoor
namespace Go.Proofs.YtneblkdkhlgmcaaGreatDoor
open Go.ChangeShapes Go.WideShapes Go.ChangeAt Go.RowKit
set_option maxRecDepth 100000
set_option linter.unusedVariables false
/-- append onto a row of the call's own, as one step of a region. -/
theorem step_append_own {P : Program} {w : World} {ops : Array Oper} {o : Oper} {a : Act} {K : Act → World → Prop} {Q : Exit → Act → World → Prop} {E : Prop} (hg : o.guard = none) (s x : Operand) (t : TypeId)
    (ho : o.op = .call { callee := .builtin .append, args := #[s, x], argTypes := #[t, t] })
    (base : Nat) (e : TypeId) (i : TypeInfo) (z : Value) (size bytes : Nat) (ht : P.underlying t = some (.slice e)) (hi : P.info? e = some i) (hz : i.zero = some z)
    (hsize : i.size = size) (hby : i.bytes = bytes) (hzs : z.cells.size = size) (hsz : 0 < size)
    (v : Value) (n : Nat) (xs : List Value) (hs : a.eval s = v) (hown : w.ownsRow base e size v n xs)
    (ad : Addr) (m c : Nat) (news : List Value) (hx : a.eval x = .slice (some ad) m c) (hl : news.length = m * size) (hnews : ∀ j u, news[j]? = some u → w.cell? (ad.add j) = some u) (h1 : ∀ u ∈ news, u.oneCell' = true)
    (h63 : n + m ≤ maxLen) (hbytes : (n + m) * bytes ≤ 140737488355328) (hbase : base ≤ w.heap.size)
    (h : ∀ v' w', w'.ownsRow base e size v' (n + m) (xs ++ news) → Below base w w' → K (a.put o.dst v') w') : if Region.wanted o (yielded ops a.tmps) = true then Oper.wp P o a w K Q else E := by
  have hw : Region.wanted o (yielded ops a.tmps) = true := by simp [Region.wanted, hg]
  rw [if_pos hw]
  refine wp_append_own w s x t ho base e i z size bytes ht hi hz hsize hby hzs hsz v n xs hs hown ad m c news hx hl hnews h1 h63 hbytes hbase ?_
  intro v' w' hown' hgrow _
  exact h v' w' hown' ((Below.refl _ _).grown hgrow hbase (fun q hq => (hown.lt q hq).1))
/-- What the row holds that append has put together, up to number j. -/
def rowF (k : Int) (l : List Int) (j : Nat) : List Value := (List.range (j * 3)).map (numF k l l.length)
theorem rowF_step (k : Int) (l : List Int) (j : Nat) (hj : j < l.length) : rowF k l (j + 1) = rowF k l j ++ [.int .i64 k, .int .i64 (l[j]?.getD 0), .slice none 0 0] := by
  unfold rowF
  have e : (j + 1) * 3 = j * 3 + 1 + 1 + 1 := by omega
  rw [e, List.range_succ, List.range_succ, List.range_succ]
  simp only [List.map_append, List.map_cons, List.map_nil, List.append_assoc, List.cons_append, List.nil_append]
  have f0 : numF k l l.length (j * 3) = .int .i64 k := by
    unfold numF; rw [if_pos (by omega), if_pos (by omega)]
  have f1 : numF k l l.length (j * 3 + 1) = .int .i64 (l[j]?.getD 0) := by
    unfold numF; rw [if_pos (by omega), if_neg (by omega), if_pos (by omega), show (j * 3 + 1) / 3 = j by omega]
  have f2 : numF k l l.length (j * 3 + 1 + 1) = .slice none 0 0 := by
    unfold numF; rw [if_pos (by omega), if_neg (by omega), if_neg (by omega)]
  rw [f0, f1, f2]
theorem owns_form {w : World} {base n : Nat} {e : TypeId} {v : Value} {xs : List Value} (h : w.ownsRow base e 3 v n xs) (hn : 0 < n) : ∃ g cap, v = .slice (some ⟨g, 0, none⟩) n cap ∧ base ≤ g ∧ g < w.heap.size := by
  obtain ⟨h1, h2⟩ := h
  rcases h2 with ⟨rfl, h2⟩ | ⟨g, cap, cur, rfl, hb, hg, -⟩
  · omega
  · exact ⟨g, cap, rfl, hb, lt_of_block hg⟩
theorem owns_cells {w : World} {base lo n : Nat} {v : Value} (k : Int) (l : List Int) (h : w.ownsRow base 64 3 v l.length (rowF k l l.length)) (hlo : lo ≤ base) :
    ∃ a2 cap, v = .slice a2 l.length cap ∧ CellsIn n lo w (numCs k l) a2 := by
  have h' := h
  obtain ⟨h1, h2⟩ := h'
  rcases h2 with ⟨rfl, h2⟩ | ⟨g, cap, cur, rfl, hb, hg, -⟩
  · have e : l = [] := List.eq_nil_of_length_eq_zero h2
    subst e
    exact ⟨none, 0, rfl, Or.inl rfl⟩
  · refine ⟨_, cap, rfl, Or.inr ⟨g, 0, rfl, by omega, lt_of_block hg, ?_⟩⟩
    intro i hi
    rw [numCs_len] at hi
    rw [numCs_at k l i hi]
    have hc : ∀ m, m < l.length * 3 → w.cell? ⟨g, m, none⟩ = some (numF k l l.length m) := by
      intro m hm
      have := h.cellAt m (by simpa [rowF] using hm)
      rw [this]
      simp [rowF, hm]
    have f0 : numF k l l.length (i * 3) = .int .i64 k := by
      unfold numF; rw [if_pos (by omega), if_pos (by omega)]
    have f1 : numF k l l.length (i * 3 + 1) = .int .i64 (l[i]?.getD 0) := by
      unfold numF; rw [if_pos (by omega), if_neg (by omega), if_pos (by omega), show (i * 3 + 1) / 3 = i by omega]
    have f2 : numF k l l.length (i * 3 + 2) = .slice none 0 0 := by
      unfold numF; rw [if_pos (by omega), if_neg (by omega), if_neg (by omega)]
    have h0 := hc (i * 3) (by omega)
    have h1 := hc (i * 3 + 1) (by omega)
    have h2 := hc (i * 3 + 2) (by omega)
    rw [f0] at h0
    rw [f1] at h1
    rw [f2] at h2
    rw [Nat.zero_add]
    exact ⟨_, _, _, h0, h1, h2, rfl, rfl, none, 0, rfl, by simp, Or.inl rfl⟩
end Go.Proofs.YtneblkdkhlgmcaaGreatDoor
namespace Go.Proofs.YtneblkdkhlgmcaaGreatDoor
open Go.ChangeShapes Go.WideShapes Go.ChangeAt Go.RowKit
set_option maxRecDepth 100000
set_option linter.unusedVariables false
/-- What holds while the document's Nums or Text goes on: its answer's place (block s), the array (block o, its shape sv) and its cells so far. -/
def Inv (s o : Nat) (sv : Value) (k : Int) (l : List Int) (j : Nat) (v : Value) (w wr : World) : Prop :=
  Below s w wr ∧ o < wr.heap.size ∧ (wr.cell? ⟨s, 0, none⟩ = some (.slice none 0 0) ∧ wr.cell? ⟨s, 1, none⟩ = some (.slice none 0 0) ∧ wr.frozen? ⟨s, 0, none⟩ = false ∧ wr.frozen? ⟨s, 1, none⟩ = false) ∧
  (wr.cell? ⟨o, 0, none⟩ = some sv ∧ wr.cell? ⟨o, 1, none⟩ = some v ∧ wr.frozen? ⟨o, 0, none⟩ = false ∧ wr.frozen? ⟨o, 1, none⟩ = false) ∧ wr.ownsRow (o + 1) 64 3 v j (rowF k l j)
theorem frozen_set (w : World) (a b : Addr) (v : Value) (h : w.frozen? b = false) : (w.setCell a v).frozen? b = false := by
  simpa using h
theorem inv_step {s o : Nat} {sv : Value} {k : Int} {l : List Int} {j : Nat} {v v' : Value} {w wr w1 : World} (so : s < o) (h : Inv s o sv k l j v w wr) (hb : Below (o + 1) wr w1) (hown : w1.ownsRow (o + 1) 64 3 v' (j + 1) (rowF k l (j + 1))) : Inv s o sv k l (j + 1) v' w (w1.setCell ⟨o, 1, none⟩ v') := by
  obtain ⟨h1, h2, ⟨c0, c1, c2, c3⟩, ⟨d0, d1, d2, d3⟩, -⟩ := h
  have e0 : w1.cell? ⟨o, 0, none⟩ = some sv := (hb.cell (p := ⟨o, 0, none⟩) (by show o < _; omega)).trans d0
  have e1 : w1.cell? ⟨o, 1, none⟩ = some v := (hb.cell (p := ⟨o, 1, none⟩) (by show o < _; omega)).trans d1
  refine ⟨(h1.trans (hb.mono (by omega))).setCell (p := ⟨o, 1, none⟩) (by show s ≤ o; omega) _, ?_, ⟨?_, ?_, ?_, ?_⟩, ⟨?_, ?_, ?_, ?_⟩, ownsRow_setCell_below hown (a := ⟨o, 1, none⟩) (by show o < _; omega) _⟩
  · have : (w1.setCell ⟨o, 1, none⟩ v').heap.size = w1.heap.size := by simp
    rw [this]; exact Nat.lt_of_lt_of_le h2 hb.size
  · exact cell_apart (p := ⟨s, 0, none⟩) (q := ⟨o, 1, none⟩) (by show s ≠ o; omega) _ ((hb.cell (p := ⟨s, 0, none⟩) (by show s < _; omega)).trans c0)
  · exact cell_apart (p := ⟨s, 1, none⟩) (q := ⟨o, 1, none⟩) (by show s ≠ o; omega) _ ((hb.cell (p := ⟨s, 1, none⟩) (by show s < _; omega)).trans c1)
  · exact frozen_set _ _ _ _ ((hb.frozen (p := ⟨s, 0, none⟩) (by show s < _; omega)).trans c2)
  · exact frozen_set _ _ _ _ ((hb.frozen (p := ⟨s, 1, none⟩) (by show s < _; omega)).trans c3)
  · rw [World.cell?_setCell_other _ _ _ _ (by simp)]; exact e0
  · exact World.cell?_setCell_same' _ _ _ (by rw [e1]; rfl)
  · exact frozen_set _ _ _ _ ((hb.frozen (p := ⟨o, 0, none⟩) (by show o < _; omega)).trans d2)
  · exact frozen_set _ _ _ _ ((hb.frozen (p := ⟨o, 1, none⟩) (by show o < _; omega)).trans d3)
theorem info33' : ∃ i, Tryz.prog.info? 64 = some i ∧ i.zero = some (.agg #[.int .i64 0, .int .i64 0, .slice none 0 0]) ∧ i.size = 3 ∧ i.bytes = 40 := by
  obtain ⟨i, hi, hzz⟩ := Option.map_eq_some_iff.1 info33
  simp only [Prod.mk.injEq] at hzz
  exact ⟨i, hi, hzz.1, hzz.2.1, hzz.2.2⟩
theorem owns_drew {w : World} {base e size n : Nat} {v : Value} {xs : List Value} (h : w.ownsRow base e size v n xs) : w.drew.ownsRow base e size v n xs := h
set_option maxHeartbeats 4000000 in
theorem rnums_any {lo : Nat} (n : Nat) (l : List Int) (a : Option Addr) (cap : Nat) (w : World) (R : Row lo w a l) (hl : l.length ≤ 16384) :
    Calls Tryz.prog 16 #[.slice a l.length cap] w fun e w' => GivesA (n + 1) (numsA l) w e w' := by
  obtain ⟨i0, hi, hz0, hz1, hz2⟩ := info33'
  have hrow := @row_at _ _ _ _ R
  clear R
  have b1 : Below w.heap.size w ((w.alloc (.cells #[.slice none 0 0, .slice none 0 0] 25)).alloc (.cells #[.int .i64 (l.length : Int)] 3)) := two_allocs _ _ _
  have s1 := size_two w (.cells #[.slice none 0 0, .slice none 0 0] 25) (.cells #[.int .i64 (l.length : Int)] 3)
  have HST : Hid (Inv w.heap.size (w.heap.size + 2) (.slice (some ⟨w.heap.size + 1, 0, none⟩) 1 1) 0 l 0 (.slice none 0 0) w (((w.alloc (.cells #[.slice none 0 0, .slice none 0 0] 25)).alloc (.cells #[.int .i64 (l.length : Int)] 3)).alloc (.cells #[.slice (some ⟨w.heap.size + 1, 0, none⟩) 1 1, .slice none 0 0] 25))) := by
    have g := fun (b i : Nat) (v : Value) (hb : b < w.heap.size + 2) (h : ((w.alloc (.cells #[.slice none 0 0, .slice none 0 0] 25)).alloc (.cells #[.int .i64 (l.length : Int)] 3)).cell? ⟨b, i, none⟩ = some v) => ((one_alloc _ (.cells #[.slice (some ⟨w.heap.size + 1, 0, none⟩) 1 1, .slice none 0 0] 25)).cell (p := ⟨b, i, none⟩) (by rw [s1]; exact hb)).trans h
    have gf : ∀ i, (((w.alloc (.cells #[.slice none 0 0, .slice none 0 0] 25)).alloc (.cells #[.int .i64 (l.length : Int)] 3)).alloc (.cells #[.slice (some ⟨w.heap.size + 1, 0, none⟩) 1 1, .slice none 0 0] 25)).frozen? ⟨w.heap.size, i, none⟩ = false := fun i =>
      (((two_allocs (w.alloc (.cells #[.slice none 0 0, .slice none 0 0] 25)) (.cells #[.int .i64 (l.length : Int)] 3) (.cells #[.slice (some ⟨w.heap.size + 1, 0, none⟩) 1 1, .slice none 0 0] 25)).frozen (p := ⟨w.heap.size, i, none⟩) (by simp))).trans (frozen_new w _ 25 i)
    have n0 := cell_new0 ((w.alloc (.cells #[.slice none 0 0, .slice none 0 0] 25)).alloc (.cells #[.int .i64 (l.length : Int)] 3)) #[.slice (some ⟨w.heap.size + 1, 0, none⟩) 1 1, .slice none 0 0] 25 0 _ rfl
    have n1 := cell_new0 ((w.alloc (.cells #[.slice none 0 0, .slice none 0 0] 25)).alloc (.cells #[.int .i64 (l.length : Int)] 3)) #[.slice (some ⟨w.heap.size + 1, 0, none⟩) 1 1, .slice none 0 0] 25 1 _ rfl
    have nf := fun i => frozen_new ((w.alloc (.cells #[.slice none 0 0, .slice none 0 0] 25)).alloc (.cells #[.int .i64 (l.length : Int)] 3)) #[.slice (some ⟨w.heap.size + 1, 0, none⟩) 1 1, .slice none 0 0] 25 i
    rw [s1] at n0 n1 nf
    refine ⟨b1.trans ((one_alloc _ _).mono (by rw [s1]; omega)), by simp, ⟨g _ _ _ (by omega) (cell_new1 w _ 25 (0, 0) _ 0 _ rfl), g _ _ _ (by omega) (cell_new1 w _ 25 (0, 0) _ 1 _ rfl), gf 0, gf 1⟩, ⟨n0, n1, nf 0, nf 1⟩, ?_⟩
    exact World.ownsRow_nil _ _ _ _
  have HLEN : Hid ((((w.alloc (.cells #[.slice none 0 0, .slice none 0 0] 25)).alloc (.cells #[.int .i64 (l.length : Int)] 3)).alloc (.cells #[.slice (some ⟨w.heap.size + 1, 0, none⟩) 1 1, .slice none 0 0] 25)).cell? ⟨w.heap.size + 1, 0, none⟩ = some (.int .i64 (l.length : Int))) :=
    ((one_alloc _ (.cells #[.slice (some ⟨w.heap.size + 1, 0, none⟩) 1 1, .slice none 0 0] 25)).cell (p := ⟨w.heap.size + 1, 0, none⟩) (by rw [s1]; show w.heap.size + 1 < _; omega)).trans (cell_new2 w #[.int .i64 (l.length : Int)] 3 (0, 0) (.cells #[.slice none 0 0, .slice none 0 0] 25) 0 _ rfl)
  clear b1 s1
  go_enter Tryz.func16, Tryz.ntmps16
  go_wp2
  go_loopw [4] (fun i wr => ∃ (j : Nat) (v : Value), j ≤ l.length ∧ i = .int .i64 (j : Int) ∧ Inv w.heap.size (w.heap.size + 2) (.slice (some ⟨w.heap.size + 1, 0, none⟩) 1 1) 0 l j v w wr ∧ wr.cell? ⟨w.heap.size + 1, 0, none⟩ = some (.int .i64 (l.length : Int))) (fun i _ => l.length - (intOf i).toNat)
  case atStart => exact ⟨0, _, Nat.zero_le _, rfl, HST.out, HLEN.out⟩
  case round =>
    clear HST HLEN
    obtain ⟨j, v, hj, rfl, hinv, hlen⟩ := hrel
    have HI := hide hinv
    have HL := hide hlen
    obtain ⟨hnx, hsz, ⟨c0, c1, c2, c3⟩, ⟨d0, d1, d2, d3⟩, hown⟩ := hinv
    by_cases hlt : j < l.length
    · obtain ⟨b, off, ha, hb, hck⟩ := hrow hlt
      subst ha
      have hc1 : wr.cell? ⟨b, off + j, none⟩ = some (.int .i64 (l[j]?.getD 0)) := (hnx.cell (p := ⟨b, off + j, none⟩) hb).trans hck
      have hc2 : ∀ o, (wr.drew.alloc o).cell? ⟨w.heap.size + 2, 1, none⟩ = some v := fun o => ((one_alloc wr.drew o).cell (p := ⟨w.heap.size + 2, 1, none⟩) hsz).trans d1
      have HSTEP := hide (rowF_step 0 l j hlt)
      generalize l[j]?.getD 0 = z at *
      have HOWN := hide ((owns_drew hown).alloc (.cells #[.int .i64 0, .int .i64 z, .slice none 0 0] 64))
      have HNEWS : Hid (∀ i u, [Value.int .i64 0, .int .i64 z, .slice none 0 0][i]? = some u → (wr.drew.alloc (.cells #[.int .i64 0, .int .i64 z, .slice none 0 0] 64)).cell? ((⟨wr.heap.size, 0, none⟩ : Addr).add i) = some u) := by
        intro i u hu
        have ha : (⟨wr.heap.size, 0, none⟩ : Addr).add i = ⟨wr.drew.heap.size, i, none⟩ := by
          unfold Addr.add
          split
          · subst_vars; rfl
          · simp
        rw [ha]
        exact cell_new0 wr.drew _ 64 i u (by simpa using hu)
      have HONE : Hid (∀ u ∈ [Value.int .i64 0, .int .i64 z, .slice none 0 0], u.oneCell' = true) := by
        intro u hu
        simp at hu
        rcases hu with rfl | rfl | rfl <;> rfl
      have HMAX : Hid (j + 1 ≤ maxLen ∧ (j + 1) * 40 ≤ 140737488355328 ∧ w.heap.size + 2 + 1 ≤ (wr.drew.alloc (.cells #[.int .i64 0, .int .i64 z, .slice none 0 0] 64)).heap.size) := by
        refine ⟨by unfold maxLen; omega, by omega, ?_⟩
        have : (wr.drew.alloc (.cells #[.int .i64 0, .int .i64 z, .slice none 0 0] 64)).heap.size = wr.heap.size + 1 := by simp
        omega
      have HAL : Hid (Below (w.heap.size + 2 + 1) wr (wr.drew.alloc (.cells #[.int .i64 0, .int .i64 z, .slice none 0 0] 64))) := ((Below.refl _ _).drew).alloc (by show _ ≤ wr.heap.size; omega) _
      clear hown hck hrow hlen c0 c1 c2 c3 d0 d2 hb hnx
      go_wp2
      go_region_law (refine step_append_own rfl (.tmp 16) (.tmp 22) 23 rfl (w.heap.size + 2 + 1) 64 i0 (.agg #[.int .i64 0, .int .i64 0, .slice none 0 0]) 3 40 Tryz.underlying23 hi hz0 hz1 hz2 rfl (by decide) v j (rowF 0 l j) rfl HOWN.out ⟨wr.heap.size, 0, none⟩ 1 1 [.int .i64 0, .int .i64 z, .slice none 0 0] rfl rfl HNEWS.out HONE.out HMAX.out.1 HMAX.out.2.1 HMAX.out.2.2 ?_; intro v' w1 hown1 hb1; obtain ⟨g, cp, rfl, -⟩ := owns_form hown1 (Nat.succ_pos j); have dd1 := (HAL.out.trans hb1).cell (p := ⟨w.heap.size + 2, 1, none⟩) (Nat.lt_succ_self _) |>.trans d1; have dd3 := (HAL.out.trans hb1).frozen (p := ⟨w.heap.size + 2, 1, none⟩) (Nat.lt_succ_self _) |>.trans d3)
      all_goals
        have hown2 : w1.ownsRow (w.heap.size + 2 + 1) 64 3 (.slice (some ⟨g, 0, none⟩) (j + 1) cp) (j + 1) (rowF 0 l (j + 1)) := by rw [HSTEP.out]; exact hown1
        have HN := hide (inv_step (by omega) HI.out (HAL.out.trans hb1) hown2)
        have HN2 : Hid ((w1.setCell ⟨w.heap.size + 2, 1, none⟩ (.slice (some ⟨g, 0, none⟩) (j + 1) cp)).cell? ⟨w.heap.size + 1, 0, none⟩ = some (.int .i64 (l.length : Int))) := cell_apart (p := ⟨w.heap.size + 1, 0, none⟩) (q := ⟨w.heap.size + 2, 1, none⟩) (by show w.heap.size + 1 ≠ w.heap.size + 2; omega) _ (((HAL.out.trans hb1).cell (p := ⟨w.heap.size + 1, 0, none⟩) (by show w.heap.size + 1 < _; omega)).trans HL.out)
        clear hown1 hown2 hb1 dd1 dd3 HOWN HNEWS HONE HMAX HAL HI HL HSTEP
        go_wp2
        go_roundw
        case rel => exact ⟨j + 1, _, by omega, by go_num, HN.out, HN2.out⟩
        case measure => simp [intOf]; omega
    · have hje : j = l.length := by omega
      subst hje
      obtain ⟨a2, cp, rfl, hcs⟩ := owns_cells (n := n) (lo := w.heap.size + 2 + 1) 0 l hown (Nat.le_refl _)
      have HF : Hid (∀ x y, ArIn (n + 1) w.heap.size ((wr.setCell ⟨w.heap.size, 0, none⟩ x).setCell ⟨w.heap.size, 1, none⟩ y) (numsA l) (.agg #[.slice (some ⟨w.heap.size + 1, 0, none⟩) 1 1, .slice a2 l.length cp])) := by
        intro x y
        have hk : Keeps (w.heap.size + 1) wr ((wr.setCell ⟨w.heap.size, 0, none⟩ x).setCell ⟨w.heap.size, 1, none⟩ y) := ((Keeps.refl _ _).setCell (p := ⟨w.heap.size, 0, none⟩) (by show w.heap.size < _; omega) x).setCell (p := ⟨w.heap.size, 1, none⟩) (by show w.heap.size < _; omega) y
        refine arIn_mk (x := numsA l) ?_ (by simp [numsA, Ar.cells, numCs_len]; omega) ?_ rfl (numCs_len 0 l)
        · exact ((row_one (lo := w.heap.size + 1) (b := w.heap.size + 1) (by omega) (Nat.le_refl _) HL.out).keeps hk).low (by omega)
        · exact ((hcs.mono (lo' := w.heap.size + 1) (by omega) (Below.refl _ _)).keeps hk).mono (by omega) (Below.refl _ _)
      have HT := hide (set_two c0 c1 (.slice (some ⟨w.heap.size + 1, 0, none⟩) 1 1) (.slice a2 l.length cp))
      have HB := hide hnx
      clear hown hrow hcs HI HL hnx
      go_wp2
      exact bodyPost_ret (v := .agg #[.slice (some ⟨w.heap.size + 1, 0, none⟩) 1 1, .slice a2 l.length cp]) (by simp [results, Tryz.results16, go_sem, HT.out.1, HT.out.2]) rfl ⟨⟨_, rfl, HF.out _ _⟩, (HB.out.setCell (p := ⟨w.heap.size, 0, none⟩) (Nat.le_refl _) _).setCell (p := ⟨w.heap.size, 1, none⟩) (Nat.le_refl _) _⟩
end Go.Proofs.YtneblkdkhlgmcaaGreatDoor
namespace Go.Proofs.YtneblkdkhlgmcaaGreatDoor
open Go.ChangeShapes Go.WideShapes Go.ChangeAt Go.RowKit
set_option maxRecDepth 100000
set_option linter.unusedVariables false
set_option linter.unusedSimpArgs false
theorem results_cell_mid {P : Program} {fn : Func} {p : Tmp} {ty : TypeId} (h : fn.results = #[.cell p ty]) (tmps : Array Value) (w : World) (b o : Nat) (hp : tmps.getD p undef = .pointer (some ⟨b, o, none⟩)) (cs : List Value) (d : TypeDesc) (hc : w.rangeAt b o cs)
    (hu : P.underlying ty = some d) (hd : d.isRow = true) (hi : (P.info? ty).map (·.size) = some cs.length) :
    (results fn tmps).run P w = .ok (.agg cs.toArray) w := by
  have hp' : tmps[p]?.getD undef = .pointer (some ⟨b, o, none⟩) := by simpa using hp
  simp [results, h, hp', asAddr, run_loadVar_mid w b o ty cs d hc hu hd hi]
theorem old_at {w : World} {q : Nat} {o : Obj} (h : w.heap[q]? = some o) (o' : Obj) : (w.alloc o').heap[q]? = some o := (Lib.alloc_old w o' q (lt_heap h)).trans h
theorem range_of {w : World} {q : Nat} {l : List Value} {T : TypeId} {fz : Nat × Nat} (h : w.heap[q]? = some (.cells l.toArray T fz)) : w.rangeAt q 0 l := fun k v hv => by
  rw [Nat.zero_add, Lib.cell_of_heap h]
  simpa using hv
def aplS (s1 s2 s3 : Value) : Gs := ⟨s1, s2, s3, ⟨#[226, 136, 152, 46]⟩, ⟨#[226, 141, 163]⟩, ⟨#[123]⟩, ⟨#[125]⟩, ⟨#[226, 141, 186]⟩, ⟨#[226, 141, 181]⟩, ⟨#[194, 175]⟩, ⟨#[39]⟩, false, false, true⟩
theorem aplSL {w W1 W2 W3 W4 : World} {l1 l2 l3 : Array Value} (h1 : w.alloc (.cells #[.slice (some ⟨w.heap.size + 1, 0, none⟩) 31 31, .slice (some ⟨w.heap.size + 1 + 1, 0, none⟩) 5 5, .slice (some ⟨w.heap.size + 1 + 1 + 1, 0, none⟩) 2 2, .string ⟨#[226, 136, 152, 46]⟩, .string ⟨#[226, 141, 163]⟩, .string ⟨#[123]⟩, .string ⟨#[125]⟩, .string ⟨#[226, 141, 186]⟩, .string ⟨#[226, 141, 181]⟩, .string ⟨#[194, 175]⟩, .string ⟨#[39]⟩, .bool false, .bool false, .bool true] 30) = W1) (h2 : W1.alloc (.cells l1 9) = W2) (h3 : W2.alloc (.cells l2 9) = W3) (h4 : W3.alloc (.cells l3 9) = W4) : Below w.heap.size w W4 ∧ W4.rangeAt w.heap.size 0 [.slice (some ⟨w.heap.size + 1, 0, none⟩) 31 31, .slice (some ⟨w.heap.size + 1 + 1, 0, none⟩) 5 5, .slice (some ⟨w.heap.size + 1 + 1 + 1, 0, none⟩) 2 2, .string ⟨#[226, 136, 152, 46]⟩, .string ⟨#[226, 141, 163]⟩, .string ⟨#[123]⟩, .string ⟨#[125]⟩, .string ⟨#[226, 141, 186]⟩, .string ⟨#[226, 141, 181]⟩, .string ⟨#[194, 175]⟩, .string ⟨#[39]⟩, .bool false, .bool false, .bool true] := by
  have b1 : Below w.heap.size w W1 := by rw [← h1]; exact alloc_one _ _
  have q1 : W1.heap[w.heap.size]? = some (.cells ([.slice (some ⟨w.heap.size + 1, 0, none⟩) 31 31, .slice (some ⟨w.heap.size + 1 + 1, 0, none⟩) 5 5, .slice (some ⟨w.heap.size + 1 + 1 + 1, 0, none⟩) 2 2, .string ⟨#[226, 136, 152, 46]⟩, .string ⟨#[226, 141, 163]⟩, .string ⟨#[123]⟩, .string ⟨#[125]⟩, .string ⟨#[226, 141, 186]⟩, .string ⟨#[226, 141, 181]⟩, .string ⟨#[194, 175]⟩, .string ⟨#[39]⟩, .bool false, .bool false, .bool true] : List Value).toArray 30 (0, 0)) := by rw [← h1]; exact heap_alloc_new w _
  have b2 : Below w.heap.size w W2 := by rw [← h2]; exact b1.trans ((alloc_one _ _).mono b1.size)
  have q2 := old_at q1 (.cells l1 9)
  rw [h2] at q2
  have b3 : Below w.heap.size w W3 := by rw [← h3]; exact b2.trans ((alloc_one _ _).mono b2.size)
  have q3 := old_at q2 (.cells l2 9)
  rw [h3] at q3
  have b4 : Below w.heap.size w W4 := by rw [← h4]; exact b3.trans ((alloc_one _ _).mono b3.size)
  have q4 := old_at q3 (.cells l3 9)
  rw [h4] at q4
  exact ⟨b4, range_of q4⟩
set_option maxHeartbeats 4000000 in
theorem aplS17 {w : World} : Calls Tryz.prog 17 #[] w fun e w' => ∃ a1 c1 d1 a2 c2 d2 a3 c3 d3, e = .returned (gV (aplS (.slice a1 c1 d1) (.slice a2 c2 d2) (.slice a3 c3 d3))) ∧ Below w.heap.size w w' := by
  go_enter Tryz.func17, Tryz.ntmps17
  go_wp2
  obtain ⟨k1, kr⟩ := aplSL (w := w) rfl rfl rfl rfl
  refine bodyPost_ret (v := .agg #[.slice (some ⟨w.heap.size + 1, 0, none⟩) 31 31, .slice (some ⟨w.heap.size + 1 + 1, 0, none⟩) 5 5, .slice (some ⟨w.heap.size + 1 + 1 + 1, 0, none⟩) 2 2, .string ⟨#[226, 136, 152, 46]⟩, .string ⟨#[226, 141, 163]⟩, .string ⟨#[123]⟩, .string ⟨#[125]⟩, .string ⟨#[226, 141, 186]⟩, .string ⟨#[226, 141, 181]⟩, .string ⟨#[194, 175]⟩, .string ⟨#[39]⟩, .bool false, .bool false, .bool true]) (results_cell_mid rfl _ _ w.heap.size 0 rfl [.slice (some ⟨w.heap.size + 1, 0, none⟩) 31 31, .slice (some ⟨w.heap.size + 1 + 1, 0, none⟩) 5 5, .slice (some ⟨w.heap.size + 1 + 1 + 1, 0, none⟩) 2 2, .string ⟨#[226, 136, 152, 46]⟩, .string ⟨#[226, 141, 163]⟩, .string ⟨#[123]⟩, .string ⟨#[125]⟩, .string ⟨#[226, 141, 186]⟩, .string ⟨#[226, 141, 181]⟩, .string ⟨#[194, 175]⟩, .string ⟨#[39]⟩, .bool false, .bool false, .bool true] _ kr Tryz.underlying30 rfl (by kernel_rfl)) rfl ?_
  exact ⟨_, _, _, _, _, _, _, _, _, rfl, k1⟩
def jS (s1 s2 s3 : Value) : Gs := ⟨s1, s2, s3, ⟨#[]⟩, ⟨#[94, 58]⟩, ⟨#[123, 123]⟩, ⟨#[125, 125]⟩, ⟨#[120]⟩, ⟨#[121]⟩, ⟨#[95]⟩, ⟨#[39]⟩, true, false, false⟩
theorem jSL {w W1 W2 W3 : World} {l1 l2 : Array Value} (h1 : w.alloc (.cells #[.slice (some ⟨w.heap.size + 1, 0, none⟩) 28 28, .slice (some ⟨w.heap.size + 1 + 1, 0, none⟩) 4 4, .slice none 0 0, .string ⟨#[]⟩, .string ⟨#[94, 58]⟩, .string ⟨#[123, 123]⟩, .string ⟨#[125, 125]⟩, .string ⟨#[120]⟩, .string ⟨#[121]⟩, .string ⟨#[95]⟩, .string ⟨#[39]⟩, .bool true, .bool false, .bool false] 30) = W1) (h2 : W1.alloc (.cells l1 9) = W2) (h3 : W2.alloc (.cells l2 9) = W3) : Below w.heap.size w W3 ∧ W3.rangeAt w.heap.size 0 [.slice (some ⟨w.heap.size + 1, 0, none⟩) 28 28, .slice (some ⟨w.heap.size + 1 + 1, 0, none⟩) 4 4, .slice none 0 0, .string ⟨#[]⟩, .string ⟨#[94, 58]⟩, .string ⟨#[123, 123]⟩, .string ⟨#[125, 125]⟩, .string ⟨#[120]⟩, .string ⟨#[121]⟩, .string ⟨#[95]⟩, .string ⟨#[39]⟩, .bool true, .bool false, .bool false] := by
  have b1 : Below w.heap.size w W1 := by rw [← h1]; exact alloc_one _ _
  have q1 : W1.heap[w.heap.size]? = some (.cells ([.slice (some ⟨w.heap.size + 1, 0, none⟩) 28 28, .slice (some ⟨w.heap.size + 1 + 1, 0, none⟩) 4 4, .slice none 0 0, .string ⟨#[]⟩, .string ⟨#[94, 58]⟩, .string ⟨#[123, 123]⟩, .string ⟨#[125, 125]⟩, .string ⟨#[120]⟩, .string ⟨#[121]⟩, .string ⟨#[95]⟩, .string ⟨#[39]⟩, .bool true, .bool false, .bool false] : List Value).toArray 30 (0, 0)) := by rw [← h1]; exact heap_alloc_new w _
  have b2 : Below w.heap.size w W2 := by rw [← h2]; exact b1.trans ((alloc_one _ _).mono b1.size)
  have q2 := old_at q1 (.cells l1 9)
  rw [h2] at q2
  have b3 : Below w.heap.size w W3 := by rw [← h3]; exact b2.trans ((alloc_one _ _).mono b2.size)
  have q3 := old_at q2 (.cells l2 9)
  rw [h3] at q3
  exact ⟨b3, range_of q3⟩
set_option maxHeartbeats 4000000 in
theorem jS18 {w : World} : Calls Tryz.prog 18 #[] w fun e w' => ∃ a1 c1 d1 a2 c2 d2 a3 c3 d3, e = .returned (gV (jS (.slice a1 c1 d1) (.slice a2 c2 d2) (.slice a3 c3 d3))) ∧ Below w.heap.size w w' := by
  go_enter Tryz.func18, Tryz.ntmps18
  go_wp2
  obtain ⟨k1, kr⟩ := jSL (w := w) rfl rfl rfl
  refine bodyPost_ret (v := .agg #[.slice (some ⟨w.heap.size + 1, 0, none⟩) 28 28, .slice (some ⟨w.heap.size + 1 + 1, 0, none⟩) 4 4, .slice none 0 0, .string ⟨#[]⟩, .string ⟨#[94, 58]⟩, .string ⟨#[123, 123]⟩, .string ⟨#[125, 125]⟩, .string ⟨#[120]⟩, .string ⟨#[121]⟩, .string ⟨#[95]⟩, .string ⟨#[39]⟩, .bool true, .bool false, .bool false]) (results_cell_mid rfl _ _ w.heap.size 0 rfl [.slice (some ⟨w.heap.size + 1, 0, none⟩) 28 28, .slice (some ⟨w.heap.size + 1 + 1, 0, none⟩) 4 4, .slice none 0 0, .string ⟨#[]⟩, .string ⟨#[94, 58]⟩, .string ⟨#[123, 123]⟩, .string ⟨#[125, 125]⟩, .string ⟨#[120]⟩, .string ⟨#[121]⟩, .string ⟨#[95]⟩, .string ⟨#[39]⟩, .bool true, .bool false, .bool false] _ kr Tryz.underlying30 rfl (by kernel_rfl)) rfl ?_
  exact ⟨_, _, _, _, _, _, _, _, _, rfl, k1⟩
def kS (s1 s2 s3 : Value) : Gs := ⟨s1, s2, s3, ⟨#[]⟩, ⟨#[]⟩, ⟨#[123]⟩, ⟨#[125]⟩, ⟨#[120]⟩, ⟨#[121]⟩, ⟨#[45]⟩, ⟨#[34]⟩, false, true, true⟩
theorem kSL {w W1 W2 W3 : World} {l1 l2 : Array Value} (h1 : w.alloc (.cells #[.slice (some ⟨w.heap.size + 1, 0, none⟩) 17 17, .slice (some ⟨w.heap.size + 1 + 1, 0, none⟩) 2 2, .slice none 0 0, .string ⟨#[]⟩, .string ⟨#[]⟩, .string ⟨#[123]⟩, .string ⟨#[125]⟩, .string ⟨#[120]⟩, .string ⟨#[121]⟩, .string ⟨#[45]⟩, .string ⟨#[34]⟩, .bool false, .bool true, .bool true] 30) = W1) (h2 : W1.alloc (.cells l1 9) = W2) (h3 : W2.alloc (.cells l2 9) = W3) : Below w.heap.size w W3 ∧ W3.rangeAt w.heap.size 0 [.slice (some ⟨w.heap.size + 1, 0, none⟩) 17 17, .slice (some ⟨w.heap.size + 1 + 1, 0, none⟩) 2 2, .slice none 0 0, .string ⟨#[]⟩, .string ⟨#[]⟩, .string ⟨#[123]⟩, .string ⟨#[125]⟩, .string ⟨#[120]⟩, .string ⟨#[121]⟩, .string ⟨#[45]⟩, .string ⟨#[34]⟩, .bool false, .bool true, .bool true] := by
  have b1 : Below w.heap.size w W1 := by rw [← h1]; exact alloc_one _ _
  have q1 : W1.heap[w.heap.size]? = some (.cells ([.slice (some ⟨w.heap.size + 1, 0, none⟩) 17 17, .slice (some ⟨w.heap.size + 1 + 1, 0, none⟩) 2 2, .slice none 0 0, .string ⟨#[]⟩, .string ⟨#[]⟩, .string ⟨#[123]⟩, .string ⟨#[125]⟩, .string ⟨#[120]⟩, .string ⟨#[121]⟩, .string ⟨#[45]⟩, .string ⟨#[34]⟩, .bool false, .bool true, .bool true] : List Value).toArray 30 (0, 0)) := by rw [← h1]; exact heap_alloc_new w _
  have b2 : Below w.heap.size w W2 := by rw [← h2]; exact b1.trans ((alloc_one _ _).mono b1.size)
  have q2 := old_at q1 (.cells l1 9)
  rw [h2] at q2
  have b3 : Below w.heap.size w W3 := by rw [← h3]; exact b2.trans ((alloc_one _ _).mono b2.size)
  have q3 := old_at q2 (.cells l2 9)
  rw [h3] at q3
  exact ⟨b3, range_of q3⟩
set_option maxHeartbeats 4000000 in
theorem kS21 {w : World} : Calls Tryz.prog 21 #[] w fun e w' => ∃ a1 c1 d1 a2 c2 d2 a3 c3 d3, e = .returned (gV (kS (.slice a1 c1 d1) (.slice a2 c2 d2) (.slice a3 c3 d3))) ∧ Below w.heap.size w w' := by
  go_enter Tryz.func21, Tryz.ntmps21
  go_wp2
  obtain ⟨k1, kr⟩ := kSL (w := w) rfl rfl rfl
  refine bodyPost_ret (v := .agg #[.slice (some ⟨w.heap.size + 1, 0, none⟩) 17 17, .slice (some ⟨w.heap.size + 1 + 1, 0, none⟩) 2 2, .slice none 0 0, .string ⟨#[]⟩, .string ⟨#[]⟩, .string ⟨#[123]⟩, .string ⟨#[125]⟩, .string ⟨#[120]⟩, .string ⟨#[121]⟩, .string ⟨#[45]⟩, .string ⟨#[34]⟩, .bool false, .bool true, .bool true]) (results_cell_mid rfl _ _ w.heap.size 0 rfl [.slice (some ⟨w.heap.size + 1, 0, none⟩) 17 17, .slice (some ⟨w.heap.size + 1 + 1, 0, none⟩) 2 2, .slice none 0 0, .string ⟨#[]⟩, .string ⟨#[]⟩, .string ⟨#[123]⟩, .string ⟨#[125]⟩, .string ⟨#[120]⟩, .string ⟨#[121]⟩, .string ⟨#[45]⟩, .string ⟨#[34]⟩, .bool false, .bool true, .bool true] _ kr Tryz.underlying30 rfl (by kernel_rfl)) rfl ?_
  exact ⟨_, _, _, _, _, _, _, _, _, rfl, k1⟩
end Go.Proofs.YtneblkdkhlgmcaaGreatDoor
namespace Go.Proofs.YtneblkdkhlgmcaaGreatDoor
open Go.ChangeShapes Go.WideShapes Go.ChangeAt Go.RowKit
set_option maxRecDepth 100000
set_option linter.unusedVariables false
set_option linter.unusedSimpArgs false
theorem dd (i : Nat) (h : i < 10) : Lib.decDigits i = [UInt8.ofNat (48 + i)] := Lib.decDigits_one h
def xA : Ar := numsA [1, -2]
def xB : Nd := .mk 5 0 noS noA [.mk 21 0 ⟨#[105, 46]⟩ noA [] 0, litD (atomA 3)] 0
def xZ : Nd := .mk 0 0 noS noA [] 0
theorem litA (s1 s2 s3 : Value) : litE xA = 0 ∧ litS (aplS s1 s2 s3) xA = [49, 32, 194, 175, 50] := by
  have hb : litB xA = true := by kernel_rfl
  have ht : txB xA = false := by kernel_rfl
  unfold litE litS litT
  rw [hb, ht]
  refine ⟨rfl, ?_⟩
  have e1 : numT 1 (aplS s1 s2 s3).minus.data.toList = [49] := by
    unfold numT
    rw [if_neg (by decide)]
    exact dd 1 (by decide)
  have e2 : numT (-2) (aplS s1 s2 s3).minus.data.toList = [194, 175, 50] := by
    unfold numT
    rw [if_pos (by decide), show (-2 : Int).natAbs = 2 from rfl, dd 2 (by decide)]
    rfl
  have e3 : numW (aplS s1 s2 s3).minus xA.cells = [str [49], str [194, 175, 50]] := by
    show [str (numT 1 (aplS s1 s2 s3).minus.data.toList), str (numT (-2) (aplS s1 s2 s3).minus.data.toList)] = _
    rw [e1, e2]
  rw [e3]
  rfl
theorem wrA (s1 s2 s3 : Value) : wrB (jS s1 s2 s3) 2 xB = true ∧ (TX (jS s1 s2 s3) 2).E (jS s1 s2 s3).right xB = [105, 46, 32, 51] := by
  refine ⟨by kernel_rfl, ?_⟩
  have e1 : numT 3 (jS s1 s2 s3).minus.data.toList = [51] := by
    unfold numT
    rw [if_neg (by decide)]
    exact dd 3 (by decide)
  have e2 : litT (jS s1 s2 s3) (atomA 3) = [51] := by
    unfold litT
    rw [show txB (atomA 3) = false from by kernel_rfl]
    have e3 : numW (jS s1 s2 s3).minus (atomA 3).cells = [str [51]] := by
      show [str (numT 3 (jS s1 s2 s3).minus.data.toList)] = _
      rw [e1]
    rw [e3]
    rfl
  show [105, 46] ++ ([32] ++ litT (jS s1 s2 s3) (atomA 3)) = _
  rw [e2]
  rfl
theorem wrZ (s1 s2 s3 : Value) : wrB (kS s1 s2 s3) 1 xZ = false := by kernel_rfl
theorem numM : numT (-5) [95] = [95, 53] := by
  unfold numT
  rw [if_pos (by decide), show (-5 : Int).natAbs = 5 from rfl, dd 5 (by decide)]
  rfl
theorem sndA_mk {x : Nd} (h1 : I64 x.op) (h2 : x.lit.cells.length ≤ 100000) (h3 : ∀ i, i < x.lit.cells.length → I64 (cAt x.lit.cells i).2.1) (h4 : ∀ i, i < x.kids.length → sndA (kp x i)) : sndA x := fun m => by
  cases m with
  | zero => trivial
  | succ m => exact ⟨h1, h2, h3, fun i hi => h4 i hi m⟩
theorem sndZ : sndA xZ := sndA_mk (by unfold I64; decide) (by decide) (fun i hi => absurd hi (by simp [xZ, noA, Nd.lit, Ar.cells])) (fun i hi => absurd hi (by simp [xZ, Nd.kids]))
theorem sndP : sndA (.mk 21 0 ⟨#[105, 46]⟩ noA [] 0) := sndA_mk (by unfold I64; decide) (by decide) (fun i hi => absurd hi (by simp [noA, Nd.lit, Ar.cells])) (fun i hi => absurd hi (by simp [Nd.kids]))
theorem sndL : sndA (litD (atomA 3)) := sndA_mk (by unfold I64; decide) (by decide) (fun i hi => by
  have h0 : i = 0 := by have : i < 1 := hi; omega
  subst h0
  unfold I64
  decide) (fun i hi => absurd hi (by simp [litD, Nd.kids]))
theorem sndB : sndA xB := sndA_mk (by unfold I64; decide) (by decide) (fun i hi => absurd hi (by simp [xB, noA, Nd.lit, Ar.cells])) (fun i hi => by
  have h2 : i < 2 := hi
  rcases (by omega : i = 0 ∨ i = 1) with rfl | rfl
  · exact sndP
  · exact sndL)
theorem leaf0 (w : World) : NdIn 1 1 0 w (.mk 21 0 ⟨#[105, 46]⟩ noA [] 0) (.agg #[.int .i64 21, .int .i64 0, .string ⟨#[105, 46]⟩, .slice none 0 0, .slice none 0 0, .slice none 0 0, .int .i64 0]) :=
  ⟨none, 0, none, 0, none, 0, rfl, noA_in 0 0 _, by decide, by decide, Or.inl rfl⟩
theorem row2 (w : World) : Row 0 (w.alloc (.cells #[.int .i64 1, .int .i64 (-2)] 2)) (some ⟨w.heap.size, 0, none⟩) [1, -2] := by
  refine ⟨by decide, Or.inr ⟨w.heap.size, 0, rfl, Nat.zero_le _, by simp, fun i hi => ?_⟩⟩
  have h2 : i < 2 := hi
  rcases (by omega : i = 0 ∨ i = 1) with rfl | rfl
  · exact cell_new0 w _ 2 0 _ rfl
  · exact cell_new0 w _ 2 1 _ rfl
set_option maxHeartbeats 8000000 in
theorem works7 {w : World} (T : Rn.Tab w) (P : Pw w) : Calls Tryz.prog 7 #[] w fun e w' => e = .returned (.bool true) ∧ Below w.heap.size w w' := by
  have HT : Hid (∀ W, Below w.heap.size w W → Rn.Tab W ∧ Pw W) := hide fun W hW => ⟨T.below hW T.1, Lib.tabBelow_of_tabIs P _ hW⟩
  have HA := hide (fun W => rnums_any (lo := 0) 0 [1, -2] (some ⟨w.heap.size, 0, none⟩) 2 W)
  have HR := hide (row2 w)
  have HB1 := hide (alloc_one w (.cells #[.int .i64 1, .int .i64 (-2)] 2))
  clear T P
  go_enter Tryz.func7, Tryz.ntmps7
  go_wp2_with fail
  refine (HA.out _ HR.out (by decide)).mono ?_
  rintro e w2 ⟨⟨v2, rfl, hx2⟩, hb2⟩
  have HB2 := hide (HB1.out.trans (hb2.mono HB1.out.size))
  have HX2 := hide hx2
  clear hx2 hb2 HA HR HB1
  go_wp2_with fail
  refine aplS17.mono ?_
  rintro e w3 ⟨a1, c1, d1, a2, c2, d2, a3, c3, d3, rfl, hb3⟩
  have HX3 := hide (HX2.out.next hb3)
  have HB3 := hide (HB2.out.trans (hb3.mono HB2.out.size))
  obtain ⟨GA, hGA⟩ : ∃ GA, aplS (.slice a1 c1 d1) (.slice a2 c2 d2) (.slice a3 c3 d3) = GA := ⟨_, rfl⟩
  have HL := hide (lit15 (G := GA) HX3.out (by decide) (fun i hi => by
    have h2 : i < 2 := hi
    rcases (by omega : i = 0 ∨ i = 1) with rfl | rfl <;> (unfold I64; decide)) (by rw [← hGA]; show ByteArray.size ⟨#[194, 175]⟩ ≤ _; decide) (by rw [← hGA]; show ByteArray.size ⟨#[39]⟩ ≤ _; decide) (HT.out _ HB3.out).1 (HT.out _ HB3.out).2)
  have hla := litA (.slice a1 c1 d1) (.slice a2 c2 d2) (.slice a3 c3 d3)
  rw [hGA] at hla ⊢
  have HLA : Hid (litE (numsA [1, -2]) = 0 ∧ litS GA (numsA [1, -2]) = [49, 32, 194, 175, 50]) := hide hla
  clear hGA hla hb3 HX2 HB2
  go_wp2_with fail
  refine HL.out.mono ?_
  rintro e w4 ⟨rfl, hb4⟩
  rw [HLA.out.1, HLA.out.2]
  have HB4 := hide (HB3.out.trans (hb4.mono HB3.out.size))
  clear hb4 HL HLA HX3 HB3
  go_wp2_with fail
  refine jS18.mono ?_
  rintro e w5 ⟨b1, e1, f1, b2, e2, f2, b3, e3, f3, rfl, hb5⟩
  have HB5 := hide (HB4.out.trans (hb5.mono HB4.out.size))
  clear hb5 HB4
  obtain ⟨GJ, hGJ⟩ : ∃ GJ, jS (.slice b1 e1 f1) (.slice b2 e2 f2) (.slice b3 e3 f3) = GJ := ⟨_, rfl⟩
  rw [hGJ]
  go_wp2_with fail
  refine (ratom_any 0 3 w5).mono ?_
  rintro e w6 ⟨⟨v6, rfl, hx6⟩, hb6⟩
  have HX6 := hide hx6
  have HB6 := hide (HB5.out.trans (hb6.mono HB5.out.size))
  clear hx6 hb6 HB5
  go_wp2_with fail
  refine (lit30 0 1 (atomA 3) v6 w6 (by
    have h := HX6.out
    exact h.mono (Nat.zero_le _) (Below.refl _ _))).mono ?_
  rintro e w7 ⟨⟨v7, rfl, hx7⟩, hb7⟩
  have HB7 := hide (HB6.out.trans (hb7.mono HB6.out.size))
  have HX7 := hide hx7
  obtain ⟨la1, lc1, la2, lc2, lak, lck, hv, -⟩ := hx7
  change v7 = .agg #[.int .i64 1, .int .i64 0, .string ⟨#[]⟩, .slice la1 0 lc1, .slice la2 1 lc2, .slice lak 0 lck, .int .i64 0] at hv
  subst hv
  have hb8 := alloc_one w7 (.cells #[.int .i64 21, .int .i64 0, .string ⟨#[105, 46]⟩, .slice none 0 0, .slice none 0 0, .slice none 0 0, .int .i64 0, .int .i64 1, .int .i64 0, .string ⟨#[]⟩, .slice la1 0 lc1, .slice la2 1 lc2, .slice lak 0 lck, .int .i64 0] 42)
  have HN : Hid (NdIn 2 1 0 (w7.alloc (.cells #[.int .i64 21, .int .i64 0, .string ⟨#[105, 46]⟩, .slice none 0 0, .slice none 0 0, .slice none 0 0, .int .i64 0, .int .i64 1, .int .i64 0, .string ⟨#[]⟩, .slice la1 0 lc1, .slice la2 1 lc2, .slice lak 0 lck, .int .i64 0] 42)) xB (.agg #[.int .i64 5, .int .i64 0, .string ⟨#[]⟩, .slice none 0 0, .slice none 0 0, .slice (some ⟨w7.heap.size, 0, none⟩) 2 2, .int .i64 0])) := hide (by
    refine ⟨none, 0, none, 0, some ⟨w7.heap.size, 0, none⟩, 2, rfl, noA_in 0 0 _, by decide, by decide, Or.inr ⟨w7.heap.size, 0, rfl, Nat.zero_le _, by simp, fun j hj => ?_⟩⟩
    have h2 : j < 2 := hj
    rcases (by omega : j = 0 ∨ j = 1) with rfl | rfl
    · refine ⟨none, 0, none, 0, none, 0, ⟨?_, ?_, ?_, ?_, ?_, ?_, ?_⟩, leaf0 _⟩
      · exact cell_new0 w7 #[.int .i64 21, .int .i64 0, .string ⟨#[105, 46]⟩, .slice none 0 0, .slice none 0 0, .slice none 0 0, .int .i64 0, .int .i64 1, .int .i64 0, .string ⟨#[]⟩, .slice la1 0 lc1, .slice la2 1 lc2, .slice lak 0 lck, .int .i64 0] 42 0 _ rfl
      · exact cell_new0 w7 #[.int .i64 21, .int .i64 0, .string ⟨#[105, 46]⟩, .slice none 0 0, .slice none 0 0, .slice none 0 0, .int .i64 0, .int .i64 1, .int .i64 0, .string ⟨#[]⟩, .slice la1 0 lc1, .slice la2 1 lc2, .slice lak 0 lck, .int .i64 0] 42 1 _ rfl
      · exact cell_new0 w7 #[.int .i64 21, .int .i64 0, .string ⟨#[105, 46]⟩, .slice none 0 0, .slice none 0 0, .slice none 0 0, .int .i64 0, .int .i64 1, .int .i64 0, .string ⟨#[]⟩, .slice la1 0 lc1, .slice la2 1 lc2, .slice lak 0 lck, .int .i64 0] 42 2 _ rfl
      · exact cell_new0 w7 #[.int .i64 21, .int .i64 0, .string ⟨#[105, 46]⟩, .slice none 0 0, .slice none 0 0, .slice none 0 0, .int .i64 0, .int .i64 1, .int .i64 0, .string ⟨#[]⟩, .slice la1 0 lc1, .slice la2 1 lc2, .slice lak 0 lck, .int .i64 0] 42 3 _ rfl
      · exact cell_new0 w7 #[.int .i64 21, .int .i64 0, .string ⟨#[105, 46]⟩, .slice none 0 0, .slice none 0 0, .slice none 0 0, .int .i64 0, .int .i64 1, .int .i64 0, .string ⟨#[]⟩, .slice la1 0 lc1, .slice la2 1 lc2, .slice lak 0 lck, .int .i64 0] 42 4 _ rfl
      · exact cell_new0 w7 #[.int .i64 21, .int .i64 0, .string ⟨#[105, 46]⟩, .slice none 0 0, .slice none 0 0, .slice none 0 0, .int .i64 0, .int .i64 1, .int .i64 0, .string ⟨#[]⟩, .slice la1 0 lc1, .slice la2 1 lc2, .slice lak 0 lck, .int .i64 0] 42 5 _ rfl
      · exact cell_new0 w7 #[.int .i64 21, .int .i64 0, .string ⟨#[105, 46]⟩, .slice none 0 0, .slice none 0 0, .slice none 0 0, .int .i64 0, .int .i64 1, .int .i64 0, .string ⟨#[]⟩, .slice la1 0 lc1, .slice la2 1 lc2, .slice lak 0 lck, .int .i64 0] 42 6 _ rfl
    · refine ⟨la1, lc1, la2, lc2, lak, lck, ⟨?_, ?_, ?_, ?_, ?_, ?_, ?_⟩, HX7.out.next hb8⟩
      · exact cell_new0 w7 #[.int .i64 21, .int .i64 0, .string ⟨#[105, 46]⟩, .slice none 0 0, .slice none 0 0, .slice none 0 0, .int .i64 0, .int .i64 1, .int .i64 0, .string ⟨#[]⟩, .slice la1 0 lc1, .slice la2 1 lc2, .slice lak 0 lck, .int .i64 0] 42 7 _ rfl
      · exact cell_new0 w7 #[.int .i64 21, .int .i64 0, .string ⟨#[105, 46]⟩, .slice none 0 0, .slice none 0 0, .slice none 0 0, .int .i64 0, .int .i64 1, .int .i64 0, .string ⟨#[]⟩, .slice la1 0 lc1, .slice la2 1 lc2, .slice lak 0 lck, .int .i64 0] 42 8 _ rfl
      · exact cell_new0 w7 #[.int .i64 21, .int .i64 0, .string ⟨#[105, 46]⟩, .slice none 0 0, .slice none 0 0, .slice none 0 0, .int .i64 0, .int .i64 1, .int .i64 0, .string ⟨#[]⟩, .slice la1 0 lc1, .slice la2 1 lc2, .slice lak 0 lck, .int .i64 0] 42 9 _ rfl
      · exact cell_new0 w7 #[.int .i64 21, .int .i64 0, .string ⟨#[105, 46]⟩, .slice none 0 0, .slice none 0 0, .slice none 0 0, .int .i64 0, .int .i64 1, .int .i64 0, .string ⟨#[]⟩, .slice la1 0 lc1, .slice la2 1 lc2, .slice lak 0 lck, .int .i64 0] 42 10 _ rfl
      · exact cell_new0 w7 #[.int .i64 21, .int .i64 0, .string ⟨#[105, 46]⟩, .slice none 0 0, .slice none 0 0, .slice none 0 0, .int .i64 0, .int .i64 1, .int .i64 0, .string ⟨#[]⟩, .slice la1 0 lc1, .slice la2 1 lc2, .slice lak 0 lck, .int .i64 0] 42 11 _ rfl
      · exact cell_new0 w7 #[.int .i64 21, .int .i64 0, .string ⟨#[105, 46]⟩, .slice none 0 0, .slice none 0 0, .slice none 0 0, .int .i64 0, .int .i64 1, .int .i64 0, .string ⟨#[]⟩, .slice la1 0 lc1, .slice la2 1 lc2, .slice lak 0 lck, .int .i64 0] 42 12 _ rfl
      · exact cell_new0 w7 #[.int .i64 21, .int .i64 0, .string ⟨#[105, 46]⟩, .slice none 0 0, .slice none 0 0, .slice none 0 0, .int .i64 0, .int .i64 1, .int .i64 0, .string ⟨#[]⟩, .slice la1 0 lc1, .slice la2 1 lc2, .slice lak 0 lck, .int .i64 0] 42 13 _ rfl)
  have HB8 := hide (HB7.out.trans (hb8.mono HB7.out.size))
  have hwa := wrA (.slice b1 e1 f1) (.slice b2 e2 f2) (.slice b3 e3 f3)
  have HW := hide (write11 (G := GJ) HN.out sndB (HT.out _ HB8.out).1 (HT.out _ HB8.out).2 (by rw [← hGJ]; show ByteArray.size ⟨#[95]⟩ ≤ _; decide) (by rw [← hGJ]; show ByteArray.size ⟨#[39]⟩ ≤ _; decide) (fun _ => by rw [← hGJ, hwa.2]; decide) (by rw [← hGJ]; exact ⟨_, _, _, rfl⟩) (by rw [← hGJ]; exact ⟨_, _, _, rfl⟩) (by rw [← hGJ]; exact ⟨_, _, _, rfl⟩))
  rw [hGJ] at hwa
  have HWA : Hid (wrS GJ 2 xB = [105, 46, 32, 51] ∧ wrE GJ 2 xB = 0) := hide (by
    unfold wrS wrE
    rw [hwa.1]
    exact ⟨hwa.2, rfl⟩)
  clear hb7 HX7 hb8 hwa hGJ HN HX6 HB6 HB7
  go_wp2_with fail
  refine HW.out.mono ?_
  rintro e w9 ⟨rfl, hb9⟩
  rw [HWA.out.1, HWA.out.2]
  have HB9 := hide (HB8.out.trans (hb9.mono HB8.out.size))
  clear hb9 HW HWA HB8
  go_wp2_with fail
  refine kS21.mono ?_
  rintro e w10 ⟨g1, h1, i1, g2, h2, i2, g3, h3, i3, rfl, hb10⟩
  have HB10 := hide (HB9.out.trans (hb10.mono HB9.out.size))
  clear hb10 HB9
  obtain ⟨GK, hGK⟩ : ∃ GK, kS (.slice g1 h1 i1) (.slice g2 h2 i2) (.slice g3 h3 i3) = GK := ⟨_, rfl⟩
  rw [hGK]
  have hwz := wrZ (.slice g1 h1 i1) (.slice g2 h2 i2) (.slice g3 h3 i3)
  rw [hGK] at hwz
  have HZI : Hid (NdIn 1 1 0 w10 xZ (.agg #[.int .i64 0, .int .i64 0, .string ⟨#[]⟩, .slice none 0 0, .slice none 0 0, .slice none 0 0, .int .i64 0])) := hide ⟨none, 0, none, 0, none, 0, rfl, noA_in 0 0 _, by decide, by decide, Or.inl rfl⟩
  have HW := hide (write11 (G := GK) HZI.out sndZ (HT.out _ HB10.out).1 (HT.out _ HB10.out).2 (by rw [← hGK]; show ByteArray.size ⟨#[45]⟩ ≤ _; decide) (by rw [← hGK]; show ByteArray.size ⟨#[34]⟩ ≤ _; decide) (fun h => by rw [hwz] at h; cases h) (by rw [← hGK]; exact ⟨_, _, _, rfl⟩) (by rw [← hGK]; exact ⟨_, _, _, rfl⟩) (by rw [← hGK]; exact ⟨_, _, _, rfl⟩))
  have HWA : Hid (wrS GK 1 xZ = [] ∧ wrE GK 1 xZ = 1) := hide (by
    unfold wrS wrE
    rw [hwz]
    exact ⟨rfl, rfl⟩)
  clear hGK hwz HZI
  go_wp2_with fail
  refine HW.out.mono ?_
  rintro e w11 ⟨rfl, hb11⟩
  rw [HWA.out.1, HWA.out.2]
  have HB11 := hide (HB10.out.trans (hb11.mono HB10.out.size))
  have HN := hide (num5 (-5) ⟨#[95]⟩ (by decide) (by decide) (by decide) w11 (HT.out _ HB11.out).2)
  clear hb11 HW HWA HB10
  change _ at HN
  have hs1 : str [49, 32, 194, 175, 50] = ⟨#[49, 32, 194, 175, 50]⟩ := rfl
  have hs2 : str [105, 46, 32, 51] = ⟨#[105, 46, 32, 51]⟩ := rfl
  rw [hs1, hs2]
  clear hs1 hs2
  go_wp2_with fail
  refine HN.out.mono ?_
  rintro e w12 ⟨rfl, hb12⟩
  rw [numM]
  have HB12 := hide (HB11.out.trans (hb12.mono HB11.out.size))
  clear hb12 HN HB11
  go_wp2
  go_ret
  exact ⟨rfl, HB12.out⟩
end Go.Proofs.YtneblkdkhlgmcaaGreatDoor
namespace Go.Proofs.YtneblkdkhlgmcaaGreatDoor
open Go.ChangeShapes Go.WideShapes Go.ChangeAt Go.RowKit
set_option linter.unusedVariables false
set_option maxRecDepth 100000
theorem cells2' : Tryz.prog.cellsOf 2 = 1 := by kernel_rfl
theorem cells43' : Tryz.prog.cellsOf 86 = 1 := by kernel_rfl
theorem cellsL : Tryz.prog.cellsOf 166 = 4 := by kernel_rfl
theorem cellsP : Tryz.prog.cellsOf 159 = 20 := by kernel_rfl
theorem gLeast : Tryz.prog.globalNamed "triglyph/runes.leasts" = some 1 := by kernel_rfl
theorem gPow : Tryz.prog.globalNamed "internal/strconv.uint64pow10" = some 0 := by kernel_rfl
theorem tLeast : (Tryz.prog.globals[1]?).map (·.type) = some 166 := by kernel_rfl
theorem tPow : (Tryz.prog.globals[0]?).map (·.type) = some 159 := by kernel_rfl
theorem var_lt {W : World} {n : String} {g : Nat} {cs : Array Value} (hg : Tryz.prog.globalNamed n = some g) (h : W.var? Tryz.prog n = some cs) : g < W.heap.size := by
  unfold World.var? at h
  simp only [hg, Option.bind_some] at h
  rcases Nat.lt_or_ge g W.heap.size with h' | h'
  · exact h'
  · simp [Array.getElem?_eq_none h'] at h
structure Glb (w : World) : Prop where
  tab : Rn.Tab w
  pw : Pw w
theorem glb_of {W : World} (h : laidMetH Tryz.prog Rows.spellLiteralsRow.laid W) : Glb W := by
  obtain ⟨ps, ⟨-, -, -, -, -, -, -, -, -, -, ⟨-, -, -, -, -, -, -, -, -, -, ⟨g3, t3, cs3, f3, p3, q3, hg3, ht3, hv3, hd3, ⟨g4, t4, cs4, f4, p4, q4, hg4, ht4, hv4, hd4, -, -⟩, -⟩, -⟩, -⟩, -⟩ := h
  obtain rfl := Option.some.inj (gPow.symm.trans hg3)
  obtain rfl := Option.some.inj (gLeast.symm.trans hg4)
  obtain rfl := Option.some.inj (tPow.symm.trans ht3)
  obtain rfl := Option.some.inj (tLeast.symm.trans ht4)
  have hc4 := Lib.cells_of_tab (zs := [0, 128, 2048, 65536]) Tryz.underlying166 Tryz.underlying2 cells2' cellsL hd4
  have hc3 := Lib.cells_of_tab (zs := Lib.pow10Tab) Tryz.underlying159 Tryz.underlying86 cells43' cellsP hd3
  refine ⟨⟨var_lt gLeast hv4, fun k hk => ?_⟩, ?_⟩
  · have := World.var?_cell gLeast hv4 k
    rw [this]
    have e : cs4.toList[k]? = some (.int .i64 (Rn.least k)) := by
      rw [hc4]
      rcases (by omega : k = 0 ∨ k = 1 ∨ k = 2 ∨ k = 3) with rfl | rfl | rfl | rfl <;> rfl
    simpa using e
  · show Lib.TabIs _ _ _ _ _
    unfold Lib.TabIs
    rw [hv3, ← hc3]

/-- A world for the witness: the settled one, each listed variable as its text lays it. -/
noncomputable def laidWorld (os : Os) : World := World.laidAll Tryz.prog os Rows.spellLiteralsRow.laid
theorem bounds_i64 {n : Int} (h : (Lit.int .i64 n).wf = true) : -9223372036854775808 ≤ n ∧ n ≤ 9223372036854775807 := by
  simp only [Lit.wf, Bool.and_eq_true, decide_eq_true_eq] at h
  exact h
end Go.Proofs.YtneblkdkhlgmcaaGreatDoor
