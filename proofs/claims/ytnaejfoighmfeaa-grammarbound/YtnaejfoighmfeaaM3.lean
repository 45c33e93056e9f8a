/-
  The next word as an operand: the contract of word; for all words and grammars.
  The next word as an operand: the arguments' names; for all words and grammars.
  The next word as an operand: a name that is set; for all words and grammars.
  The next word as an operand: what is none; the contract of word; for all words and grammars.
-/
import Derived.Test.YtnaejfoighmfeaaM2
import Derived.Laws.BitsAllLaws
import Derived.Lib.Bits
import Derived.Test.YtnaejfoighmfeaaChecked
import GoSem.Claim
import GoSem.ClaimJoined
import GoSem.ClaimMapViews
import Derived.JoinedTies
import Derived.KernelRfl
import Derived.WalkKit
import Derived.ProofKit
import Derived.Below
import Derived.Deep.QuietTactic
import Derived.BigQuiet
import Derived.Lib.SlBytesConst
import Derived.Laws.BytesArg
import Derived.Laws.MakeOwn
import Derived.Deep.RegionHeld3
import Derived.Laws.AppendOwnNone
import Derived.BigFrame
import Derived.OpenShut
import Derived.ChangeOld
import Derived.SizedLaws
import Derived.Deep.DeepHandedRow
import Derived.Lib.LaidTab
import Derived.Deep.OwnRows
import Derived.Deep.RegionWith
import Derived.Deep.Slices
import Derived.Deep.Strs
import Derived.Deep.LoopGhost
import Derived.Lib.ConvBytes
import Derived.Deep.RegionLaw
import Derived.Deep.CutRange
import Derived.Lib.SliceRun
import Derived.WalkLawsBesides
import Derived.Maps.AppendAt
import Derived.Deep.MidRow
import Derived.Defers
import Derived.Recover
import Derived.Deep.Cut
import Derived.ChangeMaps5
namespace Go.Proofs.Ytnaejfoighmfeaa
open Go.ChangeShapes Go.WideShapes Go.ChangeAt Go.RowKit
set_option maxRecDepth 100000
set_option linter.unusedVariables false
set_option linter.unusedSimpArgs false
/-- Which arguments a text names, in a block behind the reader's. -/
structure Nq (w : World) (p q : Nat) (nm : Nm) : Prop where
  lt : q < w.heap.size
  hp : p < q
  c0 : w.cell? ⟨q, 0, none⟩ = some (.bool nm.1)
  c1 : w.cell? ⟨q, 1, none⟩ = some (.bool nm.2)
  f0 : w.frozen? ⟨q, 0, none⟩ = false
  f1 : w.frozen? ⟨q, 1, none⟩ = false
theorem Nq.keep {w w' : World} {p q : Nat} {nm : Nm} (h : Nq w p q nm) (hb : Below (q + 1) w w') : Nq w' p q nm :=
  ⟨Nat.lt_of_lt_of_le h.lt hb.size, h.hp, (hb.cell (p := ⟨q, 0, none⟩) (Nat.lt_succ_self q)).trans h.c0, (hb.cell (p := ⟨q, 1, none⟩) (Nat.lt_succ_self q)).trans h.c1, (hb.frozen (p := ⟨q, 0, none⟩) (Nat.lt_succ_self q)).trans h.f0, (hb.frozen (p := ⟨q, 1, none⟩) (Nat.lt_succ_self q)).trans h.f1⟩
theorem Nq.next {w w' : World} {p q : Nat} {nm : Nm} (h : Nq w p q nm) (hb : Below w.heap.size w w') : Nq w' p q nm := h.keep (hb.mono h.lt)
/-- A pointer to them, or none. -/
def namV (inn : Bool) (q : Nat) : Value := match inn with
  | true => .pointer (some ⟨q, 0, none⟩)
  | false => .pointer none
def TT (inn : Bool) (p q : Nat) (k : Nat) : Prop := k = p ∨ inn = true ∧ k = q
/-- What a reader of an operand of one word promises. -/
def GvW (n : Nat) (w0 w : World) (p q : Nat) (g : Gr) (R : Raw) (ws : List Wo) (A : Ra) (i : Nat) (e : Int) (inn : Bool) (nm : Nm) (res : Rs (Nd × Nm)) (en : Ending) (w' : World) : Prop :=
  But (TT inn p q) w w' ∧ match res with
  | .ok r => ∃ v m, en = .returned v ∧ Rd (n + 1) w0 w' p g R ws A i e ∧ Tr (n + 1) w0.heap.size m w.heap.size w'.heap.size w' r.1 v ∧ (inn = true → Nq w' p q (orN nm r.2))
  | .bad er pl => en = faultP er pl
  | .stuck => True
set_option maxHeartbeats 4000000 in
theorem word_end {n : Nat} {w0 w : World} {p q : Nat} {g : Gr} {R : Raw} {ws : List Wo} {A : Ra} {i : Nat} {e : Int} (h : Rd (n + 1) w0 w p g R ws A i e) (inn : Bool) (nm : Nm) (hn : inn = true → Nq w p q nm) (hi : ¬ i < ws.length) :
    Calls Try.prog 85 #[.pointer (some ⟨p, 0, none⟩), namV inn q] w fun en w' => GvW n w0 w p q g R ws A i e inn nm (wordS g e inn (ws.drop i)) en w' := by
  have hw : wordS g e inn (ws.drop i) = .bad 2 e := by rw [drop_end hi]; rfl
  have hile := h.hi
  obtain ⟨W1, e1⟩ : ∃ W1, w.alloc (.cells #[.int .i64 0, .int .i64 0, .string ⟨#[]⟩, .slice none 0 0, .slice none 0 0, .slice none 0 0, .int .i64 0] 39) = W1 := ⟨_, rfl⟩
  have b1 : Below w.heap.size w W1 := by rw [← e1]; exact one_alloc _ _
  have h1 := h.next b1
  have HC := hide (fun m => refuse22 (h1.next (drewN_below (Below.refl W1.heap.size W1) m)) 2)
  rw [place_end hi] at HC
  have HB := hide (fun m => b1.trans ((drewN_below (Below.refl W1.heap.size W1) m).mono b1.size))
  have c14 := h1.sp.sn.c14
  have c19 := h1.c19
  have hL := h1.sp.sn.words
  obtain rfl : i = ws.length := by omega
  have HE := hide e1
  clear h h1 e1 b1 hn
  generalize hNV : namV inn q = NV
  unfold GvW
  rw [hw]
  generalize ws.length = L at *
  generalize R.aw = aw at *
  generalize R.cw = cw at *
  go_enter Try.func85, Try.ntmps85
  go_upto_region 1 with fail
  rw [HE.out]
  go_quiet (fail)
  go_wp2_with fail
  refine (HC.out _).mono ?_
  rintro en w1 ⟨rfl, hb⟩
  go_wp2
  exact ⟨rfl, But.of ((HB.out _).trans (hb.mono (HB.out _).size)), rfl⟩
theorem butS {T : Nat → Prop} {w X : World} {b o : Nat} {u : Value} (h : But T w X) (ht : T b) : But T w (X.setCell ⟨b, o, none⟩ u) :=
  h.trans (⟨rfl, rfl, rfl, by simp, fun k _ hn => Below.heap_setCell _ _ _ _ hn⟩ : But (· = b) X (X.setCell ⟨b, o, none⟩ u)) fun j _ hj => hj ▸ ht
theorem cs_same {w : World} {b o : Nat} {u v : Value} (h : w.cell? ⟨b, o, none⟩ = some v) : (w.setCell ⟨b, o, none⟩ u).cell? ⟨b, o, none⟩ = some u := World.cell?_setCell_same' _ _ _ (by rw [h]; rfl)
theorem cs_off {w : World} {b b' o o' : Nat} {u v : Value} (hn : ¬ (b' = b ∧ o' = o)) (h : w.cell? ⟨b', o', none⟩ = some v) : (w.setCell ⟨b, o, none⟩ u).cell? ⟨b', o', none⟩ = some v := by
  rw [World.cell?_setCell_other _ _ _ _ (by simp only [ne_eq, Addr.mk.injEq, not_and]; intro h1 h2; exact fun _ => hn ⟨h1.symm, h2.symm⟩)]; exact h
theorem fs_any {w : World} {a c : Addr} {u : Value} (h : w.frozen? a = false) : (w.setCell c u).frozen? a = false := frozen_set _ _ _ _ h
/-- Two blocks of the call's own are written, and nothing else. -/
def Two2 (w : World) (k : Nat) : Prop := k = w.heap.size + 1 + 1 ∨ k = w.heap.size
theorem two_r (w : World) : Two2 w w.heap.size := Or.inr rfl
theorem two_n (w : World) : Two2 w (w.heap.size + 1 + 1) := Or.inl rfl
theorem two_below {w W4 w5 wf : World} (h4 : Below w.heap.size w W4) (h5 : Below W4.heap.size W4 w5) (hf : But (Two2 w) w5 wf) : Below w.heap.size w wf :=
  (h4.trans (h5.mono h4.size)).trans (hf.below (Nat.le_trans h4.size h5.size) fun k hk => by rcases hk with rfl | rfl <;> omega)
/-- A value that was made ahead of them stays. -/
theorem LitS.two {n B hi : Nat} {w W4 w5 wf : World} {x : Ar} {v : Value} (h : LitS n B W4.heap.size w5.heap.size w5 x v) (hB : B ≤ w.heap.size) (s4 : W4.heap.size = w.heap.size + 3) (h5 : W4.heap.size ≤ w5.heap.size) (hf : But (Two2 w) w5 wf) (hh : w5.heap.size ≤ hi) : LitS n B w.heap.size hi wf x v := fun W hW =>
  h W ⟨(hf.below (by omega) fun k hk => by rcases hk with rfl | rfl <;> omega).trans hW.1, fun k h1 h2 => (hW.2 k (by omega) (by omega)).trans (hf.block h2 fun hk => by rcases hk with rfl | rfl <;> omega)⟩
set_option maxHeartbeats 8000000 in
theorem word_num {n : Nat} {w0 w : World} {p q : Nat} {g : Gr} {R : Raw} {ws : List Wo} {A : Ra} {i : Nat} {e : Int} (h : Rd (n + 1) w0 w p g R ws A i e) (inn : Bool) (nm : Nm) (hn : inn = true → Nq w p q nm) (hi : i < ws.length) (hk : (wAt ws i).kind = 1) :
    Calls Try.prog 85 #[.pointer (some ⟨p, 0, none⟩), namV inn q] w fun en w' => GvW n w0 w p q g R ws A i e inn nm (wordS g e inn (ws.drop i)) en w' := by
  have hw : wordS g e inn (ws.drop i) = .ok (.mk 1 0 nost (wAt ws i).lit [] (wAt ws i).pos, false, false) := by rw [drop_at hi]; simp [wordS, hk]
  have hile := h.hi
  obtain ⟨W1, e1⟩ : ∃ W1, w.alloc (.cells #[.int .i64 0, .int .i64 0, .string ⟨#[]⟩, .slice none 0 0, .slice none 0 0, .slice none 0 0, .int .i64 0] 39) = W1 := ⟨_, rfl⟩
  have b1 : Below w.heap.size w W1 := by rw [← e1]; exact one_alloc _ _
  have s1 : W1.heap.size = w.heap.size + 1 := by rw [← e1]; simp
  have h1 := h.next b1
  have c14 := h1.sp.sn.c14
  have c19 := h1.c19
  have hL := h1.sp.sn.words
  have hpw := h1.sp.sn.hp2
  obtain ⟨b, off, z1, m1, z2, m2, ha, hb0, g0, g1, g2, g3, g4, gb, g5⟩ := h.sp.sn.wo.2 i hi
  rw [ha] at c14
  have hne : ((i : Int) == (ws.length : Int)) = false := by simp; omega
  have hne2 : ¬ (i : Int) = (ws.length : Int) := by omega
  have ho1 := h1.sp.sn.old
  have KS : Hid (∀ W, Below W1.heap.size W1 W → Below W1.heap.size W1 W ∧ W.cell? ⟨p, 14, none⟩ = some (.slice (some ⟨b, off, none⟩) ws.length R.cw) ∧ W.cell? ⟨p, 19, none⟩ = some (.int .i64 (i : Int)) ∧ W.cell? ⟨b, off + i * 5, none⟩ = some (.int .i64 (wAt ws i).kind) ∧ W.cell? ⟨b, off + i * 5 + 1, none⟩ = some (.string (wAt ws i).text) ∧ W.cell? ⟨b, off + i * 5 + 2, none⟩ = some (.slice z1 (wAt ws i).lit.shape.length m1) ∧ W.cell? ⟨b, off + i * 5 + 3, none⟩ = some (.slice z2 (wAt ws i).lit.cells.length m2) ∧ W.cell? ⟨b, off + i * 5 + 4, none⟩ = some (.int .i64 (wAt ws i).pos)) := fun W hW =>
    have hw := ho1.trans (hW.mono ho1.size)
    ⟨hW, (hW.cell (p := ⟨p, 14, none⟩) hpw).trans c14, (hW.cell (p := ⟨p, 19, none⟩) hpw).trans c19, (hw.cell (p := ⟨b, _, none⟩) hb0).trans g0, (hw.cell (p := ⟨b, _, none⟩) hb0).trans g1, (hw.cell (p := ⟨b, _, none⟩) hb0).trans g2, (hw.cell (p := ⟨b, _, none⟩) hb0).trans g3, (hw.cell (p := ⟨b, _, none⟩) hb0).trans g4⟩
  have HRES : Hid (∀ W, Below W1.heap.size W1 W → (∀ o, o < 7 → ∃ v, W.cell? ⟨w.heap.size, o, none⟩ = some v) ∧ ∀ o, W.frozen? ⟨w.heap.size, o, none⟩ = false) := fun W hW => by
    have hl : w.heap.size < W1.heap.size := by omega
    refine ⟨fun o ho => ?_, fun o => (hW.frozen (p := ⟨w.heap.size, o, none⟩) hl).trans (by rw [← e1]; exact frozen_new _ _ _ _)⟩
    have hcc : ∃ v, W1.cell? ⟨w.heap.size, o, none⟩ = some v := by
      rw [← e1]
      have : o = 0 ∨ o = 1 ∨ o = 2 ∨ o = 3 ∨ o = 4 ∨ o = 5 ∨ o = 6 := by omega
      rcases this with rfl | rfl | rfl | rfl | rfl | rfl | rfl <;> exact ⟨_, cell_new0 w _ 39 _ _ rfl⟩
    obtain ⟨v, hv⟩ := hcc
    exact ⟨v, (hW.cell (p := ⟨w.heap.size, o, none⟩) hl).trans hv⟩
  have HE := hide e1
  have HG5 := hide g5
  have HGB := hide gb
  have HH := hide h
  have HB1 := hide b1
  have HNN := hide hn
  generalize hNV : namV inn q = NV
  clear hNV
  unfold GvW
  rw [hw]
  obtain ⟨LT, hLT⟩ : ∃ LT, (wAt ws i).lit = LT := ⟨_, rfl⟩
  rw [hLT] at KS HG5 HGB
  try rw [hLT]
  generalize (wAt ws i).text = TX at *
  generalize (wAt ws i).pos = PS at *
  generalize (wAt ws i).kind = KI at *
  subst hk
  clear h h1 e1 b1 hn g0 g1 g2 g3 g4 g5 hLT c14 c19 ho1 gb
  generalize ws.length = L at *
  generalize R.cw = cw at *
  go_enter Try.func85, Try.ntmps85
  go_upto_region 1 with fail
  rw [HE.out]
  obtain ⟨-, k14, k19, -⟩ := KS.out W1 (Below.refl _ _)
  go_quiet (fail)
  go_upto_region 3 with fail
  obtain ⟨wq, hwq⟩ : ∃ wq, W1.drewN nq = wq := ⟨_, rfl⟩
  have bq : Below W1.heap.size W1 wq := by rw [← hwq]; exact drewN_below (Below.refl W1.heap.size W1) _
  have sq : wq.heap.size = w.heap.size + 1 := by rw [← hwq]; exact s1
  have HBQ := hide bq
  have HDQ : Hid (Below W1.heap.size W1 wq.drew) := bq.drew
  rw [hwq]
  clear hwq k14 k19
  obtain ⟨-, k14, k19, k0, k1, k2, k3, k4⟩ := KS.out wq bq
  go_region_held3 (fun W => Below W1.heap.size W1 W ∧ W.cell? ⟨p, 14, none⟩ = some (.slice (some ⟨b, off, none⟩) L cw) ∧ W.cell? ⟨p, 19, none⟩ = some (.int .i64 (i : Int)) ∧ W.cell? ⟨b, off + i * 5, none⟩ = some (.int .i64 1) ∧ W.cell? ⟨b, off + i * 5 + 1, none⟩ = some (.string TX) ∧ W.cell? ⟨b, off + i * 5 + 2, none⟩ = some (.slice z1 LT.shape.length m1) ∧ W.cell? ⟨b, off + i * 5 + 3, none⟩ = some (.slice z2 LT.cells.length m2) ∧ W.cell? ⟨b, off + i * 5 + 4, none⟩ = some (.int .i64 PS)) (first | with_reducible exact KS.out _ HDQ.out | with_reducible exact KS.out _ (by with_reducible assumption) | with_reducible exact KS.out _ (HDQ.out.alloc HDQ.out.size _) | with_reducible exact KS.out _ (HBQ.out.alloc HBQ.out.size _) | with_reducible exact KS.out _ ((HBQ.out.alloc HBQ.out.size _).drew)) (fail)
  clear k14 k19 k0 k1 k2 k3 k4
  go_upto_region 8 with fail
  obtain ⟨W4, hW4⟩ : ∃ W4, ((wq.alloc (.cells #[.int .i64 1, .string TX, .slice z1 LT.shape.length m1, .slice z2 LT.cells.length m2, .int .i64 PS] 43)).alloc (.cells #[.int .i64 0, .int .i64 0, .string ⟨#[]⟩, .slice none 0 0, .slice none 0 0, .slice none 0 0, .int .i64 PS] 39)).drew = W4 := ⟨_, rfl⟩
  rw [hW4]
  have s4 : W4.heap.size = w.heap.size + 3 := by rw [← hW4]; show (((wq.alloc _).alloc _)).heap.size = _; simp [sq]
  have b4q : Below W1.heap.size W1 W4 := by rw [← hW4]; exact ((bq.alloc bq.size _).alloc (by simp; have := bq.size; omega) _).drew
  have b4 : Below w.heap.size w W4 := HB1.out.trans (b4q.mono HB1.out.size)
  have wc : ∀ o v, (#[.int .i64 1, .string TX, .slice z1 LT.shape.length m1, .slice z2 LT.cells.length m2, .int .i64 PS] : Array Value)[o]? = some v → W4.cell? ⟨w.heap.size + 1, o, none⟩ = some v := fun o v ho => by
    rw [← hW4, ← sq]
    exact cell_one (cell_new0 wq _ 43 o v ho) (by simp) _
  have nc : ∀ o v, (#[.int .i64 0, .int .i64 0, .string ⟨#[]⟩, .slice none 0 0, .slice none 0 0, .slice none 0 0, .int .i64 PS] : Array Value)[o]? = some v → W4.cell? ⟨w.heap.size + 1 + 1, o, none⟩ = some v := fun o v ho => by
    rw [← hW4]
    have := cell_new0 (wq.alloc (.cells #[.int .i64 1, .string TX, .slice z1 LT.shape.length m1, .slice z2 LT.cells.length m2, .int .i64 PS] 43)) #[.int .i64 0, .int .i64 0, .string ⟨#[]⟩, .slice none 0 0, .slice none 0 0, .slice none 0 0, .int .i64 PS] 39 o v ho
    have e9 : (wq.alloc (.cells #[.int .i64 1, .string TX, .slice z1 LT.shape.length m1, .slice z2 LT.cells.length m2, .int .i64 PS] 43)).heap.size = w.heap.size + 1 + 1 := by simp [sq]
    rw [e9] at this
    exact this
  have nf : ∀ o, W4.frozen? ⟨w.heap.size + 1 + 1, o, none⟩ = false := fun o => by
    rw [← hW4]
    have := frozen_new (wq.alloc (.cells #[.int .i64 1, .string TX, .slice z1 LT.shape.length m1, .slice z2 LT.cells.length m2, .int .i64 PS] 43)) #[.int .i64 0, .int .i64 0, .string ⟨#[]⟩, .slice none 0 0, .slice none 0 0, .slice none 0 0, .int .i64 PS] 39 o
    have e9 : (wq.alloc (.cells #[.int .i64 1, .string TX, .slice z1 LT.shape.length m1, .slice z2 LT.cells.length m2, .int .i64 PS] 43)).heap.size = w.heap.size + 1 + 1 := by simp [sq]
    rw [e9] at this
    exact this
  have HN : Hid (∀ W, Below W4.heap.size W4 W → (∀ o v, (#[.int .i64 0, .int .i64 0, .string ⟨#[]⟩, .slice none 0 0, .slice none 0 0, .slice none 0 0, .int .i64 PS] : Array Value)[o]? = some v → W.cell? ⟨w.heap.size + 1 + 1, o, none⟩ = some v) ∧ (∀ o, W.frozen? ⟨w.heap.size + 1 + 1, o, none⟩ = false) ∧ (∀ o, o < 7 → ∃ v, W.cell? ⟨w.heap.size, o, none⟩ = some v) ∧ ∀ o, W.frozen? ⟨w.heap.size, o, none⟩ = false) := fun W hW =>
    ⟨fun o v ho => (hW.cell (p := ⟨w.heap.size + 1 + 1, o, none⟩) (by show w.heap.size + 1 + 1 < _; omega)).trans (nc o v ho), fun o => (hW.frozen (p := ⟨w.heap.size + 1 + 1, o, none⟩) (by show w.heap.size + 1 + 1 < _; omega)).trans (nf o), HRES.out W (b4q.trans (hW.mono b4q.size))⟩
  have HB4 := hide b4
  have HS4 := hide s4
  clear HBQ HDQ hW4 nc nf bq sq b4 b4q s4 HRES KS
  have HO4 := hide (HH.out.sp.sn.old.trans (HB4.out.mono HH.out.sp.sn.old.size))
  have HC := hide (copied92 HG5.out HO4.out HGB.out.2.1 HGB.out.2.2)
  have w2 := wc 2 _ rfl
  have w3 := wc 3 _ rfl
  clear wc
  go_wp2_with fail
  refine HC.out.mono ?_
  rintro en w5 ⟨⟨d1, k1, d2, k2, rfl, hlit⟩, hb5⟩
  have HL5 := hide hlit
  have HB5 := hide hb5
  obtain ⟨xn, xf, xr, xg⟩ := HN.out _ hb5
  have x0 := xn 0 _ rfl
  have x1 := xn 1 _ rfl
  have x2 := xn 2 _ rfl
  have x3 := xn 3 _ rfl
  have x4 := xn 4 _ rfl
  have x5 := xn 5 _ rfl
  have x6 := xn 6 _ rfl
  have y0 := xf 0
  have y2 := xf 2
  have y3 := xf 3
  have y4 := xf 4
  obtain ⟨r0, R0⟩ := xr 0 (by omega)
  obtain ⟨r1, R1⟩ := xr 1 (by omega)
  obtain ⟨r2, R2⟩ := xr 2 (by omega)
  obtain ⟨r3, R3⟩ := xr 3 (by omega)
  obtain ⟨r4, R4⟩ := xr 4 (by omega)
  obtain ⟨r5, R5⟩ := xr 5 (by omega)
  obtain ⟨r6, R6⟩ := xr 6 (by omega)
  have G0 := xg 0
  have G1 := xg 1
  have G2 := xg 2
  have G3 := xg 3
  have G4 := xg 4
  have G5 := xg 5
  have G6 := xg 6
  clear xn xf xr xg HN
  clear hlit hb5 HC w2 w3
  have HFIN : Hid (∀ wf, But (Two2 w) w5 wf → But (TT inn p q) w wf ∧ ∃ v m, (Ending.returned (.agg #[.int .i64 1, .int .i64 0, .string ⟨#[]⟩, .slice d1 LT.shape.length k1, .slice d2 LT.cells.length k2, .slice none 0 0, .int .i64 PS]) : Ending) = .returned v ∧ Rd (n + 1) w0 wf p g R ws A i e ∧ Tr (n + 1) w0.heap.size m w.heap.size wf.heap.size wf (.mk 1 0 nost LT [] PS) v ∧ (inn = true → Nq wf p q (orN nm (false, false)))) := fun wf hf => by
    have hb := two_below HB4.out HB5.out hf
    refine ⟨But.of hb, _, 1, rfl, HH.out.next hb, ⟨d1, k1, d2, k2, none, 0, rfl, (HL5.out.two HH.out.sp.sn.old.size HS4.out HB5.out.size hf hf.size).d, by simp [Nd.kids], Nat.zero_le _, Or.inl rfl⟩, fun hin => ?_⟩
    have := (HNN.out hin).next hb
    cases nm with | mk l r => simpa [orN] using this
  clear HL5 HB5 HB4 HS4 HH HNN HO4 HG5 HGB
  generalize LT.shape.length = L1 at *
  generalize LT.cells.length = L2 at *
  go_upto_region 15 with fail
  obtain ⟨w7, hw7⟩ : ∃ w7, (((w5.setCell ⟨w.heap.size + 1 + 1, 0, none⟩ (.int .i64 1)).setCell ⟨w.heap.size + 1 + 1, 3, none⟩ (.slice d1 L1 k1)).setCell ⟨w.heap.size + 1 + 1, 4, none⟩ (.slice d2 L2 k2)) = w7 := ⟨_, rfl⟩
  rw [hw7]
  have v0 : w7.cell? ⟨w.heap.size + 1 + 1, 0, none⟩ = some (.int .i64 1) := by rw [← hw7]; exact cs_off (by omega) (cs_off (by omega) (cs_same (x0)))
  have v1 : w7.cell? ⟨w.heap.size + 1 + 1, 1, none⟩ = some (.int .i64 0) := by rw [← hw7]; exact cs_off (by omega) (cs_off (by omega) (cs_off (by omega) (x1)))
  have v2 : w7.cell? ⟨w.heap.size + 1 + 1, 2, none⟩ = some (.string ⟨#[]⟩) := by rw [← hw7]; exact cs_off (by omega) (cs_off (by omega) (cs_off (by omega) (x2)))
  have v3 : w7.cell? ⟨w.heap.size + 1 + 1, 3, none⟩ = some (.slice d1 L1 k1) := by rw [← hw7]; exact cs_off (by omega) (cs_same (cs_off (by omega) (x3)))
  have v4 : w7.cell? ⟨w.heap.size + 1 + 1, 4, none⟩ = some (.slice d2 L2 k2) := by rw [← hw7]; exact cs_same (cs_off (by omega) (cs_off (by omega) (x4)))
  have v5 : w7.cell? ⟨w.heap.size + 1 + 1, 5, none⟩ = some (.slice none 0 0) := by rw [← hw7]; exact cs_off (by omega) (cs_off (by omega) (cs_off (by omega) (x5)))
  have v6 : w7.cell? ⟨w.heap.size + 1 + 1, 6, none⟩ = some (.int .i64 PS) := by rw [← hw7]; exact cs_off (by omega) (cs_off (by omega) (cs_off (by omega) (x6)))
  have Q0 : w7.cell? ⟨w.heap.size, 0, none⟩ = some r0 := by rw [← hw7]; exact cs_off (by omega) (cs_off (by omega) (cs_off (by omega) R0))
  have F0 : w7.frozen? ⟨w.heap.size, 0, none⟩ = false := by rw [← hw7]; exact fs_any (fs_any (fs_any G0))
  have Q1 : w7.cell? ⟨w.heap.size, 1, none⟩ = some r1 := by rw [← hw7]; exact cs_off (by omega) (cs_off (by omega) (cs_off (by omega) R1))
  have F1 : w7.frozen? ⟨w.heap.size, 1, none⟩ = false := by rw [← hw7]; exact fs_any (fs_any (fs_any G1))
  have Q2 : w7.cell? ⟨w.heap.size, 2, none⟩ = some r2 := by rw [← hw7]; exact cs_off (by omega) (cs_off (by omega) (cs_off (by omega) R2))
  have F2 : w7.frozen? ⟨w.heap.size, 2, none⟩ = false := by rw [← hw7]; exact fs_any (fs_any (fs_any G2))
  have Q3 : w7.cell? ⟨w.heap.size, 3, none⟩ = some r3 := by rw [← hw7]; exact cs_off (by omega) (cs_off (by omega) (cs_off (by omega) R3))
  have F3 : w7.frozen? ⟨w.heap.size, 3, none⟩ = false := by rw [← hw7]; exact fs_any (fs_any (fs_any G3))
  have Q4 : w7.cell? ⟨w.heap.size, 4, none⟩ = some r4 := by rw [← hw7]; exact cs_off (by omega) (cs_off (by omega) (cs_off (by omega) R4))
  have F4 : w7.frozen? ⟨w.heap.size, 4, none⟩ = false := by rw [← hw7]; exact fs_any (fs_any (fs_any G4))
  have Q5 : w7.cell? ⟨w.heap.size, 5, none⟩ = some r5 := by rw [← hw7]; exact cs_off (by omega) (cs_off (by omega) (cs_off (by omega) R5))
  have F5 : w7.frozen? ⟨w.heap.size, 5, none⟩ = false := by rw [← hw7]; exact fs_any (fs_any (fs_any G5))
  have Q6 : w7.cell? ⟨w.heap.size, 6, none⟩ = some r6 := by rw [← hw7]; exact cs_off (by omega) (cs_off (by omega) (cs_off (by omega) R6))
  have F6 : w7.frozen? ⟨w.heap.size, 6, none⟩ = false := by rw [← hw7]; exact fs_any (fs_any (fs_any G6))
  have HB7 := hide (show But (Two2 w) w5 w7 by rw [← hw7]; exact butS (butS (butS (But.refl _ _) (Or.inl rfl)) (Or.inl rfl)) (Or.inl rfl))
  clear hw7 x0 x1 x2 x3 x4 x5 x6 y0 y2 y3 y4 R0 R1 R2 R3 R4 R5 R6 G0 G1 G2 G3 G4 G5 G6
  go_wp2
  refine bodyPost_ret (v := .agg #[.int .i64 1, .int .i64 0, .string ⟨#[]⟩, .slice d1 L1 k1, .slice d2 L2 k2, .slice none 0 0, .int .i64 PS]) (by simp [results, Try.results85, go_sem, Q0, Q1, Q2, Q3, Q4, Q5, Q6]) rfl (HFIN.out _ ?_)
  repeat' first | with_reducible exact HB7.out | with_reducible exact two_r w | with_reducible refine butS ?_ ?_
set_option maxHeartbeats 8000000 in
theorem word_text {n : Nat} {w0 w : World} {p q : Nat} {g : Gr} {R : Raw} {ws : List Wo} {A : Ra} {i : Nat} {e : Int} (h : Rd (n + 1) w0 w p g R ws A i e) (inn : Bool) (nm : Nm) (hn : inn = true → Nq w p q nm) (hi : i < ws.length) (hk : (wAt ws i).kind = 2) :
    Calls Try.prog 85 #[.pointer (some ⟨p, 0, none⟩), namV inn q] w fun en w' => GvW n w0 w p q g R ws A i e inn nm (wordS g e inn (ws.drop i)) en w' := by
  have hw : wordS g e inn (ws.drop i) = .ok (.mk 1 0 nost (wAt ws i).lit [] (wAt ws i).pos, false, false) := by rw [drop_at hi]; simp [wordS, hk]
  have hile := h.hi
  obtain ⟨W1, e1⟩ : ∃ W1, w.alloc (.cells #[.int .i64 0, .int .i64 0, .string ⟨#[]⟩, .slice none 0 0, .slice none 0 0, .slice none 0 0, .int .i64 0] 39) = W1 := ⟨_, rfl⟩
  have b1 : Below w.heap.size w W1 := by rw [← e1]; exact one_alloc _ _
  have s1 : W1.heap.size = w.heap.size + 1 := by rw [← e1]; simp
  have h1 := h.next b1
  have c14 := h1.sp.sn.c14
  have c19 := h1.c19
  have hL := h1.sp.sn.words
  have hpw := h1.sp.sn.hp2
  obtain ⟨b, off, z1, m1, z2, m2, ha, hb0, g0, g1, g2, g3, g4, gb, g5⟩ := h.sp.sn.wo.2 i hi
  rw [ha] at c14
  have hne : ((i : Int) == (ws.length : Int)) = false := by simp; omega
  have hne2 : ¬ (i : Int) = (ws.length : Int) := by omega
  have ho1 := h1.sp.sn.old
  have KS : Hid (∀ W, Below W1.heap.size W1 W → Below W1.heap.size W1 W ∧ W.cell? ⟨p, 14, none⟩ = some (.slice (some ⟨b, off, none⟩) ws.length R.cw) ∧ W.cell? ⟨p, 19, none⟩ = some (.int .i64 (i : Int)) ∧ W.cell? ⟨b, off + i * 5, none⟩ = some (.int .i64 (wAt ws i).kind) ∧ W.cell? ⟨b, off + i * 5 + 1, none⟩ = some (.string (wAt ws i).text) ∧ W.cell? ⟨b, off + i * 5 + 2, none⟩ = some (.slice z1 (wAt ws i).lit.shape.length m1) ∧ W.cell? ⟨b, off + i * 5 + 3, none⟩ = some (.slice z2 (wAt ws i).lit.cells.length m2) ∧ W.cell? ⟨b, off + i * 5 + 4, none⟩ = some (.int .i64 (wAt ws i).pos)) := fun W hW =>
    have hw := ho1.trans (hW.mono ho1.size)
    ⟨hW, (hW.cell (p := ⟨p, 14, none⟩) hpw).trans c14, (hW.cell (p := ⟨p, 19, none⟩) hpw).trans c19, (hw.cell (p := ⟨b, _, none⟩) hb0).trans g0, (hw.cell (p := ⟨b, _, none⟩) hb0).trans g1, (hw.cell (p := ⟨b, _, none⟩) hb0).trans g2, (hw.cell (p := ⟨b, _, none⟩) hb0).trans g3, (hw.cell (p := ⟨b, _, none⟩) hb0).trans g4⟩
  have HRES : Hid (∀ W, Below W1.heap.size W1 W → (∀ o, o < 7 → ∃ v, W.cell? ⟨w.heap.size, o, none⟩ = some v) ∧ ∀ o, W.frozen? ⟨w.heap.size, o, none⟩ = false) := fun W hW => by
    have hl : w.heap.size < W1.heap.size := by omega
    refine ⟨fun o ho => ?_, fun o => (hW.frozen (p := ⟨w.heap.size, o, none⟩) hl).trans (by rw [← e1]; exact frozen_new _ _ _ _)⟩
    have hcc : ∃ v, W1.cell? ⟨w.heap.size, o, none⟩ = some v := by
      rw [← e1]
      have : o = 0 ∨ o = 1 ∨ o = 2 ∨ o = 3 ∨ o = 4 ∨ o = 5 ∨ o = 6 := by omega
      rcases this with rfl | rfl | rfl | rfl | rfl | rfl | rfl <;> exact ⟨_, cell_new0 w _ 39 _ _ rfl⟩
    obtain ⟨v, hv⟩ := hcc
    exact ⟨v, (hW.cell (p := ⟨w.heap.size, o, none⟩) hl).trans hv⟩
  have HE := hide e1
  have HG5 := hide g5
  have HGB := hide gb
  have HH := hide h
  have HB1 := hide b1
  have HNN := hide hn
  generalize hNV : namV inn q = NV
  clear hNV
  unfold GvW
  rw [hw]
  obtain ⟨LT, hLT⟩ : ∃ LT, (wAt ws i).lit = LT := ⟨_, rfl⟩
  rw [hLT] at KS HG5 HGB
  try rw [hLT]
  generalize (wAt ws i).text = TX at *
  generalize (wAt ws i).pos = PS at *
  generalize (wAt ws i).kind = KI at *
  subst hk
  clear h h1 e1 b1 hn g0 g1 g2 g3 g4 g5 hLT c14 c19 ho1 gb
  generalize ws.length = L at *
  generalize R.cw = cw at *
  go_enter Try.func85, Try.ntmps85
  go_upto_region 1 with fail
  rw [HE.out]
  obtain ⟨-, k14, k19, -⟩ := KS.out W1 (Below.refl _ _)
  go_quiet (fail)
  go_upto_region 3 with fail
  obtain ⟨wq, hwq⟩ : ∃ wq, W1.drewN nq = wq := ⟨_, rfl⟩
  have bq : Below W1.heap.size W1 wq := by rw [← hwq]; exact drewN_below (Below.refl W1.heap.size W1) _
  have sq : wq.heap.size = w.heap.size + 1 := by rw [← hwq]; exact s1
  have HBQ := hide bq
  have HDQ : Hid (Below W1.heap.size W1 wq.drew) := bq.drew
  rw [hwq]
  clear hwq k14 k19
  obtain ⟨-, k14, k19, k0, k1, k2, k3, k4⟩ := KS.out wq bq
  go_region_held3 (fun W => Below W1.heap.size W1 W ∧ W.cell? ⟨p, 14, none⟩ = some (.slice (some ⟨b, off, none⟩) L cw) ∧ W.cell? ⟨p, 19, none⟩ = some (.int .i64 (i : Int)) ∧ W.cell? ⟨b, off + i * 5, none⟩ = some (.int .i64 2) ∧ W.cell? ⟨b, off + i * 5 + 1, none⟩ = some (.string TX) ∧ W.cell? ⟨b, off + i * 5 + 2, none⟩ = some (.slice z1 LT.shape.length m1) ∧ W.cell? ⟨b, off + i * 5 + 3, none⟩ = some (.slice z2 LT.cells.length m2) ∧ W.cell? ⟨b, off + i * 5 + 4, none⟩ = some (.int .i64 PS)) (first | with_reducible exact KS.out _ HDQ.out | with_reducible exact KS.out _ (by with_reducible assumption) | with_reducible exact KS.out _ (HDQ.out.alloc HDQ.out.size _) | with_reducible exact KS.out _ (HBQ.out.alloc HBQ.out.size _) | with_reducible exact KS.out _ ((HBQ.out.alloc HBQ.out.size _).drew)) (fail)
  clear k14 k19 k0 k1 k2 k3 k4
  go_upto_region 8 with fail
  obtain ⟨W4, hW4⟩ : ∃ W4, ((wq.alloc (.cells #[.int .i64 2, .string TX, .slice z1 LT.shape.length m1, .slice z2 LT.cells.length m2, .int .i64 PS] 43)).alloc (.cells #[.int .i64 0, .int .i64 0, .string ⟨#[]⟩, .slice none 0 0, .slice none 0 0, .slice none 0 0, .int .i64 PS] 39)).drew = W4 := ⟨_, rfl⟩
  rw [hW4]
  have s4 : W4.heap.size = w.heap.size + 3 := by rw [← hW4]; show (((wq.alloc _).alloc _)).heap.size = _; simp [sq]
  have b4q : Below W1.heap.size W1 W4 := by rw [← hW4]; exact ((bq.alloc bq.size _).alloc (by simp; have := bq.size; omega) _).drew
  have b4 : Below w.heap.size w W4 := HB1.out.trans (b4q.mono HB1.out.size)
  have wc : ∀ o v, (#[.int .i64 2, .string TX, .slice z1 LT.shape.length m1, .slice z2 LT.cells.length m2, .int .i64 PS] : Array Value)[o]? = some v → W4.cell? ⟨w.heap.size + 1, o, none⟩ = some v := fun o v ho => by
    rw [← hW4, ← sq]
    exact cell_one (cell_new0 wq _ 43 o v ho) (by simp) _
  have nc : ∀ o v, (#[.int .i64 0, .int .i64 0, .string ⟨#[]⟩, .slice none 0 0, .slice none 0 0, .slice none 0 0, .int .i64 PS] : Array Value)[o]? = some v → W4.cell? ⟨w.heap.size + 1 + 1, o, none⟩ = some v := fun o v ho => by
    rw [← hW4]
    have := cell_new0 (wq.alloc (.cells #[.int .i64 2, .string TX, .slice z1 LT.shape.length m1, .slice z2 LT.cells.length m2, .int .i64 PS] 43)) #[.int .i64 0, .int .i64 0, .string ⟨#[]⟩, .slice none 0 0, .slice none 0 0, .slice none 0 0, .int .i64 PS] 39 o v ho
    have e9 : (wq.alloc (.cells #[.int .i64 2, .string TX, .slice z1 LT.shape.length m1, .slice z2 LT.cells.length m2, .int .i64 PS] 43)).heap.size = w.heap.size + 1 + 1 := by simp [sq]
    rw [e9] at this
    exact this
  have nf : ∀ o, W4.frozen? ⟨w.heap.size + 1 + 1, o, none⟩ = false := fun o => by
    rw [← hW4]
    have := frozen_new (wq.alloc (.cells #[.int .i64 2, .string TX, .slice z1 LT.shape.length m1, .slice z2 LT.cells.length m2, .int .i64 PS] 43)) #[.int .i64 0, .int .i64 0, .string ⟨#[]⟩, .slice none 0 0, .slice none 0 0, .slice none 0 0, .int .i64 PS] 39 o
    have e9 : (wq.alloc (.cells #[.int .i64 2, .string TX, .slice z1 LT.shape.length m1, .slice z2 LT.cells.length m2, .int .i64 PS] 43)).heap.size = w.heap.size + 1 + 1 := by simp [sq]
    rw [e9] at this
    exact this
  have HN : Hid (∀ W, Below W4.heap.size W4 W → (∀ o v, (#[.int .i64 0, .int .i64 0, .string ⟨#[]⟩, .slice none 0 0, .slice none 0 0, .slice none 0 0, .int .i64 PS] : Array Value)[o]? = some v → W.cell? ⟨w.heap.size + 1 + 1, o, none⟩ = some v) ∧ (∀ o, W.frozen? ⟨w.heap.size + 1 + 1, o, none⟩ = false) ∧ (∀ o, o < 7 → ∃ v, W.cell? ⟨w.heap.size, o, none⟩ = some v) ∧ ∀ o, W.frozen? ⟨w.heap.size, o, none⟩ = false) := fun W hW =>
    ⟨fun o v ho => (hW.cell (p := ⟨w.heap.size + 1 + 1, o, none⟩) (by show w.heap.size + 1 + 1 < _; omega)).trans (nc o v ho), fun o => (hW.frozen (p := ⟨w.heap.size + 1 + 1, o, none⟩) (by show w.heap.size + 1 + 1 < _; omega)).trans (nf o), HRES.out W (b4q.trans (hW.mono b4q.size))⟩
  have HB4 := hide b4
  have HS4 := hide s4
  clear HBQ HDQ hW4 nc nf bq sq b4 b4q s4 HRES KS
  have HO4 := hide (HH.out.sp.sn.old.trans (HB4.out.mono HH.out.sp.sn.old.size))
  have HC := hide (copied92 HG5.out HO4.out HGB.out.2.1 HGB.out.2.2)
  have w2 := wc 2 _ rfl
  have w3 := wc 3 _ rfl
  clear wc
  go_wp2_with fail
  refine HC.out.mono ?_
  rintro en w5 ⟨⟨d1, k1, d2, k2, rfl, hlit⟩, hb5⟩
  have HL5 := hide hlit
  have HB5 := hide hb5
  obtain ⟨xn, xf, xr, xg⟩ := HN.out _ hb5
  have x0 := xn 0 _ rfl
  have x1 := xn 1 _ rfl
  have x2 := xn 2 _ rfl
  have x3 := xn 3 _ rfl
  have x4 := xn 4 _ rfl
  have x5 := xn 5 _ rfl
  have x6 := xn 6 _ rfl
  have y0 := xf 0
  have y2 := xf 2
  have y3 := xf 3
  have y4 := xf 4
  obtain ⟨r0, R0⟩ := xr 0 (by omega)
  obtain ⟨r1, R1⟩ := xr 1 (by omega)
  obtain ⟨r2, R2⟩ := xr 2 (by omega)
  obtain ⟨r3, R3⟩ := xr 3 (by omega)
  obtain ⟨r4, R4⟩ := xr 4 (by omega)
  obtain ⟨r5, R5⟩ := xr 5 (by omega)
  obtain ⟨r6, R6⟩ := xr 6 (by omega)
  have G0 := xg 0
  have G1 := xg 1
  have G2 := xg 2
  have G3 := xg 3
  have G4 := xg 4
  have G5 := xg 5
  have G6 := xg 6
  clear xn xf xr xg HN
  clear hlit hb5 HC w2 w3
  have HFIN : Hid (∀ wf, But (Two2 w) w5 wf → But (TT inn p q) w wf ∧ ∃ v m, (Ending.returned (.agg #[.int .i64 1, .int .i64 0, .string ⟨#[]⟩, .slice d1 LT.shape.length k1, .slice d2 LT.cells.length k2, .slice none 0 0, .int .i64 PS]) : Ending) = .returned v ∧ Rd (n + 1) w0 wf p g R ws A i e ∧ Tr (n + 1) w0.heap.size m w.heap.size wf.heap.size wf (.mk 1 0 nost LT [] PS) v ∧ (inn = true → Nq wf p q (orN nm (false, false)))) := fun wf hf => by
    have hb := two_below HB4.out HB5.out hf
    refine ⟨But.of hb, _, 1, rfl, HH.out.next hb, ⟨d1, k1, d2, k2, none, 0, rfl, (HL5.out.two HH.out.sp.sn.old.size HS4.out HB5.out.size hf hf.size).d, by simp [Nd.kids], Nat.zero_le _, Or.inl rfl⟩, fun hin => ?_⟩
    have := (HNN.out hin).next hb
    cases nm with | mk l r => simpa [orN] using this
  clear HL5 HB5 HB4 HS4 HH HNN HO4 HG5 HGB
  generalize LT.shape.length = L1 at *
  generalize LT.cells.length = L2 at *
  go_upto_region 15 with fail
  obtain ⟨w7, hw7⟩ : ∃ w7, (((w5.setCell ⟨w.heap.size + 1 + 1, 0, none⟩ (.int .i64 1)).setCell ⟨w.heap.size + 1 + 1, 3, none⟩ (.slice d1 L1 k1)).setCell ⟨w.heap.size + 1 + 1, 4, none⟩ (.slice d2 L2 k2)) = w7 := ⟨_, rfl⟩
  rw [hw7]
  have v0 : w7.cell? ⟨w.heap.size + 1 + 1, 0, none⟩ = some (.int .i64 1) := by rw [← hw7]; exact cs_off (by omega) (cs_off (by omega) (cs_same (x0)))
  have v1 : w7.cell? ⟨w.heap.size + 1 + 1, 1, none⟩ = some (.int .i64 0) := by rw [← hw7]; exact cs_off (by omega) (cs_off (by omega) (cs_off (by omega) (x1)))
  have v2 : w7.cell? ⟨w.heap.size + 1 + 1, 2, none⟩ = some (.string ⟨#[]⟩) := by rw [← hw7]; exact cs_off (by omega) (cs_off (by omega) (cs_off (by omega) (x2)))
  have v3 : w7.cell? ⟨w.heap.size + 1 + 1, 3, none⟩ = some (.slice d1 L1 k1) := by rw [← hw7]; exact cs_off (by omega) (cs_same (cs_off (by omega) (x3)))
  have v4 : w7.cell? ⟨w.heap.size + 1 + 1, 4, none⟩ = some (.slice d2 L2 k2) := by rw [← hw7]; exact cs_same (cs_off (by omega) (cs_off (by omega) (x4)))
  have v5 : w7.cell? ⟨w.heap.size + 1 + 1, 5, none⟩ = some (.slice none 0 0) := by rw [← hw7]; exact cs_off (by omega) (cs_off (by omega) (cs_off (by omega) (x5)))
  have v6 : w7.cell? ⟨w.heap.size + 1 + 1, 6, none⟩ = some (.int .i64 PS) := by rw [← hw7]; exact cs_off (by omega) (cs_off (by omega) (cs_off (by omega) (x6)))
  have Q0 : w7.cell? ⟨w.heap.size, 0, none⟩ = some r0 := by rw [← hw7]; exact cs_off (by omega) (cs_off (by omega) (cs_off (by omega) R0))
  have F0 : w7.frozen? ⟨w.heap.size, 0, none⟩ = false := by rw [← hw7]; exact fs_any (fs_any (fs_any G0))
  have Q1 : w7.cell? ⟨w.heap.size, 1, none⟩ = some r1 := by rw [← hw7]; exact cs_off (by omega) (cs_off (by omega) (cs_off (by omega) R1))
  have F1 : w7.frozen? ⟨w.heap.size, 1, none⟩ = false := by rw [← hw7]; exact fs_any (fs_any (fs_any G1))
  have Q2 : w7.cell? ⟨w.heap.size, 2, none⟩ = some r2 := by rw [← hw7]; exact cs_off (by omega) (cs_off (by omega) (cs_off (by omega) R2))
  have F2 : w7.frozen? ⟨w.heap.size, 2, none⟩ = false := by rw [← hw7]; exact fs_any (fs_any (fs_any G2))
  have Q3 : w7.cell? ⟨w.heap.size, 3, none⟩ = some r3 := by rw [← hw7]; exact cs_off (by omega) (cs_off (by omega) (cs_off (by omega) R3))
  have F3 : w7.frozen? ⟨w.heap.size, 3, none⟩ = false := by rw [← hw7]; exact fs_any (fs_any (fs_any G3))
  have Q4 : w7.cell? ⟨w.heap.size, 4, none⟩ = some r4 := by rw [← hw7]; exact cs_off (by omega) (cs_off (by omega) (cs_off (by omega) R4))
  have F4 : w7.frozen? ⟨w.heap.size, 4, none⟩ = false := by rw [← hw7]; exact fs_any (fs_any (fs_any G4))
  have Q5 : w7.cell? ⟨w.heap.size, 5, none⟩ = some r5 := by rw [← hw7]; exact cs_off (by omega) (cs_off (by omega) (cs_off (by omega) R5))
  have F5 : w7.frozen? ⟨w.heap.size, 5, none⟩ = false := by rw [← hw7]; exact fs_any (fs_any (fs_any G5))
  have Q6 : w7.cell? ⟨w.heap.size, 6, none⟩ = some r6 := by rw [← hw7]; exact cs_off (by omega) (cs_off (by omega) (cs_off (by omega) R6))
  have F6 : w7.frozen? ⟨w.heap.size, 6, none⟩ = false := by rw [← hw7]; exact fs_any (fs_any (fs_any G6))
  have HB7 := hide (show But (Two2 w) w5 w7 by rw [← hw7]; exact butS (butS (butS (But.refl _ _) (Or.inl rfl)) (Or.inl rfl)) (Or.inl rfl))
  clear hw7 x0 x1 x2 x3 x4 x5 x6 y0 y2 y3 y4 R0 R1 R2 R3 R4 R5 R6 G0 G1 G2 G3 G4 G5 G6
  go_wp2
  refine bodyPost_ret (v := .agg #[.int .i64 1, .int .i64 0, .string ⟨#[]⟩, .slice d1 L1 k1, .slice d2 L2 k2, .slice none 0 0, .int .i64 PS]) (by simp [results, Try.results85, go_sem, Q0, Q1, Q2, Q3, Q4, Q5, Q6]) rfl (HFIN.out _ ?_)
  repeat' first | with_reducible exact HB7.out | with_reducible exact two_r w | with_reducible refine butS ?_ ?_
end Go.Proofs.Ytnaejfoighmfeaa
namespace Go.Proofs.Ytnaejfoighmfeaa
open Go.ChangeShapes Go.WideShapes Go.ChangeAt Go.RowKit
set_option maxRecDepth 100000
set_option linter.unusedVariables false
set_option linter.unusedSimpArgs false
theorem pack_in {X : Prop} {P : Value → Prop} {Rr : Prop} {T : Value → Nat → Prop} {N : Prop} (h : X ∧ ∃ v m, P v ∧ Rr ∧ T v m ∧ N) : X ∧ ∃ v m, P v ∧ Rr ∧ T v m ∧ (True → N) := by
  obtain ⟨a, v, m, b, c, d, f⟩ := h
  exact ⟨a, v, m, b, c, d, fun _ => f⟩
set_option maxHeartbeats 8000000 in
theorem word_left {n : Nat} {w0 w : World} {p q : Nat} {g : Gr} {R : Raw} {ws : List Wo} {A : Ra} {i : Nat} {e : Int} (h : Rd (n + 1) w0 w p g R ws A i e) (nm : Nm) (hn : true = true → Nq w p q nm) (hi : i < ws.length) (hk : isT 3 g.left [wAt ws i] = true) :
    Calls Try.prog 85 #[.pointer (some ⟨p, 0, none⟩), namV true q] w fun en w' => GvW n w0 w p q g R ws A i e true nm (wordS g e true (ws.drop i)) en w' := by
  have hk3 : (wAt ws i).kind = 3 := by simp only [isT, Bool.and_eq_true, decide_eq_true_eq] at hk; exact hk.1
  have hw : wordS g e true (ws.drop i) = .ok (node 3 0 nost [] (wAt ws i).pos, true, false) := by rw [drop_at hi]; simp [wordS, hk, hk3]
  have hT9 : isT 3 g.left (ws.drop i) = true := by rw [drop_at hi]; exact hk
  clear hk
  have hile := h.hi
  obtain ⟨W1, e1⟩ : ∃ W1, w.alloc (.cells #[.int .i64 0, .int .i64 0, .string ⟨#[]⟩, .slice none 0 0, .slice none 0 0, .slice none 0 0, .int .i64 0] 39) = W1 := ⟨_, rfl⟩
  have b1 : Below w.heap.size w W1 := by rw [← e1]; exact one_alloc _ _
  have s1 : W1.heap.size = w.heap.size + 1 := by rw [← e1]; simp
  have h1 := h.next b1
  have c14 := h1.sp.sn.c14
  have c19 := h1.c19
  have hL := h1.sp.sn.words
  have hpw := h1.sp.sn.hp2
  obtain ⟨b, off, z1, m1, z2, m2, ha, hb0, g0, g1, g2, g3, g4, gb, g5⟩ := h.sp.sn.wo.2 i hi
  rw [ha] at c14
  have hne : ((i : Int) == (ws.length : Int)) = false := by simp; omega
  have hne2 : ¬ (i : Int) = (ws.length : Int) := by omega
  have ho1 := h1.sp.sn.old
  have KS : Hid (∀ W, Below W1.heap.size W1 W → Below W1.heap.size W1 W ∧ W.cell? ⟨p, 14, none⟩ = some (.slice (some ⟨b, off, none⟩) ws.length R.cw) ∧ W.cell? ⟨p, 19, none⟩ = some (.int .i64 (i : Int)) ∧ W.cell? ⟨b, off + i * 5, none⟩ = some (.int .i64 (wAt ws i).kind) ∧ W.cell? ⟨b, off + i * 5 + 1, none⟩ = some (.string (wAt ws i).text) ∧ W.cell? ⟨b, off + i * 5 + 2, none⟩ = some (.slice z1 (wAt ws i).lit.shape.length m1) ∧ W.cell? ⟨b, off + i * 5 + 3, none⟩ = some (.slice z2 (wAt ws i).lit.cells.length m2) ∧ W.cell? ⟨b, off + i * 5 + 4, none⟩ = some (.int .i64 (wAt ws i).pos)) := fun W hW =>
    have hw := ho1.trans (hW.mono ho1.size)
    ⟨hW, (hW.cell (p := ⟨p, 14, none⟩) hpw).trans c14, (hW.cell (p := ⟨p, 19, none⟩) hpw).trans c19, (hw.cell (p := ⟨b, _, none⟩) hb0).trans g0, (hw.cell (p := ⟨b, _, none⟩) hb0).trans g1, (hw.cell (p := ⟨b, _, none⟩) hb0).trans g2, (hw.cell (p := ⟨b, _, none⟩) hb0).trans g3, (hw.cell (p := ⟨b, _, none⟩) hb0).trans g4⟩
  have HRES : Hid (∀ W, Below W1.heap.size W1 W → (∀ o, o < 7 → ∃ v, W.cell? ⟨w.heap.size, o, none⟩ = some v) ∧ ∀ o, W.frozen? ⟨w.heap.size, o, none⟩ = false) := fun W hW => by
    have hl : w.heap.size < W1.heap.size := by omega
    refine ⟨fun o ho => ?_, fun o => (hW.frozen (p := ⟨w.heap.size, o, none⟩) hl).trans (by rw [← e1]; exact frozen_new _ _ _ _)⟩
    have hcc : ∃ v, W1.cell? ⟨w.heap.size, o, none⟩ = some v := by
      rw [← e1]
      have : o = 0 ∨ o = 1 ∨ o = 2 ∨ o = 3 ∨ o = 4 ∨ o = 5 ∨ o = 6 := by omega
      rcases this with rfl | rfl | rfl | rfl | rfl | rfl | rfl <;> exact ⟨_, cell_new0 w _ 39 _ _ rfl⟩
    obtain ⟨v, hv⟩ := hcc
    exact ⟨v, (hW.cell (p := ⟨w.heap.size, o, none⟩) hl).trans hv⟩
  have HE := hide e1
  have HG5 := hide g5
  have HGB := hide gb
  have HH := hide h
  have HB1 := hide b1
  have HNN := hide hn
  have hNV : namV true q = .pointer (some ⟨q, 0, none⟩) := rfl
  rw [hNV]
  clear hNV
  unfold GvW
  rw [hw]
  obtain ⟨LT, hLT⟩ : ∃ LT, (wAt ws i).lit = LT := ⟨_, rfl⟩
  rw [hLT] at KS HG5 HGB
  try rw [hLT]
  generalize (wAt ws i).text = TX at *
  generalize (wAt ws i).pos = PS at *
  generalize (wAt ws i).kind = KI at *
  subst hk3
  clear h h1 e1 b1 hn g0 g1 g2 g3 g4 g5 hLT c14 c19 ho1 gb
  obtain ⟨L, hLL⟩ : ∃ L, ws.length = L := ⟨_, rfl⟩
  rw [hLL] at KS hne hne2 hile hL hi
  have HLL := hide hLL
  clear hLL
  generalize R.cw = cw at *
  go_enter Try.func85, Try.ntmps85
  go_upto_region 1 with fail
  rw [HE.out]
  obtain ⟨-, k14, k19, -⟩ := KS.out W1 (Below.refl _ _)
  go_quiet (fail)
  go_upto_region 3 with fail
  obtain ⟨wq, hwq⟩ : ∃ wq, W1.drewN nq = wq := ⟨_, rfl⟩
  have bq : Below W1.heap.size W1 wq := by rw [← hwq]; exact drewN_below (Below.refl W1.heap.size W1) _
  have sq : wq.heap.size = w.heap.size + 1 := by rw [← hwq]; exact s1
  have HBQ := hide bq
  have HDQ : Hid (Below W1.heap.size W1 wq.drew) := bq.drew
  rw [hwq]
  clear hwq k14 k19
  obtain ⟨-, k14, k19, k0, k1, k2, k3, k4⟩ := KS.out wq bq
  go_region_held3 (fun W => Below W1.heap.size W1 W ∧ W.cell? ⟨p, 14, none⟩ = some (.slice (some ⟨b, off, none⟩) L cw) ∧ W.cell? ⟨p, 19, none⟩ = some (.int .i64 (i : Int)) ∧ W.cell? ⟨b, off + i * 5, none⟩ = some (.int .i64 3) ∧ W.cell? ⟨b, off + i * 5 + 1, none⟩ = some (.string TX) ∧ W.cell? ⟨b, off + i * 5 + 2, none⟩ = some (.slice z1 LT.shape.length m1) ∧ W.cell? ⟨b, off + i * 5 + 3, none⟩ = some (.slice z2 LT.cells.length m2) ∧ W.cell? ⟨b, off + i * 5 + 4, none⟩ = some (.int .i64 PS)) (first | with_reducible exact KS.out _ HDQ.out | with_reducible exact KS.out _ (by with_reducible assumption) | with_reducible exact KS.out _ (HDQ.out.alloc HDQ.out.size _) | with_reducible exact KS.out _ (HBQ.out.alloc HBQ.out.size _) | with_reducible exact KS.out _ ((HBQ.out.alloc HBQ.out.size _).drew)) (fail)
  clear k14 k19 k0 k1 k2 k3 k4
  go_upto_region 9 with fail
  obtain ⟨W4, hW4⟩ : ∃ W4, ((wq.alloc (.cells #[.int .i64 3, .string TX, .slice z1 LT.shape.length m1, .slice z2 LT.cells.length m2, .int .i64 PS] 43)).alloc (.cells #[.int .i64 0, .int .i64 0, .string ⟨#[]⟩, .slice none 0 0, .slice none 0 0, .slice none 0 0, .int .i64 PS] 39)).drew = W4 := ⟨_, rfl⟩
  rw [hW4]
  have s4 : W4.heap.size = w.heap.size + 3 := by rw [← hW4]; show (((wq.alloc _).alloc _)).heap.size = _; simp [sq]
  have b4q : Below W1.heap.size W1 W4 := by rw [← hW4]; exact ((bq.alloc bq.size _).alloc (by simp; have := bq.size; omega) _).drew
  have b4 : Below w.heap.size w W4 := HB1.out.trans (b4q.mono HB1.out.size)
  have wc : ∀ o v, (#[.int .i64 3, .string TX, .slice z1 LT.shape.length m1, .slice z2 LT.cells.length m2, .int .i64 PS] : Array Value)[o]? = some v → W4.cell? ⟨w.heap.size + 1, o, none⟩ = some v := fun o v ho => by
    rw [← hW4, ← sq]
    exact cell_one (cell_new0 wq _ 43 o v ho) (by simp) _
  have nc : ∀ o v, (#[.int .i64 0, .int .i64 0, .string ⟨#[]⟩, .slice none 0 0, .slice none 0 0, .slice none 0 0, .int .i64 PS] : Array Value)[o]? = some v → W4.cell? ⟨w.heap.size + 1 + 1, o, none⟩ = some v := fun o v ho => by
    rw [← hW4]
    have := cell_new0 (wq.alloc (.cells #[.int .i64 3, .string TX, .slice z1 LT.shape.length m1, .slice z2 LT.cells.length m2, .int .i64 PS] 43)) #[.int .i64 0, .int .i64 0, .string ⟨#[]⟩, .slice none 0 0, .slice none 0 0, .slice none 0 0, .int .i64 PS] 39 o v ho
    have e9 : (wq.alloc (.cells #[.int .i64 3, .string TX, .slice z1 LT.shape.length m1, .slice z2 LT.cells.length m2, .int .i64 PS] 43)).heap.size = w.heap.size + 1 + 1 := by simp [sq]
    rw [e9] at this
    exact this
  have nf : ∀ o, W4.frozen? ⟨w.heap.size + 1 + 1, o, none⟩ = false := fun o => by
    rw [← hW4]
    have := frozen_new (wq.alloc (.cells #[.int .i64 3, .string TX, .slice z1 LT.shape.length m1, .slice z2 LT.cells.length m2, .int .i64 PS] 43)) #[.int .i64 0, .int .i64 0, .string ⟨#[]⟩, .slice none 0 0, .slice none 0 0, .slice none 0 0, .int .i64 PS] 39 o
    have e9 : (wq.alloc (.cells #[.int .i64 3, .string TX, .slice z1 LT.shape.length m1, .slice z2 LT.cells.length m2, .int .i64 PS] 43)).heap.size = w.heap.size + 1 + 1 := by simp [sq]
    rw [e9] at this
    exact this
  have HN : Hid (∀ W, Below W4.heap.size W4 W → (∀ o v, (#[.int .i64 0, .int .i64 0, .string ⟨#[]⟩, .slice none 0 0, .slice none 0 0, .slice none 0 0, .int .i64 PS] : Array Value)[o]? = some v → W.cell? ⟨w.heap.size + 1 + 1, o, none⟩ = some v) ∧ (∀ o, W.frozen? ⟨w.heap.size + 1 + 1, o, none⟩ = false) ∧ (∀ o, o < 7 → ∃ v, W.cell? ⟨w.heap.size, o, none⟩ = some v) ∧ ∀ o, W.frozen? ⟨w.heap.size, o, none⟩ = false) := fun W hW =>
    ⟨fun o v ho => (hW.cell (p := ⟨w.heap.size + 1 + 1, o, none⟩) (by show w.heap.size + 1 + 1 < _; omega)).trans (nc o v ho), fun o => (hW.frozen (p := ⟨w.heap.size + 1 + 1, o, none⟩) (by show w.heap.size + 1 + 1 < _; omega)).trans (nf o), HRES.out W (b4q.trans (hW.mono b4q.size))⟩
  have HB4 := hide b4
  have HS4 := hide s4
  clear HBQ HDQ hW4 nc nf bq sq b4 b4q s4 HRES KS
  have HSN : Hid (∀ W, Below W4.heap.size W4 W → Sn (n + 1) w0 W p g R ws) := fun W hW => HH.out.sp.sn.next (HB4.out.trans (hW.mono HB4.out.size))
  have HRD : Hid (∀ W, Below W4.heap.size W4 W → Rd (n + 1) w0 W p g R ws A i e) := fun W hW => HH.out.next (HB4.out.trans (hW.mono HB4.out.size))
  have HDN : Hid (∀ m, Below W4.heap.size W4 (W4.drewN m)) := fun m => drewN_below (Below.refl W4.heap.size W4) m
  have c19n := fun m => (HRD.out _ (HDN.out m)).c19
  have c7n := fun m => (HSN.out _ (HDN.out m)).c7
  have c19 := (HRD.out _ (Below.refl _ _)).c19
  have c7 := (HSN.out _ (Below.refl _ _)).c7
  have H9 := hide (fun m => is69 (HSN.out _ (HDN.out m)) i 3 g.left (by omega))
  rw [hT9] at H9
  go_quiet ((go_at_call 69; first | exact Calls.quiet_of_same (H9.out 0) | exact Calls.quiet_of_same (H9.out _)))
  obtain ⟨w5, hw5⟩ : ∃ w5, W4.drewN nq = w5 := ⟨_, rfl⟩
  have b5 : Below W4.heap.size W4 w5 := by rw [← hw5]; exact HDN.out _
  have HB5 := hide b5
  go_upto_region 10 with fail
  rw [hw5]
  obtain ⟨xn, xf, xr, xg⟩ := HN.out _ b5
  have x0 := xn 0 _ rfl
  have x1 := xn 1 _ rfl
  have x2 := xn 2 _ rfl
  have x3 := xn 3 _ rfl
  have x4 := xn 4 _ rfl
  have x5 := xn 5 _ rfl
  have x6 := xn 6 _ rfl
  have y0 := xf 0
  have y2 := xf 2
  have y3 := xf 3
  have y4 := xf 4
  obtain ⟨r0, R0⟩ := xr 0 (by omega)
  obtain ⟨r1, R1⟩ := xr 1 (by omega)
  obtain ⟨r2, R2⟩ := xr 2 (by omega)
  obtain ⟨r3, R3⟩ := xr 3 (by omega)
  obtain ⟨r4, R4⟩ := xr 4 (by omega)
  obtain ⟨r5, R5⟩ := xr 5 (by omega)
  obtain ⟨r6, R6⟩ := xr 6 (by omega)
  have G0 := xg 0
  have G1 := xg 1
  have G2 := xg 2
  have G3 := xg 3
  have G4 := xg 4
  have G5 := xg 5
  have G6 := xg 6
  clear xn xf xr xg HN
  have hbw5 : Below w.heap.size w w5 := HB4.out.trans (b5.mono HB4.out.size)
  obtain ⟨ql, qp, qc0, qc1, qf0, qf1⟩ := (HNN.out rfl).next hbw5
  have qlt := (HNN.out rfl).lt
  clear b5 hw5 H9 HSN HRD HDN c19n c7n c19 c7 wc
  go_upto_region 15 with fail
  obtain ⟨w7, hw7⟩ : ∃ w7, ((w5.setCell ⟨w.heap.size + 1 + 1, 0, none⟩ (.int .i64 3)).setCell ⟨q, 0, none⟩ (.bool true)) = w7 := ⟨_, rfl⟩
  rw [hw7]
  have v0 : w7.cell? ⟨w.heap.size + 1 + 1, 0, none⟩ = some (.int .i64 3) := by rw [← hw7]; exact cs_off (by omega) (cs_same x0)
  have v1 : w7.cell? ⟨w.heap.size + 1 + 1, 1, none⟩ = some (.int .i64 0) := by rw [← hw7]; exact cs_off (by omega) (cs_off (by omega) x1)
  have v2 : w7.cell? ⟨w.heap.size + 1 + 1, 2, none⟩ = some (.string ⟨#[]⟩) := by rw [← hw7]; exact cs_off (by omega) (cs_off (by omega) x2)
  have v3 : w7.cell? ⟨w.heap.size + 1 + 1, 3, none⟩ = some (.slice none 0 0) := by rw [← hw7]; exact cs_off (by omega) (cs_off (by omega) x3)
  have v4 : w7.cell? ⟨w.heap.size + 1 + 1, 4, none⟩ = some (.slice none 0 0) := by rw [← hw7]; exact cs_off (by omega) (cs_off (by omega) x4)
  have v5 : w7.cell? ⟨w.heap.size + 1 + 1, 5, none⟩ = some (.slice none 0 0) := by rw [← hw7]; exact cs_off (by omega) (cs_off (by omega) x5)
  have v6 : w7.cell? ⟨w.heap.size + 1 + 1, 6, none⟩ = some (.int .i64 PS) := by rw [← hw7]; exact cs_off (by omega) (cs_off (by omega) x6)
  have Q0 : w7.cell? ⟨w.heap.size, 0, none⟩ = some r0 := by rw [← hw7]; exact cs_off (by omega) (cs_off (by omega) R0)
  have F0 : w7.frozen? ⟨w.heap.size, 0, none⟩ = false := by rw [← hw7]; exact fs_any (fs_any G0)
  have Q1 : w7.cell? ⟨w.heap.size, 1, none⟩ = some r1 := by rw [← hw7]; exact cs_off (by omega) (cs_off (by omega) R1)
  have F1 : w7.frozen? ⟨w.heap.size, 1, none⟩ = false := by rw [← hw7]; exact fs_any (fs_any G1)
  have Q2 : w7.cell? ⟨w.heap.size, 2, none⟩ = some r2 := by rw [← hw7]; exact cs_off (by omega) (cs_off (by omega) R2)
  have F2 : w7.frozen? ⟨w.heap.size, 2, none⟩ = false := by rw [← hw7]; exact fs_any (fs_any G2)
  have Q3 : w7.cell? ⟨w.heap.size, 3, none⟩ = some r3 := by rw [← hw7]; exact cs_off (by omega) (cs_off (by omega) R3)
  have F3 : w7.frozen? ⟨w.heap.size, 3, none⟩ = false := by rw [← hw7]; exact fs_any (fs_any G3)
  have Q4 : w7.cell? ⟨w.heap.size, 4, none⟩ = some r4 := by rw [← hw7]; exact cs_off (by omega) (cs_off (by omega) R4)
  have F4 : w7.frozen? ⟨w.heap.size, 4, none⟩ = false := by rw [← hw7]; exact fs_any (fs_any G4)
  have Q5 : w7.cell? ⟨w.heap.size, 5, none⟩ = some r5 := by rw [← hw7]; exact cs_off (by omega) (cs_off (by omega) R5)
  have F5 : w7.frozen? ⟨w.heap.size, 5, none⟩ = false := by rw [← hw7]; exact fs_any (fs_any G5)
  have Q6 : w7.cell? ⟨w.heap.size, 6, none⟩ = some r6 := by rw [← hw7]; exact cs_off (by omega) (cs_off (by omega) R6)
  have F6 : w7.frozen? ⟨w.heap.size, 6, none⟩ = false := by rw [← hw7]; exact fs_any (fs_any G6)
  have HB7 := hide (show But (fun k => Two2 w k ∨ k = q) w5 w7 by rw [← hw7]; exact butS (butS (But.refl _ _) (Or.inl (two_n w))) (Or.inr rfl))
  have HQ7 := hide (show Nq w7 p q (orN nm (true, false)) by
    rw [← hw7]
    refine ⟨by simpa using ql, qp, ?_, ?_, fs_any (fs_any qf0), fs_any (fs_any qf1)⟩
    · rw [show (orN nm (true, false)).1 = true by simp [orN]]; exact cs_same (cs_off (by omega) qc0)
    · rw [show (orN nm (true, false)).2 = nm.2 by simp [orN]]; exact cs_off (by omega) (cs_off (by omega) qc1))
  have HBW5 := hide hbw5
  clear hw7 x0 x1 x2 x3 x4 x5 x6 y0 y2 y3 y4 R0 R1 R2 R3 R4 R5 R6 G0 G1 G2 G3 G4 G5 G6 ql qc0 qc1 qf0 qf1 hbw5
  have HFIN : Hid (∀ wf, But (Two2 w) w7 wf → But (TT true p q) w wf ∧ ∃ v m, (Ending.returned (.agg #[.int .i64 3, .int .i64 0, .string ⟨#[]⟩, .slice none 0 0, .slice none 0 0, .slice none 0 0, .int .i64 PS]) : Ending) = .returned v ∧ Rd (n + 1) w0 wf p g R ws A i e ∧ Tr (n + 1) w0.heap.size m w.heap.size wf.heap.size wf (node 3 0 nost [] PS) v ∧ Nq wf p q (orN nm (true, false))) := fun wf hf => by
    have hall : But (fun k => Two2 w k ∨ k = q) w5 wf := HB7.out.trans hf fun j _ hj => Or.inl hj
    have hup : Below (p + 1) w wf := (HBW5.out.mono (Nat.lt_of_lt_of_le qp (Nat.le_of_lt qlt))).trans (hall.below (by have := HBW5.out.size; omega) fun k hk => by rcases hk with (rfl | rfl) | rfl <;> omega)
    refine ⟨(But.of HBW5.out).trans hall fun j hj ht => Or.inr ⟨rfl, by rcases ht with (ht | ht) | ht <;> omega⟩, _, 1, rfl, HH.out.upto hup, Tr.leaf n _ _ _ _ 3 0 nost PS (Nat.zero_le _), HQ7.out.keep (hf.below (by have := HB7.out.size; have := HBW5.out.size; omega) fun k hk => by rcases hk with rfl | rfl <;> omega)⟩
  clear HB5 HB4 HS4 HH HNN HG5 HGB HB7 HQ7
  go_wp2
  refine bodyPost_ret (v := .agg #[.int .i64 3, .int .i64 0, .string ⟨#[]⟩, .slice none 0 0, .slice none 0 0, .slice none 0 0, .int .i64 PS]) (by simp [results, Try.results85, go_sem, Q0, Q1, Q2, Q3, Q4, Q5, Q6]) rfl (pack_in (HFIN.out _ ?_))
  repeat' first | with_reducible exact But.refl _ _ | with_reducible exact two_r w | with_reducible refine butS ?_ ?_
set_option maxHeartbeats 8000000 in
theorem word_right {n : Nat} {w0 w : World} {p q : Nat} {g : Gr} {R : Raw} {ws : List Wo} {A : Ra} {i : Nat} {e : Int} (h : Rd (n + 1) w0 w p g R ws A i e) (nm : Nm) (hn : true = true → Nq w p q nm) (hi : i < ws.length) (hk0 : isT 3 g.left [wAt ws i] = false) (hk : isT 3 g.right [wAt ws i] = true) :
    Calls Try.prog 85 #[.pointer (some ⟨p, 0, none⟩), namV true q] w fun en w' => GvW n w0 w p q g R ws A i e true nm (wordS g e true (ws.drop i)) en w' := by
  have hk3 : (wAt ws i).kind = 3 := by simp only [isT, Bool.and_eq_true, decide_eq_true_eq] at hk; exact hk.1
  have hw : wordS g e true (ws.drop i) = .ok (node 4 0 nost [] (wAt ws i).pos, false, true) := by rw [drop_at hi]; simp [wordS, hk0, hk, hk3]
  have hT9 : isT 3 g.left (ws.drop i) = false := by rw [drop_at hi]; exact hk0
  have hT11 : isT 3 g.right (ws.drop i) = true := by rw [drop_at hi]; exact hk
  clear hk hk0
  have hile := h.hi
  obtain ⟨W1, e1⟩ : ∃ W1, w.alloc (.cells #[.int .i64 0, .int .i64 0, .string ⟨#[]⟩, .slice none 0 0, .slice none 0 0, .slice none 0 0, .int .i64 0] 39) = W1 := ⟨_, rfl⟩
  have b1 : Below w.heap.size w W1 := by rw [← e1]; exact one_alloc _ _
  have s1 : W1.heap.size = w.heap.size + 1 := by rw [← e1]; simp
  have h1 := h.next b1
  have c14 := h1.sp.sn.c14
  have c19 := h1.c19
  have hL := h1.sp.sn.words
  have hpw := h1.sp.sn.hp2
  obtain ⟨b, off, z1, m1, z2, m2, ha, hb0, g0, g1, g2, g3, g4, gb, g5⟩ := h.sp.sn.wo.2 i hi
  rw [ha] at c14
  have hne : ((i : Int) == (ws.length : Int)) = false := by simp; omega
  have hne2 : ¬ (i : Int) = (ws.length : Int) := by omega
  have ho1 := h1.sp.sn.old
  have KS : Hid (∀ W, Below W1.heap.size W1 W → Below W1.heap.size W1 W ∧ W.cell? ⟨p, 14, none⟩ = some (.slice (some ⟨b, off, none⟩) ws.length R.cw) ∧ W.cell? ⟨p, 19, none⟩ = some (.int .i64 (i : Int)) ∧ W.cell? ⟨b, off + i * 5, none⟩ = some (.int .i64 (wAt ws i).kind) ∧ W.cell? ⟨b, off + i * 5 + 1, none⟩ = some (.string (wAt ws i).text) ∧ W.cell? ⟨b, off + i * 5 + 2, none⟩ = some (.slice z1 (wAt ws i).lit.shape.length m1) ∧ W.cell? ⟨b, off + i * 5 + 3, none⟩ = some (.slice z2 (wAt ws i).lit.cells.length m2) ∧ W.cell? ⟨b, off + i * 5 + 4, none⟩ = some (.int .i64 (wAt ws i).pos)) := fun W hW =>
    have hw := ho1.trans (hW.mono ho1.size)
    ⟨hW, (hW.cell (p := ⟨p, 14, none⟩) hpw).trans c14, (hW.cell (p := ⟨p, 19, none⟩) hpw).trans c19, (hw.cell (p := ⟨b, _, none⟩) hb0).trans g0, (hw.cell (p := ⟨b, _, none⟩) hb0).trans g1, (hw.cell (p := ⟨b, _, none⟩) hb0).trans g2, (hw.cell (p := ⟨b, _, none⟩) hb0).trans g3, (hw.cell (p := ⟨b, _, none⟩) hb0).trans g4⟩
  have HRES : Hid (∀ W, Below W1.heap.size W1 W → (∀ o, o < 7 → ∃ v, W.cell? ⟨w.heap.size, o, none⟩ = some v) ∧ ∀ o, W.frozen? ⟨w.heap.size, o, none⟩ = false) := fun W hW => by
    have hl : w.heap.size < W1.heap.size := by omega
    refine ⟨fun o ho => ?_, fun o => (hW.frozen (p := ⟨w.heap.size, o, none⟩) hl).trans (by rw [← e1]; exact frozen_new _ _ _ _)⟩
    have hcc : ∃ v, W1.cell? ⟨w.heap.size, o, none⟩ = some v := by
      rw [← e1]
      have : o = 0 ∨ o = 1 ∨ o = 2 ∨ o = 3 ∨ o = 4 ∨ o = 5 ∨ o = 6 := by omega
      rcases this with rfl | rfl | rfl | rfl | rfl | rfl | rfl <;> exact ⟨_, cell_new0 w _ 39 _ _ rfl⟩
    obtain ⟨v, hv⟩ := hcc
    exact ⟨v, (hW.cell (p := ⟨w.heap.size, o, none⟩) hl).trans hv⟩
  have HE := hide e1
  have HG5 := hide g5
  have HGB := hide gb
  have HH := hide h
  have HB1 := hide b1
  have HNN := hide hn
  have hNV : namV true q = .pointer (some ⟨q, 0, none⟩) := rfl
  rw [hNV]
  clear hNV
  unfold GvW
  rw [hw]
  obtain ⟨LT, hLT⟩ : ∃ LT, (wAt ws i).lit = LT := ⟨_, rfl⟩
  rw [hLT] at KS HG5 HGB
  try rw [hLT]
  generalize (wAt ws i).text = TX at *
  generalize (wAt ws i).pos = PS at *
  generalize (wAt ws i).kind = KI at *
  subst hk3
  clear h h1 e1 b1 hn g0 g1 g2 g3 g4 g5 hLT c14 c19 ho1 gb
  obtain ⟨L, hLL⟩ : ∃ L, ws.length = L := ⟨_, rfl⟩
  rw [hLL] at KS hne hne2 hile hL hi
  have HLL := hide hLL
  clear hLL
  generalize R.cw = cw at *
  go_enter Try.func85, Try.ntmps85
  go_upto_region 1 with fail
  rw [HE.out]
  obtain ⟨-, k14, k19, -⟩ := KS.out W1 (Below.refl _ _)
  go_quiet (fail)
  go_upto_region 3 with fail
  obtain ⟨wq, hwq⟩ : ∃ wq, W1.drewN nq = wq := ⟨_, rfl⟩
  have bq : Below W1.heap.size W1 wq := by rw [← hwq]; exact drewN_below (Below.refl W1.heap.size W1) _
  have sq : wq.heap.size = w.heap.size + 1 := by rw [← hwq]; exact s1
  have HBQ := hide bq
  have HDQ : Hid (Below W1.heap.size W1 wq.drew) := bq.drew
  rw [hwq]
  clear hwq k14 k19
  obtain ⟨-, k14, k19, k0, k1, k2, k3, k4⟩ := KS.out wq bq
  go_region_held3 (fun W => Below W1.heap.size W1 W ∧ W.cell? ⟨p, 14, none⟩ = some (.slice (some ⟨b, off, none⟩) L cw) ∧ W.cell? ⟨p, 19, none⟩ = some (.int .i64 (i : Int)) ∧ W.cell? ⟨b, off + i * 5, none⟩ = some (.int .i64 3) ∧ W.cell? ⟨b, off + i * 5 + 1, none⟩ = some (.string TX) ∧ W.cell? ⟨b, off + i * 5 + 2, none⟩ = some (.slice z1 LT.shape.length m1) ∧ W.cell? ⟨b, off + i * 5 + 3, none⟩ = some (.slice z2 LT.cells.length m2) ∧ W.cell? ⟨b, off + i * 5 + 4, none⟩ = some (.int .i64 PS)) (first | with_reducible exact KS.out _ HDQ.out | with_reducible exact KS.out _ (by with_reducible assumption) | with_reducible exact KS.out _ (HDQ.out.alloc HDQ.out.size _) | with_reducible exact KS.out _ (HBQ.out.alloc HBQ.out.size _) | with_reducible exact KS.out _ ((HBQ.out.alloc HBQ.out.size _).drew)) (fail)
  clear k14 k19 k0 k1 k2 k3 k4
  go_upto_region 9 with fail
  obtain ⟨W4, hW4⟩ : ∃ W4, ((wq.alloc (.cells #[.int .i64 3, .string TX, .slice z1 LT.shape.length m1, .slice z2 LT.cells.length m2, .int .i64 PS] 43)).alloc (.cells #[.int .i64 0, .int .i64 0, .string ⟨#[]⟩, .slice none 0 0, .slice none 0 0, .slice none 0 0, .int .i64 PS] 39)).drew = W4 := ⟨_, rfl⟩
  rw [hW4]
  have s4 : W4.heap.size = w.heap.size + 3 := by rw [← hW4]; show (((wq.alloc _).alloc _)).heap.size = _; simp [sq]
  have b4q : Below W1.heap.size W1 W4 := by rw [← hW4]; exact ((bq.alloc bq.size _).alloc (by simp; have := bq.size; omega) _).drew
  have b4 : Below w.heap.size w W4 := HB1.out.trans (b4q.mono HB1.out.size)
  have wc : ∀ o v, (#[.int .i64 3, .string TX, .slice z1 LT.shape.length m1, .slice z2 LT.cells.length m2, .int .i64 PS] : Array Value)[o]? = some v → W4.cell? ⟨w.heap.size + 1, o, none⟩ = some v := fun o v ho => by
    rw [← hW4, ← sq]
    exact cell_one (cell_new0 wq _ 43 o v ho) (by simp) _
  have nc : ∀ o v, (#[.int .i64 0, .int .i64 0, .string ⟨#[]⟩, .slice none 0 0, .slice none 0 0, .slice none 0 0, .int .i64 PS] : Array Value)[o]? = some v → W4.cell? ⟨w.heap.size + 1 + 1, o, none⟩ = some v := fun o v ho => by
    rw [← hW4]
    have := cell_new0 (wq.alloc (.cells #[.int .i64 3, .string TX, .slice z1 LT.shape.length m1, .slice z2 LT.cells.length m2, .int .i64 PS] 43)) #[.int .i64 0, .int .i64 0, .string ⟨#[]⟩, .slice none 0 0, .slice none 0 0, .slice none 0 0, .int .i64 PS] 39 o v ho
    have e9 : (wq.alloc (.cells #[.int .i64 3, .string TX, .slice z1 LT.shape.length m1, .slice z2 LT.cells.length m2, .int .i64 PS] 43)).heap.size = w.heap.size + 1 + 1 := by simp [sq]
    rw [e9] at this
    exact this
  have nf : ∀ o, W4.frozen? ⟨w.heap.size + 1 + 1, o, none⟩ = false := fun o => by
    rw [← hW4]
    have := frozen_new (wq.alloc (.cells #[.int .i64 3, .string TX, .slice z1 LT.shape.length m1, .slice z2 LT.cells.length m2, .int .i64 PS] 43)) #[.int .i64 0, .int .i64 0, .string ⟨#[]⟩, .slice none 0 0, .slice none 0 0, .slice none 0 0, .int .i64 PS] 39 o
    have e9 : (wq.alloc (.cells #[.int .i64 3, .string TX, .slice z1 LT.shape.length m1, .slice z2 LT.cells.length m2, .int .i64 PS] 43)).heap.size = w.heap.size + 1 + 1 := by simp [sq]
    rw [e9] at this
    exact this
  have HN : Hid (∀ W, Below W4.heap.size W4 W → (∀ o v, (#[.int .i64 0, .int .i64 0, .string ⟨#[]⟩, .slice none 0 0, .slice none 0 0, .slice none 0 0, .int .i64 PS] : Array Value)[o]? = some v → W.cell? ⟨w.heap.size + 1 + 1, o, none⟩ = some v) ∧ (∀ o, W.frozen? ⟨w.heap.size + 1 + 1, o, none⟩ = false) ∧ (∀ o, o < 7 → ∃ v, W.cell? ⟨w.heap.size, o, none⟩ = some v) ∧ ∀ o, W.frozen? ⟨w.heap.size, o, none⟩ = false) := fun W hW =>
    ⟨fun o v ho => (hW.cell (p := ⟨w.heap.size + 1 + 1, o, none⟩) (by show w.heap.size + 1 + 1 < _; omega)).trans (nc o v ho), fun o => (hW.frozen (p := ⟨w.heap.size + 1 + 1, o, none⟩) (by show w.heap.size + 1 + 1 < _; omega)).trans (nf o), HRES.out W (b4q.trans (hW.mono b4q.size))⟩
  have HB4 := hide b4
  have HS4 := hide s4
  clear HBQ HDQ hW4 nc nf bq sq b4 b4q s4 HRES KS
  have HSN : Hid (∀ W, Below W4.heap.size W4 W → Sn (n + 1) w0 W p g R ws) := fun W hW => HH.out.sp.sn.next (HB4.out.trans (hW.mono HB4.out.size))
  have HRD : Hid (∀ W, Below W4.heap.size W4 W → Rd (n + 1) w0 W p g R ws A i e) := fun W hW => HH.out.next (HB4.out.trans (hW.mono HB4.out.size))
  have HDN : Hid (∀ m, Below W4.heap.size W4 (W4.drewN m)) := fun m => drewN_below (Below.refl W4.heap.size W4) m
  have c19n := fun m => (HRD.out _ (HDN.out m)).c19
  have c7n := fun m => (HSN.out _ (HDN.out m)).c7
  have c19 := (HRD.out _ (Below.refl _ _)).c19
  have c7 := (HSN.out _ (Below.refl _ _)).c7
  have H9 := hide (fun m => is69 (HSN.out _ (HDN.out m)) i 3 g.left (by omega))
  rw [hT9] at H9
  go_quiet ((go_at_call 69; first | exact Calls.quiet_of_same (H9.out 0) | exact Calls.quiet_of_same (H9.out _)))
  obtain ⟨wm, hwm⟩ : ∃ wm, W4.drewN nq = wm := ⟨_, rfl⟩
  have bm : Below W4.heap.size W4 wm := by rw [← hwm]; exact HDN.out _
  have HBM := hide bm
  rw [hwm]
  go_upto_region 11 with fail
  have HDM : Hid (∀ m, Below W4.heap.size W4 (wm.drewN m)) := fun m => HBM.out.trans ((drewN_below (Below.refl wm.heap.size wm) m).mono HBM.out.size)
  have d19n := fun m => (HRD.out _ (HDM.out m)).c19
  have d8n := fun m => (HSN.out _ (HDM.out m)).c8
  have d19 := (HRD.out _ bm).c19
  have d8 := (HSN.out _ bm).c8
  have H11 := hide (fun m => is69 (HSN.out _ (HDM.out m)) i 3 g.right (by omega))
  rw [hT11] at H11
  clear hwm
  go_quiet ((go_at_call 69; first | exact Calls.quiet_of_same (H11.out 0) | exact Calls.quiet_of_same (H11.out _)))
  obtain ⟨w5, hw5⟩ : ∃ w5, wm.drewN nq = w5 := ⟨_, rfl⟩
  have b5 : Below W4.heap.size W4 w5 := by rw [← hw5]; exact HDM.out _
  have HB5 := hide b5
  go_upto_region 12 with fail
  rw [hw5]
  obtain ⟨xn, xf, xr, xg⟩ := HN.out _ b5
  have x0 := xn 0 _ rfl
  have x1 := xn 1 _ rfl
  have x2 := xn 2 _ rfl
  have x3 := xn 3 _ rfl
  have x4 := xn 4 _ rfl
  have x5 := xn 5 _ rfl
  have x6 := xn 6 _ rfl
  have y0 := xf 0
  have y2 := xf 2
  have y3 := xf 3
  have y4 := xf 4
  obtain ⟨r0, R0⟩ := xr 0 (by omega)
  obtain ⟨r1, R1⟩ := xr 1 (by omega)
  obtain ⟨r2, R2⟩ := xr 2 (by omega)
  obtain ⟨r3, R3⟩ := xr 3 (by omega)
  obtain ⟨r4, R4⟩ := xr 4 (by omega)
  obtain ⟨r5, R5⟩ := xr 5 (by omega)
  obtain ⟨r6, R6⟩ := xr 6 (by omega)
  have G0 := xg 0
  have G1 := xg 1
  have G2 := xg 2
  have G3 := xg 3
  have G4 := xg 4
  have G5 := xg 5
  have G6 := xg 6
  clear xn xf xr xg HN
  have hbw5 : Below w.heap.size w w5 := HB4.out.trans (b5.mono HB4.out.size)
  obtain ⟨ql, qp, qc0, qc1, qf0, qf1⟩ := (HNN.out rfl).next hbw5
  have qlt := (HNN.out rfl).lt
  clear b5 hw5 H9 H11 HSN HRD HDN HDM HBM bm d19n d8n d19 d8 c19n c7n c19 c7 wc
  go_upto_region 15 with fail
  obtain ⟨w7, hw7⟩ : ∃ w7, ((w5.setCell ⟨w.heap.size + 1 + 1, 0, none⟩ (.int .i64 4)).setCell ⟨q, 1, none⟩ (.bool true)) = w7 := ⟨_, rfl⟩
  rw [hw7]
  have v0 : w7.cell? ⟨w.heap.size + 1 + 1, 0, none⟩ = some (.int .i64 4) := by rw [← hw7]; exact cs_off (by omega) (cs_same x0)
  have v1 : w7.cell? ⟨w.heap.size + 1 + 1, 1, none⟩ = some (.int .i64 0) := by rw [← hw7]; exact cs_off (by omega) (cs_off (by omega) x1)
  have v2 : w7.cell? ⟨w.heap.size + 1 + 1, 2, none⟩ = some (.string ⟨#[]⟩) := by rw [← hw7]; exact cs_off (by omega) (cs_off (by omega) x2)
  have v3 : w7.cell? ⟨w.heap.size + 1 + 1, 3, none⟩ = some (.slice none 0 0) := by rw [← hw7]; exact cs_off (by omega) (cs_off (by omega) x3)
  have v4 : w7.cell? ⟨w.heap.size + 1 + 1, 4, none⟩ = some (.slice none 0 0) := by rw [← hw7]; exact cs_off (by omega) (cs_off (by omega) x4)
  have v5 : w7.cell? ⟨w.heap.size + 1 + 1, 5, none⟩ = some (.slice none 0 0) := by rw [← hw7]; exact cs_off (by omega) (cs_off (by omega) x5)
  have v6 : w7.cell? ⟨w.heap.size + 1 + 1, 6, none⟩ = some (.int .i64 PS) := by rw [← hw7]; exact cs_off (by omega) (cs_off (by omega) x6)
  have Q0 : w7.cell? ⟨w.heap.size, 0, none⟩ = some r0 := by rw [← hw7]; exact cs_off (by omega) (cs_off (by omega) R0)
  have F0 : w7.frozen? ⟨w.heap.size, 0, none⟩ = false := by rw [← hw7]; exact fs_any (fs_any G0)
  have Q1 : w7.cell? ⟨w.heap.size, 1, none⟩ = some r1 := by rw [← hw7]; exact cs_off (by omega) (cs_off (by omega) R1)
  have F1 : w7.frozen? ⟨w.heap.size, 1, none⟩ = false := by rw [← hw7]; exact fs_any (fs_any G1)
  have Q2 : w7.cell? ⟨w.heap.size, 2, none⟩ = some r2 := by rw [← hw7]; exact cs_off (by omega) (cs_off (by omega) R2)
  have F2 : w7.frozen? ⟨w.heap.size, 2, none⟩ = false := by rw [← hw7]; exact fs_any (fs_any G2)
  have Q3 : w7.cell? ⟨w.heap.size, 3, none⟩ = some r3 := by rw [← hw7]; exact cs_off (by omega) (cs_off (by omega) R3)
  have F3 : w7.frozen? ⟨w.heap.size, 3, none⟩ = false := by rw [← hw7]; exact fs_any (fs_any G3)
  have Q4 : w7.cell? ⟨w.heap.size, 4, none⟩ = some r4 := by rw [← hw7]; exact cs_off (by omega) (cs_off (by omega) R4)
  have F4 : w7.frozen? ⟨w.heap.size, 4, none⟩ = false := by rw [← hw7]; exact fs_any (fs_any G4)
  have Q5 : w7.cell? ⟨w.heap.size, 5, none⟩ = some r5 := by rw [← hw7]; exact cs_off (by omega) (cs_off (by omega) R5)
  have F5 : w7.frozen? ⟨w.heap.size, 5, none⟩ = false := by rw [← hw7]; exact fs_any (fs_any G5)
  have Q6 : w7.cell? ⟨w.heap.size, 6, none⟩ = some r6 := by rw [← hw7]; exact cs_off (by omega) (cs_off (by omega) R6)
  have F6 : w7.frozen? ⟨w.heap.size, 6, none⟩ = false := by rw [← hw7]; exact fs_any (fs_any G6)
  have HB7 := hide (show But (fun k => Two2 w k ∨ k = q) w5 w7 by rw [← hw7]; exact butS (butS (But.refl _ _) (Or.inl (two_n w))) (Or.inr rfl))
  have HQ7 := hide (show Nq w7 p q (orN nm (false, true)) by
    rw [← hw7]
    refine ⟨by simpa using ql, qp, ?_, ?_, fs_any (fs_any qf0), fs_any (fs_any qf1)⟩
    · rw [show (orN nm (false, true)).1 = nm.1 by simp [orN]]; exact cs_off (by omega) (cs_off (by omega) qc0)
    · rw [show (orN nm (false, true)).2 = true by simp [orN]]; exact cs_same (cs_off (by omega) qc1))
  have HBW5 := hide hbw5
  clear hw7 x0 x1 x2 x3 x4 x5 x6 y0 y2 y3 y4 R0 R1 R2 R3 R4 R5 R6 G0 G1 G2 G3 G4 G5 G6 ql qc0 qc1 qf0 qf1 hbw5
  have HFIN : Hid (∀ wf, But (Two2 w) w7 wf → But (TT true p q) w wf ∧ ∃ v m, (Ending.returned (.agg #[.int .i64 4, .int .i64 0, .string ⟨#[]⟩, .slice none 0 0, .slice none 0 0, .slice none 0 0, .int .i64 PS]) : Ending) = .returned v ∧ Rd (n + 1) w0 wf p g R ws A i e ∧ Tr (n + 1) w0.heap.size m w.heap.size wf.heap.size wf (node 4 0 nost [] PS) v ∧ Nq wf p q (orN nm (false, true))) := fun wf hf => by
    have hall : But (fun k => Two2 w k ∨ k = q) w5 wf := HB7.out.trans hf fun j _ hj => Or.inl hj
    have hup : Below (p + 1) w wf := (HBW5.out.mono (Nat.lt_of_lt_of_le qp (Nat.le_of_lt qlt))).trans (hall.below (by have := HBW5.out.size; omega) fun k hk => by rcases hk with (rfl | rfl) | rfl <;> omega)
    refine ⟨(But.of HBW5.out).trans hall fun j hj ht => Or.inr ⟨rfl, by rcases ht with (ht | ht) | ht <;> omega⟩, _, 1, rfl, HH.out.upto hup, Tr.leaf n _ _ _ _ 4 0 nost PS (Nat.zero_le _), HQ7.out.keep (hf.below (by have := HB7.out.size; have := HBW5.out.size; omega) fun k hk => by rcases hk with rfl | rfl <;> omega)⟩
  clear HB5 HB4 HS4 HH HNN HG5 HGB HB7 HQ7
  go_wp2
  refine bodyPost_ret (v := .agg #[.int .i64 4, .int .i64 0, .string ⟨#[]⟩, .slice none 0 0, .slice none 0 0, .slice none 0 0, .int .i64 PS]) (by simp [results, Try.results85, go_sem, Q0, Q1, Q2, Q3, Q4, Q5, Q6]) rfl (pack_in (HFIN.out _ ?_))
  repeat' first | with_reducible exact But.refl _ _ | with_reducible exact two_r w | with_reducible refine butS ?_ ?_
end Go.Proofs.Ytnaejfoighmfeaa
namespace Go.Proofs.Ytnaejfoighmfeaa
open Go.ChangeShapes Go.WideShapes Go.ChangeAt Go.RowKit
set_option maxRecDepth 100000
set_option linter.unusedVariables false
set_option linter.unusedSimpArgs false
theorem pack_out {X : Prop} {P : Value → Prop} {Rr : Prop} {T : Value → Nat → Prop} {N : Prop} (h : X ∧ ∃ v m, P v ∧ Rr ∧ T v m ∧ True) : X ∧ ∃ v m, P v ∧ Rr ∧ T v m ∧ (false = true → N) := by
  obtain ⟨a, v, m, b, c, d, -⟩ := h
  exact ⟨a, v, m, b, c, d, fun h => by cases h⟩
set_option maxHeartbeats 8000000 in
theorem word_var_true {n : Nat} {w0 w : World} {p q : Nat} {g : Gr} {R : Raw} {ws : List Wo} {A : Ra} {i : Nat} {e : Int} (h : Rd (n + 1) w0 w p g R ws A i e) (nm : Nm) (hn : true = true → Nq w p q nm) (hi : i < ws.length) (hk3 : (wAt ws i).kind = 3) (hnb : nameB (wAt ws i).text = true) (hk0 : isT 3 g.left [wAt ws i] = false) (hk1 : isT 3 g.right [wAt ws i] = false) :
    Calls Try.prog 85 #[.pointer (some ⟨p, 0, none⟩), namV true q] w fun en w' => GvW n w0 w p q g R ws A i e true nm (wordS g e true (ws.drop i)) en w' := by
  have hw : wordS g e true (ws.drop i) = .ok (node 2 0 (wAt ws i).text [] (wAt ws i).pos, false, false) := by rw [drop_at hi]; simp [wordS, hk3, hnb, hk0, hk1]
  have hT9 : isT 3 g.left (ws.drop i) = false := by rw [drop_at hi]; exact hk0
  have hT11 : isT 3 g.right (ws.drop i) = false := by rw [drop_at hi]; exact hk1
  clear hk0 hk1
  have hile := h.hi
  obtain ⟨W1, e1⟩ : ∃ W1, w.alloc (.cells #[.int .i64 0, .int .i64 0, .string ⟨#[]⟩, .slice none 0 0, .slice none 0 0, .slice none 0 0, .int .i64 0] 39) = W1 := ⟨_, rfl⟩
  have b1 : Below w.heap.size w W1 := by rw [← e1]; exact one_alloc _ _
  have s1 : W1.heap.size = w.heap.size + 1 := by rw [← e1]; simp
  have h1 := h.next b1
  have c14 := h1.sp.sn.c14
  have c19 := h1.c19
  have hL := h1.sp.sn.words
  have hpw := h1.sp.sn.hp2
  obtain ⟨b, off, z1, m1, z2, m2, ha, hb0, g0, g1, g2, g3, g4, gb, g5⟩ := h.sp.sn.wo.2 i hi
  rw [ha] at c14
  have hne : ((i : Int) == (ws.length : Int)) = false := by simp; omega
  have hne2 : ¬ (i : Int) = (ws.length : Int) := by omega
  have ho1 := h1.sp.sn.old
  have KS : Hid (∀ W, Below W1.heap.size W1 W → Below W1.heap.size W1 W ∧ W.cell? ⟨p, 14, none⟩ = some (.slice (some ⟨b, off, none⟩) ws.length R.cw) ∧ W.cell? ⟨p, 19, none⟩ = some (.int .i64 (i : Int)) ∧ W.cell? ⟨b, off + i * 5, none⟩ = some (.int .i64 (wAt ws i).kind) ∧ W.cell? ⟨b, off + i * 5 + 1, none⟩ = some (.string (wAt ws i).text) ∧ W.cell? ⟨b, off + i * 5 + 2, none⟩ = some (.slice z1 (wAt ws i).lit.shape.length m1) ∧ W.cell? ⟨b, off + i * 5 + 3, none⟩ = some (.slice z2 (wAt ws i).lit.cells.length m2) ∧ W.cell? ⟨b, off + i * 5 + 4, none⟩ = some (.int .i64 (wAt ws i).pos)) := fun W hW =>
    have hw := ho1.trans (hW.mono ho1.size)
    ⟨hW, (hW.cell (p := ⟨p, 14, none⟩) hpw).trans c14, (hW.cell (p := ⟨p, 19, none⟩) hpw).trans c19, (hw.cell (p := ⟨b, _, none⟩) hb0).trans g0, (hw.cell (p := ⟨b, _, none⟩) hb0).trans g1, (hw.cell (p := ⟨b, _, none⟩) hb0).trans g2, (hw.cell (p := ⟨b, _, none⟩) hb0).trans g3, (hw.cell (p := ⟨b, _, none⟩) hb0).trans g4⟩
  have HRES : Hid (∀ W, Below W1.heap.size W1 W → (∀ o, o < 7 → ∃ v, W.cell? ⟨w.heap.size, o, none⟩ = some v) ∧ ∀ o, W.frozen? ⟨w.heap.size, o, none⟩ = false) := fun W hW => by
    have hl : w.heap.size < W1.heap.size := by omega
    refine ⟨fun o ho => ?_, fun o => (hW.frozen (p := ⟨w.heap.size, o, none⟩) hl).trans (by rw [← e1]; exact frozen_new _ _ _ _)⟩
    have hcc : ∃ v, W1.cell? ⟨w.heap.size, o, none⟩ = some v := by
      rw [← e1]
      have : o = 0 ∨ o = 1 ∨ o = 2 ∨ o = 3 ∨ o = 4 ∨ o = 5 ∨ o = 6 := by omega
      rcases this with rfl | rfl | rfl | rfl | rfl | rfl | rfl <;> exact ⟨_, cell_new0 w _ 39 _ _ rfl⟩
    obtain ⟨v, hv⟩ := hcc
    exact ⟨v, (hW.cell (p := ⟨w.heap.size, o, none⟩) hl).trans hv⟩
  have HE := hide e1
  have HG5 := hide g5
  have HGB := hide gb
  have HH := hide h
  have HB1 := hide b1
  have HNN := hide hn
  have hNV : namV true q = .pointer (some ⟨q, 0, none⟩) := rfl
  rw [hNV]
  clear hNV
  unfold GvW
  rw [hw]
  obtain ⟨LT, hLT⟩ : ∃ LT, (wAt ws i).lit = LT := ⟨_, rfl⟩
  rw [hLT] at KS HG5 HGB
  try rw [hLT]
  generalize (wAt ws i).text = TX at *
  generalize (wAt ws i).pos = PS at *
  generalize (wAt ws i).kind = KI at *
  subst hk3
  clear h h1 e1 b1 hn g0 g1 g2 g3 g4 g5 hLT c14 c19 ho1 gb
  obtain ⟨L, hLL⟩ : ∃ L, ws.length = L := ⟨_, rfl⟩
  rw [hLL] at KS hne hne2 hile hL hi
  have HLL := hide hLL
  clear hLL
  generalize R.cw = cw at *
  go_enter Try.func85, Try.ntmps85
  go_upto_region 1 with fail
  rw [HE.out]
  obtain ⟨-, k14, k19, -⟩ := KS.out W1 (Below.refl _ _)
  go_quiet (fail)
  go_upto_region 3 with fail
  obtain ⟨wq, hwq⟩ : ∃ wq, W1.drewN nq = wq := ⟨_, rfl⟩
  have bq : Below W1.heap.size W1 wq := by rw [← hwq]; exact drewN_below (Below.refl W1.heap.size W1) _
  have sq : wq.heap.size = w.heap.size + 1 := by rw [← hwq]; exact s1
  have HBQ := hide bq
  have HDQ : Hid (Below W1.heap.size W1 wq.drew) := bq.drew
  rw [hwq]
  clear hwq k14 k19
  obtain ⟨-, k14, k19, k0, k1, k2, k3, k4⟩ := KS.out wq bq
  go_region_held3 (fun W => Below W1.heap.size W1 W ∧ W.cell? ⟨p, 14, none⟩ = some (.slice (some ⟨b, off, none⟩) L cw) ∧ W.cell? ⟨p, 19, none⟩ = some (.int .i64 (i : Int)) ∧ W.cell? ⟨b, off + i * 5, none⟩ = some (.int .i64 3) ∧ W.cell? ⟨b, off + i * 5 + 1, none⟩ = some (.string TX) ∧ W.cell? ⟨b, off + i * 5 + 2, none⟩ = some (.slice z1 LT.shape.length m1) ∧ W.cell? ⟨b, off + i * 5 + 3, none⟩ = some (.slice z2 LT.cells.length m2) ∧ W.cell? ⟨b, off + i * 5 + 4, none⟩ = some (.int .i64 PS)) (first | with_reducible exact KS.out _ HDQ.out | with_reducible exact KS.out _ (by with_reducible assumption) | with_reducible exact KS.out _ (HDQ.out.alloc HDQ.out.size _) | with_reducible exact KS.out _ (HBQ.out.alloc HBQ.out.size _) | with_reducible exact KS.out _ ((HBQ.out.alloc HBQ.out.size _).drew)) (fail)
  clear k14 k19 k0 k1 k2 k3 k4
  go_upto_region 9 with fail
  obtain ⟨W4, hW4⟩ : ∃ W4, ((wq.alloc (.cells #[.int .i64 3, .string TX, .slice z1 LT.shape.length m1, .slice z2 LT.cells.length m2, .int .i64 PS] 43)).alloc (.cells #[.int .i64 0, .int .i64 0, .string ⟨#[]⟩, .slice none 0 0, .slice none 0 0, .slice none 0 0, .int .i64 PS] 39)).drew = W4 := ⟨_, rfl⟩
  rw [hW4]
  have s4 : W4.heap.size = w.heap.size + 3 := by rw [← hW4]; show (((wq.alloc _).alloc _)).heap.size = _; simp [sq]
  have b4q : Below W1.heap.size W1 W4 := by rw [← hW4]; exact ((bq.alloc bq.size _).alloc (by simp; have := bq.size; omega) _).drew
  have b4 : Below w.heap.size w W4 := HB1.out.trans (b4q.mono HB1.out.size)
  have wc : ∀ o v, (#[.int .i64 3, .string TX, .slice z1 LT.shape.length m1, .slice z2 LT.cells.length m2, .int .i64 PS] : Array Value)[o]? = some v → W4.cell? ⟨w.heap.size + 1, o, none⟩ = some v := fun o v ho => by
    rw [← hW4, ← sq]
    exact cell_one (cell_new0 wq _ 43 o v ho) (by simp) _
  have nc : ∀ o v, (#[.int .i64 0, .int .i64 0, .string ⟨#[]⟩, .slice none 0 0, .slice none 0 0, .slice none 0 0, .int .i64 PS] : Array Value)[o]? = some v → W4.cell? ⟨w.heap.size + 1 + 1, o, none⟩ = some v := fun o v ho => by
    rw [← hW4]
    have := cell_new0 (wq.alloc (.cells #[.int .i64 3, .string TX, .slice z1 LT.shape.length m1, .slice z2 LT.cells.length m2, .int .i64 PS] 43)) #[.int .i64 0, .int .i64 0, .string ⟨#[]⟩, .slice none 0 0, .slice none 0 0, .slice none 0 0, .int .i64 PS] 39 o v ho
    have e9 : (wq.alloc (.cells #[.int .i64 3, .string TX, .slice z1 LT.shape.length m1, .slice z2 LT.cells.length m2, .int .i64 PS] 43)).heap.size = w.heap.size + 1 + 1 := by simp [sq]
    rw [e9] at this
    exact this
  have nf : ∀ o, W4.frozen? ⟨w.heap.size + 1 + 1, o, none⟩ = false := fun o => by
    rw [← hW4]
    have := frozen_new (wq.alloc (.cells #[.int .i64 3, .string TX, .slice z1 LT.shape.length m1, .slice z2 LT.cells.length m2, .int .i64 PS] 43)) #[.int .i64 0, .int .i64 0, .string ⟨#[]⟩, .slice none 0 0, .slice none 0 0, .slice none 0 0, .int .i64 PS] 39 o
    have e9 : (wq.alloc (.cells #[.int .i64 3, .string TX, .slice z1 LT.shape.length m1, .slice z2 LT.cells.length m2, .int .i64 PS] 43)).heap.size = w.heap.size + 1 + 1 := by simp [sq]
    rw [e9] at this
    exact this
  have HN : Hid (∀ W, Below W4.heap.size W4 W → (∀ o v, (#[.int .i64 0, .int .i64 0, .string ⟨#[]⟩, .slice none 0 0, .slice none 0 0, .slice none 0 0, .int .i64 PS] : Array Value)[o]? = some v → W.cell? ⟨w.heap.size + 1 + 1, o, none⟩ = some v) ∧ (∀ o, W.frozen? ⟨w.heap.size + 1 + 1, o, none⟩ = false) ∧ (∀ o, o < 7 → ∃ v, W.cell? ⟨w.heap.size, o, none⟩ = some v) ∧ ∀ o, W.frozen? ⟨w.heap.size, o, none⟩ = false) := fun W hW =>
    ⟨fun o v ho => (hW.cell (p := ⟨w.heap.size + 1 + 1, o, none⟩) (by show w.heap.size + 1 + 1 < _; omega)).trans (nc o v ho), fun o => (hW.frozen (p := ⟨w.heap.size + 1 + 1, o, none⟩) (by show w.heap.size + 1 + 1 < _; omega)).trans (nf o), HRES.out W (b4q.trans (hW.mono b4q.size))⟩
  have HB4 := hide b4
  have HS4 := hide s4
  clear HBQ HDQ hW4 nc nf bq sq b4 b4q s4 HRES KS
  have HSN : Hid (∀ W, Below W4.heap.size W4 W → Sn (n + 1) w0 W p g R ws) := fun W hW => HH.out.sp.sn.next (HB4.out.trans (hW.mono HB4.out.size))
  have HRD : Hid (∀ W, Below W4.heap.size W4 W → Rd (n + 1) w0 W p g R ws A i e) := fun W hW => HH.out.next (HB4.out.trans (hW.mono HB4.out.size))
  have HDN : Hid (∀ m, Below W4.heap.size W4 (W4.drewN m)) := fun m => drewN_below (Below.refl W4.heap.size W4) m
  have c19n := fun m => (HRD.out _ (HDN.out m)).c19
  have c7n := fun m => (HSN.out _ (HDN.out m)).c7
  have c19 := (HRD.out _ (Below.refl _ _)).c19
  have c7 := (HSN.out _ (Below.refl _ _)).c7
  have H9 := hide (fun m => is69 (HSN.out _ (HDN.out m)) i 3 g.left (by omega))
  rw [hT9] at H9
  go_quiet ((go_at_call 69; first | exact Calls.quiet_of_same (H9.out 0) | exact Calls.quiet_of_same (H9.out _)))
  obtain ⟨wm, hwm⟩ : ∃ wm, W4.drewN nq = wm := ⟨_, rfl⟩
  have bm : Below W4.heap.size W4 wm := by rw [← hwm]; exact HDN.out _
  have HBM := hide bm
  rw [hwm]
  go_upto_region 11 with fail
  have HDM : Hid (∀ m, Below W4.heap.size W4 (wm.drewN m)) := fun m => HBM.out.trans ((drewN_below (Below.refl wm.heap.size wm) m).mono HBM.out.size)
  have d19n := fun m => (HRD.out _ (HDM.out m)).c19
  have d8n := fun m => (HSN.out _ (HDM.out m)).c8
  have d19 := (HRD.out _ bm).c19
  have d8 := (HSN.out _ bm).c8
  have H11 := hide (fun m => is69 (HSN.out _ (HDM.out m)) i 3 g.right (by omega))
  rw [hT11] at H11
  clear hwm
  go_quiet ((go_at_call 69; first | exact Calls.quiet_of_same (H11.out 0) | exact Calls.quiet_of_same (H11.out _)))
  obtain ⟨w5, hw5⟩ : ∃ w5, wm.drewN nq = w5 := ⟨_, rfl⟩
  have b5 : Below W4.heap.size W4 w5 := by rw [← hw5]; exact HDM.out _
  rw [hw5]
  clear hw5 H9 H11 HDN HDM HBM bm d19n d8n d19 d8 c19n c7n c19 c7
  have w50 : w5.cell? ⟨w.heap.size + 1, 0, none⟩ = some (.int .i64 3) := (b5.cell (p := ⟨w.heap.size + 1, 0, none⟩) (by show w.heap.size + 1 < _; have := HS4.out; omega)).trans (wc 0 _ rfl)
  have w51 : w5.cell? ⟨w.heap.size + 1, 1, none⟩ = some (.string TX) := (b5.cell (p := ⟨w.heap.size + 1, 1, none⟩) (by show w.heap.size + 1 < _; have := HS4.out; omega)).trans (wc 1 _ rfl)
  have HWC : Hid (∀ W, Below w5.heap.size w5 W → W.cell? ⟨w.heap.size + 1, 1, none⟩ = some (.string TX)) := fun W hW => (hW.cell (p := ⟨w.heap.size + 1, 1, none⟩) (by show w.heap.size + 1 < _; have := HS4.out; have := b5.size; omega)).trans w51
  have HB5 := hide b5
  clear wc
  have HNM := hide (name15 TX w5)
  rw [hnb] at HNM
  clear HSN HRD
  go_wp2_with fail
  refine HNM.out.mono ?_
  rintro en w6 ⟨rfl, hb6⟩
  have b6 : Below W4.heap.size W4 w6 := HB5.out.trans (hb6.mono HB5.out.size)
  have w61 := HWC.out _ hb6
  have HB6 := hide b6
  clear HNM HWC w50 w51 b5 HB5 hb6
  obtain ⟨xn, xf, xr, xg⟩ := HN.out _ b6
  have x0 := xn 0 _ rfl
  have x1 := xn 1 _ rfl
  have x2 := xn 2 _ rfl
  have x3 := xn 3 _ rfl
  have x4 := xn 4 _ rfl
  have x5 := xn 5 _ rfl
  have x6 := xn 6 _ rfl
  have y0 := xf 0
  have y2 := xf 2
  have y3 := xf 3
  have y4 := xf 4
  obtain ⟨r0, R0⟩ := xr 0 (by omega)
  obtain ⟨r1, R1⟩ := xr 1 (by omega)
  obtain ⟨r2, R2⟩ := xr 2 (by omega)
  obtain ⟨r3, R3⟩ := xr 3 (by omega)
  obtain ⟨r4, R4⟩ := xr 4 (by omega)
  obtain ⟨r5, R5⟩ := xr 5 (by omega)
  obtain ⟨r6, R6⟩ := xr 6 (by omega)
  have G0 := xg 0
  have G1 := xg 1
  have G2 := xg 2
  have G3 := xg 3
  have G4 := xg 4
  have G5 := xg 5
  have G6 := xg 6
  clear xn xf xr xg HN
  go_upto_region 14 with fail
  go_region
  all_goals
    obtain ⟨w7, hw7⟩ : ∃ w7, ((w6.setCell ⟨w.heap.size + 1 + 1, 0, none⟩ (.int .i64 2)).setCell ⟨w.heap.size + 1 + 1, 2, none⟩ (.string TX)).drew = w7 := ⟨_, rfl⟩
    go_upto_region 15 with fail
    rw [hw7]
    have v0 : w7.cell? ⟨w.heap.size + 1 + 1, 0, none⟩ = some (.int .i64 2) := by rw [← hw7]; exact cs_off (by omega) (cs_same x0)
    have v1 : w7.cell? ⟨w.heap.size + 1 + 1, 1, none⟩ = some (.int .i64 0) := by rw [← hw7]; exact cs_off (by omega) (cs_off (by omega) x1)
    have v2 : w7.cell? ⟨w.heap.size + 1 + 1, 2, none⟩ = some (.string TX) := by rw [← hw7]; exact cs_same (cs_off (by omega) x2)
    have v3 : w7.cell? ⟨w.heap.size + 1 + 1, 3, none⟩ = some (.slice none 0 0) := by rw [← hw7]; exact cs_off (by omega) (cs_off (by omega) x3)
    have v4 : w7.cell? ⟨w.heap.size + 1 + 1, 4, none⟩ = some (.slice none 0 0) := by rw [← hw7]; exact cs_off (by omega) (cs_off (by omega) x4)
    have v5 : w7.cell? ⟨w.heap.size + 1 + 1, 5, none⟩ = some (.slice none 0 0) := by rw [← hw7]; exact cs_off (by omega) (cs_off (by omega) x5)
    have v6 : w7.cell? ⟨w.heap.size + 1 + 1, 6, none⟩ = some (.int .i64 PS) := by rw [← hw7]; exact cs_off (by omega) (cs_off (by omega) x6)
    have Q0 : w7.cell? ⟨w.heap.size, 0, none⟩ = some r0 := by rw [← hw7]; exact cs_off (by omega) (cs_off (by omega) R0)
    have F0 : w7.frozen? ⟨w.heap.size, 0, none⟩ = false := by rw [← hw7]; exact fs_any (fs_any G0)
    have Q1 : w7.cell? ⟨w.heap.size, 1, none⟩ = some r1 := by rw [← hw7]; exact cs_off (by omega) (cs_off (by omega) R1)
    have F1 : w7.frozen? ⟨w.heap.size, 1, none⟩ = false := by rw [← hw7]; exact fs_any (fs_any G1)
    have Q2 : w7.cell? ⟨w.heap.size, 2, none⟩ = some r2 := by rw [← hw7]; exact cs_off (by omega) (cs_off (by omega) R2)
    have F2 : w7.frozen? ⟨w.heap.size, 2, none⟩ = false := by rw [← hw7]; exact fs_any (fs_any G2)
    have Q3 : w7.cell? ⟨w.heap.size, 3, none⟩ = some r3 := by rw [← hw7]; exact cs_off (by omega) (cs_off (by omega) R3)
    have F3 : w7.frozen? ⟨w.heap.size, 3, none⟩ = false := by rw [← hw7]; exact fs_any (fs_any G3)
    have Q4 : w7.cell? ⟨w.heap.size, 4, none⟩ = some r4 := by rw [← hw7]; exact cs_off (by omega) (cs_off (by omega) R4)
    have F4 : w7.frozen? ⟨w.heap.size, 4, none⟩ = false := by rw [← hw7]; exact fs_any (fs_any G4)
    have Q5 : w7.cell? ⟨w.heap.size, 5, none⟩ = some r5 := by rw [← hw7]; exact cs_off (by omega) (cs_off (by omega) R5)
    have F5 : w7.frozen? ⟨w.heap.size, 5, none⟩ = false := by rw [← hw7]; exact fs_any (fs_any G5)
    have Q6 : w7.cell? ⟨w.heap.size, 6, none⟩ = some r6 := by rw [← hw7]; exact cs_off (by omega) (cs_off (by omega) R6)
    have F6 : w7.frozen? ⟨w.heap.size, 6, none⟩ = false := by rw [← hw7]; exact fs_any (fs_any G6)
    have HB7 := hide (show But (Two2 w) w6 w7 by rw [← hw7]; exact (butS (butS (But.refl _ _) (two_n w)) (two_n w)).trans (But.of ((Below.refl _ _).drew)) fun j _ hj => hj)
    clear hw7 x0 x1 x2 x3 x4 x5 x6 y0 y2 y3 y4 R0 R1 R2 R3 R4 R5 R6 G0 G1 G2 G3 G4 G5 G6
    have HFIN : Hid (∀ wf, But (Two2 w) w7 wf → But (TT true p q) w wf ∧ ∃ v m, (Ending.returned (.agg #[.int .i64 2, .int .i64 0, .string TX, .slice none 0 0, .slice none 0 0, .slice none 0 0, .int .i64 PS]) : Ending) = .returned v ∧ Rd (n + 1) w0 wf p g R ws A i e ∧ Tr (n + 1) w0.heap.size m w.heap.size wf.heap.size wf (node 2 0 TX [] PS) v ∧ Nq wf p q (orN nm (false, false))) := fun wf hf => by
      have hb := two_below HB4.out HB6.out (HB7.out.trans hf fun j _ hj => hj)
      refine ⟨But.of hb, _, 1, rfl, HH.out.next hb, Tr.leaf n _ _ _ _ 2 0 TX PS HGB.out.1, by have := (HNN.out (by first | rfl | trivial)).next hb; cases nm with | mk l r => simpa [orN] using this⟩
    clear HB6 HB4 HS4 HH HNN HG5 HGB HB7
    go_wp2
    refine bodyPost_ret (v := .agg #[.int .i64 2, .int .i64 0, .string TX, .slice none 0 0, .slice none 0 0, .slice none 0 0, .int .i64 PS]) (by simp [results, Try.results85, go_sem, Q0, Q1, Q2, Q3, Q4, Q5, Q6]) rfl (pack_in (HFIN.out _ ?_))
    repeat' first | with_reducible exact But.refl _ _ | with_reducible exact two_r w | with_reducible refine butS ?_ ?_
set_option maxHeartbeats 8000000 in
theorem word_var_false {n : Nat} {w0 w : World} {p q : Nat} {g : Gr} {R : Raw} {ws : List Wo} {A : Ra} {i : Nat} {e : Int} (h : Rd (n + 1) w0 w p g R ws A i e) (nm : Nm) (hn : false = true → Nq w p q nm) (hi : i < ws.length) (hk3 : (wAt ws i).kind = 3) (hnb : nameB (wAt ws i).text = true) :
    Calls Try.prog 85 #[.pointer (some ⟨p, 0, none⟩), namV false q] w fun en w' => GvW n w0 w p q g R ws A i e false nm (wordS g e false (ws.drop i)) en w' := by
  have hw : wordS g e false (ws.drop i) = .ok (node 2 0 (wAt ws i).text [] (wAt ws i).pos, false, false) := by rw [drop_at hi]; simp [wordS, hk3, hnb]
  have hile := h.hi
  obtain ⟨W1, e1⟩ : ∃ W1, w.alloc (.cells #[.int .i64 0, .int .i64 0, .string ⟨#[]⟩, .slice none 0 0, .slice none 0 0, .slice none 0 0, .int .i64 0] 39) = W1 := ⟨_, rfl⟩
  have b1 : Below w.heap.size w W1 := by rw [← e1]; exact one_alloc _ _
  have s1 : W1.heap.size = w.heap.size + 1 := by rw [← e1]; simp
  have h1 := h.next b1
  have c14 := h1.sp.sn.c14
  have c19 := h1.c19
  have hL := h1.sp.sn.words
  have hpw := h1.sp.sn.hp2
  obtain ⟨b, off, z1, m1, z2, m2, ha, hb0, g0, g1, g2, g3, g4, gb, g5⟩ := h.sp.sn.wo.2 i hi
  rw [ha] at c14
  have hne : ((i : Int) == (ws.length : Int)) = false := by simp; omega
  have hne2 : ¬ (i : Int) = (ws.length : Int) := by omega
  have ho1 := h1.sp.sn.old
  have KS : Hid (∀ W, Below W1.heap.size W1 W → Below W1.heap.size W1 W ∧ W.cell? ⟨p, 14, none⟩ = some (.slice (some ⟨b, off, none⟩) ws.length R.cw) ∧ W.cell? ⟨p, 19, none⟩ = some (.int .i64 (i : Int)) ∧ W.cell? ⟨b, off + i * 5, none⟩ = some (.int .i64 (wAt ws i).kind) ∧ W.cell? ⟨b, off + i * 5 + 1, none⟩ = some (.string (wAt ws i).text) ∧ W.cell? ⟨b, off + i * 5 + 2, none⟩ = some (.slice z1 (wAt ws i).lit.shape.length m1) ∧ W.cell? ⟨b, off + i * 5 + 3, none⟩ = some (.slice z2 (wAt ws i).lit.cells.length m2) ∧ W.cell? ⟨b, off + i * 5 + 4, none⟩ = some (.int .i64 (wAt ws i).pos)) := fun W hW =>
    have hw := ho1.trans (hW.mono ho1.size)
    ⟨hW, (hW.cell (p := ⟨p, 14, none⟩) hpw).trans c14, (hW.cell (p := ⟨p, 19, none⟩) hpw).trans c19, (hw.cell (p := ⟨b, _, none⟩) hb0).trans g0, (hw.cell (p := ⟨b, _, none⟩) hb0).trans g1, (hw.cell (p := ⟨b, _, none⟩) hb0).trans g2, (hw.cell (p := ⟨b, _, none⟩) hb0).trans g3, (hw.cell (p := ⟨b, _, none⟩) hb0).trans g4⟩
  have HRES : Hid (∀ W, Below W1.heap.size W1 W → (∀ o, o < 7 → ∃ v, W.cell? ⟨w.heap.size, o, none⟩ = some v) ∧ ∀ o, W.frozen? ⟨w.heap.size, o, none⟩ = false) := fun W hW => by
    have hl : w.heap.size < W1.heap.size := by omega
    refine ⟨fun o ho => ?_, fun o => (hW.frozen (p := ⟨w.heap.size, o, none⟩) hl).trans (by rw [← e1]; exact frozen_new _ _ _ _)⟩
    have hcc : ∃ v, W1.cell? ⟨w.heap.size, o, none⟩ = some v := by
      rw [← e1]
      have : o = 0 ∨ o = 1 ∨ o = 2 ∨ o = 3 ∨ o = 4 ∨ o = 5 ∨ o = 6 := by omega
      rcases this with rfl | rfl | rfl | rfl | rfl | rfl | rfl <;> exact ⟨_, cell_new0 w _ 39 _ _ rfl⟩
    obtain ⟨v, hv⟩ := hcc
    exact ⟨v, (hW.cell (p := ⟨w.heap.size, o, none⟩) hl).trans hv⟩
  have HE := hide e1
  have HG5 := hide g5
  have HGB := hide gb
  have HH := hide h
  have HB1 := hide b1
  have HNN := hide hn
  have hNV : namV false q = .pointer none := rfl
  rw [hNV]
  clear hNV
  unfold GvW
  rw [hw]
  obtain ⟨LT, hLT⟩ : ∃ LT, (wAt ws i).lit = LT := ⟨_, rfl⟩
  rw [hLT] at KS HG5 HGB
  try rw [hLT]
  generalize (wAt ws i).text = TX at *
  generalize (wAt ws i).pos = PS at *
  generalize (wAt ws i).kind = KI at *
  subst hk3
  clear h h1 e1 b1 hn g0 g1 g2 g3 g4 g5 hLT c14 c19 ho1 gb
  obtain ⟨L, hLL⟩ : ∃ L, ws.length = L := ⟨_, rfl⟩
  rw [hLL] at KS hne hne2 hile hL hi
  have HLL := hide hLL
  clear hLL
  generalize R.cw = cw at *
  go_enter Try.func85, Try.ntmps85
  go_upto_region 1 with fail
  rw [HE.out]
  obtain ⟨-, k14, k19, -⟩ := KS.out W1 (Below.refl _ _)
  go_quiet (fail)
  go_upto_region 3 with fail
  obtain ⟨wq, hwq⟩ : ∃ wq, W1.drewN nq = wq := ⟨_, rfl⟩
  have bq : Below W1.heap.size W1 wq := by rw [← hwq]; exact drewN_below (Below.refl W1.heap.size W1) _
  have sq : wq.heap.size = w.heap.size + 1 := by rw [← hwq]; exact s1
  have HBQ := hide bq
  have HDQ : Hid (Below W1.heap.size W1 wq.drew) := bq.drew
  rw [hwq]
  clear hwq k14 k19
  obtain ⟨-, k14, k19, k0, k1, k2, k3, k4⟩ := KS.out wq bq
  go_region_held3 (fun W => Below W1.heap.size W1 W ∧ W.cell? ⟨p, 14, none⟩ = some (.slice (some ⟨b, off, none⟩) L cw) ∧ W.cell? ⟨p, 19, none⟩ = some (.int .i64 (i : Int)) ∧ W.cell? ⟨b, off + i * 5, none⟩ = some (.int .i64 3) ∧ W.cell? ⟨b, off + i * 5 + 1, none⟩ = some (.string TX) ∧ W.cell? ⟨b, off + i * 5 + 2, none⟩ = some (.slice z1 LT.shape.length m1) ∧ W.cell? ⟨b, off + i * 5 + 3, none⟩ = some (.slice z2 LT.cells.length m2) ∧ W.cell? ⟨b, off + i * 5 + 4, none⟩ = some (.int .i64 PS)) (first | with_reducible exact KS.out _ HDQ.out | with_reducible exact KS.out _ (by with_reducible assumption) | with_reducible exact KS.out _ (HDQ.out.alloc HDQ.out.size _) | with_reducible exact KS.out _ (HBQ.out.alloc HBQ.out.size _) | with_reducible exact KS.out _ ((HBQ.out.alloc HBQ.out.size _).drew)) (fail)
  clear k14 k19 k0 k1 k2 k3 k4
  go_upto_region 9 with fail
  obtain ⟨W4, hW4⟩ : ∃ W4, ((wq.alloc (.cells #[.int .i64 3, .string TX, .slice z1 LT.shape.length m1, .slice z2 LT.cells.length m2, .int .i64 PS] 43)).alloc (.cells #[.int .i64 0, .int .i64 0, .string ⟨#[]⟩, .slice none 0 0, .slice none 0 0, .slice none 0 0, .int .i64 PS] 39)).drew = W4 := ⟨_, rfl⟩
  rw [hW4]
  have s4 : W4.heap.size = w.heap.size + 3 := by rw [← hW4]; show (((wq.alloc _).alloc _)).heap.size = _; simp [sq]
  have b4q : Below W1.heap.size W1 W4 := by rw [← hW4]; exact ((bq.alloc bq.size _).alloc (by simp; have := bq.size; omega) _).drew
  have b4 : Below w.heap.size w W4 := HB1.out.trans (b4q.mono HB1.out.size)
  have wc : ∀ o v, (#[.int .i64 3, .string TX, .slice z1 LT.shape.length m1, .slice z2 LT.cells.length m2, .int .i64 PS] : Array Value)[o]? = some v → W4.cell? ⟨w.heap.size + 1, o, none⟩ = some v := fun o v ho => by
    rw [← hW4, ← sq]
    exact cell_one (cell_new0 wq _ 43 o v ho) (by simp) _
  have nc : ∀ o v, (#[.int .i64 0, .int .i64 0, .string ⟨#[]⟩, .slice none 0 0, .slice none 0 0, .slice none 0 0, .int .i64 PS] : Array Value)[o]? = some v → W4.cell? ⟨w.heap.size + 1 + 1, o, none⟩ = some v := fun o v ho => by
    rw [← hW4]
    have := cell_new0 (wq.alloc (.cells #[.int .i64 3, .string TX, .slice z1 LT.shape.length m1, .slice z2 LT.cells.length m2, .int .i64 PS] 43)) #[.int .i64 0, .int .i64 0, .string ⟨#[]⟩, .slice none 0 0, .slice none 0 0, .slice none 0 0, .int .i64 PS] 39 o v ho
    have e9 : (wq.alloc (.cells #[.int .i64 3, .string TX, .slice z1 LT.shape.length m1, .slice z2 LT.cells.length m2, .int .i64 PS] 43)).heap.size = w.heap.size + 1 + 1 := by simp [sq]
    rw [e9] at this
    exact this
  have nf : ∀ o, W4.frozen? ⟨w.heap.size + 1 + 1, o, none⟩ = false := fun o => by
    rw [← hW4]
    have := frozen_new (wq.alloc (.cells #[.int .i64 3, .string TX, .slice z1 LT.shape.length m1, .slice z2 LT.cells.length m2, .int .i64 PS] 43)) #[.int .i64 0, .int .i64 0, .string ⟨#[]⟩, .slice none 0 0, .slice none 0 0, .slice none 0 0, .int .i64 PS] 39 o
    have e9 : (wq.alloc (.cells #[.int .i64 3, .string TX, .slice z1 LT.shape.length m1, .slice z2 LT.cells.length m2, .int .i64 PS] 43)).heap.size = w.heap.size + 1 + 1 := by simp [sq]
    rw [e9] at this
    exact this
  have HN : Hid (∀ W, Below W4.heap.size W4 W → (∀ o v, (#[.int .i64 0, .int .i64 0, .string ⟨#[]⟩, .slice none 0 0, .slice none 0 0, .slice none 0 0, .int .i64 PS] : Array Value)[o]? = some v → W.cell? ⟨w.heap.size + 1 + 1, o, none⟩ = some v) ∧ (∀ o, W.frozen? ⟨w.heap.size + 1 + 1, o, none⟩ = false) ∧ (∀ o, o < 7 → ∃ v, W.cell? ⟨w.heap.size, o, none⟩ = some v) ∧ ∀ o, W.frozen? ⟨w.heap.size, o, none⟩ = false) := fun W hW =>
    ⟨fun o v ho => (hW.cell (p := ⟨w.heap.size + 1 + 1, o, none⟩) (by show w.heap.size + 1 + 1 < _; omega)).trans (nc o v ho), fun o => (hW.frozen (p := ⟨w.heap.size + 1 + 1, o, none⟩) (by show w.heap.size + 1 + 1 < _; omega)).trans (nf o), HRES.out W (b4q.trans (hW.mono b4q.size))⟩
  have HB4 := hide b4
  have HS4 := hide s4
  clear HBQ HDQ hW4 nc nf bq sq b4 b4q s4 HRES KS
  have HSN : Hid (∀ W, Below W4.heap.size W4 W → Sn (n + 1) w0 W p g R ws) := fun W hW => HH.out.sp.sn.next (HB4.out.trans (hW.mono HB4.out.size))
  have HRD : Hid (∀ W, Below W4.heap.size W4 W → Rd (n + 1) w0 W p g R ws A i e) := fun W hW => HH.out.next (HB4.out.trans (hW.mono HB4.out.size))
  have HDN : Hid (∀ m, Below W4.heap.size W4 (W4.drewN m)) := fun m => drewN_below (Below.refl W4.heap.size W4) m
  have c19n := fun m => (HRD.out _ (HDN.out m)).c19
  have c7n := fun m => (HSN.out _ (HDN.out m)).c7
  have c19 := (HRD.out _ (Below.refl _ _)).c19
  have c7 := (HSN.out _ (Below.refl _ _)).c7
  go_quiet (fail)
  obtain ⟨wm, hwm⟩ : ∃ wm, W4.drewN nq = wm := ⟨_, rfl⟩
  have bm : Below W4.heap.size W4 wm := by rw [← hwm]; exact HDN.out _
  rw [hwm]
  clear hwm
  go_upto_region 11 with fail
  go_quiet (fail)
  obtain ⟨w5, hw5⟩ : ∃ w5, wm.drewN nq = w5 := ⟨_, rfl⟩
  have b5 : Below W4.heap.size W4 w5 := by rw [← hw5]; exact bm.trans ((drewN_below (Below.refl wm.heap.size wm) _).mono bm.size)
  rw [hw5]
  clear hw5 HDN bm c19n c7n c19 c7
  have w50 : w5.cell? ⟨w.heap.size + 1, 0, none⟩ = some (.int .i64 3) := (b5.cell (p := ⟨w.heap.size + 1, 0, none⟩) (by show w.heap.size + 1 < _; have := HS4.out; omega)).trans (wc 0 _ rfl)
  have w51 : w5.cell? ⟨w.heap.size + 1, 1, none⟩ = some (.string TX) := (b5.cell (p := ⟨w.heap.size + 1, 1, none⟩) (by show w.heap.size + 1 < _; have := HS4.out; omega)).trans (wc 1 _ rfl)
  have HWC : Hid (∀ W, Below w5.heap.size w5 W → W.cell? ⟨w.heap.size + 1, 1, none⟩ = some (.string TX)) := fun W hW => (hW.cell (p := ⟨w.heap.size + 1, 1, none⟩) (by show w.heap.size + 1 < _; have := HS4.out; have := b5.size; omega)).trans w51
  have HB5 := hide b5
  clear wc
  have HNM := hide (name15 TX w5)
  rw [hnb] at HNM
  clear HSN HRD
  go_wp2_with fail
  refine HNM.out.mono ?_
  rintro en w6 ⟨rfl, hb6⟩
  have b6 : Below W4.heap.size W4 w6 := HB5.out.trans (hb6.mono HB5.out.size)
  have w61 := HWC.out _ hb6
  have HB6 := hide b6
  clear HNM HWC w50 w51 b5 HB5 hb6
  obtain ⟨xn, xf, xr, xg⟩ := HN.out _ b6
  have x0 := xn 0 _ rfl
  have x1 := xn 1 _ rfl
  have x2 := xn 2 _ rfl
  have x3 := xn 3 _ rfl
  have x4 := xn 4 _ rfl
  have x5 := xn 5 _ rfl
  have x6 := xn 6 _ rfl
  have y0 := xf 0
  have y2 := xf 2
  have y3 := xf 3
  have y4 := xf 4
  obtain ⟨r0, R0⟩ := xr 0 (by omega)
  obtain ⟨r1, R1⟩ := xr 1 (by omega)
  obtain ⟨r2, R2⟩ := xr 2 (by omega)
  obtain ⟨r3, R3⟩ := xr 3 (by omega)
  obtain ⟨r4, R4⟩ := xr 4 (by omega)
  obtain ⟨r5, R5⟩ := xr 5 (by omega)
  obtain ⟨r6, R6⟩ := xr 6 (by omega)
  have G0 := xg 0
  have G1 := xg 1
  have G2 := xg 2
  have G3 := xg 3
  have G4 := xg 4
  have G5 := xg 5
  have G6 := xg 6
  clear xn xf xr xg HN
  go_upto_region 14 with fail
  go_region
  all_goals
    obtain ⟨w7, hw7⟩ : ∃ w7, ((w6.setCell ⟨w.heap.size + 1 + 1, 0, none⟩ (.int .i64 2)).setCell ⟨w.heap.size + 1 + 1, 2, none⟩ (.string TX)).drew = w7 := ⟨_, rfl⟩
    go_upto_region 15 with fail
    rw [hw7]
    have v0 : w7.cell? ⟨w.heap.size + 1 + 1, 0, none⟩ = some (.int .i64 2) := by rw [← hw7]; exact cs_off (by omega) (cs_same x0)
    have v1 : w7.cell? ⟨w.heap.size + 1 + 1, 1, none⟩ = some (.int .i64 0) := by rw [← hw7]; exact cs_off (by omega) (cs_off (by omega) x1)
    have v2 : w7.cell? ⟨w.heap.size + 1 + 1, 2, none⟩ = some (.string TX) := by rw [← hw7]; exact cs_same (cs_off (by omega) x2)
    have v3 : w7.cell? ⟨w.heap.size + 1 + 1, 3, none⟩ = some (.slice none 0 0) := by rw [← hw7]; exact cs_off (by omega) (cs_off (by omega) x3)
    have v4 : w7.cell? ⟨w.heap.size + 1 + 1, 4, none⟩ = some (.slice none 0 0) := by rw [← hw7]; exact cs_off (by omega) (cs_off (by omega) x4)
    have v5 : w7.cell? ⟨w.heap.size + 1 + 1, 5, none⟩ = some (.slice none 0 0) := by rw [← hw7]; exact cs_off (by omega) (cs_off (by omega) x5)
    have v6 : w7.cell? ⟨w.heap.size + 1 + 1, 6, none⟩ = some (.int .i64 PS) := by rw [← hw7]; exact cs_off (by omega) (cs_off (by omega) x6)
    have Q0 : w7.cell? ⟨w.heap.size, 0, none⟩ = some r0 := by rw [← hw7]; exact cs_off (by omega) (cs_off (by omega) R0)
    have F0 : w7.frozen? ⟨w.heap.size, 0, none⟩ = false := by rw [← hw7]; exact fs_any (fs_any G0)
    have Q1 : w7.cell? ⟨w.heap.size, 1, none⟩ = some r1 := by rw [← hw7]; exact cs_off (by omega) (cs_off (by omega) R1)
    have F1 : w7.frozen? ⟨w.heap.size, 1, none⟩ = false := by rw [← hw7]; exact fs_any (fs_any G1)
    have Q2 : w7.cell? ⟨w.heap.size, 2, none⟩ = some r2 := by rw [← hw7]; exact cs_off (by omega) (cs_off (by omega) R2)
    have F2 : w7.frozen? ⟨w.heap.size, 2, none⟩ = false := by rw [← hw7]; exact fs_any (fs_any G2)
    have Q3 : w7.cell? ⟨w.heap.size, 3, none⟩ = some r3 := by rw [← hw7]; exact cs_off (by omega) (cs_off (by omega) R3)
    have F3 : w7.frozen? ⟨w.heap.size, 3, none⟩ = false := by rw [← hw7]; exact fs_any (fs_any G3)
    have Q4 : w7.cell? ⟨w.heap.size, 4, none⟩ = some r4 := by rw [← hw7]; exact cs_off (by omega) (cs_off (by omega) R4)
    have F4 : w7.frozen? ⟨w.heap.size, 4, none⟩ = false := by rw [← hw7]; exact fs_any (fs_any G4)
    have Q5 : w7.cell? ⟨w.heap.size, 5, none⟩ = some r5 := by rw [← hw7]; exact cs_off (by omega) (cs_off (by omega) R5)
    have F5 : w7.frozen? ⟨w.heap.size, 5, none⟩ = false := by rw [← hw7]; exact fs_any (fs_any G5)
    have Q6 : w7.cell? ⟨w.heap.size, 6, none⟩ = some r6 := by rw [← hw7]; exact cs_off (by omega) (cs_off (by omega) R6)
    have F6 : w7.frozen? ⟨w.heap.size, 6, none⟩ = false := by rw [← hw7]; exact fs_any (fs_any G6)
    have HB7 := hide (show But (Two2 w) w6 w7 by rw [← hw7]; exact (butS (butS (But.refl _ _) (two_n w)) (two_n w)).trans (But.of ((Below.refl _ _).drew)) fun j _ hj => hj)
    clear hw7 x0 x1 x2 x3 x4 x5 x6 y0 y2 y3 y4 R0 R1 R2 R3 R4 R5 R6 G0 G1 G2 G3 G4 G5 G6
    have HFIN : Hid (∀ wf, But (Two2 w) w7 wf → But (TT false p q) w wf ∧ ∃ v m, (Ending.returned (.agg #[.int .i64 2, .int .i64 0, .string TX, .slice none 0 0, .slice none 0 0, .slice none 0 0, .int .i64 PS]) : Ending) = .returned v ∧ Rd (n + 1) w0 wf p g R ws A i e ∧ Tr (n + 1) w0.heap.size m w.heap.size wf.heap.size wf (node 2 0 TX [] PS) v ∧ True) := fun wf hf => by
      have hb := two_below HB4.out HB6.out (HB7.out.trans hf fun j _ hj => hj)
      refine ⟨But.of hb, _, 1, rfl, HH.out.next hb, Tr.leaf n _ _ _ _ 2 0 TX PS HGB.out.1, trivial⟩
    clear HB6 HB4 HS4 HH HNN HG5 HGB HB7
    go_wp2
    refine bodyPost_ret (v := .agg #[.int .i64 2, .int .i64 0, .string TX, .slice none 0 0, .slice none 0 0, .slice none 0 0, .int .i64 PS]) (by simp [results, Try.results85, go_sem, Q0, Q1, Q2, Q3, Q4, Q5, Q6]) rfl (pack_out (HFIN.out _ ?_))
    repeat' first | with_reducible exact But.refl _ _ | with_reducible exact two_r w | with_reducible refine butS ?_ ?_
end Go.Proofs.Ytnaejfoighmfeaa
namespace Go.Proofs.Ytnaejfoighmfeaa
open Go.ChangeShapes Go.WideShapes Go.ChangeAt Go.RowKit
set_option maxRecDepth 100000
set_option linter.unusedVariables false
set_option linter.unusedSimpArgs false
set_option maxHeartbeats 8000000 in
theorem word_bad3_true {n : Nat} {w0 w : World} {p q : Nat} {g : Gr} {R : Raw} {ws : List Wo} {A : Ra} {i : Nat} {e : Int} (h : Rd (n + 1) w0 w p g R ws A i e) (nm : Nm) (hn : true = true → Nq w p q nm) (hi : i < ws.length) (hk3 : (wAt ws i).kind = 3) (hnb : nameB (wAt ws i).text = false) (hk0 : isT 3 g.left [wAt ws i] = false) (hk1 : isT 3 g.right [wAt ws i] = false) :
    Calls Try.prog 85 #[.pointer (some ⟨p, 0, none⟩), namV true q] w fun en w' => GvW n w0 w p q g R ws A i e true nm (wordS g e true (ws.drop i)) en w' := by
  have hw : wordS g e true (ws.drop i) = .bad 2 (wAt ws i).pos := by rw [drop_at hi]; simp [wordS, hk3, hnb, hk0, hk1]
  have hT9 : isT 3 g.left (ws.drop i) = false := by rw [drop_at hi]; exact hk0
  have hT11 : isT 3 g.right (ws.drop i) = false := by rw [drop_at hi]; exact hk1
  clear hk0 hk1
  have hpl := hide (place_at hi e)
  have hile := h.hi
  obtain ⟨W1, e1⟩ : ∃ W1, w.alloc (.cells #[.int .i64 0, .int .i64 0, .string ⟨#[]⟩, .slice none 0 0, .slice none 0 0, .slice none 0 0, .int .i64 0] 39) = W1 := ⟨_, rfl⟩
  have b1 : Below w.heap.size w W1 := by rw [← e1]; exact one_alloc _ _
  have s1 : W1.heap.size = w.heap.size + 1 := by rw [← e1]; simp
  have h1 := h.next b1
  have c14 := h1.sp.sn.c14
  have c19 := h1.c19
  have hL := h1.sp.sn.words
  have hpw := h1.sp.sn.hp2
  obtain ⟨b, off, z1, m1, z2, m2, ha, hb0, g0, g1, g2, g3, g4, gb, g5⟩ := h.sp.sn.wo.2 i hi
  rw [ha] at c14
  have hne : ((i : Int) == (ws.length : Int)) = false := by simp; omega
  have hne2 : ¬ (i : Int) = (ws.length : Int) := by omega
  have ho1 := h1.sp.sn.old
  have KS : Hid (∀ W, Below W1.heap.size W1 W → Below W1.heap.size W1 W ∧ W.cell? ⟨p, 14, none⟩ = some (.slice (some ⟨b, off, none⟩) ws.length R.cw) ∧ W.cell? ⟨p, 19, none⟩ = some (.int .i64 (i : Int)) ∧ W.cell? ⟨b, off + i * 5, none⟩ = some (.int .i64 (wAt ws i).kind) ∧ W.cell? ⟨b, off + i * 5 + 1, none⟩ = some (.string (wAt ws i).text) ∧ W.cell? ⟨b, off + i * 5 + 2, none⟩ = some (.slice z1 (wAt ws i).lit.shape.length m1) ∧ W.cell? ⟨b, off + i * 5 + 3, none⟩ = some (.slice z2 (wAt ws i).lit.cells.length m2) ∧ W.cell? ⟨b, off + i * 5 + 4, none⟩ = some (.int .i64 (wAt ws i).pos)) := fun W hW =>
    have hw := ho1.trans (hW.mono ho1.size)
    ⟨hW, (hW.cell (p := ⟨p, 14, none⟩) hpw).trans c14, (hW.cell (p := ⟨p, 19, none⟩) hpw).trans c19, (hw.cell (p := ⟨b, _, none⟩) hb0).trans g0, (hw.cell (p := ⟨b, _, none⟩) hb0).trans g1, (hw.cell (p := ⟨b, _, none⟩) hb0).trans g2, (hw.cell (p := ⟨b, _, none⟩) hb0).trans g3, (hw.cell (p := ⟨b, _, none⟩) hb0).trans g4⟩
  have HRES : Hid (∀ W, Below W1.heap.size W1 W → (∀ o, o < 7 → ∃ v, W.cell? ⟨w.heap.size, o, none⟩ = some v) ∧ ∀ o, W.frozen? ⟨w.heap.size, o, none⟩ = false) := fun W hW => by
    have hl : w.heap.size < W1.heap.size := by omega
    refine ⟨fun o ho => ?_, fun o => (hW.frozen (p := ⟨w.heap.size, o, none⟩) hl).trans (by rw [← e1]; exact frozen_new _ _ _ _)⟩
    have hcc : ∃ v, W1.cell? ⟨w.heap.size, o, none⟩ = some v := by
      rw [← e1]
      have : o = 0 ∨ o = 1 ∨ o = 2 ∨ o = 3 ∨ o = 4 ∨ o = 5 ∨ o = 6 := by omega
      rcases this with rfl | rfl | rfl | rfl | rfl | rfl | rfl <;> exact ⟨_, cell_new0 w _ 39 _ _ rfl⟩
    obtain ⟨v, hv⟩ := hcc
    exact ⟨v, (hW.cell (p := ⟨w.heap.size, o, none⟩) hl).trans hv⟩
  have HE := hide e1
  have HG5 := hide g5
  have HGB := hide gb
  have HH := hide h
  have HB1 := hide b1
  have HNN := hide hn
  have hNV : namV true q = .pointer (some ⟨q, 0, none⟩) := rfl
  rw [hNV]
  clear hNV
  unfold GvW
  rw [hw]
  obtain ⟨LT, hLT⟩ : ∃ LT, (wAt ws i).lit = LT := ⟨_, rfl⟩
  rw [hLT] at KS HG5 HGB
  try rw [hLT]
  generalize (wAt ws i).text = TX at *
  generalize (wAt ws i).pos = PS at *
  generalize (wAt ws i).kind = KI at *
  subst hk3
  clear h h1 e1 b1 hn g0 g1 g2 g3 g4 g5 hLT c14 c19 ho1 gb
  obtain ⟨L, hLL⟩ : ∃ L, ws.length = L := ⟨_, rfl⟩
  rw [hLL] at KS hne hne2 hile hL hi
  have HLL := hide hLL
  clear hLL
  generalize R.cw = cw at *
  go_enter Try.func85, Try.ntmps85
  go_upto_region 1 with fail
  rw [HE.out]
  obtain ⟨-, k14, k19, -⟩ := KS.out W1 (Below.refl _ _)
  go_quiet (fail)
  go_upto_region 3 with fail
  obtain ⟨wq, hwq⟩ : ∃ wq, W1.drewN nq = wq := ⟨_, rfl⟩
  have bq : Below W1.heap.size W1 wq := by rw [← hwq]; exact drewN_below (Below.refl W1.heap.size W1) _
  have sq : wq.heap.size = w.heap.size + 1 := by rw [← hwq]; exact s1
  have HBQ := hide bq
  have HDQ : Hid (Below W1.heap.size W1 wq.drew) := bq.drew
  rw [hwq]
  clear hwq k14 k19
  obtain ⟨-, k14, k19, k0, k1, k2, k3, k4⟩ := KS.out wq bq
  go_region_held3 (fun W => Below W1.heap.size W1 W ∧ W.cell? ⟨p, 14, none⟩ = some (.slice (some ⟨b, off, none⟩) L cw) ∧ W.cell? ⟨p, 19, none⟩ = some (.int .i64 (i : Int)) ∧ W.cell? ⟨b, off + i * 5, none⟩ = some (.int .i64 3) ∧ W.cell? ⟨b, off + i * 5 + 1, none⟩ = some (.string TX) ∧ W.cell? ⟨b, off + i * 5 + 2, none⟩ = some (.slice z1 LT.shape.length m1) ∧ W.cell? ⟨b, off + i * 5 + 3, none⟩ = some (.slice z2 LT.cells.length m2) ∧ W.cell? ⟨b, off + i * 5 + 4, none⟩ = some (.int .i64 PS)) (first | with_reducible exact KS.out _ HDQ.out | with_reducible exact KS.out _ (by with_reducible assumption) | with_reducible exact KS.out _ (HDQ.out.alloc HDQ.out.size _) | with_reducible exact KS.out _ (HBQ.out.alloc HBQ.out.size _) | with_reducible exact KS.out _ ((HBQ.out.alloc HBQ.out.size _).drew)) (fail)
  clear k14 k19 k0 k1 k2 k3 k4
  go_upto_region 9 with fail
  obtain ⟨W4, hW4⟩ : ∃ W4, ((wq.alloc (.cells #[.int .i64 3, .string TX, .slice z1 LT.shape.length m1, .slice z2 LT.cells.length m2, .int .i64 PS] 43)).alloc (.cells #[.int .i64 0, .int .i64 0, .string ⟨#[]⟩, .slice none 0 0, .slice none 0 0, .slice none 0 0, .int .i64 PS] 39)).drew = W4 := ⟨_, rfl⟩
  rw [hW4]
  have s4 : W4.heap.size = w.heap.size + 3 := by rw [← hW4]; show (((wq.alloc _).alloc _)).heap.size = _; simp [sq]
  have b4q : Below W1.heap.size W1 W4 := by rw [← hW4]; exact ((bq.alloc bq.size _).alloc (by simp; have := bq.size; omega) _).drew
  have b4 : Below w.heap.size w W4 := HB1.out.trans (b4q.mono HB1.out.size)
  have wc : ∀ o v, (#[.int .i64 3, .string TX, .slice z1 LT.shape.length m1, .slice z2 LT.cells.length m2, .int .i64 PS] : Array Value)[o]? = some v → W4.cell? ⟨w.heap.size + 1, o, none⟩ = some v := fun o v ho => by
    rw [← hW4, ← sq]
    exact cell_one (cell_new0 wq _ 43 o v ho) (by simp) _
  have nc : ∀ o v, (#[.int .i64 0, .int .i64 0, .string ⟨#[]⟩, .slice none 0 0, .slice none 0 0, .slice none 0 0, .int .i64 PS] : Array Value)[o]? = some v → W4.cell? ⟨w.heap.size + 1 + 1, o, none⟩ = some v := fun o v ho => by
    rw [← hW4]
    have := cell_new0 (wq.alloc (.cells #[.int .i64 3, .string TX, .slice z1 LT.shape.length m1, .slice z2 LT.cells.length m2, .int .i64 PS] 43)) #[.int .i64 0, .int .i64 0, .string ⟨#[]⟩, .slice none 0 0, .slice none 0 0, .slice none 0 0, .int .i64 PS] 39 o v ho
    have e9 : (wq.alloc (.cells #[.int .i64 3, .string TX, .slice z1 LT.shape.length m1, .slice z2 LT.cells.length m2, .int .i64 PS] 43)).heap.size = w.heap.size + 1 + 1 := by simp [sq]
    rw [e9] at this
    exact this
  have nf : ∀ o, W4.frozen? ⟨w.heap.size + 1 + 1, o, none⟩ = false := fun o => by
    rw [← hW4]
    have := frozen_new (wq.alloc (.cells #[.int .i64 3, .string TX, .slice z1 LT.shape.length m1, .slice z2 LT.cells.length m2, .int .i64 PS] 43)) #[.int .i64 0, .int .i64 0, .string ⟨#[]⟩, .slice none 0 0, .slice none 0 0, .slice none 0 0, .int .i64 PS] 39 o
    have e9 : (wq.alloc (.cells #[.int .i64 3, .string TX, .slice z1 LT.shape.length m1, .slice z2 LT.cells.length m2, .int .i64 PS] 43)).heap.size = w.heap.size + 1 + 1 := by simp [sq]
    rw [e9] at this
    exact this
  have HN : Hid (∀ W, Below W4.heap.size W4 W → (∀ o v, (#[.int .i64 0, .int .i64 0, .string ⟨#[]⟩, .slice none 0 0, .slice none 0 0, .slice none 0 0, .int .i64 PS] : Array Value)[o]? = some v → W.cell? ⟨w.heap.size + 1 + 1, o, none⟩ = some v) ∧ (∀ o, W.frozen? ⟨w.heap.size + 1 + 1, o, none⟩ = false) ∧ (∀ o, o < 7 → ∃ v, W.cell? ⟨w.heap.size, o, none⟩ = some v) ∧ ∀ o, W.frozen? ⟨w.heap.size, o, none⟩ = false) := fun W hW =>
    ⟨fun o v ho => (hW.cell (p := ⟨w.heap.size + 1 + 1, o, none⟩) (by show w.heap.size + 1 + 1 < _; omega)).trans (nc o v ho), fun o => (hW.frozen (p := ⟨w.heap.size + 1 + 1, o, none⟩) (by show w.heap.size + 1 + 1 < _; omega)).trans (nf o), HRES.out W (b4q.trans (hW.mono b4q.size))⟩
  have HB4 := hide b4
  have HS4 := hide s4
  clear HBQ HDQ hW4 nc nf bq sq b4 b4q s4 HRES KS
  have HSN : Hid (∀ W, Below W4.heap.size W4 W → Sn (n + 1) w0 W p g R ws) := fun W hW => HH.out.sp.sn.next (HB4.out.trans (hW.mono HB4.out.size))
  have HRD : Hid (∀ W, Below W4.heap.size W4 W → Rd (n + 1) w0 W p g R ws A i e) := fun W hW => HH.out.next (HB4.out.trans (hW.mono HB4.out.size))
  have HDN : Hid (∀ m, Below W4.heap.size W4 (W4.drewN m)) := fun m => drewN_below (Below.refl W4.heap.size W4) m
  have c19n := fun m => (HRD.out _ (HDN.out m)).c19
  have c7n := fun m => (HSN.out _ (HDN.out m)).c7
  have c19 := (HRD.out _ (Below.refl _ _)).c19
  have c7 := (HSN.out _ (Below.refl _ _)).c7
  have H9 := hide (fun m => is69 (HSN.out _ (HDN.out m)) i 3 g.left (by omega))
  rw [hT9] at H9
  go_quiet ((go_at_call 69; first | exact Calls.quiet_of_same (H9.out 0) | exact Calls.quiet_of_same (H9.out _)))
  obtain ⟨wm, hwm⟩ : ∃ wm, W4.drewN nq = wm := ⟨_, rfl⟩
  have bm : Below W4.heap.size W4 wm := by rw [← hwm]; exact HDN.out _
  have HBM := hide bm
  rw [hwm]
  go_upto_region 11 with fail
  have HDM : Hid (∀ m, Below W4.heap.size W4 (wm.drewN m)) := fun m => HBM.out.trans ((drewN_below (Below.refl wm.heap.size wm) m).mono HBM.out.size)
  have d19n := fun m => (HRD.out _ (HDM.out m)).c19
  have d8n := fun m => (HSN.out _ (HDM.out m)).c8
  have d19 := (HRD.out _ bm).c19
  have d8 := (HSN.out _ bm).c8
  have H11 := hide (fun m => is69 (HSN.out _ (HDM.out m)) i 3 g.right (by omega))
  rw [hT11] at H11
  clear hwm
  go_quiet ((go_at_call 69; first | exact Calls.quiet_of_same (H11.out 0) | exact Calls.quiet_of_same (H11.out _)))
  obtain ⟨w5, hw5⟩ : ∃ w5, wm.drewN nq = w5 := ⟨_, rfl⟩
  have b5 : Below W4.heap.size W4 w5 := by rw [← hw5]; exact HDM.out _
  rw [hw5]
  clear hw5 H9 H11 HDN HDM HBM bm d19n d8n d19 d8 c19n c7n c19 c7
  have w50 : w5.cell? ⟨w.heap.size + 1, 0, none⟩ = some (.int .i64 3) := (b5.cell (p := ⟨w.heap.size + 1, 0, none⟩) (by show w.heap.size + 1 < _; have := HS4.out; omega)).trans (wc 0 _ rfl)
  have w51 : w5.cell? ⟨w.heap.size + 1, 1, none⟩ = some (.string TX) := (b5.cell (p := ⟨w.heap.size + 1, 1, none⟩) (by show w.heap.size + 1 < _; have := HS4.out; omega)).trans (wc 1 _ rfl)
  have HWC : Hid (∀ W, Below w5.heap.size w5 W → W.cell? ⟨w.heap.size + 1, 1, none⟩ = some (.string TX)) := fun W hW => (hW.cell (p := ⟨w.heap.size + 1, 1, none⟩) (by show w.heap.size + 1 < _; have := HS4.out; have := b5.size; omega)).trans w51
  have HB5 := hide b5
  clear wc
  have HNM := hide (name15 TX w5)
  rw [hnb] at HNM
  have HRF := hide (fun W (hW : Below w5.heap.size w5 W) => refuse22 (HRD.out W (b5.trans (hW.mono b5.size))) 2)
  rw [hpl.out] at HRF
  have HBW := hide (HB4.out.trans (b5.mono HB4.out.size))
  clear HSN HRD HWC
  go_wp2_with fail
  refine HNM.out.mono ?_
  rintro en w6 ⟨rfl, hb6⟩
  clear HNM
  have HB6 := hide hb6
  go_wp2_with fail
  refine (HRF.out _ HB6.out).mono ?_
  rintro en w7 ⟨rfl, hb7⟩
  go_wp2
  exact ⟨rfl, But.of ((HBW.out.trans (HB6.out.mono HBW.out.size)).trans (hb7.mono (Nat.le_trans HBW.out.size HB6.out.size))), rfl⟩
set_option maxHeartbeats 8000000 in
theorem word_bad3_false {n : Nat} {w0 w : World} {p q : Nat} {g : Gr} {R : Raw} {ws : List Wo} {A : Ra} {i : Nat} {e : Int} (h : Rd (n + 1) w0 w p g R ws A i e) (nm : Nm) (hn : false = true → Nq w p q nm) (hi : i < ws.length) (hk3 : (wAt ws i).kind = 3) (hnb : nameB (wAt ws i).text = false) :
    Calls Try.prog 85 #[.pointer (some ⟨p, 0, none⟩), namV false q] w fun en w' => GvW n w0 w p q g R ws A i e false nm (wordS g e false (ws.drop i)) en w' := by
  have hw : wordS g e false (ws.drop i) = .bad 2 (wAt ws i).pos := by rw [drop_at hi]; simp [wordS, hk3, hnb]
  have hpl := hide (place_at hi e)
  have hile := h.hi
  obtain ⟨W1, e1⟩ : ∃ W1, w.alloc (.cells #[.int .i64 0, .int .i64 0, .string ⟨#[]⟩, .slice none 0 0, .slice none 0 0, .slice none 0 0, .int .i64 0] 39) = W1 := ⟨_, rfl⟩
  have b1 : Below w.heap.size w W1 := by rw [← e1]; exact one_alloc _ _
  have s1 : W1.heap.size = w.heap.size + 1 := by rw [← e1]; simp
  have h1 := h.next b1
  have c14 := h1.sp.sn.c14
  have c19 := h1.c19
  have hL := h1.sp.sn.words
  have hpw := h1.sp.sn.hp2
  obtain ⟨b, off, z1, m1, z2, m2, ha, hb0, g0, g1, g2, g3, g4, gb, g5⟩ := h.sp.sn.wo.2 i hi
  rw [ha] at c14
  have hne : ((i : Int) == (ws.length : Int)) = false := by simp; omega
  have hne2 : ¬ (i : Int) = (ws.length : Int) := by omega
  have ho1 := h1.sp.sn.old
  have KS : Hid (∀ W, Below W1.heap.size W1 W → Below W1.heap.size W1 W ∧ W.cell? ⟨p, 14, none⟩ = some (.slice (some ⟨b, off, none⟩) ws.length R.cw) ∧ W.cell? ⟨p, 19, none⟩ = some (.int .i64 (i : Int)) ∧ W.cell? ⟨b, off + i * 5, none⟩ = some (.int .i64 (wAt ws i).kind) ∧ W.cell? ⟨b, off + i * 5 + 1, none⟩ = some (.string (wAt ws i).text) ∧ W.cell? ⟨b, off + i * 5 + 2, none⟩ = some (.slice z1 (wAt ws i).lit.shape.length m1) ∧ W.cell? ⟨b, off + i * 5 + 3, none⟩ = some (.slice z2 (wAt ws i).lit.cells.length m2) ∧ W.cell? ⟨b, off + i * 5 + 4, none⟩ = some (.int .i64 (wAt ws i).pos)) := fun W hW =>
    have hw := ho1.trans (hW.mono ho1.size)
    ⟨hW, (hW.cell (p := ⟨p, 14, none⟩) hpw).trans c14, (hW.cell (p := ⟨p, 19, none⟩) hpw).trans c19, (hw.cell (p := ⟨b, _, none⟩) hb0).trans g0, (hw.cell (p := ⟨b, _, none⟩) hb0).trans g1, (hw.cell (p := ⟨b, _, none⟩) hb0).trans g2, (hw.cell (p := ⟨b, _, none⟩) hb0).trans g3, (hw.cell (p := ⟨b, _, none⟩) hb0).trans g4⟩
  have HRES : Hid (∀ W, Below W1.heap.size W1 W → (∀ o, o < 7 → ∃ v, W.cell? ⟨w.heap.size, o, none⟩ = some v) ∧ ∀ o, W.frozen? ⟨w.heap.size, o, none⟩ = false) := fun W hW => by
    have hl : w.heap.size < W1.heap.size := by omega
    refine ⟨fun o ho => ?_, fun o => (hW.frozen (p := ⟨w.heap.size, o, none⟩) hl).trans (by rw [← e1]; exact frozen_new _ _ _ _)⟩
    have hcc : ∃ v, W1.cell? ⟨w.heap.size, o, none⟩ = some v := by
      rw [← e1]
      have : o = 0 ∨ o = 1 ∨ o = 2 ∨ o = 3 ∨ o = 4 ∨ o = 5 ∨ o = 6 := by omega
      rcases this with rfl | rfl | rfl | rfl | rfl | rfl | rfl <;> exact ⟨_, cell_new0 w _ 39 _ _ rfl⟩
    obtain ⟨v, hv⟩ := hcc
    exact ⟨v, (hW.cell (p := ⟨w.heap.size, o, none⟩) hl).trans hv⟩
  have HE := hide e1
  have HG5 := hide g5
  have HGB := hide gb
  have HH := hide h
  have HB1 := hide b1
  have HNN := hide hn
  have hNV : namV false q = .pointer none := rfl
  rw [hNV]
  clear hNV
  unfold GvW
  rw [hw]
  obtain ⟨LT, hLT⟩ : ∃ LT, (wAt ws i).lit = LT := ⟨_, rfl⟩
  rw [hLT] at KS HG5 HGB
  try rw [hLT]
  generalize (wAt ws i).text = TX at *
  generalize (wAt ws i).pos = PS at *
  generalize (wAt ws i).kind = KI at *
  subst hk3
  clear h h1 e1 b1 hn g0 g1 g2 g3 g4 g5 hLT c14 c19 ho1 gb
  obtain ⟨L, hLL⟩ : ∃ L, ws.length = L := ⟨_, rfl⟩
  rw [hLL] at KS hne hne2 hile hL hi
  have HLL := hide hLL
  clear hLL
  generalize R.cw = cw at *
  go_enter Try.func85, Try.ntmps85
  go_upto_region 1 with fail
  rw [HE.out]
  obtain ⟨-, k14, k19, -⟩ := KS.out W1 (Below.refl _ _)
  go_quiet (fail)
  go_upto_region 3 with fail
  obtain ⟨wq, hwq⟩ : ∃ wq, W1.drewN nq = wq := ⟨_, rfl⟩
  have bq : Below W1.heap.size W1 wq := by rw [← hwq]; exact drewN_below (Below.refl W1.heap.size W1) _
  have sq : wq.heap.size = w.heap.size + 1 := by rw [← hwq]; exact s1
  have HBQ := hide bq
  have HDQ : Hid (Below W1.heap.size W1 wq.drew) := bq.drew
  rw [hwq]
  clear hwq k14 k19
  obtain ⟨-, k14, k19, k0, k1, k2, k3, k4⟩ := KS.out wq bq
  go_region_held3 (fun W => Below W1.heap.size W1 W ∧ W.cell? ⟨p, 14, none⟩ = some (.slice (some ⟨b, off, none⟩) L cw) ∧ W.cell? ⟨p, 19, none⟩ = some (.int .i64 (i : Int)) ∧ W.cell? ⟨b, off + i * 5, none⟩ = some (.int .i64 3) ∧ W.cell? ⟨b, off + i * 5 + 1, none⟩ = some (.string TX) ∧ W.cell? ⟨b, off + i * 5 + 2, none⟩ = some (.slice z1 LT.shape.length m1) ∧ W.cell? ⟨b, off + i * 5 + 3, none⟩ = some (.slice z2 LT.cells.length m2) ∧ W.cell? ⟨b, off + i * 5 + 4, none⟩ = some (.int .i64 PS)) (first | with_reducible exact KS.out _ HDQ.out | with_reducible exact KS.out _ (by with_reducible assumption) | with_reducible exact KS.out _ (HDQ.out.alloc HDQ.out.size _) | with_reducible exact KS.out _ (HBQ.out.alloc HBQ.out.size _) | with_reducible exact KS.out _ ((HBQ.out.alloc HBQ.out.size _).drew)) (fail)
  clear k14 k19 k0 k1 k2 k3 k4
  go_upto_region 9 with fail
  obtain ⟨W4, hW4⟩ : ∃ W4, ((wq.alloc (.cells #[.int .i64 3, .string TX, .slice z1 LT.shape.length m1, .slice z2 LT.cells.length m2, .int .i64 PS] 43)).alloc (.cells #[.int .i64 0, .int .i64 0, .string ⟨#[]⟩, .slice none 0 0, .slice none 0 0, .slice none 0 0, .int .i64 PS] 39)).drew = W4 := ⟨_, rfl⟩
  rw [hW4]
  have s4 : W4.heap.size = w.heap.size + 3 := by rw [← hW4]; show (((wq.alloc _).alloc _)).heap.size = _; simp [sq]
  have b4q : Below W1.heap.size W1 W4 := by rw [← hW4]; exact ((bq.alloc bq.size _).alloc (by simp; have := bq.size; omega) _).drew
  have b4 : Below w.heap.size w W4 := HB1.out.trans (b4q.mono HB1.out.size)
  have wc : ∀ o v, (#[.int .i64 3, .string TX, .slice z1 LT.shape.length m1, .slice z2 LT.cells.length m2, .int .i64 PS] : Array Value)[o]? = some v → W4.cell? ⟨w.heap.size + 1, o, none⟩ = some v := fun o v ho => by
    rw [← hW4, ← sq]
    exact cell_one (cell_new0 wq _ 43 o v ho) (by simp) _
  have nc : ∀ o v, (#[.int .i64 0, .int .i64 0, .string ⟨#[]⟩, .slice none 0 0, .slice none 0 0, .slice none 0 0, .int .i64 PS] : Array Value)[o]? = some v → W4.cell? ⟨w.heap.size + 1 + 1, o, none⟩ = some v := fun o v ho => by
    rw [← hW4]
    have := cell_new0 (wq.alloc (.cells #[.int .i64 3, .string TX, .slice z1 LT.shape.length m1, .slice z2 LT.cells.length m2, .int .i64 PS] 43)) #[.int .i64 0, .int .i64 0, .string ⟨#[]⟩, .slice none 0 0, .slice none 0 0, .slice none 0 0, .int .i64 PS] 39 o v ho
    have e9 : (wq.alloc (.cells #[.int .i64 3, .string TX, .slice z1 LT.shape.length m1, .slice z2 LT.cells.length m2, .int .i64 PS] 43)).heap.size = w.heap.size + 1 + 1 := by simp [sq]
    rw [e9] at this
    exact this
  have nf : ∀ o, W4.frozen? ⟨w.heap.size + 1 + 1, o, none⟩ = false := fun o => by
    rw [← hW4]
    have := frozen_new (wq.alloc (.cells #[.int .i64 3, .string TX, .slice z1 LT.shape.length m1, .slice z2 LT.cells.length m2, .int .i64 PS] 43)) #[.int .i64 0, .int .i64 0, .string ⟨#[]⟩, .slice none 0 0, .slice none 0 0, .slice none 0 0, .int .i64 PS] 39 o
    have e9 : (wq.alloc (.cells #[.int .i64 3, .string TX, .slice z1 LT.shape.length m1, .slice z2 LT.cells.length m2, .int .i64 PS] 43)).heap.size = w.heap.size + 1 + 1 := by simp [sq]
    rw [e9] at this
    exact this
  have HN : Hid (∀ W, Below W4.heap.size W4 W → (∀ o v, (#[.int .i64 0, .int .i64 0, .string ⟨#[]⟩, .slice none 0 0, .slice none 0 0, .slice none 0 0, .int .i64 PS] : Array Value)[o]? = some v → W.cell? ⟨w.heap.size + 1 + 1, o, none⟩ = some v) ∧ (∀ o, W.frozen? ⟨w.heap.size + 1 + 1, o, none⟩ = false) ∧ (∀ o, o < 7 → ∃ v, W.cell? ⟨w.heap.size, o, none⟩ = some v) ∧ ∀ o, W.frozen? ⟨w.heap.size, o, none⟩ = false) := fun W hW =>
    ⟨fun o v ho => (hW.cell (p := ⟨w.heap.size + 1 + 1, o, none⟩) (by show w.heap.size + 1 + 1 < _; omega)).trans (nc o v ho), fun o => (hW.frozen (p := ⟨w.heap.size + 1 + 1, o, none⟩) (by show w.heap.size + 1 + 1 < _; omega)).trans (nf o), HRES.out W (b4q.trans (hW.mono b4q.size))⟩
  have HB4 := hide b4
  have HS4 := hide s4
  clear HBQ HDQ hW4 nc nf bq sq b4 b4q s4 HRES KS
  have HSN : Hid (∀ W, Below W4.heap.size W4 W → Sn (n + 1) w0 W p g R ws) := fun W hW => HH.out.sp.sn.next (HB4.out.trans (hW.mono HB4.out.size))
  have HRD : Hid (∀ W, Below W4.heap.size W4 W → Rd (n + 1) w0 W p g R ws A i e) := fun W hW => HH.out.next (HB4.out.trans (hW.mono HB4.out.size))
  have HDN : Hid (∀ m, Below W4.heap.size W4 (W4.drewN m)) := fun m => drewN_below (Below.refl W4.heap.size W4) m
  have c19n := fun m => (HRD.out _ (HDN.out m)).c19
  have c7n := fun m => (HSN.out _ (HDN.out m)).c7
  have c19 := (HRD.out _ (Below.refl _ _)).c19
  have c7 := (HSN.out _ (Below.refl _ _)).c7
  go_quiet (fail)
  obtain ⟨wm, hwm⟩ : ∃ wm, W4.drewN nq = wm := ⟨_, rfl⟩
  have bm : Below W4.heap.size W4 wm := by rw [← hwm]; exact HDN.out _
  rw [hwm]
  clear hwm
  go_upto_region 11 with fail
  go_quiet (fail)
  obtain ⟨w5, hw5⟩ : ∃ w5, wm.drewN nq = w5 := ⟨_, rfl⟩
  have b5 : Below W4.heap.size W4 w5 := by rw [← hw5]; exact bm.trans ((drewN_below (Below.refl wm.heap.size wm) _).mono bm.size)
  rw [hw5]
  clear hw5 HDN bm c19n c7n c19 c7
  have w50 : w5.cell? ⟨w.heap.size + 1, 0, none⟩ = some (.int .i64 3) := (b5.cell (p := ⟨w.heap.size + 1, 0, none⟩) (by show w.heap.size + 1 < _; have := HS4.out; omega)).trans (wc 0 _ rfl)
  have w51 : w5.cell? ⟨w.heap.size + 1, 1, none⟩ = some (.string TX) := (b5.cell (p := ⟨w.heap.size + 1, 1, none⟩) (by show w.heap.size + 1 < _; have := HS4.out; omega)).trans (wc 1 _ rfl)
  have HWC : Hid (∀ W, Below w5.heap.size w5 W → W.cell? ⟨w.heap.size + 1, 1, none⟩ = some (.string TX)) := fun W hW => (hW.cell (p := ⟨w.heap.size + 1, 1, none⟩) (by show w.heap.size + 1 < _; have := HS4.out; have := b5.size; omega)).trans w51
  have HB5 := hide b5
  clear wc
  have HNM := hide (name15 TX w5)
  rw [hnb] at HNM
  have HRF := hide (fun W (hW : Below w5.heap.size w5 W) => refuse22 (HRD.out W (b5.trans (hW.mono b5.size))) 2)
  rw [hpl.out] at HRF
  have HBW := hide (HB4.out.trans (b5.mono HB4.out.size))
  clear HSN HRD HWC
  go_wp2_with fail
  refine HNM.out.mono ?_
  rintro en w6 ⟨rfl, hb6⟩
  clear HNM
  have HB6 := hide hb6
  go_wp2_with fail
  refine (HRF.out _ HB6.out).mono ?_
  rintro en w7 ⟨rfl, hb7⟩
  go_wp2
  exact ⟨rfl, But.of ((HBW.out.trans (HB6.out.mono HBW.out.size)).trans (hb7.mono (Nat.le_trans HBW.out.size HB6.out.size))), rfl⟩
set_option maxHeartbeats 8000000 in
theorem word_bad_true {n : Nat} {w0 w : World} {p q : Nat} {g : Gr} {R : Raw} {ws : List Wo} {A : Ra} {i : Nat} {e : Int} (h : Rd (n + 1) w0 w p g R ws A i e) (nm : Nm) (hn : true = true → Nq w p q nm) (hi : i < ws.length) (hk1 : (wAt ws i).kind ≠ 1) (hk2 : (wAt ws i).kind ≠ 2) (hk3 : (wAt ws i).kind ≠ 3) :
    Calls Try.prog 85 #[.pointer (some ⟨p, 0, none⟩), namV true q] w fun en w' => GvW n w0 w p q g R ws A i e true nm (wordS g e true (ws.drop i)) en w' := by
  have hz : ∀ t, isT 3 t [wAt ws i] = false := fun t => by simp [isT, hk3]
  have hw : wordS g e true (ws.drop i) = .bad 2 (wAt ws i).pos := by rw [drop_at hi]; simp [wordS, hk1, hk2, hk3, hz]
  have hT9 : isT 3 g.left (ws.drop i) = false := by rw [drop_at hi]; exact hz _
  have hT11 : isT 3 g.right (ws.drop i) = false := by rw [drop_at hi]; exact hz _
  clear hz
  have kq1 : ((wAt ws i).kind == 1) = false := by simpa using hk1
  have kq2 : ((wAt ws i).kind == 2) = false := by simpa using hk2
  have kq3 : ((wAt ws i).kind == 3) = false := by simpa using hk3
  have hpl := hide (place_at hi e)
  have hile := h.hi
  obtain ⟨W1, e1⟩ : ∃ W1, w.alloc (.cells #[.int .i64 0, .int .i64 0, .string ⟨#[]⟩, .slice none 0 0, .slice none 0 0, .slice none 0 0, .int .i64 0] 39) = W1 := ⟨_, rfl⟩
  have b1 : Below w.heap.size w W1 := by rw [← e1]; exact one_alloc _ _
  have s1 : W1.heap.size = w.heap.size + 1 := by rw [← e1]; simp
  have h1 := h.next b1
  have c14 := h1.sp.sn.c14
  have c19 := h1.c19
  have hL := h1.sp.sn.words
  have hpw := h1.sp.sn.hp2
  obtain ⟨b, off, z1, m1, z2, m2, ha, hb0, g0, g1, g2, g3, g4, gb, g5⟩ := h.sp.sn.wo.2 i hi
  rw [ha] at c14
  have hne : ((i : Int) == (ws.length : Int)) = false := by simp; omega
  have hne2 : ¬ (i : Int) = (ws.length : Int) := by omega
  have ho1 := h1.sp.sn.old
  have KS : Hid (∀ W, Below W1.heap.size W1 W → Below W1.heap.size W1 W ∧ W.cell? ⟨p, 14, none⟩ = some (.slice (some ⟨b, off, none⟩) ws.length R.cw) ∧ W.cell? ⟨p, 19, none⟩ = some (.int .i64 (i : Int)) ∧ W.cell? ⟨b, off + i * 5, none⟩ = some (.int .i64 (wAt ws i).kind) ∧ W.cell? ⟨b, off + i * 5 + 1, none⟩ = some (.string (wAt ws i).text) ∧ W.cell? ⟨b, off + i * 5 + 2, none⟩ = some (.slice z1 (wAt ws i).lit.shape.length m1) ∧ W.cell? ⟨b, off + i * 5 + 3, none⟩ = some (.slice z2 (wAt ws i).lit.cells.length m2) ∧ W.cell? ⟨b, off + i * 5 + 4, none⟩ = some (.int .i64 (wAt ws i).pos)) := fun W hW =>
    have hw := ho1.trans (hW.mono ho1.size)
    ⟨hW, (hW.cell (p := ⟨p, 14, none⟩) hpw).trans c14, (hW.cell (p := ⟨p, 19, none⟩) hpw).trans c19, (hw.cell (p := ⟨b, _, none⟩) hb0).trans g0, (hw.cell (p := ⟨b, _, none⟩) hb0).trans g1, (hw.cell (p := ⟨b, _, none⟩) hb0).trans g2, (hw.cell (p := ⟨b, _, none⟩) hb0).trans g3, (hw.cell (p := ⟨b, _, none⟩) hb0).trans g4⟩
  have HRES : Hid (∀ W, Below W1.heap.size W1 W → (∀ o, o < 7 → ∃ v, W.cell? ⟨w.heap.size, o, none⟩ = some v) ∧ ∀ o, W.frozen? ⟨w.heap.size, o, none⟩ = false) := fun W hW => by
    have hl : w.heap.size < W1.heap.size := by omega
    refine ⟨fun o ho => ?_, fun o => (hW.frozen (p := ⟨w.heap.size, o, none⟩) hl).trans (by rw [← e1]; exact frozen_new _ _ _ _)⟩
    have hcc : ∃ v, W1.cell? ⟨w.heap.size, o, none⟩ = some v := by
      rw [← e1]
      have : o = 0 ∨ o = 1 ∨ o = 2 ∨ o = 3 ∨ o = 4 ∨ o = 5 ∨ o = 6 := by omega
      rcases this with rfl | rfl | rfl | rfl | rfl | rfl | rfl <;> exact ⟨_, cell_new0 w _ 39 _ _ rfl⟩
    obtain ⟨v, hv⟩ := hcc
    exact ⟨v, (hW.cell (p := ⟨w.heap.size, o, none⟩) hl).trans hv⟩
  have HE := hide e1
  have HG5 := hide g5
  have HGB := hide gb
  have HH := hide h
  have HB1 := hide b1
  have HNN := hide hn
  have hNV : namV true q = .pointer (some ⟨q, 0, none⟩) := rfl
  rw [hNV]
  clear hNV
  unfold GvW
  rw [hw]
  obtain ⟨LT, hLT⟩ : ∃ LT, (wAt ws i).lit = LT := ⟨_, rfl⟩
  rw [hLT] at KS HG5 HGB
  try rw [hLT]
  generalize (wAt ws i).text = TX at *
  generalize (wAt ws i).pos = PS at *
  generalize (wAt ws i).kind = KI at *
  clear h h1 e1 b1 hn g0 g1 g2 g3 g4 g5 hLT c14 c19 ho1 gb
  obtain ⟨L, hLL⟩ : ∃ L, ws.length = L := ⟨_, rfl⟩
  rw [hLL] at KS hne hne2 hile hL hi
  have HLL := hide hLL
  clear hLL
  generalize R.cw = cw at *
  go_enter Try.func85, Try.ntmps85
  go_upto_region 1 with fail
  rw [HE.out]
  obtain ⟨-, k14, k19, -⟩ := KS.out W1 (Below.refl _ _)
  go_quiet (fail)
  go_upto_region 3 with fail
  obtain ⟨wq, hwq⟩ : ∃ wq, W1.drewN nq = wq := ⟨_, rfl⟩
  have bq : Below W1.heap.size W1 wq := by rw [← hwq]; exact drewN_below (Below.refl W1.heap.size W1) _
  have sq : wq.heap.size = w.heap.size + 1 := by rw [← hwq]; exact s1
  have HBQ := hide bq
  have HDQ : Hid (Below W1.heap.size W1 wq.drew) := bq.drew
  rw [hwq]
  clear hwq k14 k19
  obtain ⟨-, k14, k19, k0, k1, k2, k3, k4⟩ := KS.out wq bq
  go_region_held3 (fun W => Below W1.heap.size W1 W ∧ W.cell? ⟨p, 14, none⟩ = some (.slice (some ⟨b, off, none⟩) L cw) ∧ W.cell? ⟨p, 19, none⟩ = some (.int .i64 (i : Int)) ∧ W.cell? ⟨b, off + i * 5, none⟩ = some (.int .i64 KI) ∧ W.cell? ⟨b, off + i * 5 + 1, none⟩ = some (.string TX) ∧ W.cell? ⟨b, off + i * 5 + 2, none⟩ = some (.slice z1 LT.shape.length m1) ∧ W.cell? ⟨b, off + i * 5 + 3, none⟩ = some (.slice z2 LT.cells.length m2) ∧ W.cell? ⟨b, off + i * 5 + 4, none⟩ = some (.int .i64 PS)) (first | with_reducible exact KS.out _ HDQ.out | with_reducible exact KS.out _ (by with_reducible assumption) | with_reducible exact KS.out _ (HDQ.out.alloc HDQ.out.size _) | with_reducible exact KS.out _ (HBQ.out.alloc HBQ.out.size _) | with_reducible exact KS.out _ ((HBQ.out.alloc HBQ.out.size _).drew)) (fail)
  clear k14 k19 k0 k1 k2 k3 k4
  go_upto_region 9 with fail
  obtain ⟨W4, hW4⟩ : ∃ W4, ((wq.alloc (.cells #[.int .i64 KI, .string TX, .slice z1 LT.shape.length m1, .slice z2 LT.cells.length m2, .int .i64 PS] 43)).alloc (.cells #[.int .i64 0, .int .i64 0, .string ⟨#[]⟩, .slice none 0 0, .slice none 0 0, .slice none 0 0, .int .i64 PS] 39)).drew = W4 := ⟨_, rfl⟩
  rw [hW4]
  have s4 : W4.heap.size = w.heap.size + 3 := by rw [← hW4]; show (((wq.alloc _).alloc _)).heap.size = _; simp [sq]
  have b4q : Below W1.heap.size W1 W4 := by rw [← hW4]; exact ((bq.alloc bq.size _).alloc (by simp; have := bq.size; omega) _).drew
  have b4 : Below w.heap.size w W4 := HB1.out.trans (b4q.mono HB1.out.size)
  have wc : ∀ o v, (#[.int .i64 KI, .string TX, .slice z1 LT.shape.length m1, .slice z2 LT.cells.length m2, .int .i64 PS] : Array Value)[o]? = some v → W4.cell? ⟨w.heap.size + 1, o, none⟩ = some v := fun o v ho => by
    rw [← hW4, ← sq]
    exact cell_one (cell_new0 wq _ 43 o v ho) (by simp) _
  have nc : ∀ o v, (#[.int .i64 0, .int .i64 0, .string ⟨#[]⟩, .slice none 0 0, .slice none 0 0, .slice none 0 0, .int .i64 PS] : Array Value)[o]? = some v → W4.cell? ⟨w.heap.size + 1 + 1, o, none⟩ = some v := fun o v ho => by
    rw [← hW4]
    have := cell_new0 (wq.alloc (.cells #[.int .i64 KI, .string TX, .slice z1 LT.shape.length m1, .slice z2 LT.cells.length m2, .int .i64 PS] 43)) #[.int .i64 0, .int .i64 0, .string ⟨#[]⟩, .slice none 0 0, .slice none 0 0, .slice none 0 0, .int .i64 PS] 39 o v ho
    have e9 : (wq.alloc (.cells #[.int .i64 KI, .string TX, .slice z1 LT.shape.length m1, .slice z2 LT.cells.length m2, .int .i64 PS] 43)).heap.size = w.heap.size + 1 + 1 := by simp [sq]
    rw [e9] at this
    exact this
  have nf : ∀ o, W4.frozen? ⟨w.heap.size + 1 + 1, o, none⟩ = false := fun o => by
    rw [← hW4]
    have := frozen_new (wq.alloc (.cells #[.int .i64 KI, .string TX, .slice z1 LT.shape.length m1, .slice z2 LT.cells.length m2, .int .i64 PS] 43)) #[.int .i64 0, .int .i64 0, .string ⟨#[]⟩, .slice none 0 0, .slice none 0 0, .slice none 0 0, .int .i64 PS] 39 o
    have e9 : (wq.alloc (.cells #[.int .i64 KI, .string TX, .slice z1 LT.shape.length m1, .slice z2 LT.cells.length m2, .int .i64 PS] 43)).heap.size = w.heap.size + 1 + 1 := by simp [sq]
    rw [e9] at this
    exact this
  have HN : Hid (∀ W, Below W4.heap.size W4 W → (∀ o v, (#[.int .i64 0, .int .i64 0, .string ⟨#[]⟩, .slice none 0 0, .slice none 0 0, .slice none 0 0, .int .i64 PS] : Array Value)[o]? = some v → W.cell? ⟨w.heap.size + 1 + 1, o, none⟩ = some v) ∧ (∀ o, W.frozen? ⟨w.heap.size + 1 + 1, o, none⟩ = false) ∧ (∀ o, o < 7 → ∃ v, W.cell? ⟨w.heap.size, o, none⟩ = some v) ∧ ∀ o, W.frozen? ⟨w.heap.size, o, none⟩ = false) := fun W hW =>
    ⟨fun o v ho => (hW.cell (p := ⟨w.heap.size + 1 + 1, o, none⟩) (by show w.heap.size + 1 + 1 < _; omega)).trans (nc o v ho), fun o => (hW.frozen (p := ⟨w.heap.size + 1 + 1, o, none⟩) (by show w.heap.size + 1 + 1 < _; omega)).trans (nf o), HRES.out W (b4q.trans (hW.mono b4q.size))⟩
  have HB4 := hide b4
  have HS4 := hide s4
  clear HBQ HDQ hW4 nc nf bq sq b4 b4q s4 HRES KS
  have HSN : Hid (∀ W, Below W4.heap.size W4 W → Sn (n + 1) w0 W p g R ws) := fun W hW => HH.out.sp.sn.next (HB4.out.trans (hW.mono HB4.out.size))
  have HRD : Hid (∀ W, Below W4.heap.size W4 W → Rd (n + 1) w0 W p g R ws A i e) := fun W hW => HH.out.next (HB4.out.trans (hW.mono HB4.out.size))
  have HDN : Hid (∀ m, Below W4.heap.size W4 (W4.drewN m)) := fun m => drewN_below (Below.refl W4.heap.size W4) m
  have c19n := fun m => (HRD.out _ (HDN.out m)).c19
  have c7n := fun m => (HSN.out _ (HDN.out m)).c7
  have c19 := (HRD.out _ (Below.refl _ _)).c19
  have c7 := (HSN.out _ (Below.refl _ _)).c7
  have H9 := hide (fun m => is69 (HSN.out _ (HDN.out m)) i 3 g.left (by omega))
  rw [hT9] at H9
  go_quiet ((go_at_call 69; first | exact Calls.quiet_of_same (H9.out 0) | exact Calls.quiet_of_same (H9.out _)))
  obtain ⟨wm, hwm⟩ : ∃ wm, W4.drewN nq = wm := ⟨_, rfl⟩
  have bm : Below W4.heap.size W4 wm := by rw [← hwm]; exact HDN.out _
  have HBM := hide bm
  rw [hwm]
  go_upto_region 11 with fail
  have HDM : Hid (∀ m, Below W4.heap.size W4 (wm.drewN m)) := fun m => HBM.out.trans ((drewN_below (Below.refl wm.heap.size wm) m).mono HBM.out.size)
  have d19n := fun m => (HRD.out _ (HDM.out m)).c19
  have d8n := fun m => (HSN.out _ (HDM.out m)).c8
  have d19 := (HRD.out _ bm).c19
  have d8 := (HSN.out _ bm).c8
  have H11 := hide (fun m => is69 (HSN.out _ (HDM.out m)) i 3 g.right (by omega))
  rw [hT11] at H11
  clear hwm
  go_quiet ((go_at_call 69; first | exact Calls.quiet_of_same (H11.out 0) | exact Calls.quiet_of_same (H11.out _)))
  obtain ⟨w5, hw5⟩ : ∃ w5, wm.drewN nq = w5 := ⟨_, rfl⟩
  have b5 : Below W4.heap.size W4 w5 := by rw [← hw5]; exact HDM.out _
  rw [hw5]
  clear hw5 H9 H11 HDN HDM HBM bm d19n d8n d19 d8 c19n c7n c19 c7
  have w50 : w5.cell? ⟨w.heap.size + 1, 0, none⟩ = some (.int .i64 KI) := (b5.cell (p := ⟨w.heap.size + 1, 0, none⟩) (by show w.heap.size + 1 < _; have := HS4.out; omega)).trans (wc 0 _ rfl)
  have w51 : w5.cell? ⟨w.heap.size + 1, 1, none⟩ = some (.string TX) := (b5.cell (p := ⟨w.heap.size + 1, 1, none⟩) (by show w.heap.size + 1 < _; have := HS4.out; omega)).trans (wc 1 _ rfl)
  have HWC : Hid (∀ W, Below w5.heap.size w5 W → W.cell? ⟨w.heap.size + 1, 1, none⟩ = some (.string TX)) := fun W hW => (hW.cell (p := ⟨w.heap.size + 1, 1, none⟩) (by show w.heap.size + 1 < _; have := HS4.out; have := b5.size; omega)).trans w51
  have HB5 := hide b5
  clear wc
  have HRF := hide (refuse22 (HRD.out w5 b5) 2)
  rw [hpl.out] at HRF
  have HBW := hide (HB4.out.trans (b5.mono HB4.out.size))
  clear HSN HRD HWC
  go_wp2_with fail
  refine HRF.out.mono ?_
  rintro en w7 ⟨rfl, hb7⟩
  go_wp2
  exact ⟨rfl, But.of (HBW.out.trans (hb7.mono HBW.out.size)), rfl⟩
set_option maxHeartbeats 8000000 in
theorem word_bad_false {n : Nat} {w0 w : World} {p q : Nat} {g : Gr} {R : Raw} {ws : List Wo} {A : Ra} {i : Nat} {e : Int} (h : Rd (n + 1) w0 w p g R ws A i e) (nm : Nm) (hn : false = true → Nq w p q nm) (hi : i < ws.length) (hk1 : (wAt ws i).kind ≠ 1) (hk2 : (wAt ws i).kind ≠ 2) (hk3 : (wAt ws i).kind ≠ 3) :
    Calls Try.prog 85 #[.pointer (some ⟨p, 0, none⟩), namV false q] w fun en w' => GvW n w0 w p q g R ws A i e false nm (wordS g e false (ws.drop i)) en w' := by
  have hz : ∀ t, isT 3 t [wAt ws i] = false := fun t => by simp [isT, hk3]
  have hw : wordS g e false (ws.drop i) = .bad 2 (wAt ws i).pos := by rw [drop_at hi]; simp [wordS, hk1, hk2, hk3, hz]
  clear hz
  have kq1 : ((wAt ws i).kind == 1) = false := by simpa using hk1
  have kq2 : ((wAt ws i).kind == 2) = false := by simpa using hk2
  have kq3 : ((wAt ws i).kind == 3) = false := by simpa using hk3
  have hpl := hide (place_at hi e)
  have hile := h.hi
  obtain ⟨W1, e1⟩ : ∃ W1, w.alloc (.cells #[.int .i64 0, .int .i64 0, .string ⟨#[]⟩, .slice none 0 0, .slice none 0 0, .slice none 0 0, .int .i64 0] 39) = W1 := ⟨_, rfl⟩
  have b1 : Below w.heap.size w W1 := by rw [← e1]; exact one_alloc _ _
  have s1 : W1.heap.size = w.heap.size + 1 := by rw [← e1]; simp
  have h1 := h.next b1
  have c14 := h1.sp.sn.c14
  have c19 := h1.c19
  have hL := h1.sp.sn.words
  have hpw := h1.sp.sn.hp2
  obtain ⟨b, off, z1, m1, z2, m2, ha, hb0, g0, g1, g2, g3, g4, gb, g5⟩ := h.sp.sn.wo.2 i hi
  rw [ha] at c14
  have hne : ((i : Int) == (ws.length : Int)) = false := by simp; omega
  have hne2 : ¬ (i : Int) = (ws.length : Int) := by omega
  have ho1 := h1.sp.sn.old
  have KS : Hid (∀ W, Below W1.heap.size W1 W → Below W1.heap.size W1 W ∧ W.cell? ⟨p, 14, none⟩ = some (.slice (some ⟨b, off, none⟩) ws.length R.cw) ∧ W.cell? ⟨p, 19, none⟩ = some (.int .i64 (i : Int)) ∧ W.cell? ⟨b, off + i * 5, none⟩ = some (.int .i64 (wAt ws i).kind) ∧ W.cell? ⟨b, off + i * 5 + 1, none⟩ = some (.string (wAt ws i).text) ∧ W.cell? ⟨b, off + i * 5 + 2, none⟩ = some (.slice z1 (wAt ws i).lit.shape.length m1) ∧ W.cell? ⟨b, off + i * 5 + 3, none⟩ = some (.slice z2 (wAt ws i).lit.cells.length m2) ∧ W.cell? ⟨b, off + i * 5 + 4, none⟩ = some (.int .i64 (wAt ws i).pos)) := fun W hW =>
    have hw := ho1.trans (hW.mono ho1.size)
    ⟨hW, (hW.cell (p := ⟨p, 14, none⟩) hpw).trans c14, (hW.cell (p := ⟨p, 19, none⟩) hpw).trans c19, (hw.cell (p := ⟨b, _, none⟩) hb0).trans g0, (hw.cell (p := ⟨b, _, none⟩) hb0).trans g1, (hw.cell (p := ⟨b, _, none⟩) hb0).trans g2, (hw.cell (p := ⟨b, _, none⟩) hb0).trans g3, (hw.cell (p := ⟨b, _, none⟩) hb0).trans g4⟩
  have HRES : Hid (∀ W, Below W1.heap.size W1 W → (∀ o, o < 7 → ∃ v, W.cell? ⟨w.heap.size, o, none⟩ = some v) ∧ ∀ o, W.frozen? ⟨w.heap.size, o, none⟩ = false) := fun W hW => by
    have hl : w.heap.size < W1.heap.size := by omega
    refine ⟨fun o ho => ?_, fun o => (hW.frozen (p := ⟨w.heap.size, o, none⟩) hl).trans (by rw [← e1]; exact frozen_new _ _ _ _)⟩
    have hcc : ∃ v, W1.cell? ⟨w.heap.size, o, none⟩ = some v := by
      rw [← e1]
      have : o = 0 ∨ o = 1 ∨ o = 2 ∨ o = 3 ∨ o = 4 ∨ o = 5 ∨ o = 6 := by omega
      rcases this with rfl | rfl | rfl | rfl | rfl | rfl | rfl <;> exact ⟨_, cell_new0 w _ 39 _ _ rfl⟩
    obtain ⟨v, hv⟩ := hcc
    exact ⟨v, (hW.cell (p := ⟨w.heap.size, o, none⟩) hl).trans hv⟩
  have HE := hide e1
  have HG5 := hide g5
  have HGB := hide gb
  have HH := hide h
  have HB1 := hide b1
  have HNN := hide hn
  have hNV : namV false q = .pointer none := rfl
  rw [hNV]
  clear hNV
  unfold GvW
  rw [hw]
  obtain ⟨LT, hLT⟩ : ∃ LT, (wAt ws i).lit = LT := ⟨_, rfl⟩
  rw [hLT] at KS HG5 HGB
  try rw [hLT]
  generalize (wAt ws i).text = TX at *
  generalize (wAt ws i).pos = PS at *
  generalize (wAt ws i).kind = KI at *
  clear h h1 e1 b1 hn g0 g1 g2 g3 g4 g5 hLT c14 c19 ho1 gb
  obtain ⟨L, hLL⟩ : ∃ L, ws.length = L := ⟨_, rfl⟩
  rw [hLL] at KS hne hne2 hile hL hi
  have HLL := hide hLL
  clear hLL
  generalize R.cw = cw at *
  go_enter Try.func85, Try.ntmps85
  go_upto_region 1 with fail
  rw [HE.out]
  obtain ⟨-, k14, k19, -⟩ := KS.out W1 (Below.refl _ _)
  go_quiet (fail)
  go_upto_region 3 with fail
  obtain ⟨wq, hwq⟩ : ∃ wq, W1.drewN nq = wq := ⟨_, rfl⟩
  have bq : Below W1.heap.size W1 wq := by rw [← hwq]; exact drewN_below (Below.refl W1.heap.size W1) _
  have sq : wq.heap.size = w.heap.size + 1 := by rw [← hwq]; exact s1
  have HBQ := hide bq
  have HDQ : Hid (Below W1.heap.size W1 wq.drew) := bq.drew
  rw [hwq]
  clear hwq k14 k19
  obtain ⟨-, k14, k19, k0, k1, k2, k3, k4⟩ := KS.out wq bq
  go_region_held3 (fun W => Below W1.heap.size W1 W ∧ W.cell? ⟨p, 14, none⟩ = some (.slice (some ⟨b, off, none⟩) L cw) ∧ W.cell? ⟨p, 19, none⟩ = some (.int .i64 (i : Int)) ∧ W.cell? ⟨b, off + i * 5, none⟩ = some (.int .i64 KI) ∧ W.cell? ⟨b, off + i * 5 + 1, none⟩ = some (.string TX) ∧ W.cell? ⟨b, off + i * 5 + 2, none⟩ = some (.slice z1 LT.shape.length m1) ∧ W.cell? ⟨b, off + i * 5 + 3, none⟩ = some (.slice z2 LT.cells.length m2) ∧ W.cell? ⟨b, off + i * 5 + 4, none⟩ = some (.int .i64 PS)) (first | with_reducible exact KS.out _ HDQ.out | with_reducible exact KS.out _ (by with_reducible assumption) | with_reducible exact KS.out _ (HDQ.out.alloc HDQ.out.size _) | with_reducible exact KS.out _ (HBQ.out.alloc HBQ.out.size _) | with_reducible exact KS.out _ ((HBQ.out.alloc HBQ.out.size _).drew)) (fail)
  clear k14 k19 k0 k1 k2 k3 k4
  go_upto_region 9 with fail
  obtain ⟨W4, hW4⟩ : ∃ W4, ((wq.alloc (.cells #[.int .i64 KI, .string TX, .slice z1 LT.shape.length m1, .slice z2 LT.cells.length m2, .int .i64 PS] 43)).alloc (.cells #[.int .i64 0, .int .i64 0, .string ⟨#[]⟩, .slice none 0 0, .slice none 0 0, .slice none 0 0, .int .i64 PS] 39)).drew = W4 := ⟨_, rfl⟩
  rw [hW4]
  have s4 : W4.heap.size = w.heap.size + 3 := by rw [← hW4]; show (((wq.alloc _).alloc _)).heap.size = _; simp [sq]
  have b4q : Below W1.heap.size W1 W4 := by rw [← hW4]; exact ((bq.alloc bq.size _).alloc (by simp; have := bq.size; omega) _).drew
  have b4 : Below w.heap.size w W4 := HB1.out.trans (b4q.mono HB1.out.size)
  have wc : ∀ o v, (#[.int .i64 KI, .string TX, .slice z1 LT.shape.length m1, .slice z2 LT.cells.length m2, .int .i64 PS] : Array Value)[o]? = some v → W4.cell? ⟨w.heap.size + 1, o, none⟩ = some v := fun o v ho => by
    rw [← hW4, ← sq]
    exact cell_one (cell_new0 wq _ 43 o v ho) (by simp) _
  have nc : ∀ o v, (#[.int .i64 0, .int .i64 0, .string ⟨#[]⟩, .slice none 0 0, .slice none 0 0, .slice none 0 0, .int .i64 PS] : Array Value)[o]? = some v → W4.cell? ⟨w.heap.size + 1 + 1, o, none⟩ = some v := fun o v ho => by
    rw [← hW4]
    have := cell_new0 (wq.alloc (.cells #[.int .i64 KI, .string TX, .slice z1 LT.shape.length m1, .slice z2 LT.cells.length m2, .int .i64 PS] 43)) #[.int .i64 0, .int .i64 0, .string ⟨#[]⟩, .slice none 0 0, .slice none 0 0, .slice none 0 0, .int .i64 PS] 39 o v ho
    have e9 : (wq.alloc (.cells #[.int .i64 KI, .string TX, .slice z1 LT.shape.length m1, .slice z2 LT.cells.length m2, .int .i64 PS] 43)).heap.size = w.heap.size + 1 + 1 := by simp [sq]
    rw [e9] at this
    exact this
  have nf : ∀ o, W4.frozen? ⟨w.heap.size + 1 + 1, o, none⟩ = false := fun o => by
    rw [← hW4]
    have := frozen_new (wq.alloc (.cells #[.int .i64 KI, .string TX, .slice z1 LT.shape.length m1, .slice z2 LT.cells.length m2, .int .i64 PS] 43)) #[.int .i64 0, .int .i64 0, .string ⟨#[]⟩, .slice none 0 0, .slice none 0 0, .slice none 0 0, .int .i64 PS] 39 o
    have e9 : (wq.alloc (.cells #[.int .i64 KI, .string TX, .slice z1 LT.shape.length m1, .slice z2 LT.cells.length m2, .int .i64 PS] 43)).heap.size = w.heap.size + 1 + 1 := by simp [sq]
    rw [e9] at this
    exact this
  have HN : Hid (∀ W, Below W4.heap.size W4 W → (∀ o v, (#[.int .i64 0, .int .i64 0, .string ⟨#[]⟩, .slice none 0 0, .slice none 0 0, .slice none 0 0, .int .i64 PS] : Array Value)[o]? = some v → W.cell? ⟨w.heap.size + 1 + 1, o, none⟩ = some v) ∧ (∀ o, W.frozen? ⟨w.heap.size + 1 + 1, o, none⟩ = false) ∧ (∀ o, o < 7 → ∃ v, W.cell? ⟨w.heap.size, o, none⟩ = some v) ∧ ∀ o, W.frozen? ⟨w.heap.size, o, none⟩ = false) := fun W hW =>
    ⟨fun o v ho => (hW.cell (p := ⟨w.heap.size + 1 + 1, o, none⟩) (by show w.heap.size + 1 + 1 < _; omega)).trans (nc o v ho), fun o => (hW.frozen (p := ⟨w.heap.size + 1 + 1, o, none⟩) (by show w.heap.size + 1 + 1 < _; omega)).trans (nf o), HRES.out W (b4q.trans (hW.mono b4q.size))⟩
  have HB4 := hide b4
  have HS4 := hide s4
  clear HBQ HDQ hW4 nc nf bq sq b4 b4q s4 HRES KS
  have HSN : Hid (∀ W, Below W4.heap.size W4 W → Sn (n + 1) w0 W p g R ws) := fun W hW => HH.out.sp.sn.next (HB4.out.trans (hW.mono HB4.out.size))
  have HRD : Hid (∀ W, Below W4.heap.size W4 W → Rd (n + 1) w0 W p g R ws A i e) := fun W hW => HH.out.next (HB4.out.trans (hW.mono HB4.out.size))
  have HDN : Hid (∀ m, Below W4.heap.size W4 (W4.drewN m)) := fun m => drewN_below (Below.refl W4.heap.size W4) m
  have c19n := fun m => (HRD.out _ (HDN.out m)).c19
  have c7n := fun m => (HSN.out _ (HDN.out m)).c7
  have c19 := (HRD.out _ (Below.refl _ _)).c19
  have c7 := (HSN.out _ (Below.refl _ _)).c7
  go_quiet (fail)
  obtain ⟨wm, hwm⟩ : ∃ wm, W4.drewN nq = wm := ⟨_, rfl⟩
  have bm : Below W4.heap.size W4 wm := by rw [← hwm]; exact HDN.out _
  rw [hwm]
  clear hwm
  go_upto_region 11 with fail
  go_quiet (fail)
  obtain ⟨w5, hw5⟩ : ∃ w5, wm.drewN nq = w5 := ⟨_, rfl⟩
  have b5 : Below W4.heap.size W4 w5 := by rw [← hw5]; exact bm.trans ((drewN_below (Below.refl wm.heap.size wm) _).mono bm.size)
  rw [hw5]
  clear hw5 HDN bm c19n c7n c19 c7
  have w50 : w5.cell? ⟨w.heap.size + 1, 0, none⟩ = some (.int .i64 KI) := (b5.cell (p := ⟨w.heap.size + 1, 0, none⟩) (by show w.heap.size + 1 < _; have := HS4.out; omega)).trans (wc 0 _ rfl)
  have w51 : w5.cell? ⟨w.heap.size + 1, 1, none⟩ = some (.string TX) := (b5.cell (p := ⟨w.heap.size + 1, 1, none⟩) (by show w.heap.size + 1 < _; have := HS4.out; omega)).trans (wc 1 _ rfl)
  have HWC : Hid (∀ W, Below w5.heap.size w5 W → W.cell? ⟨w.heap.size + 1, 1, none⟩ = some (.string TX)) := fun W hW => (hW.cell (p := ⟨w.heap.size + 1, 1, none⟩) (by show w.heap.size + 1 < _; have := HS4.out; have := b5.size; omega)).trans w51
  have HB5 := hide b5
  clear wc
  have HRF := hide (refuse22 (HRD.out w5 b5) 2)
  rw [hpl.out] at HRF
  have HBW := hide (HB4.out.trans (b5.mono HB4.out.size))
  clear HSN HRD HWC
  go_wp2_with fail
  refine HRF.out.mono ?_
  rintro en w7 ⟨rfl, hb7⟩
  go_wp2
  exact ⟨rfl, But.of (HBW.out.trans (hb7.mono HBW.out.size)), rfl⟩
/-- word. -/
theorem word85 {n : Nat} {w0 w : World} {p q : Nat} {g : Gr} {R : Raw} {ws : List Wo} {A : Ra} {i : Nat} {e : Int} (h : Rd (n + 1) w0 w p g R ws A i e) (inn : Bool) (nm : Nm) (hn : inn = true → Nq w p q nm) :
    Calls Try.prog 85 #[.pointer (some ⟨p, 0, none⟩), namV inn q] w fun en w' => GvW n w0 w p q g R ws A i e inn nm (wordS g e inn (ws.drop i)) en w' := by
  by_cases hi : i < ws.length
  · by_cases h1 : (wAt ws i).kind = 1
    · exact word_num h inn nm hn hi h1
    by_cases h2 : (wAt ws i).kind = 2
    · exact word_text h inn nm hn hi h2
    by_cases h3 : (wAt ws i).kind = 3
    · cases hb : nameB (wAt ws i).text with
      | true =>
        cases inn with
        | false => exact word_var_false h nm hn hi h3 hb
        | true =>
          cases hl : isT 3 g.left [wAt ws i] with
          | true => exact word_left h nm hn hi hl
          | false =>
            cases hr : isT 3 g.right [wAt ws i] with
            | true => exact word_right h nm hn hi hl hr
            | false => exact word_var_true h nm hn hi h3 hb hl hr
      | false =>
        cases inn with
        | false => exact word_bad3_false h nm hn hi h3 hb
        | true =>
          cases hl : isT 3 g.left [wAt ws i] with
          | true => exact word_left h nm hn hi hl
          | false =>
            cases hr : isT 3 g.right [wAt ws i] with
            | true => exact word_right h nm hn hi hl hr
            | false => exact word_bad3_true h nm hn hi h3 hb hl hr
    · cases inn with
      | false => exact word_bad_false h nm hn hi h1 h2 h3
      | true => exact word_bad_true h nm hn hi h1 h2 h3
  · exact word_end h inn nm hn hi
end Go.Proofs.Ytnaejfoighmfeaa
