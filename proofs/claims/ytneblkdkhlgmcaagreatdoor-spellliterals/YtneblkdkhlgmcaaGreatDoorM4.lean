/-
  The statements' Lex of the empty text: no words, and the grammar; for all dialects.
  The document's own Put: a sign's bytes in new memory.
  The document's own Literal: an array as a text, or that it can't be written; for all arrays.
  An array's weight is at least the number of its cells and axes, a program's that of its nodes and cells: the contracts of both; for all arrays and programs.
  What a call of layer 3's statements is told of a slice of numbers that came in: it is a row of numbers; and Places' answer as one row and one error.
  What a call of layer 3's statements is told of an array or a cell that came in: it is one of the plain arrays or cells, as deep as it may be; no condition.
-/
import Derived.Test.YtneblkdkhlgmcaaGreatDoorM3
import Derived.Shelf.Strconv.Itoa4
import Derived.Test.YtneblkdkhlgmcaaGreatDoorProg
import Derived.WalkKit
import Derived.Test.YtneblkdkhlgmcaaGreatDoorChecked
import GoSem.Claim
import GoSem.ClaimJoined
import GoSem.ClaimMapViews
import Derived.JoinedTies
import Derived.KernelRfl
import Derived.ProofKit
import Derived.Below
import Derived.Deep.OwnRows
import Derived.Deep.QuietTactic
import Derived.BigQuiet
import Derived.Deep.RegionWith
import Derived.Lib.AppendIntMem
import Derived.Lib.ConvBytes
import Derived.Lib.Builder
import Derived.Lib.AppendStr
import Derived.Lib.UnsafeStr
import Derived.Deep.LoopGhost
import Derived.Deep.RegionHeld3
import Derived.Lib.MakeNoZero
import Derived.Laws.MakeOwn
import Derived.Laws.BitsAllLaws
import Derived.Lib.Bits
import Derived.Deep.Cut
import Derived.Deep.MidRow
import Derived.Deep.RegionLaw
import GoSem.ClaimSeven
import Derived.LaidByTextLater
import Derived.SevenTiedAt
import Derived.LaidSub
import Derived.LaidOnce
import Derived.Deep.DeepHandedRow
import Derived.Lib.LaidTab
import Derived.OpenShut
import Derived.Lay
import Derived.ChangeOld
import Derived.SizedLaws
import Derived.Deep.Slices
import Derived.Deep.Strs
namespace Go.Proofs.YtneblkdkhlgmcaaGreatDoor
open Go.ChangeShapes Go.WideShapes Go.ChangeAt Go.RowKit
set_option maxRecDepth 100000
set_option linter.unusedVariables false
set_option linter.unusedSimpArgs false
def But (T : Nat → Prop) (w w' : World) : Prop := w'.os = w.os ∧ w'.tape = w.tape ∧ w'.output = w.output ∧ w.heap.size ≤ w'.heap.size ∧ ∀ k, k < w.heap.size → ¬ T k → w'.heap[k]? = w.heap[k]?
theorem But.refl (T : Nat → Prop) (w : World) : But T w w := ⟨rfl, rfl, rfl, Nat.le_refl _, fun _ _ _ => rfl⟩
theorem But.size {T : Nat → Prop} {w w' : World} (h : But T w w') : w.heap.size ≤ w'.heap.size := h.2.2.2.1
theorem But.trans {T T' : Nat → Prop} {a b c : World} (h : But T a b) (k : But T' b c) (ht : ∀ j, j < a.heap.size → T' j → T j) : But T a c :=
  ⟨k.1.trans h.1, k.2.1.trans h.2.1, k.2.2.1.trans h.2.2.1, Nat.le_trans h.size k.size, fun j hj hn => (k.2.2.2.2 j (Nat.lt_of_lt_of_le hj h.size) (fun hh => hn (ht j hj hh))).trans (h.2.2.2.2 j hj hn)⟩
theorem But.of {T : Nat → Prop} {w w' : World} (h : Below w.heap.size w w') : But T w w' := ⟨h.os, h.tape, h.output, h.size, fun k hk _ => h.block k hk⟩
theorem But.below {T : Nat → Prop} {B : Nat} {w w' : World} (h : But T w w') (hB : B ≤ w.heap.size) (hT : ∀ k, T k → B ≤ k) : Below B w w' := ⟨h.1, h.2.1, h.2.2.1, h.size, fun k hk => h.2.2.2.2 k (Nat.lt_of_lt_of_le hk hB) (fun ht => by have := hT k ht; omega)⟩
theorem But.block {T : Nat → Prop} {w w' : World} (h : But T w w') {k : Nat} (hk : k < w.heap.size) (ht : ¬ T k) : w'.heap[k]? = w.heap[k]? := h.2.2.2.2 k hk ht
theorem But.cell {T : Nat → Prop} {w w' : World} (h : But T w w') {p : Addr} (hk : p.block < w.heap.size) (ht : ¬ T p.block) : w'.cell? p = w.cell? p := World.cell?_of_block (w := w) (h.block hk ht)
theorem But.mono {T T' : Nat → Prop} {w w' : World} (h : But T w w') (hT : ∀ k, T k → T' k) : But T' w w' := ⟨h.1, h.2.1, h.2.2.1, h.size, fun k hk hn => h.block hk fun t => hn (hT k t)⟩
theorem butS {T : Nat → Prop} {w X : World} {b o : Nat} {u : Value} (h : But T w X) (ht : T b) : But T w (X.setCell ⟨b, o, none⟩ u) :=
  h.trans (⟨rfl, rfl, rfl, by simp, fun k _ hn => Below.heap_setCell _ _ _ _ hn⟩ : But (· = b) X (X.setCell ⟨b, o, none⟩ u)) fun j _ hj => hj ▸ ht
theorem fs_any {w : World} {a c : Addr} {u : Value} (h : w.frozen? a = false) : (w.setCell c u).frozen? a = false := frozen_set _ _ _ _ h
theorem setCells_but (W : World) (b o : Nat) (vs : List Value) : But (· = b) W (W.setCells b o vs) := by
  induction vs generalizing W o with
  | nil => exact But.refl _ _
  | cons v vs ih => exact (butS (T := (· = b)) (But.refl _ _) rfl).trans (ih _ _) fun j _ hj => hj
theorem setCells_frozen (W : World) (b o : Nat) (vs : List Value) (a : Addr) (h : W.frozen? a = false) : (W.setCells b o vs).frozen? a = false := by
  induction vs generalizing W o with
  | nil => exact h
  | cons v vs ih => exact ih _ _ (fs_any h)
theorem frozen_block {w W : World} {b : Nat} (h : W.heap[b]? = w.heap[b]?) (o : Nat) : W.frozen? ⟨b, o, none⟩ = w.frozen? ⟨b, o, none⟩ := by
  unfold World.frozen?
  rw [h]
/-- Cells of a block. -/
structure Cs (W : World) (s : Nat) (vs : List Value) : Prop where
  lt : s < W.heap.size
  c : ∀ k v, vs[k]? = some v → W.cell? ⟨s, k, none⟩ = some v
  z : ∀ k, W.frozen? ⟨s, k, none⟩ = false
theorem Cs.next {W W' : World} {s B : Nat} {vs : List Value} (h : Cs W s vs) (hb : Below B W W') (hs : s < B) : Cs W' s vs :=
  ⟨Nat.lt_of_lt_of_le h.lt hb.size, fun k v hv => (hb.cell (p := ⟨s, k, none⟩) hs).trans (h.c k v hv), fun k => (hb.frozen (p := ⟨s, k, none⟩) hs).trans (h.z k)⟩
theorem Cs.but {T : Nat → Prop} {W W' : World} {s : Nat} {vs : List Value} (h : Cs W s vs) (hb : But T W W') (hs : ¬ T s) : Cs W' s vs :=
  ⟨Nat.lt_of_lt_of_le h.lt hb.size, fun k v hv => (hb.cell (p := ⟨s, k, none⟩) h.lt hs).trans (h.c k v hv), fun k => (frozen_block (hb.block h.lt hs) k).trans (h.z k)⟩
theorem Cs.new (w : World) (vs : List Value) (t : TypeId) : Cs (w.alloc (.cells vs.toArray t)) w.heap.size vs :=
  ⟨by simp, fun k v hv => cell_new0 w vs.toArray t k v (by simpa using hv), fun k => frozen_new w _ t k⟩
theorem Cs.there {W : World} {s n : Nat} {vs : List Value} (h : Cs W s vs) (hn : n ≤ vs.length) : W.there s 0 n := fun j hj => by
  obtain ⟨v, hv⟩ : ∃ v, vs[j]? = some v := ⟨_, List.getElem?_eq_getElem (by omega)⟩
  rw [Nat.zero_add]
  exact ⟨by rw [h.c j v hv]; rfl, h.z j⟩
/-- All cells anew. -/
theorem Cs.put {W W' : World} {s : Nat} {vs us : List Value} (h : Cs W s vs) (hl : us.length ≤ vs.length) (he : W.setCells s 0 us = W') : Cs W' s us ∧ But (· = s) W W' := by
  have hb := setCells_but W s 0 us
  have hr := World.rangeAt_setCells_same W s 0 us (h.there hl)
  have hz := fun k => setCells_frozen W s 0 us ⟨s, k, none⟩ (h.z k)
  rw [he] at hb hr
  simp only [he] at hz
  exact ⟨⟨Nat.lt_of_lt_of_le h.lt hb.size, fun k v hv => by have := hr k v hv; rwa [Nat.zero_add] at this, hz⟩, hb⟩
theorem bel_to {w w' w'' : World} (h : Below w.heap.size w w') (h' : Below w'.heap.size w' w'') : Below w.heap.size w w'' := h.trans (h'.mono h.size)
theorem put53 {w X W8 W9 : World} {us vs ts rs : List Value} (R : Cs X w.heap.size us) (F : Cs X (w.heap.size + 1) ts) (hl : vs.length ≤ us.length) (hk : rs.length ≤ ts.length) (hb : Below w.heap.size w X) (h8 : X.setCells w.heap.size 0 vs = W8) (h9 : W8.setCells (w.heap.size + 1) 0 rs = W9) :
    X.there w.heap.size 0 vs.length ∧ W8.there (w.heap.size + 1) 0 rs.length ∧ Cs W9 w.heap.size vs ∧ Cs W9 (w.heap.size + 1) rs ∧ Below w.heap.size w W9 ∧ (∀ lo, w.heap.size + 2 ≤ lo → Keeps lo X W9) := by
  obtain ⟨C8, B8⟩ := R.put hl h8
  have F8 := F.but B8 (by show ¬ w.heap.size + 1 = w.heap.size; omega)
  obtain ⟨C9, B9⟩ := F8.put hk h9
  have hb8 := hb.trans (B8.below hb.size fun k hk => by omega)
  exact ⟨R.there hl, F8.there hk, C8.but B9 (by show ¬ w.heap.size = w.heap.size + 1; omega), C9, hb8.trans (B9.below hb8.size fun k hk => by omega), fun lo hlo => ⟨Nat.le_trans B8.size B9.size, fun b h1 h2 => (B9.block (Nat.lt_of_lt_of_le h2 B8.size) (by show ¬ b = w.heap.size + 1; omega)).trans (B8.block h2 (by show ¬ b = w.heap.size; omega))⟩⟩
theorem wpAny_store {P : Program} {md : Region.Mode} {ops : Array Oper} {Q : Exit → Act → World → Prop} {i : Nat} {o : Oper} {fuel : Nat} {listed : Array Bool} {a : Act} {w : World} (hr : Region.ready md ops listed = [i]) (ho : ops[i]? = some o) (hw : Region.wanted o (yielded ops a.tmps) = true) (ty : TypeId) (x y : Operand) (hs : o.op = .store ty x y) (b f : Nat) (cells : Array Value) (hx : a.eval x = .pointer (some ⟨b, f, none⟩)) (hy : a.eval y = .agg cells) (ht : w.there b f cells.size) (hi : (P.info? ty).map (·.size) = some cells.size) (h1 : cells.all (·.oneCell') = true) (h : wpAny P md ops Q fuel (listed.setIfInBounds i true) (a.put o.dst undef) (w.setCells b f cells.toList)) : wpAny P md ops Q (fuel + 1) listed a w := by
  refine wpAny_ready hr (by simp) (AllReady.cons ho (fun K hK => ?_) AllReady.nil)
  rw [if_pos hw]
  exact wp_store_mid ty x y hs b f cells hx hy ht hi h1 (hK _ _ h)
abbrev z14 : List Value := [.slice none 0 0, .slice none 0 0, .slice none 0 0, .string ⟨#[]⟩, .string ⟨#[]⟩, .string ⟨#[]⟩, .string ⟨#[]⟩, .string ⟨#[]⟩, .string ⟨#[]⟩, .string ⟨#[]⟩, .string ⟨#[]⟩, .bool false, .bool false, .bool false]
theorem lt3 {w : World} {b : Nat} {v0 v1 v2 : Value} (h : Cs w b [v0, v1, v2]) : (w.cell? ⟨b, 0, none⟩ = some v0 ∧ w.cell? ⟨b, 1, none⟩ = some v1 ∧ w.cell? ⟨b, 2, none⟩ = some v2) ∧ b < w.heap.size ∧ ∀ k, w.frozen? ⟨b, k, none⟩ = false :=
  ⟨⟨h.c 0 _ rfl, h.c 1 _ rfl, h.c 2 _ rfl⟩, h.lt, h.z⟩
/-- Two stores, and what is not touched by them. -/
theorem fin2 {w V W8 W9 : World} {us ts vs rs : List Value} (R : Cs V w.heap.size us) (F : Cs V (w.heap.size + 1) ts) (hl : vs.length ≤ us.length) (hk : rs.length ≤ ts.length) (hb : Below w.heap.size w V) (h8 : V.setCells w.heap.size 0 vs = W8) (h9 : W8.setCells (w.heap.size + 1) 0 rs = W9) :
    V.there w.heap.size 0 vs.length ∧ W8.there (w.heap.size + 1) 0 rs.length ∧ Cs W9 w.heap.size vs ∧ Cs W9 (w.heap.size + 1) rs ∧ Below w.heap.size w W9 ∧ (∀ lo, w.heap.size + 2 ≤ lo → Keeps lo V W9) ∧ V.heap.size ≤ W9.heap.size ∧ (∀ k, k < V.heap.size → k ≠ w.heap.size → k ≠ w.heap.size + 1 → W9.heap[k]? = V.heap[k]?) ∧ ∀ b xs, Cs V b xs → b ≠ w.heap.size → Cs W8 b xs := by
  obtain ⟨a1, a2, a3, a4, a5, a6⟩ := put53 R F hl hk hb h8 h9
  obtain ⟨C8, B8⟩ := R.put hl h8
  have F8 := F.but B8 (by show ¬ w.heap.size + 1 = w.heap.size; omega)
  obtain ⟨C9, B9⟩ := F8.put hk h9
  exact ⟨a1, a2, a3, a4, a5, a6, Nat.le_trans B8.size B9.size, fun k h1 h2 h3 => (B9.block (Nat.lt_of_lt_of_le h1 B8.size) h3).trans (B8.block h1 h2), fun b xs h hn => h.but B8 hn⟩
theorem if_yes {c : Prop} [Decidable c] {A B : Prop} (hc : c) (h : A) : if c then A else B := by rw [if_pos hc]; exact h
/-- What the lexers tell of the empty text. -/
def GvE (w : World) (e : Ending) (w' : World) : Prop := e = .returned (.tuple #[.slice none 0 0, .agg #[.int .i64 0, .int .i64 0, .int .i64 0]]) ∧ Below w.heap.size w w'
/-- What Lex tells of it. -/
def GvLe (w : World) (e : Ending) (w' : World) : Prop := Below w.heap.size w w' ∧ ∃ G : Gs, e = .returned (.tuple #[gV G, .slice none 0 0, .agg #[.int .i64 0, .int .i64 0, .int .i64 0]]) ∧ ((∃ a n c, G.s1 = .slice a n c) ∧ (∃ a n c, G.s2 = .slice a n c) ∧ ∃ a n c, G.s3 = .slice a n c) ∧ G.minus.size ≤ 100 ∧ G.quote.size ≤ 100
theorem blanks_lexA (w : World) : Calls Tryz.prog 39 #[.string ⟨#[]⟩, .int .i64 0] w fun e w' => e = .returned (.int .i64 0) ∧ w' = w := by
  go_enter Tryz.func39, Tryz.ntmps39
  go_wp2
  go_loopg [1] 0 (fun g i wr => g = 0 ∧ i = .int .i64 0 ∧ wr = w)
  case atStart => exact ⟨rfl, rfl, rfl⟩
  case round =>
    obtain ⟨-, rfl, rfl⟩ := hrel
    go_wp2
    go_ret
    exact ⟨rfl, rfl⟩
set_option maxHeartbeats 2000000 in
theorem elexA (w : World) : Calls Tryz.prog 23 #[.string ⟨#[]⟩] w fun e w' => GvE w e w' := by
  have HB := hide (fun W => blanks_lexA W)
  obtain ⟨W1, hW1⟩ : ∃ W, w.alloc (.cells #[.int .i64 0, .int .i64 0, .int .i64 0] 34) = W := ⟨_, rfl⟩
  have hb1 : Below w.heap.size w W1 := by rw [← hW1]; exact one_alloc _ _
  have hC : Cs W1 w.heap.size [.int .i64 0, .int .i64 0, .int .i64 0] := by rw [← hW1]; exact Cs.new w [.int .i64 0, .int .i64 0, .int .i64 0] 34
  obtain ⟨W9, hW9⟩ : ∃ W9, W1.setCells w.heap.size 0 [.int .i64 0, .int .i64 0, .int .i64 0] = W9 := ⟨_, rfl⟩
  have HTH : Hid (W1.there w.heap.size 0 (#[.int .i64 0, .int .i64 0, .int .i64 0] : Array Value).size) := hide (hC.there (by simp))
  obtain ⟨C9, B9⟩ := hC.put (us := [.int .i64 0, .int .i64 0, .int .i64 0]) (by simp) hW9
  have HC9 := hide C9
  have HB9 := hide (hb1.trans (B9.below hb1.size fun k hk => by omega))
  have HW9 : Hid (W1.setCells w.heap.size 0 (#[.int .i64 0, .int .i64 0, .int .i64 0] : Array Value).toList = W9) := hide hW9
  clear hC C9 B9 hW9 hb1
  go_enter Tryz.func23, Tryz.ntmps23
  go_upto_region 1 with fail
  try rw [hW1]
  clear hW1
  go_wp2_with (first | (go_at_call 39; refine (HB.out _).mono ?_; rintro e w' ⟨rfl, hw'⟩; rw [hw']; clear hw'))
  go_loopg [4, 5] 0 (fun g l i wr => g = 0 ∧ l = .slice none 0 0 ∧ i = .int .i64 0 ∧ wr = W1)
  case atStart => exact ⟨rfl, rfl, rfl, rfl⟩
  case round =>
    obtain ⟨-, rfl, rfl, hwr⟩ := hrel
    rw [hwr]
    clear hwr
    go_wp2_with (first | (refine wpList_store_mid rfl 34 (.tmp 3) (.tmp 49) rfl w.heap.size 0 #[.int .i64 0, .int .i64 0, .int .i64 0] rfl rfl HTH.out (by kernel_rfl) (by simp [Value.oneCell']) ?_; rw [HW9.out]))
    have q0 := HC9.out.c 0 _ rfl
    have q1 := HC9.out.c 1 _ rfl
    have q2 := HC9.out.c 2 _ rfl
    exact bodyPost_ret (v := .tuple #[.slice none 0 0, .agg #[.int .i64 0, .int .i64 0, .int .i64 0]]) (by simp [results, Tryz.results23, go_sem, q0, q1, q2]) rfl ⟨rfl, HB9.out⟩
set_option maxHeartbeats 2000000 in
theorem elexJ (w : World) : Calls Tryz.prog 24 #[.string ⟨#[]⟩] w fun e w' => GvE w e w' := by
  have HB := hide (fun W => blanks_lexA W)
  obtain ⟨W1, hW1⟩ : ∃ W, w.alloc (.cells #[.int .i64 0, .int .i64 0, .int .i64 0] 34) = W := ⟨_, rfl⟩
  have hb1 : Below w.heap.size w W1 := by rw [← hW1]; exact one_alloc _ _
  have hC : Cs W1 w.heap.size [.int .i64 0, .int .i64 0, .int .i64 0] := by rw [← hW1]; exact Cs.new w [.int .i64 0, .int .i64 0, .int .i64 0] 34
  obtain ⟨W9, hW9⟩ : ∃ W9, W1.setCells w.heap.size 0 [.int .i64 0, .int .i64 0, .int .i64 0] = W9 := ⟨_, rfl⟩
  have HTH : Hid (W1.there w.heap.size 0 (#[.int .i64 0, .int .i64 0, .int .i64 0] : Array Value).size) := hide (hC.there (by simp))
  obtain ⟨C9, B9⟩ := hC.put (us := [.int .i64 0, .int .i64 0, .int .i64 0]) (by simp) hW9
  have HC9 := hide C9
  have HB9 := hide (hb1.trans (B9.below hb1.size fun k hk => by omega))
  have HW9 : Hid (W1.setCells w.heap.size 0 (#[.int .i64 0, .int .i64 0, .int .i64 0] : Array Value).toList = W9) := hide hW9
  clear hC C9 B9 hW9 hb1
  go_enter Tryz.func24, Tryz.ntmps24
  go_upto_region 1 with fail
  try rw [hW1]
  clear hW1
  go_wp2_with (first | (go_at_call 39; refine (HB.out _).mono ?_; rintro e w' ⟨rfl, hw'⟩; rw [hw']; clear hw'))
  go_loopg [4, 5] 0 (fun g l i wr => g = 0 ∧ l = .slice none 0 0 ∧ i = .int .i64 0 ∧ wr = W1)
  case atStart => exact ⟨rfl, rfl, rfl, rfl⟩
  case round =>
    obtain ⟨-, rfl, rfl, hwr⟩ := hrel
    rw [hwr]
    clear hwr
    go_wp2_with (first | (refine wpList_store_mid rfl 34 (.tmp 3) (.tmp 49) rfl w.heap.size 0 #[.int .i64 0, .int .i64 0, .int .i64 0] rfl rfl HTH.out (by kernel_rfl) (by simp [Value.oneCell']) ?_; rw [HW9.out]))
    have q0 := HC9.out.c 0 _ rfl
    have q1 := HC9.out.c 1 _ rfl
    have q2 := HC9.out.c 2 _ rfl
    exact bodyPost_ret (v := .tuple #[.slice none 0 0, .agg #[.int .i64 0, .int .i64 0, .int .i64 0]]) (by simp [results, Tryz.results24, go_sem, q0, q1, q2]) rfl ⟨rfl, HB9.out⟩
set_option maxHeartbeats 2000000 in
theorem elexK (w : World) : Calls Tryz.prog 25 #[.string ⟨#[]⟩] w fun e w' => GvE w e w' := by
  have HB := hide (fun W => blanks_lexA W)
  obtain ⟨W1, hW1⟩ : ∃ W, w.alloc (.cells #[.int .i64 0, .int .i64 0, .int .i64 0] 34) = W := ⟨_, rfl⟩
  have hb1 : Below w.heap.size w W1 := by rw [← hW1]; exact one_alloc _ _
  have hC : Cs W1 w.heap.size [.int .i64 0, .int .i64 0, .int .i64 0] := by rw [← hW1]; exact Cs.new w [.int .i64 0, .int .i64 0, .int .i64 0] 34
  obtain ⟨W9, hW9⟩ : ∃ W9, W1.setCells w.heap.size 0 [.int .i64 0, .int .i64 0, .int .i64 0] = W9 := ⟨_, rfl⟩
  have HTH : Hid (W1.there w.heap.size 0 (#[.int .i64 0, .int .i64 0, .int .i64 0] : Array Value).size) := hide (hC.there (by simp))
  obtain ⟨C9, B9⟩ := hC.put (us := [.int .i64 0, .int .i64 0, .int .i64 0]) (by simp) hW9
  have HC9 := hide C9
  have HB9 := hide (hb1.trans (B9.below hb1.size fun k hk => by omega))
  have HW9 : Hid (W1.setCells w.heap.size 0 (#[.int .i64 0, .int .i64 0, .int .i64 0] : Array Value).toList = W9) := hide hW9
  clear hC C9 B9 hW9 hb1
  go_enter Tryz.func25, Tryz.ntmps25
  go_upto_region 1 with fail
  try rw [hW1]
  clear hW1
  go_wp2_with (first | (go_at_call 39; refine (HB.out _).mono ?_; rintro e w' ⟨rfl, hw'⟩; rw [hw']; clear hw'))
  go_loopg [4, 5] 0 (fun g l i wr => g = 0 ∧ l = .slice none 0 0 ∧ i = .int .i64 0 ∧ wr = W1)
  case atStart => exact ⟨rfl, rfl, rfl, rfl⟩
  case round =>
    obtain ⟨-, rfl, rfl, hwr⟩ := hrel
    rw [hwr]
    clear hwr
    go_wp2_with (first | (refine wpList_store_mid rfl 34 (.tmp 3) (.tmp 58) rfl w.heap.size 0 #[.int .i64 0, .int .i64 0, .int .i64 0] rfl rfl HTH.out (by kernel_rfl) (by simp [Value.oneCell']) ?_; rw [HW9.out]))
    have q0 := HC9.out.c 0 _ rfl
    have q1 := HC9.out.c 1 _ rfl
    have q2 := HC9.out.c 2 _ rfl
    exact bodyPost_ret (v := .tuple #[.slice none 0 0, .agg #[.int .i64 0, .int .i64 0, .int .i64 0]]) (by simp [results, Tryz.results25, go_sem, q0, q1, q2]) rfl ⟨rfl, HB9.out⟩
set_option maxHeartbeats 8000000 in
theorem lexE (d : Int) (w : World) : Calls Tryz.prog 8 #[.int .i64 d, .string ⟨#[]⟩] w fun e w' => GvLe w e w' := by
  obtain ⟨W2, hW2⟩ : ∃ W2, (w.alloc (.cells #[.slice none 0 0, .slice none 0 0, .slice none 0 0, .string ⟨#[]⟩, .string ⟨#[]⟩, .string ⟨#[]⟩, .string ⟨#[]⟩, .string ⟨#[]⟩, .string ⟨#[]⟩, .string ⟨#[]⟩, .string ⟨#[]⟩, .bool false, .bool false, .bool false] 30)).alloc (.cells #[.int .i64 0, .int .i64 0, .int .i64 0] 34) = W2 := ⟨_, rfl⟩
  have hs1 : (w.alloc (.cells #[.slice none 0 0, .slice none 0 0, .slice none 0 0, .string ⟨#[]⟩, .string ⟨#[]⟩, .string ⟨#[]⟩, .string ⟨#[]⟩, .string ⟨#[]⟩, .string ⟨#[]⟩, .string ⟨#[]⟩, .string ⟨#[]⟩, .bool false, .bool false, .bool false] 30)).heap.size = w.heap.size + 1 := by simp
  have b2 : Below w.heap.size w W2 := by rw [← hW2]; exact two_allocs _ _ _
  have s2 : W2.heap.size = w.heap.size + 2 := by rw [← hW2]; simp
  have R2 : Cs W2 w.heap.size z14 := by rw [← hW2]; exact (Cs.new w z14 30).next (one_alloc _ _) (by simp)
  have F2 : Cs W2 (w.heap.size + 1) [.int .i64 0, .int .i64 0, .int .i64 0] := by
    have h := Cs.new (w.alloc (.cells #[.slice none 0 0, .slice none 0 0, .slice none 0 0, .string ⟨#[]⟩, .string ⟨#[]⟩, .string ⟨#[]⟩, .string ⟨#[]⟩, .string ⟨#[]⟩, .string ⟨#[]⟩, .string ⟨#[]⟩, .string ⟨#[]⟩, .bool false, .bool false, .bool false] 30)) [.int .i64 0, .int .i64 0, .int .i64 0] 34
    rw [hs1] at h
    rw [← hW2]; exact h
  have HB2 := hide b2
  have HS2 := hide s2
  have HR2 := hide R2
  have HF2 := hide F2
  have HW2 := hide hW2
  have H12 := hide (elexA W2)
  have H14 := hide (elexJ W2)
  have H16 := hide (elexK W2)
  have HA : Hid (∀ W, Calls Tryz.prog 17 #[] W fun e w' => ∃ a1 c1 d1 a2 c2 d2 a3 c3 d3, e = .returned (gV (aplS (.slice a1 c1 d1) (.slice a2 c2 d2) (.slice a3 c3 d3))) ∧ Below W.heap.size W w') := hide fun W => aplS17
  have HJ : Hid (∀ W, Calls Tryz.prog 18 #[] W fun e w' => ∃ a1 c1 d1 a2 c2 d2 a3 c3 d3, e = .returned (gV (jS (.slice a1 c1 d1) (.slice a2 c2 d2) (.slice a3 c3 d3))) ∧ Below W.heap.size W w') := hide fun W => jS18
  have HK : Hid (∀ W, Calls Tryz.prog 21 #[] W fun e w' => ∃ a1 c1 d1 a2 c2 d2 a3 c3 d3, e = .returned (gV (kS (.slice a1 c1 d1) (.slice a2 c2 d2) (.slice a3 c3 d3))) ∧ Below W.heap.size W w') := hide fun W => kS21
  clear hW2 hs1 b2 s2 R2 F2
  go_enter Tryz.func8, Tryz.ntmps8
  go_upto_region 1 with fail
  rw [HW2.out]
  clear HW2
  go_wp2_with fail
  · refine H12.out.mono ?_
    rintro e w1 ⟨rfl, hb1⟩
    go_upto_region 4 with fail
    obtain ⟨V, hV⟩ : ∃ V, w1.alloc (.cells #[.int .i64 0, .int .i64 0, .int .i64 0] 34) = V := ⟨_, rfl⟩
    have bV : Below w1.heap.size w1 V := by rw [← hV]; exact one_alloc _ _
    have DV : Cs V w1.heap.size [.int .i64 0, .int .i64 0, .int .i64 0] := by rw [← hV]; exact Cs.new w1 [.int .i64 0, .int .i64 0, .int .i64 0] 34
    have HB1 := hide (bel_to hb1 bV)
    have x0 := DV.c 0 _ rfl
    have x1 := DV.c 1 _ rfl
    have x2 := DV.c 2 _ rfl
    have HDV := hide DV
    have HNL := hide hb1.size
    rw [hV]
    clear hV bV DV hb1 H12 H14 H16
    refine wp_region_any (by kernel_rfl) ?_
    change wpAny _ _ _ _ _ _ _ (World.drew _)
    refine wpAny_take (i := 1) (v := .slice none 0 0) rfl (by kernel_rfl) (by kernel_rfl) (by kernel_rfl) (fun _ _ _ h => h) (Or.inl ⟨by rfl, by intro w; rfl⟩) ?_
    refine wpAny_ready (rs := [0, 2]) (by kernel_rfl) (by simp) ?_
    refine AllReady.cons rfl (fun K hK => ?_) ?_
    · go_simp
      refine (HA.out _).mono ?_
      rintro e w5 ⟨a1, c1, d1, a2, c2, d2, a3, c3, d3, rfl, hb5⟩
      have hb5w := bel_to (Below.refl V.heap.size V).drew hb5
      have hw5 := bel_to HB1.out hb5w
      refine hK _ _ ?_
      clear hK K hb5
      obtain ⟨W8, hW8⟩ : ∃ W8, w5.setCells w.heap.size 0 [.slice a1 c1 d1, .slice a2 c2 d2, .slice a3 c3 d3, .string (aplS (.slice a1 c1 d1) (.slice a2 c2 d2) (.slice a3 c3 d3)).outer, .string (aplS (.slice a1 c1 d1) (.slice a2 c2 d2) (.slice a3 c3 d3)).power, .string (aplS (.slice a1 c1 d1) (.slice a2 c2 d2) (.slice a3 c3 d3)).opn, .string (aplS (.slice a1 c1 d1) (.slice a2 c2 d2) (.slice a3 c3 d3)).cls, .string (aplS (.slice a1 c1 d1) (.slice a2 c2 d2) (.slice a3 c3 d3)).left, .string (aplS (.slice a1 c1 d1) (.slice a2 c2 d2) (.slice a3 c3 d3)).right, .string (aplS (.slice a1 c1 d1) (.slice a2 c2 d2) (.slice a3 c3 d3)).minus, .string (aplS (.slice a1 c1 d1) (.slice a2 c2 d2) (.slice a3 c3 d3)).quote, .bool (aplS (.slice a1 c1 d1) (.slice a2 c2 d2) (.slice a3 c3 d3)).trains, .bool (aplS (.slice a1 c1 d1) (.slice a2 c2 d2) (.slice a3 c3 d3)).lone, .bool (aplS (.slice a1 c1 d1) (.slice a2 c2 d2) (.slice a3 c3 d3)).square] = W8 := ⟨_, rfl⟩
      obtain ⟨W9, hW9⟩ : ∃ W9, W8.setCells (w.heap.size + 1) 0 [.int .i64 0, .int .i64 0, .int .i64 0] = W9 := ⟨_, rfl⟩
      obtain ⟨t8, t9, C9, D9, B9, K9, S9, H9, X8⟩ := fin2 (HR2.out.next hw5 HR2.out.lt) (HF2.out.next hw5 HF2.out.lt) (by simp) (by simp) (bel_to HB2.out hw5) hW8 hW9
      have HDW := hide (X8 _ _ (HDV.out.next hb5w HDV.out.lt) (by have := HNL.out; have := HS2.out; omega))
      have hfin : GvLe w (.returned (.tuple #[gV (aplS (.slice a1 c1 d1) (.slice a2 c2 d2) (.slice a3 c3 d3)), .slice none 0 0, .agg #[.int .i64 0, .int .i64 0, .int .i64 0]])) W9 := ⟨B9, (aplS (.slice a1 c1 d1) (.slice a2 c2 d2) (.slice a3 c3 d3)), rfl, ⟨⟨_, _, _, rfl⟩, ⟨_, _, _, rfl⟩, ⟨_, _, _, rfl⟩⟩, Nat.le_of_ble_eq_true rfl, Nat.le_of_ble_eq_true rfl⟩
      have HW8' : Hid (w5.setCells w.heap.size 0 (#[.slice a1 c1 d1, .slice a2 c2 d2, .slice a3 c3 d3, .string (aplS (.slice a1 c1 d1) (.slice a2 c2 d2) (.slice a3 c3 d3)).outer, .string (aplS (.slice a1 c1 d1) (.slice a2 c2 d2) (.slice a3 c3 d3)).power, .string (aplS (.slice a1 c1 d1) (.slice a2 c2 d2) (.slice a3 c3 d3)).opn, .string (aplS (.slice a1 c1 d1) (.slice a2 c2 d2) (.slice a3 c3 d3)).cls, .string (aplS (.slice a1 c1 d1) (.slice a2 c2 d2) (.slice a3 c3 d3)).left, .string (aplS (.slice a1 c1 d1) (.slice a2 c2 d2) (.slice a3 c3 d3)).right, .string (aplS (.slice a1 c1 d1) (.slice a2 c2 d2) (.slice a3 c3 d3)).minus, .string (aplS (.slice a1 c1 d1) (.slice a2 c2 d2) (.slice a3 c3 d3)).quote, .bool (aplS (.slice a1 c1 d1) (.slice a2 c2 d2) (.slice a3 c3 d3)).trains, .bool (aplS (.slice a1 c1 d1) (.slice a2 c2 d2) (.slice a3 c3 d3)).lone, .bool (aplS (.slice a1 c1 d1) (.slice a2 c2 d2) (.slice a3 c3 d3)).square] : Array Value).toList = W8) := hW8
      have HW9' : Hid (W8.setCells (w.heap.size + 1) 0 (#[.int .i64 0, .int .i64 0, .int .i64 0] : Array Value).toList = W9) := hW9
      have HT8 := hide t8
      have HT9 := hide t9
      have HC9 := hide C9
      have HD9 := hide D9
      have HFN := hide hfin
      clear t8 t9 C9 D9 B9 K9 S9 H9 X8 hW8 hW9 hfin x0 x1 x2 HF2 HB2 HA HJ HK
      obtain ⟨⟨y0, y1, y2⟩, yl, yz⟩ := lt3 (HDV.out.next hb5w HDV.out.lt)
      refine wpAny_ready (rs := [2, 3]) (by kernel_rfl) (by simp) ?_
      refine AllReady.cons rfl (fun K hK => ?_) ?_
      · go_simp
        refine hK _ _ ?_
        clear hK K y0 y1 y2 yl yz
        refine wpAny_store (i := 3) (by kernel_rfl) rfl (by kernel_rfl) 30 (.tmp 4) (.tmp 24) rfl w.heap.size 0 #[.slice a1 c1 d1, .slice a2 c2 d2, .slice a3 c3 d3, .string (aplS (.slice a1 c1 d1) (.slice a2 c2 d2) (.slice a3 c3 d3)).outer, .string (aplS (.slice a1 c1 d1) (.slice a2 c2 d2) (.slice a3 c3 d3)).power, .string (aplS (.slice a1 c1 d1) (.slice a2 c2 d2) (.slice a3 c3 d3)).opn, .string (aplS (.slice a1 c1 d1) (.slice a2 c2 d2) (.slice a3 c3 d3)).cls, .string (aplS (.slice a1 c1 d1) (.slice a2 c2 d2) (.slice a3 c3 d3)).left, .string (aplS (.slice a1 c1 d1) (.slice a2 c2 d2) (.slice a3 c3 d3)).right, .string (aplS (.slice a1 c1 d1) (.slice a2 c2 d2) (.slice a3 c3 d3)).minus, .string (aplS (.slice a1 c1 d1) (.slice a2 c2 d2) (.slice a3 c3 d3)).quote, .bool (aplS (.slice a1 c1 d1) (.slice a2 c2 d2) (.slice a3 c3 d3)).trains, .bool (aplS (.slice a1 c1 d1) (.slice a2 c2 d2) (.slice a3 c3 d3)).lone, .bool (aplS (.slice a1 c1 d1) (.slice a2 c2 d2) (.slice a3 c3 d3)).square] rfl rfl HT8.out (by kernel_rfl) (by kernel_rfl) ?_
        rw [HW8'.out]
        refine wpAny_take (i := 4) (v := .slice none 0 0) rfl (by kernel_rfl) (by kernel_rfl) (by kernel_rfl) (fun _ _ _ h => h) (Or.inl ⟨by rfl, by intro w; rfl⟩) ?_
        refine wpAny_store (i := 5) (by kernel_rfl) rfl (by kernel_rfl) 34 (.tmp 6) (.tmp 26) rfl (w.heap.size + 1) 0 #[.int .i64 0, .int .i64 0, .int .i64 0] rfl rfl HT9.out (by kernel_rfl) (by kernel_rfl) ?_
        rw [HW9'.out]
        refine wpAny_done (by kernel_rfl) ?_ _
        clear hb5w hw5 HB1 HDV HR2 HS2 HDW HT8 HT9 HW8' HW9'
        go_wp2
        have r0 := HC9.out.c 0 _ rfl
        have r1 := HC9.out.c 1 _ rfl
        have r2 := HC9.out.c 2 _ rfl
        have r3 := HC9.out.c 3 _ rfl
        have r4 := HC9.out.c 4 _ rfl
        have r5 := HC9.out.c 5 _ rfl
        have r6 := HC9.out.c 6 _ rfl
        have r7 := HC9.out.c 7 _ rfl
        have r8 := HC9.out.c 8 _ rfl
        have r9 := HC9.out.c 9 _ rfl
        have r10 := HC9.out.c 10 _ rfl
        have r11 := HC9.out.c 11 _ rfl
        have r12 := HC9.out.c 12 _ rfl
        have r13 := HC9.out.c 13 _ rfl
        have q0 := HD9.out.c 0 _ rfl
        have q1 := HD9.out.c 1 _ rfl
        have q2 := HD9.out.c 2 _ rfl
        exact bodyPost_ret (v := .tuple #[.agg #[.slice a1 c1 d1, .slice a2 c2 d2, .slice a3 c3 d3, .string (aplS (.slice a1 c1 d1) (.slice a2 c2 d2) (.slice a3 c3 d3)).outer, .string (aplS (.slice a1 c1 d1) (.slice a2 c2 d2) (.slice a3 c3 d3)).power, .string (aplS (.slice a1 c1 d1) (.slice a2 c2 d2) (.slice a3 c3 d3)).opn, .string (aplS (.slice a1 c1 d1) (.slice a2 c2 d2) (.slice a3 c3 d3)).cls, .string (aplS (.slice a1 c1 d1) (.slice a2 c2 d2) (.slice a3 c3 d3)).left, .string (aplS (.slice a1 c1 d1) (.slice a2 c2 d2) (.slice a3 c3 d3)).right, .string (aplS (.slice a1 c1 d1) (.slice a2 c2 d2) (.slice a3 c3 d3)).minus, .string (aplS (.slice a1 c1 d1) (.slice a2 c2 d2) (.slice a3 c3 d3)).quote, .bool (aplS (.slice a1 c1 d1) (.slice a2 c2 d2) (.slice a3 c3 d3)).trains, .bool (aplS (.slice a1 c1 d1) (.slice a2 c2 d2) (.slice a3 c3 d3)).lone, .bool (aplS (.slice a1 c1 d1) (.slice a2 c2 d2) (.slice a3 c3 d3)).square], .slice none 0 0, .agg #[.int .i64 0, .int .i64 0, .int .i64 0]]) (by simp [results, Tryz.results8, go_sem, r0, r1, r2, r3, r4, r5, r6, r7, r8, r9, r10, r11, r12, r13, q0, q1, q2]) rfl HFN.out
      refine AllReady.cons rfl (fun K hK => ?_) AllReady.nil
      · refine if_yes (by kernel_rfl) (wp_store_mid 30 (.tmp 4) (.tmp 24) rfl w.heap.size 0 #[.slice a1 c1 d1, .slice a2 c2 d2, .slice a3 c3 d3, .string (aplS (.slice a1 c1 d1) (.slice a2 c2 d2) (.slice a3 c3 d3)).outer, .string (aplS (.slice a1 c1 d1) (.slice a2 c2 d2) (.slice a3 c3 d3)).power, .string (aplS (.slice a1 c1 d1) (.slice a2 c2 d2) (.slice a3 c3 d3)).opn, .string (aplS (.slice a1 c1 d1) (.slice a2 c2 d2) (.slice a3 c3 d3)).cls, .string (aplS (.slice a1 c1 d1) (.slice a2 c2 d2) (.slice a3 c3 d3)).left, .string (aplS (.slice a1 c1 d1) (.slice a2 c2 d2) (.slice a3 c3 d3)).right, .string (aplS (.slice a1 c1 d1) (.slice a2 c2 d2) (.slice a3 c3 d3)).minus, .string (aplS (.slice a1 c1 d1) (.slice a2 c2 d2) (.slice a3 c3 d3)).quote, .bool (aplS (.slice a1 c1 d1) (.slice a2 c2 d2) (.slice a3 c3 d3)).trains, .bool (aplS (.slice a1 c1 d1) (.slice a2 c2 d2) (.slice a3 c3 d3)).lone, .bool (aplS (.slice a1 c1 d1) (.slice a2 c2 d2) (.slice a3 c3 d3)).square] rfl rfl HT8.out (by kernel_rfl) (by kernel_rfl) ?_)
        rw [HW8'.out]
        refine hK _ _ ?_
        clear hK K y0 y1 y2 yl yz
        refine wpAny_take (i := 4) (v := .slice none 0 0) rfl (by kernel_rfl) (by kernel_rfl) (by kernel_rfl) (fun _ _ _ h => h) (Or.inl ⟨by rfl, by intro w; rfl⟩) ?_
        obtain ⟨⟨y0, y1, y2⟩, yl, yz⟩ := lt3 HDW.out
        refine wpAny_ready (rs := [2]) (by kernel_rfl) (by simp) ?_
        refine AllReady.cons rfl (fun K hK => ?_) AllReady.nil
        go_simp
        refine hK _ _ ?_
        clear hK K y0 y1 y2 yl yz
        refine wpAny_store (i := 5) (by kernel_rfl) rfl (by kernel_rfl) 34 (.tmp 6) (.tmp 26) rfl (w.heap.size + 1) 0 #[.int .i64 0, .int .i64 0, .int .i64 0] rfl rfl HT9.out (by kernel_rfl) (by kernel_rfl) ?_
        rw [HW9'.out]
        refine wpAny_done (by kernel_rfl) ?_ _
        clear hb5w hw5 HB1 HDV HR2 HS2 HDW HT8 HT9 HW8' HW9'
        go_wp2
        have r0 := HC9.out.c 0 _ rfl
        have r1 := HC9.out.c 1 _ rfl
        have r2 := HC9.out.c 2 _ rfl
        have r3 := HC9.out.c 3 _ rfl
        have r4 := HC9.out.c 4 _ rfl
        have r5 := HC9.out.c 5 _ rfl
        have r6 := HC9.out.c 6 _ rfl
        have r7 := HC9.out.c 7 _ rfl
        have r8 := HC9.out.c 8 _ rfl
        have r9 := HC9.out.c 9 _ rfl
        have r10 := HC9.out.c 10 _ rfl
        have r11 := HC9.out.c 11 _ rfl
        have r12 := HC9.out.c 12 _ rfl
        have r13 := HC9.out.c 13 _ rfl
        have q0 := HD9.out.c 0 _ rfl
        have q1 := HD9.out.c 1 _ rfl
        have q2 := HD9.out.c 2 _ rfl
        exact bodyPost_ret (v := .tuple #[.agg #[.slice a1 c1 d1, .slice a2 c2 d2, .slice a3 c3 d3, .string (aplS (.slice a1 c1 d1) (.slice a2 c2 d2) (.slice a3 c3 d3)).outer, .string (aplS (.slice a1 c1 d1) (.slice a2 c2 d2) (.slice a3 c3 d3)).power, .string (aplS (.slice a1 c1 d1) (.slice a2 c2 d2) (.slice a3 c3 d3)).opn, .string (aplS (.slice a1 c1 d1) (.slice a2 c2 d2) (.slice a3 c3 d3)).cls, .string (aplS (.slice a1 c1 d1) (.slice a2 c2 d2) (.slice a3 c3 d3)).left, .string (aplS (.slice a1 c1 d1) (.slice a2 c2 d2) (.slice a3 c3 d3)).right, .string (aplS (.slice a1 c1 d1) (.slice a2 c2 d2) (.slice a3 c3 d3)).minus, .string (aplS (.slice a1 c1 d1) (.slice a2 c2 d2) (.slice a3 c3 d3)).quote, .bool (aplS (.slice a1 c1 d1) (.slice a2 c2 d2) (.slice a3 c3 d3)).trains, .bool (aplS (.slice a1 c1 d1) (.slice a2 c2 d2) (.slice a3 c3 d3)).lone, .bool (aplS (.slice a1 c1 d1) (.slice a2 c2 d2) (.slice a3 c3 d3)).square], .slice none 0 0, .agg #[.int .i64 0, .int .i64 0, .int .i64 0]]) (by simp [results, Tryz.results8, go_sem, r0, r1, r2, r3, r4, r5, r6, r7, r8, r9, r10, r11, r12, r13, q0, q1, q2]) rfl HFN.out
    refine AllReady.cons rfl (fun K hK => ?_) AllReady.nil
    · go_simp
      refine hK _ _ ?_
      clear hK K
      refine wpAny_ready (rs := [0]) (by kernel_rfl) (by simp) ?_
      refine AllReady.cons rfl (fun K hK => ?_) AllReady.nil
      go_simp
      refine (HA.out _).mono ?_
      rintro e w5 ⟨a1, c1, d1, a2, c2, d2, a3, c3, d3, rfl, hb5⟩
      have hb5w := bel_to (Below.refl V.heap.size V).drew hb5
      have hw5 := bel_to HB1.out hb5w
      refine hK _ _ ?_
      clear hK K hb5
      obtain ⟨W8, hW8⟩ : ∃ W8, w5.setCells w.heap.size 0 [.slice a1 c1 d1, .slice a2 c2 d2, .slice a3 c3 d3, .string (aplS (.slice a1 c1 d1) (.slice a2 c2 d2) (.slice a3 c3 d3)).outer, .string (aplS (.slice a1 c1 d1) (.slice a2 c2 d2) (.slice a3 c3 d3)).power, .string (aplS (.slice a1 c1 d1) (.slice a2 c2 d2) (.slice a3 c3 d3)).opn, .string (aplS (.slice a1 c1 d1) (.slice a2 c2 d2) (.slice a3 c3 d3)).cls, .string (aplS (.slice a1 c1 d1) (.slice a2 c2 d2) (.slice a3 c3 d3)).left, .string (aplS (.slice a1 c1 d1) (.slice a2 c2 d2) (.slice a3 c3 d3)).right, .string (aplS (.slice a1 c1 d1) (.slice a2 c2 d2) (.slice a3 c3 d3)).minus, .string (aplS (.slice a1 c1 d1) (.slice a2 c2 d2) (.slice a3 c3 d3)).quote, .bool (aplS (.slice a1 c1 d1) (.slice a2 c2 d2) (.slice a3 c3 d3)).trains, .bool (aplS (.slice a1 c1 d1) (.slice a2 c2 d2) (.slice a3 c3 d3)).lone, .bool (aplS (.slice a1 c1 d1) (.slice a2 c2 d2) (.slice a3 c3 d3)).square] = W8 := ⟨_, rfl⟩
      obtain ⟨W9, hW9⟩ : ∃ W9, W8.setCells (w.heap.size + 1) 0 [.int .i64 0, .int .i64 0, .int .i64 0] = W9 := ⟨_, rfl⟩
      obtain ⟨t8, t9, C9, D9, B9, K9, S9, H9, X8⟩ := fin2 (HR2.out.next hw5 HR2.out.lt) (HF2.out.next hw5 HF2.out.lt) (by simp) (by simp) (bel_to HB2.out hw5) hW8 hW9
      have HDW := hide (X8 _ _ (HDV.out.next hb5w HDV.out.lt) (by have := HNL.out; have := HS2.out; omega))
      have hfin : GvLe w (.returned (.tuple #[gV (aplS (.slice a1 c1 d1) (.slice a2 c2 d2) (.slice a3 c3 d3)), .slice none 0 0, .agg #[.int .i64 0, .int .i64 0, .int .i64 0]])) W9 := ⟨B9, (aplS (.slice a1 c1 d1) (.slice a2 c2 d2) (.slice a3 c3 d3)), rfl, ⟨⟨_, _, _, rfl⟩, ⟨_, _, _, rfl⟩, ⟨_, _, _, rfl⟩⟩, Nat.le_of_ble_eq_true rfl, Nat.le_of_ble_eq_true rfl⟩
      have HW8' : Hid (w5.setCells w.heap.size 0 (#[.slice a1 c1 d1, .slice a2 c2 d2, .slice a3 c3 d3, .string (aplS (.slice a1 c1 d1) (.slice a2 c2 d2) (.slice a3 c3 d3)).outer, .string (aplS (.slice a1 c1 d1) (.slice a2 c2 d2) (.slice a3 c3 d3)).power, .string (aplS (.slice a1 c1 d1) (.slice a2 c2 d2) (.slice a3 c3 d3)).opn, .string (aplS (.slice a1 c1 d1) (.slice a2 c2 d2) (.slice a3 c3 d3)).cls, .string (aplS (.slice a1 c1 d1) (.slice a2 c2 d2) (.slice a3 c3 d3)).left, .string (aplS (.slice a1 c1 d1) (.slice a2 c2 d2) (.slice a3 c3 d3)).right, .string (aplS (.slice a1 c1 d1) (.slice a2 c2 d2) (.slice a3 c3 d3)).minus, .string (aplS (.slice a1 c1 d1) (.slice a2 c2 d2) (.slice a3 c3 d3)).quote, .bool (aplS (.slice a1 c1 d1) (.slice a2 c2 d2) (.slice a3 c3 d3)).trains, .bool (aplS (.slice a1 c1 d1) (.slice a2 c2 d2) (.slice a3 c3 d3)).lone, .bool (aplS (.slice a1 c1 d1) (.slice a2 c2 d2) (.slice a3 c3 d3)).square] : Array Value).toList = W8) := hW8
      have HW9' : Hid (W8.setCells (w.heap.size + 1) 0 (#[.int .i64 0, .int .i64 0, .int .i64 0] : Array Value).toList = W9) := hW9
      have HT8 := hide t8
      have HT9 := hide t9
      have HC9 := hide C9
      have HD9 := hide D9
      have HFN := hide hfin
      clear t8 t9 C9 D9 B9 K9 S9 H9 X8 hW8 hW9 hfin x0 x1 x2 HF2 HB2 HA HJ HK
      refine wpAny_store (i := 3) (by kernel_rfl) rfl (by kernel_rfl) 30 (.tmp 4) (.tmp 24) rfl w.heap.size 0 #[.slice a1 c1 d1, .slice a2 c2 d2, .slice a3 c3 d3, .string (aplS (.slice a1 c1 d1) (.slice a2 c2 d2) (.slice a3 c3 d3)).outer, .string (aplS (.slice a1 c1 d1) (.slice a2 c2 d2) (.slice a3 c3 d3)).power, .string (aplS (.slice a1 c1 d1) (.slice a2 c2 d2) (.slice a3 c3 d3)).opn, .string (aplS (.slice a1 c1 d1) (.slice a2 c2 d2) (.slice a3 c3 d3)).cls, .string (aplS (.slice a1 c1 d1) (.slice a2 c2 d2) (.slice a3 c3 d3)).left, .string (aplS (.slice a1 c1 d1) (.slice a2 c2 d2) (.slice a3 c3 d3)).right, .string (aplS (.slice a1 c1 d1) (.slice a2 c2 d2) (.slice a3 c3 d3)).minus, .string (aplS (.slice a1 c1 d1) (.slice a2 c2 d2) (.slice a3 c3 d3)).quote, .bool (aplS (.slice a1 c1 d1) (.slice a2 c2 d2) (.slice a3 c3 d3)).trains, .bool (aplS (.slice a1 c1 d1) (.slice a2 c2 d2) (.slice a3 c3 d3)).lone, .bool (aplS (.slice a1 c1 d1) (.slice a2 c2 d2) (.slice a3 c3 d3)).square] rfl rfl HT8.out (by kernel_rfl) (by kernel_rfl) ?_
      rw [HW8'.out]
      refine wpAny_take (i := 4) (v := .slice none 0 0) rfl (by kernel_rfl) (by kernel_rfl) (by kernel_rfl) (fun _ _ _ h => h) (Or.inl ⟨by rfl, by intro w; rfl⟩) ?_
      refine wpAny_store (i := 5) (by kernel_rfl) rfl (by kernel_rfl) 34 (.tmp 6) (.tmp 26) rfl (w.heap.size + 1) 0 #[.int .i64 0, .int .i64 0, .int .i64 0] rfl rfl HT9.out (by kernel_rfl) (by kernel_rfl) ?_
      rw [HW9'.out]
      refine wpAny_done (by kernel_rfl) ?_ _
      clear hb5w hw5 HB1 HDV HR2 HS2 HDW HT8 HT9 HW8' HW9'
      go_wp2
      have r0 := HC9.out.c 0 _ rfl
      have r1 := HC9.out.c 1 _ rfl
      have r2 := HC9.out.c 2 _ rfl
      have r3 := HC9.out.c 3 _ rfl
      have r4 := HC9.out.c 4 _ rfl
      have r5 := HC9.out.c 5 _ rfl
      have r6 := HC9.out.c 6 _ rfl
      have r7 := HC9.out.c 7 _ rfl
      have r8 := HC9.out.c 8 _ rfl
      have r9 := HC9.out.c 9 _ rfl
      have r10 := HC9.out.c 10 _ rfl
      have r11 := HC9.out.c 11 _ rfl
      have r12 := HC9.out.c 12 _ rfl
      have r13 := HC9.out.c 13 _ rfl
      have q0 := HD9.out.c 0 _ rfl
      have q1 := HD9.out.c 1 _ rfl
      have q2 := HD9.out.c 2 _ rfl
      exact bodyPost_ret (v := .tuple #[.agg #[.slice a1 c1 d1, .slice a2 c2 d2, .slice a3 c3 d3, .string (aplS (.slice a1 c1 d1) (.slice a2 c2 d2) (.slice a3 c3 d3)).outer, .string (aplS (.slice a1 c1 d1) (.slice a2 c2 d2) (.slice a3 c3 d3)).power, .string (aplS (.slice a1 c1 d1) (.slice a2 c2 d2) (.slice a3 c3 d3)).opn, .string (aplS (.slice a1 c1 d1) (.slice a2 c2 d2) (.slice a3 c3 d3)).cls, .string (aplS (.slice a1 c1 d1) (.slice a2 c2 d2) (.slice a3 c3 d3)).left, .string (aplS (.slice a1 c1 d1) (.slice a2 c2 d2) (.slice a3 c3 d3)).right, .string (aplS (.slice a1 c1 d1) (.slice a2 c2 d2) (.slice a3 c3 d3)).minus, .string (aplS (.slice a1 c1 d1) (.slice a2 c2 d2) (.slice a3 c3 d3)).quote, .bool (aplS (.slice a1 c1 d1) (.slice a2 c2 d2) (.slice a3 c3 d3)).trains, .bool (aplS (.slice a1 c1 d1) (.slice a2 c2 d2) (.slice a3 c3 d3)).lone, .bool (aplS (.slice a1 c1 d1) (.slice a2 c2 d2) (.slice a3 c3 d3)).square], .slice none 0 0, .agg #[.int .i64 0, .int .i64 0, .int .i64 0]]) (by simp [results, Tryz.results8, go_sem, r0, r1, r2, r3, r4, r5, r6, r7, r8, r9, r10, r11, r12, r13, q0, q1, q2]) rfl HFN.out
  · refine H14.out.mono ?_
    rintro e w1 ⟨rfl, hb1⟩
    go_upto_region 7 with fail
    obtain ⟨V, hV⟩ : ∃ V, w1.alloc (.cells #[.int .i64 0, .int .i64 0, .int .i64 0] 34) = V := ⟨_, rfl⟩
    have bV : Below w1.heap.size w1 V := by rw [← hV]; exact one_alloc _ _
    have DV : Cs V w1.heap.size [.int .i64 0, .int .i64 0, .int .i64 0] := by rw [← hV]; exact Cs.new w1 [.int .i64 0, .int .i64 0, .int .i64 0] 34
    have HB1 := hide (bel_to hb1 bV)
    have x0 := DV.c 0 _ rfl
    have x1 := DV.c 1 _ rfl
    have x2 := DV.c 2 _ rfl
    have HDV := hide DV
    have HNL := hide hb1.size
    rw [hV]
    clear hV bV DV hb1 H12 H14 H16
    refine wp_region_any (by kernel_rfl) ?_
    change wpAny _ _ _ _ _ _ _ (World.drew _)
    refine wpAny_take (i := 1) (v := .slice none 0 0) rfl (by kernel_rfl) (by kernel_rfl) (by kernel_rfl) (fun _ _ _ h => h) (Or.inl ⟨by rfl, by intro w; rfl⟩) ?_
    refine wpAny_ready (rs := [0, 2]) (by kernel_rfl) (by simp) ?_
    refine AllReady.cons rfl (fun K hK => ?_) ?_
    · go_simp
      refine (HJ.out _).mono ?_
      rintro e w5 ⟨a1, c1, d1, a2, c2, d2, a3, c3, d3, rfl, hb5⟩
      have hb5w := bel_to (Below.refl V.heap.size V).drew hb5
      have hw5 := bel_to HB1.out hb5w
      refine hK _ _ ?_
      clear hK K hb5
      obtain ⟨W8, hW8⟩ : ∃ W8, w5.setCells w.heap.size 0 [.slice a1 c1 d1, .slice a2 c2 d2, .slice a3 c3 d3, .string (jS (.slice a1 c1 d1) (.slice a2 c2 d2) (.slice a3 c3 d3)).outer, .string (jS (.slice a1 c1 d1) (.slice a2 c2 d2) (.slice a3 c3 d3)).power, .string (jS (.slice a1 c1 d1) (.slice a2 c2 d2) (.slice a3 c3 d3)).opn, .string (jS (.slice a1 c1 d1) (.slice a2 c2 d2) (.slice a3 c3 d3)).cls, .string (jS (.slice a1 c1 d1) (.slice a2 c2 d2) (.slice a3 c3 d3)).left, .string (jS (.slice a1 c1 d1) (.slice a2 c2 d2) (.slice a3 c3 d3)).right, .string (jS (.slice a1 c1 d1) (.slice a2 c2 d2) (.slice a3 c3 d3)).minus, .string (jS (.slice a1 c1 d1) (.slice a2 c2 d2) (.slice a3 c3 d3)).quote, .bool (jS (.slice a1 c1 d1) (.slice a2 c2 d2) (.slice a3 c3 d3)).trains, .bool (jS (.slice a1 c1 d1) (.slice a2 c2 d2) (.slice a3 c3 d3)).lone, .bool (jS (.slice a1 c1 d1) (.slice a2 c2 d2) (.slice a3 c3 d3)).square] = W8 := ⟨_, rfl⟩
      obtain ⟨W9, hW9⟩ : ∃ W9, W8.setCells (w.heap.size + 1) 0 [.int .i64 0, .int .i64 0, .int .i64 0] = W9 := ⟨_, rfl⟩
      obtain ⟨t8, t9, C9, D9, B9, K9, S9, H9, X8⟩ := fin2 (HR2.out.next hw5 HR2.out.lt) (HF2.out.next hw5 HF2.out.lt) (by simp) (by simp) (bel_to HB2.out hw5) hW8 hW9
      have HDW := hide (X8 _ _ (HDV.out.next hb5w HDV.out.lt) (by have := HNL.out; have := HS2.out; omega))
      have hfin : GvLe w (.returned (.tuple #[gV (jS (.slice a1 c1 d1) (.slice a2 c2 d2) (.slice a3 c3 d3)), .slice none 0 0, .agg #[.int .i64 0, .int .i64 0, .int .i64 0]])) W9 := ⟨B9, (jS (.slice a1 c1 d1) (.slice a2 c2 d2) (.slice a3 c3 d3)), rfl, ⟨⟨_, _, _, rfl⟩, ⟨_, _, _, rfl⟩, ⟨_, _, _, rfl⟩⟩, Nat.le_of_ble_eq_true rfl, Nat.le_of_ble_eq_true rfl⟩
      have HW8' : Hid (w5.setCells w.heap.size 0 (#[.slice a1 c1 d1, .slice a2 c2 d2, .slice a3 c3 d3, .string (jS (.slice a1 c1 d1) (.slice a2 c2 d2) (.slice a3 c3 d3)).outer, .string (jS (.slice a1 c1 d1) (.slice a2 c2 d2) (.slice a3 c3 d3)).power, .string (jS (.slice a1 c1 d1) (.slice a2 c2 d2) (.slice a3 c3 d3)).opn, .string (jS (.slice a1 c1 d1) (.slice a2 c2 d2) (.slice a3 c3 d3)).cls, .string (jS (.slice a1 c1 d1) (.slice a2 c2 d2) (.slice a3 c3 d3)).left, .string (jS (.slice a1 c1 d1) (.slice a2 c2 d2) (.slice a3 c3 d3)).right, .string (jS (.slice a1 c1 d1) (.slice a2 c2 d2) (.slice a3 c3 d3)).minus, .string (jS (.slice a1 c1 d1) (.slice a2 c2 d2) (.slice a3 c3 d3)).quote, .bool (jS (.slice a1 c1 d1) (.slice a2 c2 d2) (.slice a3 c3 d3)).trains, .bool (jS (.slice a1 c1 d1) (.slice a2 c2 d2) (.slice a3 c3 d3)).lone, .bool (jS (.slice a1 c1 d1) (.slice a2 c2 d2) (.slice a3 c3 d3)).square] : Array Value).toList = W8) := hW8
      have HW9' : Hid (W8.setCells (w.heap.size + 1) 0 (#[.int .i64 0, .int .i64 0, .int .i64 0] : Array Value).toList = W9) := hW9
      have HT8 := hide t8
      have HT9 := hide t9
      have HC9 := hide C9
      have HD9 := hide D9
      have HFN := hide hfin
      clear t8 t9 C9 D9 B9 K9 S9 H9 X8 hW8 hW9 hfin x0 x1 x2 HF2 HB2 HA HJ HK
      obtain ⟨⟨y0, y1, y2⟩, yl, yz⟩ := lt3 (HDV.out.next hb5w HDV.out.lt)
      refine wpAny_ready (rs := [2, 3]) (by kernel_rfl) (by simp) ?_
      refine AllReady.cons rfl (fun K hK => ?_) ?_
      · go_simp
        refine hK _ _ ?_
        clear hK K y0 y1 y2 yl yz
        refine wpAny_store (i := 3) (by kernel_rfl) rfl (by kernel_rfl) 30 (.tmp 4) (.tmp 34) rfl w.heap.size 0 #[.slice a1 c1 d1, .slice a2 c2 d2, .slice a3 c3 d3, .string (jS (.slice a1 c1 d1) (.slice a2 c2 d2) (.slice a3 c3 d3)).outer, .string (jS (.slice a1 c1 d1) (.slice a2 c2 d2) (.slice a3 c3 d3)).power, .string (jS (.slice a1 c1 d1) (.slice a2 c2 d2) (.slice a3 c3 d3)).opn, .string (jS (.slice a1 c1 d1) (.slice a2 c2 d2) (.slice a3 c3 d3)).cls, .string (jS (.slice a1 c1 d1) (.slice a2 c2 d2) (.slice a3 c3 d3)).left, .string (jS (.slice a1 c1 d1) (.slice a2 c2 d2) (.slice a3 c3 d3)).right, .string (jS (.slice a1 c1 d1) (.slice a2 c2 d2) (.slice a3 c3 d3)).minus, .string (jS (.slice a1 c1 d1) (.slice a2 c2 d2) (.slice a3 c3 d3)).quote, .bool (jS (.slice a1 c1 d1) (.slice a2 c2 d2) (.slice a3 c3 d3)).trains, .bool (jS (.slice a1 c1 d1) (.slice a2 c2 d2) (.slice a3 c3 d3)).lone, .bool (jS (.slice a1 c1 d1) (.slice a2 c2 d2) (.slice a3 c3 d3)).square] rfl rfl HT8.out (by kernel_rfl) (by kernel_rfl) ?_
        rw [HW8'.out]
        refine wpAny_take (i := 4) (v := .slice none 0 0) rfl (by kernel_rfl) (by kernel_rfl) (by kernel_rfl) (fun _ _ _ h => h) (Or.inl ⟨by rfl, by intro w; rfl⟩) ?_
        refine wpAny_store (i := 5) (by kernel_rfl) rfl (by kernel_rfl) 34 (.tmp 6) (.tmp 36) rfl (w.heap.size + 1) 0 #[.int .i64 0, .int .i64 0, .int .i64 0] rfl rfl HT9.out (by kernel_rfl) (by kernel_rfl) ?_
        rw [HW9'.out]
        refine wpAny_done (by kernel_rfl) ?_ _
        clear hb5w hw5 HB1 HDV HR2 HS2 HDW HT8 HT9 HW8' HW9'
        go_wp2
        have r0 := HC9.out.c 0 _ rfl
        have r1 := HC9.out.c 1 _ rfl
        have r2 := HC9.out.c 2 _ rfl
        have r3 := HC9.out.c 3 _ rfl
        have r4 := HC9.out.c 4 _ rfl
        have r5 := HC9.out.c 5 _ rfl
        have r6 := HC9.out.c 6 _ rfl
        have r7 := HC9.out.c 7 _ rfl
        have r8 := HC9.out.c 8 _ rfl
        have r9 := HC9.out.c 9 _ rfl
        have r10 := HC9.out.c 10 _ rfl
        have r11 := HC9.out.c 11 _ rfl
        have r12 := HC9.out.c 12 _ rfl
        have r13 := HC9.out.c 13 _ rfl
        have q0 := HD9.out.c 0 _ rfl
        have q1 := HD9.out.c 1 _ rfl
        have q2 := HD9.out.c 2 _ rfl
        exact bodyPost_ret (v := .tuple #[.agg #[.slice a1 c1 d1, .slice a2 c2 d2, .slice a3 c3 d3, .string (jS (.slice a1 c1 d1) (.slice a2 c2 d2) (.slice a3 c3 d3)).outer, .string (jS (.slice a1 c1 d1) (.slice a2 c2 d2) (.slice a3 c3 d3)).power, .string (jS (.slice a1 c1 d1) (.slice a2 c2 d2) (.slice a3 c3 d3)).opn, .string (jS (.slice a1 c1 d1) (.slice a2 c2 d2) (.slice a3 c3 d3)).cls, .string (jS (.slice a1 c1 d1) (.slice a2 c2 d2) (.slice a3 c3 d3)).left, .string (jS (.slice a1 c1 d1) (.slice a2 c2 d2) (.slice a3 c3 d3)).right, .string (jS (.slice a1 c1 d1) (.slice a2 c2 d2) (.slice a3 c3 d3)).minus, .string (jS (.slice a1 c1 d1) (.slice a2 c2 d2) (.slice a3 c3 d3)).quote, .bool (jS (.slice a1 c1 d1) (.slice a2 c2 d2) (.slice a3 c3 d3)).trains, .bool (jS (.slice a1 c1 d1) (.slice a2 c2 d2) (.slice a3 c3 d3)).lone, .bool (jS (.slice a1 c1 d1) (.slice a2 c2 d2) (.slice a3 c3 d3)).square], .slice none 0 0, .agg #[.int .i64 0, .int .i64 0, .int .i64 0]]) (by simp [results, Tryz.results8, go_sem, r0, r1, r2, r3, r4, r5, r6, r7, r8, r9, r10, r11, r12, r13, q0, q1, q2]) rfl HFN.out
      refine AllReady.cons rfl (fun K hK => ?_) AllReady.nil
      · refine if_yes (by kernel_rfl) (wp_store_mid 30 (.tmp 4) (.tmp 34) rfl w.heap.size 0 #[.slice a1 c1 d1, .slice a2 c2 d2, .slice a3 c3 d3, .string (jS (.slice a1 c1 d1) (.slice a2 c2 d2) (.slice a3 c3 d3)).outer, .string (jS (.slice a1 c1 d1) (.slice a2 c2 d2) (.slice a3 c3 d3)).power, .string (jS (.slice a1 c1 d1) (.slice a2 c2 d2) (.slice a3 c3 d3)).opn, .string (jS (.slice a1 c1 d1) (.slice a2 c2 d2) (.slice a3 c3 d3)).cls, .string (jS (.slice a1 c1 d1) (.slice a2 c2 d2) (.slice a3 c3 d3)).left, .string (jS (.slice a1 c1 d1) (.slice a2 c2 d2) (.slice a3 c3 d3)).right, .string (jS (.slice a1 c1 d1) (.slice a2 c2 d2) (.slice a3 c3 d3)).minus, .string (jS (.slice a1 c1 d1) (.slice a2 c2 d2) (.slice a3 c3 d3)).quote, .bool (jS (.slice a1 c1 d1) (.slice a2 c2 d2) (.slice a3 c3 d3)).trains, .bool (jS (.slice a1 c1 d1) (.slice a2 c2 d2) (.slice a3 c3 d3)).lone, .bool (jS (.slice a1 c1 d1) (.slice a2 c2 d2) (.slice a3 c3 d3)).square] rfl rfl HT8.out (by kernel_rfl) (by kernel_rfl) ?_)
        rw [HW8'.out]
        refine hK _ _ ?_
        clear hK K y0 y1 y2 yl yz
        refine wpAny_take (i := 4) (v := .slice none 0 0) rfl (by kernel_rfl) (by kernel_rfl) (by kernel_rfl) (fun _ _ _ h => h) (Or.inl ⟨by rfl, by intro w; rfl⟩) ?_
        obtain ⟨⟨y0, y1, y2⟩, yl, yz⟩ := lt3 HDW.out
        refine wpAny_ready (rs := [2]) (by kernel_rfl) (by simp) ?_
        refine AllReady.cons rfl (fun K hK => ?_) AllReady.nil
        go_simp
        refine hK _ _ ?_
        clear hK K y0 y1 y2 yl yz
        refine wpAny_store (i := 5) (by kernel_rfl) rfl (by kernel_rfl) 34 (.tmp 6) (.tmp 36) rfl (w.heap.size + 1) 0 #[.int .i64 0, .int .i64 0, .int .i64 0] rfl rfl HT9.out (by kernel_rfl) (by kernel_rfl) ?_
        rw [HW9'.out]
        refine wpAny_done (by kernel_rfl) ?_ _
        clear hb5w hw5 HB1 HDV HR2 HS2 HDW HT8 HT9 HW8' HW9'
        go_wp2
        have r0 := HC9.out.c 0 _ rfl
        have r1 := HC9.out.c 1 _ rfl
        have r2 := HC9.out.c 2 _ rfl
        have r3 := HC9.out.c 3 _ rfl
        have r4 := HC9.out.c 4 _ rfl
        have r5 := HC9.out.c 5 _ rfl
        have r6 := HC9.out.c 6 _ rfl
        have r7 := HC9.out.c 7 _ rfl
        have r8 := HC9.out.c 8 _ rfl
        have r9 := HC9.out.c 9 _ rfl
        have r10 := HC9.out.c 10 _ rfl
        have r11 := HC9.out.c 11 _ rfl
        have r12 := HC9.out.c 12 _ rfl
        have r13 := HC9.out.c 13 _ rfl
        have q0 := HD9.out.c 0 _ rfl
        have q1 := HD9.out.c 1 _ rfl
        have q2 := HD9.out.c 2 _ rfl
        exact bodyPost_ret (v := .tuple #[.agg #[.slice a1 c1 d1, .slice a2 c2 d2, .slice a3 c3 d3, .string (jS (.slice a1 c1 d1) (.slice a2 c2 d2) (.slice a3 c3 d3)).outer, .string (jS (.slice a1 c1 d1) (.slice a2 c2 d2) (.slice a3 c3 d3)).power, .string (jS (.slice a1 c1 d1) (.slice a2 c2 d2) (.slice a3 c3 d3)).opn, .string (jS (.slice a1 c1 d1) (.slice a2 c2 d2) (.slice a3 c3 d3)).cls, .string (jS (.slice a1 c1 d1) (.slice a2 c2 d2) (.slice a3 c3 d3)).left, .string (jS (.slice a1 c1 d1) (.slice a2 c2 d2) (.slice a3 c3 d3)).right, .string (jS (.slice a1 c1 d1) (.slice a2 c2 d2) (.slice a3 c3 d3)).minus, .string (jS (.slice a1 c1 d1) (.slice a2 c2 d2) (.slice a3 c3 d3)).quote, .bool (jS (.slice a1 c1 d1) (.slice a2 c2 d2) (.slice a3 c3 d3)).trains, .bool (jS (.slice a1 c1 d1) (.slice a2 c2 d2) (.slice a3 c3 d3)).lone, .bool (jS (.slice a1 c1 d1) (.slice a2 c2 d2) (.slice a3 c3 d3)).square], .slice none 0 0, .agg #[.int .i64 0, .int .i64 0, .int .i64 0]]) (by simp [results, Tryz.results8, go_sem, r0, r1, r2, r3, r4, r5, r6, r7, r8, r9, r10, r11, r12, r13, q0, q1, q2]) rfl HFN.out
    refine AllReady.cons rfl (fun K hK => ?_) AllReady.nil
    · go_simp
      refine hK _ _ ?_
      clear hK K
      refine wpAny_ready (rs := [0]) (by kernel_rfl) (by simp) ?_
      refine AllReady.cons rfl (fun K hK => ?_) AllReady.nil
      go_simp
      refine (HJ.out _).mono ?_
      rintro e w5 ⟨a1, c1, d1, a2, c2, d2, a3, c3, d3, rfl, hb5⟩
      have hb5w := bel_to (Below.refl V.heap.size V).drew hb5
      have hw5 := bel_to HB1.out hb5w
      refine hK _ _ ?_
      clear hK K hb5
      obtain ⟨W8, hW8⟩ : ∃ W8, w5.setCells w.heap.size 0 [.slice a1 c1 d1, .slice a2 c2 d2, .slice a3 c3 d3, .string (jS (.slice a1 c1 d1) (.slice a2 c2 d2) (.slice a3 c3 d3)).outer, .string (jS (.slice a1 c1 d1) (.slice a2 c2 d2) (.slice a3 c3 d3)).power, .string (jS (.slice a1 c1 d1) (.slice a2 c2 d2) (.slice a3 c3 d3)).opn, .string (jS (.slice a1 c1 d1) (.slice a2 c2 d2) (.slice a3 c3 d3)).cls, .string (jS (.slice a1 c1 d1) (.slice a2 c2 d2) (.slice a3 c3 d3)).left, .string (jS (.slice a1 c1 d1) (.slice a2 c2 d2) (.slice a3 c3 d3)).right, .string (jS (.slice a1 c1 d1) (.slice a2 c2 d2) (.slice a3 c3 d3)).minus, .string (jS (.slice a1 c1 d1) (.slice a2 c2 d2) (.slice a3 c3 d3)).quote, .bool (jS (.slice a1 c1 d1) (.slice a2 c2 d2) (.slice a3 c3 d3)).trains, .bool (jS (.slice a1 c1 d1) (.slice a2 c2 d2) (.slice a3 c3 d3)).lone, .bool (jS (.slice a1 c1 d1) (.slice a2 c2 d2) (.slice a3 c3 d3)).square] = W8 := ⟨_, rfl⟩
      obtain ⟨W9, hW9⟩ : ∃ W9, W8.setCells (w.heap.size + 1) 0 [.int .i64 0, .int .i64 0, .int .i64 0] = W9 := ⟨_, rfl⟩
      obtain ⟨t8, t9, C9, D9, B9, K9, S9, H9, X8⟩ := fin2 (HR2.out.next hw5 HR2.out.lt) (HF2.out.next hw5 HF2.out.lt) (by simp) (by simp) (bel_to HB2.out hw5) hW8 hW9
      have HDW := hide (X8 _ _ (HDV.out.next hb5w HDV.out.lt) (by have := HNL.out; have := HS2.out; omega))
      have hfin : GvLe w (.returned (.tuple #[gV (jS (.slice a1 c1 d1) (.slice a2 c2 d2) (.slice a3 c3 d3)), .slice none 0 0, .agg #[.int .i64 0, .int .i64 0, .int .i64 0]])) W9 := ⟨B9, (jS (.slice a1 c1 d1) (.slice a2 c2 d2) (.slice a3 c3 d3)), rfl, ⟨⟨_, _, _, rfl⟩, ⟨_, _, _, rfl⟩, ⟨_, _, _, rfl⟩⟩, Nat.le_of_ble_eq_true rfl, Nat.le_of_ble_eq_true rfl⟩
      have HW8' : Hid (w5.setCells w.heap.size 0 (#[.slice a1 c1 d1, .slice a2 c2 d2, .slice a3 c3 d3, .string (jS (.slice a1 c1 d1) (.slice a2 c2 d2) (.slice a3 c3 d3)).outer, .string (jS (.slice a1 c1 d1) (.slice a2 c2 d2) (.slice a3 c3 d3)).power, .string (jS (.slice a1 c1 d1) (.slice a2 c2 d2) (.slice a3 c3 d3)).opn, .string (jS (.slice a1 c1 d1) (.slice a2 c2 d2) (.slice a3 c3 d3)).cls, .string (jS (.slice a1 c1 d1) (.slice a2 c2 d2) (.slice a3 c3 d3)).left, .string (jS (.slice a1 c1 d1) (.slice a2 c2 d2) (.slice a3 c3 d3)).right, .string (jS (.slice a1 c1 d1) (.slice a2 c2 d2) (.slice a3 c3 d3)).minus, .string (jS (.slice a1 c1 d1) (.slice a2 c2 d2) (.slice a3 c3 d3)).quote, .bool (jS (.slice a1 c1 d1) (.slice a2 c2 d2) (.slice a3 c3 d3)).trains, .bool (jS (.slice a1 c1 d1) (.slice a2 c2 d2) (.slice a3 c3 d3)).lone, .bool (jS (.slice a1 c1 d1) (.slice a2 c2 d2) (.slice a3 c3 d3)).square] : Array Value).toList = W8) := hW8
      have HW9' : Hid (W8.setCells (w.heap.size + 1) 0 (#[.int .i64 0, .int .i64 0, .int .i64 0] : Array Value).toList = W9) := hW9
      have HT8 := hide t8
      have HT9 := hide t9
      have HC9 := hide C9
      have HD9 := hide D9
      have HFN := hide hfin
      clear t8 t9 C9 D9 B9 K9 S9 H9 X8 hW8 hW9 hfin x0 x1 x2 HF2 HB2 HA HJ HK
      refine wpAny_store (i := 3) (by kernel_rfl) rfl (by kernel_rfl) 30 (.tmp 4) (.tmp 34) rfl w.heap.size 0 #[.slice a1 c1 d1, .slice a2 c2 d2, .slice a3 c3 d3, .string (jS (.slice a1 c1 d1) (.slice a2 c2 d2) (.slice a3 c3 d3)).outer, .string (jS (.slice a1 c1 d1) (.slice a2 c2 d2) (.slice a3 c3 d3)).power, .string (jS (.slice a1 c1 d1) (.slice a2 c2 d2) (.slice a3 c3 d3)).opn, .string (jS (.slice a1 c1 d1) (.slice a2 c2 d2) (.slice a3 c3 d3)).cls, .string (jS (.slice a1 c1 d1) (.slice a2 c2 d2) (.slice a3 c3 d3)).left, .string (jS (.slice a1 c1 d1) (.slice a2 c2 d2) (.slice a3 c3 d3)).right, .string (jS (.slice a1 c1 d1) (.slice a2 c2 d2) (.slice a3 c3 d3)).minus, .string (jS (.slice a1 c1 d1) (.slice a2 c2 d2) (.slice a3 c3 d3)).quote, .bool (jS (.slice a1 c1 d1) (.slice a2 c2 d2) (.slice a3 c3 d3)).trains, .bool (jS (.slice a1 c1 d1) (.slice a2 c2 d2) (.slice a3 c3 d3)).lone, .bool (jS (.slice a1 c1 d1) (.slice a2 c2 d2) (.slice a3 c3 d3)).square] rfl rfl HT8.out (by kernel_rfl) (by kernel_rfl) ?_
      rw [HW8'.out]
      refine wpAny_take (i := 4) (v := .slice none 0 0) rfl (by kernel_rfl) (by kernel_rfl) (by kernel_rfl) (fun _ _ _ h => h) (Or.inl ⟨by rfl, by intro w; rfl⟩) ?_
      refine wpAny_store (i := 5) (by kernel_rfl) rfl (by kernel_rfl) 34 (.tmp 6) (.tmp 36) rfl (w.heap.size + 1) 0 #[.int .i64 0, .int .i64 0, .int .i64 0] rfl rfl HT9.out (by kernel_rfl) (by kernel_rfl) ?_
      rw [HW9'.out]
      refine wpAny_done (by kernel_rfl) ?_ _
      clear hb5w hw5 HB1 HDV HR2 HS2 HDW HT8 HT9 HW8' HW9'
      go_wp2
      have r0 := HC9.out.c 0 _ rfl
      have r1 := HC9.out.c 1 _ rfl
      have r2 := HC9.out.c 2 _ rfl
      have r3 := HC9.out.c 3 _ rfl
      have r4 := HC9.out.c 4 _ rfl
      have r5 := HC9.out.c 5 _ rfl
      have r6 := HC9.out.c 6 _ rfl
      have r7 := HC9.out.c 7 _ rfl
      have r8 := HC9.out.c 8 _ rfl
      have r9 := HC9.out.c 9 _ rfl
      have r10 := HC9.out.c 10 _ rfl
      have r11 := HC9.out.c 11 _ rfl
      have r12 := HC9.out.c 12 _ rfl
      have r13 := HC9.out.c 13 _ rfl
      have q0 := HD9.out.c 0 _ rfl
      have q1 := HD9.out.c 1 _ rfl
      have q2 := HD9.out.c 2 _ rfl
      exact bodyPost_ret (v := .tuple #[.agg #[.slice a1 c1 d1, .slice a2 c2 d2, .slice a3 c3 d3, .string (jS (.slice a1 c1 d1) (.slice a2 c2 d2) (.slice a3 c3 d3)).outer, .string (jS (.slice a1 c1 d1) (.slice a2 c2 d2) (.slice a3 c3 d3)).power, .string (jS (.slice a1 c1 d1) (.slice a2 c2 d2) (.slice a3 c3 d3)).opn, .string (jS (.slice a1 c1 d1) (.slice a2 c2 d2) (.slice a3 c3 d3)).cls, .string (jS (.slice a1 c1 d1) (.slice a2 c2 d2) (.slice a3 c3 d3)).left, .string (jS (.slice a1 c1 d1) (.slice a2 c2 d2) (.slice a3 c3 d3)).right, .string (jS (.slice a1 c1 d1) (.slice a2 c2 d2) (.slice a3 c3 d3)).minus, .string (jS (.slice a1 c1 d1) (.slice a2 c2 d2) (.slice a3 c3 d3)).quote, .bool (jS (.slice a1 c1 d1) (.slice a2 c2 d2) (.slice a3 c3 d3)).trains, .bool (jS (.slice a1 c1 d1) (.slice a2 c2 d2) (.slice a3 c3 d3)).lone, .bool (jS (.slice a1 c1 d1) (.slice a2 c2 d2) (.slice a3 c3 d3)).square], .slice none 0 0, .agg #[.int .i64 0, .int .i64 0, .int .i64 0]]) (by simp [results, Tryz.results8, go_sem, r0, r1, r2, r3, r4, r5, r6, r7, r8, r9, r10, r11, r12, r13, q0, q1, q2]) rfl HFN.out
  · refine H16.out.mono ?_
    rintro e w1 ⟨rfl, hb1⟩
    go_upto_region 9 with fail
    obtain ⟨V, hV⟩ : ∃ V, w1.alloc (.cells #[.int .i64 0, .int .i64 0, .int .i64 0] 34) = V := ⟨_, rfl⟩
    have bV : Below w1.heap.size w1 V := by rw [← hV]; exact one_alloc _ _
    have DV : Cs V w1.heap.size [.int .i64 0, .int .i64 0, .int .i64 0] := by rw [← hV]; exact Cs.new w1 [.int .i64 0, .int .i64 0, .int .i64 0] 34
    have HB1 := hide (bel_to hb1 bV)
    have x0 := DV.c 0 _ rfl
    have x1 := DV.c 1 _ rfl
    have x2 := DV.c 2 _ rfl
    have HDV := hide DV
    have HNL := hide hb1.size
    rw [hV]
    clear hV bV DV hb1 H12 H14 H16
    refine wp_region_any (by kernel_rfl) ?_
    change wpAny _ _ _ _ _ _ _ (World.drew _)
    refine wpAny_take (i := 1) (v := .slice none 0 0) rfl (by kernel_rfl) (by kernel_rfl) (by kernel_rfl) (fun _ _ _ h => h) (Or.inl ⟨by rfl, by intro w; rfl⟩) ?_
    refine wpAny_ready (rs := [0, 2]) (by kernel_rfl) (by simp) ?_
    refine AllReady.cons rfl (fun K hK => ?_) ?_
    · go_simp
      refine (HK.out _).mono ?_
      rintro e w5 ⟨a1, c1, d1, a2, c2, d2, a3, c3, d3, rfl, hb5⟩
      have hb5w := bel_to (Below.refl V.heap.size V).drew hb5
      have hw5 := bel_to HB1.out hb5w
      refine hK _ _ ?_
      clear hK K hb5
      obtain ⟨W8, hW8⟩ : ∃ W8, w5.setCells w.heap.size 0 [.slice a1 c1 d1, .slice a2 c2 d2, .slice a3 c3 d3, .string (kS (.slice a1 c1 d1) (.slice a2 c2 d2) (.slice a3 c3 d3)).outer, .string (kS (.slice a1 c1 d1) (.slice a2 c2 d2) (.slice a3 c3 d3)).power, .string (kS (.slice a1 c1 d1) (.slice a2 c2 d2) (.slice a3 c3 d3)).opn, .string (kS (.slice a1 c1 d1) (.slice a2 c2 d2) (.slice a3 c3 d3)).cls, .string (kS (.slice a1 c1 d1) (.slice a2 c2 d2) (.slice a3 c3 d3)).left, .string (kS (.slice a1 c1 d1) (.slice a2 c2 d2) (.slice a3 c3 d3)).right, .string (kS (.slice a1 c1 d1) (.slice a2 c2 d2) (.slice a3 c3 d3)).minus, .string (kS (.slice a1 c1 d1) (.slice a2 c2 d2) (.slice a3 c3 d3)).quote, .bool (kS (.slice a1 c1 d1) (.slice a2 c2 d2) (.slice a3 c3 d3)).trains, .bool (kS (.slice a1 c1 d1) (.slice a2 c2 d2) (.slice a3 c3 d3)).lone, .bool (kS (.slice a1 c1 d1) (.slice a2 c2 d2) (.slice a3 c3 d3)).square] = W8 := ⟨_, rfl⟩
      obtain ⟨W9, hW9⟩ : ∃ W9, W8.setCells (w.heap.size + 1) 0 [.int .i64 0, .int .i64 0, .int .i64 0] = W9 := ⟨_, rfl⟩
      obtain ⟨t8, t9, C9, D9, B9, K9, S9, H9, X8⟩ := fin2 (HR2.out.next hw5 HR2.out.lt) (HF2.out.next hw5 HF2.out.lt) (by simp) (by simp) (bel_to HB2.out hw5) hW8 hW9
      have HDW := hide (X8 _ _ (HDV.out.next hb5w HDV.out.lt) (by have := HNL.out; have := HS2.out; omega))
      have hfin : GvLe w (.returned (.tuple #[gV (kS (.slice a1 c1 d1) (.slice a2 c2 d2) (.slice a3 c3 d3)), .slice none 0 0, .agg #[.int .i64 0, .int .i64 0, .int .i64 0]])) W9 := ⟨B9, (kS (.slice a1 c1 d1) (.slice a2 c2 d2) (.slice a3 c3 d3)), rfl, ⟨⟨_, _, _, rfl⟩, ⟨_, _, _, rfl⟩, ⟨_, _, _, rfl⟩⟩, Nat.le_of_ble_eq_true rfl, Nat.le_of_ble_eq_true rfl⟩
      have HW8' : Hid (w5.setCells w.heap.size 0 (#[.slice a1 c1 d1, .slice a2 c2 d2, .slice a3 c3 d3, .string (kS (.slice a1 c1 d1) (.slice a2 c2 d2) (.slice a3 c3 d3)).outer, .string (kS (.slice a1 c1 d1) (.slice a2 c2 d2) (.slice a3 c3 d3)).power, .string (kS (.slice a1 c1 d1) (.slice a2 c2 d2) (.slice a3 c3 d3)).opn, .string (kS (.slice a1 c1 d1) (.slice a2 c2 d2) (.slice a3 c3 d3)).cls, .string (kS (.slice a1 c1 d1) (.slice a2 c2 d2) (.slice a3 c3 d3)).left, .string (kS (.slice a1 c1 d1) (.slice a2 c2 d2) (.slice a3 c3 d3)).right, .string (kS (.slice a1 c1 d1) (.slice a2 c2 d2) (.slice a3 c3 d3)).minus, .string (kS (.slice a1 c1 d1) (.slice a2 c2 d2) (.slice a3 c3 d3)).quote, .bool (kS (.slice a1 c1 d1) (.slice a2 c2 d2) (.slice a3 c3 d3)).trains, .bool (kS (.slice a1 c1 d1) (.slice a2 c2 d2) (.slice a3 c3 d3)).lone, .bool (kS (.slice a1 c1 d1) (.slice a2 c2 d2) (.slice a3 c3 d3)).square] : Array Value).toList = W8) := hW8
      have HW9' : Hid (W8.setCells (w.heap.size + 1) 0 (#[.int .i64 0, .int .i64 0, .int .i64 0] : Array Value).toList = W9) := hW9
      have HT8 := hide t8
      have HT9 := hide t9
      have HC9 := hide C9
      have HD9 := hide D9
      have HFN := hide hfin
      clear t8 t9 C9 D9 B9 K9 S9 H9 X8 hW8 hW9 hfin x0 x1 x2 HF2 HB2 HA HJ HK
      obtain ⟨⟨y0, y1, y2⟩, yl, yz⟩ := lt3 (HDV.out.next hb5w HDV.out.lt)
      refine wpAny_ready (rs := [2, 3]) (by kernel_rfl) (by simp) ?_
      refine AllReady.cons rfl (fun K hK => ?_) ?_
      · go_simp
        refine hK _ _ ?_
        clear hK K y0 y1 y2 yl yz
        refine wpAny_store (i := 3) (by kernel_rfl) rfl (by kernel_rfl) 30 (.tmp 4) (.tmp 42) rfl w.heap.size 0 #[.slice a1 c1 d1, .slice a2 c2 d2, .slice a3 c3 d3, .string (kS (.slice a1 c1 d1) (.slice a2 c2 d2) (.slice a3 c3 d3)).outer, .string (kS (.slice a1 c1 d1) (.slice a2 c2 d2) (.slice a3 c3 d3)).power, .string (kS (.slice a1 c1 d1) (.slice a2 c2 d2) (.slice a3 c3 d3)).opn, .string (kS (.slice a1 c1 d1) (.slice a2 c2 d2) (.slice a3 c3 d3)).cls, .string (kS (.slice a1 c1 d1) (.slice a2 c2 d2) (.slice a3 c3 d3)).left, .string (kS (.slice a1 c1 d1) (.slice a2 c2 d2) (.slice a3 c3 d3)).right, .string (kS (.slice a1 c1 d1) (.slice a2 c2 d2) (.slice a3 c3 d3)).minus, .string (kS (.slice a1 c1 d1) (.slice a2 c2 d2) (.slice a3 c3 d3)).quote, .bool (kS (.slice a1 c1 d1) (.slice a2 c2 d2) (.slice a3 c3 d3)).trains, .bool (kS (.slice a1 c1 d1) (.slice a2 c2 d2) (.slice a3 c3 d3)).lone, .bool (kS (.slice a1 c1 d1) (.slice a2 c2 d2) (.slice a3 c3 d3)).square] rfl rfl HT8.out (by kernel_rfl) (by kernel_rfl) ?_
        rw [HW8'.out]
        refine wpAny_take (i := 4) (v := .slice none 0 0) rfl (by kernel_rfl) (by kernel_rfl) (by kernel_rfl) (fun _ _ _ h => h) (Or.inl ⟨by rfl, by intro w; rfl⟩) ?_
        refine wpAny_store (i := 5) (by kernel_rfl) rfl (by kernel_rfl) 34 (.tmp 6) (.tmp 44) rfl (w.heap.size + 1) 0 #[.int .i64 0, .int .i64 0, .int .i64 0] rfl rfl HT9.out (by kernel_rfl) (by kernel_rfl) ?_
        rw [HW9'.out]
        refine wpAny_done (by kernel_rfl) ?_ _
        clear hb5w hw5 HB1 HDV HR2 HS2 HDW HT8 HT9 HW8' HW9'
        go_wp2
        have r0 := HC9.out.c 0 _ rfl
        have r1 := HC9.out.c 1 _ rfl
        have r2 := HC9.out.c 2 _ rfl
        have r3 := HC9.out.c 3 _ rfl
        have r4 := HC9.out.c 4 _ rfl
        have r5 := HC9.out.c 5 _ rfl
        have r6 := HC9.out.c 6 _ rfl
        have r7 := HC9.out.c 7 _ rfl
        have r8 := HC9.out.c 8 _ rfl
        have r9 := HC9.out.c 9 _ rfl
        have r10 := HC9.out.c 10 _ rfl
        have r11 := HC9.out.c 11 _ rfl
        have r12 := HC9.out.c 12 _ rfl
        have r13 := HC9.out.c 13 _ rfl
        have q0 := HD9.out.c 0 _ rfl
        have q1 := HD9.out.c 1 _ rfl
        have q2 := HD9.out.c 2 _ rfl
        exact bodyPost_ret (v := .tuple #[.agg #[.slice a1 c1 d1, .slice a2 c2 d2, .slice a3 c3 d3, .string (kS (.slice a1 c1 d1) (.slice a2 c2 d2) (.slice a3 c3 d3)).outer, .string (kS (.slice a1 c1 d1) (.slice a2 c2 d2) (.slice a3 c3 d3)).power, .string (kS (.slice a1 c1 d1) (.slice a2 c2 d2) (.slice a3 c3 d3)).opn, .string (kS (.slice a1 c1 d1) (.slice a2 c2 d2) (.slice a3 c3 d3)).cls, .string (kS (.slice a1 c1 d1) (.slice a2 c2 d2) (.slice a3 c3 d3)).left, .string (kS (.slice a1 c1 d1) (.slice a2 c2 d2) (.slice a3 c3 d3)).right, .string (kS (.slice a1 c1 d1) (.slice a2 c2 d2) (.slice a3 c3 d3)).minus, .string (kS (.slice a1 c1 d1) (.slice a2 c2 d2) (.slice a3 c3 d3)).quote, .bool (kS (.slice a1 c1 d1) (.slice a2 c2 d2) (.slice a3 c3 d3)).trains, .bool (kS (.slice a1 c1 d1) (.slice a2 c2 d2) (.slice a3 c3 d3)).lone, .bool (kS (.slice a1 c1 d1) (.slice a2 c2 d2) (.slice a3 c3 d3)).square], .slice none 0 0, .agg #[.int .i64 0, .int .i64 0, .int .i64 0]]) (by simp [results, Tryz.results8, go_sem, r0, r1, r2, r3, r4, r5, r6, r7, r8, r9, r10, r11, r12, r13, q0, q1, q2]) rfl HFN.out
      refine AllReady.cons rfl (fun K hK => ?_) AllReady.nil
      · refine if_yes (by kernel_rfl) (wp_store_mid 30 (.tmp 4) (.tmp 42) rfl w.heap.size 0 #[.slice a1 c1 d1, .slice a2 c2 d2, .slice a3 c3 d3, .string (kS (.slice a1 c1 d1) (.slice a2 c2 d2) (.slice a3 c3 d3)).outer, .string (kS (.slice a1 c1 d1) (.slice a2 c2 d2) (.slice a3 c3 d3)).power, .string (kS (.slice a1 c1 d1) (.slice a2 c2 d2) (.slice a3 c3 d3)).opn, .string (kS (.slice a1 c1 d1) (.slice a2 c2 d2) (.slice a3 c3 d3)).cls, .string (kS (.slice a1 c1 d1) (.slice a2 c2 d2) (.slice a3 c3 d3)).left, .string (kS (.slice a1 c1 d1) (.slice a2 c2 d2) (.slice a3 c3 d3)).right, .string (kS (.slice a1 c1 d1) (.slice a2 c2 d2) (.slice a3 c3 d3)).minus, .string (kS (.slice a1 c1 d1) (.slice a2 c2 d2) (.slice a3 c3 d3)).quote, .bool (kS (.slice a1 c1 d1) (.slice a2 c2 d2) (.slice a3 c3 d3)).trains, .bool (kS (.slice a1 c1 d1) (.slice a2 c2 d2) (.slice a3 c3 d3)).lone, .bool (kS (.slice a1 c1 d1) (.slice a2 c2 d2) (.slice a3 c3 d3)).square] rfl rfl HT8.out (by kernel_rfl) (by kernel_rfl) ?_)
        rw [HW8'.out]
        refine hK _ _ ?_
        clear hK K y0 y1 y2 yl yz
        refine wpAny_take (i := 4) (v := .slice none 0 0) rfl (by kernel_rfl) (by kernel_rfl) (by kernel_rfl) (fun _ _ _ h => h) (Or.inl ⟨by rfl, by intro w; rfl⟩) ?_
        obtain ⟨⟨y0, y1, y2⟩, yl, yz⟩ := lt3 HDW.out
        refine wpAny_ready (rs := [2]) (by kernel_rfl) (by simp) ?_
        refine AllReady.cons rfl (fun K hK => ?_) AllReady.nil
        go_simp
        refine hK _ _ ?_
        clear hK K y0 y1 y2 yl yz
        refine wpAny_store (i := 5) (by kernel_rfl) rfl (by kernel_rfl) 34 (.tmp 6) (.tmp 44) rfl (w.heap.size + 1) 0 #[.int .i64 0, .int .i64 0, .int .i64 0] rfl rfl HT9.out (by kernel_rfl) (by kernel_rfl) ?_
        rw [HW9'.out]
        refine wpAny_done (by kernel_rfl) ?_ _
        clear hb5w hw5 HB1 HDV HR2 HS2 HDW HT8 HT9 HW8' HW9'
        go_wp2
        have r0 := HC9.out.c 0 _ rfl
        have r1 := HC9.out.c 1 _ rfl
        have r2 := HC9.out.c 2 _ rfl
        have r3 := HC9.out.c 3 _ rfl
        have r4 := HC9.out.c 4 _ rfl
        have r5 := HC9.out.c 5 _ rfl
        have r6 := HC9.out.c 6 _ rfl
        have r7 := HC9.out.c 7 _ rfl
        have r8 := HC9.out.c 8 _ rfl
        have r9 := HC9.out.c 9 _ rfl
        have r10 := HC9.out.c 10 _ rfl
        have r11 := HC9.out.c 11 _ rfl
        have r12 := HC9.out.c 12 _ rfl
        have r13 := HC9.out.c 13 _ rfl
        have q0 := HD9.out.c 0 _ rfl
        have q1 := HD9.out.c 1 _ rfl
        have q2 := HD9.out.c 2 _ rfl
        exact bodyPost_ret (v := .tuple #[.agg #[.slice a1 c1 d1, .slice a2 c2 d2, .slice a3 c3 d3, .string (kS (.slice a1 c1 d1) (.slice a2 c2 d2) (.slice a3 c3 d3)).outer, .string (kS (.slice a1 c1 d1) (.slice a2 c2 d2) (.slice a3 c3 d3)).power, .string (kS (.slice a1 c1 d1) (.slice a2 c2 d2) (.slice a3 c3 d3)).opn, .string (kS (.slice a1 c1 d1) (.slice a2 c2 d2) (.slice a3 c3 d3)).cls, .string (kS (.slice a1 c1 d1) (.slice a2 c2 d2) (.slice a3 c3 d3)).left, .string (kS (.slice a1 c1 d1) (.slice a2 c2 d2) (.slice a3 c3 d3)).right, .string (kS (.slice a1 c1 d1) (.slice a2 c2 d2) (.slice a3 c3 d3)).minus, .string (kS (.slice a1 c1 d1) (.slice a2 c2 d2) (.slice a3 c3 d3)).quote, .bool (kS (.slice a1 c1 d1) (.slice a2 c2 d2) (.slice a3 c3 d3)).trains, .bool (kS (.slice a1 c1 d1) (.slice a2 c2 d2) (.slice a3 c3 d3)).lone, .bool (kS (.slice a1 c1 d1) (.slice a2 c2 d2) (.slice a3 c3 d3)).square], .slice none 0 0, .agg #[.int .i64 0, .int .i64 0, .int .i64 0]]) (by simp [results, Tryz.results8, go_sem, r0, r1, r2, r3, r4, r5, r6, r7, r8, r9, r10, r11, r12, r13, q0, q1, q2]) rfl HFN.out
    refine AllReady.cons rfl (fun K hK => ?_) AllReady.nil
    · go_simp
      refine hK _ _ ?_
      clear hK K
      refine wpAny_ready (rs := [0]) (by kernel_rfl) (by simp) ?_
      refine AllReady.cons rfl (fun K hK => ?_) AllReady.nil
      go_simp
      refine (HK.out _).mono ?_
      rintro e w5 ⟨a1, c1, d1, a2, c2, d2, a3, c3, d3, rfl, hb5⟩
      have hb5w := bel_to (Below.refl V.heap.size V).drew hb5
      have hw5 := bel_to HB1.out hb5w
      refine hK _ _ ?_
      clear hK K hb5
      obtain ⟨W8, hW8⟩ : ∃ W8, w5.setCells w.heap.size 0 [.slice a1 c1 d1, .slice a2 c2 d2, .slice a3 c3 d3, .string (kS (.slice a1 c1 d1) (.slice a2 c2 d2) (.slice a3 c3 d3)).outer, .string (kS (.slice a1 c1 d1) (.slice a2 c2 d2) (.slice a3 c3 d3)).power, .string (kS (.slice a1 c1 d1) (.slice a2 c2 d2) (.slice a3 c3 d3)).opn, .string (kS (.slice a1 c1 d1) (.slice a2 c2 d2) (.slice a3 c3 d3)).cls, .string (kS (.slice a1 c1 d1) (.slice a2 c2 d2) (.slice a3 c3 d3)).left, .string (kS (.slice a1 c1 d1) (.slice a2 c2 d2) (.slice a3 c3 d3)).right, .string (kS (.slice a1 c1 d1) (.slice a2 c2 d2) (.slice a3 c3 d3)).minus, .string (kS (.slice a1 c1 d1) (.slice a2 c2 d2) (.slice a3 c3 d3)).quote, .bool (kS (.slice a1 c1 d1) (.slice a2 c2 d2) (.slice a3 c3 d3)).trains, .bool (kS (.slice a1 c1 d1) (.slice a2 c2 d2) (.slice a3 c3 d3)).lone, .bool (kS (.slice a1 c1 d1) (.slice a2 c2 d2) (.slice a3 c3 d3)).square] = W8 := ⟨_, rfl⟩
      obtain ⟨W9, hW9⟩ : ∃ W9, W8.setCells (w.heap.size + 1) 0 [.int .i64 0, .int .i64 0, .int .i64 0] = W9 := ⟨_, rfl⟩
      obtain ⟨t8, t9, C9, D9, B9, K9, S9, H9, X8⟩ := fin2 (HR2.out.next hw5 HR2.out.lt) (HF2.out.next hw5 HF2.out.lt) (by simp) (by simp) (bel_to HB2.out hw5) hW8 hW9
      have HDW := hide (X8 _ _ (HDV.out.next hb5w HDV.out.lt) (by have := HNL.out; have := HS2.out; omega))
      have hfin : GvLe w (.returned (.tuple #[gV (kS (.slice a1 c1 d1) (.slice a2 c2 d2) (.slice a3 c3 d3)), .slice none 0 0, .agg #[.int .i64 0, .int .i64 0, .int .i64 0]])) W9 := ⟨B9, (kS (.slice a1 c1 d1) (.slice a2 c2 d2) (.slice a3 c3 d3)), rfl, ⟨⟨_, _, _, rfl⟩, ⟨_, _, _, rfl⟩, ⟨_, _, _, rfl⟩⟩, Nat.le_of_ble_eq_true rfl, Nat.le_of_ble_eq_true rfl⟩
      have HW8' : Hid (w5.setCells w.heap.size 0 (#[.slice a1 c1 d1, .slice a2 c2 d2, .slice a3 c3 d3, .string (kS (.slice a1 c1 d1) (.slice a2 c2 d2) (.slice a3 c3 d3)).outer, .string (kS (.slice a1 c1 d1) (.slice a2 c2 d2) (.slice a3 c3 d3)).power, .string (kS (.slice a1 c1 d1) (.slice a2 c2 d2) (.slice a3 c3 d3)).opn, .string (kS (.slice a1 c1 d1) (.slice a2 c2 d2) (.slice a3 c3 d3)).cls, .string (kS (.slice a1 c1 d1) (.slice a2 c2 d2) (.slice a3 c3 d3)).left, .string (kS (.slice a1 c1 d1) (.slice a2 c2 d2) (.slice a3 c3 d3)).right, .string (kS (.slice a1 c1 d1) (.slice a2 c2 d2) (.slice a3 c3 d3)).minus, .string (kS (.slice a1 c1 d1) (.slice a2 c2 d2) (.slice a3 c3 d3)).quote, .bool (kS (.slice a1 c1 d1) (.slice a2 c2 d2) (.slice a3 c3 d3)).trains, .bool (kS (.slice a1 c1 d1) (.slice a2 c2 d2) (.slice a3 c3 d3)).lone, .bool (kS (.slice a1 c1 d1) (.slice a2 c2 d2) (.slice a3 c3 d3)).square] : Array Value).toList = W8) := hW8
      have HW9' : Hid (W8.setCells (w.heap.size + 1) 0 (#[.int .i64 0, .int .i64 0, .int .i64 0] : Array Value).toList = W9) := hW9
      have HT8 := hide t8
      have HT9 := hide t9
      have HC9 := hide C9
      have HD9 := hide D9
      have HFN := hide hfin
      clear t8 t9 C9 D9 B9 K9 S9 H9 X8 hW8 hW9 hfin x0 x1 x2 HF2 HB2 HA HJ HK
      refine wpAny_store (i := 3) (by kernel_rfl) rfl (by kernel_rfl) 30 (.tmp 4) (.tmp 42) rfl w.heap.size 0 #[.slice a1 c1 d1, .slice a2 c2 d2, .slice a3 c3 d3, .string (kS (.slice a1 c1 d1) (.slice a2 c2 d2) (.slice a3 c3 d3)).outer, .string (kS (.slice a1 c1 d1) (.slice a2 c2 d2) (.slice a3 c3 d3)).power, .string (kS (.slice a1 c1 d1) (.slice a2 c2 d2) (.slice a3 c3 d3)).opn, .string (kS (.slice a1 c1 d1) (.slice a2 c2 d2) (.slice a3 c3 d3)).cls, .string (kS (.slice a1 c1 d1) (.slice a2 c2 d2) (.slice a3 c3 d3)).left, .string (kS (.slice a1 c1 d1) (.slice a2 c2 d2) (.slice a3 c3 d3)).right, .string (kS (.slice a1 c1 d1) (.slice a2 c2 d2) (.slice a3 c3 d3)).minus, .string (kS (.slice a1 c1 d1) (.slice a2 c2 d2) (.slice a3 c3 d3)).quote, .bool (kS (.slice a1 c1 d1) (.slice a2 c2 d2) (.slice a3 c3 d3)).trains, .bool (kS (.slice a1 c1 d1) (.slice a2 c2 d2) (.slice a3 c3 d3)).lone, .bool (kS (.slice a1 c1 d1) (.slice a2 c2 d2) (.slice a3 c3 d3)).square] rfl rfl HT8.out (by kernel_rfl) (by kernel_rfl) ?_
      rw [HW8'.out]
      refine wpAny_take (i := 4) (v := .slice none 0 0) rfl (by kernel_rfl) (by kernel_rfl) (by kernel_rfl) (fun _ _ _ h => h) (Or.inl ⟨by rfl, by intro w; rfl⟩) ?_
      refine wpAny_store (i := 5) (by kernel_rfl) rfl (by kernel_rfl) 34 (.tmp 6) (.tmp 44) rfl (w.heap.size + 1) 0 #[.int .i64 0, .int .i64 0, .int .i64 0] rfl rfl HT9.out (by kernel_rfl) (by kernel_rfl) ?_
      rw [HW9'.out]
      refine wpAny_done (by kernel_rfl) ?_ _
      clear hb5w hw5 HB1 HDV HR2 HS2 HDW HT8 HT9 HW8' HW9'
      go_wp2
      have r0 := HC9.out.c 0 _ rfl
      have r1 := HC9.out.c 1 _ rfl
      have r2 := HC9.out.c 2 _ rfl
      have r3 := HC9.out.c 3 _ rfl
      have r4 := HC9.out.c 4 _ rfl
      have r5 := HC9.out.c 5 _ rfl
      have r6 := HC9.out.c 6 _ rfl
      have r7 := HC9.out.c 7 _ rfl
      have r8 := HC9.out.c 8 _ rfl
      have r9 := HC9.out.c 9 _ rfl
      have r10 := HC9.out.c 10 _ rfl
      have r11 := HC9.out.c 11 _ rfl
      have r12 := HC9.out.c 12 _ rfl
      have r13 := HC9.out.c 13 _ rfl
      have q0 := HD9.out.c 0 _ rfl
      have q1 := HD9.out.c 1 _ rfl
      have q2 := HD9.out.c 2 _ rfl
      exact bodyPost_ret (v := .tuple #[.agg #[.slice a1 c1 d1, .slice a2 c2 d2, .slice a3 c3 d3, .string (kS (.slice a1 c1 d1) (.slice a2 c2 d2) (.slice a3 c3 d3)).outer, .string (kS (.slice a1 c1 d1) (.slice a2 c2 d2) (.slice a3 c3 d3)).power, .string (kS (.slice a1 c1 d1) (.slice a2 c2 d2) (.slice a3 c3 d3)).opn, .string (kS (.slice a1 c1 d1) (.slice a2 c2 d2) (.slice a3 c3 d3)).cls, .string (kS (.slice a1 c1 d1) (.slice a2 c2 d2) (.slice a3 c3 d3)).left, .string (kS (.slice a1 c1 d1) (.slice a2 c2 d2) (.slice a3 c3 d3)).right, .string (kS (.slice a1 c1 d1) (.slice a2 c2 d2) (.slice a3 c3 d3)).minus, .string (kS (.slice a1 c1 d1) (.slice a2 c2 d2) (.slice a3 c3 d3)).quote, .bool (kS (.slice a1 c1 d1) (.slice a2 c2 d2) (.slice a3 c3 d3)).trains, .bool (kS (.slice a1 c1 d1) (.slice a2 c2 d2) (.slice a3 c3 d3)).lone, .bool (kS (.slice a1 c1 d1) (.slice a2 c2 d2) (.slice a3 c3 d3)).square], .slice none 0 0, .agg #[.int .i64 0, .int .i64 0, .int .i64 0]]) (by simp [results, Tryz.results8, go_sem, r0, r1, r2, r3, r4, r5, r6, r7, r8, r9, r10, r11, r12, r13, q0, q1, q2]) rfl HFN.out
end Go.Proofs.YtneblkdkhlgmcaaGreatDoor
namespace Go.Proofs.YtneblkdkhlgmcaaGreatDoor.Rn
open Go.ChangeShapes Go.WideShapes Go.ChangeAt Go.RowKit
set_option linter.unusedVariables false
set_option linter.unusedSimpArgs false
set_option maxRecDepth 100000
theorem made (v : Value) (k : Nat) : madeCells #[v] k = Array.replicate k v := by
  apply Array.ext
  · simp [madeCells]
  · intro i h1 h2
    simp [madeCells, Nat.mod_one]
theorem make_run (k : Nat) (hk : k ≤ 4) (w : World) : (Instr.makeSlice 65 (.int .i64 (k : Int)) (.int .i64 (k : Int))).run Tryz.prog w = .ok (.slice (some ⟨w.heap.size, 0, none⟩) k k) (w.alloc (.cells (Array.replicate k (.int .u8 0)) 5)) := by
  obtain ⟨i0, hi, hz0, hz1, hz2⟩ := info_parts info5
  have := run_make (P := Tryz.prog) w 65 5 i0 (.int .u8 0) Tryz.underlying65 hi hz0 .i64 .i64 k k (by omega) (Int.le_refl _) (by rw [hz2]; omega) (by omega)
  rw [this, hz1, show (Value.int .u8 0).cells = #[Value.int .u8 0] from rfl, made]
  simp
theorem make1 (w : World) : (Instr.makeSlice 65 (.int .i64 1) (.int .i64 1)).run Tryz.prog w = .ok (.slice (some ⟨w.heap.size, 0, none⟩) 1 1) (w.alloc (.cells #[.int .u8 0] 5)) := make_run 1 (by omega) w
theorem make2 (w : World) : (Instr.makeSlice 65 (.int .i64 2) (.int .i64 2)).run Tryz.prog w = .ok (.slice (some ⟨w.heap.size, 0, none⟩) 2 2) (w.alloc (.cells #[.int .u8 0, .int .u8 0] 5)) := make_run 2 (by omega) w
theorem make3 (w : World) : (Instr.makeSlice 65 (.int .i64 3) (.int .i64 3)).run Tryz.prog w = .ok (.slice (some ⟨w.heap.size, 0, none⟩) 3 3) (w.alloc (.cells #[.int .u8 0, .int .u8 0, .int .u8 0] 5)) := make_run 3 (by omega) w
theorem make4 (w : World) : (Instr.makeSlice 65 (.int .i64 4) (.int .i64 4)).run Tryz.prog w = .ok (.slice (some ⟨w.heap.size, 0, none⟩) 4 4) (w.alloc (.cells #[.int .u8 0, .int .u8 0, .int .u8 0, .int .u8 0] 5)) := make_run 4 (by omega) w
set_option maxHeartbeats 2000000 in
theorem put1 (n : Int) (w : World) (hn0 : 0 ≤ n) (hn : n < 128) :
    Calls Tryz.prog 30 #[.int .i64 n] w fun e w' => e = .returned (.slice (some ⟨w.heap.size, 0, none⟩) 1 1) ∧ w' = w.alloc (.cells #[.int .u8 (n)] 5) := by
  have hw : wid n = 1 := by unfold wid; rw [if_pos hn]
  have mk := make1
  have dt : n < 128 := by omega
  go_enter Tryz.func30, Tryz.ntmps30
  go_wp2_with (go_at_call 53; refine (wid_any _ _).mono ?_; rintro e w' ⟨rfl, hw'⟩; rw [hw'])
  go_loopw [0, 5] (fun m i wr => (i = .int .i64 0 ∧ m = .int .i64 (n) ∧ wr = w.alloc (.cells #[.int .u8 0] 5))) (fun _ i _ => (intOf i).toNat)
  case atStart => exact ⟨rfl, rfl, rfl⟩
  case round =>
    obtain ⟨rfl, rfl, rfl⟩ := hrel
    go_wp2
    go_ret
    exact ⟨rfl, rfl⟩
set_option maxHeartbeats 2000000 in
theorem put2 (n : Int) (w : World) (hn0 : 128 ≤ n) (hn : n < 2048) :
    Calls Tryz.prog 30 #[.int .i64 n] w fun e w' => e = .returned (.slice (some ⟨w.heap.size, 0, none⟩) 2 2) ∧ w' = w.alloc (.cells #[.int .u8 (192 + n / 64), .int .u8 (128 + n % 64)] 5) := by
  have hw : wid n = 2 := by unfold wid; rw [if_neg (by omega), if_pos hn]
  have mk := make2
  have d1 : 0 ≤ n / 64 := by omega
  have dt : n / 64 < 64 := by omega
  go_enter Tryz.func30, Tryz.ntmps30
  go_wp2_with (go_at_call 53; refine (wid_any _ _).mono ?_; rintro e w' ⟨rfl, hw'⟩; rw [hw'])
  go_loopw [0, 5] (fun m i wr => (i = .int .i64 1 ∧ m = .int .i64 (n) ∧ wr = w.alloc (.cells #[.int .u8 0, .int .u8 0] 5)) ∨ (i = .int .i64 0 ∧ m = .int .i64 (n / 64) ∧ wr = w.alloc (.cells #[.int .u8 0, .int .u8 (128 + n % 64)] 5))) (fun _ i _ => (intOf i).toNat)
  case atStart => exact Or.inl ⟨rfl, rfl, rfl⟩
  case round =>
    rcases hrel with ⟨rfl, rfl, rfl⟩ | ⟨rfl, rfl, rfl⟩
    · go_wp2
      go_roundw
      case rel => exact Or.inr (⟨rfl, rfl, trivial⟩)
      case measure => simp [intOf]
    · go_wp2
      go_ret
      exact ⟨rfl, rfl⟩
set_option maxHeartbeats 2000000 in
theorem put3 (n : Int) (w : World) (hn0 : 2048 ≤ n) (hn : n < 65536) :
    Calls Tryz.prog 30 #[.int .i64 n] w fun e w' => e = .returned (.slice (some ⟨w.heap.size, 0, none⟩) 3 3) ∧ w' = w.alloc (.cells #[.int .u8 (224 + n / 64 / 64), .int .u8 (128 + n / 64 % 64), .int .u8 (128 + n % 64)] 5) := by
  have hw : wid n = 3 := by unfold wid; rw [if_neg (by omega), if_neg (by omega), if_pos hn]
  have mk := make3
  have d1 : 0 ≤ n / 64 := by omega
  have d2 : 0 ≤ n / 64 / 64 := by omega
  have dt : n / 64 / 64 < 32 := by omega
  go_enter Tryz.func30, Tryz.ntmps30
  go_wp2_with (go_at_call 53; refine (wid_any _ _).mono ?_; rintro e w' ⟨rfl, hw'⟩; rw [hw'])
  go_loopw [0, 5] (fun m i wr => (i = .int .i64 2 ∧ m = .int .i64 (n) ∧ wr = w.alloc (.cells #[.int .u8 0, .int .u8 0, .int .u8 0] 5)) ∨ (i = .int .i64 1 ∧ m = .int .i64 (n / 64) ∧ wr = w.alloc (.cells #[.int .u8 0, .int .u8 0, .int .u8 (128 + n % 64)] 5)) ∨ (i = .int .i64 0 ∧ m = .int .i64 (n / 64 / 64) ∧ wr = w.alloc (.cells #[.int .u8 0, .int .u8 (128 + n / 64 % 64), .int .u8 (128 + n % 64)] 5))) (fun _ i _ => (intOf i).toNat)
  case atStart => exact Or.inl ⟨rfl, rfl, rfl⟩
  case round =>
    rcases hrel with ⟨rfl, rfl, rfl⟩ | ⟨rfl, rfl, rfl⟩ | ⟨rfl, rfl, rfl⟩
    · go_wp2
      go_roundw
      case rel => exact Or.inr (Or.inl ⟨rfl, rfl, trivial⟩)
      case measure => simp [intOf]
    · go_wp2
      go_roundw
      case rel => exact Or.inr (Or.inr (⟨rfl, rfl, trivial⟩))
      case measure => simp [intOf]
    · go_wp2
      go_ret
      exact ⟨rfl, rfl⟩
set_option maxHeartbeats 2000000 in
theorem put4 (n : Int) (w : World) (hn0 : 65536 ≤ n) (hn : n < 1114112) :
    Calls Tryz.prog 30 #[.int .i64 n] w fun e w' => e = .returned (.slice (some ⟨w.heap.size, 0, none⟩) 4 4) ∧ w' = w.alloc (.cells #[.int .u8 (240 + n / 64 / 64 / 64), .int .u8 (128 + n / 64 / 64 % 64), .int .u8 (128 + n / 64 % 64), .int .u8 (128 + n % 64)] 5) := by
  have hw : wid n = 4 := by unfold wid; rw [if_neg (by omega), if_neg (by omega), if_neg (by omega)]
  have mk := make4
  have d1 : 0 ≤ n / 64 := by omega
  have d2 : 0 ≤ n / 64 / 64 := by omega
  have d3 : 0 ≤ n / 64 / 64 / 64 := by omega
  have dt : n / 64 / 64 / 64 < 16 := by omega
  go_enter Tryz.func30, Tryz.ntmps30
  go_wp2_with (go_at_call 53; refine (wid_any _ _).mono ?_; rintro e w' ⟨rfl, hw'⟩; rw [hw'])
  go_loopw [0, 5] (fun m i wr => (i = .int .i64 3 ∧ m = .int .i64 (n) ∧ wr = w.alloc (.cells #[.int .u8 0, .int .u8 0, .int .u8 0, .int .u8 0] 5)) ∨ (i = .int .i64 2 ∧ m = .int .i64 (n / 64) ∧ wr = w.alloc (.cells #[.int .u8 0, .int .u8 0, .int .u8 0, .int .u8 (128 + n % 64)] 5)) ∨ (i = .int .i64 1 ∧ m = .int .i64 (n / 64 / 64) ∧ wr = w.alloc (.cells #[.int .u8 0, .int .u8 0, .int .u8 (128 + n / 64 % 64), .int .u8 (128 + n % 64)] 5)) ∨ (i = .int .i64 0 ∧ m = .int .i64 (n / 64 / 64 / 64) ∧ wr = w.alloc (.cells #[.int .u8 0, .int .u8 (128 + n / 64 / 64 % 64), .int .u8 (128 + n / 64 % 64), .int .u8 (128 + n % 64)] 5))) (fun _ i _ => (intOf i).toNat)
  case atStart => exact Or.inl ⟨rfl, rfl, rfl⟩
  case round =>
    rcases hrel with ⟨rfl, rfl, rfl⟩ | ⟨rfl, rfl, rfl⟩ | ⟨rfl, rfl, rfl⟩ | ⟨rfl, rfl, rfl⟩
    · go_wp2
      go_roundw
      case rel => exact Or.inr (Or.inl ⟨rfl, rfl, trivial⟩)
      case measure => simp [intOf]
    · go_wp2
      go_roundw
      case rel => exact Or.inr (Or.inr (Or.inl ⟨rfl, rfl, trivial⟩))
      case measure => simp [intOf]
    · go_wp2
      go_roundw
      case rel => exact Or.inr (Or.inr (Or.inr (⟨rfl, rfl, trivial⟩)))
      case measure => simp [intOf]
    · go_wp2
      go_ret
      exact ⟨rfl, rfl⟩
theorem put_any (n : Int) (w : World) (hn : Good n) :
    Calls Tryz.prog 30 #[.int .i64 n] w fun e w' => e = .returned (.slice (some ⟨w.heap.size, 0, none⟩) (wid n) (wid n)) ∧ w' = w.alloc (.cells (bv (put n)).toArray 5) := by
  have hr := Rn.Good.rng hn
  unfold wid put
  by_cases h1 : n < 128
  · rw [if_pos h1, if_pos h1]; exact put1 n w hr.1 h1
  · rw [if_neg h1, if_neg h1]
    by_cases h2 : n < 2048
    · rw [if_pos h2, if_pos h2]; exact put2 n w (by omega) h2
    · rw [if_neg h2, if_neg h2]
      by_cases h3 : n < 65536
      · rw [if_pos h3, if_pos h3]
        have e1 : n / 64 / 64 = n / 4096 := by omega
        have := put3 n w (by omega) h3
        rw [e1] at this
        exact this
      · rw [if_neg h3, if_neg h3]
        have e1 : n / 64 / 64 = n / 4096 := by omega
        have e2 : n / 4096 / 64 = n / 262144 := by omega
        have := put4 n w (by omega) hr.2
        rw [e1, e2] at this
        exact this
end Go.Proofs.YtneblkdkhlgmcaaGreatDoor.Rn
namespace Go.Proofs.YtneblkdkhlgmcaaGreatDoor
open Go.ChangeShapes Go.WideShapes Go.ChangeAt Go.RowKit
open Rn (Good Byte enc put)
set_option maxRecDepth 100000
set_option linter.unusedVariables false
set_option linter.unusedSimpArgs false
theorem cat3 (T N : List UInt8) : (⟨T.toArray⟩ : ByteArray) ++ ⟨#[32]⟩ ++ ⟨N.toArray⟩ = ⟨(T ++ ([32] ++ N)).toArray⟩ := by
  have e : (⟨#[32]⟩ : ByteArray) = ⟨[32].toArray⟩ := rfl
  rw [e, cat_mk, cat_mk, List.append_assoc]
theorem lit_num {x : Ar} (h : litB x = true) (ht : txB x = false) : 0 < x.cells.length ∧ (cAt x.cells 0).1 = 0 := by
  unfold txB at ht
  simp only [Bool.or_eq_false_iff, decide_eq_false_iff_not] at ht
  have hp : 0 < x.cells.length := by omega
  refine ⟨hp, ?_⟩
  unfold litB at h
  simp only [Bool.and_eq_true, Bool.or_eq_true] at h
  rcases h.1.2 with h1 | h1
  · have := allC_iff.1 h1 0 hp
    unfold numC at this
    simpa using this
  · have := allC_iff.1 h1 0 hp
    unfold plC at this
    simp only [Bool.and_eq_true, decide_eq_true_eq] at this
    exact absurd this.1 ht.2
theorem rlit66_no {n lo : Nat} {x : Ar} {va : Value} {G : Gs} {w : World} (hx : ArIn n lo w x va) (hB : litB x = false) :
    Calls Tryz.prog 10 #[va, gV G] w fun e w' => e = .returned (.tuple #[.string ⟨#[]⟩, .int .i64 1]) ∧ Below w.heap.size w w' := by
  have HLB := hide (fun wr (hw : Below w.heap.size w wr) => rlit18 x va wr (hx.next hw))
  cases n with
  | zero => exact hx.elim
  | succ n =>
  obtain ⟨a1, c1, a2, c2, rfl, R, hl', hc⟩ := hx
  have HCF : Hid (∀ i, i < x.cells.length → ∃ b off ab nb cb, a2 = some ⟨b, off, none⟩ ∧ ∀ wr, Below w.heap.size w wr → wr.cell? ⟨b, off + i * 3, none⟩ = some (.int .i64 (cAt x.cells i).1) ∧ wr.cell? ⟨b, off + i * 3 + 1, none⟩ = some (.int .i64 (cAt x.cells i).2.1) ∧ wr.cell? ⟨b, off + i * 3 + 2, none⟩ = some (.slice ab nb cb)) := hide fun i hi => by
    obtain ⟨b, off, z0, z1, ab, nb, cb, ha, hw⟩ := cells_at hc i hi
    refine ⟨b, off, ab, nb, cb, ha, fun wr hwr => ?_⟩
    obtain ⟨g0, g1, g2, g3⟩ := hw wr hwr
    obtain ⟨e0, e1, -⟩ := g3
    injection e0 with _ e0
    injection e1 with _ e1
    rw [e0] at g0
    rw [e1] at g1
    exact ⟨g0, g1, g2⟩
  rw [hB] at HLB
  obtain ⟨L, hL⟩ : ∃ L, x.cells.length = L := ⟨_, rfl⟩
  obtain ⟨SL, hSL⟩ : ∃ SL, x.shape.length = SL := ⟨_, rfl⟩
  rw [hL, hSL] at HLB
  rw [hL, hSL]
  obtain ⟨W2, hW2⟩ : ∃ W2, (w.alloc (.cells #[.slice a1 SL c1, .slice a2 L c2] 25)).alloc (.cells #[G.s1, G.s2, G.s3, .string G.outer, .string G.power, .string G.opn, .string G.cls, .string G.left, .string G.right, .string G.minus, .string G.quote, .bool G.trains, .bool G.lone, .bool G.square] 30) = W2 := ⟨_, rfl⟩
  have hb2 : Below w.heap.size w W2 := by rw [← hW2]; exact two_allocs _ _ _
  have s2 : W2.heap.size = w.heap.size + 2 := by rw [← hW2]; simp
  have hA : W2.heap[w.heap.size]? = some (.cells #[.slice a1 SL c1, .slice a2 L c2] 25 (0, 0)) := by
    rw [← hW2]; exact (Lib.alloc_old _ _ w.heap.size (by simp)).trans (heap_alloc_new w _)
  have hGb : W2.heap[w.heap.size + 1]? = some (.cells #[G.s1, G.s2, G.s3, .string G.outer, .string G.power, .string G.opn, .string G.cls, .string G.left, .string G.right, .string G.minus, .string G.quote, .bool G.trains, .bool G.lone, .bool G.square] 30 (0, 0)) := by
    have h := heap_alloc_new (w.alloc (.cells #[.slice a1 SL c1, .slice a2 L c2] 25)) (.cells #[G.s1, G.s2, G.s3, .string G.outer, .string G.power, .string G.opn, .string G.cls, .string G.left, .string G.right, .string G.minus, .string G.quote, .bool G.trains, .bool G.lone, .bool G.square] 30)
    have e : (w.alloc (.cells #[.slice a1 SL c1, .slice a2 L c2] 25)).heap.size = w.heap.size + 1 := by simp
    rw [e] at h
    rw [← hW2]; exact h
  have KS : Hid (∀ W, Below W2.heap.size W2 W → (Below W2.heap.size W2 W ∧ W.cell? ⟨w.heap.size, 0, none⟩ = some (.slice a1 SL c1) ∧ W.cell? ⟨w.heap.size, 1, none⟩ = some (.slice a2 L c2)) ∧ W.cell? ⟨w.heap.size + 1, 10, none⟩ = some (.string G.quote) ∧ W.cell? ⟨w.heap.size + 1, 9, none⟩ = some (.string G.minus)) := hide fun W h => by
    have hA2 := (h.block w.heap.size (by omega)).trans hA
    have hG2 := (h.block (w.heap.size + 1) (by omega)).trans hGb
    exact ⟨⟨h, (Lib.cell_of_heap hA2 0).trans rfl, (Lib.cell_of_heap hA2 1).trans rfl⟩, (Lib.cell_of_heap hG2 10).trans rfl, (Lib.cell_of_heap hG2 9).trans rfl⟩
  have HB2 := hide hb2
  obtain ⟨⟨-, k0, k1⟩, k10, k9⟩ := KS.out W2 (Below.refl _ _)
  have HB23 : Hid (∀ W, Below W2.heap.size W2 W → Below w.heap.size w W) := hide fun W h => HB2.out.trans (h.mono HB2.out.size)
  unfold gV
  go_enter Tryz.func10, Tryz.ntmps10
  go_upto_region 1 with fail
  try rw [hW2]
  clear hW2 hc R hl' hA hGb
  go_wp2_with fail
  refine (HLB.out W2 HB2.out).mono ?_
  rintro e w3 ⟨rfl, hb3⟩
  have HF := hide (HB23.out _ hb3)
  clear hb3 hb2 k0 k1 k9 k10
  go_wp2
  go_ret2
  exact ⟨rfl, HF.out⟩
set_option maxHeartbeats 4000000 in
theorem rlit66_num {n lo : Nat} {x : Ar} {va : Value} {G : Gs} {w : World} (hx : ArIn n lo w x va) (hl : x.cells.length ≤ 100000) (hB : litB x = true) (ht : txB x = false) (hg : ∀ i, i < x.cells.length → I64 (cAt x.cells i).2.1) (hm : G.minus.size ≤ 1000000) :
    Calls Tryz.prog 10 #[va, gV G] w fun e w' => e = .returned (.tuple #[.string (str (litT G x)), .int .i64 0]) ∧ Below w.heap.size w w' := by
  have HLB := hide (fun wr (hw : Below w.heap.size w wr) => rlit18 x va wr (hx.next hw))
  cases n with
  | zero => exact hx.elim
  | succ n =>
  obtain ⟨a1, c1, a2, c2, rfl, R, hl', hc⟩ := hx
  have HCF : Hid (∀ i, i < x.cells.length → ∃ b off ab nb cb, a2 = some ⟨b, off, none⟩ ∧ ∀ wr, Below w.heap.size w wr → wr.cell? ⟨b, off + i * 3, none⟩ = some (.int .i64 (cAt x.cells i).1) ∧ wr.cell? ⟨b, off + i * 3 + 1, none⟩ = some (.int .i64 (cAt x.cells i).2.1) ∧ wr.cell? ⟨b, off + i * 3 + 2, none⟩ = some (.slice ab nb cb)) := hide fun i hi => by
    obtain ⟨b, off, z0, z1, ab, nb, cb, ha, hw⟩ := cells_at hc i hi
    refine ⟨b, off, ab, nb, cb, ha, fun wr hwr => ?_⟩
    obtain ⟨g0, g1, g2, g3⟩ := hw wr hwr
    obtain ⟨e0, e1, -⟩ := g3
    injection e0 with _ e0
    injection e1 with _ e1
    rw [e0] at g0
    rw [e1] at g1
    exact ⟨g0, g1, g2⟩
  rw [hB] at HLB
  obtain ⟨hp, hk0⟩ := lit_num hB ht
  have HR : Hid (litT G x = pT false (numW G.minus x.cells)) := hide (by unfold litT; rw [ht]; rfl)
  have HSN : Hid (∀ j, j < x.cells.length → pT false (numW G.minus (x.cells.take (j + 1))) = pT false (numW G.minus (x.cells.take j)) ++ ((if j = 0 then [] else [32]) ++ numT (cAt x.cells j).2.1 G.minus.data.toList)) := hide (fun j hj => by
    rw [numW_snoc G.minus hj, pT_snoc]
    have e : (numW G.minus (x.cells.take j)).length = j := by simp [numW]; omega
    cases j with
    | zero => simp [numW, str]
    | succ j =>
      have h0 : (numW G.minus (x.cells.take (j + 1))).isEmpty = false := by
        cases hh : numW G.minus (x.cells.take (j + 1)) with
        | nil => rw [hh] at e; cases e
        | cons a r => rfl
      rw [h0]
      simp [str])
  have HTK : Hid (numW G.minus (x.cells.take x.cells.length) = numW G.minus x.cells) := hide (by rw [List.take_length])
  have HPL : Hid (∀ k, (pT false (numW G.minus (x.cells.take k))).length ≤ 100000 * 1000021) := hide (fun k => by
    have h := pT_len false (numW G.minus (x.cells.take k)) 1000020 (fun s hs => by
      obtain ⟨c, hc1, rfl⟩ := List.mem_map.1 hs
      obtain ⟨i, hi, rfl⟩ := List.mem_iff_getElem.1 (List.mem_of_mem_take hc1)
      have h1 := hg i hi
      have e : cAt x.cells i = x.cells[i] := by simp [cAt, List.getElem?_eq_getElem hi]
      rw [e] at h1
      have h2 := numT_len _ G.minus.data.toList h1.1 h1.2
      have h3 : G.minus.data.toList.length = G.minus.size := by simp
      show (str _).data.size ≤ _
      simp only [str, List.size_toArray]
      omega)
    have e : (numW G.minus (x.cells.take k)).length ≤ x.cells.length := by simp [numW]; omega
    exact Nat.le_trans h (Nat.mul_le_mul (Nat.le_trans e hl) (Nat.le_refl _)))
  have HG := hide hg
  have HMS := hide hm
  have HK0 := hide hk0
  obtain ⟨CS, hCS⟩ : ∃ CS, x.cells = CS := ⟨_, rfl⟩
  rw [hCS] at HCF HSN HTK HPL HG hl HR HLB HK0 hp
  rw [hCS]
  obtain ⟨L, hL⟩ : ∃ L, CS.length = L := ⟨_, rfl⟩
  obtain ⟨SL, hSL⟩ : ∃ SL, x.shape.length = SL := ⟨_, rfl⟩
  rw [hL] at HCF HSN HTK HG hl HLB hp
  rw [hSL] at HLB
  rw [hL, hSL]
  obtain ⟨W2, hW2⟩ : ∃ W2, (w.alloc (.cells #[.slice a1 SL c1, .slice a2 L c2] 25)).alloc (.cells #[G.s1, G.s2, G.s3, .string G.outer, .string G.power, .string G.opn, .string G.cls, .string G.left, .string G.right, .string G.minus, .string G.quote, .bool G.trains, .bool G.lone, .bool G.square] 30) = W2 := ⟨_, rfl⟩
  have hb2 : Below w.heap.size w W2 := by rw [← hW2]; exact two_allocs _ _ _
  have s2 : W2.heap.size = w.heap.size + 2 := by rw [← hW2]; simp
  have hA : W2.heap[w.heap.size]? = some (.cells #[.slice a1 SL c1, .slice a2 L c2] 25 (0, 0)) := by
    rw [← hW2]; exact (Lib.alloc_old _ _ w.heap.size (by simp)).trans (heap_alloc_new w _)
  have hGb : W2.heap[w.heap.size + 1]? = some (.cells #[G.s1, G.s2, G.s3, .string G.outer, .string G.power, .string G.opn, .string G.cls, .string G.left, .string G.right, .string G.minus, .string G.quote, .bool G.trains, .bool G.lone, .bool G.square] 30 (0, 0)) := by
    have h := heap_alloc_new (w.alloc (.cells #[.slice a1 SL c1, .slice a2 L c2] 25)) (.cells #[G.s1, G.s2, G.s3, .string G.outer, .string G.power, .string G.opn, .string G.cls, .string G.left, .string G.right, .string G.minus, .string G.quote, .bool G.trains, .bool G.lone, .bool G.square] 30)
    have e : (w.alloc (.cells #[.slice a1 SL c1, .slice a2 L c2] 25)).heap.size = w.heap.size + 1 := by simp
    rw [e] at h
    rw [← hW2]; exact h
  have KS : Hid (∀ W, Below W2.heap.size W2 W → (Below W2.heap.size W2 W ∧ W.cell? ⟨w.heap.size, 0, none⟩ = some (.slice a1 SL c1) ∧ W.cell? ⟨w.heap.size, 1, none⟩ = some (.slice a2 L c2)) ∧ W.cell? ⟨w.heap.size + 1, 10, none⟩ = some (.string G.quote) ∧ W.cell? ⟨w.heap.size + 1, 9, none⟩ = some (.string G.minus)) := hide fun W h => by
    have hA2 := (h.block w.heap.size (by omega)).trans hA
    have hG2 := (h.block (w.heap.size + 1) (by omega)).trans hGb
    exact ⟨⟨h, (Lib.cell_of_heap hA2 0).trans rfl, (Lib.cell_of_heap hA2 1).trans rfl⟩, (Lib.cell_of_heap hG2 10).trans rfl, (Lib.cell_of_heap hG2 9).trans rfl⟩
  have HB2 := hide hb2
  obtain ⟨⟨-, k0, k1⟩, k10, k9⟩ := KS.out W2 (Below.refl _ _)
  have HB23 : Hid (∀ W, Below W2.heap.size W2 W → Below w.heap.size w W) := hide fun W h => HB2.out.trans (h.mono HB2.out.size)
  unfold gV
  clear hCS hL hSL hm hB hk0
  go_enter Tryz.func10, Tryz.ntmps10
  go_upto_region 1 with fail
  try rw [hW2]
  clear hW2 hc R hl' hA hGb hg ht
  go_wp2_with fail
  refine (HLB.out W2 HB2.out).mono ?_
  rintro e w3 ⟨rfl, hb3⟩
  obtain ⟨⟨-, k30, k31⟩, -, -⟩ := KS.out w3 hb3
  obtain ⟨b, off, ab, nb, cb, rfl, hw⟩ := HCF.out 0 hp
  obtain ⟨d0, -, -⟩ := hw w3 (HB23.out _ hb3)
  rw [HK0.out, Nat.zero_mul, Nat.add_zero] at d0
  have hLp : decide ((0 : Int) < (L : Int)) = true := decide_eq_true (by omega)
  have HB3 := hide hb3
  clear hb3 hb2 k0 k1 k9 k10 HLB hw
  go_wp2
  clear d0 k30 k31 hLp
  go_loopw [6, 7] (fun v i wr => ∃ k : Nat, k ≤ L ∧ v = .string (str (pT false (numW G.minus (CS.take k)))) ∧ i = .int .i64 (k : Int) ∧ Below W2.heap.size W2 wr) (fun v i _ => L - (match i with | .int _ z => z.toNat | _ => 0))
  case atStart => exact ⟨0, Nat.zero_le _, rfl, rfl, HB3.out⟩
  case round =>
    obtain ⟨k, hk, rfl, rfl, hnx⟩ := hrel
    obtain ⟨⟨-, k30, k31⟩, -, -⟩ := KS.out wr hnx
    by_cases hlk : k < L
    · obtain ⟨b', off', ab', nb', cb', e1, hw⟩ := HCF.out k hlk
      cases e1
      have hst := HSN.out k hlk
      have h64 := HG.out k hlk
      have hpl := HPL.out k
      obtain ⟨z, hz⟩ : ∃ z, (cAt CS k).2.1 = z := ⟨_, rfl⟩
      obtain ⟨T, hT⟩ : ∃ T, pT false (numW G.minus (CS.take k)) = T := ⟨_, rfl⟩
      rw [hT] at hst hpl ⊢
      have HKD : Hid (∀ W, Below W2.heap.size W2 W → (Below W2.heap.size W2 W ∧ W.cell? ⟨w.heap.size, 1, none⟩ = some (.slice (some ⟨b, off, none⟩) L c2)) ∧ W.cell? ⟨w.heap.size + 1, 9, none⟩ = some (.string G.minus) ∧ W.cell? ⟨b, off + k * 3 + 1, none⟩ = some (.int .i64 z)) := hide fun W h => by
        obtain ⟨⟨-, -, q1⟩, -, q9⟩ := KS.out W h
        obtain ⟨-, q2, -⟩ := hw W (HB23.out _ h)
        rw [hz] at q2
        exact ⟨⟨h, q1⟩, q9, q2⟩
      rw [hz] at hst h64
      have HST := hide hst
      have HNX := hide hnx
      have hms : G.minus.size ≤ 140737488355328 := by have := HMS.out; omega
      have HN := hide (fun W => rnum6 z G.minus hms h64.1 h64.2 W)
      have hnl : (numT z G.minus.data.toList).length ≤ 1000020 := by
        have h2 := numT_len z G.minus.data.toList h64.1 h64.2
        have h3 : G.minus.data.toList.length = G.minus.size := by simp
        have := HMS.out
        omega
      have hlen0 : ¬ (9223372036854775807 < T.length + 1) := by omega
      have hlen1 : ¬ (9223372036854775807 < T.length + (numT z G.minus.data.toList).length) := by omega
      have hlen2 : ¬ (9223372036854775807 < T.length + 1 + (numT z G.minus.data.toList).length) := by omega
      obtain ⟨N, hN⟩ : ∃ N, numT z G.minus.data.toList = N := ⟨_, rfl⟩
      rw [hN] at HN HST hlen1 hlen2
      have HD0 : Hid (Below W2.heap.size W2 wr.drew) := hide (hnx.drew)
      clear hw hst hnx h64 hms hnl hN hz HG HSN HPL hT
      have HSH := HST.out
      unfold str
      by_cases h0 : k = 0
      · have hd : decide (0 < k) = false := decide_eq_false (by omega)
        rw [if_pos h0] at HSH
        have HS2 := hide HSH
        clear HSH HST h0
        go_wp2_with fail
        go_region_held3 (fun W => (Below W2.heap.size W2 W ∧ W.cell? ⟨w.heap.size, 1, none⟩ = some (.slice (some ⟨b, off, none⟩) L c2)) ∧ W.cell? ⟨w.heap.size + 1, 9, none⟩ = some (.string G.minus) ∧ W.cell? ⟨b, off + k * 3 + 1, none⟩ = some (.int .i64 z)) (first | with_reducible exact HKD.out _ HD0.out | with_reducible exact HKD.out _ (by with_reducible assumption)) (first | (go_at_call 29; refine (HN.out _).mono ?_; rintro e w6 ⟨rfl, hb6⟩; have hb7 := HD0.out.trans (hb6.mono HD0.out.size)))
        go_wp2
        go_roundw
        case rel => exact ⟨k + 1, hlk, by rw [HS2.out]; exact congrArg Value.string (cat_mk T N), by go_num, hb7⟩
        case measure => simp; omega
      · have hd : decide (0 < k) = true := decide_eq_true (by omega)
        rw [if_neg h0] at HSH
        have HS2 := hide HSH
        clear HSH HST h0
        go_wp2_with fail
        go_region_held3 (fun W => (Below W2.heap.size W2 W ∧ W.cell? ⟨w.heap.size, 1, none⟩ = some (.slice (some ⟨b, off, none⟩) L c2)) ∧ W.cell? ⟨w.heap.size + 1, 9, none⟩ = some (.string G.minus) ∧ W.cell? ⟨b, off + k * 3 + 1, none⟩ = some (.int .i64 z)) (first | with_reducible exact HKD.out _ HD0.out | with_reducible exact HKD.out _ (by with_reducible assumption)) (first | (go_at_call 29; refine (HN.out _).mono ?_; rintro e w6 ⟨rfl, hb6⟩; have hb7 := HD0.out.trans (hb6.mono HD0.out.size)))
        go_wp2
        go_roundw
        case rel => exact ⟨k + 1, hlk, by rw [HS2.out]; exact congrArg Value.string (cat3 T N), by go_num, hb7⟩
        case measure => simp; omega
    · have hke : k = L := by omega
      subst hke
      have HF := hide (HB23.out _ hnx)
      rw [HTK.out, ← HR.out]
      clear hnx HCF HSN HG
      go_wp2
      go_ret2
      exact ⟨rfl, HF.out⟩
theorem row_newB (w : World) (l : List Int) (hl : l.length ≤ 4) : Rn.Row .u8 (w.alloc (.cells (Rn.bv l).toArray 5)) (some ⟨w.heap.size, 0, none⟩) l := by
  refine ⟨by omega, Or.inr ⟨w.heap.size, 0, rfl, by simp, fun i hi => ?_⟩⟩
  refine cell_new0 w _ 5 (0 + i) _ ?_
  simp [List.getElem?_eq_getElem hi, hi]
theorem wid_le (z : Int) : Rn.wid z ≤ 4 := by
  unfold Rn.wid
  repeat' split
  all_goals omega
/-- What Put answers, as a string. -/
theorem rput81 (z : Int) (w : World) (h : Good z) : Calls Tryz.prog 30 #[.int .i64 z] w fun e w' => (∃ v, e = .returned v ∧ (convert 65 9 v).run Tryz.prog w' = .ok (.string ⟨(u8 (put z)).toArray⟩) w') ∧ Below w.heap.size w w' := by
  refine (Rn.put_any z w h).mono ?_
  rintro e w' ⟨rfl, rfl⟩
  refine ⟨⟨_, rfl, ?_⟩, alloc_one w _⟩
  have hl := Rn.put_length z
  have h4 := wid_le z
  have e := conv_row (row_newB w (put z) (by omega)) (by
    have := Rn.enc_bytes (l := [z]) (fun y hy => by rw [List.mem_singleton] at hy; rw [hy]; exact h)
    simpa [enc] using this) (Rn.wid z)
  rw [hl] at e
  exact e
theorem u8_app (a b : List Int) : u8 (a ++ b) = u8 a ++ u8 b := by simp [u8]
theorem enc1 (z : Int) : enc [z] = put z := by simp [enc]
theorem str3 (q : ByteArray) (S : List UInt8) : q ++ ⟨S.toArray⟩ ++ q = str (q.data.toList ++ S ++ q.data.toList) := by
  have e1 := cat_l q S
  rw [e1]
  have e2 := str_mk q
  have e3 := cat_mk (q.data.toList ++ S) q.data.toList
  rw [← e2] at e3
  exact e3
theorem cat4 (T N : List UInt8) (c : UInt8) : (⟨T.toArray⟩ : ByteArray) ++ ⟨#[c]⟩ ++ ⟨N.toArray⟩ = ⟨(T ++ (c :: N)).toArray⟩ := by
  have e : (⟨#[c]⟩ : ByteArray) = ⟨[c].toArray⟩ := rfl
  rw [e, cat_mk, cat_mk, List.append_assoc]
  rfl
set_option maxHeartbeats 4000000 in
theorem rlit66_text {n lo : Nat} {x : Ar} {va : Value} {G : Gs} {w : World} (hx : ArIn n lo w x va) (hl : x.cells.length ≤ 100000) (hB : litB x = true) (ht : txB x = true) (hg : ∀ i, i < x.cells.length → Good (cAt x.cells i).2.1) (hq : G.quote.size ≤ 1000000) :
    Calls Tryz.prog 10 #[va, gV G] w fun e w' => e = .returned (.tuple #[.string (str (litT G x)), .int .i64 0]) ∧ Below w.heap.size w w' := by
  have HLB := hide (fun wr (hw : Below w.heap.size w wr) => rlit18 x va wr (hx.next hw))
  cases n with
  | zero => exact hx.elim
  | succ n =>
  obtain ⟨a1, c1, a2, c2, rfl, R, hl', hc⟩ := hx
  have HCF : Hid (∀ i, i < x.cells.length → ∃ b off ab nb cb, a2 = some ⟨b, off, none⟩ ∧ ∀ wr, Below w.heap.size w wr → wr.cell? ⟨b, off + i * 3, none⟩ = some (.int .i64 (cAt x.cells i).1) ∧ wr.cell? ⟨b, off + i * 3 + 1, none⟩ = some (.int .i64 (cAt x.cells i).2.1) ∧ wr.cell? ⟨b, off + i * 3 + 2, none⟩ = some (.slice ab nb cb)) := hide fun i hi => by
    obtain ⟨b, off, z0, z1, ab, nb, cb, ha, hw⟩ := cells_at hc i hi
    refine ⟨b, off, ab, nb, cb, ha, fun wr hwr => ?_⟩
    obtain ⟨g0, g1, g2, g3⟩ := hw wr hwr
    obtain ⟨e0, e1, -⟩ := g3
    injection e0 with _ e0
    injection e1 with _ e1
    rw [e0] at g0
    rw [e1] at g1
    exact ⟨g0, g1, g2⟩
  rw [hB] at HLB
  have HK0 : Hid (0 < x.cells.length → (cAt x.cells 0).1 = 1) := hide (fun h => by
    unfold txB at ht
    simp only [Bool.or_eq_true, decide_eq_true_eq] at ht
    exact ht.resolve_left (by omega))
  have HR : Hid (litT G x = G.quote.data.toList ++ u8 (enc (gl G.quote x.cells)) ++ G.quote.data.toList) := hide (by unfold litT; rw [ht]; rfl)
  have HSN : Hid (∀ j, j < x.cells.length → u8 (enc (gl G.quote (x.cells.take (j + 1)))) = u8 (enc (gl G.quote (x.cells.take j))) ++ u8 (enc (g1 G.quote (cAt x.cells j).2.1))) := hide (fun j hj => by rw [gl_snoc G.quote hj, Rn.enc_append, u8_app])
  have HTK : Hid (x.cells.take x.cells.length = x.cells) := hide List.take_length
  have HPL : Hid (∀ k, (u8 (enc (gl G.quote (x.cells.take k)))).length ≤ 800000) := hide (fun k => by
    have e1 : (u8 (enc (gl G.quote (x.cells.take k)))).length = (enc (gl G.quote (x.cells.take k))).length := by simp [u8]
    have e2 := (Rn.enc_len (gl G.quote (x.cells.take k))).2
    have e3 := gl_len G.quote (x.cells.take k)
    have e4 : (x.cells.take k).length ≤ x.cells.length := by rw [List.length_take]; omega
    omega)
  have HG := hide hg
  have HQS := hide hq
  obtain ⟨CS, hCS⟩ : ∃ CS, x.cells = CS := ⟨_, rfl⟩
  rw [hCS] at HCF HSN HTK HPL HG hl HR HLB HK0
  rw [hCS]
  obtain ⟨L, hL⟩ : ∃ L, CS.length = L := ⟨_, rfl⟩
  obtain ⟨SL, hSL⟩ : ∃ SL, x.shape.length = SL := ⟨_, rfl⟩
  rw [hL] at HCF HSN HTK HG hl HLB HK0
  rw [hSL] at HLB
  rw [hL, hSL]
  obtain ⟨W2, hW2⟩ : ∃ W2, (w.alloc (.cells #[.slice a1 SL c1, .slice a2 L c2] 25)).alloc (.cells #[G.s1, G.s2, G.s3, .string G.outer, .string G.power, .string G.opn, .string G.cls, .string G.left, .string G.right, .string G.minus, .string G.quote, .bool G.trains, .bool G.lone, .bool G.square] 30) = W2 := ⟨_, rfl⟩
  have hb2 : Below w.heap.size w W2 := by rw [← hW2]; exact two_allocs _ _ _
  have s2 : W2.heap.size = w.heap.size + 2 := by rw [← hW2]; simp
  have hA : W2.heap[w.heap.size]? = some (.cells #[.slice a1 SL c1, .slice a2 L c2] 25 (0, 0)) := by
    rw [← hW2]; exact (Lib.alloc_old _ _ w.heap.size (by simp)).trans (heap_alloc_new w _)
  have hGb : W2.heap[w.heap.size + 1]? = some (.cells #[G.s1, G.s2, G.s3, .string G.outer, .string G.power, .string G.opn, .string G.cls, .string G.left, .string G.right, .string G.minus, .string G.quote, .bool G.trains, .bool G.lone, .bool G.square] 30 (0, 0)) := by
    have h := heap_alloc_new (w.alloc (.cells #[.slice a1 SL c1, .slice a2 L c2] 25)) (.cells #[G.s1, G.s2, G.s3, .string G.outer, .string G.power, .string G.opn, .string G.cls, .string G.left, .string G.right, .string G.minus, .string G.quote, .bool G.trains, .bool G.lone, .bool G.square] 30)
    have e : (w.alloc (.cells #[.slice a1 SL c1, .slice a2 L c2] 25)).heap.size = w.heap.size + 1 := by simp
    rw [e] at h
    rw [← hW2]; exact h
  have KS : Hid (∀ W, Below W2.heap.size W2 W → (Below W2.heap.size W2 W ∧ W.cell? ⟨w.heap.size, 0, none⟩ = some (.slice a1 SL c1) ∧ W.cell? ⟨w.heap.size, 1, none⟩ = some (.slice a2 L c2)) ∧ W.cell? ⟨w.heap.size + 1, 10, none⟩ = some (.string G.quote) ∧ W.cell? ⟨w.heap.size + 1, 9, none⟩ = some (.string G.minus)) := hide fun W h => by
    have hA2 := (h.block w.heap.size (by omega)).trans hA
    have hG2 := (h.block (w.heap.size + 1) (by omega)).trans hGb
    exact ⟨⟨h, (Lib.cell_of_heap hA2 0).trans rfl, (Lib.cell_of_heap hA2 1).trans rfl⟩, (Lib.cell_of_heap hG2 10).trans rfl, (Lib.cell_of_heap hG2 9).trans rfl⟩
  have HB2 := hide hb2
  obtain ⟨⟨-, k0, k1⟩, k10, k9⟩ := KS.out W2 (Below.refl _ _)
  have HB23 : Hid (∀ W, Below W2.heap.size W2 W → Below w.heap.size w W) := hide fun W h => HB2.out.trans (h.mono HB2.out.size)
  unfold gV
  clear hCS hL hSL hB
  have HFIN : Hid (∀ S : List UInt8, S.length ≤ 800000 → ¬ (9223372036854775807 < G.quote.size + S.length) ∧ ¬ (9223372036854775807 < G.quote.size + S.length + G.quote.size)) := hide (fun S hS => by have := HQS.out; constructor <;> omega)
  go_enter Tryz.func10, Tryz.ntmps10
  go_upto_region 1 with fail
  try rw [hW2]
  clear hW2 hc R hl' hA hGb hg ht hq
  go_wp2_with fail
  refine (HLB.out W2 HB2.out).mono ?_
  rintro e w3 ⟨rfl, hb3⟩
  obtain ⟨⟨-, k30, k31⟩, k310, -⟩ := KS.out w3 hb3
  by_cases hp : 0 < L
  · obtain ⟨b, off, ab, nb, cb, rfl, hw⟩ := HCF.out 0 hp
    obtain ⟨d0, -, -⟩ := hw w3 (HB23.out _ hb3)
    rw [HK0.out hp, Nat.zero_mul, Nat.add_zero] at d0
    have HB3 := hide hb3
    clear hb3 hb2 k0 k1 k9 k10 HLB hw k310
    go_wp2
    clear d0 k30 k31
    go_loopw [6, 8] (fun v i wr => ∃ k : Nat, k ≤ L ∧ v = .string (str (u8 (enc (gl G.quote (CS.take k))))) ∧ i = .int .i64 (k : Int) ∧ Below W2.heap.size W2 wr) (fun v i _ => L - (match i with | .int _ z => z.toNat | _ => 0))
    case atStart => exact ⟨0, Nat.zero_le _, rfl, rfl, HB3.out⟩
    case round =>
      obtain ⟨k, hk, rfl, rfl, hnx⟩ := hrel
      obtain ⟨⟨-, k30, k31⟩, k310, -⟩ := KS.out wr hnx
      by_cases hlk : k < L
      · obtain ⟨b', off', ab', nb', cb', e1, hw⟩ := HCF.out k hlk
        cases e1
        obtain ⟨-, d1, -⟩ := hw wr (HB23.out _ hnx)
        have hst := HSN.out k hlk
        have hgd := HG.out k hlk
        have hpl := HPL.out k
        obtain ⟨z, hz⟩ : ∃ z, (cAt CS k).2.1 = z := ⟨_, rfl⟩
        obtain ⟨T, hT⟩ : ∃ T, u8 (enc (gl G.quote (CS.take k))) = T := ⟨_, rfl⟩
        rw [hT] at hst hpl ⊢
        rw [hz] at hst hgd d1
        have HST0 := hide hst
        have HNX := hide hnx
        have HP := hide (fun W => rput81 z W hgd)
        have hnl : (u8 (put z)).length ≤ 4 := by
          have e1 : (u8 (put z)).length = (put z).length := by simp [u8]
          have := wid_le z
          rw [e1, Rn.put_length]; exact this
        obtain ⟨N, hN⟩ : ∃ N, u8 (put z) = N := ⟨_, rfl⟩
        rw [hN] at HP hnl
        have hlen0 : ¬ (9223372036854775807 < T.length + 1) := by omega
        have hlen1 : ¬ (9223372036854775807 < T.length + N.length) := by omega
        have hlen2 : ¬ (9223372036854775807 < T.length + 1 + N.length) := by omega
        have HN := hide hN
        clear hw hst hnx hgd hz HG HSN HPL hT hnl hpl hN HCF
        unfold str
        by_cases hq : G.quote.toList = [39]
        · have hq2 : (G.quote.toList == [39]) = true := by rw [hq]; rfl
          have HQ := hide hq
          clear hq
          by_cases h39 : z = 39
          · subst h39
            have HST : Hid (u8 (enc (gl G.quote (CS.take (k + 1)))) = T ++ (39 :: N)) := hide (by
              rw [HST0.out, ← HN.out, ← enc1 39]
              unfold g1 gd
              rw [if_pos HQ.out, if_pos rfl, if_neg (by decide)]
              rfl)
            clear HST0 HN
            go_wp2_with fail
            refine (HP.out _).mono ?_
            rintro e w6 ⟨⟨v6, rfl, hcv⟩, hb6⟩
            have HB6 := hide (HNX.out.trans (hb6.mono HNX.out.size))
            have HCV := hide hcv
            clear hb6
            go_wp2
            go_roundw
            case rel => exact ⟨k + 1, hlk, by rw [HST.out]; exact congrArg Value.string (cat4 T N 39), by go_num, HB6.out⟩
            case measure => simp; omega
          · have h1 : (z == 39) = false := beq_eq_false_iff_ne.2 h39
            have HST : Hid (u8 (enc (gl G.quote (CS.take (k + 1)))) = T ++ N) := hide (by
              rw [HST0.out, ← HN.out, ← enc1 z]
              unfold g1 gd
              rw [if_pos HQ.out, if_neg h39, if_pos rfl])
            clear HST0 HN h39
            go_wp2_with fail
            refine (HP.out _).mono ?_
            rintro e w6 ⟨⟨v6, rfl, hcv⟩, hb6⟩
            have HB6 := hide (HNX.out.trans (hb6.mono HNX.out.size))
            have HCV := hide hcv
            clear hb6
            go_wp2
            go_roundw
            case rel => exact ⟨k + 1, hlk, by rw [HST.out]; exact congrArg Value.string (cat_mk T N), by go_num, HB6.out⟩
            case measure => simp; omega
        · have hq2 : (G.quote.toList == [39]) = false := beq_eq_false_iff_ne.2 hq
          have HQ := hide hq
          clear hq
          by_cases h34 : z = 34
          · subst h34
            have HST : Hid (u8 (enc (gl G.quote (CS.take (k + 1)))) = T ++ (92 :: N)) := hide (by
              rw [HST0.out, ← HN.out, ← enc1 34]
              unfold g1 gd
              rw [if_neg HQ.out, if_pos (Or.inl rfl), if_neg (by decide)]
              rfl)
            clear HST0 HN
            go_wp2_with fail
            refine (HP.out _).mono ?_
            rintro e w6 ⟨⟨v6, rfl, hcv⟩, hb6⟩
            have HB6 := hide (HNX.out.trans (hb6.mono HNX.out.size))
            have HCV := hide hcv
            clear hb6
            go_wp2
            go_roundw
            case rel => exact ⟨k + 1, hlk, by rw [HST.out]; exact congrArg Value.string (cat4 T N 92), by go_num, HB6.out⟩
            case measure => simp; omega
          · by_cases h92 : z = 92
            · subst h92
              have HST : Hid (u8 (enc (gl G.quote (CS.take (k + 1)))) = T ++ (92 :: N)) := hide (by
                rw [HST0.out, ← HN.out, ← enc1 92]
                unfold g1 gd
                rw [if_neg HQ.out, if_pos (Or.inr rfl), if_neg (by decide)]
                rfl)
              clear HST0 HN h34
              go_wp2_with fail
              refine (HP.out _).mono ?_
              rintro e w6 ⟨⟨v6, rfl, hcv⟩, hb6⟩
              have HB6 := hide (HNX.out.trans (hb6.mono HNX.out.size))
              have HCV := hide hcv
              clear hb6
              go_wp2
              go_roundw
              case rel => exact ⟨k + 1, hlk, by rw [HST.out]; exact congrArg Value.string (cat4 T N 92), by go_num, HB6.out⟩
              case measure => simp; omega
            · have h3 : (z == 34) = false := beq_eq_false_iff_ne.2 h34
              have h4 : (z == 92) = false := beq_eq_false_iff_ne.2 h92
              have HST : Hid (u8 (enc (gl G.quote (CS.take (k + 1)))) = T ++ N) := hide (by
                rw [HST0.out, ← HN.out, ← enc1 z]
                unfold g1 gd
                have e34 : ¬ (z = 34 ∨ z = 92) := by omega
                rw [if_neg HQ.out, if_neg e34, if_pos rfl])
              clear HST0 HN h34 h92
              go_wp2_with fail
              refine (HP.out _).mono ?_
              rintro e w6 ⟨⟨v6, rfl, hcv⟩, hb6⟩
              have HB6 := hide (HNX.out.trans (hb6.mono HNX.out.size))
              have HCV := hide hcv
              clear hb6
              go_wp2
              go_roundw
              case rel => exact ⟨k + 1, hlk, by rw [HST.out]; exact congrArg Value.string (cat_mk T N), by go_num, HB6.out⟩
              case measure => simp; omega
      · have hke : k = L := by omega
        subst hke
        have HF := hide (HB23.out _ hnx)
        have hpl := HPL.out k
        obtain ⟨S, hS⟩ : ∃ S, u8 (enc (gl G.quote (CS.take k))) = S := ⟨_, rfl⟩
        rw [hS] at hpl ⊢
        rw [HTK.out] at hS
        have HR2 : Hid (litT G x = G.quote.data.toList ++ S ++ G.quote.data.toList) := hide (by rw [HR.out, hS])
        obtain ⟨hl1, hl2⟩ := HFIN.out S hpl
        clear hnx HCF HSN HG hS HR
        unfold str
        go_wp2
        go_ret2
        refine ⟨?_, HF.out⟩
        rw [HR2.out, ← str3 G.quote S]
        rfl
  · have hL0 : L = 0 := by omega
    subst hL0
    have HF := hide (HB23.out _ hb3)
    have HS0 : Hid (G.quote.data.toList ++ u8 (enc (gl G.quote CS)) ++ G.quote.data.toList = G.quote.data.toList ++ [] ++ G.quote.data.toList) := hide (by rw [← HTK.out]; rfl)
    have HR2 : Hid (litT G x = G.quote.data.toList ++ [] ++ G.quote.data.toList) := hide (by rw [HR.out, HS0.out])
    obtain ⟨hl1, hl2⟩ := HFIN.out [] (Nat.zero_le _)
    clear hb2 k0 k1 k9 k10 HLB HR HS0
    go_wp2
    go_loopw [6, 8] (fun v i wr => v = .string ⟨#[]⟩ ∧ i = .int .i64 0 ∧ wr = w3) (fun v i _ => 0)
    case atStart => exact ⟨rfl, rfl, rfl⟩
    case round =>
      obtain ⟨rfl, rfl, rfl⟩ := hrel
      go_wp2
      go_ret2
      refine ⟨?_, HF.out⟩
      rw [HR2.out, ← str3 G.quote []]
      rfl
theorem rlit66 {n lo : Nat} {x : Ar} {va : Value} {G : Gs} {w : World} (hx : ArIn n lo w x va) (hl : x.cells.length ≤ 100000) (h64 : ∀ i, i < x.cells.length → I64 (cAt x.cells i).2.1) (hm : G.minus.size ≤ 1000000) (hq : G.quote.size ≤ 1000000) :
    Calls Tryz.prog 10 #[va, gV G] w fun e w' => e = .returned (.tuple #[.string (str (litS G x)), .int .i64 (litE x)]) ∧ Below w.heap.size w w' := by
  unfold litS litE
  cases hB : litB x with
  | false => exact rlit66_no hx hB
  | true =>
    cases ht : txB x with
    | false => exact rlit66_num hx hl hB ht h64 hm
    | true => exact rlit66_text hx hl hB ht (lit_good hB ht) hq
end Go.Proofs.YtneblkdkhlgmcaaGreatDoor
namespace Go.Proofs.YtneblkdkhlgmcaaGreatDoor
open Go.ChangeShapes Go.WideShapes Go.ChangeAt Go.RowKit
set_option maxRecDepth 100000
set_option linter.unusedVariables false
/-- What the weighing of an array no deeper than d promises. -/
def WeighD (d : Nat) : Prop := ∀ n x lo va w (M : Int), ArIn n lo w x va → 0 ≤ M → M ≤ 4000 → Calls Tryz.prog 15 #[va, .int .i64 M, .int .i64 (d : Int)] w fun e w' => (∃ r : Int, e = .returned (.int .i64 r) ∧ 0 ≤ r ∧ r ≤ 147000000000000 + 5000 * (d : Int) ∧ (x.cells.length : Int) + (x.shape.length : Int) ≤ r) ∧ Below w.heap.size w w'
set_option maxHeartbeats 4000000 in
theorem weighD_step (d : Nat) (hd : d ≤ 16) (IH : ∀ d', d = d' + 1 → WeighD d') : WeighD d := by
  intro n x lo va w M hx hM0 hM
  cases n with
  | zero => exact hx.elim
  | succ n =>
  obtain ⟨a1, c1, a2, c2, rfl, R, hl, hc⟩ := hx
  have hlR := R.1
  have hb0 := one_alloc w (.cells #[.slice a1 x.shape.length c1, .slice a2 x.cells.length c2] 25)
  have q := cell_new0 w #[.slice a1 x.shape.length c1, .slice a2 x.cells.length c2] 25 1 _ rfl
  have HB := hide (boxes_at hc)
  /- A world later on: the memory that came in, and the array's own cells. -/
  have HQ := hide (And.intro hb0 (And.intro q (show w.heap.size < (w.alloc (.cells #[.slice a1 x.shape.length c1, .slice a2 x.cells.length c2] 25)).heap.size by simp)))
  clear R hc hb0 q
  generalize hNL : (fun i => (cAt x.cells i).2.2.length) = NL at *
  generalize hY : (fun i k => bAt (cAt x.cells i).2.2 k) = Y at *
  have HB' : Hid (∀ i, i < x.cells.length → ∃ b off ab cb, a2 = some ⟨b, off, none⟩ ∧ NL i ≤ 5864062014805 ∧ (∀ wr, Below w.heap.size w wr → wr.cell? ⟨b, off + i * 3 + 2, none⟩ = some (.slice ab (NL i) cb)) ∧
      ∀ k, k < NL i → ∃ bb ob u0 u1, ab = some ⟨bb, ob, none⟩ ∧ ∀ wr, Below w.heap.size w wr → wr.cell? ⟨bb, ob + k * 2, none⟩ = some u0 ∧ wr.cell? ⟨bb, ob + k * 2 + 1, none⟩ = some u1 ∧ ArIn n lo wr (Y i k) (.agg #[u0, u1])) := by
    subst hNL hY
    exact HB.out
  clear HB hNL hY
  generalize x.shape.length = SA at *
  generalize x.cells.length = CA at *
  go_enter Tryz.func15, Tryz.ntmps15
  go_wp2
  go_loopg [7, 8] CA (fun g nv i wr => ∃ (j : Nat) (N : Int), g + j = CA ∧ i = .int .i64 (j : Int) ∧ nv = .int .i64 N ∧ 0 ≤ N ∧ N ≤ 147000000000000 + 5000 * (d : Int) ∧ (CA : Int) + (SA : Int) ≤ N ∧ Below w.heap.size w wr ∧ wr.cell? ⟨w.heap.size, 1, none⟩ = some (.slice a2 CA c2) ∧ w.heap.size < wr.heap.size)
  case atStart => exact ⟨0, (CA : Int) + (SA : Int), rfl, rfl, by go_num, by omega, by omega, by omega, HQ.out.1, HQ.out.2.1, HQ.out.2.2⟩
  case round =>
    clear HQ
    obtain ⟨j, N, hj, rfl, rfl, hN0, hN1, hthin, hnx, hcl, hsz⟩ := hrel
    have HTH := hide hthin
    have HSZ := hide hsz
    clear hthin hsz
    by_cases hlt : j < CA
    · by_cases hNM : N ≤ M
      · obtain ⟨b, off, ab, cb, rfl, hnl, hbox, hboxes⟩ := HB'.out j hlt
        have HBOX := hide hbox
        have HBXS := hide hboxes
        have HS1 : Hid (NL j = NL j) := rfl
        clear hbox hboxes HB'
        obtain ⟨L, hL⟩ : ∃ L, NL j = L := ⟨_, rfl⟩
        have HLL := hide hL
        rw [hL] at hnl HBOX HBXS
        clear hL HS1
        go_wp2
        go_loopg [7, 9] L (fun g nv kv wr => ∃ (k : Nat) (N' : Int), g + k = L ∧ kv = .int .i64 (k : Int) ∧ nv = .int .i64 N' ∧ 0 ≤ N' ∧ N' ≤ 147000000000000 + 5000 * (d : Int) ∧ (CA : Int) + (SA : Int) ≤ N' ∧ Below w.heap.size w wr ∧ wr.cell? ⟨w.heap.size, 1, none⟩ = some (.slice (some ⟨b, off, none⟩) CA c2) ∧ w.heap.size < wr.heap.size)
        case atStart => exact ⟨0, N, rfl, rfl, rfl, hN0, hN1, HTH.out, hnx, hcl, HSZ.out⟩
        case round =>
          clear hnx hcl HSZ hN0 hN1 hNM
          obtain ⟨k, N', hk, rfl, rfl, hN0, hN1, hthin, hnx, hcl, hsz⟩ := hrel
          have HTH := hide hthin
          have HSZ := hide hsz
          have hbx := HBOX.out _ hnx
          clear hthin hsz
          by_cases hkl : k < L
          · by_cases hNM : N' ≤ M
            · by_cases hd0 : d = 0
              · subst hd0
                clear HBXS HBOX
                go_wp2
                go_ret
                exact ⟨⟨M + 1, by go_num, by omega, by omega, by have := HTH.out; omega⟩, hnx⟩
              · obtain ⟨d', rfl⟩ : ∃ d', d = d' + 1 := ⟨d - 1, by omega⟩
                obtain ⟨bb, ob, u0, u1, rfl, hcs⟩ := HBXS.out k hkl
                obtain ⟨g0, g1, g2⟩ := hcs _ hnx
                have C : Hid (∀ D : Int, D = (d' : Int) → Calls Tryz.prog 15 #[.agg #[u0, u1], .int .i64 (M - N'), .int .i64 D] wr fun e w' => (∃ r : Int, e = .returned (.int .i64 r) ∧ 0 ≤ r ∧ r ≤ 147000000000000 + 5000 * (d' : Int) ∧ True) ∧ Below wr.heap.size wr w') := by
                  rintro D rfl
                  exact (IH d' rfl n _ lo _ wr (M - N') g2 (by omega) (by omega)).mono fun e w' ⟨⟨r, h1, h2, h3, _⟩, h5⟩ => ⟨⟨r, h1, h2, h3, trivial⟩, h5⟩
                have hd1 : ((d' + 1 : Nat) : Int) ≠ 0 := by omega
                clear hcs g2 HBXS hd0
                go_wp2_with fail
                refine (C.out _ (by omega)).mono ?_
                rintro e w1 ⟨⟨r, rfl, hr0, hr1, hrt⟩, hb1⟩
                clear hrt C
                go_wp2
                go_roundg (L - (k + 1))
                case rel =>
                  refine ⟨k + 1, N' + 1 + r, by omega, by go_num, by go_num, by omega, by omega, by have := HTH.out; omega, hnx.trans (hb1.mono hnx.size), (hb1.cell (p := ⟨w.heap.size, 1, none⟩) HSZ.out).trans hcl, Nat.lt_of_lt_of_le HSZ.out hb1.size⟩
                case measure => omega
            · clear HBXS HBOX
              go_wp2
              go_roundg (CA - (j + 1))
              case rel => exact ⟨j + 1, N', by omega, by go_num, rfl, hN0, hN1, HTH.out, hnx, hcl, HSZ.out⟩
              case measure => omega
          · have hke : k = L := by omega
            subst hke
            clear HBXS HBOX
            go_wp2
            go_roundg (CA - (j + 1))
            case rel =>
              refine ⟨j + 1, N', by omega, by go_num, rfl, hN0, hN1, HTH.out, hnx, hcl, HSZ.out⟩
            case measure => omega
      · go_wp2
        go_ret
        exact ⟨⟨N, rfl, hN0, hN1, HTH.out⟩, hnx⟩
    · have hje : j = CA := by omega
      subst hje
      clear HB'
      go_wp2
      go_ret
      exact ⟨⟨N, rfl, hN0, hN1, HTH.out⟩, hnx⟩
theorem weighD_any (d : Nat) (hd : d ≤ 16) : WeighD d := by
  induction d with
  | zero => exact weighD_step 0 hd fun d' h => absurd h (by omega)
  | succ d ih =>
    refine weighD_step (d + 1) hd fun d' h => ?_
    have : d' = d := by omega
    subst this
    exact ih (by omega)
set_option maxHeartbeats 1000000 in
theorem weightM {n lo : Nat} {x : Ar} {va : Value} {w : World} (M : Int) (h0 : 0 ≤ M) (hM : M ≤ 4000) (hx : ArIn n lo w x va) : Calls Tryz.prog 6 #[va, .int .i64 M] w fun e w' => (∃ r : Int, e = .returned (.int .i64 r) ∧ 0 ≤ r ∧ r ≤ 147000000080000 ∧ (x.cells.length : Int) + (x.shape.length : Int) ≤ r) ∧ Below w.heap.size w w' := by
  have C := fun w' hb => weighD_any 16 (Nat.le_refl _) n x lo va w' M (hx.next hb) h0 hM
  cases n with
  | zero => exact hx.elim
  | succ n =>
    obtain ⟨a1, c1, a2, c2, rfl, -⟩ := hx
    generalize x.shape.length = SA at *
    generalize x.cells.length = CA at *
    have C1 := C _ (one_alloc w (.cells #[.slice a1 SA c1, .slice a2 CA c2] 25))
    clear C
    go_enter Tryz.func6, Tryz.ntmps6
    go_wp2_with fail
    refine C1.mono ?_
    rintro e w1 ⟨⟨r, rfl, hr0, hr1, hr⟩, hb1⟩
    go_wp2
    go_ret
    exact ⟨⟨r, rfl, hr0, by omega, hr⟩, (one_alloc _ _).trans (hb1.mono (one_alloc _ _).size)⟩
end Go.Proofs.YtneblkdkhlgmcaaGreatDoor
namespace Go.Proofs.YtneblkdkhlgmcaaGreatDoor
open Go.ChangeShapes Go.WideShapes Go.ChangeAt Go.RowKit
set_option maxRecDepth 100000
set_option linter.unusedVariables false
theorem own : ownKnob Tryz.prog.godebug = none := by kernel_rfl
theorem laidOut : laidOutB Tryz.prog = true := by kernel_rfl
theorem bytes3 : Tryz.prog.bytesOf 3 = 8 := by kernel_rfl
/-- What Places tells: the places, and the error. -/
def plsL (l : List Int) (n : Int) : List Int := if sizeE l = 0 ∧ 0 ≤ n ∧ n < sizeV l then digits l n else []
def plsE (l : List Int) (n : Int) : Int := if sizeE l = 0 then (if 0 ≤ n ∧ n < sizeV l then 0 else 8) else sizeE l
theorem pls_ok {l : List Int} {n : Int} (h : plsE l n = 0) : sizeE l = 0 ∧ 0 ≤ n ∧ n < sizeV l ∧ plsL l n = digits l n := by
  unfold plsE at h
  by_cases hs : sizeE l = 0
  · by_cases ho : 0 ≤ n ∧ n < sizeV l
    · exact ⟨hs, ho.1, ho.2, by unfold plsL; rw [if_pos ⟨hs, ho⟩]⟩
    · rw [if_pos hs, if_neg ho] at h; omega
  · rw [if_neg hs] at h; exact absurd h hs
theorem plc_ok {l m : List Int} (h : plcE l m = 0) : sizeE l = 0 ∧ inAxes l m ∧ plcV l m = place l m := by
  unfold plcE at h
  by_cases hs : sizeE l = 0
  · by_cases hl : m.length = l.length
    · by_cases hi : inAxes l m
      · exact ⟨hs, hi, by unfold plcV; rw [if_pos ⟨hs, hi⟩]⟩
      · simp [hs, hl, hi] at h
    · simp [hs, hl] at h
  · simp [hs] at h
/-- The places of the cell at places. -/
theorem there {l m : List Int} (h : plcE l m = 0) : plsE l (plcV l m) = 0 ∧ plsL l (plcV l m) = m := by
  obtain ⟨hs, hi, hv⟩ := plc_ok h
  obtain ⟨b1, b2, b3, b4⟩ := place_bound hi
  obtain ⟨s1, s2, s3⟩ := sizeE_ok hs
  have hz : ¬ hasZero l := by
    rintro ⟨z, hz, e⟩
    have := b1 z hz
    omega
  rcases s3 with s3 | ⟨-, s4⟩
  · exact absurd s3 hz
  have sv : sizeV l = prodL l := (size_ok s1 s2 hz (by omega)).1
  have hr : 0 ≤ plcV l m ∧ plcV l m < sizeV l := by rw [hv, sv]; exact ⟨b2, b3⟩
  refine ⟨by unfold plsE; rw [if_pos hs, if_pos hr], ?_⟩
  unfold plsL
  rw [if_pos ⟨hs, hr⟩, hv]
  exact digits_place hi
/-- The cell at the places of a cell. -/
theorem back {l : List Int} {n : Int} (h : plsE l n = 0) : plcE l (plsL l n) = 0 ∧ plcV l (plsL l n) = n := by
  obtain ⟨hs, h0, h1, hL⟩ := pls_ok h
  obtain ⟨s1, s2, s3, s4⟩ := sizeV_in hs h0 h1
  obtain ⟨d1, d2⟩ := digits_in s2 h0 (by omega)
  rw [hL]
  have hl := digits_length l n
  refine ⟨by unfold plcE; simp [hs, hl, d1], ?_⟩
  unfold plcV
  rw [if_pos ⟨hs, d1⟩]
  exact d2
end Go.Proofs.YtneblkdkhlgmcaaGreatDoor
namespace Go.Proofs.YtneblkdkhlgmcaaGreatDoor
open Go.ChangeShapes Go.WideShapes Go.ChangeAt Go.RowKit Go.Deep
set_option maxRecDepth 100000
set_option linter.unusedVariables false
theorem cells25 : Tryz.prog.cellsOf 25 = 2 := by kernel_rfl
theorem cells33 : Tryz.prog.cellsOf 64 = 3 := by kernel_rfl
theorem cells22 : Tryz.prog.cellsOf 22 = 1 := by kernel_rfl
theorem cells23 : Tryz.prog.cellsOf 23 = 1 := by kernel_rfl
theorem cells31 : Tryz.prog.cellsOf 62 = 1 := by kernel_rfl
theorem cells3 : Tryz.prog.cellsOf 3 = 1 := by kernel_rfl
theorem cells2 : Tryz.prog.cellsOf 2 = 1 := by kernel_rfl
theorem bytes33 : Tryz.prog.bytesOf 64 = 40 := by kernel_rfl
theorem bytes25 : Tryz.prog.bytesOf 25 = 48 := by kernel_rfl
theorem weightsAll_mem {H : Type} {P : Program} {e : TypeId} {d : DataW H} : ∀ {l : List (DataW H)}, d ∈ l → ∀ n ∈ d.weights P e, n ∈ DataW.weightsAll P e l
  | x :: l, hd, n, hn => by
    simp only [DataW.weightsAll, List.mem_append]
    rcases List.mem_cons.1 hd with rfl | h
    · exact Or.inl hn
    · exact Or.inr (weightsAll_mem h n hn)
  | [], hd, _, _ => by simp at hd
def Fit {H : Type} (t : TypeId) (d : DataW H) : Prop := ∀ n ∈ d.weights Tryz.prog t, n ≤ reachBytes
theorem fit_slice {H : Type} {t e : TypeId} {elems spare : List (DataW H)} (hu : Tryz.prog.underlying t = some (.slice e)) (h : Fit t (.slice elems spare)) : (elems.length + spare.length) * Tryz.prog.bytesOf e ≤ reachBytes ∧ ∀ d ∈ elems, Fit e d := by
  unfold Fit at *
  simp only [DataW.weights, hu] at h
  refine ⟨h _ List.mem_cons_self, fun d hd n hn => h n ?_⟩
  exact List.mem_cons_of_mem _ (List.mem_append_left _ (weightsAll_mem hd n hn))
theorem fit_arr {H : Type} {d0 d1 : DataW H} (h : Fit 25 (.agg [d0, d1])) : Fit 22 d0 ∧ Fit 23 d1 := by
  unfold Fit at *
  simp only [DataW.weights, Tryz.underlying25, DataW.weightsEach, List.map_cons, List.map_nil, List.append_nil, List.mem_append] at h
  exact ⟨fun n hn => h n (Or.inl hn), fun n hn => h n (Or.inr hn)⟩
theorem fit_cell {H : Type} {d0 d1 d2 : DataW H} (h : Fit 64 (.agg [d0, d1, d2])) : Fit 62 d2 := by
  unfold Fit at *
  simp only [DataW.weights, Tryz.underlying64, DataW.weightsEach, List.map_cons, List.map_nil, List.append_nil, List.mem_append] at h
  exact fun n hn => h n (Or.inr (Or.inr hn))
theorem add_off (b off i : Nat) : (⟨b, off, none⟩ : Addr).add i = ⟨b, off + i, none⟩ := by
  unfold Addr.add
  split
  · subst_vars; rfl
  · rfl
theorem two_of {W : World} {a : Addr} {cs : List Value} (h : W.cells? 0 a 2 = some cs) : ∃ c0 c1, cs = [c0, c1] ∧ W.cell? a = some c0 ∧ W.cell? (a.add 1) = some c1 := by
  obtain ⟨_, hl, hc⟩ := World.cells?_some h
  match cs, hl with
  | [c0, c1], _ =>
    have h0 := hc 0 (by omega)
    have h1 := hc 1 (by omega)
    exact ⟨c0, c1, rfl, by simpa [Addr.add] using h0, by simpa using h1⟩
theorem three_of {W : World} {a : Addr} {cs : List Value} (h : W.cells? 0 a 3 = some cs) : ∃ c0 c1 c2, cs = [c0, c1, c2] ∧ W.cell? a = some c0 ∧ W.cell? (a.add 1) = some c1 ∧ W.cell? (a.add 2) = some c2 := by
  obtain ⟨_, hl, hc⟩ := World.cells?_some h
  match cs, hl with
  | [c0, c1, c2], _ =>
    have h0 := hc 0 (by omega)
    have h1 := hc 1 (by omega)
    have h2 := hc 2 (by omega)
    exact ⟨c0, c1, c2, rfl, by simpa [Addr.add] using h0, by simpa using h1, by simpa using h2⟩
section
variable {H : Type} {enc : TypeId × Value → H} {W : World} {sp : Nat → Bool} {held : Bool}
/-- What the opening of an array promises. -/
def Opens (enc : TypeId × Value → H) (W : World) (sp : Nat → Bool) (held : Bool) (k : Nat) : Prop := ∀ (x : DataW H × List MemPlace) (cs : List Value) (fuel : Nat), SizeOf.sizeOf x.1 < k → DataW.trod enc Tryz.prog W 0 sp held fuel 25 cs = some x → Fit 25 x.1 → ∃ n y c0 c1, cs = [c0, c1] ∧ ArIn n 0 W y (.agg #[c0, c1]) ∧ Snd y
theorem open_cell {k : Nat} (IH : Opens enc W sp held k) (x : DataW H × List MemPlace) (cs : List Value) (fuel : Nat) (hk : SizeOf.sizeOf x.1 ≤ k) (h : DataW.trod enc Tryz.prog W 0 sp held fuel 64 cs = some x) (hf : Fit 64 x.1) :
    ∃ n c v0 v1 v2, cs = [v0, v1, v2] ∧ CeIn (ArIn n 0 W) 0 W c v0 v1 v2 ∧ SndC c := by
  obtain ⟨y0, y1, y2, m, rfl, hl, h0, h1, h2⟩ := trod_struct3 Tryz.underlying64 h
  rw [cells33] at hl
  match cs, hl with
  | [v0, v1, v2], _ =>
    simp only [cells3, cells2, cells31, List.drop_zero, List.take_succ_cons, List.take_zero, List.drop_succ_cons] at h0 h1 h2
    obtain ⟨z0, e0, -, i0⟩ := DataW.trod_int Tryz.underlying3 h0
    obtain ⟨z1, e1, -, i1⟩ := DataW.trod_int Tryz.underlying2 h1
    simp only [List.cons.injEq, and_true] at e0 e1
    subst e0 e1
    replace i0 : I64 z0 := bounds_i64 i0
    replace i1 : I64 z1 := bounds_i64 i1
    have hf2 := fit_cell hf
    rcases open_slice Tryz.underlying62 h2 with ⟨hcs, hx⟩ | ⟨a, len, cap, mm, n, D, Pl, hcs, _, hlc, hm, hmm, hx, hel⟩
    · simp only [List.cons.injEq, and_true] at hcs
      subst hcs
      exact ⟨1, (z0, z1, []), _, _, _, rfl, ⟨rfl, rfl, none, 0, rfl, by simp, Or.inl rfl⟩, i0, i1, by simp⟩
    · simp only [List.cons.injEq, and_true] at hcs
      subst hcs
      rw [hx] at hf2
      obtain ⟨hb, hfe⟩ := fit_slice Tryz.underlying62 hf2
      have hlen : len * 48 ≤ reachBytes := by
        rw [bytes25] at hb
        simp only [List.length_map, List.length_range] at hb
        omega
      have hlm : len ≤ mm := by rw [hmm]; split <;> omega
      have hE : ∀ i, i < len → ∃ p : Ar × Value × Value, ∃ n, W.cell? (a.add (i * 2)) = some p.2.1 ∧ W.cell? (a.add (i * 2 + 1)) = some p.2.2 ∧ ArIn n 0 W p.1 (.agg #[p.2.1, p.2.2]) ∧ Snd p.1 := by
        intro i hi
        obtain ⟨cs', hc', ht'⟩ := hel i (by omega)
        rw [cells25] at hc'
        obtain ⟨c0, c1, rfl, g0, g1⟩ := two_of hc'
        rw [add_add] at g1
        have hmem : D i ∈ (List.range len).map D := List.mem_map_of_mem (List.mem_range.2 hi)
        have hs : SizeOf.sizeOf (D i) < k := by
          have s1 := List.sizeOf_lt_of_mem hmem
          rw [hx] at hk
          simp only [DataW.agg.sizeOf_spec, DataW.slice.sizeOf_spec, List.cons.sizeOf_spec, List.nil.sizeOf_spec] at hk
          omega
        obtain ⟨n', y, c0', c1', hcc, hin, hsn⟩ := IH (D i, Pl i) [c0, c1] n hs ht' (hfe _ hmem)
        simp only [List.cons.injEq, and_true] at hcc
        obtain ⟨rfl, rfl⟩ := hcc
        exact ⟨(y, c0, c1), n', g0, g1, hin, hsn⟩
      obtain ⟨F, hF⟩ := choose_lt hE
      obtain ⟨N, hN⟩ := fuel_lt (n := len) (q := fun i n => ArIn n 0 W (F i).1 (.agg #[(F i).2.1, (F i).2.2])) (fun i a b hab h => h.deep hab) (fun i hi => by obtain ⟨n, _, _, h, _⟩ := hF i hi; exact ⟨n, h⟩)
      have hbl : ((List.range len).map fun i => (F i).1).length = len := by simp
      refine ⟨N, (z0, z1, (List.range len).map fun i => (F i).1), _, _, _, rfl, ⟨rfl, rfl, some a, cap, by simp, ?_, ?_⟩, i0, i1, fun y hy => by
        obtain ⟨i, hi, rfl⟩ := List.mem_map.1 hy
        obtain ⟨_, _, _, _, hs⟩ := hF i (List.mem_range.1 hi)
        exact hs⟩
      · simp only [hbl]; unfold reachBytes at hlen; omega
      · by_cases hl0 : len = 0
        · left; subst hl0; rfl
        · right
          obtain ⟨b, off, spot⟩ := a
          obtain ⟨_, g0, _, _⟩ := hF 0 (by omega)
          have hspot : spot = none := by simpa [Addr.add] using World.cell?_spot g0
          subst hspot
          refine ⟨b, off, rfl, Nat.zero_le _, ?_, ?_⟩
          · refine Decidable.byContradiction fun hbn => ?_
            have : W.heap[b]? = none := by simp; omega
            rw [add_off] at g0
            simp [World.cell?, this] at g0
          · intro j hj
            have hj' : j < len := by simpa using hj
            obtain ⟨_, g0, g1, _⟩ := hF j hj'
            rw [add_off] at g0 g1
            refine ⟨_, _, g0, by rw [Nat.add_assoc]; exact g1, ?_⟩
            have := hN j hj'
            simpa [bAt, hj'] using this
theorem open_arr (k : Nat) : Opens enc W sp held k := by
  induction k with
  | zero => intro x cs fuel hk; omega
  | succ k ih =>
    intro x cs fuel hk h hf
    obtain ⟨y0, y1, m, rfl, hl, h0, h1⟩ := trod_struct2 Tryz.underlying25 h
    rw [cells25] at hl
    match cs, hl with
    | [c0, c1], _ =>
      simp only [cells22, cells23, List.drop_zero, List.take_succ_cons, List.take_zero, List.drop_succ_cons] at h0 h1
      obtain ⟨f0, f1⟩ := fit_arr hf
      obtain ⟨sh, a1, n1, cp1, rfl, hsl, hR, hsI⟩ : ∃ sh a1 n1 cp1, c0 = .slice a1 n1 cp1 ∧ List.length sh = n1 ∧ Row 0 W a1 sh ∧ ∀ z ∈ sh, I64 z := by
        rcases open_ints Tryz.underlying22 Tryz.underlying3 cells3 h0 with ⟨hcs, hx⟩ | ⟨a, l, c, zs, hcs, _, hlc, hm, hz, hx, hcell, hwz⟩
        · simp only [List.cons.injEq, and_true] at hcs
          exact ⟨[], none, 0, 0, hcs, rfl, row_nil _ _ _, by simp⟩
        · simp only [List.cons.injEq, and_true] at hcs
          rw [hx] at f0
          obtain ⟨hb, -⟩ := fit_slice Tryz.underlying22 f0
          rw [bytes3] at hb
          have hzl : l ≤ zs.length := by rw [hz]; split <;> omega
          simp only [lits, List.length_map, List.length_take, List.length_drop, reachBytes] at hb
          refine ⟨zs.take l, some a, l, c, hcs, by rw [List.length_take]; omega, ?_, fun z hz => bounds_i64 (hwz z (List.mem_of_mem_take hz))⟩
          refine ⟨by rw [List.length_take]; omega, ?_⟩
          by_cases hl0 : l = 0
          · left; subst hl0; rfl
          · right
            obtain ⟨b, off, spot⟩ := a
            have hc0 := hcell 0 (by omega)
            have hspot : spot = none := by simpa [Addr.add] using World.cell?_spot hc0
            subst hspot
            refine ⟨b, off, rfl, Nat.zero_le _, ?_, ?_⟩
            · refine Decidable.byContradiction fun hbn => ?_
              have : W.heap[b]? = none := by simp; omega
              simp [Addr.add, World.cell?, this] at hc0
            · intro i hi
              have hi' : i < l := by rw [List.length_take] at hi; omega
              have := hcell i (by omega)
              rw [add_off] at this
              rw [this]
              simp [hi']
      rcases open_slice Tryz.underlying23 h1 with ⟨hcs, hx⟩ | ⟨a, len, cap, mm, n, D, Pl, hcs, _, hlc, hm, hmm, hx, hel⟩
      · simp only [List.cons.injEq, and_true] at hcs
        subst hcs
        exact ⟨1, .mk sh [], _, _, rfl, arIn_mk (n := 0) (x := .mk sh []) hR (by simp [Ar.cells]) (Or.inl rfl) hsl rfl, Snd.of hsI (by simp)⟩
      · simp only [List.cons.injEq, and_true] at hcs
        subst hcs
        rw [hx] at f1
        obtain ⟨hb, hfe⟩ := fit_slice Tryz.underlying23 f1
        have hlen : len * 40 ≤ reachBytes := by
          rw [bytes33] at hb
          simp only [List.length_map, List.length_range] at hb
          omega
        have hlm : len ≤ mm := by rw [hmm]; split <;> omega
        have hE : ∀ i, i < len → ∃ p : Ce × Value × Value × Value, ∃ n, W.cell? (a.add (i * 3)) = some p.2.1 ∧ W.cell? (a.add (i * 3 + 1)) = some p.2.2.1 ∧ W.cell? (a.add (i * 3 + 2)) = some p.2.2.2 ∧ CeIn (ArIn n 0 W) 0 W p.1 p.2.1 p.2.2.1 p.2.2.2 ∧ SndC p.1 := by
          intro i hi
          obtain ⟨cs', hc', ht'⟩ := hel i (by omega)
          rw [cells33] at hc'
          obtain ⟨w0, w1, w2, rfl, g0, g1, g2⟩ := three_of hc'
          rw [add_add] at g1 g2
          have hmem : D i ∈ (List.range len).map D := List.mem_map_of_mem (List.mem_range.2 hi)
          have hs : SizeOf.sizeOf (D i) ≤ k := by
            have s1 := List.sizeOf_lt_of_mem hmem
            rw [hx] at hk
            simp only [DataW.agg.sizeOf_spec, DataW.slice.sizeOf_spec, List.cons.sizeOf_spec, List.nil.sizeOf_spec] at hk
            omega
          obtain ⟨n', c, u0, u1, u2, hcc, hin, hsn⟩ := open_cell ih (D i, Pl i) [w0, w1, w2] n hs ht' (hfe _ hmem)
          simp only [List.cons.injEq, and_true] at hcc
          obtain ⟨rfl, rfl, rfl⟩ := hcc
          exact ⟨(c, w0, w1, w2), n', g0, g1, g2, hin, hsn⟩
        obtain ⟨F, hF⟩ := choose_lt hE
        obtain ⟨N, hN⟩ := fuel_lt (n := len) (q := fun i n => CeIn (ArIn n 0 W) 0 W (F i).1 (F i).2.1 (F i).2.2.1 (F i).2.2.2) (fun i a b hab h => h.deeper fun x v hx => hx.deep hab) (fun i hi => by obtain ⟨n, _, _, _, h, _⟩ := hF i hi; exact ⟨n, h⟩)
        have hbl : ((List.range len).map fun i => (F i).1).length = len := by simp
        refine ⟨N + 1, .mk sh ((List.range len).map fun i => (F i).1), _, _, rfl, arIn_mk (n := N) (x := .mk sh ((List.range len).map fun i => (F i).1)) hR ?_ ?_ hsl hbl, Snd.of hsI fun c hc => by
          obtain ⟨i, hi, rfl⟩ := List.mem_map.1 hc
          obtain ⟨_, _, _, _, _, hs⟩ := hF i (List.mem_range.1 hi)
          exact hs⟩
        · show ((List.range len).map fun i => (F i).1).length ≤ _
          rw [hbl]; unfold reachBytes at hlen; omega
        · show CellsIn N 0 W ((List.range len).map fun i => (F i).1) (some a)
          by_cases hl0 : len = 0
          · left; subst hl0; rfl
          · right
            obtain ⟨b, off, spot⟩ := a
            obtain ⟨_, g0, _, _⟩ := hF 0 (by omega)
            have hspot : spot = none := by simpa [Addr.add] using World.cell?_spot g0
            subst hspot
            refine ⟨b, off, rfl, Nat.zero_le _, ?_, ?_⟩
            · refine Decidable.byContradiction fun hbn => ?_
              have : W.heap[b]? = none := by simp; omega
              rw [add_off] at g0
              simp [World.cell?, this] at g0
            · intro j hj
              have hj' : j < len := by simpa using hj
              obtain ⟨_, g0, g1, g2, _⟩ := hF j hj'
              rw [add_off] at g0 g1 g2
              refine ⟨_, _, _, g0, by rw [Nat.add_assoc]; exact g1, by rw [Nat.add_assoc]; exact g2, ?_⟩
              have := hN j hj'
              simpa [cAt, hj'] using this
/-- An array that came in. -/
theorem arr_of {ts : List TypeId} {ds : List (DataW H)} {j : Nat} {d : DataW H} {v : Value} {p : List MemPlace}
    (hsz : (DataW.weightsEach Tryz.prog ts ds).all (· ≤ reachBytes) = true) (ht : ts[j]? = some 25) (hd : ds[j]? = some d)
    (h : DataW.Trod enc Tryz.prog W 0 sp held 25 v d p) : ∃ n y c0 c1, v.cells.toList = [c0, c1] ∧ ArIn n 0 W y (.agg #[c0, c1]) ∧ Snd y := by
  obtain ⟨fuel, hf⟩ := h
  exact open_arr (SizeOf.sizeOf d + 1) (d, p) _ fuel (by simp) hf (fun n hn => by
    have := List.all_eq_true.1 hsz n (DataW.weights_mem_each ht hd n hn)
    simpa using this)
end
end Go.Proofs.YtneblkdkhlgmcaaGreatDoor
