/-
  Nodes that are made: Prim, Lit, One, Two, With, and what a node without parts is; for all parts.
-/
import Derived.Test.YtkgpoibnilgaeaaCoP
import Derived.Test.YtkgpoibnilgaeaaCoQ
import Derived.Test.YtkgpoibnilgaeaaOwnQ
namespace Go.Proofs.Ytkgpoibnilgaeaa
open Go.ChangeShapes Go.WideShapes Go.ChangeAt Go.RowKit
set_option linter.unusedVariables false
set_option linter.unusedSimpArgs false
def noA : Ar := .mk [] []
def noS : ByteArray := { data := #[] }
def primD (op : Int) : Nd := .mk 21 op noS noA [] 0
def litD (a : Ar) : Nd := .mk 1 0 noS a [] 0
def oneD (f x : Nd) : Nd := .mk 5 0 noS noA [f, x] 0
def twoD (f x y : Nd) : Nd := .mk 6 0 noS noA [f, x, y] 0
def withD (k : Int) (f : Nd) : Nd := .mk k 0 noS noA [f] 0
def leafD (k : Int) : Nd := .mk k 0 noS noA [] 0
def GivesN (m n : Nat) (x : Nd) (w : World) (e : Ending) (w' : World) : Prop := (∃ v, e = .returned v ∧ NdIn m n 0 w' x v) ∧ Below w.heap.size w w'
theorem noA_in (n lo : Nat) (w : World) : ArIn (n + 1) lo w noA (.agg #[.slice none 0 0, .slice none 0 0]) := arIn_mk (x := noA) (row_nil _ _ _) (by simp [noA, Ar.cells]) (Or.inl rfl) rfl rfl
theorem leaf_in (n lo : Nat) (w : World) (k op : Int) (a : Ar) (a1 : Option Addr) (c1 : Nat) (a2 : Option Addr) (c2 : Nat) (h : ArIn n lo w a (.agg #[.slice a1 a.shape.length c1, .slice a2 a.cells.length c2])) (m : Nat) : NdIn (m + 1) n lo w (.mk k op noS a [] 0) (.agg #[.int .i64 k, .int .i64 op, .string noS, .slice a1 a.shape.length c1, .slice a2 a.cells.length c2, .slice none 0 0, .int .i64 0]) :=
  ⟨a1, c1, a2, c2, none, 0, rfl, h, by simp [Nd.kids], (by show 0 ≤ _; omega), Or.inl rfl⟩
set_option maxHeartbeats 1000000 in
theorem prim25 (m n : Nat) (op : Int) (w : World) : Calls Try.prog 25 #[.int .i64 op] w fun e w' => GivesN (m + 1) (n + 1) (primD op) w e w' := by
  go_enter Try.func25, Try.ntmps25
  go_wp2
  exact bodyPost_ret (v := .agg #[.int .i64 21, .int .i64 op, .string noS, .slice none 0 0, .slice none 0 0, .slice none 0 0, .int .i64 0]) (by simp [results, Try.results25, go_sem, noS]) rfl ⟨⟨_, rfl, leaf_in (n + 1) 0 _ 21 op noA none 0 none 0 (noA_in n 0 _) m⟩, one_alloc _ _⟩
set_option maxHeartbeats 1000000 in
theorem lit30 (m n : Nat) (a : Ar) (va : Value) (w : World) (h : ArIn n 0 w a va) : Calls Try.prog 30 #[va] w fun e w' => GivesN (m + 1) n (litD a) w e w' := by
  have h' := h
  cases n with
  | zero => exact h.elim
  | succ n =>
  obtain ⟨a1, c1, a2, c2, rfl, -⟩ := h
  have H1 := hide h'
  clear h'
  have HL : Hid (∀ W, Below w.heap.size w W → NdIn (m + 1) (n + 1) 0 W (litD a) (.agg #[.int .i64 1, .int .i64 0, .string noS, .slice a1 a.shape.length c1, .slice a2 a.cells.length c2, .slice none 0 0, .int .i64 0])) := fun W hW => leaf_in (n + 1) 0 W 1 0 a a1 c1 a2 c2 (H1.out.next hW) m
  clear H1
  generalize a.shape.length = L1 at *
  generalize a.cells.length = L2 at *
  go_enter Try.func30, Try.ntmps30
  go_wp2
  exact bodyPost_ret (v := .agg #[.int .i64 1, .int .i64 0, .string noS, .slice a1 L1 c1, .slice a2 L2 c2, .slice none 0 0, .int .i64 0]) (by simp [results, Try.results30, go_sem, noS]) rfl ⟨⟨_, rfl, HL.out _ (two_allocs _ _ _)⟩, two_allocs _ _ _⟩
theorem kids_new1 {m n lo : Nat} {W : World} {x : Nd} (a1x : Option Addr) (c1x : Nat) (a2x : Option Addr) (c2x : Nat) (akx : Option Addr) (ckx : Nat) (hx : NdIn m n lo W x (.agg #[.int .i64 x.kind, .int .i64 x.op, .string x.name, .slice a1x x.lit.shape.length c1x, .slice a2x x.lit.cells.length c2x, .slice akx x.kids.length ckx, .int .i64 x.pos])) (hlo : lo ≤ W.heap.size) :
    KidsIn m n lo (W.alloc (.cells #[.int .i64 x.kind, .int .i64 x.op, .string x.name, .slice a1x x.lit.shape.length c1x, .slice a2x x.lit.cells.length c2x, .slice akx x.kids.length ckx, .int .i64 x.pos] 28)) [x] (some ⟨W.heap.size, 0, none⟩) := by
  refine Or.inr ⟨W.heap.size, 0, rfl, hlo, by simp, fun j hj => ?_⟩
  obtain rfl : j = 0 := by simpa using hj
  exact ⟨a1x, c1x, a2x, c2x, akx, ckx, ⟨cell_new0 W _ 28 0 _ rfl, cell_new0 W _ 28 1 _ rfl, cell_new0 W _ 28 2 _ rfl, cell_new0 W _ 28 3 _ rfl, cell_new0 W _ 28 4 _ rfl, cell_new0 W _ 28 5 _ rfl, cell_new0 W _ 28 6 _ rfl⟩, hx.next (one_alloc _ _)⟩
theorem kids_new2 {m n lo : Nat} {W : World} {x y : Nd} (a1x : Option Addr) (c1x : Nat) (a2x : Option Addr) (c2x : Nat) (akx : Option Addr) (ckx : Nat) (a1y : Option Addr) (c1y : Nat) (a2y : Option Addr) (c2y : Nat) (aky : Option Addr) (cky : Nat) (hx : NdIn m n lo W x (.agg #[.int .i64 x.kind, .int .i64 x.op, .string x.name, .slice a1x x.lit.shape.length c1x, .slice a2x x.lit.cells.length c2x, .slice akx x.kids.length ckx, .int .i64 x.pos])) (hy : NdIn m n lo W y (.agg #[.int .i64 y.kind, .int .i64 y.op, .string y.name, .slice a1y y.lit.shape.length c1y, .slice a2y y.lit.cells.length c2y, .slice aky y.kids.length cky, .int .i64 y.pos])) (hlo : lo ≤ W.heap.size) :
    KidsIn m n lo (W.alloc (.cells #[.int .i64 x.kind, .int .i64 x.op, .string x.name, .slice a1x x.lit.shape.length c1x, .slice a2x x.lit.cells.length c2x, .slice akx x.kids.length ckx, .int .i64 x.pos, .int .i64 y.kind, .int .i64 y.op, .string y.name, .slice a1y y.lit.shape.length c1y, .slice a2y y.lit.cells.length c2y, .slice aky y.kids.length cky, .int .i64 y.pos] 28)) [x, y] (some ⟨W.heap.size, 0, none⟩) := by
  refine Or.inr ⟨W.heap.size, 0, rfl, hlo, by simp, fun j hj => ?_⟩
  have hj' : j = 0 ∨ j = 1 := by
    have : j < 2 := by simpa using hj
    omega
  rcases hj' with rfl | rfl
  · exact ⟨a1x, c1x, a2x, c2x, akx, ckx, ⟨cell_new0 W _ 28 0 _ rfl, cell_new0 W _ 28 1 _ rfl, cell_new0 W _ 28 2 _ rfl, cell_new0 W _ 28 3 _ rfl, cell_new0 W _ 28 4 _ rfl, cell_new0 W _ 28 5 _ rfl, cell_new0 W _ 28 6 _ rfl⟩, hx.next (one_alloc _ _)⟩
  · exact ⟨a1y, c1y, a2y, c2y, aky, cky, ⟨cell_new0 W _ 28 7 _ rfl, cell_new0 W _ 28 8 _ rfl, cell_new0 W _ 28 9 _ rfl, cell_new0 W _ 28 10 _ rfl, cell_new0 W _ 28 11 _ rfl, cell_new0 W _ 28 12 _ rfl, cell_new0 W _ 28 13 _ rfl⟩, hy.next (one_alloc _ _)⟩
theorem kids_new3 {m n lo : Nat} {W : World} {x y z : Nd} (a1x : Option Addr) (c1x : Nat) (a2x : Option Addr) (c2x : Nat) (akx : Option Addr) (ckx : Nat) (a1y : Option Addr) (c1y : Nat) (a2y : Option Addr) (c2y : Nat) (aky : Option Addr) (cky : Nat) (a1z : Option Addr) (c1z : Nat) (a2z : Option Addr) (c2z : Nat) (akz : Option Addr) (ckz : Nat) (hx : NdIn m n lo W x (.agg #[.int .i64 x.kind, .int .i64 x.op, .string x.name, .slice a1x x.lit.shape.length c1x, .slice a2x x.lit.cells.length c2x, .slice akx x.kids.length ckx, .int .i64 x.pos])) (hy : NdIn m n lo W y (.agg #[.int .i64 y.kind, .int .i64 y.op, .string y.name, .slice a1y y.lit.shape.length c1y, .slice a2y y.lit.cells.length c2y, .slice aky y.kids.length cky, .int .i64 y.pos])) (hz : NdIn m n lo W z (.agg #[.int .i64 z.kind, .int .i64 z.op, .string z.name, .slice a1z z.lit.shape.length c1z, .slice a2z z.lit.cells.length c2z, .slice akz z.kids.length ckz, .int .i64 z.pos])) (hlo : lo ≤ W.heap.size) :
    KidsIn m n lo (W.alloc (.cells #[.int .i64 x.kind, .int .i64 x.op, .string x.name, .slice a1x x.lit.shape.length c1x, .slice a2x x.lit.cells.length c2x, .slice akx x.kids.length ckx, .int .i64 x.pos, .int .i64 y.kind, .int .i64 y.op, .string y.name, .slice a1y y.lit.shape.length c1y, .slice a2y y.lit.cells.length c2y, .slice aky y.kids.length cky, .int .i64 y.pos, .int .i64 z.kind, .int .i64 z.op, .string z.name, .slice a1z z.lit.shape.length c1z, .slice a2z z.lit.cells.length c2z, .slice akz z.kids.length ckz, .int .i64 z.pos] 28)) [x, y, z] (some ⟨W.heap.size, 0, none⟩) := by
  refine Or.inr ⟨W.heap.size, 0, rfl, hlo, by simp, fun j hj => ?_⟩
  have hj' : j = 0 ∨ j = 1 ∨ j = 2 := by
    have : j < 3 := by simpa using hj
    omega
  rcases hj' with rfl | rfl | rfl
  · exact ⟨a1x, c1x, a2x, c2x, akx, ckx, ⟨cell_new0 W _ 28 0 _ rfl, cell_new0 W _ 28 1 _ rfl, cell_new0 W _ 28 2 _ rfl, cell_new0 W _ 28 3 _ rfl, cell_new0 W _ 28 4 _ rfl, cell_new0 W _ 28 5 _ rfl, cell_new0 W _ 28 6 _ rfl⟩, hx.next (one_alloc _ _)⟩
  · exact ⟨a1y, c1y, a2y, c2y, aky, cky, ⟨cell_new0 W _ 28 7 _ rfl, cell_new0 W _ 28 8 _ rfl, cell_new0 W _ 28 9 _ rfl, cell_new0 W _ 28 10 _ rfl, cell_new0 W _ 28 11 _ rfl, cell_new0 W _ 28 12 _ rfl, cell_new0 W _ 28 13 _ rfl⟩, hy.next (one_alloc _ _)⟩
  · exact ⟨a1z, c1z, a2z, c2z, akz, ckz, ⟨cell_new0 W _ 28 14 _ rfl, cell_new0 W _ 28 15 _ rfl, cell_new0 W _ 28 16 _ rfl, cell_new0 W _ 28 17 _ rfl, cell_new0 W _ 28 18 _ rfl, cell_new0 W _ 28 19 _ rfl, cell_new0 W _ 28 20 _ rfl⟩, hz.next (one_alloc _ _)⟩

set_option maxHeartbeats 2000000 in
theorem one24 (m n : Nat) (x y : Nd) (vx vy : Value) (w : World) (hx : NdIn m (n + 1) 0 w x vx) (hy : NdIn m (n + 1) 0 w y vy) : Calls Try.prog 24 #[vx, vy] w fun e w' => GivesN (m + 1) (n + 1) (oneD x y) w e w' := by
  obtain ⟨mx, hmx, a1x, c1x, a2x, c2x, akx, ckx, rfl, -, hlx, hsx, -⟩ := hx.letters
  obtain ⟨my, hmy, a1y, c1y, a2y, c2y, aky, cky, rfl, -, hly, hsy, -⟩ := hy.letters
  have HB : Hid (Below w.heap.size w (((w.alloc (.cells #[.int .i64 x.kind, .int .i64 x.op, .string x.name, .slice a1x x.lit.shape.length c1x, .slice a2x x.lit.cells.length c2x, .slice akx x.kids.length ckx, .int .i64 x.pos] 28)).alloc (.cells #[.int .i64 y.kind, .int .i64 y.op, .string y.name, .slice a1y y.lit.shape.length c1y, .slice a2y y.lit.cells.length c2y, .slice aky y.kids.length cky, .int .i64 y.pos] 28)).alloc (.cells #[.int .i64 5, .int .i64 0, .string noS, .slice none 0 0, .slice none 0 0, .slice (some ⟨w.heap.size + 1 + 1 + 1, 0, none⟩) 2 2, .int .i64 0] 28))) := (((one_alloc w _).alloc (by simp <;> omega) _).alloc (by simp <;> omega) _)
  have HB4 : Hid (Below w.heap.size w ((((w.alloc (.cells #[.int .i64 x.kind, .int .i64 x.op, .string x.name, .slice a1x x.lit.shape.length c1x, .slice a2x x.lit.cells.length c2x, .slice akx x.kids.length ckx, .int .i64 x.pos] 28)).alloc (.cells #[.int .i64 y.kind, .int .i64 y.op, .string y.name, .slice a1y y.lit.shape.length c1y, .slice a2y y.lit.cells.length c2y, .slice aky y.kids.length cky, .int .i64 y.pos] 28)).alloc (.cells #[.int .i64 5, .int .i64 0, .string noS, .slice none 0 0, .slice none 0 0, .slice (some ⟨w.heap.size + 1 + 1 + 1, 0, none⟩) 2 2, .int .i64 0] 28)).alloc (.cells #[.int .i64 x.kind, .int .i64 x.op, .string x.name, .slice a1x x.lit.shape.length c1x, .slice a2x x.lit.cells.length c2x, .slice akx x.kids.length ckx, .int .i64 x.pos, .int .i64 y.kind, .int .i64 y.op, .string y.name, .slice a1y y.lit.shape.length c1y, .slice a2y y.lit.cells.length c2y, .slice aky y.kids.length cky, .int .i64 y.pos] 28))) := HB.out.alloc (by simp <;> omega) _
  have HL : Hid (NdIn (m + 1) (n + 1) 0 ((((w.alloc (.cells #[.int .i64 x.kind, .int .i64 x.op, .string x.name, .slice a1x x.lit.shape.length c1x, .slice a2x x.lit.cells.length c2x, .slice akx x.kids.length ckx, .int .i64 x.pos] 28)).alloc (.cells #[.int .i64 y.kind, .int .i64 y.op, .string y.name, .slice a1y y.lit.shape.length c1y, .slice a2y y.lit.cells.length c2y, .slice aky y.kids.length cky, .int .i64 y.pos] 28)).alloc (.cells #[.int .i64 5, .int .i64 0, .string noS, .slice none 0 0, .slice none 0 0, .slice (some ⟨w.heap.size + 1 + 1 + 1, 0, none⟩) 2 2, .int .i64 0] 28)).alloc (.cells #[.int .i64 x.kind, .int .i64 x.op, .string x.name, .slice a1x x.lit.shape.length c1x, .slice a2x x.lit.cells.length c2x, .slice akx x.kids.length ckx, .int .i64 x.pos, .int .i64 y.kind, .int .i64 y.op, .string y.name, .slice a1y y.lit.shape.length c1y, .slice a2y y.lit.cells.length c2y, .slice aky y.kids.length cky, .int .i64 y.pos] 28)) (oneD x y) (.agg #[.int .i64 5, .int .i64 0, .string noS, .slice none 0 0, .slice none 0 0, .slice (some ⟨w.heap.size + 1 + 1 + 1, 0, none⟩) 2 2, .int .i64 0])) := by
    have hsz : (((w.alloc (.cells #[.int .i64 x.kind, .int .i64 x.op, .string x.name, .slice a1x x.lit.shape.length c1x, .slice a2x x.lit.cells.length c2x, .slice akx x.kids.length ckx, .int .i64 x.pos] 28)).alloc (.cells #[.int .i64 y.kind, .int .i64 y.op, .string y.name, .slice a1y y.lit.shape.length c1y, .slice a2y y.lit.cells.length c2y, .slice aky y.kids.length cky, .int .i64 y.pos] 28)).alloc (.cells #[.int .i64 5, .int .i64 0, .string noS, .slice none 0 0, .slice none 0 0, .slice (some ⟨w.heap.size + 1 + 1 + 1, 0, none⟩) 2 2, .int .i64 0] 28)).heap.size = w.heap.size + 1 + 1 + 1 := by simp
    have hk := kids_new2 a1x c1x a2x c2x akx ckx a1y c1y a2y c2y aky cky (hx.next HB.out) (hy.next HB.out) (Nat.zero_le _)
    rw [hsz] at hk
    exact ⟨none, 0, none, 0, _, 2, rfl, noA_in n 0 _, (by show 2 ≤ _; omega), (by show 0 ≤ _; omega), hk⟩
  clear hx hy HB
  generalize x.kind = Kx at *
  generalize x.op = Ox at *
  generalize x.name = Sx at *
  generalize x.pos = Px at *
  generalize x.lit.shape.length = L1x at *
  generalize x.lit.cells.length = L2x at *
  generalize x.kids.length = LKx at *
  generalize y.kind = Ky at *
  generalize y.op = Oy at *
  generalize y.name = Sy at *
  generalize y.pos = Py at *
  generalize y.lit.shape.length = L1y at *
  generalize y.lit.cells.length = L2y at *
  generalize y.kids.length = LKy at *
  go_enter Try.func24, Try.ntmps24
  go_wp2
  exact bodyPost_ret (v := .agg #[.int .i64 5, .int .i64 0, .string noS, .slice none 0 0, .slice none 0 0, .slice (some ⟨w.heap.size + 1 + 1 + 1, 0, none⟩) 2 2, .int .i64 0]) (by simp [results, Try.results24, go_sem, noS]) rfl ⟨⟨_, rfl, HL.out⟩, HB4.out⟩

set_option maxHeartbeats 2000000 in
theorem two26 (m n : Nat) (x y z : Nd) (vx vy vz : Value) (w : World) (hx : NdIn m (n + 1) 0 w x vx) (hy : NdIn m (n + 1) 0 w y vy) (hz : NdIn m (n + 1) 0 w z vz) : Calls Try.prog 26 #[vx, vy, vz] w fun e w' => GivesN (m + 1) (n + 1) (twoD x y z) w e w' := by
  obtain ⟨mx, hmx, a1x, c1x, a2x, c2x, akx, ckx, rfl, -, hlx, hsx, -⟩ := hx.letters
  obtain ⟨my, hmy, a1y, c1y, a2y, c2y, aky, cky, rfl, -, hly, hsy, -⟩ := hy.letters
  obtain ⟨mz, hmz, a1z, c1z, a2z, c2z, akz, ckz, rfl, -, hlz, hsz, -⟩ := hz.letters
  have HB : Hid (Below w.heap.size w ((((w.alloc (.cells #[.int .i64 x.kind, .int .i64 x.op, .string x.name, .slice a1x x.lit.shape.length c1x, .slice a2x x.lit.cells.length c2x, .slice akx x.kids.length ckx, .int .i64 x.pos] 28)).alloc (.cells #[.int .i64 y.kind, .int .i64 y.op, .string y.name, .slice a1y y.lit.shape.length c1y, .slice a2y y.lit.cells.length c2y, .slice aky y.kids.length cky, .int .i64 y.pos] 28)).alloc (.cells #[.int .i64 z.kind, .int .i64 z.op, .string z.name, .slice a1z z.lit.shape.length c1z, .slice a2z z.lit.cells.length c2z, .slice akz z.kids.length ckz, .int .i64 z.pos] 28)).alloc (.cells #[.int .i64 6, .int .i64 0, .string noS, .slice none 0 0, .slice none 0 0, .slice (some ⟨w.heap.size + 1 + 1 + 1 + 1, 0, none⟩) 3 3, .int .i64 0] 28))) := ((((one_alloc w _).alloc (by simp <;> omega) _).alloc (by simp <;> omega) _).alloc (by simp <;> omega) _)
  have HB4 : Hid (Below w.heap.size w (((((w.alloc (.cells #[.int .i64 x.kind, .int .i64 x.op, .string x.name, .slice a1x x.lit.shape.length c1x, .slice a2x x.lit.cells.length c2x, .slice akx x.kids.length ckx, .int .i64 x.pos] 28)).alloc (.cells #[.int .i64 y.kind, .int .i64 y.op, .string y.name, .slice a1y y.lit.shape.length c1y, .slice a2y y.lit.cells.length c2y, .slice aky y.kids.length cky, .int .i64 y.pos] 28)).alloc (.cells #[.int .i64 z.kind, .int .i64 z.op, .string z.name, .slice a1z z.lit.shape.length c1z, .slice a2z z.lit.cells.length c2z, .slice akz z.kids.length ckz, .int .i64 z.pos] 28)).alloc (.cells #[.int .i64 6, .int .i64 0, .string noS, .slice none 0 0, .slice none 0 0, .slice (some ⟨w.heap.size + 1 + 1 + 1 + 1, 0, none⟩) 3 3, .int .i64 0] 28)).alloc (.cells #[.int .i64 x.kind, .int .i64 x.op, .string x.name, .slice a1x x.lit.shape.length c1x, .slice a2x x.lit.cells.length c2x, .slice akx x.kids.length ckx, .int .i64 x.pos, .int .i64 y.kind, .int .i64 y.op, .string y.name, .slice a1y y.lit.shape.length c1y, .slice a2y y.lit.cells.length c2y, .slice aky y.kids.length cky, .int .i64 y.pos, .int .i64 z.kind, .int .i64 z.op, .string z.name, .slice a1z z.lit.shape.length c1z, .slice a2z z.lit.cells.length c2z, .slice akz z.kids.length ckz, .int .i64 z.pos] 28))) := HB.out.alloc (by simp <;> omega) _
  have HL : Hid (NdIn (m + 1) (n + 1) 0 (((((w.alloc (.cells #[.int .i64 x.kind, .int .i64 x.op, .string x.name, .slice a1x x.lit.shape.length c1x, .slice a2x x.lit.cells.length c2x, .slice akx x.kids.length ckx, .int .i64 x.pos] 28)).alloc (.cells #[.int .i64 y.kind, .int .i64 y.op, .string y.name, .slice a1y y.lit.shape.length c1y, .slice a2y y.lit.cells.length c2y, .slice aky y.kids.length cky, .int .i64 y.pos] 28)).alloc (.cells #[.int .i64 z.kind, .int .i64 z.op, .string z.name, .slice a1z z.lit.shape.length c1z, .slice a2z z.lit.cells.length c2z, .slice akz z.kids.length ckz, .int .i64 z.pos] 28)).alloc (.cells #[.int .i64 6, .int .i64 0, .string noS, .slice none 0 0, .slice none 0 0, .slice (some ⟨w.heap.size + 1 + 1 + 1 + 1, 0, none⟩) 3 3, .int .i64 0] 28)).alloc (.cells #[.int .i64 x.kind, .int .i64 x.op, .string x.name, .slice a1x x.lit.shape.length c1x, .slice a2x x.lit.cells.length c2x, .slice akx x.kids.length ckx, .int .i64 x.pos, .int .i64 y.kind, .int .i64 y.op, .string y.name, .slice a1y y.lit.shape.length c1y, .slice a2y y.lit.cells.length c2y, .slice aky y.kids.length cky, .int .i64 y.pos, .int .i64 z.kind, .int .i64 z.op, .string z.name, .slice a1z z.lit.shape.length c1z, .slice a2z z.lit.cells.length c2z, .slice akz z.kids.length ckz, .int .i64 z.pos] 28)) (twoD x y z) (.agg #[.int .i64 6, .int .i64 0, .string noS, .slice none 0 0, .slice none 0 0, .slice (some ⟨w.heap.size + 1 + 1 + 1 + 1, 0, none⟩) 3 3, .int .i64 0])) := by
    have hsz : ((((w.alloc (.cells #[.int .i64 x.kind, .int .i64 x.op, .string x.name, .slice a1x x.lit.shape.length c1x, .slice a2x x.lit.cells.length c2x, .slice akx x.kids.length ckx, .int .i64 x.pos] 28)).alloc (.cells #[.int .i64 y.kind, .int .i64 y.op, .string y.name, .slice a1y y.lit.shape.length c1y, .slice a2y y.lit.cells.length c2y, .slice aky y.kids.length cky, .int .i64 y.pos] 28)).alloc (.cells #[.int .i64 z.kind, .int .i64 z.op, .string z.name, .slice a1z z.lit.shape.length c1z, .slice a2z z.lit.cells.length c2z, .slice akz z.kids.length ckz, .int .i64 z.pos] 28)).alloc (.cells #[.int .i64 6, .int .i64 0, .string noS, .slice none 0 0, .slice none 0 0, .slice (some ⟨w.heap.size + 1 + 1 + 1 + 1, 0, none⟩) 3 3, .int .i64 0] 28)).heap.size = w.heap.size + 1 + 1 + 1 + 1 := by simp
    have hk := kids_new3 a1x c1x a2x c2x akx ckx a1y c1y a2y c2y aky cky a1z c1z a2z c2z akz ckz (hx.next HB.out) (hy.next HB.out) (hz.next HB.out) (Nat.zero_le _)
    rw [hsz] at hk
    exact ⟨none, 0, none, 0, _, 3, rfl, noA_in n 0 _, (by show 3 ≤ _; omega), (by show 0 ≤ _; omega), hk⟩
  clear hx hy hz HB
  generalize x.kind = Kx at *
  generalize x.op = Ox at *
  generalize x.name = Sx at *
  generalize x.pos = Px at *
  generalize x.lit.shape.length = L1x at *
  generalize x.lit.cells.length = L2x at *
  generalize x.kids.length = LKx at *
  generalize y.kind = Ky at *
  generalize y.op = Oy at *
  generalize y.name = Sy at *
  generalize y.pos = Py at *
  generalize y.lit.shape.length = L1y at *
  generalize y.lit.cells.length = L2y at *
  generalize y.kids.length = LKy at *
  generalize z.kind = Kz at *
  generalize z.op = Oz at *
  generalize z.name = Sz at *
  generalize z.pos = Pz at *
  generalize z.lit.shape.length = L1z at *
  generalize z.lit.cells.length = L2z at *
  generalize z.kids.length = LKz at *
  go_enter Try.func26, Try.ntmps26
  go_wp2
  exact bodyPost_ret (v := .agg #[.int .i64 6, .int .i64 0, .string noS, .slice none 0 0, .slice none 0 0, .slice (some ⟨w.heap.size + 1 + 1 + 1 + 1, 0, none⟩) 3 3, .int .i64 0]) (by simp [results, Try.results26, go_sem, noS]) rfl ⟨⟨_, rfl, HL.out⟩, HB4.out⟩

set_option maxHeartbeats 2000000 in
theorem with27 (m n : Nat) (k : Int) (x : Nd) (vx : Value) (w : World) (hx : NdIn m (n + 1) 0 w x vx) : Calls Try.prog 27 #[.int .i64 k, vx] w fun e w' => GivesN (m + 1) (n + 1) (withD k x) w e w' := by
  obtain ⟨mx, hmx, a1x, c1x, a2x, c2x, akx, ckx, rfl, -, hlx, hsx, -⟩ := hx.letters
  have HB : Hid (Below w.heap.size w ((w.alloc (.cells #[.int .i64 x.kind, .int .i64 x.op, .string x.name, .slice a1x x.lit.shape.length c1x, .slice a2x x.lit.cells.length c2x, .slice akx x.kids.length ckx, .int .i64 x.pos] 28)).alloc (.cells #[.int .i64 k, .int .i64 0, .string noS, .slice none 0 0, .slice none 0 0, .slice (some ⟨w.heap.size + 1 + 1, 0, none⟩) 1 1, .int .i64 0] 28))) := ((one_alloc w _).alloc (by simp <;> omega) _)
  have HB4 : Hid (Below w.heap.size w (((w.alloc (.cells #[.int .i64 x.kind, .int .i64 x.op, .string x.name, .slice a1x x.lit.shape.length c1x, .slice a2x x.lit.cells.length c2x, .slice akx x.kids.length ckx, .int .i64 x.pos] 28)).alloc (.cells #[.int .i64 k, .int .i64 0, .string noS, .slice none 0 0, .slice none 0 0, .slice (some ⟨w.heap.size + 1 + 1, 0, none⟩) 1 1, .int .i64 0] 28)).alloc (.cells #[.int .i64 x.kind, .int .i64 x.op, .string x.name, .slice a1x x.lit.shape.length c1x, .slice a2x x.lit.cells.length c2x, .slice akx x.kids.length ckx, .int .i64 x.pos] 28))) := HB.out.alloc (by simp <;> omega) _
  have HL : Hid (NdIn (m + 1) (n + 1) 0 (((w.alloc (.cells #[.int .i64 x.kind, .int .i64 x.op, .string x.name, .slice a1x x.lit.shape.length c1x, .slice a2x x.lit.cells.length c2x, .slice akx x.kids.length ckx, .int .i64 x.pos] 28)).alloc (.cells #[.int .i64 k, .int .i64 0, .string noS, .slice none 0 0, .slice none 0 0, .slice (some ⟨w.heap.size + 1 + 1, 0, none⟩) 1 1, .int .i64 0] 28)).alloc (.cells #[.int .i64 x.kind, .int .i64 x.op, .string x.name, .slice a1x x.lit.shape.length c1x, .slice a2x x.lit.cells.length c2x, .slice akx x.kids.length ckx, .int .i64 x.pos] 28)) (withD k x) (.agg #[.int .i64 k, .int .i64 0, .string noS, .slice none 0 0, .slice none 0 0, .slice (some ⟨w.heap.size + 1 + 1, 0, none⟩) 1 1, .int .i64 0])) := by
    have hsz : ((w.alloc (.cells #[.int .i64 x.kind, .int .i64 x.op, .string x.name, .slice a1x x.lit.shape.length c1x, .slice a2x x.lit.cells.length c2x, .slice akx x.kids.length ckx, .int .i64 x.pos] 28)).alloc (.cells #[.int .i64 k, .int .i64 0, .string noS, .slice none 0 0, .slice none 0 0, .slice (some ⟨w.heap.size + 1 + 1, 0, none⟩) 1 1, .int .i64 0] 28)).heap.size = w.heap.size + 1 + 1 := by simp
    have hk := kids_new1 a1x c1x a2x c2x akx ckx (hx.next HB.out) (Nat.zero_le _)
    rw [hsz] at hk
    exact ⟨none, 0, none, 0, _, 1, rfl, noA_in n 0 _, (by show 1 ≤ _; omega), (by show 0 ≤ _; omega), hk⟩
  clear hx HB
  generalize x.kind = Kx at *
  generalize x.op = Ox at *
  generalize x.name = Sx at *
  generalize x.pos = Px at *
  generalize x.lit.shape.length = L1x at *
  generalize x.lit.cells.length = L2x at *
  generalize x.kids.length = LKx at *
  go_enter Try.func27, Try.ntmps27
  go_wp2
  exact bodyPost_ret (v := .agg #[.int .i64 k, .int .i64 0, .string noS, .slice none 0 0, .slice none 0 0, .slice (some ⟨w.heap.size + 1 + 1, 0, none⟩) 1 1, .int .i64 0]) (by simp [results, Try.results27, go_sem, noS]) rfl ⟨⟨_, rfl, HL.out⟩, HB4.out⟩
end Go.Proofs.Ytkgpoibnilgaeaa
