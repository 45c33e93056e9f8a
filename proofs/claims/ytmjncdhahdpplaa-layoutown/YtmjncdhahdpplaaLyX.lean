/-
  The contracts of the document's Tally, back and Numbers of layer 5.
-/
import Derived.Test.YtmjncdhahdpplaaLyV
import Derived.BigFrame
namespace Go.Proofs.Ytmjncdhahdpplaa
open Go.ChangeShapes Go.WideShapes Go.ChangeAt Go.RowKit
set_option linter.unusedVariables false
set_option maxRecDepth 100000
theorem wpList_append_B {P : Program} {w : World} {ops : Array Oper} {rest : List Oper} {o : Oper} {a : Act} {Q : Exit → Act → World → Prop} (hgd : o.guard = none) (s x : Operand) (t : TypeId)
    (ho : o.op = .call { callee := .builtin .append, args := #[s, x], argTypes := #[t, t] })
    (base : Nat) (e : TypeId) (i : TypeInfo) (z : Value) (size bytes : Nat) (ht : P.underlying t = some (.slice e)) (hi : P.info? e = some i) (hz : i.zero = some z)
    (hsize : i.size = size) (hby : i.bytes = bytes) (hzs : z.cells.size = size) (hsz : 0 < size)
    (v : Value) (n : Nat) (xs : List Value) (hs : a.eval s = v) (hown : w.ownsRow base e size v n xs)
    (ad : Addr) (m c : Nat) (news : List Value) (hx : a.eval x = .slice (some ad) m c) (hl : news.length = m * size) (hnews : ∀ j u, news[j]? = some u → w.cell? (ad.add j) = some u) (h1 : ∀ u ∈ news, u.oneCell' = true)
    (h63 : n + m ≤ maxLen) (hbytes : (n + m) * bytes ≤ 140737488355328) (hbase : base ≤ w.heap.size)
    (h : ∀ v' w', w'.ownsRow base e size v' (n + m) (xs ++ news) → Below base w w' → wpList P ops Q rest (a.put o.dst v') w') : wpList P ops Q (o :: rest) a w :=
  wpList_append_own w hgd s x t ho base e i z size bytes ht hi hz hsize hby hzs hsz v n xs hs hown ad m c news hx hl hnews h1 h63 hbytes hbase fun v' w' h2 h3 _ => h v' w' h2 ((Below.refl _ _).grown h3 hbase (fun q hq => (hown.lt q hq).1))
theorem rtally_any {n lo : Nat} {x : Ar} {va : Value} {w : World} (hx : ArIn (n + 1) lo w x va) : Calls Try.prog 40 #[va] w fun e w' => e = .returned (.int .i64 (tallyN x)) ∧ Below w.heap.size w w' := by
  obtain ⟨a1, c1, a2, c2, rfl, R, -⟩ := hx.form
  have hb0 := one_alloc w (.cells #[.slice a1 x.shape.length c1, .slice a2 x.cells.length c2] 25)
  have q0 := cell_new0 w #[.slice a1 x.shape.length c1, .slice a2 x.cells.length c2] 25 0 _ rfl
  have hl := R.1
  by_cases h0 : x.shape.length = 0
  · have HT : Hid (tallyN x = 1) := by unfold tallyN Hid; rw [if_pos h0]
    have HB := hide hb0
    rw [h0] at q0 ⊢
    clear R hb0 h0
    generalize x.cells.length = CA at *
    go_enter Try.func40, Try.ntmps40
    go_wp2
    go_ret
    exact ⟨by rw [HT.out]; rfl, (one_alloc _ _)⟩
  · obtain ⟨b, off, rfl, hb, hc⟩ := row_at R (j := 0) (by omega)
    have HT : Hid (tallyN x = gI x.shape 0) := by unfold tallyN Hid; rw [if_neg h0]
    have hc1 := (hb0.cell (p := ⟨b, off + 0, none⟩) hb).trans hc
    simp only [Nat.add_zero] at hc1
    have e : x.shape[0]?.getD 0 = gI x.shape 0 := rfl
    rw [e] at hc1
    generalize gI x.shape 0 = z at *
    clear R hb0 hc e
    generalize x.shape.length = SA at *
    generalize x.cells.length = CA at *
    go_enter Try.func40, Try.ntmps40
    go_wp2
    go_ret
    exact ⟨by rw [HT.out]; rfl, (one_alloc _ _)⟩
theorem owns_form1' {w : World} {base n : Nat} {e : TypeId} {v : Value} {xs : List Value} (h : w.ownsRow base e 1 v n xs) (hn : 0 < n) : ∃ g cap, v = .slice (some ⟨g, 0, none⟩) n cap ∧ base ≤ g ∧ g < w.heap.size := by
  rcases h.2 with ⟨rfl, h0⟩ | ⟨g, cap, cur, rfl, hb, hg, -⟩
  · omega
  · exact ⟨g, cap, rfl, hb, lt_of_block hg⟩
/-- A row of numbers, of whatever kind, that append has put together. -/
theorem owns_rowE {w : World} {base : Nat} {e : TypeId} {v : Value} (l : List Int) (hl : l.length ≤ 140737488355328) (h : w.ownsRow base e 1 v l.length (l.map (Value.int .i64))) : ∃ a cap, v = .slice a l.length cap ∧ Row base w a l := by
  have h' := h
  obtain ⟨h1, h2⟩ := h'
  rcases h2 with ⟨rfl, h2⟩ | ⟨g, cap, cur, rfl, hb, hg, -⟩
  · have e : l = [] := List.eq_nil_of_length_eq_zero h2
    subst e
    exact ⟨none, 0, rfl, row_nil _ _ _⟩
  · refine ⟨_, cap, rfl, hl, Or.inr ⟨g, 0, rfl, hb, lt_of_block hg, fun i hi => ?_⟩⟩
    rw [Nat.zero_add, h.cellAt i (by omega)]
    simp [hi]
theorem info2' : ∃ i, Try.prog.info? 2 = some i ∧ i.zero = some (.int .i64 0) ∧ i.size = 1 ∧ i.bytes = 8 := by
  obtain ⟨i, hi, hzz⟩ := Option.map_eq_some_iff.1 int2
  simp only [Prod.mk.injEq] at hzz
  exact ⟨i, hi, hzz.1, hzz.2.1, hzz.2.2⟩
theorem rev_take_step (l : List Int) (k : Nat) (hk : k < l.length) : l.reverse.take (k + 1) = l.reverse.take k ++ [gI l (l.length - 1 - k)] := by
  have hk' : k < l.reverse.length := by simpa using hk
  rw [List.take_succ_eq_append_getElem hk']
  congr 1
  have := gI_rev l k hk
  unfold gI at this
  rw [List.getElem?_eq_getElem hk'] at this
  simpa [gI] using this
set_option maxHeartbeats 2000000 in
theorem rback_any {lo : Nat} (l : List Int) (a : Option Addr) (cap : Nat) (w : World) (R : Row lo w a l) (hl : l.length ≤ 8) :
    Calls Try.prog 42 #[.slice a l.length cap] w fun e w' => (∃ a' cap', e = .returned (.slice a' l.length cap') ∧ Row w.heap.size w' a' l.reverse) ∧ Below w.heap.size w w' := by
  have HR : Hid (∀ j, j < l.length → ∃ b off, a = some ⟨b, off, none⟩ ∧ b < w.heap.size ∧ w.cell? ⟨b, off + j, none⟩ = some (.int .i64 (gI l j))) := fun j h => row_at R h
  obtain ⟨i3, hi3, hz30, hz31, hz32⟩ := infoI3
  clear R
  go_enter Try.func42, Try.ntmps42
  go_wp2
  go_loopg [3, 4] l.length (fun g mv i wr => ∃ k : Nat, g + k = l.length ∧ i = .int .i64 ((l.length : Int) - 1 - k) ∧ Below w.heap.size w wr ∧ wr.ownsRow w.heap.size 3 1 mv k ((l.reverse.take k).map (Value.int .i64)))
  case atStart => exact ⟨0, rfl, by go_num, Below.refl _ _, World.ownsRow_nil _ _ _ _⟩
  case round =>
    obtain ⟨k, hg, rfl, hnx, hown⟩ := hrel
    by_cases hlt : k < l.length
    · obtain ⟨b, off, rfl, hb, hck⟩ := HR.out (l.length - 1 - k) (by omega)
      obtain ⟨p, hp⟩ : ∃ p, l.length - 1 - k = p := ⟨_, rfl⟩
      have ep : (l.length : Int) - 1 - k = (p : Int) := by omega
      rw [ep]
      rw [hp] at hck
      have hpl : p < l.length := by omega
      have hc1 : wr.cell? ⟨b, off + p, none⟩ = some (.int .i64 (gI l p)) := (hnx.cell (p := ⟨b, off + p, none⟩) hb).trans hck
      have HST : Hid ((l.reverse.take (k + 1)).map (Value.int .i64) = (l.reverse.take k).map (Value.int .i64) ++ [.int .i64 (gI l p)]) := by unfold Hid; rw [rev_take_step l k hlt, hp, List.map_append]; rfl
      generalize gI l p = z at *
      have HEP : Hid ((l.length : Int) - 1 - k = (p : Int)) := ep
      have OWN := hown.alloc (.cells #[.int .i64 z] 3)
      have HNW : Hid (∀ i u, [Value.int .i64 z][i]? = some u → (wr.alloc (.cells #[.int .i64 z] 3)).cell? ((⟨wr.heap.size, 0, none⟩ : Addr).add i) = some u) := by
        intro i u hu
        rw [add_off, Nat.zero_add]
        exact cell_new0 wr _ 3 i u (by simpa using hu)
      have HZ : Hid (w.heap.size ≤ (wr.alloc (.cells #[.int .i64 z] 3)).heap.size) := Nat.le_trans hnx.size (one_alloc _ _).size
      have HNX := hide (hnx.trans ((one_alloc wr (.cells #[.int .i64 z] 3)).mono hnx.size))
      clear hown hck hp ep HR
      go_wp2_with (at_builtin; refine wpList_append_B rfl _ _ 22 rfl w.heap.size 3 i3 (.int .i64 0) 1 8 Try.underlying22 hi3 hz30 hz31 hz32 rfl (by decide) _ _ _ rfl OWN ⟨wr.heap.size, 0, none⟩ 1 1 [.int .i64 z] rfl rfl HNW.out ?c2 ?c3 ?c4 HZ.out ?_)
      case c2 =>
        intro u hu
        simp at hu
        subst hu
        rfl
      case c3 => unfold maxLen; omega
      case c4 => omega
      intro v' w1 hown1 hb1
      have hown2 : w1.ownsRow w.heap.size 3 1 v' (k + 1) ((l.reverse.take (k + 1)).map (Value.int .i64)) := by rw [HST.out]; simpa using hown1
      have HF := hide (And.intro (HNX.out.trans hb1) hown2)
      clear hown1 hown2 hb1 OWN HNW HZ HNX HST hc1
      go_wp2
      go_roundg (l.length - (k + 1))
      case rel => exact ⟨k + 1, by omega, by have := HEP.out; go_num, HF.out⟩
      case measure => omega
    · have hke : k = l.length := by omega
      subst hke
      have hlr : l.length = l.reverse.length := by simp
      rw [List.take_of_length_le (by simp), hlr] at hown
      obtain ⟨a', cap', rfl, RR⟩ := owns_rowE l.reverse (by rw [List.length_reverse]; omega) hown
      rw [← hlr] at *
      have HF := hide (And.intro RR hnx)
      clear hown RR hnx HR hlr
      go_wp2
      go_ret
      exact ⟨⟨a', cap', rfl, HF.out.1⟩, HF.out.2⟩
set_option maxHeartbeats 2000000 in
theorem rnumbers_any {lo : Nat} (n : Nat) (l : List Int) (a : Option Addr) (cap : Nat) (w : World) (R : Row lo w a l) (hl : l.length ≤ 8) :
    Calls Try.prog 39 #[.slice a l.length cap] w fun e w' => GivesA (n + 1) (numsA l) w e w' := by
  have HR : Hid (∀ j, j < l.length → ∃ b off, a = some ⟨b, off, none⟩ ∧ b < w.heap.size ∧ w.cell? ⟨b, off + j, none⟩ = some (.int .i64 (gI l j))) := fun j h => row_at R h
  obtain ⟨i2, hi2, hz20, hz21, hz22⟩ := info2'
  obtain ⟨W1, e1⟩ : ∃ W1, w.alloc (.cells #[.slice none 0 0, .slice none 0 0] 25) = W1 := ⟨_, rfl⟩
  have s1 : W1.heap.size = w.heap.size + 1 := by rw [← e1]; simp
  have B1 : Below w.heap.size w W1 := by rw [← e1]; exact one_alloc _ _
  have p0 : W1.cell? ⟨w.heap.size, 0, none⟩ = some (.slice none 0 0) := by rw [← e1]; exact cell_new0 w _ 25 0 _ rfl
  have p1 : W1.cell? ⟨w.heap.size, 1, none⟩ = some (.slice none 0 0) := by rw [← e1]; exact cell_new0 w _ 25 1 _ rfl
  have pf : ∀ i, W1.frozen? ⟨w.heap.size, i, none⟩ = false := by intro i; rw [← e1]; exact frozen_new w _ 25 i
  have HP := hide (And.intro s1 (And.intro B1 (And.intro p0 (And.intro p1 pf))))
  clear R s1 B1 p0 p1 pf
  go_enter Try.func39, Try.ntmps39
  go_wp2
  clear e1
  go_loopg [3, 4] l.length (fun g mv i wr => ∃ k : Nat, g + k = l.length ∧ i = .int .i64 (k : Int) ∧ Below W1.heap.size W1 wr ∧ wr.ownsRow W1.heap.size 2 1 mv k ((l.take k).map (Value.int .i64)))
  case atStart => exact ⟨0, rfl, rfl, Below.refl _ _, World.ownsRow_nil _ _ _ _⟩
  case round =>
    obtain ⟨k, hg, rfl, hnx, hown⟩ := hrel
    have hs1 := HP.out.1
    by_cases hlt : k < l.length
    · obtain ⟨b, off, rfl, hb, hck⟩ := HR.out k hlt
      have hc1 : wr.cell? ⟨b, off + k, none⟩ = some (.int .i64 (gI l k)) := (hnx.cell (p := ⟨b, off + k, none⟩) (by show b < _; omega)).trans ((HP.out.2.1.cell (p := ⟨b, off + k, none⟩) hb).trans hck)
      have HST := hide (take_map_step l k hlt)
      generalize gI l k = z at *
      have OWN := hown.alloc (.cells #[.int .i64 z] 2)
      have HNW : Hid (∀ i u, [Value.int .i64 z][i]? = some u → (wr.alloc (.cells #[.int .i64 z] 2)).cell? ((⟨wr.heap.size, 0, none⟩ : Addr).add i) = some u) := by
        intro i u hu
        rw [add_off, Nat.zero_add]
        exact cell_new0 wr _ 2 i u (by simpa using hu)
      have HZ : Hid (W1.heap.size ≤ (wr.alloc (.cells #[.int .i64 z] 2)).heap.size) := Nat.le_trans hnx.size (one_alloc _ _).size
      have HNX := hide (hnx.trans ((one_alloc wr (.cells #[.int .i64 z] 2)).mono hnx.size))
      clear hown hck HR hs1
      go_wp2_with (at_builtin; refine wpList_append_B rfl _ _ 47 rfl W1.heap.size 2 i2 (.int .i64 0) 1 8 Try.underlying47 hi2 hz20 hz21 hz22 rfl (by decide) _ _ _ rfl OWN ⟨wr.heap.size, 0, none⟩ 1 1 [.int .i64 z] rfl rfl HNW.out ?c2 ?c3 ?c4 HZ.out ?_)
      case c2 =>
        intro u hu
        simp at hu
        subst hu
        rfl
      case c3 => unfold maxLen; omega
      case c4 => omega
      intro v' w1 hown1 hb1
      have hown2 : w1.ownsRow W1.heap.size 2 1 v' (k + 1) ((l.take (k + 1)).map (Value.int .i64)) := by rw [HST.out]; simpa using hown1
      have HF := hide (And.intro (HNX.out.trans hb1) hown2)
      clear hown1 hown2 hb1 OWN HNW HZ HNX HST hc1
      go_wp2
      go_roundg (l.length - (k + 1))
      case rel => exact ⟨k + 1, by omega, by go_num, HF.out⟩
      case measure => omega
    · have hke : k = l.length := by omega
      subst hke
      rw [List.take_length] at hown
      obtain ⟨a', cap', rfl, RR⟩ := owns_rowE l (by omega) hown
      have C := rnums_any n l a' cap' wr RR (by omega)
      have hlt2 : w.heap.size + 1 ≤ wr.heap.size := by have := hnx.size; omega
      have HN := hide hnx
      clear hown hnx HR hs1 RR
      go_wp2_with fail
      refine C.mono ?_
      rintro e w1 ⟨⟨v, rfl, hv⟩, hb1⟩
      obtain ⟨a1, c1, a2, c2, rfl, -, -⟩ := hv.form
      have hs1 := HP.out.1
      have hnx := HN.out.trans (hb1.mono HN.out.size)
      have t0 := (hnx.cell (p := ⟨w.heap.size, 0, none⟩) (by show w.heap.size < _; omega)).trans HP.out.2.2.1
      have t1 := (hnx.cell (p := ⟨w.heap.size, 1, none⟩) (by show w.heap.size < _; omega)).trans HP.out.2.2.2.1
      have f0 := (hnx.frozen (p := ⟨w.heap.size, 0, none⟩) (by show w.heap.size < _; omega)).trans (HP.out.2.2.2.2 0)
      have f1 := (hnx.frozen (p := ⟨w.heap.size, 1, none⟩) (by show w.heap.size < _; omega)).trans (HP.out.2.2.2.2 1)
      have HT := hide (set_two t0 t1 (.slice a1 (numsA l).shape.length c1) (.slice a2 (numsA l).cells.length c2))
      have HF : Hid (∀ x y, GivesA (n + 1) (numsA l) w (.returned (.agg #[.slice a1 (numsA l).shape.length c1, .slice a2 (numsA l).cells.length c2])) ((w1.setCell ⟨w.heap.size, 0, none⟩ x).setCell ⟨w.heap.size, 1, none⟩ y)) := by
        intro x y
        have hk : Keeps (w.heap.size + 1) w1 ((w1.setCell ⟨w.heap.size, 0, none⟩ x).setCell ⟨w.heap.size, 1, none⟩ y) := ((Keeps.refl _ _).setCell (p := ⟨w.heap.size, 0, none⟩) (by show w.heap.size < _; omega) x).setCell (p := ⟨w.heap.size, 1, none⟩) (by show w.heap.size < _; omega) y
        refine ⟨⟨_, rfl, ((hv.mono hlt2 (Below.refl _ _)).keeps hk).mono (by omega) (Below.refl _ _)⟩, ?_⟩
        exact ((HP.out.2.1.trans (hnx.mono (by omega))).setCell (p := ⟨w.heap.size, 0, none⟩) (Nat.le_refl _) _).setCell (p := ⟨w.heap.size, 1, none⟩) (Nat.le_refl _) _
      clear hnx hb1 hv C HN hlt2 HP hs1
      generalize (numsA l).shape.length = SA at *
      generalize (numsA l).cells.length = CA at *
      go_wp2
      exact bodyPost_ret (v := .agg #[.slice a1 SA c1, .slice a2 CA c2]) (by simp [results, Try.results39, go_sem, HT.out.1, HT.out.2]) rfl (HF.out _ _)
end Go.Proofs.Ytmjncdhahdpplaa
