/-
  The contract of the document's boxes of layer 5, function by function.
-/
import Derived.Test.YtmjncdhahdpplaaPkB
namespace Go.Proofs.Ytmjncdhahdpplaa
open Go.ChangeShapes Go.WideShapes Go.ChangeAt Go.RowKit
set_option linter.unusedVariables false
set_option maxRecDepth 100000
/-- append of whatever row behind a row of the call's own: no other block changes. -/
theorem wpList_append_G {P : Program} {w : World} {ops : Array Oper} {rest : List Oper} {o : Oper} {a : Act} {Q : Exit → Act → World → Prop} (hgd : o.guard = none) (s x : Operand) (t : TypeId)
    (ho : o.op = .call { callee := .builtin .append, args := #[s, x], argTypes := #[t, t] })
    (base : Nat) (e : TypeId) (i : TypeInfo) (z : Value) (size bytes : Nat) (ht : P.underlying t = some (.slice e)) (hi : P.info? e = some i) (hz : i.zero = some z)
    (hsize : i.size = size) (hby : i.bytes = bytes) (hzs : z.cells.size = size) (hsz : 0 < size)
    (v : Value) (n : Nat) (xs : List Value) (hs : a.eval s = v) (hown : w.ownsRow base e size v n xs)
    (ad : Option Addr) (m c : Nat) (news : List Value) (hx : a.eval x = .slice ad m c) (hl : news.length = m * size) (hnews : Lies w ad news)
    (h63 : n + m ≤ maxLen) (hbytes : (n + m) * bytes ≤ 140737488355328) (hbase : base ≤ w.heap.size)
    (h : ∀ v' w', w'.ownsRow base e size v' (n + m) (xs ++ news) → w.grownBy w' v.ownBlock → wpList P ops Q rest (a.put o.dst v') w') : wpList P ops Q (o :: rest) a w := by
  cases ad with
  | none =>
    have hn : news = [] := by
      rcases hnews.1 with h | ⟨p, hp, -⟩
      · exact h
      · cases hp
    subst hn
    have hm : m = 0 := by
      rcases Nat.eq_zero_or_pos m with h | h
      · exact h
      · have := Nat.mul_pos h hsz; simp at hl; omega
    subst hm
    exact wpList_append_run (by simp [Region.wanted, hgd]) s x t t ho _ _ hs hx v w (run_append_none_any base t o.type e i size ht hi v n c xs hown) (h v w (by simpa using hown) (World.grownBy.refl _ _))
  | some p =>
    have hc : ∀ j u, news[j]? = some u → w.cell? (p.add j) = some u := by
      rcases hnews.1 with h | ⟨q, hq, -, h⟩
      · subst h; intro j u hj; simp at hj
      · cases hq; exact h
    obtain ⟨v', w', hr, h2, h3, -⟩ := run_append_own (P := P) w base t o.type e i z size bytes ht hi hz hsize hby hzs hsz v n xs hown p m c news hl hc hnews.2 h63 hbytes hbase
    exact wpList_append_run (by simp [Region.wanted, hgd]) s x t t ho _ _ hs hx v' w' hr (h v' w' h2 h3)
/-- A store into a block of another type leaves a row as it is. -/
theorem owns_apart {e t : TypeId} {size n base k i : Nat} {w : World} {v : Value} {xs : List Value} {cs : Array Value} {f : Nat × Nat} (h : w.ownsRow base e size v n xs) (hk : w.heap[k]? = some (.cells cs t f)) (hne : t ≠ e) (u : Value) : (w.setCell ⟨k, i, none⟩ u).ownsRow base e size v n xs := by
  obtain ⟨h1, h2⟩ := h
  refine ⟨h1, ?_⟩
  rcases h2 with ⟨rfl, h2⟩ | ⟨g, cap, cur, rfl, hbg, hg, hn, hm, hs, ht⟩
  · exact Or.inl ⟨rfl, h2⟩
  · have hgk : g ≠ k := by
      intro e'
      rw [e', hk] at hg
      simp only [Option.some.injEq, Obj.cells.injEq] at hg
      exact hne hg.2.1
    exact Or.inr ⟨g, cap, cur, rfl, hbg, by rw [Below.heap_setCell _ _ _ _ (by show g ≠ k; exact hgk)]; exact hg, hn, hm, hs, ht⟩
theorem keeps_two (W : World) (s : Nat) (u v : Value) : Keeps (s + 2) W ((W.setCell ⟨s + 1, 0, none⟩ u).setCell ⟨s + 1, 1, none⟩ v) := ((Keeps.refl _ _).setCell (p := ⟨s + 1, 0, none⟩) (by show s + 1 < _; omega) u).setCell (p := ⟨s + 1, 1, none⟩) (by show s + 1 < _; omega) v
set_option maxHeartbeats 4000000 in
theorem rbox15 {n lo : Nat} {x : Ar} {va : Value} {w0 w : World} (hx : ArIn (n + 1) lo w0 x va) (hb0 : Below w0.heap.size w0 w) (hchk : chkA 8 x = 0) : Calls Try.prog 43 #[.int .i64 15, va] w fun e w' => Gives2Z (n + 2) w0 (enclR (n + 1) x).1 (enclR (n + 1) x).2 w e w' := by
  obtain ⟨a1, c1, a2, c2, rfl, R, hc⟩ := hx.form
  have I := in2_new w (.slice a1 x.shape.length c1) (.slice a2 x.cells.length c2)
  obtain ⟨W2, e2⟩ : ∃ W2, (w.alloc (.cells #[.slice a1 x.shape.length c1, .slice a2 x.cells.length c2] 25)).alloc (.cells #[.slice none 0 0, .slice none 0 0] 25) = W2 := ⟨_, rfl⟩
  have hz2 : W2.heap.size = w.heap.size + 2 := by rw [← e2]; simp
  rw [e2] at I
  have q0 := I.q0
  have q1 := I.q1
  have CD := rdeep_any (n + 1) 16 x _ _ W2 (by omega) (chk_thin16 hchk) (hx.next (hb0.trans (I.bel.mono hb0.size)))
  have HI := hide I
  have HX := hide hx
  have HE : Hid (enclR (n + 1) x = if 8 ≤ deepA (n + 1) x then (zeroA, 15) else (.mk [] [(2, 0, [x])], 0)) := rfl
  obtain ⟨SA, hSA⟩ : ∃ SA, x.shape.length = SA := ⟨_, rfl⟩
  obtain ⟨CA, hCA⟩ : ∃ CA, x.cells.length = CA := ⟨_, rfl⟩
  simp only [hSA, hCA] at CD e2 q0 q1 HI HX ⊢
  generalize deepA (n + 1) x = D at *
  clear R hc I hx hchk hSA hCA
  go_enter Try.func43, Try.ntmps43
  go_wp2_with fail
  clear e2 q0 q1
  refine CD.mono ?_
  rintro e w1 ⟨rfl, hb1⟩
  have I1 := HI.out.next hb1
  have q0 := I1.q0
  have q1 := I1.q1
  have HI1 := hide I1
  by_cases h8 : 8 ≤ D
  · have p0 := I1.p0
    have p1 := I1.p1
    have f0 := I1.f0
    have f1 := I1.f1
    have HT := hide (I1.put (.slice none 0 0) (.slice none 0 0))
    have HE5 : Hid (enclR (n + 1) x = (zeroA, 15)) := by unfold Hid; rw [HE.out, if_pos h8]
    clear I1 hb1 CD HI HX HE q0 q1
    go_wp2
    exact bodyPost_ret (v := .tuple #[.agg #[.slice none 0 0, .slice none 0 0], .int .i64 15]) (by simp [results, Try.results43, go_sem, HT.out.1, HT.out.2]) rfl (gives2z_of HE5.out (fun _ _ _ => zeroA_in _ _ _) (HI1.out.fin _ _))
  · have HE5 : Hid (enclR (n + 1) x = (.mk [] [(2, 0, [x])], 0)) := by unfold Hid; rw [HE.out, if_neg h8]
    obtain ⟨W3, e3⟩ : ∃ W3, w1.alloc (.cells #[.slice a1 SA c1, .slice a2 CA c2] 25) = W3 := ⟨_, rfl⟩
    obtain ⟨W4, e4⟩ : ∃ W4, W3.alloc (.cells #[.int .i64 2, .int .i64 0, .slice (some ⟨w1.heap.size, 0, none⟩) 1 1] 36) = W4 := ⟨_, rfl⟩
    have B3 : Below w1.heap.size w1 W3 := by rw [← e3]; exact one_alloc _ _
    have z3 : W3.heap.size = w1.heap.size + 1 := by rw [← e3]; simp
    have B4 : Below W3.heap.size W3 W4 := by rw [← e4]; exact one_alloc _ _
    have z4 : W4.heap.size = w1.heap.size + 2 := by rw [← e4]; simp [z3]
    have B24 : Below w1.heap.size w1 W4 := B3.trans (B4.mono (by omega))
    have o0 : W3.cell? ⟨w1.heap.size, 0, none⟩ = some (.slice a1 SA c1) := by rw [← e3]; exact cell_new0 w1 _ 25 0 _ rfl
    have o1 : W3.cell? ⟨w1.heap.size, 1, none⟩ = some (.slice a2 CA c2) := by rw [← e3]; exact cell_new0 w1 _ 25 1 _ rfl
    have v0 : W4.cell? ⟨w1.heap.size + 1, 0, none⟩ = some (.int .i64 2) := by rw [← z3, ← e4]; exact cell_new0 W3 _ 36 0 _ rfl
    have v1 : W4.cell? ⟨w1.heap.size + 1, 1, none⟩ = some (.int .i64 0) := by rw [← z3, ← e4]; exact cell_new0 W3 _ 36 1 _ rfl
    have v2 : W4.cell? ⟨w1.heap.size + 1, 2, none⟩ = some (.slice (some ⟨w1.heap.size, 0, none⟩) 1 1) := by rw [← z3, ← e4]; exact cell_new0 W3 _ 36 2 _ rfl
    have n0 := (B4.cell (p := ⟨w1.heap.size, 0, none⟩) (by show w1.heap.size < _; omega)).trans o0
    have n1 := (B4.cell (p := ⟨w1.heap.size, 1, none⟩) (by show w1.heap.size < _; omega)).trans o1
    have I4 := I1.next B24
    have hs1 := I1.size
    have HF : Hid (∀ u v W, Below w0.heap.size w0 W → Keeps w.heap.size ((W4.setCell ⟨w.heap.size + 1, 0, none⟩ u).setCell ⟨w.heap.size + 1, 1, none⟩ v) W → ArIn (n + 2) 0 W (.mk [] [(2, 0, [x])]) (.agg #[.slice none 0 0, .slice (some ⟨w1.heap.size + 1, 0, none⟩) 1 1])) := by
      intro u v W hW hK
      have K := (keeps_two W4 w.heap.size u v).trans (hK.mono (show w.heap.size ≤ w.heap.size + 2 by omega))
      have hk := K.1
      have ap : ∀ (g o : Nat) (q : Value), w.heap.size + 2 ≤ g → g < W4.heap.size → W4.cell? ⟨g, o, none⟩ = some q → W.cell? ⟨g, o, none⟩ = some q := fun g o q h1 h2 h => (K.cell (p := ⟨g, o, none⟩) h1 h2).trans h
      exact box_in (hx := (HX.out.mono (Nat.zero_le _) hW)) (Nat.zero_le _) (Nat.zero_le _) (by omega) (by omega) (ap _ _ _ (by omega) (by omega) n0) (ap _ _ _ (by omega) (by omega) n1) (ap _ _ _ (by omega) (by omega) v0) (ap _ _ _ (by omega) (by omega) v1) (ap _ _ _ (by omega) (by omega) v2)
    have p0 := I4.p0
    have p1 := I4.p1
    have f0 := I4.f0
    have f1 := I4.f1
    have HT := hide (I4.put (.slice none 0 0) (.slice (some ⟨w1.heap.size + 1, 0, none⟩) 1 1))
    have HFI := hide I4.fin
    clear I4 HI1 I1 B3 B4 B24 o0 o1 v0 v1 v2 n0 n1 z4 hz2 hb1 CD HI HE hs1
    go_wp2
    exact bodyPost_ret (v := .tuple #[.agg #[.slice none 0 0, .slice (some ⟨w1.heap.size + 1, 0, none⟩) 1 1], .int .i64 0]) (by simp [results, Try.results43, go_sem, HT.out.1, HT.out.2]) rfl (gives2z_of HE5.out (HF.out _ _) (HFI.out _ _))
set_option maxHeartbeats 4000000 in
theorem rbox16 {n lo : Nat} {x : Ar} {va : Value} {w0 w : World} (hx : ArIn (n + 1) lo w0 x va) (hb0 : Below w0.heap.size w0 w) (hchk : chkA 8 x = 0) : Calls Try.prog 43 #[.int .i64 16, va] w fun e w' => Gives2Z (n + 1) w0 (discR x).1 (discR x).2 w e w' := by
  obtain ⟨a1, c1, a2, c2, rfl, R, hc⟩ := hx.form
  have I := in2_new w (.slice a1 x.shape.length c1) (.slice a2 x.cells.length c2)
  obtain ⟨W2, e2⟩ : ∃ W2, (w.alloc (.cells #[.slice a1 x.shape.length c1, .slice a2 x.cells.length c2] 25)).alloc (.cells #[.slice none 0 0, .slice none 0 0] 25) = W2 := ⟨_, rfl⟩
  rw [e2] at I
  have q0 := I.q0
  have q1 := I.q1
  have hl := R.1
  have p0 := I.p0
  have p1 := I.p1
  have f0 := I.f0
  have f1 := I.f1
  have HI := hide I
  by_cases h0 : 0 < x.shape.length
  · have HE5 : Hid (discR x = (zeroA, 6)) := by unfold discR Hid; rw [if_pos h0]
    clear R hc hx hchk
    generalize x.shape.length = SA at *
    generalize x.cells.length = CA at *
    have HT := hide (I.put (.slice none 0 0) (.slice none 0 0))
    have h1 : (0 : Int) < (SA : Int) := by omega
    clear I
    go_enter Try.func43, Try.ntmps43
    go_wp2
    exact bodyPost_ret (v := .tuple #[.agg #[.slice none 0 0, .slice none 0 0], .int .i64 6]) (by simp [results, Try.results43, go_sem, HT.out.1, HT.out.2]) rfl (gives2z_of HE5.out (fun _ _ _ => zeroA_in _ _ _) (HI.out.fin _ _))
  · obtain ⟨-, hone⟩ := atom_one hchk (by omega)
    obtain ⟨ab, cb, hcf⟩ := cells_fn hc
    obtain ⟨b, off, rfl, -, hb, hcells⟩ := hcf (by omega)
    obtain ⟨g0, g1, g2, g3⟩ := hcells 0 (by omega)
    simp only [Nat.zero_mul, Nat.add_zero] at g0 g1 g2
    have HE : Hid (discR x = if (cAt x.cells 0).1 = 2 then (bAt (cAt x.cells 0).2.2 0, 0) else (x, 0)) := by unfold discR Hid; rw [if_neg h0]
    have hs0 : x.shape.length = 0 := by omega
    have hck := ((chkA_iff 8 x).1 hchk).2.2.2 0 (by omega)
    simp only [hs0, hone] at q0 q1 HI I hx e2 ⊢
    have hbI := hb0.trans (I.bel.mono hb0.size)
    have r0 := (hbI.cell (p := ⟨b, off, none⟩) hb).trans g0
    have r1 := (hbI.cell (p := ⟨b, off + 1, none⟩) hb).trans g1
    have r2 := (hbI.cell (p := ⟨b, off + 2, none⟩) hb).trans g2
    have HX := hide hx
    have HBX : Hid ((cAt x.cells 0).1 = 2 → ∃ b off cap u0 u1, (cAt x.cells 0).2.2.length = 1 ∧ Value.slice (ab 0) (cAt x.cells 0).2.2.length (cb 0) = .slice (some ⟨b, off, none⟩) 1 cap ∧ b < w0.heap.size ∧ w0.cell? ⟨b, off, none⟩ = some u0 ∧ w0.cell? ⟨b, off + 1, none⟩ = some u1 ∧ ArIn n lo w0 (bAt (cAt x.cells 0).2.2 0) (.agg #[u0, u1]) ∧ chkA 7 (bAt (cAt x.cells 0).2.2 0) = 0) := fun h2 => box_of (inF 8) g3 hck h2
    clear hcells hcf hc R hx hchk g0 g1 g2 g3 hck
    obtain ⟨nb, hnb⟩ : ∃ nb, (cAt x.cells 0).2.2.length = nb := ⟨_, rfl⟩
    rw [hnb] at HBX r2
    generalize ab 0 = ab0 at *
    generalize cb 0 = cb0 at *
    obtain ⟨c, hcc⟩ : ∃ c, cAt x.cells 0 = c := ⟨_, rfl⟩
    rw [hcc] at HBX HE r0 r1
    clear hcc hnb
    by_cases h2 : c.1 = 2
    · obtain ⟨bb, ob, cap, u0, u1, hnb, hsl, hbb, t0, t1, hin, hch⟩ := HBX.out h2
      simp only [Value.slice.injEq] at hsl
      obtain ⟨rfl, rfl, rfl⟩ := hsl
      have k0 := (hbI.cell (p := ⟨bb, ob, none⟩) hbb).trans t0
      have k1 := (hbI.cell (p := ⟨bb, ob + 1, none⟩) hbb).trans t1
      cases n with
      | zero => exact hin.elim
      | succ n =>
      obtain ⟨v1, n1, v2, n2, hv, -, -⟩ := hin.form
      simp only [Value.agg.injEq, Array.mk.injEq, List.cons.injEq, and_true] at hv
      obtain ⟨rfl, rfl⟩ := hv
      have HE5 : Hid (discR x = (bAt c.2.2 0, 0)) := by unfold Hid; rw [HE.out, if_pos h2]
      have HIN := hide hin
      generalize bAt c.2.2 0 = y at *
      rw [h2] at r0
      have HT := hide (I.put (.slice v1 y.shape.length n1) (.slice v2 y.cells.length n2))
      clear I HBX HX HE h2 hin hch t0 t1 hnb
      generalize y.shape.length = YS at *
      generalize y.cells.length = YC at *
      go_enter Try.func43, Try.ntmps43
      go_wp2
      exact bodyPost_ret (v := .tuple #[.agg #[.slice v1 YS n1, .slice v2 YC n2], .int .i64 0]) (by simp [results, Try.results43, go_sem, HT.out.1, HT.out.2]) rfl (gives2z_of HE5.out (fun _ hW _ => (HIN.out.mono (Nat.zero_le _) hW).deeper) (HI.out.fin _ _))
    · have HE5 : Hid (discR x = (x, 0)) := by unfold Hid; rw [HE.out, if_neg h2]
      have HT := hide (I.put (.slice a1 0 c1) (.slice (some ⟨b, off, none⟩) 1 c2))
      have h2b : (c.1 == 2) = false := beq_eq_false_iff_ne.2 h2
      clear I HBX HE
      generalize c.1 = ck at *
      generalize c.2.1 = cN at *
      go_enter Try.func43, Try.ntmps43
      go_wp2
      exact bodyPost_ret (v := .tuple #[.agg #[.slice a1 0 c1, .slice (some ⟨b, off, none⟩) 1 c2], .int .i64 0]) (by simp [results, Try.results43, go_sem, HT.out.1, HT.out.2]) rfl (gives2z_of HE5.out (fun _ hW _ => HX.out.mono (Nat.zero_le _) hW) (HI.out.fin _ _))
set_option maxHeartbeats 4000000 in
theorem rbox17 {n lo : Nat} {x : Ar} {va : Value} {w0 w : World} (hx : ArIn (n + 1) lo w0 x va) (hb0 : Below w0.heap.size w0 w) (hchk : chkA 8 x = 0) (hcap : Caps va) : Calls Try.prog 43 #[.int .i64 17, va] w fun e w' => Gives2Z (n + 1) w0 (firstR x).1 (firstR x).2 w e w' := by
  obtain ⟨a1, c1, a2, c2, rfl, R, hc⟩ := hx.form
  have I := in2_new w (.slice a1 x.shape.length c1) (.slice a2 x.cells.length c2)
  obtain ⟨W2, e2⟩ : ∃ W2, (w.alloc (.cells #[.slice a1 x.shape.length c1, .slice a2 x.cells.length c2] 25)).alloc (.cells #[.slice none 0 0, .slice none 0 0] 25) = W2 := ⟨_, rfl⟩
  have hz2 : W2.heap.size = w.heap.size + 2 := by rw [← e2]; simp
  rw [e2] at I
  have q0 := I.q0
  have q1 := I.q1
  have p0 := I.p0
  have p1 := I.p1
  have f0 := I.f0
  have f1 := I.f1
  have HI := hide I
  have HX := hide hx
  obtain ⟨l8, c16⟩ := chk_len hchk
  have HE : Hid (firstR x = if tallyN x = 0 then (zeroA, 8) else if x.shape.length = 0 then (x, 0) else (itemR x, 0)) := rfl
  by_cases hS0 : x.shape.length = 0
  · have ht : tallyN x = 1 := by unfold tallyN; rw [if_pos hS0]
    have HE5 : Hid (firstR x = (x, 0)) := by unfold Hid; rw [HE.out, ht, if_neg (by decide), if_pos hS0]
    simp only [hS0] at q0 q1 HI I HX e2 ⊢
    have HT := hide (I.put (.slice a1 0 c1) (.slice a2 x.cells.length c2))
    clear I HE R hc hx ht hS0 hcap hchk l8
    generalize x.cells.length = CA at *
    go_enter Try.func43, Try.ntmps43
    go_wp2
    exact bodyPost_ret (v := .tuple #[.agg #[.slice a1 0 c1, .slice a2 CA c2], .int .i64 0]) (by simp [results, Try.results43, go_sem, HT.out.1, HT.out.2]) rfl (gives2z_of HE5.out (fun _ hW _ => HX.out.mono (Nat.zero_le _) hW) (HI.out.fin _ _))
  · obtain ⟨b, off, rfl, hb, hcz⟩ := row_at R (j := 0) (by omega)
    have u0 := ((hb0.trans (I.bel.mono hb0.size)).cell (p := ⟨b, off + 0, none⟩) hb).trans hcz
    have et : x.shape[0]?.getD 0 = tallyN x := by unfold tallyN; rw [if_neg hS0]; rfl
    rw [et, Nat.add_zero] at u0
    by_cases hT0 : tallyN x = 0
    · have HE5 : Hid (firstR x = (zeroA, 8)) := by unfold Hid; rw [HE.out, if_pos hT0]
      have HT := hide (I.put (.slice none 0 0) (.slice none 0 0))
      rw [hT0] at u0
      have hSb : ((x.shape.length : Int) == 0) = false := by simp; exact fun h => hS0 (by rw [h]; rfl)
      have hS1 : 0 < x.shape.length := by omega
      clear I HE R hc hx hcap hchk hS0 et hcz hT0 HX
      generalize x.cells.length = CA at *
      generalize x.shape.length = SA at *
      go_enter Try.func43, Try.ntmps43
      go_wp2
      exact bodyPost_ret (v := .tuple #[.agg #[.slice none 0 0, .slice none 0 0], .int .i64 8]) (by simp [results, Try.results43, go_sem, HT.out.1, HT.out.2]) rfl (gives2z_of HE5.out (fun _ _ _ => zeroA_in _ _ _) (HI.out.fin _ _))
    · obtain ⟨i1, i2, i3, i4, i5, i6⟩ := item_facts hchk (by omega) hT0
      have HE5 : Hid (firstR x = (itemR x, 0)) := by unfold Hid; rw [HE.out, if_neg hT0, if_neg hS0]
      have hle : x.cells.length / (tallyN x).toNat ≤ x.cells.length := Nat.div_le_self _ _
      have C := ritem_any (i := 0) (m := x.cells.length / (tallyN x).toNat) hx (hb0.trans (I.bel.mono hb0.size)) (by omega) l8 i6 (by omega) c16 (by omega) hcap
      have eit : itemAt x 0 (x.cells.length / (tallyN x).toNat) = itemR x := by unfold itemAt itemR; rw [Nat.zero_mul, List.drop_zero]
      rw [eit] at C
      have hTb : (tallyN x == 0) = false := beq_eq_false_iff_ne.2 hT0
      have hSb : ((x.shape.length : Int) == 0) = false := by simp; exact fun h => hS0 (by rw [h]; rfl)
      have hS1 : 0 < x.shape.length := by omega
      clear I HE R hc hx hcap hchk hS0 et hcz HX eit hle i1 i2 i3 i4 i5 i6
      generalize tallyN x = T at *
      generalize x.cells.length = CA at *
      generalize x.shape.length = SA at *
      go_enter Try.func43, Try.ntmps43
      go_wp2_with fail
      refine C.mono ?_
      rintro e w1 ⟨⟨v, rfl, hv⟩, hb1⟩
      obtain ⟨z1, m1, z2, m2, rfl, -, -⟩ := (hv w1 (hb0.trans ((HI.out.bel.trans (hb1.mono HI.out.bel.size)).mono hb0.size)) (Keeps.refl _ _)).form
      have I1 := HI.out.next hb1
      clear p0 p1 f0 f1
      have p0 := I1.p0
      have p1 := I1.p1
      have f0 := I1.f0
      have f1 := I1.f1
      have HT := hide (I1.put (.slice z1 (itemR x).shape.length m1) (.slice z2 (itemR x).cells.length m2))
      have HV : Hid (∀ u v W, Below w0.heap.size w0 W → Keeps w.heap.size ((w1.setCell ⟨w.heap.size + 1, 0, none⟩ u).setCell ⟨w.heap.size + 1, 1, none⟩ v) W → ArIn (n + 1) 0 W (itemR x) (.agg #[.slice z1 (itemR x).shape.length m1, .slice z2 (itemR x).cells.length m2])) := by
        intro u v W hW hK
        refine hv W hW ?_
        rw [hz2]
        exact (keeps_two w1 w.heap.size u v).trans (hK.mono (show w.heap.size ≤ w.heap.size + 2 by omega))
      have HFI := hide I1.fin
      clear I1 hv hb1 C HI hz2 e2 q0 q1 u0
      generalize (itemR x).shape.length = SI at *
      generalize (itemR x).cells.length = CI at *
      go_wp2
      exact bodyPost_ret (v := .tuple #[.agg #[.slice z1 SI m1, .slice z2 CI m2], .int .i64 0]) (by simp [results, Try.results43, go_sem, HT.out.1, HT.out.2]) rfl (gives2z_of HE5.out (HV.out _ _) (HFI.out _ _))
set_option maxHeartbeats 4000000 in
theorem rbox18 {n lo : Nat} {x : Ar} {va : Value} {w0 w : World} (hx : ArIn (n + 1) lo w0 x va) (hb0 : Below w0.heap.size w0 w) (hchk : chkA 8 x = 0) : Calls Try.prog 43 #[.int .i64 18, va] w fun e w' => Gives2Z (n + 1) w0 (listR x).1 (listR x).2 w e w' := by
  obtain ⟨a1, c1, a2, c2, rfl, R, hc⟩ := hx.form
  obtain ⟨i3, hi3, hz30, hz31, hz32⟩ := infoI3
  have I := in2_new w (.slice a1 x.shape.length c1) (.slice a2 x.cells.length c2)
  obtain ⟨W2, e2⟩ : ∃ W2, (w.alloc (.cells #[.slice a1 x.shape.length c1, .slice a2 x.cells.length c2] 25)).alloc (.cells #[.slice none 0 0, .slice none 0 0] 25) = W2 := ⟨_, rfl⟩
  have hz2 : W2.heap.size = w.heap.size + 2 := by rw [← e2]; simp
  rw [e2] at I
  have q0 := I.q0
  have q1 := I.q1
  have p0 := I.p0
  have p1 := I.p1
  have f0 := I.f0
  have f1 := I.f1
  have HI := hide I
  have HX := hide hx
  have HB0 := hide hb0
  obtain ⟨l8, c16⟩ := chk_len hchk
  have HE : Hid (listR x = if 8 ≤ x.shape.length then (zeroA, 6) else (.mk (1 :: x.shape) x.cells, 0)) := rfl
  by_cases h8 : 8 ≤ x.shape.length
  · have HE5 : Hid (listR x = (zeroA, 6)) := by unfold Hid; rw [HE.out, if_pos h8]
    have h88 : x.shape.length = 8 := by omega
    simp only [h88] at q0 q1 HI I HX e2 ⊢
    have HT := hide (I.put (.slice none 0 0) (.slice none 0 0))
    clear I HE R hc hx h8 h88 hchk l8
    generalize x.cells.length = CA at *
    go_enter Try.func43, Try.ntmps43
    go_wp2
    exact bodyPost_ret (v := .tuple #[.agg #[.slice none 0 0, .slice none 0 0], .int .i64 6]) (by simp [results, Try.results43, go_sem, HT.out.1, HT.out.2]) rfl (gives2z_of HE5.out (fun _ _ _ => zeroA_in _ _ _) (HI.out.fin _ _))
  · have HE5 : Hid (listR x = (.mk (1 :: x.shape) x.cells, 0)) := by unfold Hid; rw [HE.out, if_neg h8]
    obtain ⟨W3, e3⟩ : ∃ W3, W2.alloc (.cells #[.int .i64 1] 3) = W3 := ⟨_, rfl⟩
    have B3 : Below W2.heap.size W2 W3 := by rw [← e3]; exact one_alloc _ _
    have z3 : W3.heap.size = w.heap.size + 3 := by rw [← e3]; simp [hz2]
    obtain ⟨W4, e4⟩ : ∃ W4, W3.alloc (.cells #[.slice (some ⟨w.heap.size + 2, 0, none⟩) 1 1, .slice a2 x.cells.length c2] 25) = W4 := ⟨_, rfl⟩
    have B4 : Below W3.heap.size W3 W4 := by rw [← e4]; exact one_alloc _ _
    have z4 : W4.heap.size = w.heap.size + 4 := by rw [← e4]; simp [z3]
    have I4 := (I.next B3).next B4
    have OW3 : W3.ownsRow (w.heap.size + 2) 3 1 (.slice (some ⟨w.heap.size + 2, 0, none⟩) 1 1) 1 [.int .i64 1] := by
      have := World.ownsRow_lit (base := w.heap.size + 2) (e := 3) (size := 1) W2 #[.int .i64 1] 1 (by omega) (by unfold maxLen; omega) rfl
      rw [e3, hz2] at this
      exact this
    have OW4 : W4.ownsRow (w.heap.size + 2) 3 1 (.slice (some ⟨w.heap.size + 2, 0, none⟩) 1 1) 1 [.int .i64 1] := owns_below OW3 B4
    have m0 : W4.cell? ⟨w.heap.size + 3, 0, none⟩ = some (.slice (some ⟨w.heap.size + 2, 0, none⟩) 1 1) := by rw [← e4, ← z3]; exact cell_new0 W3 _ 25 0 _ rfl
    have m1 : W4.cell? ⟨w.heap.size + 3, 1, none⟩ = some (.slice a2 x.cells.length c2) := by rw [← e4, ← z3]; exact cell_new0 W3 _ 25 1 _ rfl
    have mf0 : W4.frozen? ⟨w.heap.size + 3, 0, none⟩ = false := by rw [← e4, ← z3]; exact frozen_new W3 _ 25 0
    have hbk : W4.heap[w.heap.size + 3]? = some (.cells #[.slice (some ⟨w.heap.size + 2, 0, none⟩) 1 1, .slice a2 x.cells.length c2] 25) := by rw [← e4, ← z3]; show (W3.heap.push _)[W3.heap.size]? = _; simp
    have q04 := I4.q0
    have HL4 : Hid (Lies W4 a1 (x.shape.map (Value.int .i64))) := Lies.row_next R (hb0.trans (I4.bel.mono hb0.size))
    have hsl : (x.shape.map (Value.int .i64)).length = x.shape.length * 1 := by rw [List.length_map]; omega
    have HI4 := hide I4
    have HSL : Hid (x.shape.length < 8) := by unfold Hid; omega
    obtain ⟨SA, hSA⟩ : ∃ SA, x.shape.length = SA := ⟨_, rfl⟩
    have hSb : ((SA : Int) == 8) = false := by simp; omega
    have HSA := hide hSA
    simp only [hSA] at q0 q1 HI I4 HI4 HX e2 hsl HSL q04 ⊢
    have hS8 : SA < 8 := HSL.out
    have HE34 := hide (And.intro e3 e4)
    have HZ := hide (And.intro z3 z4)
    clear I HE R hc hx h8 hchk l8 B3 B4 OW3 I4 hSA z3 z4 e3 e4
    generalize hCA : x.cells.length = CA at *
    go_enter Try.func43, Try.ntmps43
    have hmk : (W2.alloc (.cells #[.int .i64 1] 3)).alloc (.cells #[.slice (some ⟨w.heap.size + 2, 0, none⟩) 1 1, .slice a2 CA c2] 25) = W4 := by rw [HE34.out.1]; exact HE34.out.2
    go_wp2_with (at_builtin; refine wpList_append_G rfl _ _ 22 rfl (w.heap.size + 2) 3 i3 (.int .i64 0) 1 8 Try.underlying22 hi3 hz30 hz31 hz32 rfl (by decide) (.slice (some ⟨w.heap.size + 2, 0, none⟩) 1 1) 1 [.int .i64 1] rfl ?c1 a1 SA c1 (x.shape.map (Value.int .i64)) rfl hsl ?c2 ?c3 ?c4 ?c5 ?_)
    case c1 => exact OW4
    case c2 => exact HL4.out
    case c3 => unfold maxLen; omega
    case c4 => omega
    case c5 => have := HZ.out.2; omega
    intro v' w5 hown5 hg5
    have hz := HZ.out.2
    have hb5s := hg5.size
    have hob : (Value.slice (some ⟨w.heap.size + 2, 0, none⟩) 1 1).ownBlock = some (w.heap.size + 2) := rfl
    rw [hob] at hg5
    have hb5 : Below (w.heap.size + 2) W4 w5 := ⟨hg5.os, hg5.tape, hg5.output, hg5.size, fun k hk => hg5.block k (by omega) (by simp; omega)⟩
    have m0' : w5.cell? ⟨w.heap.size + 3, 0, none⟩ = some (.slice (some ⟨w.heap.size + 2, 0, none⟩) 1 1) := hg5.cell m0 (by simp)
    have m1' : w5.cell? ⟨w.heap.size + 3, 1, none⟩ = some (.slice a2 CA c2) := hg5.cell m1 (by simp)
    have mf0' : w5.frozen? ⟨w.heap.size + 3, 0, none⟩ = false := (World.frozen?_of_block (w := W4) (hg5.block (w.heap.size + 3) (by omega) (by simp))).trans mf0
    have hown6 : w5.ownsRow (w.heap.size + 2) 3 1 v' (1 :: x.shape).length ((1 :: x.shape).map (Value.int .i64)) := by
      have e : (1 :: x.shape).length = 1 + SA := by rw [List.length_cons, HSA.out]; omega
      rw [e]; exact hown5
    obtain ⟨al, cl, hal, RL⟩ := owns_rowE (1 :: x.shape) (by rw [List.length_cons, HSA.out]; omega) hown6
    have el : (1 :: x.shape).length = SA + 1 := by rw [List.length_cons, HSA.out]
    rw [el] at hal
    subst hal
    obtain ⟨w6, e6⟩ : ∃ w6, w5.setCell ⟨w.heap.size + 3, 0, none⟩ (.slice al (SA + 1) cl) = w6 := ⟨_, rfl⟩
    have I6 : In2 w (.slice a1 SA c1) (.slice a2 CA c2) w6 := by rw [← e6]; exact (HI4.out.belowS hb5 (Nat.le_refl _)).set (by omega) _
    have s0 : w6.cell? ⟨w.heap.size + 3, 0, none⟩ = some (.slice al (SA + 1) cl) := by rw [← e6]; exact World.cell?_setCell_same' _ _ _ (by rw [m0']; rfl)
    have s1 : w6.cell? ⟨w.heap.size + 3, 1, none⟩ = some (.slice a2 CA c2) := by rw [← e6, World.cell?_setCell_other _ _ _ _ (by simp)]; exact m1'
    have hown7 : w6.ownsRow (w.heap.size + 2) 3 1 (.slice al (SA + 1) cl) (1 :: x.shape).length ((1 :: x.shape).map (Value.int .i64)) := by
      rw [← e6]
      exact owns_apart hown6 ((hg5.block (w.heap.size + 3) (by omega) (by simp)).trans hbk) (by decide) _
    have p0 := I6.p0
    have p1 := I6.p1
    have f0 := I6.f0
    have f1 := I6.f1
    have HT := hide (I6.put (.slice al (SA + 1) cl) (.slice a2 CA c2))
    have HF : Hid (∀ u v W, Below w0.heap.size w0 W → Keeps w.heap.size ((w6.setCell ⟨w.heap.size + 1, 0, none⟩ u).setCell ⟨w.heap.size + 1, 1, none⟩ v) W → ArIn (n + 1) 0 W (.mk (1 :: x.shape) x.cells) (.agg #[.slice al (SA + 1) cl, .slice a2 CA c2])) := by
      intro u v W hW hK
      have K := (keeps_two w6 w.heap.size u v).trans (hK.mono (show w.heap.size ≤ w.heap.size + 2 by omega))
      have hown8 := owns_keeps hown7 K (Nat.le_refl _)
      obtain ⟨al', cl', hal', RL'⟩ := owns_rowE (1 :: x.shape) (by rw [el]; omega) hown8
      rw [el] at hal'
      simp only [Value.slice.injEq] at hal'
      obtain ⟨rfl, -, rfl⟩ := hal'
      have hxx := HX.out
      rw [← HSA.out, ← hCA] at hxx
      obtain ⟨y1, d1, y2, d2, hv, -, hcc⟩ := hxx.form
      simp only [Value.agg.injEq, Array.mk.injEq, List.cons.injEq, Value.slice.injEq, and_true] at hv
      obtain ⟨-, rfl, -, rfl⟩ := hv
      exact arIn_mk (x := .mk (1 :: x.shape) x.cells) (RL'.low (Nat.zero_le _)) (by show x.cells.length ≤ _; omega) (hcc.mono (Nat.zero_le _) hW) el hCA
    have HFI := hide I6.fin
    clear I6 hown5 hown6 hown7 hg5 hb5 m0 m1 mf0 m1' RL hbk e2 hmk HE34 HL4 q0 q1 q04 hz2 HI
    go_wp2
    exact bodyPost_ret (v := .tuple #[.agg #[.slice al (SA + 1) cl, .slice a2 CA c2], .int .i64 0]) (by simp [results, Try.results43, go_sem, HT.out.1, HT.out.2]) rfl (gives2z_of HE5.out (HF.out _ _) (HFI.out _ _))
end Go.Proofs.Ytmjncdhahdpplaa
