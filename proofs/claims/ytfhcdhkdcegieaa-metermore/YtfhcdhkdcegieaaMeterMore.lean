/-
  For all fuel, cells, numbers of steps and arrays the statement MeterMore holds: who may take more steps, and hold more, is refused nothing that another one is allowed; no condition (the given row speaks of what a machine of 64 bits can hold).
-/
import Derived.Test.YtfhcdhkdcegieaaMtE
import Derived.Test.YtfhcdhkdcegieaaMtF
import Derived.Test.YtfhcdhkdcegieaaOwnZ
namespace Go.Proofs.Ytfhcdhkdcegieaa.meterMore
open Go.ChangeShapes Go.WideShapes Go.ChangeAt Go.RowKit
set_option linter.unusedVariables false
set_option maxRecDepth 100000
set_option maxHeartbeats 4000000 in
theorem walk (f c m n : Int) (d : Nat) (x : Ar) (d0 d1 : Value) (w : World) (hf : -9223372036854775808 ≤ f ∧ f ≤ 9223372036854775807) (hc : -9223372036854775808 ≤ c ∧ c ≤ 9223372036854775807) (hm : 0 ≤ m ∧ m ≤ 255) (hn : 0 ≤ n ∧ n ≤ 255) (hx : ArIn d 0 w x (.agg #[d0, d1])) :
    Calls Try.prog 5 #[.int .i64 f, .int .i64 c, .int .u8 m, .int .u8 n, .agg #[d0, d1]] w fun e w' => e = .returned (.bool true) ∧ Below w.heap.size w w' := by
  cases d with
  | zero => exact hx.elim
  | succ d =>
  have hx' := hx
  obtain ⟨a1, c1, a2, c2, hv, -⟩ := hx'
  simp only [Value.agg.injEq, Array.mk.injEq, List.cons.injEq, and_true] at hv
  obtain ⟨rfl, rfl⟩ := hv
  have HX : Hid (∀ W, Below w.heap.size w W → ArIn (d + 1) 0 W x (.agg #[.slice a1 x.shape.length c1, .slice a2 x.cells.length c2])) := fun W h => hx.next h
  generalize x.shape.length = SA at *
  generalize x.cells.length = CA at *
  obtain ⟨N, rfl⟩ : ∃ N : Nat, n = (N : Int) := ⟨n.toNat, by omega⟩
  obtain ⟨W1, e1⟩ : ∃ W1, w.alloc (.cells #[.slice a1 SA c1, .slice a2 CA c2] 38) = W1 := ⟨_, rfl⟩
  have b1 : Below w.heap.size w W1 := by rw [← e1]; exact one_alloc _ _
  have z1 : W1.heap.size = w.heap.size + 1 := by rw [← e1]; simp
  have q0 : W1.cell? ⟨w.heap.size, 0, none⟩ = some (.slice a1 SA c1) := by rw [← e1]; exact cell_new0 w _ 38 0 _ rfl
  have q1 : W1.cell? ⟨w.heap.size, 1, none⟩ = some (.slice a2 CA c2) := by rw [← e1]; exact cell_new0 w _ 38 1 _ rfl
  have HQ : Hid (∀ W, Below W1.heap.size W1 W → Below w.heap.size w W ∧ W.cell? ⟨w.heap.size, 0, none⟩ = some (.slice a1 SA c1) ∧ W.cell? ⟨w.heap.size, 1, none⟩ = some (.slice a2 CA c2)) := fun W h => ⟨b1.trans (h.mono b1.size), (h.cell (p := ⟨w.heap.size, 0, none⟩) (by show w.heap.size < _; omega)).trans q0, (h.cell (p := ⟨w.heap.size, 1, none⟩) (by show w.heap.size < _; omega)).trans q1⟩
  have HW : Hid (∀ W, Below W1.heap.size W1 W → Calls Try.prog 12 #[] W fun e w' => e = .returned (.bool true) ∧ Below w.heap.size w w') := fun W h => (works_any W).mono fun e w' ⟨he, hw⟩ => ⟨he, (HQ.out W h).1.trans (hw.mono (HQ.out W h).1.size)⟩
  by_cases hbig : 4611686018427387904 < f ∨ 4611686018427387904 < c
  · have CW := HW.out W1 (Below.refl _ _)
    clear hx b1 z1 q0 q1 HQ HW HX
    by_cases hf1 : 4611686018427387904 < f
    · clear hbig
      go_enter Try.func5, Try.ntmps5
      go_wp2_with fail
      refine CW.mono ?_
      rintro e w9 ⟨rfl, hb9⟩
      have HF := hide hb9
      clear hb9 CW e1
      go_wp2
      go_ret
      exact ⟨rfl, HF.out⟩
    · have hc1 : 4611686018427387904 < c := by omega
      clear hbig
      go_enter Try.func5, Try.ntmps5
      go_wp2_with fail
      refine CW.mono ?_
      rintro e w9 ⟨rfl, hb9⟩
      have HF := hide hb9
      clear hb9 CW e1
      go_wp2
      go_ret
      exact ⟨rfl, HF.out⟩
  have hf1 : ¬ 4611686018427387904 < f := by omega
  have hc1 : ¬ 4611686018427387904 < c := by omega
  have C0 := light_any (HX.out _ b1)
  clear hx b1 z1 hbig
  go_enter Try.func5, Try.ntmps5
  go_wp2_with fail
  clear e1
  refine C0.mono ?_
  clear C0 q0 q1
  rintro e w2 ⟨⟨r, rfl, hr⟩, hb2⟩
  have HR := hide hr
  have HB2 := hide hb2
  clear hr hb2
  cases r with
  | false =>
    have CW := HW.out w2 HB2.out
    go_wp2_with fail
    refine CW.mono ?_
    rintro e w9 ⟨rfl, hb9⟩
    have HF := hide hb9
    clear hb9 CW
    go_wp2
    go_ret
    exact ⟨rfl, HF.out⟩
  | true =>
  have HCN := hide (HR.out rfl)
  have C1 := new7 (w := w2) f c hf.2 hc.2
  have p1 : 0 ≤ pos f ∧ pos f ≤ 4611686018427387904 := by unfold pos; split <;> omega
  have p2 : 0 ≤ pos c ∧ pos c ≤ 4611686018427387904 := by unfold pos; split <;> omega
  have HC2 : Hid (∀ W, Calls Try.prog 7 #[.int .i64 (pos f + m), .int .i64 (pos c + m)] W fun e w' => (∃ b, e = .returned (.pointer (some ⟨b, 0, none⟩)) ∧ W.heap.size ≤ b ∧ Mt w' b (pos f + m) 0 (pos c + m)) ∧ Below W.heap.size W w') := fun W => by
    have := new7 (w := W) (pos f + m) (pos c + m) (by omega) (by omega)
    rw [show pos (pos f + m) = pos f + m from if_neg (by omega), show pos (pos c + m) = pos c + m from if_neg (by omega)] at this
    exact this
  have x1 : (if f < 0 then 0 else f) = pos f := rfl
  have x2 : (if c < 0 then 0 else c) = pos c := rfl
  have x3 : max f 0 = pos f := by unfold pos; split <;> omega
  have x4 : max c 0 = pos c := by unfold pos; split <;> omega
  generalize pos f = F at *
  generalize pos c = R at *
  clear HR
  go_wp2_with fail
  refine C1.mono ?_
  clear C1
  rintro e w3 ⟨⟨b, rfl, hb, hm3⟩, hb3⟩
  have H3 := hide (And.intro hm3 (And.intro (HB2.out.trans (hb3.mono HB2.out.size)) (Nat.le_trans HB2.out.size hb)))
  have C2 := HC2.out w3
  clear hm3 hb3 hb HB2 HC2
  go_wp2_with fail
  refine C2.mono ?_
  clear C2 x1 x2 x3 x4
  rintro e w4 ⟨⟨b', rfl, hb', hm4⟩, hb4⟩
  obtain ⟨h31, h32, h33⟩ := H3.out
  have hbb : b ≠ b' := by have := h31.lt; omega
  have H4 : Hid (Mt w4 b F 0 R ∧ Mt w4 b' (F + m) 0 (R + m) ∧ Below W1.heap.size W1 w4) := ⟨h31.next hb4 h31.lt, hm4, h32.trans (hb4.mono h32.size)⟩
  have HBB : Hid (W1.heap.size ≤ b ∧ W1.heap.size ≤ b' ∧ b ≠ b') := ⟨h33, by have := h32.size; show _ ≤ _; omega, hbb⟩
  clear h31 h32 h33 hb' hm4 hb4 H3 hbb
  go_wp2
  go_loopg [13] N (fun g i wr => ∃ (k : Nat) (U V : Int), g + k = N ∧ i = .int .i64 (k : Int) ∧ (U = V ∨ (U = F ∧ F ≤ V)) ∧ Mt wr b F U R ∧ Mt wr b' (F + m) V (R + m) ∧ Below W1.heap.size W1 wr)
  case atStart => exact ⟨0, 0, 0, rfl, rfl, .inl rfl, H4.out.1, H4.out.2.1, H4.out.2.2⟩
  case round =>
    clear H4
    obtain ⟨k, U, V, hg, rfl, hUV, hmx, hmy, hbel⟩ := hrel
    have uF := hmx.uF
    have vF := hmy.uF
    by_cases hlt : k < N
    · have hltz : (k : Int) < (N : Int) := by omega
      have CS := step10 hmx
      have HMR := hide (And.intro hmx (And.intro hmy hbel))
      have HUV := hide hUV
      clear hmx hmy hbel hUV
      by_cases hU : U < F
      · go_wp2_with fail
        refine CS.mono ?_
        clear CS
        intro e w5 hs
        obtain ⟨hmx, hmy, hbel⟩ := HMR.out
        obtain ⟨rfl, hm5, hb5⟩ := hs.yes hmx hU HBB.out.1
        have hy5 : Mt w5 b' (F + m) V (R + m) := by
          rcases hs with ⟨_, _, w8, h8, rfl⟩ | ⟨h8, _⟩
          · exact (hmy.next h8 hmy.lt).other HBB.out.2.2 _
          · omega
        have CT := step10 hy5
        have H5 := hide (And.intro hm5 (And.intro hy5 (hbel.trans hb5)))
        have hUV : U = V := by rcases HUV.out with h | h <;> omega
        have HVV := hide hUV
        clear hmx hmy hbel hm5 hb5 hs hy5 HMR hUV
        go_wp2_with fail
        refine CT.mono ?_
        clear CT
        intro e w6 hs
        obtain ⟨hmx, hmy, hbel⟩ := H5.out
        have hVV := HVV.out
        obtain ⟨rfl, hm6, hb6⟩ := hs.yes hmy (by omega) HBB.out.2.1
        have hx6 : Mt w6 b F (U + 1) R := by
          rcases hs with ⟨_, _, w8, h8, rfl⟩ | ⟨h8, _⟩
          · exact (hmx.next h8 hmx.lt).other HBB.out.2.2.symm _
          · omega
        have H6 := hide (And.intro hx6 (And.intro hm6 (hbel.trans hb6)))
        clear hmx hmy hbel hm6 hb6 hs hx6 H5 hVV
        go_wp2
        go_roundg (N - (k + 1))
        case rel => exact ⟨k + 1, U + 1, V + 1, by omega, by go_num, .inl (by have := HVV.out; omega), H6.out.1, H6.out.2.1, H6.out.2.2⟩
        case measure => omega
      · go_wp2_with fail
        refine CS.mono ?_
        clear CS
        intro e w5 hs
        obtain ⟨hmx, hmy, hbel⟩ := HMR.out
        obtain ⟨rfl, hm5, hb5⟩ := hs.no hmx (by omega) HBB.out.1
        have hy5 : Mt w5 b' (F + m) V (R + m) := by
          rcases hs with ⟨h8, _⟩ | ⟨_, _, h8⟩
          · omega
          · exact hmy.next h8 hmy.lt
        have CT := step10 hy5
        have H5 := hide (And.intro hm5 (And.intro hy5 (hbel.trans hb5)))
        have HFV : Hid (F ≤ V) := by rcases HUV.out with h | h <;> show _ ≤ _ <;> omega
        clear hmx hmy hbel hm5 hb5 hs hy5 HMR
        go_wp2_with fail
        refine CT.mono ?_
        clear CT
        intro e w6 hs
        obtain ⟨hmx, hmy, hbel⟩ := H5.out
        by_cases hV : V < F + m
        · obtain ⟨rfl, hm6, hb6⟩ := hs.yes hmy hV HBB.out.2.1
          have hx6 : Mt w6 b F U R := by
            rcases hs with ⟨_, _, w8, h8, rfl⟩ | ⟨h8, _⟩
            · exact (hmx.next h8 hmx.lt).other HBB.out.2.2.symm _
            · omega
          have H6 := hide (And.intro hx6 (And.intro hm6 (hbel.trans hb6)))
          clear hmx hmy hbel hm6 hb6 hs hx6 H5
          go_wp2
          go_roundg (N - (k + 1))
          case rel => exact ⟨k + 1, U, V + 1, by omega, by go_num, .inr (by have := HFV.out; omega), H6.out.1, H6.out.2.1, H6.out.2.2⟩
          case measure => omega
        · obtain ⟨rfl, hm6, hb6⟩ := hs.no hmy (by omega) HBB.out.2.1
          have hx6 : Mt w6 b F U R := by
            rcases hs with ⟨h8, _⟩ | ⟨_, _, h8⟩
            · omega
            · exact hmx.next h8 hmx.lt
          have H6 := hide (And.intro hx6 (And.intro hm6 (hbel.trans hb6)))
          clear hmx hmy hbel hm6 hb6 hs hx6 H5
          go_wp2
          go_roundg (N - (k + 1))
          case rel => exact ⟨k + 1, U, V, by omega, by go_num, .inr (by have := HFV.out; omega), H6.out.1, H6.out.2.1, H6.out.2.2⟩
          case measure => omega
    · have hke : k = N := by omega
      subst hke
      have HE1 : Hid (∀ W, Below wr.heap.size wr W → Calls Try.prog 14 #[.pointer (some ⟨b, 0, none⟩), .agg #[.slice a1 SA c1, .slice a2 CA c2]] W fun e w' => e = .returned (.int .i64 (holdE (cntA (d + 1) x) R)) ∧ Below wr.heap.size wr w') := fun W h => (hold14 (hmx.next h hmx.lt) (HX.out W (HQ.out W (hbel.trans (h.mono hbel.size))).1) (by have := HCN.out; omega)).mono fun e w' ⟨he, hw⟩ => ⟨he, h.trans (hw.mono h.size)⟩
      have HE2 : Hid (∀ W, Below wr.heap.size wr W → Calls Try.prog 14 #[.pointer (some ⟨b', 0, none⟩), .agg #[.slice a1 SA c1, .slice a2 CA c2]] W fun e w' => e = .returned (.int .i64 (holdE (cntA (d + 1) x) (R + m))) ∧ Below wr.heap.size wr w') := fun W h => (hold14 (hmy.next h hmy.lt) (HX.out W (HQ.out W (hbel.trans (h.mono hbel.size))).1) (by have := HCN.out; omega)).mono fun e w' ⟨he, hw⟩ => ⟨he, h.trans (hw.mono h.size)⟩
      have KS : Hid (∀ W, Below wr.heap.size wr W → Below wr.heap.size wr W ∧ W.cell? ⟨w.heap.size, 0, none⟩ = some (.slice a1 SA c1) ∧ W.cell? ⟨w.heap.size, 1, none⟩ = some (.slice a2 CA c2)) := fun W h => ⟨h, (HQ.out W (hbel.trans (h.mono hbel.size))).2.1, (HQ.out W (hbel.trans (h.mono hbel.size))).2.2⟩
      have HW' : Hid (∀ W, Below wr.heap.size wr W → Calls Try.prog 12 #[] W fun e w' => e = .returned (.bool true) ∧ Below w.heap.size w w') := fun W h => HW.out W (hbel.trans (h.mono hbel.size))
      have hd0 : Below wr.heap.size wr wr.drew := (Below.refl _ _).drew
      have HEE : Hid (holdE (cntA (d + 1) x) R = 0 ∧ holdE (cntA (d + 1) x) (R + m) = 0 ∨ holdE (cntA (d + 1) x) R = 12) := by
        unfold holdE
        by_cases h : (cntA (d + 1) x : Int) ≤ R
        · left; rw [if_pos h, if_pos (by omega)]; exact ⟨rfl, rfl⟩
        · right; rw [if_neg h]
      generalize holdE (cntA (d + 1) x) R = E1 at *
      generalize holdE (cntA (d + 1) x) (R + m) = E2 at *
      clear hmx hmy hbel HW HQ HX HCN hUV HBB
      go_upto_region 12 with fail
      go_region_held3 (fun W => Below wr.heap.size wr W ∧ W.cell? ⟨w.heap.size, 0, none⟩ = some (.slice a1 SA c1) ∧ W.cell? ⟨w.heap.size, 1, none⟩ = some (.slice a2 CA c2)) (first | with_reducible exact KS.out _ (by with_reducible assumption))
        (first | (go_at_call 14; (with_reducible refine (HE1.out _ (by with_reducible assumption)).mono ?_); rintro e w7 ⟨rfl, hb7⟩) | (go_at_call 14; (with_reducible refine (HE2.out _ (by with_reducible assumption)).mono ?_); rintro e w8 ⟨rfl, hb8⟩))
      all_goals
        rcases HEE.out with ⟨hz1, hz2⟩ | hz1
        · subst hz1 hz2
          have HWW := HW'
          go_wp2_with fail
          refine (HW'.out _ (by assumption)).mono ?_
          rintro e w9 ⟨rfl, hb9⟩
          have HF := hide hb9
          clear hb9
          go_wp2
          go_ret
          exact ⟨rfl, HF.out⟩
        · subst hz1
          go_wp2_with fail
          refine (HW'.out _ (by assumption)).mono ?_
          rintro e w9 ⟨rfl, hb9⟩
          have HF := hide hb9
          clear hb9
          go_wp2
          go_ret
          exact ⟨rfl, HF.out⟩
set_option maxRecDepth 100000 in
theorem lifted (os : Os) (started : os.Started) (H : Type) (enc : TypeId × Value → H) :
    ReturnsInHanded {} Try.checked os 5 .any (Rows.meterMoreSpec.pre6 enc Try.prog Try.f5 Rows.meterMoreRow.domain false) (Rows.meterMoreSpec.post enc Try.prog Try.f5 false true false false) := by
  refine returnsInHanded_of_change_sized (C := Try.checked) own started (by kernel_rfl) Try.func5
    (ChangeSpec.witness6 (enc := enc) (C := Try.checked) false ⟨#[], #[.int .i64 0, .int .i64 0, .int .u8 0, .int .u8 0, .agg #[.slice none 0 0, .slice none 0 0]], []⟩ 8 (by kernel_rfl) (by kernel_rfl) (by kernel_rfl) (by kernel_rfl)) ?_
  intro W base args ds gs before hval0 hW _ hsz0 _
  have hsz : (DataW.weightsEach Try.prog (Try.f5.params.toList ++ Rows.meterMoreSpec.plain.varTypes Try.prog) (ds ++ gs)).all (· ≤ reachBytes) = true := hsz0
  clear hsz0
  have hval : ∀ (j : Nat) t v, Try.f5.params[j]? = some t → args[j]? = some v → Value.okWide Try.prog W .any base t v := hval0
  have hW' := hW
  obtain ⟨p, q, hA0, hV, rfl, hfz, hnd⟩ := hW
  have hA : DataW.TrodAll enc Try.prog W 0 (fun _ => true) true Try.f5.params.toList args.toList ds p := hA0
  rw [Try.params5] at hA hval hsz
  obtain ⟨v0, vs0, d0, ds0, p0, q0, hargs, rfl, rfl, h0, r0⟩ := trodAll_cons hA
  obtain ⟨v1, vs1, d1, ds1, p1, q1, rfl, rfl, rfl, h1, r1⟩ := trodAll_cons r0
  obtain ⟨v2, vs2, d2, ds2, p2, q2, rfl, rfl, rfl, h2, r2⟩ := trodAll_cons r1
  obtain ⟨v3, vs3, d3, ds3, p3, q3, rfl, rfl, rfl, h3, r3⟩ := trodAll_cons r2
  obtain ⟨v4, vs4, d4, ds4, p4, q4, rfl, rfl, rfl, h4, r4⟩ := trodAll_cons r3
  obtain ⟨rfl, rfl, rfl⟩ := trodAll_nil r4
  obtain rfl : args = #[v0, v1, v2, v3, v4] := by cases args; simp_all
  obtain ⟨rfl, rfl⟩ := trodVars_none hV
  obtain ⟨x0, rfl, rfl, rfl, w0⟩ := open_int Try.underlying3 (hval 0 3 v0 rfl rfl) h0
  obtain ⟨x1, rfl, rfl, rfl, w1⟩ := open_int Try.underlying3 (hval 1 3 v1 rfl rfl) h1
  obtain ⟨x2, rfl, rfl, rfl, w2⟩ := open_int Try.underlying5 (hval 2 5 v2 rfl rfl) h2
  obtain ⟨x3, rfl, rfl, rfl, w3⟩ := open_int Try.underlying5 (hval 3 5 v3 rfl rfl) h3
  have k4 := h4
  have lt4 : ∀ x ∈ p4, x.block < W.heap.size := by obtain ⟨m, hm⟩ := k4; exact DataW.trod_lt m _ _ _ hm
  obtain ⟨n4, y4, c40, c41, hc4, w4⟩ := arr_of hsz (j := 4) rfl rfl h4
  obtain rfl := agg_two hc4
  clear hA0 hval0
  refine (walk x0 x1 x2 x3 n4 y4 c40 c41 W (bounds_i64 w0) (bounds_i64 w1) (bounds_u8 w2) (bounds_u8 w3) w4.1).mono fun e W' ⟨he, bel⟩ => ?_
  subst he
  exact ⟨_, rfl, _, _, _, [], _, [], hW', trodAll_mk1 (shut_bool Try.underlying4 _), (trodAll_cons_mk (shut_int Try.underlying3 w0) (trodAll_cons_mk (shut_int Try.underlying3 w1) (trodAll_cons_mk (shut_int Try.underlying5 w2) (trodAll_cons_mk (shut_int Try.underlying5 w3) (trodAll_cons_mk (Below.trod laidOut (by kernel_rfl) (of_decide_eq_true (by kernel_rfl)) k4 bel lt4) trodAll_mk0))))), rfl, bel.frame _, fun h => by cases h⟩
theorem over : Rows.meterMoreRow.holds Try.pinned (OpenSpec.ofChange Rows.meterMoreSpec) :=
  OpenClaim.holds_of_wide 5 Try.f5 rfl rfl rfl rfl rfl rfl rfl ⟨rfl, rfl, rfl, rfl, rfl⟩ rfl rfl rfl rfl rfl (by kernel_rfl) Try.func5 (by kernel_rfl)
    (of_decide_eq_true (by kernel_rfl)) (by unfold Func.isWrapper; first | (rw [if_pos (by decide +kernel)]; kernel_rfl) | (rw [if_neg (by decide +kernel)]; exact ⟨rfl, rfl⟩))
    (fun os started H enc _ => lifted os started H enc)
theorem proved : Rows.MeterMoreSaid := over
end Go.Proofs.Ytfhcdhkdcegieaa.meterMore
namespace Go.Proofs.Ytfhcdhkdcegieaa
theorem meterMore_holds : Rows.MeterMoreSaid := meterMore.proved
#print axioms meterMore_holds
end Go.Proofs.Ytfhcdhkdcegieaa
