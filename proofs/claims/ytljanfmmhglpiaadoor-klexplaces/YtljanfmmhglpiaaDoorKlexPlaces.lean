/-
  KlexPlaces is proved: for every text the words that klex.Lex tells stand one behind the other within it, each one that has a text as it stands there, and a fault's place lies in the text (with no words); the law answers true. Conditions: those of the card (the listed package-level variables are laid as the program's text lays them); none besides.
-/
import Derived.Test.YtljanfmmhglpiaaDoorLxQ
import Derived.BigQuiet
namespace Go.Proofs.YtljanfmmhglpiaaDoor.klexPlaces
open Go.ChangeShapes Go.WideShapes Go.ChangeAt Go.RowKit
open Rn (Byte)
set_option linter.unusedVariables false
set_option linter.unusedSimpArgs false
set_option maxRecDepth 100000
theorem lexB_err (f n p : Nat) (v : Int) (l : List Int) (h : ¬ (lexB f n p v l).2.1 = 0) : (lexB f n p v l).1 = [] := by
  cases f with
  | zero => rfl
  | succ f =>
    rw [lexB] at h ⊢
    split
    · rfl
    · rename_i h1
      rw [if_neg h1] at h
      split
      · rfl
      · rename_i h2
        rw [if_neg h2] at h
        split
        · rfl
        · rename_i h3
          rw [if_neg h3] at h
          split
          · rfl
          · rename_i h4
            rw [if_neg h4] at h
            exact absurd rfl h
theorem lexM_places (S : List Int) : OkT S 0 (lexM S).1 ∧ (lexM S).2.2 ≤ S.length ∧ (¬ (lexM S).2.1 = 0 → (lexM S).1 = []) := by
  unfold lexM
  split
  · exact ⟨trivial, Nat.zero_le _, fun _ => rfl⟩
  · obtain ⟨h1, h2⟩ := lexB_places S (S.length + 1) 0 0 32 (Nat.zero_le _)
    exact ⟨h1, h2, lexB_err _ _ _ _ _⟩
theorem OkT.next {S : List Int} : ∀ {l : List Tk} {lo : Nat} (i : Nat) (t : Tk), OkT S lo (l.drop i) → l[i]? = some t → lo ≤ t.at' ∧ t.at' < S.length ∧ t.at' + t.text.length ≤ S.length ∧ t.text = (S.drop t.at').take t.text.length ∧ OkT S (t.at' + 1) (l.drop (i + 1)) := by
  intro l lo i t h hi
  obtain ⟨hlt, he⟩ := List.getElem?_eq_some_iff.1 hi
  rw [List.drop_eq_getElem_cons hlt, he] at h
  exact h
theorem sub_str (s : ByteArray) (a n : Nat) (l : List Int) (hl : l = ((numsS s).drop a).take n) (hn : l.length = n) (W : World) (h : a + n ≤ s.size) : (Instr.sliceAt 9 (.string s) (some (.int .i64 (a : Int))) (some (.int .i64 ((a : Int) + (n : Int)))) none).run Tryd.prog W = .ok (.string (strOfNums l)) W := by
  rw [run_sliceAt_string W 9 _ _ _ _ Tryd.underlying9]
  have e : s.extract a (a + n) = strOfNums l := by
    refine str_eq ?_
    rw [hl, ByteArray.data_extract, Array.toList_extract]
    unfold numsS
    rw [← List.map_drop, ← List.map_take]
    show _ = (List.map _ _).map _
    rw [List.map_map]
    have : ((fun (z : Int) => UInt8.ofNat z.toNat) ∘ fun (c : UInt8) => (c.toNat : Int)) = id := by
      funext c
      simp
    rw [this, List.map_id]
    simp [List.extract]
  rw [← e]
  have h1 : ((a : Int) + (n : Int)).toNat = a + n := by omega
  have h2 : (a : Int) ≤ (a : Int) + (n : Int) := by omega
  have h3 : (a : Int) + (n : Int) ≤ (s.size : Int) := by omega
  have h4 : 0 ≤ (a : Int) + (n : Int) := by omega
  simp [Instr.slice, run_underlying Tryd.underlying9, Instr.sliceBounds, run_sliceBound, h, h1, h2, h3, h4]
set_option maxHeartbeats 16000000 in
theorem walk (st : ByteArray) (w : World) (G : Glb w) (hsz : st.size ≤ maxLen) : Calls Tryd.prog 4 #[.string st] w fun e w' => e = .returned (.bool true) ∧ Below w.heap.size w w' := by
  obtain ⟨hok, hat, herr⟩ := lexM_places (numsS st)
  have C0 := lex8 G st hsz
  have HW7 : Hid (∀ W, Below w.heap.size w W → Calls Tryd.prog 7 #[] W fun e w' => e = .returned (.bool true) ∧ Below w.heap.size w w') := fun W h => (works7 (G.nx h)).mono fun e w' ⟨he, hb⟩ => ⟨he, h.trans (hb.mono h.size)⟩
  have hlen := numsS_len st
  obtain ⟨S, hS⟩ : ∃ S, numsS st = S := ⟨_, rfl⟩
  have HS := hide hS
  rw [hS] at hok hat herr C0 hlen
  obtain ⟨F, hF⟩ : ∃ F, lexM S = F := ⟨_, rfl⟩
  rw [hF] at hok hat herr C0
  obtain ⟨ts, er, fa⟩ := F
  obtain ⟨N, hN⟩ : ∃ N, ts.length = N := ⟨_, rfl⟩
  have HC : Hid (Calls Tryd.prog 8 #[.string st] w fun e w' => (∃ a c, e = .returned (.tuple #[.slice a N c, .agg #[.int .i64 er, .int .i64 (fa : Int), .int .i64 0]]) ∧ TkIn w' a ts) ∧ Below w.heap.size w w') := by rw [← hN]; exact C0
  have hat' : fa ≤ st.size := by rw [← hlen]; exact hat
  have herr' : ¬ er = 0 → ts = [] := herr
  have HOK : Hid (OkT S 0 (ts.drop 0)) := hok
  have HLEN := hide hlen
  clear hok hat herr C0 hF hS hlen
  have hszI : (st.size : Int) ≤ 9223372036854775807 := by unfold maxLen at hsz; omega
  clear hsz
  go_enter Tryd.func4, Tryd.ntmps4
  go_wp2_with fail
  refine HC.out.mono ?_
  rintro e w1 ⟨⟨a, c, rfl, htk⟩, hb1⟩
  clear HC
  obtain ⟨W2, hW2⟩ : ∃ W2, w1.alloc (.cells #[.int .i64 er, .int .i64 (fa : Int), .int .i64 0] 26) = W2 := ⟨_, rfl⟩
  have hb2 : Below w1.heap.size w1 W2 := by rw [← hW2]; exact one_alloc _ _
  have r0 : W2.cell? ⟨w1.heap.size, 0, none⟩ = some (.int .i64 er) := by rw [← hW2]; exact cell_new0 w1 _ 26 0 _ rfl
  have r1 : W2.cell? ⟨w1.heap.size, 1, none⟩ = some (.int .i64 (fa : Int)) := by rw [← hW2]; exact cell_new0 w1 _ 26 1 _ rfl
  have HB2 := hide (hb1.trans (hb2.mono hb1.size))
  have HTK := hide (htk.next hb2)
  have HW2 := hide hW2
  clear htk hb1 hb2 hW2
  by_cases her : er = 0
  · clear herr'
    subst her
    go_upto_region 2 with fail
    rw [HW2.out]
    clear HW2
    go_upto_region 6 with fail
    clear r0 r1
    go_loopg [5, 6] N (fun g lv nv wr => ∃ (lo i : Nat), g + i = N ∧ lv = .int .i64 (lo : Int) ∧ nv = .int .i64 (i : Int) ∧ OkT S lo (ts.drop i) ∧ TkIn wr a ts ∧ Below w.heap.size w wr)
    case atStart => exact ⟨0, 0, by omega, by go_num, by go_num, HOK.out, HTK.out, HB2.out⟩
    case round =>
      clear HOK HTK HB2
      obtain ⟨lo, i, hj, rfl, rfl, hok, htk, hb⟩ := hrel
      have HBR := hide hb
      have HOK := hide hok
      have HTK := hide htk
      clear hok htk hb
      have HLT : Hid (N ≤ 2048) := by rw [← hN]; exact HTK.out.1
      have hNl := HLT.out
      by_cases hi : i < N
      · obtain ⟨t, ht⟩ : ∃ t, ts[i]? = some t := ⟨_, List.getElem?_eq_getElem (by omega)⟩
        obtain ⟨h1, h2, h3, h4, h5⟩ := OkT.next i t HOK.out ht
        rcases HTK.out.2 with h | ⟨g', off, rfl, hg, hcs⟩
        · rw [h] at ht; simp at ht
        obtain ⟨z1, m1, z2, m2, q0, q1, q2, q3, q4, -⟩ := hcs i t ht
        clear hcs
        have hsl := fun W => sub_str st t.at' t.text.length t.text (by rw [HS.out]; exact h4) rfl W (by rw [← HLEN.out]; exact h3)
        have hss := str_size t.text
        generalize strOfNums t.text = SS at *
        generalize t.text.length = n0 at *
        rw [HLEN.out] at h2 h3
        obtain ⟨q, hq⟩ : ∃ q, t.at' = q := ⟨_, rfl⟩
        rw [hq] at h1 h2 h3 h5 q4 hsl
        have HNE := hide h5
        generalize t.lit.shape.length = n1 at *
        generalize t.lit.cells.length = n2 at *
        generalize t.kind = kd at *
        clear h4 h5 hq ht
        have d1 : decide (q < lo) = false := decide_eq_false (by omega)
        have d2 : decide (st.size ≤ q) = false := decide_eq_false (by omega)
        have d3 : decide ((st.size : Int) < (q : Int) + (n0 : Int)) = false := decide_eq_false (by omega)
        have d4 : decide (st.size < q + n0) = false := decide_eq_false (by omega)
        go_upto_region 9 with fail
        obtain ⟨W3, hW3⟩ : ∃ W3, wr.alloc (.cells #[.int .i64 kd, .string SS, .slice z1 n1 m1, .slice z2 n2 m2, .int .i64 (q : Int)] 35) = W3 := ⟨_, rfl⟩
        have hb3 : Below wr.heap.size wr W3 := by rw [← hW3]; exact one_alloc _ _
        have D3 : Wd W3 wr.heap.size kd SS (.slice z1 n1 m1) (.slice z2 n2 m2) (q : Int) := by rw [← hW3]; exact wd_new wr kd SS _ _ _
        have HBN := hide (HBR.out.trans (hb3.mono HBR.out.size))
        have HTN := hide (HTK.out.next hb3)
        rw [hW3]
        obtain ⟨dl, t0, t1, t2, t3, t4, dz⟩ := D3
        clear hW3 hb3 HBR HTK HOK q0 q1 q2 q3 q4
        go_quiet (fail)
        have hq1 : (q : Int) + 1 ≤ 9223372036854775807 := by omega
        have hi1 : (i : Int) + 1 ≤ 9223372036854775807 := by omega
        clear d1 d2 d3 d4 hsl
        go_wp2
        go_roundg (N - (i + 1))
        case rel => exact ⟨q + 1, i + 1, by omega, by first | rfl | go_num, by first | rfl | go_num, HNE.out, HTN.out.next (drewN_below (Below.refl _ _) _), drewN_below HBN.out _⟩
        case measure => omega
      · have HCC := hide (HW7.out wr HBR.out)
        clear HTK HOK HW7
        go_wp2_with fail
        refine HCC.out.mono ?_
        rintro e w5 ⟨rfl, hb5⟩
        go_wp2
        go_ret
        exact ⟨rfl, hb5⟩
  · have hts := herr' her
    subst hts
    have her' : (er != 0) = true := bne_iff_ne.2 her
    have hN0 : N = 0 := by simpa using hN.symm
    subst hN0
    have hf0 : (0 : Int) ≤ (fa : Int) := by omega
    have hf1 : (fa : Int) ≤ (st.size : Int) := by omega
    have HCC := hide (HW7.out W2 HB2.out)
    clear HTK HOK HW7 herr' her HB2
    go_upto_region 2 with fail
    rw [HW2.out]
    clear HW2
    go_wp2_with fail
    refine HCC.out.mono ?_
    rintro e w5 ⟨rfl, hb5⟩
    go_wp2
    go_ret
    exact ⟨rfl, hb5⟩
theorem laid_met (os : Os) : laidMet Tryd.prog Rows.klexPlacesRow.laid ((laidWorld os).forCall (fun _ _ => 0) ⟨#[], #[.string { data := #[] }], []⟩).memory :=
  laidMet_laidAll _ (by kernel_rfl) (by kernel_rfl)
theorem reads (os : Os) {H : Type} (enc : TypeId × Value → H) : ∃ places, DataW.whole enc Tryd.prog ((laidWorld os).forCall (fun _ _ => 0) ⟨#[], #[.string { data := #[] }], []⟩).memory Tryd.f4.params.toList Rows.klexPlacesSpec.vars false #[Value.string { data := #[] }].toList 8 = some ([.lit (.string [])], [], places) :=
  ⟨[], by kernel_rfl⟩
set_option maxRecDepth 100000 in
theorem lifted (os : Os) (started : os.Started) (H : Type) (enc : TypeId × Value → H) (F : Stop.Interp) :
    ReturnsInHanded {} Tryd.checked os 4 .any ((OpenSpec.ofChange Rows.klexPlacesSpec).preRow enc Tryd.prog Tryd.f4 Rows.klexPlacesRow.domain false Rows.klexPlacesRow.laid) (((OpenSpec.ofChange Rows.klexPlacesSpec).at F).post enc Tryd.prog Tryd.f4 false true false false) := by
  obtain ⟨places, hx⟩ := reads os enc
  refine returnsInHanded_of_row (C := Tryd.checked) (s := OpenSpec.ofChange Rows.klexPlacesSpec) own started (by kernel_rfl) Tryd.func4
    (witness_row_at (enc := enc) (C := Tryd.checked) false (laidWorld os) #[.string { data := #[] }] (World.laidAll_os _ _ _) (by kernel_rfl) (by kernel_rfl) (by kernel_rfl)
      (OpenSpec.preRow_of_cond 8 hx (by kernel_rfl) (fun k hk => by cases hk) (by kernel_rfl) (laid_met os))) ?_
  intro W base args ds gs before hval0 hW _ hcond hsz0 hL hsh _
  have hsz : (DataW.weightsEach Tryd.prog (Tryd.f4.params.toList ++ Rows.klexPlacesSpec.plain.varTypes Tryd.prog) (ds ++ gs)).all (· ≤ reachBytes) = true := hsz0
  clear hsz0
  have hval : ∀ (j : Nat) t v, Tryd.f4.params[j]? = some t → args[j]? = some v → Value.okWide Tryd.prog W .any base t v := hval0
  have hW' := hW
  obtain ⟨p, q, hA0, hV, rfl, hfz, hnd⟩ := hW
  have hA : DataW.TrodAll enc Tryd.prog W 0 (fun _ => true) true Tryd.f4.params.toList args.toList ds p := hA0
  rw [Tryd.params4] at hA hval hsz
  obtain ⟨v0, vs0, d0, ds0, p0, q0, hargs, rfl, rfl, h0, r0⟩ := trodAll_cons hA
  obtain ⟨rfl, rfl, rfl⟩ := trodAll_nil r0
  obtain rfl : args = #[v0] := by cases args; simp_all
  obtain ⟨rfl, rfl⟩ := trodVars_none hV
  obtain ⟨s0, rfl, rfl, rfl, w0⟩ := ChangeMaps.open_string Tryd.underlying9 (hval 0 9 v0 rfl rfl) h0
  clear hA0 hval0
  refine (walk s0 W (glb_of hL) w0 ).mono fun e W' ⟨he, bel⟩ => ?_
  subst he
  exact ⟨_, rfl, _, _, _, [], _, [], hW', trodAll_mk1 (shut_bool Tryd.underlying4 _), (trodAll_cons_mk (ChangeMaps.shut_string Tryd.underlying9 w0) trodAll_mk0), rfl, bel.frame _, fun h => by cases h⟩
theorem said : Rows.KlexPlacesSaid :=
  OpenClaim.holds_of_cond 4 Tryd.f4 rfl rfl rfl rfl rfl rfl rfl ⟨rfl, rfl, rfl, rfl, rfl⟩ rfl rfl rfl rfl rfl (by kernel_rfl) Tryd.func4 (by kernel_rfl)
    (of_decide_eq_true (by kernel_rfl)) (by unfold Func.isWrapper; first | (rw [if_pos (by decide +kernel)]; kernel_rfl) | (rw [if_neg (by decide +kernel)]; exact ⟨rfl, rfl⟩))
    (fun os started H enc _ F => by rw [OpenClaim.pre_eq_preRow]; exact lifted os started H enc F)
theorem plain (f : FuncId) (fn : Func) (hf : Tryd.pinned.checked.prog.funcNamed "triglyph/triglyphlaw14.KlexPlaces" = some f) (hfn : Tryd.pinned.checked.prog.funcs[f]? = some fn) :
    true = Tryd.pinned.checked.prog.looks [] ∧ ∀ (j : Nat) t, fn.params[j]? = some t → Tryd.pinned.checked.prog.wantsStandIn t = false := by
  obtain rfl : f = 4 := Option.some.inj ((show Tryd.prog.funcNamed "triglyph/triglyphlaw14.KlexPlaces" = some 4 by kernel_rfl).symm.trans hf) |>.symm
  obtain rfl : fn = Tryd.f4 := (Option.some.inj (Tryd.func4.symm.trans hfn)).symm
  refine ⟨by kernel_rfl, fun j t ht => ?_⟩
  rw [Tryd.params4] at ht
  have hm : t = 9 := by simpa using Array.mem_of_getElem? ht
  subst hm
  exact (show Tryd.prog.wantsStandIn 9 = false by kernel_rfl)
theorem proved : Rows.KlexPlacesCardSaid :=
  Claim7.holds_tied_plain_at .later [] _ _ _ _ said (fun _ h => by cases h) (by kernel_rfl) (fun _ h => by cases h) klexPlaces_row_tie rfl ⟨rfl, rfl⟩ (by kernel_rfl) rfl plain (by kernel_rfl)
end Go.Proofs.YtljanfmmhglpiaaDoor.klexPlaces
namespace Go.Proofs.YtljanfmmhglpiaaDoor
theorem klexPlaces_holds : Rows.KlexPlacesCardSaid := klexPlaces.proved
#print axioms klexPlaces_holds
end Go.Proofs.YtljanfmmhglpiaaDoor
