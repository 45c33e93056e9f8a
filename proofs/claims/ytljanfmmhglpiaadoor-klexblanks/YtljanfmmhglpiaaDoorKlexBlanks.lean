/-
  KlexBlanks is proved: for every text and every number of blanks, if the text has words, blanks behind it turn nothing, and blanks ahead of it turn the places of its words alone; the law answers true. Conditions: those of the card (the listed package-level variables are laid as the program's text lays them); none besides.
-/
import Derived.Test.YtljanfmmhglpiaaDoorLxR
namespace Go.Proofs.YtljanfmmhglpiaaDoor.klexBlanks
open Go.ChangeShapes Go.WideShapes Go.ChangeAt Go.RowKit
open Rn (Byte)
set_option linter.unusedVariables false
set_option linter.unusedSimpArgs false
set_option maxRecDepth 100000
def blk : Nat → ByteArray
  | 0 => ⟨#[]⟩
  | i + 1 => blk i ++ ⟨#[32]⟩
theorem blk_nums (i : Nat) : numsS (blk i) = List.replicate i 32 := by
  induction i with
  | zero => rfl
  | succ i ih =>
    rw [blk, numsS_app, ih, List.replicate_succ']
    rfl
theorem blk_size (i : Nat) : (blk i).size = i := by rw [← numsS_len, blk_nums, List.length_replicate]
theorem lexM_ahead {S : List Int} (k : Nat) (h : k + S.length ≤ 8192) : lexM (List.replicate k 32 ++ S) = shT k (lexM S) := by
  unfold lexM
  rw [if_neg (by rw [List.length_append, List.length_replicate]; omega), if_neg (by omega), lex_ahead, lexB_shift, lex_fuel (S.length + 1) _ 0 0 32 S (by omega) (by rw [List.length_append, List.length_replicate]; omega)]
set_option maxHeartbeats 32000000 in
theorem walk (st : ByteArray) (k : Int) (w : World) (G : Glb w) (h1 : st.size ≤ maxLen) (hk : 0 ≤ k ∧ k ≤ 255) : Calls Tryd.prog 3 #[.string st, .int .u8 k] w fun e w' => e = .returned (.bool true) ∧ Below w.heap.size w w' := by
  have HW7 : Hid (∀ W, Below w.heap.size w W → Calls Tryd.prog 7 #[] W fun e w' => e = .returned (.bool true) ∧ Below w.heap.size w w') := fun W h => (works7 (G.nx h)).mono fun e w' ⟨he, hb⟩ => ⟨he, h.trans (hb.mono h.size)⟩
  obtain ⟨hk0, hk1⟩ := hk
  by_cases hl : 4000 < st.size
  · have hl' : 4000 < (st.size : Int) := by omega
    have HCC := hide (HW7.out w (Below.refl _ _))
    clear HW7 G
    go_enter Tryd.func3, Tryd.ntmps3
    go_wp2_with fail
    refine HCC.out.mono ?_
    rintro e w5 ⟨rfl, hb5⟩
    go_wp2
    go_ret
    exact ⟨rfl, hb5⟩
  · have hl' : ¬ 4000 < (st.size : Int) := by omega
    obtain ⟨n, rfl⟩ : ∃ n : Nat, k = (n : Int) := ⟨k.toNat, by omega⟩
    have hn : n ≤ 255 := by omega
    obtain ⟨ts, er, fa, N, hF, hN, C0⟩ := lexed G st h1
    have HC := hide C0
    have hF2 : lexM (numsS (blk n ++ st)) = shT n (ts, er, fa) := by
      rw [numsS_app, blk_nums, ← hF]
      exact lexM_ahead n (by rw [numsS_len]; omega)
    have HC2 : Hid (∀ W, Below w.heap.size w W → Calls Tryd.prog 8 #[.string (blk n ++ st)] W fun e w' => (∃ a c, e = .returned (.tuple #[.slice a N c, .agg #[.int .i64 er, .int .i64 ((if er = 0 then fa else fa + n : Nat) : Int), .int .i64 0]]) ∧ TkIn w' a (ts.map fun t => ⟨t.kind, t.text, t.lit, t.at' + n⟩)) ∧ Below W.heap.size W w') := fun W h => by
      have := lex8 (G.nx h) (blk n ++ st) (by rw [ByteArray.size_append, blk_size]; unfold maxLen; omega)
      rw [hF2] at this
      have hN2 : (ts.map fun t => (⟨t.kind, t.text, t.lit, t.at' + n⟩ : Tk)).length = N := by rw [List.length_map]; exact hN
      rw [← hN2]
      exact this
    have HC3 : Hid (er = 0 → ∀ W, Below w.heap.size w W → Calls Tryd.prog 8 #[.string (st ++ blk n)] W fun e w' => (∃ a c, e = .returned (.tuple #[.slice a N c, .agg #[.int .i64 0, .int .i64 (fa : Int), .int .i64 0]]) ∧ TkIn w' a ts) ∧ Below W.heap.size W w') := fun he W h => by
      have := lex8 (G.nx h) (st ++ blk n) (by rw [ByteArray.size_append, blk_size]; unfold maxLen; omega)
      rw [numsS_app, blk_nums, lexM_more ⟨n, rfl⟩ (by rw [List.length_append, List.length_replicate, numsS_len]; omega) (by rw [hF]; exact he), hF, he] at this
      rw [← hN]
      exact this
    have HCX : Hid (∀ W, Below w.heap.size w W → Calls Tryd.prog 8 #[.string (st ++ blk n)] W fun e w' => (∃ a c M er2 fb, e = .returned (.tuple #[.slice a M c, .agg #[.int .i64 er2, .int .i64 fb, .int .i64 0]])) ∧ Below W.heap.size W w') := fun W h => by
      refine (lex8 (G.nx h) (st ++ blk n) (by rw [ByteArray.size_append, blk_size]; unfold maxLen; omega)).mono ?_
      rintro e w' ⟨⟨a, c, he, -⟩, hb⟩
      exact ⟨⟨a, c, _, _, _, he⟩, hb⟩
    have HSA : Hid (∀ W a c b d, TkIn W a ts → TkIn W b ts → Calls Tryd.prog 9 #[.slice a N c, .slice b N d] W fun e w' => e = .returned (.bool true) ∧ Below W.heap.size W w') := fun W a c b d ha hb => same9 hN ha hb
    have HPL : Hid (∀ (i : Nat) (t : Tk), ts[i]? = some t → t.at' ≤ 8192) := fun i t hi => by
      have := (lexB_places (numsS st) ((numsS st).length + 1) 0 0 32 (Nat.zero_le _)).1
      unfold lexM at hF
      rw [if_neg (by rw [numsS_len]; omega)] at hF
      rw [List.drop_zero, hF] at this
      have := (okT_at this i t hi)
      rw [numsS_len] at this
      omega
    clear C0 hF hF2 G h1 hl hk0 hk1
    have hnI : (n : Int) ≤ 255 := by omega
    go_enter Tryd.func3, Tryd.ntmps3
    go_upto_region 5 with fail
    go_loopg [5, 6] n (fun g sv nv wr => ∃ (i : Nat) (S : ByteArray), g + i = n ∧ blk i = S ∧ sv = .string S ∧ nv = .int .i64 (i : Int) ∧ wr = w)
    case atStart => exact ⟨0, _, by omega, rfl, rfl, by go_num, rfl⟩
    case round =>
      obtain ⟨i, S, hj, hS, rfl, rfl, rfl⟩ := hrel
      have HS := hide hS
      have hsS : (S.size : Int) ≤ 8388608 := by rw [← hS, blk_size]; omega
      clear hS
      by_cases hi : i < n
      · have hi1 : (i : Int) + 1 ≤ 9223372036854775807 := by omega
        obtain ⟨S1, hS1⟩ : ∃ S1, S ++ ⟨#[32]⟩ = S1 := ⟨_, rfl⟩
        have HS1 := hide hS1
        go_wp2
        go_roundg (n - (i + 1))
        case rel => exact ⟨i + 1, _, by omega, by rw [blk, HS.out, HS1.out], rfl, by first | rfl | go_num, rfl⟩
        case measure => omega
      · have hin : i = n := by omega
        subst hin
        have HC3' : Hid (er = 0 → ∀ W, Below wr.heap.size wr W → Calls Tryd.prog 8 #[.string (st ++ S)] W fun e w' => (∃ a c, e = .returned (.tuple #[.slice a N c, .agg #[.int .i64 0, .int .i64 (fa : Int), .int .i64 0]]) ∧ TkIn w' a ts) ∧ Below W.heap.size W w') := by rw [← HS.out]; exact HC3
        have HCX' : Hid (∀ W, Below wr.heap.size wr W → Calls Tryd.prog 8 #[.string (st ++ S)] W fun e w' => (∃ a c M er2 fb, e = .returned (.tuple #[.slice a M c, .agg #[.int .i64 er2, .int .i64 fb, .int .i64 0]])) ∧ Below W.heap.size W w') := by rw [← HS.out]; exact HCX
        have HC2' : Hid (∀ W, Below wr.heap.size wr W → Calls Tryd.prog 8 #[.string (S ++ st)] W fun e w' => (∃ a c, e = .returned (.tuple #[.slice a N c, .agg #[.int .i64 er, .int .i64 ((if er = 0 then fa else fa + i : Nat) : Int), .int .i64 0]]) ∧ TkIn w' a (ts.map fun t => ⟨t.kind, t.text, t.lit, t.at' + i⟩)) ∧ Below W.heap.size W w') := by rw [← HS.out]; exact HC2
        clear HC2 HC3 HCX HS hj hi
        have hst : (st.size : Int) ≤ 8388608 := by omega
        go_wp2_with fail
        refine HC.out.mono ?_
        rintro e w1 ⟨⟨a, c, rfl, htk⟩, hb1⟩
        clear HC
        obtain ⟨W2, hW2⟩ : ∃ W2, w1.alloc (.cells #[.int .i64 er, .int .i64 (fa : Int), .int .i64 0] 26) = W2 := ⟨_, rfl⟩
        have hb2 : Below w1.heap.size w1 W2 := by rw [← hW2]; exact one_alloc _ _
        have r0 : W2.cell? ⟨w1.heap.size, 0, none⟩ = some (.int .i64 er) := by rw [← hW2]; exact cell_new0 w1 _ 26 0 _ rfl
        have hlt2 : w1.heap.size < W2.heap.size := by rw [← hW2]; simp
        have HB2 := hide (hb1.trans (hb2.mono hb1.size))
        have HTK := hide (htk.next hb2)
        have HW2 := hide hW2
        have HR := hide (And.intro r0 hlt2)
        clear htk hb1 hb2 hW2 r0 hlt2
        go_upto_region 9 with fail
        rw [HW2.out]
        clear HW2
        by_cases her : er = 0
        · subst her
          have HCL := hide (HC3'.out rfl W2 HB2.out)
          have HCG : Hid (∀ W, Below wr.heap.size wr W → Calls Tryd.prog 8 #[.string (S ++ st)] W fun e w' => (∃ a c, e = .returned (.tuple #[.slice a N c, .agg #[.int .i64 0, .int .i64 (fa : Int), .int .i64 0]]) ∧ TkIn w' a (ts.map fun t => ⟨t.kind, t.text, t.lit, t.at' + i⟩)) ∧ Below W.heap.size W w') := fun W h => HC2'.out W h
          clear HC3' HC2' HCX'
          obtain ⟨us, hus⟩ : ∃ us, ts.map (fun t => (⟨t.kind, t.text, t.lit, t.at' + i⟩ : Tk)) = us := ⟨_, rfl⟩
          rw [hus] at HCG
          have HUS := hide hus
          clear hus
          go_wp2_with fail
          refine HCL.out.mono ?_
          rintro e w3 ⟨⟨b, d, rfl, htk3⟩, hb3⟩
          clear HCL
          obtain ⟨W4, hW4⟩ : ∃ W4, w3.alloc (.cells #[.int .i64 0, .int .i64 (fa : Int), .int .i64 0] 26) = W4 := ⟨_, rfl⟩
          have hb4 : Below w3.heap.size w3 W4 := by rw [← hW4]; exact one_alloc _ _
          have hb24 := hb3.trans (hb4.mono hb3.size)
          have s0 : W4.cell? ⟨w3.heap.size, 0, none⟩ = some (.int .i64 0) := by rw [← hW4]; exact cell_new0 w3 _ 26 0 _ rfl
          have r0 := (hb24.cell (p := ⟨w1.heap.size, 0, none⟩) HR.out.2).trans HR.out.1
          have HB4 := hide (HB2.out.trans (hb24.mono HB2.out.size))
          have HTA := hide (HTK.out.next hb24)
          have HCS := hide (HSA.out W4 a c b d (HTK.out.next hb24) (htk3.next hb4))
          have HW4 := hide hW4
          clear htk3 hb3 hb4 hb24 hW4 HTK HB2 HR HSA
          go_upto_region 10 with fail
          rw [HW4.out]
          clear HW4
          go_wp2_with fail
          refine HCS.out.mono ?_
          rintro e w5 ⟨rfl, hb5⟩
          have HB5 := hide (HB4.out.trans (hb5.mono HB4.out.size))
          have HTA5 := hide (HTA.out.next hb5)
          have HCL3 := hide (HCG.out w5 HB5.out)
          clear HCS hb5 r0 s0 HTA HB4 HCG
          go_wp2_with fail
          refine HCL3.out.mono ?_
          rintro e w6 ⟨⟨b6, d6, rfl, htk6⟩, hb6⟩
          clear HCL3
          obtain ⟨W7, hW7⟩ : ∃ W7, w6.alloc (.cells #[.int .i64 0, .int .i64 (fa : Int), .int .i64 0] 26) = W7 := ⟨_, rfl⟩
          have hb7 : Below w6.heap.size w6 W7 := by rw [← hW7]; exact one_alloc _ _
          have hb57 := hb6.trans (hb7.mono hb6.size)
          have u0 : W7.cell? ⟨w6.heap.size, 0, none⟩ = some (.int .i64 0) := by rw [← hW7]; exact cell_new0 w6 _ 26 0 _ rfl
          have HB7 := hide (HB5.out.trans (hb57.mono HB5.out.size))
          have HTA7 := hide (HTA5.out.next hb57)
          have HTB7 := hide (htk6.next hb7)
          have HW7w := hide hW7
          clear htk6 hb6 hb7 hb57 hW7 HTA5 HB5
          go_upto_region 15 with fail
          rw [HW7w.out]
          clear HW7w
          go_upto_region 18 with fail
          clear u0
          go_loopg [13] N (fun g nv wq => ∃ (j : Nat), g + j = N ∧ nv = .int .i64 (j : Int) ∧ Below W7.heap.size W7 wq)
          case atStart => exact ⟨0, by omega, by go_num, Below.refl _ _⟩
          case round =>
            obtain ⟨j, hj, rfl, hbq⟩ := hrel
            by_cases hjN : j < N
            · obtain ⟨t, ht⟩ : ∃ t, ts[j]? = some t := ⟨_, List.getElem?_eq_getElem (by omega)⟩
              have hu : us[j]? = some ⟨t.kind, t.text, t.lit, t.at' + i⟩ := by rw [← HUS.out, List.getElem?_map, ht]; rfl
              have hpl := HPL.out j t ht
              have hN8 : N ≤ 2048 := by rw [← hN]; exact HTA7.out.1
              rcases (HTA7.out.next hbq).2 with h | ⟨ga, oa, rfl, hga, hca⟩
              · rw [h] at ht; simp at ht
              rcases (HTB7.out.next hbq).2 with h | ⟨gb, ob, rfl, hgb, hcb⟩
              · rw [h] at hu; simp at hu
              obtain ⟨z1, m1, z2, m2, q0, q1, q2, q3, q4, -⟩ := hca j t ht
              obtain ⟨y1, k1, y2, k2, p0, p1, p2, p3, p4, -⟩ := hcb j _ hu
              clear hca hcb ht hu q2 q3 p2 p3
              have p0' : wr.cell? ⟨gb, ob + j * 5, none⟩ = some (.int .i64 t.kind) := p0
              have p1' : wr.cell? ⟨gb, ob + j * 5 + 1, none⟩ = some (.string (strOfNums t.text)) := p1
              have p4' : wr.cell? ⟨gb, ob + j * 5 + 4, none⟩ = some (.int .i64 ((t.at' : Int) + (i : Int))) := by rw [p4]; simp
              clear p0 p1 p4
              generalize strOfNums t.text = SS at *
              generalize t.kind = kd at *
              obtain ⟨q, hq⟩ : ∃ q, t.at' = q := ⟨_, rfl⟩
              rw [hq] at hpl q4 p4'
              have hqi : (q : Int) + (i : Int) ≤ 9223372036854775807 := by omega
              have wr1 : IntKind.i64.wrap ((q : Int) + (i : Int)) = (q : Int) + (i : Int) := IntWalk.i64_in _ ⟨by omega, by omega⟩
              clear hq
              have HBQ := hide hbq
              clear hbq HPL HUS HW7 HTA7 HTB7
              go_upto_region 20 with fail
              go_quiet (fail)
              have hj1 : (j : Int) + 1 ≤ 9223372036854775807 := by omega
              go_wp2
              go_roundg (N - (j + 1))
              case rel => exact ⟨j + 1, by omega, by first | rfl | go_num, drewN_below HBQ.out _⟩
              case measure => omega
            · have HCC := hide (HW7.out wr (HB7.out.trans (hbq.mono HB7.out.size)))
              clear HTA7 HTB7 HPL HUS hbq
              go_wp2_with fail
              refine HCC.out.mono ?_
              rintro e w8 ⟨rfl, hb8⟩
              go_wp2
              go_ret
              exact ⟨rfl, hb8⟩
        · have her' : (er != 0) = true := bne_iff_ne.2 her
          have HCL := hide (HCX'.out W2 HB2.out)
          clear HC3' HC2' HCX' HSA HPL HTK her
          go_wp2_with fail
          refine HCL.out.mono ?_
          rintro e w3 ⟨⟨b, d, M, er2, fb, rfl⟩, hb3⟩
          clear HCL
          obtain ⟨W4, hW4⟩ : ∃ W4, w3.alloc (.cells #[.int .i64 er2, .int .i64 fb, .int .i64 0] 26) = W4 := ⟨_, rfl⟩
          have hb4 : Below w3.heap.size w3 W4 := by rw [← hW4]; exact one_alloc _ _
          have hb24 := hb3.trans (hb4.mono hb3.size)
          have r0 := (hb24.cell (p := ⟨w1.heap.size, 0, none⟩) HR.out.2).trans HR.out.1
          have HCC := hide (HW7.out W4 (HB2.out.trans (hb24.mono HB2.out.size)))
          have HW4 := hide hW4
          clear hb3 hb4 hb24 hW4 HR HW7
          go_upto_region 10 with fail
          rw [HW4.out]
          clear HW4
          go_wp2_with fail
          refine HCC.out.mono ?_
          rintro e w5 ⟨rfl, hb5⟩
          go_wp2
          go_ret
          exact ⟨rfl, hb5⟩
theorem laid_met (os : Os) : laidMet Tryd.prog Rows.klexBlanksRow.laid ((laidWorld os).forCall (fun _ _ => 0) ⟨#[], #[.string { data := #[] }, .int .u8 0], []⟩).memory :=
  laidMet_laidAll _ (by kernel_rfl) (by kernel_rfl)
theorem reads (os : Os) {H : Type} (enc : TypeId × Value → H) : ∃ places, DataW.whole enc Tryd.prog ((laidWorld os).forCall (fun _ _ => 0) ⟨#[], #[.string { data := #[] }, .int .u8 0], []⟩).memory Tryd.f3.params.toList Rows.klexBlanksSpec.vars false #[Value.string { data := #[] }, Value.int .u8 0].toList 8 = some ([.lit (.string []), .lit (.int .u8 0)], [], places) :=
  ⟨[], by kernel_rfl⟩
set_option maxRecDepth 100000 in
theorem lifted (os : Os) (started : os.Started) (H : Type) (enc : TypeId × Value → H) (F : Stop.Interp) :
    ReturnsInHanded {} Tryd.checked os 3 .any ((OpenSpec.ofChange Rows.klexBlanksSpec).preRow enc Tryd.prog Tryd.f3 Rows.klexBlanksRow.domain false Rows.klexBlanksRow.laid) (((OpenSpec.ofChange Rows.klexBlanksSpec).at F).post enc Tryd.prog Tryd.f3 false true false false) := by
  obtain ⟨places, hx⟩ := reads os enc
  refine returnsInHanded_of_row (C := Tryd.checked) (s := OpenSpec.ofChange Rows.klexBlanksSpec) own started (by kernel_rfl) Tryd.func3
    (witness_row_at (enc := enc) (C := Tryd.checked) false (laidWorld os) #[.string { data := #[] }, .int .u8 0] (World.laidAll_os _ _ _) (by kernel_rfl) (by kernel_rfl) (by kernel_rfl)
      (OpenSpec.preRow_of_cond 8 hx (by kernel_rfl) (fun k hk => by cases hk) (by kernel_rfl) (laid_met os))) ?_
  intro W base args ds gs before hval0 hW _ hcond hsz0 hL hsh _
  have hsz : (DataW.weightsEach Tryd.prog (Tryd.f3.params.toList ++ Rows.klexBlanksSpec.plain.varTypes Tryd.prog) (ds ++ gs)).all (· ≤ reachBytes) = true := hsz0
  clear hsz0
  have hval : ∀ (j : Nat) t v, Tryd.f3.params[j]? = some t → args[j]? = some v → Value.okWide Tryd.prog W .any base t v := hval0
  have hW' := hW
  obtain ⟨p, q, hA0, hV, rfl, hfz, hnd⟩ := hW
  have hA : DataW.TrodAll enc Tryd.prog W 0 (fun _ => true) true Tryd.f3.params.toList args.toList ds p := hA0
  rw [Tryd.params3] at hA hval hsz
  obtain ⟨v0, vs0, d0, ds0, p0, q0, hargs, rfl, rfl, h0, r0⟩ := trodAll_cons hA
  obtain ⟨v1, vs1, d1, ds1, p1, q1, rfl, rfl, rfl, h1, r1⟩ := trodAll_cons r0
  obtain ⟨rfl, rfl, rfl⟩ := trodAll_nil r1
  obtain rfl : args = #[v0, v1] := by cases args; simp_all
  obtain ⟨rfl, rfl⟩ := trodVars_none hV
  obtain ⟨s0, rfl, rfl, rfl, w0⟩ := ChangeMaps.open_string Tryd.underlying9 (hval 0 9 v0 rfl rfl) h0
  obtain ⟨x1, rfl, rfl, rfl, w1⟩ := open_int Tryd.underlying5 (hval 1 5 v1 rfl rfl) h1
  clear hA0 hval0
  refine (walk s0 x1 W (glb_of hL) w0 (bounds_u8 w1)).mono fun e W' ⟨he, bel⟩ => ?_
  subst he
  exact ⟨_, rfl, _, _, _, [], _, [], hW', trodAll_mk1 (shut_bool Tryd.underlying4 _), (trodAll_cons_mk (ChangeMaps.shut_string Tryd.underlying9 w0) (trodAll_cons_mk (shut_int Tryd.underlying5 w1) trodAll_mk0)), rfl, bel.frame _, fun h => by cases h⟩
theorem said : Rows.KlexBlanksSaid :=
  OpenClaim.holds_of_cond 3 Tryd.f3 rfl rfl rfl rfl rfl rfl rfl ⟨rfl, rfl, rfl, rfl, rfl⟩ rfl rfl rfl rfl rfl (by kernel_rfl) Tryd.func3 (by kernel_rfl)
    (of_decide_eq_true (by kernel_rfl)) (by unfold Func.isWrapper; first | (rw [if_pos (by decide +kernel)]; kernel_rfl) | (rw [if_neg (by decide +kernel)]; exact ⟨rfl, rfl⟩))
    (fun os started H enc _ F => by rw [OpenClaim.pre_eq_preRow]; exact lifted os started H enc F)
theorem plain (f : FuncId) (fn : Func) (hf : Tryd.pinned.checked.prog.funcNamed "triglyph/triglyphlaw14.KlexBlanks" = some f) (hfn : Tryd.pinned.checked.prog.funcs[f]? = some fn) :
    true = Tryd.pinned.checked.prog.looks [] ∧ ∀ (j : Nat) t, fn.params[j]? = some t → Tryd.pinned.checked.prog.wantsStandIn t = false := by
  obtain rfl : f = 3 := Option.some.inj ((show Tryd.prog.funcNamed "triglyph/triglyphlaw14.KlexBlanks" = some 3 by kernel_rfl).symm.trans hf) |>.symm
  obtain rfl : fn = Tryd.f3 := (Option.some.inj (Tryd.func3.symm.trans hfn)).symm
  refine ⟨by kernel_rfl, fun j t ht => ?_⟩
  rw [Tryd.params3] at ht
  have hm : t = 9 ∨ t = 5 := by simpa using Array.mem_of_getElem? ht
  rcases hm with rfl | rfl
  · exact (show Tryd.prog.wantsStandIn 9 = false by kernel_rfl)
  · exact (show Tryd.prog.wantsStandIn 5 = false by kernel_rfl)
theorem proved : Rows.KlexBlanksCardSaid :=
  Claim7.holds_tied_plain_at .later [] _ _ _ _ said (fun _ h => by cases h) (by kernel_rfl) (fun _ h => by cases h) klexBlanks_row_tie rfl ⟨rfl, rfl⟩ (by kernel_rfl) rfl plain (by kernel_rfl)
end Go.Proofs.YtljanfmmhglpiaaDoor.klexBlanks
namespace Go.Proofs.YtljanfmmhglpiaaDoor
theorem klexBlanks_holds : Rows.KlexBlanksCardSaid := klexBlanks.proved
#print axioms klexBlanks_holds
end Go.Proofs.YtljanfmmhglpiaaDoor
