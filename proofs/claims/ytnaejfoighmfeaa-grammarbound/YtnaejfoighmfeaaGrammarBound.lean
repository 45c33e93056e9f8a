/-
  For all words and grammars the statement GrammarBound holds: a program has at most three nodes a word; words that are none give a fault and nothing else; no condition (the given row speaks of what a machine of 64 bits can hold).
-/
import Derived.Test.YtnaejfoighmfeaaM9
import Derived.Laws.BitsAllLaws
import Derived.Lib.Bits
import Derived.Test.YtnaejfoighmfeaaChecked
import GoSem.Claim
import GoSem.ClaimJoined
import GoSem.ClaimMapViews
import Derived.JoinedTies
import Derived.KernelRfl
import Derived.WalkKit
import Derived.ProofKit
import Derived.Below
import Derived.Deep.QuietTactic
import Derived.BigQuiet
import Derived.Lib.SlBytesConst
import Derived.Laws.BytesArg
import Derived.Laws.MakeOwn
import Derived.Deep.RegionHeld3
import Derived.Laws.AppendOwnNone
import Derived.BigFrame
import Derived.OpenShut
import Derived.ChangeOld
import Derived.SizedLaws
import Derived.Deep.DeepHandedRow
import Derived.Lib.LaidTab
import Derived.Deep.OwnRows
import Derived.Deep.RegionWith
import Derived.Deep.Slices
import Derived.Deep.Strs
import Derived.Deep.LoopGhost
import Derived.Lib.ConvBytes
import Derived.Deep.RegionLaw
import Derived.Deep.CutRange
import Derived.Lib.SliceRun
import Derived.WalkLawsBesides
import Derived.Maps.AppendAt
import Derived.Deep.MidRow
import Derived.Defers
import Derived.Recover
import Derived.Deep.Cut
import Derived.ChangeMaps5
namespace Go.Proofs.Ytnaejfoighmfeaa.grammarBound
open Go.ChangeShapes Go.WideShapes Go.ChangeAt Go.RowKit
set_option linter.unusedVariables false
set_option linter.unusedSimpArgs false
set_option maxRecDepth 100000
set_option maxHeartbeats 8000000 in
theorem walk (n : Nat) (g : Gr) (R : Raw) (ws : List Wo) (e : Int) (w : World) (sv : StrsR w R.av g.verbs) (sa : StrsR w R.aa g.adverbs) (sb : StrsR w R.ab g.behind) (hw : WoR (n + 1) w R.aw ws) :
    Calls Try.prog 5 #[gV g R, .slice R.aw ws.length R.cw, .int .i64 e] w fun en w' => en = .returned (.bool true) ∧ Below w.heap.size w w' := by
  obtain ⟨W0, hW0⟩ : ∃ W0, w.alloc (.cells #[.slice R.av g.verbs.length R.cv, .slice R.aa g.adverbs.length R.ca, .slice R.ab g.behind.length R.cb, .string g.outer, .string g.power, .string g.opn, .string g.cls, .string g.left, .string g.right, .string R.mi, .string R.qu, .bool g.trains, .bool g.lone, .bool g.square] 24) = W0 := ⟨_, rfl⟩
  have b0 : Below w.heap.size w W0 := by rw [← hW0]; exact one_alloc _ _
  have s0 : W0.heap.size = w.heap.size + 1 := by rw [← hW0]; simp
  have hC : Rn.Cs W0 w.heap.size [.slice R.av g.verbs.length R.cv, .slice R.aa g.adverbs.length R.ca, .slice R.ab g.behind.length R.cb, .string g.outer, .string g.power, .string g.opn, .string g.cls, .string g.left, .string g.right, .string R.mi, .string R.qu, .bool g.trains, .bool g.lone, .bool g.square] := by rw [← hW0]; exact Rn.Cs.new w [.slice R.av g.verbs.length R.cv, .slice R.aa g.adverbs.length R.ca, .slice R.ab g.behind.length R.cb, .string g.outer, .string g.power, .string g.opn, .string g.cls, .string g.left, .string g.right, .string R.mi, .string R.qu, .bool g.trains, .bool g.lone, .bool g.square] 24
  have KG : Hid (∀ W, Below W0.heap.size W0 W → Rn.Cs W w.heap.size [.slice R.av g.verbs.length R.cv, .slice R.aa g.adverbs.length R.ca, .slice R.ab g.behind.length R.cb, .string g.outer, .string g.power, .string g.opn, .string g.cls, .string g.left, .string g.right, .string R.mi, .string R.qu, .bool g.trains, .bool g.lone, .bool g.square]) := fun W h => hC.next h (by omega)
  have HL := hide (light7 (g := g) (R := R) (hw.next b0))
  have HP : Hid (Few g ws → ∀ W, Below w.heap.size w W → Calls Try.prog 9 #[gV g R, .slice R.aw ws.length R.cw, .int .i64 e] W fun en w' => GvP n w W (parseS g e ws) en w') := fun hf W hW => parse9 hW (sv.few (by have := hf.2.1; omega)) (sa.few (by have := hf.2.2.1; omega)) (sb.few (by have := hf.2.2.2.1; omega)) (hw.few hf)
  have HB0 := hide b0
  have c0 := hC.c 0 _ rfl
  have c1 := hC.c 1 _ rfl
  have c2 := hC.c 2 _ rfl
  have c3 := hC.c 3 _ rfl
  have c4 := hC.c 4 _ rfl
  have c5 := hC.c 5 _ rfl
  have c6 := hC.c 6 _ rfl
  have c7 := hC.c 7 _ rfl
  have c8 := hC.c 8 _ rfl
  have c9 := hC.c 9 _ rfl
  have c10 := hC.c 10 _ rfl
  have c11 := hC.c 11 _ rfl
  have c12 := hC.c 12 _ rfl
  have c13 := hC.c 13 _ rfl
  clear sv sa sb hw b0 s0 hC
  go_enter Try.func5, Try.ntmps5
  go_upto_region 1 with fail

  clear hW0
  go_wp2_with fail
  refine HL.out.mono ?_
  rintro en w1 ⟨⟨ok, rfl, hok⟩, hb1⟩
  clear c0 c1 c2 c3 c4 c5 c6 c7 c8 c9 c10 c11 c12 c13 HL
  cases ok
  · have HB1 := hide hb1
    clear HP KG hb1
    go_wp2_with fail
    refine Rn.works8.mono ?_
    rintro en w2 ⟨rfl, hb2⟩
    go_wp2
    go_ret
    exact ⟨rfl, (Rn.bel_next HB0.out HB1.out).trans (hb2.mono (Rn.bel_next HB0.out HB1.out).size)⟩
  have hf := hok rfl
  have h1 := Rn.bel_next HB0.out hb1
  have HP1 := hide (HP.out hf w1 h1)
  have hC := KG.out w1 hb1
  have c0 := hC.c 0 _ rfl
  have c1 := hC.c 1 _ rfl
  have c2 := hC.c 2 _ rfl
  have c3 := hC.c 3 _ rfl
  have c4 := hC.c 4 _ rfl
  have c5 := hC.c 5 _ rfl
  have c6 := hC.c 6 _ rfl
  have c7 := hC.c 7 _ rfl
  have c8 := hC.c 8 _ rfl
  have c9 := hC.c 9 _ rfl
  have c10 := hC.c 10 _ rfl
  have c11 := hC.c 11 _ rfl
  have c12 := hC.c 12 _ rfl
  have c13 := hC.c 13 _ rfl
  have hlen := hf.1
  have HB1 := hide h1
  clear HP KG hok hf hb1 h1 hC HB0
  go_wp2_with fail
  refine HP1.out.mono ?_
  rintro en w2 ⟨hb2, hres⟩
  clear c0 c1 c2 c3 c4 c5 c6 c7 c8 c9 c10 c11 c12 c13 HP1
  have HB2 := hide (Rn.bel_next HB1.out hb2)
  clear hb2 HB1
  cases hr : parseS g e ws with
  | stuck => rw [hr] at hres; exact hres.elim
  | bad er pl =>
    rw [hr] at hres
    have her := parse_er hr
    subst hres
    have her' : (er != 0) = true := by rcases her with rfl | rfl <;> rfl
    have her'' : (er == 0) = false := by rcases her with rfl | rfl <;> rfl
    clear hr her
    go_upto_region 5 with fail
    go_wp2_with fail
    refine (same_nil _).mono ?_
    rintro en w3 ⟨rfl, hb3⟩
    have HB3 := hide (Rn.bel_next (Rn.bel_next HB2.out (two_allocs w2 _ _)) hb3)
    clear hb3 HB2
    go_wp2_with fail
    refine Rn.works8.mono ?_
    rintro en w4 ⟨rfl, hb4⟩
    go_wp2
    go_ret
    exact ⟨rfl, Rn.bel_next HB3.out hb4⟩
  | ok x =>
    rw [hr] at hres
    obtain ⟨v, m, rfl, htr⟩ := hres
    have hsz := parse_size hr m
    have hin := htr.ndIn
    obtain ⟨m', hm', a1, c1, a2, c2, ak, ck, rfl, -, -, -, -⟩ := htr.form
    have HS : Hid (∀ W, Below w2.heap.size w2 W → Calls Try.prog 11 #[.agg #[.int .i64 x.kind, .int .i64 x.op, .string x.name, .slice a1 x.lit.shape.length c1, .slice a2 x.lit.cells.length c2, .slice ak x.kids.length ck, .int .i64 x.pos]] W fun e w' => e = .returned (.int .i64 (sizeN m x : Nat)) ∧ Below W.heap.size W w') := fun W hW => size13 m _ x 0 _ W (hin.next hW) (by omega)
    have hle : ((sizeN m x : Nat) : Int) ≤ 3 * (ws.length : Int) := by omega
    clear hr htr hin hm'
    generalize sizeN m x = SZ at *
    generalize ws.length = LN at *
    generalize x.kind = K at *
    generalize x.op = O at *
    generalize x.name = S at *
    generalize x.pos = P at *
    generalize x.kids.length = LK at *
    generalize x.lit.shape.length = L1 at *
    generalize x.lit.cells.length = L2 at *
    go_upto_region 6 with fail
    go_wp2_with fail
    refine (HS.out _ (two_allocs w2 _ _)).mono ?_
    rintro en w3 ⟨rfl, hb3⟩
    have HB3 := hide (Rn.bel_next (Rn.bel_next HB2.out (two_allocs w2 _ _)) hb3)
    clear hb3 HB2 HS
    go_wp2_with fail
    refine Rn.works8.mono ?_
    rintro en w4 ⟨rfl, hb4⟩
    go_wp2
    go_ret
    exact ⟨rfl, Rn.bel_next HB3.out hb4⟩
theorem agg_of {v : Value} {l : List Value} (h : v.cells.toList = l) (h2 : 2 ≤ l.length) : v = .agg l.toArray := by
  cases v with
  | agg a => simp [Value.cells] at h; rw [← h]
  | _ => simp [Value.cells] at h; subst h; exact absurd h2 (by simp)
theorem slice_of {a b : Option Addr} {n m c d : Nat} (h : (Value.slice a n c).cells.toList = [.slice b m d]) : a = b ∧ n = m ∧ c = d := by
  simpa [Value.cells] using h
theorem fit_of {H : Type} {ts : List TypeId} {ds : List (DataW H)} {j : Nat} {t : TypeId} {d : DataW H} (hsz : (DataW.weightsEach Try.prog ts ds).all (· ≤ reachBytes) = true) (ht : ts[j]? = some t) (hd : ds[j]? = some d) : Fit t d := fun n hn => by
  have := List.all_eq_true.1 hsz n (DataW.weights_mem_each ht hd n hn)
  simpa using this
set_option maxRecDepth 100000 in
theorem lifted (os : Os) (started : os.Started) (H : Type) (enc : TypeId × Value → H) :
    ReturnsInHanded {} Try.checked os 5 .any (Rows.grammarBoundSpec.pre6 enc Try.prog Try.f5 Rows.grammarBoundRow.domain false) (Rows.grammarBoundSpec.post enc Try.prog Try.f5 false true false false) := by
  refine returnsInHanded_of_change_sized (C := Try.checked) own started (by kernel_rfl) Try.func5
    (ChangeSpec.witness6 (enc := enc) (C := Try.checked) false ⟨#[], #[.agg #[.slice none 0 0, .slice none 0 0, .slice none 0 0, .string { data := #[] }, .string { data := #[] }, .string { data := #[] }, .string { data := #[] }, .string { data := #[] }, .string { data := #[] }, .string { data := #[] }, .string { data := #[] }, .bool false, .bool false, .bool false], .slice none 0 0, .int .i64 0], []⟩ 8 (by kernel_rfl) (by kernel_rfl) (by kernel_rfl) (by kernel_rfl)) ?_
  intro W base args ds gs before hval0 hW _ hsz0 _
  have hsz : (DataW.weightsEach Try.prog (Try.f5.params.toList ++ Rows.grammarBoundSpec.plain.varTypes Try.prog) (ds ++ gs)).all (· ≤ reachBytes) = true := hsz0
  clear hsz0
  have hval : ∀ (j : Nat) t v, Try.f5.params[j]? = some t → args[j]? = some v → Value.okWide Try.prog W .any base t v := hval0
  have hW' := hW
  obtain ⟨p, q, hA0, hV, rfl, hfz, hnd⟩ := hW
  have hA : DataW.TrodAll enc Try.prog W 0 (fun _ => true) true Try.f5.params.toList args.toList ds p := hA0
  rw [Try.params5] at hA hval hsz
  obtain ⟨v0, vs0, d0, ds0, p0, q0, hargs, rfl, rfl, h0, r0⟩ := trodAll_cons hA
  obtain ⟨v1, vs1, d1, ds1, p1, q1, rfl, rfl, rfl, h1, r1⟩ := trodAll_cons r0
  obtain ⟨v2, vs2, d2, ds2, p2, q2, rfl, rfl, rfl, h2, r2⟩ := trodAll_cons r1
  obtain ⟨rfl, rfl, rfl⟩ := trodAll_nil r2
  obtain rfl : args = #[v0, v1, v2] := by cases args; simp_all
  obtain ⟨rfl, rfl⟩ := trodVars_none hV
  have k0 := h0
  have lt0 : ∀ x ∈ p0, x.block < W.heap.size := by obtain ⟨m, hm⟩ := k0; exact DataW.trod_lt m _ _ _ hm
  obtain ⟨fu0, hfu0⟩ := h0
  obtain ⟨g, R, hc0, s1, s2, s3⟩ := open_gram hfu0
  obtain rfl : v0 = gV g R := agg_of hc0 (by simp [Value.cells])
  obtain ⟨a1, len1, cap1, rfl⟩ := okWide_slice Try.underlying25 (hval 1 25 v1 rfl rfl)
  have k1 := h1
  have lt1 : ∀ x ∈ p1, x.block < W.heap.size := by obtain ⟨m, hm⟩ := k1; exact DataW.trod_lt m _ _ _ hm
  have hft : Fit 25 d1 := fit_of hsz (j := 1) rfl rfl
  obtain ⟨fu1, hfu1⟩ := h1
  obtain ⟨n, ws, a, c, hc1, hws⟩ := open_toks hfu1 hft
  obtain ⟨rfl, rfl, rfl⟩ := slice_of hc1
  obtain ⟨x2, rfl, rfl, rfl, w2⟩ := open_int Try.underlying3 (hval 2 3 v2 rfl rfl) h2
  clear hA0 hval0
  refine (walk n g { R with aw := a1, cw := cap1 } ws x2 W s1 s2 s3 (hws.deeper (Nat.le_succ n))).mono fun e W' ⟨he, bel⟩ => ?_
  subst he
  exact ⟨_, rfl, _, _, _, [], _, [], hW', trodAll_mk1 (shut_bool Try.underlying4 _), (trodAll_cons_mk (Below.trod laidOut (by kernel_rfl) (of_decide_eq_true (by kernel_rfl)) k0 bel lt0) (trodAll_cons_mk (Below.trod laidOut (by kernel_rfl) (of_decide_eq_true (by kernel_rfl)) k1 bel lt1) (trodAll_cons_mk (shut_int Try.underlying3 w2) trodAll_mk0))), rfl, bel.frame _, fun h => by cases h⟩
theorem over : Rows.grammarBoundRow.holds Try.pinned (OpenSpec.ofChange Rows.grammarBoundSpec) :=
  OpenClaim.holds_of_wide 5 Try.f5 rfl rfl rfl rfl rfl rfl rfl ⟨rfl, rfl, rfl, rfl, rfl⟩ rfl rfl rfl rfl rfl (by kernel_rfl) Try.func5 (by kernel_rfl)
    (of_decide_eq_true (by kernel_rfl)) (by unfold Func.isWrapper; first | (rw [if_pos (by decide +kernel)]; kernel_rfl) | (rw [if_neg (by decide +kernel)]; exact ⟨rfl, rfl⟩))
    (fun os started H enc _ => lifted os started H enc)
theorem proved : Rows.GrammarBoundSaid := over
end Go.Proofs.Ytnaejfoighmfeaa.grammarBound
namespace Go.Proofs.Ytnaejfoighmfeaa
theorem grammarBound_holds : Rows.GrammarBoundSaid := grammarBound.proved
#print axioms grammarBound_holds
end Go.Proofs.Ytnaejfoighmfeaa
