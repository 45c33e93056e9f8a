/-
  A function: the contract of function, one deeper; for all words and grammars.
  Expressions and functions at every depth: the contract of expression; for all words and grammars.
  How far all goes, row by row: one number more in each of three rows. No program's function is named.
  How far all goes, measured: the contract of measure; for all words and grammars.
  Numbers that stand together, as mathematics; cells of a variable, as a row: what is kept, what is put in.
  An array's weight is at least the number of its cells and axes: the contract of Weight; for all arrays.
  Words that came in, not yet known to be few; the contract of light: what is light is little; for all words and grammars.
  The contract of the document's APL: the grammar of the first language, all of it in new memory.
  The contract of the document's Strand: numbers that stand together; for all texts.
-/
import Derived.Test.YtnaejfoighmfeaaM5
import Derived.Laws.BitsAllLaws
import Derived.Lib.Bits
import Derived.Test.YtnaejfoighmfeaaChecked
import GoSem.Claim
import GoSem.ClaimJoined
import GoSem.ClaimMapViews
import Derived.JoinedTies
import Derived.KernelRfl
import Derived.WalkKit
import Derived.ProofKit
import Derived.Below
import Derived.Deep.QuietTactic
import Derived.BigQuiet
import Derived.Lib.SlBytesConst
import Derived.Laws.BytesArg
import Derived.Laws.MakeOwn
import Derived.Deep.RegionHeld3
import Derived.Laws.AppendOwnNone
import Derived.BigFrame
import Derived.OpenShut
import Derived.ChangeOld
import Derived.SizedLaws
import Derived.Deep.DeepHandedRow
import Derived.Lib.LaidTab
import Derived.Deep.OwnRows
import Derived.Deep.RegionWith
import Derived.Deep.Slices
import Derived.Deep.Strs
import Derived.Deep.LoopGhost
import Derived.Lib.ConvBytes
import Derived.Deep.RegionLaw
import Derived.Deep.CutRange
import Derived.Lib.SliceRun
import Derived.WalkLawsBesides
import Derived.Maps.AppendAt
import Derived.Deep.MidRow
import Derived.Defers
import Derived.Recover
import Derived.Deep.Cut
import Derived.ChangeMaps5
namespace Go.Proofs.Ytnaejfoighmfeaa
open Go.ChangeShapes Go.WideShapes Go.ChangeAt Go.RowKit
set_option maxRecDepth 100000
set_option linter.unusedVariables false
set_option linter.unusedSimpArgs false
theorem whole_stem {g : Gr} {b : Bool} {l : List Wo} (h : wholeR g b l ≠ 0) (ho : outR g l = false) : stemR g b l ≠ 0 := fun e => by
  unfold wholeR wholeS at h
  have h' : (isT 4 g.outer l && decide (0 < stemR g false l.tail)) = false := ho
  rw [h', e] at h
  simp at h
set_option maxHeartbeats 16000000 in
/-- function. -/
theorem fun_step {n : Nat} {w0 : World} {p : Nat} {g : Gr} {R : Raw} {ws : List Wo} {A : Ra} {e : Int} (d : Nat) (hd : d ≤ 24) (IE : CE n w0 p g R ws A e d) (IF : CF n w0 p g R ws A e d) : CF n w0 p g R ws A e (d + 1) := by
  intro w i b h hW
  obtain ⟨PL, hPL⟩ : ∃ PL, placeR e (ws.drop i) = PL := ⟨_, rfl⟩
  have hf : (EF g e (d + 1)).2 (ws.drop i) = (stemS g e (EF g e d).1 (EF g e d).2 (if outR g (ws.drop i) then (ws.drop i).tail else ws.drop i)).bind fun q => .ok (advR g PL (if outR g (ws.drop i) then node 25 0 nost [q.1] PL else q.1) q.2) := by
    show funS g e (EF g e d).1 (EF g e d).2 (ws.drop i) = _
    unfold funS; rw [hPL]
  obtain ⟨RES, hRES⟩ : ∃ RES, (EF g e (d + 1)).2 (ws.drop i) = RES := ⟨_, rfl⟩
  rw [hRES]
  rw [hRES] at hf
  clear hRES
  obtain ⟨W1, e1⟩ : ∃ W1, w.alloc (.cells #[.int .i64 0, .int .i64 0, .string ⟨#[]⟩, .slice none 0 0, .slice none 0 0, .slice none 0 0, .int .i64 0] 39) = W1 := ⟨_, rfl⟩
  have b1 : Below w.heap.size w W1 := by rw [← e1]; exact one_alloc _ _
  have s1 : W1.heap.size = w.heap.size + 1 := by rw [← e1]; simp
  have rv1 : Rv W1 w.heap.size := by rw [← e1]; exact Rv.new w
  have hL := h.sp.sn.words
  have hpw := h.sp.sn.hp2
  have hBw := h.sp.sn.old.size
  have hB0 := h.sp.sn.hp
  have hile := h.hi
  have rd1 := h.next b1
  have HEN : Hid (Calls Try.prog 33 #[.pointer (some ⟨p, 0, none⟩), .int .i64 ((25 - (d + 1) : Nat) : Int)] W1 fun en w' => en = .returned (.tuple #[]) ∧ Below W1.heap.size W1 w') := (enter33 rd1 (d + 1) (by omega)).mono fun en w' hh => by
    rw [if_neg (by omega)] at hh; exact hh
  have HP := hide (fun W (hW : Below W1.heap.size W1 W) => (place37 (rd1.next hW)).mono fun e w' (h : _ ∧ _) => (⟨h.1, by obtain ⟨m, hm⟩ := h.2; rw [hm]; exact drewN_below hW m⟩ : _ ∧ Below W1.heap.size W1 w'))
  rw [hPL] at HP
  have KS : Hid (∀ W, Below W1.heap.size W1 W → Below W1.heap.size W1 W ∧ W.cell? ⟨p, 19, none⟩ = some (.int .i64 (i : Int))) := fun W hW => ⟨hW, (rd1.next hW).c19⟩
  have H63 := hide (fun W (hW : Below W1.heap.size W1 W) => (outer63 (rd1.next hW).sp i hile (by omega)).mono fun e w' (h : _ ∧ _) => (⟨h.1, hW.trans (h.2.mono hW.size)⟩ : _ ∧ Below W1.heap.size W1 w'))
  have HE := hide e1
  have HB1 := hide b1
  have HRV1 := hide rv1
  have HRD1 := hide rd1
  have HWW := hide hW
  have HIE := hide IE
  have HIF := hide IF
  have hdd : (25 - (d + 1) : Nat) = 24 - d := by omega
  rw [hdd] at HEN ⊢
  clear e1 h b1 rv1 rd1 hW IE IF hPL hdd
  cases hO : outR g (ws.drop i) with
  | true =>
    have hO' : (isT 4 g.outer (ws.drop i) && decide (0 < stemR g false (ws.drop i).tail)) = true := hO
    simp only [Bool.and_eq_true, decide_eq_true_eq] at hO'
    have hlt : i < ws.length := by
      rcases Nat.lt_or_ge i ws.length with hh | hh
      · exact hh
      · rw [drop_end (by omega)] at hO'; cases hO'.1
    have HST : Hid (stemR g false (ws.drop (i + 1)) ≠ 0) := by
      have := hO'.2
      rw [List.tail_drop] at this
      exact Nat.ne_of_gt this
    simp only [hO, if_true, List.tail_drop] at hf H63
    have HRES := hide hf
    clear hf hO hO'
    go_enter Try.func35, Try.ntmps35
    go_upto_region 1 with fail
    rw [HE.out]
    go_wp2_with fail
    refine HEN.out.mono ?_
    rintro en w2 ⟨rfl, hb2⟩
    clear HEN
    go_wp2_with fail
    refine (HP.out _ hb2).mono ?_
    rintro en w3 ⟨rfl, hb3⟩
    have HD0 : Hid (Below W1.heap.size W1 w3.drew) := hb3.drew
    obtain ⟨-, c19⟩ := KS.out w3 hb3
    go_upto_region 3 with fail
    go_region_held3 (fun W => Below W1.heap.size W1 W ∧ W.cell? ⟨p, 19, none⟩ = some (.int .i64 (i : Int))) (first | with_reducible exact KS.out _ HD0.out | with_reducible exact KS.out _ (by with_reducible assumption)) (first | (go_at_call 63; refine (H63.out _ HD0.out).mono ?_; rintro e w6 ⟨rfl, hb6⟩))
    have rd6 := HRD1.out.next hb6
    have rd7 := rd6.move (i + 1) hlt
    have bm7 := rd6.moved (i + 1)
    rw [show ((i + 1 : Nat) : Int) = (i : Int) + 1 by simp] at rd7 bm7
    obtain ⟨W7, hW7⟩ : ∃ W7, w6.setCell ⟨p, 19, none⟩ (.int .i64 ((i : Int) + 1)) = W7 := ⟨_, rfl⟩
    rw [hW7] at rd7 bm7
    have h6s := hb6.size
    have h7s := bm7.size
    have HRD7 := hide rd7
    have HBW : Hid (But (· = p) w W7) := (But.of (HB1.out.trans (hb6.mono HB1.out.size))).trans bm7 fun j _ hj => hj
    have HRV7 := hide ((HRV1.out.block hb6.size (hb6.block _ HRV1.out.lt)).but bm7 (by omega))
    have HE7 := hide hW7
    have d19 := rd6.c19
    have f19 := rd6.fz
    clear hW7 rd6 rd7 bm7 hb6 hb3 hb2 KS H63 c19 HB1 HRV1 HRD1 HP
    go_upto_region 6 with fail
    rw [HE7.out]
    clear d19 f19 HE7
    have HC := hide (stemmed66 d hd HIE.out HIF.out HRD7.out false HST.out)
    go_wp2_with fail
    refine HC.out.mono ?_
    rintro en w8 ⟨hbut, hres⟩
    clear HC
    have h8s := hbut.size
    have HBT : Hid (But (· = p) w w8) := HBW.out.trans hbut fun j _ hj => hj
    have rv8 := HRV7.out.but hbut (by omega)
    cases hwd : stemS g e (EF g e d).1 (EF g e d).2 (ws.drop (i + 1)) with
    | bad er pl =>
      rw [hwd] at hres
      simp only at hres
      subst hres
      obtain rfl : RES = .bad er pl := by rw [HRES.out, hwd]; rfl
      go_wp2
      exact ⟨rfl, HBT.out, rfl⟩
    | stuck =>
      rw [hwd] at hres
      exact hres.elim
    | ok r =>
      obtain ⟨nd, rs⟩ := r
      rw [hwd] at hres
      obtain ⟨v, m2, i2, rfl, hrs, hrd, htr⟩ := hres
      have hrs' : rs = ws.drop i2 := hrs
      subst hrs'
      have htr' : Tr (n + 1) w0.heap.size m2 W7.heap.size w8.heap.size w8 nd v := htr
      obtain ⟨m3, hm3, a1, c1, a2, c2, ak, ck, rfl, -⟩ := htr'.form
      obtain ⟨W9, hW9⟩ : ∃ W9, w8.alloc (.cells #[.int .i64 nd.kind, .int .i64 nd.op, .string nd.name, .slice a1 nd.lit.shape.length c1, .slice a2 nd.lit.cells.length c2, .slice ak nd.kids.length ck, .int .i64 nd.pos] 39) = W9 := ⟨_, rfl⟩
      have b9 : Below w8.heap.size w8 W9 := by rw [← hW9]; exact one_alloc _ _
      have s9 : W9.heap.size = w8.heap.size + 1 := by rw [← hW9]; simp
      have vn9 : Vn W9 w8.heap.size nd.kind nd.op nd.name (.slice a1 nd.lit.shape.length c1) (.slice a2 nd.lit.cells.length c2) (.slice ak nd.kids.length ck) nd.pos := by rw [← hW9]; exact Vn.new _ _ _ _ _ _ _ _
      have tr9 := TrD.keep htr' (Kp.of b9 (by omega) (Nat.le_refl _)).d
      have rd9 := hrd.next b9
      have rv9 := rv8.block b9.size (b9.block _ rv8.lt)
      have HT9 : Hid (But (· = p) w W9) := HBT.out.trans (But.of b9) fun j _ hj => hj
      have HE9 := hide hW9
      have fz9 : ∀ o, W9.frozen? ⟨w8.heap.size, o, none⟩ = false := fun o => by rw [← hW9]; exact frozen_new _ _ _ _
      have HRS := hide (show RES = .ok (advR g PL (node 25 0 nost [nd] PL) (ws.drop i2)) by rw [HRES.out, hwd]; rfl)
      obtain ⟨W10, hW10⟩ : ∃ W10, W9.alloc (.cells #[.int .i64 nd.kind, .int .i64 nd.op, .string nd.name, .slice a1 nd.lit.shape.length c1, .slice a2 nd.lit.cells.length c2, .slice ak nd.kids.length ck, .int .i64 nd.pos] 39) = W10 := ⟨_, rfl⟩
      have b10 : Below W9.heap.size W9 W10 := by rw [← hW10]; exact one_alloc _ _
      have s10 : W10.heap.size = w8.heap.size + 2 := by rw [← hW10]; simp; omega
      have hk10 := trk1 (B := w0.heap.size) (n := n + 1) (by omega) (fun k hk => by have := hk.2; omega) tr9 39
      rw [hW10, s9] at hk10
      have tp10 := TrD.put (ck := 1) 25 0 nost PL (Nat.zero_le _) (by simp) hk10
      have vn10 := vn9.block b10.size (b10.block _ vn9.lt)
      have fz10 : ∀ o, W10.frozen? ⟨w8.heap.size, o, none⟩ = false := fun o => (frozen_block (b10.block _ (by omega)) o).trans (fz9 o)
      have bst := st7_but W10 w8.heap.size 25 0 nost (.slice none 0 0) (.slice none 0 0) (.slice (some ⟨w8.heap.size + 1, 0, none⟩) 1 1) PL
      have vst := st7_vn vn10 25 0 nost (.slice none 0 0) (.slice none 0 0) (.slice (some ⟨w8.heap.size + 1, 0, none⟩) 1 1) PL
      obtain ⟨W11, hW11⟩ : ∃ W11, ((((((W10.setCell ⟨w8.heap.size, 0, none⟩ (.int .i64 25)).setCell ⟨w8.heap.size, 1, none⟩ (.int .i64 0)).setCell ⟨w8.heap.size, 2, none⟩ (.string ⟨#[]⟩)).setCell ⟨w8.heap.size, 3, none⟩ (.slice none 0 0)).setCell ⟨w8.heap.size, 4, none⟩ (.slice none 0 0)).setCell ⟨w8.heap.size, 5, none⟩ (.slice (some ⟨w8.heap.size + 1, 0, none⟩) 1 1)).setCell ⟨w8.heap.size, 6, none⟩ (.int .i64 PL) = W11 := ⟨_, rfl⟩
      have bst' : But (· = w8.heap.size) W10 W11 := by rw [← hW11]; exact bst
      have vst' : Vn W11 w8.heap.size 25 0 nost (.slice none 0 0) (.slice none 0 0) (.slice (some ⟨w8.heap.size + 1, 0, none⟩) 1 1) PL := by rw [← hW11]; exact vst
      have s11 := bst'.size
      have hDD : ∀ k, (Iv W7.heap.size w8.heap.size k ∨ k = w8.heap.size + 1) → w.heap.size < k ∧ k < W10.heap.size ∧ k ≠ w8.heap.size := fun k hk => by
        rcases hk with hk | hk
        · have h1 := hk.1; have h2 := hk.2; omega
        · omega
      have tp11 := tp10.keep (KpD.but bst' (by omega) (fun k hk => (hDD k hk).2.1) fun k hk => ⟨by omega, fun hh => (hDD k hh).2.2 hk⟩)
      have rd11 := (rd9.next b10).upto (bst'.below (by omega) fun k hk => by omega)
      have HT11 : Hid (But (· = p) w W11) := (HT9.out.trans (But.of b10) fun j _ hj => hj).trans bst' fun j hj hh => by omega
      have rv11 := (rv9.block b10.size (b10.block _ rv9.lt)).but bst' (by omega)
      have HADV := hide (adverbs67 (PL := PL) rd11 (fun k hk => ⟨by have := hDD k hk; omega, by have := hDD k hk; omega⟩) tp11)
      have HE11 := hide hW11
      have HV11 := hide vst'
      have HD2 : Hid (∀ k, (Iv W7.heap.size w8.heap.size k ∨ k = w8.heap.size + 1) → w.heap.size < k ∧ k < W11.heap.size) := fun k hk => by have := hDD k hk; omega
      obtain ⟨-, v0, v1, v2, v3, v4, v5, v6⟩ := vn9
      obtain ⟨-, u0, u1, u2, u3, u4, u5, u6⟩ := vn10
      have f0 := fz10 0
      have f1 := fz10 1
      have f2 := fz10 2
      have f3 := fz10 3
      have f4 := fz10 4
      have f5 := fz10 5
      have f6 := fz10 6
      clear hW9 b9 tr9 rd9 rv9 HT9 fz9 b10 hk10 tp10 fz10 bst vst bst' vst' hDD tp11 rd11 hW11 htr htr' hrd hbut hrs hwd HRES rv8 HBT hm3
      go_upto_region 7 with fail
      rw [HE9.out]
      go_upto_region 9 with fail
      rw [HE11.out]
      clear v0 v1 v2 v3 v4 v5 v6 u0 u1 u2 u3 u4 u5 u6 f0 f1 f2 f3 f4 f5 f6 HE9 HE11 hW10
      obtain ⟨-, v0, v1, v2, v3, v4, v5, v6⟩ := HV11.out
      clear HV11
      go_wp2_with fail
      refine HADV.out.mono ?_
      rintro en w12 ⟨hb12, v, m4, i4, rfl, hl4, rd12, tr12⟩
      clear HADV v0 v1 v2 v3 v4 v5 v6
      have s12 := hb12.size
      have HRV := hide (rv11.but hb12 (by omega))
      obtain ⟨RR, hRR⟩ : ∃ RR, advR g PL (node 25 0 nost [nd] PL) (ws.drop i2) = RR := ⟨_, rfl⟩
      rw [hRR] at tr12 hl4 HRS
      clear hRR
      obtain ⟨m5, hm5, d1, e1, d2, e2, dk, ek, rfl, -⟩ := tr12.form
      have HFIN : Hid (∀ wf, But (· = w.heap.size) w12 wf → GvF n w0 w p g R ws A e RES (.returned (.agg #[.int .i64 RR.1.kind, .int .i64 RR.1.op, .string RR.1.name, .slice d1 RR.1.lit.shape.length e1, .slice d2 RR.1.lit.cells.length e2, .slice dk RR.1.kids.length ek, .int .i64 RR.1.pos])) wf) := fun wf hf => by
        rw [HRS.out]
        exact gf_fin (rest := RR.2) (x := RR.1) (HT11.out.trans hb12 fun j _ hj => hj) rd12 hl4 tr12 (fun k hk => Or.elim hk (fun h => by have := HD2.out k h; omega) (fun h => by have h1 := h.1; have h2 := h.2; omega)) hpw hBw hf
      clear HRS hb12 hl4 rd12 tr12 HT11 HD2 hm5 rv11
      have RV := HRV.out
      obtain ⟨r0, Q0⟩ := RV.c 0 (by omega)
      have F0 := RV.f 0
      obtain ⟨r1, Q1⟩ := RV.c 1 (by omega)
      have F1 := RV.f 1
      obtain ⟨r2, Q2⟩ := RV.c 2 (by omega)
      have F2 := RV.f 2
      obtain ⟨r3, Q3⟩ := RV.c 3 (by omega)
      have F3 := RV.f 3
      obtain ⟨r4, Q4⟩ := RV.c 4 (by omega)
      have F4 := RV.f 4
      obtain ⟨r5, Q5⟩ := RV.c 5 (by omega)
      have F5 := RV.f 5
      obtain ⟨r6, Q6⟩ := RV.c 6 (by omega)
      have F6 := RV.f 6
      clear RV HRV
      go_wp2
      refine bodyPost_ret (v := .agg #[.int .i64 RR.1.kind, .int .i64 RR.1.op, .string RR.1.name, .slice d1 RR.1.lit.shape.length e1, .slice d2 RR.1.lit.cells.length e2, .slice dk RR.1.kids.length ek, .int .i64 RR.1.pos]) (by simp [results, Try.results35, go_sem, Q0, Q1, Q2, Q3, Q4, Q5, Q6]) rfl (HFIN.out _ ?_)
      repeat' first | with_reducible exact But.refl _ _ | with_reducible rfl | with_reducible refine butS ?_ ?_
  | false =>
    have HST := hide (whole_stem HWW.out hO)
    simp only [hO, Bool.false_eq_true, if_false] at hf H63
    have HRES := hide hf
    clear hf hO
    go_enter Try.func35, Try.ntmps35
    go_upto_region 1 with fail
    rw [HE.out]
    go_wp2_with fail
    refine HEN.out.mono ?_
    rintro en w2 ⟨rfl, hb2⟩
    clear HEN
    go_wp2_with fail
    refine (HP.out _ hb2).mono ?_
    rintro en w3 ⟨rfl, hb3⟩
    have HD0 : Hid (Below W1.heap.size W1 w3.drew) := hb3.drew
    obtain ⟨-, c19⟩ := KS.out w3 hb3
    go_upto_region 3 with fail
    go_region_held3 (fun W => Below W1.heap.size W1 W ∧ W.cell? ⟨p, 19, none⟩ = some (.int .i64 (i : Int))) (first | with_reducible exact KS.out _ HD0.out | with_reducible exact KS.out _ (by with_reducible assumption)) (first | (go_at_call 63; refine (H63.out _ HD0.out).mono ?_; rintro e w6 ⟨rfl, hb6⟩))
    obtain ⟨W7, hW7⟩ : ∃ W7, w6 = W7 := ⟨_, rfl⟩
    rw [hW7] at hb6 ⊢
    have h6s := hb6.size
    have HRD7 := hide (HRD1.out.next hb6)
    have HBW : Hid (But (· = p) w W7) := But.of (HB1.out.trans (hb6.mono HB1.out.size))
    have HRV7 := hide (HRV1.out.block hb6.size (hb6.block _ HRV1.out.lt))
    clear hW7 hb6 hb3 hb2 KS H63 c19 HB1 HRV1 HRD1 HP
    have HC := hide (stemmed66 d hd HIE.out HIF.out HRD7.out b HST.out)
    go_wp2_with fail
    refine HC.out.mono ?_
    rintro en w8 ⟨hbut, hres⟩
    clear HC
    have h8s := hbut.size
    have HBT : Hid (But (· = p) w w8) := HBW.out.trans hbut fun j _ hj => hj
    have rv8 := HRV7.out.but hbut (by omega)
    cases hwd : stemS g e (EF g e d).1 (EF g e d).2 (ws.drop i) with
    | bad er pl =>
      rw [hwd] at hres
      simp only at hres
      subst hres
      obtain rfl : RES = .bad er pl := by rw [HRES.out, hwd]; rfl
      go_wp2
      exact ⟨rfl, HBT.out, rfl⟩
    | stuck =>
      rw [hwd] at hres
      exact hres.elim
    | ok r =>
      obtain ⟨nd, rs⟩ := r
      rw [hwd] at hres
      obtain ⟨v, m2, i2, rfl, hrs, hrd, htr⟩ := hres
      have hrs' : rs = ws.drop i2 := hrs
      subst hrs'
      have htr' : Tr (n + 1) w0.heap.size m2 W7.heap.size w8.heap.size w8 nd v := htr
      obtain ⟨m3, hm3, a1, c1, a2, c2, ak, ck, rfl, -⟩ := htr'.form
      obtain ⟨W9, hW9⟩ : ∃ W9, w8.alloc (.cells #[.int .i64 nd.kind, .int .i64 nd.op, .string nd.name, .slice a1 nd.lit.shape.length c1, .slice a2 nd.lit.cells.length c2, .slice ak nd.kids.length ck, .int .i64 nd.pos] 39) = W9 := ⟨_, rfl⟩
      have b9 : Below w8.heap.size w8 W9 := by rw [← hW9]; exact one_alloc _ _
      have s9 : W9.heap.size = w8.heap.size + 1 := by rw [← hW9]; simp
      have vn9 : Vn W9 w8.heap.size nd.kind nd.op nd.name (.slice a1 nd.lit.shape.length c1) (.slice a2 nd.lit.cells.length c2) (.slice ak nd.kids.length ck) nd.pos := by rw [← hW9]; exact Vn.new _ _ _ _ _ _ _ _
      have tr9 := TrD.keep htr' (Kp.of b9 (by omega) (Nat.le_refl _)).d
      have rd9 := hrd.next b9
      have rv9 := rv8.block b9.size (b9.block _ rv8.lt)
      have HT9 : Hid (But (· = p) w W9) := HBT.out.trans (But.of b9) fun j _ hj => hj
      have HE9 := hide hW9
      have fz9 : ∀ o, W9.frozen? ⟨w8.heap.size, o, none⟩ = false := fun o => by rw [← hW9]; exact frozen_new _ _ _ _
      have HRS := hide (show RES = .ok (advR g PL nd (ws.drop i2)) by rw [HRES.out, hwd]; rfl)
      have HADV := hide (adverbs67 (PL := PL) rd9 (fun k hk => ⟨by have := hk.2; omega, by have := hk.1; omega⟩) tr9)
      have HD2 : Hid (∀ k, Iv W7.heap.size w8.heap.size k → w.heap.size < k ∧ k < W9.heap.size) := fun k hk => by have h1 := hk.1; have h2 := hk.2; omega
      have rv11 := rv9
      obtain ⟨-, v0, v1, v2, v3, v4, v5, v6⟩ := vn9
      clear hW9 b9 tr9 rd9 rv9 fz9 htr htr' hrd hbut hrs hwd HRES rv8 HBT hm3
      go_upto_region 7 with fail
      rw [HE9.out]
      go_upto_region 9 with fail
      clear HE9
      go_wp2_with fail
      refine HADV.out.mono ?_
      rintro en w12 ⟨hb12, v, m4, i4, rfl, hl4, rd12, tr12⟩
      clear HADV v0 v1 v2 v3 v4 v5 v6
      have s12 := hb12.size
      have HRV := hide (rv11.but hb12 (by omega))
      obtain ⟨RR, hRR⟩ : ∃ RR, advR g PL nd (ws.drop i2) = RR := ⟨_, rfl⟩
      rw [hRR] at tr12 hl4 HRS
      clear hRR
      obtain ⟨m5, hm5, d1, e1, d2, e2, dk, ek, rfl, -⟩ := tr12.form
      have HFIN : Hid (∀ wf, But (· = w.heap.size) w12 wf → GvF n w0 w p g R ws A e RES (.returned (.agg #[.int .i64 RR.1.kind, .int .i64 RR.1.op, .string RR.1.name, .slice d1 RR.1.lit.shape.length e1, .slice d2 RR.1.lit.cells.length e2, .slice dk RR.1.kids.length ek, .int .i64 RR.1.pos])) wf) := fun wf hf => by
        rw [HRS.out]
        exact gf_fin (rest := RR.2) (x := RR.1) (HT9.out.trans hb12 fun j _ hj => hj) rd12 hl4 tr12 (fun k hk => Or.elim hk (fun h => by have := HD2.out k h; omega) (fun h => by have h1 := h.1; have h2 := h.2; omega)) hpw hBw hf
      clear HRS hb12 hl4 rd12 tr12 HT9 HD2 hm5 rv11
      have RV := HRV.out
      obtain ⟨r0, Q0⟩ := RV.c 0 (by omega)
      have F0 := RV.f 0
      obtain ⟨r1, Q1⟩ := RV.c 1 (by omega)
      have F1 := RV.f 1
      obtain ⟨r2, Q2⟩ := RV.c 2 (by omega)
      have F2 := RV.f 2
      obtain ⟨r3, Q3⟩ := RV.c 3 (by omega)
      have F3 := RV.f 3
      obtain ⟨r4, Q4⟩ := RV.c 4 (by omega)
      have F4 := RV.f 4
      obtain ⟨r5, Q5⟩ := RV.c 5 (by omega)
      have F5 := RV.f 5
      obtain ⟨r6, Q6⟩ := RV.c 6 (by omega)
      have F6 := RV.f 6
      clear RV HRV
      go_wp2
      refine bodyPost_ret (v := .agg #[.int .i64 RR.1.kind, .int .i64 RR.1.op, .string RR.1.name, .slice d1 RR.1.lit.shape.length e1, .slice d2 RR.1.lit.cells.length e2, .slice dk RR.1.kids.length ek, .int .i64 RR.1.pos]) (by simp [results, Try.results35, go_sem, Q0, Q1, Q2, Q3, Q4, Q5, Q6]) rfl (HFIN.out _ ?_)
      repeat' first | with_reducible exact But.refl _ _ | with_reducible rfl | with_reducible refine butS ?_ ?_
end Go.Proofs.Ytnaejfoighmfeaa
namespace Go.Proofs.Ytnaejfoighmfeaa
open Go.ChangeShapes Go.WideShapes Go.ChangeAt Go.RowKit
set_option maxRecDepth 100000
set_option linter.unusedVariables false
theorem all_deep {n : Nat} {w0 : World} {p : Nat} {g : Gr} {R : Raw} {ws : List Wo} {A : Ra} {e : Int} (d : Nat) (hd : d ≤ 24) : CE n w0 p g R ws A e d ∧ CF n w0 p g R ws A e d := by
  induction d with
  | zero => exact ⟨expr_deep, fun_deep⟩
  | succ d ih =>
    obtain ⟨h1, h2⟩ := ih (by omega)
    exact ⟨expr_step d (by omega) h1 h2, fun_step d (by omega) h1 h2⟩
end Go.Proofs.Ytnaejfoighmfeaa
namespace Go.Proofs.Ytnaejfoighmfeaa
open Go.ChangeShapes Go.WideShapes Go.ChangeAt Go.RowKit
set_option maxRecDepth 100000
set_option linter.unusedVariables false
set_option linter.unusedSimpArgs false
/-- Where the four rows lie. -/
abbrev raOf (bc bt ba bb L : Nat) : Ra := ⟨some ⟨bc, 0, none⟩, L, some ⟨bt, 0, none⟩, L + 1, some ⟨ba, 0, none⟩, L + 1, some ⟨bb, 0, none⟩, L + 1⟩
theorem IntsIn.other {w : World} {p b c k : Nat} {f : Nat → Nat} {lo hi : Nat} {u : Value} (h : IntsIn w p (some ⟨b, 0, none⟩) f lo hi) (hn : b ≠ c) : IntsIn (w.setCell ⟨c, k, none⟩ u) p (some ⟨b, 0, none⟩) f lo hi := fun j h1 h2 => by
  obtain ⟨b', off, ha, hl, hp, hc⟩ := h j h1 h2
  cases ha
  exact ⟨b, 0, rfl, by simpa using hl, hp, cs_off (by omega) hc⟩
theorem IntsIn.more {w : World} {p b i : Nat} {f : Nat → Nat} {hi : Nat} {u : Value} (h : IntsIn w p (some ⟨b, 0, none⟩) f (i + 1) hi) (hc : w.cell? ⟨b, i, none⟩ = some u) (hl : b < w.heap.size) (hp : b ≠ p) : IntsIn (w.setCell ⟨b, i, none⟩ (.int .i64 (f i : Nat))) p (some ⟨b, 0, none⟩) f i hi := fun j h1 h2 => by
  by_cases e : j = i
  · subst e
    exact ⟨b, 0, rfl, by simpa using hl, hp, by rw [Nat.zero_add]; exact cs_same hc⟩
  · obtain ⟨b', off, ha, hl', hp', hc'⟩ := h j (by omega) h2
    cases ha
    exact ⟨b, 0, rfl, by simpa using hl', hp', cs_off (by omega) hc'⟩
/-- The rows while they are filled: how far each is known. -/
structure Ms (n : Nat) (w0 w : World) (g : Gr) (R : Raw) (ws : List Wo) (pm bc bt ba bb t a b : Nat) (wr : World) : Prop where
  old : Below w.heap.size w wr
  sp : Sp n w0 wr pm g R ws (raOf bc bt ba bb ws.length) t a b
  rt : ∃ f, NRow wr bt (ws.length + 1) f
  ra : ∃ f, NRow wr ba (ws.length + 1) f
  rb : ∃ f, NRow wr bb (ws.length + 1) f
  rv : wr.there (w.heap.size + 1) 0 19
  lc : bc < wr.heap.size
  c9 : wr.cell? ⟨pm, 9, none⟩ = some (.string R.mi)
  c10 : wr.cell? ⟨pm, 10, none⟩ = some (.string R.qu)
  ne : (bt ≠ pm ∧ ba ≠ pm ∧ bb ≠ pm) ∧ (bc ≠ bt ∧ bc ≠ ba ∧ bc ≠ bb) ∧ (bt ≠ ba ∧ bt ≠ bb ∧ ba ≠ bb) ∧ (w.heap.size + 2 ≤ bc ∧ w.heap.size + 2 ≤ bt ∧ w.heap.size + 2 ≤ ba ∧ w.heap.size + 2 ≤ bb ∧ w.heap.size + 2 ≤ pm) ∧ w0.heap.size ≤ w.heap.size
section
variable {n : Nat} {w0 w : World} {g : Gr} {R : Raw} {ws : List Wo} {pm bc bt ba bb t a b : Nat} {wr wr' : World}
theorem there_next {b' : Nat} (h : wr.there b' 0 19) (hl : b' < wr.heap.size) (hb : Below wr.heap.size wr wr') : wr'.there b' 0 19 := fun j hj => by
  obtain ⟨h1, h2⟩ := h j hj
  exact ⟨by rw [hb.cell (p := ⟨b', 0 + j, none⟩) hl]; exact h1, (hb.frozen (p := ⟨b', 0 + j, none⟩) hl).trans h2⟩
theorem there_lt {b' : Nat} (h : wr.there b' 0 19) : b' < wr.heap.size := by
  obtain ⟨h1, -⟩ := h 0 (by omega)
  obtain ⟨v, hv⟩ := Option.isSome_iff_exists.1 h1
  exact lt_of_cell0 hv
theorem Ms.next (h : Ms n w0 w g R ws pm bc bt ba bb t a b wr) (hb : Below wr.heap.size wr wr') : Ms n w0 w g R ws pm bc bt ba bb t a b wr' :=
  ⟨h.old.trans (hb.mono h.old.size), h.sp.next hb, h.rt.imp fun f hf => hf.keep hb hf.1, h.ra.imp fun f hf => hf.keep hb hf.1, h.rb.imp fun f hf => hf.keep hb hf.1, there_next h.rv (there_lt h.rv) hb, Nat.lt_of_lt_of_le h.lc hb.size, (hb.cell (p := ⟨pm, 9, none⟩) h.sp.sn.hp2).trans h.c9, (hb.cell (p := ⟨pm, 10, none⟩) h.sp.sn.hp2).trans h.c10, h.ne⟩
theorem there_set {b' c k : Nat} {u : Value} (h : wr.there b' 0 19) (hn : b' ≠ c) : (wr.setCell ⟨c, k, none⟩ u).there b' 0 19 := fun j hj => by
  obtain ⟨h1, h2⟩ := h j hj
  obtain ⟨v, hv⟩ := Option.isSome_iff_exists.1 h1
  exact ⟨by rw [cs_off (u := u) (b := c) (o := k) (by omega) hv]; rfl, fs_any h2⟩
theorem Ms.sn_set {c k : Nat} {u : Value} (h : Ms n w0 w g R ws pm bc bt ba bb t a b wr) (hc : c ≠ pm) (hl : w.heap.size + 2 ≤ c) : Sn n w0 (wr.setCell ⟨c, k, none⟩ u) pm g R ws := by
  have hne := h.ne
  refine h.sp.sn.turn (h.sp.sn.old.setCell (p := ⟨c, k, none⟩) (by show w0.heap.size ≤ c; omega) _) (by simpa using h.sp.sn.hp2) fun o _ => ?_
  exact World.cell?_of_block (a := ⟨pm, o, none⟩) (Below.heap_setCell _ _ _ _ (fun e => hc e.symm))
/-- One number more in a row. -/
theorem Ms.putt {i : Nat} (h : Ms n w0 w g R ws pm bc bt ba bb (i + 1) a b wr) (hi : i ≤ ws.length) : (∃ u, wr.cell? ⟨bt, i, none⟩ = some u) ∧ wr.frozen? ⟨bt, i, none⟩ = false ∧ Ms n w0 w g R ws pm bc bt ba bb i a b (wr.setCell ⟨bt, i, none⟩ (.int .i64 (tailV g ws i : Nat))) := by
  obtain ⟨f, hf⟩ := h.rt
  obtain ⟨h1, h2⟩ := hf.2 i (by omega)
  have hne := h.ne
  have c15 := h.sp.c15
  have cc : ∀ o, (wr.setCell ⟨bt, i, none⟩ (.int .i64 (tailV g ws i : Nat))).cell? ⟨pm, o, none⟩ = wr.cell? ⟨pm, o, none⟩ := fun o => World.cell?_of_block (a := ⟨pm, o, none⟩) (Below.heap_setCell _ _ _ _ (by show pm ≠ bt; omega))
  refine ⟨⟨_, h1⟩, h2, h.old.setCell (p := ⟨bt, i, none⟩) (by show w.heap.size ≤ bt; omega) _, ⟨h.sn_set (by omega) (by omega), (cc 15).trans h.sp.c15, (cc 16).trans h.sp.c16, (cc 17).trans h.sp.c17, (cc 18).trans h.sp.c18, IntsIn.other h.sp.hc (by omega), IntsIn.more h.sp.ht h1 hf.1 (by omega), IntsIn.other h.sp.ha (by omega), IntsIn.other h.sp.hb (by omega)⟩, ⟨_, hf.set i _⟩, h.ra.imp (fun f hf => ⟨by simpa using hf.1, fun k hk => ⟨cs_off (by omega) (hf.2 k hk).1, fs_any (hf.2 k hk).2⟩⟩), h.rb.imp (fun f hf => ⟨by simpa using hf.1, fun k hk => ⟨cs_off (by omega) (hf.2 k hk).1, fs_any (hf.2 k hk).2⟩⟩), there_set h.rv (by omega), by simpa using h.lc, (cc 9).trans h.c9, (cc 10).trans h.c10, h.ne⟩
/-- One number more in a row. -/
theorem Ms.puta {i : Nat} (h : Ms n w0 w g R ws pm bc bt ba bb t (i + 1) b wr) (hi : i ≤ ws.length) : (∃ u, wr.cell? ⟨ba, i, none⟩ = some u) ∧ wr.frozen? ⟨ba, i, none⟩ = false ∧ Ms n w0 w g R ws pm bc bt ba bb t i b (wr.setCell ⟨ba, i, none⟩ (.int .i64 (wholeV g false ws i : Nat))) := by
  obtain ⟨f, hf⟩ := h.ra
  obtain ⟨h1, h2⟩ := hf.2 i (by omega)
  have hne := h.ne
  have c15 := h.sp.c15
  have cc : ∀ o, (wr.setCell ⟨ba, i, none⟩ (.int .i64 (wholeV g false ws i : Nat))).cell? ⟨pm, o, none⟩ = wr.cell? ⟨pm, o, none⟩ := fun o => World.cell?_of_block (a := ⟨pm, o, none⟩) (Below.heap_setCell _ _ _ _ (by show pm ≠ ba; omega))
  refine ⟨⟨_, h1⟩, h2, h.old.setCell (p := ⟨ba, i, none⟩) (by show w.heap.size ≤ ba; omega) _, ⟨h.sn_set (by omega) (by omega), (cc 15).trans h.sp.c15, (cc 16).trans h.sp.c16, (cc 17).trans h.sp.c17, (cc 18).trans h.sp.c18, IntsIn.other h.sp.hc (by omega), IntsIn.other h.sp.ht (by omega), IntsIn.more h.sp.ha h1 hf.1 (by omega), IntsIn.other h.sp.hb (by omega)⟩, h.rt.imp (fun f hf => ⟨by simpa using hf.1, fun k hk => ⟨cs_off (by omega) (hf.2 k hk).1, fs_any (hf.2 k hk).2⟩⟩), ⟨_, hf.set i _⟩, h.rb.imp (fun f hf => ⟨by simpa using hf.1, fun k hk => ⟨cs_off (by omega) (hf.2 k hk).1, fs_any (hf.2 k hk).2⟩⟩), there_set h.rv (by omega), by simpa using h.lc, (cc 9).trans h.c9, (cc 10).trans h.c10, h.ne⟩
/-- One number more in a row. -/
theorem Ms.putb {i : Nat} (h : Ms n w0 w g R ws pm bc bt ba bb t a (i + 1) wr) (hi : i ≤ ws.length) : (∃ u, wr.cell? ⟨bb, i, none⟩ = some u) ∧ wr.frozen? ⟨bb, i, none⟩ = false ∧ Ms n w0 w g R ws pm bc bt ba bb t a i (wr.setCell ⟨bb, i, none⟩ (.int .i64 (wholeV g true ws i : Nat))) := by
  obtain ⟨f, hf⟩ := h.rb
  obtain ⟨h1, h2⟩ := hf.2 i (by omega)
  have hne := h.ne
  have c15 := h.sp.c15
  have cc : ∀ o, (wr.setCell ⟨bb, i, none⟩ (.int .i64 (wholeV g true ws i : Nat))).cell? ⟨pm, o, none⟩ = wr.cell? ⟨pm, o, none⟩ := fun o => World.cell?_of_block (a := ⟨pm, o, none⟩) (Below.heap_setCell _ _ _ _ (by show pm ≠ bb; omega))
  refine ⟨⟨_, h1⟩, h2, h.old.setCell (p := ⟨bb, i, none⟩) (by show w.heap.size ≤ bb; omega) _, ⟨h.sn_set (by omega) (by omega), (cc 15).trans h.sp.c15, (cc 16).trans h.sp.c16, (cc 17).trans h.sp.c17, (cc 18).trans h.sp.c18, IntsIn.other h.sp.hc (by omega), IntsIn.other h.sp.ht (by omega), IntsIn.other h.sp.ha (by omega), IntsIn.more h.sp.hb h1 hf.1 (by omega)⟩, h.rt.imp (fun f hf => ⟨by simpa using hf.1, fun k hk => ⟨cs_off (by omega) (hf.2 k hk).1, fs_any (hf.2 k hk).2⟩⟩), h.ra.imp (fun f hf => ⟨by simpa using hf.1, fun k hk => ⟨cs_off (by omega) (hf.2 k hk).1, fs_any (hf.2 k hk).2⟩⟩), ⟨_, hf.set i _⟩, there_set h.rv (by omega), by simpa using h.lc, (cc 9).trans h.c9, (cc 10).trans h.c10, h.ne⟩
end
end Go.Proofs.Ytnaejfoighmfeaa
namespace Go.Proofs.Ytnaejfoighmfeaa
open Go.ChangeShapes Go.WideShapes Go.ChangeAt Go.RowKit
set_option maxRecDepth 100000
set_option linter.unusedVariables false
set_option linter.unusedSimpArgs false
theorem results_cell_mid {P : Program} {fn : Func} {p : Tmp} {ty : TypeId} (h : fn.results = #[.cell p ty]) (tmps : Array Value) (w : World) (b o : Nat) (hp : tmps.getD p undef = .pointer (some ⟨b, o, none⟩)) (cs : List Value) (d : TypeDesc) (hc : w.rangeAt b o cs)
    (hu : P.underlying ty = some d) (hd : d.isRow = true) (hi : (P.info? ty).map (·.size) = some cs.length) :
    (results fn tmps).run P w = .ok (.agg cs.toArray) w := by
  have hp' : tmps[p]?.getD undef = .pointer (some ⟨b, o, none⟩) := by simpa using hp
  simp [results, h, hp', asAddr, run_loadVar_mid w b o ty cs d hc hu hd hi]
theorem wpOp_run {P : Program} {ops : Array Oper} {Q : Exit → Act → World → Prop} {i : Nat} {o : Oper} {a : Act} {w w' : World} {K : Act → World → Prop} {v : Value} (hi : ops[i]? = some o) (hg : o.guard = none) (hrun : (execOp a.eval o).run P w = .ok (.value v) w') (h : K (a.put o.dst v) w') : wpOp P ops Q i K a w := by
  unfold wpOp
  rw [hi]
  have hw : Region.wanted o (yielded ops a.tmps) = true := by simp [Region.wanted, hg]
  simp only [hw, if_true]
  refine Or.inl ?_
  unfold Oper.wp
  rw [hrun]
  exact h
theorem wpOp_call {P : Program} {ops : Array Oper} {Q : Exit → Act → World → Prop} {i : Nat} {o : Oper} {a : Act} {w : World} {K : Act → World → Prop} {f : FuncId} {args : Array Value} (hi : ops[i]? = some o) (hg : o.guard = none) (hrun : (execOp a.eval o).run P w = .ok (.enter f args) w) (h : Calls P f args w fun e w' => ∃ v, e = .returned v ∧ K (a.put o.dst v) w') : wpOp P ops Q i K a w := by
  unfold wpOp
  rw [hi]
  have hw : Region.wanted o (yielded ops a.tmps) = true := by simp [Region.wanted, hg]
  simp only [hw, if_true]
  refine Or.inl ?_
  unfold Oper.wp
  rw [hrun, Oper.upon_enter]
  exact h.mono fun e w' ⟨v, he, hk⟩ => by subst he; exact hk
theorem wpOp_skip {P : Program} {ops : Array Oper} {Q : Exit → Act → World → Prop} {i : Nat} {o : Oper} {a : Act} {w w' : World} {K : Act → World → Prop} (hi : ops[i]? = some o) (hg : o.guard = none) (hrun : (execOp a.eval o).run P w = .ok .skip w') (h : K (a.put o.dst undef) w') : wpOp P ops Q i K a w := by
  unfold wpOp
  rw [hi]
  have hw : Region.wanted o (yielded ops a.tmps) = true := by simp [Region.wanted, hg]
  simp only [hw, if_true]
  refine Or.inl ?_
  unfold Oper.wp
  rw [hrun]
  exact h
theorem setCells_but (W : World) (b o : Nat) (vs : List Value) : But (· = b) W (W.setCells b o vs) := by
  induction vs generalizing W o with
  | nil => exact But.refl _ _
  | cons v vs ih => exact (butS (T := (· = b)) (But.refl _ _) rfl).trans (ih _ _) fun j _ hj => hj
theorem setCells_frozen (W : World) (b o : Nat) (vs : List Value) (a : Addr) (h : W.frozen? a = false) : (W.setCells b o vs).frozen? a = false := by
  induction vs generalizing W o with
  | nil => exact h
  | cons v vs ih => exact ih _ _ (fs_any h)
theorem exec_store {P : Program} {ρ : Operand → Value} {o : Oper} {t : TypeId} {a x : Operand} {va vx : Value} {w w' : World} (h : o.op = .store t a x) (ha : ρ a = va) (hx : ρ x = vx) (hr : (Instr.storeAt t va vx).run P w = .ok () w') : (execOp ρ o).run P w = .ok .skip w' := by
  unfold execOp
  simp only [h, ha, hx, Sem.run_bind, hr, Result.andThen_ok, Sem.run_pure]
theorem NRow.but {T : Nat → Prop} {w w' : World} {b L : Nat} {f : Nat → Nat} (h : NRow w b L f) (hb : But T w w') (ht : ¬ T b) : NRow w' b L f :=
  ⟨Nat.lt_of_lt_of_le h.1 hb.size, fun i hi => ⟨(hb.cell (p := ⟨b, i, none⟩) h.1 ht).trans (h.2 i hi).1, (frozen_block (hb.block h.1 ht) i).trans (h.2 i hi).2⟩⟩
theorem NRow.ints {w : World} {p b L : Nat} {f : Nat → Nat} (h : NRow w b L f) (hp : b ≠ p) (lo : Nat) : IntsIn w p (some ⟨b, 0, none⟩) f lo L := fun j _ h2 => ⟨b, 0, rfl, h.1, hp, by rw [Nat.zero_add]; exact (h.2 j h2).1⟩
theorem ints_none {w : World} {p : Nat} {a : Option Addr} {f : Nat → Nat} {L : Nat} : IntsIn w p a f L L := fun j h1 h2 => by omega
/-- A sentence's value. -/
abbrev snV (g : Gr) (R : Raw) (L : Nat) : Value := .agg #[.slice R.av g.verbs.length R.cv, .slice R.aa g.adverbs.length R.ca, .slice R.ab g.behind.length R.cb, .string g.outer, .string g.power, .string g.opn, .string g.cls, .string g.left, .string g.right, .string R.mi, .string R.qu, .bool g.trains, .bool g.lone, .bool g.square, .slice R.aw L R.cw]
/-- What lies in the five blocks: closers, three rows of noughts, a variable. -/
def mR (ws : List Wo) (i : Nat) (w : World) (b : Nat) : Prop := match i with
  | 0 => NRow w b ws.length (cloV ws)
  | 4 => (∀ k v, (#[.slice none 0 0, .slice none 0 0, .slice none 0 0, .string ⟨#[]⟩, .string ⟨#[]⟩, .string ⟨#[]⟩, .string ⟨#[]⟩, .string ⟨#[]⟩, .string ⟨#[]⟩, .string ⟨#[]⟩, .string ⟨#[]⟩, .bool false, .bool false, .bool false, .slice none 0 0, .slice none 0 0, .slice none 0 0, .slice none 0 0, .slice none 0 0] : Array Value)[k]? = some v → w.cell? ⟨b, k, none⟩ = some v) ∧ ∀ k, w.frozen? ⟨b, k, none⟩ = false
  | _ => NRow w b (ws.length + 1) (fun _ => 0)
def mV (L : Nat) (i : Nat) (b : Nat) : Value := match i with
  | 0 => .slice (some ⟨b, 0, none⟩) L L
  | 4 => .pointer (some ⟨b, 0, none⟩)
  | _ => .slice (some ⟨b, 0, none⟩) (L + 1) (L + 1)
theorem mR_keep (ws : List Wo) (i : Nat) (w w' : World) (b : Nat) (hb : Below w.heap.size w w') (hl : b < w.heap.size) (h : mR ws i w b) : mR ws i w' b := by
  rcases i with _ | _ | _ | _ | _ | i
  · exact NRow.keep h hb hl
  · exact NRow.keep h hb hl
  · exact NRow.keep h hb hl
  · exact NRow.keep h hb hl
  · exact ⟨fun k v hv => (hb.cell (p := ⟨b, k, none⟩) hl).trans (h.1 k v hv), fun k => (hb.frozen (p := ⟨b, k, none⟩) hl).trans (h.2 k)⟩
  · exact NRow.keep h hb hl
theorem chA_eval {s0 s1 s2 s3 s4 : Nat} {val : Nat → Nat → Value} {done : Nat → Bool} {D : Nat → Nat} {A0 : Act} (x : Nat) (h0 : x ≠ s0) (h1 : x ≠ s1) (h2 : x ≠ s2) (h3 : x ≠ s3) (h4 : x ≠ s4) : (chA s0 s1 s2 s3 s4 val done D A0).eval (.tmp x) = A0.eval (.tmp x) := by
  unfold chA
  rw [pB_eval _ _ _ (fun e => by cases e; exact h4 rfl), pB_eval _ _ _ (fun e => by cases e; exact h3 rfl), pB_eval _ _ _ (fun e => by cases e; exact h2 rfl), pB_eval _ _ _ (fun e => by cases e; exact h1 rfl), pB_eval _ _ _ (fun e => by cases e; exact h0 rfl)]
theorem chA_tmps {s0 s1 s2 s3 s4 : Nat} {val : Nat → Nat → Value} {done : Nat → Bool} {D : Nat → Nat} {A0 : Act} (x : Nat) (h0 : x ≠ s0) (h1 : x ≠ s1) (h2 : x ≠ s2) (h3 : x ≠ s3) (h4 : x ≠ s4) : (chA s0 s1 s2 s3 s4 val done D A0).tmps[x]?.getD undef = A0.tmps[x]?.getD undef := by
  have h := chA_eval (val := val) (done := done) (D := D) (A0 := A0) x h0 h1 h2 h3 h4
  simpa [Act.eval] using h
theorem put_same (a : Act) (d : Nat) (v : Value) (h : d < a.tmps.size) : (a.put (some d) v).eval (.tmp d) = v := by
  simp [Act.put, Act.eval, h]
theorem put_size (a : Act) (d : Option Nat) (v : Value) : (a.put d v).tmps.size = a.tmps.size := by
  cases d <;> simp [Act.put]
theorem pB_size (f : Bool) (d : Nat) (v : Value) (a : Act) : (pB f d v a).tmps.size = a.tmps.size := by
  cases f with
  | false => rfl
  | true => exact put_size a (some d) v
theorem chA_size {s0 s1 s2 s3 s4 : Nat} {val : Nat → Nat → Value} {done : Nat → Bool} {D : Nat → Nat} {A0 : Act} : (chA s0 s1 s2 s3 s4 val done D A0).tmps.size = A0.tmps.size := by
  unfold chA
  rw [pB_size, pB_size, pB_size, pB_size, pB_size]
theorem chA_four {s0 s1 s2 s3 s4 : Nat} {val : Nat → Nat → Value} {done : Nat → Bool} {D : Nat → Nat} {A0 : Act} (hd : done 4 = true) (h : s4 < A0.tmps.size) : (chA s0 s1 s2 s3 s4 val done D A0).eval (.tmp s4) = val 4 (D 4) := by
  unfold chA
  rw [hd]
  exact put_same _ _ _ (by rw [pB_size, pB_size, pB_size, pB_size]; exact h)
/-- The same from the start. -/
theorem drive0 {P : Program} {ops : Array Oper} {Q : Exit → Act → World → Prop} {R : Nat → World → Nat → Prop} {w3 w : World} {s0 s1 s2 s3 s4 s5 : Nat} {val : Nat → Nat → Value} {vb : (Nat → Nat) → Value} {A0 : Act} (hw : Below w3.heap.size w3 w)
    (h01 : s0 ≠ s1) (h02 : s0 ≠ s2) (h03 : s0 ≠ s3) (h04 : s0 ≠ s4) (h12 : s1 ≠ s2) (h13 : s1 ≠ s3) (h14 : s1 ≠ s4) (h23 : s2 ≠ s3) (h24 : s2 ≠ s4) (h34 : s3 ≠ s4) (h45 : s4 ≠ s5)
    (hR : ∀ i w w' b, Below w.heap.size w w' → b < w.heap.size → R i w b → R i w' b)
    (hr : ∀ c x y z b m s, Region.ready .any ops (lst c x y z b m s) = rdy c x y z b m s)
    (T : ∀ (o i s : Nat), (o = 3 ∧ i = 0 ∧ s = s0) ∨ (o = 5 ∧ i = 1 ∧ s = s1) ∨ (o = 7 ∧ i = 2 ∧ s = s2) ∨ (o = 9 ∧ i = 3 ∧ s = s3) → ∀ done D w, Mj R w3 done D w → ∀ K : Act → World → Prop, (∀ b w', Below w.heap.size w w' → w.heap.size ≤ b → b < w'.heap.size → R i w' b → K ((chA s0 s1 s2 s3 s4 val done D A0).put (some s) (val i b)) w') → wpOp P ops Q o K (chA s0 s1 s2 s3 s4 val done D A0) w)
    (T4 : ∀ a w (K : Act → World → Prop), (∀ b w', Below w.heap.size w w' → w.heap.size ≤ b → b < w'.heap.size → R 4 w' b → K (a.put (some s4) (val 4 b)) w') → wpOp P ops Q 11 K a w)
    (TB : ∀ m D w (K : Act → World → Prop), K ((chA s0 s1 s2 s3 s4 val (dn true true true true m) D A0).put (some s5) (vb D)) w → wpOp P ops Q 10 K (chA s0 s1 s2 s3 s4 val (dn true true true true m) D A0) w)
    (hvb : ∀ D b, vb (updD D 4 b) = vb D)
    (TE : ∀ D w, Mj R w3 (dn true true true true true) D w → wpOp P ops Q 12 (fun a' w' => Below w3.heap.size w3 w' ∧ Q .normal a' w') ((chA s0 s1 s2 s3 s4 val (dn true true true true true) D A0).put (some s5) (vb D)) w) :
    wpAnyH P .any ops Q (fun W => Below w3.heap.size w3 W) 7 (lst false false false false false false false) A0 w :=
  drive h01 h02 h03 h04 h12 h13 h14 h23 h24 h34 h45 hR hr T T4 TB hvb TE 5 false false false false false rfl (fun _ => 0) w ⟨hw, (fun i hi => by
    rcases i with _ | _ | _ | _ | _ | i <;> simp [dn] at hi), (fun i j hi => by
    rcases i with _ | _ | _ | _ | _ | i <;> simp [dn] at hi)⟩
/-- What measure promises. -/
def GvM (n : Nat) (w0 w : World) (g : Gr) (R : Raw) (ws : List Wo) (en : Ending) (w' : World) : Prop := ∃ bc bt ba bb : Nat, en = .returned (.agg #[.slice R.av g.verbs.length R.cv, .slice R.aa g.adverbs.length R.ca, .slice R.ab g.behind.length R.cb, .string g.outer, .string g.power, .string g.opn, .string g.cls, .string g.left, .string g.right, .string R.mi, .string R.qu, .bool g.trains, .bool g.lone, .bool g.square, .slice R.aw ws.length R.cw, .slice (some ⟨bc, 0, none⟩) ws.length ws.length, .slice (some ⟨bt, 0, none⟩) (ws.length + 1) (ws.length + 1), .slice (some ⟨ba, 0, none⟩) (ws.length + 1) (ws.length + 1), .slice (some ⟨bb, 0, none⟩) (ws.length + 1) (ws.length + 1)]) ∧ Below w.heap.size w w' ∧ (bc < w'.heap.size ∧ bt < w'.heap.size ∧ ba < w'.heap.size ∧ bb < w'.heap.size) ∧ (w.heap.size ≤ bc ∧ w.heap.size ≤ bt ∧ w.heap.size ≤ ba ∧ w.heap.size ≤ bb) ∧ ∀ p, w'.heap.size ≤ p → IntsIn w' p (some ⟨bc, 0, none⟩) (cloV ws) 0 ws.length ∧ IntsIn w' p (some ⟨bt, 0, none⟩) (tailV g ws) 0 (ws.length + 1) ∧ IntsIn w' p (some ⟨ba, 0, none⟩) (wholeV g false ws) 0 (ws.length + 1) ∧ IntsIn w' p (some ⟨bb, 0, none⟩) (wholeV g true ws) 0 (ws.length + 1)
theorem IntsIn.final {T : Nat → Prop} {w w' : World} {p p' b : Nat} {f : Nat → Nat} {lo hi : Nat} (h : IntsIn w p (some ⟨b, 0, none⟩) f lo hi) (hb : But T w w') (ht : ¬ T b) (hp : w'.heap.size ≤ p') : IntsIn w' p' (some ⟨b, 0, none⟩) f lo hi := fun j h1 h2 => by
  obtain ⟨b', off, ha, hl, -, hc⟩ := h j h1 h2
  cases ha
  have hs := hb.size
  exact ⟨b, 0, rfl, by omega, by omega, (hb.cell (p := ⟨b, 0 + j, none⟩) hl ht).trans hc⟩
set_option maxHeartbeats 8000000 in
theorem measure20 {n : Nat} {w0 w : World} {g : Gr} {R : Raw} {ws : List Wo} (ho : Below w0.heap.size w0 w) (sv : StrsIn w0 R.av g.verbs) (sa : StrsIn w0 R.aa g.adverbs) (sb : StrsIn w0 R.ab g.behind) (wo : WoIn n w0 R.aw ws) :
    Calls Try.prog 20 #[snV g R ws.length] w fun en w' => GvM n w0 w g R ws en w' := by
  have hL := wo.1
  obtain ⟨W2, hW2⟩ : ∃ W2, (w.alloc (.cells #[.slice R.av g.verbs.length R.cv, .slice R.aa g.adverbs.length R.ca, .slice R.ab g.behind.length R.cb, .string g.outer, .string g.power, .string g.opn, .string g.cls, .string g.left, .string g.right, .string R.mi, .string R.qu, .bool g.trains, .bool g.lone, .bool g.square, .slice R.aw ws.length R.cw] 55)).alloc (.cells #[.slice none 0 0, .slice none 0 0, .slice none 0 0, .string ⟨#[]⟩, .string ⟨#[]⟩, .string ⟨#[]⟩, .string ⟨#[]⟩, .string ⟨#[]⟩, .string ⟨#[]⟩, .string ⟨#[]⟩, .string ⟨#[]⟩, .bool false, .bool false, .bool false, .slice none 0 0, .slice none 0 0, .slice none 0 0, .slice none 0 0, .slice none 0 0] 57) = W2 := ⟨_, rfl⟩
  have b2 : Below w.heap.size w W2 := by rw [← hW2]; exact two_allocs _ _ _
  have s2 : W2.heap.size = w.heap.size + 2 := by rw [← hW2]; simp
  have HC30 := hide (fun W (hW : Below W2.heap.size W2 W) => closers30 wo (ho.trans ((b2.trans (hW.mono b2.size)).mono ho.size)) R.cw (w := W))
  have cS : ∀ k v, (#[.slice R.av g.verbs.length R.cv, .slice R.aa g.adverbs.length R.ca, .slice R.ab g.behind.length R.cb, .string g.outer, .string g.power, .string g.opn, .string g.cls, .string g.left, .string g.right, .string R.mi, .string R.qu, .bool g.trains, .bool g.lone, .bool g.square, .slice R.aw ws.length R.cw] : Array Value)[k]? = some v → W2.cell? ⟨w.heap.size, k, none⟩ = some v := fun k v hv => by
    rw [← hW2]
    exact (((one_alloc _ _).cell (p := ⟨w.heap.size, k, none⟩) (by simp)).trans (cell_new0 w #[.slice R.av g.verbs.length R.cv, .slice R.aa g.adverbs.length R.ca, .slice R.ab g.behind.length R.cb, .string g.outer, .string g.power, .string g.opn, .string g.cls, .string g.left, .string g.right, .string R.mi, .string R.qu, .bool g.trains, .bool g.lone, .bool g.square, .slice R.aw ws.length R.cw] 55 k v hv))
  have RV2 : Hid (W2.there (w.heap.size + 1) 0 19) := fun j hj => by
    obtain ⟨v, hv⟩ : ∃ v, (#[.slice none 0 0, .slice none 0 0, .slice none 0 0, .string ⟨#[]⟩, .string ⟨#[]⟩, .string ⟨#[]⟩, .string ⟨#[]⟩, .string ⟨#[]⟩, .string ⟨#[]⟩, .string ⟨#[]⟩, .string ⟨#[]⟩, .bool false, .bool false, .bool false, .slice none 0 0, .slice none 0 0, .slice none 0 0, .slice none 0 0, .slice none 0 0] : Array Value)[j]? = some v := ⟨_, Array.getElem?_eq_getElem (by simpa using hj)⟩
    have h9 := cell_new0 (w.alloc (.cells #[.slice R.av g.verbs.length R.cv, .slice R.aa g.adverbs.length R.ca, .slice R.ab g.behind.length R.cb, .string g.outer, .string g.power, .string g.opn, .string g.cls, .string g.left, .string g.right, .string R.mi, .string R.qu, .bool g.trains, .bool g.lone, .bool g.square, .slice R.aw ws.length R.cw] 55)) #[.slice none 0 0, .slice none 0 0, .slice none 0 0, .string ⟨#[]⟩, .string ⟨#[]⟩, .string ⟨#[]⟩, .string ⟨#[]⟩, .string ⟨#[]⟩, .string ⟨#[]⟩, .string ⟨#[]⟩, .string ⟨#[]⟩, .bool false, .bool false, .bool false, .slice none 0 0, .slice none 0 0, .slice none 0 0, .slice none 0 0, .slice none 0 0] 57 j v hv
    have hs : (w.alloc (.cells #[.slice R.av g.verbs.length R.cv, .slice R.aa g.adverbs.length R.ca, .slice R.ab g.behind.length R.cb, .string g.outer, .string g.power, .string g.opn, .string g.cls, .string g.left, .string g.right, .string R.mi, .string R.qu, .bool g.trains, .bool g.lone, .bool g.square, .slice R.aw ws.length R.cw] 55)).heap.size = w.heap.size + 1 := by simp
    have f9 : ((w.alloc (.cells #[.slice R.av g.verbs.length R.cv, .slice R.aa g.adverbs.length R.ca, .slice R.ab g.behind.length R.cb, .string g.outer, .string g.power, .string g.opn, .string g.cls, .string g.left, .string g.right, .string R.mi, .string R.qu, .bool g.trains, .bool g.lone, .bool g.square, .slice R.aw ws.length R.cw] 55)).alloc (.cells #[.slice none 0 0, .slice none 0 0, .slice none 0 0, .string ⟨#[]⟩, .string ⟨#[]⟩, .string ⟨#[]⟩, .string ⟨#[]⟩, .string ⟨#[]⟩, .string ⟨#[]⟩, .string ⟨#[]⟩, .string ⟨#[]⟩, .bool false, .bool false, .bool false, .slice none 0 0, .slice none 0 0, .slice none 0 0, .slice none 0 0, .slice none 0 0] 57)).frozen? ⟨(w.alloc (.cells #[.slice R.av g.verbs.length R.cv, .slice R.aa g.adverbs.length R.ca, .slice R.ab g.behind.length R.cb, .string g.outer, .string g.power, .string g.opn, .string g.cls, .string g.left, .string g.right, .string R.mi, .string R.qu, .bool g.trains, .bool g.lone, .bool g.square, .slice R.aw ws.length R.cw] 55)).heap.size, j, none⟩ = false := frozen_new _ _ _ _
    rw [hW2, hs] at h9 f9
    exact ⟨by rw [Nat.zero_add, h9]; rfl, by rw [Nat.zero_add]; exact f9⟩
  have KS : Hid (∀ W, Below W2.heap.size W2 W → ∀ k v, (#[.slice R.av g.verbs.length R.cv, .slice R.aa g.adverbs.length R.ca, .slice R.ab g.behind.length R.cb, .string g.outer, .string g.power, .string g.opn, .string g.cls, .string g.left, .string g.right, .string R.mi, .string R.qu, .bool g.trains, .bool g.lone, .bool g.square, .slice R.aw ws.length R.cw] : Array Value)[k]? = some v → W.cell? ⟨w.heap.size, k, none⟩ = some v) := fun W hW k v hv => (hW.cell (p := ⟨w.heap.size, k, none⟩) (by show w.heap.size < _; omega)).trans (cS k v hv)
  have HD0 : Hid (Below W2.heap.size W2 W2.drew) := (Below.refl _ _).drew
  have HMK := hide (fun W => mk33 (ws.length + 1) (by omega) W)
  have HE := hide hW2
  have cw14 := cS 14 _ rfl
  clear hW2
  obtain ⟨L, hLL⟩ : ∃ L, ws.length = L := ⟨_, rfl⟩
  rw [hLL] at KS HE hL HMK cw14 ⊢
  simp only [hLL] at HC30
  have hM1 : IntKind.i64.wrap ((L : Int) + 1) = ((L + 1 : Nat) : Int) := (IntWalk.i64_in _ ⟨by omega, by omega⟩).trans (by omega)
  go_enter Try.func20, Try.ntmps20
  go_upto_region 1 with fail
  rw [HE.out]
  go_upto_region 2 with fail
  refine wp_region_held (S := fun W => Below W2.heap.size W2 W) (Eq.refl true) ?_
  refine wpAnyH_take (i := 0) (v := .agg #[.slice R.av g.verbs.length R.cv, .slice R.aa g.adverbs.length R.ca, .slice R.ab g.behind.length R.cb, .string g.outer, .string g.power, .string g.opn, .string g.cls, .string g.left, .string g.right, .string R.mi, .string R.qu, .bool g.trains, .bool g.lone, .bool g.square, .slice R.aw L R.cw]) rfl (by kernel_rfl) (by kernel_rfl) (by kernel_rfl) (fun _ _ _ hh => hh) (Or.inl ⟨rfl, fun W hW => ?_⟩) HD0.out ?_
  · have hc := KS.out W hW
    have g0 := hc 0 _ rfl
    have g1 := hc 1 _ rfl
    have g2 := hc 2 _ rfl
    have g3 := hc 3 _ rfl
    have g4 := hc 4 _ rfl
    have g5 := hc 5 _ rfl
    have g6 := hc 6 _ rfl
    have g7 := hc 7 _ rfl
    have g8 := hc 8 _ rfl
    have g9 := hc 9 _ rfl
    have g10 := hc 10 _ rfl
    have g11 := hc 11 _ rfl
    have g12 := hc 12 _ rfl
    have g13 := hc 13 _ rfl
    have g14 := hc 14 _ rfl
    go_simp
  refine wpAnyH_take (i := 1) (v := .pointer (some ⟨w.heap.size, 14, none⟩)) rfl (by kernel_rfl) (by kernel_rfl) (by kernel_rfl) (fun _ _ _ hh => hh) (Or.inl ⟨rfl, fun W hW => ?_⟩) HD0.out ?_
  · go_simp
  refine wpAnyH_take (i := 2) (v := .slice R.aw L R.cw) rfl (by kernel_rfl) (by kernel_rfl) (by kernel_rfl) (fun _ _ _ hh => hh) (Or.inl ⟨rfl, fun W hW => ?_⟩) HD0.out ?_
  · have g14 := KS.out W hW 14 _ rfl
    go_simp
  refine wpAnyH_take (i := 4) (v := .int .i64 ((L + 1 : Nat) : Int)) rfl (by kernel_rfl) (by kernel_rfl) (by kernel_rfl) (fun _ _ _ hh => hh) (Or.inl ⟨rfl, fun W hW => ?_⟩) HD0.out ?_
  · go_simp
  refine wpAnyH_take (i := 6) (v := .int .i64 ((L + 1 : Nat) : Int)) rfl (by kernel_rfl) (by kernel_rfl) (by kernel_rfl) (fun _ _ _ hh => hh) (Or.inl ⟨rfl, fun W hW => ?_⟩) HD0.out ?_
  · go_simp
  refine wpAnyH_take (i := 8) (v := .int .i64 ((L + 1 : Nat) : Int)) rfl (by kernel_rfl) (by kernel_rfl) (by kernel_rfl) (fun _ _ _ hh => hh) (Or.inl ⟨rfl, fun W hW => ?_⟩) HD0.out ?_
  · go_simp
  refine drive0 (R := mR ws) (s0 := 13) (s1 := 15) (s2 := 17) (s3 := 19) (s4 := 4) (s5 := 20) (val := mV L) (vb := fun D => .agg #[.slice R.av g.verbs.length R.cv, .slice R.aa g.adverbs.length R.ca, .slice R.ab g.behind.length R.cb, .string g.outer, .string g.power, .string g.opn, .string g.cls, .string g.left, .string g.right, .string R.mi, .string R.qu, .bool g.trains, .bool g.lone, .bool g.square, .slice R.aw L R.cw, .slice (some ⟨D 0, 0, none⟩) L L, .slice (some ⟨D 1, 0, none⟩) (L + 1) (L + 1), .slice (some ⟨D 2, 0, none⟩) (L + 1) (L + 1), .slice (some ⟨D 3, 0, none⟩) (L + 1) (L + 1)]) HD0.out (by decide) (by decide) (by decide) (by decide) (by decide) (by decide) (by decide) (by decide) (by decide) (by decide) (by decide) (mR_keep ws) (by intro c x y z b m s; cases c <;> cases x <;> cases y <;> cases z <;> cases b <;> cases m <;> cases s <;> kernel_rfl) ?_ ?_ ?_ (fun D b => rfl) ?_
  · intro o i s hcase done D W hM K hK
    rcases hcase with ⟨rfl, rfl, rfl⟩ | ⟨rfl, rfl, rfl⟩ | ⟨rfl, rfl, rfl⟩ | ⟨rfl, rfl, rfl⟩
    · refine wpOp_call (f := 30) (args := #[.slice R.aw L R.cw]) rfl rfl ?_ ?_
      · go_simp
        rw [chA_tmps (s0 := 13) (s1 := 15) (s2 := 17) (s3 := 19) (s4 := 4) 12 (by decide) (by decide) (by decide) (by decide) (by decide)]
        go_simp
      · refine (HC30.out W hM.below).mono fun e w' hh => ?_
        obtain ⟨rfl, hb, hn⟩ := hh
        exact ⟨_, rfl, hK W.heap.size w' hb (Nat.le_refl _) hn.1 (by show NRow w' W.heap.size ws.length (cloV ws); rw [hLL]; exact hn)⟩
    · refine wpOp_run (w' := W.alloc (.cells (madeCells #[.int .i64 0] (L + 1)) 3)) (v := .slice (some ⟨W.heap.size, 0, none⟩) (L + 1) (L + 1)) rfl rfl ?_ ?_
      · go_simp
        rw [chA_tmps (s0 := 13) (s1 := 15) (s2 := 17) (s3 := 19) (s4 := 4) 14 (by decide) (by decide) (by decide) (by decide) (by decide)]
        have hm := HMK.out W
        rw [show ((L + 1 : Nat) : Int) = (L : Int) + 1 by simp] at hm
        go_simp
      · exact hK W.heap.size _ (one_alloc _ _) (Nat.le_refl _) (by simp) (by show NRow _ _ (ws.length + 1) _; rw [hLL]; exact ⟨by simp, fun i hi => ⟨made_cell _ _ hi _, frozen_new _ _ _ _⟩⟩)
    · refine wpOp_run (w' := W.alloc (.cells (madeCells #[.int .i64 0] (L + 1)) 3)) (v := .slice (some ⟨W.heap.size, 0, none⟩) (L + 1) (L + 1)) rfl rfl ?_ ?_
      · go_simp
        rw [chA_tmps (s0 := 13) (s1 := 15) (s2 := 17) (s3 := 19) (s4 := 4) 16 (by decide) (by decide) (by decide) (by decide) (by decide)]
        have hm := HMK.out W
        rw [show ((L + 1 : Nat) : Int) = (L : Int) + 1 by simp] at hm
        go_simp
      · exact hK W.heap.size _ (one_alloc _ _) (Nat.le_refl _) (by simp) (by show NRow _ _ (ws.length + 1) _; rw [hLL]; exact ⟨by simp, fun i hi => ⟨made_cell _ _ hi _, frozen_new _ _ _ _⟩⟩)
    · refine wpOp_run (w' := W.alloc (.cells (madeCells #[.int .i64 0] (L + 1)) 3)) (v := .slice (some ⟨W.heap.size, 0, none⟩) (L + 1) (L + 1)) rfl rfl ?_ ?_
      · go_simp
        rw [chA_tmps (s0 := 13) (s1 := 15) (s2 := 17) (s3 := 19) (s4 := 4) 18 (by decide) (by decide) (by decide) (by decide) (by decide)]
        have hm := HMK.out W
        rw [show ((L + 1 : Nat) : Int) = (L : Int) + 1 by simp] at hm
        go_simp
      · exact hK W.heap.size _ (one_alloc _ _) (Nat.le_refl _) (by simp) (by show NRow _ _ (ws.length + 1) _; rw [hLL]; exact ⟨by simp, fun i hi => ⟨made_cell _ _ hi _, frozen_new _ _ _ _⟩⟩)
  · intro a W K hK
    refine wpOp_run (w' := W.alloc (.cells #[.slice none 0 0, .slice none 0 0, .slice none 0 0, .string ⟨#[]⟩, .string ⟨#[]⟩, .string ⟨#[]⟩, .string ⟨#[]⟩, .string ⟨#[]⟩, .string ⟨#[]⟩, .string ⟨#[]⟩, .string ⟨#[]⟩, .bool false, .bool false, .bool false, .slice none 0 0, .slice none 0 0, .slice none 0 0, .slice none 0 0, .slice none 0 0] 57)) (v := .pointer (some ⟨W.heap.size, 0, none⟩)) rfl rfl ?_ ?_
    · go_simp
    · exact hK W.heap.size _ (one_alloc _ _) (Nat.le_refl _) (by simp) ⟨fun k v hv => cell_new0 W _ 57 k v hv, fun k => frozen_new _ _ _ _⟩
  · intro m D W K hK
    refine wpOp_run rfl rfl ?_ hK
    simp only [chA, dn, pB, if_true, mV]
    cases m <;> go_simp
  · intro D W hM
    obtain ⟨h41, h42, h43⟩ := hM.each 4 rfl
    obtain ⟨hz, hf⟩ : (∀ k v, (#[.slice none 0 0, .slice none 0 0, .slice none 0 0, .string ⟨#[]⟩, .string ⟨#[]⟩, .string ⟨#[]⟩, .string ⟨#[]⟩, .string ⟨#[]⟩, .string ⟨#[]⟩, .string ⟨#[]⟩, .string ⟨#[]⟩, .bool false, .bool false, .bool false, .slice none 0 0, .slice none 0 0, .slice none 0 0, .slice none 0 0, .slice none 0 0] : Array Value)[k]? = some v → W.cell? ⟨D 4, k, none⟩ = some v) ∧ ∀ k, W.frozen? ⟨D 4, k, none⟩ = false := h43
    obtain ⟨W9, hW9⟩ : ∃ W9, W.setCells (D 4) 0 [.slice R.av g.verbs.length R.cv, .slice R.aa g.adverbs.length R.ca, .slice R.ab g.behind.length R.cb, .string g.outer, .string g.power, .string g.opn, .string g.cls, .string g.left, .string g.right, .string R.mi, .string R.qu, .bool g.trains, .bool g.lone, .bool g.square, .slice R.aw L R.cw, .slice (some ⟨D 0, 0, none⟩) L L, .slice (some ⟨D 1, 0, none⟩) (L + 1) (L + 1), .slice (some ⟨D 2, 0, none⟩) (L + 1) (L + 1), .slice (some ⟨D 3, 0, none⟩) (L + 1) (L + 1)] = W9 := ⟨_, rfl⟩
    have HTH : W.there (D 4) 0 19 := fun j hj => by
      obtain ⟨v, hv⟩ : ∃ v, (#[.slice none 0 0, .slice none 0 0, .slice none 0 0, .string ⟨#[]⟩, .string ⟨#[]⟩, .string ⟨#[]⟩, .string ⟨#[]⟩, .string ⟨#[]⟩, .string ⟨#[]⟩, .string ⟨#[]⟩, .string ⟨#[]⟩, .bool false, .bool false, .bool false, .slice none 0 0, .slice none 0 0, .slice none 0 0, .slice none 0 0, .slice none 0 0] : Array Value)[j]? = some v := ⟨_, Array.getElem?_eq_getElem (by simpa using hj)⟩
      have h9 := hz j v hv
      exact ⟨by rw [Nat.zero_add, h9]; rfl, by rw [Nat.zero_add]; exact hf j⟩
    refine wpOp_skip (w' := W9) rfl rfl (exec_store (t := 57) (a := .tmp 4) (x := .tmp 20) (va := .pointer (some ⟨D 4, 0, none⟩)) (vx := .agg #[.slice R.av g.verbs.length R.cv, .slice R.aa g.adverbs.length R.ca, .slice R.ab g.behind.length R.cb, .string g.outer, .string g.power, .string g.opn, .string g.cls, .string g.left, .string g.right, .string R.mi, .string R.qu, .bool g.trains, .bool g.lone, .bool g.square, .slice R.aw L R.cw, .slice (some ⟨D 0, 0, none⟩) L L, .slice (some ⟨D 1, 0, none⟩) (L + 1) (L + 1), .slice (some ⟨D 2, 0, none⟩) (L + 1) (L + 1), .slice (some ⟨D 3, 0, none⟩) (L + 1) (L + 1)]) rfl ((Act.eval_put (dst := some 20) (fun k hk => by cases hk; intro e; cases e)).trans (chA_four rfl (Nat.lt_of_lt_of_eq (by decide : 4 < 46) rfl))) (put_same _ 20 _ (by rw [chA_size]; exact Nat.lt_of_lt_of_eq (by decide : 20 < 46) rfl)) (by rw [← hW9]; exact run_storeAt_mid W (D 4) 0 57 _ HTH (by kernel_rfl) (by simp [Value.oneCell']))) ?_
    have b9 := setCells_but W (D 4) 0 [.slice R.av g.verbs.length R.cv, .slice R.aa g.adverbs.length R.ca, .slice R.ab g.behind.length R.cb, .string g.outer, .string g.power, .string g.opn, .string g.cls, .string g.left, .string g.right, .string R.mi, .string R.qu, .bool g.trains, .bool g.lone, .bool g.square, .slice R.aw L R.cw, .slice (some ⟨D 0, 0, none⟩) L L, .slice (some ⟨D 1, 0, none⟩) (L + 1) (L + 1), .slice (some ⟨D 2, 0, none⟩) (L + 1) (L + 1), .slice (some ⟨D 3, 0, none⟩) (L + 1) (L + 1)]
    rw [hW9] at b9
    have hB9 : Below W2.heap.size W2 W9 := hM.below.trans (b9.below hM.below.size fun k hk => by omega)
    have h9s := b9.size
    obtain ⟨h01, h02, h03⟩ := hM.each 0 rfl
    obtain ⟨h11, h12, h13⟩ := hM.each 1 rfl
    obtain ⟨h21, h22, h23⟩ := hM.each 2 rfl
    obtain ⟨h31, h32, h33⟩ := hM.each 3 rfl
    have n01 := hM.inj 0 1 rfl rfl (by decide)
    have n02 := hM.inj 0 2 rfl rfl (by decide)
    have n03 := hM.inj 0 3 rfl rfl (by decide)
    have n04 := hM.inj 0 4 rfl rfl (by decide)
    have n12 := hM.inj 1 2 rfl rfl (by decide)
    have n13 := hM.inj 1 3 rfl rfl (by decide)
    have n14 := hM.inj 1 4 rfl rfl (by decide)
    have n23 := hM.inj 2 3 rfl rfl (by decide)
    have n24 := hM.inj 2 4 rfl rfl (by decide)
    have n34 := hM.inj 3 4 rfl rfl (by decide)
    have hrg := World.rangeAt_setCells_same W (D 4) 0 [.slice R.av g.verbs.length R.cv, .slice R.aa g.adverbs.length R.ca, .slice R.ab g.behind.length R.cb, .string g.outer, .string g.power, .string g.opn, .string g.cls, .string g.left, .string g.right, .string R.mi, .string R.qu, .bool g.trains, .bool g.lone, .bool g.square, .slice R.aw L R.cw, .slice (some ⟨D 0, 0, none⟩) L L, .slice (some ⟨D 1, 0, none⟩) (L + 1) (L + 1), .slice (some ⟨D 2, 0, none⟩) (L + 1) (L + 1), .slice (some ⟨D 3, 0, none⟩) (L + 1) (L + 1)] HTH
    rw [hW9] at hrg
    have cc : ∀ k v, ([.slice R.av g.verbs.length R.cv, .slice R.aa g.adverbs.length R.ca, .slice R.ab g.behind.length R.cb, .string g.outer, .string g.power, .string g.opn, .string g.cls, .string g.left, .string g.right, .string R.mi, .string R.qu, .bool g.trains, .bool g.lone, .bool g.square, .slice R.aw L R.cw, .slice (some ⟨D 0, 0, none⟩) L L, .slice (some ⟨D 1, 0, none⟩) (L + 1) (L + 1), .slice (some ⟨D 2, 0, none⟩) (L + 1) (L + 1), .slice (some ⟨D 3, 0, none⟩) (L + 1) (L + 1)] : List Value)[k]? = some v → W9.cell? ⟨D 4, k, none⟩ = some v := fun k v hv => by
      have := hrg k v hv
      rw [Nat.zero_add] at this
      exact this
    have r0 : NRow W9 (D 0) ws.length (cloV ws) := NRow.but h03 b9 n04
    have r1 : NRow W9 (D 1) (ws.length + 1) (fun _ => 0) := NRow.but h13 b9 n14
    have r2 : NRow W9 (D 2) (ws.length + 1) (fun _ => 0) := NRow.but h23 b9 n24
    have r3 : NRow W9 (D 3) (ws.length + 1) (fun _ => 0) := NRow.but h33 b9 n34
    have hrv : W9.there (w.heap.size + 1) 0 19 := there_next RV2.out (by omega) hB9
    have MS0 : Hid (Ms n w0 w g R ws (D 4) (D 0) (D 1) (D 2) (D 3) (L + 1) (L + 1) (L + 1) W9) := by
      have hw9 : Below w.heap.size w W9 := b2.trans (hB9.mono b2.size)
      refine ⟨hw9, ⟨⟨ho.trans (hw9.mono ho.size), by have := ho.size; omega, by omega, cc 0 _ rfl, cc 1 _ rfl, cc 2 _ rfl, cc 3 _ rfl, cc 4 _ rfl, cc 5 _ rfl, cc 6 _ rfl, cc 7 _ rfl, cc 8 _ rfl, cc 11 _ rfl, cc 12 _ rfl, cc 13 _ rfl, by rw [hLL]; exact cc 14 _ rfl, sv, sa, sb, wo⟩, ?_, ?_, ?_, ?_, r0.ints n04 0, ?_, ?_, ?_⟩, ⟨_, r1⟩, ⟨_, r2⟩, ⟨_, r3⟩, hrv, r0.1, cc 9 _ rfl, cc 10 _ rfl, ⟨n14, n24, n34⟩, ⟨n01, n02, n03⟩, ⟨n12, n13, n23⟩, ⟨by omega, by omega, by omega, by omega, by omega⟩, ho.size⟩
      · rw [hLL]; exact cc 15 _ rfl
      · rw [hLL]; exact cc 16 _ rfl
      · rw [hLL]; exact cc 17 _ rfl
      · rw [hLL]; exact cc 18 _ rfl
      · rw [hLL]; exact ints_none
      · rw [hLL]; exact ints_none
      · rw [hLL]; exact ints_none
    refine ⟨hB9, ?_⟩
    simp only [chA, dn, pB, if_true, mV]
    clear KS HC30 HMK HE cS cw14 hz hf HTH hM h41 h42 h01 h02 h03 h11 h12 h13 h21 h22 h23 h31 h32 h33 n01 n02 n03 n04 n12 n13 n14 n23 n24 n34 hrg cc r0 r1 r2 r3 hrv hW9 b9 hB9 h9s RV2 HD0 ho sv sa sb b2 s2 wo
    generalize D 4 = pm at *
    generalize D 0 = bc at *
    generalize D 1 = bt at *
    generalize D 2 = ba at *
    generalize D 3 = bb at *
    go_wp2
    go_loopg [5] (L + 1) (fun gm ix wr => ∃ i : Int, ix = .int .i64 i ∧ ((i = -1 ∧ gm = 0 ∧ Ms n w0 w g R ws pm bc bt ba bb 0 0 0 wr) ∨ ∃ k : Nat, i = (k : Int) ∧ k ≤ L ∧ gm = k + 1 ∧ Ms n w0 w g R ws pm bc bt ba bb (k + 1) (k + 1) (k + 1) wr))
    case atStart => exact ⟨(L : Int), by first | rfl | simp, Or.inr ⟨L, rfl, Nat.le_refl _, rfl, MS0.out⟩⟩
    case round =>
      clear MS0
      obtain ⟨i, rfl, hor⟩ := hrel
      rcases hor with ⟨rfl, rfl, hms⟩ | ⟨k, rfl, hk, rfl, hms⟩
      · have hsp := hms.sp
        have v0 := hsp.sn.c0
        have v1 := hsp.sn.c1
        have v2 := hsp.sn.c2
        have v3 := hsp.sn.c3
        have v4 := hsp.sn.c4
        have v5 := hsp.sn.c5
        have v6 := hsp.sn.c6
        have v7 := hsp.sn.c7
        have v8 := hsp.sn.c8
        have v11 := hsp.sn.c11
        have v12 := hsp.sn.c12
        have v13 := hsp.sn.c13
        have v14 := hsp.sn.c14
        have v9 := hms.c9
        have v10 := hms.c10
        have v15 := hsp.c15
        have v16 := hsp.c16
        have v17 := hsp.c17
        have v18 := hsp.c18
        rw [hLL] at v14 v15 v16 v17 v18
        have HRV := hide hms.rv
        have HFIN : Hid (∀ wf, But (· = w.heap.size + 1) wr wf → GvM n w0 w g R ws (.returned (.agg #[.slice R.av g.verbs.length R.cv, .slice R.aa g.adverbs.length R.ca, .slice R.ab g.behind.length R.cb, .string g.outer, .string g.power, .string g.opn, .string g.cls, .string g.left, .string g.right, .string R.mi, .string R.qu, .bool g.trains, .bool g.lone, .bool g.square, .slice R.aw L R.cw, .slice (some ⟨bc, 0, none⟩) L L, .slice (some ⟨bt, 0, none⟩) (L + 1) (L + 1), .slice (some ⟨ba, 0, none⟩) (L + 1) (L + 1), .slice (some ⟨bb, 0, none⟩) (L + 1) (L + 1)])) wf) := fun wf hf => by
          have hne := hms.ne
          have hlt := hsp.sn.hp2
          have hs := hf.size
          have ho := hms.old.size
          obtain ⟨f1, q1⟩ := hms.rt
          obtain ⟨f2, q2⟩ := hms.ra
          obtain ⟨f3, q3⟩ := hms.rb
          have q0 : bc < wf.heap.size := Nat.lt_of_lt_of_le hms.lc hs
          refine ⟨bc, bt, ba, bb, by rw [hLL], hms.old.trans (hf.below ho fun k hk => by omega), ⟨q0, Nat.lt_of_lt_of_le q1.1 hs, Nat.lt_of_lt_of_le q2.1 hs, Nat.lt_of_lt_of_le q3.1 hs⟩, ⟨by omega, by omega, by omega, by omega⟩, fun p hp => ⟨hsp.hc.final hf (by omega) hp, hsp.ht.final hf (by omega) hp, hsp.ha.final hf (by omega) hp, hsp.hb.final hf (by omega) hp⟩⟩
        have HRG : Hid (wr.rangeAt pm 0 [.slice R.av g.verbs.length R.cv, .slice R.aa g.adverbs.length R.ca, .slice R.ab g.behind.length R.cb, .string g.outer, .string g.power, .string g.opn, .string g.cls, .string g.left, .string g.right, .string R.mi, .string R.qu, .bool g.trains, .bool g.lone, .bool g.square, .slice R.aw L R.cw, .slice (some ⟨bc, 0, none⟩) L L, .slice (some ⟨bt, 0, none⟩) (L + 1) (L + 1), .slice (some ⟨ba, 0, none⟩) (L + 1) (L + 1), .slice (some ⟨bb, 0, none⟩) (L + 1) (L + 1)]) := fun j v hv => by
          rw [Nat.zero_add]
          have hj : j < 19 := (List.getElem?_eq_some_iff.1 hv).1
          have : j = 0 ∨ j = 1 ∨ j = 2 ∨ j = 3 ∨ j = 4 ∨ j = 5 ∨ j = 6 ∨ j = 7 ∨ j = 8 ∨ j = 9 ∨ j = 10 ∨ j = 11 ∨ j = 12 ∨ j = 13 ∨ j = 14 ∨ j = 15 ∨ j = 16 ∨ j = 17 ∨ j = 18 := by omega
          rcases this with rfl | rfl | rfl | rfl | rfl | rfl | rfl | rfl | rfl | rfl | rfl | rfl | rfl | rfl | rfl | rfl | rfl | rfl | rfl <;> cases hv
          · exact v0
          · exact v1
          · exact v2
          · exact v3
          · exact v4
          · exact v5
          · exact v6
          · exact v7
          · exact v8
          · exact v9
          · exact v10
          · exact v11
          · exact v12
          · exact v13
          · exact v14
          · exact v15
          · exact v16
          · exact v17
          · exact v18
        clear hsp hms v0 v1 v2 v3 v4 v5 v6 v7 v8 v9 v10 v11 v12 v13 v14 v15 v16 v17 v18
        have hrf := World.rangeAt_setCells_same wr (w.heap.size + 1) 0 [.slice R.av g.verbs.length R.cv, .slice R.aa g.adverbs.length R.ca, .slice R.ab g.behind.length R.cb, .string g.outer, .string g.power, .string g.opn, .string g.cls, .string g.left, .string g.right, .string R.mi, .string R.qu, .bool g.trains, .bool g.lone, .bool g.square, .slice R.aw L R.cw, .slice (some ⟨bc, 0, none⟩) L L, .slice (some ⟨bt, 0, none⟩) (L + 1) (L + 1), .slice (some ⟨ba, 0, none⟩) (L + 1) (L + 1), .slice (some ⟨bb, 0, none⟩) (L + 1) (L + 1)] HRV.out
        have bF := setCells_but wr (w.heap.size + 1) 0 [.slice R.av g.verbs.length R.cv, .slice R.aa g.adverbs.length R.ca, .slice R.ab g.behind.length R.cb, .string g.outer, .string g.power, .string g.opn, .string g.cls, .string g.left, .string g.right, .string R.mi, .string R.qu, .bool g.trains, .bool g.lone, .bool g.square, .slice R.aw L R.cw, .slice (some ⟨bc, 0, none⟩) L L, .slice (some ⟨bt, 0, none⟩) (L + 1) (L + 1), .slice (some ⟨ba, 0, none⟩) (L + 1) (L + 1), .slice (some ⟨bb, 0, none⟩) (L + 1) (L + 1)]
        obtain ⟨WF, hWF⟩ : ∃ WF, wr.setCells (w.heap.size + 1) 0 [.slice R.av g.verbs.length R.cv, .slice R.aa g.adverbs.length R.ca, .slice R.ab g.behind.length R.cb, .string g.outer, .string g.power, .string g.opn, .string g.cls, .string g.left, .string g.right, .string R.mi, .string R.qu, .bool g.trains, .bool g.lone, .bool g.square, .slice R.aw L R.cw, .slice (some ⟨bc, 0, none⟩) L L, .slice (some ⟨bt, 0, none⟩) (L + 1) (L + 1), .slice (some ⟨ba, 0, none⟩) (L + 1) (L + 1), .slice (some ⟨bb, 0, none⟩) (L + 1) (L + 1)] = WF := ⟨_, rfl⟩
        rw [hWF] at hrf bF
        have HGO := hide (HFIN.out WF bF)
        have HWF := hide hWF
        have HQ : Hid (∀ k v, ([.slice R.av g.verbs.length R.cv, .slice R.aa g.adverbs.length R.ca, .slice R.ab g.behind.length R.cb, .string g.outer, .string g.power, .string g.opn, .string g.cls, .string g.left, .string g.right, .string R.mi, .string R.qu, .bool g.trains, .bool g.lone, .bool g.square, .slice R.aw L R.cw, .slice (some ⟨bc, 0, none⟩) L L, .slice (some ⟨bt, 0, none⟩) (L + 1) (L + 1), .slice (some ⟨ba, 0, none⟩) (L + 1) (L + 1), .slice (some ⟨bb, 0, none⟩) (L + 1) (L + 1)] : List Value)[k]? = some v → WF.cell? ⟨w.heap.size + 1, k, none⟩ = some v) := fun k v hv => by
          have := hrf k v hv
          rw [Nat.zero_add] at this
          exact this
        clear hrf bF hWF HFIN
        go_upto_region 9 with fail
        have HWG : Hid (wr.setCells (w.heap.size + 1) 0 (#[.slice R.av g.verbs.length R.cv, .slice R.aa g.adverbs.length R.ca, .slice R.ab g.behind.length R.cb, .string g.outer, .string g.power, .string g.opn, .string g.cls, .string g.left, .string g.right, .string R.mi, .string R.qu, .bool g.trains, .bool g.lone, .bool g.square, .slice R.aw L R.cw, .slice (some ⟨bc, 0, none⟩) L L, .slice (some ⟨bt, 0, none⟩) (L + 1) (L + 1), .slice (some ⟨ba, 0, none⟩) (L + 1) (L + 1), .slice (some ⟨bb, 0, none⟩) (L + 1) (L + 1)] : Array Value).toList = WF) := HWF.out
        go_wp2_with (first | (refine wpList_load_mid rfl 57 (.tmp 4) rfl pm 0 rfl [.slice R.av g.verbs.length R.cv, .slice R.aa g.adverbs.length R.ca, .slice R.ab g.behind.length R.cb, .string g.outer, .string g.power, .string g.opn, .string g.cls, .string g.left, .string g.right, .string R.mi, .string R.qu, .bool g.trains, .bool g.lone, .bool g.square, .slice R.aw L R.cw, .slice (some ⟨bc, 0, none⟩) L L, .slice (some ⟨bt, 0, none⟩) (L + 1) (L + 1), .slice (some ⟨ba, 0, none⟩) (L + 1) (L + 1), .slice (some ⟨bb, 0, none⟩) (L + 1) (L + 1)] _ HRG.out Try.underlying57 rfl (by kernel_rfl) ?_) | (refine wpList_store_mid rfl 57 (.tmp 2) (.tmp 45) rfl (w.heap.size + 1) 0 #[.slice R.av g.verbs.length R.cv, .slice R.aa g.adverbs.length R.ca, .slice R.ab g.behind.length R.cb, .string g.outer, .string g.power, .string g.opn, .string g.cls, .string g.left, .string g.right, .string R.mi, .string R.qu, .bool g.trains, .bool g.lone, .bool g.square, .slice R.aw L R.cw, .slice (some ⟨bc, 0, none⟩) L L, .slice (some ⟨bt, 0, none⟩) (L + 1) (L + 1), .slice (some ⟨ba, 0, none⟩) (L + 1) (L + 1), .slice (some ⟨bb, 0, none⟩) (L + 1) (L + 1)] rfl rfl HRV.out (by kernel_rfl) (by simp [Value.oneCell']) ?_; rw [HWG.out]))
        have HRF : Hid (WF.rangeAt (w.heap.size + 1) 0 [.slice R.av g.verbs.length R.cv, .slice R.aa g.adverbs.length R.ca, .slice R.ab g.behind.length R.cb, .string g.outer, .string g.power, .string g.opn, .string g.cls, .string g.left, .string g.right, .string R.mi, .string R.qu, .bool g.trains, .bool g.lone, .bool g.square, .slice R.aw L R.cw, .slice (some ⟨bc, 0, none⟩) L L, .slice (some ⟨bt, 0, none⟩) (L + 1) (L + 1), .slice (some ⟨ba, 0, none⟩) (L + 1) (L + 1), .slice (some ⟨bb, 0, none⟩) (L + 1) (L + 1)]) := fun k v hv => by rw [Nat.zero_add]; exact HQ.out k v hv
        clear HWF HWG HQ HRG HRV
        refine bodyPost_ret (v := .agg #[.slice R.av g.verbs.length R.cv, .slice R.aa g.adverbs.length R.ca, .slice R.ab g.behind.length R.cb, .string g.outer, .string g.power, .string g.opn, .string g.cls, .string g.left, .string g.right, .string R.mi, .string R.qu, .bool g.trains, .bool g.lone, .bool g.square, .slice R.aw L R.cw, .slice (some ⟨bc, 0, none⟩) L L, .slice (some ⟨bt, 0, none⟩) (L + 1) (L + 1), .slice (some ⟨ba, 0, none⟩) (L + 1) (L + 1), .slice (some ⟨bb, 0, none⟩) (L + 1) (L + 1)]) (results_cell_mid rfl _ _ (w.heap.size + 1) 0 rfl [.slice R.av g.verbs.length R.cv, .slice R.aa g.adverbs.length R.ca, .slice R.ab g.behind.length R.cb, .string g.outer, .string g.power, .string g.opn, .string g.cls, .string g.left, .string g.right, .string R.mi, .string R.qu, .bool g.trains, .bool g.lone, .bool g.square, .slice R.aw L R.cw, .slice (some ⟨bc, 0, none⟩) L L, .slice (some ⟨bt, 0, none⟩) (L + 1) (L + 1), .slice (some ⟨ba, 0, none⟩) (L + 1) (L + 1), .slice (some ⟨bb, 0, none⟩) (L + 1) (L + 1)] _ HRF.out Try.underlying57 rfl (by kernel_rfl)) rfl HGO.out
      · have HMS6 := hide hms
        have hne := hms.ne
        have hk1 : k < L + 1 := by omega
        have hk0 : (0 : Int) ≤ (k : Int) := by omega
        have hk2 : (k : Int) < (L : Int) + 1 := by omega
        clear hms
        have KS6 : Hid (∀ W, Below wr.heap.size wr W → W.cell? ⟨pm, 16, none⟩ = some (.slice (some ⟨bt, 0, none⟩) (L + 1) (L + 1))) := fun W hW => by
          have := (HMS6.out.next hW).sp.c16
          rw [hLL] at this
          exact this
        have KT6 : Hid (∀ W v, Below wr.heap.size wr W → (W.setCell ⟨bt, k, none⟩ v).cell? ⟨pm, 16, none⟩ = some (.slice (some ⟨bt, 0, none⟩) (L + 1) (L + 1))) := fun W v hW => cs_off (by omega) (KS6.out W hW)
        have HD6 : Hid (Below wr.heap.size wr wr.drew) := (Below.refl _ _).drew
        have HCC6 := hide (fun W (hW : Below wr.heap.size wr W) => (tail31 (HMS6.out.next hW).sp k (by rw [hLL]; exact hk) (Nat.le_refl _)).mono fun e w' (h : _ ∧ _) => (⟨h.1, hW.trans (h.2.mono hW.size)⟩ : _ ∧ Below wr.heap.size wr w'))
        have HPP6 := hide (fun W (hW : Below wr.heap.size wr W) => (HMS6.out.next hW).putt (by rw [hLL]; exact hk))
        obtain ⟨V6, hV6⟩ : ∃ V, tailV g ws k = V := ⟨_, rfl⟩
        rw [hV6] at HCC6 HPP6
        clear hV6
        have d6 := KS6.out wr (Below.refl _ _)
        go_upto_region 6 with fail
        go_region_held3 (fun W => W.cell? ⟨pm, 16, none⟩ = some (.slice (some ⟨bt, 0, none⟩) (L + 1) (L + 1))) (first | with_reducible exact KS6.out _ HD6.out | with_reducible exact KS6.out _ (by with_reducible assumption) | with_reducible exact KT6.out _ _ (by with_reducible assumption)) (first | (go_at_call 31; refine (HCC6.out _ HD6.out).mono ?_; rintro e x6 ⟨rfl, hb6⟩; obtain ⟨⟨u6, y6⟩, z6, hms6⟩ := HPP6.out _ hb6))
        obtain ⟨X6, hX6⟩ : ∃ X, x6.setCell ⟨bt, k, none⟩ (.int .i64 (V6 : Nat)) = X := ⟨_, rfl⟩
        rw [hX6] at hms6 ⊢
        have HMS7 := hide hms6
        clear hms6 y6 z6 hb6 hX6 KS6 KT6 HD6 HCC6 HPP6 d6 HMS6
        have KS7 : Hid (∀ W, Below X6.heap.size X6 W → W.cell? ⟨pm, 17, none⟩ = some (.slice (some ⟨ba, 0, none⟩) (L + 1) (L + 1))) := fun W hW => by
          have := (HMS7.out.next hW).sp.c17
          rw [hLL] at this
          exact this
        have KT7 : Hid (∀ W v, Below X6.heap.size X6 W → (W.setCell ⟨ba, k, none⟩ v).cell? ⟨pm, 17, none⟩ = some (.slice (some ⟨ba, 0, none⟩) (L + 1) (L + 1))) := fun W v hW => cs_off (by omega) (KS7.out W hW)
        have HD7 : Hid (Below X6.heap.size X6 X6.drew) := (Below.refl _ _).drew
        have HCC7 := hide (fun W (hW : Below X6.heap.size X6 W) => (whole32 (HMS7.out.next hW).sp false k (by rw [hLL]; exact hk) (Nat.le_refl _) (by omega) (by omega)).mono fun e w' (h : _ ∧ _) => (⟨h.1, hW.trans (h.2.mono hW.size)⟩ : _ ∧ Below X6.heap.size X6 w'))
        have HPP7 := hide (fun W (hW : Below X6.heap.size X6 W) => (HMS7.out.next hW).puta (by rw [hLL]; exact hk))
        obtain ⟨V7, hV7⟩ : ∃ V, wholeV g false ws k = V := ⟨_, rfl⟩
        rw [hV7] at HCC7 HPP7
        clear hV7
        have d7 := KS7.out X6 (Below.refl _ _)
        go_upto_region 7 with fail
        go_region_held3 (fun W => W.cell? ⟨pm, 17, none⟩ = some (.slice (some ⟨ba, 0, none⟩) (L + 1) (L + 1))) (first | with_reducible exact KS7.out _ HD7.out | with_reducible exact KS7.out _ (by with_reducible assumption) | with_reducible exact KT7.out _ _ (by with_reducible assumption)) (first | (go_at_call 32; refine (HCC7.out _ HD7.out).mono ?_; rintro e x7 ⟨rfl, hb7⟩; obtain ⟨⟨u7, y7⟩, z7, hms7⟩ := HPP7.out _ hb7))
        obtain ⟨X7, hX7⟩ : ∃ X, x7.setCell ⟨ba, k, none⟩ (.int .i64 (V7 : Nat)) = X := ⟨_, rfl⟩
        rw [hX7] at hms7 ⊢
        have HMS8 := hide hms7
        clear hms7 y7 z7 hb7 hX7 KS7 KT7 HD7 HCC7 HPP7 d7 HMS7
        have KS8 : Hid (∀ W, Below X7.heap.size X7 W → W.cell? ⟨pm, 18, none⟩ = some (.slice (some ⟨bb, 0, none⟩) (L + 1) (L + 1))) := fun W hW => by
          have := (HMS8.out.next hW).sp.c18
          rw [hLL] at this
          exact this
        have KT8 : Hid (∀ W v, Below X7.heap.size X7 W → (W.setCell ⟨bb, k, none⟩ v).cell? ⟨pm, 18, none⟩ = some (.slice (some ⟨bb, 0, none⟩) (L + 1) (L + 1))) := fun W v hW => cs_off (by omega) (KS8.out W hW)
        have HD8 : Hid (Below X7.heap.size X7 X7.drew) := (Below.refl _ _).drew
        have HCC8 := hide (fun W (hW : Below X7.heap.size X7 W) => (whole32 (HMS8.out.next hW).sp true k (by rw [hLL]; exact hk) (Nat.le_refl _) (by omega) (by omega)).mono fun e w' (h : _ ∧ _) => (⟨h.1, hW.trans (h.2.mono hW.size)⟩ : _ ∧ Below X7.heap.size X7 w'))
        have HPP8 := hide (fun W (hW : Below X7.heap.size X7 W) => (HMS8.out.next hW).putb (by rw [hLL]; exact hk))
        obtain ⟨V8, hV8⟩ : ∃ V, wholeV g true ws k = V := ⟨_, rfl⟩
        rw [hV8] at HCC8 HPP8
        clear hV8
        have d8 := KS8.out X7 (Below.refl _ _)
        go_upto_region 8 with fail
        go_region_held3 (fun W => W.cell? ⟨pm, 18, none⟩ = some (.slice (some ⟨bb, 0, none⟩) (L + 1) (L + 1))) (first | with_reducible exact KS8.out _ HD8.out | with_reducible exact KS8.out _ (by with_reducible assumption) | with_reducible exact KT8.out _ _ (by with_reducible assumption)) (first | (go_at_call 32; refine (HCC8.out _ HD8.out).mono ?_; rintro e x8 ⟨rfl, hb8⟩; obtain ⟨⟨u8, y8⟩, z8, hms8⟩ := HPP8.out _ hb8))
        obtain ⟨X8, hX8⟩ : ∃ X, x8.setCell ⟨bb, k, none⟩ (.int .i64 (V8 : Nat)) = X := ⟨_, rfl⟩
        rw [hX8] at hms8 ⊢
        have HMS9 := hide hms8
        clear hms8 y8 z8 hb8 hX8 KS8 KT8 HD8 HCC8 HPP8 d8 HMS8
        have HNX : Hid (∃ i : Int, Value.int .i64 ((k : Int) - 1) = .int .i64 i ∧ ((i = -1 ∧ k = 0 ∧ Ms n w0 w g R ws pm bc bt ba bb 0 0 0 X8) ∨ ∃ k' : Nat, i = (k' : Int) ∧ k' ≤ L ∧ k = k' + 1 ∧ Ms n w0 w g R ws pm bc bt ba bb (k' + 1) (k' + 1) (k' + 1) X8)) := by
          refine ⟨(k : Int) - 1, rfl, ?_⟩
          have h9 := HMS9.out
          cases k with
          | zero => exact Or.inl ⟨by omega, rfl, h9⟩
          | succ k => exact Or.inr ⟨k, by omega, by omega, rfl, h9⟩
        clear HMS9
        go_wp2
        go_roundg k
        case rel => exact HNX.out
        case measure => omega
end Go.Proofs.Ytnaejfoighmfeaa
namespace Go.Proofs.Ytnaejfoighmfeaa.Rn
open Go.ChangeShapes Go.WideShapes Go.ChangeAt Go.RowKit
set_option maxRecDepth 100000
set_option linter.unusedVariables false
set_option linter.unusedSimpArgs false
/-- Numbers that stand together: which, where they end, where one does not fit. -/
def strD (m : List Int) : Nat → List Int → List Int × Nat × Option Nat
  | 0, _ => ([], 0, none)
  | f + 1, l =>
    if fits (valD m l) = false then ([], 0, some 0) else
    if lead blB (l.drop (endD m l)) = 0 ∨ begD m (l.drop (endD m l + lead blB (l.drop (endD m l)))) = false then ([valD m l], endD m l, none) else
    (valD m l :: (strD m f (l.drop (endD m l + lead blB (l.drop (endD m l))))).1, endD m l + lead blB (l.drop (endD m l)) + (strD m f (l.drop (endD m l + lead blB (l.drop (endD m l))))).2.1,
      (strD m f (l.drop (endD m l + lead blB (l.drop (endD m l))))).2.2.map (· + (endD m l + lead blB (l.drop (endD m l)))))
theorem begD_at {m l : List Int} (h : begD m l = true) : ∃ c t, l.drop (offD m l) = c :: t ∧ dgB c = true := by
  unfold begD at h
  cases hd : l.drop (offD m l) with
  | nil => rw [hd] at h; cases h
  | cons c t => rw [hd] at h; exact ⟨c, t, rfl, h⟩
theorem endD_pos {m l : List Int} (h : begD m l = true) : offD m l < endD m l ∧ endD m l ≤ l.length := by
  obtain ⟨c, t, hd, hc⟩ := begD_at h
  have h1 := lead_le dgB (l.drop (offD m l))
  have h2 : (l.drop (offD m l)).length = t.length + 1 := by rw [hd]; rfl
  rw [List.length_drop] at h1 h2
  unfold endD
  have h3 : 0 < lead dgB (l.drop (offD m l)) := by rw [hd]; simp [lead, hc]
  omega
theorem strD_fuel (m : List Int) (f : Nat) : ∀ f' l, begD m l = true → l.length < f → l.length < f' → strD m f' l = strD m f l := by
  induction f with
  | zero => intro f' l _ h; omega
  | succ f ih =>
    intro f' l hb hf hf'
    obtain ⟨f', rfl⟩ : ∃ g, f' = g + 1 := ⟨f' - 1, by omega⟩
    have he := endD_pos hb
    rw [strD, strD]
    split
    · rfl
    · split
      · rfl
      · rename_i h2
        have hn : begD m (l.drop (endD m l + lead blB (l.drop (endD m l)))) = true := by
          cases hh : begD m (l.drop (endD m l + lead blB (l.drop (endD m l)))) with
          | true => rfl
          | false => exact absurd (Or.inr hh) h2
        rw [ih f' _ hn (by rw [List.length_drop]; omega) (by rw [List.length_drop]; omega)]
def SD (m l : List Int) : List Int × Nat × Option Nat := strD m (l.length + 1) l
def TotD (a j : Nat) (xs : List Int) (S : List Int × Nat × Option Nat) : List Int × Nat × Option Nat := (xs ++ S.1, j - a + S.2.1, S.2.2.map (· + (j - a)))
theorem TotD_0 {a : Nat} {S : List Int × Nat × Option Nat} : TotD a a [] S = S := by
  obtain ⟨x, y, z⟩ := S
  unfold TotD
  simp
theorem SD_bad {m l : List Int} (h : fits (valD m l) = false) : SD m l = ([], 0, some 0) := by unfold SD; rw [strD, if_pos h]
theorem SD_stop {m l : List Int} (h : fits (valD m l) = true) (hb : lead blB (l.drop (endD m l)) = 0 ∨ begD m (l.drop (endD m l + lead blB (l.drop (endD m l)))) = false) : SD m l = ([valD m l], endD m l, none) := by
  unfold SD; rw [strD, if_neg (by simp [h]), if_pos hb]
theorem SD_go {m l : List Int} (hn : begD m l = true) (h : fits (valD m l) = true) (hb : ¬ lead blB (l.drop (endD m l)) = 0) (hb2 : begD m (l.drop (endD m l + lead blB (l.drop (endD m l)))) = true) :
    SD m l = (valD m l :: (SD m (l.drop (endD m l + lead blB (l.drop (endD m l))))).1, endD m l + lead blB (l.drop (endD m l)) + (SD m (l.drop (endD m l + lead blB (l.drop (endD m l))))).2.1, (SD m (l.drop (endD m l + lead blB (l.drop (endD m l))))).2.2.map (· + (endD m l + lead blB (l.drop (endD m l))))) := by
  have he := endD_pos hn
  unfold SD
  rw [strD, if_neg (by simp [h]), if_neg (fun hh => hh.elim hb (fun h3 => by rw [hb2] at h3; cases h3))]
  rw [strD_fuel m ((l.drop (endD m l + lead blB (l.drop (endD m l)))).length + 1) l.length _ hb2 (by omega) (by rw [List.length_drop]; omega)]
theorem TotD_go {m l : List Int} {a j : Nat} {xs : List Int} (haj : a ≤ j) (hn : begD m l = true) (h : fits (valD m l) = true) (hb : ¬ lead blB (l.drop (endD m l)) = 0) (hb2 : begD m (l.drop (endD m l + lead blB (l.drop (endD m l)))) = true) :
    TotD a j xs (SD m l) = TotD a (j + (endD m l + lead blB (l.drop (endD m l)))) (xs ++ [valD m l]) (SD m (l.drop (endD m l + lead blB (l.drop (endD m l))))) := by
  rw [SD_go hn h hb hb2]
  generalize SD m (l.drop (endD m l + lead blB (l.drop (endD m l)))) = S
  obtain ⟨x, y, z⟩ := S
  unfold TotD
  refine Prod.ext (by simp) (Prod.ext (by simp; omega) ?_)
  cases z with
  | none => rfl
  | some i => simp; omega
/-- The value of numbers. -/
def litD (l : List Int) : Ar := if l.length = 1 then atomA (l[0]?.getD 0) else numsA l
/-- Cells of a block. -/
structure Cs (W : World) (s : Nat) (vs : List Value) : Prop where
  lt : s < W.heap.size
  c : ∀ k v, vs[k]? = some v → W.cell? ⟨s, k, none⟩ = some v
  z : ∀ k, W.frozen? ⟨s, k, none⟩ = false
theorem Cs.next {W W' : World} {s B : Nat} {vs : List Value} (h : Cs W s vs) (hb : Below B W W') (hs : s < B) : Cs W' s vs :=
  ⟨Nat.lt_of_lt_of_le h.lt hb.size, fun k v hv => (hb.cell (p := ⟨s, k, none⟩) hs).trans (h.c k v hv), fun k => (hb.frozen (p := ⟨s, k, none⟩) hs).trans (h.z k)⟩
theorem Cs.but {T : Nat → Prop} {W W' : World} {s : Nat} {vs : List Value} (h : Cs W s vs) (hb : But T W W') (hs : ¬ T s) : Cs W' s vs :=
  ⟨Nat.lt_of_lt_of_le h.lt hb.size, fun k v hv => (hb.cell (p := ⟨s, k, none⟩) h.lt hs).trans (h.c k v hv), fun k => (frozen_block (hb.block h.lt hs) k).trans (h.z k)⟩
theorem Cs.new (w : World) (vs : List Value) (t : TypeId) : Cs (w.alloc (.cells vs.toArray t)) w.heap.size vs :=
  ⟨by simp, fun k v hv => cell_new0 w vs.toArray t k v (by simpa using hv), fun k => frozen_new w _ t k⟩
theorem Cs.there {W : World} {s n : Nat} {vs : List Value} (h : Cs W s vs) (hn : n ≤ vs.length) : W.there s 0 n := fun j hj => by
  obtain ⟨v, hv⟩ : ∃ v, vs[j]? = some v := ⟨_, List.getElem?_eq_getElem (by omega)⟩
  rw [Nat.zero_add]
  exact ⟨by rw [h.c j v hv]; rfl, h.z j⟩
/-- All cells anew. -/
theorem Cs.put {W W' : World} {s : Nat} {vs us : List Value} (h : Cs W s vs) (hl : us.length ≤ vs.length) (he : W.setCells s 0 us = W') : Cs W' s us ∧ But (· = s) W W' := by
  have hb := setCells_but W s 0 us
  have hr := World.rangeAt_setCells_same W s 0 us (h.there hl)
  have hz := fun k => setCells_frozen W s 0 us ⟨s, k, none⟩ (h.z k)
  rw [he] at hb hr
  simp only [he] at hz
  exact ⟨⟨Nat.lt_of_lt_of_le h.lt hb.size, fun k v hv => by have := hr k v hv; rwa [Nat.zero_add] at this, hz⟩, hb⟩
/-- Two cells anew. -/
theorem Cs.set2 {W : World} {s : Nat} {a0 a1 a2 a3 a4 b2 b3 : Value} (h : Cs W s [a0, a1, a2, a3, a4]) : Cs ((W.setCell ⟨s, 2, none⟩ b2).setCell ⟨s, 3, none⟩ b3) s [a0, a1, b2, b3, a4] ∧ But (· = s) W ((W.setCell ⟨s, 2, none⟩ b2).setCell ⟨s, 3, none⟩ b3) := by
  have hb : But (· = s) W ((W.setCell ⟨s, 2, none⟩ b2).setCell ⟨s, 3, none⟩ b3) := butS (butS (But.refl _ _) rfl) rfl
  refine ⟨⟨Nat.lt_of_lt_of_le h.lt hb.size, fun k v hv => ?_, fun k => fs_any (fs_any (h.z k))⟩, hb⟩
  have hk : k < 5 := by
    have := (List.getElem?_eq_some_iff.1 hv).1
    simpa using this
  rcases (by omega : k = 0 ∨ k = 1 ∨ k = 2 ∨ k = 3 ∨ k = 4) with rfl | rfl | rfl | rfl | rfl
  · cases hv; exact cs_off (by omega) (cs_off (by omega) (h.c 0 _ rfl))
  · cases hv; exact cs_off (by omega) (cs_off (by omega) (h.c 1 _ rfl))
  · cases hv; exact cs_off (by omega) (cs_same (h.c 2 _ rfl))
  · cases hv; exact cs_same (cs_off (by omega) (h.c 3 _ rfl))
  · cases hv; exact cs_off (by omega) (cs_off (by omega) (h.c 4 _ rfl))
end Go.Proofs.Ytnaejfoighmfeaa.Rn
namespace Go.Proofs.Ytnaejfoighmfeaa
open Go.ChangeShapes Go.WideShapes Go.ChangeAt Go.RowKit
set_option maxRecDepth 100000
set_option linter.unusedVariables false
/-- What the weighing of an array no deeper than d promises. -/
def WeighD (d : Nat) : Prop := ∀ n x lo va w (M : Int), ArIn n lo w x va → 0 ≤ M → M ≤ 4000 → Calls Try.prog 29 #[va, .int .i64 M, .int .i64 (d : Int)] w fun e w' => (∃ r : Int, e = .returned (.int .i64 r) ∧ 0 ≤ r ∧ r ≤ 147000000000000 + 5000 * (d : Int) ∧ (x.cells.length : Int) + (x.shape.length : Int) ≤ r) ∧ Below w.heap.size w w'
set_option maxHeartbeats 4000000 in
theorem weighD_step (d : Nat) (hd : d ≤ 16) (IH : ∀ d', d = d' + 1 → WeighD d') : WeighD d := by
  intro n x lo va w M hx hM0 hM
  cases n with
  | zero => exact hx.elim
  | succ n =>
  obtain ⟨a1, c1, a2, c2, rfl, R, hl, hc⟩ := hx
  have hlR := R.1
  have hb0 := one_alloc w (.cells #[.slice a1 x.shape.length c1, .slice a2 x.cells.length c2] 36)
  have q := cell_new0 w #[.slice a1 x.shape.length c1, .slice a2 x.cells.length c2] 36 1 _ rfl
  have HB := hide (boxes_at hc)
  /- A world later on: the memory that came in, and the array's own cells. -/
  have HQ := hide (And.intro hb0 (And.intro q (show w.heap.size < (w.alloc (.cells #[.slice a1 x.shape.length c1, .slice a2 x.cells.length c2] 36)).heap.size by simp)))
  clear R hc hb0 q
  generalize hNL : (fun i => (cAt x.cells i).2.2.length) = NL at *
  generalize hY : (fun i k => bAt (cAt x.cells i).2.2 k) = Y at *
  have HB' : Hid (∀ i, i < x.cells.length → ∃ b off ab cb, a2 = some ⟨b, off, none⟩ ∧ NL i ≤ 5864062014805 ∧ (∀ wr, Below w.heap.size w wr → wr.cell? ⟨b, off + i * 3 + 2, none⟩ = some (.slice ab (NL i) cb)) ∧
      ∀ k, k < NL i → ∃ bb ob u0 u1, ab = some ⟨bb, ob, none⟩ ∧ ∀ wr, Below w.heap.size w wr → wr.cell? ⟨bb, ob + k * 2, none⟩ = some u0 ∧ wr.cell? ⟨bb, ob + k * 2 + 1, none⟩ = some u1 ∧ ArIn n lo wr (Y i k) (.agg #[u0, u1])) := by
    subst hNL hY
    exact HB.out
  clear HB hNL hY
  generalize x.shape.length = SA at *
  generalize x.cells.length = CA at *
  go_enter Try.func29, Try.ntmps29
  go_wp2
  go_loopg [7, 8] CA (fun g nv i wr => ∃ (j : Nat) (N : Int), g + j = CA ∧ i = .int .i64 (j : Int) ∧ nv = .int .i64 N ∧ 0 ≤ N ∧ N ≤ 147000000000000 + 5000 * (d : Int) ∧ (CA : Int) + (SA : Int) ≤ N ∧ Below w.heap.size w wr ∧ wr.cell? ⟨w.heap.size, 1, none⟩ = some (.slice a2 CA c2) ∧ w.heap.size < wr.heap.size)
  case atStart => exact ⟨0, (CA : Int) + (SA : Int), rfl, rfl, by go_num, by omega, by omega, by omega, HQ.out.1, HQ.out.2.1, HQ.out.2.2⟩
  case round =>
    clear HQ
    obtain ⟨j, N, hj, rfl, rfl, hN0, hN1, hthin, hnx, hcl, hsz⟩ := hrel
    have HTH := hide hthin
    have HSZ := hide hsz
    clear hthin hsz
    by_cases hlt : j < CA
    · by_cases hNM : N ≤ M
      · obtain ⟨b, off, ab, cb, rfl, hnl, hbox, hboxes⟩ := HB'.out j hlt
        have HBOX := hide hbox
        have HBXS := hide hboxes
        have HS1 : Hid (NL j = NL j) := rfl
        clear hbox hboxes HB'
        obtain ⟨L, hL⟩ : ∃ L, NL j = L := ⟨_, rfl⟩
        have HLL := hide hL
        rw [hL] at hnl HBOX HBXS
        clear hL HS1
        go_wp2
        go_loopg [7, 9] L (fun g nv kv wr => ∃ (k : Nat) (N' : Int), g + k = L ∧ kv = .int .i64 (k : Int) ∧ nv = .int .i64 N' ∧ 0 ≤ N' ∧ N' ≤ 147000000000000 + 5000 * (d : Int) ∧ (CA : Int) + (SA : Int) ≤ N' ∧ Below w.heap.size w wr ∧ wr.cell? ⟨w.heap.size, 1, none⟩ = some (.slice (some ⟨b, off, none⟩) CA c2) ∧ w.heap.size < wr.heap.size)
        case atStart => exact ⟨0, N, rfl, rfl, rfl, hN0, hN1, HTH.out, hnx, hcl, HSZ.out⟩
        case round =>
          clear hnx hcl HSZ hN0 hN1 hNM
          obtain ⟨k, N', hk, rfl, rfl, hN0, hN1, hthin, hnx, hcl, hsz⟩ := hrel
          have HTH := hide hthin
          have HSZ := hide hsz
          have hbx := HBOX.out _ hnx
          clear hthin hsz
          by_cases hkl : k < L
          · by_cases hNM : N' ≤ M
            · by_cases hd0 : d = 0
              · subst hd0
                clear HBXS HBOX
                go_wp2
                go_ret
                exact ⟨⟨M + 1, by go_num, by omega, by omega, by have := HTH.out; omega⟩, hnx⟩
              · obtain ⟨d', rfl⟩ : ∃ d', d = d' + 1 := ⟨d - 1, by omega⟩
                obtain ⟨bb, ob, u0, u1, rfl, hcs⟩ := HBXS.out k hkl
                obtain ⟨g0, g1, g2⟩ := hcs _ hnx
                have C : Hid (∀ D : Int, D = (d' : Int) → Calls Try.prog 29 #[.agg #[u0, u1], .int .i64 (M - N'), .int .i64 D] wr fun e w' => (∃ r : Int, e = .returned (.int .i64 r) ∧ 0 ≤ r ∧ r ≤ 147000000000000 + 5000 * (d' : Int) ∧ True) ∧ Below wr.heap.size wr w') := by
                  rintro D rfl
                  exact (IH d' rfl n _ lo _ wr (M - N') g2 (by omega) (by omega)).mono fun e w' ⟨⟨r, h1, h2, h3, _⟩, h5⟩ => ⟨⟨r, h1, h2, h3, trivial⟩, h5⟩
                have hd1 : ((d' + 1 : Nat) : Int) ≠ 0 := by omega
                clear hcs g2 HBXS hd0
                go_wp2_with fail
                refine (C.out _ (by omega)).mono ?_
                rintro e w1 ⟨⟨r, rfl, hr0, hr1, hrt⟩, hb1⟩
                clear hrt C
                go_wp2
                go_roundg (L - (k + 1))
                case rel =>
                  refine ⟨k + 1, N' + 1 + r, by omega, by go_num, by go_num, by omega, by omega, by have := HTH.out; omega, hnx.trans (hb1.mono hnx.size), (hb1.cell (p := ⟨w.heap.size, 1, none⟩) HSZ.out).trans hcl, Nat.lt_of_lt_of_le HSZ.out hb1.size⟩
                case measure => omega
            · clear HBXS HBOX
              go_wp2
              go_roundg (CA - (j + 1))
              case rel => exact ⟨j + 1, N', by omega, by go_num, rfl, hN0, hN1, HTH.out, hnx, hcl, HSZ.out⟩
              case measure => omega
          · have hke : k = L := by omega
            subst hke
            clear HBXS HBOX
            go_wp2
            go_roundg (CA - (j + 1))
            case rel =>
              refine ⟨j + 1, N', by omega, by go_num, rfl, hN0, hN1, HTH.out, hnx, hcl, HSZ.out⟩
            case measure => omega
      · go_wp2
        go_ret
        exact ⟨⟨N, rfl, hN0, hN1, HTH.out⟩, hnx⟩
    · have hje : j = CA := by omega
      subst hje
      clear HB'
      go_wp2
      go_ret
      exact ⟨⟨N, rfl, hN0, hN1, HTH.out⟩, hnx⟩
theorem weighD_any (d : Nat) (hd : d ≤ 16) : WeighD d := by
  induction d with
  | zero => exact weighD_step 0 hd fun d' h => absurd h (by omega)
  | succ d ih =>
    refine weighD_step (d + 1) hd fun d' h => ?_
    have : d' = d := by omega
    subst this
    exact ih (by omega)
set_option maxHeartbeats 1000000 in
theorem weightM {n lo : Nat} {x : Ar} {va : Value} {w : World} (M : Int) (h0 : 0 ≤ M) (hM : M ≤ 4000) (hx : ArIn n lo w x va) : Calls Try.prog 18 #[va, .int .i64 M] w fun e w' => (∃ r : Int, e = .returned (.int .i64 r) ∧ 0 ≤ r ∧ r ≤ 147000000080000 ∧ (x.cells.length : Int) + (x.shape.length : Int) ≤ r) ∧ Below w.heap.size w w' := by
  have C := fun w' hb => weighD_any 16 (Nat.le_refl _) n x lo va w' M (hx.next hb) h0 hM
  cases n with
  | zero => exact hx.elim
  | succ n =>
    obtain ⟨a1, c1, a2, c2, rfl, -⟩ := hx
    generalize x.shape.length = SA at *
    generalize x.cells.length = CA at *
    have C1 := C _ (one_alloc w (.cells #[.slice a1 SA c1, .slice a2 CA c2] 36))
    clear C
    go_enter Try.func18, Try.ntmps18
    go_wp2_with fail
    refine C1.mono ?_
    rintro e w1 ⟨⟨r, rfl, hr0, hr1, hr⟩, hb1⟩
    go_wp2
    go_ret
    exact ⟨⟨r, rfl, hr0, by omega, hr⟩, (one_alloc _ _).trans (hb1.mono (one_alloc _ _).size)⟩
end Go.Proofs.Ytnaejfoighmfeaa
namespace Go.Proofs.Ytnaejfoighmfeaa
open Go.ChangeShapes Go.WideShapes Go.ChangeAt Go.RowKit
set_option maxRecDepth 100000
set_option linter.unusedVariables false
set_option linter.unusedSimpArgs false
/-- A grammar's value. -/
abbrev gV (g : Gr) (R : Raw) : Value := .agg #[.slice R.av g.verbs.length R.cv, .slice R.aa g.adverbs.length R.ca, .slice R.ab g.behind.length R.cb, .string g.outer, .string g.power, .string g.opn, .string g.cls, .string g.left, .string g.right, .string R.mi, .string R.qu, .bool g.trains, .bool g.lone, .bool g.square]
/-- Words in a row, however many. -/
def WoR (n : Nat) (w : World) (a : Option Addr) (ws : List Wo) : Prop := ∀ i, i < ws.length → ∃ b off z1 m1 z2 m2, a = some ⟨b, off, none⟩ ∧ b < w.heap.size ∧ w.cell? ⟨b, off + i * 5, none⟩ = some (.int .i64 (wAt ws i).kind) ∧ w.cell? ⟨b, off + i * 5 + 1, none⟩ = some (.string (wAt ws i).text) ∧ w.cell? ⟨b, off + i * 5 + 2, none⟩ = some (.slice z1 (wAt ws i).lit.shape.length m1) ∧ w.cell? ⟨b, off + i * 5 + 3, none⟩ = some (.slice z2 (wAt ws i).lit.cells.length m2) ∧ w.cell? ⟨b, off + i * 5 + 4, none⟩ = some (.int .i64 (wAt ws i).pos) ∧ (wAt ws i).text.size ≤ 140737488355328 ∧ ArIn n 0 w (wAt ws i).lit (.agg #[.slice z1 (wAt ws i).lit.shape.length m1, .slice z2 (wAt ws i).lit.cells.length m2])
theorem WoR.next {n : Nat} {w w' : World} {a : Option Addr} {ws : List Wo} (h : WoR n w a ws) (hb : Below w.heap.size w w') : WoR n w' a ws := fun i hi => by
  obtain ⟨b, off, z1, m1, z2, m2, ha, hl, h0, h1, h2, h3, h4, h5, h6⟩ := h i hi
  exact ⟨b, off, z1, m1, z2, m2, ha, Nat.lt_of_lt_of_le hl hb.size, (hb.cell (p := ⟨b, _, none⟩) hl).trans h0, (hb.cell (p := ⟨b, _, none⟩) hl).trans h1, (hb.cell (p := ⟨b, _, none⟩) hl).trans h2, (hb.cell (p := ⟨b, _, none⟩) hl).trans h3, (hb.cell (p := ⟨b, _, none⟩) hl).trans h4, h5, h6.next hb⟩
/-- Few words. -/
def Few (g : Gr) (ws : List Wo) : Prop := ws.length ≤ 300 ∧ g.verbs.length ≤ 100 ∧ g.adverbs.length ≤ 100 ∧ g.behind.length ≤ 100 ∧ ∀ i, i < ws.length → (wAt ws i).lit.shape.length ≤ 5000 ∧ (wAt ws i).lit.cells.length ≤ 5000
theorem WoR.few {n : Nat} {w : World} {a : Option Addr} {g : Gr} {ws : List Wo} (h : WoR n w a ws) (hf : Few g ws) : WoIn n w a ws :=
  ⟨by have := hf.1; omega, fun i hi => by
    obtain ⟨b, off, z1, m1, z2, m2, ha, hl, h0, h1, h2, h3, h4, h5, h6⟩ := h i hi
    exact ⟨b, off, z1, m1, z2, m2, ha, hl, h0, h1, h2, h3, h4, ⟨h5, hf.2.2.2.2 i hi⟩, h6⟩⟩
/-- What light answers. -/
def GvL (g : Gr) (ws : List Wo) (e : Ending) : Prop := ∃ ok : Bool, e = .returned (.bool ok) ∧ (ok = true → Few g ws)
set_option maxHeartbeats 4000000 in
theorem light7 {n : Nat} {w : World} {g : Gr} {R : Raw} {ws : List Wo} (hw : WoR n w R.aw ws) :
    Calls Try.prog 7 #[gV g R, .slice R.aw ws.length R.cw] w fun e w' => GvL g ws e ∧ Below w.heap.size w w' := by
  have hb0 := one_alloc w (.cells #[.slice R.av g.verbs.length R.cv, .slice R.aa g.adverbs.length R.ca, .slice R.ab g.behind.length R.cb, .string g.outer, .string g.power, .string g.opn, .string g.cls, .string g.left, .string g.right, .string R.mi, .string R.qu, .bool g.trains, .bool g.lone, .bool g.square] 24)
  have HB0 := hide hb0
  have HW := hide hw
  clear hw hb0
  by_cases h1 : 300 < ws.length
  · go_enter Try.func7, Try.ntmps7
    go_wp2
    go_ret
    exact ⟨⟨false, rfl, fun h => by cases h⟩, HB0.out⟩
  by_cases h2 : 100 < g.verbs.length
  · go_enter Try.func7, Try.ntmps7
    go_wp2
    go_ret
    exact ⟨⟨false, rfl, fun h => by cases h⟩, HB0.out⟩
  by_cases h3 : 100 < g.adverbs.length
  · go_enter Try.func7, Try.ntmps7
    go_wp2
    go_ret
    exact ⟨⟨false, rfl, fun h => by cases h⟩, HB0.out⟩
  by_cases h4 : 100 < g.behind.length
  · go_enter Try.func7, Try.ntmps7
    go_wp2
    go_ret
    exact ⟨⟨false, rfl, fun h => by cases h⟩, HB0.out⟩
  have HF := hide (show (∀ i, i < ws.length → (wAt ws i).lit.shape.length ≤ 5000 ∧ (wAt ws i).lit.cells.length ≤ 5000) → Few g ws from fun h => ⟨by omega, by omega, by omega, by omega, h⟩)
  have HWS : Hid (∀ i, i < ws.length → ∀ W, Below w.heap.size w W → ∃ b off z1 z2, ∃ m1 m2 : Nat, R.aw = some ⟨b, off, none⟩ ∧ (∀ V, Below W.heap.size W V → V.cell? ⟨b, off + i * 5 + 1, none⟩ = some (.string (wAt ws i).text) ∧ V.cell? ⟨b, off + i * 5 + 2, none⟩ = some (.slice z1 (wAt ws i).lit.shape.length m1) ∧ V.cell? ⟨b, off + i * 5 + 3, none⟩ = some (.slice z2 (wAt ws i).lit.cells.length m2)) ∧ (wAt ws i).text.size ≤ 140737488355328 ∧
      (∀ V, Below W.heap.size W V → Calls Try.prog 18 #[.agg #[.slice z1 (wAt ws i).lit.shape.length m1, .slice z2 (wAt ws i).lit.cells.length m2], .int .i64 1000] V fun e w' => (∃ r : Int, e = .returned (.int .i64 r) ∧ 0 ≤ r ∧ r ≤ 147000000080000 ∧ ((wAt ws i).lit.cells.length : Int) + ((wAt ws i).lit.shape.length : Int) ≤ r) ∧ Below W.heap.size W w')) := fun i hi W hW => by
    obtain ⟨b, off, z1, m1, z2, m2, ha, hl, c0, c1, c2, c3, c4, c5, c6⟩ := (HW.out.next hW) i hi
    exact ⟨b, off, z1, z2, m1, m2, ha, fun V hV => ⟨(hV.cell (p := ⟨b, _, none⟩) hl).trans c1, (hV.cell (p := ⟨b, _, none⟩) hl).trans c2, (hV.cell (p := ⟨b, _, none⟩) hl).trans c3⟩, c5, fun V hV => (weightM 1000 (by omega) (by omega) (c6.next hV)).mono fun e w' ⟨h, hb⟩ => ⟨h, hV.trans (hb.mono hV.size)⟩⟩
  clear HW
  obtain ⟨W1, hW1⟩ : ∃ W1, w.alloc (.cells #[.slice R.av g.verbs.length R.cv, .slice R.aa g.adverbs.length R.ca, .slice R.ab g.behind.length R.cb, .string g.outer, .string g.power, .string g.opn, .string g.cls, .string g.left, .string g.right, .string R.mi, .string R.qu, .bool g.trains, .bool g.lone, .bool g.square] 24) = W1 := ⟨_, rfl⟩
  rw [hW1] at HB0
  obtain ⟨SH, hSH⟩ : ∃ SH : Nat → Nat, ∀ i, (wAt ws i).lit.shape.length = SH i := ⟨_, fun _ => rfl⟩
  obtain ⟨CE, hCE⟩ : ∃ CE : Nat → Nat, ∀ i, (wAt ws i).lit.cells.length = CE i := ⟨_, fun _ => rfl⟩
  obtain ⟨TX, hTX⟩ : ∃ TX : Nat → ByteArray, ∀ i, (wAt ws i).text = TX i := ⟨_, fun _ => rfl⟩
  simp only [hSH, hCE, hTX] at HWS HF
  clear hSH hCE hTX
  generalize hL : ws.length = L at *
  have HL := hide hL
  clear hL
  generalize R.aw = aw at *
  generalize R.cw = cw at *
  have HW1 := hide hW1
  have c0 : W1.cell? ⟨w.heap.size, 0, none⟩ = some (.slice R.av g.verbs.length R.cv) := by rw [← hW1]; exact cell_new0 w _ 24 0 _ rfl
  have c1 : W1.cell? ⟨w.heap.size, 1, none⟩ = some (.slice R.aa g.adverbs.length R.ca) := by rw [← hW1]; exact cell_new0 w _ 24 1 _ rfl
  have c2 : W1.cell? ⟨w.heap.size, 2, none⟩ = some (.slice R.ab g.behind.length R.cb) := by rw [← hW1]; exact cell_new0 w _ 24 2 _ rfl
  clear hW1
  go_enter Try.func7, Try.ntmps7
  go_upto_region 1 with fail
  rw [HW1.out]
  go_wp2
  go_loopg [5, 6] L (fun gm nv iv wr => ∃ (j : Nat) (N : Int), gm + j = L ∧ iv = .int .i64 (j : Int) ∧ nv = .int .i64 N ∧ 0 ≤ N ∧ N ≤ 290000000000000 ∧ (N ≤ 5000 → ∀ i, i < j → SH i ≤ 5000 ∧ CE i ≤ 5000) ∧ Below w.heap.size w wr)
  case atStart => exact ⟨0, 0, rfl, rfl, rfl, by omega, by omega, (fun _ i hi => by omega), HB0.out⟩
  case round =>
    clear c0 c1 c2 HW1 HB0
    obtain ⟨j, N, hj, rfl, rfl, hN0, hN1, hin, hb⟩ := hrel
    have HIN := hide hin
    have HBB := hide hb
    clear hin
    by_cases hlt : j < L
    · by_cases hN : N ≤ 5000
      · obtain ⟨b, off, z1, z2, m1, m2, rfl, hcell, hsz, hcall⟩ := HWS.out j hlt wr hb
        have HC := hide hcall
        have KS := hide hcell
        have HD0 : Hid (Below wr.heap.size wr wr.drew) := (Below.refl _ _).drew
        have HI2 := hide (HIN.out hN)
        clear hcall hcell HWS HIN hb
        obtain ⟨SJ, hSJ⟩ : ∃ SJ, SH j = SJ := ⟨_, rfl⟩
        obtain ⟨CJ, hCJ⟩ : ∃ CJ, CE j = CJ := ⟨_, rfl⟩
        generalize TX j = T at *
        rw [hSJ] at HC KS
        rw [hCJ] at HC KS
        have HSJ := hide hSJ
        have HCJ := hide hCJ
        clear hSJ hCJ
        go_upto_region 7 with fail
        go_region_held3 (fun W => W.cell? ⟨b, off + j * 5 + 1, none⟩ = some (.string T) ∧ W.cell? ⟨b, off + j * 5 + 2, none⟩ = some (.slice z1 SJ m1) ∧ W.cell? ⟨b, off + j * 5 + 3, none⟩ = some (.slice z2 CJ m2)) (first | with_reducible exact KS.out _ HD0.out | with_reducible exact KS.out _ (by with_reducible assumption)) (first | (go_at_call 18; refine (HC.out _ HD0.out).mono ?_; rintro e x1 ⟨⟨r, rfl, hr0, hr1, hr⟩, hb1⟩))
        have HR := hide hr
        clear hr KS HC HD0
        go_wp2
        go_roundg (L - (j + 1))
        case rel =>
          refine ⟨j + 1, N + T.size + r, by omega, by go_num, by rw [IntWalk.i64_in (N + (T.size : Int)) ⟨by omega, by omega⟩, IntWalk.i64_in (N + (T.size : Int) + r) ⟨by omega, by omega⟩], by omega, (show N + (T.size : Int) + r ≤ 290000000000000 by omega), ?_, HBB.out.trans (hb1.mono HBB.out.size)⟩
          intro hle i hi
          rcases Nat.lt_succ_iff_lt_or_eq.1 hi with h | rfl
          · exact HI2.out i h
          · have := HR.out
            rw [HSJ.out, HCJ.out]
            omega
        case measure => omega
      · clear HWS
        go_wp2
        go_ret
        exact ⟨⟨false, by simp [hN], fun h => by cases h⟩, HBB.out⟩
    · have : j = L := by omega
      subst this
      clear HWS
      by_cases hN : N ≤ 5000
      · have HI2 := hide (HF.out (HIN.out hN))
        clear HIN HF
        go_wp2
        go_ret
        exact ⟨⟨true, by simp [hN], fun _ => HI2.out⟩, HBB.out⟩
      · clear HIN HF
        go_wp2
        go_ret
        exact ⟨⟨false, by simp [hN], fun h => by cases h⟩, HBB.out⟩
end Go.Proofs.Ytnaejfoighmfeaa
namespace Go.Proofs.Ytnaejfoighmfeaa.Rn
open Go.ChangeShapes Go.WideShapes Go.ChangeAt Go.RowKit
set_option maxRecDepth 100000
set_option linter.unusedVariables false
set_option linter.unusedSimpArgs false
/-- The grammar of APL. -/
def aplG : Gr where
  verbs := [⟨#[43]⟩, ⟨#[45]⟩, ⟨#[195, 151]⟩, ⟨#[124]⟩, ⟨#[126]⟩, ⟨#[226, 141, 179]⟩, ⟨#[226, 141, 180]⟩, ⟨#[226, 137, 162]⟩, ⟨#[44]⟩, ⟨#[226, 138, 150]⟩, ⟨#[226, 140, 189]⟩, ⟨#[226, 141, 137]⟩, ⟨#[226, 141, 139]⟩, ⟨#[226, 141, 146]⟩, ⟨#[226, 136, 170]⟩, ⟨#[226, 138, 130]⟩, ⟨#[226, 138, 131]⟩, ⟨#[195, 183]⟩, ⟨#[226, 140, 138]⟩, ⟨#[226, 140, 136]⟩, ⟨#[61]⟩, ⟨#[226, 137, 160]⟩, ⟨#[60]⟩, ⟨#[62]⟩, ⟨#[226, 137, 164]⟩, ⟨#[226, 137, 165]⟩, ⟨#[226, 134, 145]⟩, ⟨#[226, 134, 147]⟩, ⟨#[226, 141, 170]⟩, ⟨#[226, 136, 138]⟩, ⟨#[226, 140, 183]⟩]
  adverbs := [⟨#[47]⟩, ⟨#[226, 140, 191]⟩, ⟨#[92]⟩, ⟨#[226, 141, 128]⟩, ⟨#[226, 141, 168]⟩]
  behind := [⟨#[47]⟩, ⟨#[226, 140, 191]⟩]
  outer := ⟨#[226, 136, 152, 46]⟩
  power := ⟨#[226, 141, 163]⟩
  opn := ⟨#[123]⟩
  cls := ⟨#[125]⟩
  left := ⟨#[226, 141, 186]⟩
  right := ⟨#[226, 141, 181]⟩
  trains := false
  lone := false
  square := true
theorem strs_new {w w' : World} {B : Nat} (l : List ByteArray) (hl : l.length ≤ 1000) (hs : w.heap.size < B) (hb : Below B (w.alloc (.cells (l.map Value.string).toArray 9)) w') : StrsIn w' (some ⟨w.heap.size, 0, none⟩) l := ⟨hl, fun j hj => by
  have h := Cs.new w (l.map Value.string) 9
  have h2 := h.next hb hs
  have hz : w.heap.size < w'.heap.size := h2.lt
  refine ⟨w.heap.size, 0, rfl, hz, ?_⟩
  rw [Nat.zero_add]
  exact h2.c _ _ (by simp [sAt, List.getElem?_eq_getElem hj])⟩
/-- What APL answers. -/
def GvA (G : Gr) (w : World) (e : Ending) (w' : World) : Prop := Below w.heap.size w w' ∧ ∃ R : Raw, e = .returned (gV G R) ∧ StrsIn w' R.av G.verbs ∧ StrsIn w' R.aa G.adverbs ∧ StrsIn w' R.ab G.behind
set_option maxHeartbeats 4000000 in
theorem apl13 {w : World} : Calls Try.prog 13 #[] w fun e w' => GvA aplG w e w' := by
  have H : ∀ g, g = aplG → ∀ W1 W2 W3 W4 : World, w.alloc (.cells #[.slice (some ⟨w.heap.size + 1, 0, none⟩) 31 31, .slice (some ⟨w.heap.size + 1 + 1, 0, none⟩) 5 5, .slice (some ⟨w.heap.size + 1 + 1 + 1, 0, none⟩) 2 2, .string g.outer, .string g.power, .string g.opn, .string g.cls, .string g.left, .string g.right, .string ⟨#[194, 175]⟩, .string ⟨#[39]⟩, .bool false, .bool false, .bool true] 24) = W1 → W1.alloc (.cells (g.verbs.map Value.string).toArray 9) = W2 → W2.alloc (.cells (g.adverbs.map Value.string).toArray 9) = W3 → W3.alloc (.cells (g.behind.map Value.string).toArray 9) = W4 → 
      (Below w.heap.size w W4 ∧ StrsIn W4 (some ⟨w.heap.size + 1, 0, none⟩) g.verbs ∧ StrsIn W4 (some ⟨w.heap.size + 1 + 1, 0, none⟩) g.adverbs ∧ StrsIn W4 (some ⟨w.heap.size + 1 + 1 + 1, 0, none⟩) g.behind) ∧ W4.rangeAt w.heap.size 0 [.slice (some ⟨w.heap.size + 1, 0, none⟩) 31 31, .slice (some ⟨w.heap.size + 1 + 1, 0, none⟩) 5 5, .slice (some ⟨w.heap.size + 1 + 1 + 1, 0, none⟩) 2 2, .string g.outer, .string g.power, .string g.opn, .string g.cls, .string g.left, .string g.right, .string ⟨#[194, 175]⟩, .string ⟨#[39]⟩, .bool false, .bool false, .bool true] := by
    intro g hg W1 W2 W3 W4 h1 h2 h3 h4
    have b1 : Below w.heap.size w W1 := by rw [← h1]; exact one_alloc _ _
    have b2 : Below W1.heap.size W1 W2 := by rw [← h2]; exact one_alloc _ _
    have b3 : Below W2.heap.size W2 W3 := by rw [← h3]; exact one_alloc _ _
    have b4 : Below W3.heap.size W3 W4 := by rw [← h4]; exact one_alloc _ _
    have s1 : W1.heap.size = w.heap.size + 1 := by rw [← h1]; simp
    have s2 : W2.heap.size = w.heap.size + 1 + 1 := by rw [← h2]; simp [s1]
    have s3 : W3.heap.size = w.heap.size + 1 + 1 + 1 := by rw [← h3]; simp [s2]
    have b24 : Below W2.heap.size W2 W4 := b3.trans (b4.mono b3.size)
    have b14 : Below W1.heap.size W1 W4 := b2.trans (b24.mono b2.size)
    have c := Cs.new w [.slice (some ⟨w.heap.size + 1, 0, none⟩) 31 31, .slice (some ⟨w.heap.size + 1 + 1, 0, none⟩) 5 5, .slice (some ⟨w.heap.size + 1 + 1 + 1, 0, none⟩) 2 2, .string g.outer, .string g.power, .string g.opn, .string g.cls, .string g.left, .string g.right, .string ⟨#[194, 175]⟩, .string ⟨#[39]⟩, .bool false, .bool false, .bool true] 24
    have c4 := (show Cs W1 w.heap.size _ from h1 ▸ c).next b14 (by omega)
    have lv : g.verbs.length ≤ 1000 := by subst hg; decide
    have la : g.adverbs.length ≤ 1000 := by subst hg; decide
    have lb : g.behind.length ≤ 1000 := by subst hg; decide
    refine ⟨⟨b1.trans (b14.mono b1.size), ?_, ?_, ?_⟩, fun k v hv => by rw [Nat.zero_add]; exact c4.c _ _ hv⟩
    · rw [← s1]
      exact strs_new (B := W2.heap.size) _ lv (by omega) (by rw [h2]; exact b24)
    · rw [← s2]
      exact strs_new (B := W3.heap.size) _ la (by omega) (by rw [h3]; exact b4)
    · rw [← s3]
      exact strs_new (B := W4.heap.size) _ lb (by rw [← h4]; simp) (by rw [h4]; exact Below.refl _ _)
  go_enter Try.func13, Try.ntmps13
  go_wp2
  obtain ⟨⟨k1, k2, k3, k4⟩, kr⟩ := H aplG rfl _ _ _ _ rfl rfl rfl rfl
  clear H
  refine bodyPost_ret (v := .agg #[.slice (some ⟨w.heap.size + 1, 0, none⟩) 31 31, .slice (some ⟨w.heap.size + 1 + 1, 0, none⟩) 5 5, .slice (some ⟨w.heap.size + 1 + 1 + 1, 0, none⟩) 2 2, .string aplG.outer, .string aplG.power, .string aplG.opn, .string aplG.cls, .string aplG.left, .string aplG.right, .string ⟨#[194, 175]⟩, .string ⟨#[39]⟩, .bool false, .bool false, .bool true]) (results_cell_mid rfl _ _ w.heap.size 0 rfl [.slice (some ⟨w.heap.size + 1, 0, none⟩) 31 31, .slice (some ⟨w.heap.size + 1 + 1, 0, none⟩) 5 5, .slice (some ⟨w.heap.size + 1 + 1 + 1, 0, none⟩) 2 2, .string aplG.outer, .string aplG.power, .string aplG.opn, .string aplG.cls, .string aplG.left, .string aplG.right, .string ⟨#[194, 175]⟩, .string ⟨#[39]⟩, .bool false, .bool false, .bool true] _ kr Try.underlying24 rfl (by kernel_rfl)) rfl ?_
  exact ⟨k1, ⟨some ⟨w.heap.size + 1, 0, none⟩, 31, some ⟨w.heap.size + 1 + 1, 0, none⟩, 5, some ⟨w.heap.size + 1 + 1 + 1, 0, none⟩, 2, ⟨#[194, 175]⟩, ⟨#[39]⟩, none, 0⟩, rfl, k2, k3, k4⟩
end Go.Proofs.Ytnaejfoighmfeaa.Rn
namespace Go.Proofs.Ytnaejfoighmfeaa.Rn
open Go.ChangeShapes Go.WideShapes Go.ChangeAt Go.RowKit
set_option maxRecDepth 100000
set_option linter.unusedVariables false
set_option linter.unusedSimpArgs false
abbrev iv (zs : List Int) : List Value := zs.map (Value.int .i64)
theorem info2 : (Try.prog.info? 2).map (fun i => (i.zero, i.size, i.bytes)) = some (some (.int .i64 0), 1, 8) := by kernel_rfl
theorem row_owned {w : World} {base lo : Nat} {v : Value} {zs : List Int} (h : w.ownsRow base 2 1 v zs.length (iv zs)) (hl : zs.length ≤ 140737488355328) (hlo : lo ≤ base) :
    ∃ a cap, v = .slice a zs.length cap ∧ Go.Proofs.Ytnaejfoighmfeaa.Row lo w a zs := by
  obtain ⟨h1, h2⟩ := h
  rcases h2 with ⟨rfl, h2⟩ | ⟨g, cap, cur, rfl, hb, hg, hn, hm, hs, ht⟩
  · have e : zs = [] := List.eq_nil_of_length_eq_zero h2
    subst e
    exact ⟨none, 0, rfl, by simp, Or.inl rfl⟩
  · refine ⟨_, _, rfl, hl, Or.inr ⟨g, 0, rfl, Nat.le_trans hlo hb, lt_of_block hg, ?_⟩⟩
    intro i hi
    have hown : w.ownsRow base 2 1 (.slice (some ⟨g, 0, none⟩) zs.length cap) zs.length (iv zs) := ⟨h1, Or.inr ⟨g, cap, cur, rfl, hb, hg, hn, hm, hs, ht⟩⟩
    have := hown.cellAt i (by omega)
    simp only [Nat.zero_add]
    rw [this, List.getElem?_map, List.getElem?_eq_getElem hi]
    rfl
theorem owns_next {e : TypeId} {size n base : Nat} {w w' : World} {v : Value} {xs : List Value} (h : w.ownsRow base e size v n xs) (hb : Below w.heap.size w w') : w'.ownsRow base e size v n xs := by
  obtain ⟨h1, h2⟩ := h
  refine ⟨h1, ?_⟩
  rcases h2 with h2 | ⟨g, cap, cur, rfl, hbs, hg, hn, hm, hs, ht⟩
  · exact Or.inl h2
  · exact Or.inr ⟨g, cap, cur, rfl, hbs, (hb.block g (lt_of_block hg)).trans hg, hn, hm, hs, ht⟩
theorem arIn_low {n lo lo' : Nat} {w : World} {x : Ar} {v : Value} (h : ArIn n lo w x v) (hl : lo' ≤ lo) : ArIn n lo' w x v := h.mono hl (Below.refl _ _)
theorem but_keeps {s lo : Nat} {w w' : World} (h : But (· = s) w w') (hs : s < lo) : Keeps lo w w' := ⟨h.size, fun b h1 h2 => h.block h2 (by omega)⟩
/-- What Strand tells. -/
def GvS (T : List Int × Nat × Option Nat) (a : Nat) (w : World) (e : Ending) (w' : World) : Prop := Below w.heap.size w w' ∧ match T.2.2 with
  | some j => e = .returned (.tuple #[.agg #[.int .i64 1, .string ⟨#[]⟩, .slice none 0 0, .slice none 0 0, .int .i64 (a : Int)], .int .i64 ((a + j : Nat) : Int), .int .i64 ((a + j : Nat) : Int)])
  | none => ∃ z1 m1 z2 m2, e = .returned (.tuple #[.agg #[.int .i64 1, .string ⟨#[]⟩, .slice z1 (litD T.1).shape.length m1, .slice z2 (litD T.1).cells.length m2, .int .i64 (a : Int)], .int .i64 ((a + T.2.1 : Nat) : Int), .int .i64 (-1)]) ∧ ArIn 1 w.heap.size w' (litD T.1) (.agg #[.slice z1 (litD T.1).shape.length m1, .slice z2 (litD T.1).cells.length m2])
set_option maxHeartbeats 16000000 in
theorem strand47 (s t : ByteArray) (a : Nat) (ha : a ≤ s.size) (hs : s.size ≤ 8192) (ht : t.size ≤ 1000) (hb0 : begD (numsS t) ((numsS s).drop a) = true) (w : World) :
    Calls Try.prog 47 #[.string s, .int .i64 (a : Int), .string t] w fun e w' => GvS (SD (numsS t) ((numsS s).drop a)) a w e w' := by
  obtain ⟨i0, hi, hz0, hz1, hz2⟩ := info_parts info2
  obtain ⟨T, hTT⟩ : ∃ T, SD (numsS t) ((numsS s).drop a) = T := ⟨_, rfl⟩
  rw [hTT]
  obtain ⟨W2, hW2⟩ : ∃ W2, (w.alloc (.cells #[.int .i64 0, .string ⟨#[]⟩, .slice none 0 0, .slice none 0 0, .int .i64 0] 43)).alloc (.cells #[.int .i64 1, .string ⟨#[]⟩, .slice none 0 0, .slice none 0 0, .int .i64 (a : Int)] 43) = W2 := ⟨_, rfl⟩
  have hs1 : (w.alloc (.cells #[.int .i64 0, .string ⟨#[]⟩, .slice none 0 0, .slice none 0 0, .int .i64 0] 43)).heap.size = w.heap.size + 1 := by simp
  have b2 : Below w.heap.size w W2 := by rw [← hW2]; exact two_allocs _ _ _
  have s2 : W2.heap.size = w.heap.size + 2 := by rw [← hW2]; simp
  have R2 : Cs W2 w.heap.size [.int .i64 0, .string ⟨#[]⟩, .slice none 0 0, .slice none 0 0, .int .i64 0] := by
    rw [← hW2]
    exact (Cs.new w [.int .i64 0, .string ⟨#[]⟩, .slice none 0 0, .slice none 0 0, .int .i64 0] 43).next (one_alloc _ _) (by simp)
  have D2 : Cs W2 (w.heap.size + 1) [.int .i64 1, .string ⟨#[]⟩, .slice none 0 0, .slice none 0 0, .int .i64 (a : Int)] := by
    have h := Cs.new (w.alloc (.cells #[.int .i64 0, .string ⟨#[]⟩, .slice none 0 0, .slice none 0 0, .int .i64 0] 43)) [.int .i64 1, .string ⟨#[]⟩, .slice none 0 0, .slice none 0 0, .int .i64 (a : Int)] 43
    rw [hs1] at h
    rw [← hW2]
    exact h
  have HSTATE : Hid (∀ wr, Below (w.heap.size + 2) W2 wr → Cs wr w.heap.size [.int .i64 0, .string ⟨#[]⟩, .slice none 0 0, .slice none 0 0, .int .i64 0] ∧ Cs wr (w.heap.size + 1) [.int .i64 1, .string ⟨#[]⟩, .slice none 0 0, .slice none 0 0, .int .i64 (a : Int)] ∧ Below w.heap.size w wr ∧ w.heap.size + 2 ≤ wr.heap.size) := fun wr h =>
    ⟨R2.next h (by omega), D2.next h (by omega), b2.trans (h.mono (by omega)), by have := h.size; omega⟩
  have HNX : Hid (Below (w.heap.size + 2) W2 W2) := Below.refl _ _
  have HOWN : Hid (W2.ownsRow (w.heap.size + 2) 2 1 (.slice none 0 0) 0 (iv [])) := World.ownsRow_nil _ _ _ _
  have HNU := hide (fun j (hj : j ≤ s.size) W => number74 s t j hj (by omega) ht W)
  have HBL := hide (fun j (hj : j ≤ s.size) W => blanks24 s j hj (by omega) W)
  have HBE := hide (fun j (hj : j ≤ s.size) W => begins46 s t j hj (by omega) ht W)
  have HGO := hide (fun j xs haj h1 h2 h3 h4 => TotD_go (m := numsS t) (l := (numsS s).drop j) (a := a) (j := j) (xs := xs) haj h1 h2 h3 h4)
  have HSB := hide (fun j => SD_bad (m := numsS t) (l := (numsS s).drop j))
  have HSS := hide (fun j => SD_stop (m := numsS t) (l := (numsS s).drop j))
  have HEP := hide (fun j => endD_pos (m := numsS t) (l := (numsS s).drop j))
  have HT0 := hide (show TotD a a [] (SD (numsS t) ((numsS s).drop a)) = T from TotD_0.trans hTT)
  simp only [List.drop_drop, List.length_drop, numsS_len] at HGO HSB HSS HEP
  have HLB := hide (fun j => lead_le blB ((numsS s).drop j))
  simp only [List.length_drop, numsS_len] at HLB
  obtain ⟨BG, hBG⟩ : ∃ BG : Nat → Bool, ∀ j, begD (numsS t) ((numsS s).drop j) = BG j := ⟨_, fun _ => rfl⟩
  obtain ⟨EN, hEN⟩ : ∃ EN : Nat → Nat, ∀ j, endD (numsS t) ((numsS s).drop j) = EN j := ⟨_, fun _ => rfl⟩
  obtain ⟨VA, hVA⟩ : ∃ VA : Nat → Int, ∀ j, valD (numsS t) ((numsS s).drop j) = VA j := ⟨_, fun _ => rfl⟩
  obtain ⟨LD, hLD⟩ : ∃ LD : Nat → Nat, ∀ j, lead blB ((numsS s).drop j) = LD j := ⟨_, fun _ => rfl⟩
  obtain ⟨SF, hSF⟩ : ∃ SF : Nat → List Int × Nat × Option Nat, ∀ j, SD (numsS t) ((numsS s).drop j) = SF j := ⟨_, fun _ => rfl⟩
  have HB0 := hide hb0
  simp only [hBG, hEN, hVA, hLD, hSF] at HNU HBL HBE HGO HSB HSS HEP HT0 HLB HB0
  have HW2 := hide hW2
  have HA0 := hide ha
  have HSZ := hide hs
  clear hBG hEN hVA hLD hSF hTT hW2 hs1 b2 s2 R2 D2 hb0 ha hs ht
  go_enter Try.func47, Try.ntmps47
  go_wp2
  rw [HW2.out]
  go_loopg [1, 10] (s.size + 1 - a) (fun g av lv wr => ∃ (j : Nat) (xs : List Int), g + j = s.size + 1 ∧ j ≤ s.size ∧ a ≤ j ∧ xs.length ≤ j ∧ av = .int .i64 (j : Int) ∧ wr.ownsRow (w.heap.size + 2) 2 1 lv xs.length (iv xs) ∧ Below (w.heap.size + 2) W2 wr ∧ BG j = true ∧ TotD a j xs (SF j) = T)
  case atStart => exact ⟨a, [], by have := HA0.out; omega, HA0.out, Nat.le_refl _, by simp, rfl, HOWN.out, HNX.out, HB0.out, HT0.out⟩
  case round =>
    clear HOWN HNX HB0 HT0 HW2
    obtain ⟨j, xs, hg, hjs, haj, hxj, rfl, hown, hnx, hbg, htot⟩ := hrel
    have HN := hide (HNU.out j hjs)
    have HOW := hide hown
    have HNX := hide hnx
    have HBG := hide hbg
    have HTO := hide htot
    have hep := HEP.out j hbg
    clear hown hnx hbg htot HNU
    go_wp2_with fail
    refine (HN.out _).mono ?_
    rintro e w1 ⟨⟨v, rfl, hv⟩, rfl⟩
    have HV := hide hv
    clear hv HN
    cases hf : fits (VA j) with
    | false =>
      have HTF := hide (show T = (xs, j - a, some (j - a)) by
        rw [← HTO.out, HSB.out j hf]; simp [TotD])
      obtain ⟨hrs, hwd, hbw, hl2⟩ := HSTATE.out w1 HNX.out
      have c0 := hwd.c 0 _ rfl
      have c1 := hwd.c 1 _ rfl
      have c2 := hwd.c 2 _ rfl
      have c3 := hwd.c 3 _ rfl
      have c4 := hwd.c 4 _ rfl
      obtain ⟨W9, hW9⟩ : ∃ W9, w1.setCells w.heap.size 0 [.int .i64 1, .string ⟨#[]⟩, .slice none 0 0, .slice none 0 0, .int .i64 (a : Int)] = W9 := ⟨_, rfl⟩
      have HW9 : Hid (w1.setCells w.heap.size 0 (#[.int .i64 1, .string ⟨#[]⟩, .slice none 0 0, .slice none 0 0, .int .i64 (a : Int)] : Array Value).toList = W9) := hW9
      obtain ⟨C9, B9⟩ := hrs.put (us := [.int .i64 1, .string ⟨#[]⟩, .slice none 0 0, .slice none 0 0, .int .i64 (a : Int)]) (by simp) hW9
      have HTH := hide (hrs.there (n := 5) (by simp))
      have HC9 := hide C9
      have HB9 := hide (hbw.trans (B9.below hbw.size fun k hk => by omega))
      clear HSTATE HGO HSB HSS HEP HLB HBL HBE HNX HOW HBG HTO HV hrs hwd hbw hl2 C9 B9 hW9
      go_wp2_with (first | (refine wpList_store_mid rfl 43 (.tmp 6) (.tmp 27) rfl w.heap.size 0 #[.int .i64 1, .string ⟨#[]⟩, .slice none 0 0, .slice none 0 0, .int .i64 (a : Int)] rfl rfl HTH.out (by kernel_rfl) (by simp [Value.oneCell']) ?_; rw [HW9.out]))
      have r0 := HC9.out.c 0 _ rfl
      have r1 := HC9.out.c 1 _ rfl
      have r2 := HC9.out.c 2 _ rfl
      have r3 := HC9.out.c 3 _ rfl
      have r4 := HC9.out.c 4 _ rfl
      exact bodyPost_ret (v := .tuple #[.agg #[.int .i64 1, .string ⟨#[]⟩, .slice none 0 0, .slice none 0 0, .int .i64 (a : Int)], .int .i64 (j : Int), .int .i64 (j : Int)]) (by simp [results, Try.results47, go_sem, r0, r1, r2, r3, r4]) rfl (by
        rw [HTF.out]
        refine ⟨HB9.out, ?_⟩
        show _ = Ending.returned (.tuple #[.agg #[.int .i64 1, .string ⟨#[]⟩, .slice none 0 0, .slice none 0 0, .int .i64 (a : Int)], .int .i64 ((a + (j - a) : Nat) : Int), .int .i64 ((a + (j - a) : Nat) : Int)])
        rw [show a + (j - a) = j by omega])
    | true =>
      have hv := HV.out hf
      subst hv
      have hown2 := HOW.out
      have hlt2 := (HSTATE.out w1 HNX.out).2.2.2
      obtain ⟨st, hst⟩ : ∃ st, j + EN j = st := ⟨_, rfl⟩
      have hst1 : j < st ∧ st ≤ s.size := by omega
      have HBS := hide (HBL.out st hst1.2)
      have hSS := HSS.out j hf
      have hGO := HGO.out j xs haj HBG.out hf
      simp only [← Nat.add_assoc, hst] at hSS hGO
      have HSZ' := HSZ.out
      have hld := HLB.out st
      generalize hv : VA j = v at *
      clear hf hv HSB HSS HGO HEP HLB HBL hep HV HOW
      go_wp2_with (at_builtin; refine wpList_append_own _ rfl _ _ 109 rfl (w.heap.size + 2) 2 i0 (.int .i64 0) 1 8 Try.underlying109 hi hz0 hz1 hz2 rfl (by decide) _ _ _ rfl (hown2.alloc _) ⟨w1.heap.size, 0, none⟩ 1 1 [.int .i64 v] rfl rfl ?c1 ?c2 ?c3 ?c4 ?c5 ?_)
      case c1 =>
        intro j u hj
        match j, hj with
        | 0, hj => simp at hj; subst hj; simp [Addr.add]
      case c2 => intro u hu; simp at hu; subst hu; rfl
      case c3 => unfold maxLen; omega
      case c4 => omega
      case c5 => simp; omega
      intro v' w3 hown' hgrow _
      have hown3 : w3.ownsRow (w.heap.size + 2) 2 1 v' (xs ++ [v]).length (iv (xs ++ [v])) := by
        rw [List.length_append, show iv (xs ++ [v]) = iv xs ++ [.int .i64 v] from List.map_append]; exact hown'
      have HNX3 := hide ((HNX.out.alloc (show w.heap.size + 2 ≤ w1.heap.size by omega) _).grown hgrow (by simp; omega) (fun q hq => (hown2.lt q hq).1))
      have HOW3 := hide hown3
      have HSS := hide hSS
      have HGO := hide hGO
      clear hown' hgrow hown2 HNX hSS hGO hown3
      obtain ⟨xs2, hxs2⟩ : ∃ xs2, xs ++ [v] = xs2 := ⟨_, rfl⟩
      have hxl2 : xs2.length ≤ st := by rw [← hxs2, List.length_append]; simp; omega
      have HXE := hide hxs2
      rw [hxs2] at HOW3 HGO
      have hlt3 := (HSTATE.out w3 HNX3.out).2.2.2
      go_wp2_with fail
      refine (HBS.out _).mono ?_
      rintro e w4 ⟨rfl, rfl⟩
      clear HBS
      obtain ⟨nx, hnx⟩ : ∃ nx, st + LD st = nx := ⟨_, rfl⟩
      have hnx2 : st ≤ nx ∧ nx ≤ s.size := by omega
      have hld0 : LD st = 0 ↔ nx = st := by omega
      have HLD0 := hide hld0
      simp only [hnx] at HSS HGO ⊢
      clear hld hld0 hnx
      have HBN := hide (HBE.out nx hnx2.2)
      by_cases heq : nx = st
      · have HTF := hide (show T = (xs2, st - a, none) by
          rw [← HTO.out, HSS.out (Or.inl (HLD0.out.2 heq)), ← HXE.out]; unfold TotD; refine Prod.ext rfl (Prod.ext ?_ rfl); show j - a + EN j = st - a; omega)
        subst heq
        have hxl3 : xs2.length ≤ 8192 := by omega
        clear HSS HGO HBN
        have HRE := hide (show T = (xs2, nx - a, none) from HTF.out)
        obtain ⟨pa, pc, rfl, hrow⟩ := row_owned (lo := w.heap.size + 2) HOW3.out (by omega) (Nat.le_refl _)
        obtain ⟨hrs, hwd, hbw, hl2⟩ := HSTATE.out w4 HNX3.out
        have HRS := hide hrs
        have HWD := hide hwd
        have HBW := hide hbw
        have HL2 := hide hl2
        clear hrs hwd hbw hl2 HSTATE HNX3 HOW3 HTF
        have HNM := hide (rnums_any 0 xs2 pa pc w4 hrow (by omega))
        by_cases hx1 : xs2.length = 1
        · obtain ⟨z, hz⟩ : ∃ z, xs2 = [z] := List.length_eq_one_iff.1 hx1
          obtain ⟨g, off, hpa, hgo, hgl, hcz⟩ : ∃ g off, pa = some ⟨g, off, none⟩ ∧ w.heap.size + 2 ≤ g ∧ g < w4.heap.size ∧ w4.cell? ⟨g, off, none⟩ = some (.int .i64 z) := by
            rcases hrow.2 with h | ⟨g, off, h1, h0, h2, h3⟩
            · rw [h] at hz; cases hz
            · exact ⟨g, off, h1, h0, h2, by have := h3 0 (by omega); rw [hz] at this; exact this⟩
          subst hpa
          have HLT := hide (show litD xs2 = atomA z by unfold litD; rw [if_pos hx1, hz]; rfl)
          have HGL := hide hgl
          have HGO := hide hgo
          have HCZ := hide hcz
          have hnl : (numsA xs2).cells.length = 1 := by simp [numsA, Ar.cells, numCs_len, hz]
          have HNL := hide hnl
          rw [hx1] at HNM
          have HX1 := hide hx1
          have HAT := hide (fun V => ratom_any 0 z V)
          clear hrow hz hgl hgo hcz hnl
          rw [hx1]
          clear hx1
          go_wp2_with fail
          refine HNM.out.mono ?_
          rintro e w5 ⟨⟨vv, rfl, hin⟩, hb5⟩
          clear HNM
          obtain ⟨z1, m1, z2, m2, hvv, -⟩ := hin
          have hv2 : vv = .agg #[.slice z1 1 m1, .slice z2 1 m2] := by rw [hvv, HNL.out]; rfl
          subst hv2
          have D5 := HWD.out.next hb5 HWD.out.lt
          obtain ⟨D6, B6⟩ := D5.set2 (b2 := .slice z1 1 m1) (b3 := .slice z2 1 m2)
          have hcz6 := (B6.cell (p := ⟨g, off, none⟩) (Nat.lt_of_lt_of_le HGL.out hb5.size) (by have := HGO.out; show ¬ g = w.heap.size + 1; omega)).trans ((hb5.cell (p := ⟨g, off, none⟩) HGL.out).trans HCZ.out)
          have R5 := HRS.out.next hb5 HRS.out.lt
          have R6 := R5.but B6 (by omega)
          have HBW6 := hide ((HBW.out.trans (hb5.mono HBW.out.size)).trans (B6.below (by have := HL2.out; have := hb5.size; omega) fun k hk => by omega))
          have hs6 : w.heap.size + 2 ≤ ((w5.setCell ⟨w.heap.size + 1, 2, none⟩ (.slice z1 1 m1)).setCell ⟨w.heap.size + 1, 3, none⟩ (.slice z2 1 m2)).heap.size := by have := B6.size; have := hb5.size; have := HL2.out; omega
          have c2 := D5.c 2 _ rfl
          have c3 := D5.c 3 _ rfl
          have f2 := D5.z 2
          have f3 := D5.z 3
          obtain ⟨W6, hW6⟩ : ∃ W6, (w5.setCell ⟨w.heap.size + 1, 2, none⟩ (.slice z1 1 m1)).setCell ⟨w.heap.size + 1, 3, none⟩ (.slice z2 1 m2) = W6 := ⟨_, rfl⟩
          rw [hW6] at D6 B6 hcz6 R6 HBW6 hs6
          have HD6 := hide D6
          have HR6 := hide R6
          have HS6 := hide hs6
          clear D5 R5 D6 R6 B6 hb5 HWD HRS HBW hvv hs6
          go_wp2_with fail
          refine (HAT.out _).mono ?_
          rintro e w7 ⟨⟨vv, rfl, hin⟩, hb7⟩
          have HIN := hide hin
          obtain ⟨y1, n1, y2, n2, hvv, -⟩ := hin
          have hv2 : vv = .agg #[.slice y1 0 n1, .slice y2 1 n2] := hvv
          subst hv2
          clear c2 c3 f2 f3 hW6
          have D7 := HD6.out.next hb7 HD6.out.lt
          obtain ⟨D8, B8⟩ := D7.set2 (b2 := .slice y1 0 n1) (b3 := .slice y2 1 n2)
          have R7 := HR6.out.next hb7 HR6.out.lt
          have R8 := R7.but B8 (by omega)
          have HBW8 := hide ((HBW6.out.trans (hb7.mono HBW6.out.size)).trans (B8.below (by have := HS6.out; have := hb7.size; omega) fun k hk => by omega))
          have e2 := D7.c 2 _ rfl
          have e3 := D7.c 3 _ rfl
          have h2 := D7.z 2
          have h3 := D7.z 3
          obtain ⟨W8, hW8⟩ : ∃ W8, (w7.setCell ⟨w.heap.size + 1, 2, none⟩ (.slice y1 0 n1)).setCell ⟨w.heap.size + 1, 3, none⟩ (.slice y2 1 n2) = W8 := ⟨_, rfl⟩
          rw [hW8] at D8 B8 R8 HBW8
          have c0 := D8.c 0 _ rfl
          have c1 := D8.c 1 _ rfl
          have c2' := D8.c 2 _ rfl
          have c3' := D8.c 3 _ rfl
          have c4 := D8.c 4 _ rfl
          obtain ⟨W9, hW9⟩ : ∃ W9, W8.setCells w.heap.size 0 [.int .i64 1, .string ⟨#[]⟩, .slice y1 0 n1, .slice y2 1 n2, .int .i64 (a : Int)] = W9 := ⟨_, rfl⟩
          have HW9 : Hid (W8.setCells w.heap.size 0 (#[.int .i64 1, .string ⟨#[]⟩, .slice y1 0 n1, .slice y2 1 n2, .int .i64 (a : Int)] : Array Value).toList = W9) := hW9
          obtain ⟨C9, B9⟩ := R8.put (us := [.int .i64 1, .string ⟨#[]⟩, .slice y1 0 n1, .slice y2 1 n2, .int .i64 (a : Int)]) (by simp) hW9
          have HTH := hide (R8.there (n := 5) (by simp))
          have HC9 := hide C9
          have HINN : Hid (ArIn 1 w.heap.size W9 (atomA z) (.agg #[.slice y1 0 n1, .slice y2 1 n2])) := by
            have hs7 := hb7.size
            exact arIn_low ((HIN.out.keeps (but_keeps B8 (by have := HS6.out; omega))).keeps (but_keeps B9 (by have := HS6.out; omega))) (by have := HS6.out; omega)
          have HB9 := hide (HBW8.out.trans (B9.below HBW8.out.size fun k hk => by omega))
          clear D7 D8 B8 R7 R8 hb7 HD6 HR6 HIN C9 B9 hW9 HBW6 HBW8 hvv
          go_wp2_with (first | (refine wpList_store_mid rfl 43 (.tmp 6) (.tmp 60) rfl w.heap.size 0 #[.int .i64 1, .string ⟨#[]⟩, .slice y1 0 n1, .slice y2 1 n2, .int .i64 (a : Int)] rfl rfl HTH.out (by kernel_rfl) (by simp [Value.oneCell']) ?_; rw [HW9.out]))
          have r0 := HC9.out.c 0 _ rfl
          have r1 := HC9.out.c 1 _ rfl
          have r2 := HC9.out.c 2 _ rfl
          have r3 := HC9.out.c 3 _ rfl
          have r4 := HC9.out.c 4 _ rfl
          exact bodyPost_ret (v := .tuple #[.agg #[.int .i64 1, .string ⟨#[]⟩, .slice y1 0 n1, .slice y2 1 n2, .int .i64 (a : Int)], .int .i64 (nx : Int), .int .i64 (-1)]) (by simp [results, Try.results47, go_sem, r0, r1, r2, r3, r4]) rfl (by
            rw [HRE.out]
            refine ⟨HB9.out, y1, n1, y2, n2, ?_, ?_⟩
            · rw [show litD (xs2, nx - a, (none : Option Nat)).1 = atomA z from HLT.out, show ((a + (xs2, nx - a, (none : Option Nat)).2.1 : Nat) : Int) = (nx : Int) by show ((a + (nx - a) : Nat) : Int) = _; omega]
              rfl
            · rw [show litD (xs2, nx - a, (none : Option Nat)).1 = atomA z from HLT.out]; exact HINN.out)
        · have hx1' : ((xs2.length : Int) == 1) = false := beq_eq_false_iff_ne.2 (by omega)
          have HLT := hide (show litD xs2 = numsA xs2 by unfold litD; rw [if_neg hx1])
          have hnl : (numsA xs2).cells.length = xs2.length := by simp [numsA, Ar.cells, numCs_len]
          have HNL := hide hnl
          have HS6 := hide HL2.out
          have HD6 := hide HWD.out
          have HR6 := hide HRS.out
          have HBW6 := hide HBW.out
          clear hrow hx1 hnl HWD HRS HBW
          obtain ⟨XL, hXL⟩ : ∃ XL, xs2.length = XL := ⟨_, rfl⟩
          rw [hXL] at HNM HNL hx1'
          simp only [hXL]
          clear hXL
          go_wp2_with fail
          refine HNM.out.mono ?_
          rintro e w7 ⟨⟨vv, rfl, hin⟩, hb7⟩
          clear HNM
          have HIN := hide hin
          obtain ⟨y1, n1, y2, n2, hvv, -⟩ := hin
          have hv2 : vv = .agg #[.slice y1 1 n1, .slice y2 XL n2] := by rw [hvv, HNL.out]; rfl
          subst hv2
          have D7 := HD6.out.next hb7 HD6.out.lt
          obtain ⟨D8, B8⟩ := D7.set2 (b2 := .slice y1 1 n1) (b3 := .slice y2 XL n2)
          have R7 := HR6.out.next hb7 HR6.out.lt
          have R8 := R7.but B8 (by omega)
          have HBW8 := hide ((HBW6.out.trans (hb7.mono HBW6.out.size)).trans (B8.below (by have := HS6.out; have := hb7.size; omega) fun k hk => by omega))
          have e2 := D7.c 2 _ rfl
          have e3 := D7.c 3 _ rfl
          have h2 := D7.z 2
          have h3 := D7.z 3
          obtain ⟨W8, hW8⟩ : ∃ W8, (w7.setCell ⟨w.heap.size + 1, 2, none⟩ (.slice y1 1 n1)).setCell ⟨w.heap.size + 1, 3, none⟩ (.slice y2 XL n2) = W8 := ⟨_, rfl⟩
          rw [hW8] at D8 B8 R8 HBW8
          have c0 := D8.c 0 _ rfl
          have c1 := D8.c 1 _ rfl
          have c2' := D8.c 2 _ rfl
          have c3' := D8.c 3 _ rfl
          have c4 := D8.c 4 _ rfl
          obtain ⟨W9, hW9⟩ : ∃ W9, W8.setCells w.heap.size 0 [.int .i64 1, .string ⟨#[]⟩, .slice y1 1 n1, .slice y2 XL n2, .int .i64 (a : Int)] = W9 := ⟨_, rfl⟩
          have HW9 : Hid (W8.setCells w.heap.size 0 (#[.int .i64 1, .string ⟨#[]⟩, .slice y1 1 n1, .slice y2 XL n2, .int .i64 (a : Int)] : Array Value).toList = W9) := hW9
          obtain ⟨C9, B9⟩ := R8.put (us := [.int .i64 1, .string ⟨#[]⟩, .slice y1 1 n1, .slice y2 XL n2, .int .i64 (a : Int)]) (by simp) hW9
          have HTH := hide (R8.there (n := 5) (by simp))
          have HC9 := hide C9
          have HINN : Hid (ArIn 1 w.heap.size W9 (numsA xs2) (.agg #[.slice y1 1 n1, .slice y2 XL n2])) := by
            have hs7 := hb7.size
            exact arIn_low ((HIN.out.keeps (but_keeps B8 (by have := HS6.out; omega))).keeps (but_keeps B9 (by have := HS6.out; omega))) (by have := HS6.out; omega)
          have HB9 := hide (HBW8.out.trans (B9.below HBW8.out.size fun k hk => by omega))
          clear D7 D8 B8 R7 R8 hb7 HD6 HR6 HIN C9 B9 hW9 HBW6 HBW8 hvv
          go_wp2_with (first | (refine wpList_store_mid rfl 43 (.tmp 6) (.tmp 60) rfl w.heap.size 0 #[.int .i64 1, .string ⟨#[]⟩, .slice y1 1 n1, .slice y2 XL n2, .int .i64 (a : Int)] rfl rfl HTH.out (by kernel_rfl) (by simp [Value.oneCell']) ?_; rw [HW9.out]))
          have r0 := HC9.out.c 0 _ rfl
          have r1 := HC9.out.c 1 _ rfl
          have r2 := HC9.out.c 2 _ rfl
          have r3 := HC9.out.c 3 _ rfl
          have r4 := HC9.out.c 4 _ rfl
          exact bodyPost_ret (v := .tuple #[.agg #[.int .i64 1, .string ⟨#[]⟩, .slice y1 1 n1, .slice y2 XL n2, .int .i64 (a : Int)], .int .i64 (nx : Int), .int .i64 (-1)]) (by simp [results, Try.results47, go_sem, r0, r1, r2, r3, r4]) rfl (by
            rw [HRE.out]
            refine ⟨HB9.out, y1, n1, y2, n2, ?_, ?_⟩
            · rw [show litD (xs2, nx - a, (none : Option Nat)).1 = numsA xs2 from HLT.out, show ((a + (xs2, nx - a, (none : Option Nat)).2.1 : Nat) : Int) = (nx : Int) by show ((a + (nx - a) : Nat) : Int) = _; omega, HNL.out]
              rfl
            · rw [show litD (xs2, nx - a, (none : Option Nat)).1 = numsA xs2 from HLT.out, HNL.out]; exact HINN.out)
      · have heq' : ((nx : Int) == (st : Int)) = false := beq_eq_false_iff_ne.2 (by omega)
        cases hbn : BG nx with
        | false =>
          have HTF := hide (show T = (xs2, st - a, none) by
            rw [← HTO.out, HSS.out (Or.inr hbn), ← HXE.out]; unfold TotD; refine Prod.ext rfl (Prod.ext ?_ rfl); show j - a + EN j = st - a; omega)
          rw [hbn] at HBN
          clear HSS HGO
          go_wp2_with fail
          refine (HBN.out _).mono ?_
          rintro e w5 ⟨rfl, rfl⟩
          clear HBN
          have hxl3 : xs2.length ≤ 8192 := by omega
          have HRE := hide (show T = (xs2, st - a, none) from HTF.out)
          obtain ⟨pa, pc, rfl, hrow⟩ := row_owned (lo := w.heap.size + 2) HOW3.out (by omega) (Nat.le_refl _)
          obtain ⟨hrs, hwd, hbw, hl2⟩ := HSTATE.out w5 HNX3.out
          have HRS := hide hrs
          have HWD := hide hwd
          have HBW := hide hbw
          have HL2 := hide hl2
          clear hrs hwd hbw hl2 HSTATE HNX3 HOW3 HTF
          have HNM := hide (rnums_any 0 xs2 pa pc w5 hrow (by omega))
          by_cases hx1 : xs2.length = 1
          · obtain ⟨z, hz⟩ : ∃ z, xs2 = [z] := List.length_eq_one_iff.1 hx1
            obtain ⟨g, off, hpa, hgo, hgl, hcz⟩ : ∃ g off, pa = some ⟨g, off, none⟩ ∧ w.heap.size + 2 ≤ g ∧ g < w5.heap.size ∧ w5.cell? ⟨g, off, none⟩ = some (.int .i64 z) := by
              rcases hrow.2 with h | ⟨g, off, h1, h0, h2, h3⟩
              · rw [h] at hz; cases hz
              · exact ⟨g, off, h1, h0, h2, by have := h3 0 (by omega); rw [hz] at this; exact this⟩
            subst hpa
            have HLT := hide (show litD xs2 = atomA z by unfold litD; rw [if_pos hx1, hz]; rfl)
            have HGL := hide hgl
            have HGO := hide hgo
            have HCZ := hide hcz
            have hnl : (numsA xs2).cells.length = 1 := by simp [numsA, Ar.cells, numCs_len, hz]
            have HNL := hide hnl
            rw [hx1] at HNM
            have HX1 := hide hx1
            have HAT := hide (fun V => ratom_any 0 z V)
            clear hrow hz hgl hgo hcz hnl
            rw [hx1]
            clear hx1
            go_wp2_with fail
            refine HNM.out.mono ?_
            rintro e w6 ⟨⟨vv, rfl, hin⟩, hb5⟩
            clear HNM
            obtain ⟨z1, m1, z2, m2, hvv, -⟩ := hin
            have hv2 : vv = .agg #[.slice z1 1 m1, .slice z2 1 m2] := by rw [hvv, HNL.out]; rfl
            subst hv2
            have D5 := HWD.out.next hb5 HWD.out.lt
            obtain ⟨D6, B6⟩ := D5.set2 (b2 := .slice z1 1 m1) (b3 := .slice z2 1 m2)
            have hcz6 := (B6.cell (p := ⟨g, off, none⟩) (Nat.lt_of_lt_of_le HGL.out hb5.size) (by have := HGO.out; show ¬ g = w.heap.size + 1; omega)).trans ((hb5.cell (p := ⟨g, off, none⟩) HGL.out).trans HCZ.out)
            have R5 := HRS.out.next hb5 HRS.out.lt
            have R6 := R5.but B6 (by omega)
            have HBW6 := hide ((HBW.out.trans (hb5.mono HBW.out.size)).trans (B6.below (by have := HL2.out; have := hb5.size; omega) fun k hk => by omega))
            have hs6 : w.heap.size + 2 ≤ ((w6.setCell ⟨w.heap.size + 1, 2, none⟩ (.slice z1 1 m1)).setCell ⟨w.heap.size + 1, 3, none⟩ (.slice z2 1 m2)).heap.size := by have := B6.size; have := hb5.size; have := HL2.out; omega
            have c2 := D5.c 2 _ rfl
            have c3 := D5.c 3 _ rfl
            have f2 := D5.z 2
            have f3 := D5.z 3
            obtain ⟨W6, hW6⟩ : ∃ W6, (w6.setCell ⟨w.heap.size + 1, 2, none⟩ (.slice z1 1 m1)).setCell ⟨w.heap.size + 1, 3, none⟩ (.slice z2 1 m2) = W6 := ⟨_, rfl⟩
            rw [hW6] at D6 B6 hcz6 R6 HBW6 hs6
            have HD6 := hide D6
            have HR6 := hide R6
            have HS6 := hide hs6
            clear D5 R5 D6 R6 B6 hb5 HWD HRS HBW hvv hs6
            go_wp2_with fail
            refine (HAT.out _).mono ?_
            rintro e w7 ⟨⟨vv, rfl, hin⟩, hb7⟩
            have HIN := hide hin
            obtain ⟨y1, n1, y2, n2, hvv, -⟩ := hin
            have hv2 : vv = .agg #[.slice y1 0 n1, .slice y2 1 n2] := hvv
            subst hv2
            clear c2 c3 f2 f3 hW6
            have D7 := HD6.out.next hb7 HD6.out.lt
            obtain ⟨D8, B8⟩ := D7.set2 (b2 := .slice y1 0 n1) (b3 := .slice y2 1 n2)
            have R7 := HR6.out.next hb7 HR6.out.lt
            have R8 := R7.but B8 (by omega)
            have HBW8 := hide ((HBW6.out.trans (hb7.mono HBW6.out.size)).trans (B8.below (by have := HS6.out; have := hb7.size; omega) fun k hk => by omega))
            have e2 := D7.c 2 _ rfl
            have e3 := D7.c 3 _ rfl
            have h2 := D7.z 2
            have h3 := D7.z 3
            obtain ⟨W8, hW8⟩ : ∃ W8, (w7.setCell ⟨w.heap.size + 1, 2, none⟩ (.slice y1 0 n1)).setCell ⟨w.heap.size + 1, 3, none⟩ (.slice y2 1 n2) = W8 := ⟨_, rfl⟩
            rw [hW8] at D8 B8 R8 HBW8
            have c0 := D8.c 0 _ rfl
            have c1 := D8.c 1 _ rfl
            have c2' := D8.c 2 _ rfl
            have c3' := D8.c 3 _ rfl
            have c4 := D8.c 4 _ rfl
            obtain ⟨W9, hW9⟩ : ∃ W9, W8.setCells w.heap.size 0 [.int .i64 1, .string ⟨#[]⟩, .slice y1 0 n1, .slice y2 1 n2, .int .i64 (a : Int)] = W9 := ⟨_, rfl⟩
            have HW9 : Hid (W8.setCells w.heap.size 0 (#[.int .i64 1, .string ⟨#[]⟩, .slice y1 0 n1, .slice y2 1 n2, .int .i64 (a : Int)] : Array Value).toList = W9) := hW9
            obtain ⟨C9, B9⟩ := R8.put (us := [.int .i64 1, .string ⟨#[]⟩, .slice y1 0 n1, .slice y2 1 n2, .int .i64 (a : Int)]) (by simp) hW9
            have HTH := hide (R8.there (n := 5) (by simp))
            have HC9 := hide C9
            have HINN : Hid (ArIn 1 w.heap.size W9 (atomA z) (.agg #[.slice y1 0 n1, .slice y2 1 n2])) := by
              have hs7 := hb7.size
              exact arIn_low ((HIN.out.keeps (but_keeps B8 (by have := HS6.out; omega))).keeps (but_keeps B9 (by have := HS6.out; omega))) (by have := HS6.out; omega)
            have HB9 := hide (HBW8.out.trans (B9.below HBW8.out.size fun k hk => by omega))
            clear D7 D8 B8 R7 R8 hb7 HD6 HR6 HIN C9 B9 hW9 HBW6 HBW8 hvv
            go_wp2_with (first | (refine wpList_store_mid rfl 43 (.tmp 6) (.tmp 60) rfl w.heap.size 0 #[.int .i64 1, .string ⟨#[]⟩, .slice y1 0 n1, .slice y2 1 n2, .int .i64 (a : Int)] rfl rfl HTH.out (by kernel_rfl) (by simp [Value.oneCell']) ?_; rw [HW9.out]))
            have r0 := HC9.out.c 0 _ rfl
            have r1 := HC9.out.c 1 _ rfl
            have r2 := HC9.out.c 2 _ rfl
            have r3 := HC9.out.c 3 _ rfl
            have r4 := HC9.out.c 4 _ rfl
            exact bodyPost_ret (v := .tuple #[.agg #[.int .i64 1, .string ⟨#[]⟩, .slice y1 0 n1, .slice y2 1 n2, .int .i64 (a : Int)], .int .i64 (st : Int), .int .i64 (-1)]) (by simp [results, Try.results47, go_sem, r0, r1, r2, r3, r4]) rfl (by
              rw [HRE.out]
              refine ⟨HB9.out, y1, n1, y2, n2, ?_, ?_⟩
              · rw [show litD (xs2, st - a, (none : Option Nat)).1 = atomA z from HLT.out, show ((a + (xs2, st - a, (none : Option Nat)).2.1 : Nat) : Int) = (st : Int) by show ((a + (st - a) : Nat) : Int) = _; omega]
                rfl
              · rw [show litD (xs2, st - a, (none : Option Nat)).1 = atomA z from HLT.out]; exact HINN.out)
          · have hx1' : ((xs2.length : Int) == 1) = false := beq_eq_false_iff_ne.2 (by omega)
            have HLT := hide (show litD xs2 = numsA xs2 by unfold litD; rw [if_neg hx1])
            have hnl : (numsA xs2).cells.length = xs2.length := by simp [numsA, Ar.cells, numCs_len]
            have HNL := hide hnl
            have HS6 := hide HL2.out
            have HD6 := hide HWD.out
            have HR6 := hide HRS.out
            have HBW6 := hide HBW.out
            clear hrow hx1 hnl HWD HRS HBW
            obtain ⟨XL, hXL⟩ : ∃ XL, xs2.length = XL := ⟨_, rfl⟩
            rw [hXL] at HNM HNL hx1'
            simp only [hXL]
            clear hXL
            go_wp2_with fail
            refine HNM.out.mono ?_
            rintro e w7 ⟨⟨vv, rfl, hin⟩, hb7⟩
            clear HNM
            have HIN := hide hin
            obtain ⟨y1, n1, y2, n2, hvv, -⟩ := hin
            have hv2 : vv = .agg #[.slice y1 1 n1, .slice y2 XL n2] := by rw [hvv, HNL.out]; rfl
            subst hv2
            have D7 := HD6.out.next hb7 HD6.out.lt
            obtain ⟨D8, B8⟩ := D7.set2 (b2 := .slice y1 1 n1) (b3 := .slice y2 XL n2)
            have R7 := HR6.out.next hb7 HR6.out.lt
            have R8 := R7.but B8 (by omega)
            have HBW8 := hide ((HBW6.out.trans (hb7.mono HBW6.out.size)).trans (B8.below (by have := HS6.out; have := hb7.size; omega) fun k hk => by omega))
            have e2 := D7.c 2 _ rfl
            have e3 := D7.c 3 _ rfl
            have h2 := D7.z 2
            have h3 := D7.z 3
            obtain ⟨W8, hW8⟩ : ∃ W8, (w7.setCell ⟨w.heap.size + 1, 2, none⟩ (.slice y1 1 n1)).setCell ⟨w.heap.size + 1, 3, none⟩ (.slice y2 XL n2) = W8 := ⟨_, rfl⟩
            rw [hW8] at D8 B8 R8 HBW8
            have c0 := D8.c 0 _ rfl
            have c1 := D8.c 1 _ rfl
            have c2' := D8.c 2 _ rfl
            have c3' := D8.c 3 _ rfl
            have c4 := D8.c 4 _ rfl
            obtain ⟨W9, hW9⟩ : ∃ W9, W8.setCells w.heap.size 0 [.int .i64 1, .string ⟨#[]⟩, .slice y1 1 n1, .slice y2 XL n2, .int .i64 (a : Int)] = W9 := ⟨_, rfl⟩
            have HW9 : Hid (W8.setCells w.heap.size 0 (#[.int .i64 1, .string ⟨#[]⟩, .slice y1 1 n1, .slice y2 XL n2, .int .i64 (a : Int)] : Array Value).toList = W9) := hW9
            obtain ⟨C9, B9⟩ := R8.put (us := [.int .i64 1, .string ⟨#[]⟩, .slice y1 1 n1, .slice y2 XL n2, .int .i64 (a : Int)]) (by simp) hW9
            have HTH := hide (R8.there (n := 5) (by simp))
            have HC9 := hide C9
            have HINN : Hid (ArIn 1 w.heap.size W9 (numsA xs2) (.agg #[.slice y1 1 n1, .slice y2 XL n2])) := by
              have hs7 := hb7.size
              exact arIn_low ((HIN.out.keeps (but_keeps B8 (by have := HS6.out; omega))).keeps (but_keeps B9 (by have := HS6.out; omega))) (by have := HS6.out; omega)
            have HB9 := hide (HBW8.out.trans (B9.below HBW8.out.size fun k hk => by omega))
            clear D7 D8 B8 R7 R8 hb7 HD6 HR6 HIN C9 B9 hW9 HBW6 HBW8 hvv
            go_wp2_with (first | (refine wpList_store_mid rfl 43 (.tmp 6) (.tmp 60) rfl w.heap.size 0 #[.int .i64 1, .string ⟨#[]⟩, .slice y1 1 n1, .slice y2 XL n2, .int .i64 (a : Int)] rfl rfl HTH.out (by kernel_rfl) (by simp [Value.oneCell']) ?_; rw [HW9.out]))
            have r0 := HC9.out.c 0 _ rfl
            have r1 := HC9.out.c 1 _ rfl
            have r2 := HC9.out.c 2 _ rfl
            have r3 := HC9.out.c 3 _ rfl
            have r4 := HC9.out.c 4 _ rfl
            exact bodyPost_ret (v := .tuple #[.agg #[.int .i64 1, .string ⟨#[]⟩, .slice y1 1 n1, .slice y2 XL n2, .int .i64 (a : Int)], .int .i64 (st : Int), .int .i64 (-1)]) (by simp [results, Try.results47, go_sem, r0, r1, r2, r3, r4]) rfl (by
              rw [HRE.out]
              refine ⟨HB9.out, y1, n1, y2, n2, ?_, ?_⟩
              · rw [show litD (xs2, st - a, (none : Option Nat)).1 = numsA xs2 from HLT.out, show ((a + (xs2, st - a, (none : Option Nat)).2.1 : Nat) : Int) = (st : Int) by show ((a + (st - a) : Nat) : Int) = _; omega, HNL.out]
                rfl
              · rw [show litD (xs2, st - a, (none : Option Nat)).1 = numsA xs2 from HLT.out, HNL.out]; exact HINN.out)
        | true =>
          have HT2 := hide (show TotD a nx xs2 (SF nx) = T from (HGO.out (fun h => heq (HLD0.out.1 h)) hbn).symm.trans HTO.out)
          rw [hbn] at HBN
          have HBT := hide hbn
          clear HSS HGO hbn
          go_wp2_with fail
          refine (HBN.out _).mono ?_
          rintro e w4 ⟨rfl, rfl⟩
          clear HBN
          go_wp2
          go_roundg (s.size + 1 - nx)
          case rel => exact ⟨nx, xs2, by omega, hnx2.2, by omega, by omega, rfl, HOW3.out, HNX3.out, HBT.out, HT2.out⟩
          case measure => omega
end Go.Proofs.Ytnaejfoighmfeaa.Rn
