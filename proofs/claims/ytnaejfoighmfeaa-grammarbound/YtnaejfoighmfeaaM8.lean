/-
  The contract of the document's Lex: all words of a text, or the first fault; for all texts.
  The deferred function of Parse: its contracts, behind a fault and behind none.
  Words as a program: the contract of Parse; for all words and grammars.
  The contract of works: it answers true.
  What a call of layer 10's statements is told of a program that came in: it is one of the plain programs, as deep as it may be; no condition.
  What a call of layer 15's statements is told of a grammar and of words that came in: texts and words in rows, however many; no condition.
  Words read at another depth, with another end, and with a bracket that closes behind them: the same program, or a fault of depth; a sign ahead; as plain mathematics. No program is named.
  Words read at another depth, with another end, and with a bracket behind them: the same program, or a fault of depth; a sign ahead of words; words in brackets; as plain mathematics. No program is named.
  The document's look at a node by itself: bare, prim; the program's: parts, isZero, isBare; a node boxed in memory; for all nodes.
  An array is the same as itself, and the arrays that Atom and Nums make may be: the plain mathematics of it; and a slice of int64 that came in, as a row.
-/
import Derived.Test.YtnaejfoighmfeaaM7
import Derived.Laws.BitsAllLaws
import Derived.Lib.Bits
import Derived.Test.YtnaejfoighmfeaaChecked
import GoSem.Claim
import GoSem.ClaimJoined
import GoSem.ClaimMapViews
import Derived.JoinedTies
import Derived.KernelRfl
import Derived.WalkKit
import Derived.ProofKit
import Derived.Below
import Derived.Deep.QuietTactic
import Derived.BigQuiet
import Derived.Lib.SlBytesConst
import Derived.Laws.BytesArg
import Derived.Laws.MakeOwn
import Derived.Deep.RegionHeld3
import Derived.Laws.AppendOwnNone
import Derived.BigFrame
import Derived.OpenShut
import Derived.ChangeOld
import Derived.SizedLaws
import Derived.Deep.DeepHandedRow
import Derived.Lib.LaidTab
import Derived.Deep.OwnRows
import Derived.Deep.RegionWith
import Derived.Deep.Slices
import Derived.Deep.Strs
import Derived.Deep.LoopGhost
import Derived.Lib.ConvBytes
import Derived.Deep.RegionLaw
import Derived.Deep.CutRange
import Derived.Lib.SliceRun
import Derived.WalkLawsBesides
import Derived.Maps.AppendAt
import Derived.Deep.MidRow
import Derived.Defers
import Derived.Recover
import Derived.Deep.Cut
import Derived.ChangeMaps5
namespace Go.Proofs.Ytnaejfoighmfeaa.Rn
open Go.ChangeShapes Go.WideShapes Go.ChangeAt Go.RowKit
set_option maxRecDepth 100000
set_option linter.unusedVariables false
set_option linter.unusedSimpArgs false
theorem info43 : (Try.prog.info? 43).map (fun i => (i.zero, i.size, i.bytes)) = some (some (.agg #[.int .i64 0, .string ⟨#[]⟩, .slice none 0 0, .slice none 0 0, .int .i64 0]), 5, 80) := by kernel_rfl
/-- What Lex tells. -/
def GvX (F : Rs (List Wo)) (w : World) (e : Ending) (w' : World) : Prop := Below w.heap.size w w' ∧ match F with
  | .ok ws => ∃ a c, e = .returned (.tuple #[.slice a ws.length c, .agg #[.int .i64 0, .int .i64 0, .int .i64 0]]) ∧ ws.length ≤ c ∧ WoR 1 w' a ws
  | .bad er p => e = .returned (.tuple #[.slice none 0 0, .agg #[.int .i64 er, .int .i64 p, .int .i64 0]])
  | .stuck => False
theorem owns_slice {w : World} {base n size : Nat} {e : TypeId} {v : Value} {xs : List Value} (h : w.ownsRow base e size v n xs) : ∃ a c, v = .slice a n c := by
  rcases h.2 with ⟨rfl, rfl⟩ | ⟨g, cap, cur, rfl, -⟩
  · exact ⟨none, 0, rfl⟩
  · exact ⟨_, _, rfl⟩
set_option maxHeartbeats 16000000 in
theorem lex12 (s : ByteArray) (w : World) :
    Calls Try.prog 12 #[.string s] w fun e w' => GvX (lexA s) w e w' := by
  obtain ⟨i0, hi, hz0, hz1, hz2⟩ := info_parts info43
  obtain ⟨F, hF⟩ : ∃ F, lexA s = F := ⟨_, rfl⟩
  rw [hF]
  obtain ⟨W1, hW1⟩ : ∃ W1, w.alloc (.cells #[.int .i64 0, .int .i64 0, .int .i64 0] 28) = W1 := ⟨_, rfl⟩
  have b1 : Below w.heap.size w W1 := by rw [← hW1]; exact one_alloc _ _
  have s1 : W1.heap.size = w.heap.size + 1 := by rw [← hW1]; simp
  have R1 : Cs W1 w.heap.size [.int .i64 0, .int .i64 0, .int .i64 0] := by rw [← hW1]; exact Cs.new w [.int .i64 0, .int .i64 0, .int .i64 0] 28
  by_cases hlong : 8192 < s.size
  · have HRE := hide (show F = .bad 14 0 by rw [← hF]; unfold lexA; rw [if_pos hlong])
    have hlong' : (8192 : Int) < (s.size : Int) := by omega
    have hrf := R1
    have hbw := b1
    have HW1 := hide hW1
    clear hF hlong b1 s1 R1 hW1
    go_enter Try.func12, Try.ntmps12
    go_upto_region 2 with fail
    rw [HW1.out]
    obtain ⟨W9, hW9⟩ : ∃ W9, W1.setCells w.heap.size 0 [.int .i64 14, .int .i64 0, .int .i64 0] = W9 := ⟨_, rfl⟩
    have HW9 : Hid (W1.setCells w.heap.size 0 (#[.int .i64 14, .int .i64 0, .int .i64 0] : Array Value).toList = W9) := hW9
    obtain ⟨C9, B9⟩ := hrf.put (us := [.int .i64 14, .int .i64 0, .int .i64 0]) (by simp) hW9
    have HTH9 := hide (hrf.there (n := 3) (by simp))
    have HC9 := hide C9
    have HB9 := hide (hbw.trans (B9.below hbw.size fun k hk => by omega))
    clear hrf hbw C9 B9 hW9
    go_wp2_with (first | (refine wpList_store_mid rfl 28 (.tmp 3) (.tmp 12) rfl w.heap.size 0 #[.int .i64 14, .int .i64 0, .int .i64 0] rfl rfl HTH9.out (by kernel_rfl) (by simp [Value.oneCell']) ?_; rw [HW9.out]))
    have q0 := HC9.out.c 0 _ rfl
    have q1 := HC9.out.c 1 _ rfl
    have q2 := HC9.out.c 2 _ rfl
    exact bodyPost_ret (v := .tuple #[.slice none 0 0, .agg #[.int .i64 14, .int .i64 0, .int .i64 0]]) (by simp [results, Try.results12, go_sem, q0, q1, q2]) rfl (by
      rw [HRE.out]
      exact ⟨HB9.out, rfl⟩)
  · have hL : s.size ≤ 8192 := by omega
    have hlong' : ¬ (8192 : Int) < (s.size : Int) := by omega
    have HSTATE : Hid (∀ wr, Below (w.heap.size + 1) W1 wr → Cs wr w.heap.size [.int .i64 0, .int .i64 0, .int .i64 0] ∧ Below w.heap.size w wr ∧ w.heap.size + 1 ≤ wr.heap.size) := fun wr h =>
      ⟨R1.next h (by omega), b1.trans (h.mono (by omega)), by have := h.size; omega⟩
    have HNX0 : Hid (Below (w.heap.size + 1) W1 W1) := Below.refl _ _
    have HOWN : Hid (W1.ownsRow (w.heap.size + 1) 43 5 (.slice none 0 0) 0 []) := World.ownsRow_nil _ _ _ _
    have hll := lead_le blB (numsS s)
    rw [numsS_len] at hll
    have HF0 := hide (show jnD [] (LD s 0 (lead blB (numsS s))) = F by
      rw [← hF]; unfold lexA; rw [if_neg hlong]; unfold jnD LD
      cases lexD s (s.size + 1) 0 (lead blB (numsS s)) <;> rfl)
    have HBL := hide (fun j (hj : j ≤ s.size) W => blanks24 s j hj (by omega) W)
    have hb0 := HBL.out 0 (Nat.zero_le _) W1
    rw [List.drop_zero, Nat.zero_add] at hb0
    have HB0 := hide hb0
    have hrm : numsS ⟨#[226, 141, 157]⟩ = remL := by decide
    have HRM := hide (fun j (hj : j ≤ s.size) W => starts25 s ⟨#[226, 141, 157]⟩ j hj (by omega) (by decide) W)
    rw [hrm] at HRM
    have HON := hide (fun j (hj : j < s.size) W => one26 s j hj hL W)
    have HW1 := hide hW1
    have HL := hide hL
    have HLB := hide (fun j => (show lead blB ((numsS s).drop j) ≤ s.size - j by have := lead_le blB ((numsS s).drop j); rwa [List.length_drop, numsS_len] at this))
    clear hF hlong b1 s1 R1 hW1 hb0 hrm
    go_enter Try.func12, Try.ntmps12
    go_upto_region 4 with fail
    rw [HW1.out]
    go_wp2_with fail
    refine HB0.out.mono ?_
    rintro e w0 ⟨rfl, rfl⟩
    clear HB0 HW1
    generalize lead blB (numsS s) = q0 at *
    go_wp2
    go_loopg [5, 4] (s.size + 1 - q0) (fun g nv lv wr => ∃ (q : Nat) (ts : List Wo) (vs : List Value), g + q = s.size + 1 ∧ q ≤ s.size ∧ nv = .int .i64 (q : Int) ∧ wr.ownsRow (w.heap.size + 1) 43 5 lv ts.length vs ∧ TkL w.heap.size lv.ownBlock wr ts vs ∧ Below (w.heap.size + 1) w0 wr ∧ ts.length ≤ 2048 ∧ jnD ts (LD s ts.length q) = F)
    case atStart => exact ⟨q0, [], [], by omega, hll, rfl, HOWN.out, TkL.nil _ _ _, HNX0.out, by simp, HF0.out⟩
    case round =>
      clear HNX0 HOWN HF0 hll
      obtain ⟨q, ts, vs, hg, hq, rfl, hown, htkl, hnx, htl, htot⟩ := hrel
      have hL2 := HL.out
      have HOW := hide hown
      have HTK := hide htkl
      have HNX := hide hnx
      have HTO := hide htot
      clear hown htkl hnx htot
      by_cases hlt : q < s.size
      · have hlt' : (q : Int) < (s.size : Int) := by omega
        have HR1 := hide (HRM.out q hq wr)
        cases hrm : hasP ((numsS s).drop q) remL with
        | true =>
          rw [hrm] at HR1
          have HRE := hide (show F = .ok ts by rw [← HTO.out, LD_end (Or.inr hrm)]; simp [jnD, Rs.bind])
          clear hrm HBL HRM HON HLB
          go_wp2_with fail
          refine HR1.out.mono ?_
          rintro e w1 ⟨rfl, rfl⟩
          clear HR1
          obtain ⟨pa, pc, rfl, hpc, htk⟩ := tkIn_of (s := w.heap.size) (by omega) HOW.out HTK.out
          obtain ⟨hrf, hbw, hl2⟩ := HSTATE.out w1 HNX.out
          obtain ⟨W9, hW9⟩ : ∃ W9, w1.setCells w.heap.size 0 [.int .i64 0, .int .i64 0, .int .i64 0] = W9 := ⟨_, rfl⟩
          have HW9 : Hid (w1.setCells w.heap.size 0 (#[.int .i64 0, .int .i64 0, .int .i64 0] : Array Value).toList = W9) := hW9
          obtain ⟨C9, B9⟩ := hrf.put (us := [.int .i64 0, .int .i64 0, .int .i64 0]) (by simp) hW9
          have HTH9 := hide (hrf.there (n := 3) (by simp))
          have HC9 := hide C9
          have HB9 := hide (hbw.trans (B9.below hbw.size fun k hk => by omega))
          have HPC := hide hpc
          have HTKI := hide (htk W9 B9.size fun k hk hn => B9.block hk hn)
          clear hrf hbw hl2 hpc htk HSTATE HTO HNX HOW HTK C9 B9 hW9
          generalize hTL : ts.length = TL at *
          have HTL := hide hTL
          clear hTL
          go_wp2_with (first | (refine wpList_store_mid rfl 28 (.tmp 3) (.tmp 49) rfl w.heap.size 0 #[.int .i64 0, .int .i64 0, .int .i64 0] rfl rfl HTH9.out (by kernel_rfl) (by simp [Value.oneCell']) ?_; rw [HW9.out]))
          have q0 := HC9.out.c 0 _ rfl
          have q1 := HC9.out.c 1 _ rfl
          have q2 := HC9.out.c 2 _ rfl
          exact bodyPost_ret (v := .tuple #[.slice pa TL pc, .agg #[.int .i64 0, .int .i64 0, .int .i64 0]]) (by simp [results, Try.results12, go_sem, q0, q1, q2]) rfl (by
            rw [HRE.out]
            exact ⟨HB9.out, pa, pc, by rw [HTL.out], by rw [HTL.out]; exact HPC.out, HTKI.out⟩)
        | false =>
          rw [hrm] at HR1
          have HNE := hide (show ¬ (¬ q < s.size ∨ hasP ((numsS s).drop q) remL = true) from fun h => h.elim (fun h0 => h0 hlt) (fun h1 => by rw [hrm] at h1; cases h1))
          have HO1 := hide (HON.out q hlt wr)
          clear hrm HRM HON
          by_cases h48 : ts.length = 2048
          · have HRE := hide (show F = .bad 14 (q : Int) by rw [← HTO.out, h48, LD_long HNE.out]; rfl)
            have h48' : ((ts.length : Int) == 2048) = true := by simp [h48]
            obtain ⟨la, lc, hla⟩ := owns_slice HOW.out
            subst hla
            obtain ⟨hrf, hbw, hl2⟩ := HSTATE.out wr HNX.out
            clear HBL HLB HTO HNE HO1 HSTATE HTK HNX HOW h48
            generalize ts.length = TL at *
            go_wp2_with fail
            refine HR1.out.mono ?_
            rintro e w1 ⟨rfl, rfl⟩
            clear HR1
            obtain ⟨W9, hW9⟩ : ∃ W9, w1.setCells w.heap.size 0 [.int .i64 14, .int .i64 (q : Int), .int .i64 0] = W9 := ⟨_, rfl⟩
            have HW9 : Hid (w1.setCells w.heap.size 0 (#[.int .i64 14, .int .i64 (q : Int), .int .i64 0] : Array Value).toList = W9) := hW9
            obtain ⟨C9, B9⟩ := hrf.put (us := [.int .i64 14, .int .i64 (q : Int), .int .i64 0]) (by simp) hW9
            have HTH9 := hide (hrf.there (n := 3) (by simp))
            have HC9 := hide C9
            have HB9 := hide (hbw.trans (B9.below hbw.size fun k hk => by omega))
            clear hrf hbw C9 B9 hW9
            go_wp2_with (first | (refine wpList_store_mid rfl 28 (.tmp 3) (.tmp 29) rfl w.heap.size 0 #[.int .i64 14, .int .i64 (q : Int), .int .i64 0] rfl rfl HTH9.out (by kernel_rfl) (by simp [Value.oneCell']) ?_; rw [HW9.out]))
            have q0 := HC9.out.c 0 _ rfl
            have q1 := HC9.out.c 1 _ rfl
            have q2 := HC9.out.c 2 _ rfl
            exact bodyPost_ret (v := .tuple #[.slice none 0 0, .agg #[.int .i64 14, .int .i64 (q : Int), .int .i64 0]]) (by simp [results, Try.results12, go_sem, q0, q1, q2]) rfl (by
              rw [HRE.out]
              exact ⟨HB9.out, rfl⟩)
          · have h48' : ((ts.length : Int) == 2048) = false := beq_eq_false_iff_ne.2 (by omega)
            obtain ⟨la, lc, hla⟩ := owns_slice HOW.out
            subst hla
            have HLTG := hide (fun k hk => (HOW.out.lt k hk).2)
            have HEND := hide (fun he => oneW_stop s q hlt he)
            have HBAD := hide (fun he => show F = .bad (oneW s q).err ((oneW s q).ea : Int) by rw [← HTO.out, LD_bad HNE.out h48 he]; rfl)
            have HGO := hide (fun he => (LD_go (ts := ts) HNE.out h48 he).symm.trans HTO.out)
            obtain ⟨TL, hTL⟩ : ∃ TL, ts.length = TL := ⟨_, rfl⟩
            have HTL := hide hTL
            rw [hTL] at HOW HLTG htl h48'
            simp only [hTL]
            have HL2 := hide (HSTATE.out wr HNX.out).2.2
            have htl2 : TL < 2048 := by omega
            clear h48 hTL HTO HNE
            go_wp2_with fail
            refine HR1.out.mono ?_
            rintro e w1 ⟨rfl, rfl⟩
            clear HR1
            go_wp2_with fail
            refine HO1.out.mono ?_
            rintro e w2 ⟨hb2, kd, tx, z1, z2, l1, m1, l2, m2, at', st, pl, rfl, hok, hbad⟩
            generalize oneW s q = r at *
            obtain ⟨er, her0⟩ : ∃ er, r.err = er := ⟨_, rfl⟩
            have HER := hide her0
            rw [her0] at hok hbad HEND HBAD HGO ⊢
            clear her0
            have HOK := hide hok
            have HBD := hide hbad
            have HB2 := hide hb2
            obtain ⟨W3, hW3⟩ : ∃ W3, (w2.alloc (.cells #[.int .i64 kd, .string tx, .slice z1 l1 m1, .slice z2 l2 m2, .int .i64 at'] 43)).alloc (.cells #[.int .i64 er, .int .i64 pl, .int .i64 0] 28) = W3 := ⟨_, rfl⟩
            have hb3 : Below w2.heap.size w2 W3 := by rw [← hW3]; exact two_allocs _ _ _
            have D3 : Cs W3 w2.heap.size [.int .i64 kd, .string tx, .slice z1 l1 m1, .slice z2 l2 m2, .int .i64 at'] := by rw [← hW3]; exact (Cs.new w2 [.int .i64 kd, .string tx, .slice z1 l1 m1, .slice z2 l2 m2, .int .i64 at'] 43).next (one_alloc _ _) (by simp)
            have E3 : Cs W3 (w2.heap.size + 1) [.int .i64 er, .int .i64 pl, .int .i64 0] := by
              have hs : (w2.alloc (.cells #[.int .i64 kd, .string tx, .slice z1 l1 m1, .slice z2 l2 m2, .int .i64 at'] 43)).heap.size = w2.heap.size + 1 := by simp
              have h := Cs.new (w2.alloc (.cells #[.int .i64 kd, .string tx, .slice z1 l1 m1, .slice z2 l2 m2, .int .i64 at'] 43)) [.int .i64 er, .int .i64 pl, .int .i64 0] 28
              rw [hs] at h
              rw [← hW3]; exact h
            have HNX2 := hide (HNX.out.trans (hb2.mono HL2.out))
            have hl2' := (HSTATE.out w2 HNX2.out).2.2
            have HNX3 := hide (HNX2.out.trans (hb3.mono hl2'))
            have HOW3 := hide (owns_next (owns_next HOW.out hb2) hb3)
            have HTK3 := hide ((HTK.out.next hb2).next hb3)
            have HB3 := hide hb3
            have HW3 := hide hW3
            have e0 := E3.c 0 _ rfl
            have e1 := E3.c 1 _ rfl
            have e2 := E3.c 2 _ rfl
            have t0 := D3.c 0 _ rfl
            have t1 := D3.c 1 _ rfl
            have t2 := D3.c 2 _ rfl
            have t3 := D3.c 3 _ rfl
            have t4 := D3.c 4 _ rfl
            clear hok hbad hb2 hb3 hW3 HNX HOW HTK HO1 HNX2 D3 E3
            by_cases her : er = 0
            · obtain ⟨hk, htx, rfl, rfl, rfl, hn1, hn2, hin⟩ := HOK.out her
              obtain ⟨hs1, hs2, hs3⟩ := HEND.out her
              have hgo := HGO.out her
              subst her
              have HIN := hide hin
              have HEQ := hide (And.intro hk (And.intro htx (And.intro hn1 hn2)))
              have HTZ := hide hs3
              obtain ⟨so, hso⟩ : ∃ so, r.stop = so := ⟨_, rfl⟩
              rw [hso] at hs1 hs2 hgo
              simp only [hso] at HW3 ⊢
              have HGG := hide hgo
              clear HOK HBD HBAD HGO HEND hk htx hn1 hn2 hin hs3 hgo hso
              go_upto_region 9 with fail
              rw [HW3.out]
              have hown3 := HOW3.out
              have hx3 := HNX3.out.size
              have hl3 := (HSTATE.out W3 HNX3.out).2.2
              go_wp2_with (at_builtin; refine wpList_append_at rfl _ _ 25 rfl (w.heap.size + 1) 43 i0 (.agg #[.int .i64 0, .string ⟨#[]⟩, .slice none 0 0, .slice none 0 0, .int .i64 0]) 5 80 Try.underlying25 hi hz0 hz1 hz2 rfl (by decide) _ _ _ rfl (hown3.alloc _) ⟨W3.heap.size, 0, none⟩ 1 1 [.int .i64 kd, .string tx, .slice z1 l1 m1, .slice z2 l2 m2, .int .i64 (q : Int)] rfl rfl ?c1 ?c2 ?c3 ?c4 ?c5 ?_)
              case c1 =>
                intro j u hj
                match j, hj with
                | 0, hj => simp at hj; subst hj; simp [Addr.add]
                | 1, hj => simp at hj; subst hj; simp [Addr.add]
                | 2, hj => simp at hj; subst hj; simp [Addr.add]
                | 3, hj => simp at hj; subst hj; simp [Addr.add]
                | 4, hj => simp at hj; subst hj; simp [Addr.add]
              case c2 => intro u hu; simp at hu; rcases hu with rfl | rfl | rfl | rfl | rfl <;> rfl
              case c3 => unfold maxLen; omega
              case c4 => omega
              case c5 => simp; omega
              intro v' w4 hown4 hgrow hwhere
              obtain ⟨WA, hWA⟩ : ∃ WA, W3.alloc (.cells #[.int .i64 kd, .string tx, .slice z1 l1 m1, .slice z2 l2 m2, .int .i64 (q : Int)] 43) = WA := ⟨_, rfl⟩
              rw [hWA] at hgrow
              have hsa : WA.heap.size = W3.heap.size + 1 := by rw [← hWA]; simp
              rw [← hsa] at hwhere
              have hba : Below W3.heap.size W3 WA := by rw [← hWA]; exact one_alloc _ _
              have HOW4 := hide hown4
              have HTK4 : Hid (TkL w.heap.size v'.ownBlock w4 (ts ++ [⟨r.kind, r.text, r.lit, (q : Int)⟩]) (vs ++ [.int .i64 kd, .string tx, .slice z1 l1 m1, .slice z2 l2 m2, .int .i64 (q : Int)])) := by
                obtain ⟨hk, htx, hn1, hn2⟩ := HEQ.out
                have hlit : LitIn w.heap.size (Value.slice la TL lc).ownBlock WA r.lit (.agg #[.slice z1 r.lit.shape.length m1, .slice z2 r.lit.cells.length m2]) := by
                  rw [← hn1, ← hn2]
                  exact ((LitIn.of HIN.out (by have := HL2.out; omega) (fun k hk => HLTG.out k hk)).next HB3.out).next hba
                have htk3 := HTK3.out
                rw [HTL.out] at htk3
                have := (htk3.next hba).snoc (t := ⟨r.kind, r.text, r.lit, (q : Int)⟩) (by have := HTZ.out; show r.text.size ≤ _; omega) (by rw [HTL.out]; exact hown3.1) hlit hgrow hwhere
                rw [hk, htx, hn1, hn2]
                exact this
              have HNX4 := hide ((HNX3.out.trans (hba.mono (by omega))).grown hgrow (by have := hba.size; omega) (fun k hk => (hown3.lt k hk).1))
              clear hown4 hgrow hwhere hWA hba hown3 HTK3 HOW3 HIN HB2 HB3 HLTG HEQ e0 e1 e2 t0 t1 t2 t3 t4
              have HPB := hide (HBL.out so hs2)
              have hlb := HLB.out so
              obtain ⟨nx, hnx⟩ : ∃ nx, so + lead blB ((numsS s).drop so) = nx := ⟨_, rfl⟩
              rw [hnx] at HPB HGG
              have hle : nx ≤ s.size ∧ q < nx := by omega
              clear hnx hlb
              go_wp2_with fail
              refine (HPB.out _).mono ?_
              rintro e w5 ⟨rfl, rfl⟩
              clear HPB
              go_wp2
              go_roundg (s.size + 1 - nx)
              case rel => exact ⟨nx, ts ++ [⟨r.kind, r.text, r.lit, (q : Int)⟩], _, by omega, hle.1, rfl, by rw [List.length_append, HTL.out]; exact HOW4.out, HTK4.out, HNX4.out, by rw [List.length_append, HTL.out]; simp; omega, by have hh := HGG.out; rw [HTL.out] at hh; rw [List.length_append, HTL.out]; exact hh⟩
              case measure => omega
            · have HRE := hide (HBAD.out her)
              have hpl := HBD.out her
              subst hpl
              have her' : (er != 0) = true := bne_iff_ne.2 her
              obtain ⟨hrf, hbw, hl3⟩ := HSTATE.out W3 HNX3.out
              obtain ⟨W9, hW9⟩ : ∃ W9, W3.setCells w.heap.size 0 [.int .i64 er, .int .i64 (r.ea : Int), .int .i64 0] = W9 := ⟨_, rfl⟩
              have HX9 : Hid (((W3.setCell ⟨w.heap.size, 0, none⟩ (.int .i64 er)).setCell ⟨w.heap.size, 1, none⟩ (.int .i64 (r.ea : Int))).setCell ⟨w.heap.size, 2, none⟩ (.int .i64 0) = W9) := by rw [← hW9]; rfl
              obtain ⟨C9, B9⟩ := hrf.put (us := [.int .i64 er, .int .i64 (r.ea : Int), .int .i64 0]) (by simp) hW9
              have HC9 := hide (C9.next (B := W9.heap.size) (w9drew W9) C9.lt)
              have HB9 := hide ((hbw.trans (B9.below hbw.size fun k hk => by omega)).trans ((w9drew W9).mono (by have := hbw.size; have := B9.size; omega)))
              have f0 := hrf.c 0 _ rfl
              have f1 := hrf.c 1 _ rfl
              have f2 := hrf.c 2 _ rfl
              have fz := hrf.z
              have hlt3 : w.heap.size < w2.heap.size := by have := HB2.out.size; have := HL2.out; omega
              clear HOK HBD HBAD HGO HEND her hrf hbw hl3 C9 B9 hW9 HSTATE HTK3 HOW3 HNX3 HB2 HB3 HLTG HBL HLB HER
              go_upto_region 9 with fail
              rw [HW3.out]
              go_upto_region 10 with fail
              go_region_with (fail)
              all_goals
                rw [HX9.out]
                go_wp2
                have q0 := HC9.out.c 0 _ rfl
                have q1 := HC9.out.c 1 _ rfl
                have q2 := HC9.out.c 2 _ rfl
                exact bodyPost_ret (v := .tuple #[.slice none 0 0, .agg #[.int .i64 er, .int .i64 (r.ea : Int), .int .i64 0]]) (by simp [results, Try.results12, go_sem, q0, q1, q2]) rfl (by
                  rw [HRE.out]
                  exact ⟨HB9.out, rfl⟩)
      · have hlt' : ¬ (q : Int) < (s.size : Int) := by omega
        have HRE := hide (show F = .ok ts by rw [← HTO.out, LD_end (Or.inl hlt)]; simp [jnD, Rs.bind])
        clear HBL HRM HON HLB
        obtain ⟨pa, pc, rfl, hpc, htk⟩ := tkIn_of (s := w.heap.size) (by omega) HOW.out HTK.out
        obtain ⟨hrf, hbw, hl2⟩ := HSTATE.out wr HNX.out
        obtain ⟨W9, hW9⟩ : ∃ W9, wr.setCells w.heap.size 0 [.int .i64 0, .int .i64 0, .int .i64 0] = W9 := ⟨_, rfl⟩
        have HW9 : Hid (wr.setCells w.heap.size 0 (#[.int .i64 0, .int .i64 0, .int .i64 0] : Array Value).toList = W9) := hW9
        obtain ⟨C9, B9⟩ := hrf.put (us := [.int .i64 0, .int .i64 0, .int .i64 0]) (by simp) hW9
        have HTH9 := hide (hrf.there (n := 3) (by simp))
        have HC9 := hide C9
        have HB9 := hide (hbw.trans (B9.below hbw.size fun k hk => by omega))
        have HPC := hide hpc
        have HTKI := hide (htk W9 B9.size fun k hk hn => B9.block hk hn)
        clear hrf hbw hl2 hpc htk HSTATE HTO HNX HOW HTK C9 B9 hW9
        generalize hTL : ts.length = TL at *
        have HTL := hide hTL
        clear hTL
        go_wp2_with (first | (refine wpList_store_mid rfl 28 (.tmp 3) (.tmp 49) rfl w.heap.size 0 #[.int .i64 0, .int .i64 0, .int .i64 0] rfl rfl HTH9.out (by kernel_rfl) (by simp [Value.oneCell']) ?_; rw [HW9.out]))
        have q0 := HC9.out.c 0 _ rfl
        have q1 := HC9.out.c 1 _ rfl
        have q2 := HC9.out.c 2 _ rfl
        exact bodyPost_ret (v := .tuple #[.slice pa TL pc, .agg #[.int .i64 0, .int .i64 0, .int .i64 0]]) (by simp [results, Try.results12, go_sem, q0, q1, q2]) rfl (by
          rw [HRE.out]
          exact ⟨HB9.out, pa, pc, by rw [HTL.out], by rw [HTL.out]; exact HPC.out, HTKI.out⟩)
end Go.Proofs.Ytnaejfoighmfeaa.Rn
namespace Go.Proofs.Ytnaejfoighmfeaa
open Go.ChangeShapes Go.WideShapes Go.ChangeAt Go.RowKit
set_option maxRecDepth 100000
set_option linter.unusedVariables false
set_option linter.unusedSimpArgs false
theorem assert28_yes (W : World) (v : Value) : (Instr.typeAssert (.iface 28 v) 20 28 true).run Try.prog W = .ok (.tuple #[v, .bool true]) W := by kernel_rfl
theorem assert28_no (W : World) : (Instr.typeAssert .nilIface 20 28 true).run Try.prog W = .ok (.tuple #[.agg #[.int .i64 0, .int .i64 0, .int .i64 0], .bool false]) W := by kernel_rfl
set_option maxHeartbeats 2000000 in
theorem catch19 (pn pf : Nat) (er pl : Int) (w : World) (hn : Rv w pn) (hf0 : ∀ o, o < 3 → ∃ v, w.cell? ⟨pf, o, none⟩ = some v) (hf1 : ∀ o, w.frozen? ⟨pf, o, none⟩ = false) (hl : pf < w.heap.size) (hne : pn ≠ pf) :
    CallsD Try.prog 19 #[.pointer (some ⟨pn, 0, none⟩), .pointer (some ⟨pf, 0, none⟩)] (.panicking [{ v := .iface 28 (.agg #[.int .i64 er, .int .i64 pl, .int .i64 0]), recovered := false }]) w fun e u' w' =>
      e = .returned (.tuple #[]) ∧ u' = .panicking [{ v := .iface 28 (.agg #[.int .i64 er, .int .i64 pl, .int .i64 0]), recovered := true }] ∧ But (fun k => k = pn ∨ k = pf) w w' ∧ w'.cell? ⟨pn, 0, none⟩ = some (.int .i64 0) ∧ w'.cell? ⟨pn, 1, none⟩ = some (.int .i64 0) ∧ w'.cell? ⟨pn, 2, none⟩ = some (.string ⟨#[]⟩) ∧ w'.cell? ⟨pn, 3, none⟩ = some (.slice none 0 0) ∧ w'.cell? ⟨pn, 4, none⟩ = some (.slice none 0 0) ∧ w'.cell? ⟨pn, 5, none⟩ = some (.slice none 0 0) ∧ w'.cell? ⟨pn, 6, none⟩ = some (.int .i64 0) ∧ w'.cell? ⟨pf, 0, none⟩ = some (.int .i64 er) ∧ w'.cell? ⟨pf, 1, none⟩ = some (.int .i64 pl) ∧ w'.cell? ⟨pf, 2, none⟩ = some (.int .i64 0) := by
  refine callsD_of_wpS Try.func19 rfl fun c₀ cs hu => ?_
  apply wpS_seq
  apply wpS_region
  simp [wpOpsS, go_sem, recoverD, hu, Try.ntmps19, Exit.thenS, assert28_yes]
  apply wpS_seq
  apply wpS_region
  simp [wpOpsS, go_sem, Exit.thenS]
  refine wpS_cond (t := true) (by simp [Act.eval]) ?_
  simp only [if_true]
  refine wpS_of_wp ?_
  have hrep : Array.replicate 10 undef = #[undef, undef, undef, undef, undef, undef, undef, undef, undef, undef] := rfl
  simp only [hrep, List.setIfInBounds_toArray, List.set_cons_succ, List.set_cons_zero, List.append_toArray, List.cons_append, List.nil_append]
  have d0 := cell_new0 w #[.int .i64 er, .int .i64 pl, .int .i64 0] 28 0 _ rfl
  have d1 := cell_new0 w #[.int .i64 er, .int .i64 pl, .int .i64 0] 28 1 _ rfl
  have d2 := cell_new0 w #[.int .i64 er, .int .i64 pl, .int .i64 0] 28 2 _ rfl
  have hb1 := one_alloc w (.cells #[.int .i64 er, .int .i64 pl, .int .i64 0] 28)
  have hs1 : (w.alloc (.cells #[.int .i64 er, .int .i64 pl, .int .i64 0] 28)).heap.size = w.heap.size + 1 := by simp
  generalize w.alloc (.cells #[.int .i64 er, .int .i64 pl, .int .i64 0] 28) = W1 at *
  have hn1 := hn.block hb1.size (hb1.block _ hn.lt)
  obtain ⟨n0, a0⟩ := hn1.c 0 (by omega)
  obtain ⟨n1, a1⟩ := hn1.c 1 (by omega)
  obtain ⟨n2, a2⟩ := hn1.c 2 (by omega)
  obtain ⟨n3, a3⟩ := hn1.c 3 (by omega)
  obtain ⟨n4, a4⟩ := hn1.c 4 (by omega)
  obtain ⟨n5, a5⟩ := hn1.c 5 (by omega)
  obtain ⟨n6, a6⟩ := hn1.c 6 (by omega)
  obtain ⟨m0, b0⟩ := hf0 0 (by omega)
  obtain ⟨m1, b1⟩ := hf0 1 (by omega)
  obtain ⟨m2, b2⟩ := hf0 2 (by omega)
  replace b0 := (hb1.cell (p := ⟨pf, 0, none⟩) hl).trans b0
  replace b1 := (hb1.cell (p := ⟨pf, 1, none⟩) hl).trans b1
  replace b2 := (hb1.cell (p := ⟨pf, 2, none⟩) hl).trans b2
  have fa := hn1.f
  have fb : ∀ o, W1.frozen? ⟨pf, o, none⟩ = false := fun o => (hb1.frozen (p := ⟨pf, o, none⟩) hl).trans (hf1 o)
  have HN1 := hide hn1
  have HB1 := hide hb1
  have hlt := hn.lt
  clear hn hf0 hf1 hb1 hn1
  have hX : But (fun k => k = pn ∨ k = pf) w ((((((((((W1.setCell ⟨pn, 0, none⟩ (.int .i64 0)).setCell ⟨pn, 1, none⟩ (.int .i64 0)).setCell ⟨pn, 2, none⟩ (.string ⟨#[]⟩)).setCell ⟨pn, 3, none⟩ (.slice none 0 0)).setCell ⟨pn, 4, none⟩ (.slice none 0 0)).setCell ⟨pn, 5, none⟩ (.slice none 0 0)).setCell ⟨pn, 6, none⟩ (.int .i64 0)).setCell ⟨pf, 0, none⟩ (.int .i64 er)).setCell ⟨pf, 1, none⟩ (.int .i64 pl)).setCell ⟨pf, 2, none⟩ (.int .i64 0)) := butS (butS (butS (butS (butS (butS (butS (butS (butS (butS (But.of HB1.out) (Or.inl rfl)) (Or.inl rfl)) (Or.inl rfl)) (Or.inl rfl)) (Or.inl rfl)) (Or.inl rfl)) (Or.inl rfl)) (Or.inr rfl)) (Or.inr rfl)) (Or.inr rfl)
  have x0 := ((cs_off (by omega) (cs_off (by omega) (cs_off (by omega) (cs_off (by omega) (cs_off (by omega) (cs_off (by omega) (cs_off (by omega) (cs_off (by omega) (cs_off (by omega) (cs_same a0)))))))))) : ((((((((((W1.setCell ⟨pn, 0, none⟩ (.int .i64 0)).setCell ⟨pn, 1, none⟩ (.int .i64 0)).setCell ⟨pn, 2, none⟩ (.string ⟨#[]⟩)).setCell ⟨pn, 3, none⟩ (.slice none 0 0)).setCell ⟨pn, 4, none⟩ (.slice none 0 0)).setCell ⟨pn, 5, none⟩ (.slice none 0 0)).setCell ⟨pn, 6, none⟩ (.int .i64 0)).setCell ⟨pf, 0, none⟩ (.int .i64 er)).setCell ⟨pf, 1, none⟩ (.int .i64 pl)).setCell ⟨pf, 2, none⟩ (.int .i64 0)).cell? ⟨pn, 0, none⟩ = some (.int .i64 0))
  have x1 := ((cs_off (by omega) (cs_off (by omega) (cs_off (by omega) (cs_off (by omega) (cs_off (by omega) (cs_off (by omega) (cs_off (by omega) (cs_off (by omega) (cs_same (cs_off (by omega) a1)))))))))) : ((((((((((W1.setCell ⟨pn, 0, none⟩ (.int .i64 0)).setCell ⟨pn, 1, none⟩ (.int .i64 0)).setCell ⟨pn, 2, none⟩ (.string ⟨#[]⟩)).setCell ⟨pn, 3, none⟩ (.slice none 0 0)).setCell ⟨pn, 4, none⟩ (.slice none 0 0)).setCell ⟨pn, 5, none⟩ (.slice none 0 0)).setCell ⟨pn, 6, none⟩ (.int .i64 0)).setCell ⟨pf, 0, none⟩ (.int .i64 er)).setCell ⟨pf, 1, none⟩ (.int .i64 pl)).setCell ⟨pf, 2, none⟩ (.int .i64 0)).cell? ⟨pn, 1, none⟩ = some (.int .i64 0))
  have x2 := ((cs_off (by omega) (cs_off (by omega) (cs_off (by omega) (cs_off (by omega) (cs_off (by omega) (cs_off (by omega) (cs_off (by omega) (cs_same (cs_off (by omega) (cs_off (by omega) a2)))))))))) : ((((((((((W1.setCell ⟨pn, 0, none⟩ (.int .i64 0)).setCell ⟨pn, 1, none⟩ (.int .i64 0)).setCell ⟨pn, 2, none⟩ (.string ⟨#[]⟩)).setCell ⟨pn, 3, none⟩ (.slice none 0 0)).setCell ⟨pn, 4, none⟩ (.slice none 0 0)).setCell ⟨pn, 5, none⟩ (.slice none 0 0)).setCell ⟨pn, 6, none⟩ (.int .i64 0)).setCell ⟨pf, 0, none⟩ (.int .i64 er)).setCell ⟨pf, 1, none⟩ (.int .i64 pl)).setCell ⟨pf, 2, none⟩ (.int .i64 0)).cell? ⟨pn, 2, none⟩ = some (.string ⟨#[]⟩))
  have x3 := ((cs_off (by omega) (cs_off (by omega) (cs_off (by omega) (cs_off (by omega) (cs_off (by omega) (cs_off (by omega) (cs_same (cs_off (by omega) (cs_off (by omega) (cs_off (by omega) a3)))))))))) : ((((((((((W1.setCell ⟨pn, 0, none⟩ (.int .i64 0)).setCell ⟨pn, 1, none⟩ (.int .i64 0)).setCell ⟨pn, 2, none⟩ (.string ⟨#[]⟩)).setCell ⟨pn, 3, none⟩ (.slice none 0 0)).setCell ⟨pn, 4, none⟩ (.slice none 0 0)).setCell ⟨pn, 5, none⟩ (.slice none 0 0)).setCell ⟨pn, 6, none⟩ (.int .i64 0)).setCell ⟨pf, 0, none⟩ (.int .i64 er)).setCell ⟨pf, 1, none⟩ (.int .i64 pl)).setCell ⟨pf, 2, none⟩ (.int .i64 0)).cell? ⟨pn, 3, none⟩ = some (.slice none 0 0))
  have x4 := ((cs_off (by omega) (cs_off (by omega) (cs_off (by omega) (cs_off (by omega) (cs_off (by omega) (cs_same (cs_off (by omega) (cs_off (by omega) (cs_off (by omega) (cs_off (by omega) a4)))))))))) : ((((((((((W1.setCell ⟨pn, 0, none⟩ (.int .i64 0)).setCell ⟨pn, 1, none⟩ (.int .i64 0)).setCell ⟨pn, 2, none⟩ (.string ⟨#[]⟩)).setCell ⟨pn, 3, none⟩ (.slice none 0 0)).setCell ⟨pn, 4, none⟩ (.slice none 0 0)).setCell ⟨pn, 5, none⟩ (.slice none 0 0)).setCell ⟨pn, 6, none⟩ (.int .i64 0)).setCell ⟨pf, 0, none⟩ (.int .i64 er)).setCell ⟨pf, 1, none⟩ (.int .i64 pl)).setCell ⟨pf, 2, none⟩ (.int .i64 0)).cell? ⟨pn, 4, none⟩ = some (.slice none 0 0))
  have x5 := ((cs_off (by omega) (cs_off (by omega) (cs_off (by omega) (cs_off (by omega) (cs_same (cs_off (by omega) (cs_off (by omega) (cs_off (by omega) (cs_off (by omega) (cs_off (by omega) a5)))))))))) : ((((((((((W1.setCell ⟨pn, 0, none⟩ (.int .i64 0)).setCell ⟨pn, 1, none⟩ (.int .i64 0)).setCell ⟨pn, 2, none⟩ (.string ⟨#[]⟩)).setCell ⟨pn, 3, none⟩ (.slice none 0 0)).setCell ⟨pn, 4, none⟩ (.slice none 0 0)).setCell ⟨pn, 5, none⟩ (.slice none 0 0)).setCell ⟨pn, 6, none⟩ (.int .i64 0)).setCell ⟨pf, 0, none⟩ (.int .i64 er)).setCell ⟨pf, 1, none⟩ (.int .i64 pl)).setCell ⟨pf, 2, none⟩ (.int .i64 0)).cell? ⟨pn, 5, none⟩ = some (.slice none 0 0))
  have x6 := ((cs_off (by omega) (cs_off (by omega) (cs_off (by omega) (cs_same (cs_off (by omega) (cs_off (by omega) (cs_off (by omega) (cs_off (by omega) (cs_off (by omega) (cs_off (by omega) a6)))))))))) : ((((((((((W1.setCell ⟨pn, 0, none⟩ (.int .i64 0)).setCell ⟨pn, 1, none⟩ (.int .i64 0)).setCell ⟨pn, 2, none⟩ (.string ⟨#[]⟩)).setCell ⟨pn, 3, none⟩ (.slice none 0 0)).setCell ⟨pn, 4, none⟩ (.slice none 0 0)).setCell ⟨pn, 5, none⟩ (.slice none 0 0)).setCell ⟨pn, 6, none⟩ (.int .i64 0)).setCell ⟨pf, 0, none⟩ (.int .i64 er)).setCell ⟨pf, 1, none⟩ (.int .i64 pl)).setCell ⟨pf, 2, none⟩ (.int .i64 0)).cell? ⟨pn, 6, none⟩ = some (.int .i64 0))
  have y0 := ((cs_off (by omega) (cs_off (by omega) (cs_same (cs_off (by omega) (cs_off (by omega) (cs_off (by omega) (cs_off (by omega) (cs_off (by omega) (cs_off (by omega) (cs_off (by omega) b0)))))))))) : ((((((((((W1.setCell ⟨pn, 0, none⟩ (.int .i64 0)).setCell ⟨pn, 1, none⟩ (.int .i64 0)).setCell ⟨pn, 2, none⟩ (.string ⟨#[]⟩)).setCell ⟨pn, 3, none⟩ (.slice none 0 0)).setCell ⟨pn, 4, none⟩ (.slice none 0 0)).setCell ⟨pn, 5, none⟩ (.slice none 0 0)).setCell ⟨pn, 6, none⟩ (.int .i64 0)).setCell ⟨pf, 0, none⟩ (.int .i64 er)).setCell ⟨pf, 1, none⟩ (.int .i64 pl)).setCell ⟨pf, 2, none⟩ (.int .i64 0)).cell? ⟨pf, 0, none⟩ = some (.int .i64 er))
  have y1 := ((cs_off (by omega) (cs_same (cs_off (by omega) (cs_off (by omega) (cs_off (by omega) (cs_off (by omega) (cs_off (by omega) (cs_off (by omega) (cs_off (by omega) (cs_off (by omega) b1)))))))))) : ((((((((((W1.setCell ⟨pn, 0, none⟩ (.int .i64 0)).setCell ⟨pn, 1, none⟩ (.int .i64 0)).setCell ⟨pn, 2, none⟩ (.string ⟨#[]⟩)).setCell ⟨pn, 3, none⟩ (.slice none 0 0)).setCell ⟨pn, 4, none⟩ (.slice none 0 0)).setCell ⟨pn, 5, none⟩ (.slice none 0 0)).setCell ⟨pn, 6, none⟩ (.int .i64 0)).setCell ⟨pf, 0, none⟩ (.int .i64 er)).setCell ⟨pf, 1, none⟩ (.int .i64 pl)).setCell ⟨pf, 2, none⟩ (.int .i64 0)).cell? ⟨pf, 1, none⟩ = some (.int .i64 pl))
  have y2 := ((cs_same (cs_off (by omega) (cs_off (by omega) (cs_off (by omega) (cs_off (by omega) (cs_off (by omega) (cs_off (by omega) (cs_off (by omega) (cs_off (by omega) (cs_off (by omega) b2)))))))))) : ((((((((((W1.setCell ⟨pn, 0, none⟩ (.int .i64 0)).setCell ⟨pn, 1, none⟩ (.int .i64 0)).setCell ⟨pn, 2, none⟩ (.string ⟨#[]⟩)).setCell ⟨pn, 3, none⟩ (.slice none 0 0)).setCell ⟨pn, 4, none⟩ (.slice none 0 0)).setCell ⟨pn, 5, none⟩ (.slice none 0 0)).setCell ⟨pn, 6, none⟩ (.int .i64 0)).setCell ⟨pf, 0, none⟩ (.int .i64 er)).setCell ⟨pf, 1, none⟩ (.int .i64 pl)).setCell ⟨pf, 2, none⟩ (.int .i64 0)).cell? ⟨pf, 2, none⟩ = some (.int .i64 0))
  obtain ⟨X, HX⟩ : ∃ X, ((((((((((W1.setCell ⟨pn, 0, none⟩ (.int .i64 0)).setCell ⟨pn, 1, none⟩ (.int .i64 0)).setCell ⟨pn, 2, none⟩ (.string ⟨#[]⟩)).setCell ⟨pn, 3, none⟩ (.slice none 0 0)).setCell ⟨pn, 4, none⟩ (.slice none 0 0)).setCell ⟨pn, 5, none⟩ (.slice none 0 0)).setCell ⟨pn, 6, none⟩ (.int .i64 0)).setCell ⟨pf, 0, none⟩ (.int .i64 er)).setCell ⟨pf, 1, none⟩ (.int .i64 pl)).setCell ⟨pf, 2, none⟩ (.int .i64 0)) = X := ⟨_, rfl⟩
  rw [HX] at hX x0 x1 x2 x3 x4 x5 x6 y0 y1 y2
  have hlx : pn < X.heap.size ∧ pf < X.heap.size := ⟨Nat.lt_of_lt_of_le hlt hX.size, Nat.lt_of_lt_of_le hl hX.size⟩
  have hdr : Below X.heap.size X X.drew := (Below.refl _ _).drew
  have HFIN : Hid (But (fun k => k = pn ∨ k = pf) w X.drew ∧ X.drew.cell? ⟨pn, 0, none⟩ = some (.int .i64 0) ∧ X.drew.cell? ⟨pn, 1, none⟩ = some (.int .i64 0) ∧ X.drew.cell? ⟨pn, 2, none⟩ = some (.string ⟨#[]⟩) ∧ X.drew.cell? ⟨pn, 3, none⟩ = some (.slice none 0 0) ∧ X.drew.cell? ⟨pn, 4, none⟩ = some (.slice none 0 0) ∧ X.drew.cell? ⟨pn, 5, none⟩ = some (.slice none 0 0) ∧ X.drew.cell? ⟨pn, 6, none⟩ = some (.int .i64 0) ∧ X.drew.cell? ⟨pf, 0, none⟩ = some (.int .i64 er) ∧ X.drew.cell? ⟨pf, 1, none⟩ = some (.int .i64 pl) ∧ X.drew.cell? ⟨pf, 2, none⟩ = some (.int .i64 0)) :=
    ⟨hX.trans (But.of hdr) fun j _ hj => hj, (hdr.cell (p := ⟨pn, 0, none⟩) hlx.1).trans x0, (hdr.cell (p := ⟨pn, 1, none⟩) hlx.1).trans x1, (hdr.cell (p := ⟨pn, 2, none⟩) hlx.1).trans x2, (hdr.cell (p := ⟨pn, 3, none⟩) hlx.1).trans x3, (hdr.cell (p := ⟨pn, 4, none⟩) hlx.1).trans x4, (hdr.cell (p := ⟨pn, 5, none⟩) hlx.1).trans x5, (hdr.cell (p := ⟨pn, 6, none⟩) hlx.1).trans x6, (hdr.cell (p := ⟨pf, 0, none⟩) hlx.2).trans y0, (hdr.cell (p := ⟨pf, 1, none⟩) hlx.2).trans y1, (hdr.cell (p := ⟨pf, 2, none⟩) hlx.2).trans y2⟩
  have HX2 := hide HX
  clear hX x0 x1 x2 x3 x4 x5 x6 y0 y1 y2 hlx hdr HX
  go_region_with (fail)
  all_goals
    rw [HX2.out]
    exact ⟨rfl, _, rfl, _, by simp [results, Try.results19, go_sem], rfl, rfl, HFIN.out⟩
set_option maxHeartbeats 2000000 in
theorem idle19 (pn pf : Nat) (w : World) :
    CallsD Try.prog 19 #[.pointer (some ⟨pn, 0, none⟩), .pointer (some ⟨pf, 0, none⟩)] .returning w fun e u' w' => e = .returned (.tuple #[]) ∧ u' = .returning ∧ Below w.heap.size w w' := by
  have HB := hide (one_alloc w (.cells #[.int .i64 0, .int .i64 0, .int .i64 0] 28))
  refine callsD_of_wpS Try.func19 rfl fun c₀ cs hu => ?_
  apply wpS_seq
  apply wpS_region
  simp [wpOpsS, go_sem, recoverD, hu, Try.ntmps19, Exit.thenS, assert28_no]
  apply wpS_seq
  apply wpS_region
  simp [wpOpsS, go_sem, Exit.thenS]
  refine wpS_cond (t := false) (by simp [Act.eval]) ?_
  simp only [Bool.false_eq_true, if_false]
  refine wpS_of_wp (wp_skip ?_)
  cases c₀
  simp only at hu
  subst hu
  exact ⟨rfl, _, rfl, _, by simp [results, Try.results19, go_sem], rfl, rfl, HB.out⟩
end Go.Proofs.Ytnaejfoighmfeaa
namespace Go.Proofs.Ytnaejfoighmfeaa
open Go.ChangeShapes Go.WideShapes Go.ChangeAt Go.RowKit
set_option maxRecDepth 100000
set_option linter.unusedVariables false
set_option linter.unusedSimpArgs false
theorem mf19 (fn : Fn) (first cap : Array Value) (w : World) : (Instr.makeFunc fn first cap).run Try.prog w = .ok (.func fn first cap) w := rfl
theorem IntsIn.off {w w' : World} {p q : Nat} {a : Option Addr} {f : Nat → Nat} {lo hi : Nat} (h : IntsIn w p a f lo hi) (hb : But (· = q) w w') (hn : ∀ b off, a = some ⟨b, off, none⟩ → b ≠ q) : IntsIn w' p a f lo hi := fun j h1 h2 => by
  obtain ⟨b, off, ha, hl, hp, hc⟩ := h j h1 h2
  exact ⟨b, off, ha, Nat.lt_of_lt_of_le hl hb.size, hp, (hb.cell (p := ⟨b, off + j, none⟩) hl (hn b off ha)).trans hc⟩
/-- A block that is none of the reader's plays no part. -/
theorem Rd.off {n : Nat} {w0 w w' : World} {p q : Nat} {g : Gr} {R : Raw} {ws : List Wo} {A : Ra} {i : Nat} {e : Int} (h : Rd n w0 w p g R ws A i e) (hb : But (· = q) w w') (h0 : w0.heap.size ≤ q) (hp : p ≠ q) (hr : ∀ x b off, (x = A.xc ∨ x = A.xt ∨ x = A.xa ∨ x = A.xb) → x = some (⟨b, off, none⟩ : Addr) → b ≠ q) : Rd n w0 w' p g R ws A i e := by
  have hl := h.sp.sn.hp2
  have c : ∀ o, w'.cell? ⟨p, o, none⟩ = w.cell? ⟨p, o, none⟩ := fun o => hb.cell (p := ⟨p, o, none⟩) hl hp
  exact ⟨⟨h.sp.sn.turn (h.sp.sn.old.trans (hb.below h.sp.sn.old.size fun k hk => by omega)) (Nat.lt_of_lt_of_le hl hb.size) (fun o _ => c o), (c 15).trans h.sp.c15, (c 16).trans h.sp.c16, (c 17).trans h.sp.c17, (c 18).trans h.sp.c18, h.sp.hc.off hb fun b off e => hr _ b off (Or.inl rfl) e, h.sp.ht.off hb fun b off e => hr _ b off (Or.inr (Or.inl rfl)) e, h.sp.ha.off hb fun b off e => hr _ b off (Or.inr (Or.inr (Or.inl rfl))) e, h.sp.hb.off hb fun b off e => hr _ b off (Or.inr (Or.inr (Or.inr rfl))) e⟩, (c 19).trans h.c19, (c 20).trans h.c20, (frozen_block (hb.block hl hp) 19).trans h.fz, h.hi, h.below⟩
/-- A program's value that is nothing. -/
abbrev nilV : Value := .agg #[.int .i64 0, .int .i64 0, .string ⟨#[]⟩, .slice none 0 0, .slice none 0 0, .slice none 0 0, .int .i64 0]
/-- What Parse promises. -/
def GvP (n : Nat) (w0 w : World) (res : Rs Nd) (en : Ending) (w' : World) : Prop :=
  Below w.heap.size w w' ∧ match res with
  | .ok x => ∃ v m, en = .returned (.tuple #[v, .agg #[.int .i64 0, .int .i64 0, .int .i64 0]]) ∧ Tr (n + 1) w0.heap.size m w.heap.size w'.heap.size w' x v
  | .bad er pl => en = .returned (.tuple #[nilV, .agg #[.int .i64 er, .int .i64 pl, .int .i64 0]])
  | .stuck => False
set_option maxHeartbeats 8000000 in
theorem parse9 {n : Nat} {w0 w : World} {g : Gr} {R : Raw} {ws : List Wo} {e : Int} (ho : Below w0.heap.size w0 w) (sv : StrsIn w0 R.av g.verbs) (sa : StrsIn w0 R.aa g.adverbs) (sb : StrsIn w0 R.ab g.behind) (wo : WoIn (n + 1) w0 R.aw ws) :
    Calls Try.prog 9 #[gV g R, .slice R.aw ws.length R.cw, .int .i64 e] w fun en w' => GvP n w0 w (parseS g e ws) en w' := by
  have hL := wo.1
  have hmf := mf19
  obtain ⟨W3, hW3⟩ : ∃ W3, ((w.alloc (.cells #[.slice R.av g.verbs.length R.cv, .slice R.aa g.adverbs.length R.ca, .slice R.ab g.behind.length R.cb, .string g.outer, .string g.power, .string g.opn, .string g.cls, .string g.left, .string g.right, .string R.mi, .string R.qu, .bool g.trains, .bool g.lone, .bool g.square] 24)).alloc (.cells #[.int .i64 0, .int .i64 0, .string ⟨#[]⟩, .slice none 0 0, .slice none 0 0, .slice none 0 0, .int .i64 0] 39)).alloc (.cells #[.int .i64 0, .int .i64 0, .int .i64 0] 28) = W3 := ⟨_, rfl⟩
  have b3 : Below w.heap.size w W3 := by rw [← hW3]; exact (two_allocs _ _ _).trans ((one_alloc _ _).mono (by simp; omega))
  have s3 : W3.heap.size = w.heap.size + 3 := by rw [← hW3]; simp
  have HM := hide (measure20 (g := g) (R := R) (ws := ws) (ho.trans (b3.mono ho.size)) sv sa sb wo)
  have HPN : Hid (Rv W3 (w.heap.size + 1)) := by
    have h := Rv.new (w.alloc (.cells #[.slice R.av g.verbs.length R.cv, .slice R.aa g.adverbs.length R.ca, .slice R.ab g.behind.length R.cb, .string g.outer, .string g.power, .string g.opn, .string g.cls, .string g.left, .string g.right, .string R.mi, .string R.qu, .bool g.trains, .bool g.lone, .bool g.square] 24))
    have hs : (w.alloc (.cells #[.slice R.av g.verbs.length R.cv, .slice R.aa g.adverbs.length R.ca, .slice R.ab g.behind.length R.cb, .string g.outer, .string g.power, .string g.opn, .string g.cls, .string g.left, .string g.right, .string R.mi, .string R.qu, .bool g.trains, .bool g.lone, .bool g.square] 24)).heap.size = w.heap.size + 1 := by simp
    rw [hs] at h
    rw [← hW3]
    exact h.block (one_alloc _ _).size ((one_alloc _ _).block _ h.lt)
  have HPF : Hid ((∀ o, o < 3 → ∃ v, W3.cell? ⟨w.heap.size + 1 + 1, o, none⟩ = some v) ∧ ∀ o, W3.frozen? ⟨w.heap.size + 1 + 1, o, none⟩ = false) := by
    have hs : ((w.alloc (.cells #[.slice R.av g.verbs.length R.cv, .slice R.aa g.adverbs.length R.ca, .slice R.ab g.behind.length R.cb, .string g.outer, .string g.power, .string g.opn, .string g.cls, .string g.left, .string g.right, .string R.mi, .string R.qu, .bool g.trains, .bool g.lone, .bool g.square] 24)).alloc (.cells #[.int .i64 0, .int .i64 0, .string ⟨#[]⟩, .slice none 0 0, .slice none 0 0, .slice none 0 0, .int .i64 0] 39)).heap.size = w.heap.size + 1 + 1 := by simp
    rw [← hW3, ← hs]
    refine ⟨fun o ho => ?_, fun o => frozen_new _ _ _ _⟩
    have : o = 0 ∨ o = 1 ∨ o = 2 := by omega
    rcases this with rfl | rfl | rfl <;> exact ⟨_, cell_new0 _ #[.int .i64 0, .int .i64 0, .int .i64 0] 28 _ _ rfl⟩
  have KG : Hid (∀ k v, (#[.slice R.av g.verbs.length R.cv, .slice R.aa g.adverbs.length R.ca, .slice R.ab g.behind.length R.cb, .string g.outer, .string g.power, .string g.opn, .string g.cls, .string g.left, .string g.right, .string R.mi, .string R.qu, .bool g.trains, .bool g.lone, .bool g.square] : Array Value)[k]? = some v → W3.cell? ⟨w.heap.size, k, none⟩ = some v) := fun k v hv => by
    rw [← hW3]
    exact (((two_allocs _ _ _).cell (p := ⟨w.heap.size, k, none⟩) (by simp)).trans (cell_new0 w #[.slice R.av g.verbs.length R.cv, .slice R.aa g.adverbs.length R.ca, .slice R.ab g.behind.length R.cb, .string g.outer, .string g.power, .string g.opn, .string g.cls, .string g.left, .string g.right, .string R.mi, .string R.qu, .bool g.trains, .bool g.lone, .bool g.square] 24 k v hv))
  have HB3 := hide b3
  have HS3 := hide s3
  have HO := hide ho
  have HWO := hide wo
  have HSV := hide (And.intro sv (And.intro sa sb))
  obtain ⟨RES, hRES⟩ : ∃ RES, parseS g e ws = RES := ⟨_, rfl⟩
  have HRES := hide hRES
  rw [hRES]
  obtain ⟨L, hLL⟩ : ∃ L, ws.length = L := ⟨_, rfl⟩
  have HLL := hide hLL
  rw [hLL] at HM hL ⊢
  clear b3 s3 ho wo sv sa sb hRES hLL
  go_enter_defers Try.func9, Try.ntmps9
  go_upto_region 2 with fail
  clear hW3
  have c0 := KG.out 0 _ rfl
  have c1 := KG.out 1 _ rfl
  have c2 := KG.out 2 _ rfl
  have c3 := KG.out 3 _ rfl
  have c4 := KG.out 4 _ rfl
  have c5 := KG.out 5 _ rfl
  have c6 := KG.out 6 _ rfl
  have c7 := KG.out 7 _ rfl
  have c8 := KG.out 8 _ rfl
  have c9 := KG.out 9 _ rfl
  have c10 := KG.out 10 _ rfl
  have c11 := KG.out 11 _ rfl
  have c12 := KG.out 12 _ rfl
  have c13 := KG.out 13 _ rfl
  clear KG
  go_wp2_with fail
  refine HM.out.mono ?_
  rintro en w1 ⟨bc, bt, ba, bb, rfl, hb1, hlt, hge, hints⟩
  rw [HLL.out] at hints ⊢
  have hx1 : w.heap.size + 3 ≤ w1.heap.size := by have := hb1.size; have := HS3.out; omega
  obtain ⟨WZ, hWZ⟩ : ∃ WZ, w1.alloc (.cells #[.slice none 0 0, .slice none 0 0, .slice none 0 0, .string ⟨#[]⟩, .string ⟨#[]⟩, .string ⟨#[]⟩, .string ⟨#[]⟩, .string ⟨#[]⟩, .string ⟨#[]⟩, .string ⟨#[]⟩, .string ⟨#[]⟩, .bool false, .bool false, .bool false, .slice none 0 0, .slice none 0 0, .slice none 0 0, .slice none 0 0, .slice none 0 0, .int .i64 0, .int .i64 0] 60) = WZ := ⟨_, rfl⟩
  have HTH : Hid (WZ.there w1.heap.size 0 21) := fun j hj => by
    obtain ⟨v, hv⟩ : ∃ v, (#[.slice none 0 0, .slice none 0 0, .slice none 0 0, .string ⟨#[]⟩, .string ⟨#[]⟩, .string ⟨#[]⟩, .string ⟨#[]⟩, .string ⟨#[]⟩, .string ⟨#[]⟩, .string ⟨#[]⟩, .string ⟨#[]⟩, .bool false, .bool false, .bool false, .slice none 0 0, .slice none 0 0, .slice none 0 0, .slice none 0 0, .slice none 0 0, .int .i64 0, .int .i64 0] : Array Value)[j]? = some v := ⟨_, Array.getElem?_eq_getElem (by simpa using hj)⟩
    rw [← hWZ]
    exact ⟨by rw [Nat.zero_add, cell_new0 w1 #[.slice none 0 0, .slice none 0 0, .slice none 0 0, .string ⟨#[]⟩, .string ⟨#[]⟩, .string ⟨#[]⟩, .string ⟨#[]⟩, .string ⟨#[]⟩, .string ⟨#[]⟩, .string ⟨#[]⟩, .string ⟨#[]⟩, .bool false, .bool false, .bool false, .slice none 0 0, .slice none 0 0, .slice none 0 0, .slice none 0 0, .slice none 0 0, .int .i64 0, .int .i64 0] 60 j v hv]; rfl, frozen_new _ _ _ _⟩
  obtain ⟨W4, hW4⟩ : ∃ W4, WZ.setCells w1.heap.size 0 [.slice R.av g.verbs.length R.cv, .slice R.aa g.adverbs.length R.ca, .slice R.ab g.behind.length R.cb, .string g.outer, .string g.power, .string g.opn, .string g.cls, .string g.left, .string g.right, .string R.mi, .string R.qu, .bool g.trains, .bool g.lone, .bool g.square, .slice R.aw L R.cw, .slice (some ⟨bc, 0, none⟩) L L, .slice (some ⟨bt, 0, none⟩) (L + 1) (L + 1), .slice (some ⟨ba, 0, none⟩) (L + 1) (L + 1), .slice (some ⟨bb, 0, none⟩) (L + 1) (L + 1), .int .i64 0, .int .i64 e] = W4 := ⟨_, rfl⟩
  have bz : Below w1.heap.size w1 WZ := by rw [← hWZ]; exact one_alloc _ _
  have sz : WZ.heap.size = w1.heap.size + 1 := by rw [← hWZ]; simp
  have bq := setCells_but WZ w1.heap.size 0 [.slice R.av g.verbs.length R.cv, .slice R.aa g.adverbs.length R.ca, .slice R.ab g.behind.length R.cb, .string g.outer, .string g.power, .string g.opn, .string g.cls, .string g.left, .string g.right, .string R.mi, .string R.qu, .bool g.trains, .bool g.lone, .bool g.square, .slice R.aw L R.cw, .slice (some ⟨bc, 0, none⟩) L L, .slice (some ⟨bt, 0, none⟩) (L + 1) (L + 1), .slice (some ⟨ba, 0, none⟩) (L + 1) (L + 1), .slice (some ⟨bb, 0, none⟩) (L + 1) (L + 1), .int .i64 0, .int .i64 e]
  rw [hW4] at bq
  have b4 : Below w1.heap.size w1 W4 := bz.trans (bq.below (by omega) fun k hk => by omega)
  have s4 : w1.heap.size + 1 ≤ W4.heap.size := by have := bq.size; omega
  have hrg := World.rangeAt_setCells_same WZ w1.heap.size 0 [.slice R.av g.verbs.length R.cv, .slice R.aa g.adverbs.length R.ca, .slice R.ab g.behind.length R.cb, .string g.outer, .string g.power, .string g.opn, .string g.cls, .string g.left, .string g.right, .string R.mi, .string R.qu, .bool g.trains, .bool g.lone, .bool g.square, .slice R.aw L R.cw, .slice (some ⟨bc, 0, none⟩) L L, .slice (some ⟨bt, 0, none⟩) (L + 1) (L + 1), .slice (some ⟨ba, 0, none⟩) (L + 1) (L + 1), .slice (some ⟨bb, 0, none⟩) (L + 1) (L + 1), .int .i64 0, .int .i64 e] HTH.out
  rw [hW4] at hrg
  have fz4 : W4.frozen? ⟨w1.heap.size, 19, none⟩ = false := by rw [← hW4]; exact setCells_frozen _ _ _ _ _ (by rw [← hWZ]; exact frozen_new _ _ _ _)
  have hb4 : Below W3.heap.size W3 W4 := hb1.trans (b4.mono hb1.size)
  have hbw : Below w.heap.size w W4 := HB3.out.trans (hb4.mono HB3.out.size)
  have HRD : Hid (Rd (n + 1) w0 W4 w1.heap.size g R ws (raOf bc bt ba bb L) 0 e) := by
    have cc : ∀ k v, (#[.slice R.av g.verbs.length R.cv, .slice R.aa g.adverbs.length R.ca, .slice R.ab g.behind.length R.cb, .string g.outer, .string g.power, .string g.opn, .string g.cls, .string g.left, .string g.right, .string R.mi, .string R.qu, .bool g.trains, .bool g.lone, .bool g.square, .slice R.aw L R.cw, .slice (some ⟨bc, 0, none⟩) L L, .slice (some ⟨bt, 0, none⟩) (L + 1) (L + 1), .slice (some ⟨ba, 0, none⟩) (L + 1) (L + 1), .slice (some ⟨bb, 0, none⟩) (L + 1) (L + 1), .int .i64 0, .int .i64 e] : Array Value)[k]? = some v → W4.cell? ⟨w1.heap.size, k, none⟩ = some v := fun k v hv => by
      have := hrg k v (by simpa using hv)
      rw [Nat.zero_add] at this
      exact this
    obtain ⟨i1, i2, i3, i4⟩ := hints w1.heap.size (Nat.le_refl _)
    have ho := HO.out.size
    refine ⟨⟨⟨HO.out.trans (hbw.mono HO.out.size), by omega, by omega, cc 0 _ rfl, cc 1 _ rfl, cc 2 _ rfl, cc 3 _ rfl, cc 4 _ rfl, cc 5 _ rfl, cc 6 _ rfl, cc 7 _ rfl, cc 8 _ rfl, cc 11 _ rfl, cc 12 _ rfl, cc 13 _ rfl, by rw [HLL.out]; exact cc 14 _ rfl, HSV.out.1, HSV.out.2.1, HSV.out.2.2, HWO.out⟩, ?_, ?_, ?_, ?_, ?_, ?_, ?_, ?_⟩, cc 19 _ rfl, cc 20 _ rfl, ?_, Nat.zero_le _, ?_⟩
    · rw [HLL.out]; exact cc 15 _ rfl
    · rw [HLL.out]; exact cc 16 _ rfl
    · rw [HLL.out]; exact cc 17 _ rfl
    · rw [HLL.out]; exact cc 18 _ rfl
    · rw [HLL.out]; exact i1.next b4
    · rw [HLL.out]; exact i2.next b4
    · rw [HLL.out]; exact i3.next b4
    · rw [HLL.out]; exact i4.next b4
    · exact fz4
    · intro x b off hx hxe
      rcases hx with rfl | rfl | rfl | rfl <;> cases hxe
      · exact hlt.1
      · exact hlt.2.1
      · exact hlt.2.2.1
      · exact hlt.2.2.2
  obtain ⟨RE, hRE⟩ : ∃ RE, (EF g e 24).1 false (ws.drop 0) = RE := ⟨_, rfl⟩
  have HPS := hide (show RES = RE.bind fun q => match q.2.1 with
    | [] => .ok q.1
    | x :: r => .bad 2 x.pos from by rw [← HRES.out, ← hRE, List.drop_zero]; rfl)
  have HCE := hide ((all_deep 24 (Nat.le_refl _)).1 W4 0 0 false (false, false) HRD.out (by simp))
  rw [hRE] at HCE
  have HPN4 := hide (HPN.out.block (hb4.size) (hb4.block _ HPN.out.lt))
  have HPF4 : Hid ((∀ o, o < 3 → ∃ v, W4.cell? ⟨w.heap.size + 1 + 1, o, none⟩ = some v) ∧ ∀ o, W4.frozen? ⟨w.heap.size + 1 + 1, o, none⟩ = false) := by
    have h3 := HS3.out
    refine ⟨fun o ho => ?_, fun o => (hb4.frozen (p := ⟨w.heap.size + 1 + 1, o, none⟩) (by show w.heap.size + 1 + 1 < _; omega)).trans (HPF.out.2 o)⟩
    obtain ⟨v, hv⟩ := HPF.out.1 o ho
    exact ⟨v, (hb4.cell (p := ⟨w.heap.size + 1 + 1, o, none⟩) (by show w.heap.size + 1 + 1 < _; omega)).trans hv⟩
  have HGE := hide hge
  have HBW := hide hbw
  have HS4 := hide s4
  have HX1 := hide hx1
  have HW4 := hide hW4
  clear hge hW4 hrg bq bz sz fz4 hRE hb1 hlt hints HM c0 c1 c2 c3 c4 c5 c6 c7 c8 c9 c10 c11 c12 c13 b4 s4 hb4 hbw hx1 HPN HPF HRD
  generalize hP : w1.heap.size = P at *
  have HP := hide hP
  have HW5 : Hid (WZ.setCells P 0 (#[.slice R.av g.verbs.length R.cv, .slice R.aa g.adverbs.length R.ca, .slice R.ab g.behind.length R.cb, .string g.outer, .string g.power, .string g.opn, .string g.cls, .string g.left, .string g.right, .string R.mi, .string R.qu, .bool g.trains, .bool g.lone, .bool g.square, .slice R.aw L R.cw, .slice (some ⟨bc, 0, none⟩) L L, .slice (some ⟨bt, 0, none⟩) (L + 1) (L + 1), .slice (some ⟨ba, 0, none⟩) (L + 1) (L + 1), .slice (some ⟨bb, 0, none⟩) (L + 1) (L + 1), .int .i64 0, .int .i64 e] : Array Value).toList = W4) := HW4.out
  clear HW4
  go_wp2_with (first | (refine wpList_store_mid rfl 60 (.tmp 8) (.tmp 15) rfl P 0 #[.slice R.av g.verbs.length R.cv, .slice R.aa g.adverbs.length R.ca, .slice R.ab g.behind.length R.cb, .string g.outer, .string g.power, .string g.opn, .string g.cls, .string g.left, .string g.right, .string R.mi, .string R.qu, .bool g.trains, .bool g.lone, .bool g.square, .slice R.aw L R.cw, .slice (some ⟨bc, 0, none⟩) L L, .slice (some ⟨bt, 0, none⟩) (L + 1) (L + 1), .slice (some ⟨ba, 0, none⟩) (L + 1) (L + 1), .slice (some ⟨bb, 0, none⟩) (L + 1) (L + 1), .int .i64 0, .int .i64 e] rfl rfl HTH.out (by kernel_rfl) (by simp [Value.oneCell']) ?_; rw [HW5.out]))
  clear hP
  go_wp2_with fail
  refine HCE.out.mono ?_
  rintro en w5 ⟨hb5, hE⟩
  have HB5 := hide hb5
  have HE5 := hide hE
  clear hb5 hE HCE
  cases RE with
  | stuck => exact HE5.out.elim
  | bad er pl =>
    obtain rfl : en = faultP er pl := HE5.out
    obtain rfl : RES = .bad er pl := HPS.out
    have h3 := HS3.out
    have h4 := HS4.out
    have hx := HX1.out
    have hcat := catch19 (w.heap.size + 1) (w.heap.size + 1 + 1) er pl w5 (HPN4.out.but HB5.out (fun h => by rcases h with h | ⟨h, -⟩; omega; cases h)) (fun o ho => by
      obtain ⟨v, hv⟩ := HPF4.out.1 o ho
      exact ⟨v, (HB5.out.cell (p := ⟨w.heap.size + 1 + 1, o, none⟩) (by show w.heap.size + 1 + 1 < _; omega) (fun h => by rcases h with h | ⟨h, -⟩; (have : w.heap.size + 1 + 1 = P := h; omega); cases h)).trans hv⟩) (fun o => (frozen_block (HB5.out.block (by omega) (fun h => by rcases h with h | ⟨h, -⟩; omega; cases h)) o).trans (HPF4.out.2 o)) (by have := HB5.out.size; omega) (by omega)
    have HCAT := hide hcat
    clear hcat HE5 HPS h3 h4 hx
    go_wp2
    refine leaves_cons (f := 19) (args := #[.pointer (some ⟨w.heap.size + 1, 0, none⟩), .pointer (some ⟨w.heap.size + 1 + 1, 0, none⟩)]) (by simp) (by simp [go_sem]) ?_
    refine HCAT.out.mono ?_
    rintro en u w6 ⟨rfl, rfl, hb6, x0, x1, x2, x3, x4, x5, x6, y0, y1, y2⟩
    have HG : Hid (GvP n w0 w (.bad er pl) (.returned (.tuple #[nilV, .agg #[.int .i64 er, .int .i64 pl, .int .i64 0]])) w6) :=
      ⟨(HBW.out.trans (HB5.out.below HBW.out.size fun k h => by rcases h with h | ⟨h, -⟩; (have := HX1.out; omega); cases h)).trans (hb6.below (by have := HBW.out.size; have := HB5.out.size; omega) fun k h => by omega), rfl⟩
    clear hb6 HCAT HPN4 HPF4
    simp [Leaves, settle, results, Try.results9, go_sem, x0, x1, x2, x3, x4, x5, x6, y0, y1, y2]
    exact HG.out
  | ok r =>
    obtain ⟨v, m, i, rfl, hdr, hrd, htr, -⟩ := HE5.out
    obtain ⟨m', rfl, a1, k1, a2, k2, ak, kk, rfl, -⟩ := htr.form
    have HTR := hide htr
    have HDR := hide hdr
    have HRD := hide hrd
    have c19 := hrd.c19
    have hil := hrd.hi
    rw [HLL.out] at hil
    have h3 := HS3.out
    have h4 := HS4.out
    have hx := HX1.out
    have h5 := HB5.out.size
    have hTT : ∀ k, k < P → ¬ TT false P 0 k := fun k hk h => by
      rcases h with h | ⟨h, -⟩
      · omega
      · cases h
    have hpn5 := HPN4.out.but HB5.out (hTT _ (by omega))
    have HTH5 : Hid (w5.there (w.heap.size + 1) 0 7) := fun j hj => by
      obtain ⟨v, hv⟩ := hpn5.c j hj
      rw [Nat.zero_add]
      exact ⟨by rw [hv]; rfl, hpn5.f j⟩
    obtain ⟨W6, hW6⟩ : ∃ W6, w5.setCells (w.heap.size + 1) 0 [.int .i64 r.1.kind, .int .i64 r.1.op, .string r.1.name, .slice a1 r.1.lit.shape.length k1, .slice a2 r.1.lit.cells.length k2, .slice ak r.1.kids.length kk, .int .i64 r.1.pos] = W6 := ⟨_, rfl⟩
    have HW6 : Hid (w5.setCells (w.heap.size + 1) 0 (#[.int .i64 r.1.kind, .int .i64 r.1.op, .string r.1.name, .slice a1 r.1.lit.shape.length k1, .slice a2 r.1.lit.cells.length k2, .slice ak r.1.kids.length kk, .int .i64 r.1.pos] : Array Value).toList = W6) := hW6
    have b6 := setCells_but w5 (w.heap.size + 1) 0 [.int .i64 r.1.kind, .int .i64 r.1.op, .string r.1.name, .slice a1 r.1.lit.shape.length k1, .slice a2 r.1.lit.cells.length k2, .slice ak r.1.kids.length kk, .int .i64 r.1.pos]
    have hrg := World.rangeAt_setCells_same w5 (w.heap.size + 1) 0 [.int .i64 r.1.kind, .int .i64 r.1.op, .string r.1.name, .slice a1 r.1.lit.shape.length k1, .slice a2 r.1.lit.cells.length k2, .slice ak r.1.kids.length kk, .int .i64 r.1.pos] HTH5.out
    have hfz := fun a h => setCells_frozen w5 (w.heap.size + 1) 0 [.int .i64 r.1.kind, .int .i64 r.1.op, .string r.1.name, .slice a1 r.1.lit.shape.length k1, .slice a2 r.1.lit.cells.length k2, .slice ak r.1.kids.length kk, .int .i64 r.1.pos] a h
    rw [hW6] at b6 hrg
    rw [hW6] at hfz
    have HRG6 := hide hrg
    have hne5 : P ≠ w.heap.size + 1 := by omega
    have hrd6 := hrd.off b6 (by have := HO.out.size; omega) hne5 (fun x b off hx hxe => by
      have := HGE.out
      rcases hx with rfl | rfl | rfl | rfl <;> cases hxe <;> omega)
    have c19 := hrd6.c19
    have hil := hrd.hi
    rw [HLL.out] at hil
    have HRD6 := hide hrd6
    have HTR6 : Hid (Tr (n + 1) w0.heap.size (m' + 1) W4.heap.size w5.heap.size W6 r.1 (.agg #[.int .i64 r.1.kind, .int .i64 r.1.op, .string r.1.name, .slice a1 r.1.lit.shape.length k1, .slice a2 r.1.lit.cells.length k2, .slice ak r.1.kids.length kk, .int .i64 r.1.pos])) := htr.keep (Kp.but b6 (by have := HO.out.size; omega) (Nat.le_refl _) fun k hk => ⟨by have := HO.out.size; omega, Or.inl (by omega)⟩)
    have hTH6 : W6.there (w.heap.size + 1) 0 7 := fun j hj => by
      obtain ⟨v, hv⟩ : ∃ v, ([.int .i64 r.1.kind, .int .i64 r.1.op, .string r.1.name, .slice a1 r.1.lit.shape.length k1, .slice a2 r.1.lit.cells.length k2, .slice ak r.1.kids.length kk, .int .i64 r.1.pos] : List Value)[j]? = some v := ⟨_, List.getElem?_eq_getElem (by simpa using hj)⟩
      exact ⟨by rw [HRG6.out j v hv]; rfl, hfz _ (by rw [Nat.zero_add]; exact hpn5.f j)⟩
    have HB6 := hide b6
    have HPF6 : Hid ((∀ o, o < 3 → ∃ v, W6.cell? ⟨w.heap.size + 1 + 1, o, none⟩ = some v) ∧ ∀ o, W6.frozen? ⟨w.heap.size + 1 + 1, o, none⟩ = false) := by
      have hk5 : w5.heap[w.heap.size + 1 + 1]? = W4.heap[w.heap.size + 1 + 1]? := HB5.out.block (by omega) (hTT _ (by omega))
      have hk6 : W6.heap[w.heap.size + 1 + 1]? = w5.heap[w.heap.size + 1 + 1]? := b6.block (by omega) (by omega)
      refine ⟨fun o ho => ?_, fun o => ((frozen_block hk6 o).trans (frozen_block hk5 o)).trans (HPF4.out.2 o)⟩
      obtain ⟨v, hv⟩ := HPF4.out.1 o ho
      exact ⟨v, ((World.cell?_of_block (w := w5) (a := ⟨w.heap.size + 1 + 1, o, none⟩) hk6).trans (World.cell?_of_block (w := W4) (a := ⟨w.heap.size + 1 + 1, o, none⟩) hk5)).trans hv⟩
    have HTH6 := hide hTH6
    have HBW6 : Hid (Below w.heap.size w W6) := (HBW.out.trans (HB5.out.below HBW.out.size fun k h => by rcases h with h | ⟨h, -⟩; omega; cases h)).trans (b6.below (by have := HBW.out.size; omega) fun k h => by omega)
    have HS6 : Hid (P < W6.heap.size ∧ W4.heap.size ≤ w5.heap.size ∧ w5.heap.size ≤ W6.heap.size ∧ w.heap.size + 3 ≤ P) := ⟨by have := b6.size; omega, h5, b6.size, hx⟩
    have HRV6 : Hid (Rv W6 (w.heap.size + 1)) := ⟨by have := b6.size; omega, fun o ho => by
      obtain ⟨h1, h2⟩ := HTH6.out o ho
      rw [Nat.zero_add] at h1
      exact Option.isSome_iff_exists.1 h1, fun o => hfz _ (hpn5.f o)⟩
    clear hrg hfz hW6 b6 hrd hrd6 htr hTH6 hpn5 h3 h4 hx h5 hTT hne5 HTR HRD HPN4 HPF4 HB5 HBW HE5 HTH HW5
    by_cases hlt : i < L
    · have HPL := hide (refuse22 HRD6.out 2)
      have hres : RES = .bad 2 (placeR e (ws.drop i)) := by
        rw [HPS.out]
        show (match r.2.1 with
          | [] => Rs.ok r.1
          | x :: _ => .bad 2 x.pos) = _
        rw [HDR.out, drop_at (by rw [HLL.out]; exact hlt)]
        rfl
      obtain rfl := hres
      obtain ⟨pl, hpl⟩ : ∃ pl, placeR e (ws.drop i) = pl := ⟨_, rfl⟩
      have HPE := hide hpl
      rw [hpl] at HPL
      clear hpl
      go_wp2_with (first | (refine wpList_store_mid rfl 39 (.tmp 6) (.tmp 16) rfl (w.heap.size + 1) 0 #[.int .i64 r.1.kind, .int .i64 r.1.op, .string r.1.name, .slice a1 r.1.lit.shape.length k1, .slice a2 r.1.lit.cells.length k2, .slice ak r.1.kids.length kk, .int .i64 r.1.pos] rfl rfl HTH5.out (by kernel_rfl) (by simp [Value.oneCell']) ?_; rw [HW6.out]))
      refine HPL.out.mono ?_
      rintro en w7 ⟨rfl, hb7⟩
      have h6 := HS6.out
      have hcat := catch19 (w.heap.size + 1) (w.heap.size + 1 + 1) 2 pl w7 (HRV6.out.block hb7.size (hb7.block _ HRV6.out.lt)) (fun o ho => by
        obtain ⟨v, hv⟩ := HPF6.out.1 o ho
        exact ⟨v, (hb7.cell (p := ⟨w.heap.size + 1 + 1, o, none⟩) (by show w.heap.size + 1 + 1 < _; omega)).trans hv⟩) (fun o => (hb7.frozen (p := ⟨w.heap.size + 1 + 1, o, none⟩) (by show w.heap.size + 1 + 1 < _; omega)).trans (HPF6.out.2 o)) (by have := hb7.size; omega) (by omega)
      have HCAT := hide hcat
      have HB7 := hide hb7
      clear hcat hb7 h6 c19 hil hlt
      go_wp2
      refine leaves_cons (f := 19) (args := #[.pointer (some ⟨w.heap.size + 1, 0, none⟩), .pointer (some ⟨w.heap.size + 1 + 1, 0, none⟩)]) (by simp) (by simp [go_sem]) ?_
      refine HCAT.out.mono ?_
      rintro en u w8 ⟨rfl, rfl, hb8, x0, x1, x2, x3, x4, x5, x6, y0, y1, y2⟩
      have HG : Hid (GvP n w0 w (.bad 2 pl) (.returned (.tuple #[nilV, .agg #[.int .i64 2, .int .i64 pl, .int .i64 0]])) w8) :=
        ⟨(HBW6.out.trans (HB7.out.mono HBW6.out.size)).trans (hb8.below (by have := HBW6.out.size; have := HB7.out.size; omega) fun k h => by omega), rfl⟩
      clear hb8 HCAT
      simp [Leaves, settle, results, Try.results9, go_sem, x0, x1, x2, x3, x4, x5, x6, y0, y1, y2]
      rw [HPE.out]
      exact HG.out
    · have hres : RES = .ok r.1 := by
        rw [HPS.out]
        show (match r.2.1 with
          | [] => Rs.ok r.1
          | x :: _ => .bad 2 x.pos) = _
        rw [HDR.out, drop_end (by rw [HLL.out]; exact hlt)]
      obtain rfl := hres
      have h6 := HS6.out
      have q0 := HRG6.out 0 _ rfl
      have q1 := HRG6.out 1 _ rfl
      have q2 := HRG6.out 2 _ rfl
      have q3 := HRG6.out 3 _ rfl
      have q4 := HRG6.out 4 _ rfl
      have q5 := HRG6.out 5 _ rfl
      have q6 := HRG6.out 6 _ rfl
      rw [Nat.zero_add] at q0 q1 q2 q3 q4 q5 q6
      obtain ⟨W8, hW8⟩ : ∃ W8, W6.setCells (w.heap.size + 1) 0 [.int .i64 r.1.kind, .int .i64 r.1.op, .string r.1.name, .slice a1 r.1.lit.shape.length k1, .slice a2 r.1.lit.cells.length k2, .slice ak r.1.kids.length kk, .int .i64 r.1.pos] = W8 := ⟨_, rfl⟩
      have HW8 : Hid (W6.setCells (w.heap.size + 1) 0 (#[.int .i64 r.1.kind, .int .i64 r.1.op, .string r.1.name, .slice a1 r.1.lit.shape.length k1, .slice a2 r.1.lit.cells.length k2, .slice ak r.1.kids.length kk, .int .i64 r.1.pos] : Array Value).toList = W8) := hW8
      have b8 := setCells_but W6 (w.heap.size + 1) 0 [.int .i64 r.1.kind, .int .i64 r.1.op, .string r.1.name, .slice a1 r.1.lit.shape.length k1, .slice a2 r.1.lit.cells.length k2, .slice ak r.1.kids.length kk, .int .i64 r.1.pos]
      have hrg8 := World.rangeAt_setCells_same W6 (w.heap.size + 1) 0 [.int .i64 r.1.kind, .int .i64 r.1.op, .string r.1.name, .slice a1 r.1.lit.shape.length k1, .slice a2 r.1.lit.cells.length k2, .slice ak r.1.kids.length kk, .int .i64 r.1.pos] HTH6.out
      rw [hW8] at b8 hrg8
      have hk8 : W8.heap[w.heap.size + 1 + 1]? = W6.heap[w.heap.size + 1 + 1]? := b8.block (by omega) (by omega)
      have HTH8 : Hid (W8.there (w.heap.size + 1 + 1) 0 3) := fun j hj => by
        obtain ⟨v, hv⟩ := HPF6.out.1 j (by simpa using hj)
        rw [Nat.zero_add]
        exact ⟨by rw [(World.cell?_of_block (w := W6) (a := ⟨w.heap.size + 1 + 1, j, none⟩) hk8).trans hv]; rfl, (frozen_block hk8 j).trans (HPF6.out.2 j)⟩
      obtain ⟨W9, hW9⟩ : ∃ W9, W8.setCells (w.heap.size + 1 + 1) 0 [.int .i64 0, .int .i64 0, .int .i64 0] = W9 := ⟨_, rfl⟩
      have HW9 : Hid (W8.setCells (w.heap.size + 1 + 1) 0 (#[.int .i64 0, .int .i64 0, .int .i64 0] : Array Value).toList = W9) := hW9
      have b9 := setCells_but W8 (w.heap.size + 1 + 1) 0 [.int .i64 0, .int .i64 0, .int .i64 0]
      have hrg9 := World.rangeAt_setCells_same W8 (w.heap.size + 1 + 1) 0 [.int .i64 0, .int .i64 0, .int .i64 0] HTH8.out
      rw [hW9] at b9 hrg9
      have hs8 := b8.size
      have hs9 := b9.size
      have HCF : Hid ((∀ k v, ([.int .i64 r.1.kind, .int .i64 r.1.op, .string r.1.name, .slice a1 r.1.lit.shape.length k1, .slice a2 r.1.lit.cells.length k2, .slice ak r.1.kids.length kk, .int .i64 r.1.pos] : List Value)[k]? = some v → W9.cell? ⟨w.heap.size + 1, k, none⟩ = some v) ∧ ∀ k v, ([.int .i64 0, .int .i64 0, .int .i64 0] : List Value)[k]? = some v → W9.cell? ⟨w.heap.size + 1 + 1, k, none⟩ = some v) := by
        refine ⟨fun k v hv => ?_, fun k v hv => ?_⟩
        · have h := hrg8 k v hv
          rw [Nat.zero_add] at h
          exact (b9.cell (p := ⟨w.heap.size + 1, k, none⟩) (by show w.heap.size + 1 < _; omega) (by show ¬ w.heap.size + 1 = _; omega)).trans h
        · have h := hrg9 k v hv
          rw [Nat.zero_add] at h
          exact h
      have HBW9 : Hid (Below w.heap.size w W9) := HBW6.out.trans ((b8.below (by omega) fun k h => by omega).trans (b9.below (by omega) fun k h => by omega))
      have HS9 : Hid (P < W9.heap.size ∧ w5.heap.size ≤ W9.heap.size ∧ w0.heap.size ≤ W9.heap.size) := by have := HO.out.size; have := HBW6.out.size; exact ⟨by omega, by omega, by omega⟩
      have HTR9 : Hid (Tr (n + 1) w0.heap.size (m' + 1) W4.heap.size w5.heap.size W9 r.1 (.agg #[.int .i64 r.1.kind, .int .i64 r.1.op, .string r.1.name, .slice a1 r.1.lit.shape.length k1, .slice a2 r.1.lit.cells.length k2, .slice ak r.1.kids.length kk, .int .i64 r.1.pos])) :=
        (HTR6.out.keep (Kp.but b8 (by have := HO.out.size; omega) (by omega) fun k hk => ⟨by have := HO.out.size; omega, Or.inl (by have := HS4.out; omega)⟩)).keep (Kp.but b9 (by have := HO.out.size; omega) (by omega) fun k hk => ⟨by have := HO.out.size; omega, Or.inl (by have := HS4.out; omega)⟩)
      clear hW8 hW9 b8 b9 hrg8 hrg9 hk8 hs8 hs9 h6 HPF6 HRV6 HTR6 HRG6 HPS HDR
      go_wp2_with (first | (refine wpList_store_mid rfl 39 (.tmp 6) (.tmp 16) rfl (w.heap.size + 1) 0 #[.int .i64 r.1.kind, .int .i64 r.1.op, .string r.1.name, .slice a1 r.1.lit.shape.length k1, .slice a2 r.1.lit.cells.length k2, .slice ak r.1.kids.length kk, .int .i64 r.1.pos] rfl rfl HTH5.out (by kernel_rfl) (by simp [Value.oneCell']) ?_; rw [HW6.out]) | (refine wpList_store_mid rfl 39 (.tmp 6) (.tmp 23) rfl (w.heap.size + 1) 0 #[.int .i64 r.1.kind, .int .i64 r.1.op, .string r.1.name, .slice a1 r.1.lit.shape.length k1, .slice a2 r.1.lit.cells.length k2, .slice ak r.1.kids.length kk, .int .i64 r.1.pos] rfl rfl HTH6.out (by kernel_rfl) (by simp [Value.oneCell']) ?_; rw [HW8.out]) | (refine wpList_store_mid rfl 28 (.tmp 7) (.tmp 24) rfl (w.heap.size + 1 + 1) 0 #[.int .i64 0, .int .i64 0, .int .i64 0] rfl rfl HTH8.out (by kernel_rfl) (by simp [Value.oneCell']) ?_; rw [HW9.out]))
      refine leaves_cons (f := 19) (args := #[.pointer (some ⟨w.heap.size + 1, 0, none⟩), .pointer (some ⟨w.heap.size + 1 + 1, 0, none⟩)]) (by simp) (by simp [go_sem]) ?_
      refine (idle19 (w.heap.size + 1) (w.heap.size + 1 + 1) W9).mono ?_
      rintro en u w10 ⟨rfl, rfl, hb10⟩
      have hx := HS6.out.2.2.2
      have h9 := HS9.out
      have x0 := (hb10.cell (p := ⟨w.heap.size + 1, 0, none⟩) (by show w.heap.size + 1 < _; omega)).trans (HCF.out.1 0 _ rfl)
      have x1 := (hb10.cell (p := ⟨w.heap.size + 1, 1, none⟩) (by show w.heap.size + 1 < _; omega)).trans (HCF.out.1 1 _ rfl)
      have x2 := (hb10.cell (p := ⟨w.heap.size + 1, 2, none⟩) (by show w.heap.size + 1 < _; omega)).trans (HCF.out.1 2 _ rfl)
      have x3 := (hb10.cell (p := ⟨w.heap.size + 1, 3, none⟩) (by show w.heap.size + 1 < _; omega)).trans (HCF.out.1 3 _ rfl)
      have x4 := (hb10.cell (p := ⟨w.heap.size + 1, 4, none⟩) (by show w.heap.size + 1 < _; omega)).trans (HCF.out.1 4 _ rfl)
      have x5 := (hb10.cell (p := ⟨w.heap.size + 1, 5, none⟩) (by show w.heap.size + 1 < _; omega)).trans (HCF.out.1 5 _ rfl)
      have x6 := (hb10.cell (p := ⟨w.heap.size + 1, 6, none⟩) (by show w.heap.size + 1 < _; omega)).trans (HCF.out.1 6 _ rfl)
      have y0 := (hb10.cell (p := ⟨w.heap.size + 1 + 1, 0, none⟩) (by show w.heap.size + 1 + 1 < _; omega)).trans (HCF.out.2 0 _ rfl)
      have y1 := (hb10.cell (p := ⟨w.heap.size + 1 + 1, 1, none⟩) (by show w.heap.size + 1 + 1 < _; omega)).trans (HCF.out.2 1 _ rfl)
      have y2 := (hb10.cell (p := ⟨w.heap.size + 1 + 1, 2, none⟩) (by show w.heap.size + 1 + 1 < _; omega)).trans (HCF.out.2 2 _ rfl)
      have HG : Hid (GvP n w0 w (.ok r.1) (.returned (.tuple #[.agg #[.int .i64 r.1.kind, .int .i64 r.1.op, .string r.1.name, .slice a1 r.1.lit.shape.length k1, .slice a2 r.1.lit.cells.length k2, .slice ak r.1.kids.length kk, .int .i64 r.1.pos], .agg #[.int .i64 0, .int .i64 0, .int .i64 0]])) w10) :=
        ⟨HBW9.out.trans (hb10.mono HBW9.out.size), _, _, rfl, (HTR9.out.keep (Kp.of hb10 HS9.out.2.2 HS9.out.2.1)).wide (by have := HS4.out; omega) (Nat.le_trans HS9.out.2.1 hb10.size)⟩
      clear hb10
      simp [Leaves, settle, results, Try.results9, go_sem, x0, x1, x2, x3, x4, x5, x6, y0, y1, y2]
      exact HG.out
end Go.Proofs.Ytnaejfoighmfeaa
namespace Go.Proofs.Ytnaejfoighmfeaa.Rn
open Go.ChangeShapes Go.WideShapes Go.ChangeAt Go.RowKit
set_option maxRecDepth 100000
set_option linter.unusedVariables false
set_option linter.unusedSimpArgs false
def wksL : List Wo := [⟨1, nilT, atomA 1, 0⟩, ⟨4, ⟨#[43]⟩, nilA, 1⟩, ⟨4, ⟨#[226, 141, 179]⟩, nilA, 2⟩, ⟨1, nilT, atomA 3, 5⟩]
def wksT : List Wo := [⟨1, nilT, atomA 1, 0⟩, ⟨4, ⟨#[43]⟩, nilA, 1⟩]
theorem wks_lex : lexA ⟨#[49, 43, 226, 141, 179, 51]⟩ = .ok wksL := by kernel_rfl
theorem wks_two : parseS aplG 2 wksT = .bad 2 2 := by kernel_rfl
def okN : Rs Nd → Nd
  | .ok x => x
  | _ => nNil
theorem wks_all : ∃ x, parseS aplG 9 wksL = .ok x ∧ x.kind = 6 ∧ x.kids.length = 3 ∧ (nAt x.kids 2).kind = 5 := ⟨okN (parseS aplG 9 wksL), by kernel_rfl, by kernel_rfl, by kernel_rfl, by kernel_rfl⟩
theorem WoR.two {n : Nat} {w : World} {a : Option Addr} {x y : Wo} {r : List Wo} (h : WoR n w a (x :: y :: r)) : WoR n w a [x, y] := fun i hi => by
  have : i = 0 ∨ i = 1 := by simp at hi; omega
  rcases this with rfl | rfl
  · exact h 0 (by simp)
  · exact h 1 (by simp)
theorem bel_next {w w' w'' : World} (h : Below w.heap.size w w') (h' : Below w'.heap.size w' w'') : Below w.heap.size w w'' := h.trans (h'.mono h.size)
abbrev n7 : List Value := [.int .i64 0, .int .i64 0, .string ⟨#[]⟩, .slice none 0 0, .slice none 0 0, .slice none 0 0, .int .i64 0]
abbrev n3 : List Value := [.int .i64 0, .int .i64 0, .int .i64 0]
theorem al7 {A w : World} (h : Below (A.alloc (.cells #[.int .i64 0, .int .i64 0, .string ⟨#[]⟩, .slice none 0 0, .slice none 0 0, .slice none 0 0, .int .i64 0] 39)).heap.size (A.alloc (.cells #[.int .i64 0, .int .i64 0, .string ⟨#[]⟩, .slice none 0 0, .slice none 0 0, .slice none 0 0, .int .i64 0] 39)) w) : Cs w A.heap.size n7 := (Cs.new A n7 39).next h (by simp)
theorem al3 {A w : World} (h : Below (A.alloc (.cells #[.int .i64 0, .int .i64 0, .int .i64 0] 28)).heap.size (A.alloc (.cells #[.int .i64 0, .int .i64 0, .int .i64 0] 28)) w) : Cs w A.heap.size n3 := (Cs.new A n3 28).next h (by simp)
theorem al73 {A w : World} (h : Below ((A.alloc (.cells #[.int .i64 0, .int .i64 0, .string ⟨#[]⟩, .slice none 0 0, .slice none 0 0, .slice none 0 0, .int .i64 0] 39)).alloc (.cells #[.int .i64 0, .int .i64 0, .int .i64 0] 28)).heap.size ((A.alloc (.cells #[.int .i64 0, .int .i64 0, .string ⟨#[]⟩, .slice none 0 0, .slice none 0 0, .slice none 0 0, .int .i64 0] 39)).alloc (.cells #[.int .i64 0, .int .i64 0, .int .i64 0] 28)) w) : Cs w A.heap.size n7 ∧ Cs w (A.heap.size + 1) n3 := by
  have h3 := al3 h
  have h7 := al7 (bel_next (one_alloc _ _) h)
  rw [show (A.alloc (.cells #[.int .i64 0, .int .i64 0, .string ⟨#[]⟩, .slice none 0 0, .slice none 0 0, .slice none 0 0, .int .i64 0] 39)).heap.size = A.heap.size + 1 by simp] at h3
  exact ⟨h7, h3⟩
theorem al37 {A w : World} (h : Below ((A.alloc (.cells #[.int .i64 0, .int .i64 0, .int .i64 0] 28)).alloc (.cells #[.int .i64 0, .int .i64 0, .string ⟨#[]⟩, .slice none 0 0, .slice none 0 0, .slice none 0 0, .int .i64 0] 39)).heap.size ((A.alloc (.cells #[.int .i64 0, .int .i64 0, .int .i64 0] 28)).alloc (.cells #[.int .i64 0, .int .i64 0, .string ⟨#[]⟩, .slice none 0 0, .slice none 0 0, .slice none 0 0, .int .i64 0] 39)) w) : Cs w (A.heap.size + 1) n7 ∧ Cs w A.heap.size n3 := by
  have h7 := al7 h
  have h3 := al3 (bel_next (one_alloc _ _) h)
  rw [show (A.alloc (.cells #[.int .i64 0, .int .i64 0, .int .i64 0] 28)).heap.size = A.heap.size + 1 by simp] at h7
  exact ⟨h7, h3⟩
theorem al7d {A w : World} (h : Below (A.alloc (.cells #[.int .i64 0, .int .i64 0, .string ⟨#[]⟩, .slice none 0 0, .slice none 0 0, .slice none 0 0, .int .i64 0] 39)).drew.heap.size (A.alloc (.cells #[.int .i64 0, .int .i64 0, .string ⟨#[]⟩, .slice none 0 0, .slice none 0 0, .slice none 0 0, .int .i64 0] 39)).drew w) : Cs w A.heap.size n7 := al7 (A := A) (bel_next (Below.refl _ _).drew h)
theorem al3d {A w : World} (h : Below (A.alloc (.cells #[.int .i64 0, .int .i64 0, .int .i64 0] 28)).drew.heap.size (A.alloc (.cells #[.int .i64 0, .int .i64 0, .int .i64 0] 28)).drew w) : Cs w A.heap.size n3 := al3 (A := A) (bel_next (Below.refl _ _).drew h)
theorem al73d {A w : World} (h : Below ((A.alloc (.cells #[.int .i64 0, .int .i64 0, .string ⟨#[]⟩, .slice none 0 0, .slice none 0 0, .slice none 0 0, .int .i64 0] 39)).alloc (.cells #[.int .i64 0, .int .i64 0, .int .i64 0] 28)).drew.heap.size ((A.alloc (.cells #[.int .i64 0, .int .i64 0, .string ⟨#[]⟩, .slice none 0 0, .slice none 0 0, .slice none 0 0, .int .i64 0] 39)).alloc (.cells #[.int .i64 0, .int .i64 0, .int .i64 0] 28)).drew w) : Cs w A.heap.size n7 ∧ Cs w (A.heap.size + 1) n3 := al73 (A := A) (bel_next (Below.refl _ _).drew h)
theorem al37d {A w : World} (h : Below ((A.alloc (.cells #[.int .i64 0, .int .i64 0, .int .i64 0] 28)).alloc (.cells #[.int .i64 0, .int .i64 0, .string ⟨#[]⟩, .slice none 0 0, .slice none 0 0, .slice none 0 0, .int .i64 0] 39)).drew.heap.size ((A.alloc (.cells #[.int .i64 0, .int .i64 0, .int .i64 0] 28)).alloc (.cells #[.int .i64 0, .int .i64 0, .string ⟨#[]⟩, .slice none 0 0, .slice none 0 0, .slice none 0 0, .int .i64 0] 39)).drew w) : Cs w (A.heap.size + 1) n7 ∧ Cs w A.heap.size n3 := al37 (A := A) (bel_next (Below.refl _ _).drew h)
theorem Cs.l7 {w : World} {s : Nat} (h : Cs w s n7) : s < w.heap.size ∧ w.cell? ⟨s, 0, none⟩ = some (.int .i64 0) ∧ w.cell? ⟨s, 1, none⟩ = some (.int .i64 0) ∧ w.cell? ⟨s, 2, none⟩ = some (.string ⟨#[]⟩) ∧ w.cell? ⟨s, 3, none⟩ = some (.slice none 0 0) ∧ w.cell? ⟨s, 4, none⟩ = some (.slice none 0 0) ∧ w.cell? ⟨s, 5, none⟩ = some (.slice none 0 0) ∧ w.cell? ⟨s, 6, none⟩ = some (.int .i64 0) ∧ (∀ k, w.frozen? ⟨s, k, none⟩ = false) :=
  ⟨h.lt, h.c 0 _ rfl, h.c 1 _ rfl, h.c 2 _ rfl, h.c 3 _ rfl, h.c 4 _ rfl, h.c 5 _ rfl, h.c 6 _ rfl, h.z⟩
theorem Cs.l3 {w : World} {s : Nat} (h : Cs w s n3) : s < w.heap.size ∧ w.cell? ⟨s, 0, none⟩ = some (.int .i64 0) ∧ w.cell? ⟨s, 1, none⟩ = some (.int .i64 0) ∧ w.cell? ⟨s, 2, none⟩ = some (.int .i64 0) ∧ (∀ k, w.frozen? ⟨s, k, none⟩ = false) :=
  ⟨h.lt, h.c 0 _ rfl, h.c 1 _ rfl, h.c 2 _ rfl, h.z⟩
theorem Cs.on {W W' : World} {s : Nat} {vs : List Value} (h : Cs W s vs) (hb : Below W.heap.size W W') : Cs W' s vs := h.next hb h.lt
theorem wpAny_store {P : Program} {md : Region.Mode} {ops : Array Oper} {Q : Exit → Act → World → Prop} {i : Nat} {o : Oper} {fuel : Nat} {listed : Array Bool} {a : Act} {w : World} (hr : Region.ready md ops listed = [i]) (ho : ops[i]? = some o) (hw : Region.wanted o (yielded ops a.tmps) = true) (ty : TypeId) (x y : Operand) (hs : o.op = .store ty x y) (b f : Nat) (cells : Array Value) (hx : a.eval x = .pointer (some ⟨b, f, none⟩)) (hy : a.eval y = .agg cells) (ht : w.there b f cells.size) (hi : (P.info? ty).map (·.size) = some cells.size) (h1 : cells.all (·.oneCell') = true) (h : wpAny P md ops Q fuel (listed.setIfInBounds i true) (a.put o.dst undef) (w.setCells b f cells.toList)) : wpAny P md ops Q (fuel + 1) listed a w := by
  refine wpAny_ready hr (by simp) (AllReady.cons ho (fun K hK => ?_) AllReady.nil)
  rw [if_pos hw]
  exact wp_store_mid ty x y hs b f cells hx hy ht hi h1 (hK _ _ h)
set_option maxHeartbeats 16000000 in
theorem works8 {w : World} : Calls Try.prog 8 #[] w fun e w' => e = .returned (.bool true) ∧ Below w.heap.size w w' := by
  have HL := hide (lex12 ⟨#[49, 43, 226, 141, 179, 51]⟩ w)
  rw [wks_lex] at HL
  have HA := hide (fun W => apl13 (w := W))
  have HP : Hid (∀ (V : World) (R : Raw) (a : Option Addr) (c : Nat), StrsIn V R.av aplG.verbs → StrsIn V R.aa aplG.adverbs → StrsIn V R.ab aplG.behind → WoR 1 V a wksL → ∀ W, Below V.heap.size V W → Calls Try.prog 9 #[gV aplG R, .slice a 4 c, .int .i64 9] W fun en w' => GvP 0 V W (parseS aplG 9 wksL) en w') := fun V R a c h1 h2 h3 h4 W hW =>
    parse9 (n := 0) (w0 := V) (g := aplG) (R := { R with aw := a, cw := c }) (ws := wksL) (e := 9) hW h1 h2 h3 ⟨by decide, fun i hi => by
      obtain ⟨b, off, z1, m1, z2, m2, ha, hl, k0, k1, k2, k3, k4, k5, k6⟩ := h4 i hi
      refine ⟨b, off, z1, m1, z2, m2, ha, hl, k0, k1, k2, k3, k4, ⟨k5, ?_⟩, k6⟩
      have : i = 0 ∨ i = 1 ∨ i = 2 ∨ i = 3 := by simp [wksL] at hi; omega
      rcases this with rfl | rfl | rfl | rfl <;> decide⟩
  have HQ : Hid (∀ (V : World) (R : Raw) (a : Option Addr) (c : Nat), StrsIn V R.av aplG.verbs → StrsIn V R.aa aplG.adverbs → StrsIn V R.ab aplG.behind → WoR 1 V a wksL → ∀ W, Below V.heap.size V W → Calls Try.prog 9 #[gV aplG R, .slice a 2 c, .int .i64 2] W fun en w' => GvP 0 V W (parseS aplG 2 wksT) en w') := fun V R a c h1 h2 h3 h4 W hW =>
    parse9 (n := 0) (w0 := V) (g := aplG) (R := { R with aw := a, cw := c }) (ws := wksT) (e := 2) hW h1 h2 h3 ⟨by decide, fun i hi => by
      obtain ⟨b, off, z1, m1, z2, m2, ha, hl, k0, k1, k2, k3, k4, k5, k6⟩ := (WoR.two h4) i hi
      refine ⟨b, off, z1, m1, z2, m2, ha, hl, k0, k1, k2, k3, k4, ⟨k5, ?_⟩, k6⟩
      have : i = 0 ∨ i = 1 := by simp [wksT] at hi; omega
      rcases this with rfl | rfl <;> decide⟩
  obtain ⟨x, hx, hk, hkl, hk2⟩ := wks_all
  rw [hx] at HP
  rw [wks_two] at HQ
  clear hx
  go_enter Try.func8, Try.ntmps8
  go_wp2_with fail
  refine HL.out.mono ?_
  rintro e w1 ⟨hb1, a, c, rfl, hc, hw1⟩
  clear HL
  rw [show wksL.length = 4 from rfl] at hc ⊢
  have HB1 := hide hb1
  have HW1 := hide hw1
  clear hb1 hw1
  go_wp2_with fail
  refine (HA.out _).mono ?_
  rintro e w2 ⟨hb2, R2, rfl, s1, s2, s3⟩
  have hw2 := HW1.out.next ((one_alloc w1 (.cells #[.int .i64 0, .int .i64 0, .int .i64 0] 28)).trans (hb2.mono (one_alloc _ _).size))
  have HP2 := hide (HP.out w2 R2 a c s1 s2 s3 hw2 w2 (Below.refl _ _))
  have HW2 := hide hw2
  have HB2 := hide (HB1.out.trans (((one_alloc w1 (.cells #[.int .i64 0, .int .i64 0, .int .i64 0] 28)).trans (hb2.mono (one_alloc _ _).size)).mono HB1.out.size))
  clear HP s1 s2 s3 hb2 hw2 HW1 HB1
  go_wp2_with fail
  refine HP2.out.mono ?_
  rintro e w3 ⟨hb3, v, m, rfl, htr⟩
  clear HP2
  obtain ⟨m', hm', a1, c1, a2, c2, ak, ck, rfl, -, -, -, hK⟩ := htr.form
  clear htr
  rw [hkl, hk]
  generalize x.op = O
  generalize x.name = S
  generalize x.pos = P
  generalize x.lit.shape.length = L1
  generalize x.lit.cells.length = L2
  go_upto_region 3 with fail
  obtain ⟨W4, hW4⟩ : ∃ W4, (w3.alloc (.cells #[.int .i64 6, .int .i64 O, .string S, .slice a1 L1 c1, .slice a2 L2 c2, .slice ak 3 ck, .int .i64 P] 39)).alloc (.cells #[.int .i64 0, .int .i64 0, .int .i64 0] 28) = W4 := ⟨_, rfl⟩
  have hb4 : Below w3.heap.size w3 W4 := by rw [← hW4]; exact two_allocs _ _ _
  have KS : Hid (∀ W, Below W4.heap.size W4 W → Below W4.heap.size W4 W ∧ W.cell? ⟨w3.heap.size + 1, 0, none⟩ = some (.int .i64 0) ∧ W.cell? ⟨w3.heap.size, 0, none⟩ = some (.int .i64 6) ∧ W.cell? ⟨w3.heap.size, 5, none⟩ = some (.slice ak 3 ck) ∧ ∃ b, ak = some ⟨b, 0, none⟩ ∧ W.cell? ⟨b, 14, none⟩ = some (.int .i64 5)) := fun W hW => by
    have hs4 : W4.heap.size = w3.heap.size + 2 := by rw [← hW4]; simp
    have hN : Cs W4 w3.heap.size [.int .i64 6, .int .i64 O, .string S, .slice a1 L1 c1, .slice a2 L2 c2, .slice ak 3 ck, .int .i64 P] := by
      rw [← hW4]
      exact (Cs.new w3 [.int .i64 6, .int .i64 O, .string S, .slice a1 L1 c1, .slice a2 L2 c2, .slice ak 3 ck, .int .i64 P] 39).next (one_alloc _ _) (by simp)
    have hF : Cs W4 (w3.heap.size + 1) [.int .i64 0, .int .i64 0, .int .i64 0] := by
      have hs1 : (w3.alloc (.cells #[.int .i64 6, .int .i64 O, .string S, .slice a1 L1 c1, .slice a2 L2 c2, .slice ak 3 ck, .int .i64 P] 39)).heap.size = w3.heap.size + 1 := by simp
      have h := Cs.new (w3.alloc (.cells #[.int .i64 6, .int .i64 O, .string S, .slice a1 L1 c1, .slice a2 L2 c2, .slice ak 3 ck, .int .i64 P] 39)) [.int .i64 0, .int .i64 0, .int .i64 0] 28
      rw [hs1] at h
      rw [← hW4]; exact h
    refine ⟨hW, (hF.next hW (by omega)).c 0 _ rfl, (hN.next hW (by omega)).c 0 _ rfl, (hN.next hW (by omega)).c 5 _ rfl, ?_⟩
    rcases hK with h0 | ⟨b, F, hb, -, hbl, -, -, hc⟩
    · rw [h0] at hkl; cases hkl
    · obtain ⟨d1, e1, d2, e2, dk, ek, hsv, -⟩ := hc 2 (by omega)
      refine ⟨b, hb, ?_⟩
      have h14 := hsv.1
      rw [hk2] at h14
      have hb4w := hb4.trans (hW.mono hb4.size)
      exact (hb4w.cell (p := ⟨b, 14, none⟩) hbl).trans h14
  have HBW := hide (HB2.out.trans ((hb3.trans (hb4.mono hb3.size)).mono HB2.out.size))
  have hw4 := HW2.out.next (hb3.trans (hb4.mono hb3.size))
  have HQ4 : Hid (∀ W, Below W4.heap.size W4 W → ∀ R : Raw, StrsIn W R.av aplG.verbs → StrsIn W R.aa aplG.adverbs → StrsIn W R.ab aplG.behind → ∀ W', Below W.heap.size W W' → Calls Try.prog 9 #[gV aplG R, .slice a 2 c, .int .i64 2] W' fun en w' => GvP 0 W W' (.bad 2 2) en w') := fun W hW R s1 s2 s3 W' hW' => HQ.out W R a c s1 s2 s3 (hw4.next hW) W' hW'
  rw [hW4]
  clear HQ hb3 hb4 hK hkl hk2 hW4 HW2 HB2 hk hw4
  have HD0 : Hid (Below W4.heap.size W4 W4.drew) := (Below.refl _ _).drew
  have FIN : Hid (∀ (W : World) (p q : Nat), W4.heap.size ≤ p → W4.heap.size ≤ q → p ≠ q → Cs W p n7 → Cs W q n3 → Below W4.heap.size W4 W → W.there p 0 7 ∧ (W.setCells p 0 n7).there q 0 3 ∧ Below W4.heap.size W4 ((W.setCells p 0 n7).setCells q 0 [.int .i64 2, .int .i64 2, .int .i64 0]) ∧ ((W.setCells p 0 n7).setCells q 0 [.int .i64 2, .int .i64 2, .int .i64 0]).cell? ⟨q, 0, none⟩ = some (.int .i64 2) ∧ ((W.setCells p 0 n7).setCells q 0 [.int .i64 2, .int .i64 2, .int .i64 0]).cell? ⟨q, 1, none⟩ = some (.int .i64 2)) := fun W p q hp hq hne c7 c3 hb => by
    obtain ⟨C8, B8⟩ := c7.put (us := n7) (by simp) rfl
    have D8 := c3.but B8 (fun h => hne h.symm)
    obtain ⟨C9, B9⟩ := D8.put (us := [.int .i64 2, .int .i64 2, .int .i64 0]) (by simp) rfl
    have hb8 := hb.trans (B8.below hb.size fun k hk => by omega)
    exact ⟨c7.there (by simp), D8.there (by simp), hb8.trans (B9.below hb8.size fun k hk => by omega), C9.c 0 _ rfl, C9.c 1 _ rfl⟩
  go_cut [5, 6] from 7 (fun s5 s6 wx => ∃ p q, s5 = .pointer (some ⟨p, 0, none⟩) ∧ s6 = .pointer (some ⟨q, 0, none⟩) ∧ Below W4.heap.size W4 wx ∧ wx.cell? ⟨q, 0, none⟩ = some (.int .i64 2) ∧ wx.cell? ⟨q, 1, none⟩ = some (.int .i64 2))
  case first =>
    refine wp_region_any (by kernel_rfl) ?_
    change wpAny _ _ _ _ _ _ _ (World.drew _)
    refine wpAny_take (i := 1) (v := .slice a 4 c) rfl (by kernel_rfl) (by kernel_rfl) (by kernel_rfl) (fun _ _ _ h => h) (Or.inl ⟨by rfl, by intro w; go_simp⟩) ?_
    refine wpAny_take (i := 2) (v := .slice a 2 c) rfl (by kernel_rfl) (by kernel_rfl) (by kernel_rfl) (fun _ _ _ h => h) (Or.inl ⟨by rfl, by intro w; go_simp; intro h; omega⟩) ?_
    refine wpAny_ready (rs := [0, 7, 8]) (by kernel_rfl) (by simp) ?_
    refine AllReady.cons rfl (fun K hK => ?_) ?_
    · go_simp
      refine (HA.out _).mono ?_
      rintro e w5 ⟨hb5r, R5, rfl, t1, t2, t3⟩
      have hb5 := bel_next (show Below W4.heap.size W4 _ from (Below.refl _ _).drew) hb5r
      refine hK _ _ ?_
      clear hK K hb5r
      refine wpAny_ready (rs := [3, 7, 8]) (by kernel_rfl) (by simp) ?_
      refine AllReady.cons rfl (fun K hK => ?_) ?_
      · go_simp
        refine Calls.mono (HQ4.out w5 hb5 R5 t1 t2 t3 _ (Below.refl _ _)) ?_
        rintro e w6 ⟨hb6r, rfl⟩
        have hb56 := bel_next (show Below w5.heap.size w5 _ from Below.refl _ _) hb6r
        have hb6 := bel_next hb5 hb56
        have hl56 := hb56.size
        refine hK _ _ ?_
        clear hK K hb6r
        refine wpAny_take (i := 4) (v := .tuple #[nilV, .agg #[.int .i64 2, .int .i64 2, .int .i64 0]]) rfl (by kernel_rfl) (by kernel_rfl) (by kernel_rfl) (fun _ _ _ h => h) (Or.inl ⟨by rfl, by intro w; rfl⟩) ?_
        refine wpAny_take (i := 5) (v := nilV) rfl (by kernel_rfl) (by kernel_rfl) (by kernel_rfl) (fun _ _ _ h => h) (Or.inl ⟨by rfl, by intro w; rfl⟩) ?_
        refine wpAny_take (i := 6) (v := .agg #[.int .i64 2, .int .i64 2, .int .i64 0]) rfl (by kernel_rfl) (by kernel_rfl) (by kernel_rfl) (fun _ _ _ h => h) (Or.inl ⟨by rfl, by intro w; rfl⟩) ?_
        refine wpAny_ready (rs := [7, 8]) (by kernel_rfl) (by simp) ?_
        refine AllReady.cons rfl (fun K hK => ?_) ?_
        · go_simp
          refine hK _ _ ?_
          clear hK K
          refine wpAny_ready (rs := [8]) (by kernel_rfl) (by simp) ?_
          refine AllReady.cons rfl (fun K hK => ?_) ?_
          · go_simp
            refine hK _ _ ?_
            clear hK K
            obtain ⟨c7, c3⟩ := al73 (A := w6) (Below.refl _ _)
            have hbl := bel_next hb6 (two_allocs w6 (.cells #[.int .i64 0, .int .i64 0, .string ⟨#[]⟩, .slice none 0 0, .slice none 0 0, .slice none 0 0, .int .i64 0] 39) (.cells #[.int .i64 0, .int .i64 0, .int .i64 0] 28))
            obtain ⟨t8, t9, k8, k9⟩ := FIN.out _ _ _ (by have := hb5.size; omega) (by have := hb5.size; omega) (by omega) c7 c3 hbl
            refine wpAny_store (i := 9) (by kernel_rfl) rfl (by kernel_rfl) 39 (.tmp 5) (.tmp 22) rfl _ 0 #[.int .i64 0, .int .i64 0, .string ⟨#[]⟩, .slice none 0 0, .slice none 0 0, .slice none 0 0, .int .i64 0] rfl rfl t8 (by kernel_rfl) (by kernel_rfl) ?_
            refine wpAny_store (i := 10) (by kernel_rfl) rfl (by kernel_rfl) 28 (.tmp 6) (.tmp 23) rfl _ 0 #[.int .i64 2, .int .i64 2, .int .i64 0] rfl rfl t9 (by kernel_rfl) (by kernel_rfl) ?_
            refine wpAny_done (by kernel_rfl) ?_ _
            go_wp2
            go_meet
            case rel => exact ⟨_, _, rfl, rfl, k8, k9⟩
          exact AllReady.nil
        refine AllReady.cons rfl (fun K hK => ?_) ?_
        · go_simp
          refine hK _ _ ?_
          clear hK K
          refine wpAny_ready (rs := [7]) (by kernel_rfl) (by simp) ?_
          refine AllReady.cons rfl (fun K hK => ?_) ?_
          · go_simp
            refine hK _ _ ?_
            clear hK K
            obtain ⟨c7, c3⟩ := al37 (A := w6) (Below.refl _ _)
            have hbl := bel_next hb6 (two_allocs w6 (.cells #[.int .i64 0, .int .i64 0, .int .i64 0] 28) (.cells #[.int .i64 0, .int .i64 0, .string ⟨#[]⟩, .slice none 0 0, .slice none 0 0, .slice none 0 0, .int .i64 0] 39))
            obtain ⟨t8, t9, k8, k9⟩ := FIN.out _ _ _ (by have := hb5.size; omega) (by have := hb5.size; omega) (by omega) c7 c3 hbl
            refine wpAny_store (i := 9) (by kernel_rfl) rfl (by kernel_rfl) 39 (.tmp 5) (.tmp 22) rfl _ 0 #[.int .i64 0, .int .i64 0, .string ⟨#[]⟩, .slice none 0 0, .slice none 0 0, .slice none 0 0, .int .i64 0] rfl rfl t8 (by kernel_rfl) (by kernel_rfl) ?_
            refine wpAny_store (i := 10) (by kernel_rfl) rfl (by kernel_rfl) 28 (.tmp 6) (.tmp 23) rfl _ 0 #[.int .i64 2, .int .i64 2, .int .i64 0] rfl rfl t9 (by kernel_rfl) (by kernel_rfl) ?_
            refine wpAny_done (by kernel_rfl) ?_ _
            go_wp2
            go_meet
            case rel => exact ⟨_, _, rfl, rfl, k8, k9⟩
          exact AllReady.nil
        exact AllReady.nil
      refine AllReady.cons rfl (fun K hK => ?_) ?_
      · go_simp
        refine hK _ _ ?_
        clear hK K
        refine wpAny_ready (rs := [3, 8]) (by kernel_rfl) (by simp) ?_
        refine AllReady.cons rfl (fun K hK => ?_) ?_
        · go_simp
          refine Calls.mono (HQ4.out w5 hb5 R5 t1 t2 t3 _ (one_alloc _ _)) ?_
          rintro e w6 ⟨hb6r, rfl⟩
          have hb56 := bel_next (show Below w5.heap.size w5 _ from one_alloc _ _) hb6r
          have hb6 := bel_next hb5 hb56
          have hl56 := hb56.size
          have j7 := al7 hb6r
          have l7 := j7.lt
          refine hK _ _ ?_
          clear hK K hb6r
          refine wpAny_take (i := 4) (v := .tuple #[nilV, .agg #[.int .i64 2, .int .i64 2, .int .i64 0]]) rfl (by kernel_rfl) (by kernel_rfl) (by kernel_rfl) (fun _ _ _ h => h) (Or.inl ⟨by rfl, by intro w; rfl⟩) ?_
          refine wpAny_take (i := 5) (v := nilV) rfl (by kernel_rfl) (by kernel_rfl) (by kernel_rfl) (fun _ _ _ h => h) (Or.inl ⟨by rfl, by intro w; rfl⟩) ?_
          refine wpAny_take (i := 6) (v := .agg #[.int .i64 2, .int .i64 2, .int .i64 0]) rfl (by kernel_rfl) (by kernel_rfl) (by kernel_rfl) (fun _ _ _ h => h) (Or.inl ⟨by rfl, by intro w; rfl⟩) ?_
          refine wpAny_ready (rs := [8]) (by kernel_rfl) (by simp) ?_
          refine AllReady.cons rfl (fun K hK => ?_) ?_
          · go_simp
            refine hK _ _ ?_
            clear hK K
            have c3 := al3 (A := w6) (Below.refl _ _)
            have c7 := j7.on (one_alloc w6 (.cells #[.int .i64 0, .int .i64 0, .int .i64 0] 28))
            have hbl := bel_next hb6 (one_alloc w6 (.cells #[.int .i64 0, .int .i64 0, .int .i64 0] 28))
            obtain ⟨t8, t9, k8, k9⟩ := FIN.out _ _ _ (by have := hb5.size; omega) (by have := hb5.size; omega) (by omega) c7 c3 hbl
            refine wpAny_store (i := 9) (by kernel_rfl) rfl (by kernel_rfl) 39 (.tmp 5) (.tmp 22) rfl _ 0 #[.int .i64 0, .int .i64 0, .string ⟨#[]⟩, .slice none 0 0, .slice none 0 0, .slice none 0 0, .int .i64 0] rfl rfl t8 (by kernel_rfl) (by kernel_rfl) ?_
            refine wpAny_store (i := 10) (by kernel_rfl) rfl (by kernel_rfl) 28 (.tmp 6) (.tmp 23) rfl _ 0 #[.int .i64 2, .int .i64 2, .int .i64 0] rfl rfl t9 (by kernel_rfl) (by kernel_rfl) ?_
            refine wpAny_done (by kernel_rfl) ?_ _
            go_wp2
            go_meet
            case rel => exact ⟨_, _, rfl, rfl, k8, k9⟩
          exact AllReady.nil
        refine AllReady.cons rfl (fun K hK => ?_) ?_
        · go_simp
          refine hK _ _ ?_
          clear hK K
          refine wpAny_ready (rs := [3]) (by kernel_rfl) (by simp) ?_
          refine AllReady.cons rfl (fun K hK => ?_) ?_
          · go_simp
            refine Calls.mono (HQ4.out w5 hb5 R5 t1 t2 t3 _ (two_allocs _ _ _)) ?_
            rintro e w6 ⟨hb6r, rfl⟩
            have hb56 := bel_next (show Below w5.heap.size w5 _ from two_allocs _ _ _) hb6r
            have hb6 := bel_next hb5 hb56
            have hl56 := hb56.size
            obtain ⟨j7, j3⟩ := al73 hb6r
            have l7 := j7.lt
            have l3 := j3.lt
            refine hK _ _ ?_
            clear hK K hb6r
            refine wpAny_take (i := 4) (v := .tuple #[nilV, .agg #[.int .i64 2, .int .i64 2, .int .i64 0]]) rfl (by kernel_rfl) (by kernel_rfl) (by kernel_rfl) (fun _ _ _ h => h) (Or.inl ⟨by rfl, by intro w; rfl⟩) ?_
            refine wpAny_take (i := 5) (v := nilV) rfl (by kernel_rfl) (by kernel_rfl) (by kernel_rfl) (fun _ _ _ h => h) (Or.inl ⟨by rfl, by intro w; rfl⟩) ?_
            refine wpAny_take (i := 6) (v := .agg #[.int .i64 2, .int .i64 2, .int .i64 0]) rfl (by kernel_rfl) (by kernel_rfl) (by kernel_rfl) (fun _ _ _ h => h) (Or.inl ⟨by rfl, by intro w; rfl⟩) ?_
            have c7 := j7
            have c3 := j3
            have hbl := hb6
            obtain ⟨t8, t9, k8, k9⟩ := FIN.out _ _ _ (by have := hb5.size; omega) (by have := hb5.size; omega) (by omega) c7 c3 hbl
            refine wpAny_store (i := 9) (by kernel_rfl) rfl (by kernel_rfl) 39 (.tmp 5) (.tmp 22) rfl _ 0 #[.int .i64 0, .int .i64 0, .string ⟨#[]⟩, .slice none 0 0, .slice none 0 0, .slice none 0 0, .int .i64 0] rfl rfl t8 (by kernel_rfl) (by kernel_rfl) ?_
            refine wpAny_store (i := 10) (by kernel_rfl) rfl (by kernel_rfl) 28 (.tmp 6) (.tmp 23) rfl _ 0 #[.int .i64 2, .int .i64 2, .int .i64 0] rfl rfl t9 (by kernel_rfl) (by kernel_rfl) ?_
            refine wpAny_done (by kernel_rfl) ?_ _
            go_wp2
            go_meet
            case rel => exact ⟨_, _, rfl, rfl, k8, k9⟩
          exact AllReady.nil
        exact AllReady.nil
      refine AllReady.cons rfl (fun K hK => ?_) ?_
      · go_simp
        refine hK _ _ ?_
        clear hK K
        refine wpAny_ready (rs := [3, 7]) (by kernel_rfl) (by simp) ?_
        refine AllReady.cons rfl (fun K hK => ?_) ?_
        · go_simp
          refine Calls.mono (HQ4.out w5 hb5 R5 t1 t2 t3 _ (one_alloc _ _)) ?_
          rintro e w6 ⟨hb6r, rfl⟩
          have hb56 := bel_next (show Below w5.heap.size w5 _ from one_alloc _ _) hb6r
          have hb6 := bel_next hb5 hb56
          have hl56 := hb56.size
          have j3 := al3 hb6r
          have l3 := j3.lt
          refine hK _ _ ?_
          clear hK K hb6r
          refine wpAny_take (i := 4) (v := .tuple #[nilV, .agg #[.int .i64 2, .int .i64 2, .int .i64 0]]) rfl (by kernel_rfl) (by kernel_rfl) (by kernel_rfl) (fun _ _ _ h => h) (Or.inl ⟨by rfl, by intro w; rfl⟩) ?_
          refine wpAny_take (i := 5) (v := nilV) rfl (by kernel_rfl) (by kernel_rfl) (by kernel_rfl) (fun _ _ _ h => h) (Or.inl ⟨by rfl, by intro w; rfl⟩) ?_
          refine wpAny_take (i := 6) (v := .agg #[.int .i64 2, .int .i64 2, .int .i64 0]) rfl (by kernel_rfl) (by kernel_rfl) (by kernel_rfl) (fun _ _ _ h => h) (Or.inl ⟨by rfl, by intro w; rfl⟩) ?_
          refine wpAny_ready (rs := [7]) (by kernel_rfl) (by simp) ?_
          refine AllReady.cons rfl (fun K hK => ?_) ?_
          · go_simp
            refine hK _ _ ?_
            clear hK K
            have c7 := al7 (A := w6) (Below.refl _ _)
            have c3 := j3.on (one_alloc w6 (.cells #[.int .i64 0, .int .i64 0, .string ⟨#[]⟩, .slice none 0 0, .slice none 0 0, .slice none 0 0, .int .i64 0] 39))
            have hbl := bel_next hb6 (one_alloc w6 (.cells #[.int .i64 0, .int .i64 0, .string ⟨#[]⟩, .slice none 0 0, .slice none 0 0, .slice none 0 0, .int .i64 0] 39))
            obtain ⟨t8, t9, k8, k9⟩ := FIN.out _ _ _ (by have := hb5.size; omega) (by have := hb5.size; omega) (by omega) c7 c3 hbl
            refine wpAny_store (i := 9) (by kernel_rfl) rfl (by kernel_rfl) 39 (.tmp 5) (.tmp 22) rfl _ 0 #[.int .i64 0, .int .i64 0, .string ⟨#[]⟩, .slice none 0 0, .slice none 0 0, .slice none 0 0, .int .i64 0] rfl rfl t8 (by kernel_rfl) (by kernel_rfl) ?_
            refine wpAny_store (i := 10) (by kernel_rfl) rfl (by kernel_rfl) 28 (.tmp 6) (.tmp 23) rfl _ 0 #[.int .i64 2, .int .i64 2, .int .i64 0] rfl rfl t9 (by kernel_rfl) (by kernel_rfl) ?_
            refine wpAny_done (by kernel_rfl) ?_ _
            go_wp2
            go_meet
            case rel => exact ⟨_, _, rfl, rfl, k8, k9⟩
          exact AllReady.nil
        refine AllReady.cons rfl (fun K hK => ?_) ?_
        · go_simp
          refine hK _ _ ?_
          clear hK K
          refine wpAny_ready (rs := [3]) (by kernel_rfl) (by simp) ?_
          refine AllReady.cons rfl (fun K hK => ?_) ?_
          · go_simp
            refine Calls.mono (HQ4.out w5 hb5 R5 t1 t2 t3 _ (two_allocs _ _ _)) ?_
            rintro e w6 ⟨hb6r, rfl⟩
            have hb56 := bel_next (show Below w5.heap.size w5 _ from two_allocs _ _ _) hb6r
            have hb6 := bel_next hb5 hb56
            have hl56 := hb56.size
            obtain ⟨j7, j3⟩ := al37 hb6r
            have l3 := j3.lt
            have l7 := j7.lt
            refine hK _ _ ?_
            clear hK K hb6r
            refine wpAny_take (i := 4) (v := .tuple #[nilV, .agg #[.int .i64 2, .int .i64 2, .int .i64 0]]) rfl (by kernel_rfl) (by kernel_rfl) (by kernel_rfl) (fun _ _ _ h => h) (Or.inl ⟨by rfl, by intro w; rfl⟩) ?_
            refine wpAny_take (i := 5) (v := nilV) rfl (by kernel_rfl) (by kernel_rfl) (by kernel_rfl) (fun _ _ _ h => h) (Or.inl ⟨by rfl, by intro w; rfl⟩) ?_
            refine wpAny_take (i := 6) (v := .agg #[.int .i64 2, .int .i64 2, .int .i64 0]) rfl (by kernel_rfl) (by kernel_rfl) (by kernel_rfl) (fun _ _ _ h => h) (Or.inl ⟨by rfl, by intro w; rfl⟩) ?_
            have c7 := j7
            have c3 := j3
            have hbl := hb6
            obtain ⟨t8, t9, k8, k9⟩ := FIN.out _ _ _ (by have := hb5.size; omega) (by have := hb5.size; omega) (by omega) c7 c3 hbl
            refine wpAny_store (i := 9) (by kernel_rfl) rfl (by kernel_rfl) 39 (.tmp 5) (.tmp 22) rfl _ 0 #[.int .i64 0, .int .i64 0, .string ⟨#[]⟩, .slice none 0 0, .slice none 0 0, .slice none 0 0, .int .i64 0] rfl rfl t8 (by kernel_rfl) (by kernel_rfl) ?_
            refine wpAny_store (i := 10) (by kernel_rfl) rfl (by kernel_rfl) 28 (.tmp 6) (.tmp 23) rfl _ 0 #[.int .i64 2, .int .i64 2, .int .i64 0] rfl rfl t9 (by kernel_rfl) (by kernel_rfl) ?_
            refine wpAny_done (by kernel_rfl) ?_ _
            go_wp2
            go_meet
            case rel => exact ⟨_, _, rfl, rfl, k8, k9⟩
          exact AllReady.nil
        exact AllReady.nil
      exact AllReady.nil
    refine AllReady.cons rfl (fun K hK => ?_) ?_
    · go_simp
      refine hK _ _ ?_
      clear hK K
      refine wpAny_ready (rs := [0, 8]) (by kernel_rfl) (by simp) ?_
      refine AllReady.cons rfl (fun K hK => ?_) ?_
      · go_simp
        refine (HA.out _).mono ?_
        rintro e w5 ⟨hb5r, R5, rfl, t1, t2, t3⟩
        have hb5 := bel_next (show Below W4.heap.size W4 _ from (one_alloc _ _).drew) hb5r
        have j7 := al7d hb5r
        refine hK _ _ ?_
        clear hK K hb5r
        refine wpAny_ready (rs := [3, 8]) (by kernel_rfl) (by simp) ?_
        refine AllReady.cons rfl (fun K hK => ?_) ?_
        · go_simp
          refine Calls.mono (HQ4.out w5 hb5 R5 t1 t2 t3 _ (Below.refl _ _)) ?_
          rintro e w6 ⟨hb6r, rfl⟩
          have hb56 := bel_next (show Below w5.heap.size w5 _ from Below.refl _ _) hb6r
          have hb6 := bel_next hb5 hb56
          have hl56 := hb56.size
          have l7 := j7.lt
          replace j7 := j7.on hb56
          refine hK _ _ ?_
          clear hK K hb6r
          refine wpAny_take (i := 4) (v := .tuple #[nilV, .agg #[.int .i64 2, .int .i64 2, .int .i64 0]]) rfl (by kernel_rfl) (by kernel_rfl) (by kernel_rfl) (fun _ _ _ h => h) (Or.inl ⟨by rfl, by intro w; rfl⟩) ?_
          refine wpAny_take (i := 5) (v := nilV) rfl (by kernel_rfl) (by kernel_rfl) (by kernel_rfl) (fun _ _ _ h => h) (Or.inl ⟨by rfl, by intro w; rfl⟩) ?_
          refine wpAny_take (i := 6) (v := .agg #[.int .i64 2, .int .i64 2, .int .i64 0]) rfl (by kernel_rfl) (by kernel_rfl) (by kernel_rfl) (fun _ _ _ h => h) (Or.inl ⟨by rfl, by intro w; rfl⟩) ?_
          refine wpAny_ready (rs := [8]) (by kernel_rfl) (by simp) ?_
          refine AllReady.cons rfl (fun K hK => ?_) ?_
          · go_simp
            refine hK _ _ ?_
            clear hK K
            have c3 := al3 (A := w6) (Below.refl _ _)
            have c7 := j7.on (one_alloc w6 (.cells #[.int .i64 0, .int .i64 0, .int .i64 0] 28))
            have hbl := bel_next hb6 (one_alloc w6 (.cells #[.int .i64 0, .int .i64 0, .int .i64 0] 28))
            obtain ⟨t8, t9, k8, k9⟩ := FIN.out _ _ _ (by have := hb5.size; omega) (by have := hb5.size; omega) (by omega) c7 c3 hbl
            refine wpAny_store (i := 9) (by kernel_rfl) rfl (by kernel_rfl) 39 (.tmp 5) (.tmp 22) rfl _ 0 #[.int .i64 0, .int .i64 0, .string ⟨#[]⟩, .slice none 0 0, .slice none 0 0, .slice none 0 0, .int .i64 0] rfl rfl t8 (by kernel_rfl) (by kernel_rfl) ?_
            refine wpAny_store (i := 10) (by kernel_rfl) rfl (by kernel_rfl) 28 (.tmp 6) (.tmp 23) rfl _ 0 #[.int .i64 2, .int .i64 2, .int .i64 0] rfl rfl t9 (by kernel_rfl) (by kernel_rfl) ?_
            refine wpAny_done (by kernel_rfl) ?_ _
            go_wp2
            go_meet
            case rel => exact ⟨_, _, rfl, rfl, k8, k9⟩
          exact AllReady.nil
        refine AllReady.cons rfl (fun K hK => ?_) ?_
        · go_simp
          refine hK _ _ ?_
          clear hK K
          refine wpAny_ready (rs := [3]) (by kernel_rfl) (by simp) ?_
          refine AllReady.cons rfl (fun K hK => ?_) ?_
          · go_simp
            refine Calls.mono (HQ4.out w5 hb5 R5 t1 t2 t3 _ (one_alloc _ _)) ?_
            rintro e w6 ⟨hb6r, rfl⟩
            have hb56 := bel_next (show Below w5.heap.size w5 _ from one_alloc _ _) hb6r
            have hb6 := bel_next hb5 hb56
            have hl56 := hb56.size
            have l7 := j7.lt
            replace j7 := j7.on hb56
            have j3 := al3 hb6r
            have l3 := j3.lt
            refine hK _ _ ?_
            clear hK K hb6r
            refine wpAny_take (i := 4) (v := .tuple #[nilV, .agg #[.int .i64 2, .int .i64 2, .int .i64 0]]) rfl (by kernel_rfl) (by kernel_rfl) (by kernel_rfl) (fun _ _ _ h => h) (Or.inl ⟨by rfl, by intro w; rfl⟩) ?_
            refine wpAny_take (i := 5) (v := nilV) rfl (by kernel_rfl) (by kernel_rfl) (by kernel_rfl) (fun _ _ _ h => h) (Or.inl ⟨by rfl, by intro w; rfl⟩) ?_
            refine wpAny_take (i := 6) (v := .agg #[.int .i64 2, .int .i64 2, .int .i64 0]) rfl (by kernel_rfl) (by kernel_rfl) (by kernel_rfl) (fun _ _ _ h => h) (Or.inl ⟨by rfl, by intro w; rfl⟩) ?_
            have c7 := j7
            have c3 := j3
            have hbl := hb6
            obtain ⟨t8, t9, k8, k9⟩ := FIN.out _ _ _ (by have := hb5.size; omega) (by have := hb5.size; omega) (by omega) c7 c3 hbl
            refine wpAny_store (i := 9) (by kernel_rfl) rfl (by kernel_rfl) 39 (.tmp 5) (.tmp 22) rfl _ 0 #[.int .i64 0, .int .i64 0, .string ⟨#[]⟩, .slice none 0 0, .slice none 0 0, .slice none 0 0, .int .i64 0] rfl rfl t8 (by kernel_rfl) (by kernel_rfl) ?_
            refine wpAny_store (i := 10) (by kernel_rfl) rfl (by kernel_rfl) 28 (.tmp 6) (.tmp 23) rfl _ 0 #[.int .i64 2, .int .i64 2, .int .i64 0] rfl rfl t9 (by kernel_rfl) (by kernel_rfl) ?_
            refine wpAny_done (by kernel_rfl) ?_ _
            go_wp2
            go_meet
            case rel => exact ⟨_, _, rfl, rfl, k8, k9⟩
          exact AllReady.nil
        exact AllReady.nil
      refine AllReady.cons rfl (fun K hK => ?_) ?_
      · go_simp
        refine hK _ _ ?_
        clear hK K
        refine wpAny_ready (rs := [0]) (by kernel_rfl) (by simp) ?_
        refine AllReady.cons rfl (fun K hK => ?_) ?_
        · go_simp
          refine (HA.out _).mono ?_
          rintro e w5 ⟨hb5r, R5, rfl, t1, t2, t3⟩
          have hb5 := bel_next (show Below W4.heap.size W4 _ from (two_allocs _ _ _).drew) hb5r
          obtain ⟨j7, j3⟩ := al73d hb5r
          refine hK _ _ ?_
          clear hK K hb5r
          refine wpAny_ready (rs := [3]) (by kernel_rfl) (by simp) ?_
          refine AllReady.cons rfl (fun K hK => ?_) ?_
          · go_simp
            refine Calls.mono (HQ4.out w5 hb5 R5 t1 t2 t3 _ (Below.refl _ _)) ?_
            rintro e w6 ⟨hb6r, rfl⟩
            have hb56 := bel_next (show Below w5.heap.size w5 _ from Below.refl _ _) hb6r
            have hb6 := bel_next hb5 hb56
            have hl56 := hb56.size
            have l7 := j7.lt
            replace j7 := j7.on hb56
            have l3 := j3.lt
            replace j3 := j3.on hb56
            refine hK _ _ ?_
            clear hK K hb6r
            refine wpAny_take (i := 4) (v := .tuple #[nilV, .agg #[.int .i64 2, .int .i64 2, .int .i64 0]]) rfl (by kernel_rfl) (by kernel_rfl) (by kernel_rfl) (fun _ _ _ h => h) (Or.inl ⟨by rfl, by intro w; rfl⟩) ?_
            refine wpAny_take (i := 5) (v := nilV) rfl (by kernel_rfl) (by kernel_rfl) (by kernel_rfl) (fun _ _ _ h => h) (Or.inl ⟨by rfl, by intro w; rfl⟩) ?_
            refine wpAny_take (i := 6) (v := .agg #[.int .i64 2, .int .i64 2, .int .i64 0]) rfl (by kernel_rfl) (by kernel_rfl) (by kernel_rfl) (fun _ _ _ h => h) (Or.inl ⟨by rfl, by intro w; rfl⟩) ?_
            have c7 := j7
            have c3 := j3
            have hbl := hb6
            obtain ⟨t8, t9, k8, k9⟩ := FIN.out _ _ _ (by have := hb5.size; omega) (by have := hb5.size; omega) (by omega) c7 c3 hbl
            refine wpAny_store (i := 9) (by kernel_rfl) rfl (by kernel_rfl) 39 (.tmp 5) (.tmp 22) rfl _ 0 #[.int .i64 0, .int .i64 0, .string ⟨#[]⟩, .slice none 0 0, .slice none 0 0, .slice none 0 0, .int .i64 0] rfl rfl t8 (by kernel_rfl) (by kernel_rfl) ?_
            refine wpAny_store (i := 10) (by kernel_rfl) rfl (by kernel_rfl) 28 (.tmp 6) (.tmp 23) rfl _ 0 #[.int .i64 2, .int .i64 2, .int .i64 0] rfl rfl t9 (by kernel_rfl) (by kernel_rfl) ?_
            refine wpAny_done (by kernel_rfl) ?_ _
            go_wp2
            go_meet
            case rel => exact ⟨_, _, rfl, rfl, k8, k9⟩
          exact AllReady.nil
        exact AllReady.nil
      exact AllReady.nil
    refine AllReady.cons rfl (fun K hK => ?_) ?_
    · go_simp
      refine hK _ _ ?_
      clear hK K
      refine wpAny_ready (rs := [0, 7]) (by kernel_rfl) (by simp) ?_
      refine AllReady.cons rfl (fun K hK => ?_) ?_
      · go_simp
        refine (HA.out _).mono ?_
        rintro e w5 ⟨hb5r, R5, rfl, t1, t2, t3⟩
        have hb5 := bel_next (show Below W4.heap.size W4 _ from (one_alloc _ _).drew) hb5r
        have j3 := al3d hb5r
        refine hK _ _ ?_
        clear hK K hb5r
        refine wpAny_ready (rs := [3, 7]) (by kernel_rfl) (by simp) ?_
        refine AllReady.cons rfl (fun K hK => ?_) ?_
        · go_simp
          refine Calls.mono (HQ4.out w5 hb5 R5 t1 t2 t3 _ (Below.refl _ _)) ?_
          rintro e w6 ⟨hb6r, rfl⟩
          have hb56 := bel_next (show Below w5.heap.size w5 _ from Below.refl _ _) hb6r
          have hb6 := bel_next hb5 hb56
          have hl56 := hb56.size
          have l3 := j3.lt
          replace j3 := j3.on hb56
          refine hK _ _ ?_
          clear hK K hb6r
          refine wpAny_take (i := 4) (v := .tuple #[nilV, .agg #[.int .i64 2, .int .i64 2, .int .i64 0]]) rfl (by kernel_rfl) (by kernel_rfl) (by kernel_rfl) (fun _ _ _ h => h) (Or.inl ⟨by rfl, by intro w; rfl⟩) ?_
          refine wpAny_take (i := 5) (v := nilV) rfl (by kernel_rfl) (by kernel_rfl) (by kernel_rfl) (fun _ _ _ h => h) (Or.inl ⟨by rfl, by intro w; rfl⟩) ?_
          refine wpAny_take (i := 6) (v := .agg #[.int .i64 2, .int .i64 2, .int .i64 0]) rfl (by kernel_rfl) (by kernel_rfl) (by kernel_rfl) (fun _ _ _ h => h) (Or.inl ⟨by rfl, by intro w; rfl⟩) ?_
          refine wpAny_ready (rs := [7]) (by kernel_rfl) (by simp) ?_
          refine AllReady.cons rfl (fun K hK => ?_) ?_
          · go_simp
            refine hK _ _ ?_
            clear hK K
            have c7 := al7 (A := w6) (Below.refl _ _)
            have c3 := j3.on (one_alloc w6 (.cells #[.int .i64 0, .int .i64 0, .string ⟨#[]⟩, .slice none 0 0, .slice none 0 0, .slice none 0 0, .int .i64 0] 39))
            have hbl := bel_next hb6 (one_alloc w6 (.cells #[.int .i64 0, .int .i64 0, .string ⟨#[]⟩, .slice none 0 0, .slice none 0 0, .slice none 0 0, .int .i64 0] 39))
            obtain ⟨t8, t9, k8, k9⟩ := FIN.out _ _ _ (by have := hb5.size; omega) (by have := hb5.size; omega) (by omega) c7 c3 hbl
            refine wpAny_store (i := 9) (by kernel_rfl) rfl (by kernel_rfl) 39 (.tmp 5) (.tmp 22) rfl _ 0 #[.int .i64 0, .int .i64 0, .string ⟨#[]⟩, .slice none 0 0, .slice none 0 0, .slice none 0 0, .int .i64 0] rfl rfl t8 (by kernel_rfl) (by kernel_rfl) ?_
            refine wpAny_store (i := 10) (by kernel_rfl) rfl (by kernel_rfl) 28 (.tmp 6) (.tmp 23) rfl _ 0 #[.int .i64 2, .int .i64 2, .int .i64 0] rfl rfl t9 (by kernel_rfl) (by kernel_rfl) ?_
            refine wpAny_done (by kernel_rfl) ?_ _
            go_wp2
            go_meet
            case rel => exact ⟨_, _, rfl, rfl, k8, k9⟩
          exact AllReady.nil
        refine AllReady.cons rfl (fun K hK => ?_) ?_
        · go_simp
          refine hK _ _ ?_
          clear hK K
          refine wpAny_ready (rs := [3]) (by kernel_rfl) (by simp) ?_
          refine AllReady.cons rfl (fun K hK => ?_) ?_
          · go_simp
            refine Calls.mono (HQ4.out w5 hb5 R5 t1 t2 t3 _ (one_alloc _ _)) ?_
            rintro e w6 ⟨hb6r, rfl⟩
            have hb56 := bel_next (show Below w5.heap.size w5 _ from one_alloc _ _) hb6r
            have hb6 := bel_next hb5 hb56
            have hl56 := hb56.size
            have l3 := j3.lt
            replace j3 := j3.on hb56
            have j7 := al7 hb6r
            have l7 := j7.lt
            refine hK _ _ ?_
            clear hK K hb6r
            refine wpAny_take (i := 4) (v := .tuple #[nilV, .agg #[.int .i64 2, .int .i64 2, .int .i64 0]]) rfl (by kernel_rfl) (by kernel_rfl) (by kernel_rfl) (fun _ _ _ h => h) (Or.inl ⟨by rfl, by intro w; rfl⟩) ?_
            refine wpAny_take (i := 5) (v := nilV) rfl (by kernel_rfl) (by kernel_rfl) (by kernel_rfl) (fun _ _ _ h => h) (Or.inl ⟨by rfl, by intro w; rfl⟩) ?_
            refine wpAny_take (i := 6) (v := .agg #[.int .i64 2, .int .i64 2, .int .i64 0]) rfl (by kernel_rfl) (by kernel_rfl) (by kernel_rfl) (fun _ _ _ h => h) (Or.inl ⟨by rfl, by intro w; rfl⟩) ?_
            have c7 := j7
            have c3 := j3
            have hbl := hb6
            obtain ⟨t8, t9, k8, k9⟩ := FIN.out _ _ _ (by have := hb5.size; omega) (by have := hb5.size; omega) (by omega) c7 c3 hbl
            refine wpAny_store (i := 9) (by kernel_rfl) rfl (by kernel_rfl) 39 (.tmp 5) (.tmp 22) rfl _ 0 #[.int .i64 0, .int .i64 0, .string ⟨#[]⟩, .slice none 0 0, .slice none 0 0, .slice none 0 0, .int .i64 0] rfl rfl t8 (by kernel_rfl) (by kernel_rfl) ?_
            refine wpAny_store (i := 10) (by kernel_rfl) rfl (by kernel_rfl) 28 (.tmp 6) (.tmp 23) rfl _ 0 #[.int .i64 2, .int .i64 2, .int .i64 0] rfl rfl t9 (by kernel_rfl) (by kernel_rfl) ?_
            refine wpAny_done (by kernel_rfl) ?_ _
            go_wp2
            go_meet
            case rel => exact ⟨_, _, rfl, rfl, k8, k9⟩
          exact AllReady.nil
        exact AllReady.nil
      refine AllReady.cons rfl (fun K hK => ?_) ?_
      · go_simp
        refine hK _ _ ?_
        clear hK K
        refine wpAny_ready (rs := [0]) (by kernel_rfl) (by simp) ?_
        refine AllReady.cons rfl (fun K hK => ?_) ?_
        · go_simp
          refine (HA.out _).mono ?_
          rintro e w5 ⟨hb5r, R5, rfl, t1, t2, t3⟩
          have hb5 := bel_next (show Below W4.heap.size W4 _ from (two_allocs _ _ _).drew) hb5r
          obtain ⟨j7, j3⟩ := al37d hb5r
          refine hK _ _ ?_
          clear hK K hb5r
          refine wpAny_ready (rs := [3]) (by kernel_rfl) (by simp) ?_
          refine AllReady.cons rfl (fun K hK => ?_) ?_
          · go_simp
            refine Calls.mono (HQ4.out w5 hb5 R5 t1 t2 t3 _ (Below.refl _ _)) ?_
            rintro e w6 ⟨hb6r, rfl⟩
            have hb56 := bel_next (show Below w5.heap.size w5 _ from Below.refl _ _) hb6r
            have hb6 := bel_next hb5 hb56
            have hl56 := hb56.size
            have l3 := j3.lt
            replace j3 := j3.on hb56
            have l7 := j7.lt
            replace j7 := j7.on hb56
            refine hK _ _ ?_
            clear hK K hb6r
            refine wpAny_take (i := 4) (v := .tuple #[nilV, .agg #[.int .i64 2, .int .i64 2, .int .i64 0]]) rfl (by kernel_rfl) (by kernel_rfl) (by kernel_rfl) (fun _ _ _ h => h) (Or.inl ⟨by rfl, by intro w; rfl⟩) ?_
            refine wpAny_take (i := 5) (v := nilV) rfl (by kernel_rfl) (by kernel_rfl) (by kernel_rfl) (fun _ _ _ h => h) (Or.inl ⟨by rfl, by intro w; rfl⟩) ?_
            refine wpAny_take (i := 6) (v := .agg #[.int .i64 2, .int .i64 2, .int .i64 0]) rfl (by kernel_rfl) (by kernel_rfl) (by kernel_rfl) (fun _ _ _ h => h) (Or.inl ⟨by rfl, by intro w; rfl⟩) ?_
            have c7 := j7
            have c3 := j3
            have hbl := hb6
            obtain ⟨t8, t9, k8, k9⟩ := FIN.out _ _ _ (by have := hb5.size; omega) (by have := hb5.size; omega) (by omega) c7 c3 hbl
            refine wpAny_store (i := 9) (by kernel_rfl) rfl (by kernel_rfl) 39 (.tmp 5) (.tmp 22) rfl _ 0 #[.int .i64 0, .int .i64 0, .string ⟨#[]⟩, .slice none 0 0, .slice none 0 0, .slice none 0 0, .int .i64 0] rfl rfl t8 (by kernel_rfl) (by kernel_rfl) ?_
            refine wpAny_store (i := 10) (by kernel_rfl) rfl (by kernel_rfl) 28 (.tmp 6) (.tmp 23) rfl _ 0 #[.int .i64 2, .int .i64 2, .int .i64 0] rfl rfl t9 (by kernel_rfl) (by kernel_rfl) ?_
            refine wpAny_done (by kernel_rfl) ?_ _
            go_wp2
            go_meet
            case rel => exact ⟨_, _, rfl, rfl, k8, k9⟩
          exact AllReady.nil
        exact AllReady.nil
      exact AllReady.nil
    exact AllReady.nil
  case rest =>
    obtain ⟨p, q, rfl, rfl, hbc, z0, z1⟩ := hcut
    obtain ⟨hb9, q0, q1, q2, b, rfl, q3⟩ := KS.out _ hbc
    clear HQ4 FIN HA KS HD0
    go_wp2
    go_ret
    exact ⟨rfl, HBW.out.trans (Below.mono hbc HBW.out.size)⟩
end Go.Proofs.Ytnaejfoighmfeaa.Rn
namespace Go.Proofs.Ytnaejfoighmfeaa
open Go.ChangeShapes Go.WideShapes Go.ChangeAt Go.RowKit Go.Deep
set_option maxRecDepth 100000
set_option linter.unusedVariables false
theorem cells9 : Try.prog.cellsOf 9 = 1 := by kernel_rfl
instance : Inhabited Nd := ⟨nNil⟩
section
variable {H : Type} {enc : TypeId × Value → H} {W : World} {sp : Nat → Bool} {held : Bool}
end
end Go.Proofs.Ytnaejfoighmfeaa
namespace Go.Proofs.Ytnaejfoighmfeaa
open Go.ChangeShapes Go.WideShapes Go.ChangeAt Go.RowKit Go.Deep
set_option maxRecDepth 100000
set_option linter.unusedVariables false
set_option linter.unusedSimpArgs false
theorem cells43 : Try.prog.cellsOf 43 = 5 := by kernel_rfl
theorem cells24 : Try.prog.cellsOf 24 = 14 := by kernel_rfl
theorem cells22s : Try.prog.cellsOf 22 = 1 := by kernel_rfl
theorem cells4 : Try.prog.cellsOf 4 = 1 := by kernel_rfl
theorem cells36t : Try.prog.cellsOf 36 = 2 := by kernel_rfl
/-- Texts in a row, however many. -/
def StrsR (w : World) (a : Option Addr) (l : List ByteArray) : Prop := ∀ j, j < l.length → ∃ b off, a = some ⟨b, off, none⟩ ∧ b < w.heap.size ∧ w.cell? ⟨b, off + j, none⟩ = some (.string (sAt l j))
theorem StrsR.few {w : World} {a : Option Addr} {l : List ByteArray} (h : StrsR w a l) (hl : l.length ≤ 1000) : StrsIn w a l := ⟨hl, h⟩
theorem five_of {W : World} {a : Addr} {cs : List Value} (h : W.cells? 0 a 5 = some cs) : ∃ c0 c1 c2 c3 c4, cs = [c0, c1, c2, c3, c4] ∧ W.cell? a = some c0 ∧ W.cell? (a.add 1) = some c1 ∧ W.cell? (a.add 2) = some c2 ∧ W.cell? (a.add 3) = some c3 ∧ W.cell? (a.add 4) = some c4 := by
  obtain ⟨_, hl, hc⟩ := World.cells?_some h
  match cs, hl with
  | [c0, c1, c2, c3, c4], _ =>
    have h0 := hc 0 (by omega)
    have h1 := hc 1 (by omega)
    have h2 := hc 2 (by omega)
    have h3 := hc 3 (by omega)
    have h4 := hc 4 (by omega)
    exact ⟨c0, c1, c2, c3, c4, rfl, by simpa [Addr.add] using h0, by simpa using h1, by simpa using h2, by simpa using h3, by simpa using h4⟩
section
variable {H : Type} {enc : TypeId × Value → H} {W : World} {sp : Nat → Bool} {held : Bool}
theorem fit_tok {H : Type} {d0 d1 d2 d3 : DataW H} (h : Fit 43 (.agg [d0, d1, d2, d3])) : Fit 9 d1 ∧ Fit 36 d2 := by
  unfold Fit at *
  simp only [DataW.weights, Try.underlying43, DataW.weightsEach, List.map_cons, List.map_nil, List.append_nil, List.mem_append] at h
  exact ⟨fun n hn => h n (Or.inr (Or.inl hn)), fun n hn => h n (Or.inr (Or.inr (Or.inl hn)))⟩
theorem trod_struct4 {P : Program} {w : World} {base : Nat} {spare : Nat → Bool} {t : TypeId} {f0 f1 f2 f3 : Field} {fuel : Nat} {cs : List Value} {x : DataW H × List MemPlace} (ht : P.underlying t = some (.struct #[f0, f1, f2, f3])) (h : DataW.trod enc P w base spare held fuel t cs = some x) :
    ∃ y0 y1 y2 y3 n, x.1 = .agg [y0.1, y1.1, y2.1, y3.1] ∧ cs.length = P.cellsOf t ∧ DataW.trod enc P w base spare held n f0.type ((cs.drop f0.offset).take (P.cellsOf f0.type)) = some y0 ∧
      DataW.trod enc P w base spare held n f1.type ((cs.drop f1.offset).take (P.cellsOf f1.type)) = some y1 ∧ DataW.trod enc P w base spare held n f2.type ((cs.drop f2.offset).take (P.cellsOf f2.type)) = some y2 ∧ DataW.trod enc P w base spare held n f3.type ((cs.drop f3.offset).take (P.cellsOf f3.type)) = some y3 := by
  obtain ⟨xs, n, _, rfl, hl, hlen, hf⟩ := DataW.trod_struct ht h
  match xs, hlen with
  | [y0, y1, y2, y3], _ => exact ⟨y0, y1, y2, y3, n, by simp, hl, by simpa using hf 0 f0 rfl, by simpa using hf 1 f1 rfl, by simpa using hf 2 f2 rfl, by simpa using hf 3 f3 rfl⟩
/-- A word that came in. -/
theorem open_tok {fuel : Nat} {x : DataW H × List MemPlace} {cs : List Value} (h : DataW.trod enc Try.prog W 0 sp held fuel 43 cs = some x) (hf : Fit 43 x.1) :
    ∃ n t z1 m1 z2 m2, cs = [.int .i64 (Wo.kind t), .string t.text, .slice z1 t.lit.shape.length m1, .slice z2 t.lit.cells.length m2, .int .i64 t.pos] ∧ t.text.size ≤ 140737488355328 ∧ ArIn n 0 W t.lit (.agg #[.slice z1 t.lit.shape.length m1, .slice z2 t.lit.cells.length m2]) := by
  obtain ⟨y0, y1, y2, y3, n0, hx0, hl, h0, h1, h2, h3⟩ := trod_struct4 Try.underlying43 h
  rw [cells43] at hl
  match cs, hl with
  | [v0, v1, v2, v3, v4], _ =>
    simp only [cells3, cells9, cells36t, List.drop_zero, List.take_succ_cons, List.take_zero, List.drop_succ_cons] at h0 h1 h2 h3
    rw [hx0] at hf
    obtain ⟨f1, f2⟩ := fit_tok hf
    obtain ⟨z0, e0, -, -⟩ := DataW.trod_int Try.underlying3 h0
    obtain ⟨s1, e1, r1, -⟩ := DataW.trod_string Try.underlying9 h1
    have l1 : s1.size ≤ 140737488355328 := by
      have hh := f1 s1.data.toList.length (by rw [r1]; simp [DataW.weights])
      have h3 : s1.data.toList.length = s1.size := Array.length_toList
      unfold reachBytes at hh
      omega
    obtain ⟨z3, e3, -, -⟩ := DataW.trod_int Try.underlying3 h3
    simp only [List.cons.injEq, and_true] at e0 e1 e3
    subst e0 e1 e3
    obtain ⟨n3, A, c0, c1, hc3, hA, -⟩ := open_arr (SizeOf.sizeOf y2.1 + 1) y2 _ n0 (by omega) h2 f2
    simp only [List.cons.injEq, and_true] at hc3
    obtain ⟨rfl, rfl⟩ := hc3
    cases n3 with
    | zero => exact hA.elim
    | succ n3 =>
      have hA' := hA
      obtain ⟨a1, k1, a2, k2, hv, -⟩ := hA
      simp only [Value.agg.injEq, Array.mk.injEq, List.cons.injEq, and_true] at hv
      obtain ⟨rfl, rfl⟩ := hv
      exact ⟨n3 + 1, ⟨z0, s1, A, z3⟩, a1, k1, a2, k2, rfl, l1, hA'⟩
instance : Inhabited Wo := ⟨woNil⟩
/-- Words that came in. -/
theorem open_toks {fuel : Nat} {x : DataW H × List MemPlace} {cs : List Value} (h : DataW.trod enc Try.prog W 0 sp held fuel 25 cs = some x) (hf : Fit 25 x.1) :
    ∃ n ws a c, cs = [.slice a (List.length ws) c] ∧ WoR n W a ws := by
  rcases open_slice Try.underlying25 h with ⟨hcs, hx⟩ | ⟨a, len, cap, mm, n, D, Pl, hcs, _, hlc, hm, hmm, hx, hel⟩
  · exact ⟨1, [], none, 0, hcs, fun i hi => absurd hi (by simp)⟩
  · rw [hx] at hf
    obtain ⟨hb, hfe⟩ := fit_slice Try.underlying25 hf
    have hlm : len ≤ mm := by rw [hmm]; split <;> omega
    have hE : ∀ i, i < len → ∃ p : Wo, ∃ n, ∃ z1 m1 z2 m2, W.cell? (a.add (i * 5)) = some (.int .i64 p.kind) ∧ W.cell? (a.add (i * 5 + 1)) = some (.string p.text) ∧ W.cell? (a.add (i * 5 + 2)) = some (.slice z1 p.lit.shape.length m1) ∧ W.cell? (a.add (i * 5 + 3)) = some (.slice z2 p.lit.cells.length m2) ∧ W.cell? (a.add (i * 5 + 4)) = some (.int .i64 p.pos) ∧ p.text.size ≤ 140737488355328 ∧ ArIn n 0 W p.lit (.agg #[.slice z1 p.lit.shape.length m1, .slice z2 p.lit.cells.length m2]) := by
      intro i hi
      obtain ⟨cs', hc', ht'⟩ := hel i (by omega)
      rw [cells43] at hc'
      obtain ⟨w0, w1, w2, w3, w4, rfl, g0, g1, g2, g3, g4⟩ := five_of hc'
      rw [add_add] at g1 g2 g3 g4
      have hmem : D i ∈ (List.range len).map D := List.mem_map_of_mem (List.mem_range.2 hi)
      obtain ⟨n', t, z1, m1, z2, m2, hcc, hs, hA⟩ := open_tok ht' (hfe _ hmem)
      simp only [List.cons.injEq, and_true] at hcc
      obtain ⟨rfl, rfl, rfl, rfl, rfl⟩ := hcc
      exact ⟨t, n', z1, m1, z2, m2, g0, g1, g2, g3, g4, hs, hA⟩
    obtain ⟨F, hF⟩ := choose_lt hE
    obtain ⟨N, hN⟩ := fuel_lt (n := len) (q := fun i n => ∃ z1 m1 z2 m2, W.cell? (a.add (i * 5)) = some (.int .i64 (F i).kind) ∧ W.cell? (a.add (i * 5 + 1)) = some (.string (F i).text) ∧ W.cell? (a.add (i * 5 + 2)) = some (.slice z1 (F i).lit.shape.length m1) ∧ W.cell? (a.add (i * 5 + 3)) = some (.slice z2 (F i).lit.cells.length m2) ∧ W.cell? (a.add (i * 5 + 4)) = some (.int .i64 (F i).pos) ∧ (F i).text.size ≤ 140737488355328 ∧ ArIn n 0 W (F i).lit (.agg #[.slice z1 (F i).lit.shape.length m1, .slice z2 (F i).lit.cells.length m2])) (fun i a b hab ⟨z1, m1, z2, m2, g0, g1, g2, g3, g4, g5, h⟩ => ⟨z1, m1, z2, m2, g0, g1, g2, g3, g4, g5, h.deep hab⟩) (fun i hi => hF i hi)
    refine ⟨N, (List.range len).map F, some a, cap, by rw [hcs]; simp, fun i hi => ?_⟩
    have hi' : i < len := by simpa using hi
    have hw : wAt ((List.range len).map F) i = F i := by simp [wAt, hi']
    rw [hw]
    obtain ⟨z1, m1, z2, m2, g0, g1, g2, g3, g4, g5, g6⟩ := hN i hi'
    obtain ⟨b, off, spot⟩ := a
    have hspot : spot = none := by
      obtain ⟨_, _, _, _, q0, _⟩ := hN 0 (by omega)
      simpa [Addr.add] using World.cell?_spot q0
    subst hspot
    rw [add_off] at g0 g1 g2 g3 g4
    refine ⟨b, off, z1, m1, z2, m2, rfl, ?_, g0, by rw [Nat.add_assoc]; exact g1, by rw [Nat.add_assoc]; exact g2, by rw [Nat.add_assoc]; exact g3, by rw [Nat.add_assoc]; exact g4, g5, g6⟩
    refine Decidable.byContradiction fun hbn => ?_
    have : W.heap[b]? = none := by simp; omega
    simp [World.cell?, this] at g0
/-- Texts that came in. -/
theorem open_texts {fuel : Nat} {x : DataW H × List MemPlace} {cs : List Value} (h : DataW.trod enc Try.prog W 0 sp held fuel 22 cs = some x) :
    ∃ l a c, cs = [.slice a (List.length l) c] ∧ StrsR W a l := by
  rcases open_strs Try.underlying22 Try.underlying9 cells9 h with ⟨hcs, hx⟩ | ⟨a, len, cap, mm, Sx, hcs, _, hlc, hm, hmm, hx, hel⟩
  · exact ⟨[], none, 0, hcs, fun i hi => absurd hi (by simp)⟩
  · have hlm : len ≤ mm := by rw [hmm]; split <;> omega
    refine ⟨(List.range len).map Sx, some a, cap, by rw [hcs]; simp, fun i hi => ?_⟩
    have hi' : i < len := by simpa using hi
    have hw : sAt ((List.range len).map Sx) i = Sx i := by simp [sAt, hi']
    rw [hw]
    have g0 := (hel i (by omega)).1
    obtain ⟨b, off, spot⟩ := a
    have hspot : spot = none := by simpa [Addr.add] using World.cell?_spot (hel 0 (by omega)).1
    subst hspot
    rw [add_off] at g0
    refine ⟨b, off, rfl, ?_, g0⟩
    refine Decidable.byContradiction fun hbn => ?_
    have : W.heap[b]? = none := by simp; omega
    simp [World.cell?, this] at g0
theorem one_bool {P : Program} {w : World} {base : Nat} {spare : Nat → Bool} {t : TypeId} {fuel : Nat} {cs : List Value} {x : DataW H × List MemPlace} (ht : P.underlying t = some .bool) (h : DataW.trod enc P w base spare held fuel t cs = some x) : ∃ b, cs = [.bool b] := by
  obtain ⟨b, hb, -⟩ := DataW.trod_bool ht h
  exact ⟨b, hb⟩
theorem one_string {P : Program} {w : World} {base : Nat} {spare : Nat → Bool} {t : TypeId} {fuel : Nat} {cs : List Value} {x : DataW H × List MemPlace} (ht : P.underlying t = some .string) (h : DataW.trod enc P w base spare held fuel t cs = some x) : ∃ b, cs = [.string b] := by
  obtain ⟨b, hb, -⟩ := DataW.trod_string ht h
  exact ⟨b, hb⟩
theorem trod_struct14 {P : Program} {w : World} {base : Nat} {spare : Nat → Bool} {t : TypeId} {f0 f1 f2 f3 f4 f5 f6 f7 f8 f9 f10 f11 f12 f13 : Field} {fuel : Nat} {cs : List Value} {x : DataW H × List MemPlace} (ht : P.underlying t = some (.struct #[f0, f1, f2, f3, f4, f5, f6, f7, f8, f9, f10, f11, f12, f13])) (h : DataW.trod enc P w base spare held fuel t cs = some x) :
    ∃ y0 y1 y2 y3 y4 y5 y6 y7 y8 y9 y10 y11 y12 y13 n, cs.length = P.cellsOf t ∧ DataW.trod enc P w base spare held n f0.type ((cs.drop f0.offset).take (P.cellsOf f0.type)) = some y0 ∧ DataW.trod enc P w base spare held n f1.type ((cs.drop f1.offset).take (P.cellsOf f1.type)) = some y1 ∧ DataW.trod enc P w base spare held n f2.type ((cs.drop f2.offset).take (P.cellsOf f2.type)) = some y2 ∧ DataW.trod enc P w base spare held n f3.type ((cs.drop f3.offset).take (P.cellsOf f3.type)) = some y3 ∧ DataW.trod enc P w base spare held n f4.type ((cs.drop f4.offset).take (P.cellsOf f4.type)) = some y4 ∧ DataW.trod enc P w base spare held n f5.type ((cs.drop f5.offset).take (P.cellsOf f5.type)) = some y5 ∧ DataW.trod enc P w base spare held n f6.type ((cs.drop f6.offset).take (P.cellsOf f6.type)) = some y6 ∧ DataW.trod enc P w base spare held n f7.type ((cs.drop f7.offset).take (P.cellsOf f7.type)) = some y7 ∧ DataW.trod enc P w base spare held n f8.type ((cs.drop f8.offset).take (P.cellsOf f8.type)) = some y8 ∧ DataW.trod enc P w base spare held n f9.type ((cs.drop f9.offset).take (P.cellsOf f9.type)) = some y9 ∧ DataW.trod enc P w base spare held n f10.type ((cs.drop f10.offset).take (P.cellsOf f10.type)) = some y10 ∧ DataW.trod enc P w base spare held n f11.type ((cs.drop f11.offset).take (P.cellsOf f11.type)) = some y11 ∧ DataW.trod enc P w base spare held n f12.type ((cs.drop f12.offset).take (P.cellsOf f12.type)) = some y12 ∧ DataW.trod enc P w base spare held n f13.type ((cs.drop f13.offset).take (P.cellsOf f13.type)) = some y13 := by
  obtain ⟨xs, n, _, rfl, hl, hlen, hf⟩ := DataW.trod_struct ht h
  match xs, hlen with
  | [y0, y1, y2, y3, y4, y5, y6, y7, y8, y9, y10, y11, y12, y13], _ => exact ⟨y0, y1, y2, y3, y4, y5, y6, y7, y8, y9, y10, y11, y12, y13, n, hl, by simpa using hf 0 f0 rfl, by simpa using hf 1 f1 rfl, by simpa using hf 2 f2 rfl, by simpa using hf 3 f3 rfl, by simpa using hf 4 f4 rfl, by simpa using hf 5 f5 rfl, by simpa using hf 6 f6 rfl, by simpa using hf 7 f7 rfl, by simpa using hf 8 f8 rfl, by simpa using hf 9 f9 rfl, by simpa using hf 10 f10 rfl, by simpa using hf 11 f11 rfl, by simpa using hf 12 f12 rfl, by simpa using hf 13 f13 rfl⟩
/-- A grammar that came in. -/
theorem open_gram {fuel : Nat} {x : DataW H × List MemPlace} {cs : List Value} (h : DataW.trod enc Try.prog W 0 sp held fuel 24 cs = some x) :
    ∃ (g : Gr) (R : Raw), cs = (gV g R).cells.toList ∧ StrsR W R.av g.verbs ∧ StrsR W R.aa g.adverbs ∧ StrsR W R.ab g.behind := by
  obtain ⟨y0, y1, y2, y3, y4, y5, y6, y7, y8, y9, y10, y11, y12, y13, n, hl, h0, h1, h2, h3, h4, h5, h6, h7, h8, h9, h10, h11, h12, h13⟩ := trod_struct14 Try.underlying24 h
  rw [cells24] at hl
  match cs, hl with
  | [v0, v1, v2, v3, v4, v5, v6, v7, v8, v9, v10, v11, v12, v13], _ =>
      simp only [cells4, cells9, cells22s, List.drop_zero, List.take_succ_cons, List.take_zero, List.drop_succ_cons] at h0 h1 h2 h3 h4 h5 h6 h7 h8 h9 h10 h11 h12 h13
      obtain ⟨la, aa, ca, e0, ra⟩ := open_texts h0
      obtain ⟨lb, ab, cb, e1, rb⟩ := open_texts h1
      obtain ⟨lc, ac, cc, e2, rc⟩ := open_texts h2
      obtain ⟨s3, e3⟩ := one_string Try.underlying9 h3
      obtain ⟨s4, e4⟩ := one_string Try.underlying9 h4
      obtain ⟨s5, e5⟩ := one_string Try.underlying9 h5
      obtain ⟨s6, e6⟩ := one_string Try.underlying9 h6
      obtain ⟨s7, e7⟩ := one_string Try.underlying9 h7
      obtain ⟨s8, e8⟩ := one_string Try.underlying9 h8
      obtain ⟨s9, e9⟩ := one_string Try.underlying9 h9
      obtain ⟨s10, e10⟩ := one_string Try.underlying9 h10
      obtain ⟨s11, e11⟩ := one_bool Try.underlying4 h11
      obtain ⟨s12, e12⟩ := one_bool Try.underlying4 h12
      obtain ⟨s13, e13⟩ := one_bool Try.underlying4 h13
      simp only [List.cons.injEq, and_true] at e0 e1 e2 e3 e4 e5 e6 e7 e8 e9 e10 e11 e12 e13
      subst e0 e1 e2 e3 e4 e5 e6 e7 e8 e9 e10 e11 e12 e13
      exact ⟨⟨la, lb, lc, s3, s4, s5, s6, s7, s8, s11, s12, s13⟩, ⟨aa, ca, ab, cb, ac, cc, s9, s10, none, 0⟩, rfl, ra, rb, rc⟩
end
end Go.Proofs.Ytnaejfoighmfeaa
namespace Go.Proofs.Ytnaejfoighmfeaa
open Go.ChangeShapes Go.WideShapes Go.ChangeAt Go.RowKit
set_option maxRecDepth 100000
set_option linter.unusedVariables false
set_option linter.unusedSimpArgs false
/-- What comes comes there, too, turned, or a fault of depth. -/
def Sr {α β : Type} (k : α → β) (x : Rs α) (y : Rs β) : Prop := ∀ a, x = .ok a → y = .ok (k a) ∨ ∃ p, y = .bad 15 p
theorem Sr.ok {α β : Type} {k : α → β} {a : α} {b : β} (h : b = k a) : Sr k (.ok a) (.ok b) := fun c hc => by cases hc; exact Or.inl (by rw [h])
theorem Sr.bad {α β : Type} {k : α → β} {e p : Int} {y : Rs β} : Sr k (.bad e p) y := fun c hc => by cases hc
theorem Sr.stuck {α β : Type} {k : α → β} {y : Rs β} : Sr k .stuck y := fun c hc => by cases hc
theorem Sr.deep {α β : Type} {k : α → β} {x : Rs α} {p : Int} : Sr k x (.bad 15 p) := fun c hc => Or.inr ⟨p, rfl⟩
theorem Sr.bind {α β γ δ : Type} {k : α → β} {m : γ → δ} {x : Rs α} {y : Rs β} {f : α → Rs γ} {h : β → Rs δ} (hx : Sr k x y) (hf : ∀ a, x = .ok a → Sr m (f a) (h (k a))) : Sr m (x.bind f) (y.bind h) := by
  intro c hc
  obtain ⟨a, h1, h2⟩ := Rs.bind_ok hc
  rcases hx a h1 with h3 | ⟨p, h3⟩
  · rw [h3]; exact hf a h1 c h2
  · rw [h3]; exact Or.inr ⟨p, rfl⟩
end Go.Proofs.Ytnaejfoighmfeaa
namespace Go.Proofs.Ytnaejfoighmfeaa
open Go.ChangeShapes Go.WideShapes Go.ChangeAt Go.RowKit
set_option maxRecDepth 100000
set_option linter.unusedVariables false
set_option linter.unusedSimpArgs false
def kF (z : List Wo) (q : Nd × List Wo) : Nd × List Wo := (q.1, q.2 ++ z)
def SF (g : Gr) (z : List Wo) (F F' : FT) : Prop := ∀ b l, wholeR g b l ≠ 0 → Sr (kF z) (F l) (F' (l ++ z))
end Go.Proofs.Ytnaejfoighmfeaa
namespace Go.Proofs.Ytnaejfoighmfeaa
open Go.ChangeShapes Go.WideShapes Go.ChangeAt Go.RowKit
set_option maxRecDepth 100000
set_option linter.unusedVariables false
set_option linter.unusedSimpArgs false
/-- A node that was boxed, in a later world. -/
def Box7 (w : World) (B : Nat) (K O : Int) (S : ByteArray) (s1 s2 sk : Value) (P : Int) (wr : World) : Prop :=
  Below w.heap.size w wr ∧ B < wr.heap.size ∧ wr.cell? ⟨B, 0, none⟩ = some (.int .i64 K) ∧ wr.cell? ⟨B, 1, none⟩ = some (.int .i64 O) ∧ wr.cell? ⟨B, 2, none⟩ = some (.string S) ∧ wr.cell? ⟨B, 3, none⟩ = some s1 ∧ wr.cell? ⟨B, 4, none⟩ = some s2 ∧ wr.cell? ⟨B, 5, none⟩ = some sk ∧ wr.cell? ⟨B, 6, none⟩ = some (.int .i64 P)
theorem box7_new (w : World) (K O : Int) (S : ByteArray) (s1 s2 sk : Value) (P : Int) : Box7 w w.heap.size K O S s1 s2 sk P (w.alloc (.cells #[.int .i64 K, .int .i64 O, .string S, s1, s2, sk, .int .i64 P] 39)) :=
  ⟨one_alloc w _, by simp, cell_new0 w _ 39 0 _ rfl, cell_new0 w _ 39 1 _ rfl, cell_new0 w _ 39 2 _ rfl, cell_new0 w _ 39 3 _ rfl, cell_new0 w _ 39 4 _ rfl, cell_new0 w _ 39 5 _ rfl, cell_new0 w _ 39 6 _ rfl⟩
theorem Box7.next {w : World} {B : Nat} {K O : Int} {S : ByteArray} {s1 s2 sk : Value} {P : Int} {wr w' : World} (h : Box7 w B K O S s1 s2 sk P wr) (hb : Below wr.heap.size wr w') : Box7 w B K O S s1 s2 sk P w' := by
  obtain ⟨h0, hs, q0, q1, q2, q3, q4, q5, q6⟩ := h
  exact ⟨h0.trans (hb.mono h0.size), Nat.lt_of_lt_of_le hs hb.size, (hb.cell (p := ⟨B, 0, none⟩) hs).trans q0, (hb.cell (p := ⟨B, 1, none⟩) hs).trans q1, (hb.cell (p := ⟨B, 2, none⟩) hs).trans q2, (hb.cell (p := ⟨B, 3, none⟩) hs).trans q3, (hb.cell (p := ⟨B, 4, none⟩) hs).trans q4, (hb.cell (p := ⟨B, 5, none⟩) hs).trans q5, (hb.cell (p := ⟨B, 6, none⟩) hs).trans q6⟩
end Go.Proofs.Ytnaejfoighmfeaa
namespace Go.Proofs.Ytnaejfoighmfeaa
open Go.ChangeShapes Go.WideShapes Go.ChangeAt Go.RowKit
set_option maxRecDepth 100000
set_option linter.unusedVariables false
theorem firstUp_all {f : Nat → Int} {m : Nat} (h : ∀ i, i < m → f i = 0) : firstUp f m = 0 := by
  induction m with
  | zero => rfl
  | succ m ih => simp only [firstUp]; rw [ih fun i hi => h i (by omega), if_pos rfl]; exact h m (by omega)
theorem cmpC_self {f : Ar → Ar → Int} (hf : ∀ x, f x x = 0) (c : Ce) : cmpC f c c = 0 := by
  unfold cmpC
  simp [cmp3_self, hf]
theorem cmpA_self (n : Nat) (x : Ar) : cmpA n x x = 0 := by
  induction n generalizing x with
  | zero => rfl
  | succ n ih =>
    simp only [cmpA]
    rw [if_neg (by simp [cmp3_self]), if_neg (by
      have : firstUp (axF x x) x.shape.length = 0 := firstUp_all fun i _ => cmp3_self _
      simp [this]), if_neg (by
      have : firstUp (ceF (cmpA n) x x) (min x.cells.length x.cells.length) = 0 := firstUp_all fun i _ => cmpC_self ih _
      exact fun h => h this)]
    exact cmp3_self _
end Go.Proofs.Ytnaejfoighmfeaa
