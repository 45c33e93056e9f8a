/-
  For all texts of all three dialects the statement GrammarBrackets holds: a program in brackets is the same program, or it lies too deep; no condition (the given row speaks of what a machine of 64 bits can hold).
-/
import Derived.Test.YtnaejfoighmfeaaM11
import Derived.Laws.BitsAllLaws
import Derived.Lib.Bits
import Derived.Test.YtnaejfoighmfeaaChecked
import GoSem.Claim
import GoSem.ClaimJoined
import GoSem.ClaimMapViews
import Derived.JoinedTies
import Derived.KernelRfl
import Derived.WalkKit
import Derived.ProofKit
import Derived.Below
import Derived.Deep.QuietTactic
import Derived.BigQuiet
import Derived.Lib.SlBytesConst
import Derived.Laws.BytesArg
import Derived.Laws.MakeOwn
import Derived.Deep.RegionHeld3
import Derived.Laws.AppendOwnNone
import Derived.BigFrame
import Derived.OpenShut
import Derived.ChangeOld
import Derived.SizedLaws
import Derived.Deep.DeepHandedRow
import Derived.Lib.LaidTab
import Derived.Deep.OwnRows
import Derived.Deep.RegionWith
import Derived.Deep.Slices
import Derived.Deep.Strs
import Derived.Deep.LoopGhost
import Derived.Lib.ConvBytes
import Derived.Deep.RegionLaw
import Derived.Deep.CutRange
import Derived.Lib.SliceRun
import Derived.WalkLawsBesides
import Derived.Maps.AppendAt
import Derived.Deep.MidRow
import Derived.Defers
import Derived.Recover
import Derived.Deep.Cut
import Derived.ChangeMaps5
namespace Go.Proofs.Ytnaejfoighmfeaa.grammarBrackets
open Go.ChangeShapes Go.WideShapes Go.ChangeAt Go.RowKit
open Rn (Cs GvLx lex6 works8 bel_to GvPl parse9l RowOf row_words lt3 info43 strs_next WoR_room few_mem)
set_option linter.unusedVariables false
set_option linter.unusedSimpArgs false
set_option maxRecDepth 100000
set_option maxHeartbeats 8000000 in
theorem walk (d:Int) (s:ByteArray) (w:World):Calls Try.prog 3 #[.int .i64 d,.string s] w fun en w'=>en=.returned (.bool true)∧Below w.heap.size w w':=by
 obtain ⟨i0,hi,hz0,hz1,hz2⟩:=info_parts info43
 have HL:=hide (lex6 d s w)
 go_enter Try.func3,Try.ntmps3
 go_wp2_with fail
 refine HL.out.mono ?_
 rintro e w1 ⟨hb1,g,R,ws,a,c,er,pl,rfl,hc,hws,hg,t1,t2,t3⟩
 clear HL
 go_upto_region 2 with fail
 obtain ⟨W2,hW2⟩:∃ W2,(w1.alloc (.cells #[.slice R.av g.verbs.length R.cv,.slice R.aa g.adverbs.length R.ca,.slice R.ab g.behind.length R.cb,.string g.outer,.string g.power,.string g.opn,.string g.cls,.string g.left,.string g.right,.string R.mi,.string R.qu,.bool g.trains,.bool g.lone,.bool g.square] 24)).alloc (.cells #[.int .i64 er,.int .i64 pl,.int .i64 0] 28)=W2:=⟨_,rfl⟩
 rw [hW2]
 have b2:Below w1.heap.size w1 W2:=by rw [←hW2]; exact two_allocs _ _ _
 have s2:W2.heap.size=w1.heap.size+2:=by rw [←hW2]; simp
 have hG:Cs W2 w1.heap.size [.slice R.av g.verbs.length R.cv,.slice R.aa g.adverbs.length R.ca,.slice R.ab g.behind.length R.cb,.string g.outer,.string g.power,.string g.opn,.string g.cls,.string g.left,.string g.right,.string R.mi,.string R.qu,.bool g.trains,.bool g.lone,.bool g.square]:=by rw [←hW2]; exact (Cs.new w1 [.slice R.av g.verbs.length R.cv,.slice R.aa g.adverbs.length R.ca,.slice R.ab g.behind.length R.cb,.string g.outer,.string g.power,.string g.opn,.string g.cls,.string g.left,.string g.right,.string R.mi,.string R.qu,.bool g.trains,.bool g.lone,.bool g.square] 24).next (one_alloc _ _) (by simp)
 have hE:Cs W2 (w1.heap.size+1) [.int .i64 er,.int .i64 pl,.int .i64 0]:=by
  have hs1:(w1.alloc (.cells #[.slice R.av g.verbs.length R.cv,.slice R.aa g.adverbs.length R.ca,.slice R.ab g.behind.length R.cb,.string g.outer,.string g.power,.string g.opn,.string g.cls,.string g.left,.string g.right,.string R.mi,.string R.qu,.bool g.trains,.bool g.lone,.bool g.square] 24)).heap.size=w1.heap.size+1:=by simp
  have h:=Cs.new (w1.alloc (.cells #[.slice R.av g.verbs.length R.cv,.slice R.aa g.adverbs.length R.ca,.slice R.ab g.behind.length R.cb,.string g.outer,.string g.power,.string g.opn,.string g.cls,.string g.left,.string g.right,.string R.mi,.string R.qu,.bool g.trains,.bool g.lone,.bool g.square] 24)) [.int .i64 er,.int .i64 pl,.int .i64 0] 28
  rw [hs1] at h
  rw [←hW2]; exact h
 have KG:Hid (∀ W,Below W2.heap.size W2 W→Cs W w1.heap.size [.slice R.av g.verbs.length R.cv,.slice R.aa g.adverbs.length R.ca,.slice R.ab g.behind.length R.cb,.string g.outer,.string g.power,.string g.opn,.string g.cls,.string g.left,.string g.right,.string R.mi,.string R.qu,.bool g.trains,.bool g.lone,.bool g.square]):=fun W h=>hG.next h (by omega)
 have HB2:=hide (bel_to hb1 b2)
 have HWS:=hide (WoR.next hws b2)
 have HT:=hide (And.intro (strs_next t1 b2) (And.intro (strs_next t2 b2) (strs_next t3 b2)))
 have HCC:=hide hc
 have HLI:=hide (light7 (n:=1) (g:=g) (R:={ R with aw:=a,cw:=c }) (w:=W2) (ws:=ws) (WoR.next hws b2))
 obtain ⟨⟨e0,e1,e2⟩,el,ez⟩:=lt3 hE
 have hC:=hG
 have c0:=hC.c 0 _ rfl
 have c1:=hC.c 1 _ rfl
 have c2:=hC.c 2 _ rfl
 have c3:=hC.c 3 _ rfl
 have c4:=hC.c 4 _ rfl
 have c5:=hC.c 5 _ rfl
 have c6:=hC.c 6 _ rfl
 have c7:=hC.c 7 _ rfl
 have c8:=hC.c 8 _ rfl
 have c9:=hC.c 9 _ rfl
 have c10:=hC.c 10 _ rfl
 have c11:=hC.c 11 _ rfl
 have c12:=hC.c 12 _ rfl
 have c13:=hC.c 13 _ rfl
 clear hC
 clear hW2 b2 s2 hG hE hb1 hws t1 t2 t3 hc
 by_cases her:er=0
 ·subst her
  go_wp2_with fail
  refine HLI.out.mono ?_
  rintro en w3 ⟨⟨ok,rfl,hok⟩,hb3⟩
  clear e0 e1 e2 el ez c0 c1 c2 c3 c4 c5 c6 c7 c8 c9 c10 c11 c12 c13 HLI
  cases ok
  ·have HB3:=hide (bel_to HB2.out hb3)
   clear KG HWS HT HCC hb3
   go_wp2_with fail
   refine works8.mono ?_
   rintro en w4 ⟨rfl,hb4⟩
   go_wp2
   go_ret
   exact ⟨rfl,bel_to HB3.out hb4⟩
  have hf:=hok rfl
  have HFEW:=hide hf
  have HB3:=hide hb3
  have HP1:=hide (fun ee=>parse9l (n:=0) (w0:=W2) (w:=w3) (g:=g) (R:={ R with aw:=a,cw:=c }) (ws:=ws) (e:=ee) hb3 HT.out.1 HT.out.2.1 HT.out.2.2 (HWS.out.few hf))
  have hC:=KG.out w3 hb3
  have c0:=hC.c 0 _ rfl
  have c1:=hC.c 1 _ rfl
  have c2:=hC.c 2 _ rfl
  have c3:=hC.c 3 _ rfl
  have c4:=hC.c 4 _ rfl
  have c5:=hC.c 5 _ rfl
  have c6:=hC.c 6 _ rfl
  have c7:=hC.c 7 _ rfl
  have c8:=hC.c 8 _ rfl
  have c9:=hC.c 9 _ rfl
  have c10:=hC.c 10 _ rfl
  have c11:=hC.c 11 _ rfl
  have c12:=hC.c 12 _ rfl
  have c13:=hC.c 13 _ rfl
  clear hC
  clear hok hf hb3
  go_wp2_with fail
  refine (HP1.out _).mono ?_
  rintro en w4 ⟨hb4,k,ko,nm,z1,l1,m1,z2,l2,m2,zk,lk,mk,pp,e1,p1,rfl,hok1,hx1,hd1⟩
  clear c0 c1 c2 c3 c4 c5 c6 c7 c8 c9 c10 c11 c12 c13 HP1
  go_upto_region 6 with fail
  obtain ⟨W5,hW5⟩:∃ W5,(w4.alloc (.cells #[.int .i64 k,.int .i64 ko,.string nm,.slice z1 l1 m1,.slice z2 l2 m2,.slice zk lk mk,.int .i64 pp] 39)).alloc (.cells #[.int .i64 e1,.int .i64 p1,.int .i64 0] 28)=W5:=⟨_,rfl⟩
  rw [hW5]
  have b5:Below w4.heap.size w4 W5:=by rw [←hW5]; exact two_allocs _ _ _
  have s5:W5.heap.size=w4.heap.size+2:=by rw [←hW5]; simp
  have hK5:Cs W5 w4.heap.size [.int .i64 k,.int .i64 ko,.string nm,.slice z1 l1 m1,.slice z2 l2 m2,.slice zk lk mk,.int .i64 pp]:=by rw [←hW5]; exact (Cs.new w4 [.int .i64 k,.int .i64 ko,.string nm,.slice z1 l1 m1,.slice z2 l2 m2,.slice zk lk mk,.int .i64 pp] 39).next (one_alloc _ _) (by simp)
  have hF5:Cs W5 (w4.heap.size+1) [.int .i64 e1,.int .i64 p1,.int .i64 0]:=by
   have hs1:(w4.alloc (.cells #[.int .i64 k,.int .i64 ko,.string nm,.slice z1 l1 m1,.slice z2 l2 m2,.slice zk lk mk,.int .i64 pp] 39)).heap.size=w4.heap.size+1:=by simp
   have h:=Cs.new (w4.alloc (.cells #[.int .i64 k,.int .i64 ko,.string nm,.slice z1 l1 m1,.slice z2 l2 m2,.slice zk lk mk,.int .i64 pp] 39)) [.int .i64 e1,.int .i64 p1,.int .i64 0] 28
   rw [hs1] at h
   rw [←hW5]; exact h
  have HN5:=hide (fun (h0:e1=0)=>(show ∃ x m,parseS g (s.size:Int) ws=.ok x∧∀ W,Below W5.heap.size W5 W→NdIn m 1 0 W x (.agg #[.int .i64 k,.int .i64 ko,.string nm,.slice z1 l1 m1,.slice z2 l2 m2,.slice zk lk mk,.int .i64 pp]) from by
   obtain ⟨x,m,hx,hn⟩:=hok1 h0
   exact ⟨x,m,hx,fun W hW=>(hn.next b5).next hW⟩))
  have HB25:Hid (Below W2.heap.size W2 W5):=hide (bel_to (bel_to HB3.out hb4) b5)
  have HK5:=hide hK5
  have HF5:=hide hF5
  have HX1:=hide hx1
  obtain ⟨xs,hxs⟩:=row_words HWS.out
  have HXS:=hide hxs
  have hlen5:=HFEW.out.1
  clear hW5 b5 hK5 hF5 hok1 hx1 hd1 hb4 hxs s5
  have hown0:W5.ownsRow W5.heap.size 43 5 (.slice none 0 0) 0 []:=World.ownsRow_nil _ _ _ _
  go_wp2_with (at_builtin; refine wpList_append_at rfl _ _ 25 rfl W5.heap.size 43 i0 (.agg #[.int .i64 0,.string ⟨#[]⟩,.slice none 0 0,.slice none 0 0,.int .i64 0]) 5 80 Try.underlying25 hi hz0 hz1 hz2 rfl (by decide) _ _ _ rfl (hown0.alloc _) ⟨W5.heap.size,0,none⟩ 1 1 [.int .i64 5,.string ⟨#[40]⟩,.slice none 0 0,.slice none 0 0,.int .i64 0] rfl rfl ?c1 ?c2 ?c3 ?c4 ?c5 ?_)
  case c1 =>
   intro j u hj
   match j,hj with
   | 0,hj=>simp at hj; subst hj; simp [Addr.add]
   | 1,hj=>simp at hj; subst hj; simp [Addr.add]
   | 2,hj=>simp at hj; subst hj; simp [Addr.add]
   | 3,hj=>simp at hj; subst hj; simp [Addr.add]
   | 4,hj=>simp at hj; subst hj; simp [Addr.add]
  case c2=>intro u hu; simp at hu; rcases hu with rfl | rfl | rfl | rfl | rfl <;> rfl
  case c3=>unfold maxLen; omega
  case c4=>omega
  case c5=>simp
  intro v6 w6 hown6 hgrow6 _
  have HB56:Hid (Below W5.heap.size W5 w6):=hide (((Below.refl W5.heap.size W5).alloc (Nat.le_refl _) _).grown hgrow6 (by simp) (fun q hq=>(hown0.lt q hq).1))
  clear hgrow6 hown0
  obtain ⟨a6,c6,rfl⟩:=Rn.owns_slice hown6
  obtain ⟨hrow6,hlie6⟩:=HXS.out w6 (bel_to HB25.out HB56.out)
  have hlies:Lies w6 a xs:=hrow6.lies (bel_to HB25.out HB56.out).size hlie6
  have h56:=HB56.out.size
  go_wp2_with (at_builtin; refine wpList_append_G rfl _ _ 25 rfl W5.heap.size 43 i0 (.agg #[.int .i64 0,.string ⟨#[]⟩,.slice none 0 0,.slice none 0 0,.int .i64 0]) 5 80 Try.underlying25 hi hz0 hz1 hz2 rfl (by decide) _ _ _ rfl hown6 a ws.length c xs rfl hrow6.1 hlies ?d3 ?d4 ?d5 ?_)
  case d3=>unfold maxLen; omega
  case d4=>omega
  case d5=>omega
  intro v7 w7 hown7 hgrow7
  have HB57:Hid (Below W5.heap.size W5 w7):=hide (HB56.out.grown hgrow7 h56 (fun q hq=>(hown6.lt q hq).1))
  clear hgrow7 hown6 hrow6 hlie6 hlies
  obtain ⟨a7,c7,rfl⟩:=Rn.owns_slice hown7
  have h57:=HB57.out.size
  go_wp2_with (at_builtin; refine wpList_append_at rfl _ _ 25 rfl W5.heap.size 43 i0 (.agg #[.int .i64 0,.string ⟨#[]⟩,.slice none 0 0,.slice none 0 0,.int .i64 0]) 5 80 Try.underlying25 hi hz0 hz1 hz2 rfl (by decide) _ _ _ rfl (hown7.alloc _) ⟨w7.heap.size,0,none⟩ 1 1 [.int .i64 6,.string ⟨#[41]⟩,.slice none 0 0,.slice none 0 0,.int .i64 (s.size:Int)] rfl rfl ?f1 ?f2 ?f3 ?f4 ?f5 ?_)
  case f1 =>
   intro j u hj
   match j,hj with
   | 0,hj=>simp at hj; subst hj; simp [Addr.add]
   | 1,hj=>simp at hj; subst hj; simp [Addr.add]
   | 2,hj=>simp at hj; subst hj; simp [Addr.add]
   | 3,hj=>simp at hj; subst hj; simp [Addr.add]
   | 4,hj=>simp at hj; subst hj; simp [Addr.add]
  case f2=>intro u hu; simp at hu; rcases hu with rfl | rfl | rfl | rfl | rfl <;> rfl
  case f3=>unfold maxLen; omega
  case f4=>omega
  case f5=>simp; omega
  intro v8 w8 hown8 hgrow8 _
  have HB58:Hid (Below W5.heap.size W5 w8):=hide ((HB57.out.alloc h57 _).grown hgrow8 (by simp; omega) (fun q hq=>(hown7.lt q hq).1))
  have hB28:=bel_to HB25.out HB58.out
  have hR8:RowOf w8 ([⟨5,⟨#[40]⟩,.mk [] [],0⟩] ++ ws ++ [⟨6,⟨#[41]⟩,.mk [] [],(s.size:Int)⟩]) _:=((RowOf.one w8 5 ⟨#[40]⟩ 0 (by decide)).append (HXS.out w8 hB28).1).append (RowOf.one w8 6 ⟨#[41]⟩ (s.size:Int) (by decide))
  have hln:([⟨5,⟨#[40]⟩,.mk [] [],0⟩] ++ ws ++ [⟨6,⟨#[41]⟩,.mk [] [],(s.size:Int)⟩]:List Wo).length=1+ws.length+1:=by simp; omega
  obtain ⟨a8,c8,rfl,hc8,hw8⟩:=RowOf.own (v:=v8) (base:=W5.heap.size) (by rw [hln]; exact hown8) hR8
  rw [hln] at hc8 ⊢
  have HP2:=hide (fun ee=>parse9l (n:=0) (w0:=w8) (w:=w8) (g:=g) (R:={ R with aw:=a8,cw:=c8 }) (ws:=[⟨5,⟨#[40]⟩,.mk [] [],0⟩] ++ ws ++ [⟨6,⟨#[41]⟩,.mk [] [],(s.size:Int)⟩]) (e:=ee) (Below.refl _ _) (strs_next HT.out.1 hB28) (strs_next HT.out.2.1 hB28) (strs_next HT.out.2.2 hB28) (WoR_room hw8 (by rw [hln]; omega) (fun t ht=>by
   simp only [List.cons_append,List.nil_append,List.mem_cons,List.mem_append,List.not_mem_nil,or_false] at ht
   rcases ht with rfl | ht | rfl
   ·exact ⟨by decide,by decide⟩
   ·exact few_mem HFEW.out t ht
   ·exact ⟨by simp [Ar.shape],by simp [Ar.cells]⟩)))
  rw [hln] at HP2
  have HB28:=hide hB28
  have hC8:=KG.out w8 hB28
  have c0:=hC8.c 0 _ rfl
  have c1:=hC8.c 1 _ rfl
  have c2:=hC8.c 2 _ rfl
  have c3:=hC8.c 3 _ rfl
  have c4:=hC8.c 4 _ rfl
  have c5:=hC8.c 5 _ rfl
  have c6:=hC8.c 6 _ rfl
  have c7:=hC8.c 7 _ rfl
  have c8:=hC8.c 8 _ rfl
  have c9:=hC8.c 9 _ rfl
  have c10:=hC8.c 10 _ rfl
  have c11:=hC8.c 11 _ rfl
  have c12:=hC8.c 12 _ rfl
  have c13:=hC8.c 13 _ rfl
  clear hown7 hown8 hgrow8 hR8 hw8 hB28 hC8
  go_wp2_with fail
  refine (HP2.out _).mono ?_
  rintro en w9 ⟨hb9,k2,ko2,nm2,y1,n1,q1,y2,n2,q2,yk,nk,qk,pp2,e2,p2,rfl,hok2,hx2,hd2⟩
  have HB59:=hide (bel_to HB58.out hb9)
  obtain ⟨⟨f0,f1,f2⟩,fl,fz⟩:=lt3 (HF5.out.next HB59.out HF5.out.lt)
  have HB9:=hide (bel_to HB2.out (bel_to HB25.out HB59.out))
  clear c0 c1 c2 c3 c4 c5 c6 c7 c8 c9 c10 c11 c12 c13 HP2 KG HWS HT HCC hb9 hln hc8
  by_cases h1:e1=0
  ·subst h1
   by_cases h15:e2=15
   ·subst h15
    have ul:=(HK5.out.next HB59.out HK5.out.lt).lt
    have um:w4.heap.size+1 ≠ w9.heap.size:=by omega
    have un:w4.heap.size+1 ≠ w9.heap.size+1:=by omega
    clear hok2 hx2 hd2
    go_wp2_with fail
    refine works8.mono ?_
    rintro en w10 ⟨rfl,hb10⟩
    go_wp2
    go_ret
    exact ⟨rfl,bel_to (bel_to HB9.out (two_allocs w9 _ _)) hb10⟩
   ·have h15':(e2 == 15)=false:=beq_eq_false_iff_ne.2 h15
    obtain ⟨x,m,hx,hn⟩:=HN5.out rfl
    have hfine:Fine g:=by rcases hg with rfl | rfl | rfl; exact Rn.apl_fine; exact Rn.j_fine; exact Rn.k_fine
    have he2:e2=0:=by
     rcases parse_brackets hfine (w0:=⟨5,⟨#[40]⟩,.mk [] [],0⟩) (w1:=⟨6,⟨#[41]⟩,.mk [] [],(s.size:Int)⟩) (e':=_) hx rfl rfl rfl rfl with ⟨q,hq⟩ | hq
     ·exact absurd (hd2 q hq) h15
     ·exact hx2 x hq
    subst he2
    obtain ⟨x2,m2',hx3,hn2⟩:=hok2 rfl
    have hxe:x2=x:=by
     rcases parse_brackets hfine (w0:=⟨5,⟨#[40]⟩,.mk [] [],0⟩) (w1:=⟨6,⟨#[41]⟩,.mk [] [],(s.size:Int)⟩) (e':=_) hx rfl rfl rfl rfl with ⟨q,hq⟩ | hq
     ·rw [show ([⟨5,⟨#[40]⟩,.mk [] [],0⟩] ++ ws ++ [⟨6,⟨#[41]⟩,.mk [] [],(s.size:Int)⟩]:List Wo)=⟨5,⟨#[40]⟩,.mk [] [],0⟩ :: (ws ++ [⟨6,⟨#[41]⟩,.mk [] [],(s.size:Int)⟩]) from rfl,hq] at hx3
      cases hx3
     ·rw [show ([⟨5,⟨#[40]⟩,.mk [] [],0⟩] ++ ws ++ [⟨6,⟨#[41]⟩,.mk [] [],(s.size:Int)⟩]:List Wo)=⟨5,⟨#[40]⟩,.mk [] [],0⟩ :: (ws ++ [⟨6,⟨#[41]⟩,.mk [] [],(s.size:Int)⟩]) from rfl,hq] at hx3
      cases hx3; rfl
    subst hxe
    have HSM:Hid (∀ W,Below w9.heap.size w9 W→Calls Try.prog 10 #[.agg #[.int .i64 k,.int .i64 ko,.string nm,.slice z1 l1 m1,.slice z2 l2 m2,.slice zk lk mk,.int .i64 pp],.agg #[.int .i64 k2,.int .i64 ko2,.string nm2,.slice y1 n1 q1,.slice y2 n2 q2,.slice yk nk qk,.int .i64 pp2]] W fun e w'=>e=.returned (.bool true)∧Below W.heap.size W w'):=fun W hW=>by
     have a1:=(hn W (bel_to HB59.out hW)).deep (Nat.le_max_left m m2')
     have a2:=(hn2.next hW).deep (Nat.le_max_right m m2')
     have h:=rsame10 (max m m2') 1 x2 x2 0 0 _ _ W a1 a2
     rw [sameN_self (n:=1) 1 a1] at h
     exact h
    obtain ⟨hKc⟩:Nonempty (Cs w9 w4.heap.size [.int .i64 k,.int .i64 ko,.string nm,.slice z1 l1 m1,.slice z2 l2 m2,.slice zk lk mk,.int .i64 pp]):=⟨HK5.out.next HB59.out HK5.out.lt⟩
    have u0:=hKc.c 0 _ rfl
    have u1:=hKc.c 1 _ rfl
    have u2:=hKc.c 2 _ rfl
    have u3:=hKc.c 3 _ rfl
    have u4:=hKc.c 4 _ rfl
    have u5:=hKc.c 5 _ rfl
    have u6:=hKc.c 6 _ rfl
    have ul:=hKc.lt
    clear hok2 hx2 hd2 hx hn hx3 hn2 hKc
    go_wp2_with fail
    refine (HSM.out _ (two_allocs w9 _ _)).mono ?_
    rintro en w10 ⟨rfl,hb10⟩
    have HB10:=hide (bel_to (bel_to HB9.out (two_allocs w9 _ _)) hb10)
    clear hb10 u0 u1 u2 u3 u4 u5 u6 ul f0 f1 f2 fl fz HSM
    go_wp2_with fail
    refine works8.mono ?_
    rintro en w11 ⟨rfl,hb11⟩
    go_wp2
    go_ret
    exact ⟨rfl,bel_to HB10.out hb11⟩
  ·have h1':(e1 != 0)=true:=bne_iff_ne.2 h1
   have ul:=(HK5.out.next HB59.out HK5.out.lt).lt
   have um:w4.heap.size+1 ≠ w9.heap.size:=by omega
   have un:w4.heap.size+1 ≠ w9.heap.size+1:=by omega
   clear hok2 hx2 hd2
   go_wp2_with fail
   refine works8.mono ?_
   rintro en w10 ⟨rfl,hb10⟩
   go_wp2
   go_ret
   exact ⟨rfl,bel_to (bel_to HB9.out (two_allocs w9 _ _)) hb10⟩
 ·have her':(er != 0)=true:=bne_iff_ne.2 her
  clear KG HWS HT HCC HLI
  go_wp2_with fail
  refine works8.mono ?_
  rintro en w4 ⟨rfl,hb4⟩
  go_wp2
  go_ret
  exact ⟨rfl,bel_to HB2.out hb4⟩
set_option maxRecDepth 100000 in
theorem lifted (os:Os) (started:os.Started) (H:Type) (enc:TypeId × Value→H) :
  ReturnsInHanded {} Try.checked os 3 .any (Rows.grammarBracketsSpec.pre6 enc Try.prog Try.f3 Rows.grammarBracketsRow.domain false) (Rows.grammarBracketsSpec.post enc Try.prog Try.f3 false true false false):=by
 refine returnsInHanded_of_change_sized (C:=Try.checked) own started (by kernel_rfl) Try.func3
  (ChangeSpec.witness6 (enc:=enc) (C:=Try.checked) false ⟨#[],#[.int .i64 0,.string { data:=#[] }],[]⟩ 8 (by kernel_rfl) (by kernel_rfl) (by kernel_rfl) (by kernel_rfl)) ?_
 intro W base args ds gs before hval0 hW _ hsz0 _
 have hsz:(DataW.weightsEach Try.prog (Try.f3.params.toList ++ Rows.grammarBracketsSpec.plain.varTypes Try.prog) (ds ++ gs)).all (·≤reachBytes)=true:=hsz0
 clear hsz0
 have hval:∀ (j:Nat) t v,Try.f3.params[j]?=some t→args[j]?=some v→Value.okWide Try.prog W .any base t v:=hval0
 have hW':=hW
 obtain ⟨p,q,hA0,hV,rfl,hfz,hnd⟩:=hW
 have hA:DataW.TrodAll enc Try.prog W 0 (fun _=>true) true Try.f3.params.toList args.toList ds p:=hA0
 rw [Try.params3] at hA hval hsz
 obtain ⟨v0,vs0,d0,ds0,p0,q0,hargs,rfl,rfl,h0,r0⟩:=trodAll_cons hA
 obtain ⟨v1,vs1,d1,ds1,p1,q1,rfl,rfl,rfl,h1,r1⟩:=trodAll_cons r0
 obtain ⟨rfl,rfl,rfl⟩:=trodAll_nil r1
 obtain rfl:args=#[v0,v1]:=by cases args; simp_all
 obtain ⟨rfl,rfl⟩:=trodVars_none hV
 obtain ⟨x0,rfl,rfl,rfl,w0⟩:=open_int Try.underlying3 (hval 0 3 v0 rfl rfl) h0
 obtain ⟨s1,rfl,rfl,rfl,w1⟩:=ChangeMaps.open_string Try.underlying9 (hval 1 9 v1 rfl rfl) h1
 clear hA0 hval0
 refine (walk x0 s1 W ).mono fun e W' ⟨he,bel⟩=>?_
 subst he
 exact ⟨_,rfl,_,_,_,[],_,[],hW',trodAll_mk1 (shut_bool Try.underlying4 _),(trodAll_cons_mk (shut_int Try.underlying3 w0) (trodAll_cons_mk (ChangeMaps.shut_string Try.underlying9 w1) trodAll_mk0)),rfl,bel.frame _,fun h=>by cases h⟩
theorem over:Rows.grammarBracketsRow.holds Try.pinned (OpenSpec.ofChange Rows.grammarBracketsSpec) :=
 OpenClaim.holds_of_wide 3 Try.f3 rfl rfl rfl rfl rfl rfl rfl ⟨rfl,rfl,rfl,rfl,rfl⟩ rfl rfl rfl rfl rfl (by kernel_rfl) Try.func3 (by kernel_rfl)
  (of_decide_eq_true (by kernel_rfl)) (by unfold Func.isWrapper; first | (rw [if_pos (by decide +kernel)]; kernel_rfl) | (rw [if_neg (by decide +kernel)]; exact ⟨rfl,rfl⟩))
  (fun os started H enc _=>lifted os started H enc)
theorem proved:Rows.GrammarBracketsSaid:=over
end Go.Proofs.Ytnaejfoighmfeaa.grammarBrackets
namespace Go.Proofs.Ytnaejfoighmfeaa
theorem grammarBrackets_holds:Rows.GrammarBracketsSaid:=grammarBrackets.proved
#print axioms grammarBrackets_holds
end Go.Proofs.Ytnaejfoighmfeaa
