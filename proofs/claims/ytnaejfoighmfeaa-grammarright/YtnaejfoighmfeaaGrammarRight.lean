/-
  For all texts of all three dialects and all numbers the statement GrammarRight holds: a sign of a function ahead of a program is a function of that program, or it lies too deep; no condition (the given row speaks of what a machine of 64 bits can hold).
-/
import Derived.Test.YtnaejfoighmfeaaM11
import Derived.Laws.BitsAllLaws
import Derived.Lib.Bits
import Derived.Test.YtnaejfoighmfeaaChecked
import GoSem.Claim
import GoSem.ClaimJoined
import GoSem.ClaimMapViews
import Derived.JoinedTies
import Derived.KernelRfl
import Derived.WalkKit
import Derived.ProofKit
import Derived.Below
import Derived.Deep.QuietTactic
import Derived.BigQuiet
import Derived.Lib.SlBytesConst
import Derived.Laws.BytesArg
import Derived.Laws.MakeOwn
import Derived.Deep.RegionHeld3
import Derived.Laws.AppendOwnNone
import Derived.BigFrame
import Derived.OpenShut
import Derived.ChangeOld
import Derived.SizedLaws
import Derived.Deep.DeepHandedRow
import Derived.Lib.LaidTab
import Derived.Deep.OwnRows
import Derived.Deep.RegionWith
import Derived.Deep.Slices
import Derived.Deep.Strs
import Derived.Deep.LoopGhost
import Derived.Lib.ConvBytes
import Derived.Deep.RegionLaw
import Derived.Deep.CutRange
import Derived.Lib.SliceRun
import Derived.WalkLawsBesides
import Derived.Maps.AppendAt
import Derived.Deep.MidRow
import Derived.Defers
import Derived.Recover
import Derived.Deep.Cut
import Derived.ChangeMaps5
namespace Go.Proofs.Ytnaejfoighmfeaa.grammarRight
open Go.ChangeShapes Go.WideShapes Go.ChangeAt Go.RowKit
open Rn (Cs GvLx lex6 works8 bel_to GvPl parse9l RowOf row_words lt3 info43 strs_next WoR_room few_mem sign_at sign_is right_open bounds_u8)
set_option linter.unusedVariables false
set_option linter.unusedSimpArgs false
set_option maxRecDepth 100000
set_option maxHeartbeats 8000000 in
theorem walk (d:Int) (s:ByteArray) (u:Int) (w:World) (hu:0≤u∧u≤255):Calls Try.prog 4 #[.int .i64 d,.string s,.int .u8 u] w fun en w'=>en=.returned (.bool true)∧Below w.heap.size w w':=by
 obtain ⟨i0,hi,hz0,hz1,hz2⟩:=info_parts info43
 have HL:=hide (lex6 d s w)
 go_enter Try.func4,Try.ntmps4
 go_wp2_with fail
 refine HL.out.mono ?_
 rintro e w1 ⟨hb1,g,R,ws,a,c,er,pl,rfl,hc,hws,hg,t1,t2,t3⟩
 clear HL
 go_upto_region 2 with fail
 obtain ⟨W2,hW2⟩:∃ W2,(w1.alloc (.cells #[.slice R.av g.verbs.length R.cv,.slice R.aa g.adverbs.length R.ca,.slice R.ab g.behind.length R.cb,.string g.outer,.string g.power,.string g.opn,.string g.cls,.string g.left,.string g.right,.string R.mi,.string R.qu,.bool g.trains,.bool g.lone,.bool g.square] 24)).alloc (.cells #[.int .i64 er,.int .i64 pl,.int .i64 0] 28)=W2:=⟨_,rfl⟩
 rw [hW2]
 have b2:Below w1.heap.size w1 W2:=by rw [←hW2];exact two_allocs _ _ _
 have s2:W2.heap.size=w1.heap.size+2:=by rw [←hW2];simp
 have hG:Cs W2 w1.heap.size [.slice R.av g.verbs.length R.cv,.slice R.aa g.adverbs.length R.ca,.slice R.ab g.behind.length R.cb,.string g.outer,.string g.power,.string g.opn,.string g.cls,.string g.left,.string g.right,.string R.mi,.string R.qu,.bool g.trains,.bool g.lone,.bool g.square]:=by rw [←hW2];exact (Cs.new w1 [.slice R.av g.verbs.length R.cv,.slice R.aa g.adverbs.length R.ca,.slice R.ab g.behind.length R.cb,.string g.outer,.string g.power,.string g.opn,.string g.cls,.string g.left,.string g.right,.string R.mi,.string R.qu,.bool g.trains,.bool g.lone,.bool g.square] 24).next (one_alloc _ _) (by simp)
 have hE:Cs W2 (w1.heap.size+1) [.int .i64 er,.int .i64 pl,.int .i64 0]:=by
  have hs1:(w1.alloc (.cells #[.slice R.av g.verbs.length R.cv,.slice R.aa g.adverbs.length R.ca,.slice R.ab g.behind.length R.cb,.string g.outer,.string g.power,.string g.opn,.string g.cls,.string g.left,.string g.right,.string R.mi,.string R.qu,.bool g.trains,.bool g.lone,.bool g.square] 24)).heap.size=w1.heap.size+1:=by simp
  have h:=Cs.new (w1.alloc (.cells #[.slice R.av g.verbs.length R.cv,.slice R.aa g.adverbs.length R.ca,.slice R.ab g.behind.length R.cb,.string g.outer,.string g.power,.string g.opn,.string g.cls,.string g.left,.string g.right,.string R.mi,.string R.qu,.bool g.trains,.bool g.lone,.bool g.square] 24)) [.int .i64 er,.int .i64 pl,.int .i64 0] 28
  rw [hs1] at h
  rw [←hW2];exact h
 have KG:Hid (∀ W,Below W2.heap.size W2 W→Cs W w1.heap.size [.slice R.av g.verbs.length R.cv,.slice R.aa g.adverbs.length R.ca,.slice R.ab g.behind.length R.cb,.string g.outer,.string g.power,.string g.opn,.string g.cls,.string g.left,.string g.right,.string R.mi,.string R.qu,.bool g.trains,.bool g.lone,.bool g.square]):=fun W h=>hG.next h (by omega)
 have HB2:=hide (bel_to hb1 b2)
 have HWS:=hide (WoR.next hws b2)
 have HT:=hide (And.intro (strs_next t1 b2) (And.intro (strs_next t2 b2) (strs_next t3 b2)))
 have HCC:=hide hc
 have HSG:=hide (sign_at hg)
 have HFI:=hide (show Fine g from by rcases hg with rfl|rfl|rfl;exact Rn.apl_fine;exact Rn.j_fine;exact Rn.k_fine)
 have HLI:=hide (light7 (n:=1) (g:=g) (R:={ R with aw:=a,cw:=c }) (w:=W2) (ws:=ws) (WoR.next hws b2))
 obtain ⟨⟨e0,e1,e2⟩,el,ez⟩:=lt3 hE
 have hC:=hG
 have c0:=hC.c 0 _ rfl
 have c1:=hC.c 1 _ rfl
 have c2:=hC.c 2 _ rfl
 have c3:=hC.c 3 _ rfl
 have c4:=hC.c 4 _ rfl
 have c5:=hC.c 5 _ rfl
 have c6:=hC.c 6 _ rfl
 have c7:=hC.c 7 _ rfl
 have c8:=hC.c 8 _ rfl
 have c9:=hC.c 9 _ rfl
 have c10:=hC.c 10 _ rfl
 have c11:=hC.c 11 _ rfl
 have c12:=hC.c 12 _ rfl
 have c13:=hC.c 13 _ rfl
 clear hC
 clear hW2 b2 s2 hG hE hb1 hws t1 t2 t3 hc
 by_cases her:er=0
 ·subst her
  go_wp2_with fail
  refine HLI.out.mono ?_
  rintro en w3 ⟨⟨ok,rfl,hok⟩,hb3⟩
  clear e0 e1 e2 el ez c0 c1 c2 c3 c4 c5 c6 c7 c8 c9 c10 c11 c12 c13 HLI
  cases ok
  ·have HB3:=hide (bel_to HB2.out hb3)
   clear KG HWS HT HCC hb3
   go_wp2_with fail
   refine works8.mono ?_
   rintro en w4 ⟨rfl,hb4⟩
   go_wp2
   go_ret
   exact ⟨rfl,bel_to HB3.out hb4⟩
  have hf:=hok rfl
  have HFEW:=hide hf
  have HB3:=hide hb3
  have HP1:=hide (fun ee=>parse9l (n:=0) (w0:=W2) (w:=w3) (g:=g) (R:={ R with aw:=a,cw:=c }) (ws:=ws) (e:=ee) hb3 HT.out.1 HT.out.2.1 HT.out.2.2 (HWS.out.few hf))
  have hC:=KG.out w3 hb3
  have c0:=hC.c 0 _ rfl
  have c1:=hC.c 1 _ rfl
  have c2:=hC.c 2 _ rfl
  have c3:=hC.c 3 _ rfl
  have c4:=hC.c 4 _ rfl
  have c5:=hC.c 5 _ rfl
  have c6:=hC.c 6 _ rfl
  have c7:=hC.c 7 _ rfl
  have c8:=hC.c 8 _ rfl
  have c9:=hC.c 9 _ rfl
  have c10:=hC.c 10 _ rfl
  have c11:=hC.c 11 _ rfl
  have c12:=hC.c 12 _ rfl
  have c13:=hC.c 13 _ rfl
  clear hC
  clear hok hf hb3
  go_wp2_with fail
  refine (HP1.out _).mono ?_
  rintro en w4 ⟨hb4,k,ko,nm,z1,l1,m1,z2,l2,m2,zk,lk,mk,pp,e1,p1,rfl,hok1,hx1,hd1⟩
  clear c0 c1 c2 c3 c4 c5 c6 c7 c8 c9 c10 c11 c12 c13 HP1
  go_upto_region 5 with fail
  obtain ⟨W5,hW5⟩:∃ W5,(w4.alloc (.cells #[.int .i64 k,.int .i64 ko,.string nm,.slice z1 l1 m1,.slice z2 l2 m2,.slice zk lk mk,.int .i64 pp] 39)).alloc (.cells #[.int .i64 e1,.int .i64 p1,.int .i64 0] 28)=W5:=⟨_,rfl⟩
  rw [hW5]
  have b5:Below w4.heap.size w4 W5:=by rw [←hW5];exact two_allocs _ _ _
  have s5:W5.heap.size=w4.heap.size+2:=by rw [←hW5];simp
  have hK5:Cs W5 w4.heap.size [.int .i64 k,.int .i64 ko,.string nm,.slice z1 l1 m1,.slice z2 l2 m2,.slice zk lk mk,.int .i64 pp]:=by rw [←hW5];exact (Cs.new w4 [.int .i64 k,.int .i64 ko,.string nm,.slice z1 l1 m1,.slice z2 l2 m2,.slice zk lk mk,.int .i64 pp] 39).next (one_alloc _ _) (by simp)
  have hF5:Cs W5 (w4.heap.size+1) [.int .i64 e1,.int .i64 p1,.int .i64 0]:=by
   have hs1:(w4.alloc (.cells #[.int .i64 k,.int .i64 ko,.string nm,.slice z1 l1 m1,.slice z2 l2 m2,.slice zk lk mk,.int .i64 pp] 39)).heap.size=w4.heap.size+1:=by simp
   have h:=Cs.new (w4.alloc (.cells #[.int .i64 k,.int .i64 ko,.string nm,.slice z1 l1 m1,.slice z2 l2 m2,.slice zk lk mk,.int .i64 pp] 39)) [.int .i64 e1,.int .i64 p1,.int .i64 0] 28
   rw [hs1] at h
   rw [←hW5];exact h
  have HN5:=hide (fun (h0:e1=0)=>(show ∃ x m,parseS g (s.size:Int) ws=.ok x∧∀ W,Below W5.heap.size W5 W→NdIn m 1 0 W x (.agg #[.int .i64 k,.int .i64 ko,.string nm,.slice z1 l1 m1,.slice z2 l2 m2,.slice zk lk mk,.int .i64 pp]) from by
   obtain ⟨x,m,hx,hn⟩:=hok1 h0
   exact ⟨x,m,hx,fun W hW=>(hn.next b5).next hW⟩))
  have HB25:Hid (Below W2.heap.size W2 W5):=hide (bel_to (bel_to HB3.out hb4) b5)
  have HK5:=hide hK5
  have HF5:=hide hF5
  have HX1:=hide hx1
  obtain ⟨xs,hxs⟩:=row_words HWS.out
  have HXS:=hide hxs
  have hlen5:=HFEW.out.1
  clear hW5 b5 hK5 hF5 hok1 hx1 hd1 hb4 hxs s5
  obtain ⟨⟨f0,f1,f2⟩,fl,fz⟩:=lt3 HF5.out
  by_cases h1:e1=0
  case neg =>
   have h1':(e1 != 0)=true:=bne_iff_ne.2 h1
   clear KG HWS HT HCC HSG HFI HFEW HB3 HN5 HK5 HF5 HX1 HXS
   go_wp2_with fail
   refine works8.mono ?_
   rintro en w10 ⟨rfl,hb10⟩
   go_wp2
   go_ret
   exact ⟨rfl,bel_to (bel_to HB2.out HB25.out) hb10⟩
  subst h1
  go_upto_region 7 with fail
  clear f0 f1 f2 fl fz
  obtain ⟨hn0,hsg⟩:=HSG.out
  obtain ⟨NV,hNV⟩:∃ NV,g.verbs.length=NV:=⟨_,rfl⟩
  obtain ⟨j,hj⟩:∃ j:Nat,j=(u % (NV:Int)).toNat:=⟨_,rfl⟩
  rw [hNV] at hn0
  have hNV1:NV≤1000:=by rw [←hNV];exact HT.out.1.1
  have hpos:0≤u % (NV:Int):=Int.emod_nonneg _ (by omega)
  have hlt:u % (NV:Int)<(NV:Int):=Int.emod_lt_of_pos _ (by omega)
  have hjj:(j:Int)=u % (NV:Int):=by rw [hj];exact Int.toNat_of_nonneg hpos
  have hr:u.tmod (NV:Int)=(j:Int):=by rw [hjj];exact Int.tmod_eq_emod_of_nonneg hu.1
  have hj1:(j:Int)<(NV:Int):=by rw [hjj];exact hlt
  have hj2:j<NV:=by omega
  have hj0:(0:Int)≤(j:Int):=by omega
  clear hj hpos hlt hjj
  obtain ⟨⟨hi1,hi2⟩,hsz⟩:=hsg j (by rw [hNV];exact hj2)
  have HSI:=hide (And.intro hi1 hi2)
  obtain ⟨bv,ov,hav,hbv,hcv⟩:=HT.out.1.2 j (by rw [hNV];exact hj2)
  obtain ⟨SG,hSG⟩:∃ SG,sAt g.verbs j=SG:=⟨_,rfl⟩
  rw [hSG] at hcv hsz
  have KS:Hid (∀ W,Below W5.heap.size W5 W→Below W5.heap.size W5 W∧W.cell? ⟨w1.heap.size,0,none⟩=some (.slice (some ⟨bv,ov,none⟩) NV R.cv)∧W.cell? ⟨bv,ov+j,none⟩=some (.string SG)):=hide fun W hW=>by
   have h0:=(KG.out W (bel_to HB25.out hW)).c 0 _ rfl
   rw [hNV,hav] at h0
   exact ⟨hW,h0,((bel_to HB25.out hW).cell (p:=⟨bv,ov+j,none⟩) hbv).trans hcv⟩
  have HD0:Hid (Below W5.heap.size W5 W5.drew):=hide ((Below.refl W5.heap.size W5).drew)
  have nv0:¬ NV=0:=by omega
  have nv1:¬ (NV:Int)=0:=by omega
  have hwu:IntKind.i64.wrap u=u:=IntWalk.i64_in _ ⟨by omega,by omega⟩
  have hwj:IntKind.i64.wrap (j:Int)=(j:Int):=IntWalk.i64_in _ ⟨by omega,by omega⟩
  have HHI:=hide (And.intro hi1 hi2)
  have HX:=hide (And.intro hNV (And.intro hSG (And.intro hsz hj2)))
  obtain ⟨-,k0,kj⟩:=KS.out W5 (Below.refl _ _)
  clear hsg hi1 hi2 hcv hav hbv hNV hSG hsz hn0
  go_region_held3 (fun W=>Below W5.heap.size W5 W∧W.cell? ⟨w1.heap.size,0,none⟩=some (.slice (some ⟨bv,ov,none⟩) NV R.cv)∧W.cell? ⟨bv,ov+j,none⟩=some (.string SG)) (first|with_reducible exact KS.out _ HD0.out|with_reducible exact KS.out _ (by with_reducible assumption)) (fail)
  obtain ⟨W6,hW6⟩:∃ W6,W5.drew=W6:=⟨_,rfl⟩
  have b6:Below W5.heap.size W5 W6:=by rw [←hW6];exact HD0.out
  rw [hW6]
  have HB26:Hid (Below W2.heap.size W2 W6):=hide (bel_to HB25.out b6)
  have HB56:=hide b6
  clear k0 kj hW6 b6 KS HD0 nv0 nv1 hwu hwj hr hj0 hj1 hj2 hNV1
  have hown0:W6.ownsRow W6.heap.size 43 5 (.slice none 0 0) 0 []:=World.ownsRow_nil _ _ _ _
  go_wp2_with (at_builtin;refine wpList_append_at rfl _ _ 25 rfl W6.heap.size 43 i0 (.agg #[.int .i64 0,.string ⟨#[]⟩,.slice none 0 0,.slice none 0 0,.int .i64 0]) 5 80 Try.underlying25 hi hz0 hz1 hz2 rfl (by decide) _ _ _ rfl (hown0.alloc _) ⟨W6.heap.size,0,none⟩ 1 1 [.int .i64 4,.string SG,.slice none 0 0,.slice none 0 0,.int .i64 0] rfl rfl ?c1 ?c2 ?c3 ?c4 ?c5 ?_)
  case c2=>exact ⟨rfl,rfl,rfl,rfl⟩
  case c3=>unfold maxLen;omega
  intro v7 w7 hown7 hgrow7 _
  have HB67:Hid (Below W6.heap.size W6 w7):=hide (((Below.refl W6.heap.size W6).alloc (Nat.le_refl _) _).grown hgrow7 (by simp) (fun q hq=>(hown0.lt q hq).1))
  clear hgrow7 hown0
  obtain ⟨a7,c7,rfl⟩:=Rn.owns_slice hown7
  obtain ⟨hrow7,hlie7⟩:=HXS.out w7 (bel_to HB26.out HB67.out)
  have hlies:Lies w7 a xs:=hrow7.lies (bel_to HB26.out HB67.out).size hlie7
  have h67:=HB67.out.size
  go_wp2_with (at_builtin;refine wpList_append_G rfl _ _ 25 rfl W6.heap.size 43 i0 (.agg #[.int .i64 0,.string ⟨#[]⟩,.slice none 0 0,.slice none 0 0,.int .i64 0]) 5 80 Try.underlying25 hi hz0 hz1 hz2 rfl (by decide) _ _ _ rfl hown7 a ws.length c xs rfl hrow7.1 hlies ?d3 ?d4 ?d5 ?_)
  case d3=>unfold maxLen;omega
  case d4=>omega
  case d5=>omega
  intro v8 w8 hown8 hgrow8
  have HB68:Hid (Below W6.heap.size W6 w8):=hide (HB67.out.grown hgrow8 h67 (fun q hq=>(hown7.lt q hq).1))
  have hB28:=bel_to HB26.out HB68.out
  have hR8:RowOf w8 ([⟨4,SG,.mk [] [],0⟩]++ws) _:=(RowOf.one w8 4 SG 0 HX.out.2.2.1).append (HXS.out w8 hB28).1
  have hln:([⟨4,SG,.mk [] [],0⟩]++ws:List Wo).length=1+ws.length:=by simp;omega
  obtain ⟨a8,c8,rfl,hc8,hw8⟩:=RowOf.own (v:=v8) (base:=W6.heap.size) (by rw [hln];exact hown8) hR8
  rw [hln] at hc8 ⊢
  have HP2:=hide (fun ee=>parse9l (n:=0) (w0:=w8) (w:=w8) (g:=g) (R:={ R with aw:=a8,cw:=c8 }) (ws:=[⟨4,SG,.mk [] [],0⟩]++ws) (e:=ee) (Below.refl _ _) (strs_next HT.out.1 hB28) (strs_next HT.out.2.1 hB28) (strs_next HT.out.2.2 hB28) (WoR_room hw8 (by rw [hln];omega) (fun t ht=>by
   simp only [List.cons_append,List.nil_append,List.mem_cons] at ht
   rcases ht with rfl|ht
   ·exact ⟨by simp [Ar.shape],by simp [Ar.cells]⟩
   ·exact few_mem HFEW.out t ht)))
  rw [hln] at HP2
  have HB28:=hide hB28
  have hC8:=KG.out w8 hB28
  have c0:=hC8.c 0 _ rfl
  have c1:=hC8.c 1 _ rfl
  have c2:=hC8.c 2 _ rfl
  have c3:=hC8.c 3 _ rfl
  have c4:=hC8.c 4 _ rfl
  have c5:=hC8.c 5 _ rfl
  have c6:=hC8.c 6 _ rfl
  have c7:=hC8.c 7 _ rfl
  have c8:=hC8.c 8 _ rfl
  have c9:=hC8.c 9 _ rfl
  have c10:=hC8.c 10 _ rfl
  have c11:=hC8.c 11 _ rfl
  have c12:=hC8.c 12 _ rfl
  have c13:=hC8.c 13 _ rfl
  clear hown7 hown8 hgrow8 hR8 hw8 hB28 hC8 hrow7 hlie7 hlies
  go_wp2_with fail
  refine (HP2.out _).mono ?_
  rintro en w9 ⟨hb9,k2,ko2,nm2,y1,n1,q1,y2,n2,q2,yk,nk,qk,pp2,e2,p2,rfl,hok2,hx2,hd2⟩
  have HB59:Hid (Below W5.heap.size W5 w9):=hide (bel_to HB56.out (bel_to HB68.out hb9))
  have HB9:=hide (bel_to HB2.out (bel_to HB25.out HB59.out))
  clear c0 c1 c2 c3 c4 c5 c6 c7 c8 c9 c10 c11 c12 c13 HP2 KG HWS HT HCC hb9 hln hc8
  go_upto_region 12 with fail
  obtain ⟨W10,hW10⟩:∃ W10,(w9.alloc (.cells #[.int .i64 k2,.int .i64 ko2,.string nm2,.slice y1 n1 q1,.slice y2 n2 q2,.slice yk nk qk,.int .i64 pp2] 39)).alloc (.cells #[.int .i64 e2,.int .i64 p2,.int .i64 0] 28)=W10:=⟨_,rfl⟩
  rw [hW10]
  have HB910:Hid (Below w9.heap.size w9 W10):=by rw [←hW10];exact two_allocs _ _ _
  have hK10:Cs W10 w9.heap.size [.int .i64 k2,.int .i64 ko2,.string nm2,.slice y1 n1 q1,.slice y2 n2 q2,.slice yk nk qk,.int .i64 pp2]:=by rw [←hW10];exact (Cs.new w9 [.int .i64 k2,.int .i64 ko2,.string nm2,.slice y1 n1 q1,.slice y2 n2 q2,.slice yk nk qk,.int .i64 pp2] 39).next (one_alloc _ _) (by simp)
  have hF10:Cs W10 (w9.heap.size+1) [.int .i64 e2,.int .i64 p2,.int .i64 0]:=by
   have hs1:(w9.alloc (.cells #[.int .i64 k2,.int .i64 ko2,.string nm2,.slice y1 n1 q1,.slice y2 n2 q2,.slice yk nk qk,.int .i64 pp2] 39)).heap.size=w9.heap.size+1:=by simp
   have h:=Cs.new (w9.alloc (.cells #[.int .i64 k2,.int .i64 ko2,.string nm2,.slice y1 n1 q1,.slice y2 n2 q2,.slice yk nk qk,.int .i64 pp2] 39)) [.int .i64 e2,.int .i64 p2,.int .i64 0] 28
   rw [hs1] at h
   rw [←hW10];exact h
  clear hW10
  have HF10:=hide hF10
  obtain ⟨⟨f0,f1,f2⟩,fl,fz⟩:=lt3 hF10
  by_cases h15:e2=15
  ·subst h15
   clear hok2 hx2 hd2 hK10 hF10
   go_wp2_with fail
   refine works8.mono ?_
   rintro en w10 ⟨rfl,hb10⟩
   go_wp2
   go_ret
   exact ⟨rfl,bel_to (bel_to HB9.out HB910.out) hb10⟩
  have h15':(e2==15)=false:=beq_eq_false_iff_ne.2 h15
  go_upto_region 14 with fail
  clear f0 f1 f2 fl fz hF10
  obtain ⟨x,m,hx,hn⟩:=HN5.out (by first|rfl|trivial)
  obtain ⟨hNV,hSG,-,hj2⟩:=HX.out
  have hs0:∀ r,signT g.verbs ((⟨4,SG,.mk [] [],0⟩:Wo)::r)=true:=fun r=>by
   rw [←hSG];exact sign_is HSI.out _ _ _
  have hpr:=fun (e':Int)=>parse_right HFI.out (e':=e') (w0:=⟨4,SG,.mk [] [],0⟩) hx rfl hs0
  have he2:e2=0:=by
   rcases hpr _ with ⟨q,hq⟩|hq
   ·exact absurd (hd2 q hq) h15
   ·exact hx2 _ hq
  subst he2
  obtain ⟨x2,m2',hx3,hn2⟩:=hok2 rfl
  have hxe:x2=mo1 (node 21 0 SG [] 0) x:=by
   rcases hpr _ with ⟨q,hq⟩|hq
   ·rw [show ([⟨4,SG,.mk [] [],0⟩]++ws:List Wo)=⟨4,SG,.mk [] [],0⟩::ws from rfl,hq] at hx3
    cases hx3
   ·rw [show ([⟨4,SG,.mk [] [],0⟩]++ws:List Wo)=⟨4,SG,.mk [] [],0⟩::ws from rfl,hq] at hx3
    cases hx3;rfl
  subst hxe
  obtain ⟨b,off,r1,r2,r3,r4,ck,g1,g2,d1,d2,dk,gk,hv,hbb,hW⟩:=right_open hn2
  cases hv
  obtain ⟨XV,hXV⟩:∃ XV:Int × Int × ByteArray × Nat × Nat × Nat × Int,XV=(x.kind,x.op,x.name,x.lit.shape.length,x.lit.cells.length,x.kids.length,x.pos):=⟨_,rfl⟩
  obtain ⟨XK,XO,XN,X1,X2,X3,XP⟩:=XV
  simp only [Prod.mk.injEq] at hXV
  obtain ⟨q1,q2,q3,q4,q5,q6,q7⟩:=hXV
  have HSM:Hid (∀ W,Below w9.heap.size w9 W→Calls Try.prog 10 #[.agg #[.int .i64 XK,.int .i64 XO,.string XN,.slice d1 X1 g1,.slice d2 X2 g2,.slice dk X3 gk,.int .i64 XP],.agg #[.int .i64 k,.int .i64 ko,.string nm,.slice z1 l1 m1,.slice z2 l2 m2,.slice zk lk mk,.int .i64 pp]] W fun e w'=>e=.returned (.bool true)∧Below W.heap.size W w'):=hide fun W hB=>by
   obtain ⟨-,-,-,hn3⟩:=hW W hB
   rw [q1,q2,q3,q4,q5,q6,q7]
   have a1:=hn3.deep (Nat.le_max_left m2' m)
   have a2:=(hn W (bel_to HB59.out hB)).deep (Nat.le_max_right m2' m)
   have h:=rsame10 (max m2' m) 1 x x 0 0 _ _ W a1 a2
   rw [sameN_self (n:=1) 1 a1] at h
   exact h
  have KS:Hid (∀ W,Below W10.heap.size W10 W→Below W10.heap.size W10 W∧W.cell? ⟨w9.heap.size+1,0,none⟩=some (.int .i64 0)∧W.cell? ⟨w9.heap.size,0,none⟩=some (.int .i64 5)∧W.cell? ⟨w9.heap.size,5,none⟩=some (.slice (some ⟨b,off,none⟩) 2 qk)∧W.cell? ⟨b,off,none⟩=some (.int .i64 21)∧W.cell? ⟨b,off+2,none⟩=some (.string SG)∧W.cell? ⟨b,off+7,none⟩=some (.int .i64 XK)∧W.cell? ⟨b,off+7+1,none⟩=some (.int .i64 XO)∧W.cell? ⟨b,off+7+2,none⟩=some (.string XN)∧W.cell? ⟨b,off+7+3,none⟩=some (.slice d1 X1 g1)∧W.cell? ⟨b,off+7+4,none⟩=some (.slice d2 X2 g2)∧W.cell? ⟨b,off+7+5,none⟩=some (.slice dk X3 gk)∧W.cell? ⟨b,off+7+6,none⟩=some (.int .i64 XP)∧W.cell? ⟨w4.heap.size,0,none⟩=some (.int .i64 k)∧W.cell? ⟨w4.heap.size,1,none⟩=some (.int .i64 ko)∧W.cell? ⟨w4.heap.size,2,none⟩=some (.string nm)∧W.cell? ⟨w4.heap.size,3,none⟩=some (.slice z1 l1 m1)∧W.cell? ⟨w4.heap.size,4,none⟩=some (.slice z2 l2 m2)∧W.cell? ⟨w4.heap.size,5,none⟩=some (.slice zk lk mk)∧W.cell? ⟨w4.heap.size,6,none⟩=some (.int .i64 pp)):=hide fun W hB=>by
   have hB9:=bel_to HB910.out hB
   obtain ⟨p1,p2,p3,-⟩:=hW W hB9
   obtain ⟨s1,s2,s3,s4,s5,s6,s7⟩:=p3
   have hc:=hK10.next hB hK10.lt
   have hf:=HF10.out.next hB HF10.out.lt
   have ha:=HK5.out.next (bel_to HB59.out hB9) HK5.out.lt
   rw [q1,q2,q3,q4,q5,q6,q7]
   exact ⟨hB,hf.c 0 _ rfl,hc.c 0 _ rfl,hc.c 5 _ rfl,p1,p2,s1,s2,s3,s4,s5,s6,s7,ha.c 0 _ rfl,ha.c 1 _ rfl,ha.c 2 _ rfl,ha.c 3 _ rfl,ha.c 4 _ rfl,ha.c 5 _ rfl,ha.c 6 _ rfl⟩
  have HD0:Hid (Below W10.heap.size W10 W10.drew):=hide ((Below.refl W10.heap.size W10).drew)
  have HS9:Hid (∀ W,Below W10.heap.size W10 W→Below w9.heap.size w9 W):=hide fun W hB=>bel_to HB910.out hB
  clear q1 q2 q3 q4 q5 q6 q7 hW hn hn2 hx3 hx hok2 hx2 hd2 hpr hs0 hNV hSG hj2 hbb hK10 HK5 HF5 HF10 HN5 HX HSI HHI HFI HFEW HSG HXS h15 h15'
  go_region_held3 (fun W=>Below W10.heap.size W10 W∧W.cell? ⟨w9.heap.size+1,0,none⟩=some (.int .i64 0)∧W.cell? ⟨w9.heap.size,0,none⟩=some (.int .i64 5)∧W.cell? ⟨w9.heap.size,5,none⟩=some (.slice (some ⟨b,off,none⟩) 2 qk)∧W.cell? ⟨b,off,none⟩=some (.int .i64 21)∧W.cell? ⟨b,off+2,none⟩=some (.string SG)∧W.cell? ⟨b,off+7,none⟩=some (.int .i64 XK)∧W.cell? ⟨b,off+7+1,none⟩=some (.int .i64 XO)∧W.cell? ⟨b,off+7+2,none⟩=some (.string XN)∧W.cell? ⟨b,off+7+3,none⟩=some (.slice d1 X1 g1)∧W.cell? ⟨b,off+7+4,none⟩=some (.slice d2 X2 g2)∧W.cell? ⟨b,off+7+5,none⟩=some (.slice dk X3 gk)∧W.cell? ⟨b,off+7+6,none⟩=some (.int .i64 XP)∧W.cell? ⟨w4.heap.size,0,none⟩=some (.int .i64 k)∧W.cell? ⟨w4.heap.size,1,none⟩=some (.int .i64 ko)∧W.cell? ⟨w4.heap.size,2,none⟩=some (.string nm)∧W.cell? ⟨w4.heap.size,3,none⟩=some (.slice z1 l1 m1)∧W.cell? ⟨w4.heap.size,4,none⟩=some (.slice z2 l2 m2)∧W.cell? ⟨w4.heap.size,5,none⟩=some (.slice zk lk mk)∧W.cell? ⟨w4.heap.size,6,none⟩=some (.int .i64 pp)) (first|with_reducible exact KS.out _ HD0.out|with_reducible exact KS.out _ (by with_reducible assumption)) (first|(go_at_call 10;refine (HSM.out _ (HS9.out _ HD0.out)).mono ?_;rintro e w11 ⟨rfl,hb11⟩;have hb12:=HD0.out.trans (hb11.mono HD0.out.size))|(go_at_call 8;refine works8.mono ?_;rintro e w12 ⟨rfl,hb13⟩;have hb14:=hb12.trans (hb13.mono hb12.size)))
  go_wp2
  go_ret
  exact ⟨rfl,bel_to (bel_to HB9.out HB910.out) hb14⟩
 ·have her':(er != 0)=true:=bne_iff_ne.2 her
  clear KG HWS HT HCC HLI
  go_wp2_with fail
  refine works8.mono ?_
  rintro en w4 ⟨rfl,hb4⟩
  go_wp2
  go_ret
  exact ⟨rfl,bel_to HB2.out hb4⟩
set_option maxRecDepth 100000 in
theorem lifted (os:Os) (started:os.Started) (H:Type) (enc:TypeId × Value→H) :
  ReturnsInHanded {} Try.checked os 4 .any (Rows.grammarRightSpec.pre6 enc Try.prog Try.f4 Rows.grammarRightRow.domain false) (Rows.grammarRightSpec.post enc Try.prog Try.f4 false true false false):=by
 refine returnsInHanded_of_change_sized (C:=Try.checked) own started (by kernel_rfl) Try.func4
  (ChangeSpec.witness6 (enc:=enc) (C:=Try.checked) false ⟨#[],#[.int .i64 0,.string { data:=#[] },.int .u8 0],[]⟩ 8 (by kernel_rfl) (by kernel_rfl) (by kernel_rfl) (by kernel_rfl)) ?_
 intro W base args ds gs before hval0 hW _ hsz0 _
 have hsz:(DataW.weightsEach Try.prog (Try.f4.params.toList++Rows.grammarRightSpec.plain.varTypes Try.prog) (ds++gs)).all (·≤reachBytes)=true:=hsz0
 clear hsz0
 have hval:∀ (j:Nat) t v,Try.f4.params[j]?=some t→args[j]?=some v→Value.okWide Try.prog W .any base t v:=hval0
 have hW':=hW
 obtain ⟨p,q,hA0,hV,rfl,hfz,hnd⟩:=hW
 have hA:DataW.TrodAll enc Try.prog W 0 (fun _=>true) true Try.f4.params.toList args.toList ds p:=hA0
 rw [Try.params4] at hA hval hsz
 obtain ⟨v0,vs0,d0,ds0,p0,q0,hargs,rfl,rfl,h0,r0⟩:=trodAll_cons hA
 obtain ⟨v1,vs1,d1,ds1,p1,q1,rfl,rfl,rfl,h1,r1⟩:=trodAll_cons r0
 obtain ⟨v2,vs2,d2,ds2,p2,q2,rfl,rfl,rfl,h2,r2⟩:=trodAll_cons r1
 obtain ⟨rfl,rfl,rfl⟩:=trodAll_nil r2
 obtain rfl:args=#[v0,v1,v2]:=by cases args;simp_all
 obtain ⟨rfl,rfl⟩:=trodVars_none hV
 obtain ⟨x0,rfl,rfl,rfl,w0⟩:=open_int Try.underlying3 (hval 0 3 v0 rfl rfl) h0
 obtain ⟨s1,rfl,rfl,rfl,w1⟩:=ChangeMaps.open_string Try.underlying9 (hval 1 9 v1 rfl rfl) h1
 obtain ⟨x2,rfl,rfl,rfl,w2⟩:=open_int Try.underlying5 (hval 2 5 v2 rfl rfl) h2
 clear hA0 hval0
 refine (walk x0 s1 x2 W (bounds_u8 w2)).mono fun e W' ⟨he,bel⟩=>?_
 subst he
 exact ⟨_,rfl,_,_,_,[],_,[],hW',trodAll_mk1 (shut_bool Try.underlying4 _),(trodAll_cons_mk (shut_int Try.underlying3 w0) (trodAll_cons_mk (ChangeMaps.shut_string Try.underlying9 w1) (trodAll_cons_mk (shut_int Try.underlying5 w2) trodAll_mk0))),rfl,bel.frame _,fun h=>by cases h⟩
theorem over:Rows.grammarRightRow.holds Try.pinned (OpenSpec.ofChange Rows.grammarRightSpec) :=
 OpenClaim.holds_of_wide 4 Try.f4 rfl rfl rfl rfl rfl rfl rfl ⟨rfl,rfl,rfl,rfl,rfl⟩ rfl rfl rfl rfl rfl (by kernel_rfl) Try.func4 (by kernel_rfl)
  (of_decide_eq_true (by kernel_rfl)) (by unfold Func.isWrapper;first|(rw [if_pos (by decide +kernel)];kernel_rfl)|(rw [if_neg (by decide +kernel)];exact ⟨rfl,rfl⟩))
  (fun os started H enc _=>lifted os started H enc)
theorem proved:Rows.GrammarRightSaid:=over
end Go.Proofs.Ytnaejfoighmfeaa.grammarRight
namespace Go.Proofs.Ytnaejfoighmfeaa
theorem grammarRight_holds:Rows.GrammarRightSaid:=grammarRight.proved
#print axioms grammarRight_holds
end Go.Proofs.Ytnaejfoighmfeaa
