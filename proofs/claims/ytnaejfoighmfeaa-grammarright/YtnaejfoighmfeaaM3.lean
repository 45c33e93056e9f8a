import Derived.Test.YtnaejfoighmfeaaM2
import Derived.Laws.BitsAllLaws
import Derived.Lib.Bits
import Derived.Test.YtnaejfoighmfeaaChecked
import GoSem.Claim
import GoSem.ClaimJoined
import GoSem.ClaimMapViews
import Derived.JoinedTies
import Derived.KernelRfl
import Derived.WalkKit
import Derived.ProofKit
import Derived.Below
import Derived.Deep.QuietTactic
import Derived.BigQuiet
import Derived.Lib.SlBytesConst
import Derived.Laws.BytesArg
import Derived.Laws.MakeOwn
import Derived.Deep.RegionHeld3
import Derived.Laws.AppendOwnNone
import Derived.BigFrame
import Derived.OpenShut
import Derived.ChangeOld
import Derived.SizedLaws
import Derived.Deep.DeepHandedRow
import Derived.Lib.LaidTab
import Derived.Deep.OwnRows
import Derived.Deep.RegionWith
import Derived.Deep.Slices
import Derived.Deep.Strs
import Derived.Deep.LoopGhost
import Derived.Lib.ConvBytes
import Derived.Deep.RegionLaw
import Derived.Deep.CutRange
import Derived.Lib.SliceRun
import Derived.WalkLawsBesides
import Derived.Maps.AppendAt
import Derived.Deep.MidRow
import Derived.Defers
import Derived.Recover
import Derived.Deep.Cut
import Derived.ChangeMaps5
namespace Go.Proofs.Ytnaejfoighmfeaa
open Go.ChangeShapes Go.WideShapes Go.ChangeAt Go.RowKit
set_option maxRecDepth 100000
set_option linter.unusedVariables false
set_option linter.unusedSimpArgs false
theorem pack_in {X:Prop} {P:Value→Prop} {Rr:Prop} {T:Value→Nat→Prop} {N:Prop} (h:X∧∃ v m,P v∧Rr∧T v m∧N):X∧∃ v m,P v∧Rr∧T v m∧(True→N):=by
 obtain ⟨a,v,m,b,c,d,f⟩:=h
 exact ⟨a,v,m,b,c,d,fun _=>f⟩
set_option maxHeartbeats 8000000 in
theorem word_left {n:Nat} {w0 w:World} {p q:Nat} {g:Gr} {R:Raw} {ws:List Wo} {A:Ra} {i:Nat} {e:Int} (h:Rd (n+1) w0 w p g R ws A i e) (nm:Nm) (hn:true=true→Nq w p q nm) (hi:i < ws.length) (hk:isT 3 g.left [wAt ws i]=true) :
  Calls Try.prog 85 #[.pointer (some ⟨p,0,none⟩),namV true q] w fun en w'=>GvW n w0 w p q g R ws A i e true nm (wordS g e true (ws.drop i)) en w':=by
 have hk3:(wAt ws i).kind=3:=by simp only [isT,Bool.and_eq_true,decide_eq_true_eq] at hk; exact hk.1
 have hw:wordS g e true (ws.drop i)=.ok (node 3 0 nost [] (wAt ws i).pos,true,false):=by rw [drop_at hi]; simp [wordS,hk,hk3]
 have hT9:isT 3 g.left (ws.drop i)=true:=by rw [drop_at hi]; exact hk
 clear hk
 have hile:=h.hi
 obtain ⟨W1,e1⟩:∃ W1,w.alloc (.cells #[.int .i64 0,.int .i64 0,.string ⟨#[]⟩,.slice none 0 0,.slice none 0 0,.slice none 0 0,.int .i64 0] 39)=W1:=⟨_,rfl⟩
 have b1:Below w.heap.size w W1:=by rw [←e1]; exact one_alloc _ _
 have s1:W1.heap.size=w.heap.size+1:=by rw [←e1]; simp
 have h1:=h.next b1
 have c14:=h1.sp.sn.c14
 have c19:=h1.c19
 have hL:=h1.sp.sn.words
 have hpw:=h1.sp.sn.hp2
 obtain ⟨b,off,z1,m1,z2,m2,ha,hb0,g0,g1,g2,g3,g4,gb,g5⟩:=h.sp.sn.wo.2 i hi
 rw [ha] at c14
 have hne:((i:Int) == (ws.length:Int))=false:=by simp; omega
 have hne2:¬ (i:Int)=(ws.length:Int):=by omega
 have ho1:=h1.sp.sn.old
 have KS:Hid (∀ W,Below W1.heap.size W1 W→Below W1.heap.size W1 W∧W.cell? ⟨p,14,none⟩=some (.slice (some ⟨b,off,none⟩) ws.length R.cw)∧W.cell? ⟨p,19,none⟩=some (.int .i64 (i:Int))∧W.cell? ⟨b,off+i * 5,none⟩=some (.int .i64 (wAt ws i).kind)∧W.cell? ⟨b,off+i * 5+1,none⟩=some (.string (wAt ws i).text)∧W.cell? ⟨b,off+i * 5+2,none⟩=some (.slice z1 (wAt ws i).lit.shape.length m1)∧W.cell? ⟨b,off+i * 5+3,none⟩=some (.slice z2 (wAt ws i).lit.cells.length m2)∧W.cell? ⟨b,off+i * 5+4,none⟩=some (.int .i64 (wAt ws i).pos)):=fun W hW =>
  have hw:=ho1.trans (hW.mono ho1.size)
  ⟨hW,(hW.cell (p:=⟨p,14,none⟩) hpw).trans c14,(hW.cell (p:=⟨p,19,none⟩) hpw).trans c19,(hw.cell (p:=⟨b,_,none⟩) hb0).trans g0,(hw.cell (p:=⟨b,_,none⟩) hb0).trans g1,(hw.cell (p:=⟨b,_,none⟩) hb0).trans g2,(hw.cell (p:=⟨b,_,none⟩) hb0).trans g3,(hw.cell (p:=⟨b,_,none⟩) hb0).trans g4⟩
 have HRES:Hid (∀ W,Below W1.heap.size W1 W→(∀ o,o < 7→∃ v,W.cell? ⟨w.heap.size,o,none⟩=some v)∧∀ o,W.frozen? ⟨w.heap.size,o,none⟩=false):=fun W hW=>by
  have hl:w.heap.size < W1.heap.size:=by omega
  refine ⟨fun o ho=>?_,fun o=>(hW.frozen (p:=⟨w.heap.size,o,none⟩) hl).trans (by rw [←e1]; exact frozen_new _ _ _ _)⟩
  have hcc:∃ v,W1.cell? ⟨w.heap.size,o,none⟩=some v:=by
   rw [←e1]
   have:o=0 ∨ o=1 ∨ o=2 ∨ o=3 ∨ o=4 ∨ o=5 ∨ o=6:=by omega
   rcases this with rfl | rfl | rfl | rfl | rfl | rfl | rfl <;> exact ⟨_,cell_new0 w _ 39 _ _ rfl⟩
  obtain ⟨v,hv⟩:=hcc
  exact ⟨v,(hW.cell (p:=⟨w.heap.size,o,none⟩) hl).trans hv⟩
 have HE:=hide e1
 have HG5:=hide g5
 have HGB:=hide gb
 have HH:=hide h
 have HB1:=hide b1
 have HNN:=hide hn
 have hNV:namV true q=.pointer (some ⟨q,0,none⟩):=rfl
 rw [hNV]
 clear hNV
 unfold GvW
 rw [hw]
 obtain ⟨LT,hLT⟩:∃ LT,(wAt ws i).lit=LT:=⟨_,rfl⟩
 rw [hLT] at KS HG5 HGB
 try rw [hLT]
 generalize (wAt ws i).text=TX at *
 generalize (wAt ws i).pos=PS at *
 generalize (wAt ws i).kind=KI at *
 subst hk3
 clear h h1 e1 b1 hn g0 g1 g2 g3 g4 g5 hLT c14 c19 ho1 gb
 obtain ⟨L,hLL⟩:∃ L,ws.length=L:=⟨_,rfl⟩
 rw [hLL] at KS hne hne2 hile hL hi
 have HLL:=hide hLL
 clear hLL
 generalize R.cw=cw at *
 go_enter Try.func85,Try.ntmps85
 go_upto_region 1 with fail
 rw [HE.out]
 obtain ⟨-,k14,k19,-⟩:=KS.out W1 (Below.refl _ _)
 go_quiet (fail)
 go_upto_region 3 with fail
 obtain ⟨wq,hwq⟩:∃ wq,W1.drewN nq=wq:=⟨_,rfl⟩
 have bq:Below W1.heap.size W1 wq:=by rw [←hwq]; exact drewN_below (Below.refl W1.heap.size W1) _
 have sq:wq.heap.size=w.heap.size+1:=by rw [←hwq]; exact s1
 have HBQ:=hide bq
 have HDQ:Hid (Below W1.heap.size W1 wq.drew):=bq.drew
 rw [hwq]
 clear hwq k14 k19
 obtain ⟨-,k14,k19,k0,k1,k2,k3,k4⟩:=KS.out wq bq
 go_region_held3 (fun W=>Below W1.heap.size W1 W∧W.cell? ⟨p,14,none⟩=some (.slice (some ⟨b,off,none⟩) L cw)∧W.cell? ⟨p,19,none⟩=some (.int .i64 (i:Int))∧W.cell? ⟨b,off+i * 5,none⟩=some (.int .i64 3)∧W.cell? ⟨b,off+i * 5+1,none⟩=some (.string TX)∧W.cell? ⟨b,off+i * 5+2,none⟩=some (.slice z1 LT.shape.length m1)∧W.cell? ⟨b,off+i * 5+3,none⟩=some (.slice z2 LT.cells.length m2)∧W.cell? ⟨b,off+i * 5+4,none⟩=some (.int .i64 PS)) (first | with_reducible exact KS.out _ HDQ.out | with_reducible exact KS.out _ (by with_reducible assumption) | with_reducible exact KS.out _ (HDQ.out.alloc HDQ.out.size _) | with_reducible exact KS.out _ (HBQ.out.alloc HBQ.out.size _) | with_reducible exact KS.out _ ((HBQ.out.alloc HBQ.out.size _).drew)) (fail)
 clear k14 k19 k0 k1 k2 k3 k4
 go_upto_region 9 with fail
 obtain ⟨W4,hW4⟩:∃ W4,((wq.alloc (.cells #[.int .i64 3,.string TX,.slice z1 LT.shape.length m1,.slice z2 LT.cells.length m2,.int .i64 PS] 43)).alloc (.cells #[.int .i64 0,.int .i64 0,.string ⟨#[]⟩,.slice none 0 0,.slice none 0 0,.slice none 0 0,.int .i64 PS] 39)).drew=W4:=⟨_,rfl⟩
 rw [hW4]
 have s4:W4.heap.size=w.heap.size+3:=by rw [←hW4]; show (((wq.alloc _).alloc _)).heap.size=_; simp [sq]
 have b4q:Below W1.heap.size W1 W4:=by rw [←hW4]; exact ((bq.alloc bq.size _).alloc (by simp; have:=bq.size; omega) _).drew
 have b4:Below w.heap.size w W4:=HB1.out.trans (b4q.mono HB1.out.size)
 have wc:∀ o v,(#[.int .i64 3,.string TX,.slice z1 LT.shape.length m1,.slice z2 LT.cells.length m2,.int .i64 PS]:Array Value)[o]?=some v→W4.cell? ⟨w.heap.size+1,o,none⟩=some v:=fun o v ho=>by
  rw [←hW4,← sq]
  exact cell_one (cell_new0 wq _ 43 o v ho) (by simp) _
 have nc:∀ o v,(#[.int .i64 0,.int .i64 0,.string ⟨#[]⟩,.slice none 0 0,.slice none 0 0,.slice none 0 0,.int .i64 PS]:Array Value)[o]?=some v→W4.cell? ⟨w.heap.size+1+1,o,none⟩=some v:=fun o v ho=>by
  rw [←hW4]
  have:=cell_new0 (wq.alloc (.cells #[.int .i64 3,.string TX,.slice z1 LT.shape.length m1,.slice z2 LT.cells.length m2,.int .i64 PS] 43)) #[.int .i64 0,.int .i64 0,.string ⟨#[]⟩,.slice none 0 0,.slice none 0 0,.slice none 0 0,.int .i64 PS] 39 o v ho
  have e9:(wq.alloc (.cells #[.int .i64 3,.string TX,.slice z1 LT.shape.length m1,.slice z2 LT.cells.length m2,.int .i64 PS] 43)).heap.size=w.heap.size+1+1:=by simp [sq]
  rw [e9] at this
  exact this
 have nf:∀ o,W4.frozen? ⟨w.heap.size+1+1,o,none⟩=false:=fun o=>by
  rw [←hW4]
  have:=frozen_new (wq.alloc (.cells #[.int .i64 3,.string TX,.slice z1 LT.shape.length m1,.slice z2 LT.cells.length m2,.int .i64 PS] 43)) #[.int .i64 0,.int .i64 0,.string ⟨#[]⟩,.slice none 0 0,.slice none 0 0,.slice none 0 0,.int .i64 PS] 39 o
  have e9:(wq.alloc (.cells #[.int .i64 3,.string TX,.slice z1 LT.shape.length m1,.slice z2 LT.cells.length m2,.int .i64 PS] 43)).heap.size=w.heap.size+1+1:=by simp [sq]
  rw [e9] at this
  exact this
 have HN:Hid (∀ W,Below W4.heap.size W4 W→(∀ o v,(#[.int .i64 0,.int .i64 0,.string ⟨#[]⟩,.slice none 0 0,.slice none 0 0,.slice none 0 0,.int .i64 PS]:Array Value)[o]?=some v→W.cell? ⟨w.heap.size+1+1,o,none⟩=some v)∧(∀ o,W.frozen? ⟨w.heap.size+1+1,o,none⟩=false)∧(∀ o,o < 7→∃ v,W.cell? ⟨w.heap.size,o,none⟩=some v)∧∀ o,W.frozen? ⟨w.heap.size,o,none⟩=false):=fun W hW =>
  ⟨fun o v ho=>(hW.cell (p:=⟨w.heap.size+1+1,o,none⟩) (by show w.heap.size+1+1 < _; omega)).trans (nc o v ho),fun o=>(hW.frozen (p:=⟨w.heap.size+1+1,o,none⟩) (by show w.heap.size+1+1 < _; omega)).trans (nf o),HRES.out W (b4q.trans (hW.mono b4q.size))⟩
 have HB4:=hide b4
 have HS4:=hide s4
 clear HBQ HDQ hW4 nc nf bq sq b4 b4q s4 HRES KS
 have HSN:Hid (∀ W,Below W4.heap.size W4 W→Sn (n+1) w0 W p g R ws):=fun W hW=>HH.out.sp.sn.next (HB4.out.trans (hW.mono HB4.out.size))
 have HRD:Hid (∀ W,Below W4.heap.size W4 W→Rd (n+1) w0 W p g R ws A i e):=fun W hW=>HH.out.next (HB4.out.trans (hW.mono HB4.out.size))
 have HDN:Hid (∀ m,Below W4.heap.size W4 (W4.drewN m)):=fun m=>drewN_below (Below.refl W4.heap.size W4) m
 have c19n:=fun m=>(HRD.out _ (HDN.out m)).c19
 have c7n:=fun m=>(HSN.out _ (HDN.out m)).c7
 have c19:=(HRD.out _ (Below.refl _ _)).c19
 have c7:=(HSN.out _ (Below.refl _ _)).c7
 have H9:=hide (fun m=>is69 (HSN.out _ (HDN.out m)) i 3 g.left (by omega))
 rw [hT9] at H9
 go_quiet ((go_at_call 69; first | exact Calls.quiet_of_same (H9.out 0) | exact Calls.quiet_of_same (H9.out _)))
 obtain ⟨w5,hw5⟩:∃ w5,W4.drewN nq=w5:=⟨_,rfl⟩
 have b5:Below W4.heap.size W4 w5:=by rw [←hw5]; exact HDN.out _
 have HB5:=hide b5
 go_upto_region 10 with fail
 rw [hw5]
 obtain ⟨xn,xf,xr,xg⟩:=HN.out _ b5
 have x0:=xn 0 _ rfl
 have x1:=xn 1 _ rfl
 have x2:=xn 2 _ rfl
 have x3:=xn 3 _ rfl
 have x4:=xn 4 _ rfl
 have x5:=xn 5 _ rfl
 have x6:=xn 6 _ rfl
 have y0:=xf 0
 have y2:=xf 2
 have y3:=xf 3
 have y4:=xf 4
 obtain ⟨r0,R0⟩:=xr 0 (by omega)
 obtain ⟨r1,R1⟩:=xr 1 (by omega)
 obtain ⟨r2,R2⟩:=xr 2 (by omega)
 obtain ⟨r3,R3⟩:=xr 3 (by omega)
 obtain ⟨r4,R4⟩:=xr 4 (by omega)
 obtain ⟨r5,R5⟩:=xr 5 (by omega)
 obtain ⟨r6,R6⟩:=xr 6 (by omega)
 have G0:=xg 0
 have G1:=xg 1
 have G2:=xg 2
 have G3:=xg 3
 have G4:=xg 4
 have G5:=xg 5
 have G6:=xg 6
 clear xn xf xr xg HN
 have hbw5:Below w.heap.size w w5:=HB4.out.trans (b5.mono HB4.out.size)
 obtain ⟨ql,qp,qc0,qc1,qf0,qf1⟩:=(HNN.out rfl).next hbw5
 have qlt:=(HNN.out rfl).lt
 clear b5 hw5 H9 HSN HRD HDN c19n c7n c19 c7 wc
 go_upto_region 15 with fail
 obtain ⟨w7,hw7⟩:∃ w7,((w5.setCell ⟨w.heap.size+1+1,0,none⟩ (.int .i64 3)).setCell ⟨q,0,none⟩ (.bool true))=w7:=⟨_,rfl⟩
 rw [hw7]
 have v0:w7.cell? ⟨w.heap.size+1+1,0,none⟩=some (.int .i64 3):=by rw [←hw7]; exact cs_off (by omega) (cs_same x0)
 have v1:w7.cell? ⟨w.heap.size+1+1,1,none⟩=some (.int .i64 0):=by rw [←hw7]; exact cs_off (by omega) (cs_off (by omega) x1)
 have v2:w7.cell? ⟨w.heap.size+1+1,2,none⟩=some (.string ⟨#[]⟩):=by rw [←hw7]; exact cs_off (by omega) (cs_off (by omega) x2)
 have v3:w7.cell? ⟨w.heap.size+1+1,3,none⟩=some (.slice none 0 0):=by rw [←hw7]; exact cs_off (by omega) (cs_off (by omega) x3)
 have v4:w7.cell? ⟨w.heap.size+1+1,4,none⟩=some (.slice none 0 0):=by rw [←hw7]; exact cs_off (by omega) (cs_off (by omega) x4)
 have v5:w7.cell? ⟨w.heap.size+1+1,5,none⟩=some (.slice none 0 0):=by rw [←hw7]; exact cs_off (by omega) (cs_off (by omega) x5)
 have v6:w7.cell? ⟨w.heap.size+1+1,6,none⟩=some (.int .i64 PS):=by rw [←hw7]; exact cs_off (by omega) (cs_off (by omega) x6)
 have Q0:w7.cell? ⟨w.heap.size,0,none⟩=some r0:=by rw [←hw7]; exact cs_off (by omega) (cs_off (by omega) R0)
 have F0:w7.frozen? ⟨w.heap.size,0,none⟩=false:=by rw [←hw7]; exact fs_any (fs_any G0)
 have Q1:w7.cell? ⟨w.heap.size,1,none⟩=some r1:=by rw [←hw7]; exact cs_off (by omega) (cs_off (by omega) R1)
 have F1:w7.frozen? ⟨w.heap.size,1,none⟩=false:=by rw [←hw7]; exact fs_any (fs_any G1)
 have Q2:w7.cell? ⟨w.heap.size,2,none⟩=some r2:=by rw [←hw7]; exact cs_off (by omega) (cs_off (by omega) R2)
 have F2:w7.frozen? ⟨w.heap.size,2,none⟩=false:=by rw [←hw7]; exact fs_any (fs_any G2)
 have Q3:w7.cell? ⟨w.heap.size,3,none⟩=some r3:=by rw [←hw7]; exact cs_off (by omega) (cs_off (by omega) R3)
 have F3:w7.frozen? ⟨w.heap.size,3,none⟩=false:=by rw [←hw7]; exact fs_any (fs_any G3)
 have Q4:w7.cell? ⟨w.heap.size,4,none⟩=some r4:=by rw [←hw7]; exact cs_off (by omega) (cs_off (by omega) R4)
 have F4:w7.frozen? ⟨w.heap.size,4,none⟩=false:=by rw [←hw7]; exact fs_any (fs_any G4)
 have Q5:w7.cell? ⟨w.heap.size,5,none⟩=some r5:=by rw [←hw7]; exact cs_off (by omega) (cs_off (by omega) R5)
 have F5:w7.frozen? ⟨w.heap.size,5,none⟩=false:=by rw [←hw7]; exact fs_any (fs_any G5)
 have Q6:w7.cell? ⟨w.heap.size,6,none⟩=some r6:=by rw [←hw7]; exact cs_off (by omega) (cs_off (by omega) R6)
 have F6:w7.frozen? ⟨w.heap.size,6,none⟩=false:=by rw [←hw7]; exact fs_any (fs_any G6)
 have HB7:=hide (show But (fun k=>Two2 w k ∨ k=q) w5 w7 by rw [←hw7]; exact butS (butS (But.refl _ _) (Or.inl (two_n w))) (Or.inr rfl))
 have HQ7:=hide (show Nq w7 p q (orN nm (true,false)) by
  rw [←hw7]
  refine ⟨by simpa using ql,qp,?_,?_,fs_any (fs_any qf0),fs_any (fs_any qf1)⟩
  ·rw [show (orN nm (true,false)).1=true by simp [orN]]; exact cs_same (cs_off (by omega) qc0)
  ·rw [show (orN nm (true,false)).2=nm.2 by simp [orN]]; exact cs_off (by omega) (cs_off (by omega) qc1))
 have HBW5:=hide hbw5
 clear hw7 x0 x1 x2 x3 x4 x5 x6 y0 y2 y3 y4 R0 R1 R2 R3 R4 R5 R6 G0 G1 G2 G3 G4 G5 G6 ql qc0 qc1 qf0 qf1 hbw5
 have HFIN:Hid (∀ wf,But (Two2 w) w7 wf→But (TT true p q) w wf∧∃ v m,(Ending.returned (.agg #[.int .i64 3,.int .i64 0,.string ⟨#[]⟩,.slice none 0 0,.slice none 0 0,.slice none 0 0,.int .i64 PS]):Ending)=.returned v∧Rd (n+1) w0 wf p g R ws A i e∧Tr (n+1) w0.heap.size m w.heap.size wf.heap.size wf (node 3 0 nost [] PS) v∧Nq wf p q (orN nm (true,false))):=fun wf hf=>by
  have hall:But (fun k=>Two2 w k ∨ k=q) w5 wf:=HB7.out.trans hf fun j _ hj=>Or.inl hj
  have hup:Below (p+1) w wf:=(HBW5.out.mono (Nat.lt_of_lt_of_le qp (Nat.le_of_lt qlt))).trans (hall.below (by have:=HBW5.out.size; omega) fun k hk=>by rcases hk with (rfl | rfl) | rfl <;> omega)
  refine ⟨(But.of HBW5.out).trans hall fun j hj ht=>Or.inr ⟨rfl,by rcases ht with (ht | ht) | ht <;> omega⟩,_,1,rfl,HH.out.upto hup,Tr.leaf n _ _ _ _ 3 0 nost PS (Nat.zero_le _),HQ7.out.keep (hf.below (by have:=HB7.out.size; have:=HBW5.out.size; omega) fun k hk=>by rcases hk with rfl | rfl <;> omega)⟩
 clear HB5 HB4 HS4 HH HNN HG5 HGB HB7 HQ7
 go_wp2
 refine bodyPost_ret (v:=.agg #[.int .i64 3,.int .i64 0,.string ⟨#[]⟩,.slice none 0 0,.slice none 0 0,.slice none 0 0,.int .i64 PS]) (by simp [results,Try.results85,go_sem,Q0,Q1,Q2,Q3,Q4,Q5,Q6]) rfl (pack_in (HFIN.out _ ?_))
 repeat' first | with_reducible exact But.refl _ _ | with_reducible exact two_r w | with_reducible refine butS ?_ ?_
set_option maxHeartbeats 8000000 in
theorem word_right {n:Nat} {w0 w:World} {p q:Nat} {g:Gr} {R:Raw} {ws:List Wo} {A:Ra} {i:Nat} {e:Int} (h:Rd (n+1) w0 w p g R ws A i e) (nm:Nm) (hn:true=true→Nq w p q nm) (hi:i < ws.length) (hk0:isT 3 g.left [wAt ws i]=false) (hk:isT 3 g.right [wAt ws i]=true) :
  Calls Try.prog 85 #[.pointer (some ⟨p,0,none⟩),namV true q] w fun en w'=>GvW n w0 w p q g R ws A i e true nm (wordS g e true (ws.drop i)) en w':=by
 have hk3:(wAt ws i).kind=3:=by simp only [isT,Bool.and_eq_true,decide_eq_true_eq] at hk; exact hk.1
 have hw:wordS g e true (ws.drop i)=.ok (node 4 0 nost [] (wAt ws i).pos,false,true):=by rw [drop_at hi]; simp [wordS,hk0,hk,hk3]
 have hT9:isT 3 g.left (ws.drop i)=false:=by rw [drop_at hi]; exact hk0
 have hT11:isT 3 g.right (ws.drop i)=true:=by rw [drop_at hi]; exact hk
 clear hk hk0
 have hile:=h.hi
 obtain ⟨W1,e1⟩:∃ W1,w.alloc (.cells #[.int .i64 0,.int .i64 0,.string ⟨#[]⟩,.slice none 0 0,.slice none 0 0,.slice none 0 0,.int .i64 0] 39)=W1:=⟨_,rfl⟩
 have b1:Below w.heap.size w W1:=by rw [←e1]; exact one_alloc _ _
 have s1:W1.heap.size=w.heap.size+1:=by rw [←e1]; simp
 have h1:=h.next b1
 have c14:=h1.sp.sn.c14
 have c19:=h1.c19
 have hL:=h1.sp.sn.words
 have hpw:=h1.sp.sn.hp2
 obtain ⟨b,off,z1,m1,z2,m2,ha,hb0,g0,g1,g2,g3,g4,gb,g5⟩:=h.sp.sn.wo.2 i hi
 rw [ha] at c14
 have hne:((i:Int) == (ws.length:Int))=false:=by simp; omega
 have hne2:¬ (i:Int)=(ws.length:Int):=by omega
 have ho1:=h1.sp.sn.old
 have KS:Hid (∀ W,Below W1.heap.size W1 W→Below W1.heap.size W1 W∧W.cell? ⟨p,14,none⟩=some (.slice (some ⟨b,off,none⟩) ws.length R.cw)∧W.cell? ⟨p,19,none⟩=some (.int .i64 (i:Int))∧W.cell? ⟨b,off+i * 5,none⟩=some (.int .i64 (wAt ws i).kind)∧W.cell? ⟨b,off+i * 5+1,none⟩=some (.string (wAt ws i).text)∧W.cell? ⟨b,off+i * 5+2,none⟩=some (.slice z1 (wAt ws i).lit.shape.length m1)∧W.cell? ⟨b,off+i * 5+3,none⟩=some (.slice z2 (wAt ws i).lit.cells.length m2)∧W.cell? ⟨b,off+i * 5+4,none⟩=some (.int .i64 (wAt ws i).pos)):=fun W hW =>
  have hw:=ho1.trans (hW.mono ho1.size)
  ⟨hW,(hW.cell (p:=⟨p,14,none⟩) hpw).trans c14,(hW.cell (p:=⟨p,19,none⟩) hpw).trans c19,(hw.cell (p:=⟨b,_,none⟩) hb0).trans g0,(hw.cell (p:=⟨b,_,none⟩) hb0).trans g1,(hw.cell (p:=⟨b,_,none⟩) hb0).trans g2,(hw.cell (p:=⟨b,_,none⟩) hb0).trans g3,(hw.cell (p:=⟨b,_,none⟩) hb0).trans g4⟩
 have HRES:Hid (∀ W,Below W1.heap.size W1 W→(∀ o,o < 7→∃ v,W.cell? ⟨w.heap.size,o,none⟩=some v)∧∀ o,W.frozen? ⟨w.heap.size,o,none⟩=false):=fun W hW=>by
  have hl:w.heap.size < W1.heap.size:=by omega
  refine ⟨fun o ho=>?_,fun o=>(hW.frozen (p:=⟨w.heap.size,o,none⟩) hl).trans (by rw [←e1]; exact frozen_new _ _ _ _)⟩
  have hcc:∃ v,W1.cell? ⟨w.heap.size,o,none⟩=some v:=by
   rw [←e1]
   have:o=0 ∨ o=1 ∨ o=2 ∨ o=3 ∨ o=4 ∨ o=5 ∨ o=6:=by omega
   rcases this with rfl | rfl | rfl | rfl | rfl | rfl | rfl <;> exact ⟨_,cell_new0 w _ 39 _ _ rfl⟩
  obtain ⟨v,hv⟩:=hcc
  exact ⟨v,(hW.cell (p:=⟨w.heap.size,o,none⟩) hl).trans hv⟩
 have HE:=hide e1
 have HG5:=hide g5
 have HGB:=hide gb
 have HH:=hide h
 have HB1:=hide b1
 have HNN:=hide hn
 have hNV:namV true q=.pointer (some ⟨q,0,none⟩):=rfl
 rw [hNV]
 clear hNV
 unfold GvW
 rw [hw]
 obtain ⟨LT,hLT⟩:∃ LT,(wAt ws i).lit=LT:=⟨_,rfl⟩
 rw [hLT] at KS HG5 HGB
 try rw [hLT]
 generalize (wAt ws i).text=TX at *
 generalize (wAt ws i).pos=PS at *
 generalize (wAt ws i).kind=KI at *
 subst hk3
 clear h h1 e1 b1 hn g0 g1 g2 g3 g4 g5 hLT c14 c19 ho1 gb
 obtain ⟨L,hLL⟩:∃ L,ws.length=L:=⟨_,rfl⟩
 rw [hLL] at KS hne hne2 hile hL hi
 have HLL:=hide hLL
 clear hLL
 generalize R.cw=cw at *
 go_enter Try.func85,Try.ntmps85
 go_upto_region 1 with fail
 rw [HE.out]
 obtain ⟨-,k14,k19,-⟩:=KS.out W1 (Below.refl _ _)
 go_quiet (fail)
 go_upto_region 3 with fail
 obtain ⟨wq,hwq⟩:∃ wq,W1.drewN nq=wq:=⟨_,rfl⟩
 have bq:Below W1.heap.size W1 wq:=by rw [←hwq]; exact drewN_below (Below.refl W1.heap.size W1) _
 have sq:wq.heap.size=w.heap.size+1:=by rw [←hwq]; exact s1
 have HBQ:=hide bq
 have HDQ:Hid (Below W1.heap.size W1 wq.drew):=bq.drew
 rw [hwq]
 clear hwq k14 k19
 obtain ⟨-,k14,k19,k0,k1,k2,k3,k4⟩:=KS.out wq bq
 go_region_held3 (fun W=>Below W1.heap.size W1 W∧W.cell? ⟨p,14,none⟩=some (.slice (some ⟨b,off,none⟩) L cw)∧W.cell? ⟨p,19,none⟩=some (.int .i64 (i:Int))∧W.cell? ⟨b,off+i * 5,none⟩=some (.int .i64 3)∧W.cell? ⟨b,off+i * 5+1,none⟩=some (.string TX)∧W.cell? ⟨b,off+i * 5+2,none⟩=some (.slice z1 LT.shape.length m1)∧W.cell? ⟨b,off+i * 5+3,none⟩=some (.slice z2 LT.cells.length m2)∧W.cell? ⟨b,off+i * 5+4,none⟩=some (.int .i64 PS)) (first | with_reducible exact KS.out _ HDQ.out | with_reducible exact KS.out _ (by with_reducible assumption) | with_reducible exact KS.out _ (HDQ.out.alloc HDQ.out.size _) | with_reducible exact KS.out _ (HBQ.out.alloc HBQ.out.size _) | with_reducible exact KS.out _ ((HBQ.out.alloc HBQ.out.size _).drew)) (fail)
 clear k14 k19 k0 k1 k2 k3 k4
 go_upto_region 9 with fail
 obtain ⟨W4,hW4⟩:∃ W4,((wq.alloc (.cells #[.int .i64 3,.string TX,.slice z1 LT.shape.length m1,.slice z2 LT.cells.length m2,.int .i64 PS] 43)).alloc (.cells #[.int .i64 0,.int .i64 0,.string ⟨#[]⟩,.slice none 0 0,.slice none 0 0,.slice none 0 0,.int .i64 PS] 39)).drew=W4:=⟨_,rfl⟩
 rw [hW4]
 have s4:W4.heap.size=w.heap.size+3:=by rw [←hW4]; show (((wq.alloc _).alloc _)).heap.size=_; simp [sq]
 have b4q:Below W1.heap.size W1 W4:=by rw [←hW4]; exact ((bq.alloc bq.size _).alloc (by simp; have:=bq.size; omega) _).drew
 have b4:Below w.heap.size w W4:=HB1.out.trans (b4q.mono HB1.out.size)
 have wc:∀ o v,(#[.int .i64 3,.string TX,.slice z1 LT.shape.length m1,.slice z2 LT.cells.length m2,.int .i64 PS]:Array Value)[o]?=some v→W4.cell? ⟨w.heap.size+1,o,none⟩=some v:=fun o v ho=>by
  rw [←hW4,← sq]
  exact cell_one (cell_new0 wq _ 43 o v ho) (by simp) _
 have nc:∀ o v,(#[.int .i64 0,.int .i64 0,.string ⟨#[]⟩,.slice none 0 0,.slice none 0 0,.slice none 0 0,.int .i64 PS]:Array Value)[o]?=some v→W4.cell? ⟨w.heap.size+1+1,o,none⟩=some v:=fun o v ho=>by
  rw [←hW4]
  have:=cell_new0 (wq.alloc (.cells #[.int .i64 3,.string TX,.slice z1 LT.shape.length m1,.slice z2 LT.cells.length m2,.int .i64 PS] 43)) #[.int .i64 0,.int .i64 0,.string ⟨#[]⟩,.slice none 0 0,.slice none 0 0,.slice none 0 0,.int .i64 PS] 39 o v ho
  have e9:(wq.alloc (.cells #[.int .i64 3,.string TX,.slice z1 LT.shape.length m1,.slice z2 LT.cells.length m2,.int .i64 PS] 43)).heap.size=w.heap.size+1+1:=by simp [sq]
  rw [e9] at this
  exact this
 have nf:∀ o,W4.frozen? ⟨w.heap.size+1+1,o,none⟩=false:=fun o=>by
  rw [←hW4]
  have:=frozen_new (wq.alloc (.cells #[.int .i64 3,.string TX,.slice z1 LT.shape.length m1,.slice z2 LT.cells.length m2,.int .i64 PS] 43)) #[.int .i64 0,.int .i64 0,.string ⟨#[]⟩,.slice none 0 0,.slice none 0 0,.slice none 0 0,.int .i64 PS] 39 o
  have e9:(wq.alloc (.cells #[.int .i64 3,.string TX,.slice z1 LT.shape.length m1,.slice z2 LT.cells.length m2,.int .i64 PS] 43)).heap.size=w.heap.size+1+1:=by simp [sq]
  rw [e9] at this
  exact this
 have HN:Hid (∀ W,Below W4.heap.size W4 W→(∀ o v,(#[.int .i64 0,.int .i64 0,.string ⟨#[]⟩,.slice none 0 0,.slice none 0 0,.slice none 0 0,.int .i64 PS]:Array Value)[o]?=some v→W.cell? ⟨w.heap.size+1+1,o,none⟩=some v)∧(∀ o,W.frozen? ⟨w.heap.size+1+1,o,none⟩=false)∧(∀ o,o < 7→∃ v,W.cell? ⟨w.heap.size,o,none⟩=some v)∧∀ o,W.frozen? ⟨w.heap.size,o,none⟩=false):=fun W hW =>
  ⟨fun o v ho=>(hW.cell (p:=⟨w.heap.size+1+1,o,none⟩) (by show w.heap.size+1+1 < _; omega)).trans (nc o v ho),fun o=>(hW.frozen (p:=⟨w.heap.size+1+1,o,none⟩) (by show w.heap.size+1+1 < _; omega)).trans (nf o),HRES.out W (b4q.trans (hW.mono b4q.size))⟩
 have HB4:=hide b4
 have HS4:=hide s4
 clear HBQ HDQ hW4 nc nf bq sq b4 b4q s4 HRES KS
 have HSN:Hid (∀ W,Below W4.heap.size W4 W→Sn (n+1) w0 W p g R ws):=fun W hW=>HH.out.sp.sn.next (HB4.out.trans (hW.mono HB4.out.size))
 have HRD:Hid (∀ W,Below W4.heap.size W4 W→Rd (n+1) w0 W p g R ws A i e):=fun W hW=>HH.out.next (HB4.out.trans (hW.mono HB4.out.size))
 have HDN:Hid (∀ m,Below W4.heap.size W4 (W4.drewN m)):=fun m=>drewN_below (Below.refl W4.heap.size W4) m
 have c19n:=fun m=>(HRD.out _ (HDN.out m)).c19
 have c7n:=fun m=>(HSN.out _ (HDN.out m)).c7
 have c19:=(HRD.out _ (Below.refl _ _)).c19
 have c7:=(HSN.out _ (Below.refl _ _)).c7
 have H9:=hide (fun m=>is69 (HSN.out _ (HDN.out m)) i 3 g.left (by omega))
 rw [hT9] at H9
 go_quiet ((go_at_call 69; first | exact Calls.quiet_of_same (H9.out 0) | exact Calls.quiet_of_same (H9.out _)))
 obtain ⟨wm,hwm⟩:∃ wm,W4.drewN nq=wm:=⟨_,rfl⟩
 have bm:Below W4.heap.size W4 wm:=by rw [←hwm]; exact HDN.out _
 have HBM:=hide bm
 rw [hwm]
 go_upto_region 11 with fail
 have HDM:Hid (∀ m,Below W4.heap.size W4 (wm.drewN m)):=fun m=>HBM.out.trans ((drewN_below (Below.refl wm.heap.size wm) m).mono HBM.out.size)
 have d19n:=fun m=>(HRD.out _ (HDM.out m)).c19
 have d8n:=fun m=>(HSN.out _ (HDM.out m)).c8
 have d19:=(HRD.out _ bm).c19
 have d8:=(HSN.out _ bm).c8
 have H11:=hide (fun m=>is69 (HSN.out _ (HDM.out m)) i 3 g.right (by omega))
 rw [hT11] at H11
 clear hwm
 go_quiet ((go_at_call 69; first | exact Calls.quiet_of_same (H11.out 0) | exact Calls.quiet_of_same (H11.out _)))
 obtain ⟨w5,hw5⟩:∃ w5,wm.drewN nq=w5:=⟨_,rfl⟩
 have b5:Below W4.heap.size W4 w5:=by rw [←hw5]; exact HDM.out _
 have HB5:=hide b5
 go_upto_region 12 with fail
 rw [hw5]
 obtain ⟨xn,xf,xr,xg⟩:=HN.out _ b5
 have x0:=xn 0 _ rfl
 have x1:=xn 1 _ rfl
 have x2:=xn 2 _ rfl
 have x3:=xn 3 _ rfl
 have x4:=xn 4 _ rfl
 have x5:=xn 5 _ rfl
 have x6:=xn 6 _ rfl
 have y0:=xf 0
 have y2:=xf 2
 have y3:=xf 3
 have y4:=xf 4
 obtain ⟨r0,R0⟩:=xr 0 (by omega)
 obtain ⟨r1,R1⟩:=xr 1 (by omega)
 obtain ⟨r2,R2⟩:=xr 2 (by omega)
 obtain ⟨r3,R3⟩:=xr 3 (by omega)
 obtain ⟨r4,R4⟩:=xr 4 (by omega)
 obtain ⟨r5,R5⟩:=xr 5 (by omega)
 obtain ⟨r6,R6⟩:=xr 6 (by omega)
 have G0:=xg 0
 have G1:=xg 1
 have G2:=xg 2
 have G3:=xg 3
 have G4:=xg 4
 have G5:=xg 5
 have G6:=xg 6
 clear xn xf xr xg HN
 have hbw5:Below w.heap.size w w5:=HB4.out.trans (b5.mono HB4.out.size)
 obtain ⟨ql,qp,qc0,qc1,qf0,qf1⟩:=(HNN.out rfl).next hbw5
 have qlt:=(HNN.out rfl).lt
 clear b5 hw5 H9 H11 HSN HRD HDN HDM HBM bm d19n d8n d19 d8 c19n c7n c19 c7 wc
 go_upto_region 15 with fail
 obtain ⟨w7,hw7⟩:∃ w7,((w5.setCell ⟨w.heap.size+1+1,0,none⟩ (.int .i64 4)).setCell ⟨q,1,none⟩ (.bool true))=w7:=⟨_,rfl⟩
 rw [hw7]
 have v0:w7.cell? ⟨w.heap.size+1+1,0,none⟩=some (.int .i64 4):=by rw [←hw7]; exact cs_off (by omega) (cs_same x0)
 have v1:w7.cell? ⟨w.heap.size+1+1,1,none⟩=some (.int .i64 0):=by rw [←hw7]; exact cs_off (by omega) (cs_off (by omega) x1)
 have v2:w7.cell? ⟨w.heap.size+1+1,2,none⟩=some (.string ⟨#[]⟩):=by rw [←hw7]; exact cs_off (by omega) (cs_off (by omega) x2)
 have v3:w7.cell? ⟨w.heap.size+1+1,3,none⟩=some (.slice none 0 0):=by rw [←hw7]; exact cs_off (by omega) (cs_off (by omega) x3)
 have v4:w7.cell? ⟨w.heap.size+1+1,4,none⟩=some (.slice none 0 0):=by rw [←hw7]; exact cs_off (by omega) (cs_off (by omega) x4)
 have v5:w7.cell? ⟨w.heap.size+1+1,5,none⟩=some (.slice none 0 0):=by rw [←hw7]; exact cs_off (by omega) (cs_off (by omega) x5)
 have v6:w7.cell? ⟨w.heap.size+1+1,6,none⟩=some (.int .i64 PS):=by rw [←hw7]; exact cs_off (by omega) (cs_off (by omega) x6)
 have Q0:w7.cell? ⟨w.heap.size,0,none⟩=some r0:=by rw [←hw7]; exact cs_off (by omega) (cs_off (by omega) R0)
 have F0:w7.frozen? ⟨w.heap.size,0,none⟩=false:=by rw [←hw7]; exact fs_any (fs_any G0)
 have Q1:w7.cell? ⟨w.heap.size,1,none⟩=some r1:=by rw [←hw7]; exact cs_off (by omega) (cs_off (by omega) R1)
 have F1:w7.frozen? ⟨w.heap.size,1,none⟩=false:=by rw [←hw7]; exact fs_any (fs_any G1)
 have Q2:w7.cell? ⟨w.heap.size,2,none⟩=some r2:=by rw [←hw7]; exact cs_off (by omega) (cs_off (by omega) R2)
 have F2:w7.frozen? ⟨w.heap.size,2,none⟩=false:=by rw [←hw7]; exact fs_any (fs_any G2)
 have Q3:w7.cell? ⟨w.heap.size,3,none⟩=some r3:=by rw [←hw7]; exact cs_off (by omega) (cs_off (by omega) R3)
 have F3:w7.frozen? ⟨w.heap.size,3,none⟩=false:=by rw [←hw7]; exact fs_any (fs_any G3)
 have Q4:w7.cell? ⟨w.heap.size,4,none⟩=some r4:=by rw [←hw7]; exact cs_off (by omega) (cs_off (by omega) R4)
 have F4:w7.frozen? ⟨w.heap.size,4,none⟩=false:=by rw [←hw7]; exact fs_any (fs_any G4)
 have Q5:w7.cell? ⟨w.heap.size,5,none⟩=some r5:=by rw [←hw7]; exact cs_off (by omega) (cs_off (by omega) R5)
 have F5:w7.frozen? ⟨w.heap.size,5,none⟩=false:=by rw [←hw7]; exact fs_any (fs_any G5)
 have Q6:w7.cell? ⟨w.heap.size,6,none⟩=some r6:=by rw [←hw7]; exact cs_off (by omega) (cs_off (by omega) R6)
 have F6:w7.frozen? ⟨w.heap.size,6,none⟩=false:=by rw [←hw7]; exact fs_any (fs_any G6)
 have HB7:=hide (show But (fun k=>Two2 w k ∨ k=q) w5 w7 by rw [←hw7]; exact butS (butS (But.refl _ _) (Or.inl (two_n w))) (Or.inr rfl))
 have HQ7:=hide (show Nq w7 p q (orN nm (false,true)) by
  rw [←hw7]
  refine ⟨by simpa using ql,qp,?_,?_,fs_any (fs_any qf0),fs_any (fs_any qf1)⟩
  ·rw [show (orN nm (false,true)).1=nm.1 by simp [orN]]; exact cs_off (by omega) (cs_off (by omega) qc0)
  ·rw [show (orN nm (false,true)).2=true by simp [orN]]; exact cs_same (cs_off (by omega) qc1))
 have HBW5:=hide hbw5
 clear hw7 x0 x1 x2 x3 x4 x5 x6 y0 y2 y3 y4 R0 R1 R2 R3 R4 R5 R6 G0 G1 G2 G3 G4 G5 G6 ql qc0 qc1 qf0 qf1 hbw5
 have HFIN:Hid (∀ wf,But (Two2 w) w7 wf→But (TT true p q) w wf∧∃ v m,(Ending.returned (.agg #[.int .i64 4,.int .i64 0,.string ⟨#[]⟩,.slice none 0 0,.slice none 0 0,.slice none 0 0,.int .i64 PS]):Ending)=.returned v∧Rd (n+1) w0 wf p g R ws A i e∧Tr (n+1) w0.heap.size m w.heap.size wf.heap.size wf (node 4 0 nost [] PS) v∧Nq wf p q (orN nm (false,true))):=fun wf hf=>by
  have hall:But (fun k=>Two2 w k ∨ k=q) w5 wf:=HB7.out.trans hf fun j _ hj=>Or.inl hj
  have hup:Below (p+1) w wf:=(HBW5.out.mono (Nat.lt_of_lt_of_le qp (Nat.le_of_lt qlt))).trans (hall.below (by have:=HBW5.out.size; omega) fun k hk=>by rcases hk with (rfl | rfl) | rfl <;> omega)
  refine ⟨(But.of HBW5.out).trans hall fun j hj ht=>Or.inr ⟨rfl,by rcases ht with (ht | ht) | ht <;> omega⟩,_,1,rfl,HH.out.upto hup,Tr.leaf n _ _ _ _ 4 0 nost PS (Nat.zero_le _),HQ7.out.keep (hf.below (by have:=HB7.out.size; have:=HBW5.out.size; omega) fun k hk=>by rcases hk with rfl | rfl <;> omega)⟩
 clear HB5 HB4 HS4 HH HNN HG5 HGB HB7 HQ7
 go_wp2
 refine bodyPost_ret (v:=.agg #[.int .i64 4,.int .i64 0,.string ⟨#[]⟩,.slice none 0 0,.slice none 0 0,.slice none 0 0,.int .i64 PS]) (by simp [results,Try.results85,go_sem,Q0,Q1,Q2,Q3,Q4,Q5,Q6]) rfl (pack_in (HFIN.out _ ?_))
 repeat' first | with_reducible exact But.refl _ _ | with_reducible exact two_r w | with_reducible refine butS ?_ ?_
end Go.Proofs.Ytnaejfoighmfeaa
namespace Go.Proofs.Ytnaejfoighmfeaa
open Go.ChangeShapes Go.WideShapes Go.ChangeAt Go.RowKit
set_option maxRecDepth 100000
set_option linter.unusedVariables false
set_option linter.unusedSimpArgs false
theorem pack_out {X:Prop} {P:Value→Prop} {Rr:Prop} {T:Value→Nat→Prop} {N:Prop} (h:X∧∃ v m,P v∧Rr∧T v m∧True):X∧∃ v m,P v∧Rr∧T v m∧(false=true→N):=by
 obtain ⟨a,v,m,b,c,d,-⟩:=h
 exact ⟨a,v,m,b,c,d,fun h=>by cases h⟩
set_option maxHeartbeats 8000000 in
theorem word_var_true {n:Nat} {w0 w:World} {p q:Nat} {g:Gr} {R:Raw} {ws:List Wo} {A:Ra} {i:Nat} {e:Int} (h:Rd (n+1) w0 w p g R ws A i e) (nm:Nm) (hn:true=true→Nq w p q nm) (hi:i < ws.length) (hk3:(wAt ws i).kind=3) (hnb:nameB (wAt ws i).text=true) (hk0:isT 3 g.left [wAt ws i]=false) (hk1:isT 3 g.right [wAt ws i]=false) :
  Calls Try.prog 85 #[.pointer (some ⟨p,0,none⟩),namV true q] w fun en w'=>GvW n w0 w p q g R ws A i e true nm (wordS g e true (ws.drop i)) en w':=by
 have hw:wordS g e true (ws.drop i)=.ok (node 2 0 (wAt ws i).text [] (wAt ws i).pos,false,false):=by rw [drop_at hi]; simp [wordS,hk3,hnb,hk0,hk1]
 have hT9:isT 3 g.left (ws.drop i)=false:=by rw [drop_at hi]; exact hk0
 have hT11:isT 3 g.right (ws.drop i)=false:=by rw [drop_at hi]; exact hk1
 clear hk0 hk1
 have hile:=h.hi
 obtain ⟨W1,e1⟩:∃ W1,w.alloc (.cells #[.int .i64 0,.int .i64 0,.string ⟨#[]⟩,.slice none 0 0,.slice none 0 0,.slice none 0 0,.int .i64 0] 39)=W1:=⟨_,rfl⟩
 have b1:Below w.heap.size w W1:=by rw [←e1]; exact one_alloc _ _
 have s1:W1.heap.size=w.heap.size+1:=by rw [←e1]; simp
 have h1:=h.next b1
 have c14:=h1.sp.sn.c14
 have c19:=h1.c19
 have hL:=h1.sp.sn.words
 have hpw:=h1.sp.sn.hp2
 obtain ⟨b,off,z1,m1,z2,m2,ha,hb0,g0,g1,g2,g3,g4,gb,g5⟩:=h.sp.sn.wo.2 i hi
 rw [ha] at c14
 have hne:((i:Int) == (ws.length:Int))=false:=by simp; omega
 have hne2:¬ (i:Int)=(ws.length:Int):=by omega
 have ho1:=h1.sp.sn.old
 have KS:Hid (∀ W,Below W1.heap.size W1 W→Below W1.heap.size W1 W∧W.cell? ⟨p,14,none⟩=some (.slice (some ⟨b,off,none⟩) ws.length R.cw)∧W.cell? ⟨p,19,none⟩=some (.int .i64 (i:Int))∧W.cell? ⟨b,off+i * 5,none⟩=some (.int .i64 (wAt ws i).kind)∧W.cell? ⟨b,off+i * 5+1,none⟩=some (.string (wAt ws i).text)∧W.cell? ⟨b,off+i * 5+2,none⟩=some (.slice z1 (wAt ws i).lit.shape.length m1)∧W.cell? ⟨b,off+i * 5+3,none⟩=some (.slice z2 (wAt ws i).lit.cells.length m2)∧W.cell? ⟨b,off+i * 5+4,none⟩=some (.int .i64 (wAt ws i).pos)):=fun W hW =>
  have hw:=ho1.trans (hW.mono ho1.size)
  ⟨hW,(hW.cell (p:=⟨p,14,none⟩) hpw).trans c14,(hW.cell (p:=⟨p,19,none⟩) hpw).trans c19,(hw.cell (p:=⟨b,_,none⟩) hb0).trans g0,(hw.cell (p:=⟨b,_,none⟩) hb0).trans g1,(hw.cell (p:=⟨b,_,none⟩) hb0).trans g2,(hw.cell (p:=⟨b,_,none⟩) hb0).trans g3,(hw.cell (p:=⟨b,_,none⟩) hb0).trans g4⟩
 have HRES:Hid (∀ W,Below W1.heap.size W1 W→(∀ o,o < 7→∃ v,W.cell? ⟨w.heap.size,o,none⟩=some v)∧∀ o,W.frozen? ⟨w.heap.size,o,none⟩=false):=fun W hW=>by
  have hl:w.heap.size < W1.heap.size:=by omega
  refine ⟨fun o ho=>?_,fun o=>(hW.frozen (p:=⟨w.heap.size,o,none⟩) hl).trans (by rw [←e1]; exact frozen_new _ _ _ _)⟩
  have hcc:∃ v,W1.cell? ⟨w.heap.size,o,none⟩=some v:=by
   rw [←e1]
   have:o=0 ∨ o=1 ∨ o=2 ∨ o=3 ∨ o=4 ∨ o=5 ∨ o=6:=by omega
   rcases this with rfl | rfl | rfl | rfl | rfl | rfl | rfl <;> exact ⟨_,cell_new0 w _ 39 _ _ rfl⟩
  obtain ⟨v,hv⟩:=hcc
  exact ⟨v,(hW.cell (p:=⟨w.heap.size,o,none⟩) hl).trans hv⟩
 have HE:=hide e1
 have HG5:=hide g5
 have HGB:=hide gb
 have HH:=hide h
 have HB1:=hide b1
 have HNN:=hide hn
 have hNV:namV true q=.pointer (some ⟨q,0,none⟩):=rfl
 rw [hNV]
 clear hNV
 unfold GvW
 rw [hw]
 obtain ⟨LT,hLT⟩:∃ LT,(wAt ws i).lit=LT:=⟨_,rfl⟩
 rw [hLT] at KS HG5 HGB
 try rw [hLT]
 generalize (wAt ws i).text=TX at *
 generalize (wAt ws i).pos=PS at *
 generalize (wAt ws i).kind=KI at *
 subst hk3
 clear h h1 e1 b1 hn g0 g1 g2 g3 g4 g5 hLT c14 c19 ho1 gb
 obtain ⟨L,hLL⟩:∃ L,ws.length=L:=⟨_,rfl⟩
 rw [hLL] at KS hne hne2 hile hL hi
 have HLL:=hide hLL
 clear hLL
 generalize R.cw=cw at *
 go_enter Try.func85,Try.ntmps85
 go_upto_region 1 with fail
 rw [HE.out]
 obtain ⟨-,k14,k19,-⟩:=KS.out W1 (Below.refl _ _)
 go_quiet (fail)
 go_upto_region 3 with fail
 obtain ⟨wq,hwq⟩:∃ wq,W1.drewN nq=wq:=⟨_,rfl⟩
 have bq:Below W1.heap.size W1 wq:=by rw [←hwq]; exact drewN_below (Below.refl W1.heap.size W1) _
 have sq:wq.heap.size=w.heap.size+1:=by rw [←hwq]; exact s1
 have HBQ:=hide bq
 have HDQ:Hid (Below W1.heap.size W1 wq.drew):=bq.drew
 rw [hwq]
 clear hwq k14 k19
 obtain ⟨-,k14,k19,k0,k1,k2,k3,k4⟩:=KS.out wq bq
 go_region_held3 (fun W=>Below W1.heap.size W1 W∧W.cell? ⟨p,14,none⟩=some (.slice (some ⟨b,off,none⟩) L cw)∧W.cell? ⟨p,19,none⟩=some (.int .i64 (i:Int))∧W.cell? ⟨b,off+i * 5,none⟩=some (.int .i64 3)∧W.cell? ⟨b,off+i * 5+1,none⟩=some (.string TX)∧W.cell? ⟨b,off+i * 5+2,none⟩=some (.slice z1 LT.shape.length m1)∧W.cell? ⟨b,off+i * 5+3,none⟩=some (.slice z2 LT.cells.length m2)∧W.cell? ⟨b,off+i * 5+4,none⟩=some (.int .i64 PS)) (first | with_reducible exact KS.out _ HDQ.out | with_reducible exact KS.out _ (by with_reducible assumption) | with_reducible exact KS.out _ (HDQ.out.alloc HDQ.out.size _) | with_reducible exact KS.out _ (HBQ.out.alloc HBQ.out.size _) | with_reducible exact KS.out _ ((HBQ.out.alloc HBQ.out.size _).drew)) (fail)
 clear k14 k19 k0 k1 k2 k3 k4
 go_upto_region 9 with fail
 obtain ⟨W4,hW4⟩:∃ W4,((wq.alloc (.cells #[.int .i64 3,.string TX,.slice z1 LT.shape.length m1,.slice z2 LT.cells.length m2,.int .i64 PS] 43)).alloc (.cells #[.int .i64 0,.int .i64 0,.string ⟨#[]⟩,.slice none 0 0,.slice none 0 0,.slice none 0 0,.int .i64 PS] 39)).drew=W4:=⟨_,rfl⟩
 rw [hW4]
 have s4:W4.heap.size=w.heap.size+3:=by rw [←hW4]; show (((wq.alloc _).alloc _)).heap.size=_; simp [sq]
 have b4q:Below W1.heap.size W1 W4:=by rw [←hW4]; exact ((bq.alloc bq.size _).alloc (by simp; have:=bq.size; omega) _).drew
 have b4:Below w.heap.size w W4:=HB1.out.trans (b4q.mono HB1.out.size)
 have wc:∀ o v,(#[.int .i64 3,.string TX,.slice z1 LT.shape.length m1,.slice z2 LT.cells.length m2,.int .i64 PS]:Array Value)[o]?=some v→W4.cell? ⟨w.heap.size+1,o,none⟩=some v:=fun o v ho=>by
  rw [←hW4,← sq]
  exact cell_one (cell_new0 wq _ 43 o v ho) (by simp) _
 have nc:∀ o v,(#[.int .i64 0,.int .i64 0,.string ⟨#[]⟩,.slice none 0 0,.slice none 0 0,.slice none 0 0,.int .i64 PS]:Array Value)[o]?=some v→W4.cell? ⟨w.heap.size+1+1,o,none⟩=some v:=fun o v ho=>by
  rw [←hW4]
  have:=cell_new0 (wq.alloc (.cells #[.int .i64 3,.string TX,.slice z1 LT.shape.length m1,.slice z2 LT.cells.length m2,.int .i64 PS] 43)) #[.int .i64 0,.int .i64 0,.string ⟨#[]⟩,.slice none 0 0,.slice none 0 0,.slice none 0 0,.int .i64 PS] 39 o v ho
  have e9:(wq.alloc (.cells #[.int .i64 3,.string TX,.slice z1 LT.shape.length m1,.slice z2 LT.cells.length m2,.int .i64 PS] 43)).heap.size=w.heap.size+1+1:=by simp [sq]
  rw [e9] at this
  exact this
 have nf:∀ o,W4.frozen? ⟨w.heap.size+1+1,o,none⟩=false:=fun o=>by
  rw [←hW4]
  have:=frozen_new (wq.alloc (.cells #[.int .i64 3,.string TX,.slice z1 LT.shape.length m1,.slice z2 LT.cells.length m2,.int .i64 PS] 43)) #[.int .i64 0,.int .i64 0,.string ⟨#[]⟩,.slice none 0 0,.slice none 0 0,.slice none 0 0,.int .i64 PS] 39 o
  have e9:(wq.alloc (.cells #[.int .i64 3,.string TX,.slice z1 LT.shape.length m1,.slice z2 LT.cells.length m2,.int .i64 PS] 43)).heap.size=w.heap.size+1+1:=by simp [sq]
  rw [e9] at this
  exact this
 have HN:Hid (∀ W,Below W4.heap.size W4 W→(∀ o v,(#[.int .i64 0,.int .i64 0,.string ⟨#[]⟩,.slice none 0 0,.slice none 0 0,.slice none 0 0,.int .i64 PS]:Array Value)[o]?=some v→W.cell? ⟨w.heap.size+1+1,o,none⟩=some v)∧(∀ o,W.frozen? ⟨w.heap.size+1+1,o,none⟩=false)∧(∀ o,o < 7→∃ v,W.cell? ⟨w.heap.size,o,none⟩=some v)∧∀ o,W.frozen? ⟨w.heap.size,o,none⟩=false):=fun W hW =>
  ⟨fun o v ho=>(hW.cell (p:=⟨w.heap.size+1+1,o,none⟩) (by show w.heap.size+1+1 < _; omega)).trans (nc o v ho),fun o=>(hW.frozen (p:=⟨w.heap.size+1+1,o,none⟩) (by show w.heap.size+1+1 < _; omega)).trans (nf o),HRES.out W (b4q.trans (hW.mono b4q.size))⟩
 have HB4:=hide b4
 have HS4:=hide s4
 clear HBQ HDQ hW4 nc nf bq sq b4 b4q s4 HRES KS
 have HSN:Hid (∀ W,Below W4.heap.size W4 W→Sn (n+1) w0 W p g R ws):=fun W hW=>HH.out.sp.sn.next (HB4.out.trans (hW.mono HB4.out.size))
 have HRD:Hid (∀ W,Below W4.heap.size W4 W→Rd (n+1) w0 W p g R ws A i e):=fun W hW=>HH.out.next (HB4.out.trans (hW.mono HB4.out.size))
 have HDN:Hid (∀ m,Below W4.heap.size W4 (W4.drewN m)):=fun m=>drewN_below (Below.refl W4.heap.size W4) m
 have c19n:=fun m=>(HRD.out _ (HDN.out m)).c19
 have c7n:=fun m=>(HSN.out _ (HDN.out m)).c7
 have c19:=(HRD.out _ (Below.refl _ _)).c19
 have c7:=(HSN.out _ (Below.refl _ _)).c7
 have H9:=hide (fun m=>is69 (HSN.out _ (HDN.out m)) i 3 g.left (by omega))
 rw [hT9] at H9
 go_quiet ((go_at_call 69; first | exact Calls.quiet_of_same (H9.out 0) | exact Calls.quiet_of_same (H9.out _)))
 obtain ⟨wm,hwm⟩:∃ wm,W4.drewN nq=wm:=⟨_,rfl⟩
 have bm:Below W4.heap.size W4 wm:=by rw [←hwm]; exact HDN.out _
 have HBM:=hide bm
 rw [hwm]
 go_upto_region 11 with fail
 have HDM:Hid (∀ m,Below W4.heap.size W4 (wm.drewN m)):=fun m=>HBM.out.trans ((drewN_below (Below.refl wm.heap.size wm) m).mono HBM.out.size)
 have d19n:=fun m=>(HRD.out _ (HDM.out m)).c19
 have d8n:=fun m=>(HSN.out _ (HDM.out m)).c8
 have d19:=(HRD.out _ bm).c19
 have d8:=(HSN.out _ bm).c8
 have H11:=hide (fun m=>is69 (HSN.out _ (HDM.out m)) i 3 g.right (by omega))
 rw [hT11] at H11
 clear hwm
 go_quiet ((go_at_call 69; first | exact Calls.quiet_of_same (H11.out 0) | exact Calls.quiet_of_same (H11.out _)))
 obtain ⟨w5,hw5⟩:∃ w5,wm.drewN nq=w5:=⟨_,rfl⟩
 have b5:Below W4.heap.size W4 w5:=by rw [←hw5]; exact HDM.out _
 rw [hw5]
 clear hw5 H9 H11 HDN HDM HBM bm d19n d8n d19 d8 c19n c7n c19 c7
 have w50:w5.cell? ⟨w.heap.size+1,0,none⟩=some (.int .i64 3):=(b5.cell (p:=⟨w.heap.size+1,0,none⟩) (by show w.heap.size+1 < _; have:=HS4.out; omega)).trans (wc 0 _ rfl)
 have w51:w5.cell? ⟨w.heap.size+1,1,none⟩=some (.string TX):=(b5.cell (p:=⟨w.heap.size+1,1,none⟩) (by show w.heap.size+1 < _; have:=HS4.out; omega)).trans (wc 1 _ rfl)
 have HWC:Hid (∀ W,Below w5.heap.size w5 W→W.cell? ⟨w.heap.size+1,1,none⟩=some (.string TX)):=fun W hW=>(hW.cell (p:=⟨w.heap.size+1,1,none⟩) (by show w.heap.size+1 < _; have:=HS4.out; have:=b5.size; omega)).trans w51
 have HB5:=hide b5
 clear wc
 have HNM:=hide (name15 TX w5)
 rw [hnb] at HNM
 clear HSN HRD
 go_wp2_with fail
 refine HNM.out.mono ?_
 rintro en w6 ⟨rfl,hb6⟩
 have b6:Below W4.heap.size W4 w6:=HB5.out.trans (hb6.mono HB5.out.size)
 have w61:=HWC.out _ hb6
 have HB6:=hide b6
 clear HNM HWC w50 w51 b5 HB5 hb6
 obtain ⟨xn,xf,xr,xg⟩:=HN.out _ b6
 have x0:=xn 0 _ rfl
 have x1:=xn 1 _ rfl
 have x2:=xn 2 _ rfl
 have x3:=xn 3 _ rfl
 have x4:=xn 4 _ rfl
 have x5:=xn 5 _ rfl
 have x6:=xn 6 _ rfl
 have y0:=xf 0
 have y2:=xf 2
 have y3:=xf 3
 have y4:=xf 4
 obtain ⟨r0,R0⟩:=xr 0 (by omega)
 obtain ⟨r1,R1⟩:=xr 1 (by omega)
 obtain ⟨r2,R2⟩:=xr 2 (by omega)
 obtain ⟨r3,R3⟩:=xr 3 (by omega)
 obtain ⟨r4,R4⟩:=xr 4 (by omega)
 obtain ⟨r5,R5⟩:=xr 5 (by omega)
 obtain ⟨r6,R6⟩:=xr 6 (by omega)
 have G0:=xg 0
 have G1:=xg 1
 have G2:=xg 2
 have G3:=xg 3
 have G4:=xg 4
 have G5:=xg 5
 have G6:=xg 6
 clear xn xf xr xg HN
 go_upto_region 14 with fail
 go_region
 all_goals
  obtain ⟨w7,hw7⟩:∃ w7,((w6.setCell ⟨w.heap.size+1+1,0,none⟩ (.int .i64 2)).setCell ⟨w.heap.size+1+1,2,none⟩ (.string TX)).drew=w7:=⟨_,rfl⟩
  go_upto_region 15 with fail
  rw [hw7]
  have v0:w7.cell? ⟨w.heap.size+1+1,0,none⟩=some (.int .i64 2):=by rw [←hw7]; exact cs_off (by omega) (cs_same x0)
  have v1:w7.cell? ⟨w.heap.size+1+1,1,none⟩=some (.int .i64 0):=by rw [←hw7]; exact cs_off (by omega) (cs_off (by omega) x1)
  have v2:w7.cell? ⟨w.heap.size+1+1,2,none⟩=some (.string TX):=by rw [←hw7]; exact cs_same (cs_off (by omega) x2)
  have v3:w7.cell? ⟨w.heap.size+1+1,3,none⟩=some (.slice none 0 0):=by rw [←hw7]; exact cs_off (by omega) (cs_off (by omega) x3)
  have v4:w7.cell? ⟨w.heap.size+1+1,4,none⟩=some (.slice none 0 0):=by rw [←hw7]; exact cs_off (by omega) (cs_off (by omega) x4)
  have v5:w7.cell? ⟨w.heap.size+1+1,5,none⟩=some (.slice none 0 0):=by rw [←hw7]; exact cs_off (by omega) (cs_off (by omega) x5)
  have v6:w7.cell? ⟨w.heap.size+1+1,6,none⟩=some (.int .i64 PS):=by rw [←hw7]; exact cs_off (by omega) (cs_off (by omega) x6)
  have Q0:w7.cell? ⟨w.heap.size,0,none⟩=some r0:=by rw [←hw7]; exact cs_off (by omega) (cs_off (by omega) R0)
  have F0:w7.frozen? ⟨w.heap.size,0,none⟩=false:=by rw [←hw7]; exact fs_any (fs_any G0)
  have Q1:w7.cell? ⟨w.heap.size,1,none⟩=some r1:=by rw [←hw7]; exact cs_off (by omega) (cs_off (by omega) R1)
  have F1:w7.frozen? ⟨w.heap.size,1,none⟩=false:=by rw [←hw7]; exact fs_any (fs_any G1)
  have Q2:w7.cell? ⟨w.heap.size,2,none⟩=some r2:=by rw [←hw7]; exact cs_off (by omega) (cs_off (by omega) R2)
  have F2:w7.frozen? ⟨w.heap.size,2,none⟩=false:=by rw [←hw7]; exact fs_any (fs_any G2)
  have Q3:w7.cell? ⟨w.heap.size,3,none⟩=some r3:=by rw [←hw7]; exact cs_off (by omega) (cs_off (by omega) R3)
  have F3:w7.frozen? ⟨w.heap.size,3,none⟩=false:=by rw [←hw7]; exact fs_any (fs_any G3)
  have Q4:w7.cell? ⟨w.heap.size,4,none⟩=some r4:=by rw [←hw7]; exact cs_off (by omega) (cs_off (by omega) R4)
  have F4:w7.frozen? ⟨w.heap.size,4,none⟩=false:=by rw [←hw7]; exact fs_any (fs_any G4)
  have Q5:w7.cell? ⟨w.heap.size,5,none⟩=some r5:=by rw [←hw7]; exact cs_off (by omega) (cs_off (by omega) R5)
  have F5:w7.frozen? ⟨w.heap.size,5,none⟩=false:=by rw [←hw7]; exact fs_any (fs_any G5)
  have Q6:w7.cell? ⟨w.heap.size,6,none⟩=some r6:=by rw [←hw7]; exact cs_off (by omega) (cs_off (by omega) R6)
  have F6:w7.frozen? ⟨w.heap.size,6,none⟩=false:=by rw [←hw7]; exact fs_any (fs_any G6)
  have HB7:=hide (show But (Two2 w) w6 w7 by rw [←hw7]; exact (butS (butS (But.refl _ _) (two_n w)) (two_n w)).trans (But.of ((Below.refl _ _).drew)) fun j _ hj=>hj)
  clear hw7 x0 x1 x2 x3 x4 x5 x6 y0 y2 y3 y4 R0 R1 R2 R3 R4 R5 R6 G0 G1 G2 G3 G4 G5 G6
  have HFIN:Hid (∀ wf,But (Two2 w) w7 wf→But (TT true p q) w wf∧∃ v m,(Ending.returned (.agg #[.int .i64 2,.int .i64 0,.string TX,.slice none 0 0,.slice none 0 0,.slice none 0 0,.int .i64 PS]):Ending)=.returned v∧Rd (n+1) w0 wf p g R ws A i e∧Tr (n+1) w0.heap.size m w.heap.size wf.heap.size wf (node 2 0 TX [] PS) v∧Nq wf p q (orN nm (false,false))):=fun wf hf=>by
   have hb:=two_below HB4.out HB6.out (HB7.out.trans hf fun j _ hj=>hj)
   refine ⟨But.of hb,_,1,rfl,HH.out.next hb,Tr.leaf n _ _ _ _ 2 0 TX PS HGB.out.1,by have:=(HNN.out (by first | rfl | trivial)).next hb; cases nm with | mk l r=>simpa [orN] using this⟩
  clear HB6 HB4 HS4 HH HNN HG5 HGB HB7
  go_wp2
  refine bodyPost_ret (v:=.agg #[.int .i64 2,.int .i64 0,.string TX,.slice none 0 0,.slice none 0 0,.slice none 0 0,.int .i64 PS]) (by simp [results,Try.results85,go_sem,Q0,Q1,Q2,Q3,Q4,Q5,Q6]) rfl (pack_in (HFIN.out _ ?_))
  repeat' first | with_reducible exact But.refl _ _ | with_reducible exact two_r w | with_reducible refine butS ?_ ?_
set_option maxHeartbeats 8000000 in
theorem word_var_false {n:Nat} {w0 w:World} {p q:Nat} {g:Gr} {R:Raw} {ws:List Wo} {A:Ra} {i:Nat} {e:Int} (h:Rd (n+1) w0 w p g R ws A i e) (nm:Nm) (hn:false=true→Nq w p q nm) (hi:i < ws.length) (hk3:(wAt ws i).kind=3) (hnb:nameB (wAt ws i).text=true) :
  Calls Try.prog 85 #[.pointer (some ⟨p,0,none⟩),namV false q] w fun en w'=>GvW n w0 w p q g R ws A i e false nm (wordS g e false (ws.drop i)) en w':=by
 have hw:wordS g e false (ws.drop i)=.ok (node 2 0 (wAt ws i).text [] (wAt ws i).pos,false,false):=by rw [drop_at hi]; simp [wordS,hk3,hnb]
 have hile:=h.hi
 obtain ⟨W1,e1⟩:∃ W1,w.alloc (.cells #[.int .i64 0,.int .i64 0,.string ⟨#[]⟩,.slice none 0 0,.slice none 0 0,.slice none 0 0,.int .i64 0] 39)=W1:=⟨_,rfl⟩
 have b1:Below w.heap.size w W1:=by rw [←e1]; exact one_alloc _ _
 have s1:W1.heap.size=w.heap.size+1:=by rw [←e1]; simp
 have h1:=h.next b1
 have c14:=h1.sp.sn.c14
 have c19:=h1.c19
 have hL:=h1.sp.sn.words
 have hpw:=h1.sp.sn.hp2
 obtain ⟨b,off,z1,m1,z2,m2,ha,hb0,g0,g1,g2,g3,g4,gb,g5⟩:=h.sp.sn.wo.2 i hi
 rw [ha] at c14
 have hne:((i:Int) == (ws.length:Int))=false:=by simp; omega
 have hne2:¬ (i:Int)=(ws.length:Int):=by omega
 have ho1:=h1.sp.sn.old
 have KS:Hid (∀ W,Below W1.heap.size W1 W→Below W1.heap.size W1 W∧W.cell? ⟨p,14,none⟩=some (.slice (some ⟨b,off,none⟩) ws.length R.cw)∧W.cell? ⟨p,19,none⟩=some (.int .i64 (i:Int))∧W.cell? ⟨b,off+i * 5,none⟩=some (.int .i64 (wAt ws i).kind)∧W.cell? ⟨b,off+i * 5+1,none⟩=some (.string (wAt ws i).text)∧W.cell? ⟨b,off+i * 5+2,none⟩=some (.slice z1 (wAt ws i).lit.shape.length m1)∧W.cell? ⟨b,off+i * 5+3,none⟩=some (.slice z2 (wAt ws i).lit.cells.length m2)∧W.cell? ⟨b,off+i * 5+4,none⟩=some (.int .i64 (wAt ws i).pos)):=fun W hW =>
  have hw:=ho1.trans (hW.mono ho1.size)
  ⟨hW,(hW.cell (p:=⟨p,14,none⟩) hpw).trans c14,(hW.cell (p:=⟨p,19,none⟩) hpw).trans c19,(hw.cell (p:=⟨b,_,none⟩) hb0).trans g0,(hw.cell (p:=⟨b,_,none⟩) hb0).trans g1,(hw.cell (p:=⟨b,_,none⟩) hb0).trans g2,(hw.cell (p:=⟨b,_,none⟩) hb0).trans g3,(hw.cell (p:=⟨b,_,none⟩) hb0).trans g4⟩
 have HRES:Hid (∀ W,Below W1.heap.size W1 W→(∀ o,o < 7→∃ v,W.cell? ⟨w.heap.size,o,none⟩=some v)∧∀ o,W.frozen? ⟨w.heap.size,o,none⟩=false):=fun W hW=>by
  have hl:w.heap.size < W1.heap.size:=by omega
  refine ⟨fun o ho=>?_,fun o=>(hW.frozen (p:=⟨w.heap.size,o,none⟩) hl).trans (by rw [←e1]; exact frozen_new _ _ _ _)⟩
  have hcc:∃ v,W1.cell? ⟨w.heap.size,o,none⟩=some v:=by
   rw [←e1]
   have:o=0 ∨ o=1 ∨ o=2 ∨ o=3 ∨ o=4 ∨ o=5 ∨ o=6:=by omega
   rcases this with rfl | rfl | rfl | rfl | rfl | rfl | rfl <;> exact ⟨_,cell_new0 w _ 39 _ _ rfl⟩
  obtain ⟨v,hv⟩:=hcc
  exact ⟨v,(hW.cell (p:=⟨w.heap.size,o,none⟩) hl).trans hv⟩
 have HE:=hide e1
 have HG5:=hide g5
 have HGB:=hide gb
 have HH:=hide h
 have HB1:=hide b1
 have HNN:=hide hn
 have hNV:namV false q=.pointer none:=rfl
 rw [hNV]
 clear hNV
 unfold GvW
 rw [hw]
 obtain ⟨LT,hLT⟩:∃ LT,(wAt ws i).lit=LT:=⟨_,rfl⟩
 rw [hLT] at KS HG5 HGB
 try rw [hLT]
 generalize (wAt ws i).text=TX at *
 generalize (wAt ws i).pos=PS at *
 generalize (wAt ws i).kind=KI at *
 subst hk3
 clear h h1 e1 b1 hn g0 g1 g2 g3 g4 g5 hLT c14 c19 ho1 gb
 obtain ⟨L,hLL⟩:∃ L,ws.length=L:=⟨_,rfl⟩
 rw [hLL] at KS hne hne2 hile hL hi
 have HLL:=hide hLL
 clear hLL
 generalize R.cw=cw at *
 go_enter Try.func85,Try.ntmps85
 go_upto_region 1 with fail
 rw [HE.out]
 obtain ⟨-,k14,k19,-⟩:=KS.out W1 (Below.refl _ _)
 go_quiet (fail)
 go_upto_region 3 with fail
 obtain ⟨wq,hwq⟩:∃ wq,W1.drewN nq=wq:=⟨_,rfl⟩
 have bq:Below W1.heap.size W1 wq:=by rw [←hwq]; exact drewN_below (Below.refl W1.heap.size W1) _
 have sq:wq.heap.size=w.heap.size+1:=by rw [←hwq]; exact s1
 have HBQ:=hide bq
 have HDQ:Hid (Below W1.heap.size W1 wq.drew):=bq.drew
 rw [hwq]
 clear hwq k14 k19
 obtain ⟨-,k14,k19,k0,k1,k2,k3,k4⟩:=KS.out wq bq
 go_region_held3 (fun W=>Below W1.heap.size W1 W∧W.cell? ⟨p,14,none⟩=some (.slice (some ⟨b,off,none⟩) L cw)∧W.cell? ⟨p,19,none⟩=some (.int .i64 (i:Int))∧W.cell? ⟨b,off+i * 5,none⟩=some (.int .i64 3)∧W.cell? ⟨b,off+i * 5+1,none⟩=some (.string TX)∧W.cell? ⟨b,off+i * 5+2,none⟩=some (.slice z1 LT.shape.length m1)∧W.cell? ⟨b,off+i * 5+3,none⟩=some (.slice z2 LT.cells.length m2)∧W.cell? ⟨b,off+i * 5+4,none⟩=some (.int .i64 PS)) (first | with_reducible exact KS.out _ HDQ.out | with_reducible exact KS.out _ (by with_reducible assumption) | with_reducible exact KS.out _ (HDQ.out.alloc HDQ.out.size _) | with_reducible exact KS.out _ (HBQ.out.alloc HBQ.out.size _) | with_reducible exact KS.out _ ((HBQ.out.alloc HBQ.out.size _).drew)) (fail)
 clear k14 k19 k0 k1 k2 k3 k4
 go_upto_region 9 with fail
 obtain ⟨W4,hW4⟩:∃ W4,((wq.alloc (.cells #[.int .i64 3,.string TX,.slice z1 LT.shape.length m1,.slice z2 LT.cells.length m2,.int .i64 PS] 43)).alloc (.cells #[.int .i64 0,.int .i64 0,.string ⟨#[]⟩,.slice none 0 0,.slice none 0 0,.slice none 0 0,.int .i64 PS] 39)).drew=W4:=⟨_,rfl⟩
 rw [hW4]
 have s4:W4.heap.size=w.heap.size+3:=by rw [←hW4]; show (((wq.alloc _).alloc _)).heap.size=_; simp [sq]
 have b4q:Below W1.heap.size W1 W4:=by rw [←hW4]; exact ((bq.alloc bq.size _).alloc (by simp; have:=bq.size; omega) _).drew
 have b4:Below w.heap.size w W4:=HB1.out.trans (b4q.mono HB1.out.size)
 have wc:∀ o v,(#[.int .i64 3,.string TX,.slice z1 LT.shape.length m1,.slice z2 LT.cells.length m2,.int .i64 PS]:Array Value)[o]?=some v→W4.cell? ⟨w.heap.size+1,o,none⟩=some v:=fun o v ho=>by
  rw [←hW4,← sq]
  exact cell_one (cell_new0 wq _ 43 o v ho) (by simp) _
 have nc:∀ o v,(#[.int .i64 0,.int .i64 0,.string ⟨#[]⟩,.slice none 0 0,.slice none 0 0,.slice none 0 0,.int .i64 PS]:Array Value)[o]?=some v→W4.cell? ⟨w.heap.size+1+1,o,none⟩=some v:=fun o v ho=>by
  rw [←hW4]
  have:=cell_new0 (wq.alloc (.cells #[.int .i64 3,.string TX,.slice z1 LT.shape.length m1,.slice z2 LT.cells.length m2,.int .i64 PS] 43)) #[.int .i64 0,.int .i64 0,.string ⟨#[]⟩,.slice none 0 0,.slice none 0 0,.slice none 0 0,.int .i64 PS] 39 o v ho
  have e9:(wq.alloc (.cells #[.int .i64 3,.string TX,.slice z1 LT.shape.length m1,.slice z2 LT.cells.length m2,.int .i64 PS] 43)).heap.size=w.heap.size+1+1:=by simp [sq]
  rw [e9] at this
  exact this
 have nf:∀ o,W4.frozen? ⟨w.heap.size+1+1,o,none⟩=false:=fun o=>by
  rw [←hW4]
  have:=frozen_new (wq.alloc (.cells #[.int .i64 3,.string TX,.slice z1 LT.shape.length m1,.slice z2 LT.cells.length m2,.int .i64 PS] 43)) #[.int .i64 0,.int .i64 0,.string ⟨#[]⟩,.slice none 0 0,.slice none 0 0,.slice none 0 0,.int .i64 PS] 39 o
  have e9:(wq.alloc (.cells #[.int .i64 3,.string TX,.slice z1 LT.shape.length m1,.slice z2 LT.cells.length m2,.int .i64 PS] 43)).heap.size=w.heap.size+1+1:=by simp [sq]
  rw [e9] at this
  exact this
 have HN:Hid (∀ W,Below W4.heap.size W4 W→(∀ o v,(#[.int .i64 0,.int .i64 0,.string ⟨#[]⟩,.slice none 0 0,.slice none 0 0,.slice none 0 0,.int .i64 PS]:Array Value)[o]?=some v→W.cell? ⟨w.heap.size+1+1,o,none⟩=some v)∧(∀ o,W.frozen? ⟨w.heap.size+1+1,o,none⟩=false)∧(∀ o,o < 7→∃ v,W.cell? ⟨w.heap.size,o,none⟩=some v)∧∀ o,W.frozen? ⟨w.heap.size,o,none⟩=false):=fun W hW =>
  ⟨fun o v ho=>(hW.cell (p:=⟨w.heap.size+1+1,o,none⟩) (by show w.heap.size+1+1 < _; omega)).trans (nc o v ho),fun o=>(hW.frozen (p:=⟨w.heap.size+1+1,o,none⟩) (by show w.heap.size+1+1 < _; omega)).trans (nf o),HRES.out W (b4q.trans (hW.mono b4q.size))⟩
 have HB4:=hide b4
 have HS4:=hide s4
 clear HBQ HDQ hW4 nc nf bq sq b4 b4q s4 HRES KS
 have HSN:Hid (∀ W,Below W4.heap.size W4 W→Sn (n+1) w0 W p g R ws):=fun W hW=>HH.out.sp.sn.next (HB4.out.trans (hW.mono HB4.out.size))
 have HRD:Hid (∀ W,Below W4.heap.size W4 W→Rd (n+1) w0 W p g R ws A i e):=fun W hW=>HH.out.next (HB4.out.trans (hW.mono HB4.out.size))
 have HDN:Hid (∀ m,Below W4.heap.size W4 (W4.drewN m)):=fun m=>drewN_below (Below.refl W4.heap.size W4) m
 have c19n:=fun m=>(HRD.out _ (HDN.out m)).c19
 have c7n:=fun m=>(HSN.out _ (HDN.out m)).c7
 have c19:=(HRD.out _ (Below.refl _ _)).c19
 have c7:=(HSN.out _ (Below.refl _ _)).c7
 go_quiet (fail)
 obtain ⟨wm,hwm⟩:∃ wm,W4.drewN nq=wm:=⟨_,rfl⟩
 have bm:Below W4.heap.size W4 wm:=by rw [←hwm]; exact HDN.out _
 rw [hwm]
 clear hwm
 go_upto_region 11 with fail
 go_quiet (fail)
 obtain ⟨w5,hw5⟩:∃ w5,wm.drewN nq=w5:=⟨_,rfl⟩
 have b5:Below W4.heap.size W4 w5:=by rw [←hw5]; exact bm.trans ((drewN_below (Below.refl wm.heap.size wm) _).mono bm.size)
 rw [hw5]
 clear hw5 HDN bm c19n c7n c19 c7
 have w50:w5.cell? ⟨w.heap.size+1,0,none⟩=some (.int .i64 3):=(b5.cell (p:=⟨w.heap.size+1,0,none⟩) (by show w.heap.size+1 < _; have:=HS4.out; omega)).trans (wc 0 _ rfl)
 have w51:w5.cell? ⟨w.heap.size+1,1,none⟩=some (.string TX):=(b5.cell (p:=⟨w.heap.size+1,1,none⟩) (by show w.heap.size+1 < _; have:=HS4.out; omega)).trans (wc 1 _ rfl)
 have HWC:Hid (∀ W,Below w5.heap.size w5 W→W.cell? ⟨w.heap.size+1,1,none⟩=some (.string TX)):=fun W hW=>(hW.cell (p:=⟨w.heap.size+1,1,none⟩) (by show w.heap.size+1 < _; have:=HS4.out; have:=b5.size; omega)).trans w51
 have HB5:=hide b5
 clear wc
 have HNM:=hide (name15 TX w5)
 rw [hnb] at HNM
 clear HSN HRD
 go_wp2_with fail
 refine HNM.out.mono ?_
 rintro en w6 ⟨rfl,hb6⟩
 have b6:Below W4.heap.size W4 w6:=HB5.out.trans (hb6.mono HB5.out.size)
 have w61:=HWC.out _ hb6
 have HB6:=hide b6
 clear HNM HWC w50 w51 b5 HB5 hb6
 obtain ⟨xn,xf,xr,xg⟩:=HN.out _ b6
 have x0:=xn 0 _ rfl
 have x1:=xn 1 _ rfl
 have x2:=xn 2 _ rfl
 have x3:=xn 3 _ rfl
 have x4:=xn 4 _ rfl
 have x5:=xn 5 _ rfl
 have x6:=xn 6 _ rfl
 have y0:=xf 0
 have y2:=xf 2
 have y3:=xf 3
 have y4:=xf 4
 obtain ⟨r0,R0⟩:=xr 0 (by omega)
 obtain ⟨r1,R1⟩:=xr 1 (by omega)
 obtain ⟨r2,R2⟩:=xr 2 (by omega)
 obtain ⟨r3,R3⟩:=xr 3 (by omega)
 obtain ⟨r4,R4⟩:=xr 4 (by omega)
 obtain ⟨r5,R5⟩:=xr 5 (by omega)
 obtain ⟨r6,R6⟩:=xr 6 (by omega)
 have G0:=xg 0
 have G1:=xg 1
 have G2:=xg 2
 have G3:=xg 3
 have G4:=xg 4
 have G5:=xg 5
 have G6:=xg 6
 clear xn xf xr xg HN
 go_upto_region 14 with fail
 go_region
 all_goals
  obtain ⟨w7,hw7⟩:∃ w7,((w6.setCell ⟨w.heap.size+1+1,0,none⟩ (.int .i64 2)).setCell ⟨w.heap.size+1+1,2,none⟩ (.string TX)).drew=w7:=⟨_,rfl⟩
  go_upto_region 15 with fail
  rw [hw7]
  have v0:w7.cell? ⟨w.heap.size+1+1,0,none⟩=some (.int .i64 2):=by rw [←hw7]; exact cs_off (by omega) (cs_same x0)
  have v1:w7.cell? ⟨w.heap.size+1+1,1,none⟩=some (.int .i64 0):=by rw [←hw7]; exact cs_off (by omega) (cs_off (by omega) x1)
  have v2:w7.cell? ⟨w.heap.size+1+1,2,none⟩=some (.string TX):=by rw [←hw7]; exact cs_same (cs_off (by omega) x2)
  have v3:w7.cell? ⟨w.heap.size+1+1,3,none⟩=some (.slice none 0 0):=by rw [←hw7]; exact cs_off (by omega) (cs_off (by omega) x3)
  have v4:w7.cell? ⟨w.heap.size+1+1,4,none⟩=some (.slice none 0 0):=by rw [←hw7]; exact cs_off (by omega) (cs_off (by omega) x4)
  have v5:w7.cell? ⟨w.heap.size+1+1,5,none⟩=some (.slice none 0 0):=by rw [←hw7]; exact cs_off (by omega) (cs_off (by omega) x5)
  have v6:w7.cell? ⟨w.heap.size+1+1,6,none⟩=some (.int .i64 PS):=by rw [←hw7]; exact cs_off (by omega) (cs_off (by omega) x6)
  have Q0:w7.cell? ⟨w.heap.size,0,none⟩=some r0:=by rw [←hw7]; exact cs_off (by omega) (cs_off (by omega) R0)
  have F0:w7.frozen? ⟨w.heap.size,0,none⟩=false:=by rw [←hw7]; exact fs_any (fs_any G0)
  have Q1:w7.cell? ⟨w.heap.size,1,none⟩=some r1:=by rw [←hw7]; exact cs_off (by omega) (cs_off (by omega) R1)
  have F1:w7.frozen? ⟨w.heap.size,1,none⟩=false:=by rw [←hw7]; exact fs_any (fs_any G1)
  have Q2:w7.cell? ⟨w.heap.size,2,none⟩=some r2:=by rw [←hw7]; exact cs_off (by omega) (cs_off (by omega) R2)
  have F2:w7.frozen? ⟨w.heap.size,2,none⟩=false:=by rw [←hw7]; exact fs_any (fs_any G2)
  have Q3:w7.cell? ⟨w.heap.size,3,none⟩=some r3:=by rw [←hw7]; exact cs_off (by omega) (cs_off (by omega) R3)
  have F3:w7.frozen? ⟨w.heap.size,3,none⟩=false:=by rw [←hw7]; exact fs_any (fs_any G3)
  have Q4:w7.cell? ⟨w.heap.size,4,none⟩=some r4:=by rw [←hw7]; exact cs_off (by omega) (cs_off (by omega) R4)
  have F4:w7.frozen? ⟨w.heap.size,4,none⟩=false:=by rw [←hw7]; exact fs_any (fs_any G4)
  have Q5:w7.cell? ⟨w.heap.size,5,none⟩=some r5:=by rw [←hw7]; exact cs_off (by omega) (cs_off (by omega) R5)
  have F5:w7.frozen? ⟨w.heap.size,5,none⟩=false:=by rw [←hw7]; exact fs_any (fs_any G5)
  have Q6:w7.cell? ⟨w.heap.size,6,none⟩=some r6:=by rw [←hw7]; exact cs_off (by omega) (cs_off (by omega) R6)
  have F6:w7.frozen? ⟨w.heap.size,6,none⟩=false:=by rw [←hw7]; exact fs_any (fs_any G6)
  have HB7:=hide (show But (Two2 w) w6 w7 by rw [←hw7]; exact (butS (butS (But.refl _ _) (two_n w)) (two_n w)).trans (But.of ((Below.refl _ _).drew)) fun j _ hj=>hj)
  clear hw7 x0 x1 x2 x3 x4 x5 x6 y0 y2 y3 y4 R0 R1 R2 R3 R4 R5 R6 G0 G1 G2 G3 G4 G5 G6
  have HFIN:Hid (∀ wf,But (Two2 w) w7 wf→But (TT false p q) w wf∧∃ v m,(Ending.returned (.agg #[.int .i64 2,.int .i64 0,.string TX,.slice none 0 0,.slice none 0 0,.slice none 0 0,.int .i64 PS]):Ending)=.returned v∧Rd (n+1) w0 wf p g R ws A i e∧Tr (n+1) w0.heap.size m w.heap.size wf.heap.size wf (node 2 0 TX [] PS) v∧True):=fun wf hf=>by
   have hb:=two_below HB4.out HB6.out (HB7.out.trans hf fun j _ hj=>hj)
   refine ⟨But.of hb,_,1,rfl,HH.out.next hb,Tr.leaf n _ _ _ _ 2 0 TX PS HGB.out.1,trivial⟩
  clear HB6 HB4 HS4 HH HNN HG5 HGB HB7
  go_wp2
  refine bodyPost_ret (v:=.agg #[.int .i64 2,.int .i64 0,.string TX,.slice none 0 0,.slice none 0 0,.slice none 0 0,.int .i64 PS]) (by simp [results,Try.results85,go_sem,Q0,Q1,Q2,Q3,Q4,Q5,Q6]) rfl (pack_out (HFIN.out _ ?_))
  repeat' first | with_reducible exact But.refl _ _ | with_reducible exact two_r w | with_reducible refine butS ?_ ?_
end Go.Proofs.Ytnaejfoighmfeaa
namespace Go.Proofs.Ytnaejfoighmfeaa
open Go.ChangeShapes Go.WideShapes Go.ChangeAt Go.RowKit
set_option maxRecDepth 100000
set_option linter.unusedVariables false
set_option linter.unusedSimpArgs false
set_option maxHeartbeats 8000000 in
theorem word_bad3_true {n:Nat} {w0 w:World} {p q:Nat} {g:Gr} {R:Raw} {ws:List Wo} {A:Ra} {i:Nat} {e:Int} (h:Rd (n+1) w0 w p g R ws A i e) (nm:Nm) (hn:true=true→Nq w p q nm) (hi:i < ws.length) (hk3:(wAt ws i).kind=3) (hnb:nameB (wAt ws i).text=false) (hk0:isT 3 g.left [wAt ws i]=false) (hk1:isT 3 g.right [wAt ws i]=false) :
  Calls Try.prog 85 #[.pointer (some ⟨p,0,none⟩),namV true q] w fun en w'=>GvW n w0 w p q g R ws A i e true nm (wordS g e true (ws.drop i)) en w':=by
 have hw:wordS g e true (ws.drop i)=.bad 2 (wAt ws i).pos:=by rw [drop_at hi]; simp [wordS,hk3,hnb,hk0,hk1]
 have hT9:isT 3 g.left (ws.drop i)=false:=by rw [drop_at hi]; exact hk0
 have hT11:isT 3 g.right (ws.drop i)=false:=by rw [drop_at hi]; exact hk1
 clear hk0 hk1
 have hpl:=hide (place_at hi e)
 have hile:=h.hi
 obtain ⟨W1,e1⟩:∃ W1,w.alloc (.cells #[.int .i64 0,.int .i64 0,.string ⟨#[]⟩,.slice none 0 0,.slice none 0 0,.slice none 0 0,.int .i64 0] 39)=W1:=⟨_,rfl⟩
 have b1:Below w.heap.size w W1:=by rw [←e1]; exact one_alloc _ _
 have s1:W1.heap.size=w.heap.size+1:=by rw [←e1]; simp
 have h1:=h.next b1
 have c14:=h1.sp.sn.c14
 have c19:=h1.c19
 have hL:=h1.sp.sn.words
 have hpw:=h1.sp.sn.hp2
 obtain ⟨b,off,z1,m1,z2,m2,ha,hb0,g0,g1,g2,g3,g4,gb,g5⟩:=h.sp.sn.wo.2 i hi
 rw [ha] at c14
 have hne:((i:Int) == (ws.length:Int))=false:=by simp; omega
 have hne2:¬ (i:Int)=(ws.length:Int):=by omega
 have ho1:=h1.sp.sn.old
 have KS:Hid (∀ W,Below W1.heap.size W1 W→Below W1.heap.size W1 W∧W.cell? ⟨p,14,none⟩=some (.slice (some ⟨b,off,none⟩) ws.length R.cw)∧W.cell? ⟨p,19,none⟩=some (.int .i64 (i:Int))∧W.cell? ⟨b,off+i * 5,none⟩=some (.int .i64 (wAt ws i).kind)∧W.cell? ⟨b,off+i * 5+1,none⟩=some (.string (wAt ws i).text)∧W.cell? ⟨b,off+i * 5+2,none⟩=some (.slice z1 (wAt ws i).lit.shape.length m1)∧W.cell? ⟨b,off+i * 5+3,none⟩=some (.slice z2 (wAt ws i).lit.cells.length m2)∧W.cell? ⟨b,off+i * 5+4,none⟩=some (.int .i64 (wAt ws i).pos)):=fun W hW =>
  have hw:=ho1.trans (hW.mono ho1.size)
  ⟨hW,(hW.cell (p:=⟨p,14,none⟩) hpw).trans c14,(hW.cell (p:=⟨p,19,none⟩) hpw).trans c19,(hw.cell (p:=⟨b,_,none⟩) hb0).trans g0,(hw.cell (p:=⟨b,_,none⟩) hb0).trans g1,(hw.cell (p:=⟨b,_,none⟩) hb0).trans g2,(hw.cell (p:=⟨b,_,none⟩) hb0).trans g3,(hw.cell (p:=⟨b,_,none⟩) hb0).trans g4⟩
 have HRES:Hid (∀ W,Below W1.heap.size W1 W→(∀ o,o < 7→∃ v,W.cell? ⟨w.heap.size,o,none⟩=some v)∧∀ o,W.frozen? ⟨w.heap.size,o,none⟩=false):=fun W hW=>by
  have hl:w.heap.size < W1.heap.size:=by omega
  refine ⟨fun o ho=>?_,fun o=>(hW.frozen (p:=⟨w.heap.size,o,none⟩) hl).trans (by rw [←e1]; exact frozen_new _ _ _ _)⟩
  have hcc:∃ v,W1.cell? ⟨w.heap.size,o,none⟩=some v:=by
   rw [←e1]
   have:o=0 ∨ o=1 ∨ o=2 ∨ o=3 ∨ o=4 ∨ o=5 ∨ o=6:=by omega
   rcases this with rfl | rfl | rfl | rfl | rfl | rfl | rfl <;> exact ⟨_,cell_new0 w _ 39 _ _ rfl⟩
  obtain ⟨v,hv⟩:=hcc
  exact ⟨v,(hW.cell (p:=⟨w.heap.size,o,none⟩) hl).trans hv⟩
 have HE:=hide e1
 have HG5:=hide g5
 have HGB:=hide gb
 have HH:=hide h
 have HB1:=hide b1
 have HNN:=hide hn
 have hNV:namV true q=.pointer (some ⟨q,0,none⟩):=rfl
 rw [hNV]
 clear hNV
 unfold GvW
 rw [hw]
 obtain ⟨LT,hLT⟩:∃ LT,(wAt ws i).lit=LT:=⟨_,rfl⟩
 rw [hLT] at KS HG5 HGB
 try rw [hLT]
 generalize (wAt ws i).text=TX at *
 generalize (wAt ws i).pos=PS at *
 generalize (wAt ws i).kind=KI at *
 subst hk3
 clear h h1 e1 b1 hn g0 g1 g2 g3 g4 g5 hLT c14 c19 ho1 gb
 obtain ⟨L,hLL⟩:∃ L,ws.length=L:=⟨_,rfl⟩
 rw [hLL] at KS hne hne2 hile hL hi
 have HLL:=hide hLL
 clear hLL
 generalize R.cw=cw at *
 go_enter Try.func85,Try.ntmps85
 go_upto_region 1 with fail
 rw [HE.out]
 obtain ⟨-,k14,k19,-⟩:=KS.out W1 (Below.refl _ _)
 go_quiet (fail)
 go_upto_region 3 with fail
 obtain ⟨wq,hwq⟩:∃ wq,W1.drewN nq=wq:=⟨_,rfl⟩
 have bq:Below W1.heap.size W1 wq:=by rw [←hwq]; exact drewN_below (Below.refl W1.heap.size W1) _
 have sq:wq.heap.size=w.heap.size+1:=by rw [←hwq]; exact s1
 have HBQ:=hide bq
 have HDQ:Hid (Below W1.heap.size W1 wq.drew):=bq.drew
 rw [hwq]
 clear hwq k14 k19
 obtain ⟨-,k14,k19,k0,k1,k2,k3,k4⟩:=KS.out wq bq
 go_region_held3 (fun W=>Below W1.heap.size W1 W∧W.cell? ⟨p,14,none⟩=some (.slice (some ⟨b,off,none⟩) L cw)∧W.cell? ⟨p,19,none⟩=some (.int .i64 (i:Int))∧W.cell? ⟨b,off+i * 5,none⟩=some (.int .i64 3)∧W.cell? ⟨b,off+i * 5+1,none⟩=some (.string TX)∧W.cell? ⟨b,off+i * 5+2,none⟩=some (.slice z1 LT.shape.length m1)∧W.cell? ⟨b,off+i * 5+3,none⟩=some (.slice z2 LT.cells.length m2)∧W.cell? ⟨b,off+i * 5+4,none⟩=some (.int .i64 PS)) (first | with_reducible exact KS.out _ HDQ.out | with_reducible exact KS.out _ (by with_reducible assumption) | with_reducible exact KS.out _ (HDQ.out.alloc HDQ.out.size _) | with_reducible exact KS.out _ (HBQ.out.alloc HBQ.out.size _) | with_reducible exact KS.out _ ((HBQ.out.alloc HBQ.out.size _).drew)) (fail)
 clear k14 k19 k0 k1 k2 k3 k4
 go_upto_region 9 with fail
 obtain ⟨W4,hW4⟩:∃ W4,((wq.alloc (.cells #[.int .i64 3,.string TX,.slice z1 LT.shape.length m1,.slice z2 LT.cells.length m2,.int .i64 PS] 43)).alloc (.cells #[.int .i64 0,.int .i64 0,.string ⟨#[]⟩,.slice none 0 0,.slice none 0 0,.slice none 0 0,.int .i64 PS] 39)).drew=W4:=⟨_,rfl⟩
 rw [hW4]
 have s4:W4.heap.size=w.heap.size+3:=by rw [←hW4]; show (((wq.alloc _).alloc _)).heap.size=_; simp [sq]
 have b4q:Below W1.heap.size W1 W4:=by rw [←hW4]; exact ((bq.alloc bq.size _).alloc (by simp; have:=bq.size; omega) _).drew
 have b4:Below w.heap.size w W4:=HB1.out.trans (b4q.mono HB1.out.size)
 have wc:∀ o v,(#[.int .i64 3,.string TX,.slice z1 LT.shape.length m1,.slice z2 LT.cells.length m2,.int .i64 PS]:Array Value)[o]?=some v→W4.cell? ⟨w.heap.size+1,o,none⟩=some v:=fun o v ho=>by
  rw [←hW4,← sq]
  exact cell_one (cell_new0 wq _ 43 o v ho) (by simp) _
 have nc:∀ o v,(#[.int .i64 0,.int .i64 0,.string ⟨#[]⟩,.slice none 0 0,.slice none 0 0,.slice none 0 0,.int .i64 PS]:Array Value)[o]?=some v→W4.cell? ⟨w.heap.size+1+1,o,none⟩=some v:=fun o v ho=>by
  rw [←hW4]
  have:=cell_new0 (wq.alloc (.cells #[.int .i64 3,.string TX,.slice z1 LT.shape.length m1,.slice z2 LT.cells.length m2,.int .i64 PS] 43)) #[.int .i64 0,.int .i64 0,.string ⟨#[]⟩,.slice none 0 0,.slice none 0 0,.slice none 0 0,.int .i64 PS] 39 o v ho
  have e9:(wq.alloc (.cells #[.int .i64 3,.string TX,.slice z1 LT.shape.length m1,.slice z2 LT.cells.length m2,.int .i64 PS] 43)).heap.size=w.heap.size+1+1:=by simp [sq]
  rw [e9] at this
  exact this
 have nf:∀ o,W4.frozen? ⟨w.heap.size+1+1,o,none⟩=false:=fun o=>by
  rw [←hW4]
  have:=frozen_new (wq.alloc (.cells #[.int .i64 3,.string TX,.slice z1 LT.shape.length m1,.slice z2 LT.cells.length m2,.int .i64 PS] 43)) #[.int .i64 0,.int .i64 0,.string ⟨#[]⟩,.slice none 0 0,.slice none 0 0,.slice none 0 0,.int .i64 PS] 39 o
  have e9:(wq.alloc (.cells #[.int .i64 3,.string TX,.slice z1 LT.shape.length m1,.slice z2 LT.cells.length m2,.int .i64 PS] 43)).heap.size=w.heap.size+1+1:=by simp [sq]
  rw [e9] at this
  exact this
 have HN:Hid (∀ W,Below W4.heap.size W4 W→(∀ o v,(#[.int .i64 0,.int .i64 0,.string ⟨#[]⟩,.slice none 0 0,.slice none 0 0,.slice none 0 0,.int .i64 PS]:Array Value)[o]?=some v→W.cell? ⟨w.heap.size+1+1,o,none⟩=some v)∧(∀ o,W.frozen? ⟨w.heap.size+1+1,o,none⟩=false)∧(∀ o,o < 7→∃ v,W.cell? ⟨w.heap.size,o,none⟩=some v)∧∀ o,W.frozen? ⟨w.heap.size,o,none⟩=false):=fun W hW =>
  ⟨fun o v ho=>(hW.cell (p:=⟨w.heap.size+1+1,o,none⟩) (by show w.heap.size+1+1 < _; omega)).trans (nc o v ho),fun o=>(hW.frozen (p:=⟨w.heap.size+1+1,o,none⟩) (by show w.heap.size+1+1 < _; omega)).trans (nf o),HRES.out W (b4q.trans (hW.mono b4q.size))⟩
 have HB4:=hide b4
 have HS4:=hide s4
 clear HBQ HDQ hW4 nc nf bq sq b4 b4q s4 HRES KS
 have HSN:Hid (∀ W,Below W4.heap.size W4 W→Sn (n+1) w0 W p g R ws):=fun W hW=>HH.out.sp.sn.next (HB4.out.trans (hW.mono HB4.out.size))
 have HRD:Hid (∀ W,Below W4.heap.size W4 W→Rd (n+1) w0 W p g R ws A i e):=fun W hW=>HH.out.next (HB4.out.trans (hW.mono HB4.out.size))
 have HDN:Hid (∀ m,Below W4.heap.size W4 (W4.drewN m)):=fun m=>drewN_below (Below.refl W4.heap.size W4) m
 have c19n:=fun m=>(HRD.out _ (HDN.out m)).c19
 have c7n:=fun m=>(HSN.out _ (HDN.out m)).c7
 have c19:=(HRD.out _ (Below.refl _ _)).c19
 have c7:=(HSN.out _ (Below.refl _ _)).c7
 have H9:=hide (fun m=>is69 (HSN.out _ (HDN.out m)) i 3 g.left (by omega))
 rw [hT9] at H9
 go_quiet ((go_at_call 69; first | exact Calls.quiet_of_same (H9.out 0) | exact Calls.quiet_of_same (H9.out _)))
 obtain ⟨wm,hwm⟩:∃ wm,W4.drewN nq=wm:=⟨_,rfl⟩
 have bm:Below W4.heap.size W4 wm:=by rw [←hwm]; exact HDN.out _
 have HBM:=hide bm
 rw [hwm]
 go_upto_region 11 with fail
 have HDM:Hid (∀ m,Below W4.heap.size W4 (wm.drewN m)):=fun m=>HBM.out.trans ((drewN_below (Below.refl wm.heap.size wm) m).mono HBM.out.size)
 have d19n:=fun m=>(HRD.out _ (HDM.out m)).c19
 have d8n:=fun m=>(HSN.out _ (HDM.out m)).c8
 have d19:=(HRD.out _ bm).c19
 have d8:=(HSN.out _ bm).c8
 have H11:=hide (fun m=>is69 (HSN.out _ (HDM.out m)) i 3 g.right (by omega))
 rw [hT11] at H11
 clear hwm
 go_quiet ((go_at_call 69; first | exact Calls.quiet_of_same (H11.out 0) | exact Calls.quiet_of_same (H11.out _)))
 obtain ⟨w5,hw5⟩:∃ w5,wm.drewN nq=w5:=⟨_,rfl⟩
 have b5:Below W4.heap.size W4 w5:=by rw [←hw5]; exact HDM.out _
 rw [hw5]
 clear hw5 H9 H11 HDN HDM HBM bm d19n d8n d19 d8 c19n c7n c19 c7
 have w50:w5.cell? ⟨w.heap.size+1,0,none⟩=some (.int .i64 3):=(b5.cell (p:=⟨w.heap.size+1,0,none⟩) (by show w.heap.size+1 < _; have:=HS4.out; omega)).trans (wc 0 _ rfl)
 have w51:w5.cell? ⟨w.heap.size+1,1,none⟩=some (.string TX):=(b5.cell (p:=⟨w.heap.size+1,1,none⟩) (by show w.heap.size+1 < _; have:=HS4.out; omega)).trans (wc 1 _ rfl)
 have HWC:Hid (∀ W,Below w5.heap.size w5 W→W.cell? ⟨w.heap.size+1,1,none⟩=some (.string TX)):=fun W hW=>(hW.cell (p:=⟨w.heap.size+1,1,none⟩) (by show w.heap.size+1 < _; have:=HS4.out; have:=b5.size; omega)).trans w51
 have HB5:=hide b5
 clear wc
 have HNM:=hide (name15 TX w5)
 rw [hnb] at HNM
 have HRF:=hide (fun W (hW:Below w5.heap.size w5 W)=>refuse22 (HRD.out W (b5.trans (hW.mono b5.size))) 2)
 rw [hpl.out] at HRF
 have HBW:=hide (HB4.out.trans (b5.mono HB4.out.size))
 clear HSN HRD HWC
 go_wp2_with fail
 refine HNM.out.mono ?_
 rintro en w6 ⟨rfl,hb6⟩
 clear HNM
 have HB6:=hide hb6
 go_wp2_with fail
 refine (HRF.out _ HB6.out).mono ?_
 rintro en w7 ⟨rfl,hb7⟩
 go_wp2
 exact ⟨rfl,But.of ((HBW.out.trans (HB6.out.mono HBW.out.size)).trans (hb7.mono (Nat.le_trans HBW.out.size HB6.out.size))),rfl⟩
set_option maxHeartbeats 8000000 in
theorem word_bad3_false {n:Nat} {w0 w:World} {p q:Nat} {g:Gr} {R:Raw} {ws:List Wo} {A:Ra} {i:Nat} {e:Int} (h:Rd (n+1) w0 w p g R ws A i e) (nm:Nm) (hn:false=true→Nq w p q nm) (hi:i < ws.length) (hk3:(wAt ws i).kind=3) (hnb:nameB (wAt ws i).text=false) :
  Calls Try.prog 85 #[.pointer (some ⟨p,0,none⟩),namV false q] w fun en w'=>GvW n w0 w p q g R ws A i e false nm (wordS g e false (ws.drop i)) en w':=by
 have hw:wordS g e false (ws.drop i)=.bad 2 (wAt ws i).pos:=by rw [drop_at hi]; simp [wordS,hk3,hnb]
 have hpl:=hide (place_at hi e)
 have hile:=h.hi
 obtain ⟨W1,e1⟩:∃ W1,w.alloc (.cells #[.int .i64 0,.int .i64 0,.string ⟨#[]⟩,.slice none 0 0,.slice none 0 0,.slice none 0 0,.int .i64 0] 39)=W1:=⟨_,rfl⟩
 have b1:Below w.heap.size w W1:=by rw [←e1]; exact one_alloc _ _
 have s1:W1.heap.size=w.heap.size+1:=by rw [←e1]; simp
 have h1:=h.next b1
 have c14:=h1.sp.sn.c14
 have c19:=h1.c19
 have hL:=h1.sp.sn.words
 have hpw:=h1.sp.sn.hp2
 obtain ⟨b,off,z1,m1,z2,m2,ha,hb0,g0,g1,g2,g3,g4,gb,g5⟩:=h.sp.sn.wo.2 i hi
 rw [ha] at c14
 have hne:((i:Int) == (ws.length:Int))=false:=by simp; omega
 have hne2:¬ (i:Int)=(ws.length:Int):=by omega
 have ho1:=h1.sp.sn.old
 have KS:Hid (∀ W,Below W1.heap.size W1 W→Below W1.heap.size W1 W∧W.cell? ⟨p,14,none⟩=some (.slice (some ⟨b,off,none⟩) ws.length R.cw)∧W.cell? ⟨p,19,none⟩=some (.int .i64 (i:Int))∧W.cell? ⟨b,off+i * 5,none⟩=some (.int .i64 (wAt ws i).kind)∧W.cell? ⟨b,off+i * 5+1,none⟩=some (.string (wAt ws i).text)∧W.cell? ⟨b,off+i * 5+2,none⟩=some (.slice z1 (wAt ws i).lit.shape.length m1)∧W.cell? ⟨b,off+i * 5+3,none⟩=some (.slice z2 (wAt ws i).lit.cells.length m2)∧W.cell? ⟨b,off+i * 5+4,none⟩=some (.int .i64 (wAt ws i).pos)):=fun W hW =>
  have hw:=ho1.trans (hW.mono ho1.size)
  ⟨hW,(hW.cell (p:=⟨p,14,none⟩) hpw).trans c14,(hW.cell (p:=⟨p,19,none⟩) hpw).trans c19,(hw.cell (p:=⟨b,_,none⟩) hb0).trans g0,(hw.cell (p:=⟨b,_,none⟩) hb0).trans g1,(hw.cell (p:=⟨b,_,none⟩) hb0).trans g2,(hw.cell (p:=⟨b,_,none⟩) hb0).trans g3,(hw.cell (p:=⟨b,_,none⟩) hb0).trans g4⟩
 have HRES:Hid (∀ W,Below W1.heap.size W1 W→(∀ o,o < 7→∃ v,W.cell? ⟨w.heap.size,o,none⟩=some v)∧∀ o,W.frozen? ⟨w.heap.size,o,none⟩=false):=fun W hW=>by
  have hl:w.heap.size < W1.heap.size:=by omega
  refine ⟨fun o ho=>?_,fun o=>(hW.frozen (p:=⟨w.heap.size,o,none⟩) hl).trans (by rw [←e1]; exact frozen_new _ _ _ _)⟩
  have hcc:∃ v,W1.cell? ⟨w.heap.size,o,none⟩=some v:=by
   rw [←e1]
   have:o=0 ∨ o=1 ∨ o=2 ∨ o=3 ∨ o=4 ∨ o=5 ∨ o=6:=by omega
   rcases this with rfl | rfl | rfl | rfl | rfl | rfl | rfl <;> exact ⟨_,cell_new0 w _ 39 _ _ rfl⟩
  obtain ⟨v,hv⟩:=hcc
  exact ⟨v,(hW.cell (p:=⟨w.heap.size,o,none⟩) hl).trans hv⟩
 have HE:=hide e1
 have HG5:=hide g5
 have HGB:=hide gb
 have HH:=hide h
 have HB1:=hide b1
 have HNN:=hide hn
 have hNV:namV false q=.pointer none:=rfl
 rw [hNV]
 clear hNV
 unfold GvW
 rw [hw]
 obtain ⟨LT,hLT⟩:∃ LT,(wAt ws i).lit=LT:=⟨_,rfl⟩
 rw [hLT] at KS HG5 HGB
 try rw [hLT]
 generalize (wAt ws i).text=TX at *
 generalize (wAt ws i).pos=PS at *
 generalize (wAt ws i).kind=KI at *
 subst hk3
 clear h h1 e1 b1 hn g0 g1 g2 g3 g4 g5 hLT c14 c19 ho1 gb
 obtain ⟨L,hLL⟩:∃ L,ws.length=L:=⟨_,rfl⟩
 rw [hLL] at KS hne hne2 hile hL hi
 have HLL:=hide hLL
 clear hLL
 generalize R.cw=cw at *
 go_enter Try.func85,Try.ntmps85
 go_upto_region 1 with fail
 rw [HE.out]
 obtain ⟨-,k14,k19,-⟩:=KS.out W1 (Below.refl _ _)
 go_quiet (fail)
 go_upto_region 3 with fail
 obtain ⟨wq,hwq⟩:∃ wq,W1.drewN nq=wq:=⟨_,rfl⟩
 have bq:Below W1.heap.size W1 wq:=by rw [←hwq]; exact drewN_below (Below.refl W1.heap.size W1) _
 have sq:wq.heap.size=w.heap.size+1:=by rw [←hwq]; exact s1
 have HBQ:=hide bq
 have HDQ:Hid (Below W1.heap.size W1 wq.drew):=bq.drew
 rw [hwq]
 clear hwq k14 k19
 obtain ⟨-,k14,k19,k0,k1,k2,k3,k4⟩:=KS.out wq bq
 go_region_held3 (fun W=>Below W1.heap.size W1 W∧W.cell? ⟨p,14,none⟩=some (.slice (some ⟨b,off,none⟩) L cw)∧W.cell? ⟨p,19,none⟩=some (.int .i64 (i:Int))∧W.cell? ⟨b,off+i * 5,none⟩=some (.int .i64 3)∧W.cell? ⟨b,off+i * 5+1,none⟩=some (.string TX)∧W.cell? ⟨b,off+i * 5+2,none⟩=some (.slice z1 LT.shape.length m1)∧W.cell? ⟨b,off+i * 5+3,none⟩=some (.slice z2 LT.cells.length m2)∧W.cell? ⟨b,off+i * 5+4,none⟩=some (.int .i64 PS)) (first | with_reducible exact KS.out _ HDQ.out | with_reducible exact KS.out _ (by with_reducible assumption) | with_reducible exact KS.out _ (HDQ.out.alloc HDQ.out.size _) | with_reducible exact KS.out _ (HBQ.out.alloc HBQ.out.size _) | with_reducible exact KS.out _ ((HBQ.out.alloc HBQ.out.size _).drew)) (fail)
 clear k14 k19 k0 k1 k2 k3 k4
 go_upto_region 9 with fail
 obtain ⟨W4,hW4⟩:∃ W4,((wq.alloc (.cells #[.int .i64 3,.string TX,.slice z1 LT.shape.length m1,.slice z2 LT.cells.length m2,.int .i64 PS] 43)).alloc (.cells #[.int .i64 0,.int .i64 0,.string ⟨#[]⟩,.slice none 0 0,.slice none 0 0,.slice none 0 0,.int .i64 PS] 39)).drew=W4:=⟨_,rfl⟩
 rw [hW4]
 have s4:W4.heap.size=w.heap.size+3:=by rw [←hW4]; show (((wq.alloc _).alloc _)).heap.size=_; simp [sq]
 have b4q:Below W1.heap.size W1 W4:=by rw [←hW4]; exact ((bq.alloc bq.size _).alloc (by simp; have:=bq.size; omega) _).drew
 have b4:Below w.heap.size w W4:=HB1.out.trans (b4q.mono HB1.out.size)
 have wc:∀ o v,(#[.int .i64 3,.string TX,.slice z1 LT.shape.length m1,.slice z2 LT.cells.length m2,.int .i64 PS]:Array Value)[o]?=some v→W4.cell? ⟨w.heap.size+1,o,none⟩=some v:=fun o v ho=>by
  rw [←hW4,← sq]
  exact cell_one (cell_new0 wq _ 43 o v ho) (by simp) _
 have nc:∀ o v,(#[.int .i64 0,.int .i64 0,.string ⟨#[]⟩,.slice none 0 0,.slice none 0 0,.slice none 0 0,.int .i64 PS]:Array Value)[o]?=some v→W4.cell? ⟨w.heap.size+1+1,o,none⟩=some v:=fun o v ho=>by
  rw [←hW4]
  have:=cell_new0 (wq.alloc (.cells #[.int .i64 3,.string TX,.slice z1 LT.shape.length m1,.slice z2 LT.cells.length m2,.int .i64 PS] 43)) #[.int .i64 0,.int .i64 0,.string ⟨#[]⟩,.slice none 0 0,.slice none 0 0,.slice none 0 0,.int .i64 PS] 39 o v ho
  have e9:(wq.alloc (.cells #[.int .i64 3,.string TX,.slice z1 LT.shape.length m1,.slice z2 LT.cells.length m2,.int .i64 PS] 43)).heap.size=w.heap.size+1+1:=by simp [sq]
  rw [e9] at this
  exact this
 have nf:∀ o,W4.frozen? ⟨w.heap.size+1+1,o,none⟩=false:=fun o=>by
  rw [←hW4]
  have:=frozen_new (wq.alloc (.cells #[.int .i64 3,.string TX,.slice z1 LT.shape.length m1,.slice z2 LT.cells.length m2,.int .i64 PS] 43)) #[.int .i64 0,.int .i64 0,.string ⟨#[]⟩,.slice none 0 0,.slice none 0 0,.slice none 0 0,.int .i64 PS] 39 o
  have e9:(wq.alloc (.cells #[.int .i64 3,.string TX,.slice z1 LT.shape.length m1,.slice z2 LT.cells.length m2,.int .i64 PS] 43)).heap.size=w.heap.size+1+1:=by simp [sq]
  rw [e9] at this
  exact this
 have HN:Hid (∀ W,Below W4.heap.size W4 W→(∀ o v,(#[.int .i64 0,.int .i64 0,.string ⟨#[]⟩,.slice none 0 0,.slice none 0 0,.slice none 0 0,.int .i64 PS]:Array Value)[o]?=some v→W.cell? ⟨w.heap.size+1+1,o,none⟩=some v)∧(∀ o,W.frozen? ⟨w.heap.size+1+1,o,none⟩=false)∧(∀ o,o < 7→∃ v,W.cell? ⟨w.heap.size,o,none⟩=some v)∧∀ o,W.frozen? ⟨w.heap.size,o,none⟩=false):=fun W hW =>
  ⟨fun o v ho=>(hW.cell (p:=⟨w.heap.size+1+1,o,none⟩) (by show w.heap.size+1+1 < _; omega)).trans (nc o v ho),fun o=>(hW.frozen (p:=⟨w.heap.size+1+1,o,none⟩) (by show w.heap.size+1+1 < _; omega)).trans (nf o),HRES.out W (b4q.trans (hW.mono b4q.size))⟩
 have HB4:=hide b4
 have HS4:=hide s4
 clear HBQ HDQ hW4 nc nf bq sq b4 b4q s4 HRES KS
 have HSN:Hid (∀ W,Below W4.heap.size W4 W→Sn (n+1) w0 W p g R ws):=fun W hW=>HH.out.sp.sn.next (HB4.out.trans (hW.mono HB4.out.size))
 have HRD:Hid (∀ W,Below W4.heap.size W4 W→Rd (n+1) w0 W p g R ws A i e):=fun W hW=>HH.out.next (HB4.out.trans (hW.mono HB4.out.size))
 have HDN:Hid (∀ m,Below W4.heap.size W4 (W4.drewN m)):=fun m=>drewN_below (Below.refl W4.heap.size W4) m
 have c19n:=fun m=>(HRD.out _ (HDN.out m)).c19
 have c7n:=fun m=>(HSN.out _ (HDN.out m)).c7
 have c19:=(HRD.out _ (Below.refl _ _)).c19
 have c7:=(HSN.out _ (Below.refl _ _)).c7
 go_quiet (fail)
 obtain ⟨wm,hwm⟩:∃ wm,W4.drewN nq=wm:=⟨_,rfl⟩
 have bm:Below W4.heap.size W4 wm:=by rw [←hwm]; exact HDN.out _
 rw [hwm]
 clear hwm
 go_upto_region 11 with fail
 go_quiet (fail)
 obtain ⟨w5,hw5⟩:∃ w5,wm.drewN nq=w5:=⟨_,rfl⟩
 have b5:Below W4.heap.size W4 w5:=by rw [←hw5]; exact bm.trans ((drewN_below (Below.refl wm.heap.size wm) _).mono bm.size)
 rw [hw5]
 clear hw5 HDN bm c19n c7n c19 c7
 have w50:w5.cell? ⟨w.heap.size+1,0,none⟩=some (.int .i64 3):=(b5.cell (p:=⟨w.heap.size+1,0,none⟩) (by show w.heap.size+1 < _; have:=HS4.out; omega)).trans (wc 0 _ rfl)
 have w51:w5.cell? ⟨w.heap.size+1,1,none⟩=some (.string TX):=(b5.cell (p:=⟨w.heap.size+1,1,none⟩) (by show w.heap.size+1 < _; have:=HS4.out; omega)).trans (wc 1 _ rfl)
 have HWC:Hid (∀ W,Below w5.heap.size w5 W→W.cell? ⟨w.heap.size+1,1,none⟩=some (.string TX)):=fun W hW=>(hW.cell (p:=⟨w.heap.size+1,1,none⟩) (by show w.heap.size+1 < _; have:=HS4.out; have:=b5.size; omega)).trans w51
 have HB5:=hide b5
 clear wc
 have HNM:=hide (name15 TX w5)
 rw [hnb] at HNM
 have HRF:=hide (fun W (hW:Below w5.heap.size w5 W)=>refuse22 (HRD.out W (b5.trans (hW.mono b5.size))) 2)
 rw [hpl.out] at HRF
 have HBW:=hide (HB4.out.trans (b5.mono HB4.out.size))
 clear HSN HRD HWC
 go_wp2_with fail
 refine HNM.out.mono ?_
 rintro en w6 ⟨rfl,hb6⟩
 clear HNM
 have HB6:=hide hb6
 go_wp2_with fail
 refine (HRF.out _ HB6.out).mono ?_
 rintro en w7 ⟨rfl,hb7⟩
 go_wp2
 exact ⟨rfl,But.of ((HBW.out.trans (HB6.out.mono HBW.out.size)).trans (hb7.mono (Nat.le_trans HBW.out.size HB6.out.size))),rfl⟩
set_option maxHeartbeats 8000000 in
theorem word_bad_true {n:Nat} {w0 w:World} {p q:Nat} {g:Gr} {R:Raw} {ws:List Wo} {A:Ra} {i:Nat} {e:Int} (h:Rd (n+1) w0 w p g R ws A i e) (nm:Nm) (hn:true=true→Nq w p q nm) (hi:i < ws.length) (hk1:(wAt ws i).kind ≠ 1) (hk2:(wAt ws i).kind ≠ 2) (hk3:(wAt ws i).kind ≠ 3) :
  Calls Try.prog 85 #[.pointer (some ⟨p,0,none⟩),namV true q] w fun en w'=>GvW n w0 w p q g R ws A i e true nm (wordS g e true (ws.drop i)) en w':=by
 have hz:∀ t,isT 3 t [wAt ws i]=false:=fun t=>by simp [isT,hk3]
 have hw:wordS g e true (ws.drop i)=.bad 2 (wAt ws i).pos:=by rw [drop_at hi]; simp [wordS,hk1,hk2,hk3,hz]
 have hT9:isT 3 g.left (ws.drop i)=false:=by rw [drop_at hi]; exact hz _
 have hT11:isT 3 g.right (ws.drop i)=false:=by rw [drop_at hi]; exact hz _
 clear hz
 have kq1:((wAt ws i).kind == 1)=false:=by simpa using hk1
 have kq2:((wAt ws i).kind == 2)=false:=by simpa using hk2
 have kq3:((wAt ws i).kind == 3)=false:=by simpa using hk3
 have hpl:=hide (place_at hi e)
 have hile:=h.hi
 obtain ⟨W1,e1⟩:∃ W1,w.alloc (.cells #[.int .i64 0,.int .i64 0,.string ⟨#[]⟩,.slice none 0 0,.slice none 0 0,.slice none 0 0,.int .i64 0] 39)=W1:=⟨_,rfl⟩
 have b1:Below w.heap.size w W1:=by rw [←e1]; exact one_alloc _ _
 have s1:W1.heap.size=w.heap.size+1:=by rw [←e1]; simp
 have h1:=h.next b1
 have c14:=h1.sp.sn.c14
 have c19:=h1.c19
 have hL:=h1.sp.sn.words
 have hpw:=h1.sp.sn.hp2
 obtain ⟨b,off,z1,m1,z2,m2,ha,hb0,g0,g1,g2,g3,g4,gb,g5⟩:=h.sp.sn.wo.2 i hi
 rw [ha] at c14
 have hne:((i:Int) == (ws.length:Int))=false:=by simp; omega
 have hne2:¬ (i:Int)=(ws.length:Int):=by omega
 have ho1:=h1.sp.sn.old
 have KS:Hid (∀ W,Below W1.heap.size W1 W→Below W1.heap.size W1 W∧W.cell? ⟨p,14,none⟩=some (.slice (some ⟨b,off,none⟩) ws.length R.cw)∧W.cell? ⟨p,19,none⟩=some (.int .i64 (i:Int))∧W.cell? ⟨b,off+i * 5,none⟩=some (.int .i64 (wAt ws i).kind)∧W.cell? ⟨b,off+i * 5+1,none⟩=some (.string (wAt ws i).text)∧W.cell? ⟨b,off+i * 5+2,none⟩=some (.slice z1 (wAt ws i).lit.shape.length m1)∧W.cell? ⟨b,off+i * 5+3,none⟩=some (.slice z2 (wAt ws i).lit.cells.length m2)∧W.cell? ⟨b,off+i * 5+4,none⟩=some (.int .i64 (wAt ws i).pos)):=fun W hW =>
  have hw:=ho1.trans (hW.mono ho1.size)
  ⟨hW,(hW.cell (p:=⟨p,14,none⟩) hpw).trans c14,(hW.cell (p:=⟨p,19,none⟩) hpw).trans c19,(hw.cell (p:=⟨b,_,none⟩) hb0).trans g0,(hw.cell (p:=⟨b,_,none⟩) hb0).trans g1,(hw.cell (p:=⟨b,_,none⟩) hb0).trans g2,(hw.cell (p:=⟨b,_,none⟩) hb0).trans g3,(hw.cell (p:=⟨b,_,none⟩) hb0).trans g4⟩
 have HRES:Hid (∀ W,Below W1.heap.size W1 W→(∀ o,o < 7→∃ v,W.cell? ⟨w.heap.size,o,none⟩=some v)∧∀ o,W.frozen? ⟨w.heap.size,o,none⟩=false):=fun W hW=>by
  have hl:w.heap.size < W1.heap.size:=by omega
  refine ⟨fun o ho=>?_,fun o=>(hW.frozen (p:=⟨w.heap.size,o,none⟩) hl).trans (by rw [←e1]; exact frozen_new _ _ _ _)⟩
  have hcc:∃ v,W1.cell? ⟨w.heap.size,o,none⟩=some v:=by
   rw [←e1]
   have:o=0 ∨ o=1 ∨ o=2 ∨ o=3 ∨ o=4 ∨ o=5 ∨ o=6:=by omega
   rcases this with rfl | rfl | rfl | rfl | rfl | rfl | rfl <;> exact ⟨_,cell_new0 w _ 39 _ _ rfl⟩
  obtain ⟨v,hv⟩:=hcc
  exact ⟨v,(hW.cell (p:=⟨w.heap.size,o,none⟩) hl).trans hv⟩
 have HE:=hide e1
 have HG5:=hide g5
 have HGB:=hide gb
 have HH:=hide h
 have HB1:=hide b1
 have HNN:=hide hn
 have hNV:namV true q=.pointer (some ⟨q,0,none⟩):=rfl
 rw [hNV]
 clear hNV
 unfold GvW
 rw [hw]
 obtain ⟨LT,hLT⟩:∃ LT,(wAt ws i).lit=LT:=⟨_,rfl⟩
 rw [hLT] at KS HG5 HGB
 try rw [hLT]
 generalize (wAt ws i).text=TX at *
 generalize (wAt ws i).pos=PS at *
 generalize (wAt ws i).kind=KI at *
 clear h h1 e1 b1 hn g0 g1 g2 g3 g4 g5 hLT c14 c19 ho1 gb
 obtain ⟨L,hLL⟩:∃ L,ws.length=L:=⟨_,rfl⟩
 rw [hLL] at KS hne hne2 hile hL hi
 have HLL:=hide hLL
 clear hLL
 generalize R.cw=cw at *
 go_enter Try.func85,Try.ntmps85
 go_upto_region 1 with fail
 rw [HE.out]
 obtain ⟨-,k14,k19,-⟩:=KS.out W1 (Below.refl _ _)
 go_quiet (fail)
 go_upto_region 3 with fail
 obtain ⟨wq,hwq⟩:∃ wq,W1.drewN nq=wq:=⟨_,rfl⟩
 have bq:Below W1.heap.size W1 wq:=by rw [←hwq]; exact drewN_below (Below.refl W1.heap.size W1) _
 have sq:wq.heap.size=w.heap.size+1:=by rw [←hwq]; exact s1
 have HBQ:=hide bq
 have HDQ:Hid (Below W1.heap.size W1 wq.drew):=bq.drew
 rw [hwq]
 clear hwq k14 k19
 obtain ⟨-,k14,k19,k0,k1,k2,k3,k4⟩:=KS.out wq bq
 go_region_held3 (fun W=>Below W1.heap.size W1 W∧W.cell? ⟨p,14,none⟩=some (.slice (some ⟨b,off,none⟩) L cw)∧W.cell? ⟨p,19,none⟩=some (.int .i64 (i:Int))∧W.cell? ⟨b,off+i * 5,none⟩=some (.int .i64 KI)∧W.cell? ⟨b,off+i * 5+1,none⟩=some (.string TX)∧W.cell? ⟨b,off+i * 5+2,none⟩=some (.slice z1 LT.shape.length m1)∧W.cell? ⟨b,off+i * 5+3,none⟩=some (.slice z2 LT.cells.length m2)∧W.cell? ⟨b,off+i * 5+4,none⟩=some (.int .i64 PS)) (first | with_reducible exact KS.out _ HDQ.out | with_reducible exact KS.out _ (by with_reducible assumption) | with_reducible exact KS.out _ (HDQ.out.alloc HDQ.out.size _) | with_reducible exact KS.out _ (HBQ.out.alloc HBQ.out.size _) | with_reducible exact KS.out _ ((HBQ.out.alloc HBQ.out.size _).drew)) (fail)
 clear k14 k19 k0 k1 k2 k3 k4
 go_upto_region 9 with fail
 obtain ⟨W4,hW4⟩:∃ W4,((wq.alloc (.cells #[.int .i64 KI,.string TX,.slice z1 LT.shape.length m1,.slice z2 LT.cells.length m2,.int .i64 PS] 43)).alloc (.cells #[.int .i64 0,.int .i64 0,.string ⟨#[]⟩,.slice none 0 0,.slice none 0 0,.slice none 0 0,.int .i64 PS] 39)).drew=W4:=⟨_,rfl⟩
 rw [hW4]
 have s4:W4.heap.size=w.heap.size+3:=by rw [←hW4]; show (((wq.alloc _).alloc _)).heap.size=_; simp [sq]
 have b4q:Below W1.heap.size W1 W4:=by rw [←hW4]; exact ((bq.alloc bq.size _).alloc (by simp; have:=bq.size; omega) _).drew
 have b4:Below w.heap.size w W4:=HB1.out.trans (b4q.mono HB1.out.size)
 have wc:∀ o v,(#[.int .i64 KI,.string TX,.slice z1 LT.shape.length m1,.slice z2 LT.cells.length m2,.int .i64 PS]:Array Value)[o]?=some v→W4.cell? ⟨w.heap.size+1,o,none⟩=some v:=fun o v ho=>by
  rw [←hW4,← sq]
  exact cell_one (cell_new0 wq _ 43 o v ho) (by simp) _
 have nc:∀ o v,(#[.int .i64 0,.int .i64 0,.string ⟨#[]⟩,.slice none 0 0,.slice none 0 0,.slice none 0 0,.int .i64 PS]:Array Value)[o]?=some v→W4.cell? ⟨w.heap.size+1+1,o,none⟩=some v:=fun o v ho=>by
  rw [←hW4]
  have:=cell_new0 (wq.alloc (.cells #[.int .i64 KI,.string TX,.slice z1 LT.shape.length m1,.slice z2 LT.cells.length m2,.int .i64 PS] 43)) #[.int .i64 0,.int .i64 0,.string ⟨#[]⟩,.slice none 0 0,.slice none 0 0,.slice none 0 0,.int .i64 PS] 39 o v ho
  have e9:(wq.alloc (.cells #[.int .i64 KI,.string TX,.slice z1 LT.shape.length m1,.slice z2 LT.cells.length m2,.int .i64 PS] 43)).heap.size=w.heap.size+1+1:=by simp [sq]
  rw [e9] at this
  exact this
 have nf:∀ o,W4.frozen? ⟨w.heap.size+1+1,o,none⟩=false:=fun o=>by
  rw [←hW4]
  have:=frozen_new (wq.alloc (.cells #[.int .i64 KI,.string TX,.slice z1 LT.shape.length m1,.slice z2 LT.cells.length m2,.int .i64 PS] 43)) #[.int .i64 0,.int .i64 0,.string ⟨#[]⟩,.slice none 0 0,.slice none 0 0,.slice none 0 0,.int .i64 PS] 39 o
  have e9:(wq.alloc (.cells #[.int .i64 KI,.string TX,.slice z1 LT.shape.length m1,.slice z2 LT.cells.length m2,.int .i64 PS] 43)).heap.size=w.heap.size+1+1:=by simp [sq]
  rw [e9] at this
  exact this
 have HN:Hid (∀ W,Below W4.heap.size W4 W→(∀ o v,(#[.int .i64 0,.int .i64 0,.string ⟨#[]⟩,.slice none 0 0,.slice none 0 0,.slice none 0 0,.int .i64 PS]:Array Value)[o]?=some v→W.cell? ⟨w.heap.size+1+1,o,none⟩=some v)∧(∀ o,W.frozen? ⟨w.heap.size+1+1,o,none⟩=false)∧(∀ o,o < 7→∃ v,W.cell? ⟨w.heap.size,o,none⟩=some v)∧∀ o,W.frozen? ⟨w.heap.size,o,none⟩=false):=fun W hW =>
  ⟨fun o v ho=>(hW.cell (p:=⟨w.heap.size+1+1,o,none⟩) (by show w.heap.size+1+1 < _; omega)).trans (nc o v ho),fun o=>(hW.frozen (p:=⟨w.heap.size+1+1,o,none⟩) (by show w.heap.size+1+1 < _; omega)).trans (nf o),HRES.out W (b4q.trans (hW.mono b4q.size))⟩
 have HB4:=hide b4
 have HS4:=hide s4
 clear HBQ HDQ hW4 nc nf bq sq b4 b4q s4 HRES KS
 have HSN:Hid (∀ W,Below W4.heap.size W4 W→Sn (n+1) w0 W p g R ws):=fun W hW=>HH.out.sp.sn.next (HB4.out.trans (hW.mono HB4.out.size))
 have HRD:Hid (∀ W,Below W4.heap.size W4 W→Rd (n+1) w0 W p g R ws A i e):=fun W hW=>HH.out.next (HB4.out.trans (hW.mono HB4.out.size))
 have HDN:Hid (∀ m,Below W4.heap.size W4 (W4.drewN m)):=fun m=>drewN_below (Below.refl W4.heap.size W4) m
 have c19n:=fun m=>(HRD.out _ (HDN.out m)).c19
 have c7n:=fun m=>(HSN.out _ (HDN.out m)).c7
 have c19:=(HRD.out _ (Below.refl _ _)).c19
 have c7:=(HSN.out _ (Below.refl _ _)).c7
 have H9:=hide (fun m=>is69 (HSN.out _ (HDN.out m)) i 3 g.left (by omega))
 rw [hT9] at H9
 go_quiet ((go_at_call 69; first | exact Calls.quiet_of_same (H9.out 0) | exact Calls.quiet_of_same (H9.out _)))
 obtain ⟨wm,hwm⟩:∃ wm,W4.drewN nq=wm:=⟨_,rfl⟩
 have bm:Below W4.heap.size W4 wm:=by rw [←hwm]; exact HDN.out _
 have HBM:=hide bm
 rw [hwm]
 go_upto_region 11 with fail
 have HDM:Hid (∀ m,Below W4.heap.size W4 (wm.drewN m)):=fun m=>HBM.out.trans ((drewN_below (Below.refl wm.heap.size wm) m).mono HBM.out.size)
 have d19n:=fun m=>(HRD.out _ (HDM.out m)).c19
 have d8n:=fun m=>(HSN.out _ (HDM.out m)).c8
 have d19:=(HRD.out _ bm).c19
 have d8:=(HSN.out _ bm).c8
 have H11:=hide (fun m=>is69 (HSN.out _ (HDM.out m)) i 3 g.right (by omega))
 rw [hT11] at H11
 clear hwm
 go_quiet ((go_at_call 69; first | exact Calls.quiet_of_same (H11.out 0) | exact Calls.quiet_of_same (H11.out _)))
 obtain ⟨w5,hw5⟩:∃ w5,wm.drewN nq=w5:=⟨_,rfl⟩
 have b5:Below W4.heap.size W4 w5:=by rw [←hw5]; exact HDM.out _
 rw [hw5]
 clear hw5 H9 H11 HDN HDM HBM bm d19n d8n d19 d8 c19n c7n c19 c7
 have w50:w5.cell? ⟨w.heap.size+1,0,none⟩=some (.int .i64 KI):=(b5.cell (p:=⟨w.heap.size+1,0,none⟩) (by show w.heap.size+1 < _; have:=HS4.out; omega)).trans (wc 0 _ rfl)
 have w51:w5.cell? ⟨w.heap.size+1,1,none⟩=some (.string TX):=(b5.cell (p:=⟨w.heap.size+1,1,none⟩) (by show w.heap.size+1 < _; have:=HS4.out; omega)).trans (wc 1 _ rfl)
 have HWC:Hid (∀ W,Below w5.heap.size w5 W→W.cell? ⟨w.heap.size+1,1,none⟩=some (.string TX)):=fun W hW=>(hW.cell (p:=⟨w.heap.size+1,1,none⟩) (by show w.heap.size+1 < _; have:=HS4.out; have:=b5.size; omega)).trans w51
 have HB5:=hide b5
 clear wc
 have HRF:=hide (refuse22 (HRD.out w5 b5) 2)
 rw [hpl.out] at HRF
 have HBW:=hide (HB4.out.trans (b5.mono HB4.out.size))
 clear HSN HRD HWC
 go_wp2_with fail
 refine HRF.out.mono ?_
 rintro en w7 ⟨rfl,hb7⟩
 go_wp2
 exact ⟨rfl,But.of (HBW.out.trans (hb7.mono HBW.out.size)),rfl⟩
set_option maxHeartbeats 8000000 in
theorem word_bad_false {n:Nat} {w0 w:World} {p q:Nat} {g:Gr} {R:Raw} {ws:List Wo} {A:Ra} {i:Nat} {e:Int} (h:Rd (n+1) w0 w p g R ws A i e) (nm:Nm) (hn:false=true→Nq w p q nm) (hi:i < ws.length) (hk1:(wAt ws i).kind ≠ 1) (hk2:(wAt ws i).kind ≠ 2) (hk3:(wAt ws i).kind ≠ 3) :
  Calls Try.prog 85 #[.pointer (some ⟨p,0,none⟩),namV false q] w fun en w'=>GvW n w0 w p q g R ws A i e false nm (wordS g e false (ws.drop i)) en w':=by
 have hz:∀ t,isT 3 t [wAt ws i]=false:=fun t=>by simp [isT,hk3]
 have hw:wordS g e false (ws.drop i)=.bad 2 (wAt ws i).pos:=by rw [drop_at hi]; simp [wordS,hk1,hk2,hk3,hz]
 clear hz
 have kq1:((wAt ws i).kind == 1)=false:=by simpa using hk1
 have kq2:((wAt ws i).kind == 2)=false:=by simpa using hk2
 have kq3:((wAt ws i).kind == 3)=false:=by simpa using hk3
 have hpl:=hide (place_at hi e)
 have hile:=h.hi
 obtain ⟨W1,e1⟩:∃ W1,w.alloc (.cells #[.int .i64 0,.int .i64 0,.string ⟨#[]⟩,.slice none 0 0,.slice none 0 0,.slice none 0 0,.int .i64 0] 39)=W1:=⟨_,rfl⟩
 have b1:Below w.heap.size w W1:=by rw [←e1]; exact one_alloc _ _
 have s1:W1.heap.size=w.heap.size+1:=by rw [←e1]; simp
 have h1:=h.next b1
 have c14:=h1.sp.sn.c14
 have c19:=h1.c19
 have hL:=h1.sp.sn.words
 have hpw:=h1.sp.sn.hp2
 obtain ⟨b,off,z1,m1,z2,m2,ha,hb0,g0,g1,g2,g3,g4,gb,g5⟩:=h.sp.sn.wo.2 i hi
 rw [ha] at c14
 have hne:((i:Int) == (ws.length:Int))=false:=by simp; omega
 have hne2:¬ (i:Int)=(ws.length:Int):=by omega
 have ho1:=h1.sp.sn.old
 have KS:Hid (∀ W,Below W1.heap.size W1 W→Below W1.heap.size W1 W∧W.cell? ⟨p,14,none⟩=some (.slice (some ⟨b,off,none⟩) ws.length R.cw)∧W.cell? ⟨p,19,none⟩=some (.int .i64 (i:Int))∧W.cell? ⟨b,off+i * 5,none⟩=some (.int .i64 (wAt ws i).kind)∧W.cell? ⟨b,off+i * 5+1,none⟩=some (.string (wAt ws i).text)∧W.cell? ⟨b,off+i * 5+2,none⟩=some (.slice z1 (wAt ws i).lit.shape.length m1)∧W.cell? ⟨b,off+i * 5+3,none⟩=some (.slice z2 (wAt ws i).lit.cells.length m2)∧W.cell? ⟨b,off+i * 5+4,none⟩=some (.int .i64 (wAt ws i).pos)):=fun W hW =>
  have hw:=ho1.trans (hW.mono ho1.size)
  ⟨hW,(hW.cell (p:=⟨p,14,none⟩) hpw).trans c14,(hW.cell (p:=⟨p,19,none⟩) hpw).trans c19,(hw.cell (p:=⟨b,_,none⟩) hb0).trans g0,(hw.cell (p:=⟨b,_,none⟩) hb0).trans g1,(hw.cell (p:=⟨b,_,none⟩) hb0).trans g2,(hw.cell (p:=⟨b,_,none⟩) hb0).trans g3,(hw.cell (p:=⟨b,_,none⟩) hb0).trans g4⟩
 have HRES:Hid (∀ W,Below W1.heap.size W1 W→(∀ o,o < 7→∃ v,W.cell? ⟨w.heap.size,o,none⟩=some v)∧∀ o,W.frozen? ⟨w.heap.size,o,none⟩=false):=fun W hW=>by
  have hl:w.heap.size < W1.heap.size:=by omega
  refine ⟨fun o ho=>?_,fun o=>(hW.frozen (p:=⟨w.heap.size,o,none⟩) hl).trans (by rw [←e1]; exact frozen_new _ _ _ _)⟩
  have hcc:∃ v,W1.cell? ⟨w.heap.size,o,none⟩=some v:=by
   rw [←e1]
   have:o=0 ∨ o=1 ∨ o=2 ∨ o=3 ∨ o=4 ∨ o=5 ∨ o=6:=by omega
   rcases this with rfl | rfl | rfl | rfl | rfl | rfl | rfl <;> exact ⟨_,cell_new0 w _ 39 _ _ rfl⟩
  obtain ⟨v,hv⟩:=hcc
  exact ⟨v,(hW.cell (p:=⟨w.heap.size,o,none⟩) hl).trans hv⟩
 have HE:=hide e1
 have HG5:=hide g5
 have HGB:=hide gb
 have HH:=hide h
 have HB1:=hide b1
 have HNN:=hide hn
 have hNV:namV false q=.pointer none:=rfl
 rw [hNV]
 clear hNV
 unfold GvW
 rw [hw]
 obtain ⟨LT,hLT⟩:∃ LT,(wAt ws i).lit=LT:=⟨_,rfl⟩
 rw [hLT] at KS HG5 HGB
 try rw [hLT]
 generalize (wAt ws i).text=TX at *
 generalize (wAt ws i).pos=PS at *
 generalize (wAt ws i).kind=KI at *
 clear h h1 e1 b1 hn g0 g1 g2 g3 g4 g5 hLT c14 c19 ho1 gb
 obtain ⟨L,hLL⟩:∃ L,ws.length=L:=⟨_,rfl⟩
 rw [hLL] at KS hne hne2 hile hL hi
 have HLL:=hide hLL
 clear hLL
 generalize R.cw=cw at *
 go_enter Try.func85,Try.ntmps85
 go_upto_region 1 with fail
 rw [HE.out]
 obtain ⟨-,k14,k19,-⟩:=KS.out W1 (Below.refl _ _)
 go_quiet (fail)
 go_upto_region 3 with fail
 obtain ⟨wq,hwq⟩:∃ wq,W1.drewN nq=wq:=⟨_,rfl⟩
 have bq:Below W1.heap.size W1 wq:=by rw [←hwq]; exact drewN_below (Below.refl W1.heap.size W1) _
 have sq:wq.heap.size=w.heap.size+1:=by rw [←hwq]; exact s1
 have HBQ:=hide bq
 have HDQ:Hid (Below W1.heap.size W1 wq.drew):=bq.drew
 rw [hwq]
 clear hwq k14 k19
 obtain ⟨-,k14,k19,k0,k1,k2,k3,k4⟩:=KS.out wq bq
 go_region_held3 (fun W=>Below W1.heap.size W1 W∧W.cell? ⟨p,14,none⟩=some (.slice (some ⟨b,off,none⟩) L cw)∧W.cell? ⟨p,19,none⟩=some (.int .i64 (i:Int))∧W.cell? ⟨b,off+i * 5,none⟩=some (.int .i64 KI)∧W.cell? ⟨b,off+i * 5+1,none⟩=some (.string TX)∧W.cell? ⟨b,off+i * 5+2,none⟩=some (.slice z1 LT.shape.length m1)∧W.cell? ⟨b,off+i * 5+3,none⟩=some (.slice z2 LT.cells.length m2)∧W.cell? ⟨b,off+i * 5+4,none⟩=some (.int .i64 PS)) (first | with_reducible exact KS.out _ HDQ.out | with_reducible exact KS.out _ (by with_reducible assumption) | with_reducible exact KS.out _ (HDQ.out.alloc HDQ.out.size _) | with_reducible exact KS.out _ (HBQ.out.alloc HBQ.out.size _) | with_reducible exact KS.out _ ((HBQ.out.alloc HBQ.out.size _).drew)) (fail)
 clear k14 k19 k0 k1 k2 k3 k4
 go_upto_region 9 with fail
 obtain ⟨W4,hW4⟩:∃ W4,((wq.alloc (.cells #[.int .i64 KI,.string TX,.slice z1 LT.shape.length m1,.slice z2 LT.cells.length m2,.int .i64 PS] 43)).alloc (.cells #[.int .i64 0,.int .i64 0,.string ⟨#[]⟩,.slice none 0 0,.slice none 0 0,.slice none 0 0,.int .i64 PS] 39)).drew=W4:=⟨_,rfl⟩
 rw [hW4]
 have s4:W4.heap.size=w.heap.size+3:=by rw [←hW4]; show (((wq.alloc _).alloc _)).heap.size=_; simp [sq]
 have b4q:Below W1.heap.size W1 W4:=by rw [←hW4]; exact ((bq.alloc bq.size _).alloc (by simp; have:=bq.size; omega) _).drew
 have b4:Below w.heap.size w W4:=HB1.out.trans (b4q.mono HB1.out.size)
 have wc:∀ o v,(#[.int .i64 KI,.string TX,.slice z1 LT.shape.length m1,.slice z2 LT.cells.length m2,.int .i64 PS]:Array Value)[o]?=some v→W4.cell? ⟨w.heap.size+1,o,none⟩=some v:=fun o v ho=>by
  rw [←hW4,← sq]
  exact cell_one (cell_new0 wq _ 43 o v ho) (by simp) _
 have nc:∀ o v,(#[.int .i64 0,.int .i64 0,.string ⟨#[]⟩,.slice none 0 0,.slice none 0 0,.slice none 0 0,.int .i64 PS]:Array Value)[o]?=some v→W4.cell? ⟨w.heap.size+1+1,o,none⟩=some v:=fun o v ho=>by
  rw [←hW4]
  have:=cell_new0 (wq.alloc (.cells #[.int .i64 KI,.string TX,.slice z1 LT.shape.length m1,.slice z2 LT.cells.length m2,.int .i64 PS] 43)) #[.int .i64 0,.int .i64 0,.string ⟨#[]⟩,.slice none 0 0,.slice none 0 0,.slice none 0 0,.int .i64 PS] 39 o v ho
  have e9:(wq.alloc (.cells #[.int .i64 KI,.string TX,.slice z1 LT.shape.length m1,.slice z2 LT.cells.length m2,.int .i64 PS] 43)).heap.size=w.heap.size+1+1:=by simp [sq]
  rw [e9] at this
  exact this
 have nf:∀ o,W4.frozen? ⟨w.heap.size+1+1,o,none⟩=false:=fun o=>by
  rw [←hW4]
  have:=frozen_new (wq.alloc (.cells #[.int .i64 KI,.string TX,.slice z1 LT.shape.length m1,.slice z2 LT.cells.length m2,.int .i64 PS] 43)) #[.int .i64 0,.int .i64 0,.string ⟨#[]⟩,.slice none 0 0,.slice none 0 0,.slice none 0 0,.int .i64 PS] 39 o
  have e9:(wq.alloc (.cells #[.int .i64 KI,.string TX,.slice z1 LT.shape.length m1,.slice z2 LT.cells.length m2,.int .i64 PS] 43)).heap.size=w.heap.size+1+1:=by simp [sq]
  rw [e9] at this
  exact this
 have HN:Hid (∀ W,Below W4.heap.size W4 W→(∀ o v,(#[.int .i64 0,.int .i64 0,.string ⟨#[]⟩,.slice none 0 0,.slice none 0 0,.slice none 0 0,.int .i64 PS]:Array Value)[o]?=some v→W.cell? ⟨w.heap.size+1+1,o,none⟩=some v)∧(∀ o,W.frozen? ⟨w.heap.size+1+1,o,none⟩=false)∧(∀ o,o < 7→∃ v,W.cell? ⟨w.heap.size,o,none⟩=some v)∧∀ o,W.frozen? ⟨w.heap.size,o,none⟩=false):=fun W hW =>
  ⟨fun o v ho=>(hW.cell (p:=⟨w.heap.size+1+1,o,none⟩) (by show w.heap.size+1+1 < _; omega)).trans (nc o v ho),fun o=>(hW.frozen (p:=⟨w.heap.size+1+1,o,none⟩) (by show w.heap.size+1+1 < _; omega)).trans (nf o),HRES.out W (b4q.trans (hW.mono b4q.size))⟩
 have HB4:=hide b4
 have HS4:=hide s4
 clear HBQ HDQ hW4 nc nf bq sq b4 b4q s4 HRES KS
 have HSN:Hid (∀ W,Below W4.heap.size W4 W→Sn (n+1) w0 W p g R ws):=fun W hW=>HH.out.sp.sn.next (HB4.out.trans (hW.mono HB4.out.size))
 have HRD:Hid (∀ W,Below W4.heap.size W4 W→Rd (n+1) w0 W p g R ws A i e):=fun W hW=>HH.out.next (HB4.out.trans (hW.mono HB4.out.size))
 have HDN:Hid (∀ m,Below W4.heap.size W4 (W4.drewN m)):=fun m=>drewN_below (Below.refl W4.heap.size W4) m
 have c19n:=fun m=>(HRD.out _ (HDN.out m)).c19
 have c7n:=fun m=>(HSN.out _ (HDN.out m)).c7
 have c19:=(HRD.out _ (Below.refl _ _)).c19
 have c7:=(HSN.out _ (Below.refl _ _)).c7
 go_quiet (fail)
 obtain ⟨wm,hwm⟩:∃ wm,W4.drewN nq=wm:=⟨_,rfl⟩
 have bm:Below W4.heap.size W4 wm:=by rw [←hwm]; exact HDN.out _
 rw [hwm]
 clear hwm
 go_upto_region 11 with fail
 go_quiet (fail)
 obtain ⟨w5,hw5⟩:∃ w5,wm.drewN nq=w5:=⟨_,rfl⟩
 have b5:Below W4.heap.size W4 w5:=by rw [←hw5]; exact bm.trans ((drewN_below (Below.refl wm.heap.size wm) _).mono bm.size)
 rw [hw5]
 clear hw5 HDN bm c19n c7n c19 c7
 have w50:w5.cell? ⟨w.heap.size+1,0,none⟩=some (.int .i64 KI):=(b5.cell (p:=⟨w.heap.size+1,0,none⟩) (by show w.heap.size+1 < _; have:=HS4.out; omega)).trans (wc 0 _ rfl)
 have w51:w5.cell? ⟨w.heap.size+1,1,none⟩=some (.string TX):=(b5.cell (p:=⟨w.heap.size+1,1,none⟩) (by show w.heap.size+1 < _; have:=HS4.out; omega)).trans (wc 1 _ rfl)
 have HWC:Hid (∀ W,Below w5.heap.size w5 W→W.cell? ⟨w.heap.size+1,1,none⟩=some (.string TX)):=fun W hW=>(hW.cell (p:=⟨w.heap.size+1,1,none⟩) (by show w.heap.size+1 < _; have:=HS4.out; have:=b5.size; omega)).trans w51
 have HB5:=hide b5
 clear wc
 have HRF:=hide (refuse22 (HRD.out w5 b5) 2)
 rw [hpl.out] at HRF
 have HBW:=hide (HB4.out.trans (b5.mono HB4.out.size))
 clear HSN HRD HWC
 go_wp2_with fail
 refine HRF.out.mono ?_
 rintro en w7 ⟨rfl,hb7⟩
 go_wp2
 exact ⟨rfl,But.of (HBW.out.trans (hb7.mono HBW.out.size)),rfl⟩
theorem word85 {n:Nat} {w0 w:World} {p q:Nat} {g:Gr} {R:Raw} {ws:List Wo} {A:Ra} {i:Nat} {e:Int} (h:Rd (n+1) w0 w p g R ws A i e) (inn:Bool) (nm:Nm) (hn:inn=true→Nq w p q nm) :
  Calls Try.prog 85 #[.pointer (some ⟨p,0,none⟩),namV inn q] w fun en w'=>GvW n w0 w p q g R ws A i e inn nm (wordS g e inn (ws.drop i)) en w':=by
 by_cases hi:i < ws.length
 ·by_cases h1:(wAt ws i).kind=1
  ·exact word_num h inn nm hn hi h1
  by_cases h2:(wAt ws i).kind=2
  ·exact word_text h inn nm hn hi h2
  by_cases h3:(wAt ws i).kind=3
  ·cases hb:nameB (wAt ws i).text with
   | true =>
    cases inn with
    | false=>exact word_var_false h nm hn hi h3 hb
    | true =>
     cases hl:isT 3 g.left [wAt ws i] with
     | true=>exact word_left h nm hn hi hl
     | false =>
      cases hr:isT 3 g.right [wAt ws i] with
      | true=>exact word_right h nm hn hi hl hr
      | false=>exact word_var_true h nm hn hi h3 hb hl hr
   | false =>
    cases inn with
    | false=>exact word_bad3_false h nm hn hi h3 hb
    | true =>
     cases hl:isT 3 g.left [wAt ws i] with
     | true=>exact word_left h nm hn hi hl
     | false =>
      cases hr:isT 3 g.right [wAt ws i] with
      | true=>exact word_right h nm hn hi hl hr
      | false=>exact word_bad3_true h nm hn hi h3 hb hl hr
  ·cases inn with
   | false=>exact word_bad_false h nm hn hi h1 h2 h3
   | true=>exact word_bad_true h nm hn hi h1 h2 h3
 ·exact word_end h inn nm hn hi
end Go.Proofs.Ytnaejfoighmfeaa
namespace Go.Proofs.Ytnaejfoighmfeaa
open Go.ChangeShapes Go.WideShapes Go.ChangeAt Go.RowKit
set_option maxRecDepth 100000
set_option linter.unusedVariables false
set_option linter.unusedSimpArgs false
def GvE (n:Nat) (w0 w:World) (p q:Nat) (g:Gr) (R:Raw) (ws:List Wo) (A:Ra) (e:Int) (inn:Bool) (nm:Nm) (res:Rs (Nd × List Wo × Nm)) (en:Ending) (w':World):Prop :=
 But (TT inn p q) w w'∧match res with
 | .ok r=>∃ v m i,en=.returned v∧r.2.1=ws.drop i∧Rd (n+1) w0 w' p g R ws A i e∧Tr (n+1) w0.heap.size m w.heap.size w'.heap.size w' r.1 v∧(inn=true→Nq w' p q (orN nm r.2.2))
 | .bad er pl=>en=faultP er pl
 | .stuck=>False
def GvF (n:Nat) (w0 w:World) (p:Nat) (g:Gr) (R:Raw) (ws:List Wo) (A:Ra) (e:Int) (res:Rs (Nd × List Wo)) (en:Ending) (w':World):Prop :=
 But (·=p) w w'∧match res with
 | .ok r=>∃ v m i,en=.returned v∧r.2=ws.drop i∧Rd (n+1) w0 w' p g R ws A i e∧Tr (n+1) w0.heap.size m w.heap.size w'.heap.size w' r.1 v
 | .bad er pl=>en=faultP er pl
 | .stuck=>False
def CE (n:Nat) (w0:World) (p:Nat) (g:Gr) (R:Raw) (ws:List Wo) (A:Ra) (e:Int) (d:Nat):Prop:=∀ w q i inn nm,Rd (n+1) w0 w p g R ws A i e→(inn=true→Nq w p q nm) →
 Calls Try.prog 21 #[.pointer (some ⟨p,0,none⟩),.int .i64 ((25 - d:Nat):Int),namV inn q] w fun en w'=>GvE n w0 w p q g R ws A e inn nm ((EF g e d).1 inn (ws.drop i)) en w'
def CF (n:Nat) (w0:World) (p:Nat) (g:Gr) (R:Raw) (ws:List Wo) (A:Ra) (e:Int) (d:Nat):Prop:=∀ w i b,Rd (n+1) w0 w p g R ws A i e→wholeR g b (ws.drop i) ≠ 0 →
 Calls Try.prog 35 #[.pointer (some ⟨p,0,none⟩),.int .i64 ((25 - d:Nat):Int)] w fun en w'=>GvF n w0 w p g R ws A e ((EF g e d).2 (ws.drop i)) en w'
structure Rv (W:World) (r:Nat):Prop where
 lt:r < W.heap.size
 c:∀ o,o < 7→∃ v,W.cell? ⟨r,o,none⟩=some v
 f:∀ o,W.frozen? ⟨r,o,none⟩=false
theorem Rv.new (w:World):Rv (w.alloc (.cells #[.int .i64 0,.int .i64 0,.string ⟨#[]⟩,.slice none 0 0,.slice none 0 0,.slice none 0 0,.int .i64 0] 39)) w.heap.size :=
 ⟨by simp,fun o ho=>by
  have:o=0 ∨ o=1 ∨ o=2 ∨ o=3 ∨ o=4 ∨ o=5 ∨ o=6:=by omega
  rcases this with rfl | rfl | rfl | rfl | rfl | rfl | rfl <;> exact ⟨_,cell_new0 w _ 39 _ _ rfl⟩,fun o=>frozen_new _ _ _ _⟩
theorem Rv.block {W W':World} {r:Nat} (h:Rv W r) (hs:W.heap.size≤W'.heap.size) (hk:W'.heap[r]?=W.heap[r]?):Rv W' r :=
 ⟨Nat.lt_of_lt_of_le h.lt hs,fun o ho=>by
  obtain ⟨v,hv⟩:=h.c o ho
  exact ⟨v,(World.cell?_of_block (w:=W) (a:=⟨r,o,none⟩) hk).trans hv⟩,fun o=>(frozen_block hk o).trans (h.f o)⟩
theorem Rv.but {T:Nat→Prop} {W W':World} {r:Nat} (h:Rv W r) (hb:But T W W') (ht:¬ T r):Rv W' r:=h.block hb.size (hb.block h.lt ht)
structure Vn (W:World) (b:Nat) (K O:Int) (S:ByteArray) (s1 s2 sk:Value) (P:Int):Prop where
 lt:b < W.heap.size
 c0:W.cell? ⟨b,0,none⟩=some (.int .i64 K)
 c1:W.cell? ⟨b,1,none⟩=some (.int .i64 O)
 c2:W.cell? ⟨b,2,none⟩=some (.string S)
 c3:W.cell? ⟨b,3,none⟩=some s1
 c4:W.cell? ⟨b,4,none⟩=some s2
 c5:W.cell? ⟨b,5,none⟩=some sk
 c6:W.cell? ⟨b,6,none⟩=some (.int .i64 P)
theorem Vn.new (W:World) (K O:Int) (S:ByteArray) (s1 s2 sk:Value) (P:Int):Vn (W.alloc (.cells #[.int .i64 K,.int .i64 O,.string S,s1,s2,sk,.int .i64 P] 39)) W.heap.size K O S s1 s2 sk P :=
 ⟨by simp,cell_new0 W _ 39 0 _ rfl,cell_new0 W _ 39 1 _ rfl,cell_new0 W _ 39 2 _ rfl,cell_new0 W _ 39 3 _ rfl,cell_new0 W _ 39 4 _ rfl,cell_new0 W _ 39 5 _ rfl,cell_new0 W _ 39 6 _ rfl⟩
theorem Vn.block {W W':World} {b:Nat} {K O:Int} {S:ByteArray} {s1 s2 sk:Value} {P:Int} (h:Vn W b K O S s1 s2 sk P) (hs:W.heap.size≤W'.heap.size) (hk:W'.heap[b]?=W.heap[b]?):Vn W' b K O S s1 s2 sk P:=by
 have c:∀ o,W'.cell? ⟨b,o,none⟩=W.cell? ⟨b,o,none⟩:=fun o=>World.cell?_of_block (w:=W) (a:=⟨b,o,none⟩) hk
 exact ⟨Nat.lt_of_lt_of_le h.lt hs,(c 0).trans h.c0,(c 1).trans h.c1,(c 2).trans h.c2,(c 3).trans h.c3,(c 4).trans h.c4,(c 5).trans h.c5,(c 6).trans h.c6⟩
theorem Vn.but {T:Nat→Prop} {W W':World} {b:Nat} {K O:Int} {S:ByteArray} {s1 s2 sk:Value} {P:Int} (h:Vn W b K O S s1 s2 sk P) (hb:But T W W') (ht:¬ T b):Vn W' b K O S s1 s2 sk P:=h.block hb.size (hb.block h.lt ht)
section
variable {n:Nat} {w0 w X wf:World} {p q:Nat} {g:Gr} {R:Raw} {ws:List Wo} {A:Ra} {e:Int} {inn:Bool} {nm:Nm}
theorem gv_fin {r:Nd × List Wo × Nm} {v:Value} {m lo hi i:Nat} (hX:But (TT inn p q) w X) (hr:Rd (n+1) w0 X p g R ws A i e) (hl:r.2.1=ws.drop i) (ht:Tr (n+1) w0.heap.size m lo hi X r.1 v) (hlo:w.heap.size < lo) (hhi:hi≤X.heap.size) (hq:inn=true→Nq X p q (orN nm r.2.2)∧q < w.heap.size) (hp:p < w.heap.size) (hB:w0.heap.size≤w.heap.size) (hf:But (·=w.heap.size) X wf) :
  GvE n w0 w p q g R ws A e inn nm (.ok r) (.returned v) wf:=by
 have hs:=hX.size
 refine ⟨hX.trans hf fun j hj hh=>by omega,v,m,i,rfl,hl,hr.upto (hf.below (by omega) fun k hk=>by omega),(ht.keep (Kp.but hf (by omega) hhi fun k hk=>by omega)).wide (by omega) (Nat.le_trans hhi hf.size),fun hin=>(hq hin).1.keep (hf.below (by have:=(hq hin).2; omega) fun k hk=>by have:=(hq hin).2; omega)⟩
end
end Go.Proofs.Ytnaejfoighmfeaa
namespace Go.Proofs.Ytnaejfoighmfeaa
open Go.ChangeShapes Go.WideShapes Go.ChangeAt Go.RowKit
set_option maxRecDepth 100000
set_option linter.unusedVariables false
set_option linter.unusedSimpArgs false
theorem Nq.block {w w':World} {p q:Nat} {nm:Nm} (h:Nq w p q nm) (hs:w.heap.size≤w'.heap.size) (hk:w'.heap[q]?=w.heap[q]?):Nq w' p q nm :=
 ⟨Nat.lt_of_lt_of_le h.lt hs,h.hp,(World.cell?_of_block (w:=w) (a:=⟨q,0,none⟩) hk).trans h.c0,(World.cell?_of_block (w:=w) (a:=⟨q,1,none⟩) hk).trans h.c1,(frozen_block hk 0).trans h.f0,(frozen_block hk 1).trans h.f1⟩
theorem tt_no {inn:Bool} {p q B r:Nat} (hp:p < B) (hq:inn=true→q < B) (hr:B≤r):¬ TT inn p q r:=by
 rintro (hh | ⟨hin,hh⟩)
 ·omega
 ·have:=hq hin; omega
set_option maxHeartbeats 8000000 in
theorem bare_word {n:Nat} {w0 w:World} {p q:Nat} {g:Gr} {R:Raw} {ws:List Wo} {A:Ra} {i:Nat} {e:Int} (D:Int) (E:ET) (h:Rd (n+1) w0 w p g R ws A i e) (inn:Bool) (nm:Nm) (hn:inn=true→Nq w p q nm) (hT:isT 5 ro (ws.drop i)=false) :
  Calls Try.prog 68 #[.pointer (some ⟨p,0,none⟩),.int .i64 D,namV inn q] w fun en w'=>GvE n w0 w p q g R ws A e inn nm (bareS g e E inn (ws.drop i)) en w':=by
 have hb:bareS g e E inn (ws.drop i)=(wordS g e inn (ws.drop i)).bind fun q=>.ok (q.1,(ws.drop i).tail,q.2):=by unfold bareS; rw [hT]; rfl
 obtain ⟨RES,hRES⟩:∃ RES,bareS g e E inn (ws.drop i)=RES:=⟨_,rfl⟩
 rw [hRES]
 rw [hRES] at hb
 have HRES:=hide hb
 clear hb hRES
 obtain ⟨W1,e1⟩:∃ W1,w.alloc (.cells #[.int .i64 0,.int .i64 0,.string ⟨#[]⟩,.slice none 0 0,.slice none 0 0,.slice none 0 0,.int .i64 0] 39)=W1:=⟨_,rfl⟩
 have b1:Below w.heap.size w W1:=by rw [←e1]; exact one_alloc _ _
 have s1:W1.heap.size=w.heap.size+1:=by rw [←e1]; simp
 have rv1:Rv W1 w.heap.size:=by rw [←e1]; exact Rv.new w
 have HDN:Hid (∀ k,Below W1.heap.size W1 (W1.drewN k)):=fun k=>drewN_below (Below.refl W1.heap.size W1) k
 have HRD:Hid (∀ k,Rd (n+1) w0 (W1.drewN k) p g R ws A i e):=fun k=>(h.next b1).next (HDN.out k)
 have hile:=h.hi
 have hL:=h.sp.sn.words
 have hpw:=h.sp.sn.hp2
 have hBw:=h.sp.sn.old.size
 have H1:=hide (fun k=>is69 (HRD.out k).sp.sn i 5 ro (by omega))
 rw [hT] at H1
 have hro:ro=⟨#[40]⟩:=rfl
 rw [hro] at H1
 have c19n:=fun k=>(HRD.out k).c19
 have c19:=(HRD.out 0).c19
 have HN1:Hid (∀ k,inn=true→Nq (W1.drewN k) p q nm∧q < w.heap.size):=fun k hin=>⟨((hn hin).next b1).next (HDN.out k),(hn hin).lt⟩
 have HW:=hide (fun k=>word85 (q:=q) (HRD.out k) inn nm (fun hin=>(HN1.out k hin).1))
 have hil:=fun r=>@wordS_ok g e inn (ws.drop i) r
 have HE:=hide e1
 have HB1:=hide b1
 have HRV1:=hide rv1
 clear hT hro e1 h hn b1 rv1
 generalize hNV:namV inn q=NV at *
 go_enter Try.func68,Try.ntmps68
 go_upto_region 1 with fail
 rw [HE.out]
 go_quiet ((go_at_call 69; first | exact Calls.quiet_of_same (H1.out 0) | exact Calls.quiet_of_same (H1.out _)))
 go_wp2_with fail
 obtain ⟨wq,hwq⟩:∃ wq,W1.drewN nq=wq:=⟨_,rfl⟩
 have HQ:=hide (HW.out nq)
 have HDQ:=hide (HDN.out nq)
 have HNQ:=hide (HN1.out nq)
 rw [hwq] at HQ HDQ HNQ ⊢
 have sq:wq.heap.size=w.heap.size+1:=by rw [←hwq]; exact s1
 clear hwq HW HDN HN1 HRD H1 c19n c19
 refine HQ.out.mono ?_
 rintro en w5 ⟨hbut,hres⟩
 clear HQ
 have HBT:Hid (But (TT inn p q) w w5):=(But.of (HB1.out.trans (HDQ.out.mono HB1.out.size))).trans hbut fun j _ hj=>hj
 have rv5:Rv w5 w.heap.size:=((HRV1.out.block HDQ.out.size (HDQ.out.block _ (by omega))).but hbut (tt_no hpw (fun hin=>(HNQ.out hin).2) (Nat.le_refl _)))
 cases hwd:wordS g e inn (ws.drop i) with
 | bad er pl =>
  rw [hwd] at hres
  simp only at hres
  subst hres
  obtain rfl:RES=.bad er pl:=by rw [HRES.out,hwd]; rfl
  go_wp2
  exact ⟨rfl,HBT.out,rfl⟩
 | stuck=>exact absurd hwd wordS_nst
 | ok r =>
  obtain ⟨nd,nm'⟩:=r
  obtain rfl:RES=.ok (nd,(ws.drop i).tail,nm'):=by rw [HRES.out,hwd]; rfl
  rw [hwd] at hres
  obtain ⟨v,m,rfl,hrd,htr,hnq⟩:=hres
  obtain ⟨x,rr,hx,-⟩:=hil _ hwd
  have hlt:i < ws.length:=by
   rcases Nat.lt_or_ge i ws.length with hh | hh
   ·exact hh
   ·rw [drop_end (by omega)] at hx; cases hx
  have HTR:=hide htr
  obtain ⟨m',rfl,a1,c1,a2,c2,ak,ck,rfl,-⟩:=htr.form
  obtain ⟨W6,hW6⟩:∃ W6,w5.alloc (.cells #[.int .i64 nd.kind,.int .i64 nd.op,.string nd.name,.slice a1 nd.lit.shape.length c1,.slice a2 nd.lit.cells.length c2,.slice ak nd.kids.length ck,.int .i64 nd.pos] 39)=W6:=⟨_,rfl⟩
  have b6:Below w5.heap.size w5 W6:=by rw [←hW6]; exact one_alloc _ _
  have s6:W6.heap.size=w5.heap.size+1:=by rw [←hW6]; simp
  have vn6:Vn W6 w5.heap.size nd.kind nd.op nd.name (.slice a1 nd.lit.shape.length c1) (.slice a2 nd.lit.cells.length c2) (.slice ak nd.kids.length ck) nd.pos:=by rw [←hW6]; exact Vn.new _ _ _ _ _ _ _ _
  have rd6:=hrd.next b6
  have rd7:=rd6.move (i+1) hlt
  have bm7:=rd6.moved (i+1)
  have hcast:((i+1:Nat):Int)=(i:Int)+1:=by simp
  rw [hcast] at rd7 bm7
  have c19:=rd6.c19
  have f19:=rd6.fz
  have h5:=hbut.size
  obtain ⟨W7,hW7⟩:∃ W7,W6.setCell ⟨p,19,none⟩ (.int .i64 ((i:Int)+1))=W7:=⟨_,rfl⟩
  have VN:Hid (Vn W7 w5.heap.size nd.kind nd.op nd.name (.slice a1 nd.lit.shape.length c1) (.slice a2 nd.lit.cells.length c2) (.slice ak nd.kids.length ck) nd.pos):=by rw [hW7] at bm7; exact vn6.but bm7 (by omega)
  have HRV:Hid (Rv W7 w.heap.size):=by rw [hW7] at bm7; exact (rv5.block b6.size (b6.block _ rv5.lt)).but bm7 (by omega)
  have HFIN:Hid (∀ wf,But (·=w.heap.size) W7 wf→GvE n w0 w p q g R ws A e inn nm (.ok (nd,(ws.drop i).tail,nm')) (.returned (.agg #[.int .i64 nd.kind,.int .i64 nd.op,.string nd.name,.slice a1 nd.lit.shape.length c1,.slice a2 nd.lit.cells.length c2,.slice ak nd.kids.length ck,.int .i64 nd.pos])) wf):=fun wf hf=>by
   rw [hW7] at bm7 rd7
   have bm8:But (TT inn p q) W6 W7:=bm7.mono fun k hk=>Or.inl hk
   have hk6:But (TT inn p q) w5 W6:=But.of b6
   refine gv_fin (lo:=wq.heap.size) (hi:=w5.heap.size) (r:=(nd,(ws.drop i).tail,nm')) ((HBT.out.trans hk6 fun j _ hj=>hj).trans bm8 fun j _ hj=>hj) rd7 (by simp) (HTR.out.keep ((Kp.of b6 (by omega) (Nat.le_refl _)).trans (Kp.but bm7 (by omega) (by omega) fun k hk=>⟨by have:=rd6.sp.sn.hp; omega,Or.inl (by omega)⟩))) (by omega) (by have:=bm7.size; omega) (fun hin=>⟨?_,(HNQ.out hin).2⟩) hpw hBw hf
   have hq5:=hnq hin
   exact (hq5.next b6).block bm7.size (bm7.block (by have:=hq5.lt; omega) (by have:=hq5.hp; omega))
  have HE6:=hide hW6
  have HE7:=hide hW7
  clear hrd hnq hx hil htr b6 s6 vn6 rd7 bm7 hcast hbut rv5 hW6 hW7 HTR HBT HRV1 HDQ HNQ HB1
  go_upto_region 3 with fail
  rw [HE6.out]
  clear rd6
  go_upto_region 4 with fail
  rw [HE7.out]
  clear c19 f19
  obtain ⟨-,v0,v1,v2,v3,v4,v5,v6⟩:=VN.out
  have RV:=HRV.out
  obtain ⟨r0,Q0⟩:=RV.c 0 (by omega)
  have F0:=RV.f 0
  obtain ⟨r1,Q1⟩:=RV.c 1 (by omega)
  have F1:=RV.f 1
  obtain ⟨r2,Q2⟩:=RV.c 2 (by omega)
  have F2:=RV.f 2
  obtain ⟨r3,Q3⟩:=RV.c 3 (by omega)
  have F3:=RV.f 3
  obtain ⟨r4,Q4⟩:=RV.c 4 (by omega)
  have F4:=RV.f 4
  obtain ⟨r5,Q5⟩:=RV.c 5 (by omega)
  have F5:=RV.f 5
  obtain ⟨r6,Q6⟩:=RV.c 6 (by omega)
  have F6:=RV.f 6
  clear RV HRV VN
  go_wp2
  refine bodyPost_ret (v:=.agg #[.int .i64 nd.kind,.int .i64 nd.op,.string nd.name,.slice a1 nd.lit.shape.length c1,.slice a2 nd.lit.cells.length c2,.slice ak nd.kids.length ck,.int .i64 nd.pos]) (by simp [results,Try.results68,go_sem,Q0,Q1,Q2,Q3,Q4,Q5,Q6]) rfl (HFIN.out _ ?_)
  repeat' first | with_reducible exact But.refl _ _ | with_reducible rfl | with_reducible refine butS ?_ ?_
set_option maxHeartbeats 8000000 in
theorem bare_brack {n:Nat} {w0 w:World} {p q:Nat} {g:Gr} {R:Raw} {ws:List Wo} {A:Ra} {i:Nat} {e:Int} (d:Nat) (hd:d≤24) (IE:CE n w0 p g R ws A e d) (h:Rd (n+1) w0 w p g R ws A i e) (inn:Bool) (nm:Nm) (hn:inn=true→Nq w p q nm) (hT:isT 5 ro (ws.drop i)=true) :
  Calls Try.prog 68 #[.pointer (some ⟨p,0,none⟩),.int .i64 ((24 - d:Nat):Int),namV inn q] w fun en w'=>GvE n w0 w p q g R ws A e inn nm (bareS g e (EF g e d).1 inn (ws.drop i)) en w':=by
 have hb:bareS g e (EF g e d).1 inn (ws.drop i)=((EF g e d).1 inn (ws.drop (i+1))).bind fun q=>(closeS e rc q.2.1).bind fun r=>.ok (q.1,r,q.2.2):=by unfold bareS; rw [hT,List.tail_drop]; rfl
 obtain ⟨RES,hRES⟩:∃ RES,bareS g e (EF g e d).1 inn (ws.drop i)=RES:=⟨_,rfl⟩
 rw [hRES]
 rw [hRES] at hb
 have HRES:=hide hb
 clear hb hRES
 have hlt:i < ws.length:=by
  rcases Nat.lt_or_ge i ws.length with hh | hh
  ·exact hh
  ·rw [drop_end (by omega)] at hT; cases hT
 obtain ⟨W1,e1⟩:∃ W1,w.alloc (.cells #[.int .i64 0,.int .i64 0,.string ⟨#[]⟩,.slice none 0 0,.slice none 0 0,.slice none 0 0,.int .i64 0] 39)=W1:=⟨_,rfl⟩
 have b1:Below w.heap.size w W1:=by rw [←e1]; exact one_alloc _ _
 have s1:W1.heap.size=w.heap.size+1:=by rw [←e1]; simp
 have rv1:Rv W1 w.heap.size:=by rw [←e1]; exact Rv.new w
 have HDN:Hid (∀ k,Below W1.heap.size W1 (W1.drewN k)):=fun k=>drewN_below (Below.refl W1.heap.size W1) k
 have HRD:Hid (∀ k,Rd (n+1) w0 (W1.drewN k) p g R ws A i e):=fun k=>(h.next b1).next (HDN.out k)
 have hile:=h.hi
 have hL:=h.sp.sn.words
 have hpw:=h.sp.sn.hp2
 have hBw:=h.sp.sn.old.size
 have hB0:=h.sp.sn.hp
 have H1:=hide (fun k=>is69 (HRD.out k).sp.sn i 5 ro (by omega))
 rw [hT] at H1
 have hro:ro=⟨#[40]⟩:=rfl
 rw [hro] at H1
 have c19n:=fun k=>(HRD.out k).c19
 have c19:=(HRD.out 0).c19
 have HN1:Hid (∀ k,inn=true→Nq (W1.drewN k) p q nm∧q < w.heap.size):=fun k hin=>⟨((hn hin).next b1).next (HDN.out k),(hn hin).lt⟩
 have HE:=hide e1
 have HB1:=hide b1
 have HRV1:=hide rv1
 have HIE:=hide IE
 have HGE:=hide ((EF_good g e d).1 inn (ws.drop (i+1)))
 clear hT hro e1 h hn b1 rv1 IE
 obtain ⟨NV,hNV⟩:∃ NV,namV inn q=NV:=⟨_,rfl⟩
 rw [hNV]
 have HNV:=hide hNV
 clear hNV
 have hD1:IntKind.i64.wrap (((24 - d:Nat):Int)+1)=((25 - d:Nat):Int):=(IntWalk.i64_in _ ⟨by omega,by omega⟩).trans (by omega)
 generalize ((24 - d:Nat):Int)=D at *
 go_enter Try.func68,Try.ntmps68
 go_upto_region 1 with fail
 rw [HE.out]
 go_quiet ((go_at_call 69; first | exact Calls.quiet_of_same (H1.out 0) | exact Calls.quiet_of_same (H1.out _)))
 go_upto_region 5 with fail
 obtain ⟨wq,hwq⟩:∃ wq,W1.drewN nq=wq:=⟨_,rfl⟩
 have HRQ:=HRD.out nq
 have HDQ:=hide (HDN.out nq)
 have HNQ:=hide (HN1.out nq)
 rw [hwq] at HRQ HDQ HNQ ⊢
 have sq:wq.heap.size=w.heap.size+1:=by rw [←hwq]; exact s1
 clear hwq HDN HN1 HRD H1 c19n c19
 have rd3:=HRQ.move (i+1) hlt
 have bm3:=HRQ.moved (i+1)
 have hcast:((i+1:Nat):Int)=(i:Int)+1:=by simp
 rw [hcast] at rd3 bm3
 obtain ⟨W3,hW3⟩:∃ W3,wq.setCell ⟨p,19,none⟩ (.int .i64 ((i:Int)+1))=W3:=⟨_,rfl⟩
 rw [hW3] at rd3 bm3
 have HE3:=hide hW3
 have s3:W3.heap.size=w.heap.size+1:=by rw [←hW3]; simpa using sq
 have HN3:Hid (inn=true→Nq W3 p q nm∧q < w.heap.size):=fun hin=>⟨(HNQ.out hin).1.block bm3.size (bm3.block (HNQ.out hin).1.lt (by have:=(HNQ.out hin).1.hp; omega)),(HNQ.out hin).2⟩
 have HC:=hide (HIE.out W3 q (i+1) inn nm rd3 (fun hin=>(HN3.out hin).1))
 rw [HNV.out] at HC
 have HB3:Hid (But (TT inn p q) w W3):=(But.of (HB1.out.trans (HDQ.out.mono HB1.out.size))).trans bm3 fun j _ hj=>Or.inl hj
 have HRV3:Hid (Rv W3 w.heap.size):=((HRV1.out.block HDQ.out.size (HDQ.out.block _ (by omega))).but bm3 (by omega))
 have c19:=HRQ.c19
 have f19:=HRQ.fz
 clear hW3 bm3 rd3 HRQ HIE HNQ hcast
 go_upto_region 6 with fail
 rw [HE3.out]
 clear c19 f19
 go_wp2_with fail
 refine HC.out.mono ?_
 rintro en w5 ⟨hbut,hres⟩
 clear HC
 have HBT:Hid (But (TT inn p q) w w5):=HB3.out.trans hbut fun j _ hj=>hj
 have rv5:Rv w5 w.heap.size:=HRV3.out.but hbut (tt_no hpw (fun hin=>(HN3.out hin).2) (Nat.le_refl _))
 cases hwd:(EF g e d).1 inn (ws.drop (i+1)) with
 | bad er pl =>
  rw [hwd] at hres
  simp only at hres
  subst hres
  obtain rfl:RES=.bad er pl:=by rw [HRES.out,hwd]; rfl
  go_wp2
  exact ⟨rfl,HBT.out,rfl⟩
 | stuck=>exact absurd hwd HGE.out.1
 | ok r =>
  obtain ⟨nd,rs,nm'⟩:=r
  rw [hwd] at hres
  obtain ⟨v,m,i',rfl,hrs,hrd,htr,hnq⟩:=hres
  simp only at hrs
  subst hrs
  have HTR:=hide htr
  obtain ⟨m',rfl,a1,c1,a2,c2,ak,ck,rfl,-⟩:=htr.form
  obtain ⟨W6,hW6⟩:∃ W6,w5.alloc (.cells #[.int .i64 nd.kind,.int .i64 nd.op,.string nd.name,.slice a1 nd.lit.shape.length c1,.slice a2 nd.lit.cells.length c2,.slice ak nd.kids.length ck,.int .i64 nd.pos] 39)=W6:=⟨_,rfl⟩
  have b6:Below w5.heap.size w5 W6:=by rw [←hW6]; exact one_alloc _ _
  have s6:W6.heap.size=w5.heap.size+1:=by rw [←hW6]; simp
  have vn6:Vn W6 w5.heap.size nd.kind nd.op nd.name (.slice a1 nd.lit.shape.length c1) (.slice a2 nd.lit.cells.length c2) (.slice ak nd.kids.length ck) nd.pos:=by rw [←hW6]; exact Vn.new _ _ _ _ _ _ _ _
  have HCL:=hide (close70 (hrd.next b6) rc)
  have hrc:rc=⟨#[41]⟩:=rfl
  rw [hrc] at HCL
  have h5:=hbut.size
  have HE6:=hide hW6
  have HB6:=hide b6
  have HVN:=hide vn6
  have HRV6:=hide (rv5.block b6.size (b6.block _ rv5.lt))
  have HNQ:=hide hnq
  clear hrd hnq htr b6 vn6 hbut rv5 hW6 HRV1 HRV3 HDQ
  go_upto_region 7 with fail
  rw [HE6.out]
  go_wp2_with fail
  refine HCL.out.mono ?_
  rintro en w8 ⟨hb8,hres⟩
  clear HCL
  rw [←hrc] at hres
  cases hcl:isT 6 rc (ws.drop i') with
  | false =>
   rw [hcl] at hres
   simp only [Bool.false_eq_true,if_false] at hres
   subst hres
   obtain rfl:RES=.bad 2 (placeR e (ws.drop i')):=by rw [HRES.out,hwd]; simp [Rs.bind,closeS,hcl]
   go_wp2
   exact ⟨rfl,(HBT.out.trans (But.of HB6.out) fun j _ hj=>hj).trans hb8 fun j _ hj=>Or.inl hj,rfl⟩
  | true =>
   rw [hcl] at hres
   simp only [if_true] at hres
   obtain ⟨rfl,hi8,rd8⟩:=hres
   obtain rfl:RES=.ok (nd,(ws.drop i').tail,nm'):=by rw [HRES.out,hwd]; simp [Rs.bind,closeS,hcl]
   have VN:Hid (Vn w8 w5.heap.size nd.kind nd.op nd.name (.slice a1 nd.lit.shape.length c1) (.slice a2 nd.lit.cells.length c2) (.slice ak nd.kids.length ck) nd.pos):=HVN.out.but hb8 (by omega)
   have HRV:Hid (Rv w8 w.heap.size):=HRV6.out.but hb8 (by omega)
   have HFIN:Hid (∀ wf,But (·=w.heap.size) w8 wf→GvE n w0 w p q g R ws A e inn nm (.ok (nd,(ws.drop i').tail,nm')) (.returned (.agg #[.int .i64 nd.kind,.int .i64 nd.op,.string nd.name,.slice a1 nd.lit.shape.length c1,.slice a2 nd.lit.cells.length c2,.slice ak nd.kids.length ck,.int .i64 nd.pos])) wf):=fun wf hf=>by
    refine gv_fin (lo:=W3.heap.size) (hi:=w5.heap.size) (r:=(nd,(ws.drop i').tail,nm')) ((HBT.out.trans (But.of HB6.out) fun j _ hj=>hj).trans hb8 fun j _ hj=>Or.inl hj) rd8 (by simp) (HTR.out.keep ((Kp.of HB6.out (by omega) (Nat.le_refl _)).trans (Kp.but hb8 (by omega) (by omega) fun k hk=>⟨by omega,Or.inl (by omega)⟩))) (by omega) (by have:=hb8.size; omega) (fun hin=>⟨?_,(HN3.out hin).2⟩) hpw hBw hf
    have hq5:=HNQ.out hin
    exact (hq5.next HB6.out).block hb8.size (hb8.block (by have:=hq5.lt; omega) (by have:=hq5.hp; omega))
   clear HBT HB6 HVN HRV6 HNQ HN3 HTR rd8 hb8
   go_upto_region 8 with fail
   obtain ⟨-,v0,v1,v2,v3,v4,v5,v6⟩:=VN.out
   have RV:=HRV.out
   obtain ⟨r0,Q0⟩:=RV.c 0 (by omega)
   have F0:=RV.f 0
   obtain ⟨r1,Q1⟩:=RV.c 1 (by omega)
   have F1:=RV.f 1
   obtain ⟨r2,Q2⟩:=RV.c 2 (by omega)
   have F2:=RV.f 2
   obtain ⟨r3,Q3⟩:=RV.c 3 (by omega)
   have F3:=RV.f 3
   obtain ⟨r4,Q4⟩:=RV.c 4 (by omega)
   have F4:=RV.f 4
   obtain ⟨r5,Q5⟩:=RV.c 5 (by omega)
   have F5:=RV.f 5
   obtain ⟨r6,Q6⟩:=RV.c 6 (by omega)
   have F6:=RV.f 6
   clear RV HRV VN
   go_wp2
   refine bodyPost_ret (v:=.agg #[.int .i64 nd.kind,.int .i64 nd.op,.string nd.name,.slice a1 nd.lit.shape.length c1,.slice a2 nd.lit.cells.length c2,.slice ak nd.kids.length ck,.int .i64 nd.pos]) (by simp [results,Try.results68,go_sem,Q0,Q1,Q2,Q3,Q4,Q5,Q6]) rfl (HFIN.out _ ?_)
   repeat' first | with_reducible exact But.refl _ _ | with_reducible rfl | with_reducible refine butS ?_ ?_
theorem bare68 {n:Nat} {w0 w:World} {p q:Nat} {g:Gr} {R:Raw} {ws:List Wo} {A:Ra} {i:Nat} {e:Int} (d:Nat) (hd:d≤24) (IE:CE n w0 p g R ws A e d) (h:Rd (n+1) w0 w p g R ws A i e) (inn:Bool) (nm:Nm) (hn:inn=true→Nq w p q nm) :
  Calls Try.prog 68 #[.pointer (some ⟨p,0,none⟩),.int .i64 ((24 - d:Nat):Int),namV inn q] w fun en w'=>GvE n w0 w p q g R ws A e inn nm (bareS g e (EF g e d).1 inn (ws.drop i)) en w':=by
 cases hT:isT 5 ro (ws.drop i) with
 | true=>exact bare_brack d hd IE h inn nm hn hT
 | false=>exact bare_word _ _ h inn nm hn hT
end Go.Proofs.Ytnaejfoighmfeaa
namespace Go.Proofs.Ytnaejfoighmfeaa
open Go.ChangeShapes Go.WideShapes Go.ChangeAt Go.RowKit
set_option maxRecDepth 100000
set_option linter.unusedVariables false
set_option linter.unusedSimpArgs false
set_option maxHeartbeats 8000000 in
theorem call36 {n B m:Nat} {w:World} {f x:Nd} {D E:Nat→Prop} {vf vx:Value} (hB:B≤w.heap.size) (hD:∀ k,D k→k < w.heap.size) (hE:∀ k,E k→k < w.heap.size) (hne:∀ k,D k→¬ E k) (hf:TrD (n+1) B m D w f vf) (hx:TrD (n+1) B m E w x vx) :
  Calls Try.prog 36 #[vf,vx] w fun e w'=>(∃ v,e=.returned v∧TrD (n+1) B (m+1) (fun k=>D k ∨ E k ∨ Iv w.heap.size w'.heap.size k) w' (mo1 f x) v)∧Below w.heap.size w w':=by
 have HF:=hide hf
 have HX:=hide hx
 obtain ⟨m1,rfl,a1,c1,a2,c2,ak,ck,rfl,-⟩:=hf.form
 obtain ⟨m2,-,b1,d1,b2,d2,bk,dk,rfl,-⟩:=hx.form
 have HFIN:Hid (∀ W3,Below w.heap.size w W3→W3.heap.size=w.heap.size+1+1+1→(∃ v,(Ending.returned (.agg #[.int .i64 5,.int .i64 0,.string ⟨#[]⟩,.slice none 0 0,.slice none 0 0,.slice (some ⟨w.heap.size+1+1+1,0,none⟩) 2 2,.int .i64 f.pos]):Ending)=.returned v∧TrD (n+1) B (m1+1+1) (fun k=>D k ∨ E k ∨ Iv w.heap.size (W3.alloc (.cells #[.int .i64 f.kind,.int .i64 f.op,.string f.name,.slice a1 f.lit.shape.length c1,.slice a2 f.lit.cells.length c2,.slice ak f.kids.length ck,.int .i64 f.pos,.int .i64 x.kind,.int .i64 x.op,.string x.name,.slice b1 x.lit.shape.length d1,.slice b2 x.lit.cells.length d2,.slice bk x.kids.length dk,.int .i64 x.pos] 39)).heap.size k) (W3.alloc (.cells #[.int .i64 f.kind,.int .i64 f.op,.string f.name,.slice a1 f.lit.shape.length c1,.slice a2 f.lit.cells.length c2,.slice ak f.kids.length ck,.int .i64 f.pos,.int .i64 x.kind,.int .i64 x.op,.string x.name,.slice b1 x.lit.shape.length d1,.slice b2 x.lit.cells.length d2,.slice bk x.kids.length dk,.int .i64 x.pos] 39)) (mo1 f x) v)∧Below w.heap.size w (W3.alloc (.cells #[.int .i64 f.kind,.int .i64 f.op,.string f.name,.slice a1 f.lit.shape.length c1,.slice a2 f.lit.cells.length c2,.slice ak f.kids.length ck,.int .i64 f.pos,.int .i64 x.kind,.int .i64 x.op,.string x.name,.slice b1 x.lit.shape.length d1,.slice b2 x.lit.cells.length d2,.slice bk x.kids.length dk,.int .i64 x.pos] 39))):=fun W3 hb hs=>by
  have hf3:=HF.out.keep (KpD.of hb hB hD)
  have hx3:=HX.out.keep (KpD.of hb hB hE)
  have hk:=trk2 (B:=B) (by omega) (fun k hk=>by have:=hD k hk; omega) (fun k hk=>by have:=hE k hk; omega) hne hf3 hx3 39
  have hp:=TrD.put (ck:=2) 5 0 nost f.pos (Nat.zero_le _) (by simp) hk
  refine ⟨⟨_,rfl,?_⟩,hb.alloc (by omega) _⟩
  rw [hs] at hp
  refine hp.wide fun k hk=>?_
  rcases hk with hk | hk | hk
  ·exact Or.inl hk
  ·exact Or.inr (Or.inl hk)
  ·exact Or.inr (Or.inr ⟨by omega,by simp; omega⟩)
 clear hf hx HF HX
 go_enter Try.func36,Try.ntmps36
 go_wp2
 exact bodyPost_ret (v:=.agg #[.int .i64 5,.int .i64 0,.string ⟨#[]⟩,.slice none 0 0,.slice none 0 0,.slice (some ⟨w.heap.size+1+1+1,0,none⟩) 2 2,.int .i64 f.pos]) (by simp [results,Try.results36,go_sem]) rfl (HFIN.out _ (((one_alloc w _).alloc (by simp) _).alloc (by simp; omega) _) (by simp))
end Go.Proofs.Ytnaejfoighmfeaa
