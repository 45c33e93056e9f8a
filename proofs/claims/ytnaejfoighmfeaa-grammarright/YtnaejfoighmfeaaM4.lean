import Derived.Test.YtnaejfoighmfeaaM3
import Derived.Laws.BitsAllLaws
import Derived.Lib.Bits
import Derived.Test.YtnaejfoighmfeaaChecked
import GoSem.Claim
import GoSem.ClaimJoined
import GoSem.ClaimMapViews
import Derived.JoinedTies
import Derived.KernelRfl
import Derived.WalkKit
import Derived.ProofKit
import Derived.Below
import Derived.Deep.QuietTactic
import Derived.BigQuiet
import Derived.Lib.SlBytesConst
import Derived.Laws.BytesArg
import Derived.Laws.MakeOwn
import Derived.Deep.RegionHeld3
import Derived.Laws.AppendOwnNone
import Derived.BigFrame
import Derived.OpenShut
import Derived.ChangeOld
import Derived.SizedLaws
import Derived.Deep.DeepHandedRow
import Derived.Lib.LaidTab
import Derived.Deep.OwnRows
import Derived.Deep.RegionWith
import Derived.Deep.Slices
import Derived.Deep.Strs
import Derived.Deep.LoopGhost
import Derived.Lib.ConvBytes
import Derived.Deep.RegionLaw
import Derived.Deep.CutRange
import Derived.Lib.SliceRun
import Derived.WalkLawsBesides
import Derived.Maps.AppendAt
import Derived.Deep.MidRow
import Derived.Defers
import Derived.Recover
import Derived.Deep.Cut
import Derived.ChangeMaps5
namespace Go.Proofs.Ytnaejfoighmfeaa
open Go.ChangeShapes Go.WideShapes Go.ChangeAt Go.RowKit
set_option maxRecDepth 100000
set_option linter.unusedVariables false
set_option linter.unusedSimpArgs false
theorem tt_ge {inn:Bool} {p q B k:Nat} (hp:B≤p) (hq:inn=true→p < q) (hk:TT inn p q k):B≤k:=by
 rcases hk with rfl | ⟨hin,rfl⟩
 ·exact hp
 ·have:=hq hin; omega
theorem orN_assoc (a b c:Nm):orN (orN a b) c=orN a (orN b c):=by simp [orN,Bool.or_assoc]
structure Sq (n:Nat) (w0 w:World) (p q:Nat) (g:Gr) (R:Raw) (ws:List Wo) (A:Ra) (e:Int) (inn:Bool) (nm:Nm) (bn i':Nat) (nd:Nd) (nm':Nm) (m:Nat) (D:Nat→Prop) (v:Value) (wr:World):Prop where
 but:But (TT inn p q) w wr
 rd:Rd (n+1) w0 wr p g R ws A i' e
 tr:TrD (n+1) w0.heap.size m D wr nd v
 dd:∀ k,D k→w.heap.size < k∧k < wr.heap.size∧k ≠ bn
 rv:Rv wr w.heap.size
 fn:∀ o,wr.frozen? ⟨bn,o,none⟩=false
 nq:inn=true→Nq wr p q (orN nm nm')∧q < w.heap.size
set_option maxHeartbeats 16000000 in
theorem operand38 {n:Nat} {w0 w:World} {p q:Nat} {g:Gr} {R:Raw} {ws:List Wo} {A:Ra} {i:Nat} {e:Int} (d:Nat) (hd:d≤24) (IE:CE n w0 p g R ws A e d) (h:Rd (n+1) w0 w p g R ws A i e) (inn:Bool) (nm:Nm) (hn:inn=true→Nq w p q nm) :
  Calls Try.prog 38 #[.pointer (some ⟨p,0,none⟩),.int .i64 ((24 - d:Nat):Int),namV inn q] w fun en w'=>GvE n w0 w p q g R ws A e inn nm (operS g e (EF g e d).1 inn (ws.drop i)) en w':=by
 obtain ⟨PL,hPL⟩:∃ PL,placeR e (ws.drop i)=PL:=⟨_,rfl⟩
 have hb:operS g e (EF g e d).1 inn (ws.drop i)=(bareS g e (EF g e d).1 inn (ws.drop i)).bind fun q=>sqS g e (EF g e d).1 inn PL ((ws.drop i).length+1) q.1 q.2.1 q.2.2:=by unfold operS; rw [hPL]
 obtain ⟨RES,hRES⟩:∃ RES,operS g e (EF g e d).1 inn (ws.drop i)=RES:=⟨_,rfl⟩
 rw [hRES]
 rw [hRES] at hb
 have HRES:=hide hb
 clear hb hRES
 obtain ⟨W1,e1⟩:∃ W1,w.alloc (.cells #[.int .i64 0,.int .i64 0,.string ⟨#[]⟩,.slice none 0 0,.slice none 0 0,.slice none 0 0,.int .i64 0] 39)=W1:=⟨_,rfl⟩
 have b1:Below w.heap.size w W1:=by rw [←e1]; exact one_alloc _ _
 have s1:W1.heap.size=w.heap.size+1:=by rw [←e1]; simp
 have rv1:Rv W1 w.heap.size:=by rw [←e1]; exact Rv.new w
 have hile:=h.hi
 have hL:=h.sp.sn.words
 have hpw:=h.sp.sn.hp2
 have hBw:=h.sp.sn.old.size
 have hB0:=h.sp.sn.hp
 have HP:=hide (place37 (h.next b1))
 rw [hPL] at HP
 have HDN:Hid (∀ k,Below W1.heap.size W1 (W1.drewN k)):=fun k=>drewN_below (Below.refl W1.heap.size W1) k
 have HBR:=hide (fun k=>bare68 (q:=q) d hd IE ((h.next b1).next (HDN.out k)) inn nm (fun hin=>((hn hin).next b1).next (HDN.out k)))
 have HQ0:Hid (inn=true→q < w.heap.size):=fun hin=>(hn hin).lt
 have HGE:=hide (fun l=>(EF_good g e d).1 inn l)
 have HGB:=hide (bareS_good (g:=g) (e:=e) (EF_good g e d).1 inn (ws.drop i))
 have HE:=hide e1
 have HB1:=hide b1
 have HRV1:=hide rv1
 have HIE:=hide IE
 clear e1 h hn b1 rv1 IE hPL
 obtain ⟨NV,hNV⟩:∃ NV,namV inn q=NV:=⟨_,rfl⟩
 rw [hNV] at HBR ⊢
 have HNV:=hide hNV
 clear hNV
 have hD1:IntKind.i64.wrap (((24 - d:Nat):Int)+1)=((25 - d:Nat):Int):=(IntWalk.i64_in _ ⟨by omega,by omega⟩).trans (by omega)
 generalize ((24 - d:Nat):Int)=DD at *
 go_enter Try.func38,Try.ntmps38
 go_upto_region 1 with fail
 rw [HE.out]
 go_wp2_with fail
 refine HP.out.mono ?_
 rintro en w2 ⟨rfl,k2,rfl⟩
 clear HP
 have HQ:=hide (HBR.out k2)
 have HDQ:=hide (HDN.out k2)
 have sq:(W1.drewN k2).heap.size=w.heap.size+1:=s1
 clear HBR HDN
 generalize W1.drewN k2=wq at *
 go_wp2_with fail
 refine HQ.out.mono ?_
 rintro en w5 ⟨hbut,hres⟩
 clear HQ
 have HBT:Hid (But (TT inn p q) w w5):=(But.of (HB1.out.trans (HDQ.out.mono HB1.out.size))).trans hbut fun j _ hj=>hj
 have rv5:Rv w5 w.heap.size:=((HRV1.out.block HDQ.out.size (HDQ.out.block _ (by omega))).but hbut (tt_no hpw HQ0.out (Nat.le_refl _)))
 cases hwd:bareS g e (EF g e d).1 inn (ws.drop i) with
 | bad er pl =>
  rw [hwd] at hres
  simp only at hres
  subst hres
  obtain rfl:RES=.bad er pl:=by rw [HRES.out,hwd]; rfl
  go_wp2
  exact ⟨rfl,HBT.out,rfl⟩
 | stuck=>exact absurd hwd HGB.out.1
 | ok r =>
  obtain ⟨nd0,rs,nm0⟩:=r
  have hlen:=(HGB.out.2 _ hwd).len
  rw [hwd] at hres
  obtain ⟨v,m0,i0,rfl,hrs,hrd,htr,hnq⟩:=hres
  simp only at hrs
  subst hrs
  have HR2:=hide (show RES=sqS g e (EF g e d).1 inn PL ((ws.drop i).length+1) nd0 (ws.drop i0) nm0 by rw [HRES.out,hwd]; rfl)
  simp only at hlen
  have HTR:=hide htr
  obtain ⟨m',hm',a1,c1,a2,c2,ak,ck,rfl,-⟩:=htr.form
  obtain ⟨W6,hW6⟩:∃ W6,w5.alloc (.cells #[.int .i64 nd0.kind,.int .i64 nd0.op,.string nd0.name,.slice a1 nd0.lit.shape.length c1,.slice a2 nd0.lit.cells.length c2,.slice ak nd0.kids.length ck,.int .i64 nd0.pos] 39)=W6:=⟨_,rfl⟩
  have b6:Below w5.heap.size w5 W6:=by rw [←hW6]; exact one_alloc _ _
  have s6:W6.heap.size=w5.heap.size+1:=by rw [←hW6]; simp
  have vn6:Vn W6 w5.heap.size nd0.kind nd0.op nd0.name (.slice a1 nd0.lit.shape.length c1) (.slice a2 nd0.lit.cells.length c2) (.slice ak nd0.kids.length ck) nd0.pos:=by rw [←hW6]; exact Vn.new _ _ _ _ _ _ _ _
  have h5:=hbut.size
  have SQ0:Hid (Sq n w0 w p q g R ws A e inn nm w5.heap.size i0 nd0 nm0 m0 (Iv wq.heap.size w5.heap.size) (.agg #[.int .i64 nd0.kind,.int .i64 nd0.op,.string nd0.name,.slice a1 nd0.lit.shape.length c1,.slice a2 nd0.lit.cells.length c2,.slice ak nd0.kids.length ck,.int .i64 nd0.pos]) W6) :=
   ⟨HBT.out.trans (But.of b6) fun j _ hj=>hj,hrd.next b6,HTR.out.keep (Kp.of b6 (by omega) (Nat.le_refl _)),fun k hk=>⟨by have:=hk.1; omega,by have:=hk.2; omega,by have:=hk.2; omega⟩,rv5.block b6.size (b6.block _ rv5.lt),fun o=>by rw [←hW6]; exact frozen_new _ _ _ _,fun hin=>⟨(hnq hin).next b6,HQ0.out hin⟩⟩
  have HE6:=hide hW6
  have HVN0:=hide vn6
  obtain ⟨bn,hbn⟩:∃ bn,w5.heap.size=bn:=⟨_,rfl⟩
  have hbnl:w.heap.size < bn:=by omega
  have hFL:(ws.drop i0).length < (ws.drop i).length+1:=by omega
  clear hrd hnq htr b6 vn6 hbut rv5 hW6 HRV1 HDQ HTR HBT HGB hwd hlen HRES HB1 HE hm'
  go_upto_region 3 with fail
  rw [HE6.out]
  rw [hbn] at SQ0 HVN0
  clear HE6 s6 h5 sq s1 hbn
  go_loopg [9] (ws.length+1 - i0) (fun gm s9 wr=>∃ (i' f:Nat) (nd:Nd) (nm':Nm) (m:Nat) (D:Nat→Prop) (a1:Option Addr) (c1:Nat) (a2:Option Addr) (c2:Nat) (ak:Option Addr) (ck:Nat),gm=ws.length+1 - i'∧RES=sqS g e (EF g e d).1 inn PL f nd (ws.drop i') nm'∧(ws.drop i').length < f∧Vn wr bn nd.kind nd.op nd.name (.slice a1 nd.lit.shape.length c1) (.slice a2 nd.lit.cells.length c2) (.slice ak nd.kids.length ck) nd.pos∧Sq n w0 w p q g R ws A e inn nm bn i' nd nm' m D (.agg #[.int .i64 nd.kind,.int .i64 nd.op,.string nd.name,.slice a1 nd.lit.shape.length c1,.slice a2 nd.lit.cells.length c2,.slice ak nd.kids.length ck,.int .i64 nd.pos]) wr)
  case atStart=>exact ⟨i0,_,nd0,nm0,m0,_,a1,c1,a2,c2,ak,ck,rfl,HR2.out,hFL,HVN0.out,SQ0.out⟩
  case round =>
   clear HVN0 SQ0 HR2
   obtain ⟨i',f,nd,nm',m,D,a1,c1,a2,c2,ak,ck,rfl,hres,hfl,hvn,hsq⟩:=hrel
   obtain ⟨f,rfl⟩:∃ k,f=k+1:=⟨f - 1,by omega⟩
   simp only [sqS] at hres
   have HSQ:=hide hsq
   have HVN:=hide hvn
   have c13:=hsq.rd.sp.sn.c13
   have c19:=hsq.rd.c19
   have hi':=hsq.rd.hi
   have HDW:Hid (∀ k,Below wr.heap.size wr (wr.drewN k)):=fun k=>drewN_below (Below.refl wr.heap.size wr) k
   have c13n:=fun k=>(hsq.rd.next (HDW.out k)).sp.sn.c13
   have c19n:=fun k=>(hsq.rd.next (HDW.out k)).c19
   have H1:=hide (fun k=>is69 (hsq.rd.next (HDW.out k)).sp.sn i' 5 so (by omega))
   have hso:so=⟨#[91]⟩:=rfl
   rw [hso] at H1
   have HRES:=hide hres
   clear hres hsq hvn
   cases hsqr:g.square with
   | false=>
    obtain rfl:RES=.ok (nd,ws.drop i',nm'):=by rw [HRES.out,hsqr]; simp
    rw [hsqr] at c13 c13n
    go_upto_region 3 with fail
    go_quiet (fail)
    obtain ⟨wz,hwz⟩:∃ wz,wr.drewN nq=wz:=⟨_,rfl⟩
    have bz:Below wr.heap.size wr wz:=by rw [←hwz]; exact HDW.out _
    go_upto_region 8 with fail
    rw [hwz]
    have VN:Hid (Vn wz bn nd.kind nd.op nd.name (.slice a1 nd.lit.shape.length c1) (.slice a2 nd.lit.cells.length c2) (.slice ak nd.kids.length ck) nd.pos):=HVN.out.block bz.size (bz.block _ HVN.out.lt)
    have HRV:Hid (Rv wz w.heap.size):=HSQ.out.rv.block bz.size (bz.block _ HSQ.out.rv.lt)
    have HFIN:Hid (∀ wf,But (·=w.heap.size) wz wf→GvE n w0 w p q g R ws A e inn nm (.ok (nd,ws.drop i',nm')) (.returned (.agg #[.int .i64 nd.kind,.int .i64 nd.op,.string nd.name,.slice a1 nd.lit.shape.length c1,.slice a2 nd.lit.cells.length c2,.slice ak nd.kids.length ck,.int .i64 nd.pos])) wf):=fun wf hf=>by
     have hsz:=HSQ.out.but.size
     refine gv_fin (lo:=w.heap.size+1) (hi:=wz.heap.size) (r:=(nd,ws.drop i',nm')) (HSQ.out.but.trans (But.of bz) fun j _ hj=>hj) (HSQ.out.rd.next bz) rfl (TrD.wide (HSQ.out.tr.keep (KpD.of bz (by omega) fun k hk=>(HSQ.out.dd k hk).2.1)) fun k hk=>⟨(HSQ.out.dd k hk).1,Nat.lt_of_lt_of_le (HSQ.out.dd k hk).2.1 bz.size⟩) (Nat.lt_succ_self _) (Nat.le_refl _) (fun hin=>⟨(HSQ.out.nq hin).1.next bz,(HSQ.out.nq hin).2⟩) hpw hBw hf
    clear HSQ HVN c13 c13n c19 c19n H1 HDW bz hwz HIE HGE HQ0
    obtain ⟨-,v0,v1,v2,v3,v4,v5,v6⟩:=VN.out
    have RV:=HRV.out
    obtain ⟨r0,Q0⟩:=RV.c 0 (by omega)
    have F0:=RV.f 0
    obtain ⟨r1,Q1⟩:=RV.c 1 (by omega)
    have F1:=RV.f 1
    obtain ⟨r2,Q2⟩:=RV.c 2 (by omega)
    have F2:=RV.f 2
    obtain ⟨r3,Q3⟩:=RV.c 3 (by omega)
    have F3:=RV.f 3
    obtain ⟨r4,Q4⟩:=RV.c 4 (by omega)
    have F4:=RV.f 4
    obtain ⟨r5,Q5⟩:=RV.c 5 (by omega)
    have F5:=RV.f 5
    obtain ⟨r6,Q6⟩:=RV.c 6 (by omega)
    have F6:=RV.f 6
    clear RV HRV VN
    go_wp2
    refine bodyPost_ret (v:=.agg #[.int .i64 nd.kind,.int .i64 nd.op,.string nd.name,.slice a1 nd.lit.shape.length c1,.slice a2 nd.lit.cells.length c2,.slice ak nd.kids.length ck,.int .i64 nd.pos]) (by simp [results,Try.results38,go_sem,Q0,Q1,Q2,Q3,Q4,Q5,Q6]) rfl (HFIN.out _ ?_)
    repeat' first | with_reducible exact But.refl _ _ | with_reducible rfl | with_reducible refine butS ?_ ?_
   | true =>
    cases hT:isT 5 so (ws.drop i') with
    | false=>
     obtain rfl:RES=.ok (nd,ws.drop i',nm'):=by rw [HRES.out,hsqr,hT]; simp
     rw [hsqr] at c13 c13n
     rw [←hso,hT] at H1
     rw [hso] at H1
     go_upto_region 3 with fail
     go_quiet ((go_at_call 69; first | exact Calls.quiet_of_same (H1.out 0) | exact Calls.quiet_of_same (H1.out _)))
     obtain ⟨wz,hwz⟩:∃ wz,wr.drewN nq=wz:=⟨_,rfl⟩
     have bz:Below wr.heap.size wr wz:=by rw [←hwz]; exact HDW.out _
     go_upto_region 8 with fail
     rw [hwz]
     have VN:Hid (Vn wz bn nd.kind nd.op nd.name (.slice a1 nd.lit.shape.length c1) (.slice a2 nd.lit.cells.length c2) (.slice ak nd.kids.length ck) nd.pos):=HVN.out.block bz.size (bz.block _ HVN.out.lt)
     have HRV:Hid (Rv wz w.heap.size):=HSQ.out.rv.block bz.size (bz.block _ HSQ.out.rv.lt)
     have HFIN:Hid (∀ wf,But (·=w.heap.size) wz wf→GvE n w0 w p q g R ws A e inn nm (.ok (nd,ws.drop i',nm')) (.returned (.agg #[.int .i64 nd.kind,.int .i64 nd.op,.string nd.name,.slice a1 nd.lit.shape.length c1,.slice a2 nd.lit.cells.length c2,.slice ak nd.kids.length ck,.int .i64 nd.pos])) wf):=fun wf hf=>by
      have hsz:=HSQ.out.but.size
      refine gv_fin (lo:=w.heap.size+1) (hi:=wz.heap.size) (r:=(nd,ws.drop i',nm')) (HSQ.out.but.trans (But.of bz) fun j _ hj=>hj) (HSQ.out.rd.next bz) rfl (TrD.wide (HSQ.out.tr.keep (KpD.of bz (by omega) fun k hk=>(HSQ.out.dd k hk).2.1)) fun k hk=>⟨(HSQ.out.dd k hk).1,Nat.lt_of_lt_of_le (HSQ.out.dd k hk).2.1 bz.size⟩) (Nat.lt_succ_self _) (Nat.le_refl _) (fun hin=>⟨(HSQ.out.nq hin).1.next bz,(HSQ.out.nq hin).2⟩) hpw hBw hf
     clear HSQ HVN c13 c13n c19 c19n H1 HDW bz hwz HIE HGE HQ0
     obtain ⟨-,v0,v1,v2,v3,v4,v5,v6⟩:=VN.out
     have RV:=HRV.out
     obtain ⟨r0,Q0⟩:=RV.c 0 (by omega)
     have F0:=RV.f 0
     obtain ⟨r1,Q1⟩:=RV.c 1 (by omega)
     have F1:=RV.f 1
     obtain ⟨r2,Q2⟩:=RV.c 2 (by omega)
     have F2:=RV.f 2
     obtain ⟨r3,Q3⟩:=RV.c 3 (by omega)
     have F3:=RV.f 3
     obtain ⟨r4,Q4⟩:=RV.c 4 (by omega)
     have F4:=RV.f 4
     obtain ⟨r5,Q5⟩:=RV.c 5 (by omega)
     have F5:=RV.f 5
     obtain ⟨r6,Q6⟩:=RV.c 6 (by omega)
     have F6:=RV.f 6
     clear RV HRV VN
     go_wp2
     refine bodyPost_ret (v:=.agg #[.int .i64 nd.kind,.int .i64 nd.op,.string nd.name,.slice a1 nd.lit.shape.length c1,.slice a2 nd.lit.cells.length c2,.slice ak nd.kids.length ck,.int .i64 nd.pos]) (by simp [results,Try.results38,go_sem,Q0,Q1,Q2,Q3,Q4,Q5,Q6]) rfl (HFIN.out _ ?_)
     repeat' first | with_reducible exact But.refl _ _ | with_reducible rfl | with_reducible refine butS ?_ ?_
    | true=>
     have hlt:i' < ws.length:=by
      rcases Nat.lt_or_ge i' ws.length with hh | hh
      ·exact hh
      ·rw [drop_end (by omega)] at hT; cases hT
     have HRS2:=hide (show RES=((EF g e d).1 inn (ws.drop (i'+1))).bind fun q=>(closeS e sc q.2.1).bind fun r=>sqS g e (EF g e d).1 inn PL f (node 8 0 nost [nd,q.1] PL) r (orN nm' q.2.2) by rw [HRES.out,hsqr,hT,List.tail_drop]; simp)
     rw [hsqr] at c13 c13n
     rw [←hso,hT] at H1
     rw [hso] at H1
     go_upto_region 3 with fail
     go_quiet ((go_at_call 69; first | exact Calls.quiet_of_same (H1.out 0) | exact Calls.quiet_of_same (H1.out _)))
     go_upto_region 4 with fail
     obtain ⟨wq,hwq⟩:∃ wq,wr.drewN nq=wq:=⟨_,rfl⟩
     have bq:Below wr.heap.size wr wq:=by rw [←hwq]; exact HDW.out _
     rw [hwq]
     have HRQ:=HSQ.out.rd.next bq
     have hszr:=HSQ.out.but.size
     clear hwq c13 c13n c19 c19n H1 HDW HRES
     have rd3:=HRQ.move (i'+1) hlt
     have bm3:=HRQ.moved (i'+1)
     have hcast:((i'+1:Nat):Int)=(i':Int)+1:=by simp
     rw [hcast] at rd3 bm3
     obtain ⟨W3,hW3⟩:∃ W3,wq.setCell ⟨p,19,none⟩ (.int .i64 ((i':Int)+1))=W3:=⟨_,rfl⟩
     rw [hW3] at rd3 bm3
     have HE3:=hide hW3
     have b3:But (·=p) wr W3:=(But.of bq).trans bm3 fun j _ hj=>hj
     have HN3:Hid (inn=true→Nq W3 p q (orN nm nm')∧q < w.heap.size):=fun hin=>⟨((HSQ.out.nq hin).1.next bq).block bm3.size (bm3.block (by have:=((HSQ.out.nq hin).1.next bq).lt; omega) (by have:=(HSQ.out.nq hin).1.hp; omega)),(HSQ.out.nq hin).2⟩
     have HC:=hide (HIE.out W3 q (i'+1) inn (orN nm nm') rd3 (fun hin=>(HN3.out hin).1))
     rw [HNV.out] at HC
     have HB3:=hide b3
     have c19:=HRQ.c19
     have f19:=HRQ.fz
     clear hW3 bm3 rd3 HRQ hcast bq b3
     go_upto_region 5 with fail
     rw [HE3.out]
     clear c19 f19
     go_wp2_with fail
     refine HC.out.mono ?_
     rintro en w5 ⟨hbut,hres⟩
     clear HC
     have HBT:Hid (But (TT inn p q) wr w5):=(HB3.out.mono fun k hk=>Or.inl hk).trans hbut fun j _ hj=>hj
     have hnt:∀ k,w.heap.size≤k→¬ TT inn p q k:=fun k hk=>tt_no hpw HQ0.out hk
     cases hwd:(EF g e d).1 inn (ws.drop (i'+1)) with
     | bad er pl =>
      rw [hwd] at hres
      simp only at hres
      subst hres
      obtain rfl:RES=.bad er pl:=by rw [HRS2.out,hwd]; rfl
      go_wp2
      exact ⟨rfl,HSQ.out.but.trans HBT.out fun j _ hj=>hj,rfl⟩
     | stuck=>exact absurd hwd (HGE.out _).1
     | ok r =>
      obtain ⟨ne,rs,nm2⟩:=r
      have hlen:=((HGE.out _).2 _ hwd).len
      rw [hwd] at hres
      obtain ⟨v,m2,i2,rfl,hrs,hrd,htr,hnq⟩:=hres
      simp only at hrs hlen
      subst hrs
      have HTR:=hide htr
      obtain ⟨m',hm',b1,d1,b2,d2,bk,dk,rfl,-⟩:=htr.form
      obtain ⟨W6,hW6⟩:∃ W6,w5.alloc (.cells #[.int .i64 ne.kind,.int .i64 ne.op,.string ne.name,.slice b1 ne.lit.shape.length d1,.slice b2 ne.lit.cells.length d2,.slice bk ne.kids.length dk,.int .i64 ne.pos] 39)=W6:=⟨_,rfl⟩
      have b6:Below w5.heap.size w5 W6:=by rw [←hW6]; exact one_alloc _ _
      have s6:W6.heap.size=w5.heap.size+1:=by rw [←hW6]; simp
      have vn6:Vn W6 w5.heap.size ne.kind ne.op ne.name (.slice b1 ne.lit.shape.length d1) (.slice b2 ne.lit.cells.length d2) (.slice bk ne.kids.length dk) ne.pos:=by rw [←hW6]; exact Vn.new _ _ _ _ _ _ _ _
      have HCL:=hide (close70 (hrd.next b6) sc)
      have hsc:sc=⟨#[93]⟩:=rfl
      rw [hsc] at HCL
      have h5:=hbut.size
      have h3:=HB3.out.size
      have HE6:=hide hW6
      have HB6:=hide b6
      have HVE:=hide vn6
      have HNQ:=hide hnq
      clear hrd hnq htr b6 vn6 hbut hW6 hm'
      go_upto_region 6 with fail
      rw [HE6.out]
      go_wp2_with fail
      refine HCL.out.mono ?_
      rintro en w8 ⟨hb8,hres⟩
      clear HCL
      rw [←hsc] at hres
      have HT8:Hid (But (TT inn p q) wr w8):=(HBT.out.trans (But.of HB6.out) fun j _ hj=>hj).trans hb8 fun j _ hj=>Or.inl hj
      cases hcl:isT 6 sc (ws.drop i2) with
      | false =>
       rw [hcl] at hres
       simp only [Bool.false_eq_true,if_false] at hres
       subst hres
       obtain rfl:RES=.bad 2 (placeR e (ws.drop i2)):=by rw [HRS2.out,hwd]; simp [Rs.bind,closeS,hcl]
       go_wp2
       exact ⟨rfl,HSQ.out.but.trans HT8.out fun j _ hj=>hj,rfl⟩
      | true =>
       rw [hcl] at hres
       simp only [if_true] at hres
       obtain ⟨rfl,hi8,rd8⟩:=hres
       have HR3:=hide (show RES=sqS g e (EF g e d).1 inn PL f (node 8 0 nost [nd,ne] PL) (ws.drop (i2+1)) (orN nm' nm2) by rw [HRS2.out,hwd]; simp [Rs.bind,closeS,hcl])
       have h8:=hb8.size
       have vb8:Vn w8 bn nd.kind nd.op nd.name (.slice a1 nd.lit.shape.length c1) (.slice a2 nd.lit.cells.length c2) (.slice ak nd.kids.length ck) nd.pos:=HVN.out.but HT8.out (hnt _ (by omega))
       have ve8:Vn w8 w5.heap.size ne.kind ne.op ne.name (.slice b1 ne.lit.shape.length d1) (.slice b2 ne.lit.cells.length d2) (.slice bk ne.kids.length dk) ne.pos:=HVE.out.but hb8 (by omega)
       have fb8:∀ o,w8.frozen? ⟨bn,o,none⟩=false:=fun o=>(frozen_block (HT8.out.block HVN.out.lt (hnt _ (by omega))) o).trans (HSQ.out.fn o)
       have rv8:Rv w8 w.heap.size:=HSQ.out.rv.but HT8.out (hnt _ (Nat.le_refl _))
       have td8:TrD (n+1) w0.heap.size m D w8 nd (.agg #[.int .i64 nd.kind,.int .i64 nd.op,.string nd.name,.slice a1 nd.lit.shape.length c1,.slice a2 nd.lit.cells.length c2,.slice ak nd.kids.length ck,.int .i64 nd.pos]):=HSQ.out.tr.keep (KpD.but HT8.out (by omega) (fun k hk=>(HSQ.out.dd k hk).2.1) fun k hk=>⟨tt_ge hB0 (fun hin=>(HSQ.out.nq hin).1.hp) hk,fun hD=>hnt k (by have:=(HSQ.out.dd k hD).1; omega) hk⟩)
       have te8:TrD (n+1) w0.heap.size m2 (Iv W3.heap.size w5.heap.size) w8 ne (.agg #[.int .i64 ne.kind,.int .i64 ne.op,.string ne.name,.slice b1 ne.lit.shape.length d1,.slice b2 ne.lit.cells.length d2,.slice bk ne.kids.length dk,.int .i64 ne.pos]):=HTR.out.keep ((Kp.of HB6.out (by omega) (Nat.le_refl _)).trans (Kp.but hb8 (by omega) (by omega) fun k hk=>⟨by omega,Or.inl (by omega)⟩))
       obtain ⟨W9,hW9⟩:∃ W9,w8.alloc (.cells #[.int .i64 nd.kind,.int .i64 nd.op,.string nd.name,.slice a1 nd.lit.shape.length c1,.slice a2 nd.lit.cells.length c2,.slice ak nd.kids.length ck,.int .i64 nd.pos,.int .i64 ne.kind,.int .i64 ne.op,.string ne.name,.slice b1 ne.lit.shape.length d1,.slice b2 ne.lit.cells.length d2,.slice bk ne.kids.length dk,.int .i64 ne.pos] 39)=W9:=⟨_,rfl⟩
       have b9:Below w8.heap.size w8 W9:=by rw [←hW9]; exact one_alloc _ _
       have s9:W9.heap.size=w8.heap.size+1:=by rw [←hW9]; simp
       have hbl:=HVN.out.lt
       have hblr:=HT8.out.size
       have vb9:=vb8.block b9.size (b9.block bn (by omega))
       have fb9:∀ o,W9.frozen? ⟨bn,o,none⟩=false:=fun o=>(frozen_block (b9.block bn (by omega)) o).trans (fb8 o)
       have hmx1:m≤m+m2:=by omega
       have hmx2:m2≤m+m2:=by omega
       have hk9:=trk2 (B:=w0.heap.size) (n:=n+1) (m:=m+m2) (by omega) (fun k hk=>by have:=(HSQ.out.dd k hk).2.1; omega) (fun k hk=>by have:=hk.2; omega) (fun k hk hk2=>by have:=(HSQ.out.dd k hk).2.1; have:=hk2.1; omega) (td8.deep hmx1) (te8.deep hmx2) 39
       rw [hW9] at hk9
       have tp9:=TrD.put (ck:=2) 8 0 nost PL (Nat.zero_le _) (by simp) hk9
       have HND:Hid (∀ wf,But (·=bn) W9 wf→(∀ o,wf.frozen? ⟨bn,o,none⟩=false)→Sq n w0 w p q g R ws A e inn nm bn (i2+1) (node 8 0 nost [nd,ne] PL) (orN nm' nm2) (m+m2+1) (fun k=>D k ∨ Iv W3.heap.size w5.heap.size k ∨ k=w8.heap.size) (.agg #[.int .i64 8,.int .i64 0,.string ⟨#[]⟩,.slice none 0 0,.slice none 0 0,.slice (some ⟨w8.heap.size,0,none⟩) 2 2,.int .i64 PL]) wf):=fun wf hf hfz=>by
        have hk2:∀ k,(D k ∨ Iv W3.heap.size w5.heap.size k ∨ k=w8.heap.size)→w.heap.size < k∧k < W9.heap.size∧k ≠ bn:=fun k hk=>by
         rcases hk with hk | hk | hk
         ·have:=HSQ.out.dd k hk; omega
         ·have h1:=hk.1; have h2:=hk.2; omega
         ·omega
        refine ⟨((HSQ.out.but.trans HT8.out fun j _ hj=>hj).trans (But.of b9) fun j _ hj=>hj).trans hf fun j hj hh=>by omega,(rd8.next b9).upto (hf.below (by omega) fun k hk=>by omega),tp9.keep (KpD.but hf (by omega) (fun k hk=>(hk2 k hk).2.1) fun k hk=>⟨by omega,fun hh=>(hk2 k hh).2.2 hk⟩),fun k hk=>⟨(hk2 k hk).1,Nat.lt_of_lt_of_le (hk2 k hk).2.1 hf.size,(hk2 k hk).2.2⟩,?_,hfz,fun hin=>⟨?_,(HSQ.out.nq hin).2⟩⟩
        ·exact (rv8.block b9.size (b9.block _ rv8.lt)).but hf (by omega)
        ·have hq5:=HNQ.out hin
         have hq6:=hq5.next HB6.out
         have hq8:=hq6.block hb8.size (hb8.block hq6.lt (by have:=hq5.hp; omega))
         have hq9:=(hq8.next b9).block hf.size (hf.block (hq8.next b9).lt (by have:=(HSQ.out.nq hin).2; omega))
         rw [orN_assoc] at hq9
         exact hq9
       have hfl2:(ws.drop (i2+1)).length < f:=by rw [List.length_drop] at hlen hfl ⊢; rw [List.length_drop] at hlen; omega
       obtain ⟨-,x0,x1,x2,x3,x4,x5,x6⟩:=vb8
       obtain ⟨-,y0,y1,y2,y3,y4,y5,y6⟩:=ve8
       obtain ⟨-,u0,u1,u2,u3,u4,u5,u6⟩:=vb9
       have z0:=fb9 0
       have z1:=fb9 1
       have z2:=fb9 2
       have z3:=fb9 3
       have z4:=fb9 4
       have z5:=fb9 5
       have z6:=fb9 6
       have HFZ:=hide fb9
       have HI2:=hide hi8
       clear HSQ HVN HVE HTR HB6 HBT HT8 HNQ HB3 HN3 HIE HGE HRS2 hb8 rd8 rv8 td8 te8 b9 hk9 tp9 fb8 fb9 hnt HE6 HE3 hi8
       go_wp2
       go_roundg (ws.length+1 - (i2+1))
       case rel=>exact ⟨i2+1,f,node 8 0 nost [nd,ne] PL,orN nm' nm2,m+m2+1,_,none,0,none,0,some ⟨w8.heap.size,0,none⟩,2,rfl,HR3.out,hfl2,⟨by simp; omega,cs_off (by omega) (cs_off (by omega) (cs_off (by omega) (cs_off (by omega) (cs_off (by omega) (cs_off (by omega) (cs_same (u0))))))),cs_off (by omega) (cs_off (by omega) (cs_off (by omega) (cs_off (by omega) (cs_off (by omega) (cs_same (cs_off (by omega) (u1))))))),cs_off (by omega) (cs_off (by omega) (cs_off (by omega) (cs_off (by omega) (cs_same (cs_off (by omega) (cs_off (by omega) (u2))))))),cs_off (by omega) (cs_off (by omega) (cs_off (by omega) (cs_same (cs_off (by omega) (cs_off (by omega) (cs_off (by omega) (u3))))))),cs_off (by omega) (cs_off (by omega) (cs_same (cs_off (by omega) (cs_off (by omega) (cs_off (by omega) (cs_off (by omega) (u4))))))),cs_off (by omega) (cs_same (cs_off (by omega) (cs_off (by omega) (cs_off (by omega) (cs_off (by omega) (cs_off (by omega) (u5))))))),cs_same (cs_off (by omega) (cs_off (by omega) (cs_off (by omega) (cs_off (by omega) (cs_off (by omega) (cs_off (by omega) (u6)))))))⟩,HND.out _ (butS (butS (butS (butS (butS (butS (butS (But.refl _ _) rfl) rfl) rfl) rfl) rfl) rfl) rfl) (fun o=>fs_any (fs_any (fs_any (fs_any (fs_any (fs_any (fs_any (HFZ.out o))))))))⟩
       case measure=>have:=HI2.out; simp only [List.length_drop] at hlen; omega
end Go.Proofs.Ytnaejfoighmfeaa
namespace Go.Proofs.Ytnaejfoighmfeaa
open Go.ChangeShapes Go.WideShapes Go.ChangeAt Go.RowKit
set_option maxRecDepth 100000
set_option linter.unusedVariables false
set_option linter.unusedSimpArgs false
theorem kid_cells {m n lo:Nat} {w:World} {ks:List Nd} {ak:Option Addr} (h:KidsIn m n lo w ks ak) {j:Nat} (hj:j < ks.length) :
  ∃ b off K O S A1 L1 C1 A2 L2 C2 AK LK CK P,ak=some ⟨b,off,none⟩∧b < w.heap.size∧∀ wr,Below w.heap.size w wr→(wr.cell? ⟨b,off+j * 7,none⟩=some (.int .i64 K)∧wr.cell? ⟨b,off+j * 7+1,none⟩=some (.int .i64 O)∧wr.cell? ⟨b,off+j * 7+2,none⟩=some (.string S)∧wr.cell? ⟨b,off+j * 7+3,none⟩=some (.slice A1 L1 C1)∧wr.cell? ⟨b,off+j * 7+4,none⟩=some (.slice A2 L2 C2)∧wr.cell? ⟨b,off+j * 7+5,none⟩=some (.slice AK LK CK)∧wr.cell? ⟨b,off+j * 7+6,none⟩=some (.int .i64 P)) ∧
   NdIn m n lo wr (nAt ks j) (.agg #[.int .i64 K,.int .i64 O,.string S,.slice A1 L1 C1,.slice A2 L2 C2,.slice AK LK CK,.int .i64 P]):=by
 obtain ⟨b,off,d1,e1,d2,e2,dk,ek,ha,hlo,hb,hw⟩:=kid_at h hj
 exact ⟨b,off,_,_,_,d1,_,e1,d2,_,e2,dk,_,ek,_,ha,hb,hw⟩
theorem NdIn.letters {m n lo:Nat} {w:World} {x:Nd} {v:Value} (h:NdIn m n lo w x v) :
  ∃ m',m=m'+1∧∃ a1 c1 a2 c2 ak ck,v=.agg #[.int .i64 x.kind,.int .i64 x.op,.string x.name,.slice a1 x.lit.shape.length c1,.slice a2 x.lit.cells.length c2,.slice ak x.kids.length ck,.int .i64 x.pos]∧ArIn n lo w x.lit (.agg #[.slice a1 x.lit.shape.length c1,.slice a2 x.lit.cells.length c2])∧x.kids.length≤1256584717421∧x.name.size≤140737488355328∧KidsIn m' n lo w x.kids ak:=h.form
end Go.Proofs.Ytnaejfoighmfeaa
namespace Go.Proofs.Ytnaejfoighmfeaa
open Go.ChangeShapes Go.WideShapes Go.ChangeAt Go.RowKit
set_option maxRecDepth 100000
set_option linter.unusedVariables false
set_option linter.unusedSimpArgs false
set_option maxHeartbeats 8000000 in
theorem isRep40 {n n' m m2 i:Nat} {w0 w:World} {p:Nat} {g:Gr} {R:Raw} {ws:List Wo} {A:Ra} {e:Int} {x f:Nd} {vx vf:Value} (h:Rd n w0 w p g R ws A i e) (hx:NdIn m n' 0 w x vx) (hf:NdIn m2 n' 0 w f vf) (hk:f.kind=24→f.kids ≠ []) :
  Calls Try.prog 40 #[.pointer (some ⟨p,0,none⟩),vx,vf] w fun en w'=>en=.returned (.bool (repB g x f))∧Below w.heap.size w w':=by
 obtain ⟨m',-,a1,c1,a2,c2,ak,ck,rfl,-⟩:=hx.letters
 obtain ⟨m3,rfl,b1,d1,b2,d2,bk,dk,rfl,-,-,-,hK⟩:=hf.letters
 obtain ⟨W2,e2⟩:∃ W2,(w.alloc (.cells #[.int .i64 x.kind,.int .i64 x.op,.string x.name,.slice a1 x.lit.shape.length c1,.slice a2 x.lit.cells.length c2,.slice ak x.kids.length ck,.int .i64 x.pos] 39)).alloc (.cells #[.int .i64 f.kind,.int .i64 f.op,.string f.name,.slice b1 f.lit.shape.length d1,.slice b2 f.lit.cells.length d2,.slice bk f.kids.length dk,.int .i64 f.pos] 39)=W2:=⟨_,rfl⟩
 have B2:Below w.heap.size w W2:=by rw [←e2]; exact two_allocs _ _ _
 have c12:=(h.next B2).sp.sn.c12
 have q0:W2.cell? ⟨w.heap.size,0,none⟩=some (.int .i64 x.kind):=by rw [←e2]; exact cell_one (cell_new0 w _ 39 0 _ rfl) (by simp) _
 have cf:∀ o v,(#[.int .i64 f.kind,.int .i64 f.op,.string f.name,.slice b1 f.lit.shape.length d1,.slice b2 f.lit.cells.length d2,.slice bk f.kids.length dk,.int .i64 f.pos]:Array Value)[o]?=some v→W2.cell? ⟨w.heap.size+1,o,none⟩=some v:=fun o v ho=>by
  rw [←e2]
  have:=cell_new0 (w.alloc (.cells #[.int .i64 x.kind,.int .i64 x.op,.string x.name,.slice a1 x.lit.shape.length c1,.slice a2 x.lit.cells.length c2,.slice ak x.kids.length ck,.int .i64 x.pos] 39)) #[.int .i64 f.kind,.int .i64 f.op,.string f.name,.slice b1 f.lit.shape.length d1,.slice b2 f.lit.cells.length d2,.slice bk f.kids.length dk,.int .i64 f.pos] 39 o v ho
  rw [show (w.alloc (.cells #[.int .i64 x.kind,.int .i64 x.op,.string x.name,.slice a1 x.lit.shape.length c1,.slice a2 x.lit.cells.length c2,.slice ak x.kids.length ck,.int .i64 x.pos] 39)).heap.size=w.heap.size+1 by simp] at this
  exact this
 have f0:=cf 0 _ rfl
 have f2:=cf 2 _ rfl
 have f5:=cf 5 _ rfl
 have HE:=hide e2
 have HB:=hide B2
 have HK:=hide (show f.kind=24→∃ b off K,bk=some ⟨b,off,none⟩∧0 < f.kids.length∧(nAt f.kids 0).kind=K∧W2.cell? ⟨b,off,none⟩=some (.int .i64 K) from fun h24=>by
  have hl:0 < f.kids.length:=List.length_pos_iff.2 (hk h24)
  obtain ⟨b,off,u1,v1,u2,v2,uk,vk,ha,-,hb,hw⟩:=kid_at hK hl
  have:=(hw W2 B2).1.1
  simp only [Nat.zero_mul,Nat.add_zero] at this
  exact ⟨b,off,_,ha,hl,rfl,this⟩)
 clear hx hf hK hk h cf B2 e2
 unfold repB
 generalize x.kind=XK at *
 generalize x.op=XO at *
 generalize x.name=XN at *
 generalize x.pos=XP at *
 generalize x.lit.shape.length=XL at *
 generalize x.lit.cells.length=XM at *
 generalize x.kids.length=XQ at *
 cases hl:g.lone with
 | false =>
  rw [hl] at c12
  clear HK
  go_enter Try.func40,Try.ntmps40
  go_upto_region 1 with fail
  rw [HE.out]
  go_wp2
  go_ret
  exact ⟨retB (by simp),HB.out⟩
 | true =>
  rw [hl] at c12
  by_cases h1:XK=1
  ·subst h1
   by_cases h2:f.kind=24
   ·obtain ⟨b,off,K,rfl,hpos,hkk,hc⟩:=HK.out h2
    rw [hkk,h2]
    rw [h2] at f0 HE
    have hpos2:(0:Int) < (f.kids.length:Int):=by omega
    clear HK hkk
    generalize f.kids.length=FQ at *
    generalize f.name=FN at *
    cases h3:FN.toList == [47] with
    | false =>
     go_enter Try.func40,Try.ntmps40
     go_upto_region 1 with fail
     rw [HE.out]
     go_wp2
     go_ret
     exact ⟨retB (by simp),HB.out⟩
    | true =>
     by_cases h4:K=22
     ·subst h4
      go_enter Try.func40,Try.ntmps40
      go_upto_region 1 with fail
      rw [HE.out]
      go_wp2
      go_ret
      exact ⟨retB (by simp),HB.out⟩
     ·have k4:(K == 22)=false:=by simpa using h4
      go_enter Try.func40,Try.ntmps40
      go_upto_region 1 with fail
      rw [HE.out]
      go_wp2
      go_ret
      exact ⟨retB (by simp [h4]),HB.out⟩
   ·have k2:(f.kind == 24)=false:=by simpa using h2
    clear HK
    generalize f.kind=FK at *
    go_enter Try.func40,Try.ntmps40
    go_upto_region 1 with fail
    rw [HE.out]
    go_wp2
    go_ret
    exact ⟨retB (by simp [h2]),HB.out⟩
  ·have k1:(XK == 1)=false:=by simpa using h1
   clear HK
   go_enter Try.func40,Try.ntmps40
   go_upto_region 1 with fail
   rw [HE.out]
   go_wp2
   go_ret
   exact ⟨retB (by simp [h1]),HB.out⟩
set_option maxHeartbeats 8000000 in
theorem repeated41 {n B m m2:Nat} {w:World} {x f:Nd} {D E:Nat→Prop} {vx vf:Value} (hB:B≤w.heap.size) (hD:∀ k,D k→k < w.heap.size) (hE:∀ k,E k→k < w.heap.size) (hx:TrD (n+1) B m D w x vx) (hf:TrD (n+1) B m2 E w f vf) :
  Calls Try.prog 41 #[vx,vf] w fun en w'=>Below w.heap.size w w'∧if oftB x.lit then ∃ v,en=.returned v∧TrD (n+1) B m2 E w' (node 26 (oftN x.lit) nost f.kids f.pos) v else en=faultP 2 f.pos:=by
 obtain ⟨m',-,a1,c1,a2,c2,ak,ck,rfl,hLx,-⟩:=hx.form
 obtain ⟨m3,rfl,b1,d1,b2,d2,bk,dk,rfl,-,hlk,-,hK⟩:=hf.form
 obtain ⟨W3,e3⟩:∃ W3,((w.alloc (.cells #[.int .i64 x.kind,.int .i64 x.op,.string x.name,.slice a1 x.lit.shape.length c1,.slice a2 x.lit.cells.length c2,.slice ak x.kids.length ck,.int .i64 x.pos] 39)).alloc (.cells #[.int .i64 f.kind,.int .i64 f.op,.string f.name,.slice b1 f.lit.shape.length d1,.slice b2 f.lit.cells.length d2,.slice bk f.kids.length dk,.int .i64 f.pos] 39)).alloc (.cells #[.int .i64 0,.int .i64 0,.string ⟨#[]⟩,.slice none 0 0,.slice none 0 0,.slice none 0 0,.int .i64 0] 39)=W3:=⟨_,rfl⟩
 have B3:Below w.heap.size w W3:=by rw [←e3]; exact (two_allocs _ _ _).alloc (by simp; omega) _
 have s3:W3.heap.size=w.heap.size+1+1+1:=by rw [←e3]; simp
 have cx:∀ o v,(#[.int .i64 x.kind,.int .i64 x.op,.string x.name,.slice a1 x.lit.shape.length c1,.slice a2 x.lit.cells.length c2,.slice ak x.kids.length ck,.int .i64 x.pos]:Array Value)[o]?=some v→W3.cell? ⟨w.heap.size,o,none⟩=some v:=fun o v ho=>by
  rw [←e3]; exact cell_one (cell_one (cell_new0 w _ 39 o v ho) (by simp) _) (by simp; omega) _
 have cf:∀ o v,(#[.int .i64 f.kind,.int .i64 f.op,.string f.name,.slice b1 f.lit.shape.length d1,.slice b2 f.lit.cells.length d2,.slice bk f.kids.length dk,.int .i64 f.pos]:Array Value)[o]?=some v→W3.cell? ⟨w.heap.size+1,o,none⟩=some v:=fun o v ho=>by
  rw [←e3]
  have:=cell_new0 (w.alloc (.cells #[.int .i64 x.kind,.int .i64 x.op,.string x.name,.slice a1 x.lit.shape.length c1,.slice a2 x.lit.cells.length c2,.slice ak x.kids.length ck,.int .i64 x.pos] 39)) #[.int .i64 f.kind,.int .i64 f.op,.string f.name,.slice b1 f.lit.shape.length d1,.slice b2 f.lit.cells.length d2,.slice bk f.kids.length dk,.int .i64 f.pos] 39 o v ho
  rw [show (w.alloc (.cells #[.int .i64 x.kind,.int .i64 x.op,.string x.name,.slice a1 x.lit.shape.length c1,.slice a2 x.lit.cells.length c2,.slice ak x.kids.length ck,.int .i64 x.pos] 39)).heap.size=w.heap.size+1 by simp] at this
  exact cell_one this (by simp) _
 have rv3:Rv W3 (w.heap.size+1+1):=by
  rw [←e3]
  have:=Rv.new ((w.alloc (.cells #[.int .i64 x.kind,.int .i64 x.op,.string x.name,.slice a1 x.lit.shape.length c1,.slice a2 x.lit.cells.length c2,.slice ak x.kids.length ck,.int .i64 x.pos] 39)).alloc (.cells #[.int .i64 f.kind,.int .i64 f.op,.string f.name,.slice b1 f.lit.shape.length d1,.slice b2 f.lit.cells.length d2,.slice bk f.kids.length dk,.int .i64 f.pos] 39))
  rw [show ((w.alloc (.cells #[.int .i64 x.kind,.int .i64 x.op,.string x.name,.slice a1 x.lit.shape.length c1,.slice a2 x.lit.cells.length c2,.slice ak x.kids.length ck,.int .i64 x.pos] 39)).alloc (.cells #[.int .i64 f.kind,.int .i64 f.op,.string f.name,.slice b1 f.lit.shape.length d1,.slice b2 f.lit.cells.length d2,.slice bk f.kids.length dk,.int .i64 f.pos] 39)).heap.size=w.heap.size+1+1 by simp] at this
  exact this
 have HO:=hide (often71 (hLx W3 (KpD.of B3 hB hD)))
 have x3:=cx 3 _ rfl
 have x4:=cx 4 _ rfl
 have HCF:Hid (∀ W,Below W3.heap.size W3 W→W.cell? ⟨w.heap.size+1,5,none⟩=some (.slice bk f.kids.length dk)∧W.cell? ⟨w.heap.size+1,6,none⟩=some (.int .i64 f.pos)):=fun W hW=>⟨(hW.cell (p:=⟨w.heap.size+1,5,none⟩) (by show w.heap.size+1 < _; omega)).trans (cf 5 _ rfl),(hW.cell (p:=⟨w.heap.size+1,6,none⟩) (by show w.heap.size+1 < _; omega)).trans (cf 6 _ rfl)⟩
 have HRV3:Hid (∀ W,Below W3.heap.size W3 W→Rv W (w.heap.size+1+1)):=fun W hW=>rv3.block hW.size (hW.block _ rv3.lt)
 have HFIN:Hid (∀ W wf,Below W3.heap.size W3 W→But (·=w.heap.size+1+1) W wf→Below w.heap.size w wf∧∃ v,(Ending.returned (.agg #[.int .i64 26,.int .i64 (oftN x.lit),.string ⟨#[]⟩,.slice none 0 0,.slice none 0 0,.slice bk f.kids.length dk,.int .i64 f.pos]):Ending)=.returned v∧TrD (n+1) B (m3+1) E wf (node 26 (oftN x.lit) nost f.kids f.pos) v):=fun W wf hW hf2=>by
  have h1:Below w.heap.size w W:=B3.trans (hW.mono B3.size)
  have h2:Below w.heap.size w wf:=h1.trans (hf2.below (by have:=hW.size; omega) fun k hk=>by omega)
  have hk:KpD B E w wf:=KpD.of h2 hB hE
  exact ⟨h2,_,rfl,none,0,none,0,bk,dk,rfl,LitD.nil n B E wf,⟨hlk,Or.inr rfl⟩,Nat.zero_le _,hK.map hk.1.size hk.2 fun G y v h3 hP=>hP.keep (hk.less h3)⟩
 have HT:=hide (fun W=>throw42 2 f.pos W)
 have HE:=hide e3
 have HB3:=hide B3
 clear hx hf hLx hK cx cf B3 e3 rv3 hlk s3
 generalize x.lit.shape.length=XL at *
 generalize x.lit.cells.length=XM at *
 generalize oftN x.lit=ON at *
 cases hob:oftB x.lit with
 | true =>
  rw [hob] at HO
  simp only [if_true]
  go_enter Try.func41,Try.ntmps41
  go_upto_region 1 with fail
  rw [HE.out]
  go_wp2_with fail
  refine HO.out.mono ?_
  rintro en w5 ⟨rfl,hb5⟩
  clear HO x3 x4 HT
  obtain ⟨f5,f6⟩:=HCF.out _ hb5
  have RV:=HRV3.out _ hb5
  obtain ⟨r0,Q0⟩:=RV.c 0 (by omega)
  have F0:=RV.f 0
  obtain ⟨r1,Q1⟩:=RV.c 1 (by omega)
  have F1:=RV.f 1
  obtain ⟨r2,Q2⟩:=RV.c 2 (by omega)
  have F2:=RV.f 2
  obtain ⟨r3,Q3⟩:=RV.c 3 (by omega)
  have F3:=RV.f 3
  obtain ⟨r4,Q4⟩:=RV.c 4 (by omega)
  have F4:=RV.f 4
  obtain ⟨r5,Q5⟩:=RV.c 5 (by omega)
  have F5:=RV.f 5
  obtain ⟨r6,Q6⟩:=RV.c 6 (by omega)
  have F6:=RV.f 6
  have HF5:=hide (HFIN.out w5 · hb5)
  clear RV HRV3 HCF HFIN hb5
  go_wp2
  refine bodyPost_ret (v:=.agg #[.int .i64 26,.int .i64 ON,.string ⟨#[]⟩,.slice none 0 0,.slice none 0 0,.slice bk f.kids.length dk,.int .i64 f.pos]) (by simp [results,Try.results41,go_sem,Q0,Q1,Q2,Q3,Q4,Q5,Q6]) rfl (HF5.out _ ?_)
  repeat' first | with_reducible exact But.refl _ _ | with_reducible rfl | with_reducible refine butS ?_ ?_
 | false =>
  rw [hob] at HO
  simp only [Bool.false_eq_true,if_false]
  clear HFIN HRV3
  go_enter Try.func41,Try.ntmps41
  go_upto_region 1 with fail
  rw [HE.out]
  go_wp2_with fail
  refine HO.out.mono ?_
  rintro en w5 ⟨rfl,hb5⟩
  clear HO x3 x4
  obtain ⟨f5,f6⟩:=HCF.out _ hb5
  have HB5:=hide hb5
  go_wp2_with fail
  refine (HT.out _).mono ?_
  rintro en w6 ⟨rfl,rfl⟩
  go_wp2
  exact ⟨rfl,HB3.out.trans (HB5.out.mono HB3.out.size),rfl⟩
end Go.Proofs.Ytnaejfoighmfeaa
namespace Go.Proofs.Ytnaejfoighmfeaa
open Go.ChangeShapes Go.WideShapes Go.ChangeAt Go.RowKit
set_option maxRecDepth 100000
set_option linter.unusedVariables false
set_option linter.unusedSimpArgs false
abbrev faultC (er pl:Int):List PanicEntry:=[{ v:=.iface 28 (.agg #[.int .i64 er,.int .i64 pl,.int .i64 0]),recovered:=false }]
def OnlyP (c:List PanicEntry) (T:World→Prop):Exit→Act→World→Prop
 | .panic c',a,w=>a.defers=[]∧c'=c∧T w
 | _,_,_=>False
set_option maxHeartbeats 16000000 in
theorem expr_fun {n:Nat} {w0 w:World} {p q:Nat} {g:Gr} {R:Raw} {ws:List Wo} {A:Ra} {i:Nat} {e:Int} (d:Nat) (hd:d≤23) (IE:CE n w0 p g R ws A e d) (IF:CF n w0 p g R ws A e d) (h:Rd (n+1) w0 w p g R ws A i e) (inn:Bool) (nm:Nm) (hn:inn=true→Nq w p q nm) (hW:wholeR g false (ws.drop i) ≠ 0) :
  Calls Try.prog 21 #[.pointer (some ⟨p,0,none⟩),.int .i64 ((25 - (d+1):Nat):Int),namV inn q] w fun en w'=>GvE n w0 w p q g R ws A e inn nm ((EF g e (d+1)).1 inn (ws.drop i)) en w':=by
 have hb:(EF g e (d+1)).1 inn (ws.drop i)=((EF g e d).2 (ws.drop i)).bind fun f=>((EF g e d).1 inn f.2).bind fun x=>.ok (mo1 f.1 x.1,x.2.1,x.2.2):=by
  show exprS g e (EF g e d).1 (EF g e d).2 inn (ws.drop i)=_
  unfold exprS; rw [if_neg hW]
 obtain ⟨RES,hRES⟩:∃ RES,(EF g e (d+1)).1 inn (ws.drop i)=RES:=⟨_,rfl⟩
 rw [hRES]
 rw [hRES] at hb
 have HRES:=hide hb
 clear hb hRES
 obtain ⟨W1,e1⟩:∃ W1,w.alloc (.cells #[.int .i64 0,.int .i64 0,.string ⟨#[]⟩,.slice none 0 0,.slice none 0 0,.slice none 0 0,.int .i64 0] 39)=W1:=⟨_,rfl⟩
 have b1:Below w.heap.size w W1:=by rw [←e1]; exact one_alloc _ _
 have s1:W1.heap.size=w.heap.size+1:=by rw [←e1]; simp
 have rv1:Rv W1 w.heap.size:=by rw [←e1]; exact Rv.new w
 have hile:=h.hi
 have hL:=h.sp.sn.words
 have hpw:=h.sp.sn.hp2
 have hBw:=h.sp.sn.old.size
 have hB0:=h.sp.sn.hp
 have HEN:Hid (Calls Try.prog 33 #[.pointer (some ⟨p,0,none⟩),.int .i64 ((25 - (d+1):Nat):Int)] W1 fun en w'=>en=.returned (.tuple #[])∧Below W1.heap.size W1 w'):=hide ((enter33 (h.next b1) (d+1) (by omega)).mono fun en w' hh=>by
  rw [if_neg (by omega)] at hh; exact hh)
 have HRD:Hid (∀ W,Below W1.heap.size W1 W→Rd (n+1) w0 W p g R ws A i e):=fun W hW=>(h.next b1).next hW
 have HQ0:Hid (inn=true→q < w.heap.size):=fun hin=>(hn hin).lt
 have HNN:Hid (∀ W,Below W1.heap.size W1 W→inn=true→Nq W p q nm):=fun W hW hin=>((hn hin).next b1).next hW
 have HGE:=hide (fun l=>(EF_good g e d).1 inn l)
 have HGF:=hide ((EF_good g e d).2)
 have HE:=hide e1
 have HB1:=hide b1
 have HRV1:=hide rv1
 have HIE:=hide IE
 have HIF:=hide IF
 clear e1 h hn b1 rv1 IE IF
 obtain ⟨NV,hNV⟩:∃ NV,namV inn q=NV:=⟨_,rfl⟩
 rw [hNV]
 have HNV:=hide hNV
 clear hNV
 have hD1:IntKind.i64.wrap (((25 - (d+1):Nat):Int)+1)=((25 - d:Nat):Int):=(IntWalk.i64_in _ ⟨by omega,by omega⟩).trans (by omega)
 generalize ((25 - (d+1):Nat):Int)=DD at *
 go_enter Try.func21,Try.ntmps21
 go_upto_region 1 with fail
 rw [HE.out]
 go_wp2_with fail
 refine HEN.out.mono ?_
 rintro en w2 ⟨rfl,hb2⟩
 clear HEN HE
 have HBG:=hide (begins34 (HRD.out _ hb2) false)
 rw [show (!decide (wholeR g false (ws.drop i)=0))=true by simp [hW]] at HBG
 have HB2:=hide hb2
 clear hb2
 go_wp2_with fail
 refine HBG.out.mono ?_
 rintro en w3 ⟨rfl,k3,rfl⟩
 clear HBG
 have b3:Below W1.heap.size W1 (w2.drewN k3):=HB2.out.trans ((drewN_below (Below.refl w2.heap.size w2) k3).mono HB2.out.size)
 generalize w2.drewN k3=w3 at *
 have HB3:=hide b3
 have h3:=b3.size
 have HRV3:=hide (HRV1.out.block b3.size (b3.block _ HRV1.out.lt))
 have HT3:Hid (But (TT inn p q) w w3):=But.of (HB1.out.trans (b3.mono HB1.out.size))
 clear b3 HRV1 HB2
 have HC:=hide (HIF.out w3 i false (HRD.out _ HB3.out) hW)
 have hgf:=HGF.out false (ws.drop i) hW
 go_wp2_with fail
 refine HC.out.mono ?_
 rintro en w5 ⟨hbut,hres⟩
 clear HC
 have h5:=hbut.size
 have HT5:Hid (But (TT inn p q) w w5):=HT3.out.trans hbut fun j _ hj=>Or.inl hj
 have rv5:Rv w5 w.heap.size:=HRV3.out.but hbut (by omega)
 cases hwf:(EF g e d).2 (ws.drop i) with
 | bad er pl =>
  rw [hwf] at hres
  simp only at hres
  subst hres
  obtain rfl:RES=.bad er pl:=by rw [HRES.out,hwf]; rfl
  go_wp2
  exact ⟨rfl,HT5.out,rfl⟩
 | stuck=>exact absurd hwf hgf.1
 | ok r =>
  obtain ⟨nf,rs⟩:=r
  rw [hwf] at hres
  obtain ⟨v,m1,i1,rfl,hrs,hrd,htr⟩:=hres
  simp only at hrs
  subst hrs
  have HTF:=hide htr
  obtain ⟨m',hm',a1,c1,a2,c2,ak,ck,rfl,-⟩:=htr.form
  obtain ⟨W6,hW6⟩:∃ W6,w5.alloc (.cells #[.int .i64 nf.kind,.int .i64 nf.op,.string nf.name,.slice a1 nf.lit.shape.length c1,.slice a2 nf.lit.cells.length c2,.slice ak nf.kids.length ck,.int .i64 nf.pos] 39)=W6:=⟨_,rfl⟩
  have b6:Below w5.heap.size w5 W6:=by rw [←hW6]; exact one_alloc _ _
  have s6:W6.heap.size=w5.heap.size+1:=by rw [←hW6]; simp
  have vn6:Vn W6 w5.heap.size nf.kind nf.op nf.name (.slice a1 nf.lit.shape.length c1) (.slice a2 nf.lit.cells.length c2) (.slice ak nf.kids.length ck) nf.pos:=by rw [←hW6]; exact Vn.new _ _ _ _ _ _ _ _
  have HNQ6:Hid (inn=true→Nq W6 p q nm):=fun hin=>by
   have h0:=HNN.out _ HB3.out hin
   exact (h0.block hbut.size (hbut.block h0.lt (by have:=h0.hp; omega))).next b6
  have HT6:Hid (But (TT inn p q) w W6):=HT5.out.trans (But.of b6) fun j _ hj=>hj
  have HRV6:=hide (rv5.block b6.size (b6.block _ rv5.lt))
  have HR6:=hide (hrd.next b6)
  have HTF6:=hide (HTF.out.keep (Kp.of b6 (by omega) (Nat.le_refl _)))
  have HE6:=hide hW6
  have HVN6:=hide vn6
  clear hrd htr b6 vn6 hbut rv5 hW6 hm' HTF HT5 HT3 HRV3 HNN HRD HIF hgf HGF
  have HC4:Hid (Calls Try.prog 21 #[.pointer (some ⟨p,0,none⟩),.int .i64 ((25 - d:Nat):Int),NV] W6.drew fun en w'=>GvE n w0 W6.drew p q g R ws A e inn nm ((EF g e d).1 inn (ws.drop i1)) en w'):=by
   have bk:Below W6.heap.size W6 W6.drew:=(Below.refl W6.heap.size W6).drew
   have:=HIE.out W6.drew q i1 inn nm (HR6.out.next bk) (fun hin=>(HNQ6.out hin).next bk)
   rw [HNV.out] at this
   exact this
  have hge:=HGE.out (ws.drop i1)
  have KS:Hid (∀ W,Vn W w5.heap.size nf.kind nf.op nf.name (.slice a1 nf.lit.shape.length c1) (.slice a2 nf.lit.cells.length c2) (.slice ak nf.kids.length ck) nf.pos→W.cell? ⟨w5.heap.size,0,none⟩=some (.int .i64 nf.kind)∧W.cell? ⟨w5.heap.size,1,none⟩=some (.int .i64 nf.op)∧W.cell? ⟨w5.heap.size,2,none⟩=some (.string nf.name)∧W.cell? ⟨w5.heap.size,3,none⟩=some (.slice a1 nf.lit.shape.length c1)∧W.cell? ⟨w5.heap.size,4,none⟩=some (.slice a2 nf.lit.cells.length c2)∧W.cell? ⟨w5.heap.size,5,none⟩=some (.slice ak nf.kids.length ck)∧W.cell? ⟨w5.heap.size,6,none⟩=some (.int .i64 nf.pos)):=fun W hV=>⟨hV.c0,hV.c1,hV.c2,hV.c3,hV.c4,hV.c5,hV.c6⟩
  have HV0:Hid (Vn W6.drew w5.heap.size nf.kind nf.op nf.name (.slice a1 nf.lit.shape.length c1) (.slice a2 nf.lit.cells.length c2) (.slice ak nf.kids.length ck) nf.pos):=HVN6.out.block (Nat.le_refl _) rfl
  have HNT:Hid (∀ k,w.heap.size≤k→¬ TT inn p q k):=fun k hk=>tt_no hpw HQ0.out hk
  go_upto_region 4 with fail
  rw [HE6.out]
  clear HE6 HR6 HIE HGE
  obtain ⟨x0,x1,x2,x3,x4,x5,x6⟩:=KS.out _ HVN6.out
  cases hwx:(EF g e d).1 inn (ws.drop i1) with
  | stuck=>exact absurd hwx hge.1
  | bad er pl =>
   rw [hwx] at HC4
   obtain rfl:RES=.bad er pl:=by rw [HRES.out,hwf]; simp [Rs.bind,hwx]
   have HP7:Hid (∀ w7,But (TT inn p q) W6.drew w7→But (TT inn p q) w w7):=fun w7 hb7=>(HT6.out.trans (But.of ((Below.refl W6.heap.size W6).drew)) fun j _ hj=>hj).trans hb7 fun j _ hj=>hj
   refine Code.wp_mono (Q:=OnlyP (faultC er pl) fun w7=>But (TT inn p q) W6.drew w7) ?_ ?_
   ·intro ex a w7 hh
    cases ex <;> first | exact hh.elim | (obtain ⟨ha,rfl,hb7⟩:=hh; exact ⟨ha,HP7.out _ hb7,rfl⟩)
   ·refine wp_region_held (S:=fun W=>W=W6.drew) (Eq.refl true) ?_
    refine wpAnyH_take (i:=0) (v:=.agg #[.int .i64 nf.kind,.int .i64 nf.op,.string nf.name,.slice a1 nf.lit.shape.length c1,.slice a2 nf.lit.cells.length c2,.slice ak nf.kids.length ck,.int .i64 nf.pos]) rfl (by kernel_rfl) (by kernel_rfl) (by kernel_rfl) (fun _ _ _ hh=>hh) (Or.inl ⟨rfl,fun W hW=>?_⟩) rfl ?_
    ·subst hW
     go_simp
    refine wpAnyH_take (i:=1) (v:=.pointer (some ⟨p,0,none⟩)) rfl (by kernel_rfl) (by kernel_rfl) (by kernel_rfl) (fun _ _ _ hh=>hh) (Or.inl ⟨rfl,fun W hW=>?_⟩) rfl ?_
    ·subst hW
     go_simp
    refine wpAnyH_take (i:=2) (v:=.int .i64 DD) rfl (by kernel_rfl) (by kernel_rfl) (by kernel_rfl) (fun _ _ _ hh=>hh) (Or.inl ⟨rfl,fun W hW=>?_⟩) rfl ?_
    ·subst hW
     go_simp
    refine wpAnyH_take (i:=3) (v:=.int .i64 ((25 - d:Nat):Int)) rfl (by kernel_rfl) (by kernel_rfl) (by kernel_rfl) (fun _ _ _ hh=>hh) (Or.inl ⟨rfl,fun W hW=>?_⟩) rfl ?_
    ·subst hW
     go_simp
    refine wpAnyH_take (i:=4) (v:=NV) rfl (by kernel_rfl) (by kernel_rfl) (by kernel_rfl) (fun _ _ _ hh=>hh) (Or.inl ⟨rfl,fun W hW=>?_⟩) rfl ?_
    ·subst hW
     go_simp
    refine wpAnyH_all (rs:=[5]) (by kernel_rfl) (by simp) fun i hi=>?_
    have hi5:i=5:=by simpa using hi
    subst hi5
    refine Or.inl ?_
    unfold Oper.wp
    go_simp
    refine HC4.out.mono ?_
    rintro en w7 ⟨hb7,hres⟩
    simp only at hres
    subst hres
    exact ⟨rfl,rfl,hb7⟩
  | ok rx =>
   obtain ⟨nx,rs,nm2⟩:=rx
   rw [hwx] at HC4
   have HR5:=hide (show RES=.ok (mo1 nf nx,rs,nm2) by rw [HRES.out,hwf]; simp [Rs.bind,hwx])
   have HC4':Hid (Calls Try.prog 21 #[.pointer (some ⟨p,0,none⟩),.int .i64 ((25 - d:Nat):Int),NV] W6.drew fun en w'=>∃ m2 i2 b1 d1 b2 d2 bk dk,en=.returned (.agg #[.int .i64 nx.kind,.int .i64 nx.op,.string nx.name,.slice b1 nx.lit.shape.length d1,.slice b2 nx.lit.cells.length d2,.slice bk nx.kids.length dk,.int .i64 nx.pos])∧(But (TT inn p q) W6.drew w'∧rs=ws.drop i2∧Rd (n+1) w0 w' p g R ws A i2 e∧Tr (n+1) w0.heap.size m2 W6.drew.heap.size w'.heap.size w' nx (.agg #[.int .i64 nx.kind,.int .i64 nx.op,.string nx.name,.slice b1 nx.lit.shape.length d1,.slice b2 nx.lit.cells.length d2,.slice bk nx.kids.length dk,.int .i64 nx.pos])∧(inn=true→Nq w' p q (orN nm nm2)))∧Vn w' w5.heap.size nf.kind nf.op nf.name (.slice a1 nf.lit.shape.length c1) (.slice a2 nf.lit.cells.length c2) (.slice ak nf.kids.length ck) nf.pos):=HC4.out.mono fun en w' hh=>by
    obtain ⟨hb7,v,m2,i2,rfl,hrs,hrd,htr,hnq⟩:=hh
    have hT:=htr
    obtain ⟨m',hm',b1,d1,b2,d2,bk,dk,rfl,-⟩:=htr.form
    exact ⟨m2,i2,b1,d1,b2,d2,bk,dk,rfl,⟨hb7,hrs,hrd,hT,hnq⟩,HV0.out.but hb7 (HNT.out _ (by omega))⟩
   have H36:Hid (∀ (w7:World) m2 i2 b1 d1 b2 d2 bk dk,(But (TT inn p q) W6.drew w7∧rs=ws.drop i2∧Rd (n+1) w0 w7 p g R ws A i2 e∧Tr (n+1) w0.heap.size m2 W6.drew.heap.size w7.heap.size w7 nx (.agg #[.int .i64 nx.kind,.int .i64 nx.op,.string nx.name,.slice b1 nx.lit.shape.length d1,.slice b2 nx.lit.cells.length d2,.slice bk nx.kids.length dk,.int .i64 nx.pos])∧(inn=true→Nq w7 p q (orN nm nm2)))→Calls Try.prog 36 #[.agg #[.int .i64 nf.kind,.int .i64 nf.op,.string nf.name,.slice a1 nf.lit.shape.length c1,.slice a2 nf.lit.cells.length c2,.slice ak nf.kids.length ck,.int .i64 nf.pos],.agg #[.int .i64 nx.kind,.int .i64 nx.op,.string nx.name,.slice b1 nx.lit.shape.length d1,.slice b2 nx.lit.cells.length d2,.slice bk nx.kids.length dk,.int .i64 nx.pos]] w7 fun en w'=>∃ g1 h1 g2 h2 gk hk,en=.returned (.agg #[.int .i64 (mo1 nf nx).kind,.int .i64 (mo1 nf nx).op,.string (mo1 nf nx).name,.slice g1 (mo1 nf nx).lit.shape.length h1,.slice g2 (mo1 nf nx).lit.cells.length h2,.slice gk (mo1 nf nx).kids.length hk,.int .i64 (mo1 nf nx).pos])∧(∀ wf,But (·=w.heap.size) w' wf→GvE n w0 w p q g R ws A e inn nm (.ok (mo1 nf nx,rs,nm2)) (.returned (.agg #[.int .i64 (mo1 nf nx).kind,.int .i64 (mo1 nf nx).op,.string (mo1 nf nx).name,.slice g1 (mo1 nf nx).lit.shape.length h1,.slice g2 (mo1 nf nx).lit.cells.length h2,.slice gk (mo1 nf nx).kids.length hk,.int .i64 (mo1 nf nx).pos])) wf)∧Vn w' w5.heap.size nf.kind nf.op nf.name (.slice a1 nf.lit.shape.length c1) (.slice a2 nf.lit.cells.length c2) (.slice ak nf.kids.length ck) nf.pos∧Rv w' w.heap.size):=fun w7 m2 i2 b1 d1 b2 d2 bk dk hh=>by
    obtain ⟨hb7,hrs,hrd,htr,hnq⟩:=hh
    have h7:=hb7.size
    have hs6:W6.drew.heap.size=w5.heap.size+1:=s6
    have hD6:But (TT inn p q) W6 w7:=(But.of ((Below.refl W6.heap.size W6).drew)).trans hb7 fun j _ hj=>hj
    have tf7:TrD (n+1) w0.heap.size m1 (Iv w3.heap.size w5.heap.size) w7 nf (.agg #[.int .i64 nf.kind,.int .i64 nf.op,.string nf.name,.slice a1 nf.lit.shape.length c1,.slice a2 nf.lit.cells.length c2,.slice ak nf.kids.length ck,.int .i64 nf.pos]):=HTF6.out.keep (Kp.but hD6 (by omega) (by omega) fun k hk=>⟨tt_ge hB0 (fun hin=>(HNQ6.out hin).hp) hk,by rcases Nat.lt_or_ge k w3.heap.size with hh | hh; exact Or.inl hh; exact absurd hk (HNT.out k (by omega))⟩)
    refine (call36 (m:=m1+m2) (by omega) (fun k hk=>by have:=hk.2; omega) (fun k hk=>hk.2) (fun k hk hk2=>by have:=hk.2; have:=hk2.1; omega) (tf7.deep (by omega)) (htr.deep (by omega))).mono fun en w' hh=>?_
    obtain ⟨⟨v,rfl,htm⟩,hb8⟩:=hh
    have hTM:=htm
    obtain ⟨m',hm',g1,h1,g2,h2,gk,hk,rfl,-⟩:=htm.form
    have h8:=hb8.size
    refine ⟨g1,h1,g2,h2,gk,hk,rfl,fun wf hf=>?_,((HV0.out.but hb7 (HNT.out _ (by omega))).block hb8.size (hb8.block _ (by omega))),?_⟩
    ·refine gv_fin (lo:=w.heap.size+1) (hi:=w'.heap.size) (r:=(mo1 nf nx,rs,nm2)) ((HT6.out.trans hD6 fun j _ hj=>hj).trans (But.of hb8) fun j _ hj=>hj) (hrd.next hb8) hrs (TrD.wide hTM fun k hk=>?_) (Nat.lt_succ_self _) (Nat.le_refl _) (fun hin=>⟨(hnq hin).next hb8,HQ0.out hin⟩) hpw hBw hf
     rcases hk with hk | hk | hk
     ·have:=hk.1; have:=hk.2; exact ⟨by omega,by omega⟩
     ·have:=hk.1; have:=hk.2; exact ⟨by omega,by omega⟩
     ·have:=hk.1; have:=hk.2; exact ⟨by omega,by omega⟩
    ·exact (HRV6.out.but hD6 (HNT.out _ (Nat.le_refl _))).block hb8.size (hb8.block _ (by have:=HRV6.out.lt; omega))
   have KT:Hid (∀ X u0 u1 u2 u3 u4 u5 u6,Vn X w5.heap.size nf.kind nf.op nf.name (.slice a1 nf.lit.shape.length c1) (.slice a2 nf.lit.cells.length c2) (.slice ak nf.kids.length ck) nf.pos→Vn (((((((X.setCell ⟨w.heap.size,0,none⟩ u0).setCell ⟨w.heap.size,1,none⟩ u1).setCell ⟨w.heap.size,2,none⟩ u2).setCell ⟨w.heap.size,3,none⟩ u3).setCell ⟨w.heap.size,4,none⟩ u4).setCell ⟨w.heap.size,5,none⟩ u5).setCell ⟨w.heap.size,6,none⟩ u6) w5.heap.size nf.kind nf.op nf.name (.slice a1 nf.lit.shape.length c1) (.slice a2 nf.lit.cells.length c2) (.slice ak nf.kids.length ck) nf.pos):=fun X u0 u1 u2 u3 u4 u5 u6 hV=>hV.but (T:=(·=w.heap.size)) (butS (butS (butS (butS (butS (butS (butS (But.refl _ _) rfl) rfl) rfl) rfl) rfl) rfl) rfl) (by omega)
   clear HC4 HTF6 HNQ6 HT6 HRV6 hge HVN6
   have hR:=HR5.out
   subst hR
   go_region_held3 (fun W=>W.cell? ⟨w5.heap.size,0,none⟩=some (.int .i64 nf.kind)∧W.cell? ⟨w5.heap.size,1,none⟩=some (.int .i64 nf.op)∧W.cell? ⟨w5.heap.size,2,none⟩=some (.string nf.name)∧W.cell? ⟨w5.heap.size,3,none⟩=some (.slice a1 nf.lit.shape.length c1)∧W.cell? ⟨w5.heap.size,4,none⟩=some (.slice a2 nf.lit.cells.length c2)∧W.cell? ⟨w5.heap.size,5,none⟩=some (.slice ak nf.kids.length ck)∧W.cell? ⟨w5.heap.size,6,none⟩=some (.int .i64 nf.pos)) (first | with_reducible exact KS.out _ HV0.out | with_reducible exact KS.out _ (by with_reducible assumption) | with_reducible exact KS.out _ (KT.out _ _ _ _ _ _ _ _ (by with_reducible assumption))) (first | (go_at_call 21; refine HC4'.out.mono ?_; rintro en w7 ⟨m2,i2,b1,d1,b2,d2,bk,dk,rfl,hx7,hv7⟩) | (go_at_call 36; refine (H36.out _ _ _ _ _ _ _ _ _ hx7).mono ?_; rintro en w8 ⟨g1,h1,g2,h2,gk,hk,rfl,hF8,hv8,RV8⟩; obtain ⟨r0,Q0⟩:=RV8.c 0 (by omega); have F0:=RV8.f 0; obtain ⟨r1,Q1⟩:=RV8.c 1 (by omega); have F1:=RV8.f 1; obtain ⟨r2,Q2⟩:=RV8.c 2 (by omega); have F2:=RV8.f 2; obtain ⟨r3,Q3⟩:=RV8.c 3 (by omega); have F3:=RV8.f 3; obtain ⟨r4,Q4⟩:=RV8.c 4 (by omega); have F4:=RV8.f 4; obtain ⟨r5,Q5⟩:=RV8.c 5 (by omega); have F5:=RV8.f 5; obtain ⟨r6,Q6⟩:=RV8.c 6 (by omega); have F6:=RV8.f 6))
   all_goals
    have HF8:=hide hF8
    clear hF8 hx7 RV8
    go_wp2
    refine bodyPost_ret (v:=.agg #[.int .i64 (mo1 nf nx).kind,.int .i64 (mo1 nf nx).op,.string (mo1 nf nx).name,.slice g1 (mo1 nf nx).lit.shape.length h1,.slice g2 (mo1 nf nx).lit.cells.length h2,.slice gk (mo1 nf nx).kids.length hk,.int .i64 (mo1 nf nx).pos]) (by simp [results,Try.results21,go_sem,Q0,Q1,Q2,Q3,Q4,Q5,Q6]) rfl (HF8.out _ ?_)
    repeat' first | with_reducible exact But.refl _ _ | with_reducible rfl | with_reducible refine butS ?_ ?_
end Go.Proofs.Ytnaejfoighmfeaa
namespace Go.Proofs.Ytnaejfoighmfeaa
open Go.ChangeShapes Go.WideShapes Go.ChangeAt Go.RowKit
set_option maxRecDepth 100000
set_option linter.unusedVariables false
def P24 (x:Nd):Prop:=x.kind=24→x.kids ≠ []
def K24 (F:FT):Prop:=∀ l q,F l=.ok q→P24 q.1
theorem adv24 (g:Gr) (p:Int) (f:Nd) (l:List Wo) (h:P24 f):P24 (advR g p f l).1:=by
 induction f,l using advR.induct g p with
 | case1 f=>exact h
 | case2 f x h1=>simp only [advR,h1,if_true]; intro _; simp [node,Nd.kids]
 | case3 f x h1=>simp only [advR,h1]; exact h
 | case4 f x y r h1 ih=>simp only [advR,h1,if_true]; exact ih (fun _=>by simp [node,Nd.kids])
 | case5 f x y r h1 h2 ih=>simp only [advR,h1,h2,if_true]; exact ih (fun _=>by simp [node,Nd.kids])
 | case6 f x y r h1 h2=>simp only [advR,h1,h2]; exact h
theorem trS24 {F:FT} (hF:K24 F) (f:Nat) (ps:List Nd) (l:List Wo) (q:List Nd × List Wo) (h:trS F f ps l=.ok q) (hp:∀ x ∈ ps,P24 x):∀ x ∈ q.1,P24 x:=by
 induction f generalizing ps l with
 | zero=>cases h
 | succ f ih =>
  simp only [trS] at h
  split at h
  ·cases l with
   | nil=>cases h
   | cons x r=>cases h; exact hp
  ·obtain ⟨a,h1,h⟩:=Rs.bind_ok h
   refine ih _ _ h fun x hx=>?_
   rcases List.mem_append.1 hx with hx | hx
   ·exact hp x hx
   ·rw [List.mem_singleton.1 hx]; exact hF _ _ h1
theorem stemS24 {g:Gr} {e:Int} {E:ET} {F:FT} (hF:K24 F):K24 (stemS g e E F):=by
 intro l q h
 unfold stemS at h
 split at h
 ·unfold textS at h
  obtain ⟨a,h1,h⟩:=Rs.bind_ok h
  obtain ⟨r',h2,h⟩:=Rs.bind_ok h
  split at h
  ·cases h; intro hk; simp [node,Nd.kind] at hk
  split at h
  ·cases h
  ·cases h; intro hk; simp [node,Nd.kind] at hk
 split at h
 ·unfold trainS at h
  obtain ⟨a,h1,h⟩:=Rs.bind_ok h
  cases h
  have T:=trS24 hF _ _ _ _ h1 (fun x hx=>by cases hx)
  simp only [trainN]
  split
  ·rename_i h3
   match h4:a.1,h3 with
   | [y],_=>rw [h4] at T; exact T y (by simp)
  split
  ·intro hk; simp [node,Nd.kind] at hk
  ·intro hk; simp [node,Nd.kind] at hk
 cases l with
 | nil=>cases h
 | cons x r=>cases h; intro hk; simp [node,Nd.kind] at hk
theorem EF24 (g:Gr) (e:Int) (d:Nat):K24 (EF g e d).2:=by
 induction d with
 | zero=>exact fun l q h=>by cases h
 | succ d ih =>
  intro l q h
  have h':funS g e (EF g e d).1 (EF g e d).2 l=.ok q:=h
  unfold funS at h'
  obtain ⟨a,h1,h2⟩:=Rs.bind_ok h'
  cases h2
  refine adv24 g _ _ _ ?_
  split
  ·intro hk; simp [node,Nd.kind] at hk
  ·exact stemS24 ih _ _ h1
end Go.Proofs.Ytnaejfoighmfeaa
namespace Go.Proofs.Ytnaejfoighmfeaa
open Go.ChangeShapes Go.WideShapes Go.ChangeAt Go.RowKit
set_option maxRecDepth 100000
set_option linter.unusedVariables false
set_option linter.unusedSimpArgs false
theorem trk3 {n B m:Nat} {D E G:Nat→Prop} {w:World} {x y z:Nd} {a1 a2 ak b1 b2 bk g1 g2 gk:Option Addr} {c1 c2 ck d1 d2 dk k1 k2 kk:Nat} (hB:B≤w.heap.size) (hD:∀ k,D k→k < w.heap.size) (hE:∀ k,E k→k < w.heap.size) (hG:∀ k,G k→k < w.heap.size) (hDE:∀ k,D k→¬ E k) (hDG:∀ k,D k→¬ G k) (hEG:∀ k,E k→¬ G k)
  (hx:TrD n B m D w x (.agg #[.int .i64 x.kind,.int .i64 x.op,.string x.name,.slice a1 x.lit.shape.length c1,.slice a2 x.lit.cells.length c2,.slice ak x.kids.length ck,.int .i64 x.pos])) (hy:TrD n B m E w y (.agg #[.int .i64 y.kind,.int .i64 y.op,.string y.name,.slice b1 y.lit.shape.length d1,.slice b2 y.lit.cells.length d2,.slice bk y.kids.length dk,.int .i64 y.pos])) (hz:TrD n B m G w z (.agg #[.int .i64 z.kind,.int .i64 z.op,.string z.name,.slice g1 z.lit.shape.length k1,.slice g2 z.lit.cells.length k2,.slice gk z.kids.length kk,.int .i64 z.pos])) (t:TypeId) :
  TrK (TrD n B m) (fun k=>D k ∨ E k ∨ G k ∨ k=w.heap.size) (w.alloc (.cells #[.int .i64 x.kind,.int .i64 x.op,.string x.name,.slice a1 x.lit.shape.length c1,.slice a2 x.lit.cells.length c2,.slice ak x.kids.length ck,.int .i64 x.pos,.int .i64 y.kind,.int .i64 y.op,.string y.name,.slice b1 y.lit.shape.length d1,.slice b2 y.lit.cells.length d2,.slice bk y.kids.length dk,.int .i64 y.pos,.int .i64 z.kind,.int .i64 z.op,.string z.name,.slice g1 z.lit.shape.length k1,.slice g2 z.lit.cells.length k2,.slice gk z.kids.length kk,.int .i64 z.pos] t)) [x,y,z] (some ⟨w.heap.size,0,none⟩):=by
 have hb:=one_alloc w (.cells #[.int .i64 x.kind,.int .i64 x.op,.string x.name,.slice a1 x.lit.shape.length c1,.slice a2 x.lit.cells.length c2,.slice ak x.kids.length ck,.int .i64 x.pos,.int .i64 y.kind,.int .i64 y.op,.string y.name,.slice b1 y.lit.shape.length d1,.slice b2 y.lit.cells.length d2,.slice bk y.kids.length dk,.int .i64 y.pos,.int .i64 z.kind,.int .i64 z.op,.string z.name,.slice g1 z.lit.shape.length k1,.slice g2 z.lit.cells.length k2,.slice gk z.kids.length kk,.int .i64 z.pos] t)
 refine Or.inr ⟨w.heap.size,fun j=>if j=0 then D else if j=1 then E else G,rfl,Or.inr (Or.inr (Or.inr rfl)),by simp,fun o=>frozen_new _ _ _ _,fun j hj=>?_,fun j hj=>?_⟩
 ·have hj3:j=0 ∨ j=1 ∨ j=2:=by simp at hj; omega
  refine ⟨fun k hk=>?_,fun i hi hij k hk hk2=>?_⟩
  ·rcases hj3 with rfl | rfl | rfl
   ·exact ⟨Or.inl hk,by have:=hD k hk; omega⟩
   ·exact ⟨Or.inr (Or.inl hk),by have:=hE k hk; omega⟩
   ·exact ⟨Or.inr (Or.inr (Or.inl hk)),by have:=hG k hk; omega⟩
  ·have hi3:i=0 ∨ i=1 ∨ i=2:=by simp at hi; omega
   rcases hj3 with rfl | rfl | rfl <;> rcases hi3 with rfl | rfl | rfl
   ·exact hij rfl
   ·exact hDE k hk2 hk
   ·exact hDG k hk2 hk
   ·exact hDE k hk hk2
   ·exact hij rfl
   ·exact hEG k hk2 hk
   ·exact hDG k hk hk2
   ·exact hEG k hk hk2
   ·exact hij rfl
 ·have hj3:j=0 ∨ j=1 ∨ j=2:=by simp at hj; omega
  rcases hj3 with rfl | rfl | rfl
  ·exact ⟨a1,c1,a2,c2,ak,ck,⟨cell_new0 w _ t 0 _ rfl,cell_new0 w _ t 1 _ rfl,cell_new0 w _ t 2 _ rfl,cell_new0 w _ t 3 _ rfl,cell_new0 w _ t 4 _ rfl,cell_new0 w _ t 5 _ rfl,cell_new0 w _ t 6 _ rfl⟩,hx.keep (KpD.of hb hB hD)⟩
  ·exact ⟨b1,d1,b2,d2,bk,dk,⟨cell_new0 w _ t 7 _ rfl,cell_new0 w _ t 8 _ rfl,cell_new0 w _ t 9 _ rfl,cell_new0 w _ t 10 _ rfl,cell_new0 w _ t 11 _ rfl,cell_new0 w _ t 12 _ rfl,cell_new0 w _ t 13 _ rfl⟩,hy.keep (KpD.of hb hB hE)⟩
  ·exact ⟨g1,k1,g2,k2,gk,kk,⟨cell_new0 w _ t 14 _ rfl,cell_new0 w _ t 15 _ rfl,cell_new0 w _ t 16 _ rfl,cell_new0 w _ t 17 _ rfl,cell_new0 w _ t 18 _ rfl,cell_new0 w _ t 19 _ rfl,cell_new0 w _ t 20 _ rfl⟩,hz.keep (KpD.of hb hB hG)⟩
set_option maxHeartbeats 16000000 in
theorem expr_oper {n:Nat} {w0 w:World} {p q:Nat} {g:Gr} {R:Raw} {ws:List Wo} {A:Ra} {i:Nat} {e:Int} (d:Nat) (hd:d≤23) (IE:CE n w0 p g R ws A e d) (IF:CF n w0 p g R ws A e d) (h:Rd (n+1) w0 w p g R ws A i e) (inn:Bool) (nm:Nm) (hn:inn=true→Nq w p q nm) (hW:wholeR g false (ws.drop i)=0) :
  Calls Try.prog 21 #[.pointer (some ⟨p,0,none⟩),.int .i64 ((25 - (d+1):Nat):Int),namV inn q] w fun en w'=>GvE n w0 w p q g R ws A e inn nm ((EF g e (d+1)).1 inn (ws.drop i)) en w':=by
 have hb:(EF g e (d+1)).1 inn (ws.drop i)=(operS g e (EF g e d).1 inn (ws.drop i)).bind fun q =>
   if overR q.2.1 then .ok q
   else if wholeR g true q.2.1=0 then .bad 2 (placeR e q.2.1)
   else ((EF g e d).2 q.2.1).bind fun f=>if repB g q.1 f.1 then (if oftB q.1.lit then ((EF g e d).1 inn f.2).bind fun y=>.ok (mo1 (node 26 (oftN q.1.lit) nost f.1.kids f.1.pos) y.1,y.2.1,orN q.2.2 y.2.2) else .bad 2 f.1.pos)
    else ((EF g e d).1 inn f.2).bind fun y=>.ok (node 6 0 nost [f.1,q.1,y.1] (placeR e (ws.drop i)),y.2.1,orN q.2.2 y.2.2):=by
  show exprS g e (EF g e d).1 (EF g e d).2 inn (ws.drop i)=_
  unfold exprS; rw [if_pos hW]
 obtain ⟨RES,hRES⟩:∃ RES,(EF g e (d+1)).1 inn (ws.drop i)=RES:=⟨_,rfl⟩
 rw [hRES]
 rw [hRES] at hb
 have HRES:=hide hb
 clear hb hRES
 obtain ⟨W1,e1⟩:∃ W1,w.alloc (.cells #[.int .i64 0,.int .i64 0,.string ⟨#[]⟩,.slice none 0 0,.slice none 0 0,.slice none 0 0,.int .i64 0] 39)=W1:=⟨_,rfl⟩
 have b1:Below w.heap.size w W1:=by rw [←e1]; exact one_alloc _ _
 have s1:W1.heap.size=w.heap.size+1:=by rw [←e1]; simp
 have rv1:Rv W1 w.heap.size:=by rw [←e1]; exact Rv.new w
 have hile:=h.hi
 have hL:=h.sp.sn.words
 have hpw:=h.sp.sn.hp2
 have hBw:=h.sp.sn.old.size
 have hB0:=h.sp.sn.hp
 have HEN:Hid (Calls Try.prog 33 #[.pointer (some ⟨p,0,none⟩),.int .i64 ((25 - (d+1):Nat):Int)] W1 fun en w'=>en=.returned (.tuple #[])∧Below W1.heap.size W1 w'):=hide ((enter33 (h.next b1) (d+1) (by omega)).mono fun en w' hh=>by
  rw [if_neg (by omega)] at hh; exact hh)
 have HRD:Hid (∀ W,Below W1.heap.size W1 W→Rd (n+1) w0 W p g R ws A i e):=fun W hW=>(h.next b1).next hW
 have HQ0:Hid (inn=true→q < w.heap.size):=fun hin=>(hn hin).lt
 have HNN:Hid (∀ W,Below W1.heap.size W1 W→inn=true→Nq W p q nm):=fun W hW hin=>((hn hin).next b1).next hW
 have HGE:=hide (fun l=>(EF_good g e d).1 inn l)
 have HGF:=hide ((EF_good g e d).2)
 have HE:=hide e1
 have HB1:=hide b1
 have HRV1:=hide rv1
 have HIE:=hide IE
 have HIF:=hide IF
 have HGO:=hide (operS_good (g:=g) (e:=e) (EF_good g e d).1 inn (ws.drop i))
 clear e1 h hn b1 rv1 IE IF
 obtain ⟨NV,hNV⟩:∃ NV,namV inn q=NV:=⟨_,rfl⟩
 rw [hNV]
 have HNV:=hide hNV
 clear hNV
 have hDO:((24 - d:Nat):Int)=((25 - (d+1):Nat):Int):=by omega
 have hD1:IntKind.i64.wrap (((25 - (d+1):Nat):Int)+1)=((25 - d:Nat):Int):=(IntWalk.i64_in _ ⟨by omega,by omega⟩).trans (by omega)
 have HOP:=hide (fun W (hW:Below W1.heap.size W1 W)=>operand38 (q:=q) d (by omega) HIE.out (HRD.out W hW) inn nm (HNN.out W hW))
 rw [hDO,HNV.out] at HOP
 clear hDO
 generalize ((25 - (d+1):Nat):Int)=DD at *
 go_enter Try.func21,Try.ntmps21
 go_upto_region 1 with fail
 rw [HE.out]
 go_wp2_with fail
 refine HEN.out.mono ?_
 rintro en w2 ⟨rfl,hb2⟩
 clear HEN HE
 have HBG:=hide (begins34 (HRD.out _ hb2) false)
 rw [show (!decide (wholeR g false (ws.drop i)=0))=false by simp [hW]] at HBG
 have HB2:=hide hb2
 clear hb2
 go_wp2_with fail
 refine HBG.out.mono ?_
 rintro en w3 ⟨rfl,k3,rfl⟩
 clear HBG
 have b3:Below W1.heap.size W1 (w2.drewN k3):=HB2.out.trans ((drewN_below (Below.refl w2.heap.size w2) k3).mono HB2.out.size)
 generalize w2.drewN k3=w3 at *
 have HB3:=hide b3
 have h3:=b3.size
 have HRV3:=hide (HRV1.out.block b3.size (b3.block _ HRV1.out.lt))
 have HT3:Hid (But (TT inn p q) w w3):=But.of (HB1.out.trans (b3.mono HB1.out.size))
 clear b3 HRV1 HB2
 have HPL:=hide (place37 (HRD.out _ HB3.out))
 obtain ⟨PL,hPL⟩:∃ PL,placeR e (ws.drop i)=PL:=⟨_,rfl⟩
 rw [hPL] at HPL HRES
 clear hPL
 go_wp2_with fail
 refine HPL.out.mono ?_
 rintro en w4 ⟨rfl,k4,rfl⟩
 clear HPL
 have b4:Below W1.heap.size W1 (w3.drewN k4):=HB3.out.trans ((drewN_below (Below.refl w3.heap.size w3) k4).mono HB3.out.size)
 have HT4:Hid (But (TT inn p q) w (w3.drewN k4)):=HT3.out.trans (But.of (drewN_below (Below.refl w3.heap.size w3) k4)) fun j _ hj=>hj
 have HRV4:=hide (HRV3.out.block (W':=w3.drewN k4) (drewN_below (Below.refl w3.heap.size w3) k4).size ((drewN_below (Below.refl w3.heap.size w3) k4).block _ HRV3.out.lt))
 have h4:w.heap.size+1≤(w3.drewN k4).heap.size:=by have:=b4.size; omega
 have HC:=hide (HOP.out _ b4)
 have HN4:=hide (HNN.out _ b4)
 generalize w3.drewN k4=w4 at *
 clear b4 HT3 HRV3 HB3 HOP h3 HRD HNN
 go_wp2_with fail
 refine HC.out.mono ?_
 rintro en w5 ⟨hbut,hres⟩
 clear HC
 have h5:=hbut.size
 have HNT:Hid (∀ k,w.heap.size≤k→¬ TT inn p q k):=fun k hk=>tt_no hpw HQ0.out hk
 have HT5:Hid (But (TT inn p q) w w5):=HT4.out.trans hbut fun j _ hj=>hj
 have rv5:Rv w5 w.heap.size:=HRV4.out.but hbut (HNT.out _ (Nat.le_refl _))
 cases hwo:operS g e (EF g e d).1 inn (ws.drop i) with
 | bad er pl =>
  rw [hwo] at hres
  simp only at hres
  subst hres
  obtain rfl:RES=.bad er pl:=by rw [HRES.out,hwo]; rfl
  go_wp2
  exact ⟨rfl,HT5.out,rfl⟩
 | stuck=>exact absurd hwo HGO.out.1
 | ok r =>
  obtain ⟨nd,rs,nm1⟩:=r
  rw [hwo] at hres
  obtain ⟨v,m1,i1,rfl,hrs,hrd,htr,hnq⟩:=hres
  simp only at hrs
  subst hrs
  have hr1:=HRES.out
  rw [hwo] at hr1
  simp only [Rs.bind] at hr1
  have HR1:=hide hr1
  clear hr1
  have HTX:=hide htr
  obtain ⟨m',hm',a1,c1,a2,c2,ak,ck,rfl,-⟩:=htr.form
  obtain ⟨W6,hW6⟩:∃ W6,w5.alloc (.cells #[.int .i64 nd.kind,.int .i64 nd.op,.string nd.name,.slice a1 nd.lit.shape.length c1,.slice a2 nd.lit.cells.length c2,.slice ak nd.kids.length ck,.int .i64 nd.pos] 39)=W6:=⟨_,rfl⟩
  have b6:Below w5.heap.size w5 W6:=by rw [←hW6]; exact one_alloc _ _
  have s6:W6.heap.size=w5.heap.size+1:=by rw [←hW6]; simp
  have vn6:Vn W6 w5.heap.size nd.kind nd.op nd.name (.slice a1 nd.lit.shape.length c1) (.slice a2 nd.lit.cells.length c2) (.slice ak nd.kids.length ck) nd.pos:=by rw [←hW6]; exact Vn.new _ _ _ _ _ _ _ _
  have HT6:Hid (But (TT inn p q) w W6):=HT5.out.trans (But.of b6) fun j _ hj=>hj
  have HRV6:=hide (rv5.block b6.size (b6.block _ rv5.lt))
  have HR6:=hide (hrd.next b6)
  have HTX6:=hide (HTX.out.keep (Kp.of b6 (by omega) (Nat.le_refl _)))
  have HNQ6:Hid (inn=true→Nq W6 p q (orN nm nm1)):=fun hin=>(hnq hin).next b6
  have HE6:=hide hW6
  have HVN6:=hide vn6
  have HOV:=hide (over39 HR6.out)
  clear hrd htr b6 vn6 hbut rv5 hW6 hm' HTX HT5 HT4 HRV4 HN4 HGO hnq HRES
  go_upto_region 7 with fail
  rw [HE6.out]
  clear HE6
  cases hov:overR (ws.drop i1) with
  | true =>
   rw [hov] at HOV
   obtain rfl:RES=.ok (nd,ws.drop i1,nm1):=by rw [HR1.out]; simp [hov]
   go_wp2_with fail
   refine HOV.out.mono ?_
   rintro en w7 ⟨rfl,k7,rfl⟩
   have b7:=drewN_below (Below.refl W6.heap.size W6) k7
   have VN:Hid (Vn (W6.drewN k7) w5.heap.size nd.kind nd.op nd.name (.slice a1 nd.lit.shape.length c1) (.slice a2 nd.lit.cells.length c2) (.slice ak nd.kids.length ck) nd.pos):=HVN6.out.block b7.size (b7.block _ HVN6.out.lt)
   have HRV:Hid (Rv (W6.drewN k7) w.heap.size):=HRV6.out.block b7.size (b7.block _ HRV6.out.lt)
   have HFIN:Hid (∀ wf,But (·=w.heap.size) (W6.drewN k7) wf→GvE n w0 w p q g R ws A e inn nm (.ok (nd,ws.drop i1,nm1)) (.returned (.agg #[.int .i64 nd.kind,.int .i64 nd.op,.string nd.name,.slice a1 nd.lit.shape.length c1,.slice a2 nd.lit.cells.length c2,.slice ak nd.kids.length ck,.int .i64 nd.pos])) wf):=fun wf hf =>
    gv_fin (lo:=w4.heap.size) (hi:=w5.heap.size) (r:=(nd,ws.drop i1,nm1)) (HT6.out.trans (But.of b7) fun j _ hj=>hj) (HR6.out.next b7) rfl (HTX6.out.keep (Kp.of b7 (by omega) (by omega))) (by omega) (by have:=b7.size; omega) (fun hin=>⟨(HNQ6.out hin).next b7,HQ0.out hin⟩) hpw hBw hf
   clear HOV HT6 HR6 HTX6 HNQ6 HVN6 HRV6 HR1 HIE HIF HGE HGF
   generalize W6.drewN k7=w7 at *
   obtain ⟨-,v0,v1,v2,v3,v4,v5,v6⟩:=VN.out
   have RV:=HRV.out
   obtain ⟨r0,Q0⟩:=RV.c 0 (by omega)
   have F0:=RV.f 0
   obtain ⟨r1,Q1⟩:=RV.c 1 (by omega)
   have F1:=RV.f 1
   obtain ⟨r2,Q2⟩:=RV.c 2 (by omega)
   have F2:=RV.f 2
   obtain ⟨r3,Q3⟩:=RV.c 3 (by omega)
   have F3:=RV.f 3
   obtain ⟨r4,Q4⟩:=RV.c 4 (by omega)
   have F4:=RV.f 4
   obtain ⟨r5,Q5⟩:=RV.c 5 (by omega)
   have F5:=RV.f 5
   obtain ⟨r6,Q6⟩:=RV.c 6 (by omega)
   have F6:=RV.f 6
   clear RV HRV VN
   go_wp2
   refine bodyPost_ret (v:=.agg #[.int .i64 nd.kind,.int .i64 nd.op,.string nd.name,.slice a1 nd.lit.shape.length c1,.slice a2 nd.lit.cells.length c2,.slice ak nd.kids.length ck,.int .i64 nd.pos]) (by simp [results,Try.results21,go_sem,Q0,Q1,Q2,Q3,Q4,Q5,Q6]) rfl (HFIN.out _ ?_)
   repeat' first | with_reducible exact But.refl _ _ | with_reducible rfl | with_reducible refine butS ?_ ?_
  | false =>
   rw [hov] at HOV
   go_wp2_with fail
   refine HOV.out.mono ?_
   rintro en w7 ⟨rfl,k7,rfl⟩
   clear HOV
   have HB7:=hide (drewN_below (Below.refl W6.heap.size W6) k7)
   have HBG2:=hide (begins34 (HR6.out.next HB7.out) true)
   generalize W6.drewN k7=w7 at *
   go_wp2_with fail
   refine HBG2.out.mono ?_
   rintro en w8 ⟨rfl,k8,rfl⟩
   clear HBG2
   have b8:Below W6.heap.size W6 (w7.drewN k8):=HB7.out.trans ((drewN_below (Below.refl w7.heap.size w7) k8).mono HB7.out.size)
   generalize w7.drewN k8=w8 at *
   clear HB7
   have h8:=b8.size
   have HB8:=hide b8
   have HT8:Hid (But (TT inn p q) w w8):=HT6.out.trans (But.of b8) fun j _ hj=>hj
   have HR8:=hide (HR6.out.next b8)
   have HTX8:=hide (HTX6.out.keep (Kp.of b8 (by omega) (by omega)))
   have HNQ8:Hid (inn=true→Nq w8 p q (orN nm nm1)):=fun hin=>(HNQ6.out hin).next b8
   have HVN8:Hid (Vn w8 w5.heap.size nd.kind nd.op nd.name (.slice a1 nd.lit.shape.length c1) (.slice a2 nd.lit.cells.length c2) (.slice ak nd.kids.length ck) nd.pos):=HVN6.out.block b8.size (b8.block _ HVN6.out.lt)
   have HRV8:Hid (Rv w8 w.heap.size):=HRV6.out.block b8.size (b8.block _ HRV6.out.lt)
   clear b8 HT6 HR6 HTX6 HNQ6 HVN6 HRV6
   by_cases hW1:wholeR g true (ws.drop i1)=0
   ·obtain rfl:RES=.bad 2 (placeR e (ws.drop i1)):=by rw [HR1.out]; simp [hov,hW1]
    have hbb:(!decide (wholeR g true (ws.drop i1)=0))=false:=by simp [hW1]
    rw [hbb]
    have HRF:=hide (refuse22 HR8.out 2)
    go_wp2_with fail
    refine HRF.out.mono ?_
    rintro en w9 ⟨rfl,hb9⟩
    go_wp2
    exact ⟨rfl,HT8.out.trans (But.of hb9) fun j _ hj=>hj,rfl⟩
   ·have hbb:(!decide (wholeR g true (ws.drop i1)=0))=true:=by simp [hW1]
    rw [hbb]
    have hr2:=HR1.out
    rw [if_neg (by simp [hov]),if_neg hW1] at hr2
    have HR2:=hide hr2
    clear hr2 HR1
    have HC:=hide (HIF.out w8 i1 true HR8.out hW1)
    have hgf:=HGF.out true (ws.drop i1) hW1
    go_wp2_with fail
    refine HC.out.mono ?_
    rintro en w9 ⟨hbut,hres⟩
    clear HC
    have h9:=hbut.size
    have HT9:Hid (But (TT inn p q) w w9):=HT8.out.trans hbut fun j _ hj=>Or.inl hj
    cases hwf:(EF g e d).2 (ws.drop i1) with
    | bad er pl =>
     rw [hwf] at hres
     simp only at hres
     subst hres
     obtain rfl:RES=.bad er pl:=by rw [HR2.out,hwf]; try rfl
     go_wp2
     exact ⟨rfl,HT9.out,rfl⟩
    | stuck=>exact absurd hwf hgf.1
    | ok rf =>
     obtain ⟨nf,rs⟩:=rf
     have h24:=EF24 g e d _ _ hwf
     rw [hwf] at hres
     obtain ⟨v,m2,i2,rfl,hrs,hrd,htr⟩:=hres
     simp only at hrs h24
     subst hrs
     have hr3:=HR2.out
     rw [hwf] at hr3
     simp only [Rs.bind] at hr3
     have HR3:=hide hr3
     clear hr3 HR2
     have HTF:=hide htr
     obtain ⟨m',hm',b1,d1,b2,d2,bk,dk,rfl,-⟩:=htr.form
     obtain ⟨W10,hW10⟩:∃ W10,w9.alloc (.cells #[.int .i64 nf.kind,.int .i64 nf.op,.string nf.name,.slice b1 nf.lit.shape.length d1,.slice b2 nf.lit.cells.length d2,.slice bk nf.kids.length dk,.int .i64 nf.pos] 39)=W10:=⟨_,rfl⟩
     have b10:Below w9.heap.size w9 W10:=by rw [←hW10]; exact one_alloc _ _
     have s10:W10.heap.size=w9.heap.size+1:=by rw [←hW10]; simp
     have vf10:Vn W10 w9.heap.size nf.kind nf.op nf.name (.slice b1 nf.lit.shape.length d1) (.slice b2 nf.lit.cells.length d2) (.slice bk nf.kids.length dk) nf.pos:=by rw [←hW10]; exact Vn.new _ _ _ _ _ _ _ _
     have ff10:∀ o,W10.frozen? ⟨w9.heap.size,o,none⟩=false:=fun o=>by rw [←hW10]; exact frozen_new _ _ _ _
     have vx9:=HVN8.out.but hbut (by omega)
     have vx10:Vn W10 w5.heap.size nd.kind nd.op nd.name (.slice a1 nd.lit.shape.length c1) (.slice a2 nd.lit.cells.length c2) (.slice ak nd.kids.length ck) nd.pos:=vx9.block b10.size (b10.block _ vx9.lt)
     have rv9:=HRV8.out.but hbut (by omega)
     have HRV10:=hide (rv9.block b10.size (b10.block _ rv9.lt))
     have HR10:=hide (hrd.next b10)
     have HTF10:=hide (HTF.out.keep (Kp.of b10 (by omega) (Nat.le_refl _)))
     have hx9:=HTX8.out.keep (Kp.but hbut (by omega) (by omega) fun k hk=>⟨by omega,Or.inl (by omega)⟩)
     have HTX10:=hide (hx9.keep (Kp.of b10 (by omega) (by omega)))
     have HNQ10:Hid (inn=true→Nq W10 p q (orN nm nm1)):=fun hin=>by
      have h0:=HNQ8.out hin
      exact (h0.block hbut.size (hbut.block h0.lt (by have:=h0.hp; omega))).next b10
     have HT10:Hid (But (TT inn p q) w W10):=HT9.out.trans (But.of b10) fun j _ hj=>hj
     have HVX:=hide vx10
     have HVF:=hide vf10
     have HFF:=hide ff10
     have HE10:=hide hW10
     have HIR:=hide (isRep40 HR10.out (TrD.ndIn HTX10.out) (TrD.ndIn HTF10.out) h24)
     clear hrd htr b10 vf10 ff10 vx9 vx10 rv9 hx9 hbut hW10 hm' HTF HT9 HT8 HRV8 HTX8 HNQ8 HVN8 HB8 HR8 HIF HGF hgf h24
     go_upto_region 12 with fail
     rw [HE10.out]
     clear HE10
     obtain ⟨-,x0,x1,x2,x3,x4,x5,x6⟩:=HVX.out
     obtain ⟨-,y0,y1,y2,y3,y4,y5,y6⟩:=HVF.out
     cases hrep:repB g nd nf with
     | false =>
      rw [hrep] at HIR
      go_wp2_with fail
      refine HIR.out.mono ?_
      rintro en w11 ⟨rfl,hb11⟩
      clear HIR x0 x1 x2 x3 x4 x5 x6 y0 y1 y2 y3 y4 y5 y6
      have h11:=hb11.size
      have HT11:Hid (But (TT inn p q) w w11):=HT10.out.trans (But.of hb11) fun j _ hj=>hj
      have HRV11:=hide (HRV10.out.block hb11.size (hb11.block _ HRV10.out.lt))
      have HTF11:=hide (HTF10.out.keep (Kp.of hb11 (by omega) (by omega)))
      have HTX11:=hide (HTX10.out.keep (Kp.of hb11 (by omega) (by omega)))
      have HVX11:=hide (HVX.out.block hb11.size (hb11.block _ HVX.out.lt))
      have HVF11:=hide (HVF.out.block hb11.size (hb11.block _ HVF.out.lt))
      have HN11:Hid (inn=true→Nq w11 p q (orN nm nm1)):=fun hin=>(HNQ10.out hin).next hb11
      have HC:=hide (HIE.out w11 q i2 inn (orN nm nm1) (HR10.out.next hb11) HN11.out)
      rw [HNV.out] at HC
      have hge:=HGE.out (ws.drop i2)
      have hr4:=HR3.out
      rw [if_neg (by simp [hrep])] at hr4
      have HR4:=hide hr4
      clear hr4 HR3 hb11 HT10 HRV10 HTF10 HTX10 HVX HVF HFF HNQ10 HR10 HIE HGE
      go_wp2_with fail
      refine HC.out.mono ?_
      rintro en w12 ⟨hbut,hres⟩
      clear HC
      have h12:=hbut.size
      have HT12:Hid (But (TT inn p q) w w12):=HT11.out.trans hbut fun j _ hj=>hj
      cases hwy:(EF g e d).1 inn (ws.drop i2) with
      | bad er pl =>
       rw [hwy] at hres
       simp only at hres
       subst hres
       obtain rfl:RES=.bad er pl:=by rw [HR4.out,hwy]; try rfl
       go_wp2
       exact ⟨rfl,HT12.out,rfl⟩
      | stuck=>exact absurd hwy hge.1
      | ok ry =>
       obtain ⟨ny,rs,nm3⟩:=ry
       rw [hwy] at hres
       obtain ⟨v,m3,i3,rfl,hrs,hrd,htr,hnq⟩:=hres
       simp only at hrs
       subst hrs
       obtain rfl:RES=.ok (node 6 0 nost [nf,nd,ny] PL,ws.drop i3,orN nm1 nm3):=by rw [HR4.out,hwy]; try rfl
       have HTY:=hide htr
       obtain ⟨m',hm',g1,k1,g2,k2,gk,kk,rfl,-⟩:=htr.form
       obtain ⟨W13,hW13⟩:∃ W13,w12.alloc (.cells #[.int .i64 ny.kind,.int .i64 ny.op,.string ny.name,.slice g1 ny.lit.shape.length k1,.slice g2 ny.lit.cells.length k2,.slice gk ny.kids.length kk,.int .i64 ny.pos] 39)=W13:=⟨_,rfl⟩
       have b13:Below w12.heap.size w12 W13:=by rw [←hW13]; exact one_alloc _ _
       have s13:W13.heap.size=w12.heap.size+1:=by rw [←hW13]; simp
       have vy13:Vn W13 w12.heap.size ny.kind ny.op ny.name (.slice g1 ny.lit.shape.length k1) (.slice g2 ny.lit.cells.length k2) (.slice gk ny.kids.length kk) ny.pos:=by rw [←hW13]; exact Vn.new _ _ _ _ _ _ _ _
       have vx12:=HVX11.out.but hbut (HNT.out _ (by omega))
       have vf12:=HVF11.out.but hbut (HNT.out _ (by omega))
       have vx13:=vx12.block b13.size (b13.block _ vx12.lt)
       have vf13:=vf12.block b13.size (b13.block _ vf12.lt)
       have rv12:=HRV11.out.but hbut (HNT.out _ (Nat.le_refl _))
       have hkp:∀ lo hi,w.heap.size≤lo→hi≤w11.heap.size→Kp w0.heap.size lo hi w11 w12:=fun lo hi h1 h2=>Kp.but hbut (by omega) h2 fun k hk=>⟨tt_ge hB0 (fun hin=>(HN11.out hin).hp) hk,by rcases Nat.lt_or_ge k lo with hh | hh; exact Or.inl hh; exact absurd hk (HNT.out k (by omega))⟩
       have tf13:=(HTF11.out.keep (hkp _ _ (by omega) (by omega))).keep (Kp.of b13 (by omega) (by omega))
       have tx13:=(HTX11.out.keep (hkp _ _ (by omega) (by omega))).keep (Kp.of b13 (by omega) (by omega))
       have ty13:=HTY.out.keep (Kp.of b13 (by omega) (Nat.le_refl _))
       obtain ⟨W14,hW14⟩:∃ W14,W13.alloc (.cells #[.int .i64 nf.kind,.int .i64 nf.op,.string nf.name,.slice b1 nf.lit.shape.length d1,.slice b2 nf.lit.cells.length d2,.slice bk nf.kids.length dk,.int .i64 nf.pos,.int .i64 nd.kind,.int .i64 nd.op,.string nd.name,.slice a1 nd.lit.shape.length c1,.slice a2 nd.lit.cells.length c2,.slice ak nd.kids.length ck,.int .i64 nd.pos,.int .i64 ny.kind,.int .i64 ny.op,.string ny.name,.slice g1 ny.lit.shape.length k1,.slice g2 ny.lit.cells.length k2,.slice gk ny.kids.length kk,.int .i64 ny.pos] 39)=W14:=⟨_,rfl⟩
       have b14:Below W13.heap.size W13 W14:=by rw [←hW14]; exact one_alloc _ _
       have s14:W14.heap.size=W13.heap.size+1:=by rw [←hW14]; simp
       have hk14:=trk3 (B:=w0.heap.size) (n:=n+1) (m:=m1+m2+m3) (by omega) (fun k hk=>by have:=hk.2; omega) (fun k hk=>by have:=hk.2; omega) (fun k hk=>by have:=hk.2; omega) (fun k hk hk2=>by have:=hk.1; have:=hk2.2; omega) (fun k hk hk2=>by have:=hk.2; have:=hk2.1; omega) (fun k hk hk2=>by have:=hk.2; have:=hk2.1; omega) (TrD.deep tf13 (by omega)) (TrD.deep tx13 (by omega)) (TrD.deep ty13 (by omega)) 39
       rw [hW14] at hk14
       have tp14:=TrD.put (ck:=3) 6 0 nost PL (Nat.zero_le _) (by simp) hk14
       have rv13:=rv12.block b13.size (b13.block _ rv12.lt)
       have RV:=rv13.block b14.size (b14.block _ rv13.lt)
       have HFIN:Hid (∀ wf,But (·=w.heap.size) W14 wf→GvE n w0 w p q g R ws A e inn nm (.ok (node 6 0 nost [nf,nd,ny] PL,ws.drop i3,orN nm1 nm3)) (.returned (.agg #[.int .i64 6,.int .i64 0,.string ⟨#[]⟩,.slice none 0 0,.slice none 0 0,.slice (some ⟨W13.heap.size,0,none⟩) 3 3,.int .i64 PL])) wf):=fun wf hf=>by
        refine gv_fin (lo:=w.heap.size+1) (hi:=W14.heap.size) (r:=(node 6 0 nost [nf,nd,ny] PL,ws.drop i3,orN nm1 nm3)) ((HT12.out.trans (But.of b13) fun j _ hj=>hj).trans (But.of b14) fun j _ hj=>hj) ((hrd.next b13).next b14) rfl (TrD.wide tp14 fun k hk=>?_) (Nat.lt_succ_self _) (Nat.le_refl _) (fun hin=>⟨?_,HQ0.out hin⟩) hpw hBw hf
        ·rcases hk with hk | hk | hk | hk
         ·have:=hk.1; have:=hk.2; exact ⟨by omega,by omega⟩
         ·have:=hk.1; have:=hk.2; exact ⟨by omega,by omega⟩
         ·have:=hk.1; have:=hk.2; exact ⟨by omega,by omega⟩
         ·exact ⟨by omega,by omega⟩
        ·have:=((hnq hin).next b13).next b14
         rw [orN_assoc] at this
         exact this
       have HE13:=hide hW13
       obtain ⟨-,x0,x1,x2,x3,x4,x5,x6⟩:=vx13
       obtain ⟨-,y0,y1,y2,y3,y4,y5,y6⟩:=vf13
       obtain ⟨-,z0,z1,z2,z3,z4,z5,z6⟩:=vy13
       obtain ⟨r0,Q0⟩:=RV.c 0 (by omega)
       have F0:=RV.f 0
       obtain ⟨r1,Q1⟩:=RV.c 1 (by omega)
       have F1:=RV.f 1
       obtain ⟨r2,Q2⟩:=RV.c 2 (by omega)
       have F2:=RV.f 2
       obtain ⟨r3,Q3⟩:=RV.c 3 (by omega)
       have F3:=RV.f 3
       obtain ⟨r4,Q4⟩:=RV.c 4 (by omega)
       have F4:=RV.f 4
       obtain ⟨r5,Q5⟩:=RV.c 5 (by omega)
       have F5:=RV.f 5
       obtain ⟨r6,Q6⟩:=RV.c 6 (by omega)
       have F6:=RV.f 6
       clear RV rv13 rv12 hk14 tp14 tf13 tx13 ty13 hkp vx12 vf12 HVX11 HVF11 HTF11 HTX11 HRV11 HTY HT12 HT11 hrd hnq hbut b13 b14 htr hW13 HN11
       go_upto_region 16 with fail
       rw [HE13.out]
       clear HE13
       go_wp2
       refine bodyPost_ret (v:=.agg #[.int .i64 6,.int .i64 0,.string ⟨#[]⟩,.slice none 0 0,.slice none 0 0,.slice (some ⟨W13.heap.size,0,none⟩) 3 3,.int .i64 PL]) (by simp [results,Try.results21,go_sem,Q0,Q1,Q2,Q3,Q4,Q5,Q6]) rfl (HFIN.out _ ?_)
       repeat' first | with_reducible exact But.refl _ _ | with_reducible rfl | with_reducible refine butS ?_ ?_
     | true =>
      rw [hrep] at HIR
      go_wp2_with fail
      refine HIR.out.mono ?_
      rintro en w11 ⟨rfl,hb11⟩
      clear HIR x0 x1 x2 x3 x4 x5 x6 y0 y1 y2 y3 y4 y5 y6
      have h11:=hb11.size
      have HT11:Hid (But (TT inn p q) w w11):=HT10.out.trans (But.of hb11) fun j _ hj=>hj
      have HRV11:=hide (HRV10.out.block hb11.size (hb11.block _ HRV10.out.lt))
      have HTF11:=hide (HTF10.out.keep (Kp.of hb11 (by omega) (by omega)))
      have HTX11:=hide (HTX10.out.keep (Kp.of hb11 (by omega) (by omega)))
      have HVX11:=hide (HVX.out.block hb11.size (hb11.block _ HVX.out.lt))
      have HVF11:=hide (HVF.out.block hb11.size (hb11.block _ HVF.out.lt))
      have HFF11:Hid (∀ o,w11.frozen? ⟨w9.heap.size,o,none⟩=false):=fun o=>(frozen_block (hb11.block _ HVF.out.lt) o).trans (HFF.out o)
      have HN11:Hid (inn=true→Nq w11 p q (orN nm nm1)):=fun hin=>(HNQ10.out hin).next hb11
      have HR11:=hide (HR10.out.next hb11)
      have HC41:=hide (repeated41 (B:=w0.heap.size) (by omega) (fun k hk=>by have:=hk.2; omega) (fun k hk=>by have:=hk.2; omega) HTX11.out HTF11.out)
      have hr4:=HR3.out
      rw [if_pos hrep] at hr4
      obtain ⟨-,x0,x1,x2,x3,x4,x5,x6⟩:=HVX11.out
      obtain ⟨-,y0,y1,y2,y3,y4,y5,y6⟩:=HVF11.out
      cases hof:oftB nd.lit with
      | false =>
       rw [hof] at hr4
       obtain rfl:RES=.bad 2 nf.pos:=by rw [hr4]; rfl
       go_wp2_with fail
       refine HC41.out.mono ?_
       rintro en w12 ⟨hb12,hres⟩
       rw [hof] at hres
       simp only [Bool.false_eq_true,if_false] at hres
       subst hres
       go_wp2
       exact ⟨rfl,HT11.out.trans (But.of hb12) fun j _ hj=>hj,rfl⟩
      | true =>
       rw [if_pos hof] at hr4
       have HR5:=hide hr4
       clear hr4 HR3 hb11 HT10 HRV10 HTF10 HTX10 HVX HVF HFF HNQ10 HR10
       go_wp2_with fail
       refine HC41.out.mono ?_
       rintro en w12 ⟨hb12,hres⟩
       rw [if_pos hof] at hres
       obtain ⟨v,rfl,htr⟩:=hres
       clear HC41 x0 x1 x2 x3 x4 x5 x6 y0 y1 y2 y3 y4 y5 y6
       have h12:=hb12.size
       obtain ⟨nr,hnr⟩:∃ nr,node 26 (oftN nd.lit) nost nf.kids nf.pos=nr:=⟨_,rfl⟩
       rw [hnr] at htr HR5
       have HTR:=hide htr
       obtain ⟨m2x,hm2x⟩:∃ m2x,m2=m2x:=⟨_,rfl⟩
       rw [hm2x] at HTR
       obtain ⟨m',hm',y1,u1,y2,u2,yk,uk,rfl,-⟩:=htr.form
       have vf12:=HVF11.out.block hb12.size (hb12.block _ HVF11.out.lt)
       have ff12:∀ o,w12.frozen? ⟨w9.heap.size,o,none⟩=false:=fun o=>(frozen_block (hb12.block _ HVF11.out.lt) o).trans (HFF11.out o)
       have rv12:=HRV11.out.block hb12.size (hb12.block _ HRV11.out.lt)
       obtain ⟨W13,hW13⟩:∃ W13,(((((((w12.setCell ⟨w9.heap.size,0,none⟩ (.int .i64 nr.kind)).setCell ⟨w9.heap.size,1,none⟩ (.int .i64 nr.op)).setCell ⟨w9.heap.size,2,none⟩ (.string nr.name)).setCell ⟨w9.heap.size,3,none⟩ (.slice y1 nr.lit.shape.length u1)).setCell ⟨w9.heap.size,4,none⟩ (.slice y2 nr.lit.cells.length u2)).setCell ⟨w9.heap.size,5,none⟩ (.slice yk nr.kids.length uk)).setCell ⟨w9.heap.size,6,none⟩ (.int .i64 nr.pos))=W13:=⟨_,rfl⟩
       have b13:But (·=w9.heap.size) w12 W13:=by rw [←hW13]; exact butS (butS (butS (butS (butS (butS (butS (But.refl _ _) rfl) rfl) rfl) rfl) rfl) rfl) rfl
       have s13l:w9.heap.size+1≤W13.heap.size:=by have:=b13.size; omega
       have h13:=b13.size
       obtain ⟨-,x0,x1,x2,x3,x4,x5,x6⟩:=vf12
       have f0:=ff12 0
       have f1:=ff12 1
       have f2:=ff12 2
       have f3:=ff12 3
       have f4:=ff12 4
       have f5:=ff12 5
       have f6:=ff12 6
       have HVN6:Hid (Vn W13 w9.heap.size nr.kind nr.op nr.name (.slice y1 nr.lit.shape.length u1) (.slice y2 nr.lit.cells.length u2) (.slice yk nr.kids.length uk) nr.pos):=by
        refine ⟨by omega,(by rw [←hW13]; exact cs_off (by omega) (cs_off (by omega) (cs_off (by omega) (cs_off (by omega) (cs_off (by omega) (cs_off (by omega) (cs_same (x0)))))))),(by rw [←hW13]; exact cs_off (by omega) (cs_off (by omega) (cs_off (by omega) (cs_off (by omega) (cs_off (by omega) (cs_same (cs_off (by omega) (x1)))))))),(by rw [←hW13]; exact cs_off (by omega) (cs_off (by omega) (cs_off (by omega) (cs_off (by omega) (cs_same (cs_off (by omega) (cs_off (by omega) (x2)))))))),(by rw [←hW13]; exact cs_off (by omega) (cs_off (by omega) (cs_off (by omega) (cs_same (cs_off (by omega) (cs_off (by omega) (cs_off (by omega) (x3)))))))),(by rw [←hW13]; exact cs_off (by omega) (cs_off (by omega) (cs_same (cs_off (by omega) (cs_off (by omega) (cs_off (by omega) (cs_off (by omega) (x4)))))))),(by rw [←hW13]; exact cs_off (by omega) (cs_same (cs_off (by omega) (cs_off (by omega) (cs_off (by omega) (cs_off (by omega) (cs_off (by omega) (x5)))))))),(by rw [←hW13]; exact cs_same (cs_off (by omega) (cs_off (by omega) (cs_off (by omega) (cs_off (by omega) (cs_off (by omega) (cs_off (by omega) (x6))))))))⟩
       have HT6:Hid (But (TT inn p q) w W13):=(HT11.out.trans (But.of hb12) fun j _ hj=>hj).trans b13 fun j hj hh=>by omega
       have HRV6:Hid (Rv W13 w.heap.size):=rv12.but b13 (by omega)
       have HR6:Hid (Rd (n+1) w0 W13 p g R ws A i2 e):=(HR11.out.next hb12).upto (b13.below (by omega) fun k hk=>by omega)
       have HTF6:Hid (Tr (n+1) w0.heap.size m2x w8.heap.size w9.heap.size W13 nr (.agg #[.int .i64 nr.kind,.int .i64 nr.op,.string nr.name,.slice y1 nr.lit.shape.length u1,.slice y2 nr.lit.cells.length u2,.slice yk nr.kids.length uk,.int .i64 nr.pos])):=TrD.keep HTR.out (KpD.but b13 (by omega) (fun k hk=>by have:=hk.2; omega) fun k hk=>⟨by omega,fun hh=>by have:=hh.2; omega⟩)
       have HNQ6:Hid (inn=true→Nq W13 p q (orN nm nm1)):=fun hin=>((HN11.out hin).next hb12).block b13.size (b13.block (by have:=((HN11.out hin).next hb12).lt; omega) (by have:=HQ0.out hin; omega))
       have HE13:=hide hW13
       clear htr HTR hb12 b13 rv12 ff12 HT11 HRV11 HTF11 HTX11 HVX11 HVF11 HFF11 HN11 HR11 hnr hm' hW13
       have HC4:Hid (Calls Try.prog 21 #[.pointer (some ⟨p,0,none⟩),.int .i64 ((25 - d:Nat):Int),NV] W13.drew fun en w'=>GvE n w0 W13.drew p q g R ws A e inn (orN nm nm1) ((EF g e d).1 inn (ws.drop i2)) en w'):=by
        have bk:Below W13.heap.size W13 W13.drew:=(Below.refl W13.heap.size W13).drew
        have:=HIE.out W13.drew q i2 inn (orN nm nm1) (HR6.out.next bk) (fun hin=>(HNQ6.out hin).next bk)
        rw [HNV.out] at this
        exact this
       have hge:=HGE.out (ws.drop i2)
       have KS:Hid (∀ W,Vn W w9.heap.size nr.kind nr.op nr.name (.slice y1 nr.lit.shape.length u1) (.slice y2 nr.lit.cells.length u2) (.slice yk nr.kids.length uk) nr.pos→W.cell? ⟨w9.heap.size,0,none⟩=some (.int .i64 nr.kind)∧W.cell? ⟨w9.heap.size,1,none⟩=some (.int .i64 nr.op)∧W.cell? ⟨w9.heap.size,2,none⟩=some (.string nr.name)∧W.cell? ⟨w9.heap.size,3,none⟩=some (.slice y1 nr.lit.shape.length u1)∧W.cell? ⟨w9.heap.size,4,none⟩=some (.slice y2 nr.lit.cells.length u2)∧W.cell? ⟨w9.heap.size,5,none⟩=some (.slice yk nr.kids.length uk)∧W.cell? ⟨w9.heap.size,6,none⟩=some (.int .i64 nr.pos)):=fun W hV=>⟨hV.c0,hV.c1,hV.c2,hV.c3,hV.c4,hV.c5,hV.c6⟩
       have HV0:Hid (Vn W13.drew w9.heap.size nr.kind nr.op nr.name (.slice y1 nr.lit.shape.length u1) (.slice y2 nr.lit.cells.length u2) (.slice yk nr.kids.length uk) nr.pos):=HVN6.out.block (Nat.le_refl _) rfl
       go_upto_region 14 with fail
       rw [HE13.out]
       clear HE13 HR6 HIE HGE
       obtain ⟨x0,x1,x2,x3,x4,x5,x6⟩:=KS.out _ HVN6.out
       cases hwx:(EF g e d).1 inn (ws.drop i2) with
       | stuck=>exact absurd hwx hge.1
       | bad er pl =>
        rw [hwx] at HC4
        obtain rfl:RES=.bad er pl:=by rw [HR5.out]; simp [Rs.bind,hwx]
        have HP7:Hid (∀ w7,But (TT inn p q) W13.drew w7→But (TT inn p q) w w7):=fun w7 hb7=>(HT6.out.trans (But.of ((Below.refl W13.heap.size W13).drew)) fun j _ hj=>hj).trans hb7 fun j _ hj=>hj
        refine Code.wp_mono (Q:=OnlyP (faultC er pl) fun w7=>But (TT inn p q) W13.drew w7) ?_ ?_
        ·intro ex a w7 hh
         cases ex <;> first | exact hh.elim | (obtain ⟨ha,rfl,hb7⟩:=hh; exact ⟨ha,HP7.out _ hb7,rfl⟩)
        ·refine wp_region_held (S:=fun W=>W=W13.drew) (Eq.refl true) ?_
         refine wpAnyH_take (i:=0) (v:=.agg #[.int .i64 nr.kind,.int .i64 nr.op,.string nr.name,.slice y1 nr.lit.shape.length u1,.slice y2 nr.lit.cells.length u2,.slice yk nr.kids.length uk,.int .i64 nr.pos]) rfl (by kernel_rfl) (by kernel_rfl) (by kernel_rfl) (fun _ _ _ hh=>hh) (Or.inl ⟨rfl,fun W hW=>?_⟩) rfl ?_
         ·subst hW
          go_simp
         refine wpAnyH_take (i:=1) (v:=.pointer (some ⟨p,0,none⟩)) rfl (by kernel_rfl) (by kernel_rfl) (by kernel_rfl) (fun _ _ _ hh=>hh) (Or.inl ⟨rfl,fun W hW=>?_⟩) rfl ?_
         ·subst hW
          go_simp
         refine wpAnyH_take (i:=2) (v:=.int .i64 DD) rfl (by kernel_rfl) (by kernel_rfl) (by kernel_rfl) (fun _ _ _ hh=>hh) (Or.inl ⟨rfl,fun W hW=>?_⟩) rfl ?_
         ·subst hW
          go_simp
         refine wpAnyH_take (i:=3) (v:=.int .i64 ((25 - d:Nat):Int)) rfl (by kernel_rfl) (by kernel_rfl) (by kernel_rfl) (fun _ _ _ hh=>hh) (Or.inl ⟨rfl,fun W hW=>?_⟩) rfl ?_
         ·subst hW
          go_simp
         refine wpAnyH_take (i:=4) (v:=NV) rfl (by kernel_rfl) (by kernel_rfl) (by kernel_rfl) (fun _ _ _ hh=>hh) (Or.inl ⟨rfl,fun W hW=>?_⟩) rfl ?_
         ·subst hW
          go_simp
         refine wpAnyH_all (rs:=[5]) (by kernel_rfl) (by simp) fun i hi=>?_
         have hi5:i=5:=by simpa using hi
         subst hi5
         refine Or.inl ?_
         unfold Oper.wp
         go_simp
         refine HC4.out.mono ?_
         rintro en w7 ⟨hb7,hres⟩
         simp only at hres
         subst hres
         exact ⟨rfl,rfl,hb7⟩
       | ok rx =>
        obtain ⟨nx,rs,nm2⟩:=rx
        rw [hwx] at HC4
        have HR9:=hide (show RES=.ok (mo1 nr nx,rs,orN nm1 nm2) by rw [HR5.out]; simp [Rs.bind,hwx])
        have HC4':Hid (Calls Try.prog 21 #[.pointer (some ⟨p,0,none⟩),.int .i64 ((25 - d:Nat):Int),NV] W13.drew fun en w'=>∃ m2 i2 b1 d1 b2 d2 bk dk,en=.returned (.agg #[.int .i64 nx.kind,.int .i64 nx.op,.string nx.name,.slice b1 nx.lit.shape.length d1,.slice b2 nx.lit.cells.length d2,.slice bk nx.kids.length dk,.int .i64 nx.pos])∧(But (TT inn p q) W13.drew w'∧rs=ws.drop i2∧Rd (n+1) w0 w' p g R ws A i2 e∧Tr (n+1) w0.heap.size m2 W13.drew.heap.size w'.heap.size w' nx (.agg #[.int .i64 nx.kind,.int .i64 nx.op,.string nx.name,.slice b1 nx.lit.shape.length d1,.slice b2 nx.lit.cells.length d2,.slice bk nx.kids.length dk,.int .i64 nx.pos])∧(inn=true→Nq w' p q (orN (orN nm nm1) nm2)))∧Vn w' w9.heap.size nr.kind nr.op nr.name (.slice y1 nr.lit.shape.length u1) (.slice y2 nr.lit.cells.length u2) (.slice yk nr.kids.length uk) nr.pos):=HC4.out.mono fun en w' hh=>by
         obtain ⟨hb7,v,m2,i2,rfl,hrs,hrd,htr,hnq⟩:=hh
         have hT:=htr
         obtain ⟨m',hm',b1,d1,b2,d2,bk,dk,rfl,-⟩:=htr.form
         exact ⟨m2,i2,b1,d1,b2,d2,bk,dk,rfl,⟨hb7,hrs,hrd,hT,hnq⟩,HV0.out.but hb7 (HNT.out _ (by omega))⟩
        have H36:Hid (∀ (w7:World) m2 i2 b1 d1 b2 d2 bk dk,(But (TT inn p q) W13.drew w7∧rs=ws.drop i2∧Rd (n+1) w0 w7 p g R ws A i2 e∧Tr (n+1) w0.heap.size m2 W13.drew.heap.size w7.heap.size w7 nx (.agg #[.int .i64 nx.kind,.int .i64 nx.op,.string nx.name,.slice b1 nx.lit.shape.length d1,.slice b2 nx.lit.cells.length d2,.slice bk nx.kids.length dk,.int .i64 nx.pos])∧(inn=true→Nq w7 p q (orN (orN nm nm1) nm2)))→Calls Try.prog 36 #[.agg #[.int .i64 nr.kind,.int .i64 nr.op,.string nr.name,.slice y1 nr.lit.shape.length u1,.slice y2 nr.lit.cells.length u2,.slice yk nr.kids.length uk,.int .i64 nr.pos],.agg #[.int .i64 nx.kind,.int .i64 nx.op,.string nx.name,.slice b1 nx.lit.shape.length d1,.slice b2 nx.lit.cells.length d2,.slice bk nx.kids.length dk,.int .i64 nx.pos]] w7 fun en w'=>∃ g1 h1 g2 h2 gk hk,en=.returned (.agg #[.int .i64 (mo1 nr nx).kind,.int .i64 (mo1 nr nx).op,.string (mo1 nr nx).name,.slice g1 (mo1 nr nx).lit.shape.length h1,.slice g2 (mo1 nr nx).lit.cells.length h2,.slice gk (mo1 nr nx).kids.length hk,.int .i64 (mo1 nr nx).pos])∧(∀ wf,But (·=w.heap.size) w' wf→GvE n w0 w p q g R ws A e inn nm (.ok (mo1 nr nx,rs,orN nm1 nm2)) (.returned (.agg #[.int .i64 (mo1 nr nx).kind,.int .i64 (mo1 nr nx).op,.string (mo1 nr nx).name,.slice g1 (mo1 nr nx).lit.shape.length h1,.slice g2 (mo1 nr nx).lit.cells.length h2,.slice gk (mo1 nr nx).kids.length hk,.int .i64 (mo1 nr nx).pos])) wf)∧Vn w' w9.heap.size nr.kind nr.op nr.name (.slice y1 nr.lit.shape.length u1) (.slice y2 nr.lit.cells.length u2) (.slice yk nr.kids.length uk) nr.pos∧Rv w' w.heap.size):=fun w7 m2 i2 b1 d1 b2 d2 bk dk hh=>by
         obtain ⟨hb7,hrs,hrd,htr,hnq⟩:=hh
         have h7:=hb7.size
         have hs6:w9.heap.size+1≤W13.drew.heap.size:=s13l
         have hD6:But (TT inn p q) W13 w7:=(But.of ((Below.refl W13.heap.size W13).drew)).trans hb7 fun j _ hj=>hj
         have tf7:TrD (n+1) w0.heap.size m2x (Iv w8.heap.size w9.heap.size) w7 nr (.agg #[.int .i64 nr.kind,.int .i64 nr.op,.string nr.name,.slice y1 nr.lit.shape.length u1,.slice y2 nr.lit.cells.length u2,.slice yk nr.kids.length uk,.int .i64 nr.pos]):=HTF6.out.keep (Kp.but hD6 (by omega) (by omega) fun k hk=>⟨tt_ge hB0 (fun hin=>(HNQ6.out hin).hp) hk,by rcases Nat.lt_or_ge k w8.heap.size with hh | hh; exact Or.inl hh; exact absurd hk (HNT.out k (by omega))⟩)
         refine (call36 (m:=m2x+m2) (by omega) (fun k hk=>by have:=hk.2; omega) (fun k hk=>hk.2) (fun k hk hk2=>by have:=hk.2; have:=hk2.1; omega) (tf7.deep (by omega)) (htr.deep (by omega))).mono fun en w' hh=>?_
         obtain ⟨⟨v,rfl,htm⟩,hb8⟩:=hh
         have hTM:=htm
         obtain ⟨m',hm',g1,h1,g2,h2,gk,hk,rfl,-⟩:=htm.form
         have h8:=hb8.size
         refine ⟨g1,h1,g2,h2,gk,hk,rfl,fun wf hf=>?_,((HV0.out.but hb7 (HNT.out _ (by omega))).block hb8.size (hb8.block _ (by omega))),?_⟩
         ·refine gv_fin (lo:=w.heap.size+1) (hi:=w'.heap.size) (r:=(mo1 nr nx,rs,orN nm1 nm2)) ((HT6.out.trans hD6 fun j _ hj=>hj).trans (But.of hb8) fun j _ hj=>hj) (hrd.next hb8) hrs (TrD.wide hTM fun k hk=>?_) (Nat.lt_succ_self _) (Nat.le_refl _) (fun hin=>⟨by have:=(hnq hin).next hb8; rw [orN_assoc] at this; exact this,HQ0.out hin⟩) hpw hBw hf
          rcases hk with hk | hk | hk
          ·have:=hk.1; have:=hk.2; exact ⟨by omega,by omega⟩
          ·have:=hk.1; have:=hk.2; exact ⟨by omega,by omega⟩
          ·have:=hk.1; have:=hk.2; exact ⟨by omega,by omega⟩
         ·exact (HRV6.out.but hD6 (HNT.out _ (Nat.le_refl _))).block hb8.size (hb8.block _ (by have:=HRV6.out.lt; omega))
        have KT:Hid (∀ X t0 t1 t2 t3 t4 t5 t6,Vn X w9.heap.size nr.kind nr.op nr.name (.slice y1 nr.lit.shape.length u1) (.slice y2 nr.lit.cells.length u2) (.slice yk nr.kids.length uk) nr.pos→Vn (((((((X.setCell ⟨w.heap.size,0,none⟩ t0).setCell ⟨w.heap.size,1,none⟩ t1).setCell ⟨w.heap.size,2,none⟩ t2).setCell ⟨w.heap.size,3,none⟩ t3).setCell ⟨w.heap.size,4,none⟩ t4).setCell ⟨w.heap.size,5,none⟩ t5).setCell ⟨w.heap.size,6,none⟩ t6) w9.heap.size nr.kind nr.op nr.name (.slice y1 nr.lit.shape.length u1) (.slice y2 nr.lit.cells.length u2) (.slice yk nr.kids.length uk) nr.pos):=fun X t0 t1 t2 t3 t4 t5 t6 hV=>hV.but (T:=(·=w.heap.size)) (butS (butS (butS (butS (butS (butS (butS (But.refl _ _) rfl) rfl) rfl) rfl) rfl) rfl) rfl) (by omega)
        clear HC4 HTF6 HNQ6 HT6 HRV6 hge HVN6
        have hR:=HR9.out
        subst hR
        go_region_held3 (fun W=>W.cell? ⟨w9.heap.size,0,none⟩=some (.int .i64 nr.kind)∧W.cell? ⟨w9.heap.size,1,none⟩=some (.int .i64 nr.op)∧W.cell? ⟨w9.heap.size,2,none⟩=some (.string nr.name)∧W.cell? ⟨w9.heap.size,3,none⟩=some (.slice y1 nr.lit.shape.length u1)∧W.cell? ⟨w9.heap.size,4,none⟩=some (.slice y2 nr.lit.cells.length u2)∧W.cell? ⟨w9.heap.size,5,none⟩=some (.slice yk nr.kids.length uk)∧W.cell? ⟨w9.heap.size,6,none⟩=some (.int .i64 nr.pos)) (first | with_reducible exact KS.out _ HV0.out | with_reducible exact KS.out _ (by with_reducible assumption) | with_reducible exact KS.out _ (KT.out _ _ _ _ _ _ _ _ (by with_reducible assumption))) (first | (go_at_call 21; refine HC4'.out.mono ?_; rintro en w7 ⟨m2,i2,b1,d1,b2,d2,bk,dk,rfl,hx7,hv7⟩) | (go_at_call 36; refine (H36.out _ _ _ _ _ _ _ _ _ hx7).mono ?_; rintro en w8 ⟨g1,h1,g2,h2,gk,hk,rfl,hF8,hv8,RV8⟩; obtain ⟨r0,Q0⟩:=RV8.c 0 (by omega); have F0:=RV8.f 0; obtain ⟨r1,Q1⟩:=RV8.c 1 (by omega); have F1:=RV8.f 1; obtain ⟨r2,Q2⟩:=RV8.c 2 (by omega); have F2:=RV8.f 2; obtain ⟨r3,Q3⟩:=RV8.c 3 (by omega); have F3:=RV8.f 3; obtain ⟨r4,Q4⟩:=RV8.c 4 (by omega); have F4:=RV8.f 4; obtain ⟨r5,Q5⟩:=RV8.c 5 (by omega); have F5:=RV8.f 5; obtain ⟨r6,Q6⟩:=RV8.c 6 (by omega); have F6:=RV8.f 6))
        all_goals
         have HF8:=hide hF8
         clear hF8 hx7 RV8
         go_wp2
         refine bodyPost_ret (v:=.agg #[.int .i64 (mo1 nr nx).kind,.int .i64 (mo1 nr nx).op,.string (mo1 nr nx).name,.slice g1 (mo1 nr nx).lit.shape.length h1,.slice g2 (mo1 nr nx).lit.cells.length h2,.slice gk (mo1 nr nx).kids.length hk,.int .i64 (mo1 nr nx).pos]) (by simp [results,Try.results21,go_sem,Q0,Q1,Q2,Q3,Q4,Q5,Q6]) rfl (HF8.out _ ?_)
         repeat' first | with_reducible exact But.refl _ _ | with_reducible rfl | with_reducible refine butS ?_ ?_
end Go.Proofs.Ytnaejfoighmfeaa
namespace Go.Proofs.Ytnaejfoighmfeaa
open Go.ChangeShapes Go.WideShapes Go.ChangeAt Go.RowKit
set_option maxRecDepth 100000
set_option linter.unusedVariables false
set_option linter.unusedSimpArgs false
set_option maxHeartbeats 4000000 in
theorem expr_deep {n:Nat} {w0:World} {p:Nat} {g:Gr} {R:Raw} {ws:List Wo} {A:Ra} {e:Int}:CE n w0 p g R ws A e 0:=by
 intro w q i inn nm h hn
 obtain ⟨W1,e1⟩:∃ W1,w.alloc (.cells #[.int .i64 0,.int .i64 0,.string ⟨#[]⟩,.slice none 0 0,.slice none 0 0,.slice none 0 0,.int .i64 0] 39)=W1:=⟨_,rfl⟩
 have b1:Below w.heap.size w W1:=by rw [←e1]; exact one_alloc _ _
 have HEN:Hid (Calls Try.prog 33 #[.pointer (some ⟨p,0,none⟩),.int .i64 25] W1 fun en w'=>en=faultP 15 (placeR e (ws.drop i))∧Below W1.heap.size W1 w'):=hide ((enter33 (h.next b1) 0 (by omega)).mono fun en w' hh=>by
  rw [if_pos rfl] at hh; exact hh)
 have HE:=hide e1
 have HB1:=hide b1
 clear h hn e1 b1
 show Calls Try.prog 21 #[.pointer (some ⟨p,0,none⟩),.int .i64 25,namV inn q] w fun en w'=>GvE n w0 w p q g R ws A e inn nm (.bad 15 (placeR e (ws.drop i))) en w'
 generalize namV inn q=NV
 generalize placeR e (ws.drop i)=PL at *
 go_enter Try.func21,Try.ntmps21
 go_upto_region 1 with fail
 rw [HE.out]
 go_wp2_with fail
 refine HEN.out.mono ?_
 rintro en w2 ⟨rfl,hb2⟩
 go_wp2
 exact ⟨rfl,But.of (HB1.out.trans (hb2.mono HB1.out.size)),rfl⟩
theorem expr_step {n:Nat} {w0:World} {p:Nat} {g:Gr} {R:Raw} {ws:List Wo} {A:Ra} {e:Int} (d:Nat) (hd:d≤23) (IE:CE n w0 p g R ws A e d) (IF:CF n w0 p g R ws A e d):CE n w0 p g R ws A e (d+1):=by
 intro w q i inn nm h hn
 by_cases hW:wholeR g false (ws.drop i)=0
 ·exact expr_oper d hd IE IF h inn nm hn hW
 ·exact expr_fun d hd IE IF h inn nm hn hW
end Go.Proofs.Ytnaejfoighmfeaa
namespace Go.Proofs.Ytnaejfoighmfeaa
open Go.ChangeShapes Go.WideShapes Go.ChangeAt Go.RowKit
set_option maxRecDepth 100000
set_option linter.unusedVariables false
set_option linter.unusedSimpArgs false
set_option maxHeartbeats 4000000 in
theorem fun_deep {n:Nat} {w0:World} {p:Nat} {g:Gr} {R:Raw} {ws:List Wo} {A:Ra} {e:Int}:CF n w0 p g R ws A e 0:=by
 intro w i b h hW
 obtain ⟨W1,e1⟩:∃ W1,w.alloc (.cells #[.int .i64 0,.int .i64 0,.string ⟨#[]⟩,.slice none 0 0,.slice none 0 0,.slice none 0 0,.int .i64 0] 39)=W1:=⟨_,rfl⟩
 have b1:Below w.heap.size w W1:=by rw [←e1]; exact one_alloc _ _
 have HEN:Hid (Calls Try.prog 33 #[.pointer (some ⟨p,0,none⟩),.int .i64 25] W1 fun en w'=>en=faultP 15 (placeR e (ws.drop i))∧Below W1.heap.size W1 w'):=hide ((enter33 (h.next b1) 0 (by omega)).mono fun en w' hh=>by
  rw [if_pos rfl] at hh; exact hh)
 have HE:=hide e1
 have HB1:=hide b1
 clear h e1 b1 hW
 show Calls Try.prog 35 #[.pointer (some ⟨p,0,none⟩),.int .i64 25] w fun en w'=>GvF n w0 w p g R ws A e (.bad 15 (placeR e (ws.drop i))) en w'
 generalize placeR e (ws.drop i)=PL at *
 go_enter Try.func35,Try.ntmps35
 go_upto_region 1 with fail
 rw [HE.out]
 go_wp2_with fail
 refine HEN.out.mono ?_
 rintro en w2 ⟨rfl,hb2⟩
 go_wp2
 exact ⟨rfl,But.of (HB1.out.trans (hb2.mono HB1.out.size)),rfl⟩
theorem trk1 {n B m:Nat} {D:Nat→Prop} {w:World} {x:Nd} {a1 a2 ak:Option Addr} {c1 c2 ck:Nat} (hB:B≤w.heap.size) (hD:∀ k,D k→k < w.heap.size)
  (hx:TrD n B m D w x (.agg #[.int .i64 x.kind,.int .i64 x.op,.string x.name,.slice a1 x.lit.shape.length c1,.slice a2 x.lit.cells.length c2,.slice ak x.kids.length ck,.int .i64 x.pos])) (t:TypeId) :
  TrK (TrD n B m) (fun k=>D k ∨ k=w.heap.size) (w.alloc (.cells #[.int .i64 x.kind,.int .i64 x.op,.string x.name,.slice a1 x.lit.shape.length c1,.slice a2 x.lit.cells.length c2,.slice ak x.kids.length ck,.int .i64 x.pos] t)) [x] (some ⟨w.heap.size,0,none⟩):=by
 have hb:=one_alloc w (.cells #[.int .i64 x.kind,.int .i64 x.op,.string x.name,.slice a1 x.lit.shape.length c1,.slice a2 x.lit.cells.length c2,.slice ak x.kids.length ck,.int .i64 x.pos] t)
 refine Or.inr ⟨w.heap.size,fun _=>D,rfl,Or.inr rfl,by simp,fun o=>frozen_new _ _ _ _,fun j hj=>?_,fun j hj=>?_⟩
 ·have:j=0:=by simp at hj; omega
  subst this
  refine ⟨fun k hk=>⟨Or.inl hk,by have:=hD k hk; omega⟩,fun i hi hij k hk hk2=>?_⟩
  have:i=0:=by simp at hi; omega
  exact hij this
 ·have:j=0:=by simp at hj; omega
  subst this
  exact ⟨a1,c1,a2,c2,ak,ck,⟨cell_new0 w _ t 0 _ rfl,cell_new0 w _ t 1 _ rfl,cell_new0 w _ t 2 _ rfl,cell_new0 w _ t 3 _ rfl,cell_new0 w _ t 4 _ rfl,cell_new0 w _ t 5 _ rfl,cell_new0 w _ t 6 _ rfl⟩,hx.keep (KpD.of hb hB hD)⟩
end Go.Proofs.Ytnaejfoighmfeaa
namespace Go.Proofs.Ytnaejfoighmfeaa
open Go.ChangeShapes Go.WideShapes Go.ChangeAt Go.RowKit
set_option maxRecDepth 100000
set_option linter.unusedVariables false
set_option linter.unusedSimpArgs false
theorem lt_of_cell0 {w:World} {b o:Nat} {v:Value} (h:w.cell? ⟨b,o,none⟩=some v):b < w.heap.size:=by
 rcases Nat.lt_or_ge b w.heap.size with hh | hh
 ·exact hh
 ·unfold World.cell? at h
  rw [Array.getElem?_eq_none hh] at h
  cases h
theorem cell_keep {w W:World} {b o:Nat} {v:Value} (h:Below w.heap.size w W) (hc:w.cell? ⟨b,o,none⟩=some v):W.cell? ⟨b,o,none⟩=some v:=(h.cell (p:=⟨b,o,none⟩) (lt_of_cell0 hc)).trans hc
def st7 (W:World) (b:Nat) (K O:Int) (S:ByteArray) (s1 s2 sk:Value) (P:Int):World :=
 ((((((W.setCell ⟨b,0,none⟩ (.int .i64 K)).setCell ⟨b,1,none⟩ (.int .i64 O)).setCell ⟨b,2,none⟩ (.string S)).setCell ⟨b,3,none⟩ s1).setCell ⟨b,4,none⟩ s2).setCell ⟨b,5,none⟩ sk).setCell ⟨b,6,none⟩ (.int .i64 P)
section
variable {W:World} {b:Nat} {K' O':Int} {S':ByteArray} {s1' s2' sk':Value} {P':Int}
theorem st7_but (W:World) (b:Nat) (K O:Int) (S:ByteArray) (s1 s2 sk:Value) (P:Int):But (·=b) W (st7 W b K O S s1 s2 sk P) :=
 butS (butS (butS (butS (butS (butS (butS (But.refl _ _) rfl) rfl) rfl) rfl) rfl) rfl) rfl
theorem st7_frozen (W:World) (b:Nat) (K O:Int) (S:ByteArray) (s1 s2 sk:Value) (P:Int) (a:Addr) (h:W.frozen? a=false):(st7 W b K O S s1 s2 sk P).frozen? a=false :=
 fs_any (fs_any (fs_any (fs_any (fs_any (fs_any (fs_any h))))))
theorem st7_vn (h:Vn W b K' O' S' s1' s2' sk' P') (K O:Int) (S:ByteArray) (s1 s2 sk:Value) (P:Int):Vn (st7 W b K O S s1 s2 sk P) b K O S s1 s2 sk P:=by
 have hs:=(st7_but W b K O S s1 s2 sk P).size
 unfold st7 at hs ⊢
 exact ⟨Nat.lt_of_lt_of_le h.lt hs,cs_off (by simp) (cs_off (by simp) (cs_off (by simp) (cs_off (by simp) (cs_off (by simp) (cs_off (by simp) (cs_same h.c0)))))),
  cs_off (by simp) (cs_off (by simp) (cs_off (by simp) (cs_off (by simp) (cs_off (by simp) (cs_same (cs_off (by simp) h.c1)))))),
  cs_off (by simp) (cs_off (by simp) (cs_off (by simp) (cs_off (by simp) (cs_same (cs_off (by simp) (cs_off (by simp) h.c2)))))),
  cs_off (by simp) (cs_off (by simp) (cs_off (by simp) (cs_same (cs_off (by simp) (cs_off (by simp) (cs_off (by simp) h.c3)))))),
  cs_off (by simp) (cs_off (by simp) (cs_same (cs_off (by simp) (cs_off (by simp) (cs_off (by simp) (cs_off (by simp) h.c4)))))),
  cs_off (by simp) (cs_same (cs_off (by simp) (cs_off (by simp) (cs_off (by simp) (cs_off (by simp) (cs_off (by simp) h.c5)))))),
  cs_same (cs_off (by simp) (cs_off (by simp) (cs_off (by simp) (cs_off (by simp) (cs_off (by simp) (cs_off (by simp) h.c6))))))⟩
end
end Go.Proofs.Ytnaejfoighmfeaa
namespace Go.Proofs.Ytnaejfoighmfeaa
open Go.ChangeShapes Go.WideShapes Go.ChangeAt Go.RowKit
set_option maxRecDepth 100000
set_option linter.unusedVariables false
set_option linter.unusedSimpArgs false
theorem adv_step1 (g:Gr) (p:Int) (f:Nd) (x:Wo) (r:List Wo) (h:signT g.adverbs (x :: r)=true):advR g p f (x :: r)=advR g p (node 24 0 x.text [f] p) r:=by
 have h':signT g.adverbs [x]=true:=h
 cases r with
 | nil=>simp [advR,h']
 | cons y r=>simp [advR,h']
theorem adv_step2 (g:Gr) (p:Int) (f:Nd) (x y:Wo) (r:List Wo) (h:signT g.adverbs (x :: y :: r)=false) (h2:powT g (x :: y :: r)=true):advR g p f (x :: y :: r)=advR g p (node 26 (oftN y.lit) nost [f] p) r:=by
 have h':signT g.adverbs [x]=false:=h
 simp [advR,h',h2]
theorem adv_stop (g:Gr) (p:Int) (f:Nd) (l:List Wo) (h:signT g.adverbs l=false) (h2:powT g l=false):advR g p f l=(f,l):=by
 match l with
 | []=>rfl
 | [x] =>
  have h':signT g.adverbs [x]=false:=h
  simp [advR,h']
 | x :: y :: r =>
  have h':signT g.adverbs [x]=false:=h
  simp [advR,h',h2]
structure Av (n:Nat) (w0 w:World) (p:Nat) (g:Gr) (R:Raw) (ws:List Wo) (A:Ra) (e:Int) (D0:Nat→Prop) (i':Nat) (nd:Nd) (m:Nat) (D:Nat→Prop) (v:Value) (wr:World):Prop where
 but:But (·=p) w wr
 rd:Rd (n+1) w0 wr p g R ws A i' e
 tr:TrD (n+1) w0.heap.size m D wr nd v
 dd:∀ k,D k→D0 k ∨ w.heap.size+2≤k∧k < wr.heap.size
 rv:Rv wr (w.heap.size+1)
 fn:∀ o,wr.frozen? ⟨w.heap.size,o,none⟩=false
 sz:w.heap.size+2≤wr.heap.size
 pw:p < w.heap.size∧w0.heap.size≤p
theorem av_step {n:Nat} {w0 w wr wz W10:World} {p:Nat} {g:Gr} {R:Raw} {ws:List Wo} {A:Ra} {e:Int} {D0 D:Nat→Prop} {i' m:Nat} {nd:Nd} {a1 a2 ak:Option Addr} {c1 c2 ck:Nat} (h:Av n w0 w p g R ws A e D0 i' nd m D (.agg #[.int .i64 nd.kind,.int .i64 nd.op,.string nd.name,.slice a1 nd.lit.shape.length c1,.slice a2 nd.lit.cells.length c2,.slice ak nd.kids.length ck,.int .i64 nd.pos]) wr) (hv:Vn wr w.heap.size nd.kind nd.op nd.name (.slice a1 nd.lit.shape.length c1) (.slice a2 nd.lit.cells.length c2) (.slice ak nd.kids.length ck) nd.pos) (hD:∀ k,D0 k→k < w.heap.size∧p < k) (bz:Below wr.heap.size wr wz) (K O:Int) (TX:ByteArray) (PL:Int) (hts:TX.size≤140737488355328) (s:Nat) (hs:i'+s≤ws.length)
  (h10:Below (st7 (wz.alloc (.cells #[.int .i64 nd.kind,.int .i64 nd.op,.string nd.name,.slice a1 nd.lit.shape.length c1,.slice a2 nd.lit.cells.length c2,.slice ak nd.kids.length ck,.int .i64 nd.pos] 39)) w.heap.size K O TX (.slice none 0 0) (.slice none 0 0) (.slice (some ⟨wz.heap.size,0,none⟩) 1 1) PL).heap.size (st7 (wz.alloc (.cells #[.int .i64 nd.kind,.int .i64 nd.op,.string nd.name,.slice a1 nd.lit.shape.length c1,.slice a2 nd.lit.cells.length c2,.slice ak nd.kids.length ck,.int .i64 nd.pos] 39)) w.heap.size K O TX (.slice none 0 0) (.slice none 0 0) (.slice (some ⟨wz.heap.size,0,none⟩) 1 1) PL) W10) :
  W10.cell? ⟨p,19,none⟩=some (.int .i64 (i':Int))∧W10.frozen? ⟨p,19,none⟩=false∧Vn (W10.setCell ⟨p,19,none⟩ (.int .i64 ((i'+s:Nat):Int))) w.heap.size K O TX (.slice none 0 0) (.slice none 0 0) (.slice (some ⟨wz.heap.size,0,none⟩) 1 1) PL ∧
  Av n w0 w p g R ws A e D0 (i'+s) (node K O TX [nd] PL) (m+1) (fun k=>D k ∨ k=wz.heap.size) (.agg #[.int .i64 K,.int .i64 O,.string TX,.slice none 0 0,.slice none 0 0,.slice (some ⟨wz.heap.size,0,none⟩) 1 1,.int .i64 PL]) (W10.setCell ⟨p,19,none⟩ (.int .i64 ((i'+s:Nat):Int))):=by
 obtain ⟨W9,hW9⟩:∃ W9,wz.alloc (.cells #[.int .i64 nd.kind,.int .i64 nd.op,.string nd.name,.slice a1 nd.lit.shape.length c1,.slice a2 nd.lit.cells.length c2,.slice ak nd.kids.length ck,.int .i64 nd.pos] 39)=W9:=⟨_,rfl⟩
 have b9:Below wz.heap.size wz W9:=by rw [←hW9]; exact one_alloc _ _
 have s9:W9.heap.size=wz.heap.size+1:=by rw [←hW9]; simp
 rw [hW9] at h10
 have hzs:=bz.size
 have hrs:=h.sz
 have hpw:=h.pw
 have rd9:=(h.rd.next bz).next b9
 have vn9:=(hv.block bz.size (bz.block _ hv.lt)).block b9.size (b9.block _ (by omega))
 have fz9:∀ o,W9.frozen? ⟨w.heap.size,o,none⟩=false:=fun o=>(frozen_block (b9.block _ (by omega)) o).trans ((frozen_block (bz.block _ (by omega)) o).trans (h.fn o))
 have bst:=st7_but W9 w.heap.size K O TX (.slice none 0 0) (.slice none 0 0) (.slice (some ⟨wz.heap.size,0,none⟩) 1 1) PL
 have vst:=st7_vn vn9 K O TX (.slice none 0 0) (.slice none 0 0) (.slice (some ⟨wz.heap.size,0,none⟩) 1 1) PL
 have fst:=fun o=>st7_frozen W9 w.heap.size K O TX (.slice none 0 0) (.slice none 0 0) (.slice (some ⟨wz.heap.size,0,none⟩) 1 1) PL ⟨w.heap.size,o,none⟩ (fz9 o)
 generalize st7 W9 w.heap.size K O TX (.slice none 0 0) (.slice none 0 0) (.slice (some ⟨wz.heap.size,0,none⟩) 1 1) PL=X at *
 have b10:But (·=w.heap.size) W9 W10:=bst.trans (But.of h10) fun j _ hj=>hj
 have v10:=vst.block h10.size (h10.block _ vst.lt)
 have fz10:∀ o,W10.frozen? ⟨w.heap.size,o,none⟩=false:=fun o=>(frozen_block (h10.block _ vst.lt) o).trans (fst o)
 have h10s:=b10.size
 have rd10:=rd9.upto (b10.below (by omega) fun k hk=>by omega)
 have bm11:=rd10.moved (i'+s)
 have h11:=bm11.size
 have hDz:∀ k,D k→k < wr.heap.size:=fun k hk=>by
  rcases h.dd k hk with hh | hh
  ·have:=(hD k hh).1; omega
  ·omega
 have tz:=h.tr.keep (KpD.of bz (by omega) hDz)
 have hk9:=trk1 (B:=w0.heap.size) (n:=n+1) (by omega) (fun k hk=>by have:=hDz k hk; omega) tz 39
 rw [hW9] at hk9
 have tp9:=TrD.put (ck:=1) K O TX PL hts (by simp) hk9
 have hD':∀ k,(D k ∨ k=wz.heap.size)→(D0 k ∨ w.heap.size+2≤k∧k < W9.heap.size)∧k ≠ w.heap.size∧k ≠ p∧k < W9.heap.size:=fun k hk=>by
  rcases hk with hk | hk
  ·rcases h.dd k hk with hh | hh
   ·have:=hD k hh; exact ⟨Or.inl hh,by omega,by omega,by omega⟩
   ·exact ⟨Or.inr ⟨by omega,by omega⟩,by omega,by omega,by omega⟩
  ·exact ⟨Or.inr ⟨by omega,by omega⟩,by omega,by omega,by omega⟩
 have t10:=tp9.keep (KpD.but b10 (by omega) (fun k hk=>(hD' k hk).2.2.2) fun k hk=>⟨by omega,fun hh=>(hD' k hh).2.1 hk⟩)
 refine ⟨rd10.c19,rd10.fz,v10.but bm11 (by omega),((((h.but.trans (But.of bz) fun j _ hj=>hj).trans (But.of b9) fun j _ hj=>hj).trans b10 fun j hj hh=>by omega).trans bm11 fun j _ hj=>hj),rd10.move (i'+s) hs,t10.keep (KpD.but bm11 (by omega) (fun k hk=>by have:=(hD' k hk).2.2.2; omega) fun k hk=>⟨by omega,fun hh=>(hD' k hh).2.2.1 hk⟩),fun k hk=>?_,(((h.rv.block bz.size (bz.block _ (by omega))).block b9.size (b9.block _ (by omega))).but b10 (by omega)).but bm11 (by omega),fun o=>(frozen_block (bm11.block (by omega) (by omega)) o).trans (fz10 o),by omega,h.pw⟩
 rcases (hD' k hk).1 with hh | hh
 ·exact Or.inl hh
 ·exact Or.inr ⟨hh.1,by omega⟩
end Go.Proofs.Ytnaejfoighmfeaa
namespace Go.Proofs.Ytnaejfoighmfeaa
open Go.ChangeShapes Go.WideShapes Go.ChangeAt Go.RowKit
set_option maxRecDepth 100000
set_option linter.unusedVariables false
set_option linter.unusedSimpArgs false
set_option maxHeartbeats 16000000 in
theorem adverbs67 {n:Nat} {w0 w:World} {p:Nat} {g:Gr} {R:Raw} {ws:List Wo} {A:Ra} {i m0:Nat} {e PL:Int} {f:Nd} {vf:Value} {D0:Nat→Prop} (h:Rd (n+1) w0 w p g R ws A i e) (hD:∀ k,D0 k→k < w.heap.size∧p < k) (hf:TrD (n+1) w0.heap.size m0 D0 w f vf) :
  Calls Try.prog 67 #[.pointer (some ⟨p,0,none⟩),vf,.int .i64 PL] w fun en w'=>But (·=p) w w'∧∃ v m i',en=.returned v∧(advR g PL f (ws.drop i)).2=ws.drop i'∧Rd (n+1) w0 w' p g R ws A i' e∧TrD (n+1) w0.heap.size m (fun k=>D0 k ∨ Iv w.heap.size w'.heap.size k) w' (advR g PL f (ws.drop i)).1 v:=by
 obtain ⟨RES,hRES⟩:∃ RES,advR g PL f (ws.drop i)=RES:=⟨_,rfl⟩
 rw [hRES]
 have HR0:=hide hRES
 clear hRES
 have HF:=hide hf
 obtain ⟨m',hm',a1,c1,a2,c2,ak,ck,rfl,-⟩:=hf.form
 obtain ⟨W2,e2⟩:∃ W2,(w.alloc (.cells #[.int .i64 f.kind,.int .i64 f.op,.string f.name,.slice a1 f.lit.shape.length c1,.slice a2 f.lit.cells.length c2,.slice ak f.kids.length ck,.int .i64 f.pos] 39)).alloc (.cells #[.int .i64 0,.int .i64 0,.string ⟨#[]⟩,.slice none 0 0,.slice none 0 0,.slice none 0 0,.int .i64 0] 39)=W2:=⟨_,rfl⟩
 have b2:Below w.heap.size w W2:=by rw [←e2]; exact two_allocs _ _ _
 have s2:W2.heap.size=w.heap.size+2:=by rw [←e2]; simp
 have vn2:Vn W2 w.heap.size f.kind f.op f.name (.slice a1 f.lit.shape.length c1) (.slice a2 f.lit.cells.length c2) (.slice ak f.kids.length ck) f.pos:=by
  rw [←e2]
  have:=Vn.new w f.kind f.op f.name (.slice a1 f.lit.shape.length c1) (.slice a2 f.lit.cells.length c2) (.slice ak f.kids.length ck) f.pos
  exact this.block (one_alloc _ _).size ((one_alloc _ _).block _ (by simp))
 have rv2:Rv W2 (w.heap.size+1):=by
  rw [←e2]
  have:=Rv.new (w.alloc (.cells #[.int .i64 f.kind,.int .i64 f.op,.string f.name,.slice a1 f.lit.shape.length c1,.slice a2 f.lit.cells.length c2,.slice ak f.kids.length ck,.int .i64 f.pos] 39))
  rw [show (w.alloc (.cells #[.int .i64 f.kind,.int .i64 f.op,.string f.name,.slice a1 f.lit.shape.length c1,.slice a2 f.lit.cells.length c2,.slice ak f.kids.length ck,.int .i64 f.pos] 39)).heap.size=w.heap.size+1 by simp] at this
  exact this
 have fz2:∀ o,W2.frozen? ⟨w.heap.size,o,none⟩=false:=fun o=>by
  have:(w.alloc (.cells #[.int .i64 f.kind,.int .i64 f.op,.string f.name,.slice a1 f.lit.shape.length c1,.slice a2 f.lit.cells.length c2,.slice ak f.kids.length ck,.int .i64 f.pos] 39)).frozen? ⟨w.heap.size,o,none⟩=false:=frozen_new _ _ _ _
  rw [←e2]
  exact (frozen_block ((one_alloc _ _).block _ (by simp)) o).trans this
 have hL:=h.sp.sn.words
 have hpw:=h.sp.sn.hp2
 have hBw:=h.sp.sn.old.size
 have hB0:=h.sp.sn.hp
 have AV0:Hid (Av n w0 w p g R ws A e D0 i f m0 D0 (.agg #[.int .i64 f.kind,.int .i64 f.op,.string f.name,.slice a1 f.lit.shape.length c1,.slice a2 f.lit.cells.length c2,.slice ak f.kids.length ck,.int .i64 f.pos]) W2):=⟨But.of b2,h.next b2,HF.out.keep (KpD.of b2 hBw fun k hk=>(hD k hk).1),fun k hk=>Or.inl hk,rv2,fz2,by omega,hpw,hB0⟩
 have HV0:=hide vn2
 have HDD:=hide hD
 have HE:=hide e2
 clear h hf b2 s2 vn2 rv2 fz2 hD e2 hm' HF
 go_enter Try.func67,Try.ntmps67
 go_upto_region 2 with fail
 rw [HE.out]
 clear HE
 go_loopg [7] (ws.length+1 - i) (fun gm s7 wr=>∃ (i':Nat) (nd:Nd) (m:Nat) (D:Nat→Prop) (a1:Option Addr) (c1:Nat) (a2:Option Addr) (c2:Nat) (ak:Option Addr) (ck:Nat),gm=ws.length+1 - i'∧RES=advR g PL nd (ws.drop i')∧Vn wr w.heap.size nd.kind nd.op nd.name (.slice a1 nd.lit.shape.length c1) (.slice a2 nd.lit.cells.length c2) (.slice ak nd.kids.length ck) nd.pos∧Av n w0 w p g R ws A e D0 i' nd m D (.agg #[.int .i64 nd.kind,.int .i64 nd.op,.string nd.name,.slice a1 nd.lit.shape.length c1,.slice a2 nd.lit.cells.length c2,.slice ak nd.kids.length ck,.int .i64 nd.pos]) wr)
 case atStart=>exact ⟨i,f,m0,D0,a1,c1,a2,c2,ak,ck,rfl,HR0.out.symm,HV0.out,AV0.out⟩
 case round =>
  clear HV0 AV0 HR0
  obtain ⟨i',nd,m,D,a1,c1,a2,c2,ak,ck,rfl,hres,hvn,hav⟩:=hrel
  have hi':=hav.rd.hi
  have HAV:=hide hav
  have HVN:=hide hvn
  have HDW:Hid (∀ k,Below wr.heap.size wr (wr.drewN k)):=fun k=>drewN_below (Below.refl wr.heap.size wr) k
  have c1:=hav.rd.sp.sn.c1
  have c19:=hav.rd.c19
  have c1n:=fun k=>(hav.rd.next (HDW.out k)).sp.sn.c1
  have c19n:=fun k=>(hav.rd.next (HDW.out k)).c19
  have H61:=hide (fun k=>sign61 (hav.rd.next (HDW.out k)).sp.sn i' (by omega) hav.rd.sp.sn.sa R.ca)
  have HRES:=hide hres
  clear hres hvn hav
  cases hT1:signT g.adverbs (ws.drop i') with
  | true =>
   have hlt:i' < ws.length:=by
    rcases Nat.lt_or_ge i' ws.length with hh | hh
    ·exact hh
    ·rw [drop_end (by omega)] at hT1; cases hT1
   simp only [hT1] at H61
   go_upto_region 2 with fail
   go_quiet ((go_at_call 61; first | exact Calls.quiet_of_same (H61.out 0) | exact Calls.quiet_of_same (H61.out _)))
   go_upto_region 3 with fail
   obtain ⟨wz,hwz⟩:∃ wz,wr.drewN nq=wz:=⟨_,rfl⟩
   have bz:Below wr.heap.size wr wz:=by rw [←hwz]; exact HDW.out _
   rw [hwz]
   clear hwz c1 c19 c1n c19n H61 HDW
   have rdz:=HAV.out.rd.next bz
   obtain ⟨b,off,z1,m1,z2,m2,ha,g0,g1,-,-,-,hts,-⟩:=rdz.sp.sn.word hlt
   have c14:=rdz.sp.sn.c14
   rw [ha] at c14
   have c19:=rdz.c19
   have vnz:=HVN.out.block bz.size (bz.block _ HVN.out.lt)
   have vnz0:=vnz
   obtain ⟨-,x0,x1,x2,x3,x4,x5,x6⟩:=vnz
   clear ha
   generalize (wAt ws i').kind=KI at *
   obtain ⟨TX,hTX⟩:∃ TX,(wAt ws i').text=TX:=⟨_,rfl⟩
   rw [hTX] at g1 hts
   have HTS:=hide hts.1
   clear hts
   have HRS:=hide (show RES=advR g PL (node 24 0 TX [nd] PL) (ws.drop (i'+1)) by rw [HRES.out,drop_at hlt,← hTX]; exact adv_step1 _ _ _ _ _ (by rw [drop_at hlt] at hT1; exact hT1))
   obtain ⟨LW,hLW⟩:∃ LW,ws.length=LW:=⟨_,rfl⟩
   rw [hLW] at c14
   have hltW:i' < LW:=by omega
   have HZ:=hide bz
   have HSTEP:=hide (fun W10 h10=>av_step HAV.out HVN.out HDD.out bz 24 0 TX PL HTS.out 1 (by omega) (W10:=W10) h10)
   obtain ⟨W9,hW9⟩:∃ W9,wz.alloc (.cells #[.int .i64 nd.kind,.int .i64 nd.op,.string nd.name,.slice a1 nd.lit.shape.length c1,.slice a2 nd.lit.cells.length c2,.slice ak nd.kids.length ck,.int .i64 nd.pos] 39)=W9:=⟨_,rfl⟩
   rw [hW9] at HSTEP
   have b9:Below wz.heap.size wz W9:=by rw [←hW9]; exact one_alloc _ _
   have s9:W9.heap.size=wz.heap.size+1:=by rw [←hW9]; simp
   have rd9:=rdz.next b9
   have d14:W9.cell? ⟨p,14,none⟩=some (.slice (some ⟨b,off,none⟩) LW R.cw):=(b9.cell (p:=⟨p,14,none⟩) rdz.sp.sn.hp2).trans c14
   have d19:=rd9.c19
   have d1:W9.cell? ⟨b,off+i' * 5+1,none⟩=some (.string TX):=cell_keep b9 g1
   have hbl:w.heap.size < wz.heap.size:=by have:=HAV.out.sz; have:=HZ.out.size; omega
   have vn9:=vnz0.block b9.size (b9.block _ hbl)
   have fz9:∀ o,W9.frozen? ⟨w.heap.size,o,none⟩=false:=fun o=>(frozen_block (b9.block _ hbl) o).trans ((frozen_block (HZ.out.block _ (by have:=HAV.out.sz; omega)) o).trans (HAV.out.fn o))
   obtain ⟨-,u0,u1,u2,u3,u4,u5,u6⟩:=vn9
   have f0:=fz9 0
   have f1:=fz9 1
   have f2:=fz9 2
   have f3:=fz9 3
   have f4:=fz9 4
   have f5:=fz9 5
   have f6:=fz9 6
   clear bz rdz hLW b9 rd9 s9 fz9 vnz0 HAV HVN HRES HDD HZ
   go_region
   all_goals
    obtain ⟨W10,hW10⟩:∃ W10,(((((((W9.setCell ⟨w.heap.size,0,none⟩ (.int .i64 24)).setCell ⟨w.heap.size,1,none⟩ (.int .i64 0)).setCell ⟨w.heap.size,2,none⟩ (.string TX)).setCell ⟨w.heap.size,3,none⟩ (.slice none 0 0)).setCell ⟨w.heap.size,4,none⟩ (.slice none 0 0)).setCell ⟨w.heap.size,5,none⟩ (.slice (some ⟨wz.heap.size,0,none⟩) 1 1)).setCell ⟨w.heap.size,6,none⟩ (.int .i64 PL)).drew=W10:=⟨_,rfl⟩
    obtain ⟨q19,qf,hv11,hav11⟩:=HSTEP.out W10 (by rw [←hW10]; exact (Below.refl _ _).drew)
    rw [show ((i'+1:Nat):Int)=(i':Int)+1 by simp] at hv11 hav11
    have HV11:=hide hv11
    have HAV11:=hide hav11
    have HE10:=hide hW10
    clear hv11 hav11 hW10 HSTEP x0 x1 x2 x3 x4 x5 x6 u0 u1 u2 u3 u4 u5 u6 f0 f1 f2 f3 f4 f5 f6 g0 g1 c14 c19 d14 d19 d1 hW9
    go_upto_region 4 with fail
    rw [HE10.out]
    clear HE10
    go_wp2
    go_roundg (ws.length+1 - (i'+1))
    case rel=>exact ⟨i'+1,node 24 0 TX [nd] PL,m+1,_,none,0,none,0,some ⟨wz.heap.size,0,none⟩,1,rfl,HRS.out,HV11.out,HAV11.out⟩
    case measure=>omega
  | false =>
   simp only [hT1] at H61
   go_upto_region 2 with fail
   go_quiet ((go_at_call 61; first | exact Calls.quiet_of_same (H61.out 0) | exact Calls.quiet_of_same (H61.out _)))
   go_upto_region 5 with fail
   obtain ⟨wy,hwy⟩:∃ wy,wr.drewN nq=wy:=⟨_,rfl⟩
   have by_:Below wr.heap.size wr wy:=by rw [←hwy]; exact HDW.out _
   rw [hwy]
   clear hwy c1 c19 c1n c19n H61 HDW
   have rdy:=HAV.out.rd.next by_
   have KS:Hid (∀ W,Below wy.heap.size wy W→Below wy.heap.size wy W∧W.cell? ⟨p,19,none⟩=some (.int .i64 (i':Int))):=fun W hW=>⟨hW,(rdy.next hW).c19⟩
   have HD0:Hid (Below wy.heap.size wy wy.drew):=(Below.refl _ _).drew
   have H62:=hide (fun W (hW:Below wy.heap.size wy W)=>(power62 (rdy.next hW).sp.sn i' (by omega)).mono fun e w' (h:_∧_)=>(⟨h.1,hW.trans (h.2.mono hW.size)⟩:_∧Below wy.heap.size wy w'))
   obtain ⟨-,c19⟩:=KS.out wy (Below.refl _ _)
   have HBY:=hide by_
   clear by_ rdy
   cases hT2:powT g (ws.drop i') with
   | false =>
    simp only [hT2] at H62
    have HRS:=hide (show RES=(nd,ws.drop i') by rw [HRES.out]; exact adv_stop _ _ _ _ hT1 hT2)
    go_region_held3 (fun W=>Below wy.heap.size wy W∧W.cell? ⟨p,19,none⟩=some (.int .i64 (i':Int))) (first | with_reducible exact KS.out _ HD0.out | with_reducible exact KS.out _ (by with_reducible assumption)) (first | (go_at_call 62; refine (H62.out _ HD0.out).mono ?_; rintro e w6 ⟨rfl,hb6⟩))
    have bz:Below wr.heap.size wr w6:=HBY.out.trans (hb6.mono HBY.out.size)
    have HDE:∀ k,D k→(D0 k ∨ w.heap.size+2≤k∧k < wr.heap.size)∧k < wr.heap.size∧k ≠ w.heap.size+1:=fun k hk=>by
     have hs:=HAV.out.sz
     rcases HAV.out.dd k hk with hh | hh
     ·have:=(HDD.out k hh).1; exact ⟨Or.inl hh,by omega,by omega⟩
     ·exact ⟨Or.inr hh,by omega,by omega⟩
    have HFIN:Hid (∀ wf,But (·=w.heap.size+1) w6 wf→But (·=p) w wf∧∃ v m i'',Ending.returned (.agg #[.int .i64 nd.kind,.int .i64 nd.op,.string nd.name,.slice a1 nd.lit.shape.length c1,.slice a2 nd.lit.cells.length c2,.slice ak nd.kids.length ck,.int .i64 nd.pos])=.returned v∧RES.2=ws.drop i''∧Rd (n+1) w0 wf p g R ws A i'' e∧TrD (n+1) w0.heap.size m (fun k=>D0 k ∨ Iv w.heap.size wf.heap.size k) wf RES.1 v):=fun wf hf=>by
     have hs:=HAV.out.sz
     have h6:=bz.size
     have hfs:=hf.size
     have hpw:=HAV.out.pw
     refine ⟨(HAV.out.but.trans (But.of bz) fun j _ hj=>hj).trans hf fun j hj hh=>by omega,_,m,i',rfl,by rw [HRS.out],(HAV.out.rd.next bz).upto (hf.below (by omega) fun k hk=>by omega),?_⟩
     rw [HRS.out]
     have t6:=HAV.out.tr.keep (KpD.of bz (by omega) fun k hk=>(HDE k hk).2.1)
     have tf:=t6.keep (KpD.but hf (by omega) (fun k hk=>by have:=(HDE k hk).2.1; omega) fun k hk=>⟨by omega,fun hh=>(HDE k hh).2.2 hk⟩)
     exact tf.wide fun k hk=>(HDE k hk).1.elim Or.inl fun hh=>Or.inr ⟨by omega,by omega⟩
    have VN:=hide (HVN.out.block bz.size (bz.block _ HVN.out.lt))
    have HRV:=hide (HAV.out.rv.block bz.size (bz.block _ HAV.out.rv.lt))
    clear HDE HAV HVN HRES HRS HBY H62 KS HD0 c19 hb6 bz HDD
    obtain ⟨-,v0,v1,v2,v3,v4,v5,v6⟩:=VN.out
    have RV:=HRV.out
    obtain ⟨r0,Q0⟩:=RV.c 0 (by omega)
    have F0:=RV.f 0
    obtain ⟨r1,Q1⟩:=RV.c 1 (by omega)
    have F1:=RV.f 1
    obtain ⟨r2,Q2⟩:=RV.c 2 (by omega)
    have F2:=RV.f 2
    obtain ⟨r3,Q3⟩:=RV.c 3 (by omega)
    have F3:=RV.f 3
    obtain ⟨r4,Q4⟩:=RV.c 4 (by omega)
    have F4:=RV.f 4
    obtain ⟨r5,Q5⟩:=RV.c 5 (by omega)
    have F5:=RV.f 5
    obtain ⟨r6,Q6⟩:=RV.c 6 (by omega)
    have F6:=RV.f 6
    clear RV HRV VN
    go_wp2
    refine bodyPost_ret (v:=.agg #[.int .i64 nd.kind,.int .i64 nd.op,.string nd.name,.slice a1 nd.lit.shape.length c1,.slice a2 nd.lit.cells.length c2,.slice ak nd.kids.length ck,.int .i64 nd.pos]) (by simp [results,Try.results67,go_sem,Q0,Q1,Q2,Q3,Q4,Q5,Q6]) rfl (HFIN.out _ ?_)
    repeat' first | with_reducible exact But.refl _ _ | with_reducible rfl | with_reducible refine butS ?_ ?_
   | true =>
    have hlt:i'+1 < ws.length:=by
     rcases Nat.lt_or_ge (i'+1) ws.length with h | h
     ·exact h
     ·by_cases h1:i' < ws.length
      ·rw [drop_at h1,drop_end (by omega)] at hT2; cases hT2
      ·rw [drop_end h1] at hT2; cases hT2
    simp only [hT2] at H62
    go_region_held3 (fun W=>Below wy.heap.size wy W∧W.cell? ⟨p,19,none⟩=some (.int .i64 (i':Int))) (first | with_reducible exact KS.out _ HD0.out | with_reducible exact KS.out _ (by with_reducible assumption)) (first | (go_at_call 62; refine (H62.out _ HD0.out).mono ?_; rintro e w6 ⟨rfl,hb6⟩))
    have bz6:Below wr.heap.size wr w6:=HBY.out.trans (hb6.mono HBY.out.size)
    clear HBY H62 KS HD0 c19 hb6
    go_upto_region 6 with fail
    have rd6:=HAV.out.rd.next bz6
    obtain ⟨b,off,z1,m1,z2,m2,ha,-,-,g2,g3,-,-,hAr⟩:=rd6.sp.sn.word hlt
    have c14:=rd6.sp.sn.c14
    rw [ha] at c14
    obtain ⟨LW,hLW⟩:∃ LW,ws.length=LW:=⟨_,rfl⟩
    rw [hLW] at c14
    have HRS:=hide (show RES=advR g PL (node 26 (oftN (wAt ws (i'+1)).lit) nost [nd] PL) (ws.drop (i'+2)) by
     rw [HRES.out]
     rw [drop_at (i:=i') (by omega),drop_at hlt] at hT1 hT2 ⊢
     exact adv_step2 _ _ _ _ _ _ hT1 hT2)
    have KS:Hid (∀ W,Below w6.heap.size w6 W→Below w6.heap.size w6 W∧W.cell? ⟨p,14,none⟩=some (.slice (some ⟨b,off,none⟩) LW R.cw)∧W.cell? ⟨p,19,none⟩=some (.int .i64 (i':Int))∧W.cell? ⟨b,off+(i'+1) * 5+2,none⟩=some (.slice z1 (wAt ws (i'+1)).lit.shape.length m1)∧W.cell? ⟨b,off+(i'+1) * 5+3,none⟩=some (.slice z2 (wAt ws (i'+1)).lit.cells.length m2)):=fun W hW=>⟨hW,cell_keep hW c14,(rd6.next hW).c19,cell_keep hW g2,cell_keep hW g3⟩
    have HD0:Hid (Below w6.heap.size w6 w6.drew):=(Below.refl _ _).drew
    have H71:=hide (fun W (hW:Below w6.heap.size w6 W)=>(often71 (hAr.next hW)).mono fun e w' (h:_∧_)=>(⟨h.1,hW.trans (h.2.mono hW.size)⟩:_∧Below w6.heap.size w6 w'))
    have HB6:=hide bz6
    obtain ⟨J,hJ⟩:∃ J,i'+1=J:=⟨_,rfl⟩
    rw [hJ] at KS H71 HRS
    have hltW:J < LW:=by omega
    have hw1:IntKind.i64.wrap ((i':Int)+1)=(J:Int):=(IntWalk.i64_in _ ⟨by omega,by omega⟩).trans (by omega)
    have HJ:=hide hJ
    clear rd6 hJ hAr g2 g3 c14 ha bz6 hT1 hT2 HRES hLW
    generalize oftN (wAt ws J).lit=ON at *
    generalize oftB (wAt ws J).lit=OB at *
    generalize (wAt ws J).lit.shape.length=l1 at *
    generalize (wAt ws J).lit.cells.length=l2 at *
    obtain ⟨-,c14,c19,g2,g3⟩:=KS.out w6 (Below.refl _ _)
    generalize R.cw=cw at *
    go_region_held3 (fun W=>Below w6.heap.size w6 W∧W.cell? ⟨p,14,none⟩=some (.slice (some ⟨b,off,none⟩) LW cw)∧W.cell? ⟨p,19,none⟩=some (.int .i64 (i':Int))∧W.cell? ⟨b,off+J * 5+2,none⟩=some (.slice z1 l1 m1)∧W.cell? ⟨b,off+J * 5+3,none⟩=some (.slice z2 l2 m2)) (first | with_reducible exact KS.out _ HD0.out | with_reducible exact KS.out _ (by with_reducible assumption)) (first | (go_at_call 71; refine (H71.out _ HD0.out).mono ?_; rintro e w7 ⟨rfl,hb7⟩))
    have bz:Below wr.heap.size wr w7:=HB6.out.trans (hb7.mono HB6.out.size)
    have HSTEP:=hide (fun W10 h10=>av_step HAV.out HVN.out HDD.out bz 26 ON nost PL (Nat.zero_le _) 2 (by omega) (W10:=W10) h10)
    have HZ:=hide bz
    obtain ⟨W9,hW9⟩:∃ W9,w7.alloc (.cells #[.int .i64 nd.kind,.int .i64 nd.op,.string nd.name,.slice a1 nd.lit.shape.length c1,.slice a2 nd.lit.cells.length c2,.slice ak nd.kids.length ck,.int .i64 nd.pos] 39)=W9:=⟨_,rfl⟩
    rw [hW9] at HSTEP
    have b9:Below w7.heap.size w7 W9:=by rw [←hW9]; exact one_alloc _ _
    have hbl:w.heap.size < w7.heap.size:=by have:=HAV.out.sz; have:=HZ.out.size; omega
    have vnz:=HVN.out.block bz.size (bz.block _ HVN.out.lt)
    have vn9:=vnz.block b9.size (b9.block _ hbl)
    have fz9:∀ o,W9.frozen? ⟨w.heap.size,o,none⟩=false:=fun o=>(frozen_block (b9.block _ hbl) o).trans ((frozen_block (HZ.out.block _ (by have:=HAV.out.sz; omega)) o).trans (HAV.out.fn o))
    obtain ⟨-,x0,x1,x2,x3,x4,x5,x6⟩:=vnz
    obtain ⟨-,u0,u1,u2,u3,u4,u5,u6⟩:=vn9
    have f0:=fz9 0
    have f1:=fz9 1
    have f2:=fz9 2
    have f3:=fz9 3
    have f4:=fz9 4
    have f5:=fz9 5
    have f6:=fz9 6
    clear bz b9 fz9 HAV HVN HDD HZ KS H71 HD0 hb7 HB6 c14 c19 g2 g3
    go_upto_region 8 with fail
    obtain ⟨W10,hW10⟩:∃ W10,((((((W9.setCell ⟨w.heap.size,0,none⟩ (.int .i64 26)).setCell ⟨w.heap.size,1,none⟩ (.int .i64 ON)).setCell ⟨w.heap.size,2,none⟩ (.string ⟨#[]⟩)).setCell ⟨w.heap.size,3,none⟩ (.slice none 0 0)).setCell ⟨w.heap.size,4,none⟩ (.slice none 0 0)).setCell ⟨w.heap.size,5,none⟩ (.slice (some ⟨w7.heap.size,0,none⟩) 1 1)).setCell ⟨w.heap.size,6,none⟩ (.int .i64 PL)=W10:=⟨_,rfl⟩
    obtain ⟨q19,qf,hv11,hav11⟩:=HSTEP.out W10 (by rw [←hW10]; exact Below.refl _ _)
    rw [show ((i'+2:Nat):Int)=(i':Int)+2 by simp] at hv11 hav11
    have HV11:=hide hv11
    have HAV11:=hide hav11
    have HE10:=hide hW10
    clear hv11 hav11 hW10 HSTEP x0 x1 x2 x3 x4 x5 x6 u0 u1 u2 u3 u4 u5 u6 f0 f1 f2 f3 f4 f5 f6 hW9
    rw [HE10.out]
    clear HE10
    go_wp2
    go_roundg (ws.length+1 - (i'+2))
    case rel=>exact ⟨i'+2,node 26 ON nost [nd] PL,m+1,_,none,0,none,0,some ⟨w7.heap.size,0,none⟩,1,rfl,HRS.out,HV11.out,HAV11.out⟩
    case measure=>omega
end Go.Proofs.Ytnaejfoighmfeaa
