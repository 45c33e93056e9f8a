import Derived.Test.YtnaejfoighmfeaaM7
import Derived.Laws.BitsAllLaws
import Derived.Lib.Bits
import Derived.Test.YtnaejfoighmfeaaChecked
import GoSem.Claim
import GoSem.ClaimJoined
import GoSem.ClaimMapViews
import Derived.JoinedTies
import Derived.KernelRfl
import Derived.WalkKit
import Derived.ProofKit
import Derived.Below
import Derived.Deep.QuietTactic
import Derived.BigQuiet
import Derived.Lib.SlBytesConst
import Derived.Laws.BytesArg
import Derived.Laws.MakeOwn
import Derived.Deep.RegionHeld3
import Derived.Laws.AppendOwnNone
import Derived.BigFrame
import Derived.OpenShut
import Derived.ChangeOld
import Derived.SizedLaws
import Derived.Deep.DeepHandedRow
import Derived.Lib.LaidTab
import Derived.Deep.OwnRows
import Derived.Deep.RegionWith
import Derived.Deep.Slices
import Derived.Deep.Strs
import Derived.Deep.LoopGhost
import Derived.Lib.ConvBytes
import Derived.Deep.RegionLaw
import Derived.Deep.CutRange
import Derived.Lib.SliceRun
import Derived.WalkLawsBesides
import Derived.Maps.AppendAt
import Derived.Deep.MidRow
import Derived.Defers
import Derived.Recover
import Derived.Deep.Cut
import Derived.ChangeMaps5
namespace Go.Proofs.Ytnaejfoighmfeaa.Rn
open Go.ChangeShapes Go.WideShapes Go.ChangeAt Go.RowKit
set_option maxRecDepth 100000
set_option linter.unusedVariables false
set_option linter.unusedSimpArgs false
def smB (c:Int):Bool:=decide (97≤c)&&decide (c≤122)
def GvN (s:ByteArray) (a:Nat) (w:World) (e:Ending) (w':World):Prop:=Below w.heap.size w w'∧∃ (kd:Int) (tx:ByteArray) (st:Nat) (ok:Bool),e=.returned (.tuple #[.agg #[.int .i64 kd,.string tx,.slice none 0 0,.slice none 0 0,.int .i64 (a:Int)],.int .i64 (st:Int),.bool ok])∧a<st∧st≤s.size∧tx.size≤s.size
theorem cutS_size (s:ByteArray) (a b:Nat) (h1:a≤b) (h2:b≤s.size):(cutS s a b).size=b-a:=by
 have h:=congrArg List.length (cutS_nums s a b)
 rw [numsS_len,List.length_take,List.length_drop,numsS_len] at h
 omega
theorem Cs.set01 {W:World} {s:Nat} {a0 a1 a2 a3 a4 b0 b1:Value} (h:Cs W s [a0,a1,a2,a3,a4]):Cs ((W.setCell ⟨s,0,none⟩ b0).setCell ⟨s,1,none⟩ b1) s [b0,b1,a2,a3,a4]∧But (·=s) W ((W.setCell ⟨s,0,none⟩ b0).setCell ⟨s,1,none⟩ b1):=by
 have hb:But (·=s) W ((W.setCell ⟨s,0,none⟩ b0).setCell ⟨s,1,none⟩ b1):=butS (butS (But.refl _ _) rfl) rfl
 refine ⟨⟨Nat.lt_of_lt_of_le h.lt hb.size,fun k v hv=>?_,fun k=>fs_any (fs_any (h.z k))⟩,hb⟩
 have hk:k<5:=by
  have:=(List.getElem?_eq_some_iff.1 hv).1
  simpa using this
 rcases (by omega:k=0∨k=1∨k=2∨k=3∨k=4) with rfl|rfl|rfl|rfl|rfl
 ·cases hv;exact cs_off (by omega) (cs_same (h.c 0 _ rfl))
 ·cases hv;exact cs_same (cs_off (by omega) (h.c 1 _ rfl))
 ·cases hv;exact cs_off (by omega) (cs_off (by omega) (h.c 2 _ rfl))
 ·cases hv;exact cs_off (by omega) (cs_off (by omega) (h.c 3 _ rfl))
 ·cases hv;exact cs_off (by omega) (cs_off (by omega) (h.c 4 _ rfl))
theorem fin5 {w V:World} {us:List Value} (hR:Cs V w.heap.size us) (hl:5≤us.length) (hb:Below w.heap.size w V) (v0 v1 v2 v3 v4:Value) :
  ((((((V.setCell ⟨w.heap.size,0,none⟩ v0).setCell ⟨w.heap.size,1,none⟩ v1).setCell ⟨w.heap.size,2,none⟩ v2).setCell ⟨w.heap.size,3,none⟩ v3).setCell ⟨w.heap.size,4,none⟩ v4).drew.cell? ⟨w.heap.size,0,none⟩=some v0 ∧
  (((((V.setCell ⟨w.heap.size,0,none⟩ v0).setCell ⟨w.heap.size,1,none⟩ v1).setCell ⟨w.heap.size,2,none⟩ v2).setCell ⟨w.heap.size,3,none⟩ v3).setCell ⟨w.heap.size,4,none⟩ v4).drew.cell? ⟨w.heap.size,1,none⟩=some v1 ∧
  (((((V.setCell ⟨w.heap.size,0,none⟩ v0).setCell ⟨w.heap.size,1,none⟩ v1).setCell ⟨w.heap.size,2,none⟩ v2).setCell ⟨w.heap.size,3,none⟩ v3).setCell ⟨w.heap.size,4,none⟩ v4).drew.cell? ⟨w.heap.size,2,none⟩=some v2 ∧
  (((((V.setCell ⟨w.heap.size,0,none⟩ v0).setCell ⟨w.heap.size,1,none⟩ v1).setCell ⟨w.heap.size,2,none⟩ v2).setCell ⟨w.heap.size,3,none⟩ v3).setCell ⟨w.heap.size,4,none⟩ v4).drew.cell? ⟨w.heap.size,3,none⟩=some v3 ∧
  (((((V.setCell ⟨w.heap.size,0,none⟩ v0).setCell ⟨w.heap.size,1,none⟩ v1).setCell ⟨w.heap.size,2,none⟩ v2).setCell ⟨w.heap.size,3,none⟩ v3).setCell ⟨w.heap.size,4,none⟩ v4).drew.cell? ⟨w.heap.size,4,none⟩=some v4) ∧
  Below w.heap.size w (((((V.setCell ⟨w.heap.size,0,none⟩ v0).setCell ⟨w.heap.size,1,none⟩ v1).setCell ⟨w.heap.size,2,none⟩ v2).setCell ⟨w.heap.size,3,none⟩ v3).setCell ⟨w.heap.size,4,none⟩ v4).drew:=by
 obtain ⟨W9,hW9⟩:∃ W9,((((V.setCell ⟨w.heap.size,0,none⟩ v0).setCell ⟨w.heap.size,1,none⟩ v1).setCell ⟨w.heap.size,2,none⟩ v2).setCell ⟨w.heap.size,3,none⟩ v3).setCell ⟨w.heap.size,4,none⟩ v4=W9:=⟨_,rfl⟩
 have e:V.setCells w.heap.size 0 [v0,v1,v2,v3,v4]=((((V.setCell ⟨w.heap.size,0,none⟩ v0).setCell ⟨w.heap.size,1,none⟩ v1).setCell ⟨w.heap.size,2,none⟩ v2).setCell ⟨w.heap.size,3,none⟩ v3).setCell ⟨w.heap.size,4,none⟩ v4:=by simp [World.setCells]
 have h:=put5 (vs:=[v0,v1,v2,v3,v4]) hR hl hb (e.trans hW9)
 rw [hW9]
 exact ⟨⟨h.1.c 0 _ rfl,h.1.c 1 _ rfl,h.1.c 2 _ rfl,h.1.c 3 _ rfl,h.1.c 4 _ rfl⟩,h.2.drew⟩
set_option maxHeartbeats 2000000 in
theorem small52 (c:Int) (w:World):Calls Try.prog 52 #[.int .u8 c] w fun e w'=>e=.returned (.bool (smB c))∧w'=w:=by
 by_cases h1:97≤c
 ·by_cases h2:c≤122
  ·go_enter Try.func52,Try.ntmps52
   go_wp2
   go_ret
   exact ⟨retB (by simp [smB,h1,h2]),rfl⟩
  ·go_enter Try.func52,Try.ntmps52
   go_wp2
   go_ret
   exact ⟨retB (by simp [smB,h1,h2]),rfl⟩
 ·go_enter Try.func52,Try.ntmps52
  go_wp2
  go_ret
  exact ⟨retB (by simp [smB,h1];omega),rfl⟩
set_option maxHeartbeats 2000000 in
theorem small58 (c:Int) (w:World):Calls Try.prog 58 #[.int .u8 c] w fun e w'=>e=.returned (.bool (smB c))∧w'=w:=by
 by_cases h1:97≤c
 ·by_cases h2:c≤122
  ·go_enter Try.func58,Try.ntmps58
   go_wp2
   go_ret
   exact ⟨retB (by simp [smB,h1,h2]),rfl⟩
  ·go_enter Try.func58,Try.ntmps58
   go_wp2
   go_ret
   exact ⟨retB (by simp [smB,h1,h2]),rfl⟩
 ·go_enter Try.func58,Try.ntmps58
  go_wp2
  go_ret
  exact ⟨retB (by simp [smB,h1];omega),rfl⟩
set_option maxHeartbeats 16000000 in
theorem word59 (s:ByteArray) (a:Nat) (ha:a<s.size) (hs:s.size≤8192) (hl0:smB (byt s a)=true) (w:World) :
  Calls Try.prog 59 #[.string s,.int .i64 (a:Int)] w fun e w'=>GvN s a w e w':=by
 obtain ⟨W1,hW1⟩:∃ W1,w.alloc (.cells #[.int .i64 0,.string ⟨#[]⟩,.slice none 0 0,.slice none 0 0,.int .i64 0] 43)=W1:=⟨_,rfl⟩
 have b1:Below w.heap.size w W1:=by rw [←hW1];exact one_alloc _ _
 have R1:Cs W1 w.heap.size [.int .i64 0,.string ⟨#[]⟩,.slice none 0 0,.slice none 0 0,.int .i64 0]:=by rw [←hW1];exact Cs.new w [.int .i64 0,.string ⟨#[]⟩,.slice none 0 0,.slice none 0 0,.int .i64 0] 43
 have HX:Hid (∀ j,j<s.size→∀ W,(Instr.index 9 (.string s) (.int .i64 (j:Int))).run Try.prog W=.ok (.int .u8 (byt s j)) W):=fun j h W=>byt_run s j h W
 have HCUT:=hide (fun (E:Nat) (h1:a≤E) (h2:E≤s.size) (x:Int) (h:x=(E:Int)) W=>cut_run s a E h1 h2 (a:Int) x rfl h W)
 have HCS:=hide (fun (E:Nat) (h1:a≤E) (h2:E≤s.size)=>cutS_size s a E h1 h2)
 have HST:=hide (fun t (ht:ByteArray.size t≤1000) j (hj:j≤s.size) W=>starts25 s t j hj (by omega) ht W)
 have HHP:=hide (fun t j (hj:j≤s.size) h=>hasP_size (s:=s) (t:=t) (a:=j) hj h)
 have HLE:=hide (fun c W=>small58 c W)
 have HDI:=hide (fun c W=>digit73 c W)
 have HL0:=hide hl0
 have HW1:=hide hW1
 have HB1:=hide b1
 have HR1:=hide R1
 obtain ⟨L,hL⟩:∃ L,L=s.size:=⟨_,rfl⟩
 have HL:=hide hL
 rw [←hL] at HX hs ha
 clear hW1 b1 R1 hl0
 go_enter Try.func59,Try.ntmps59
 go_upto_region 2 with fail
 rw [HW1.out]
 go_cut [7,8] from 10 (fun s7 s8 wx=>s7=.int .i64 (a:Int)∧s8=.bool true∧wx=W1)
 case first =>
  go_wp2
  go_meet
  case rel=>exact ⟨rfl,rfl,rfl⟩
 case rest =>
 obtain ⟨rfl,rfl,hwc⟩:=hcut
 obtain rfl:=hwc.symm
 go_step
 go_step
 go_cut [7,8] from 10 (fun s7 s8 wx=>∃ (j:Nat) (lo:Bool),s7=.int .i64 (j:Int)∧s8=.bool lo∧a<j∧j≤L∧wx=W1)
 case first =>
  generalize hB:byt s=Bt at *
  clear hB HCUT HCS HST HHP HR1 HB1
  go_step
  go_loopg [7,8] (L-a) (fun g iv bv wr=>∃ (j:Nat) (lo:Bool),g+j=L∧a≤j∧iv=.int .i64 (j:Int)∧bv=.bool lo∧wr=W1)
  case atStart=>exact ⟨a,true,by omega,by omega,rfl,rfl,rfl⟩
  case round =>
   clear HW1
   obtain ⟨j,lo,hj,haj,rfl,rfl,rfl⟩:=hrel
   by_cases hlt:j<L
   ·have hx:=HX.out j hlt
    have hlt2:(j:Int)<(s.size:Int):=by omega
    have HL1:=hide (HLE.out (Bt j))
    have HD1:=hide (HDI.out (Bt j))
    have HNE:=hide (fun (h:smB (Bt j)=false)=>show a<j from Nat.lt_of_le_of_ne haj (fun he=>by subst he;rw [HL0.out] at h;cases h))
    clear HX HLE HDI HL0
    generalize Bt j=c at *
    cases hl:smB c with
   |true =>
     simp only [hl] at HL1
     clear hL HD1 hl HNE
     by_cases hc:119<c
     ·go_wp2_with fail
      refine (HL1.out _).mono ?_
      rintro e w2 ⟨rfl,rfl⟩
      clear HL1
      go_wp2
      go_roundg (L-(j+1))
      case rel=>exact ⟨j+1,false,by omega,by omega,by go_num,rfl,rfl⟩
      case measure=>omega
     ·go_wp2_with fail
      refine (HL1.out _).mono ?_
      rintro e w2 ⟨rfl,rfl⟩
      clear HL1
      go_wp2
      go_roundg (L-(j+1))
      case rel=>exact ⟨j+1,lo,by omega,by omega,by go_num,rfl,rfl⟩
      case measure=>omega
   |false =>
     have haj2:=HNE.out hl
     cases hd:dgB c with
    |true =>
      have hc:¬ 119<c:=by simp only [dgB,Bool.and_eq_true,decide_eq_true_eq] at hd;omega
      simp only [hl] at HL1
      simp only [hd] at HD1
      clear hL hl hd HNE
      go_wp2_with fail
      refine (HL1.out _).mono ?_
      rintro e w2 ⟨rfl,rfl⟩
      clear HL1
      go_wp2_with fail
      refine (HD1.out _).mono ?_
      rintro e w2 ⟨rfl,rfl⟩
      clear HD1
      go_wp2
      go_roundg (L-(j+1))
      case rel=>exact ⟨j+1,lo,by omega,by omega,by go_num,rfl,rfl⟩
      case measure=>omega
    |false =>
      simp only [hl] at HL1
      simp only [hd] at HD1
      clear hL hl hd HNE
      go_wp2_with fail
      refine (HL1.out _).mono ?_
      rintro e w2 ⟨rfl,rfl⟩
      clear HL1
      go_wp2_with fail
      refine (HD1.out _).mono ?_
      rintro e w2 ⟨rfl,rfl⟩
      clear HD1
      go_wp2
      go_meet
      case rel=>exact ⟨j,lo,rfl,rfl,haj2,by omega,rfl⟩
   ·have hlt2:¬ (j:Int)<(s.size:Int):=by omega
    clear HX HLE HDI HL0
    go_wp2
    go_meet
    case rel=>exact ⟨j,lo,rfl,rfl,by omega,by omega,rfl⟩
 case rest =>
  obtain ⟨j,lo,rfl,rfl,haj,hjL,hwc⟩:=hcut
  obtain rfl:=hwc.symm
  have hjs:j≤s.size:=by omega
  have hcut1:=HCUT.out j (by omega) hjs (j:Int) rfl
  have hcs:=HCS.out j (by omega) hjs
  obtain ⟨CS,hCS⟩:∃ CS,cutS s a j=CS:=⟨_,rfl⟩
  rw [hCS] at hcut1 hcs
  clear HX HLE HDI HL0 hCS HW1 hL
  go_upto_region 8 with fail
  obtain ⟨V,hV⟩:∃ V,W1.alloc (.cells #[.int .i64 3,.string CS,.slice none 0 0,.slice none 0 0,.int .i64 (a:Int)] 43)=V:=⟨_,rfl⟩
  rw [hV]
  have bV:Below W1.heap.size W1 V:=by rw [←hV];exact one_alloc _ _
  have D:Cs V W1.heap.size [.int .i64 3,.string CS,.slice none 0 0,.slice none 0 0,.int .i64 (a:Int)]:=by rw [←hV];exact Cs.new W1 [.int .i64 3,.string CS,.slice none 0 0,.slice none 0 0,.int .i64 (a:Int)] 43
  have RX:=HR1.out.next bV HR1.out.lt
  have HBX:=hide (bel_to HB1.out bV)
  have HFIN:=hide (fun v0 v1 v2 v3 v4=>fin5 RX (by simp) HBX.out v0 v1 v2 v3 v4)
  have c0:=D.c 0 _ rfl
  have c1:=D.c 1 _ rfl
  have c2:=D.c 2 _ rfl
  have c3:=D.c 3 _ rfl
  have c4:=D.c 4 _ rfl
  have z0:=RX.c 0 _ rfl
  have z1:=RX.c 1 _ rfl
  have z2:=RX.c 2 _ rfl
  have z3:=RX.c 3 _ rfl
  have z4:=RX.c 4 _ rfl
  have zz:=RX.z
  have zl:=RX.lt
  have hne:w.heap.size<W1.heap.size:=HR1.out.lt
  have hcs8:CS.size≤s.size:=by omega
  have HAJ:=hide (And.intro haj hjs)
  clear D RX HR1 HB1 bV hV HCUT HCS HST HHP hcut1 hcs
  cases h1:(CS.toList==[120]) with
 |true =>
   go_region
   obtain ⟨⟨r0,r1,r2,r3,r4⟩,hbf⟩:=HFIN.out (.int .i64 3) (.string CS) (.slice none 0 0) (.slice none 0 0) (.int .i64 (a:Int))
   clear HFIN
   go_wp2
   exact bodyPost_ret (v:=.tuple #[.agg #[.int .i64 3,.string CS,.slice none 0 0,.slice none 0 0,.int .i64 (a:Int)],.int .i64 (j:Int),.bool true]) (by simp [results,Try.results59,go_sem,r0,r1,r2,r3,r4]) rfl ⟨hbf,_,_,_,_,rfl,HAJ.out.1,HAJ.out.2,hcs8⟩
 |false =>
   cases h2:(CS.toList==[121]) with
  |true =>
    go_region
    obtain ⟨⟨r0,r1,r2,r3,r4⟩,hbf⟩:=HFIN.out (.int .i64 3) (.string CS) (.slice none 0 0) (.slice none 0 0) (.int .i64 (a:Int))
    clear HFIN
    go_wp2
    exact bodyPost_ret (v:=.tuple #[.agg #[.int .i64 3,.string CS,.slice none 0 0,.slice none 0 0,.int .i64 (a:Int)],.int .i64 (j:Int),.bool true]) (by simp [results,Try.results59,go_sem,r0,r1,r2,r3,r4]) rfl ⟨hbf,_,_,_,_,rfl,HAJ.out.1,HAJ.out.2,hcs8⟩
  |false =>
    cases lo with
   |false =>
     go_region
     obtain ⟨⟨r0,r1,r2,r3,r4⟩,hbf⟩:=HFIN.out (.int .i64 3) (.string CS) (.slice none 0 0) (.slice none 0 0) (.int .i64 (a:Int))
     clear HFIN
     go_wp2
     exact bodyPost_ret (v:=.tuple #[.agg #[.int .i64 3,.string CS,.slice none 0 0,.slice none 0 0,.int .i64 (a:Int)],.int .i64 (j:Int),.bool false]) (by simp [results,Try.results59,go_sem,r0,r1,r2,r3,r4]) rfl ⟨hbf,_,_,_,_,rfl,HAJ.out.1,HAJ.out.2,hcs8⟩
   |true =>
     by_cases h8:(CS.size:Int)≤8
     ·go_region
      obtain ⟨⟨r0,r1,r2,r3,r4⟩,hbf⟩:=HFIN.out (.int .i64 3) (.string CS) (.slice none 0 0) (.slice none 0 0) (.int .i64 (a:Int))
      clear HFIN
      go_wp2
      exact bodyPost_ret (v:=.tuple #[.agg #[.int .i64 3,.string CS,.slice none 0 0,.slice none 0 0,.int .i64 (a:Int)],.int .i64 (j:Int),.bool true]) (by simp [results,Try.results59,go_sem,r0,r1,r2,r3,r4]) rfl ⟨hbf,_,_,_,_,rfl,HAJ.out.1,HAJ.out.2,hcs8⟩
     ·go_region
      obtain ⟨⟨r0,r1,r2,r3,r4⟩,hbf⟩:=HFIN.out (.int .i64 3) (.string CS) (.slice none 0 0) (.slice none 0 0) (.int .i64 (a:Int))
      clear HFIN
      go_wp2
      exact bodyPost_ret (v:=.tuple #[.agg #[.int .i64 3,.string CS,.slice none 0 0,.slice none 0 0,.int .i64 (a:Int)],.int .i64 (j:Int),.bool false]) (by simp [results,Try.results59,go_sem,r0,r1,r2,r3,r4]) rfl ⟨hbf,_,_,_,_,rfl,HAJ.out.1,HAJ.out.2,hcs8⟩
set_option maxHeartbeats 16000000 in
theorem word53 (s:ByteArray) (a:Nat) (ha:a<s.size) (hs:s.size≤8192) (hl0:smB (byt s a)=true) (w:World) :
  Calls Try.prog 53 #[.string s,.int .i64 (a:Int)] w fun e w'=>GvN s a w e w':=by
 obtain ⟨W1,hW1⟩:∃ W1,w.alloc (.cells #[.int .i64 0,.string ⟨#[]⟩,.slice none 0 0,.slice none 0 0,.int .i64 0] 43)=W1:=⟨_,rfl⟩
 have b1:Below w.heap.size w W1:=by rw [←hW1];exact one_alloc _ _
 have R1:Cs W1 w.heap.size [.int .i64 0,.string ⟨#[]⟩,.slice none 0 0,.slice none 0 0,.int .i64 0]:=by rw [←hW1];exact Cs.new w [.int .i64 0,.string ⟨#[]⟩,.slice none 0 0,.slice none 0 0,.int .i64 0] 43
 have HX:Hid (∀ j,j<s.size→∀ W,(Instr.index 9 (.string s) (.int .i64 (j:Int))).run Try.prog W=.ok (.int .u8 (byt s j)) W):=fun j h W=>byt_run s j h W
 have HCUT:=hide (fun (E:Nat) (h1:a≤E) (h2:E≤s.size) (x:Int) (h:x=(E:Int)) W=>cut_run s a E h1 h2 (a:Int) x rfl h W)
 have HCS:=hide (fun (E:Nat) (h1:a≤E) (h2:E≤s.size)=>cutS_size s a E h1 h2)
 have HST:=hide (fun t (ht:ByteArray.size t≤1000) j (hj:j≤s.size) W=>starts25 s t j hj (by omega) ht W)
 have HHP:=hide (fun t j (hj:j≤s.size) h=>hasP_size (s:=s) (t:=t) (a:=j) hj h)
 have HLE:=hide (fun c W=>small52 c W)
 have HDI:=hide (fun c W=>digit73 c W)
 have HL0:=hide hl0
 have HW1:=hide hW1
 have HB1:=hide b1
 have HR1:=hide R1
 obtain ⟨L,hL⟩:∃ L,L=s.size:=⟨_,rfl⟩
 have HL:=hide hL
 rw [←hL] at HX hs ha
 clear hW1 b1 R1 hl0
 go_enter Try.func53,Try.ntmps53
 go_upto_region 2 with fail
 rw [HW1.out]
 go_cut [7,8] from 10 (fun s7 s8 wx=>s7=.int .i64 (a:Int)∧s8=.bool true∧wx=W1)
 case first =>
  go_wp2
  go_meet
  case rel=>exact ⟨rfl,rfl,rfl⟩
 case rest =>
 obtain ⟨rfl,rfl,hwc⟩:=hcut
 obtain rfl:=hwc.symm
 go_step
 go_step
 go_cut [7,8] from 10 (fun s7 s8 wx=>∃ (j:Nat) (lo:Bool),s7=.int .i64 (j:Int)∧s8=.bool lo∧a<j∧j≤L∧wx=W1)
 case first =>
  generalize hB:byt s=Bt at *
  clear hB HCUT HCS HST HHP HR1 HB1
  go_step
  go_loopg [7,8] (L-a) (fun g iv bv wr=>∃ (j:Nat) (lo:Bool),g+j=L∧a≤j∧iv=.int .i64 (j:Int)∧bv=.bool lo∧wr=W1)
  case atStart=>exact ⟨a,true,by omega,by omega,rfl,rfl,rfl⟩
  case round =>
   clear HW1
   obtain ⟨j,lo,hj,haj,rfl,rfl,rfl⟩:=hrel
   by_cases hlt:j<L
   ·have hx:=HX.out j hlt
    have hlt2:(j:Int)<(s.size:Int):=by omega
    have HL1:=hide (HLE.out (Bt j))
    have HD1:=hide (HDI.out (Bt j))
    have HNE:=hide (fun (h:smB (Bt j)=false)=>show a<j from Nat.lt_of_le_of_ne haj (fun he=>by subst he;rw [HL0.out] at h;cases h))
    clear HX HLE HDI HL0
    generalize Bt j=c at *
    cases hl:smB c with
   |true =>
     simp only [hl] at HL1
     clear hL HD1 hl HNE
     by_cases hc:119<c
     ·go_wp2_with fail
      refine (HL1.out _).mono ?_
      rintro e w2 ⟨rfl,rfl⟩
      clear HL1
      go_wp2
      go_roundg (L-(j+1))
      case rel=>exact ⟨j+1,false,by omega,by omega,by go_num,rfl,rfl⟩
      case measure=>omega
     ·go_wp2_with fail
      refine (HL1.out _).mono ?_
      rintro e w2 ⟨rfl,rfl⟩
      clear HL1
      go_wp2
      go_roundg (L-(j+1))
      case rel=>exact ⟨j+1,lo,by omega,by omega,by go_num,rfl,rfl⟩
      case measure=>omega
   |false =>
     have haj2:=HNE.out hl
     cases hd:dgB c with
    |true =>
      have hc:¬ 119<c:=by simp only [dgB,Bool.and_eq_true,decide_eq_true_eq] at hd;omega
      simp only [hl] at HL1
      simp only [hd] at HD1
      clear hL hl hd HNE
      go_wp2_with fail
      refine (HL1.out _).mono ?_
      rintro e w2 ⟨rfl,rfl⟩
      clear HL1
      go_wp2_with fail
      refine (HD1.out _).mono ?_
      rintro e w2 ⟨rfl,rfl⟩
      clear HD1
      go_wp2
      go_roundg (L-(j+1))
      case rel=>exact ⟨j+1,lo,by omega,by omega,by go_num,rfl,rfl⟩
      case measure=>omega
    |false =>
      simp only [hl] at HL1
      simp only [hd] at HD1
      clear hL hl hd HNE
      go_wp2_with fail
      refine (HL1.out _).mono ?_
      rintro e w2 ⟨rfl,rfl⟩
      clear HL1
      go_wp2_with fail
      refine (HD1.out _).mono ?_
      rintro e w2 ⟨rfl,rfl⟩
      clear HD1
      go_wp2
      go_meet
      case rel=>exact ⟨j,lo,rfl,rfl,haj2,by omega,rfl⟩
   ·have hlt2:¬ (j:Int)<(s.size:Int):=by omega
    clear HX HLE HDI HL0
    go_wp2
    go_meet
    case rel=>exact ⟨j,lo,rfl,rfl,by omega,by omega,rfl⟩
 case rest =>
  obtain ⟨j,lo,rfl,rfl,haj,hjL,hwc⟩:=hcut
  obtain rfl:=hwc.symm
  have hjs:j≤s.size:=by omega
  have hcut1:=HCUT.out j (by omega) hjs (j:Int) rfl
  have hcs:=HCS.out j (by omega) hjs
  obtain ⟨CS,hCS⟩:∃ CS,cutS s a j=CS:=⟨_,rfl⟩
  rw [hCS] at hcut1 hcs
  clear HX HLE HDI HL0 hCS HW1 hL
  go_upto_region 8 with fail
  obtain ⟨V,hV⟩:∃ V,W1.alloc (.cells #[.int .i64 3,.string CS,.slice none 0 0,.slice none 0 0,.int .i64 (a:Int)] 43)=V:=⟨_,rfl⟩
  rw [hV]
  have bV:Below W1.heap.size W1 V:=by rw [←hV];exact one_alloc _ _
  have D:Cs V W1.heap.size [.int .i64 3,.string CS,.slice none 0 0,.slice none 0 0,.int .i64 (a:Int)]:=by rw [←hV];exact Cs.new W1 [.int .i64 3,.string CS,.slice none 0 0,.slice none 0 0,.int .i64 (a:Int)] 43
  have RX:=HR1.out.next bV HR1.out.lt
  have HBX:=hide (bel_to HB1.out bV)
  have HFIN:=hide (fun v0 v1 v2 v3 v4=>fin5 RX (by simp) HBX.out v0 v1 v2 v3 v4)
  have c0:=D.c 0 _ rfl
  have c1:=D.c 1 _ rfl
  have c2:=D.c 2 _ rfl
  have c3:=D.c 3 _ rfl
  have c4:=D.c 4 _ rfl
  have z0:=RX.c 0 _ rfl
  have z1:=RX.c 1 _ rfl
  have z2:=RX.c 2 _ rfl
  have z3:=RX.c 3 _ rfl
  have z4:=RX.c 4 _ rfl
  have zz:=RX.z
  have zl:=RX.lt
  have hne:w.heap.size<W1.heap.size:=HR1.out.lt
  have hcs8:CS.size≤s.size:=by omega
  have HAJ:=hide (And.intro haj hjs)
  have HP1:=hide (HST.out ⟨#[46]⟩ (by decide) j hjs V)
  have HP2:=hide (HST.out ⟨#[58]⟩ (by decide) j hjs V)
  clear c0 c1 c2 c3 c4 z0 z1 z2 z3 z4 zz zl hne hcs8 HFIN
  cases p1:hasP ((numsS s).drop j) (numsS ⟨#[46]⟩) with
 |true =>
   rw [p1] at HP1
   clear HP2
   have hj1:=HHP.out _ _ hjs p1
   have hj1':j+1≤s.size:=hj1
   have hcut2:=HCUT.out (j+1) (by omega) hj1' ((j:Int)+1) (by omega)
   have hcs2:=HCS.out (j+1) (by omega) hj1'
   obtain ⟨C2,hC2⟩:∃ C2,cutS s a (j+1)=C2:=⟨_,rfl⟩
   rw [hC2] at hcut2 hcs2
   obtain ⟨D2,BD⟩:=D.set01 (b0:=.int .i64 4) (b1:=.string C2)
   have hne:w.heap.size<W1.heap.size:=HR1.out.lt
   have RX2:=RX.but BD (by show ¬ w.heap.size=W1.heap.size;omega)
   have HB2:=hide (HBX.out.trans (BD.below HBX.out.size fun k hk=>by have:=HR1.out.lt;omega))
   have HFIN:=hide (fun W (hW:(V.setCell ⟨W1.heap.size,0,none⟩ (.int .i64 4)).setCell ⟨W1.heap.size,1,none⟩ (.string C2)=W) v0 v1 v2 v3 v4=>fin5 (V:=W) (hW▸RX2) (by simp) (hW▸HB2.out) v0 v1 v2 v3 v4)
   have HD2:=hide D2
   have HRX2:=hide RX2
   have hcs8:C2.size≤s.size:=by omega
   have HAJ:=hide (And.intro haj hj1')
   have dz:=D.z
   have c0:=D.c 0 _ rfl
   have c1:=D.c 1 _ rfl
   clear D RX HR1 HB1 bV hV HCUT HCS HST HHP hcut1 hcs hC2 D2 RX2 BD HBX HB2 hj1 hjs
   go_wp2_with fail
   refine HP1.out.mono ?_
   rintro e w8 ⟨rfl,rfl⟩
   clear HP1
   go_upto_region 11 with fail
   obtain ⟨V2,hV2⟩:∃ V2,(w8.setCell ⟨W1.heap.size,0,none⟩ (.int .i64 4)).setCell ⟨W1.heap.size,1,none⟩ (.string C2)=V2:=⟨_,rfl⟩
   rw [hV2]
   replace HFIN:=hide (HFIN.out V2 hV2)
   have D2:=HD2.out
   have RX2:=HRX2.out
   rw [hV2] at D2 RX2
   have d0:=D2.c 0 _ rfl
   have d1:=D2.c 1 _ rfl
   have d2:=D2.c 2 _ rfl
   have d3:=D2.c 3 _ rfl
   have d4:=D2.c 4 _ rfl
   have z0:=RX2.c 0 _ rfl
   have z1:=RX2.c 1 _ rfl
   have z2:=RX2.c 2 _ rfl
   have z3:=RX2.c 3 _ rfl
   have z4:=RX2.c 4 _ rfl
   have zz:=RX2.z
   have zl:=RX2.lt
   clear c0 c1 dz hV2 D2 RX2 HD2 HRX2 p1
   cases h1:(C2.toList==[105,46]) with
  |true =>
    go_region
    obtain ⟨⟨r0,r1,r2,r3,r4⟩,hbf⟩:=HFIN.out (.int .i64 4) (.string C2) (.slice none 0 0) (.slice none 0 0) (.int .i64 (a:Int))
    clear HFIN
    go_wp2
    exact bodyPost_ret (v:=.tuple #[.agg #[.int .i64 4,.string C2,.slice none 0 0,.slice none 0 0,.int .i64 (a:Int)],.int .i64 ((j:Int)+1),.bool true]) (by simp [results,Try.results53,go_sem,r0,r1,r2,r3,r4]) rfl ⟨hbf,_,_,_,_,rfl,Nat.lt_succ_of_lt HAJ.out.1,HAJ.out.2,hcs8⟩
  |false =>
    cases h2:(C2.toList==[101,46]) with
   |true =>
     go_region
     obtain ⟨⟨r0,r1,r2,r3,r4⟩,hbf⟩:=HFIN.out (.int .i64 4) (.string C2) (.slice none 0 0) (.slice none 0 0) (.int .i64 (a:Int))
     clear HFIN
     go_wp2
     exact bodyPost_ret (v:=.tuple #[.agg #[.int .i64 4,.string C2,.slice none 0 0,.slice none 0 0,.int .i64 (a:Int)],.int .i64 ((j:Int)+1),.bool true]) (by simp [results,Try.results53,go_sem,r0,r1,r2,r3,r4]) rfl ⟨hbf,_,_,_,_,rfl,Nat.lt_succ_of_lt HAJ.out.1,HAJ.out.2,hcs8⟩
   |false =>
     go_region
     obtain ⟨⟨r0,r1,r2,r3,r4⟩,hbf⟩:=HFIN.out (.int .i64 4) (.string C2) (.slice none 0 0) (.slice none 0 0) (.int .i64 (a:Int))
     clear HFIN
     go_wp2
     exact bodyPost_ret (v:=.tuple #[.agg #[.int .i64 4,.string C2,.slice none 0 0,.slice none 0 0,.int .i64 (a:Int)],.int .i64 ((j:Int)+1),.bool false]) (by simp [results,Try.results53,go_sem,r0,r1,r2,r3,r4]) rfl ⟨hbf,_,_,_,_,rfl,Nat.lt_succ_of_lt HAJ.out.1,HAJ.out.2,hcs8⟩
 |false =>
   rw [p1] at HP1
   cases p2:hasP ((numsS s).drop j) (numsS ⟨#[58]⟩) with
  |true =>
    rw [p2] at HP2
    have hj1:=HHP.out _ _ hjs p2
    have hj1':j+1≤s.size:=hj1
    have hcut2:=HCUT.out (j+1) (by omega) hj1' ((j:Int)+1) (by omega)
    have hcs2:=HCS.out (j+1) (by omega) hj1'
    obtain ⟨C2,hC2⟩:∃ C2,cutS s a (j+1)=C2:=⟨_,rfl⟩
    rw [hC2] at hcut2 hcs2
    obtain ⟨D2,BD⟩:=D.set01 (b0:=.int .i64 4) (b1:=.string C2)
    have hne:w.heap.size<W1.heap.size:=HR1.out.lt
    have RX2:=RX.but BD (by show ¬ w.heap.size=W1.heap.size;omega)
    have HB2:=hide (HBX.out.trans (BD.below HBX.out.size fun k hk=>by have:=HR1.out.lt;omega))
    have HFIN:=hide (fun W (hW:(V.setCell ⟨W1.heap.size,0,none⟩ (.int .i64 4)).setCell ⟨W1.heap.size,1,none⟩ (.string C2)=W) v0 v1 v2 v3 v4=>fin5 (V:=W) (hW▸RX2) (by simp) (hW▸HB2.out) v0 v1 v2 v3 v4)
    have HD2:=hide D2
    have HRX2:=hide RX2
    have hcs8:C2.size≤s.size:=by omega
    have HAJ:=hide (And.intro haj hj1')
    have dz:=D.z
    have c0:=D.c 0 _ rfl
    have c1:=D.c 1 _ rfl
    clear D RX HR1 HB1 bV hV HCUT HCS HST HHP hcut1 hcs hC2 D2 RX2 BD HBX HB2 hj1 hjs
    go_wp2_with fail
    refine HP1.out.mono ?_
    rintro e w8 ⟨rfl,rfl⟩
    clear HP1
    go_wp2_with fail
    refine HP2.out.mono ?_
    rintro e w9 ⟨rfl,rfl⟩
    clear HP2
    go_upto_region 11 with fail
    obtain ⟨V2,hV2⟩:∃ V2,(w9.setCell ⟨W1.heap.size,0,none⟩ (.int .i64 4)).setCell ⟨W1.heap.size,1,none⟩ (.string C2)=V2:=⟨_,rfl⟩
    rw [hV2]
    replace HFIN:=hide (HFIN.out V2 hV2)
    have D2:=HD2.out
    have RX2:=HRX2.out
    rw [hV2] at D2 RX2
    have d0:=D2.c 0 _ rfl
    have d1:=D2.c 1 _ rfl
    have d2:=D2.c 2 _ rfl
    have d3:=D2.c 3 _ rfl
    have d4:=D2.c 4 _ rfl
    have z0:=RX2.c 0 _ rfl
    have z1:=RX2.c 1 _ rfl
    have z2:=RX2.c 2 _ rfl
    have z3:=RX2.c 3 _ rfl
    have z4:=RX2.c 4 _ rfl
    have zz:=RX2.z
    have zl:=RX2.lt
    clear c0 c1 dz hV2 D2 RX2 HD2 HRX2 p1 p2
    cases h1:(C2.toList==[105,46]) with
   |true =>
     go_region
     obtain ⟨⟨r0,r1,r2,r3,r4⟩,hbf⟩:=HFIN.out (.int .i64 4) (.string C2) (.slice none 0 0) (.slice none 0 0) (.int .i64 (a:Int))
     clear HFIN
     go_wp2
     exact bodyPost_ret (v:=.tuple #[.agg #[.int .i64 4,.string C2,.slice none 0 0,.slice none 0 0,.int .i64 (a:Int)],.int .i64 ((j:Int)+1),.bool true]) (by simp [results,Try.results53,go_sem,r0,r1,r2,r3,r4]) rfl ⟨hbf,_,_,_,_,rfl,Nat.lt_succ_of_lt HAJ.out.1,HAJ.out.2,hcs8⟩
   |false =>
     cases h2:(C2.toList==[101,46]) with
    |true =>
      go_region
      obtain ⟨⟨r0,r1,r2,r3,r4⟩,hbf⟩:=HFIN.out (.int .i64 4) (.string C2) (.slice none 0 0) (.slice none 0 0) (.int .i64 (a:Int))
      clear HFIN
      go_wp2
      exact bodyPost_ret (v:=.tuple #[.agg #[.int .i64 4,.string C2,.slice none 0 0,.slice none 0 0,.int .i64 (a:Int)],.int .i64 ((j:Int)+1),.bool true]) (by simp [results,Try.results53,go_sem,r0,r1,r2,r3,r4]) rfl ⟨hbf,_,_,_,_,rfl,Nat.lt_succ_of_lt HAJ.out.1,HAJ.out.2,hcs8⟩
    |false =>
      go_region
      obtain ⟨⟨r0,r1,r2,r3,r4⟩,hbf⟩:=HFIN.out (.int .i64 4) (.string C2) (.slice none 0 0) (.slice none 0 0) (.int .i64 (a:Int))
      clear HFIN
      go_wp2
      exact bodyPost_ret (v:=.tuple #[.agg #[.int .i64 4,.string C2,.slice none 0 0,.slice none 0 0,.int .i64 (a:Int)],.int .i64 ((j:Int)+1),.bool false]) (by simp [results,Try.results53,go_sem,r0,r1,r2,r3,r4]) rfl ⟨hbf,_,_,_,_,rfl,Nat.lt_succ_of_lt HAJ.out.1,HAJ.out.2,hcs8⟩
  |false =>
    rw [p2] at HP2
    clear p1 p2
    have HFIN:=hide (fun v0 v1 v2 v3 v4=>fin5 RX (by simp) HBX.out v0 v1 v2 v3 v4)
    have c0:=D.c 0 _ rfl
    have c1:=D.c 1 _ rfl
    have c2:=D.c 2 _ rfl
    have c3:=D.c 3 _ rfl
    have c4:=D.c 4 _ rfl
    have z0:=RX.c 0 _ rfl
    have z1:=RX.c 1 _ rfl
    have z2:=RX.c 2 _ rfl
    have z3:=RX.c 3 _ rfl
    have z4:=RX.c 4 _ rfl
    have zz:=RX.z
    have zl:=RX.lt
    have hne:w.heap.size<W1.heap.size:=HR1.out.lt
    have hcs8:CS.size≤s.size:=by omega
    have HAJ:=hide (And.intro haj hjs)
    clear D RX HR1 HB1 bV hV HCUT HCS HST HHP hcut1 hcs
    go_wp2_with fail
    refine HP1.out.mono ?_
    rintro e w8 ⟨rfl,rfl⟩
    go_wp2_with fail
    refine HP2.out.mono ?_
    rintro e w9 ⟨rfl,rfl⟩
    clear HP1 HP2
    go_upto_region 12 with fail
    cases h1:(CS.toList==[120]) with
   |true =>
     go_region
     obtain ⟨⟨r0,r1,r2,r3,r4⟩,hbf⟩:=HFIN.out (.int .i64 3) (.string CS) (.slice none 0 0) (.slice none 0 0) (.int .i64 (a:Int))
     clear HFIN
     go_wp2
     exact bodyPost_ret (v:=.tuple #[.agg #[.int .i64 3,.string CS,.slice none 0 0,.slice none 0 0,.int .i64 (a:Int)],.int .i64 (j:Int),.bool true]) (by simp [results,Try.results53,go_sem,r0,r1,r2,r3,r4]) rfl ⟨hbf,_,_,_,_,rfl,HAJ.out.1,HAJ.out.2,hcs8⟩
   |false =>
     cases h2:(CS.toList==[121]) with
    |true =>
      go_region
      obtain ⟨⟨r0,r1,r2,r3,r4⟩,hbf⟩:=HFIN.out (.int .i64 3) (.string CS) (.slice none 0 0) (.slice none 0 0) (.int .i64 (a:Int))
      clear HFIN
      go_wp2
      exact bodyPost_ret (v:=.tuple #[.agg #[.int .i64 3,.string CS,.slice none 0 0,.slice none 0 0,.int .i64 (a:Int)],.int .i64 (j:Int),.bool true]) (by simp [results,Try.results53,go_sem,r0,r1,r2,r3,r4]) rfl ⟨hbf,_,_,_,_,rfl,HAJ.out.1,HAJ.out.2,hcs8⟩
    |false =>
      cases lo with
     |false =>
       go_region
       obtain ⟨⟨r0,r1,r2,r3,r4⟩,hbf⟩:=HFIN.out (.int .i64 3) (.string CS) (.slice none 0 0) (.slice none 0 0) (.int .i64 (a:Int))
       clear HFIN
       go_wp2
       exact bodyPost_ret (v:=.tuple #[.agg #[.int .i64 3,.string CS,.slice none 0 0,.slice none 0 0,.int .i64 (a:Int)],.int .i64 (j:Int),.bool false]) (by simp [results,Try.results53,go_sem,r0,r1,r2,r3,r4]) rfl ⟨hbf,_,_,_,_,rfl,HAJ.out.1,HAJ.out.2,hcs8⟩
     |true =>
       by_cases h8:(CS.size:Int)≤8
       ·go_region
        obtain ⟨⟨r0,r1,r2,r3,r4⟩,hbf⟩:=HFIN.out (.int .i64 3) (.string CS) (.slice none 0 0) (.slice none 0 0) (.int .i64 (a:Int))
        clear HFIN
        go_wp2
        exact bodyPost_ret (v:=.tuple #[.agg #[.int .i64 3,.string CS,.slice none 0 0,.slice none 0 0,.int .i64 (a:Int)],.int .i64 (j:Int),.bool true]) (by simp [results,Try.results53,go_sem,r0,r1,r2,r3,r4]) rfl ⟨hbf,_,_,_,_,rfl,HAJ.out.1,HAJ.out.2,hcs8⟩
       ·go_region
        obtain ⟨⟨r0,r1,r2,r3,r4⟩,hbf⟩:=HFIN.out (.int .i64 3) (.string CS) (.slice none 0 0) (.slice none 0 0) (.int .i64 (a:Int))
        clear HFIN
        go_wp2
        exact bodyPost_ret (v:=.tuple #[.agg #[.int .i64 3,.string CS,.slice none 0 0,.slice none 0 0,.int .i64 (a:Int)],.int .i64 (j:Int),.bool false]) (by simp [results,Try.results53,go_sem,r0,r1,r2,r3,r4]) rfl ⟨hbf,_,_,_,_,rfl,HAJ.out.1,HAJ.out.2,hcs8⟩
end Go.Proofs.Ytnaejfoighmfeaa.Rn
namespace Go.Proofs.Ytnaejfoighmfeaa
open Go.ChangeShapes Go.WideShapes Go.ChangeAt Go.RowKit
set_option maxRecDepth 100000
set_option linter.unusedVariables false
def WeighD (d:Nat):Prop:=∀ n x lo va w (M:Int),ArIn n lo w x va→0≤M→M≤4000→Calls Try.prog 29 #[va,.int .i64 M,.int .i64 (d:Int)] w fun e w'=>(∃ r:Int,e=.returned (.int .i64 r)∧0≤r∧r≤147000000000000+5000*(d:Int)∧(x.cells.length:Int)+(x.shape.length:Int)≤r)∧Below w.heap.size w w'
set_option maxHeartbeats 4000000 in
theorem weighD_step (d:Nat) (hd:d≤16) (IH:∀ d',d=d'+1→WeighD d'):WeighD d:=by
 intro n x lo va w M hx hM0 hM
 cases n with
|zero=>exact hx.elim
|succ n =>
 obtain ⟨a1,c1,a2,c2,rfl,R,hl,hc⟩:=hx
 have hlR:=R.1
 have hb0:=one_alloc w (.cells #[.slice a1 x.shape.length c1,.slice a2 x.cells.length c2] 36)
 have q:=cell_new0 w #[.slice a1 x.shape.length c1,.slice a2 x.cells.length c2] 36 1 _ rfl
 have HB:=hide (boxes_at hc)
 have HQ:=hide (And.intro hb0 (And.intro q (show w.heap.size<(w.alloc (.cells #[.slice a1 x.shape.length c1,.slice a2 x.cells.length c2] 36)).heap.size by simp)))
 clear R hc hb0 q
 generalize hNL:(fun i=>(cAt x.cells i).2.2.length)=NL at *
 generalize hY:(fun i k=>bAt (cAt x.cells i).2.2 k)=Y at *
 have HB':Hid (∀ i,i<x.cells.length→∃ b off ab cb,a2=some ⟨b,off,none⟩∧NL i≤5864062014805∧(∀ wr,Below w.heap.size w wr→wr.cell? ⟨b,off+i*3+2,none⟩=some (.slice ab (NL i) cb)) ∧
   ∀ k,k<NL i→∃ bb ob u0 u1,ab=some ⟨bb,ob,none⟩∧∀ wr,Below w.heap.size w wr→wr.cell? ⟨bb,ob+k*2,none⟩=some u0∧wr.cell? ⟨bb,ob+k*2+1,none⟩=some u1∧ArIn n lo wr (Y i k) (.agg #[u0,u1])):=by
  subst hNL hY
  exact HB.out
 clear HB hNL hY
 generalize x.shape.length=SA at *
 generalize x.cells.length=CA at *
 go_enter Try.func29,Try.ntmps29
 go_wp2
 go_loopg [7,8] CA (fun g nv i wr=>∃ (j:Nat) (N:Int),g+j=CA∧i=.int .i64 (j:Int)∧nv=.int .i64 N∧0≤N∧N≤147000000000000+5000*(d:Int)∧(CA:Int)+(SA:Int)≤N∧Below w.heap.size w wr∧wr.cell? ⟨w.heap.size,1,none⟩=some (.slice a2 CA c2)∧w.heap.size<wr.heap.size)
 case atStart=>exact ⟨0,(CA:Int)+(SA:Int),rfl,rfl,by go_num,by omega,by omega,by omega,HQ.out.1,HQ.out.2.1,HQ.out.2.2⟩
 case round =>
  clear HQ
  obtain ⟨j,N,hj,rfl,rfl,hN0,hN1,hthin,hnx,hcl,hsz⟩:=hrel
  have HTH:=hide hthin
  have HSZ:=hide hsz
  clear hthin hsz
  by_cases hlt:j<CA
  ·by_cases hNM:N≤M
   ·obtain ⟨b,off,ab,cb,rfl,hnl,hbox,hboxes⟩:=HB'.out j hlt
    have HBOX:=hide hbox
    have HBXS:=hide hboxes
    have HS1:Hid (NL j=NL j):=rfl
    clear hbox hboxes HB'
    obtain ⟨L,hL⟩:∃ L,NL j=L:=⟨_,rfl⟩
    have HLL:=hide hL
    rw [hL] at hnl HBOX HBXS
    clear hL HS1
    go_wp2
    go_loopg [7,9] L (fun g nv kv wr=>∃ (k:Nat) (N':Int),g+k=L∧kv=.int .i64 (k:Int)∧nv=.int .i64 N'∧0≤N'∧N'≤147000000000000+5000*(d:Int)∧(CA:Int)+(SA:Int)≤N'∧Below w.heap.size w wr∧wr.cell? ⟨w.heap.size,1,none⟩=some (.slice (some ⟨b,off,none⟩) CA c2)∧w.heap.size<wr.heap.size)
    case atStart=>exact ⟨0,N,rfl,rfl,rfl,hN0,hN1,HTH.out,hnx,hcl,HSZ.out⟩
    case round =>
     clear hnx hcl HSZ hN0 hN1 hNM
     obtain ⟨k,N',hk,rfl,rfl,hN0,hN1,hthin,hnx,hcl,hsz⟩:=hrel
     have HTH:=hide hthin
     have HSZ:=hide hsz
     have hbx:=HBOX.out _ hnx
     clear hthin hsz
     by_cases hkl:k<L
     ·by_cases hNM:N'≤M
      ·by_cases hd0:d=0
       ·subst hd0
        clear HBXS HBOX
        go_wp2
        go_ret
        exact ⟨⟨M+1,by go_num,by omega,by omega,by have:=HTH.out;omega⟩,hnx⟩
       ·obtain ⟨d',rfl⟩:∃ d',d=d'+1:=⟨d-1,by omega⟩
        obtain ⟨bb,ob,u0,u1,rfl,hcs⟩:=HBXS.out k hkl
        obtain ⟨g0,g1,g2⟩:=hcs _ hnx
        have C:Hid (∀ D:Int,D=(d':Int)→Calls Try.prog 29 #[.agg #[u0,u1],.int .i64 (M-N'),.int .i64 D] wr fun e w'=>(∃ r:Int,e=.returned (.int .i64 r)∧0≤r∧r≤147000000000000+5000*(d':Int)∧True)∧Below wr.heap.size wr w'):=by
         rintro D rfl
         exact (IH d' rfl n _ lo _ wr (M-N') g2 (by omega) (by omega)).mono fun e w' ⟨⟨r,h1,h2,h3,_⟩,h5⟩=>⟨⟨r,h1,h2,h3,trivial⟩,h5⟩
        have hd1:((d'+1:Nat):Int)≠0:=by omega
        clear hcs g2 HBXS hd0
        go_wp2_with fail
        refine (C.out _ (by omega)).mono ?_
        rintro e w1 ⟨⟨r,rfl,hr0,hr1,hrt⟩,hb1⟩
        clear hrt C
        go_wp2
        go_roundg (L-(k+1))
        case rel =>
         refine ⟨k+1,N'+1+r,by omega,by go_num,by go_num,by omega,by omega,by have:=HTH.out;omega,hnx.trans (hb1.mono hnx.size),(hb1.cell (p:=⟨w.heap.size,1,none⟩) HSZ.out).trans hcl,Nat.lt_of_lt_of_le HSZ.out hb1.size⟩
        case measure=>omega
      ·clear HBXS HBOX
       go_wp2
       go_roundg (CA-(j+1))
       case rel=>exact ⟨j+1,N',by omega,by go_num,rfl,hN0,hN1,HTH.out,hnx,hcl,HSZ.out⟩
       case measure=>omega
     ·have hke:k=L:=by omega
      subst hke
      clear HBXS HBOX
      go_wp2
      go_roundg (CA-(j+1))
      case rel =>
       refine ⟨j+1,N',by omega,by go_num,rfl,hN0,hN1,HTH.out,hnx,hcl,HSZ.out⟩
      case measure=>omega
   ·go_wp2
    go_ret
    exact ⟨⟨N,rfl,hN0,hN1,HTH.out⟩,hnx⟩
  ·have hje:j=CA:=by omega
   subst hje
   clear HB'
   go_wp2
   go_ret
   exact ⟨⟨N,rfl,hN0,hN1,HTH.out⟩,hnx⟩
theorem weighD_any (d:Nat) (hd:d≤16):WeighD d:=by
 induction d with
|zero=>exact weighD_step 0 hd fun d' h=>absurd h (by omega)
|succ d ih =>
  refine weighD_step (d+1) hd fun d' h=>?_
  have:d'=d:=by omega
  subst this
  exact ih (by omega)
set_option maxHeartbeats 1000000 in
theorem weightM {n lo:Nat} {x:Ar} {va:Value} {w:World} (M:Int) (h0:0≤M) (hM:M≤4000) (hx:ArIn n lo w x va):Calls Try.prog 18 #[va,.int .i64 M] w fun e w'=>(∃ r:Int,e=.returned (.int .i64 r)∧0≤r∧r≤147000000080000∧(x.cells.length:Int)+(x.shape.length:Int)≤r)∧Below w.heap.size w w':=by
 have C:=fun w' hb=>weighD_any 16 (Nat.le_refl _) n x lo va w' M (hx.next hb) h0 hM
 cases n with
|zero=>exact hx.elim
|succ n =>
  obtain ⟨a1,c1,a2,c2,rfl,-⟩:=hx
  generalize x.shape.length=SA at *
  generalize x.cells.length=CA at *
  have C1:=C _ (one_alloc w (.cells #[.slice a1 SA c1,.slice a2 CA c2] 36))
  clear C
  go_enter Try.func18,Try.ntmps18
  go_wp2_with fail
  refine C1.mono ?_
  rintro e w1 ⟨⟨r,rfl,hr0,hr1,hr⟩,hb1⟩
  go_wp2
  go_ret
  exact ⟨⟨r,rfl,hr0,by omega,hr⟩,(one_alloc _ _).trans (hb1.mono (one_alloc _ _).size)⟩
set_option linter.unusedSimpArgs false
abbrev gV (g:Gr) (R:Raw):Value:=.agg #[.slice R.av g.verbs.length R.cv,.slice R.aa g.adverbs.length R.ca,.slice R.ab g.behind.length R.cb,.string g.outer,.string g.power,.string g.opn,.string g.cls,.string g.left,.string g.right,.string R.mi,.string R.qu,.bool g.trains,.bool g.lone,.bool g.square]
def WoR (n:Nat) (w:World) (a:Option Addr) (ws:List Wo):Prop:=∀ i,i<ws.length→∃ b off z1 m1 z2 m2,a=some ⟨b,off,none⟩∧b<w.heap.size∧w.cell? ⟨b,off+i*5,none⟩=some (.int .i64 (wAt ws i).kind)∧w.cell? ⟨b,off+i*5+1,none⟩=some (.string (wAt ws i).text)∧w.cell? ⟨b,off+i*5+2,none⟩=some (.slice z1 (wAt ws i).lit.shape.length m1)∧w.cell? ⟨b,off+i*5+3,none⟩=some (.slice z2 (wAt ws i).lit.cells.length m2)∧w.cell? ⟨b,off+i*5+4,none⟩=some (.int .i64 (wAt ws i).pos)∧(wAt ws i).text.size≤140737488355328∧ArIn n 0 w (wAt ws i).lit (.agg #[.slice z1 (wAt ws i).lit.shape.length m1,.slice z2 (wAt ws i).lit.cells.length m2])
theorem WoR.next {n:Nat} {w w':World} {a:Option Addr} {ws:List Wo} (h:WoR n w a ws) (hb:Below w.heap.size w w'):WoR n w' a ws:=fun i hi=>by
 obtain ⟨b,off,z1,m1,z2,m2,ha,hl,h0,h1,h2,h3,h4,h5,h6⟩:=h i hi
 exact ⟨b,off,z1,m1,z2,m2,ha,Nat.lt_of_lt_of_le hl hb.size,(hb.cell (p:=⟨b,_,none⟩) hl).trans h0,(hb.cell (p:=⟨b,_,none⟩) hl).trans h1,(hb.cell (p:=⟨b,_,none⟩) hl).trans h2,(hb.cell (p:=⟨b,_,none⟩) hl).trans h3,(hb.cell (p:=⟨b,_,none⟩) hl).trans h4,h5,h6.next hb⟩
def Few (g:Gr) (ws:List Wo):Prop:=ws.length≤300∧g.verbs.length≤100∧g.adverbs.length≤100∧g.behind.length≤100∧∀ i,i<ws.length→(wAt ws i).lit.shape.length≤5000∧(wAt ws i).lit.cells.length≤5000
theorem WoR.few {n:Nat} {w:World} {a:Option Addr} {g:Gr} {ws:List Wo} (h:WoR n w a ws) (hf:Few g ws):WoIn n w a ws :=
 ⟨by have:=hf.1;omega,fun i hi=>by
  obtain ⟨b,off,z1,m1,z2,m2,ha,hl,h0,h1,h2,h3,h4,h5,h6⟩:=h i hi
  exact ⟨b,off,z1,m1,z2,m2,ha,hl,h0,h1,h2,h3,h4,⟨h5,hf.2.2.2.2 i hi⟩,h6⟩⟩
def GvL (g:Gr) (ws:List Wo) (e:Ending):Prop:=∃ ok:Bool,e=.returned (.bool ok)∧(ok=true→Few g ws)
set_option maxHeartbeats 4000000 in
theorem light7 {n:Nat} {w:World} {g:Gr} {R:Raw} {ws:List Wo} (hw:WoR n w R.aw ws) :
  Calls Try.prog 7 #[gV g R,.slice R.aw ws.length R.cw] w fun e w'=>GvL g ws e∧Below w.heap.size w w':=by
 have hb0:=one_alloc w (.cells #[.slice R.av g.verbs.length R.cv,.slice R.aa g.adverbs.length R.ca,.slice R.ab g.behind.length R.cb,.string g.outer,.string g.power,.string g.opn,.string g.cls,.string g.left,.string g.right,.string R.mi,.string R.qu,.bool g.trains,.bool g.lone,.bool g.square] 24)
 have HB0:=hide hb0
 have HW:=hide hw
 clear hw hb0
 by_cases h1:300<ws.length
 ·go_enter Try.func7,Try.ntmps7
  go_wp2
  go_ret
  exact ⟨⟨false,rfl,fun h=>by cases h⟩,HB0.out⟩
 by_cases h2:100<g.verbs.length
 ·go_enter Try.func7,Try.ntmps7
  go_wp2
  go_ret
  exact ⟨⟨false,rfl,fun h=>by cases h⟩,HB0.out⟩
 by_cases h3:100<g.adverbs.length
 ·go_enter Try.func7,Try.ntmps7
  go_wp2
  go_ret
  exact ⟨⟨false,rfl,fun h=>by cases h⟩,HB0.out⟩
 by_cases h4:100<g.behind.length
 ·go_enter Try.func7,Try.ntmps7
  go_wp2
  go_ret
  exact ⟨⟨false,rfl,fun h=>by cases h⟩,HB0.out⟩
 have HF:=hide (show (∀ i,i<ws.length→(wAt ws i).lit.shape.length≤5000∧(wAt ws i).lit.cells.length≤5000)→Few g ws from fun h=>⟨by omega,by omega,by omega,by omega,h⟩)
 have HWS:Hid (∀ i,i<ws.length→∀ W,Below w.heap.size w W→∃ b off z1 z2,∃ m1 m2:Nat,R.aw=some ⟨b,off,none⟩∧(∀ V,Below W.heap.size W V→V.cell? ⟨b,off+i*5+1,none⟩=some (.string (wAt ws i).text)∧V.cell? ⟨b,off+i*5+2,none⟩=some (.slice z1 (wAt ws i).lit.shape.length m1)∧V.cell? ⟨b,off+i*5+3,none⟩=some (.slice z2 (wAt ws i).lit.cells.length m2))∧(wAt ws i).text.size≤140737488355328 ∧
   (∀ V,Below W.heap.size W V→Calls Try.prog 18 #[.agg #[.slice z1 (wAt ws i).lit.shape.length m1,.slice z2 (wAt ws i).lit.cells.length m2],.int .i64 1000] V fun e w'=>(∃ r:Int,e=.returned (.int .i64 r)∧0≤r∧r≤147000000080000∧((wAt ws i).lit.cells.length:Int)+((wAt ws i).lit.shape.length:Int)≤r)∧Below W.heap.size W w')):=fun i hi W hW=>by
  obtain ⟨b,off,z1,m1,z2,m2,ha,hl,c0,c1,c2,c3,c4,c5,c6⟩:=(HW.out.next hW) i hi
  exact ⟨b,off,z1,z2,m1,m2,ha,fun V hV=>⟨(hV.cell (p:=⟨b,_,none⟩) hl).trans c1,(hV.cell (p:=⟨b,_,none⟩) hl).trans c2,(hV.cell (p:=⟨b,_,none⟩) hl).trans c3⟩,c5,fun V hV=>(weightM 1000 (by omega) (by omega) (c6.next hV)).mono fun e w' ⟨h,hb⟩=>⟨h,hV.trans (hb.mono hV.size)⟩⟩
 clear HW
 obtain ⟨W1,hW1⟩:∃ W1,w.alloc (.cells #[.slice R.av g.verbs.length R.cv,.slice R.aa g.adverbs.length R.ca,.slice R.ab g.behind.length R.cb,.string g.outer,.string g.power,.string g.opn,.string g.cls,.string g.left,.string g.right,.string R.mi,.string R.qu,.bool g.trains,.bool g.lone,.bool g.square] 24)=W1:=⟨_,rfl⟩
 rw [hW1] at HB0
 obtain ⟨SH,hSH⟩:∃ SH:Nat→Nat,∀ i,(wAt ws i).lit.shape.length=SH i:=⟨_,fun _=>rfl⟩
 obtain ⟨CE,hCE⟩:∃ CE:Nat→Nat,∀ i,(wAt ws i).lit.cells.length=CE i:=⟨_,fun _=>rfl⟩
 obtain ⟨TX,hTX⟩:∃ TX:Nat→ByteArray,∀ i,(wAt ws i).text=TX i:=⟨_,fun _=>rfl⟩
 simp only [hSH,hCE,hTX] at HWS HF
 clear hSH hCE hTX
 generalize hL:ws.length=L at *
 have HL:=hide hL
 clear hL
 generalize R.aw=aw at *
 generalize R.cw=cw at *
 have HW1:=hide hW1
 have c0:W1.cell? ⟨w.heap.size,0,none⟩=some (.slice R.av g.verbs.length R.cv):=by rw [←hW1];exact cell_new0 w _ 24 0 _ rfl
 have c1:W1.cell? ⟨w.heap.size,1,none⟩=some (.slice R.aa g.adverbs.length R.ca):=by rw [←hW1];exact cell_new0 w _ 24 1 _ rfl
 have c2:W1.cell? ⟨w.heap.size,2,none⟩=some (.slice R.ab g.behind.length R.cb):=by rw [←hW1];exact cell_new0 w _ 24 2 _ rfl
 clear hW1
 go_enter Try.func7,Try.ntmps7
 go_upto_region 1 with fail
 rw [HW1.out]
 go_wp2
 go_loopg [5,6] L (fun gm nv iv wr=>∃ (j:Nat) (N:Int),gm+j=L∧iv=.int .i64 (j:Int)∧nv=.int .i64 N∧0≤N∧N≤290000000000000∧(N≤5000→∀ i,i<j→SH i≤5000∧CE i≤5000)∧Below w.heap.size w wr)
 case atStart=>exact ⟨0,0,rfl,rfl,rfl,by omega,by omega,(fun _ i hi=>by omega),HB0.out⟩
 case round =>
  clear c0 c1 c2 HW1 HB0
  obtain ⟨j,N,hj,rfl,rfl,hN0,hN1,hin,hb⟩:=hrel
  have HIN:=hide hin
  have HBB:=hide hb
  clear hin
  by_cases hlt:j<L
  ·by_cases hN:N≤5000
   ·obtain ⟨b,off,z1,z2,m1,m2,rfl,hcell,hsz,hcall⟩:=HWS.out j hlt wr hb
    have HC:=hide hcall
    have KS:=hide hcell
    have HD0:Hid (Below wr.heap.size wr wr.drew):=(Below.refl _ _).drew
    have HI2:=hide (HIN.out hN)
    clear hcall hcell HWS HIN hb
    obtain ⟨SJ,hSJ⟩:∃ SJ,SH j=SJ:=⟨_,rfl⟩
    obtain ⟨CJ,hCJ⟩:∃ CJ,CE j=CJ:=⟨_,rfl⟩
    generalize TX j=T at *
    rw [hSJ] at HC KS
    rw [hCJ] at HC KS
    have HSJ:=hide hSJ
    have HCJ:=hide hCJ
    clear hSJ hCJ
    go_upto_region 7 with fail
    go_region_held3 (fun W=>W.cell? ⟨b,off+j*5+1,none⟩=some (.string T)∧W.cell? ⟨b,off+j*5+2,none⟩=some (.slice z1 SJ m1)∧W.cell? ⟨b,off+j*5+3,none⟩=some (.slice z2 CJ m2)) (first|with_reducible exact KS.out _ HD0.out|with_reducible exact KS.out _ (by with_reducible assumption)) (first|(go_at_call 18;refine (HC.out _ HD0.out).mono ?_;rintro e x1 ⟨⟨r,rfl,hr0,hr1,hr⟩,hb1⟩))
    have HR:=hide hr
    clear hr KS HC HD0
    go_wp2
    go_roundg (L-(j+1))
    case rel =>
     refine ⟨j+1,N+T.size+r,by omega,by go_num,by rw [IntWalk.i64_in (N+(T.size:Int)) ⟨by omega,by omega⟩,IntWalk.i64_in (N+(T.size:Int)+r) ⟨by omega,by omega⟩],by omega,(show N+(T.size:Int)+r≤290000000000000 by omega),?_,HBB.out.trans (hb1.mono HBB.out.size)⟩
     intro hle i hi
     rcases Nat.lt_succ_iff_lt_or_eq.1 hi with h|rfl
     ·exact HI2.out i h
     ·have:=HR.out
      rw [HSJ.out,HCJ.out]
      omega
    case measure=>omega
   ·clear HWS
    go_wp2
    go_ret
    exact ⟨⟨false,by simp [hN],fun h=>by cases h⟩,HBB.out⟩
  ·have:j=L:=by omega
   subst this
   clear HWS
   by_cases hN:N≤5000
   ·have HI2:=hide (HF.out (HIN.out hN))
    clear HIN HF
    go_wp2
    go_ret
    exact ⟨⟨true,by simp [hN],fun _=>HI2.out⟩,HBB.out⟩
   ·clear HIN HF
    go_wp2
    go_ret
    exact ⟨⟨false,by simp [hN],fun h=>by cases h⟩,HBB.out⟩
end Go.Proofs.Ytnaejfoighmfeaa
namespace Go.Proofs.Ytnaejfoighmfeaa.Rn
open Go.ChangeShapes Go.WideShapes Go.ChangeAt Go.RowKit
set_option maxRecDepth 100000
set_option linter.unusedVariables false
set_option linter.unusedSimpArgs false
def KB (s:Nat) (g:Option Nat) (w W:World):Prop:=w.heap.size≤W.heap.size∧∀ k,s<k→k<w.heap.size→some k≠g→W.heap[k]?=w.heap[k]?
def LitIn (s:Nat) (g:Option Nat) (w:World) (x:Ar) (v:Value):Prop:=∀ W,KB s g w W→ArIn 1 0 W x v
theorem LitIn.next {s:Nat} {g:Option Nat} {w w':World} {x:Ar} {v:Value} (h:LitIn s g w x v) (hb:Below w.heap.size w w'):LitIn s g w' x v :=
 fun W hW=>h W ⟨Nat.le_trans hb.size hW.1,fun k hs hk hg=>(hW.2 k hs (Nat.lt_of_lt_of_le hk hb.size) hg).trans (hb.block k hk)⟩
theorem LitIn.grow {s:Nat} {g g':Option Nat} {w w':World} {x:Ar} {v:Value} (h:LitIn s g w x v) (hg:w.grownBy w' g) (hn:g'=g∨g'=some w.heap.size):LitIn s g' w' x v :=
 fun W hW=>h W ⟨Nat.le_trans hg.size hW.1,fun k hs hk hk'=>(hW.2 k hs (Nat.lt_of_lt_of_le hk hg.size) (fun e=>by
  rcases hn with hn|hn
  ·exact hk' (e.trans hn)
  ·rw [hn] at e;cases e;omega)).trans (hg.block k hk hk')⟩
theorem LitIn.of {s:Nat} {g:Option Nat} {w:World} {x:Ar} {v:Value} {lo:Nat} (h:ArIn 1 lo w x v) (hs:s<lo) (hg:∀ k,g=some k→k<lo):LitIn s g w x v :=
 fun W hW=>arIn_low (h.keeps ⟨hW.1,fun b h1 h2=>hW.2 b (by omega) h2 (fun e=>by have:=hg b e.symm;omega)⟩) (Nat.zero_le _)
def TkL (s:Nat) (g:Option Nat) (w:World) (ts:List Wo) (vs:List Value):Prop:=∀ i t,ts[i]?=some t→∃ z1 m1 z2 m2,vs[i*5]?=some (.int .i64 t.kind)∧vs[i*5+1]?=some (.string t.text)∧vs[i*5+2]?=some (.slice z1 t.lit.shape.length m1)∧vs[i*5+3]?=some (.slice z2 t.lit.cells.length m2)∧vs[i*5+4]?=some (.int .i64 t.pos)∧(t.text.size≤140737488355328∧LitIn s g w t.lit (.agg #[.slice z1 t.lit.shape.length m1,.slice z2 t.lit.cells.length m2]))
theorem TkL.nil (s:Nat) (g:Option Nat) (w:World):TkL s g w [] []:=fun i t h=>by simp at h
theorem TkL.next {s:Nat} {g:Option Nat} {w w':World} {ts:List Wo} {vs:List Value} (h:TkL s g w ts vs) (hb:Below w.heap.size w w'):TkL s g w' ts vs:=fun i t hi=>by
 obtain ⟨z1,m1,z2,m2,a,b,c,d,e,f⟩:=h i t hi
 exact ⟨z1,m1,z2,m2,a,b,c,d,e,f.1,f.2.next hb⟩
theorem TkL.snoc {s:Nat} {g g':Option Nat} {w w':World} {ts:List Wo} {vs:List Value} {t:Wo} {z1 z2:Option Addr} {m1 m2:Nat} (h:TkL s g w ts vs) (hz:t.text.size≤140737488355328) (hl:vs.length=ts.length*5) (ht:LitIn s g w t.lit (.agg #[.slice z1 t.lit.shape.length m1,.slice z2 t.lit.cells.length m2])) (hg:w.grownBy w' g) (hn:g'=g∨g'=some w.heap.size) :
  TkL s g' w' (ts++[t]) (vs++[.int .i64 t.kind,.string t.text,.slice z1 t.lit.shape.length m1,.slice z2 t.lit.cells.length m2,.int .i64 t.pos]):=by
 intro i u hi
 by_cases hlt:i<ts.length
 ·rw [List.getElem?_append_left hlt] at hi
  obtain ⟨y1,k1,y2,k2,a,b,c,d,e,f⟩:=h i u hi
  have lf:∀ j,j<vs.length→∀ x,vs[j]?=some x→(vs++[.int .i64 t.kind,.string t.text,.slice z1 t.lit.shape.length m1,.slice z2 t.lit.cells.length m2,.int .i64 t.pos])[j]?=some x:=fun j hj x hx=>by rw [List.getElem?_append_left hj];exact hx
  exact ⟨y1,k1,y2,k2,lf _ (by omega) _ a,lf _ (by omega) _ b,lf _ (by omega) _ c,lf _ (by omega) _ d,lf _ (by omega) _ e,f.1,f.2.grow hg hn⟩
 ·have hie:i=ts.length:=by
   have:=(List.getElem?_eq_some_iff.1 hi).1
   rw [List.length_append] at this
   simp at this
   omega
  subst hie
  rw [List.getElem?_append_right (Nat.le_refl _)] at hi
  simp at hi
  subst hi
  have rf:∀ j x,([.int .i64 t.kind,.string t.text,.slice z1 t.lit.shape.length m1,.slice z2 t.lit.cells.length m2,.int .i64 t.pos]:List Value)[j]?=some x→(vs++[.int .i64 t.kind,.string t.text,.slice z1 t.lit.shape.length m1,.slice z2 t.lit.cells.length m2,.int .i64 t.pos])[ts.length*5+j]?=some x:=fun j x hx=>by
   rw [List.getElem?_append_right (by omega),show ts.length*5+j-vs.length=j by omega];exact hx
  exact ⟨z1,m1,z2,m2,rf 0 _ rfl,rf 1 _ rfl,rf 2 _ rfl,rf 3 _ rfl,rf 4 _ rfl,hz,ht.grow hg hn⟩
theorem wAt_some {ts:List Wo} {i:Nat} (h:i<ts.length):ts[i]?=some (wAt ts i):=by simp [wAt,h]
theorem tkIn_of {w:World} {base s:Nat} {v:Value} {ts:List Wo} {vs:List Value} (hs:s<base) (hown:w.ownsRow base 43 5 v ts.length vs) (h:TkL s v.ownBlock w ts vs):∃ a c,v=.slice a ts.length c∧ts.length≤c∧∀ W,w.heap.size≤W.heap.size→(∀ k,s<k→k<w.heap.size→W.heap[k]?=w.heap[k]?)→WoR 1 W a ts:=by
 have hown':=hown
 obtain ⟨h1,h2⟩:=hown
 rcases h2 with ⟨rfl,h2⟩|⟨g,cap,cur,rfl,hb,hg,hn,hm,hz,ht⟩
 ·have e:ts=[]:=List.eq_nil_of_length_eq_zero h2
  subst e
  exact ⟨none,0,rfl,Nat.zero_le _,fun W _ _ i hi=>by simp at hi⟩
 ·refine ⟨_,_,rfl,by omega,fun W hW1 hW2 i hi=>?_⟩
  obtain ⟨z1,m1,z2,m2,a0,a1,a2,a3,a4,a5,a6⟩:=h i _ (wAt_some hi)
  have c:∀ j x,j<ts.length*5→vs[j]?=some x→W.cell? ⟨g,0+j,none⟩=some x:=fun j x hj hx=>by
   have:=hown'.cellAt j hj
   rw [hx] at this
   rw [World.cell?_of_block (w:=w) (a:=⟨g,0+j,none⟩) (hW2 g (by omega) (lt_of_block hg))]
   simpa using this
  exact ⟨g,0,z1,m1,z2,m2,rfl,Nat.lt_of_lt_of_le (lt_of_block hg) hW1,c _ _ (by omega) a0,c (i*5+1) _ (by omega) a1,c (i*5+2) _ (by omega) a2,c (i*5+3) _ (by omega) a3,c (i*5+4) _ (by omega) a4,a5,a6 W ⟨hW1,fun k hs hk _=>hW2 k hs hk⟩⟩
def WoK (lo:Nat) (w:World) (a:Option Addr) (ws:List Wo):Prop:=∀ W,w.heap.size≤W.heap.size→(∀ k,lo≤k→k<w.heap.size→W.heap[k]?=w.heap[k]?)→WoR 1 W a ws
theorem WoK.words {lo:Nat} {w:World} {a:Option Addr} {ws:List Wo} (h:WoK lo w a ws):WoR 1 w a ws:=h w (Nat.le_refl _) fun _ _ _=>rfl
theorem WoK.next {lo:Nat} {w w':World} {a:Option Addr} {ws:List Wo} (h:WoK lo w a ws) (hb:Below w.heap.size w w'):WoK lo w' a ws:=fun W h1 h2=>h W (Nat.le_trans hb.size h1) fun k hk hk2=>(h2 k hk (Nat.lt_of_lt_of_le hk2 hb.size)).trans (hb.block k hk2)
theorem strD_end (m:List Int) (f:Nat):∀ l,begD m l=true→(strD m (f+1) l).2.2=none→1≤(strD m (f+1) l).2.1∧(strD m (f+1) l).2.1≤l.length:=by
 induction f with
|zero =>
  intro l hl
  have hk:=endD_pos hl
  simp only [strD]
  split
  ·intro h;cases h
  ·split
   ·intro _;show 1≤endD m l∧endD m l≤_;omega
   ·intro _;have:=lead_le blB (l.drop (endD m l));rw [List.length_drop] at this;show 1≤endD m l+_+0∧endD m l+_+0≤_;omega
|succ f ih =>
  intro l hl
  have hk:=endD_pos hl
  rw [strD]
  split
  ·intro h;cases h
  ·split
   ·intro _;show 1≤endD m l∧endD m l≤_;omega
   ·rename_i h2
    have hn:begD m (l.drop (endD m l+lead blB (l.drop (endD m l))))=true:=by
     cases hh:begD m (l.drop (endD m l+lead blB (l.drop (endD m l)))) with
    |true=>rfl
    |false=>exact absurd (Or.inr hh) h2
    intro h3
    have h4:(strD m (f+1) (l.drop (endD m l+lead blB (l.drop (endD m l))))).2.2=none:=by
     simpa using h3
    have i1:=ih _ hn h4
    have hb:=lead_le blB (l.drop (endD m l))
    rw [List.length_drop] at i1 hb
    show 1≤endD m l+_+_∧endD m l+_+_≤_
    omega
theorem quoD_end (f:Nat):∀ l,(quoD f l).2.2=0→(quoD f l).2.1+1≤l.length:=by
 induction f with
|zero=>intro l h;simp [quoD] at h
|succ f ih =>
  intro l
  rw [quoD]
  split
  ·intro h;simp at h
  ·rename_i hl
   have hl':0<l.length:=List.length_pos_iff.2 hl
   split
   ·intro h;simp at h
   ·rename_i n k hk
    split
    ·intro _;show 0+1≤_;omega
    ·rename_i hq
     have hs:=stpD_len hk hq
     split
     ·intro h;simp at h
     ·intro h
      have:=ih _ h
      rw [List.length_drop] at this
      show _+_+1≤_
      omega
theorem fixD_len {l:List Int} {k:Int} {t:ByteArray} (h:fixD l=some (k,t)):1≤t.size∧t.size≤l.length:=by
 have hh:∀ L:List ByteArray,(∀ t∈L,1≤t.size)→∀ t,fxD l L=some t→1≤t.size∧t.size≤l.length:=fun L hL t ht=>⟨hL t (fxD_mem ht),by
  have:=List.find?_some ht
  have:=hasP_len this
  rwa [numsS_len] at this⟩
 unfold fixD at h
 split at h
 ·rename_i u hu;cases h;exact hh fxL0 (by decide) _ hu
 ·split at h
  ·rename_i u hu;cases h;exact hh fxL1 (by decide) _ hu
  ·split at h
   ·rename_i u hu;cases h;exact hh fxL2 (by decide) _ hu
   ·split at h
    ·rename_i u hu;cases h;exact hh fxL3 (by decide) _ hu
    ·split at h
     ·rename_i u hu;cases h;exact hh fxL4 (by decide) _ hu
     ·cases h
theorem oneW_stop (s:ByteArray) (a:Nat) (ha:a<s.size) (h:(oneW s a).err=0):a<(oneW s a).stop∧(oneW s a).stop≤s.size∧(oneW s a).text.size≤s.size:=by
 have hlen:∀ j,((numsS s).drop j).length=s.size-j:=fun j=>by rw [List.length_drop,numsS_len]
 unfold oneW at h ⊢
 split at h
 ·simp at h
 ·rename_i h0
  rw [if_neg h0]
  split at h
  ·rename_i hb
   rw [if_pos hb]
   split at h
   ·simp at h
   ·rename_i hn
    have hs:1≤(SD minL ((numsS s).drop a)).2.1∧(SD minL ((numsS s).drop a)).2.1≤s.size-a:=by
     have:=strD_end minL _ _ hb hn
     exact ⟨this.1,by rw [←hlen a];exact this.2⟩
    simp only [hn]
    refine ⟨?_,?_,Nat.zero_le _⟩
    ·show a<a+(SD minL ((numsS s).drop a)).2.1;omega
    ·show a+(SD minL ((numsS s).drop a)).2.1≤s.size;omega
  ·rename_i hb
   rw [if_neg hb]
   split at h
   ·rename_i h39
    rw [if_pos h39]
    split at h
    ·rename_i hq
     rw [if_pos hq]
     have hs:(QD ((numsS s).drop (a+1))).2.1+1≤s.size-(a+1):=by rw [←hlen (a+1)];exact quoD_end _ _ hq
     refine ⟨?_,?_,Nat.zero_le _⟩
     ·show a<a+1+_+1;omega
     ·show a+1+(QD ((numsS s).drop (a+1))).2.1+1≤s.size;omega
    ·rename_i hq
     exfalso
     simp only at h
     split at h
     ·cases h
     ·exact hq h
   ·rename_i h39
    rw [if_neg h39]
    split at h
    ·rename_i hl
     rw [if_pos hl]
     split at h
     ·simp at h
     ·rename_i h8
      rw [if_neg h8]
      have hle:=lead_le nmB ((numsS s).drop (a+1))
      rw [hlen] at hle
      refine ⟨?_,?_,?_⟩
      ·show a<wrdE s a;unfold wrdE;omega
      ·show wrdE s a≤s.size;unfold wrdE;omega
      ·have:=numsS_len (cutS s a (wrdE s a))
       rw [cutS_nums,List.length_take,hlen] at this
       show (cutS s a (wrdE s a)).size≤_;omega
    ·rename_i hl
     rw [if_neg hl]
     split at h
     ·simp at h
     ·rename_i k t hf
      simp only [hf]
      have:=fixD_len hf
      rw [hlen] at this
      refine ⟨?_,?_,?_⟩
      ·show a<a+t.size;omega
      ·show a+t.size≤s.size;omega
      ·show t.size≤s.size;omega
def lexD (s:ByteArray):Nat→Nat→Nat→Rs (List Wo)
|0,_,_=>.ok []
|f+1,n,a =>
  if ¬ a<s.size∨hasP ((numsS s).drop a) remL=true then .ok []
  else if n=2048 then .bad 14 a
  else if ¬ (oneW s a).err=0 then .bad (oneW s a).err (oneW s a).ea
  else (lexD s f (n+1) ((oneW s a).stop+lead blB ((numsS s).drop (oneW s a).stop))).bind fun l=>.ok (⟨(oneW s a).kind,(oneW s a).text,(oneW s a).lit,(a:Int)⟩::l)
def lexA (s:ByteArray):Rs (List Wo):=if 8192<s.size then .bad 14 0 else lexD s (s.size+1) 0 (lead blB (numsS s))
def jnD (ts:List Wo) (r:Rs (List Wo)):Rs (List Wo):=r.bind fun l=>.ok (ts++l)
theorem lexD_fuel (s:ByteArray) (f:Nat):∀ f' n a,s.size-a<f→s.size-a<f'→lexD s f' n a=lexD s f n a:=by
 induction f with
|zero=>intro f' n a h;omega
|succ f ih =>
  intro f' n a hf hf'
  obtain ⟨f',rfl⟩:∃ g,f'=g+1:=⟨f' - 1,by omega⟩
  rw [lexD,lexD]
  split
  ·rfl
  ·rename_i h1
   split
   ·rfl
   ·split
    ·rfl
    ·rename_i h3
     have hlt:a<s.size:=Decidable.byContradiction fun h=>h1 (Or.inl h)
     have hs:=oneW_stop s a hlt (Decidable.not_not.1 h3)
     rw [ih f' (n+1) _ (by omega) (by omega)]
def LD (s:ByteArray) (n a:Nat):Rs (List Wo):=lexD s (s.size+1) n a
theorem LD_end {s:ByteArray} {n a:Nat} (h:¬ a<s.size∨hasP ((numsS s).drop a) remL=true):LD s n a=.ok []:=by unfold LD;rw [lexD,if_pos h]
theorem LD_long {s:ByteArray} {a:Nat} (h:¬ (¬ a<s.size∨hasP ((numsS s).drop a) remL=true)):LD s 2048 a=.bad 14 a:=by unfold LD;rw [lexD,if_neg h,if_pos rfl]
theorem LD_bad {s:ByteArray} {n a:Nat} (h:¬ (¬ a<s.size∨hasP ((numsS s).drop a) remL=true)) (hn:¬ n=2048) (he:¬ (oneW s a).err=0):LD s n a=.bad (oneW s a).err (oneW s a).ea:=by unfold LD;rw [lexD,if_neg h,if_neg hn,if_pos he]
theorem LD_go {s:ByteArray} {n a:Nat} {ts:List Wo} (h:¬ (¬ a<s.size∨hasP ((numsS s).drop a) remL=true)) (hn:¬ n=2048) (he:(oneW s a).err=0) :
  jnD ts (LD s n a)=jnD (ts++[⟨(oneW s a).kind,(oneW s a).text,(oneW s a).lit,(a:Int)⟩]) (LD s (n+1) ((oneW s a).stop+lead blB ((numsS s).drop (oneW s a).stop))):=by
 have hlt:a<s.size:=Decidable.byContradiction fun hh=>h (Or.inl hh)
 have hs:=oneW_stop s a hlt he
 have e:LD s n a=(LD s (n+1) ((oneW s a).stop+lead blB ((numsS s).drop (oneW s a).stop))).bind fun l=>.ok (⟨(oneW s a).kind,(oneW s a).text,(oneW s a).lit,(a:Int)⟩::l):=by
  unfold LD
  conv=>lhs;rw [lexD,if_neg h,if_neg hn,if_neg (fun hh=>hh he)]
  rw [lexD_fuel s (s.size+1) s.size (n+1) _ (by omega) (by omega)]
 rw [e]
 cases LD s (n+1) ((oneW s a).stop+lead blB ((numsS s).drop (oneW s a).stop)) with
|ok l=>simp [jnD,Rs.bind]
|bad e p=>rfl
|stuck=>rfl
def GvU (s:ByteArray) (a:Nat) (w:World) (e:Ending) (w':World):Prop:=∃ r:Wd1,GvO r a w e w'∧(r.err=0→a<r.stop∧r.stop≤s.size∧r.text.size≤s.size)
theorem put53 {w X W8 W9:World} {us vs ts rs:List Value} (R:Cs X w.heap.size us) (F:Cs X (w.heap.size+1) ts) (hl:vs.length≤us.length) (hk:rs.length≤ts.length) (hb:Below w.heap.size w X) (h8:X.setCells w.heap.size 0 vs=W8) (h9:W8.setCells (w.heap.size+1) 0 rs=W9) :
  X.there w.heap.size 0 vs.length∧W8.there (w.heap.size+1) 0 rs.length∧Cs W9 w.heap.size vs∧Cs W9 (w.heap.size+1) rs∧Below w.heap.size w W9∧(∀ lo,w.heap.size+2≤lo→Keeps lo X W9):=by
 obtain ⟨C8,B8⟩:=R.put hl h8
 have F8:=F.but B8 (by show ¬ w.heap.size+1=w.heap.size;omega)
 obtain ⟨C9,B9⟩:=F8.put hk h9
 have hb8:=hb.trans (B8.below hb.size fun k hk=>by omega)
 exact ⟨R.there hl,F8.there hk,C8.but B9 (by show ¬ w.heap.size=w.heap.size+1;omega),C9,hb8.trans (B9.below hb8.size fun k hk=>by omega),fun lo hlo=>⟨Nat.le_trans B8.size B9.size,fun b h1 h2=>(B9.block (Nat.lt_of_lt_of_le h2 B8.size) (by show ¬ b=w.heap.size+1;omega)).trans (B8.block h2 (by show ¬ b=w.heap.size;omega))⟩⟩
theorem fin8 {w V:World} {us ts:List Value} (R:Cs V w.heap.size us) (F:Cs V (w.heap.size+1) ts) (hl:5≤us.length) (hk:3≤ts.length) (hb:Below w.heap.size w V) (v0 v1 v2 v3 v4 r0 r1 r2:Value) :
  ∃ W9,((((((((V.setCell ⟨w.heap.size,0,none⟩ v0).setCell ⟨w.heap.size,1,none⟩ v1).setCell ⟨w.heap.size,2,none⟩ v2).setCell ⟨w.heap.size,3,none⟩ v3).setCell ⟨w.heap.size,4,none⟩ v4).setCell ⟨w.heap.size+1,0,none⟩ r0).setCell ⟨w.heap.size+1,1,none⟩ r1).setCell ⟨w.heap.size+1,2,none⟩ r2).drew=W9∧Cs W9 w.heap.size [v0,v1,v2,v3,v4]∧Cs W9 (w.heap.size+1) [r0,r1,r2]∧Below w.heap.size w W9:=by
 have e8:(V.setCells w.heap.size 0 [v0,v1,v2,v3,v4]).setCells (w.heap.size+1) 0 [r0,r1,r2]=((((((((V.setCell ⟨w.heap.size,0,none⟩ v0).setCell ⟨w.heap.size,1,none⟩ v1).setCell ⟨w.heap.size,2,none⟩ v2).setCell ⟨w.heap.size,3,none⟩ v3).setCell ⟨w.heap.size,4,none⟩ v4).setCell ⟨w.heap.size+1,0,none⟩ r0).setCell ⟨w.heap.size+1,1,none⟩ r1).setCell ⟨w.heap.size+1,2,none⟩ r2):=by simp [World.setCells]
 obtain ⟨-,-,C,D,hB,-⟩:=put53 (vs:=[v0,v1,v2,v3,v4]) (rs:=[r0,r1,r2]) R F hl hk hb rfl rfl
 rw [e8] at C D hB
 generalize ((((((((V.setCell ⟨w.heap.size,0,none⟩ v0).setCell ⟨w.heap.size,1,none⟩ v1).setCell ⟨w.heap.size,2,none⟩ v2).setCell ⟨w.heap.size,3,none⟩ v3).setCell ⟨w.heap.size,4,none⟩ v4).setCell ⟨w.heap.size+1,0,none⟩ r0).setCell ⟨w.heap.size+1,1,none⟩ r1).setCell ⟨w.heap.size+1,2,none⟩ r2)=W at *
 have hd:Below W.heap.size W W.drew:=(Below.refl _ _).drew
 exact ⟨_,rfl,C.next hd C.lt,D.next hd D.lt,hB.drew⟩
set_option maxHeartbeats 16000000 in
theorem one27 (s:ByteArray) (a:Nat) (ha:a<s.size) (hs:s.size≤8192) (w:World) :
  Calls Try.prog 27 #[.string s,.int .i64 (a:Int)] w fun e w'=>GvU s a w e w':=by
 obtain ⟨W2,hW2⟩:∃ W2,((w.alloc (.cells #[.int .i64 0,.string ⟨#[]⟩,.slice none 0 0,.slice none 0 0,.int .i64 0] 43)).alloc (.cells #[.int .i64 0,.int .i64 0,.int .i64 0] 28)).alloc (.cells #[.int .i64 2,.int .i64 (a:Int),.int .i64 0] 28)=W2:=⟨_,rfl⟩
 have hs1:(w.alloc (.cells #[.int .i64 0,.string ⟨#[]⟩,.slice none 0 0,.slice none 0 0,.int .i64 0] 43)).heap.size=w.heap.size+1:=by simp
 have hs2:((w.alloc (.cells #[.int .i64 0,.string ⟨#[]⟩,.slice none 0 0,.slice none 0 0,.int .i64 0] 43)).alloc (.cells #[.int .i64 0,.int .i64 0,.int .i64 0] 28)).heap.size=w.heap.size+2:=by simp
 have b2:Below w.heap.size w W2:=by rw [←hW2];exact bel_to (two_allocs _ _ _) (one_alloc _ _)
 have s2:W2.heap.size=w.heap.size+3:=by rw [←hW2];simp
 have R2:Cs W2 w.heap.size [.int .i64 0,.string ⟨#[]⟩,.slice none 0 0,.slice none 0 0,.int .i64 0]:=by rw [←hW2];exact (Cs.new w [.int .i64 0,.string ⟨#[]⟩,.slice none 0 0,.slice none 0 0,.int .i64 0] 43).next (two_allocs _ _ _) (by simp)
 have F2:Cs W2 (w.heap.size+1) [.int .i64 0,.int .i64 0,.int .i64 0]:=by
  have h:=(Cs.new (w.alloc (.cells #[.int .i64 0,.string ⟨#[]⟩,.slice none 0 0,.slice none 0 0,.int .i64 0] 43)) [.int .i64 0,.int .i64 0,.int .i64 0] 28).next (one_alloc _ (.cells #[.int .i64 2,.int .i64 (a:Int),.int .i64 0] 28)) (by simp)
  rw [hs1] at h
  rw [←hW2];exact h
 have G2:Cs W2 (w.heap.size+2) [.int .i64 2,.int .i64 (a:Int),.int .i64 0]:=by
  have h:=Cs.new ((w.alloc (.cells #[.int .i64 0,.string ⟨#[]⟩,.slice none 0 0,.slice none 0 0,.int .i64 0] 43)).alloc (.cells #[.int .i64 0,.int .i64 0,.int .i64 0] 28)) [.int .i64 2,.int .i64 (a:Int),.int .i64 0] 28
  rw [hs2] at h
  rw [←hW2];exact h
 have HB2:=hide b2
 have HS2:=hide s2
 have HR2:=hide R2
 have HF2:=hide F2
 have HG2:=hide G2
 have HW2:=hide hW2
 have HSG:=hide (sign45 s a (by omega) (by omega) W2)
 have HBE:=hide (fun W=>begins46 s ⟨#[95]⟩ a (by omega) (by omega) (by decide) W)
 have HST:=hide (fun hb W=>strand47 s ⟨#[95]⟩ a (by omega) hs (by decide) hb W)
 have HSE:=hide (fun h1 h2=>strD_end (numsS ⟨#[95]⟩) ((numsS s).drop a).length ((numsS s).drop a) h1 h2)
 have HQE:=hide (fun h=>quoD_end (((numsS s).drop (a+1)).length+1) ((numsS s).drop (a+1)) h)
 have HQU:=hide (fun W=>quoted48 s a ha hs W)
 have HLE:=hide (fun W=>small52 (byt s a) W)
 have HWO:=hide (fun h W=>word53 s a ha hs h W)
 have HFI:=hide (fun W=>fixed54 s a (by omega) hs W)
 have HX:=hide (fun W=>byt_run s a ha W)
 have hln:((numsS s).drop a).length=s.size-a:=by rw [List.length_drop,numsS_len]
 have hl1:((numsS s).drop (a+1)).length=s.size-(a+1):=by rw [List.length_drop,numsS_len]
 have HLN:=hide (And.intro hln hl1)
 have hbnd:a≤8192:=by omega
 have HA:=hide ha
 have hs9:=hs
 clear hW2 hs1 hs2 b2 s2 R2 F2 G2 ha hln hl1 hs
 go_enter Try.func27,Try.ntmps27
 go_upto_region 2 with fail
 rw [HW2.out]
 clear HW2
 generalize oneN ((numsS s).drop a)=on at *
 generalize hok:oneK ((numsS s).drop a)=ok at *
 clear hok
 go_wp2_with fail
 refine HSG.out.mono ?_
 rintro e U ⟨rfl,hbu⟩
 have HBU:=hide hbu
 clear HSG hbu
 by_cases h0:ok=0
 ·subst h0
  have hRX:=HR2.out.next HBU.out HR2.out.lt
  have hFX:=HF2.out.next HBU.out HF2.out.lt
  have hBX:=bel_to HB2.out HBU.out
  clear HBE HST HSE HQE HQU HLE HWO HFI HX
  obtain ⟨W8,hW8⟩:∃ W8,U.setCells w.heap.size 0 [.int .i64 0,.string ⟨#[]⟩,.slice none 0 0,.slice none 0 0,.int .i64 0]=W8:=⟨_,rfl⟩
  obtain ⟨W9,hW9⟩:∃ W9,W8.setCells (w.heap.size+1) 0 [.int .i64 3,.int .i64 (a:Int),.int .i64 0]=W9:=⟨_,rfl⟩
  have HW8:Hid (U.setCells w.heap.size 0 (#[.int .i64 0,.string ⟨#[]⟩,.slice none 0 0,.slice none 0 0,.int .i64 0]:Array Value).toList=W8):=hW8
  have HW9:Hid (W8.setCells (w.heap.size+1) 0 (#[.int .i64 3,.int .i64 (a:Int),.int .i64 0]:Array Value).toList=W9):=hW9
  obtain ⟨t8,t9,C9,D9,B9,K9⟩:=put53 hRX hFX (by simp) (by simp) hBX hW8 hW9
  have HT8:=hide t8
  have HT9:=hide t9
  have HC9:=hide C9
  have HD9:=hide D9
  have HB9:=hide B9
  clear t8 t9 C9 D9 B9 K9 hW8 hW9 hRX hFX hBX
  go_wp2_with (first|(refine wpList_store_mid rfl 43 (.tmp 4) (.tmp 28) rfl w.heap.size 0 #[.int .i64 0,.string ⟨#[]⟩,.slice none 0 0,.slice none 0 0,.int .i64 0] rfl rfl HT8.out (by kernel_rfl) (by simp [Value.oneCell']) ?_;rw [HW8.out])|(refine wpList_store_mid rfl 28 (.tmp 6) (.tmp 31) rfl (w.heap.size+1) 0 #[.int .i64 3,.int .i64 (a:Int),.int .i64 0] rfl rfl HT9.out (by kernel_rfl) (by simp [Value.oneCell']) ?_;rw [HW9.out]))
  have r0:=HC9.out.c 0 _ rfl
  have r1:=HC9.out.c 1 _ rfl
  have r2:=HC9.out.c 2 _ rfl
  have r3:=HC9.out.c 3 _ rfl
  have r4:=HC9.out.c 4 _ rfl
  have q0:=HD9.out.c 0 _ rfl
  have q1:=HD9.out.c 1 _ rfl
  have q2:=HD9.out.c 2 _ rfl
  exact bodyPost_ret (v:=.tuple #[.agg #[.int .i64 0,.string ⟨#[]⟩,.slice none 0 0,.slice none 0 0,.int .i64 0],.int .i64 (a:Int),.agg #[.int .i64 3,.int .i64 (a:Int),.int .i64 0]]) (by simp [results,Try.results27,go_sem,r0,r1,r2,r3,r4,q0,q1,q2]) rfl (⟨⟨0,nilT,nilA,0,3,a⟩,GvO.bad HB9.out rfl (by decide) rfl,fun h=>by cases h⟩)
 ·have hk0:((ok:Int)==0)=false:=beq_eq_false_iff_ne.2 (by omega)
  have HBE1:=hide (HBE.out U)
  clear HBE
  cases hbg:begD (numsS ⟨#[95]⟩) ((numsS s).drop a) with
 |true =>
   rw [hbg] at HBE1
   have HST1:=hide (HST.out hbg U)
   have HSE1:=hide (HSE.out hbg)
   clear HST HSE HQE HQU HLE HWO HFI HX hbg
   go_wp2_with fail
   refine HBE1.out.mono ?_
   rintro e w1 ⟨rfl,rfl⟩
   clear HBE1
   go_wp2_with fail
   refine HST1.out.mono ?_
   rintro e w3 ⟨hb3,hT⟩
   have HB3:=hide (bel_to HBU.out hb3)
   have HB3L:=hide (bel_to HBU.out hb3).size
   have HTT:=hide hT
   have HLO:=hide (show w.heap.size+3≤w1.heap.size by have:=HS2.out;have:=HBU.out.size;omega)
   have HSE2:Hid ((SD (numsS ⟨#[95]⟩) ((numsS s).drop a)).2.2=none→1≤(SD (numsS ⟨#[95]⟩) ((numsS s).drop a)).2.1∧(SD (numsS ⟨#[95]⟩) ((numsS s).drop a)).2.1≤((numsS s).drop a).length):=HSE1.out
   clear HST1 hb3 hT HSE1
   generalize SD (numsS ⟨#[95]⟩) ((numsS s).drop a)=T at *
   obtain ⟨xs,st,bd⟩:=T
   cases bd with
  |some j =>
    obtain rfl:=HTT.out
    obtain ⟨X,hX⟩:∃ X,w3.alloc (.cells #[.int .i64 1,.string ⟨#[]⟩,.slice none 0 0,.slice none 0 0,.int .i64 (a:Int)] 43)=X:=⟨_,rfl⟩
    have bq:Below w3.heap.size w3 X:=by rw [←hX];exact one_alloc _ _
    have DX:Cs X w3.heap.size [.int .i64 1,.string ⟨#[]⟩,.slice none 0 0,.slice none 0 0,.int .i64 (a:Int)]:=by rw [←hX];exact Cs.new w3 [.int .i64 1,.string ⟨#[]⟩,.slice none 0 0,.slice none 0 0,.int .i64 (a:Int)] 43
    have c0:=DX.c 0 _ rfl
    have c1:=DX.c 1 _ rfl
    have c2:=DX.c 2 _ rfl
    have c3:=DX.c 3 _ rfl
    have c4:=DX.c 4 _ rfl
    have HBQ:=hide bq
    have HB4:=hide (bel_to HB3.out bq)
    clear bq DX HB3
    have hRX:=HR2.out.next HB4.out HR2.out.lt
    have hFX:=HF2.out.next HB4.out HF2.out.lt
    have hBX:=bel_to HB2.out HB4.out
    obtain ⟨W8,hW8⟩:∃ W8,X.setCells w.heap.size 0 [.int .i64 1,.string ⟨#[]⟩,.slice none 0 0,.slice none 0 0,.int .i64 (a:Int)]=W8:=⟨_,rfl⟩
    obtain ⟨W9,hW9⟩:∃ W9,W8.setCells (w.heap.size+1) 0 [.int .i64 2,.int .i64 ((a+j:Nat):Int),.int .i64 0]=W9:=⟨_,rfl⟩
    have HW8:Hid (X.setCells w.heap.size 0 (#[.int .i64 1,.string ⟨#[]⟩,.slice none 0 0,.slice none 0 0,.int .i64 (a:Int)]:Array Value).toList=W8):=hW8
    have HW9:Hid (W8.setCells (w.heap.size+1) 0 (#[.int .i64 2,.int .i64 ((a+j:Nat):Int),.int .i64 0]:Array Value).toList=W9):=hW9
    obtain ⟨t8,t9,C9,D9,B9,K9⟩:=put53 hRX hFX (by simp) (by simp) hBX hW8 hW9
    have HT8:=hide t8
    have HT9:=hide t9
    have HC9:=hide C9
    have HD9:=hide D9
    have HB9:=hide B9
    clear t8 t9 C9 D9 B9 K9 hW8 hW9 hRX hFX hBX
    go_wp2_with (first|(refine wpList_store_mid rfl 43 (.tmp 4) (.tmp 44) rfl w.heap.size 0 #[.int .i64 1,.string ⟨#[]⟩,.slice none 0 0,.slice none 0 0,.int .i64 (a:Int)] rfl rfl HT8.out (by kernel_rfl) (by simp [Value.oneCell']) ?_;rw [HW8.out])|(refine wpList_store_mid rfl 28 (.tmp 6) (.tmp 47) rfl (w.heap.size+1) 0 #[.int .i64 2,.int .i64 ((a+j:Nat):Int),.int .i64 0] rfl rfl HT9.out (by kernel_rfl) (by simp [Value.oneCell']) ?_;rw [HW9.out]))
    have r0:=HC9.out.c 0 _ rfl
    have r1:=HC9.out.c 1 _ rfl
    have r2:=HC9.out.c 2 _ rfl
    have r3:=HC9.out.c 3 _ rfl
    have r4:=HC9.out.c 4 _ rfl
    have q0:=HD9.out.c 0 _ rfl
    have q1:=HD9.out.c 1 _ rfl
    have q2:=HD9.out.c 2 _ rfl
    exact bodyPost_ret (v:=.tuple #[.agg #[.int .i64 1,.string ⟨#[]⟩,.slice none 0 0,.slice none 0 0,.int .i64 (a:Int)],.int .i64 ((a+j:Nat):Int),.agg #[.int .i64 2,.int .i64 ((a+j:Nat):Int),.int .i64 0]]) (by simp [results,Try.results27,go_sem,r0,r1,r2,r3,r4,q0,q1,q2]) rfl (⟨⟨1,nilT,nilA,0,2,a+j⟩,GvO.bad HB9.out rfl (by decide) rfl,fun h=>by cases h⟩)
  |none =>
    obtain ⟨z1,m1,z2,m2,rfl,hin⟩:=HTT.out
    have HIN:=hide hin
    have hse:=HSE2.out rfl
    simp only [HLN.out.1] at hse
    have HFT:=hide (show a<a+st∧a+st≤s.size∧nilT.size≤s.size from ⟨by omega,by have:=HA.out;omega,by show 0≤_;omega⟩)
    obtain ⟨l1,hl1⟩:∃ l1,(litD xs).shape.length=l1:=⟨_,rfl⟩
    obtain ⟨l2,hl2⟩:∃ l2,(litD xs).cells.length=l2:=⟨_,rfl⟩
    have HL1:=hide hl1
    have HL2:=hide hl2
    simp only [hl1,hl2] at HIN ⊢
    clear hin hl1 hl2 hse HTT HSE2
    obtain ⟨X,hX⟩:∃ X,w3.alloc (.cells #[.int .i64 1,.string ⟨#[]⟩,.slice z1 l1 m1,.slice z2 l2 m2,.int .i64 (a:Int)] 43)=X:=⟨_,rfl⟩
    have bq:Below w3.heap.size w3 X:=by rw [←hX];exact one_alloc _ _
    have DX:Cs X w3.heap.size [.int .i64 1,.string ⟨#[]⟩,.slice z1 l1 m1,.slice z2 l2 m2,.int .i64 (a:Int)]:=by rw [←hX];exact Cs.new w3 [.int .i64 1,.string ⟨#[]⟩,.slice z1 l1 m1,.slice z2 l2 m2,.int .i64 (a:Int)] 43
    have c0:=DX.c 0 _ rfl
    have c1:=DX.c 1 _ rfl
    have c2:=DX.c 2 _ rfl
    have c3:=DX.c 3 _ rfl
    have c4:=DX.c 4 _ rfl
    have HBQ:=hide bq
    have HB4:=hide (bel_to HB3.out bq)
    clear bq DX HB3
    have hRX:=HR2.out.next HB4.out HR2.out.lt
    have hFX:=HF2.out.next HB4.out HF2.out.lt
    have hBX:=bel_to HB2.out HB4.out
    obtain ⟨W8,hW8⟩:∃ W8,X.setCells w.heap.size 0 [.int .i64 1,.string ⟨#[]⟩,.slice z1 l1 m1,.slice z2 l2 m2,.int .i64 (a:Int)]=W8:=⟨_,rfl⟩
    obtain ⟨W9,hW9⟩:∃ W9,W8.setCells (w.heap.size+1) 0 [.int .i64 0,.int .i64 0,.int .i64 0]=W9:=⟨_,rfl⟩
    have HW8:Hid (X.setCells w.heap.size 0 (#[.int .i64 1,.string ⟨#[]⟩,.slice z1 l1 m1,.slice z2 l2 m2,.int .i64 (a:Int)]:Array Value).toList=W8):=hW8
    have HW9:Hid (W8.setCells (w.heap.size+1) 0 (#[.int .i64 0,.int .i64 0,.int .i64 0]:Array Value).toList=W9):=hW9
    obtain ⟨t8,t9,C9,D9,B9,K9⟩:=put53 hRX hFX (by simp) (by simp) hBX hW8 hW9
    have HT8:=hide t8
    have HT9:=hide t9
    have HC9:=hide C9
    have HD9:=hide D9
    have HB9:=hide B9
    have HINN:Hid (ArIn 1 w.heap.size W9 (litD xs) (.agg #[.slice z1 l1 m1,.slice z2 l2 m2])):=hide (arIn_low ((HIN.out.next HBQ.out).keeps (K9 _ (by have:=HLO.out;omega))) (by have:=HLO.out;omega))
    clear t8 t9 C9 D9 B9 K9 hW8 hW9 hRX hFX hBX
    go_wp2_with (first|(refine wpList_store_mid rfl 43 (.tmp 4) (.tmp 48) rfl w.heap.size 0 #[.int .i64 1,.string ⟨#[]⟩,.slice z1 l1 m1,.slice z2 l2 m2,.int .i64 (a:Int)] rfl rfl HT8.out (by kernel_rfl) (by simp [Value.oneCell']) ?_;rw [HW8.out])|(refine wpList_store_mid rfl 28 (.tmp 6) (.tmp 50) rfl (w.heap.size+1) 0 #[.int .i64 0,.int .i64 0,.int .i64 0] rfl rfl HT9.out (by kernel_rfl) (by simp [Value.oneCell']) ?_;rw [HW9.out]))
    have r0:=HC9.out.c 0 _ rfl
    have r1:=HC9.out.c 1 _ rfl
    have r2:=HC9.out.c 2 _ rfl
    have r3:=HC9.out.c 3 _ rfl
    have r4:=HC9.out.c 4 _ rfl
    have q0:=HD9.out.c 0 _ rfl
    have q1:=HD9.out.c 1 _ rfl
    have q2:=HD9.out.c 2 _ rfl
    exact bodyPost_ret (v:=.tuple #[.agg #[.int .i64 1,.string ⟨#[]⟩,.slice z1 l1 m1,.slice z2 l2 m2,.int .i64 (a:Int)],.int .i64 ((a+st:Nat):Int),.agg #[.int .i64 0,.int .i64 0,.int .i64 0]]) (by simp [results,Try.results27,go_sem,r0,r1,r2,r3,r4,q0,q1,q2]) rfl (⟨⟨1,nilT,litD xs,a+st,0,0⟩,GvO.good HB9.out rfl rfl rfl rfl HL1.out.symm HL2.out.symm HINN.out,fun _=>HFT.out⟩)
 |false =>
   rw [hbg] at HBE1
   clear HST HSE hbg
   have hx:=HX.out
   clear HX
   by_cases h39:byt s a=39
   ·rw [h39] at hx
    have HQ1:=hide (HQU.out U)
    clear HQU HLE HWO HFI h39
    go_wp2_with fail
    refine HBE1.out.mono ?_
    rintro e w1 ⟨rfl,rfl⟩
    clear HBE1
    go_wp2_with fail
    refine HQ1.out.mono ?_
    rintro e w3 ⟨hb3,hT⟩
    have HB3:=hide (bel_to HBU.out hb3)
    have HB3L:=hide (bel_to HBU.out hb3).size
    have HTT:=hide hT
    have HLO:=hide (show w.heap.size+3≤w1.heap.size by have:=HS2.out;have:=HBU.out.size;omega)
    have HQE2:Hid ((QD ((numsS s).drop (a+1))).2.2=0→(QD ((numsS s).drop (a+1))).2.1+1≤((numsS s).drop (a+1)).length):=HQE.out
    clear HQ1 hb3 hT HQE
    generalize QD ((numsS s).drop (a+1))=T at *
    obtain ⟨xs,st,er⟩:=T
    by_cases he0:er=0
    ·subst he0
     have hq:=HTT.out
     rw [if_pos rfl] at hq
     obtain ⟨z1,m1,z2,m2,rfl,hin⟩:=hq
     have HIN:=hide hin
     have hse:=HQE2.out rfl
     simp only [HLN.out.2] at hse
     have HFT:=hide (show a<a+1+st+1∧a+1+st+1≤s.size∧nilT.size≤s.size from ⟨by omega,by have:=HA.out;omega,by show 0≤_;omega⟩)
     obtain ⟨l1,hl1⟩:∃ l1,(textA xs).shape.length=l1:=⟨_,rfl⟩
     obtain ⟨l2,hl2⟩:∃ l2,(textA xs).cells.length=l2:=⟨_,rfl⟩
     have HL1:=hide hl1
     have HL2:=hide hl2
     simp only [hl1,hl2] at HIN ⊢
     clear hin hl1 hl2 hse HTT HQE2
     have hRX:=HR2.out.next HB3.out HR2.out.lt
     have hFX:=HF2.out.next HB3.out HF2.out.lt
     have hBX:=bel_to HB2.out HB3.out
     obtain ⟨W8,hW8⟩:∃ W8,w3.setCells w.heap.size 0 [.int .i64 2,.string ⟨#[]⟩,.slice z1 l1 m1,.slice z2 l2 m2,.int .i64 (a:Int)]=W8:=⟨_,rfl⟩
     obtain ⟨W9,hW9⟩:∃ W9,W8.setCells (w.heap.size+1) 0 [.int .i64 0,.int .i64 0,.int .i64 0]=W9:=⟨_,rfl⟩
     have HW8:Hid (w3.setCells w.heap.size 0 (#[.int .i64 2,.string ⟨#[]⟩,.slice z1 l1 m1,.slice z2 l2 m2,.int .i64 (a:Int)]:Array Value).toList=W8):=hW8
     have HW9:Hid (W8.setCells (w.heap.size+1) 0 (#[.int .i64 0,.int .i64 0,.int .i64 0]:Array Value).toList=W9):=hW9
     obtain ⟨t8,t9,C9,D9,B9,K9⟩:=put53 hRX hFX (by simp) (by simp) hBX hW8 hW9
     have HT8:=hide t8
     have HT9:=hide t9
     have HC9:=hide C9
     have HD9:=hide D9
     have HB9:=hide B9
     have HINN:Hid (ArIn 1 w.heap.size W9 (textA xs) (.agg #[.slice z1 l1 m1,.slice z2 l2 m2])):=hide (arIn_low (HIN.out.keeps (K9 _ (by have:=HLO.out;omega))) (by have:=HLO.out;omega))
     clear t8 t9 C9 D9 B9 K9 hW8 hW9 hRX hFX hBX
     go_wp2_with (first|(refine wpList_store_mid rfl 43 (.tmp 4) (.tmp 58) rfl w.heap.size 0 #[.int .i64 2,.string ⟨#[]⟩,.slice z1 l1 m1,.slice z2 l2 m2,.int .i64 (a:Int)] rfl rfl HT8.out (by kernel_rfl) (by simp [Value.oneCell']) ?_;rw [HW8.out])|(refine wpList_store_mid rfl 28 (.tmp 6) (.tmp 60) rfl (w.heap.size+1) 0 #[.int .i64 0,.int .i64 0,.int .i64 0] rfl rfl HT9.out (by kernel_rfl) (by simp [Value.oneCell']) ?_;rw [HW9.out]))
     have r0:=HC9.out.c 0 _ rfl
     have r1:=HC9.out.c 1 _ rfl
     have r2:=HC9.out.c 2 _ rfl
     have r3:=HC9.out.c 3 _ rfl
     have r4:=HC9.out.c 4 _ rfl
     have q0:=HD9.out.c 0 _ rfl
     have q1:=HD9.out.c 1 _ rfl
     have q2:=HD9.out.c 2 _ rfl
     exact bodyPost_ret (v:=.tuple #[.agg #[.int .i64 2,.string ⟨#[]⟩,.slice z1 l1 m1,.slice z2 l2 m2,.int .i64 (a:Int)],.int .i64 ((a+1+st:Nat)+1:Int),.agg #[.int .i64 0,.int .i64 0,.int .i64 0]]) (by simp [results,Try.results27,go_sem,r0,r1,r2,r3,r4,q0,q1,q2]) rfl (⟨⟨2,nilT,textA xs,a+1+st+1,0,0⟩,GvO.good HB9.out rfl rfl rfl (by push_cast;rfl) HL1.out.symm HL2.out.symm HINN.out,fun _=>HFT.out⟩)
    ·have hq:=HTT.out
     rw [if_neg he0] at hq
     obtain ⟨pl,rfl,hpl⟩:=hq
     have HPL:=hide hpl
     have HE0:=hide (show ¬ (if er=-1 then (2:Int) else er)=0 by split<;>omega)
     clear HTT hpl he0 HQE2
     generalize hER:(if er=-1 then (2:Int) else er)=ER at *
     generalize hPP:(if er=-1 then a else a+1+st)=PP at *
     clear hER hPP
     have hRX:=HR2.out.next HB3.out HR2.out.lt
     have hFX:=HF2.out.next HB3.out HF2.out.lt
     have hBX:=bel_to HB2.out HB3.out
     obtain ⟨W8,hW8⟩:∃ W8,w3.setCells w.heap.size 0 [.int .i64 2,.string ⟨#[]⟩,.slice none 0 0,.slice none 0 0,.int .i64 (a:Int)]=W8:=⟨_,rfl⟩
     obtain ⟨W9,hW9⟩:∃ W9,W8.setCells (w.heap.size+1) 0 [.int .i64 ER,.int .i64 (pl:Int),.int .i64 0]=W9:=⟨_,rfl⟩
     have HW8:Hid (w3.setCells w.heap.size 0 (#[.int .i64 2,.string ⟨#[]⟩,.slice none 0 0,.slice none 0 0,.int .i64 (a:Int)]:Array Value).toList=W8):=hW8
     have HW9:Hid (W8.setCells (w.heap.size+1) 0 (#[.int .i64 ER,.int .i64 (pl:Int),.int .i64 0]:Array Value).toList=W9):=hW9
     obtain ⟨t8,t9,C9,D9,B9,K9⟩:=put53 hRX hFX (by simp) (by simp) hBX hW8 hW9
     have HT8:=hide t8
     have HT9:=hide t9
     have HC9:=hide C9
     have HD9:=hide D9
     have HB9:=hide B9
     clear t8 t9 C9 D9 B9 K9 hW8 hW9 hRX hFX hBX
     go_wp2_with (first|(refine wpList_store_mid rfl 43 (.tmp 4) (.tmp 58) rfl w.heap.size 0 #[.int .i64 2,.string ⟨#[]⟩,.slice none 0 0,.slice none 0 0,.int .i64 (a:Int)] rfl rfl HT8.out (by kernel_rfl) (by simp [Value.oneCell']) ?_;rw [HW8.out])|(refine wpList_store_mid rfl 28 (.tmp 6) (.tmp 60) rfl (w.heap.size+1) 0 #[.int .i64 ER,.int .i64 (pl:Int),.int .i64 0] rfl rfl HT9.out (by kernel_rfl) (by simp [Value.oneCell']) ?_;rw [HW9.out]))
     have r0:=HC9.out.c 0 _ rfl
     have r1:=HC9.out.c 1 _ rfl
     have r2:=HC9.out.c 2 _ rfl
     have r3:=HC9.out.c 3 _ rfl
     have r4:=HC9.out.c 4 _ rfl
     have q0:=HD9.out.c 0 _ rfl
     have q1:=HD9.out.c 1 _ rfl
     have q2:=HD9.out.c 2 _ rfl
     exact bodyPost_ret (v:=.tuple #[.agg #[.int .i64 2,.string ⟨#[]⟩,.slice none 0 0,.slice none 0 0,.int .i64 (a:Int)],.int .i64 ((a+1+st:Nat):Int),.agg #[.int .i64 ER,.int .i64 (pl:Int),.int .i64 0]]) (by simp [results,Try.results27,go_sem,r0,r1,r2,r3,r4,q0,q1,q2]) rfl (⟨⟨2,nilT,nilA,0,ER,PP⟩,GvO.bad HB9.out rfl HE0.out (congrArg Int.ofNat HPL.out),fun h=>absurd h HE0.out⟩)
   ·have h39':(byt s a==39)=false:=beq_eq_false_iff_ne.2 h39
    have HLE1:=hide (HLE.out U)
    clear HQU HQE HLE h39
    cases hlt:smB (byt s a) with
   |true =>
     rw [hlt] at HLE1
     have HW1:=hide (HWO.out hlt U)
     clear HWO HFI hlt
     generalize byt s a=ch at *
     go_wp2_with fail
     refine HBE1.out.mono ?_
     rintro e w1 ⟨rfl,rfl⟩
     clear HBE1
     go_wp2_with fail
     refine HLE1.out.mono ?_
     rintro e w1 ⟨rfl,rfl⟩
     clear HLE1
     go_wp2_with fail
     refine HW1.out.mono ?_
     rintro e w3 ⟨hb3,kd,tx,st,okw,rfl,hst1,hst2,htx⟩
     have HB3:=hide (bel_to HBU.out hb3)
     have HB3L:=hide (bel_to HBU.out hb3).size
     have HFT:=hide (And.intro hst1 (And.intro hst2 htx))
     clear HW1 hb3 hst1 hst2 htx
     cases okw with
    |false =>
      go_upto_region 15 with fail
      obtain ⟨X,hX⟩:∃ X,w3.alloc (.cells #[.int .i64 kd,.string tx,.slice none 0 0,.slice none 0 0,.int .i64 (a:Int)] 43)=X:=⟨_,rfl⟩
      have bq:Below w3.heap.size w3 X:=by rw [←hX];exact one_alloc _ _
      have DX:Cs X w3.heap.size [.int .i64 kd,.string tx,.slice none 0 0,.slice none 0 0,.int .i64 (a:Int)]:=by rw [←hX];exact Cs.new w3 [.int .i64 kd,.string tx,.slice none 0 0,.slice none 0 0,.int .i64 (a:Int)] 43
      have c0:=DX.c 0 _ rfl
      have c1:=DX.c 1 _ rfl
      have c2:=DX.c 2 _ rfl
      have c3:=DX.c 3 _ rfl
      have c4:=DX.c 4 _ rfl
      have HBQ:=hide bq
      have HB4:=hide (bel_to HB3.out bq)
      clear bq DX HB3
      have hRX:=HR2.out.next HB4.out HR2.out.lt
      have hFX:=HF2.out.next HB4.out HF2.out.lt
      have hBX:=bel_to HB2.out HB4.out
      rw [hX]
      clear hX
      have z0:=hRX.c 0 _ rfl
      have z1:=hRX.c 1 _ rfl
      have z2:=hRX.c 2 _ rfl
      have z3:=hRX.c 3 _ rfl
      have z4:=hRX.c 4 _ rfl
      have y0:=hFX.c 0 _ rfl
      have y1:=hFX.c 1 _ rfl
      have y2:=hFX.c 2 _ rfl
      have hGX:=HG2.out.next HB4.out HG2.out.lt
      have x0:=hGX.c 0 _ rfl
      have x1:=hGX.c 1 _ rfl
      have x2:=hGX.c 2 _ rfl
      have zz:=hRX.z
      have yz:=hFX.z
      have zl:=hRX.lt
      have yl:=hFX.lt
      clear hGX
      have hq3:w.heap.size+1<w3.heap.size:=by have:=HB3L.out;have:=HS2.out;omega
      go_region
      obtain ⟨W9,hW9,C9,D9,B9⟩:=fin8 hRX hFX (by simp) (by simp) hBX (.int .i64 kd) (.string tx) (.slice none 0 0) (.slice none 0 0) (.int .i64 (a:Int)) (.int .i64 2) (.int .i64 (a:Int)) (.int .i64 0)
      rw [hW9]
      have HC9:=hide C9
      have HD9:=hide D9
      have HB9:=hide B9
      clear C9 D9 B9 hW9 hRX hFX hBX
      go_wp2
      have r0:=HC9.out.c 0 _ rfl
      have r1:=HC9.out.c 1 _ rfl
      have r2:=HC9.out.c 2 _ rfl
      have r3:=HC9.out.c 3 _ rfl
      have r4:=HC9.out.c 4 _ rfl
      have q0:=HD9.out.c 0 _ rfl
      have q1:=HD9.out.c 1 _ rfl
      have q2:=HD9.out.c 2 _ rfl
      exact bodyPost_ret (v:=.tuple #[.agg #[.int .i64 kd,.string tx,.slice none 0 0,.slice none 0 0,.int .i64 (a:Int)],.int .i64 (st:Int),.agg #[.int .i64 2,.int .i64 (a:Int),.int .i64 0]]) (by simp [results,Try.results27,go_sem,r0,r1,r2,r3,r4,q0,q1,q2]) rfl (⟨⟨kd,tx,nilA,0,2,a⟩,GvO.bad HB9.out rfl (by decide) rfl,fun h=>by cases h⟩)
    |true =>
      obtain ⟨X,hX⟩:∃ X,w3.alloc (.cells #[.int .i64 kd,.string tx,.slice none 0 0,.slice none 0 0,.int .i64 (a:Int)] 43)=X:=⟨_,rfl⟩
      have bq:Below w3.heap.size w3 X:=by rw [←hX];exact one_alloc _ _
      have DX:Cs X w3.heap.size [.int .i64 kd,.string tx,.slice none 0 0,.slice none 0 0,.int .i64 (a:Int)]:=by rw [←hX];exact Cs.new w3 [.int .i64 kd,.string tx,.slice none 0 0,.slice none 0 0,.int .i64 (a:Int)] 43
      have c0:=DX.c 0 _ rfl
      have c1:=DX.c 1 _ rfl
      have c2:=DX.c 2 _ rfl
      have c3:=DX.c 3 _ rfl
      have c4:=DX.c 4 _ rfl
      have HBQ:=hide bq
      have HB4:=hide (bel_to HB3.out bq)
      clear bq DX HB3
      have hRX:=HR2.out.next HB4.out HR2.out.lt
      have hFX:=HF2.out.next HB4.out HF2.out.lt
      have hBX:=bel_to HB2.out HB4.out
      obtain ⟨W8,hW8⟩:∃ W8,X.setCells w.heap.size 0 [.int .i64 kd,.string tx,.slice none 0 0,.slice none 0 0,.int .i64 (a:Int)]=W8:=⟨_,rfl⟩
      obtain ⟨W9,hW9⟩:∃ W9,W8.setCells (w.heap.size+1) 0 [.int .i64 0,.int .i64 0,.int .i64 0]=W9:=⟨_,rfl⟩
      have HW8:Hid (X.setCells w.heap.size 0 (#[.int .i64 kd,.string tx,.slice none 0 0,.slice none 0 0,.int .i64 (a:Int)]:Array Value).toList=W8):=hW8
      have HW9:Hid (W8.setCells (w.heap.size+1) 0 (#[.int .i64 0,.int .i64 0,.int .i64 0]:Array Value).toList=W9):=hW9
      obtain ⟨t8,t9,C9,D9,B9,K9⟩:=put53 hRX hFX (by simp) (by simp) hBX hW8 hW9
      have HT8:=hide t8
      have HT9:=hide t9
      have HC9:=hide C9
      have HD9:=hide D9
      have HB9:=hide B9
      clear t8 t9 C9 D9 B9 K9 hW8 hW9 hRX hFX hBX
      go_wp2_with (first|(refine wpList_store_mid rfl 43 (.tmp 4) (.tmp 77) rfl w.heap.size 0 #[.int .i64 kd,.string tx,.slice none 0 0,.slice none 0 0,.int .i64 (a:Int)] rfl rfl HT8.out (by kernel_rfl) (by simp [Value.oneCell']) ?_;rw [HW8.out])|(refine wpList_store_mid rfl 28 (.tmp 6) (.tmp 79) rfl (w.heap.size+1) 0 #[.int .i64 0,.int .i64 0,.int .i64 0] rfl rfl HT9.out (by kernel_rfl) (by simp [Value.oneCell']) ?_;rw [HW9.out]))
      have r0:=HC9.out.c 0 _ rfl
      have r1:=HC9.out.c 1 _ rfl
      have r2:=HC9.out.c 2 _ rfl
      have r3:=HC9.out.c 3 _ rfl
      have r4:=HC9.out.c 4 _ rfl
      have q0:=HD9.out.c 0 _ rfl
      have q1:=HD9.out.c 1 _ rfl
      have q2:=HD9.out.c 2 _ rfl
      exact bodyPost_ret (v:=.tuple #[.agg #[.int .i64 kd,.string tx,.slice none 0 0,.slice none 0 0,.int .i64 (a:Int)],.int .i64 (st:Int),.agg #[.int .i64 0,.int .i64 0,.int .i64 0]]) (by simp [results,Try.results27,go_sem,r0,r1,r2,r3,r4,q0,q1,q2]) rfl (⟨⟨kd,tx,nilA,st,0,0⟩,GvO.good HB9.out rfl rfl rfl rfl rfl rfl (nilA_in 0 _ _),fun _=>HFT.out⟩)
   |false =>
     rw [hlt] at HLE1
     have HF1:=hide (HFI.out U)
     clear HWO HFI hlt
     generalize byt s a=ch at *
     go_wp2_with fail
     refine HBE1.out.mono ?_
     rintro e w1 ⟨rfl,rfl⟩
     clear HBE1
     go_wp2_with fail
     refine HLE1.out.mono ?_
     rintro e w1 ⟨rfl,rfl⟩
     clear HLE1
     go_wp2_with fail
     refine HF1.out.mono ?_
     rintro e w3 ⟨hb3,kd,tx,pp,okw,rfl,hk⟩
     have HB3:=hide (bel_to HBU.out hb3)
     have HB3L:=hide (bel_to HBU.out hb3).size
     have HK:=hide hk
     clear HF1 hb3 hk
     cases okw with
    |false =>
      go_upto_region 19 with fail
      obtain ⟨X,hX⟩:∃ X,w3.alloc (.cells #[.int .i64 kd,.string tx,.slice none 0 0,.slice none 0 0,.int .i64 pp] 43)=X:=⟨_,rfl⟩
      have bq:Below w3.heap.size w3 X:=by rw [←hX];exact one_alloc _ _
      have DX:Cs X w3.heap.size [.int .i64 kd,.string tx,.slice none 0 0,.slice none 0 0,.int .i64 pp]:=by rw [←hX];exact Cs.new w3 [.int .i64 kd,.string tx,.slice none 0 0,.slice none 0 0,.int .i64 pp] 43
      have c0:=DX.c 0 _ rfl
      have c1:=DX.c 1 _ rfl
      have c2:=DX.c 2 _ rfl
      have c3:=DX.c 3 _ rfl
      have c4:=DX.c 4 _ rfl
      have HBQ:=hide bq
      have HB4:=hide (bel_to HB3.out bq)
      clear bq DX HB3
      have hRX:=HR2.out.next HB4.out HR2.out.lt
      have hFX:=HF2.out.next HB4.out HF2.out.lt
      have hBX:=bel_to HB2.out HB4.out
      rw [hX]
      clear hX
      have z0:=hRX.c 0 _ rfl
      have z1:=hRX.c 1 _ rfl
      have z2:=hRX.c 2 _ rfl
      have z3:=hRX.c 3 _ rfl
      have z4:=hRX.c 4 _ rfl
      have y0:=hFX.c 0 _ rfl
      have y1:=hFX.c 1 _ rfl
      have y2:=hFX.c 2 _ rfl
      have hGX:=HG2.out.next HB4.out HG2.out.lt
      have x0:=hGX.c 0 _ rfl
      have x1:=hGX.c 1 _ rfl
      have x2:=hGX.c 2 _ rfl
      have zz:=hRX.z
      have yz:=hFX.z
      have zl:=hRX.lt
      have yl:=hFX.lt
      clear hGX
      have hq3:w.heap.size+1<w3.heap.size:=by have:=HB3L.out;have:=HS2.out;omega
      go_region
      obtain ⟨W9,hW9,C9,D9,B9⟩:=fin8 hRX hFX (by simp) (by simp) hBX (.int .i64 kd) (.string tx) (.slice none 0 0) (.slice none 0 0) (.int .i64 pp) (.int .i64 2) (.int .i64 (a:Int)) (.int .i64 0)
      rw [hW9]
      have HC9:=hide C9
      have HD9:=hide D9
      have HB9:=hide B9
      clear C9 D9 B9 hW9 hRX hFX hBX
      go_wp2
      have r0:=HC9.out.c 0 _ rfl
      have r1:=HC9.out.c 1 _ rfl
      have r2:=HC9.out.c 2 _ rfl
      have r3:=HC9.out.c 3 _ rfl
      have r4:=HC9.out.c 4 _ rfl
      have q0:=HD9.out.c 0 _ rfl
      have q1:=HD9.out.c 1 _ rfl
      have q2:=HD9.out.c 2 _ rfl
      exact bodyPost_ret (v:=.tuple #[.agg #[.int .i64 kd,.string tx,.slice none 0 0,.slice none 0 0,.int .i64 pp],.int .i64 (a:Int),.agg #[.int .i64 2,.int .i64 (a:Int),.int .i64 0]]) (by simp [results,Try.results27,go_sem,r0,r1,r2,r3,r4,q0,q1,q2]) rfl (⟨⟨kd,tx,nilA,0,2,a⟩,GvO.bad HB9.out rfl (by decide) rfl,fun h=>by cases h⟩)
    |true =>
      obtain ⟨rfl,hk1,hk2⟩:=HK.out rfl
      have HFT:=hide (show a<a+tx.size∧a+tx.size≤s.size∧tx.size≤s.size from ⟨by omega,hk2,by omega⟩)
      have htb:tx.size≤8192:=by omega
      clear hk1 hk2 HK
      go_upto_region 20 with fail
      obtain ⟨X,hX⟩:∃ X,w3.alloc (.cells #[.int .i64 kd,.string tx,.slice none 0 0,.slice none 0 0,.int .i64 (a:Int)] 43)=X:=⟨_,rfl⟩
      have bq:Below w3.heap.size w3 X:=by rw [←hX];exact one_alloc _ _
      have DX:Cs X w3.heap.size [.int .i64 kd,.string tx,.slice none 0 0,.slice none 0 0,.int .i64 (a:Int)]:=by rw [←hX];exact Cs.new w3 [.int .i64 kd,.string tx,.slice none 0 0,.slice none 0 0,.int .i64 (a:Int)] 43
      have c0:=DX.c 0 _ rfl
      have c1:=DX.c 1 _ rfl
      have c2:=DX.c 2 _ rfl
      have c3:=DX.c 3 _ rfl
      have c4:=DX.c 4 _ rfl
      have HBQ:=hide bq
      have HB4:=hide (bel_to HB3.out bq)
      clear bq DX HB3
      have hRX:=HR2.out.next HB4.out HR2.out.lt
      have hFX:=HF2.out.next HB4.out HF2.out.lt
      have hBX:=bel_to HB2.out HB4.out
      rw [hX]
      clear hX
      have z0:=hRX.c 0 _ rfl
      have z1:=hRX.c 1 _ rfl
      have z2:=hRX.c 2 _ rfl
      have z3:=hRX.c 3 _ rfl
      have z4:=hRX.c 4 _ rfl
      have y0:=hFX.c 0 _ rfl
      have y1:=hFX.c 1 _ rfl
      have y2:=hFX.c 2 _ rfl
      have hGX:=HG2.out.next HB4.out HG2.out.lt
      have x0:=hGX.c 0 _ rfl
      have x1:=hGX.c 1 _ rfl
      have x2:=hGX.c 2 _ rfl
      have zz:=hRX.z
      have yz:=hFX.z
      have zl:=hRX.lt
      have yl:=hFX.lt
      clear hGX
      have hq3:w.heap.size+1<w3.heap.size:=by have:=HB3L.out;have:=HS2.out;omega
      go_region
      obtain ⟨W9,hW9,C9,D9,B9⟩:=fin8 hRX hFX (by simp) (by simp) hBX (.int .i64 kd) (.string tx) (.slice none 0 0) (.slice none 0 0) (.int .i64 (a:Int)) (.int .i64 0) (.int .i64 0) (.int .i64 0)
      rw [hW9]
      have HC9:=hide C9
      have HD9:=hide D9
      have HB9:=hide B9
      clear C9 D9 B9 hW9 hRX hFX hBX
      go_wp2
      have r0:=HC9.out.c 0 _ rfl
      have r1:=HC9.out.c 1 _ rfl
      have r2:=HC9.out.c 2 _ rfl
      have r3:=HC9.out.c 3 _ rfl
      have r4:=HC9.out.c 4 _ rfl
      have q0:=HD9.out.c 0 _ rfl
      have q1:=HD9.out.c 1 _ rfl
      have q2:=HD9.out.c 2 _ rfl
      exact bodyPost_ret (v:=.tuple #[.agg #[.int .i64 kd,.string tx,.slice none 0 0,.slice none 0 0,.int .i64 (a:Int)],.int .i64 ((a:Int)+(tx.size:Int)),.agg #[.int .i64 0,.int .i64 0,.int .i64 0]]) (by simp [results,Try.results27,go_sem,r0,r1,r2,r3,r4,q0,q1,q2]) rfl (⟨⟨kd,tx,nilA,a+tx.size,0,0⟩,GvO.good HB9.out rfl rfl rfl (by push_cast;rfl) rfl rfl (nilA_in 0 _ _),fun _=>HFT.out⟩)
theorem info43:(Try.prog.info? 43).map (fun i=>(i.zero,i.size,i.bytes))=some (some (.agg #[.int .i64 0,.string ⟨#[]⟩,.slice none 0 0,.slice none 0 0,.int .i64 0]),5,80):=by kernel_rfl
def GvX (F:Rs (List Wo)) (w:World) (e:Ending) (w':World):Prop:=Below w.heap.size w w'∧match F with
|.ok ws=>∃ a c,e=.returned (.tuple #[.slice a ws.length c,.agg #[.int .i64 0,.int .i64 0,.int .i64 0]])∧ws.length≤c∧WoK w.heap.size w' a ws
|.bad er p=>e=.returned (.tuple #[.slice none 0 0,.agg #[.int .i64 er,.int .i64 p,.int .i64 0]])
|.stuck=>False
theorem owns_slice {w:World} {base n size:Nat} {e:TypeId} {v:Value} {xs:List Value} (h:w.ownsRow base e size v n xs):∃ a c,v=.slice a n c:=by
 rcases h.2 with ⟨rfl,rfl⟩|⟨g,cap,cur,rfl,-⟩
 ·exact ⟨none,0,rfl⟩
 ·exact ⟨_,_,rfl⟩
set_option maxHeartbeats 16000000 in
theorem lex12 (s:ByteArray) (w:World) :
  Calls Try.prog 12 #[.string s] w fun e w'=>GvX (lexA s) w e w':=by
 obtain ⟨i0,hi,hz0,hz1,hz2⟩:=info_parts info43
 obtain ⟨F,hF⟩:∃ F,lexA s=F:=⟨_,rfl⟩
 rw [hF]
 obtain ⟨W1,hW1⟩:∃ W1,w.alloc (.cells #[.int .i64 0,.int .i64 0,.int .i64 0] 28)=W1:=⟨_,rfl⟩
 have b1:Below w.heap.size w W1:=by rw [←hW1];exact one_alloc _ _
 have s1:W1.heap.size=w.heap.size+1:=by rw [←hW1];simp
 have R1:Cs W1 w.heap.size [.int .i64 0,.int .i64 0,.int .i64 0]:=by rw [←hW1];exact Cs.new w [.int .i64 0,.int .i64 0,.int .i64 0] 28
 by_cases hlong:8192<s.size
 ·have HRE:=hide (show F=.bad 14 0 by rw [←hF];unfold lexA;rw [if_pos hlong])
  have hlong':(8192:Int)<(s.size:Int):=by omega
  have hrf:=R1
  have hbw:=b1
  have HW1:=hide hW1
  clear hF hlong b1 s1 R1 hW1
  go_enter Try.func12,Try.ntmps12
  go_upto_region 2 with fail
  rw [HW1.out]
  obtain ⟨W9,hW9⟩:∃ W9,W1.setCells w.heap.size 0 [.int .i64 14,.int .i64 0,.int .i64 0]=W9:=⟨_,rfl⟩
  have HW9:Hid (W1.setCells w.heap.size 0 (#[.int .i64 14,.int .i64 0,.int .i64 0]:Array Value).toList=W9):=hW9
  obtain ⟨C9,B9⟩:=hrf.put (us:=[.int .i64 14,.int .i64 0,.int .i64 0]) (by simp) hW9
  have HTH9:=hide (hrf.there (n:=3) (by simp))
  have HC9:=hide C9
  have HB9:=hide (hbw.trans (B9.below hbw.size fun k hk=>by omega))
  clear hrf hbw C9 B9 hW9
  go_wp2_with (first|(refine wpList_store_mid rfl 28 (.tmp 3) (.tmp 12) rfl w.heap.size 0 #[.int .i64 14,.int .i64 0,.int .i64 0] rfl rfl HTH9.out (by kernel_rfl) (by simp [Value.oneCell']) ?_;rw [HW9.out]))
  have q0:=HC9.out.c 0 _ rfl
  have q1:=HC9.out.c 1 _ rfl
  have q2:=HC9.out.c 2 _ rfl
  exact bodyPost_ret (v:=.tuple #[.slice none 0 0,.agg #[.int .i64 14,.int .i64 0,.int .i64 0]]) (by simp [results,Try.results12,go_sem,q0,q1,q2]) rfl (by
   rw [HRE.out]
   exact ⟨HB9.out,rfl⟩)
 ·have hL:s.size≤8192:=by omega
  have hlong':¬ (8192:Int)<(s.size:Int):=by omega
  have HSTATE:Hid (∀ wr,Below (w.heap.size+1) W1 wr→Cs wr w.heap.size [.int .i64 0,.int .i64 0,.int .i64 0]∧Below w.heap.size w wr∧w.heap.size+1≤wr.heap.size):=fun wr h =>
   ⟨R1.next h (by omega),b1.trans (h.mono (by omega)),by have:=h.size;omega⟩
  have HNX0:Hid (Below (w.heap.size+1) W1 W1):=Below.refl _ _
  have HOWN:Hid (W1.ownsRow (w.heap.size+1) 43 5 (.slice none 0 0) 0 []):=World.ownsRow_nil _ _ _ _
  have hll:=lead_le blB (numsS s)
  rw [numsS_len] at hll
  have HF0:=hide (show jnD [] (LD s 0 (lead blB (numsS s)))=F by
   rw [←hF];unfold lexA;rw [if_neg hlong];unfold jnD LD
   cases lexD s (s.size+1) 0 (lead blB (numsS s))<;>rfl)
  have HBL:=hide (fun j (hj:j≤s.size) W=>blanks24 s j hj (by omega) W)
  have hb0:=HBL.out 0 (Nat.zero_le _) W1
  rw [List.drop_zero,Nat.zero_add] at hb0
  have HB0:=hide hb0
  have hrm:numsS ⟨#[226,141,157]⟩=remL:=by decide
  have HRM:=hide (fun j (hj:j≤s.size) W=>starts25 s ⟨#[226,141,157]⟩ j hj (by omega) (by decide) W)
  rw [hrm] at HRM
  have HON:=hide (fun j (hj:j<s.size) W=>one26 s j hj hL W)
  have HW1:=hide hW1
  have HL:=hide hL
  have HLB:=hide (fun j=>(show lead blB ((numsS s).drop j)≤s.size-j by have:=lead_le blB ((numsS s).drop j);rwa [List.length_drop,numsS_len] at this))
  clear hF hlong b1 s1 R1 hW1 hb0 hrm
  go_enter Try.func12,Try.ntmps12
  go_upto_region 4 with fail
  rw [HW1.out]
  go_wp2_with fail
  refine HB0.out.mono ?_
  rintro e w0 ⟨rfl,rfl⟩
  clear HB0 HW1
  generalize lead blB (numsS s)=q0 at *
  go_wp2
  go_loopg [5,4] (s.size+1-q0) (fun g nv lv wr=>∃ (q:Nat) (ts:List Wo) (vs:List Value),g+q=s.size+1∧q≤s.size∧nv=.int .i64 (q:Int)∧wr.ownsRow (w.heap.size+1) 43 5 lv ts.length vs∧TkL w.heap.size lv.ownBlock wr ts vs∧Below (w.heap.size+1) w0 wr∧ts.length≤2048∧jnD ts (LD s ts.length q)=F)
  case atStart=>exact ⟨q0,[],[],by omega,hll,rfl,HOWN.out,TkL.nil _ _ _,HNX0.out,by simp,HF0.out⟩
  case round =>
   clear HNX0 HOWN HF0 hll
   obtain ⟨q,ts,vs,hg,hq,rfl,hown,htkl,hnx,htl,htot⟩:=hrel
   have hL2:=HL.out
   have HOW:=hide hown
   have HTK:=hide htkl
   have HNX:=hide hnx
   have HTO:=hide htot
   clear hown htkl hnx htot
   by_cases hlt:q<s.size
   ·have hlt':(q:Int)<(s.size:Int):=by omega
    have HR1:=hide (HRM.out q hq wr)
    cases hrm:hasP ((numsS s).drop q) remL with
   |true =>
     rw [hrm] at HR1
     have HRE:=hide (show F=.ok ts by rw [←HTO.out,LD_end (Or.inr hrm)];simp [jnD,Rs.bind])
     clear hrm HBL HRM HON HLB
     go_wp2_with fail
     refine HR1.out.mono ?_
     rintro e w1 ⟨rfl,rfl⟩
     clear HR1
     obtain ⟨pa,pc,rfl,hpc,htk⟩:=tkIn_of (s:=w.heap.size) (by omega) HOW.out HTK.out
     obtain ⟨hrf,hbw,hl2⟩:=HSTATE.out w1 HNX.out
     obtain ⟨W9,hW9⟩:∃ W9,w1.setCells w.heap.size 0 [.int .i64 0,.int .i64 0,.int .i64 0]=W9:=⟨_,rfl⟩
     have HW9:Hid (w1.setCells w.heap.size 0 (#[.int .i64 0,.int .i64 0,.int .i64 0]:Array Value).toList=W9):=hW9
     obtain ⟨C9,B9⟩:=hrf.put (us:=[.int .i64 0,.int .i64 0,.int .i64 0]) (by simp) hW9
     have HTH9:=hide (hrf.there (n:=3) (by simp))
     have HC9:=hide C9
     have HB9:=hide (hbw.trans (B9.below hbw.size fun k hk=>by omega))
     have HPC:=hide hpc
     have HTKI:=hide (show WoK w.heap.size W9 pa ts from fun W h1 h2=>htk W (Nat.le_trans B9.size h1) fun k hs hk=>(h2 k (Nat.le_of_lt hs) (Nat.lt_of_lt_of_le hk B9.size)).trans (B9.block hk (fun he=>by omega)))
     clear hrf hbw hl2 hpc htk HSTATE HTO HNX HOW HTK C9 B9 hW9
     generalize hTL:ts.length=TL at *
     have HTL:=hide hTL
     clear hTL
     go_wp2_with (first|(refine wpList_store_mid rfl 28 (.tmp 3) (.tmp 49) rfl w.heap.size 0 #[.int .i64 0,.int .i64 0,.int .i64 0] rfl rfl HTH9.out (by kernel_rfl) (by simp [Value.oneCell']) ?_;rw [HW9.out]))
     have q0:=HC9.out.c 0 _ rfl
     have q1:=HC9.out.c 1 _ rfl
     have q2:=HC9.out.c 2 _ rfl
     exact bodyPost_ret (v:=.tuple #[.slice pa TL pc,.agg #[.int .i64 0,.int .i64 0,.int .i64 0]]) (by simp [results,Try.results12,go_sem,q0,q1,q2]) rfl (by
      rw [HRE.out]
      exact ⟨HB9.out,pa,pc,by rw [HTL.out],by rw [HTL.out];exact HPC.out,HTKI.out⟩)
   |false =>
     rw [hrm] at HR1
     have HNE:=hide (show ¬ (¬ q<s.size∨hasP ((numsS s).drop q) remL=true) from fun h=>h.elim (fun h0=>h0 hlt) (fun h1=>by rw [hrm] at h1;cases h1))
     have HO1:=hide (HON.out q hlt wr)
     clear hrm HRM HON
     by_cases h48:ts.length=2048
     ·have HRE:=hide (show F=.bad 14 (q:Int) by rw [←HTO.out,h48,LD_long HNE.out];rfl)
      have h48':((ts.length:Int)==2048)=true:=by simp [h48]
      obtain ⟨la,lc,hla⟩:=owns_slice HOW.out
      subst hla
      obtain ⟨hrf,hbw,hl2⟩:=HSTATE.out wr HNX.out
      clear HBL HLB HTO HNE HO1 HSTATE HTK HNX HOW h48
      generalize ts.length=TL at *
      go_wp2_with fail
      refine HR1.out.mono ?_
      rintro e w1 ⟨rfl,rfl⟩
      clear HR1
      obtain ⟨W9,hW9⟩:∃ W9,w1.setCells w.heap.size 0 [.int .i64 14,.int .i64 (q:Int),.int .i64 0]=W9:=⟨_,rfl⟩
      have HW9:Hid (w1.setCells w.heap.size 0 (#[.int .i64 14,.int .i64 (q:Int),.int .i64 0]:Array Value).toList=W9):=hW9
      obtain ⟨C9,B9⟩:=hrf.put (us:=[.int .i64 14,.int .i64 (q:Int),.int .i64 0]) (by simp) hW9
      have HTH9:=hide (hrf.there (n:=3) (by simp))
      have HC9:=hide C9
      have HB9:=hide (hbw.trans (B9.below hbw.size fun k hk=>by omega))
      clear hrf hbw C9 B9 hW9
      go_wp2_with (first|(refine wpList_store_mid rfl 28 (.tmp 3) (.tmp 29) rfl w.heap.size 0 #[.int .i64 14,.int .i64 (q:Int),.int .i64 0] rfl rfl HTH9.out (by kernel_rfl) (by simp [Value.oneCell']) ?_;rw [HW9.out]))
      have q0:=HC9.out.c 0 _ rfl
      have q1:=HC9.out.c 1 _ rfl
      have q2:=HC9.out.c 2 _ rfl
      exact bodyPost_ret (v:=.tuple #[.slice none 0 0,.agg #[.int .i64 14,.int .i64 (q:Int),.int .i64 0]]) (by simp [results,Try.results12,go_sem,q0,q1,q2]) rfl (by
       rw [HRE.out]
       exact ⟨HB9.out,rfl⟩)
     ·have h48':((ts.length:Int)==2048)=false:=beq_eq_false_iff_ne.2 (by omega)
      obtain ⟨la,lc,hla⟩:=owns_slice HOW.out
      subst hla
      have HLTG:=hide (fun k hk=>(HOW.out.lt k hk).2)
      have HEND:=hide (fun he=>oneW_stop s q hlt he)
      have HBAD:=hide (fun he=>show F=.bad (oneW s q).err ((oneW s q).ea:Int) by rw [←HTO.out,LD_bad HNE.out h48 he];rfl)
      have HGO:=hide (fun he=>(LD_go (ts:=ts) HNE.out h48 he).symm.trans HTO.out)
      obtain ⟨TL,hTL⟩:∃ TL,ts.length=TL:=⟨_,rfl⟩
      have HTL:=hide hTL
      rw [hTL] at HOW HLTG htl h48'
      simp only [hTL]
      have HL2:=hide (HSTATE.out wr HNX.out).2.2
      have htl2:TL<2048:=by omega
      clear h48 hTL HTO HNE
      go_wp2_with fail
      refine HR1.out.mono ?_
      rintro e w1 ⟨rfl,rfl⟩
      clear HR1
      go_wp2_with fail
      refine HO1.out.mono ?_
      rintro e w2 ⟨hb2,kd,tx,z1,z2,l1,m1,l2,m2,at',st,pl,rfl,hok,hbad⟩
      generalize oneW s q=r at *
      obtain ⟨er,her0⟩:∃ er,r.err=er:=⟨_,rfl⟩
      have HER:=hide her0
      rw [her0] at hok hbad HEND HBAD HGO ⊢
      clear her0
      have HOK:=hide hok
      have HBD:=hide hbad
      have HB2:=hide hb2
      obtain ⟨W3,hW3⟩:∃ W3,(w2.alloc (.cells #[.int .i64 kd,.string tx,.slice z1 l1 m1,.slice z2 l2 m2,.int .i64 at'] 43)).alloc (.cells #[.int .i64 er,.int .i64 pl,.int .i64 0] 28)=W3:=⟨_,rfl⟩
      have hb3:Below w2.heap.size w2 W3:=by rw [←hW3];exact two_allocs _ _ _
      have D3:Cs W3 w2.heap.size [.int .i64 kd,.string tx,.slice z1 l1 m1,.slice z2 l2 m2,.int .i64 at']:=by rw [←hW3];exact (Cs.new w2 [.int .i64 kd,.string tx,.slice z1 l1 m1,.slice z2 l2 m2,.int .i64 at'] 43).next (one_alloc _ _) (by simp)
      have E3:Cs W3 (w2.heap.size+1) [.int .i64 er,.int .i64 pl,.int .i64 0]:=by
       have hs:(w2.alloc (.cells #[.int .i64 kd,.string tx,.slice z1 l1 m1,.slice z2 l2 m2,.int .i64 at'] 43)).heap.size=w2.heap.size+1:=by simp
       have h:=Cs.new (w2.alloc (.cells #[.int .i64 kd,.string tx,.slice z1 l1 m1,.slice z2 l2 m2,.int .i64 at'] 43)) [.int .i64 er,.int .i64 pl,.int .i64 0] 28
       rw [hs] at h
       rw [←hW3];exact h
      have HNX2:=hide (HNX.out.trans (hb2.mono HL2.out))
      have hl2':=(HSTATE.out w2 HNX2.out).2.2
      have HNX3:=hide (HNX2.out.trans (hb3.mono hl2'))
      have HOW3:=hide (owns_next (owns_next HOW.out hb2) hb3)
      have HTK3:=hide ((HTK.out.next hb2).next hb3)
      have HB3:=hide hb3
      have HW3:=hide hW3
      have e0:=E3.c 0 _ rfl
      have e1:=E3.c 1 _ rfl
      have e2:=E3.c 2 _ rfl
      have t0:=D3.c 0 _ rfl
      have t1:=D3.c 1 _ rfl
      have t2:=D3.c 2 _ rfl
      have t3:=D3.c 3 _ rfl
      have t4:=D3.c 4 _ rfl
      clear hok hbad hb2 hb3 hW3 HNX HOW HTK HO1 HNX2 D3 E3
      by_cases her:er=0
      ·obtain ⟨hk,htx,rfl,rfl,rfl,hn1,hn2,hin⟩:=HOK.out her
       obtain ⟨hs1,hs2,hs3⟩:=HEND.out her
       have hgo:=HGO.out her
       subst her
       have HIN:=hide hin
       have HEQ:=hide (And.intro hk (And.intro htx (And.intro hn1 hn2)))
       have HTZ:=hide hs3
       obtain ⟨so,hso⟩:∃ so,r.stop=so:=⟨_,rfl⟩
       rw [hso] at hs1 hs2 hgo
       simp only [hso] at HW3 ⊢
       have HGG:=hide hgo
       clear HOK HBD HBAD HGO HEND hk htx hn1 hn2 hin hs3 hgo hso
       go_upto_region 9 with fail
       rw [HW3.out]
       have hown3:=HOW3.out
       have hx3:=HNX3.out.size
       have hl3:=(HSTATE.out W3 HNX3.out).2.2
       go_wp2_with (at_builtin;refine wpList_append_at rfl _ _ 25 rfl (w.heap.size+1) 43 i0 (.agg #[.int .i64 0,.string ⟨#[]⟩,.slice none 0 0,.slice none 0 0,.int .i64 0]) 5 80 Try.underlying25 hi hz0 hz1 hz2 rfl (by decide) _ _ _ rfl (hown3.alloc _) ⟨W3.heap.size,0,none⟩ 1 1 [.int .i64 kd,.string tx,.slice z1 l1 m1,.slice z2 l2 m2,.int .i64 (q:Int)] rfl rfl ?c1 ?c2 ?c3 ?c4 ?c5 ?_)
       case c1 =>
        intro j u hj
        match j,hj with
       |0,hj=>simp at hj;subst hj;simp [Addr.add]
       |1,hj=>simp at hj;subst hj;simp [Addr.add]
       |2,hj=>simp at hj;subst hj;simp [Addr.add]
       |3,hj=>simp at hj;subst hj;simp [Addr.add]
       |4,hj=>simp at hj;subst hj;simp [Addr.add]
       case c2=>intro u hu;simp at hu;rcases hu with rfl|rfl|rfl|rfl|rfl<;>rfl
       case c3=>unfold maxLen;omega
       case c4=>omega
       case c5=>simp;omega
       intro v' w4 hown4 hgrow hwhere
       obtain ⟨WA,hWA⟩:∃ WA,W3.alloc (.cells #[.int .i64 kd,.string tx,.slice z1 l1 m1,.slice z2 l2 m2,.int .i64 (q:Int)] 43)=WA:=⟨_,rfl⟩
       rw [hWA] at hgrow
       have hsa:WA.heap.size=W3.heap.size+1:=by rw [←hWA];simp
       rw [←hsa] at hwhere
       have hba:Below W3.heap.size W3 WA:=by rw [←hWA];exact one_alloc _ _
       have HOW4:=hide hown4
       have HTK4:Hid (TkL w.heap.size v'.ownBlock w4 (ts++[⟨r.kind,r.text,r.lit,(q:Int)⟩]) (vs++[.int .i64 kd,.string tx,.slice z1 l1 m1,.slice z2 l2 m2,.int .i64 (q:Int)])):=by
        obtain ⟨hk,htx,hn1,hn2⟩:=HEQ.out
        have hlit:LitIn w.heap.size (Value.slice la TL lc).ownBlock WA r.lit (.agg #[.slice z1 r.lit.shape.length m1,.slice z2 r.lit.cells.length m2]):=by
         rw [←hn1,← hn2]
         exact ((LitIn.of HIN.out (by have:=HL2.out;omega) (fun k hk=>HLTG.out k hk)).next HB3.out).next hba
        have htk3:=HTK3.out
        rw [HTL.out] at htk3
        have:=(htk3.next hba).snoc (t:=⟨r.kind,r.text,r.lit,(q:Int)⟩) (by have:=HTZ.out;show r.text.size≤_;omega) (by rw [HTL.out];exact hown3.1) hlit hgrow hwhere
        rw [hk,htx,hn1,hn2]
        exact this
       have HNX4:=hide ((HNX3.out.trans (hba.mono (by omega))).grown hgrow (by have:=hba.size;omega) (fun k hk=>(hown3.lt k hk).1))
       clear hown4 hgrow hwhere hWA hba hown3 HTK3 HOW3 HIN HB2 HB3 HLTG HEQ e0 e1 e2 t0 t1 t2 t3 t4
       have HPB:=hide (HBL.out so hs2)
       have hlb:=HLB.out so
       obtain ⟨nx,hnx⟩:∃ nx,so+lead blB ((numsS s).drop so)=nx:=⟨_,rfl⟩
       rw [hnx] at HPB HGG
       have hle:nx≤s.size∧q<nx:=by omega
       clear hnx hlb
       go_wp2_with fail
       refine (HPB.out _).mono ?_
       rintro e w5 ⟨rfl,rfl⟩
       clear HPB
       go_wp2
       go_roundg (s.size+1-nx)
       case rel=>exact ⟨nx,ts++[⟨r.kind,r.text,r.lit,(q:Int)⟩],_,by omega,hle.1,rfl,by rw [List.length_append,HTL.out];exact HOW4.out,HTK4.out,HNX4.out,by rw [List.length_append,HTL.out];simp;omega,by have hh:=HGG.out;rw [HTL.out] at hh;rw [List.length_append,HTL.out];exact hh⟩
       case measure=>omega
      ·have HRE:=hide (HBAD.out her)
       have hpl:=HBD.out her
       subst hpl
       have her':(er != 0)=true:=bne_iff_ne.2 her
       obtain ⟨hrf,hbw,hl3⟩:=HSTATE.out W3 HNX3.out
       obtain ⟨W9,hW9⟩:∃ W9,W3.setCells w.heap.size 0 [.int .i64 er,.int .i64 (r.ea:Int),.int .i64 0]=W9:=⟨_,rfl⟩
       have HX9:Hid (((W3.setCell ⟨w.heap.size,0,none⟩ (.int .i64 er)).setCell ⟨w.heap.size,1,none⟩ (.int .i64 (r.ea:Int))).setCell ⟨w.heap.size,2,none⟩ (.int .i64 0)=W9):=by rw [←hW9];rfl
       obtain ⟨C9,B9⟩:=hrf.put (us:=[.int .i64 er,.int .i64 (r.ea:Int),.int .i64 0]) (by simp) hW9
       have HC9:=hide (C9.next (B:=W9.heap.size) (w9drew W9) C9.lt)
       have HB9:=hide ((hbw.trans (B9.below hbw.size fun k hk=>by omega)).trans ((w9drew W9).mono (by have:=hbw.size;have:=B9.size;omega)))
       have f0:=hrf.c 0 _ rfl
       have f1:=hrf.c 1 _ rfl
       have f2:=hrf.c 2 _ rfl
       have fz:=hrf.z
       have hlt3:w.heap.size<w2.heap.size:=by have:=HB2.out.size;have:=HL2.out;omega
       clear HOK HBD HBAD HGO HEND her hrf hbw hl3 C9 B9 hW9 HSTATE HTK3 HOW3 HNX3 HB2 HB3 HLTG HBL HLB HER
       go_upto_region 9 with fail
       rw [HW3.out]
       go_upto_region 10 with fail
       go_region_with (fail)
       all_goals
        rw [HX9.out]
        go_wp2
        have q0:=HC9.out.c 0 _ rfl
        have q1:=HC9.out.c 1 _ rfl
        have q2:=HC9.out.c 2 _ rfl
        exact bodyPost_ret (v:=.tuple #[.slice none 0 0,.agg #[.int .i64 er,.int .i64 (r.ea:Int),.int .i64 0]]) (by simp [results,Try.results12,go_sem,q0,q1,q2]) rfl (by
         rw [HRE.out]
         exact ⟨HB9.out,rfl⟩)
   ·have hlt':¬ (q:Int)<(s.size:Int):=by omega
    have HRE:=hide (show F=.ok ts by rw [←HTO.out,LD_end (Or.inl hlt)];simp [jnD,Rs.bind])
    clear HBL HRM HON HLB
    obtain ⟨pa,pc,rfl,hpc,htk⟩:=tkIn_of (s:=w.heap.size) (by omega) HOW.out HTK.out
    obtain ⟨hrf,hbw,hl2⟩:=HSTATE.out wr HNX.out
    obtain ⟨W9,hW9⟩:∃ W9,wr.setCells w.heap.size 0 [.int .i64 0,.int .i64 0,.int .i64 0]=W9:=⟨_,rfl⟩
    have HW9:Hid (wr.setCells w.heap.size 0 (#[.int .i64 0,.int .i64 0,.int .i64 0]:Array Value).toList=W9):=hW9
    obtain ⟨C9,B9⟩:=hrf.put (us:=[.int .i64 0,.int .i64 0,.int .i64 0]) (by simp) hW9
    have HTH9:=hide (hrf.there (n:=3) (by simp))
    have HC9:=hide C9
    have HB9:=hide (hbw.trans (B9.below hbw.size fun k hk=>by omega))
    have HPC:=hide hpc
    have HTKI:=hide (show WoK w.heap.size W9 pa ts from fun W h1 h2=>htk W (Nat.le_trans B9.size h1) fun k hs hk=>(h2 k (Nat.le_of_lt hs) (Nat.lt_of_lt_of_le hk B9.size)).trans (B9.block hk (fun he=>by omega)))
    clear hrf hbw hl2 hpc htk HSTATE HTO HNX HOW HTK C9 B9 hW9
    generalize hTL:ts.length=TL at *
    have HTL:=hide hTL
    clear hTL
    go_wp2_with (first|(refine wpList_store_mid rfl 28 (.tmp 3) (.tmp 49) rfl w.heap.size 0 #[.int .i64 0,.int .i64 0,.int .i64 0] rfl rfl HTH9.out (by kernel_rfl) (by simp [Value.oneCell']) ?_;rw [HW9.out]))
    have q0:=HC9.out.c 0 _ rfl
    have q1:=HC9.out.c 1 _ rfl
    have q2:=HC9.out.c 2 _ rfl
    exact bodyPost_ret (v:=.tuple #[.slice pa TL pc,.agg #[.int .i64 0,.int .i64 0,.int .i64 0]]) (by simp [results,Try.results12,go_sem,q0,q1,q2]) rfl (by
     rw [HRE.out]
     exact ⟨HB9.out,pa,pc,by rw [HTL.out],by rw [HTL.out];exact HPC.out,HTKI.out⟩)
set_option maxHeartbeats 16000000 in
theorem lex14 (s:ByteArray) (w:World) :
  Calls Try.prog 14 #[.string s] w fun e w'=>∃ F,GvX F w e w':=by
 obtain ⟨i0,hi,hz0,hz1,hz2⟩:=info_parts info43
 obtain ⟨W1,hW1⟩:∃ W1,w.alloc (.cells #[.int .i64 0,.int .i64 0,.int .i64 0] 28)=W1:=⟨_,rfl⟩
 have b1:Below w.heap.size w W1:=by rw [←hW1];exact one_alloc _ _
 have s1:W1.heap.size=w.heap.size+1:=by rw [←hW1];simp
 have R1:Cs W1 w.heap.size [.int .i64 0,.int .i64 0,.int .i64 0]:=by rw [←hW1];exact Cs.new w [.int .i64 0,.int .i64 0,.int .i64 0] 28
 by_cases hlong:8192<s.size
 ·have hlong':(8192:Int)<(s.size:Int):=by omega
  have hrf:=R1
  have hbw:=b1
  have HW1:=hide hW1
  clear hlong b1 s1 R1 hW1
  go_enter Try.func14,Try.ntmps14
  go_upto_region 2 with fail
  rw [HW1.out]
  obtain ⟨W9,hW9⟩:∃ W9,W1.setCells w.heap.size 0 [.int .i64 14,.int .i64 0,.int .i64 0]=W9:=⟨_,rfl⟩
  have HW9:Hid (W1.setCells w.heap.size 0 (#[.int .i64 14,.int .i64 0,.int .i64 0]:Array Value).toList=W9):=hW9
  obtain ⟨C9,B9⟩:=hrf.put (us:=[.int .i64 14,.int .i64 0,.int .i64 0]) (by simp) hW9
  have HTH9:=hide (hrf.there (n:=3) (by simp))
  have HC9:=hide C9
  have HB9:=hide (hbw.trans (B9.below hbw.size fun k hk=>by omega))
  clear hrf hbw C9 B9 hW9
  go_wp2_with (first|(refine wpList_store_mid rfl 28 (.tmp 3) (.tmp 12) rfl w.heap.size 0 #[.int .i64 14,.int .i64 0,.int .i64 0] rfl rfl HTH9.out (by kernel_rfl) (by simp [Value.oneCell']) ?_;rw [HW9.out]))
  have q0:=HC9.out.c 0 _ rfl
  have q1:=HC9.out.c 1 _ rfl
  have q2:=HC9.out.c 2 _ rfl
  exact bodyPost_ret (v:=.tuple #[.slice none 0 0,.agg #[.int .i64 14,.int .i64 0,.int .i64 0]]) (by simp [results,Try.results14,go_sem,q0,q1,q2]) rfl ⟨.bad 14 0,HB9.out,rfl⟩
 ·have hL:s.size≤8192:=by omega
  have hlong':¬ (8192:Int)<(s.size:Int):=by omega
  have HSTATE:Hid (∀ wr,Below (w.heap.size+1) W1 wr→Cs wr w.heap.size [.int .i64 0,.int .i64 0,.int .i64 0]∧Below w.heap.size w wr∧w.heap.size+1≤wr.heap.size):=fun wr h =>
   ⟨R1.next h (by omega),b1.trans (h.mono (by omega)),by have:=h.size;omega⟩
  have HNX0:Hid (Below (w.heap.size+1) W1 W1):=Below.refl _ _
  have HOWN:Hid (W1.ownsRow (w.heap.size+1) 43 5 (.slice none 0 0) 0 []):=World.ownsRow_nil _ _ _ _
  have hll:=lead_le blB (numsS s)
  rw [numsS_len] at hll
  have HBL:=hide (fun j (hj:j≤s.size) W=>blanks24 s j hj (by omega) W)
  have hb0:=HBL.out 0 (Nat.zero_le _) W1
  rw [List.drop_zero,Nat.zero_add] at hb0
  have HB0:=hide hb0
  obtain ⟨remB,hrm⟩:∃ l,numsS ⟨#[78,66,46]⟩=l:=⟨_,rfl⟩
  have HRM:=hide (fun j (hj:j≤s.size) W=>starts25 s ⟨#[78,66,46]⟩ j hj (by omega) (by decide) W)
  rw [hrm] at HRM
  have HON:=hide (fun j (hj:j<s.size) W=>one27 s j hj hL W)
  have HW1:=hide hW1
  have HL:=hide hL
  have HLB:=hide (fun j=>(show lead blB ((numsS s).drop j)≤s.size-j by have:=lead_le blB ((numsS s).drop j);rwa [List.length_drop,numsS_len] at this))
  clear hlong b1 s1 R1 hW1 hb0 hrm
  go_enter Try.func14,Try.ntmps14
  go_upto_region 4 with fail
  rw [HW1.out]
  go_wp2_with fail
  refine HB0.out.mono ?_
  rintro e w0 ⟨rfl,rfl⟩
  clear HB0 HW1
  generalize lead blB (numsS s)=q0 at *
  go_wp2
  go_loopg [5,4] (s.size+1-q0) (fun g nv lv wr=>∃ (q:Nat) (ts:List Wo) (vs:List Value),g+q=s.size+1∧q≤s.size∧nv=.int .i64 (q:Int)∧wr.ownsRow (w.heap.size+1) 43 5 lv ts.length vs∧TkL w.heap.size lv.ownBlock wr ts vs∧Below (w.heap.size+1) w0 wr∧ts.length≤2048)
  case atStart=>exact ⟨q0,[],[],by omega,hll,rfl,HOWN.out,TkL.nil _ _ _,HNX0.out,by simp⟩
  case round =>
   clear HNX0 HOWN hll
   obtain ⟨q,ts,vs,hg,hq,rfl,hown,htkl,hnx,htl⟩:=hrel
   have hL2:=HL.out
   have HOW:=hide hown
   have HTK:=hide htkl
   have HNX:=hide hnx
   clear hown htkl hnx
   by_cases hlt:q<s.size
   ·have hlt':(q:Int)<(s.size:Int):=by omega
    have HR1:=hide (HRM.out q hq wr)
    cases hrm:hasP ((numsS s).drop q) remB with
   |true =>
     rw [hrm] at HR1
     clear hrm HBL HRM HON HLB
     go_wp2_with fail
     refine HR1.out.mono ?_
     rintro e w1 ⟨rfl,rfl⟩
     clear HR1
     obtain ⟨pa,pc,rfl,hpc,htk⟩:=tkIn_of (s:=w.heap.size) (by omega) HOW.out HTK.out
     obtain ⟨hrf,hbw,hl2⟩:=HSTATE.out w1 HNX.out
     obtain ⟨W9,hW9⟩:∃ W9,w1.setCells w.heap.size 0 [.int .i64 0,.int .i64 0,.int .i64 0]=W9:=⟨_,rfl⟩
     have HW9:Hid (w1.setCells w.heap.size 0 (#[.int .i64 0,.int .i64 0,.int .i64 0]:Array Value).toList=W9):=hW9
     obtain ⟨C9,B9⟩:=hrf.put (us:=[.int .i64 0,.int .i64 0,.int .i64 0]) (by simp) hW9
     have HTH9:=hide (hrf.there (n:=3) (by simp))
     have HC9:=hide C9
     have HB9:=hide (hbw.trans (B9.below hbw.size fun k hk=>by omega))
     have HPC:=hide hpc
     have HTKI:=hide (show WoK w.heap.size W9 pa ts from fun W h1 h2=>htk W (Nat.le_trans B9.size h1) fun k hs hk=>(h2 k (Nat.le_of_lt hs) (Nat.lt_of_lt_of_le hk B9.size)).trans (B9.block hk (fun he=>by omega)))
     clear hrf hbw hl2 hpc htk HSTATE HNX HOW HTK C9 B9 hW9
     generalize hTL:ts.length=TL at *
     have HTL:=hide hTL
     clear hTL
     go_wp2_with (first|(refine wpList_store_mid rfl 28 (.tmp 3) (.tmp 49) rfl w.heap.size 0 #[.int .i64 0,.int .i64 0,.int .i64 0] rfl rfl HTH9.out (by kernel_rfl) (by simp [Value.oneCell']) ?_;rw [HW9.out]))
     have q0:=HC9.out.c 0 _ rfl
     have q1:=HC9.out.c 1 _ rfl
     have q2:=HC9.out.c 2 _ rfl
     exact bodyPost_ret (v:=.tuple #[.slice pa TL pc,.agg #[.int .i64 0,.int .i64 0,.int .i64 0]]) (by simp [results,Try.results14,go_sem,q0,q1,q2]) rfl ⟨.ok ts,HB9.out,pa,pc,by rw [HTL.out],by rw [HTL.out];exact HPC.out,HTKI.out⟩
   |false =>
     rw [hrm] at HR1
     have HO1:=hide (HON.out q hlt wr)
     clear hrm HRM HON
     by_cases h48:ts.length=2048
     ·have h48':((ts.length:Int)==2048)=true:=by simp [h48]
      obtain ⟨la,lc,hla⟩:=owns_slice HOW.out
      subst hla
      obtain ⟨hrf,hbw,hl2⟩:=HSTATE.out wr HNX.out
      clear HBL HLB HO1 HSTATE HTK HNX HOW h48
      generalize ts.length=TL at *
      go_wp2_with fail
      refine HR1.out.mono ?_
      rintro e w1 ⟨rfl,rfl⟩
      clear HR1
      obtain ⟨W9,hW9⟩:∃ W9,w1.setCells w.heap.size 0 [.int .i64 14,.int .i64 (q:Int),.int .i64 0]=W9:=⟨_,rfl⟩
      have HW9:Hid (w1.setCells w.heap.size 0 (#[.int .i64 14,.int .i64 (q:Int),.int .i64 0]:Array Value).toList=W9):=hW9
      obtain ⟨C9,B9⟩:=hrf.put (us:=[.int .i64 14,.int .i64 (q:Int),.int .i64 0]) (by simp) hW9
      have HTH9:=hide (hrf.there (n:=3) (by simp))
      have HC9:=hide C9
      have HB9:=hide (hbw.trans (B9.below hbw.size fun k hk=>by omega))
      clear hrf hbw C9 B9 hW9
      go_wp2_with (first|(refine wpList_store_mid rfl 28 (.tmp 3) (.tmp 29) rfl w.heap.size 0 #[.int .i64 14,.int .i64 (q:Int),.int .i64 0] rfl rfl HTH9.out (by kernel_rfl) (by simp [Value.oneCell']) ?_;rw [HW9.out]))
      have q0:=HC9.out.c 0 _ rfl
      have q1:=HC9.out.c 1 _ rfl
      have q2:=HC9.out.c 2 _ rfl
      exact bodyPost_ret (v:=.tuple #[.slice none 0 0,.agg #[.int .i64 14,.int .i64 (q:Int),.int .i64 0]]) (by simp [results,Try.results14,go_sem,q0,q1,q2]) rfl ⟨.bad 14 (q:Int),HB9.out,rfl⟩
     ·have h48':((ts.length:Int)==2048)=false:=beq_eq_false_iff_ne.2 (by omega)
      obtain ⟨la,lc,hla⟩:=owns_slice HOW.out
      subst hla
      have HLTG:=hide (fun k hk=>(HOW.out.lt k hk).2)
      obtain ⟨TL,hTL⟩:∃ TL,ts.length=TL:=⟨_,rfl⟩
      have HTL:=hide hTL
      rw [hTL] at HOW HLTG htl h48'
      simp only [hTL]
      have HL2:=hide (HSTATE.out wr HNX.out).2.2
      have htl2:TL<2048:=by omega
      clear h48 hTL
      go_wp2_with fail
      refine HR1.out.mono ?_
      rintro e w1 ⟨rfl,rfl⟩
      clear HR1
      go_wp2_with fail
      refine HO1.out.mono ?_
      rintro e w2 ⟨r,⟨hb2,kd,tx,z1,z2,l1,m1,l2,m2,at',st,pl,rfl,hok,hbad⟩,hend⟩
      have HEND:=hide hend
      clear hend
      obtain ⟨er,her0⟩:∃ er,r.err=er:=⟨_,rfl⟩
      have HER:=hide her0
      rw [her0] at hok hbad HEND ⊢
      clear her0
      have HOK:=hide hok
      have HBD:=hide hbad
      have HB2:=hide hb2
      obtain ⟨W3,hW3⟩:∃ W3,(w2.alloc (.cells #[.int .i64 kd,.string tx,.slice z1 l1 m1,.slice z2 l2 m2,.int .i64 at'] 43)).alloc (.cells #[.int .i64 er,.int .i64 pl,.int .i64 0] 28)=W3:=⟨_,rfl⟩
      have hb3:Below w2.heap.size w2 W3:=by rw [←hW3];exact two_allocs _ _ _
      have D3:Cs W3 w2.heap.size [.int .i64 kd,.string tx,.slice z1 l1 m1,.slice z2 l2 m2,.int .i64 at']:=by rw [←hW3];exact (Cs.new w2 [.int .i64 kd,.string tx,.slice z1 l1 m1,.slice z2 l2 m2,.int .i64 at'] 43).next (one_alloc _ _) (by simp)
      have E3:Cs W3 (w2.heap.size+1) [.int .i64 er,.int .i64 pl,.int .i64 0]:=by
       have hs:(w2.alloc (.cells #[.int .i64 kd,.string tx,.slice z1 l1 m1,.slice z2 l2 m2,.int .i64 at'] 43)).heap.size=w2.heap.size+1:=by simp
       have h:=Cs.new (w2.alloc (.cells #[.int .i64 kd,.string tx,.slice z1 l1 m1,.slice z2 l2 m2,.int .i64 at'] 43)) [.int .i64 er,.int .i64 pl,.int .i64 0] 28
       rw [hs] at h
       rw [←hW3];exact h
      have HNX2:=hide (HNX.out.trans (hb2.mono HL2.out))
      have hl2':=(HSTATE.out w2 HNX2.out).2.2
      have HNX3:=hide (HNX2.out.trans (hb3.mono hl2'))
      have HOW3:=hide (owns_next (owns_next HOW.out hb2) hb3)
      have HTK3:=hide ((HTK.out.next hb2).next hb3)
      have HB3:=hide hb3
      have HW3:=hide hW3
      have e0:=E3.c 0 _ rfl
      have e1:=E3.c 1 _ rfl
      have e2:=E3.c 2 _ rfl
      have t0:=D3.c 0 _ rfl
      have t1:=D3.c 1 _ rfl
      have t2:=D3.c 2 _ rfl
      have t3:=D3.c 3 _ rfl
      have t4:=D3.c 4 _ rfl
      clear hok hbad hb2 hb3 hW3 HNX HOW HTK HO1 HNX2 D3 E3
      by_cases her:er=0
      ·obtain ⟨hk,htx,rfl,rfl,rfl,hn1,hn2,hin⟩:=HOK.out her
       obtain ⟨hs1,hs2,hs3⟩:=HEND.out her
       subst her
       have HIN:=hide hin
       have HEQ:=hide (And.intro hk (And.intro htx (And.intro hn1 hn2)))
       have HTZ:=hide hs3
       obtain ⟨so,hso⟩:∃ so,r.stop=so:=⟨_,rfl⟩
       rw [hso] at hs1 hs2
       simp only [hso] at HW3 ⊢
       clear HOK HBD HEND hk htx hn1 hn2 hin hs3 hso
       go_upto_region 9 with fail
       rw [HW3.out]
       have hown3:=HOW3.out
       have hx3:=HNX3.out.size
       have hl3:=(HSTATE.out W3 HNX3.out).2.2
       go_wp2_with (at_builtin;refine wpList_append_at rfl _ _ 25 rfl (w.heap.size+1) 43 i0 (.agg #[.int .i64 0,.string ⟨#[]⟩,.slice none 0 0,.slice none 0 0,.int .i64 0]) 5 80 Try.underlying25 hi hz0 hz1 hz2 rfl (by decide) _ _ _ rfl (hown3.alloc _) ⟨W3.heap.size,0,none⟩ 1 1 [.int .i64 kd,.string tx,.slice z1 l1 m1,.slice z2 l2 m2,.int .i64 (q:Int)] rfl rfl ?c1 ?c2 ?c3 ?c4 ?c5 ?_)
       case c1 =>
        intro j u hj
        match j,hj with
       |0,hj=>simp at hj;subst hj;simp [Addr.add]
       |1,hj=>simp at hj;subst hj;simp [Addr.add]
       |2,hj=>simp at hj;subst hj;simp [Addr.add]
       |3,hj=>simp at hj;subst hj;simp [Addr.add]
       |4,hj=>simp at hj;subst hj;simp [Addr.add]
       case c2=>intro u hu;simp at hu;rcases hu with rfl|rfl|rfl|rfl|rfl<;>rfl
       case c3=>unfold maxLen;omega
       case c4=>omega
       case c5=>simp;omega
       intro v' w4 hown4 hgrow hwhere
       obtain ⟨WA,hWA⟩:∃ WA,W3.alloc (.cells #[.int .i64 kd,.string tx,.slice z1 l1 m1,.slice z2 l2 m2,.int .i64 (q:Int)] 43)=WA:=⟨_,rfl⟩
       rw [hWA] at hgrow
       have hsa:WA.heap.size=W3.heap.size+1:=by rw [←hWA];simp
       rw [←hsa] at hwhere
       have hba:Below W3.heap.size W3 WA:=by rw [←hWA];exact one_alloc _ _
       have HOW4:=hide hown4
       have HTK4:Hid (TkL w.heap.size v'.ownBlock w4 (ts++[⟨r.kind,r.text,r.lit,(q:Int)⟩]) (vs++[.int .i64 kd,.string tx,.slice z1 l1 m1,.slice z2 l2 m2,.int .i64 (q:Int)])):=by
        obtain ⟨hk,htx,hn1,hn2⟩:=HEQ.out
        have hlit:LitIn w.heap.size (Value.slice la TL lc).ownBlock WA r.lit (.agg #[.slice z1 r.lit.shape.length m1,.slice z2 r.lit.cells.length m2]):=by
         rw [←hn1,← hn2]
         exact ((LitIn.of HIN.out (by have:=HL2.out;omega) (fun k hk=>HLTG.out k hk)).next HB3.out).next hba
        have htk3:=HTK3.out
        rw [HTL.out] at htk3
        have:=(htk3.next hba).snoc (t:=⟨r.kind,r.text,r.lit,(q:Int)⟩) (by have:=HTZ.out;show r.text.size≤_;omega) (by rw [HTL.out];exact hown3.1) hlit hgrow hwhere
        rw [hk,htx,hn1,hn2]
        exact this
       have HNX4:=hide ((HNX3.out.trans (hba.mono (by omega))).grown hgrow (by have:=hba.size;omega) (fun k hk=>(hown3.lt k hk).1))
       clear hown4 hgrow hwhere hWA hba hown3 HTK3 HOW3 HIN HB2 HB3 HLTG HEQ e0 e1 e2 t0 t1 t2 t3 t4
       have HPB:=hide (HBL.out so hs2)
       have hlb:=HLB.out so
       obtain ⟨nx,hnx⟩:∃ nx,so+lead blB ((numsS s).drop so)=nx:=⟨_,rfl⟩
       rw [hnx] at HPB
       have hle:nx≤s.size∧q<nx:=by omega
       clear hnx hlb
       go_wp2_with fail
       refine (HPB.out _).mono ?_
       rintro e w5 ⟨rfl,rfl⟩
       clear HPB
       go_wp2
       go_roundg (s.size+1-nx)
       case rel=>exact ⟨nx,ts++[⟨r.kind,r.text,r.lit,(q:Int)⟩],_,by omega,hle.1,rfl,by rw [List.length_append,HTL.out];exact HOW4.out,HTK4.out,HNX4.out,by rw [List.length_append,HTL.out];simp;omega⟩
       case measure=>omega
      ·have hpl:=HBD.out her
       subst hpl
       have her':(er != 0)=true:=bne_iff_ne.2 her
       obtain ⟨hrf,hbw,hl3⟩:=HSTATE.out W3 HNX3.out
       obtain ⟨W9,hW9⟩:∃ W9,W3.setCells w.heap.size 0 [.int .i64 er,.int .i64 (r.ea:Int),.int .i64 0]=W9:=⟨_,rfl⟩
       have HX9:Hid (((W3.setCell ⟨w.heap.size,0,none⟩ (.int .i64 er)).setCell ⟨w.heap.size,1,none⟩ (.int .i64 (r.ea:Int))).setCell ⟨w.heap.size,2,none⟩ (.int .i64 0)=W9):=by rw [←hW9];rfl
       obtain ⟨C9,B9⟩:=hrf.put (us:=[.int .i64 er,.int .i64 (r.ea:Int),.int .i64 0]) (by simp) hW9
       have HC9:=hide (C9.next (B:=W9.heap.size) (w9drew W9) C9.lt)
       have HB9:=hide ((hbw.trans (B9.below hbw.size fun k hk=>by omega)).trans ((w9drew W9).mono (by have:=hbw.size;have:=B9.size;omega)))
       have f0:=hrf.c 0 _ rfl
       have f1:=hrf.c 1 _ rfl
       have f2:=hrf.c 2 _ rfl
       have fz:=hrf.z
       have hlt3:w.heap.size<w2.heap.size:=by have:=HB2.out.size;have:=HL2.out;omega
       clear HOK HBD HEND her hrf hbw hl3 C9 B9 hW9 HSTATE HTK3 HOW3 HNX3 HB2 HB3 HLTG HBL HLB HER
       go_upto_region 9 with fail
       rw [HW3.out]
       go_upto_region 10 with fail
       go_region_with (fail)
       all_goals
        rw [HX9.out]
        go_wp2
        have q0:=HC9.out.c 0 _ rfl
        have q1:=HC9.out.c 1 _ rfl
        have q2:=HC9.out.c 2 _ rfl
        exact bodyPost_ret (v:=.tuple #[.slice none 0 0,.agg #[.int .i64 er,.int .i64 (r.ea:Int),.int .i64 0]]) (by simp [results,Try.results14,go_sem,q0,q1,q2]) rfl ⟨.bad er (r.ea:Int),HB9.out,rfl⟩
   ·have hlt':¬ (q:Int)<(s.size:Int):=by omega
    clear HBL HRM HON HLB
    obtain ⟨pa,pc,rfl,hpc,htk⟩:=tkIn_of (s:=w.heap.size) (by omega) HOW.out HTK.out
    obtain ⟨hrf,hbw,hl2⟩:=HSTATE.out wr HNX.out
    obtain ⟨W9,hW9⟩:∃ W9,wr.setCells w.heap.size 0 [.int .i64 0,.int .i64 0,.int .i64 0]=W9:=⟨_,rfl⟩
    have HW9:Hid (wr.setCells w.heap.size 0 (#[.int .i64 0,.int .i64 0,.int .i64 0]:Array Value).toList=W9):=hW9
    obtain ⟨C9,B9⟩:=hrf.put (us:=[.int .i64 0,.int .i64 0,.int .i64 0]) (by simp) hW9
    have HTH9:=hide (hrf.there (n:=3) (by simp))
    have HC9:=hide C9
    have HB9:=hide (hbw.trans (B9.below hbw.size fun k hk=>by omega))
    have HPC:=hide hpc
    have HTKI:=hide (show WoK w.heap.size W9 pa ts from fun W h1 h2=>htk W (Nat.le_trans B9.size h1) fun k hs hk=>(h2 k (Nat.le_of_lt hs) (Nat.lt_of_lt_of_le hk B9.size)).trans (B9.block hk (fun he=>by omega)))
    clear hrf hbw hl2 hpc htk HSTATE HNX HOW HTK C9 B9 hW9
    generalize hTL:ts.length=TL at *
    have HTL:=hide hTL
    clear hTL
    go_wp2_with (first|(refine wpList_store_mid rfl 28 (.tmp 3) (.tmp 49) rfl w.heap.size 0 #[.int .i64 0,.int .i64 0,.int .i64 0] rfl rfl HTH9.out (by kernel_rfl) (by simp [Value.oneCell']) ?_;rw [HW9.out]))
    have q0:=HC9.out.c 0 _ rfl
    have q1:=HC9.out.c 1 _ rfl
    have q2:=HC9.out.c 2 _ rfl
    exact bodyPost_ret (v:=.tuple #[.slice pa TL pc,.agg #[.int .i64 0,.int .i64 0,.int .i64 0]]) (by simp [results,Try.results14,go_sem,q0,q1,q2]) rfl ⟨.ok ts,HB9.out,pa,pc,by rw [HTL.out],by rw [HTL.out];exact HPC.out,HTKI.out⟩
end Go.Proofs.Ytnaejfoighmfeaa.Rn
