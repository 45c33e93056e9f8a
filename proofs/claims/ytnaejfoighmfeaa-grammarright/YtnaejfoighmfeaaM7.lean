import Derived.Test.YtnaejfoighmfeaaM6
import Derived.Laws.BitsAllLaws
import Derived.Lib.Bits
import Derived.Test.YtnaejfoighmfeaaChecked
import GoSem.Claim
import GoSem.ClaimJoined
import GoSem.ClaimMapViews
import Derived.JoinedTies
import Derived.KernelRfl
import Derived.WalkKit
import Derived.ProofKit
import Derived.Below
import Derived.Deep.QuietTactic
import Derived.BigQuiet
import Derived.Lib.SlBytesConst
import Derived.Laws.BytesArg
import Derived.Laws.MakeOwn
import Derived.Deep.RegionHeld3
import Derived.Laws.AppendOwnNone
import Derived.BigFrame
import Derived.OpenShut
import Derived.ChangeOld
import Derived.SizedLaws
import Derived.Deep.DeepHandedRow
import Derived.Lib.LaidTab
import Derived.Deep.OwnRows
import Derived.Deep.RegionWith
import Derived.Deep.Slices
import Derived.Deep.Strs
import Derived.Deep.LoopGhost
import Derived.Lib.ConvBytes
import Derived.Deep.RegionLaw
import Derived.Deep.CutRange
import Derived.Lib.SliceRun
import Derived.WalkLawsBesides
import Derived.Maps.AppendAt
import Derived.Deep.MidRow
import Derived.Defers
import Derived.Recover
import Derived.Deep.Cut
import Derived.ChangeMaps5
namespace Go.Proofs.Ytnaejfoighmfeaa.Rn
open Go.ChangeShapes Go.WideShapes Go.ChangeAt Go.RowKit
set_option maxRecDepth 100000
set_option linter.unusedVariables false
set_option linter.unusedSimpArgs false
def stpD (n:Int) (k:Nat):Nat:=if n=39 then 2 else k
def quoD:Nat→List Int→List Int × Nat × Int
 | 0,_=>([],0,-1)
 | f+1,l=>if l=[] then ([],0,-1) else match oneF l with
  | none=>([],0,3)
  | some (n,k)=>if n=39∧hasP l [39,39]=false then ([],0,0) else if n < 32 ∨ n=127 then ([],0,2) else
   (n :: (quoD f (l.drop (stpD n k))).1,(quoD f (l.drop (stpD n k))).2.1+stpD n k,(quoD f (l.drop (stpD n k))).2.2)
theorem oneF_len {l:List Int} {n:Int} {k:Nat} (h:oneF l=some (n,k)):1≤k∧k≤l.length:=by
 cases l with
 | nil=>cases h
 | cons c t =>
  simp only [oneF] at h
  split at h
  ·cases h
  ·split at h
   ·cases h
   ·split at h
    ·simp at h; simp; omega
    ·cases h
theorem stpD_len {l:List Int} {n:Int} {k:Nat} (h:oneF l=some (n,k)) (hq:¬ (n=39∧hasP l [39,39]=false)):1≤stpD n k∧stpD n k≤l.length:=by
 have:=oneF_len h
 unfold stpD
 split
 ·rename_i h39
  cases hp:hasP l [39,39] with
  | false=>exact absurd ⟨h39,hp⟩ hq
  | true =>
   have:=hasP_len hp
   simp at this
   omega
 ·exact this
theorem quoD_fuel (f:Nat):∀ f' l,l.length < f→l.length < f'→quoD f' l=quoD f l:=by
 induction f with
 | zero=>intro f' l h; omega
 | succ f ih =>
  intro f' l hf hf'
  obtain ⟨f',rfl⟩:∃ g,f'=g+1:=⟨f' - 1,by omega⟩
  rw [quoD,quoD]
  split
  ·rfl
  ·rename_i hl
   split
   ·rfl
   ·rename_i n k hk
    split
    ·rfl
    ·rename_i hq
     have hs:=stpD_len hk hq
     split
     ·rfl
     ·rw [ih f' _ (by rw [List.length_drop]; omega) (by rw [List.length_drop]; omega)]
def QD (l:List Int):List Int × Nat × Int:=quoD (l.length+1) l
def TotQ (p j:Nat) (xs:List Int) (S:List Int × Nat × Int):List Int × Nat × Int:=(xs ++ S.1,j - p+S.2.1,S.2.2)
theorem QD_nil:QD []=([],0,-1):=rfl
theorem QD_none {l:List Int} (hl:l ≠ []) (h:oneF l=none):QD l=([],0,3):=by
 unfold QD; rw [quoD,if_neg hl,h]
theorem QD_end {l:List Int} {k:Nat} (hl:l ≠ []) (h:oneF l=some (39,k)) (hp:hasP l [39,39]=false):QD l=([],0,0):=by
 unfold QD; rw [quoD,if_neg hl,h]; simp [hp]
theorem QD_bad {l:List Int} {n:Int} {k:Nat} (hl:l ≠ []) (h:oneF l=some (n,k)) (hq:¬ (n=39∧hasP l [39,39]=false)) (hb:n < 32 ∨ n=127):QD l=([],0,2):=by
 unfold QD; rw [quoD,if_neg hl,h]; simp only; rw [if_neg hq,if_pos hb]
theorem QD_go {l:List Int} {n:Int} {k:Nat} (hl:l ≠ []) (h:oneF l=some (n,k)) (hq:¬ (n=39∧hasP l [39,39]=false)) (hb:¬ (n < 32 ∨ n=127)) (p j:Nat) (xs:List Int) (hpj:p≤j) :
  TotQ p j xs (QD l)=TotQ p (j+stpD n k) (xs ++ [n]) (QD (l.drop (stpD n k))):=by
 have hs:=stpD_len h hq
 have e:QD l=(n :: (QD (l.drop (stpD n k))).1,(QD (l.drop (stpD n k))).2.1+stpD n k,(QD (l.drop (stpD n k))).2.2):=by
  unfold QD
  rw [quoD,if_neg hl,h]
  simp only
  rw [if_neg hq,if_neg hb,quoD_fuel ((l.drop (stpD n k)).length+1) l.length _ (by omega) (by rw [List.length_drop]; omega)]
 rw [e]
 generalize QD (l.drop (stpD n k))=S
 obtain ⟨x,y,z⟩:=S
 unfold TotQ
 exact Prod.ext (by simp) (Prod.ext (by simp; omega) rfl)
def GvQ (T:List Int × Nat × Int) (a:Nat) (w:World) (e:Ending) (w':World):Prop:=Below w.heap.size w w' ∧
 if T.2.2=0 then ∃ z1 m1 z2 m2,e=.returned (.tuple #[.agg #[.int .i64 2,.string ⟨#[]⟩,.slice z1 (textA T.1).shape.length m1,.slice z2 (textA T.1).cells.length m2,.int .i64 (a:Int)],.int .i64 ((a+1+T.2.1:Nat)+1:Int),.agg #[.int .i64 0,.int .i64 0,.int .i64 0]])∧ArIn 1 w.heap.size w' (textA T.1) (.agg #[.slice z1 (textA T.1).shape.length m1,.slice z2 (textA T.1).cells.length m2])
 else ∃ pl:Nat,e=.returned (.tuple #[.agg #[.int .i64 2,.string ⟨#[]⟩,.slice none 0 0,.slice none 0 0,.int .i64 (a:Int)],.int .i64 ((a+1+T.2.1:Nat):Int),.agg #[.int .i64 (if T.2.2=-1 then 2 else T.2.2),.int .i64 (pl:Int),.int .i64 0]])∧pl=if T.2.2=-1 then a else a+1+T.2.1
set_option maxHeartbeats 16000000 in
theorem quoted48 (s:ByteArray) (a:Nat) (ha:a < s.size) (hs:s.size≤8192) (w:World) :
  Calls Try.prog 48 #[.string s,.int .i64 (a:Int)] w fun e w'=>GvQ (QD ((numsS s).drop (a+1))) a w e w':=by
 obtain ⟨i0,hi,hz0,hz1,hz2⟩:=info_parts info2
 obtain ⟨T,hTT⟩:∃ T,QD ((numsS s).drop (a+1))=T:=⟨_,rfl⟩
 rw [hTT]
 obtain ⟨W3,hW3⟩:∃ W3,((w.alloc (.cells #[.int .i64 0,.string ⟨#[]⟩,.slice none 0 0,.slice none 0 0,.int .i64 0] 43)).alloc (.cells #[.int .i64 0,.int .i64 0,.int .i64 0] 28)).alloc (.cells #[.int .i64 2,.string ⟨#[]⟩,.slice none 0 0,.slice none 0 0,.int .i64 (a:Int)] 43)=W3:=⟨_,rfl⟩
 have hs1:(w.alloc (.cells #[.int .i64 0,.string ⟨#[]⟩,.slice none 0 0,.slice none 0 0,.int .i64 0] 43)).heap.size=w.heap.size+1:=by simp
 have hs2:((w.alloc (.cells #[.int .i64 0,.string ⟨#[]⟩,.slice none 0 0,.slice none 0 0,.int .i64 0] 43)).alloc (.cells #[.int .i64 0,.int .i64 0,.int .i64 0] 28)).heap.size=w.heap.size+2:=by simp
 have b3:Below w.heap.size w W3:=by rw [←hW3]; exact (two_allocs _ _ _).trans ((one_alloc _ _).mono (by omega))
 have s3:W3.heap.size=w.heap.size+3:=by rw [←hW3]; simp
 have R3:Cs W3 w.heap.size [.int .i64 0,.string ⟨#[]⟩,.slice none 0 0,.slice none 0 0,.int .i64 0]:=by
  rw [←hW3]
  exact ((Cs.new w [.int .i64 0,.string ⟨#[]⟩,.slice none 0 0,.slice none 0 0,.int .i64 0] 43).next (one_alloc _ _) (by simp)).next (one_alloc _ _) (by omega)
 have F3:Cs W3 (w.heap.size+1) [.int .i64 0,.int .i64 0,.int .i64 0]:=by
  have h:=Cs.new (w.alloc (.cells #[.int .i64 0,.string ⟨#[]⟩,.slice none 0 0,.slice none 0 0,.int .i64 0] 43)) [.int .i64 0,.int .i64 0,.int .i64 0] 28
  rw [hs1] at h
  rw [←hW3]
  exact h.next (one_alloc _ _) (by omega)
 have D3:Cs W3 (w.heap.size+2) [.int .i64 2,.string ⟨#[]⟩,.slice none 0 0,.slice none 0 0,.int .i64 (a:Int)]:=by
  have h:=Cs.new ((w.alloc (.cells #[.int .i64 0,.string ⟨#[]⟩,.slice none 0 0,.slice none 0 0,.int .i64 0] 43)).alloc (.cells #[.int .i64 0,.int .i64 0,.int .i64 0] 28)) [.int .i64 2,.string ⟨#[]⟩,.slice none 0 0,.slice none 0 0,.int .i64 (a:Int)] 43
  rw [hs2] at h
  rw [←hW3]
  exact h
 have HSTATE:Hid (∀ wr,Below (w.heap.size+3) W3 wr→Cs wr w.heap.size [.int .i64 0,.string ⟨#[]⟩,.slice none 0 0,.slice none 0 0,.int .i64 0]∧Cs wr (w.heap.size+1) [.int .i64 0,.int .i64 0,.int .i64 0]∧Cs wr (w.heap.size+2) [.int .i64 2,.string ⟨#[]⟩,.slice none 0 0,.slice none 0 0,.int .i64 (a:Int)]∧Below w.heap.size w wr∧w.heap.size+3≤wr.heap.size):=fun wr h =>
  ⟨R3.next h (by omega),F3.next h (by omega),D3.next h (by omega),b3.trans (h.mono (by omega)),by have:=h.size; omega⟩
 have HNX0:Hid (Below (w.heap.size+3) W3 W3):=Below.refl _ _
 have HOWN:Hid (W3.ownsRow (w.heap.size+3) 2 1 (.slice none 0 0) 0 (iv [])):=World.ownsRow_nil _ _ _ _
 have HSG:=hide (fun j (hj:j≤s.size) W=>sign45 s j hj (by omega) W)
 have HQQ:=hide (fun j (hj:j≤s.size) W=>starts25 s ⟨#[39,39]⟩ j hj (by omega) (by decide) W)
 have hqq:numsS ⟨#[39,39]⟩=[39,39]:=by decide
 rw [hqq] at HQQ
 have HNE:=hide (fun j (hj:j < s.size)=>(show (numsS s).drop j ≠ [] from fun h=>by
  have:=congrArg List.length h
  rw [List.length_drop,numsS_len] at this
  simp at this
  omega))
 have HNL:=hide (fun j (hj:¬ j < s.size)=>(show (numsS s).drop j=[] from List.drop_eq_nil_of_le (by rw [numsS_len]; omega)))
 have HDR:=hide (fun j k=>(show ((numsS s).drop j).drop k=(numsS s).drop (j+k) from List.drop_drop))
 have HLN:=hide (fun j=>(show ((numsS s).drop j).length=s.size - j by rw [List.length_drop,numsS_len]))
 have HT0:=hide (show TotQ (a+1) (a+1) [] (QD ((numsS s).drop (a+1)))=T from by rw [←hTT]; unfold TotQ; refine Prod.ext (by simp) (Prod.ext (by simp) rfl))
 obtain ⟨RS,hRS⟩:∃ RS:Nat→List Int,∀ j,(numsS s).drop j=RS j:=⟨_,fun _=>rfl⟩
 simp only [hRS] at HSG HQQ HNE HNL HDR HLN HT0
 have HW3:=hide hW3
 have HA0:=hide ha
 have HSZ:=hide hs
 have ha9:a≤8192:=by omega
 clear hRS hTT hW3 hs1 hs2 b3 s3 R3 F3 D3 ha hs hqq
 go_enter Try.func48,Try.ntmps48
 go_wp2
 rw [HW3.out]
 go_loopg [8,9] (s.size - a) (fun g lv iv' wr=>∃ (j:Nat) (xs:List Int),g+j=s.size+1∧j≤s.size∧a+1≤j∧xs.length≤j∧iv'=.int .i64 (j:Int)∧wr.ownsRow (w.heap.size+3) 2 1 lv xs.length (iv xs)∧Below (w.heap.size+3) W3 wr∧TotQ (a+1) j xs (QD (RS j))=T)
 case atStart=>exact ⟨a+1,[],by have:=HA0.out; omega,HA0.out,Nat.le_refl _,by simp,by go_num,HOWN.out,HNX0.out,HT0.out⟩
 case round =>
  clear HOWN HNX0 HT0 HW3
  obtain ⟨j,xs,hg,hjs,haj,hxj,rfl,hown,hnx,htot⟩:=hrel
  have hs9:=HSZ.out
  have HOW:=hide hown
  have HNX:=hide hnx
  have HTO:=hide htot
  clear hown hnx htot
  by_cases hlt:j < s.size
  ·have HS1:=hide (HSG.out j hjs)
   have hne:=HNE.out j hlt
   have HQ1:=hide (HQQ.out j hjs)
   have hln:=HLN.out j
   clear HSG HQQ HNE HNL HLN
   have hlt2:(j:Int) < (s.size:Int):=by omega
   cases ho:oneF (RS j) with
   | none =>
    have HE:=hide (show T=(xs,j - (a+1),3) by rw [←HTO.out,QD_none hne ho]; unfold TotQ; exact Prod.ext (by simp) (Prod.ext (by simp) rfl))
    have hon:oneN (RS j)=0∧oneK (RS j)=0:=by unfold oneN oneK; rw [ho]; exact ⟨rfl,rfl⟩
    rw [hon.1,hon.2] at HS1
    clear hon ho HQ1 HTO HDR hne
    go_wp2_with fail
    refine (HS1.out _).mono ?_
    rintro e w1 ⟨rfl,hb1⟩
    have HNX:=hide (HNX.out.trans (hb1.mono (HSTATE.out _ HNX.out).2.2.2.2))
    clear hb1 HS1 HOW
    obtain ⟨hrt,hrf,hwd,hbw,hl3⟩:=HSTATE.out w1 HNX.out
    have c0:=hwd.c 0 _ rfl
    have c1:=hwd.c 1 _ rfl
    have c2:=hwd.c 2 _ rfl
    have c3:=hwd.c 3 _ rfl
    have c4:=hwd.c 4 _ rfl
    obtain ⟨W8,hW8⟩:∃ W8,w1.setCells w.heap.size 0 [.int .i64 2,.string ⟨#[]⟩,.slice none 0 0,.slice none 0 0,.int .i64 (a:Int)]=W8:=⟨_,rfl⟩
    have HW8:Hid (w1.setCells w.heap.size 0 (#[.int .i64 2,.string ⟨#[]⟩,.slice none 0 0,.slice none 0 0,.int .i64 (a:Int)]:Array Value).toList=W8):=hW8
    obtain ⟨C8,B8⟩:=hrt.put (us:=[.int .i64 2,.string ⟨#[]⟩,.slice none 0 0,.slice none 0 0,.int .i64 (a:Int)]) (by simp) hW8
    have F8:=hrf.but B8 (by omega)
    obtain ⟨W9,hW9⟩:∃ W9,W8.setCells (w.heap.size+1) 0 [.int .i64 3,.int .i64 (j:Int),.int .i64 0]=W9:=⟨_,rfl⟩
    have HW9:Hid (W8.setCells (w.heap.size+1) 0 (#[.int .i64 3,.int .i64 (j:Int),.int .i64 0]:Array Value).toList=W9):=hW9
    obtain ⟨C9,B9⟩:=F8.put (us:=[.int .i64 3,.int .i64 (j:Int),.int .i64 0]) (by simp) hW9
    have D9:=C8.but B9 (by omega)
    have HTH8:=hide (hrt.there (n:=5) (by simp))
    have HTH9:=hide (F8.there (n:=3) (by simp))
    have HC9:=hide C9
    have HD9:=hide D9
    have HB9:=hide ((hbw.trans (B8.below hbw.size fun k hk=>by omega)).trans (B9.below (by have:=hbw.size; have:=B8.size; omega) fun k hk=>by omega))
    clear HSTATE hrt hrf hwd hbw hl3 C8 B8 F8 C9 B9 D9 hW8 hW9
    go_wp2_with (first | (refine wpList_store_mid rfl 43 (.tmp 4) (.tmp 28) rfl w.heap.size 0 #[.int .i64 2,.string ⟨#[]⟩,.slice none 0 0,.slice none 0 0,.int .i64 (a:Int)] rfl rfl HTH8.out (by kernel_rfl) (by simp [Value.oneCell']) ?_; rw [HW8.out]) | (refine wpList_store_mid rfl 28 (.tmp 6) (.tmp 31) rfl (w.heap.size+1) 0 #[.int .i64 3,.int .i64 (j:Int),.int .i64 0] rfl rfl HTH9.out (by kernel_rfl) (by simp [Value.oneCell']) ?_; rw [HW9.out]))
    have r0:=HD9.out.c 0 _ rfl
    have r1:=HD9.out.c 1 _ rfl
    have r2:=HD9.out.c 2 _ rfl
    have r3:=HD9.out.c 3 _ rfl
    have r4:=HD9.out.c 4 _ rfl
    have q0:=HC9.out.c 0 _ rfl
    have q1:=HC9.out.c 1 _ rfl
    have q2:=HC9.out.c 2 _ rfl
    exact bodyPost_ret (v:=.tuple #[.agg #[.int .i64 2,.string ⟨#[]⟩,.slice none 0 0,.slice none 0 0,.int .i64 (a:Int)],.int .i64 (j:Int),.agg #[.int .i64 3,.int .i64 (j:Int),.int .i64 0]]) (by simp [results,Try.results48,go_sem,r0,r1,r2,r3,r4,q0,q1,q2]) rfl (by
      rw [HE.out]
      refine ⟨HB9.out,?_⟩
      rw [if_neg (by show ¬ ((3:Int)=0); decide)]
      refine ⟨j,?_,?_⟩
      ·rw [if_neg (by show ¬ ((3:Int)=-1); decide),show a+1+(j - (a+1))=j by omega]
      ·rw [if_neg (by show ¬ ((3:Int)=-1); decide)]; show j=a+1+(j - (a+1)); omega)
   | some p =>
    obtain ⟨n,k⟩:=p
    have hon:oneN (RS j)=n∧oneK (RS j)=k:=by unfold oneN oneK; rw [ho]; exact ⟨rfl,rfl⟩
    rw [hon.1,hon.2] at HS1
    have hkl:=oneF_len ho
    rw [hln] at hkl
    have hk0:((k:Int) == 0)=false:=beq_eq_false_iff_ne.2 (by omega)
    have hst:=fun hq=>stpD_len ho hq
    rw [hln] at hst
    have HQE:=hide (fun (h39:n=39) (hp:hasP (RS j) [39,39]=false)=>QD_end (k:=k) hne (by rw [ho,h39]) hp)
    have HQB:=hide (fun hq hb=>QD_bad hne ho hq hb)
    have HQG:=hide (fun hq hb=>QD_go hne ho hq hb (a+1) j xs haj)
    rw [HDR.out] at HQG
    clear hon ho HDR hne hln
    by_cases h39:n=39
    ·subst h39
     cases hp:hasP (RS j) [39,39] with
     | false =>
      rw [hp] at HQ1
      have HE:=hide (show T=(xs,j - (a+1),0) by rw [←HTO.out,HQE.out rfl hp]; unfold TotQ; exact Prod.ext (by simp) (Prod.ext (by simp) rfl))
      clear HQE HQB HQG HTO hst hp
      go_wp2_with fail
      refine (HS1.out _).mono ?_
      rintro e w1 ⟨rfl,hb1⟩
      have HNX1:=hide (HNX.out.trans (hb1.mono (HSTATE.out _ HNX.out).2.2.2.2))
      have HOW1:=hide (owns_next HOW.out hb1)
      clear hb1 HS1 HOW HNX
      go_wp2_with fail
      refine (HQ1.out _).mono ?_
      rintro e w2 ⟨rfl,rfl⟩
      clear HQ1
      obtain ⟨pa,pc,rfl,hrow⟩:=row_owned (lo:=w.heap.size+3) HOW1.out (by omega) (Nat.le_refl _)
      have HTX:=hide (rtext_any 0 xs pa pc w2 hrow (by omega))
      obtain ⟨hrt,hrf,hwd,hbw,hl3⟩:=HSTATE.out w2 HNX1.out
      have HRT:=hide hrt
      have HRF:=hide hrf
      have HWD:=hide hwd
      have HBW:=hide hbw
      have HL3:=hide hl3
      clear hrt hrf hwd hbw hl3 HSTATE HNX1 HOW1 hrow
      go_wp2_with fail
      refine HTX.out.mono ?_
      rintro e w7 ⟨⟨vv,rfl,hin⟩,hb7⟩
      clear HTX
      have HIN:=hide hin
      obtain ⟨y1,n1,y2,n2,hvv,-⟩:=hin
      obtain ⟨SH,hSH⟩:∃ SH,(textA xs).shape.length=SH:=⟨_,rfl⟩
      obtain ⟨CL,hCL⟩:∃ CL,(textA xs).cells.length=CL:=⟨_,rfl⟩
      have HSH:=hide hSH
      have HCL:=hide hCL
      have hv2:vv=.agg #[.slice y1 SH n1,.slice y2 CL n2]:=by rw [←hSH,← hCL]; exact hvv
      subst hv2
      clear hSH hCL hvv
      have D7:=HWD.out.next hb7 HWD.out.lt
      obtain ⟨D8,B8⟩:=D7.set2 (b2:=.slice y1 SH n1) (b3:=.slice y2 CL n2)
      have R8:=(HRT.out.next hb7 HRT.out.lt).but B8 (by omega)
      have F8:=(HRF.out.next hb7 HRF.out.lt).but B8 (by omega)
      have HBW8:=hide ((HBW.out.trans (hb7.mono HBW.out.size)).trans (B8.below (by have:=HL3.out; have:=hb7.size; omega) fun k hk=>by omega))
      have hl8:w.heap.size+3≤((w7.setCell ⟨w.heap.size+2,2,none⟩ (.slice y1 SH n1)).setCell ⟨w.heap.size+2,3,none⟩ (.slice y2 CL n2)).heap.size:=by have:=B8.size; have:=hb7.size; have:=HL3.out; omega
      have e2:=D7.c 2 _ rfl
      have e3:=D7.c 3 _ rfl
      have h2:=D7.z 2
      have h3:=D7.z 3
      obtain ⟨W6,hW6⟩:∃ W6,(w7.setCell ⟨w.heap.size+2,2,none⟩ (.slice y1 SH n1)).setCell ⟨w.heap.size+2,3,none⟩ (.slice y2 CL n2)=W6:=⟨_,rfl⟩
      rw [hW6] at D8 B8 R8 F8 HBW8 hl8
      have c0:=D8.c 0 _ rfl
      have c1:=D8.c 1 _ rfl
      have c2:=D8.c 2 _ rfl
      have c3:=D8.c 3 _ rfl
      have c4:=D8.c 4 _ rfl
      obtain ⟨W8,hW8⟩:∃ W8,W6.setCells w.heap.size 0 [.int .i64 2,.string ⟨#[]⟩,.slice y1 SH n1,.slice y2 CL n2,.int .i64 (a:Int)]=W8:=⟨_,rfl⟩
      have HW8:Hid (W6.setCells w.heap.size 0 (#[.int .i64 2,.string ⟨#[]⟩,.slice y1 SH n1,.slice y2 CL n2,.int .i64 (a:Int)]:Array Value).toList=W8):=hW8
      obtain ⟨C9,B9⟩:=R8.put (us:=[.int .i64 2,.string ⟨#[]⟩,.slice y1 SH n1,.slice y2 CL n2,.int .i64 (a:Int)]) (by simp) hW8
      have F9:=F8.but B9 (by omega)
      obtain ⟨W9,hW9⟩:∃ W9,W8.setCells (w.heap.size+1) 0 [.int .i64 0,.int .i64 0,.int .i64 0]=W9:=⟨_,rfl⟩
      have HW9:Hid (W8.setCells (w.heap.size+1) 0 (#[.int .i64 0,.int .i64 0,.int .i64 0]:Array Value).toList=W9):=hW9
      obtain ⟨G9,B10⟩:=F9.put (us:=[.int .i64 0,.int .i64 0,.int .i64 0]) (by simp) hW9
      have E9:=C9.but B10 (by omega)
      have HTH8:=hide (R8.there (n:=5) (by simp))
      have HTH9:=hide (F9.there (n:=3) (by simp))
      have HC9:=hide G9
      have HD9:=hide E9
      have HINN:Hid (ArIn 1 w.heap.size W9 (textA xs) (.agg #[.slice y1 SH n1,.slice y2 CL n2])):=by
       have hs7:=hb7.size
       exact arIn_low (((HIN.out.keeps (but_keeps B8 (by have:=HL3.out; omega))).keeps (but_keeps B9 (by have:=HL3.out; omega))).keeps (but_keeps B10 (by have:=HL3.out; omega))) (by have:=HL3.out; omega)
      have HB9:=hide ((HBW8.out.trans (B9.below HBW8.out.size fun k hk=>by omega)).trans (B10.below (by have:=HBW8.out.size; have:=B9.size; omega) fun k hk=>by omega))
      clear D7 D8 B8 R8 F8 hb7 HRT HRF HWD HIN C9 B9 F9 G9 B10 E9 hW8 hW9 HBW HBW8 hl8
      go_wp2_with (first | (refine wpList_store_mid rfl 43 (.tmp 4) (.tmp 41) rfl w.heap.size 0 #[.int .i64 2,.string ⟨#[]⟩,.slice y1 SH n1,.slice y2 CL n2,.int .i64 (a:Int)] rfl rfl HTH8.out (by kernel_rfl) (by simp [Value.oneCell']) ?_; rw [HW8.out]) | (refine wpList_store_mid rfl 28 (.tmp 6) (.tmp 44) rfl (w.heap.size+1) 0 #[.int .i64 0,.int .i64 0,.int .i64 0] rfl rfl HTH9.out (by kernel_rfl) (by simp [Value.oneCell']) ?_; rw [HW9.out]))
      have r0:=HD9.out.c 0 _ rfl
      have r1:=HD9.out.c 1 _ rfl
      have r2:=HD9.out.c 2 _ rfl
      have r3:=HD9.out.c 3 _ rfl
      have r4:=HD9.out.c 4 _ rfl
      have q0:=HC9.out.c 0 _ rfl
      have q1:=HC9.out.c 1 _ rfl
      have q2:=HC9.out.c 2 _ rfl
      exact bodyPost_ret (v:=.tuple #[.agg #[.int .i64 2,.string ⟨#[]⟩,.slice y1 SH n1,.slice y2 CL n2,.int .i64 (a:Int)],.int .i64 ((j:Int)+1),.agg #[.int .i64 0,.int .i64 0,.int .i64 0]]) (by simp [results,Try.results48,go_sem,r0,r1,r2,r3,r4,q0,q1,q2]) rfl (by
       rw [HE.out]
       refine ⟨HB9.out,?_⟩
       rw [if_pos (show ((0:Int)=0) from rfl)]
       refine ⟨y1,n1,y2,n2,?_,?_⟩
       ·show _=Ending.returned (.tuple #[.agg #[.int .i64 2,.string ⟨#[]⟩,.slice y1 (textA xs).shape.length n1,.slice y2 (textA xs).cells.length n2,.int .i64 (a:Int)],.int .i64 ((a+1+(j - (a+1)):Nat)+1:Int),.agg #[.int .i64 0,.int .i64 0,.int .i64 0]])
        rw [HSH.out,HCL.out,show a+1+(j - (a+1))=j by omega]
       ·show ArIn 1 w.heap.size W9 (textA xs) (.agg #[.slice y1 (textA xs).shape.length n1,.slice y2 (textA xs).cells.length n2])
        rw [HSH.out,HCL.out]; exact HINN.out)
     | true =>
      rw [hp] at HQ1
      have hnq:¬ ((39:Int)=39∧hasP (RS j) [39,39]=false):=by simp [hp]
      have hs2:j+2≤s.size:=by have:=hst hnq; unfold stpD at this; simp at this; omega
      have hown1:=HQG.out hnq (by omega)
      have hTG:TotQ (a+1) (j+2) (xs ++ [39]) (QD (RS (j+2)))=T:=by rw [←HTO.out,hown1]; rfl
      have HTG:=hide hTG
      clear HQE HQB HQG HTO hst hp hnq hown1 hTG
      go_wp2_with fail
      refine (HS1.out _).mono ?_
      rintro e w1 ⟨rfl,hb1⟩
      have HNX1:=hide (HNX.out.trans (hb1.mono (HSTATE.out _ HNX.out).2.2.2.2))
      have HOW1:=hide (owns_next HOW.out hb1)
      clear hb1 HS1 HOW HNX
      go_wp2_with fail
      refine (HQ1.out _).mono ?_
      rintro e w2 ⟨rfl,rfl⟩
      clear HQ1
      have hown2:=HOW1.out
      have hlt3:=(HSTATE.out w2 HNX1.out).2.2.2.2
      go_wp2_with (at_builtin; refine wpList_append_own _ rfl _ _ 109 rfl (w.heap.size+3) 2 i0 (.int .i64 0) 1 8 Try.underlying109 hi hz0 hz1 hz2 rfl (by decide) _ _ _ rfl (hown2.alloc _) ⟨w2.heap.size,0,none⟩ 1 1 [.int .i64 39] rfl rfl ?c1 ?c2 ?c3 ?c4 ?c5 ?_)
      case c1 =>
       intro j u hj
       match j,hj with
       | 0,hj=>simp at hj; subst hj; simp [Addr.add]
      case c2=>intro u hu; simp at hu; subst hu; rfl
      case c3=>unfold maxLen; omega
      case c4=>omega
      case c5=>simp; omega
      intro v' w3 hown' hgrow _
      have hown3:w3.ownsRow (w.heap.size+3) 2 1 v' (xs ++ [39]).length (iv (xs ++ [39])):=by
       rw [List.length_append,show iv (xs ++ [39])=iv xs ++ [.int .i64 39] from List.map_append]; exact hown'
      have HNX3:=hide ((HNX1.out.alloc (show w.heap.size+3≤w2.heap.size by omega) _).grown hgrow (by simp; omega) (fun q hq=>(hown2.lt q hq).1))
      have HOW3:=hide hown3
      clear hown' hgrow hown2 HNX1 HOW1 hown3
      go_wp2
      go_roundg (s.size+1 - (j+2))
      case rel=>exact ⟨j+2,xs ++ [39],by omega,hs2,by omega,by rw [List.length_append]; simp; omega,by go_num,HOW3.out,HNX3.out,HTG.out⟩
      case measure=>omega
    ·have hnq:¬ (n=39∧hasP (RS j) [39,39]=false):=fun h=>h39 h.1
     have hn39:(n == 39)=false:=beq_eq_false_iff_ne.2 h39
     have hstk:stpD n k=k:=by unfold stpD; rw [if_neg h39]
     by_cases hbad:n < 32 ∨ n=127
     ·have HE:=hide (show T=(xs,j - (a+1),2) by rw [←HTO.out,HQB.out hnq hbad]; unfold TotQ; exact Prod.ext (by simp) (Prod.ext (by simp) rfl))
      have hbb:n < 32 ∨ (¬ n < 32∧n=127):=by omega
      clear HQE HQB HQG HTO hst hnq HQ1 hbad
      rcases hbb with hlow | ⟨hnl,h127⟩
      ·go_wp2_with fail
       refine (HS1.out _).mono ?_
       rintro e w1 ⟨rfl,hb1⟩
       have HNX:=hide (HNX.out.trans (hb1.mono (HSTATE.out _ HNX.out).2.2.2.2))
       clear hb1 HS1 HOW
       obtain ⟨hrt,hrf,hwd,hbw,hl3⟩:=HSTATE.out w1 HNX.out
       have c0:=hwd.c 0 _ rfl
       have c1:=hwd.c 1 _ rfl
       have c2:=hwd.c 2 _ rfl
       have c3:=hwd.c 3 _ rfl
       have c4:=hwd.c 4 _ rfl
       obtain ⟨W8,hW8⟩:∃ W8,w1.setCells w.heap.size 0 [.int .i64 2,.string ⟨#[]⟩,.slice none 0 0,.slice none 0 0,.int .i64 (a:Int)]=W8:=⟨_,rfl⟩
       have HW8:Hid (w1.setCells w.heap.size 0 (#[.int .i64 2,.string ⟨#[]⟩,.slice none 0 0,.slice none 0 0,.int .i64 (a:Int)]:Array Value).toList=W8):=hW8
       obtain ⟨C8,B8⟩:=hrt.put (us:=[.int .i64 2,.string ⟨#[]⟩,.slice none 0 0,.slice none 0 0,.int .i64 (a:Int)]) (by simp) hW8
       have F8:=hrf.but B8 (by omega)
       obtain ⟨W9,hW9⟩:∃ W9,W8.setCells (w.heap.size+1) 0 [.int .i64 2,.int .i64 (j:Int),.int .i64 0]=W9:=⟨_,rfl⟩
       have HW9:Hid (W8.setCells (w.heap.size+1) 0 (#[.int .i64 2,.int .i64 (j:Int),.int .i64 0]:Array Value).toList=W9):=hW9
       obtain ⟨C9,B9⟩:=F8.put (us:=[.int .i64 2,.int .i64 (j:Int),.int .i64 0]) (by simp) hW9
       have D9:=C8.but B9 (by omega)
       have HTH8:=hide (hrt.there (n:=5) (by simp))
       have HTH9:=hide (F8.there (n:=3) (by simp))
       have HC9:=hide C9
       have HD9:=hide D9
       have HB9:=hide ((hbw.trans (B8.below hbw.size fun k hk=>by omega)).trans (B9.below (by have:=hbw.size; have:=B8.size; omega) fun k hk=>by omega))
       clear HSTATE hrt hrf hwd hbw hl3 C8 B8 F8 C9 B9 D9 hW8 hW9
       go_wp2_with (first | (refine wpList_store_mid rfl 43 (.tmp 4) (.tmp 51) rfl w.heap.size 0 #[.int .i64 2,.string ⟨#[]⟩,.slice none 0 0,.slice none 0 0,.int .i64 (a:Int)] rfl rfl HTH8.out (by kernel_rfl) (by simp [Value.oneCell']) ?_; rw [HW8.out]) | (refine wpList_store_mid rfl 28 (.tmp 6) (.tmp 54) rfl (w.heap.size+1) 0 #[.int .i64 2,.int .i64 (j:Int),.int .i64 0] rfl rfl HTH9.out (by kernel_rfl) (by simp [Value.oneCell']) ?_; rw [HW9.out]))
       have r0:=HD9.out.c 0 _ rfl
       have r1:=HD9.out.c 1 _ rfl
       have r2:=HD9.out.c 2 _ rfl
       have r3:=HD9.out.c 3 _ rfl
       have r4:=HD9.out.c 4 _ rfl
       have q0:=HC9.out.c 0 _ rfl
       have q1:=HC9.out.c 1 _ rfl
       have q2:=HC9.out.c 2 _ rfl
       exact bodyPost_ret (v:=.tuple #[.agg #[.int .i64 2,.string ⟨#[]⟩,.slice none 0 0,.slice none 0 0,.int .i64 (a:Int)],.int .i64 (j:Int),.agg #[.int .i64 2,.int .i64 (j:Int),.int .i64 0]]) (by simp [results,Try.results48,go_sem,r0,r1,r2,r3,r4,q0,q1,q2]) rfl (by
         rw [HE.out]
         refine ⟨HB9.out,?_⟩
         rw [if_neg (by show ¬ ((2:Int)=0); decide)]
         refine ⟨j,?_,?_⟩
         ·rw [if_neg (by show ¬ ((2:Int)=-1); decide),show a+1+(j - (a+1))=j by omega]
         ·rw [if_neg (by show ¬ ((2:Int)=-1); decide)]; show j=a+1+(j - (a+1)); omega)
      ·subst h127
       go_wp2_with fail
       refine (HS1.out _).mono ?_
       rintro e w1 ⟨rfl,hb1⟩
       have HNX:=hide (HNX.out.trans (hb1.mono (HSTATE.out _ HNX.out).2.2.2.2))
       clear hb1 HS1 HOW
       obtain ⟨hrt,hrf,hwd,hbw,hl3⟩:=HSTATE.out w1 HNX.out
       have c0:=hwd.c 0 _ rfl
       have c1:=hwd.c 1 _ rfl
       have c2:=hwd.c 2 _ rfl
       have c3:=hwd.c 3 _ rfl
       have c4:=hwd.c 4 _ rfl
       obtain ⟨W8,hW8⟩:∃ W8,w1.setCells w.heap.size 0 [.int .i64 2,.string ⟨#[]⟩,.slice none 0 0,.slice none 0 0,.int .i64 (a:Int)]=W8:=⟨_,rfl⟩
       have HW8:Hid (w1.setCells w.heap.size 0 (#[.int .i64 2,.string ⟨#[]⟩,.slice none 0 0,.slice none 0 0,.int .i64 (a:Int)]:Array Value).toList=W8):=hW8
       obtain ⟨C8,B8⟩:=hrt.put (us:=[.int .i64 2,.string ⟨#[]⟩,.slice none 0 0,.slice none 0 0,.int .i64 (a:Int)]) (by simp) hW8
       have F8:=hrf.but B8 (by omega)
       obtain ⟨W9,hW9⟩:∃ W9,W8.setCells (w.heap.size+1) 0 [.int .i64 2,.int .i64 (j:Int),.int .i64 0]=W9:=⟨_,rfl⟩
       have HW9:Hid (W8.setCells (w.heap.size+1) 0 (#[.int .i64 2,.int .i64 (j:Int),.int .i64 0]:Array Value).toList=W9):=hW9
       obtain ⟨C9,B9⟩:=F8.put (us:=[.int .i64 2,.int .i64 (j:Int),.int .i64 0]) (by simp) hW9
       have D9:=C8.but B9 (by omega)
       have HTH8:=hide (hrt.there (n:=5) (by simp))
       have HTH9:=hide (F8.there (n:=3) (by simp))
       have HC9:=hide C9
       have HD9:=hide D9
       have HB9:=hide ((hbw.trans (B8.below hbw.size fun k hk=>by omega)).trans (B9.below (by have:=hbw.size; have:=B8.size; omega) fun k hk=>by omega))
       clear HSTATE hrt hrf hwd hbw hl3 C8 B8 F8 C9 B9 D9 hW8 hW9
       go_wp2_with (first | (refine wpList_store_mid rfl 43 (.tmp 4) (.tmp 51) rfl w.heap.size 0 #[.int .i64 2,.string ⟨#[]⟩,.slice none 0 0,.slice none 0 0,.int .i64 (a:Int)] rfl rfl HTH8.out (by kernel_rfl) (by simp [Value.oneCell']) ?_; rw [HW8.out]) | (refine wpList_store_mid rfl 28 (.tmp 6) (.tmp 54) rfl (w.heap.size+1) 0 #[.int .i64 2,.int .i64 (j:Int),.int .i64 0] rfl rfl HTH9.out (by kernel_rfl) (by simp [Value.oneCell']) ?_; rw [HW9.out]))
       have r0:=HD9.out.c 0 _ rfl
       have r1:=HD9.out.c 1 _ rfl
       have r2:=HD9.out.c 2 _ rfl
       have r3:=HD9.out.c 3 _ rfl
       have r4:=HD9.out.c 4 _ rfl
       have q0:=HC9.out.c 0 _ rfl
       have q1:=HC9.out.c 1 _ rfl
       have q2:=HC9.out.c 2 _ rfl
       exact bodyPost_ret (v:=.tuple #[.agg #[.int .i64 2,.string ⟨#[]⟩,.slice none 0 0,.slice none 0 0,.int .i64 (a:Int)],.int .i64 (j:Int),.agg #[.int .i64 2,.int .i64 (j:Int),.int .i64 0]]) (by simp [results,Try.results48,go_sem,r0,r1,r2,r3,r4,q0,q1,q2]) rfl (by
         rw [HE.out]
         refine ⟨HB9.out,?_⟩
         rw [if_neg (by show ¬ ((2:Int)=0); decide)]
         refine ⟨j,?_,?_⟩
         ·rw [if_neg (by show ¬ ((2:Int)=-1); decide),show a+1+(j - (a+1))=j by omega]
         ·rw [if_neg (by show ¬ ((2:Int)=-1); decide)]; show j=a+1+(j - (a+1)); omega)
     ·have hnl:¬ n < 32:=fun h=>hbad (Or.inl h)
      have hn127:(n == 127)=false:=beq_eq_false_iff_ne.2 (fun h=>hbad (Or.inr h))
      have hgo:=HQG.out hnq hbad
      rw [hstk] at hgo
      have HTG:=hide (hgo.symm.trans HTO.out)
      have hs2:j+k≤s.size:=by omega
      clear HQE HQB HQG HTO hst hnq HQ1 hbad hgo hstk
      go_wp2_with fail
      refine (HS1.out _).mono ?_
      rintro e w2 ⟨rfl,hb1⟩
      have HNX1:=hide (HNX.out.trans (hb1.mono (HSTATE.out _ HNX.out).2.2.2.2))
      have HOW1:=hide (owns_next HOW.out hb1)
      clear hb1 HS1 HOW HNX
      have hown2:=HOW1.out
      have hlt3:=(HSTATE.out w2 HNX1.out).2.2.2.2
      go_wp2_with (at_builtin; refine wpList_append_own _ rfl _ _ 109 rfl (w.heap.size+3) 2 i0 (.int .i64 0) 1 8 Try.underlying109 hi hz0 hz1 hz2 rfl (by decide) _ _ _ rfl (hown2.alloc _) ⟨w2.heap.size,0,none⟩ 1 1 [.int .i64 n] rfl rfl ?c1 ?c2 ?c3 ?c4 ?c5 ?_)
      case c1 =>
       intro j u hj
       match j,hj with
       | 0,hj=>simp at hj; subst hj; simp [Addr.add]
      case c2=>intro u hu; simp at hu; subst hu; rfl
      case c3=>unfold maxLen; omega
      case c4=>omega
      case c5=>simp; omega
      intro v' w3 hown' hgrow _
      have hown3:w3.ownsRow (w.heap.size+3) 2 1 v' (xs ++ [n]).length (iv (xs ++ [n])):=by
       rw [List.length_append,show iv (xs ++ [n])=iv xs ++ [.int .i64 n] from List.map_append]; exact hown'
      have HNX3:=hide ((HNX1.out.alloc (show w.heap.size+3≤w2.heap.size by omega) _).grown hgrow (by simp; omega) (fun q hq=>(hown2.lt q hq).1))
      have HOW3:=hide hown3
      clear hown' hgrow hown2 HNX1 HOW1 hown3
      go_wp2
      go_roundg (s.size+1 - (j+k))
      case rel=>exact ⟨j+k,xs ++ [n],by omega,hs2,by omega,by rw [List.length_append]; simp; omega,by go_num,HOW3.out,HNX3.out,HTG.out⟩
      case measure=>omega
  ·have hE0:T=(xs,j - (a+1),-1):=by rw [←HTO.out,HNL.out j hlt]; unfold TotQ; exact Prod.ext (by simp [QD_nil]) (Prod.ext (by simp [QD_nil]) rfl)
   have HE:=hide hE0
   have hlt2:¬ (j:Int) < (s.size:Int):=by omega
   clear HSG HQQ HNE HNL HLN HDR HTO HOW hE0
   obtain ⟨hrt,hrf,hwd,hbw,hl3⟩:=HSTATE.out wr HNX.out
   have c0:=hwd.c 0 _ rfl
   have c1:=hwd.c 1 _ rfl
   have c2:=hwd.c 2 _ rfl
   have c3:=hwd.c 3 _ rfl
   have c4:=hwd.c 4 _ rfl
   obtain ⟨W8,hW8⟩:∃ W8,wr.setCells w.heap.size 0 [.int .i64 2,.string ⟨#[]⟩,.slice none 0 0,.slice none 0 0,.int .i64 (a:Int)]=W8:=⟨_,rfl⟩
   have HW8:Hid (wr.setCells w.heap.size 0 (#[.int .i64 2,.string ⟨#[]⟩,.slice none 0 0,.slice none 0 0,.int .i64 (a:Int)]:Array Value).toList=W8):=hW8
   obtain ⟨C8,B8⟩:=hrt.put (us:=[.int .i64 2,.string ⟨#[]⟩,.slice none 0 0,.slice none 0 0,.int .i64 (a:Int)]) (by simp) hW8
   have F8:=hrf.but B8 (by omega)
   obtain ⟨W9,hW9⟩:∃ W9,W8.setCells (w.heap.size+1) 0 [.int .i64 2,.int .i64 (a:Int),.int .i64 0]=W9:=⟨_,rfl⟩
   have HW9:Hid (W8.setCells (w.heap.size+1) 0 (#[.int .i64 2,.int .i64 (a:Int),.int .i64 0]:Array Value).toList=W9):=hW9
   obtain ⟨C9,B9⟩:=F8.put (us:=[.int .i64 2,.int .i64 (a:Int),.int .i64 0]) (by simp) hW9
   have D9:=C8.but B9 (by omega)
   have HTH8:=hide (hrt.there (n:=5) (by simp))
   have HTH9:=hide (F8.there (n:=3) (by simp))
   have HC9:=hide C9
   have HD9:=hide D9
   have HB9:=hide ((hbw.trans (B8.below hbw.size fun k hk=>by omega)).trans (B9.below (by have:=hbw.size; have:=B8.size; omega) fun k hk=>by omega))
   clear HSTATE hrt hrf hwd hbw hl3 C8 B8 F8 C9 B9 D9 hW8 hW9
   go_wp2_with (first | (refine wpList_store_mid rfl 43 (.tmp 4) (.tmp 62) rfl w.heap.size 0 #[.int .i64 2,.string ⟨#[]⟩,.slice none 0 0,.slice none 0 0,.int .i64 (a:Int)] rfl rfl HTH8.out (by kernel_rfl) (by simp [Value.oneCell']) ?_; rw [HW8.out]) | (refine wpList_store_mid rfl 28 (.tmp 6) (.tmp 65) rfl (w.heap.size+1) 0 #[.int .i64 2,.int .i64 (a:Int),.int .i64 0] rfl rfl HTH9.out (by kernel_rfl) (by simp [Value.oneCell']) ?_; rw [HW9.out]))
   have r0:=HD9.out.c 0 _ rfl
   have r1:=HD9.out.c 1 _ rfl
   have r2:=HD9.out.c 2 _ rfl
   have r3:=HD9.out.c 3 _ rfl
   have r4:=HD9.out.c 4 _ rfl
   have q0:=HC9.out.c 0 _ rfl
   have q1:=HC9.out.c 1 _ rfl
   have q2:=HC9.out.c 2 _ rfl
   exact bodyPost_ret (v:=.tuple #[.agg #[.int .i64 2,.string ⟨#[]⟩,.slice none 0 0,.slice none 0 0,.int .i64 (a:Int)],.int .i64 (j:Int),.agg #[.int .i64 2,.int .i64 (a:Int),.int .i64 0]]) (by simp [results,Try.results48,go_sem,r0,r1,r2,r3,r4,q0,q1,q2]) rfl (by
     rw [HE.out]
     refine ⟨HB9.out,?_⟩
     rw [if_neg (by show ¬ ((-1:Int)=0); decide)]
     refine ⟨a,?_,?_⟩
     ·rw [if_pos (show ((-1:Int)=-1) from rfl),show a+1+(j - (a+1))=j by omega]
     ·rw [if_pos (show ((-1:Int)=-1) from rfl)])
end Go.Proofs.Ytnaejfoighmfeaa.Rn
namespace Go.Proofs.Ytnaejfoighmfeaa.Rn
open Go.ChangeShapes Go.WideShapes Go.ChangeAt Go.RowKit
set_option maxRecDepth 100000
set_option linter.unusedVariables false
set_option linter.unusedSimpArgs false
structure Wd1 where
 kind:Int
 text:ByteArray
 lit:Ar
 stop:Nat
 err:Int
 ea:Nat
def nilA:Ar:=.mk [] []
def nilT:ByteArray:=⟨#[]⟩
def oneW (s:ByteArray) (a:Nat):Wd1 :=
 if oneK ((numsS s).drop a)=0 then ⟨0,nilT,nilA,0,3,a⟩
 else if begD minL ((numsS s).drop a) then match (SD minL ((numsS s).drop a)).2.2 with
  | some j=>⟨1,nilT,nilA,0,2,a+j⟩
  | none=>⟨1,nilT,litD (SD minL ((numsS s).drop a)).1,a+(SD minL ((numsS s).drop a)).2.1,0,0⟩
 else if byt s a=39 then (if (QD ((numsS s).drop (a+1))).2.2=0 then ⟨2,nilT,textA (QD ((numsS s).drop (a+1))).1,a+1+(QD ((numsS s).drop (a+1))).2.1+1,0,0⟩
  else ⟨2,nilT,nilA,0,if (QD ((numsS s).drop (a+1))).2.2=-1 then 2 else (QD ((numsS s).drop (a+1))).2.2,if (QD ((numsS s).drop (a+1))).2.2=-1 then a else a+1+(QD ((numsS s).drop (a+1))).2.1⟩)
 else if ltB (byt s a) then (if 8 < (cutS s a (wrdE s a)).size then ⟨3,nilT,nilA,0,2,a⟩ else ⟨3,cutS s a (wrdE s a),nilA,wrdE s a,0,0⟩)
 else match fixD ((numsS s).drop a) with
  | none=>⟨0,nilT,nilA,0,2,a⟩
  | some (k,t)=>⟨k,t,nilA,a+t.size,0,0⟩
def GvO (r:Wd1) (a:Nat) (w:World) (e:Ending) (w':World):Prop:=Below w.heap.size w w'∧∃ (kd:Int) (tx:ByteArray) (z1 z2:Option Addr) (l1 m1 l2 m2:Nat) (at':Int) (st:Int) (pl:Int),e=.returned (.tuple #[.agg #[.int .i64 kd,.string tx,.slice z1 l1 m1,.slice z2 l2 m2,.int .i64 at'],.int .i64 st,.agg #[.int .i64 r.err,.int .i64 pl,.int .i64 0]]) ∧
 (r.err=0→kd=r.kind∧tx=r.text∧at'=(a:Int)∧st=(r.stop:Int)∧pl=0∧l1=r.lit.shape.length∧l2=r.lit.cells.length∧ArIn 1 w.heap.size w' r.lit (.agg #[.slice z1 l1 m1,.slice z2 l2 m2]))∧(¬ r.err=0→pl=(r.ea:Int))
theorem nilA_in (n lo:Nat) (w:World):ArIn (n+1) lo w nilA (.agg #[.slice none 0 0,.slice none 0 0]):=arIn_mk (x:=nilA) (row_nil _ _ _) (by simp [nilA,Ar.cells]) (Or.inl rfl) rfl rfl
theorem GvO.bad {r:Wd1} {a:Nat} {w w':World} {kd at' st er pl:Int} {tx:ByteArray} {z1 z2:Option Addr} {l1 m1 l2 m2:Nat} (hb:Below w.heap.size w w') (he:r.err=er) (h0:¬ er=0) (hp:pl=(r.ea:Int)) :
  GvO r a w (.returned (.tuple #[.agg #[.int .i64 kd,.string tx,.slice z1 l1 m1,.slice z2 l2 m2,.int .i64 at'],.int .i64 st,.agg #[.int .i64 er,.int .i64 pl,.int .i64 0]])) w' :=
 ⟨hb,kd,tx,z1,z2,l1,m1,l2,m2,at',st,pl,by rw [he],fun h=>absurd (he ▸ h) h0,fun _=>hp⟩
theorem GvO.good {r:Wd1} {a:Nat} {w w':World} {kd st:Int} {tx:ByteArray} {z1 z2:Option Addr} {l1 m1 l2 m2:Nat} (hb:Below w.heap.size w w') (he:r.err=0) (hk:kd=r.kind) (ht:tx=r.text) (hs:st=(r.stop:Int)) (h1:l1=r.lit.shape.length) (h2:l2=r.lit.cells.length) (hin:ArIn 1 w.heap.size w' r.lit (.agg #[.slice z1 l1 m1,.slice z2 l2 m2])) :
  GvO r a w (.returned (.tuple #[.agg #[.int .i64 kd,.string tx,.slice z1 l1 m1,.slice z2 l2 m2,.int .i64 (a:Int)],.int .i64 st,.agg #[.int .i64 0,.int .i64 0,.int .i64 0]])) w' :=
 ⟨hb,kd,tx,z1,z2,l1,m1,l2,m2,a,st,0,by rw [he],fun _=>⟨hk,ht,rfl,hs,rfl,h1,h2,hin⟩,fun h=>absurd he h⟩
theorem w9drew (W:World):Below W.heap.size W W.drew:=(Below.refl _ _).drew
theorem fxD_mem {l:List Int} {L:List ByteArray} {t:ByteArray} (h:fxD l L=some t):t ∈ L:=List.mem_of_find?_eq_some h
theorem fixD_size {l:List Int} {k:Int} {t:ByteArray} (h:fixD l=some (k,t)):t.size≤8192:=by
 have hh:∀ L:List ByteArray,(∀ t ∈ L,t.size≤8192)→∀ t,fxD l L=some t→t.size≤8192:=fun L hL t ht=>hL t (fxD_mem ht)
 unfold fixD at h
 split at h
 ·rename_i u hu; cases h; exact hh fxL0 (by decide) _ hu
 ·split at h
  ·rename_i u hu; cases h; exact hh fxL1 (by decide) _ hu
  ·split at h
   ·rename_i u hu; cases h; exact hh fxL2 (by decide) _ hu
   ·split at h
    ·rename_i u hu; cases h; exact hh fxL3 (by decide) _ hu
    ·split at h
     ·rename_i u hu; cases h; exact hh fxL4 (by decide) _ hu
     ·cases h
set_option maxHeartbeats 16000000 in
theorem one26 (s:ByteArray) (a:Nat) (ha:a < s.size) (hs:s.size≤8192) (w:World) :
  Calls Try.prog 26 #[.string s,.int .i64 (a:Int)] w fun e w'=>GvO (oneW s a) a w e w':=by
 obtain ⟨W2,hW2⟩:∃ W2,(w.alloc (.cells #[.int .i64 0,.string ⟨#[]⟩,.slice none 0 0,.slice none 0 0,.int .i64 0] 43)).alloc (.cells #[.int .i64 0,.int .i64 0,.int .i64 0] 28)=W2:=⟨_,rfl⟩
 have hs1:(w.alloc (.cells #[.int .i64 0,.string ⟨#[]⟩,.slice none 0 0,.slice none 0 0,.int .i64 0] 43)).heap.size=w.heap.size+1:=by simp
 have b2:Below w.heap.size w W2:=by rw [←hW2]; exact two_allocs _ _ _
 have s2:W2.heap.size=w.heap.size+2:=by rw [←hW2]; simp
 have R2:Cs W2 w.heap.size [.int .i64 0,.string ⟨#[]⟩,.slice none 0 0,.slice none 0 0,.int .i64 0]:=by
  rw [←hW2]
  exact (Cs.new w [.int .i64 0,.string ⟨#[]⟩,.slice none 0 0,.slice none 0 0,.int .i64 0] 43).next (one_alloc _ _) (by simp)
 have F2:Cs W2 (w.heap.size+1) [.int .i64 0,.int .i64 0,.int .i64 0]:=by
  have h:=Cs.new (w.alloc (.cells #[.int .i64 0,.string ⟨#[]⟩,.slice none 0 0,.slice none 0 0,.int .i64 0] 43)) [.int .i64 0,.int .i64 0,.int .i64 0] 28
  rw [hs1] at h
  rw [←hW2]
  exact h
 have HB2:=hide b2
 have HS2:=hide s2
 have HR2:=hide R2
 have HF2:=hide F2
 have HW2:=hide hW2
 have hmin:numsS ⟨#[194,175]⟩=minL:=by decide
 have HSG:=hide (sign45 s a (by omega) (by omega) W2)
 have HBE:=hide (fun W=>begins46 s ⟨#[194,175]⟩ a (by omega) (by omega) (by decide) W)
 have HST:=hide (fun hb W=>strand47 s ⟨#[194,175]⟩ a (by omega) hs (by decide) hb W)
 have HQU:=hide (fun W=>quoted48 s a ha hs W)
 have HLE:=hide (fun W=>letter49 (byt s a) W)
 have HWO:=hide (fun W=>word50 s a ha hs W)
 have HFI:=hide (fun W=>fixed51 s a (by omega) hs W)
 have HX:=hide (fun W=>byt_run s a ha W)
 rw [hmin] at HBE HST
 obtain ⟨r,hr⟩:∃ r,oneW s a=r:=⟨_,rfl⟩
 have HR:=hide hr
 rw [hr]
 unfold oneW at HR
 have hbnd:a≤8192:=by omega
 clear hW2 hs1 b2 s2 R2 F2 hr ha hs hmin
 go_enter Try.func26,Try.ntmps26
 go_upto_region 1 with fail
 rw [HW2.out]
 clear HW2
 generalize oneN ((numsS s).drop a)=on at *
 generalize hok:oneK ((numsS s).drop a)=ok at *
 go_wp2_with fail
 refine HSG.out.mono ?_
 rintro e U ⟨rfl,hbu⟩
 have HBU:=hide hbu
 have HBU0:=hide hbu
 clear HSG hbu
 by_cases h0:ok=0
 ·subst h0
  have HE:=hide (show r=⟨0,nilT,nilA,0,3,a⟩ by rw [←HR.out]; rw [if_pos rfl])
  clear HR HBE HST HQU HLE HWO HFI HX hok
  have hbu2:=HBU.out
  have hl2:=HS2.out
  have RU:=HR2.out.next hbu2 HR2.out.lt
  have FU:=HF2.out.next hbu2 HF2.out.lt
  have hbw:=HB2.out.trans (hbu2.mono HB2.out.size)
  have hlu:=hbu2.size
  have RX:=RU
  have FX:=FU
  have hbx:=hbw
  have hlx:U.heap.size≤U.heap.size:=Nat.le_refl _
  obtain ⟨W8,hW8⟩:∃ W8,U.setCells w.heap.size 0 [.int .i64 0,.string ⟨#[]⟩,.slice none 0 0,.slice none 0 0,.int .i64 0]=W8:=⟨_,rfl⟩
  have HW8:Hid (U.setCells w.heap.size 0 (#[.int .i64 0,.string ⟨#[]⟩,.slice none 0 0,.slice none 0 0,.int .i64 0]:Array Value).toList=W8):=hW8
  obtain ⟨C8,B8⟩:=RX.put (us:=[.int .i64 0,.string ⟨#[]⟩,.slice none 0 0,.slice none 0 0,.int .i64 0]) (by simp) hW8
  have F8:=FX.but B8 (by omega)
  obtain ⟨W9,hW9⟩:∃ W9,W8.setCells (w.heap.size+1) 0 [.int .i64 3,.int .i64 (a:Int),.int .i64 0]=W9:=⟨_,rfl⟩
  have HW9:Hid (W8.setCells (w.heap.size+1) 0 (#[.int .i64 3,.int .i64 (a:Int),.int .i64 0]:Array Value).toList=W9):=hW9
  obtain ⟨C9,B9⟩:=F8.put (us:=[.int .i64 3,.int .i64 (a:Int),.int .i64 0]) (by simp) hW9
  have D9:=C8.but B9 (by omega)
  have HTH8:=hide (RX.there (n:=5) (by simp))
  have HTH9:=hide (F8.there (n:=3) (by simp))
  have HC9:=hide C9
  have HD9:=hide D9
  have HB9:=hide ((hbx.trans (B8.below hbx.size fun k hk=>by omega)).trans (B9.below (by have:=hbx.size; have:=B8.size; omega) fun k hk=>by omega))
  clear RU FU hbw RX FX hbx C8 B8 F8 C9 B9 D9 hW8 hW9 HBU hbu2 hlx hlu
  go_wp2_with (first | (refine wpList_store_mid rfl 43 (.tmp 4) (.tmp 24) rfl w.heap.size 0 #[.int .i64 0,.string ⟨#[]⟩,.slice none 0 0,.slice none 0 0,.int .i64 0] rfl rfl HTH8.out (by kernel_rfl) (by simp [Value.oneCell']) ?_; rw [HW8.out]) | (refine wpList_store_mid rfl 28 (.tmp 6) (.tmp 27) rfl (w.heap.size+1) 0 #[.int .i64 3,.int .i64 (a:Int),.int .i64 0] rfl rfl HTH9.out (by kernel_rfl) (by simp [Value.oneCell']) ?_; rw [HW9.out]))
  have r0:=HD9.out.c 0 _ rfl
  have r1:=HD9.out.c 1 _ rfl
  have r2:=HD9.out.c 2 _ rfl
  have r3:=HD9.out.c 3 _ rfl
  have r4:=HD9.out.c 4 _ rfl
  have q0:=HC9.out.c 0 _ rfl
  have q1:=HC9.out.c 1 _ rfl
  have q2:=HC9.out.c 2 _ rfl
  exact bodyPost_ret (v:=.tuple #[.agg #[.int .i64 0,.string ⟨#[]⟩,.slice none 0 0,.slice none 0 0,.int .i64 0],.int .i64 ((a:Int)),.agg #[.int .i64 3,.int .i64 (a:Int),.int .i64 0]]) (by simp [results,Try.results26,go_sem,r0,r1,r2,r3,r4,q0,q1,q2]) rfl (by rw [HE.out]; exact GvO.bad HB9.out rfl (by decide) rfl)
 ·have hk0:((ok:Int) == 0)=false:=beq_eq_false_iff_ne.2 (by omega)
  rw [if_neg h0] at HR
  clear hok
  have HBE1:=hide (HBE.out U)
  clear HBE
  cases hbg:begD minL ((numsS s).drop a) with
  | true =>
   rw [hbg] at HBE1 HR
   simp only [if_true] at HR
   have HST1:=hide (HST.out hbg U)
   clear HST HQU HLE HWO HFI HX hbg
   go_wp2_with fail
   refine HBE1.out.mono ?_
   rintro e w1 ⟨rfl,rfl⟩
   clear HBE1
   go_wp2_with fail
   refine HST1.out.mono ?_
   rintro e w3 ⟨hb3,hT⟩
   have HBU:=hide (HBU.out.trans (hb3.mono HBU.out.size))
   have HTT:=hide hT
   have HLO:=hide (show w.heap.size+2≤w1.heap.size by have:=HS2.out; have:=HBU0.out.size; omega)
   clear HST1 hb3 hT
   obtain ⟨T,hT⟩:∃ T,SD minL ((numsS s).drop a)=T:=⟨_,rfl⟩
   rw [hT] at HTT HR
   clear hT
   obtain ⟨xs,st,bd⟩:=T
   cases bd with
   | some j =>
    obtain rfl:=HTT.out
    have HE:=hide (show r=⟨1,nilT,nilA,0,2,a+j⟩ from HR.out.symm)
    clear HR HTT
    have hbu2:=HBU.out
    have hl2:=HS2.out
    have RU:=HR2.out.next hbu2 HR2.out.lt
    have FU:=HF2.out.next hbu2 HF2.out.lt
    have hbw:=HB2.out.trans (hbu2.mono HB2.out.size)
    have hlu:=hbu2.size
    obtain ⟨X,hX⟩:∃ X,w3.alloc (.cells #[.int .i64 1,.string ⟨#[]⟩,.slice none 0 0,.slice none 0 0,.int .i64 (a:Int)] 43)=X:=⟨_,rfl⟩
    have bq:Below w3.heap.size w3 X:=by rw [←hX]; exact one_alloc _ _
    have DX:Cs X w3.heap.size [.int .i64 1,.string ⟨#[]⟩,.slice none 0 0,.slice none 0 0,.int .i64 (a:Int)]:=by rw [←hX]; exact Cs.new w3 [.int .i64 1,.string ⟨#[]⟩,.slice none 0 0,.slice none 0 0,.int .i64 (a:Int)] 43
    have RX:=RU.next bq (by omega)
    have FX:=FU.next bq (by omega)
    have hbx:=hbw.trans (bq.mono hbw.size)
    have hlx:=bq.size
    have c0:=DX.c 0 _ rfl
    have c1:=DX.c 1 _ rfl
    have c2:=DX.c 2 _ rfl
    have c3:=DX.c 3 _ rfl
    have c4:=DX.c 4 _ rfl
    obtain ⟨W8,hW8⟩:∃ W8,X.setCells w.heap.size 0 [.int .i64 1,.string ⟨#[]⟩,.slice none 0 0,.slice none 0 0,.int .i64 (a:Int)]=W8:=⟨_,rfl⟩
    have HW8:Hid (X.setCells w.heap.size 0 (#[.int .i64 1,.string ⟨#[]⟩,.slice none 0 0,.slice none 0 0,.int .i64 (a:Int)]:Array Value).toList=W8):=hW8
    obtain ⟨C8,B8⟩:=RX.put (us:=[.int .i64 1,.string ⟨#[]⟩,.slice none 0 0,.slice none 0 0,.int .i64 (a:Int)]) (by simp) hW8
    have F8:=FX.but B8 (by omega)
    obtain ⟨W9,hW9⟩:∃ W9,W8.setCells (w.heap.size+1) 0 [.int .i64 2,.int .i64 ((a+j:Nat):Int),.int .i64 0]=W9:=⟨_,rfl⟩
    have HW9:Hid (W8.setCells (w.heap.size+1) 0 (#[.int .i64 2,.int .i64 ((a+j:Nat):Int),.int .i64 0]:Array Value).toList=W9):=hW9
    obtain ⟨C9,B9⟩:=F8.put (us:=[.int .i64 2,.int .i64 ((a+j:Nat):Int),.int .i64 0]) (by simp) hW9
    have D9:=C8.but B9 (by omega)
    have HTH8:=hide (RX.there (n:=5) (by simp))
    have HTH9:=hide (F8.there (n:=3) (by simp))
    have HC9:=hide C9
    have HD9:=hide D9
    have HB9:=hide ((hbx.trans (B8.below hbx.size fun k hk=>by omega)).trans (B9.below (by have:=hbx.size; have:=B8.size; omega) fun k hk=>by omega))
    clear RU FU hbw RX FX hbx C8 B8 F8 C9 B9 D9 hW8 hW9 HBU hbu2 hlx hlu bq DX
    go_wp2_with (first | (refine wpList_store_mid rfl 43 (.tmp 4) (.tmp 40) rfl w.heap.size 0 #[.int .i64 1,.string ⟨#[]⟩,.slice none 0 0,.slice none 0 0,.int .i64 (a:Int)] rfl rfl HTH8.out (by kernel_rfl) (by simp [Value.oneCell']) ?_; rw [HW8.out]) | (refine wpList_store_mid rfl 28 (.tmp 6) (.tmp 43) rfl (w.heap.size+1) 0 #[.int .i64 2,.int .i64 ((a+j:Nat):Int),.int .i64 0] rfl rfl HTH9.out (by kernel_rfl) (by simp [Value.oneCell']) ?_; rw [HW9.out]))
    have r0:=HD9.out.c 0 _ rfl
    have r1:=HD9.out.c 1 _ rfl
    have r2:=HD9.out.c 2 _ rfl
    have r3:=HD9.out.c 3 _ rfl
    have r4:=HD9.out.c 4 _ rfl
    have q0:=HC9.out.c 0 _ rfl
    have q1:=HC9.out.c 1 _ rfl
    have q2:=HC9.out.c 2 _ rfl
    exact bodyPost_ret (v:=.tuple #[.agg #[.int .i64 1,.string ⟨#[]⟩,.slice none 0 0,.slice none 0 0,.int .i64 (a:Int)],.int .i64 (((a+j:Nat):Int)),.agg #[.int .i64 2,.int .i64 ((a+j:Nat):Int),.int .i64 0]]) (by simp [results,Try.results26,go_sem,r0,r1,r2,r3,r4,q0,q1,q2]) rfl (by rw [HE.out]; exact GvO.bad HB9.out rfl (by decide) rfl)
   | none =>
    obtain ⟨z1,m1,z2,m2,rfl,hin⟩:=HTT.out
    have HE:=hide (show r=⟨1,nilT,litD xs,a+st,0,0⟩ from HR.out.symm)
    have HIN:=hide hin
    obtain ⟨l1,hl1⟩:∃ l1,(litD xs).shape.length=l1:=⟨_,rfl⟩
    obtain ⟨l2,hl2⟩:∃ l2,(litD xs).cells.length=l2:=⟨_,rfl⟩
    have HL1:=hide hl1
    have HL2:=hide hl2
    simp only [hl1,hl2] at HIN ⊢
    clear HR HTT hin hl1 hl2
    have hbu2:=HBU.out
    have hl2:=HS2.out
    have RU:=HR2.out.next hbu2 HR2.out.lt
    have FU:=HF2.out.next hbu2 HF2.out.lt
    have hbw:=HB2.out.trans (hbu2.mono HB2.out.size)
    have hlu:=hbu2.size
    obtain ⟨X,hX⟩:∃ X,w3.alloc (.cells #[.int .i64 1,.string ⟨#[]⟩,.slice z1 l1 m1,.slice z2 l2 m2,.int .i64 (a:Int)] 43)=X:=⟨_,rfl⟩
    have bq:Below w3.heap.size w3 X:=by rw [←hX]; exact one_alloc _ _
    have DX:Cs X w3.heap.size [.int .i64 1,.string ⟨#[]⟩,.slice z1 l1 m1,.slice z2 l2 m2,.int .i64 (a:Int)]:=by rw [←hX]; exact Cs.new w3 [.int .i64 1,.string ⟨#[]⟩,.slice z1 l1 m1,.slice z2 l2 m2,.int .i64 (a:Int)] 43
    have RX:=RU.next bq (by omega)
    have FX:=FU.next bq (by omega)
    have hbx:=hbw.trans (bq.mono hbw.size)
    have hlx:=bq.size
    have c0:=DX.c 0 _ rfl
    have c1:=DX.c 1 _ rfl
    have c2:=DX.c 2 _ rfl
    have c3:=DX.c 3 _ rfl
    have c4:=DX.c 4 _ rfl
    obtain ⟨W8,hW8⟩:∃ W8,X.setCells w.heap.size 0 [.int .i64 1,.string ⟨#[]⟩,.slice z1 l1 m1,.slice z2 l2 m2,.int .i64 (a:Int)]=W8:=⟨_,rfl⟩
    have HW8:Hid (X.setCells w.heap.size 0 (#[.int .i64 1,.string ⟨#[]⟩,.slice z1 l1 m1,.slice z2 l2 m2,.int .i64 (a:Int)]:Array Value).toList=W8):=hW8
    obtain ⟨C8,B8⟩:=RX.put (us:=[.int .i64 1,.string ⟨#[]⟩,.slice z1 l1 m1,.slice z2 l2 m2,.int .i64 (a:Int)]) (by simp) hW8
    have F8:=FX.but B8 (by omega)
    obtain ⟨W9,hW9⟩:∃ W9,W8.setCells (w.heap.size+1) 0 [.int .i64 0,.int .i64 0,.int .i64 0]=W9:=⟨_,rfl⟩
    have HW9:Hid (W8.setCells (w.heap.size+1) 0 (#[.int .i64 0,.int .i64 0,.int .i64 0]:Array Value).toList=W9):=hW9
    obtain ⟨C9,B9⟩:=F8.put (us:=[.int .i64 0,.int .i64 0,.int .i64 0]) (by simp) hW9
    have D9:=C8.but B9 (by omega)
    have HTH8:=hide (RX.there (n:=5) (by simp))
    have HTH9:=hide (F8.there (n:=3) (by simp))
    have HC9:=hide C9
    have HD9:=hide D9
    have HB9:=hide ((hbx.trans (B8.below hbx.size fun k hk=>by omega)).trans (B9.below (by have:=hbx.size; have:=B8.size; omega) fun k hk=>by omega))
    have HINN:Hid (ArIn 1 w.heap.size W9 (litD xs) (.agg #[.slice z1 l1 m1,.slice z2 l2 m2])):=arIn_low (((HIN.out.next bq).keeps (but_keeps B8 (by have:=HLO.out; omega))).keeps (but_keeps B9 (by have:=HLO.out; omega))) (by have:=HLO.out; omega)
    clear RU FU hbw RX FX hbx C8 B8 F8 C9 B9 D9 hW8 hW9 HBU hbu2 hlx hlu bq DX
    go_wp2_with (first | (refine wpList_store_mid rfl 43 (.tmp 4) (.tmp 44) rfl w.heap.size 0 #[.int .i64 1,.string ⟨#[]⟩,.slice z1 l1 m1,.slice z2 l2 m2,.int .i64 (a:Int)] rfl rfl HTH8.out (by kernel_rfl) (by simp [Value.oneCell']) ?_; rw [HW8.out]) | (refine wpList_store_mid rfl 28 (.tmp 6) (.tmp 46) rfl (w.heap.size+1) 0 #[.int .i64 0,.int .i64 0,.int .i64 0] rfl rfl HTH9.out (by kernel_rfl) (by simp [Value.oneCell']) ?_; rw [HW9.out]))
    have r0:=HD9.out.c 0 _ rfl
    have r1:=HD9.out.c 1 _ rfl
    have r2:=HD9.out.c 2 _ rfl
    have r3:=HD9.out.c 3 _ rfl
    have r4:=HD9.out.c 4 _ rfl
    have q0:=HC9.out.c 0 _ rfl
    have q1:=HC9.out.c 1 _ rfl
    have q2:=HC9.out.c 2 _ rfl
    exact bodyPost_ret (v:=.tuple #[.agg #[.int .i64 1,.string ⟨#[]⟩,.slice z1 l1 m1,.slice z2 l2 m2,.int .i64 (a:Int)],.int .i64 (((a+st:Nat):Int)),.agg #[.int .i64 0,.int .i64 0,.int .i64 0]]) (by simp [results,Try.results26,go_sem,r0,r1,r2,r3,r4,q0,q1,q2]) rfl (by rw [HE.out]; exact GvO.good HB9.out rfl rfl rfl rfl HL1.out.symm HL2.out.symm HINN.out)
  | false =>
   rw [hbg] at HBE1 HR
   simp only [Bool.false_eq_true,if_false] at HR
   clear HST hbg
   have hx:=HX.out
   clear HX
   by_cases h39:byt s a=39
   ·rw [if_pos h39] at HR
    rw [h39] at hx
    have HQ1:=hide (HQU.out U)
    clear HQU HLE HWO HFI h39
    go_wp2_with fail
    refine HBE1.out.mono ?_
    rintro e w1 ⟨rfl,rfl⟩
    clear HBE1
    go_wp2_with fail
    refine HQ1.out.mono ?_
    rintro e w3 ⟨hb3,hT⟩
    have HBU:=hide (HBU.out.trans (hb3.mono HBU.out.size))
    have HTT:=hide hT
    have HLO:=hide (show w.heap.size+2≤w1.heap.size by have:=HS2.out; have:=HBU0.out.size; omega)
    clear HQ1 hb3 hT
    obtain ⟨T,hT⟩:∃ T,QD ((numsS s).drop (a+1))=T:=⟨_,rfl⟩
    rw [hT] at HTT HR
    clear hT
    obtain ⟨xs,st,er⟩:=T
    by_cases he0:er=0
    ·subst he0
     have hq:=HTT.out
     rw [if_pos rfl] at hq
     obtain ⟨z1,m1,z2,m2,rfl,hin⟩:=hq
     have HE:=hide (show r=⟨2,nilT,textA xs,a+1+st+1,0,0⟩ from HR.out.symm)
     have HIN:=hide hin
     obtain ⟨l1,hl1⟩:∃ l1,(textA xs).shape.length=l1:=⟨_,rfl⟩
     obtain ⟨l2,hl2⟩:∃ l2,(textA xs).cells.length=l2:=⟨_,rfl⟩
     have HL1:=hide hl1
     have HL2:=hide hl2
     simp only [hl1,hl2] at HIN ⊢
     clear HR HTT hin hl1 hl2
     have hbu2:=HBU.out
     have hl2:=HS2.out
     have RU:=HR2.out.next hbu2 HR2.out.lt
     have FU:=HF2.out.next hbu2 HF2.out.lt
     have hbw:=HB2.out.trans (hbu2.mono HB2.out.size)
     have hlu:=hbu2.size
     have RX:=RU
     have FX:=FU
     have hbx:=hbw
     have hlx:w3.heap.size≤w3.heap.size:=Nat.le_refl _
     obtain ⟨W8,hW8⟩:∃ W8,w3.setCells w.heap.size 0 [.int .i64 2,.string ⟨#[]⟩,.slice z1 l1 m1,.slice z2 l2 m2,.int .i64 (a:Int)]=W8:=⟨_,rfl⟩
     have HW8:Hid (w3.setCells w.heap.size 0 (#[.int .i64 2,.string ⟨#[]⟩,.slice z1 l1 m1,.slice z2 l2 m2,.int .i64 (a:Int)]:Array Value).toList=W8):=hW8
     obtain ⟨C8,B8⟩:=RX.put (us:=[.int .i64 2,.string ⟨#[]⟩,.slice z1 l1 m1,.slice z2 l2 m2,.int .i64 (a:Int)]) (by simp) hW8
     have F8:=FX.but B8 (by omega)
     obtain ⟨W9,hW9⟩:∃ W9,W8.setCells (w.heap.size+1) 0 [.int .i64 0,.int .i64 0,.int .i64 0]=W9:=⟨_,rfl⟩
     have HW9:Hid (W8.setCells (w.heap.size+1) 0 (#[.int .i64 0,.int .i64 0,.int .i64 0]:Array Value).toList=W9):=hW9
     obtain ⟨C9,B9⟩:=F8.put (us:=[.int .i64 0,.int .i64 0,.int .i64 0]) (by simp) hW9
     have D9:=C8.but B9 (by omega)
     have HTH8:=hide (RX.there (n:=5) (by simp))
     have HTH9:=hide (F8.there (n:=3) (by simp))
     have HC9:=hide C9
     have HD9:=hide D9
     have HB9:=hide ((hbx.trans (B8.below hbx.size fun k hk=>by omega)).trans (B9.below (by have:=hbx.size; have:=B8.size; omega) fun k hk=>by omega))
     have HINN:Hid (ArIn 1 w.heap.size W9 (textA xs) (.agg #[.slice z1 l1 m1,.slice z2 l2 m2])):=arIn_low (((HIN.out).keeps (but_keeps B8 (by have:=HLO.out; omega))).keeps (but_keeps B9 (by have:=HLO.out; omega))) (by have:=HLO.out; omega)
     clear RU FU hbw RX FX hbx C8 B8 F8 C9 B9 D9 hW8 hW9 HBU hbu2 hlx hlu
     go_wp2_with (first | (refine wpList_store_mid rfl 43 (.tmp 4) (.tmp 54) rfl w.heap.size 0 #[.int .i64 2,.string ⟨#[]⟩,.slice z1 l1 m1,.slice z2 l2 m2,.int .i64 (a:Int)] rfl rfl HTH8.out (by kernel_rfl) (by simp [Value.oneCell']) ?_; rw [HW8.out]) | (refine wpList_store_mid rfl 28 (.tmp 6) (.tmp 56) rfl (w.heap.size+1) 0 #[.int .i64 0,.int .i64 0,.int .i64 0] rfl rfl HTH9.out (by kernel_rfl) (by simp [Value.oneCell']) ?_; rw [HW9.out]))
     have r0:=HD9.out.c 0 _ rfl
     have r1:=HD9.out.c 1 _ rfl
     have r2:=HD9.out.c 2 _ rfl
     have r3:=HD9.out.c 3 _ rfl
     have r4:=HD9.out.c 4 _ rfl
     have q0:=HC9.out.c 0 _ rfl
     have q1:=HC9.out.c 1 _ rfl
     have q2:=HC9.out.c 2 _ rfl
     exact bodyPost_ret (v:=.tuple #[.agg #[.int .i64 2,.string ⟨#[]⟩,.slice z1 l1 m1,.slice z2 l2 m2,.int .i64 (a:Int)],.int .i64 (((a+1+st:Nat)+1:Int)),.agg #[.int .i64 0,.int .i64 0,.int .i64 0]]) (by simp [results,Try.results26,go_sem,r0,r1,r2,r3,r4,q0,q1,q2]) rfl (by rw [HE.out]; exact GvO.good HB9.out rfl rfl rfl rfl HL1.out.symm HL2.out.symm HINN.out)
    ·have hq:=HTT.out
     rw [if_neg he0] at hq
     obtain ⟨pl,rfl,hpl⟩:=hq
     have HE:=hide (show r=⟨2,nilT,nilA,0,if er=-1 then 2 else er,if er=-1 then a else a+1+st⟩ by rw [←HR.out]; rw [if_neg he0])
     have HPL:=hide hpl
     have HE0:=hide (show ¬ (if er=-1 then (2:Int) else er)=0 by split <;> omega)
     clear HR HTT hpl he0
     generalize hER:(if er=-1 then (2:Int) else er)=ER at *
     generalize hPP:(if er=-1 then a else a+1+st)=PP at *
     clear hER hPP
     have hbu2:=HBU.out
     have hl2:=HS2.out
     have RU:=HR2.out.next hbu2 HR2.out.lt
     have FU:=HF2.out.next hbu2 HF2.out.lt
     have hbw:=HB2.out.trans (hbu2.mono HB2.out.size)
     have hlu:=hbu2.size
     have RX:=RU
     have FX:=FU
     have hbx:=hbw
     have hlx:w3.heap.size≤w3.heap.size:=Nat.le_refl _
     obtain ⟨W8,hW8⟩:∃ W8,w3.setCells w.heap.size 0 [.int .i64 2,.string ⟨#[]⟩,.slice none 0 0,.slice none 0 0,.int .i64 (a:Int)]=W8:=⟨_,rfl⟩
     have HW8:Hid (w3.setCells w.heap.size 0 (#[.int .i64 2,.string ⟨#[]⟩,.slice none 0 0,.slice none 0 0,.int .i64 (a:Int)]:Array Value).toList=W8):=hW8
     obtain ⟨C8,B8⟩:=RX.put (us:=[.int .i64 2,.string ⟨#[]⟩,.slice none 0 0,.slice none 0 0,.int .i64 (a:Int)]) (by simp) hW8
     have F8:=FX.but B8 (by omega)
     obtain ⟨W9,hW9⟩:∃ W9,W8.setCells (w.heap.size+1) 0 [.int .i64 ER,.int .i64 (pl:Int),.int .i64 0]=W9:=⟨_,rfl⟩
     have HW9:Hid (W8.setCells (w.heap.size+1) 0 (#[.int .i64 ER,.int .i64 (pl:Int),.int .i64 0]:Array Value).toList=W9):=hW9
     obtain ⟨C9,B9⟩:=F8.put (us:=[.int .i64 ER,.int .i64 (pl:Int),.int .i64 0]) (by simp) hW9
     have D9:=C8.but B9 (by omega)
     have HTH8:=hide (RX.there (n:=5) (by simp))
     have HTH9:=hide (F8.there (n:=3) (by simp))
     have HC9:=hide C9
     have HD9:=hide D9
     have HB9:=hide ((hbx.trans (B8.below hbx.size fun k hk=>by omega)).trans (B9.below (by have:=hbx.size; have:=B8.size; omega) fun k hk=>by omega))
     clear RU FU hbw RX FX hbx C8 B8 F8 C9 B9 D9 hW8 hW9 HBU hbu2 hlx hlu
     go_wp2_with (first | (refine wpList_store_mid rfl 43 (.tmp 4) (.tmp 54) rfl w.heap.size 0 #[.int .i64 2,.string ⟨#[]⟩,.slice none 0 0,.slice none 0 0,.int .i64 (a:Int)] rfl rfl HTH8.out (by kernel_rfl) (by simp [Value.oneCell']) ?_; rw [HW8.out]) | (refine wpList_store_mid rfl 28 (.tmp 6) (.tmp 56) rfl (w.heap.size+1) 0 #[.int .i64 ER,.int .i64 (pl:Int),.int .i64 0] rfl rfl HTH9.out (by kernel_rfl) (by simp [Value.oneCell']) ?_; rw [HW9.out]))
     have r0:=HD9.out.c 0 _ rfl
     have r1:=HD9.out.c 1 _ rfl
     have r2:=HD9.out.c 2 _ rfl
     have r3:=HD9.out.c 3 _ rfl
     have r4:=HD9.out.c 4 _ rfl
     have q0:=HC9.out.c 0 _ rfl
     have q1:=HC9.out.c 1 _ rfl
     have q2:=HC9.out.c 2 _ rfl
     exact bodyPost_ret (v:=.tuple #[.agg #[.int .i64 2,.string ⟨#[]⟩,.slice none 0 0,.slice none 0 0,.int .i64 (a:Int)],.int .i64 (((a+1+st:Nat):Int)),.agg #[.int .i64 ER,.int .i64 (pl:Int),.int .i64 0]]) (by simp [results,Try.results26,go_sem,r0,r1,r2,r3,r4,q0,q1,q2]) rfl (by rw [HE.out]; exact GvO.bad HB9.out rfl HE0.out (by rw [HPL.out]))
   ·rw [if_neg h39] at HR
    have h39':(byt s a == 39)=false:=beq_eq_false_iff_ne.2 h39
    have HLE1:=hide (HLE.out U)
    clear HQU HLE h39
    cases hlt:ltB (byt s a) with
    | true =>
     rw [hlt] at HLE1 HR
     simp only [if_true] at HR
     have HW1:=hide (HWO.out U)
     clear HWO HFI hlt
     generalize byt s a=ch at *
     go_wp2_with fail
     refine HBE1.out.mono ?_
     rintro e w1 ⟨rfl,rfl⟩
     clear HBE1
     go_wp2_with fail
     refine HLE1.out.mono ?_
     rintro e w1 ⟨rfl,rfl⟩
     clear HLE1
     go_wp2_with fail
     refine HW1.out.mono ?_
     rintro e w3 ⟨rfl,hb3⟩
     have HBU:=hide (HBU.out.trans (hb3.mono HBU.out.size))
     clear HW1 hb3
     generalize wrdE s a=we at *
     generalize cutS s a we=CS at *
     by_cases h8:8 < CS.size
     ·have HE:=hide (show r=⟨3,nilT,nilA,0,2,a⟩ by rw [←HR.out]; rw [if_pos h8])
      have h8':(8:Int) < (CS.size:Int):=by omega
      clear HR h8
      have hbu2:=HBU.out
      have hl2:=HS2.out
      have RU:=HR2.out.next hbu2 HR2.out.lt
      have FU:=HF2.out.next hbu2 HF2.out.lt
      have hbw:=HB2.out.trans (hbu2.mono HB2.out.size)
      have hlu:=hbu2.size
      obtain ⟨X,hX⟩:∃ X,w3.alloc (.cells #[.int .i64 3,.string CS,.slice none 0 0,.slice none 0 0,.int .i64 (a:Int)] 43)=X:=⟨_,rfl⟩
      have bq:Below w3.heap.size w3 X:=by rw [←hX]; exact one_alloc _ _
      have DX:Cs X w3.heap.size [.int .i64 3,.string CS,.slice none 0 0,.slice none 0 0,.int .i64 (a:Int)]:=by rw [←hX]; exact Cs.new w3 [.int .i64 3,.string CS,.slice none 0 0,.slice none 0 0,.int .i64 (a:Int)] 43
      have RX:=RU.next bq (by omega)
      have FX:=FU.next bq (by omega)
      have hbx:=hbw.trans (bq.mono hbw.size)
      have hlx:=bq.size
      have c0:=DX.c 0 _ rfl
      have c1:=DX.c 1 _ rfl
      have c2:=DX.c 2 _ rfl
      have c3:=DX.c 3 _ rfl
      have c4:=DX.c 4 _ rfl
      obtain ⟨W8,hW8⟩:∃ W8,X.setCells w.heap.size 0 [.int .i64 3,.string CS,.slice none 0 0,.slice none 0 0,.int .i64 (a:Int)]=W8:=⟨_,rfl⟩
      have HW8:Hid (X.setCells w.heap.size 0 (#[.int .i64 3,.string CS,.slice none 0 0,.slice none 0 0,.int .i64 (a:Int)]:Array Value).toList=W8):=hW8
      obtain ⟨C8,B8⟩:=RX.put (us:=[.int .i64 3,.string CS,.slice none 0 0,.slice none 0 0,.int .i64 (a:Int)]) (by simp) hW8
      have F8:=FX.but B8 (by omega)
      obtain ⟨W9,hW9⟩:∃ W9,W8.setCells (w.heap.size+1) 0 [.int .i64 2,.int .i64 (a:Int),.int .i64 0]=W9:=⟨_,rfl⟩
      have HW9:Hid (W8.setCells (w.heap.size+1) 0 (#[.int .i64 2,.int .i64 (a:Int),.int .i64 0]:Array Value).toList=W9):=hW9
      obtain ⟨C9,B9⟩:=F8.put (us:=[.int .i64 2,.int .i64 (a:Int),.int .i64 0]) (by simp) hW9
      have D9:=C8.but B9 (by omega)
      have HTH8:=hide (RX.there (n:=5) (by simp))
      have HTH9:=hide (F8.there (n:=3) (by simp))
      have HC9:=hide C9
      have HD9:=hide D9
      have HB9:=hide ((hbx.trans (B8.below hbx.size fun k hk=>by omega)).trans (B9.below (by have:=hbx.size; have:=B8.size; omega) fun k hk=>by omega))
      clear RU FU hbw RX FX hbx C8 B8 F8 C9 B9 D9 hW8 hW9 HBU hbu2 hlx hlu bq DX
      go_wp2_with (first | (refine wpList_store_mid rfl 43 (.tmp 4) (.tmp 71) rfl w.heap.size 0 #[.int .i64 3,.string CS,.slice none 0 0,.slice none 0 0,.int .i64 (a:Int)] rfl rfl HTH8.out (by kernel_rfl) (by simp [Value.oneCell']) ?_; rw [HW8.out]) | (refine wpList_store_mid rfl 28 (.tmp 6) (.tmp 74) rfl (w.heap.size+1) 0 #[.int .i64 2,.int .i64 (a:Int),.int .i64 0] rfl rfl HTH9.out (by kernel_rfl) (by simp [Value.oneCell']) ?_; rw [HW9.out]))
      have r0:=HD9.out.c 0 _ rfl
      have r1:=HD9.out.c 1 _ rfl
      have r2:=HD9.out.c 2 _ rfl
      have r3:=HD9.out.c 3 _ rfl
      have r4:=HD9.out.c 4 _ rfl
      have q0:=HC9.out.c 0 _ rfl
      have q1:=HC9.out.c 1 _ rfl
      have q2:=HC9.out.c 2 _ rfl
      exact bodyPost_ret (v:=.tuple #[.agg #[.int .i64 3,.string CS,.slice none 0 0,.slice none 0 0,.int .i64 (a:Int)],.int .i64 ((we:Int)),.agg #[.int .i64 2,.int .i64 (a:Int),.int .i64 0]]) (by simp [results,Try.results26,go_sem,r0,r1,r2,r3,r4,q0,q1,q2]) rfl (by rw [HE.out]; exact GvO.bad HB9.out rfl (by decide) rfl)
     ·have HE:=hide (show r=⟨3,CS,nilA,we,0,0⟩ by rw [←HR.out]; rw [if_neg h8])
      have h8':¬ (8:Int) < (CS.size:Int):=by omega
      clear HR h8
      have hbu2:=HBU.out
      have hl2:=HS2.out
      have RU:=HR2.out.next hbu2 HR2.out.lt
      have FU:=HF2.out.next hbu2 HF2.out.lt
      have hbw:=HB2.out.trans (hbu2.mono HB2.out.size)
      have hlu:=hbu2.size
      obtain ⟨X,hX⟩:∃ X,w3.alloc (.cells #[.int .i64 3,.string CS,.slice none 0 0,.slice none 0 0,.int .i64 (a:Int)] 43)=X:=⟨_,rfl⟩
      have bq:Below w3.heap.size w3 X:=by rw [←hX]; exact one_alloc _ _
      have DX:Cs X w3.heap.size [.int .i64 3,.string CS,.slice none 0 0,.slice none 0 0,.int .i64 (a:Int)]:=by rw [←hX]; exact Cs.new w3 [.int .i64 3,.string CS,.slice none 0 0,.slice none 0 0,.int .i64 (a:Int)] 43
      have RX:=RU.next bq (by omega)
      have FX:=FU.next bq (by omega)
      have hbx:=hbw.trans (bq.mono hbw.size)
      have hlx:=bq.size
      have c0:=DX.c 0 _ rfl
      have c1:=DX.c 1 _ rfl
      have c2:=DX.c 2 _ rfl
      have c3:=DX.c 3 _ rfl
      have c4:=DX.c 4 _ rfl
      obtain ⟨W8,hW8⟩:∃ W8,X.setCells w.heap.size 0 [.int .i64 3,.string CS,.slice none 0 0,.slice none 0 0,.int .i64 (a:Int)]=W8:=⟨_,rfl⟩
      have HW8:Hid (X.setCells w.heap.size 0 (#[.int .i64 3,.string CS,.slice none 0 0,.slice none 0 0,.int .i64 (a:Int)]:Array Value).toList=W8):=hW8
      obtain ⟨C8,B8⟩:=RX.put (us:=[.int .i64 3,.string CS,.slice none 0 0,.slice none 0 0,.int .i64 (a:Int)]) (by simp) hW8
      have F8:=FX.but B8 (by omega)
      obtain ⟨W9,hW9⟩:∃ W9,W8.setCells (w.heap.size+1) 0 [.int .i64 0,.int .i64 0,.int .i64 0]=W9:=⟨_,rfl⟩
      have HW9:Hid (W8.setCells (w.heap.size+1) 0 (#[.int .i64 0,.int .i64 0,.int .i64 0]:Array Value).toList=W9):=hW9
      obtain ⟨C9,B9⟩:=F8.put (us:=[.int .i64 0,.int .i64 0,.int .i64 0]) (by simp) hW9
      have D9:=C8.but B9 (by omega)
      have HTH8:=hide (RX.there (n:=5) (by simp))
      have HTH9:=hide (F8.there (n:=3) (by simp))
      have HC9:=hide C9
      have HD9:=hide D9
      have HB9:=hide ((hbx.trans (B8.below hbx.size fun k hk=>by omega)).trans (B9.below (by have:=hbx.size; have:=B8.size; omega) fun k hk=>by omega))
      clear RU FU hbw RX FX hbx C8 B8 F8 C9 B9 D9 hW8 hW9 HBU hbu2 hlx hlu bq DX
      go_wp2_with (first | (refine wpList_store_mid rfl 43 (.tmp 4) (.tmp 75) rfl w.heap.size 0 #[.int .i64 3,.string CS,.slice none 0 0,.slice none 0 0,.int .i64 (a:Int)] rfl rfl HTH8.out (by kernel_rfl) (by simp [Value.oneCell']) ?_; rw [HW8.out]) | (refine wpList_store_mid rfl 28 (.tmp 6) (.tmp 77) rfl (w.heap.size+1) 0 #[.int .i64 0,.int .i64 0,.int .i64 0] rfl rfl HTH9.out (by kernel_rfl) (by simp [Value.oneCell']) ?_; rw [HW9.out]))
      have r0:=HD9.out.c 0 _ rfl
      have r1:=HD9.out.c 1 _ rfl
      have r2:=HD9.out.c 2 _ rfl
      have r3:=HD9.out.c 3 _ rfl
      have r4:=HD9.out.c 4 _ rfl
      have q0:=HC9.out.c 0 _ rfl
      have q1:=HC9.out.c 1 _ rfl
      have q2:=HC9.out.c 2 _ rfl
      exact bodyPost_ret (v:=.tuple #[.agg #[.int .i64 3,.string CS,.slice none 0 0,.slice none 0 0,.int .i64 (a:Int)],.int .i64 ((we:Int)),.agg #[.int .i64 0,.int .i64 0,.int .i64 0]]) (by simp [results,Try.results26,go_sem,r0,r1,r2,r3,r4,q0,q1,q2]) rfl (by rw [HE.out]; exact GvO.good HB9.out rfl rfl rfl rfl rfl rfl (nilA_in 0 _ _))
    | false =>
     rw [hlt] at HLE1 HR
     simp only [Bool.false_eq_true,if_false] at HR
     have HF1:=hide (HFI.out U)
     clear HWO HFI hlt
     generalize byt s a=ch at *
     go_wp2_with fail
     refine HBE1.out.mono ?_
     rintro e w1 ⟨rfl,rfl⟩
     clear HBE1
     go_wp2_with fail
     refine HLE1.out.mono ?_
     rintro e w1 ⟨rfl,rfl⟩
     clear HLE1
     go_wp2_with fail
     refine HF1.out.mono ?_
     rintro e w3 ⟨rfl,hb3⟩
     have HBU:=hide (HBU.out.trans (hb3.mono HBU.out.size))
     clear HF1 hb3
     cases hfx:fixD ((numsS s).drop a) with
     | none =>
      rw [hfx] at HR
      have HE:=hide (show r=⟨0,nilT,nilA,0,2,a⟩ from HR.out.symm)
      simp only [tkG,tkF]
      clear HR hfx
      have hbu2:=HBU.out
      have hl2:=HS2.out
      have RU:=HR2.out.next hbu2 HR2.out.lt
      have FU:=HF2.out.next hbu2 HF2.out.lt
      have hbw:=HB2.out.trans (hbu2.mono HB2.out.size)
      have hlu:=hbu2.size
      obtain ⟨X,hX⟩:∃ X,w3.alloc (.cells #[.int .i64 0,.string ⟨#[]⟩,.slice none 0 0,.slice none 0 0,.int .i64 0] 43)=X:=⟨_,rfl⟩
      have bq:Below w3.heap.size w3 X:=by rw [←hX]; exact one_alloc _ _
      have DX:Cs X w3.heap.size [.int .i64 0,.string ⟨#[]⟩,.slice none 0 0,.slice none 0 0,.int .i64 0]:=by rw [←hX]; exact Cs.new w3 [.int .i64 0,.string ⟨#[]⟩,.slice none 0 0,.slice none 0 0,.int .i64 0] 43
      have RX:=RU.next bq (by omega)
      have FX:=FU.next bq (by omega)
      have hbx:=hbw.trans (bq.mono hbw.size)
      have hlx:=bq.size
      have c0:=DX.c 0 _ rfl
      have c1:=DX.c 1 _ rfl
      have c2:=DX.c 2 _ rfl
      have c3:=DX.c 3 _ rfl
      have c4:=DX.c 4 _ rfl
      obtain ⟨W8,hW8⟩:∃ W8,X.setCells w.heap.size 0 [.int .i64 0,.string ⟨#[]⟩,.slice none 0 0,.slice none 0 0,.int .i64 0]=W8:=⟨_,rfl⟩
      have HW8:Hid (X.setCells w.heap.size 0 (#[.int .i64 0,.string ⟨#[]⟩,.slice none 0 0,.slice none 0 0,.int .i64 0]:Array Value).toList=W8):=hW8
      obtain ⟨C8,B8⟩:=RX.put (us:=[.int .i64 0,.string ⟨#[]⟩,.slice none 0 0,.slice none 0 0,.int .i64 0]) (by simp) hW8
      have F8:=FX.but B8 (by omega)
      obtain ⟨W9,hW9⟩:∃ W9,W8.setCells (w.heap.size+1) 0 [.int .i64 2,.int .i64 (a:Int),.int .i64 0]=W9:=⟨_,rfl⟩
      have HW9:Hid (W8.setCells (w.heap.size+1) 0 (#[.int .i64 2,.int .i64 (a:Int),.int .i64 0]:Array Value).toList=W9):=hW9
      obtain ⟨C9,B9⟩:=F8.put (us:=[.int .i64 2,.int .i64 (a:Int),.int .i64 0]) (by simp) hW9
      have D9:=C8.but B9 (by omega)
      have HTH8:=hide (RX.there (n:=5) (by simp))
      have HTH9:=hide (F8.there (n:=3) (by simp))
      have HC9:=hide C9
      have HD9:=hide D9
      have HB9:=hide ((hbx.trans (B8.below hbx.size fun k hk=>by omega)).trans (B9.below (by have:=hbx.size; have:=B8.size; omega) fun k hk=>by omega))
      clear RU FU hbw RX FX hbx C8 B8 F8 C9 B9 D9 hW8 hW9 HBU hbu2 hlx hlu bq DX
      have HXX:=hide hX
      clear hX
      go_upto_region 17 with fail
      rw [HXX.out]
      go_wp2_with (first | (refine wpList_store_mid rfl 43 (.tmp 4) (.tmp 86) rfl w.heap.size 0 #[.int .i64 0,.string ⟨#[]⟩,.slice none 0 0,.slice none 0 0,.int .i64 0] rfl rfl HTH8.out (by kernel_rfl) (by simp [Value.oneCell']) ?_; rw [HW8.out]) | (refine wpList_store_mid rfl 28 (.tmp 6) (.tmp 89) rfl (w.heap.size+1) 0 #[.int .i64 2,.int .i64 (a:Int),.int .i64 0] rfl rfl HTH9.out (by kernel_rfl) (by simp [Value.oneCell']) ?_; rw [HW9.out]))
      have r0:=HD9.out.c 0 _ rfl
      have r1:=HD9.out.c 1 _ rfl
      have r2:=HD9.out.c 2 _ rfl
      have r3:=HD9.out.c 3 _ rfl
      have r4:=HD9.out.c 4 _ rfl
      have q0:=HC9.out.c 0 _ rfl
      have q1:=HC9.out.c 1 _ rfl
      have q2:=HC9.out.c 2 _ rfl
      exact bodyPost_ret (v:=.tuple #[.agg #[.int .i64 0,.string ⟨#[]⟩,.slice none 0 0,.slice none 0 0,.int .i64 0],.int .i64 ((a:Int)),.agg #[.int .i64 2,.int .i64 (a:Int),.int .i64 0]]) (by simp [results,Try.results26,go_sem,r0,r1,r2,r3,r4,q0,q1,q2]) rfl (by rw [HE.out]; exact GvO.bad HB9.out rfl (by decide) rfl)
     | some kt =>
      obtain ⟨kk,tt⟩:=kt
      rw [hfx] at HR
      have HE:=hide (show r=⟨kk,tt,nilA,a+tt.size,0,0⟩ from HR.out.symm)
      have HFX:=hide hfx
      simp only [tkG,tkF]
      clear HR hfx
      have hts:tt.size≤8192:=fixD_size HFX.out
      have hwr:IntKind.i64.wrap ((a:Int)+(tt.size:Int))=(a:Int)+(tt.size:Int):=IntWalk.i64_in _ ⟨by omega,by omega⟩
      have hbu2:=HBU.out
      have hl2:=HS2.out
      have RU:=HR2.out.next hbu2 HR2.out.lt
      have FU:=HF2.out.next hbu2 HF2.out.lt
      have hbw:=HB2.out.trans (hbu2.mono HB2.out.size)
      have hlu:=hbu2.size
      obtain ⟨X,hX⟩:∃ X,w3.alloc (.cells #[.int .i64 kk,.string tt,.slice none 0 0,.slice none 0 0,.int .i64 (a:Int)] 43)=X:=⟨_,rfl⟩
      have bq:Below w3.heap.size w3 X:=by rw [←hX]; exact one_alloc _ _
      have DX:Cs X w3.heap.size [.int .i64 kk,.string tt,.slice none 0 0,.slice none 0 0,.int .i64 (a:Int)]:=by rw [←hX]; exact Cs.new w3 [.int .i64 kk,.string tt,.slice none 0 0,.slice none 0 0,.int .i64 (a:Int)] 43
      have RX:=RU.next bq (by omega)
      have FX:=FU.next bq (by omega)
      have hbx:=hbw.trans (bq.mono hbw.size)
      have hlx:=bq.size
      have c0:=DX.c 0 _ rfl
      have c1:=DX.c 1 _ rfl
      have c2:=DX.c 2 _ rfl
      have c3:=DX.c 3 _ rfl
      have c4:=DX.c 4 _ rfl
      obtain ⟨W8,hW8⟩:∃ W8,X.setCells w.heap.size 0 [.int .i64 kk,.string tt,.slice none 0 0,.slice none 0 0,.int .i64 (a:Int)]=W8:=⟨_,rfl⟩
      have HW8:Hid (X.setCells w.heap.size 0 (#[.int .i64 kk,.string tt,.slice none 0 0,.slice none 0 0,.int .i64 (a:Int)]:Array Value).toList=W8):=hW8
      obtain ⟨C8,B8⟩:=RX.put (us:=[.int .i64 kk,.string tt,.slice none 0 0,.slice none 0 0,.int .i64 (a:Int)]) (by simp) hW8
      have F8:=FX.but B8 (by omega)
      obtain ⟨W9,hW9⟩:∃ W9,W8.setCells (w.heap.size+1) 0 [.int .i64 0,.int .i64 0,.int .i64 0]=W9:=⟨_,rfl⟩
      have HW9:Hid (W8.setCells (w.heap.size+1) 0 (#[.int .i64 0,.int .i64 0,.int .i64 0]:Array Value).toList=W9):=hW9
      obtain ⟨C9,B9⟩:=F8.put (us:=[.int .i64 0,.int .i64 0,.int .i64 0]) (by simp) hW9
      have D9:=C8.but B9 (by omega)
      have HTH8:=hide (RX.there (n:=5) (by simp))
      have HTH9:=hide (F8.there (n:=3) (by simp))
      have HC9:=hide C9
      have HD9:=hide D9
      have HB9:=hide ((hbx.trans (B8.below hbx.size fun k hk=>by omega)).trans (B9.below (by have:=hbx.size; have:=B8.size; omega) fun k hk=>by omega))
      have HX9:Hid ((((((((X.setCell ⟨w.heap.size,0,none⟩ (.int .i64 kk)).setCell ⟨w.heap.size,1,none⟩ (.string tt)).setCell ⟨w.heap.size,2,none⟩ (.slice none 0 0)).setCell ⟨w.heap.size,3,none⟩ (.slice none 0 0)).setCell ⟨w.heap.size,4,none⟩ (.int .i64 (a:Int))).setCell ⟨w.heap.size+1,0,none⟩ (.int .i64 0)).setCell ⟨w.heap.size+1,1,none⟩ (.int .i64 0)).setCell ⟨w.heap.size+1,2,none⟩ (.int .i64 0)=W9):=by rw [←hW9,← hW8]; rfl
      have HC9:=hide (C9.next (B:=W9.heap.size) (w9drew W9) C9.lt)
      have HD9:=hide (D9.next (B:=W9.heap.size) (w9drew W9) D9.lt)
      have HB9:=hide (HB9.out.trans ((w9drew W9).mono HB9.out.size))
      have t0:=RX.c 0 _ rfl
      have t1:=RX.c 1 _ rfl
      have t2:=RX.c 2 _ rfl
      have t3:=RX.c 3 _ rfl
      have t4:=RX.c 4 _ rfl
      have tz:=RX.z
      have f0:=FX.c 0 _ rfl
      have f1:=FX.c 1 _ rfl
      have f2:=FX.c 2 _ rfl
      have fz:=FX.z
      have hXs:w.heap.size+2≤w3.heap.size:=by omega
      clear RU FU hbw RX FX hbx C8 B8 F8 C9 B9 D9 hW8 hW9 HBU hbu2 hlx hlu bq DX hl2
      go_upto_region 19 with fail
      clear hX
      go_region_with (fail)
      all_goals
       rw [HX9.out]
       go_wp2
       have r0:=HD9.out.c 0 _ rfl
       have r1:=HD9.out.c 1 _ rfl
       have r2:=HD9.out.c 2 _ rfl
       have r3:=HD9.out.c 3 _ rfl
       have r4:=HD9.out.c 4 _ rfl
       have q0:=HC9.out.c 0 _ rfl
       have q1:=HC9.out.c 1 _ rfl
       have q2:=HC9.out.c 2 _ rfl
       exact bodyPost_ret (v:=.tuple #[.agg #[.int .i64 kk,.string tt,.slice none 0 0,.slice none 0 0,.int .i64 (a:Int)],.int .i64 (((a:Int)+(tt.size:Int))),.agg #[.int .i64 0,.int .i64 0,.int .i64 0]]) (by simp [results,Try.results26,go_sem,hwr,r0,r1,r2,r3,r4,q0,q1,q2]) rfl (by rw [HE.out]; exact GvO.good HB9.out rfl rfl rfl (by show _=((a+tt.size:Nat):Int); simp) rfl rfl (nilA_in 0 _ _))
end Go.Proofs.Ytnaejfoighmfeaa.Rn
namespace Go.Proofs.Ytnaejfoighmfeaa.Rn
open Go.ChangeShapes Go.WideShapes Go.ChangeAt Go.RowKit
set_option maxRecDepth 100000
set_option linter.unusedVariables false
set_option linter.unusedSimpArgs false
theorem bel_to {w w' w'':World} (h:Below w.heap.size w w') (h':Below w'.heap.size w' w''):Below w.heap.size w w'':=h.trans (h'.mono h.size)
def GvK (s:ByteArray) (a:Nat) (w:World) (e:Ending) (w':World):Prop:=Below w.heap.size w w'∧∃ (kd:Int) (tx:ByteArray) (pl:Int) (ok:Bool),e=.returned (.tuple #[.agg #[.int .i64 kd,.string tx,.slice none 0 0,.slice none 0 0,.int .i64 pl],.bool ok])∧(ok=true→pl=(a:Int)∧1≤tx.size∧a+tx.size≤s.size)
theorem hasP_size {s t:ByteArray} {a:Nat} (ha:a≤s.size) (h:hasP ((numsS s).drop a) (numsS t)=true):a+t.size≤s.size:=by
 have:=hasP_len h
 rw [List.length_drop,numsS_len,numsS_len] at this
 omega
theorem fxD_size {s:ByteArray} {a:Nat} {L:List ByteArray} {t:ByteArray} (ha:a≤s.size) (hL:∀ t ∈ L,1≤t.size) (h:fxD ((numsS s).drop a) L=some t):1≤t.size∧a+t.size≤s.size :=
 ⟨hL t (fxD_mem h),hasP_size ha (by have:=List.find?_some (p:=fun t=>hasP ((numsS s).drop a) (numsS t)) h; simpa using this)⟩
theorem put5 {w X W9:World} {us vs:List Value} (hR:Cs X w.heap.size us) (hl:vs.length≤us.length) (hb:Below w.heap.size w X) (h9:X.setCells w.heap.size 0 vs=W9):Cs W9 w.heap.size vs∧Below w.heap.size w W9:=by
 obtain ⟨C9,B9⟩:=hR.put hl h9
 exact ⟨C9,hb.trans (B9.below hb.size fun k hk=>by omega)⟩
def fxK0:List ByteArray:=[⟨#[58]⟩]
def fxK1:List ByteArray:=[⟨#[40]⟩,⟨#[123]⟩,⟨#[91]⟩]
def fxK2:List ByteArray:=[⟨#[41]⟩,⟨#[125]⟩,⟨#[93]⟩]
def fxK3:List ByteArray:=[⟨#[43]⟩,⟨#[45]⟩,⟨#[42]⟩,⟨#[37]⟩,⟨#[38]⟩,⟨#[124]⟩,⟨#[60]⟩,⟨#[62]⟩,⟨#[61]⟩,⟨#[126]⟩,⟨#[33]⟩,⟨#[35]⟩,⟨#[95]⟩,⟨#[44]⟩,⟨#[94]⟩,⟨#[63]⟩,⟨#[64]⟩,⟨#[47]⟩,⟨#[92]⟩]
set_option maxHeartbeats 8000000 in
theorem fixed60 (s:ByteArray) (a:Nat) (ha:a≤s.size) (hs:s.size≤8192) (w:World) :
  Calls Try.prog 60 #[.string s,.int .i64 (a:Int)] w fun e w'=>GvK s a w e w':=by
 have HF:=hide (fun L hL hT b c k W hW=>fixed78 s a ha hs L hL hT b c k W hW)
 have HSZ:=hide (fun L t (hL:∀ t ∈ L,1≤ByteArray.size t) h=>fxD_size (L:=L) (t:=t) ha hL h)
 obtain ⟨W0,hW0⟩:∃ W0,w.alloc (.cells #[.int .i64 0,.string ⟨#[]⟩,.slice none 0 0,.slice none 0 0,.int .i64 0] 43)=W0:=⟨_,rfl⟩
 have hB0:Below w.heap.size w W0:=by rw [←hW0]; exact one_alloc _ _
 have hR0:Cs W0 w.heap.size [.int .i64 0,.string ⟨#[]⟩,.slice none 0 0,.slice none 0 0,.int .i64 0]:=by rw [←hW0]; exact Cs.new w [.int .i64 0,.string ⟨#[]⟩,.slice none 0 0,.slice none 0 0,.int .i64 0] 43
 have HW0:=hide hW0
 have HB:=hide hB0
 have HR:=hide hR0
 clear hW0 hB0 hR0 ha hs
 go_enter Try.func60,Try.ntmps60
 go_upto_region 1 with fail
 rw [HW0.out]
 clear HW0
 obtain ⟨V,hV⟩:∃ V,W0.alloc (.cells #[.string ⟨#[58]⟩] 9)=V:=⟨_,rfl⟩
 have bv:Below W0.heap.size W0 V:=by rw [←hV]; exact one_alloc _ _
 have HC:=hide (HF.out fxK0 (by decide) (by decide) W0.heap.size 1 7 V (by rw [←hV]; exact WsIn.new W0 fxK0 9))
 have HVI:=hide hV
 have HBV:=hide bv
 clear bv
 go_wp2_with fail
 clear hV
 refine HC.out.mono ?_
 rintro e U ⟨rfl,hbu⟩
 have HBU:=hide (bel_to HBV.out hbu)
 clear hbu HC HVI HBV
 cases hf:fxD ((numsS s).drop a) fxK0 with
 | some t =>
  simp only [tkF]
  have HE:=hide (HSZ.out fxK0 t (by decide) hf)
  obtain ⟨X,hX⟩:∃ X,U.alloc (.cells #[.int .i64 7,.string t,.slice none 0 0,.slice none 0 0,.int .i64 (a:Int)] 43)=X:=⟨_,rfl⟩
  have bq:Below U.heap.size U X:=by rw [←hX]; exact one_alloc _ _
  have D:Cs X U.heap.size [.int .i64 7,.string t,.slice none 0 0,.slice none 0 0,.int .i64 (a:Int)]:=by rw [←hX]; exact Cs.new U [.int .i64 7,.string t,.slice none 0 0,.slice none 0 0,.int .i64 (a:Int)] 43
  have c0:=D.c 0 _ rfl
  have c1:=D.c 1 _ rfl
  have c2:=D.c 2 _ rfl
  have c3:=D.c 3 _ rfl
  have c4:=D.c 4 _ rfl
  have hRX:=HR.out.next (bel_to HBU.out bq) HR.out.lt
  have hBX:=bel_to HB.out (bel_to HBU.out bq)
  clear HF HSZ D bq HBU HB HR hf
  obtain ⟨W9,hW9⟩:∃ W9,X.setCells w.heap.size 0 [.int .i64 7,.string t,.slice none 0 0,.slice none 0 0,.int .i64 (a:Int)]=W9:=⟨_,rfl⟩
  have HW9:Hid (X.setCells w.heap.size 0 (#[.int .i64 7,.string t,.slice none 0 0,.slice none 0 0,.int .i64 (a:Int)]:Array Value).toList=W9):=hW9
  obtain ⟨C9,B9⟩:=put5 (vs:=[.int .i64 7,.string t,.slice none 0 0,.slice none 0 0,.int .i64 (a:Int)]) hRX (by simp) hBX hW9
  have HTH:=hide (hRX.there (n:=5) (by simp))
  have HC9:=hide C9
  have HB9:=hide B9
  clear C9 B9 hW9 hRX hBX
  go_wp2_with (first | (refine wpList_store_mid rfl 43 (.tmp 4) (.tmp 20) rfl w.heap.size 0 #[.int .i64 7,.string t,.slice none 0 0,.slice none 0 0,.int .i64 (a:Int)] rfl rfl HTH.out (by kernel_rfl) (by simp [Value.oneCell']) ?_; rw [HW9.out]))
  have r0:=HC9.out.c 0 _ rfl
  have r1:=HC9.out.c 1 _ rfl
  have r2:=HC9.out.c 2 _ rfl
  have r3:=HC9.out.c 3 _ rfl
  have r4:=HC9.out.c 4 _ rfl
  exact bodyPost_ret (v:=.tuple #[.agg #[.int .i64 7,.string t,.slice none 0 0,.slice none 0 0,.int .i64 (a:Int)],.bool true]) (by simp [results,Try.results60,go_sem,r0,r1,r2,r3,r4]) rfl ⟨HB9.out,_,_,_,_,rfl,fun _=>⟨rfl,HE.out⟩⟩
 | none =>
  simp only [tkF]
  obtain ⟨W1,hX⟩:∃ X,U.alloc (.cells #[.int .i64 0,.string ⟨#[]⟩,.slice none 0 0,.slice none 0 0,.int .i64 0] 43)=X:=⟨_,rfl⟩
  have bq:Below U.heap.size U W1:=by rw [←hX]; exact one_alloc _ _
  replace HR:=hide (HR.out.next (bel_to HBU.out bq) HR.out.lt)
  replace HB:=hide (bel_to HB.out (bel_to HBU.out bq))
  have HX0:=hide hX
  clear bq HBU hf hX
  go_upto_region 4 with fail
  rw [HX0.out]
  obtain ⟨V,hV⟩:∃ V,W1.alloc (.cells #[.string ⟨#[40]⟩,.string ⟨#[123]⟩,.string ⟨#[91]⟩] 9)=V:=⟨_,rfl⟩
  have bv:Below W1.heap.size W1 V:=by rw [←hV]; exact one_alloc _ _
  have HC:=hide (HF.out fxK1 (by decide) (by decide) W1.heap.size 3 5 V (by rw [←hV]; exact WsIn.new W1 fxK1 9))
  have HVI:=hide hV
  have HBV:=hide bv
  clear bv
  go_wp2_with fail
  clear hV
  refine HC.out.mono ?_
  rintro e U ⟨rfl,hbu⟩
  have HBU:=hide (bel_to HBV.out hbu)
  clear hbu HC HVI HBV
  cases hf:fxD ((numsS s).drop a) fxK1 with
  | some t =>
   simp only [tkF]
   have HE:=hide (HSZ.out fxK1 t (by decide) hf)
   obtain ⟨X,hX⟩:∃ X,U.alloc (.cells #[.int .i64 5,.string t,.slice none 0 0,.slice none 0 0,.int .i64 (a:Int)] 43)=X:=⟨_,rfl⟩
   have bq:Below U.heap.size U X:=by rw [←hX]; exact one_alloc _ _
   have D:Cs X U.heap.size [.int .i64 5,.string t,.slice none 0 0,.slice none 0 0,.int .i64 (a:Int)]:=by rw [←hX]; exact Cs.new U [.int .i64 5,.string t,.slice none 0 0,.slice none 0 0,.int .i64 (a:Int)] 43
   have c0:=D.c 0 _ rfl
   have c1:=D.c 1 _ rfl
   have c2:=D.c 2 _ rfl
   have c3:=D.c 3 _ rfl
   have c4:=D.c 4 _ rfl
   have hRX:=HR.out.next (bel_to HBU.out bq) HR.out.lt
   have hBX:=bel_to HB.out (bel_to HBU.out bq)
   clear HF HSZ D bq HBU HB HR hf
   obtain ⟨W9,hW9⟩:∃ W9,X.setCells w.heap.size 0 [.int .i64 5,.string t,.slice none 0 0,.slice none 0 0,.int .i64 (a:Int)]=W9:=⟨_,rfl⟩
   have HW9:Hid (X.setCells w.heap.size 0 (#[.int .i64 5,.string t,.slice none 0 0,.slice none 0 0,.int .i64 (a:Int)]:Array Value).toList=W9):=hW9
   obtain ⟨C9,B9⟩:=put5 (vs:=[.int .i64 5,.string t,.slice none 0 0,.slice none 0 0,.int .i64 (a:Int)]) hRX (by simp) hBX hW9
   have HTH:=hide (hRX.there (n:=5) (by simp))
   have HC9:=hide C9
   have HB9:=hide B9
   clear C9 B9 hW9 hRX hBX
   go_wp2_with (first | (refine wpList_store_mid rfl 43 (.tmp 4) (.tmp 29) rfl w.heap.size 0 #[.int .i64 5,.string t,.slice none 0 0,.slice none 0 0,.int .i64 (a:Int)] rfl rfl HTH.out (by kernel_rfl) (by simp [Value.oneCell']) ?_; rw [HW9.out]))
   have r0:=HC9.out.c 0 _ rfl
   have r1:=HC9.out.c 1 _ rfl
   have r2:=HC9.out.c 2 _ rfl
   have r3:=HC9.out.c 3 _ rfl
   have r4:=HC9.out.c 4 _ rfl
   exact bodyPost_ret (v:=.tuple #[.agg #[.int .i64 5,.string t,.slice none 0 0,.slice none 0 0,.int .i64 (a:Int)],.bool true]) (by simp [results,Try.results60,go_sem,r0,r1,r2,r3,r4]) rfl ⟨HB9.out,_,_,_,_,rfl,fun _=>⟨rfl,HE.out⟩⟩
  | none =>
   simp only [tkF]
   obtain ⟨W2,hX⟩:∃ X,U.alloc (.cells #[.int .i64 0,.string ⟨#[]⟩,.slice none 0 0,.slice none 0 0,.int .i64 0] 43)=X:=⟨_,rfl⟩
   have bq:Below U.heap.size U W2:=by rw [←hX]; exact one_alloc _ _
   replace HR:=hide (HR.out.next (bel_to HBU.out bq) HR.out.lt)
   replace HB:=hide (bel_to HB.out (bel_to HBU.out bq))
   have HX1:=hide hX
   clear bq HBU hf hX
   go_upto_region 7 with fail
   rw [HX1.out]
   obtain ⟨V,hV⟩:∃ V,W2.alloc (.cells #[.string ⟨#[41]⟩,.string ⟨#[125]⟩,.string ⟨#[93]⟩] 9)=V:=⟨_,rfl⟩
   have bv:Below W2.heap.size W2 V:=by rw [←hV]; exact one_alloc _ _
   have HC:=hide (HF.out fxK2 (by decide) (by decide) W2.heap.size 3 6 V (by rw [←hV]; exact WsIn.new W2 fxK2 9))
   have HVI:=hide hV
   have HBV:=hide bv
   clear bv
   go_wp2_with fail
   clear hV
   refine HC.out.mono ?_
   rintro e U ⟨rfl,hbu⟩
   have HBU:=hide (bel_to HBV.out hbu)
   clear hbu HC HVI HBV
   cases hf:fxD ((numsS s).drop a) fxK2 with
   | some t =>
    simp only [tkF]
    have HE:=hide (HSZ.out fxK2 t (by decide) hf)
    obtain ⟨X,hX⟩:∃ X,U.alloc (.cells #[.int .i64 6,.string t,.slice none 0 0,.slice none 0 0,.int .i64 (a:Int)] 43)=X:=⟨_,rfl⟩
    have bq:Below U.heap.size U X:=by rw [←hX]; exact one_alloc _ _
    have D:Cs X U.heap.size [.int .i64 6,.string t,.slice none 0 0,.slice none 0 0,.int .i64 (a:Int)]:=by rw [←hX]; exact Cs.new U [.int .i64 6,.string t,.slice none 0 0,.slice none 0 0,.int .i64 (a:Int)] 43
    have c0:=D.c 0 _ rfl
    have c1:=D.c 1 _ rfl
    have c2:=D.c 2 _ rfl
    have c3:=D.c 3 _ rfl
    have c4:=D.c 4 _ rfl
    have hRX:=HR.out.next (bel_to HBU.out bq) HR.out.lt
    have hBX:=bel_to HB.out (bel_to HBU.out bq)
    clear HF HSZ D bq HBU HB HR hf
    obtain ⟨W9,hW9⟩:∃ W9,X.setCells w.heap.size 0 [.int .i64 6,.string t,.slice none 0 0,.slice none 0 0,.int .i64 (a:Int)]=W9:=⟨_,rfl⟩
    have HW9:Hid (X.setCells w.heap.size 0 (#[.int .i64 6,.string t,.slice none 0 0,.slice none 0 0,.int .i64 (a:Int)]:Array Value).toList=W9):=hW9
    obtain ⟨C9,B9⟩:=put5 (vs:=[.int .i64 6,.string t,.slice none 0 0,.slice none 0 0,.int .i64 (a:Int)]) hRX (by simp) hBX hW9
    have HTH:=hide (hRX.there (n:=5) (by simp))
    have HC9:=hide C9
    have HB9:=hide B9
    clear C9 B9 hW9 hRX hBX
    go_wp2_with (first | (refine wpList_store_mid rfl 43 (.tmp 4) (.tmp 38) rfl w.heap.size 0 #[.int .i64 6,.string t,.slice none 0 0,.slice none 0 0,.int .i64 (a:Int)] rfl rfl HTH.out (by kernel_rfl) (by simp [Value.oneCell']) ?_; rw [HW9.out]))
    have r0:=HC9.out.c 0 _ rfl
    have r1:=HC9.out.c 1 _ rfl
    have r2:=HC9.out.c 2 _ rfl
    have r3:=HC9.out.c 3 _ rfl
    have r4:=HC9.out.c 4 _ rfl
    exact bodyPost_ret (v:=.tuple #[.agg #[.int .i64 6,.string t,.slice none 0 0,.slice none 0 0,.int .i64 (a:Int)],.bool true]) (by simp [results,Try.results60,go_sem,r0,r1,r2,r3,r4]) rfl ⟨HB9.out,_,_,_,_,rfl,fun _=>⟨rfl,HE.out⟩⟩
   | none =>
    simp only [tkF]
    obtain ⟨W3,hX⟩:∃ X,U.alloc (.cells #[.int .i64 0,.string ⟨#[]⟩,.slice none 0 0,.slice none 0 0,.int .i64 0] 43)=X:=⟨_,rfl⟩
    have bq:Below U.heap.size U W3:=by rw [←hX]; exact one_alloc _ _
    replace HR:=hide (HR.out.next (bel_to HBU.out bq) HR.out.lt)
    replace HB:=hide (bel_to HB.out (bel_to HBU.out bq))
    have HX2:=hide hX
    clear bq HBU hf hX
    go_upto_region 10 with fail
    rw [HX2.out]
    obtain ⟨V,hV⟩:∃ V,W3.alloc (.cells #[.string ⟨#[43]⟩,.string ⟨#[45]⟩,.string ⟨#[42]⟩,.string ⟨#[37]⟩,.string ⟨#[38]⟩,.string ⟨#[124]⟩,.string ⟨#[60]⟩,.string ⟨#[62]⟩,.string ⟨#[61]⟩,.string ⟨#[126]⟩,.string ⟨#[33]⟩,.string ⟨#[35]⟩,.string ⟨#[95]⟩,.string ⟨#[44]⟩,.string ⟨#[94]⟩,.string ⟨#[63]⟩,.string ⟨#[64]⟩,.string ⟨#[47]⟩,.string ⟨#[92]⟩] 9)=V:=⟨_,rfl⟩
    have bv:Below W3.heap.size W3 V:=by rw [←hV]; exact one_alloc _ _
    have HC:=hide (HF.out fxK3 (by decide) (by decide) W3.heap.size 19 4 V (by rw [←hV]; exact WsIn.new W3 fxK3 9))
    have HVI:=hide hV
    have HBV:=hide bv
    clear bv
    go_wp2_with fail
    clear hV
    refine HC.out.mono ?_
    rintro e U ⟨rfl,hbu⟩
    have hRX:=HR.out.next (bel_to HBV.out hbu) HR.out.lt
    have hBX:=bel_to HB.out (bel_to HBV.out hbu)
    clear hbu HC HVI HBV HB HR HF
    cases hf:fxD ((numsS s).drop a) fxK3 with
    | some t =>
     simp only [tkF]
     have HE:=hide (HSZ.out fxK3 t (by decide) hf)
     clear HSZ hf
     obtain ⟨W9,hW9⟩:∃ W9,U.setCells w.heap.size 0 [.int .i64 4,.string t,.slice none 0 0,.slice none 0 0,.int .i64 (a:Int)]=W9:=⟨_,rfl⟩
     have HW9:Hid (U.setCells w.heap.size 0 (#[.int .i64 4,.string t,.slice none 0 0,.slice none 0 0,.int .i64 (a:Int)]:Array Value).toList=W9):=hW9
     obtain ⟨C9,B9⟩:=put5 (vs:=[.int .i64 4,.string t,.slice none 0 0,.slice none 0 0,.int .i64 (a:Int)]) hRX (by simp) hBX hW9
     have HTH:=hide (hRX.there (n:=5) (by simp))
     have HC9:=hide C9
     have HB9:=hide B9
     clear C9 B9 hW9 hRX hBX
     go_wp2_with (first | (refine wpList_store_mid rfl 43 (.tmp 4) (.tmp 43) rfl w.heap.size 0 #[.int .i64 4,.string t,.slice none 0 0,.slice none 0 0,.int .i64 (a:Int)] rfl rfl HTH.out (by kernel_rfl) (by simp [Value.oneCell']) ?_; rw [HW9.out]))
     have r0:=HC9.out.c 0 _ rfl
     have r1:=HC9.out.c 1 _ rfl
     have r2:=HC9.out.c 2 _ rfl
     have r3:=HC9.out.c 3 _ rfl
     have r4:=HC9.out.c 4 _ rfl
     exact bodyPost_ret (v:=.tuple #[.agg #[.int .i64 4,.string t,.slice none 0 0,.slice none 0 0,.int .i64 (a:Int)],.bool true]) (by simp [results,Try.results60,go_sem,r0,r1,r2,r3,r4]) rfl ⟨HB9.out,_,_,_,_,rfl,fun _=>⟨rfl,HE.out⟩⟩
    | none =>
     simp only [tkF]
     clear HSZ hf
     obtain ⟨W9,hW9⟩:∃ W9,U.setCells w.heap.size 0 [.int .i64 0,.string ⟨#[]⟩,.slice none 0 0,.slice none 0 0,.int .i64 0]=W9:=⟨_,rfl⟩
     have HW9:Hid (U.setCells w.heap.size 0 (#[.int .i64 0,.string ⟨#[]⟩,.slice none 0 0,.slice none 0 0,.int .i64 0]:Array Value).toList=W9):=hW9
     obtain ⟨C9,B9⟩:=put5 (vs:=[.int .i64 0,.string ⟨#[]⟩,.slice none 0 0,.slice none 0 0,.int .i64 0]) hRX (by simp) hBX hW9
     have HTH:=hide (hRX.there (n:=5) (by simp))
     have HC9:=hide C9
     have HB9:=hide B9
     clear C9 B9 hW9 hRX hBX
     go_wp2_with (first | (refine wpList_store_mid rfl 43 (.tmp 4) (.tmp 43) rfl w.heap.size 0 #[.int .i64 0,.string ⟨#[]⟩,.slice none 0 0,.slice none 0 0,.int .i64 0] rfl rfl HTH.out (by kernel_rfl) (by simp [Value.oneCell']) ?_; rw [HW9.out]))
     have r0:=HC9.out.c 0 _ rfl
     have r1:=HC9.out.c 1 _ rfl
     have r2:=HC9.out.c 2 _ rfl
     have r3:=HC9.out.c 3 _ rfl
     have r4:=HC9.out.c 4 _ rfl
     exact bodyPost_ret (v:=.tuple #[.agg #[.int .i64 0,.string ⟨#[]⟩,.slice none 0 0,.slice none 0 0,.int .i64 0],.bool false]) (by simp [results,Try.results60,go_sem,r0,r1,r2,r3,r4]) rfl ⟨HB9.out,_,_,_,_,rfl,fun h=>by cases h⟩
def fxJ0:List ByteArray:=[⟨#[61,58]⟩]
def fxJ1:List ByteArray:=[⟨#[123,123]⟩,⟨#[40]⟩]
def fxJ2:List ByteArray:=[⟨#[125,125]⟩,⟨#[41]⟩]
def fxJ3:List ByteArray:=[⟨#[45,46]⟩,⟨#[124,46]⟩,⟨#[124,58]⟩,⟨#[60,46]⟩,⟨#[60,58]⟩,⟨#[62,46]⟩,⟨#[62,58]⟩,⟨#[126,46]⟩,⟨#[126,58]⟩,⟨#[44,58]⟩,⟨#[47,58]⟩,⟨#[92,58]⟩,⟨#[123,46]⟩,⟨#[125,46]⟩,⟨#[94,58]⟩]
def fxJ4:List ByteArray:=[⟨#[45]⟩,⟨#[42]⟩,⟨#[124]⟩,⟨#[37]⟩,⟨#[43]⟩,⟨#[60]⟩,⟨#[62]⟩,⟨#[61]⟩,⟨#[126]⟩,⟨#[36]⟩,⟨#[35]⟩,⟨#[44]⟩,⟨#[47]⟩,⟨#[92]⟩,⟨#[123]⟩]
set_option maxHeartbeats 8000000 in
theorem fixed54 (s:ByteArray) (a:Nat) (ha:a≤s.size) (hs:s.size≤8192) (w:World) :
  Calls Try.prog 54 #[.string s,.int .i64 (a:Int)] w fun e w'=>GvK s a w e w':=by
 have HF:=hide (fun L hL hT b c k W hW=>fixed78 s a ha hs L hL hT b c k W hW)
 have HSZ:=hide (fun L t (hL:∀ t ∈ L,1≤ByteArray.size t) h=>fxD_size (L:=L) (t:=t) ha hL h)
 have HST:=hide (fun W=>starts25 s ⟨#[34,49]⟩ a ha (by omega) (by decide) W)
 have HS2:=hide (fun h=>hasP_size (t:=⟨#[34,49]⟩) ha h)
 have HDI:=hide (fun c W=>digit73 c W)
 have HBY:=hide (fun (h:a+2 < s.size) W=>byt_run s (a+2) h W)
 have hs2:=hs
 have ha2:=ha
 obtain ⟨W0,hW0⟩:∃ W0,w.alloc (.cells #[.int .i64 0,.string ⟨#[]⟩,.slice none 0 0,.slice none 0 0,.int .i64 0] 43)=W0:=⟨_,rfl⟩
 have hB0:Below w.heap.size w W0:=by rw [←hW0]; exact one_alloc _ _
 have hR0:Cs W0 w.heap.size [.int .i64 0,.string ⟨#[]⟩,.slice none 0 0,.slice none 0 0,.int .i64 0]:=by rw [←hW0]; exact Cs.new w [.int .i64 0,.string ⟨#[]⟩,.slice none 0 0,.slice none 0 0,.int .i64 0] 43
 have HW0:=hide hW0
 have HB:=hide hB0
 have HR:=hide hR0
 clear hW0 hB0 hR0 ha hs
 go_enter Try.func54,Try.ntmps54
 go_upto_region 1 with fail
 rw [HW0.out]
 clear HW0
 obtain ⟨V,hV⟩:∃ V,W0.alloc (.cells #[.string ⟨#[61,58]⟩] 9)=V:=⟨_,rfl⟩
 have bv:Below W0.heap.size W0 V:=by rw [←hV]; exact one_alloc _ _
 have HC:=hide (HF.out fxJ0 (by decide) (by decide) W0.heap.size 1 7 V (by rw [←hV]; exact WsIn.new W0 fxJ0 9))
 have HVI:=hide hV
 have HBV:=hide bv
 clear bv
 go_wp2_with fail
 clear hV
 refine HC.out.mono ?_
 rintro e U ⟨rfl,hbu⟩
 have HBU:=hide (bel_to HBV.out hbu)
 clear hbu HC HVI HBV
 cases hf:fxD ((numsS s).drop a) fxJ0 with
 | some t =>
  simp only [tkF]
  have HE:=hide (HSZ.out fxJ0 t (by decide) hf)
  obtain ⟨X,hX⟩:∃ X,U.alloc (.cells #[.int .i64 7,.string t,.slice none 0 0,.slice none 0 0,.int .i64 (a:Int)] 43)=X:=⟨_,rfl⟩
  have bq:Below U.heap.size U X:=by rw [←hX]; exact one_alloc _ _
  have D:Cs X U.heap.size [.int .i64 7,.string t,.slice none 0 0,.slice none 0 0,.int .i64 (a:Int)]:=by rw [←hX]; exact Cs.new U [.int .i64 7,.string t,.slice none 0 0,.slice none 0 0,.int .i64 (a:Int)] 43
  have c0:=D.c 0 _ rfl
  have c1:=D.c 1 _ rfl
  have c2:=D.c 2 _ rfl
  have c3:=D.c 3 _ rfl
  have c4:=D.c 4 _ rfl
  have hRX:=HR.out.next (bel_to HBU.out bq) HR.out.lt
  have hBX:=bel_to HB.out (bel_to HBU.out bq)
  clear HF HSZ D bq HBU HB HR hf HST HS2 HDI HBY
  obtain ⟨W9,hW9⟩:∃ W9,X.setCells w.heap.size 0 [.int .i64 7,.string t,.slice none 0 0,.slice none 0 0,.int .i64 (a:Int)]=W9:=⟨_,rfl⟩
  have HW9:Hid (X.setCells w.heap.size 0 (#[.int .i64 7,.string t,.slice none 0 0,.slice none 0 0,.int .i64 (a:Int)]:Array Value).toList=W9):=hW9
  obtain ⟨C9,B9⟩:=put5 (vs:=[.int .i64 7,.string t,.slice none 0 0,.slice none 0 0,.int .i64 (a:Int)]) hRX (by simp) hBX hW9
  have HTH:=hide (hRX.there (n:=5) (by simp))
  have HC9:=hide C9
  have HB9:=hide B9
  clear C9 B9 hW9 hRX hBX
  go_wp2_with (first | (refine wpList_store_mid rfl 43 (.tmp 4) (.tmp 22) rfl w.heap.size 0 #[.int .i64 7,.string t,.slice none 0 0,.slice none 0 0,.int .i64 (a:Int)] rfl rfl HTH.out (by kernel_rfl) (by simp [Value.oneCell']) ?_; rw [HW9.out]))
  have r0:=HC9.out.c 0 _ rfl
  have r1:=HC9.out.c 1 _ rfl
  have r2:=HC9.out.c 2 _ rfl
  have r3:=HC9.out.c 3 _ rfl
  have r4:=HC9.out.c 4 _ rfl
  exact bodyPost_ret (v:=.tuple #[.agg #[.int .i64 7,.string t,.slice none 0 0,.slice none 0 0,.int .i64 (a:Int)],.bool true]) (by simp [results,Try.results54,go_sem,r0,r1,r2,r3,r4]) rfl ⟨HB9.out,_,_,_,_,rfl,fun _=>⟨rfl,HE.out⟩⟩
 | none =>
  simp only [tkF]
  obtain ⟨W1,hX⟩:∃ X,U.alloc (.cells #[.int .i64 0,.string ⟨#[]⟩,.slice none 0 0,.slice none 0 0,.int .i64 0] 43)=X:=⟨_,rfl⟩
  have bq:Below U.heap.size U W1:=by rw [←hX]; exact one_alloc _ _
  replace HR:=hide (HR.out.next (bel_to HBU.out bq) HR.out.lt)
  replace HB:=hide (bel_to HB.out (bel_to HBU.out bq))
  have HX0:=hide hX
  clear bq HBU hf hX
  go_upto_region 4 with fail
  rw [HX0.out]
  obtain ⟨V,hV⟩:∃ V,W1.alloc (.cells #[.string ⟨#[123,123]⟩,.string ⟨#[40]⟩] 9)=V:=⟨_,rfl⟩
  have bv:Below W1.heap.size W1 V:=by rw [←hV]; exact one_alloc _ _
  have HC:=hide (HF.out fxJ1 (by decide) (by decide) W1.heap.size 2 5 V (by rw [←hV]; exact WsIn.new W1 fxJ1 9))
  have HVI:=hide hV
  have HBV:=hide bv
  clear bv
  go_wp2_with fail
  clear hV
  refine HC.out.mono ?_
  rintro e U ⟨rfl,hbu⟩
  have HBU:=hide (bel_to HBV.out hbu)
  clear hbu HC HVI HBV
  cases hf:fxD ((numsS s).drop a) fxJ1 with
  | some t =>
   simp only [tkF]
   have HE:=hide (HSZ.out fxJ1 t (by decide) hf)
   obtain ⟨X,hX⟩:∃ X,U.alloc (.cells #[.int .i64 5,.string t,.slice none 0 0,.slice none 0 0,.int .i64 (a:Int)] 43)=X:=⟨_,rfl⟩
   have bq:Below U.heap.size U X:=by rw [←hX]; exact one_alloc _ _
   have D:Cs X U.heap.size [.int .i64 5,.string t,.slice none 0 0,.slice none 0 0,.int .i64 (a:Int)]:=by rw [←hX]; exact Cs.new U [.int .i64 5,.string t,.slice none 0 0,.slice none 0 0,.int .i64 (a:Int)] 43
   have c0:=D.c 0 _ rfl
   have c1:=D.c 1 _ rfl
   have c2:=D.c 2 _ rfl
   have c3:=D.c 3 _ rfl
   have c4:=D.c 4 _ rfl
   have hRX:=HR.out.next (bel_to HBU.out bq) HR.out.lt
   have hBX:=bel_to HB.out (bel_to HBU.out bq)
   clear HF HSZ D bq HBU HB HR hf HST HS2 HDI HBY
   obtain ⟨W9,hW9⟩:∃ W9,X.setCells w.heap.size 0 [.int .i64 5,.string t,.slice none 0 0,.slice none 0 0,.int .i64 (a:Int)]=W9:=⟨_,rfl⟩
   have HW9:Hid (X.setCells w.heap.size 0 (#[.int .i64 5,.string t,.slice none 0 0,.slice none 0 0,.int .i64 (a:Int)]:Array Value).toList=W9):=hW9
   obtain ⟨C9,B9⟩:=put5 (vs:=[.int .i64 5,.string t,.slice none 0 0,.slice none 0 0,.int .i64 (a:Int)]) hRX (by simp) hBX hW9
   have HTH:=hide (hRX.there (n:=5) (by simp))
   have HC9:=hide C9
   have HB9:=hide B9
   clear C9 B9 hW9 hRX hBX
   go_wp2_with (first | (refine wpList_store_mid rfl 43 (.tmp 4) (.tmp 31) rfl w.heap.size 0 #[.int .i64 5,.string t,.slice none 0 0,.slice none 0 0,.int .i64 (a:Int)] rfl rfl HTH.out (by kernel_rfl) (by simp [Value.oneCell']) ?_; rw [HW9.out]))
   have r0:=HC9.out.c 0 _ rfl
   have r1:=HC9.out.c 1 _ rfl
   have r2:=HC9.out.c 2 _ rfl
   have r3:=HC9.out.c 3 _ rfl
   have r4:=HC9.out.c 4 _ rfl
   exact bodyPost_ret (v:=.tuple #[.agg #[.int .i64 5,.string t,.slice none 0 0,.slice none 0 0,.int .i64 (a:Int)],.bool true]) (by simp [results,Try.results54,go_sem,r0,r1,r2,r3,r4]) rfl ⟨HB9.out,_,_,_,_,rfl,fun _=>⟨rfl,HE.out⟩⟩
  | none =>
   simp only [tkF]
   obtain ⟨W2,hX⟩:∃ X,U.alloc (.cells #[.int .i64 0,.string ⟨#[]⟩,.slice none 0 0,.slice none 0 0,.int .i64 0] 43)=X:=⟨_,rfl⟩
   have bq:Below U.heap.size U W2:=by rw [←hX]; exact one_alloc _ _
   replace HR:=hide (HR.out.next (bel_to HBU.out bq) HR.out.lt)
   replace HB:=hide (bel_to HB.out (bel_to HBU.out bq))
   have HX1:=hide hX
   clear bq HBU hf hX
   go_upto_region 7 with fail
   rw [HX1.out]
   obtain ⟨V,hV⟩:∃ V,W2.alloc (.cells #[.string ⟨#[125,125]⟩,.string ⟨#[41]⟩] 9)=V:=⟨_,rfl⟩
   have bv:Below W2.heap.size W2 V:=by rw [←hV]; exact one_alloc _ _
   have HC:=hide (HF.out fxJ2 (by decide) (by decide) W2.heap.size 2 6 V (by rw [←hV]; exact WsIn.new W2 fxJ2 9))
   have HVI:=hide hV
   have HBV:=hide bv
   clear bv
   go_wp2_with fail
   clear hV
   refine HC.out.mono ?_
   rintro e U ⟨rfl,hbu⟩
   have HBU:=hide (bel_to HBV.out hbu)
   clear hbu HC HVI HBV
   cases hf:fxD ((numsS s).drop a) fxJ2 with
   | some t =>
    simp only [tkF]
    have HE:=hide (HSZ.out fxJ2 t (by decide) hf)
    obtain ⟨X,hX⟩:∃ X,U.alloc (.cells #[.int .i64 6,.string t,.slice none 0 0,.slice none 0 0,.int .i64 (a:Int)] 43)=X:=⟨_,rfl⟩
    have bq:Below U.heap.size U X:=by rw [←hX]; exact one_alloc _ _
    have D:Cs X U.heap.size [.int .i64 6,.string t,.slice none 0 0,.slice none 0 0,.int .i64 (a:Int)]:=by rw [←hX]; exact Cs.new U [.int .i64 6,.string t,.slice none 0 0,.slice none 0 0,.int .i64 (a:Int)] 43
    have c0:=D.c 0 _ rfl
    have c1:=D.c 1 _ rfl
    have c2:=D.c 2 _ rfl
    have c3:=D.c 3 _ rfl
    have c4:=D.c 4 _ rfl
    have hRX:=HR.out.next (bel_to HBU.out bq) HR.out.lt
    have hBX:=bel_to HB.out (bel_to HBU.out bq)
    clear HF HSZ D bq HBU HB HR hf HST HS2 HDI HBY
    obtain ⟨W9,hW9⟩:∃ W9,X.setCells w.heap.size 0 [.int .i64 6,.string t,.slice none 0 0,.slice none 0 0,.int .i64 (a:Int)]=W9:=⟨_,rfl⟩
    have HW9:Hid (X.setCells w.heap.size 0 (#[.int .i64 6,.string t,.slice none 0 0,.slice none 0 0,.int .i64 (a:Int)]:Array Value).toList=W9):=hW9
    obtain ⟨C9,B9⟩:=put5 (vs:=[.int .i64 6,.string t,.slice none 0 0,.slice none 0 0,.int .i64 (a:Int)]) hRX (by simp) hBX hW9
    have HTH:=hide (hRX.there (n:=5) (by simp))
    have HC9:=hide C9
    have HB9:=hide B9
    clear C9 B9 hW9 hRX hBX
    go_wp2_with (first | (refine wpList_store_mid rfl 43 (.tmp 4) (.tmp 40) rfl w.heap.size 0 #[.int .i64 6,.string t,.slice none 0 0,.slice none 0 0,.int .i64 (a:Int)] rfl rfl HTH.out (by kernel_rfl) (by simp [Value.oneCell']) ?_; rw [HW9.out]))
    have r0:=HC9.out.c 0 _ rfl
    have r1:=HC9.out.c 1 _ rfl
    have r2:=HC9.out.c 2 _ rfl
    have r3:=HC9.out.c 3 _ rfl
    have r4:=HC9.out.c 4 _ rfl
    exact bodyPost_ret (v:=.tuple #[.agg #[.int .i64 6,.string t,.slice none 0 0,.slice none 0 0,.int .i64 (a:Int)],.bool true]) (by simp [results,Try.results54,go_sem,r0,r1,r2,r3,r4]) rfl ⟨HB9.out,_,_,_,_,rfl,fun _=>⟨rfl,HE.out⟩⟩
   | none =>
    simp only [tkF]
    obtain ⟨W3,hX⟩:∃ X,U.alloc (.cells #[.int .i64 0,.string ⟨#[]⟩,.slice none 0 0,.slice none 0 0,.int .i64 0] 43)=X:=⟨_,rfl⟩
    have bq:Below U.heap.size U W3:=by rw [←hX]; exact one_alloc _ _
    replace HR:=hide (HR.out.next (bel_to HBU.out bq) HR.out.lt)
    replace HB:=hide (bel_to HB.out (bel_to HBU.out bq))
    have HX2:=hide hX
    clear bq HBU hf hX
    go_upto_region 10 with fail
    rw [HX2.out]
    obtain ⟨V,hV⟩:∃ V,W3.alloc (.cells #[.string ⟨#[45,46]⟩,.string ⟨#[124,46]⟩,.string ⟨#[124,58]⟩,.string ⟨#[60,46]⟩,.string ⟨#[60,58]⟩,.string ⟨#[62,46]⟩,.string ⟨#[62,58]⟩,.string ⟨#[126,46]⟩,.string ⟨#[126,58]⟩,.string ⟨#[44,58]⟩,.string ⟨#[47,58]⟩,.string ⟨#[92,58]⟩,.string ⟨#[123,46]⟩,.string ⟨#[125,46]⟩,.string ⟨#[94,58]⟩] 9)=V:=⟨_,rfl⟩
    have bv:Below W3.heap.size W3 V:=by rw [←hV]; exact one_alloc _ _
    have HC:=hide (HF.out fxJ3 (by decide) (by decide) W3.heap.size 15 4 V (by rw [←hV]; exact WsIn.new W3 fxJ3 9))
    have HVI:=hide hV
    have HBV:=hide bv
    clear bv
    go_wp2_with fail
    clear hV
    refine HC.out.mono ?_
    rintro e U ⟨rfl,hbu⟩
    have HBU:=hide (bel_to HBV.out hbu)
    clear hbu HC HVI HBV
    cases hf:fxD ((numsS s).drop a) fxJ3 with
    | some t =>
     simp only [tkF]
     have HE:=hide (HSZ.out fxJ3 t (by decide) hf)
     obtain ⟨X,hX⟩:∃ X,U.alloc (.cells #[.int .i64 4,.string t,.slice none 0 0,.slice none 0 0,.int .i64 (a:Int)] 43)=X:=⟨_,rfl⟩
     have bq:Below U.heap.size U X:=by rw [←hX]; exact one_alloc _ _
     have D:Cs X U.heap.size [.int .i64 4,.string t,.slice none 0 0,.slice none 0 0,.int .i64 (a:Int)]:=by rw [←hX]; exact Cs.new U [.int .i64 4,.string t,.slice none 0 0,.slice none 0 0,.int .i64 (a:Int)] 43
     have c0:=D.c 0 _ rfl
     have c1:=D.c 1 _ rfl
     have c2:=D.c 2 _ rfl
     have c3:=D.c 3 _ rfl
     have c4:=D.c 4 _ rfl
     have hRX:=HR.out.next (bel_to HBU.out bq) HR.out.lt
     have hBX:=bel_to HB.out (bel_to HBU.out bq)
     clear HF HSZ D bq HBU HB HR hf HST HS2 HDI HBY
     obtain ⟨W9,hW9⟩:∃ W9,X.setCells w.heap.size 0 [.int .i64 4,.string t,.slice none 0 0,.slice none 0 0,.int .i64 (a:Int)]=W9:=⟨_,rfl⟩
     have HW9:Hid (X.setCells w.heap.size 0 (#[.int .i64 4,.string t,.slice none 0 0,.slice none 0 0,.int .i64 (a:Int)]:Array Value).toList=W9):=hW9
     obtain ⟨C9,B9⟩:=put5 (vs:=[.int .i64 4,.string t,.slice none 0 0,.slice none 0 0,.int .i64 (a:Int)]) hRX (by simp) hBX hW9
     have HTH:=hide (hRX.there (n:=5) (by simp))
     have HC9:=hide C9
     have HB9:=hide B9
     clear C9 B9 hW9 hRX hBX
     go_wp2_with (first | (refine wpList_store_mid rfl 43 (.tmp 4) (.tmp 49) rfl w.heap.size 0 #[.int .i64 4,.string t,.slice none 0 0,.slice none 0 0,.int .i64 (a:Int)] rfl rfl HTH.out (by kernel_rfl) (by simp [Value.oneCell']) ?_; rw [HW9.out]))
     have r0:=HC9.out.c 0 _ rfl
     have r1:=HC9.out.c 1 _ rfl
     have r2:=HC9.out.c 2 _ rfl
     have r3:=HC9.out.c 3 _ rfl
     have r4:=HC9.out.c 4 _ rfl
     exact bodyPost_ret (v:=.tuple #[.agg #[.int .i64 4,.string t,.slice none 0 0,.slice none 0 0,.int .i64 (a:Int)],.bool true]) (by simp [results,Try.results54,go_sem,r0,r1,r2,r3,r4]) rfl ⟨HB9.out,_,_,_,_,rfl,fun _=>⟨rfl,HE.out⟩⟩
    | none =>
     simp only [tkF]
     obtain ⟨W4,hX⟩:∃ X,U.alloc (.cells #[.int .i64 0,.string ⟨#[]⟩,.slice none 0 0,.slice none 0 0,.int .i64 0] 43)=X:=⟨_,rfl⟩
     have bq:Below U.heap.size U W4:=by rw [←hX]; exact one_alloc _ _
     replace HR:=hide (HR.out.next (bel_to HBU.out bq) HR.out.lt)
     replace HB:=hide (bel_to HB.out (bel_to HBU.out bq))
     have HX3:=hide hX
     clear bq HBU hf hX
     go_upto_region 13 with fail
     rw [HX3.out]
     have HQ:=hide (HST.out W4)
     cases hp:hasP ((numsS s).drop a) (numsS ⟨#[34,49]⟩) with
     | false =>
      rw [hp] at HQ
      clear HST HS2 HDI HBY hp HX0 HX1 HX2 HX3
      go_wp2_with fail
      refine HQ.out.mono ?_
      rintro e w1 ⟨rfl,rfl⟩
      clear HQ
      go_upto_region 15 with fail
      obtain ⟨V,hV⟩:∃ V,w1.alloc (.cells #[.string ⟨#[45]⟩,.string ⟨#[42]⟩,.string ⟨#[124]⟩,.string ⟨#[37]⟩,.string ⟨#[43]⟩,.string ⟨#[60]⟩,.string ⟨#[62]⟩,.string ⟨#[61]⟩,.string ⟨#[126]⟩,.string ⟨#[36]⟩,.string ⟨#[35]⟩,.string ⟨#[44]⟩,.string ⟨#[47]⟩,.string ⟨#[92]⟩,.string ⟨#[123]⟩] 9)=V:=⟨_,rfl⟩
      have bv:Below w1.heap.size w1 V:=by rw [←hV]; exact one_alloc _ _
      have HC:=hide (HF.out fxJ4 (by decide) (by decide) w1.heap.size 15 4 V (by rw [←hV]; exact WsIn.new w1 fxJ4 9))
      have HVI:=hide hV
      have HBV:=hide bv
      clear bv
      go_wp2_with fail
      clear hV
      refine HC.out.mono ?_
      rintro e U ⟨rfl,hbu⟩
      have hRX:=HR.out.next (bel_to HBV.out hbu) HR.out.lt
      have hBX:=bel_to HB.out (bel_to HBV.out hbu)
      clear hbu HC HVI HBV HB HR HF
      cases hf:fxD ((numsS s).drop a) fxJ4 with
      | some t =>
       simp only [tkF]
       have HE:=hide (HSZ.out fxJ4 t (by decide) hf)
       clear HSZ hf
       obtain ⟨W9,hW9⟩:∃ W9,U.setCells w.heap.size 0 [.int .i64 4,.string t,.slice none 0 0,.slice none 0 0,.int .i64 (a:Int)]=W9:=⟨_,rfl⟩
       have HW9:Hid (U.setCells w.heap.size 0 (#[.int .i64 4,.string t,.slice none 0 0,.slice none 0 0,.int .i64 (a:Int)]:Array Value).toList=W9):=hW9
       obtain ⟨C9,B9⟩:=put5 (vs:=[.int .i64 4,.string t,.slice none 0 0,.slice none 0 0,.int .i64 (a:Int)]) hRX (by simp) hBX hW9
       have HTH:=hide (hRX.there (n:=5) (by simp))
       have HC9:=hide C9
       have HB9:=hide B9
       clear C9 B9 hW9 hRX hBX
       go_wp2_with (first | (refine wpList_store_mid rfl 43 (.tmp 4) (.tmp 74) rfl w.heap.size 0 #[.int .i64 4,.string t,.slice none 0 0,.slice none 0 0,.int .i64 (a:Int)] rfl rfl HTH.out (by kernel_rfl) (by simp [Value.oneCell']) ?_; rw [HW9.out]))
       have r0:=HC9.out.c 0 _ rfl
       have r1:=HC9.out.c 1 _ rfl
       have r2:=HC9.out.c 2 _ rfl
       have r3:=HC9.out.c 3 _ rfl
       have r4:=HC9.out.c 4 _ rfl
       exact bodyPost_ret (v:=.tuple #[.agg #[.int .i64 4,.string t,.slice none 0 0,.slice none 0 0,.int .i64 (a:Int)],.bool true]) (by simp [results,Try.results54,go_sem,r0,r1,r2,r3,r4]) rfl ⟨HB9.out,_,_,_,_,rfl,fun _=>⟨rfl,HE.out⟩⟩
      | none =>
       simp only [tkF]
       clear HSZ hf
       obtain ⟨W9,hW9⟩:∃ W9,U.setCells w.heap.size 0 [.int .i64 0,.string ⟨#[]⟩,.slice none 0 0,.slice none 0 0,.int .i64 0]=W9:=⟨_,rfl⟩
       have HW9:Hid (U.setCells w.heap.size 0 (#[.int .i64 0,.string ⟨#[]⟩,.slice none 0 0,.slice none 0 0,.int .i64 0]:Array Value).toList=W9):=hW9
       obtain ⟨C9,B9⟩:=put5 (vs:=[.int .i64 0,.string ⟨#[]⟩,.slice none 0 0,.slice none 0 0,.int .i64 0]) hRX (by simp) hBX hW9
       have HTH:=hide (hRX.there (n:=5) (by simp))
       have HC9:=hide C9
       have HB9:=hide B9
       clear C9 B9 hW9 hRX hBX
       go_wp2_with (first | (refine wpList_store_mid rfl 43 (.tmp 4) (.tmp 74) rfl w.heap.size 0 #[.int .i64 0,.string ⟨#[]⟩,.slice none 0 0,.slice none 0 0,.int .i64 0] rfl rfl HTH.out (by kernel_rfl) (by simp [Value.oneCell']) ?_; rw [HW9.out]))
       have r0:=HC9.out.c 0 _ rfl
       have r1:=HC9.out.c 1 _ rfl
       have r2:=HC9.out.c 2 _ rfl
       have r3:=HC9.out.c 3 _ rfl
       have r4:=HC9.out.c 4 _ rfl
       exact bodyPost_ret (v:=.tuple #[.agg #[.int .i64 0,.string ⟨#[]⟩,.slice none 0 0,.slice none 0 0,.int .i64 0],.bool false]) (by simp [results,Try.results54,go_sem,r0,r1,r2,r3,r4]) rfl ⟨HB9.out,_,_,_,_,rfl,fun h=>by cases h⟩
     | true =>
      rw [hp] at HQ
      have HSZ2:=hide (HS2.out hp)
      clear HST HS2 hp HX0 HX1 HX2 HX3
      by_cases hlt:a+2 < s.size
      ·have hlt2:¬ (s.size:Int)≤(a:Int)+2:=by omega
       have HD1:=hide (HDI.out ((s[a+2]'hlt).toNat:Int))
       clear HBY HDI
       cases hd:dgB ((s[a+2]'hlt).toNat:Int) with
       | true =>
        simp only [hd] at HD1
        clear hd
        go_wp2_with fail
        refine HQ.out.mono ?_
        rintro e w1 ⟨rfl,rfl⟩
        clear HQ
        go_wp2_with fail
        refine (HD1.out _).mono ?_
        rintro e w2 ⟨rfl,rfl⟩
        clear HD1
        go_upto_region 15 with fail
        obtain ⟨V,hV⟩:∃ V,w2.alloc (.cells #[.string ⟨#[45]⟩,.string ⟨#[42]⟩,.string ⟨#[124]⟩,.string ⟨#[37]⟩,.string ⟨#[43]⟩,.string ⟨#[60]⟩,.string ⟨#[62]⟩,.string ⟨#[61]⟩,.string ⟨#[126]⟩,.string ⟨#[36]⟩,.string ⟨#[35]⟩,.string ⟨#[44]⟩,.string ⟨#[47]⟩,.string ⟨#[92]⟩,.string ⟨#[123]⟩] 9)=V:=⟨_,rfl⟩
        have bv:Below w2.heap.size w2 V:=by rw [←hV]; exact one_alloc _ _
        have HC:=hide (HF.out fxJ4 (by decide) (by decide) w2.heap.size 15 4 V (by rw [←hV]; exact WsIn.new w2 fxJ4 9))
        have HVI:=hide hV
        have HBV:=hide bv
        clear bv
        go_wp2_with fail
        clear hV
        refine HC.out.mono ?_
        rintro e U ⟨rfl,hbu⟩
        have hRX:=HR.out.next (bel_to HBV.out hbu) HR.out.lt
        have hBX:=bel_to HB.out (bel_to HBV.out hbu)
        clear hbu HC HVI HBV HB HR HF
        cases hf:fxD ((numsS s).drop a) fxJ4 with
        | some t =>
         simp only [tkF]
         have HE:=hide (HSZ.out fxJ4 t (by decide) hf)
         clear HSZ hf
         obtain ⟨W9,hW9⟩:∃ W9,U.setCells w.heap.size 0 [.int .i64 4,.string t,.slice none 0 0,.slice none 0 0,.int .i64 (a:Int)]=W9:=⟨_,rfl⟩
         have HW9:Hid (U.setCells w.heap.size 0 (#[.int .i64 4,.string t,.slice none 0 0,.slice none 0 0,.int .i64 (a:Int)]:Array Value).toList=W9):=hW9
         obtain ⟨C9,B9⟩:=put5 (vs:=[.int .i64 4,.string t,.slice none 0 0,.slice none 0 0,.int .i64 (a:Int)]) hRX (by simp) hBX hW9
         have HTH:=hide (hRX.there (n:=5) (by simp))
         have HC9:=hide C9
         have HB9:=hide B9
         clear C9 B9 hW9 hRX hBX
         go_wp2_with (first | (refine wpList_store_mid rfl 43 (.tmp 4) (.tmp 74) rfl w.heap.size 0 #[.int .i64 4,.string t,.slice none 0 0,.slice none 0 0,.int .i64 (a:Int)] rfl rfl HTH.out (by kernel_rfl) (by simp [Value.oneCell']) ?_; rw [HW9.out]))
         have r0:=HC9.out.c 0 _ rfl
         have r1:=HC9.out.c 1 _ rfl
         have r2:=HC9.out.c 2 _ rfl
         have r3:=HC9.out.c 3 _ rfl
         have r4:=HC9.out.c 4 _ rfl
         exact bodyPost_ret (v:=.tuple #[.agg #[.int .i64 4,.string t,.slice none 0 0,.slice none 0 0,.int .i64 (a:Int)],.bool true]) (by simp [results,Try.results54,go_sem,r0,r1,r2,r3,r4]) rfl ⟨HB9.out,_,_,_,_,rfl,fun _=>⟨rfl,HE.out⟩⟩
        | none =>
         simp only [tkF]
         clear HSZ hf
         obtain ⟨W9,hW9⟩:∃ W9,U.setCells w.heap.size 0 [.int .i64 0,.string ⟨#[]⟩,.slice none 0 0,.slice none 0 0,.int .i64 0]=W9:=⟨_,rfl⟩
         have HW9:Hid (U.setCells w.heap.size 0 (#[.int .i64 0,.string ⟨#[]⟩,.slice none 0 0,.slice none 0 0,.int .i64 0]:Array Value).toList=W9):=hW9
         obtain ⟨C9,B9⟩:=put5 (vs:=[.int .i64 0,.string ⟨#[]⟩,.slice none 0 0,.slice none 0 0,.int .i64 0]) hRX (by simp) hBX hW9
         have HTH:=hide (hRX.there (n:=5) (by simp))
         have HC9:=hide C9
         have HB9:=hide B9
         clear C9 B9 hW9 hRX hBX
         go_wp2_with (first | (refine wpList_store_mid rfl 43 (.tmp 4) (.tmp 74) rfl w.heap.size 0 #[.int .i64 0,.string ⟨#[]⟩,.slice none 0 0,.slice none 0 0,.int .i64 0] rfl rfl HTH.out (by kernel_rfl) (by simp [Value.oneCell']) ?_; rw [HW9.out]))
         have r0:=HC9.out.c 0 _ rfl
         have r1:=HC9.out.c 1 _ rfl
         have r2:=HC9.out.c 2 _ rfl
         have r3:=HC9.out.c 3 _ rfl
         have r4:=HC9.out.c 4 _ rfl
         exact bodyPost_ret (v:=.tuple #[.agg #[.int .i64 0,.string ⟨#[]⟩,.slice none 0 0,.slice none 0 0,.int .i64 0],.bool false]) (by simp [results,Try.results54,go_sem,r0,r1,r2,r3,r4]) rfl ⟨HB9.out,_,_,_,_,rfl,fun h=>by cases h⟩
       | false =>
        simp only [hd] at HD1
        clear hd HF HSZ
        go_wp2_with fail
        refine HQ.out.mono ?_
        rintro e w1 ⟨rfl,rfl⟩
        clear HQ
        go_wp2_with fail
        refine (HD1.out _).mono ?_
        rintro e w2 ⟨rfl,rfl⟩
        have hRX:=HR.out
        have hBX:=HB.out
        clear HD1 HR HB
        obtain ⟨W9,hW9⟩:∃ W9,w2.setCells w.heap.size 0 [.int .i64 4,.string ⟨#[34,49]⟩,.slice none 0 0,.slice none 0 0,.int .i64 (a:Int)]=W9:=⟨_,rfl⟩
        have HW9:Hid (w2.setCells w.heap.size 0 (#[.int .i64 4,.string ⟨#[34,49]⟩,.slice none 0 0,.slice none 0 0,.int .i64 (a:Int)]:Array Value).toList=W9):=hW9
        obtain ⟨C9,B9⟩:=put5 (vs:=[.int .i64 4,.string ⟨#[34,49]⟩,.slice none 0 0,.slice none 0 0,.int .i64 (a:Int)]) hRX (by simp) hBX hW9
        have HTH:=hide (hRX.there (n:=5) (by simp))
        have HC9:=hide C9
        have HB9:=hide B9
        clear C9 B9 hW9 hRX hBX
        go_wp2_with (first | (refine wpList_store_mid rfl 43 (.tmp 4) (.tmp 69) rfl w.heap.size 0 #[.int .i64 4,.string ⟨#[34,49]⟩,.slice none 0 0,.slice none 0 0,.int .i64 (a:Int)] rfl rfl HTH.out (by kernel_rfl) (by simp [Value.oneCell']) ?_; rw [HW9.out]))
        have r0:=HC9.out.c 0 _ rfl
        have r1:=HC9.out.c 1 _ rfl
        have r2:=HC9.out.c 2 _ rfl
        have r3:=HC9.out.c 3 _ rfl
        have r4:=HC9.out.c 4 _ rfl
        exact bodyPost_ret (v:=.tuple #[.agg #[.int .i64 4,.string ⟨#[34,49]⟩,.slice none 0 0,.slice none 0 0,.int .i64 (a:Int)],.bool true]) (by simp [results,Try.results54,go_sem,r0,r1,r2,r3,r4]) rfl ⟨HB9.out,_,_,_,_,rfl,fun _=>⟨rfl,by decide,HSZ2.out⟩⟩
      ·have hlt2:(s.size:Int)≤(a:Int)+2:=by omega
       clear HBY HDI HF HSZ
       go_wp2_with fail
       refine HQ.out.mono ?_
       rintro e w1 ⟨rfl,rfl⟩
       have hRX:=HR.out
       have hBX:=HB.out
       clear HQ HR HB
       obtain ⟨W9,hW9⟩:∃ W9,w1.setCells w.heap.size 0 [.int .i64 4,.string ⟨#[34,49]⟩,.slice none 0 0,.slice none 0 0,.int .i64 (a:Int)]=W9:=⟨_,rfl⟩
       have HW9:Hid (w1.setCells w.heap.size 0 (#[.int .i64 4,.string ⟨#[34,49]⟩,.slice none 0 0,.slice none 0 0,.int .i64 (a:Int)]:Array Value).toList=W9):=hW9
       obtain ⟨C9,B9⟩:=put5 (vs:=[.int .i64 4,.string ⟨#[34,49]⟩,.slice none 0 0,.slice none 0 0,.int .i64 (a:Int)]) hRX (by simp) hBX hW9
       have HTH:=hide (hRX.there (n:=5) (by simp))
       have HC9:=hide C9
       have HB9:=hide B9
       clear C9 B9 hW9 hRX hBX
       go_wp2_with (first | (refine wpList_store_mid rfl 43 (.tmp 4) (.tmp 69) rfl w.heap.size 0 #[.int .i64 4,.string ⟨#[34,49]⟩,.slice none 0 0,.slice none 0 0,.int .i64 (a:Int)] rfl rfl HTH.out (by kernel_rfl) (by simp [Value.oneCell']) ?_; rw [HW9.out]))
       have r0:=HC9.out.c 0 _ rfl
       have r1:=HC9.out.c 1 _ rfl
       have r2:=HC9.out.c 2 _ rfl
       have r3:=HC9.out.c 3 _ rfl
       have r4:=HC9.out.c 4 _ rfl
       exact bodyPost_ret (v:=.tuple #[.agg #[.int .i64 4,.string ⟨#[34,49]⟩,.slice none 0 0,.slice none 0 0,.int .i64 (a:Int)],.bool true]) (by simp [results,Try.results54,go_sem,r0,r1,r2,r3,r4]) rfl ⟨HB9.out,_,_,_,_,rfl,fun _=>⟨rfl,by decide,HSZ2.out⟩⟩
end Go.Proofs.Ytnaejfoighmfeaa.Rn
