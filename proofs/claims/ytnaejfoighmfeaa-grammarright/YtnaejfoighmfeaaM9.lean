import Derived.Test.YtnaejfoighmfeaaM8
import Derived.Laws.BitsAllLaws
import Derived.Lib.Bits
import Derived.Test.YtnaejfoighmfeaaChecked
import GoSem.Claim
import GoSem.ClaimJoined
import GoSem.ClaimMapViews
import Derived.JoinedTies
import Derived.KernelRfl
import Derived.WalkKit
import Derived.ProofKit
import Derived.Below
import Derived.Deep.QuietTactic
import Derived.BigQuiet
import Derived.Lib.SlBytesConst
import Derived.Laws.BytesArg
import Derived.Laws.MakeOwn
import Derived.Deep.RegionHeld3
import Derived.Laws.AppendOwnNone
import Derived.BigFrame
import Derived.OpenShut
import Derived.ChangeOld
import Derived.SizedLaws
import Derived.Deep.DeepHandedRow
import Derived.Lib.LaidTab
import Derived.Deep.OwnRows
import Derived.Deep.RegionWith
import Derived.Deep.Slices
import Derived.Deep.Strs
import Derived.Deep.LoopGhost
import Derived.Lib.ConvBytes
import Derived.Deep.RegionLaw
import Derived.Deep.CutRange
import Derived.Lib.SliceRun
import Derived.WalkLawsBesides
import Derived.Maps.AppendAt
import Derived.Deep.MidRow
import Derived.Defers
import Derived.Recover
import Derived.Deep.Cut
import Derived.ChangeMaps5
namespace Go.Proofs.Ytnaejfoighmfeaa.Rn
open Go.ChangeShapes Go.WideShapes Go.ChangeAt Go.RowKit
set_option maxRecDepth 100000
set_option linter.unusedVariables false
set_option linter.unusedSimpArgs false
def mnB:ByteArray:=⟨#[45]⟩
theorem mnB_nums:numsS mnB=[45]:=by decide
def GvSk (s:ByteArray) (a:Nat) (w:World) (e:Ending) (w':World):Prop:=∃ T,GvS T a w e w'∧(T.2.2=none→1≤T.2.1∧a+T.2.1≤s.size)
theorem beg_digit {s:ByteArray} {a:Nat} (ha:a<s.size) (h:dgB (byt s a)=true):begD (numsS mnB) ((numsS s).drop a)=true:=by
 rw [numsS_drop s a ha,mnB_nums]
 have hne:¬ byt s a=45:=by
  intro he
  rw [he] at h
  exact absurd h (by decide)
 have hp:hasP (byt s a::(numsS s).drop (a+1)) [45]=false:=by
  simp only [hasP,List.isPrefixOf,Bool.and_true,beq_eq_false_iff_ne]
  exact fun he=>hne he.symm
 simp only [begD,offD,hp]
 exact h
theorem beg_minus {s:ByteArray} {a:Nat} (ha:a+1<s.size) (hp:hasP ((numsS s).drop a) (numsS mnB)=true) (h:dgB (byt s (a+1))=true):begD (numsS mnB) ((numsS s).drop a)=true:=by
 have hd:((numsS s).drop a).drop 1=byt s (a+1)::(numsS s).drop (a+1+1):=by rw [List.drop_drop,numsS_drop s (a+1) ha]
 rw [mnB_nums] at hp
 simp only [begD,offD,mnB_nums,hp,if_true,List.length_cons,List.length_nil,Nat.zero_add,hd]
 exact h
theorem byt_get {s:ByteArray} {a:Nat} (h:a<s.size):(((s[a]'h).toNat:Nat):Int)=byt s a:=by
 unfold byt
 rw [dif_pos h]
set_option maxHeartbeats 8000000 in
theorem begins55 (s:ByteArray) (a:Nat) (ha:a≤s.size) (hs:s.size≤8192) (w:World) :
  Calls Try.prog 55 #[.string s,.int .i64 (a:Int)] w fun e w'=>(∃ b:Bool,e=.returned (.bool b)∧(b=true→begD (numsS mnB) ((numsS s).drop a)=true))∧w'=w:=by
 have HST:=hide (starts25 s ⟨#[45]⟩ a ha (by omega) (by decide) w)
 have HDI:=hide (fun c W=>digit73 c W)
 have HSM:=hide (fun c W=>small58 c W)
 have HBD:=hide (fun h1 h2=>beg_digit (s:=s) (a:=a) h1 h2)
 have HBM:=hide (fun h1 h2 h3=>beg_minus (s:=s) (a:=a) h1 h2 h3)
 by_cases hlt:a<s.size
 ·have hlt2:(a:Int)<(s.size:Int):=by omega
  have hx:=byt_run s a hlt
  have HD1:=hide (HDI.out (byt s a) w)
  cases hd:dgB (byt s a) with
 |true =>
   rw [hd] at HD1
   have HB:=hide (HBD.out hlt hd)
   clear HBD HBM hd HST HDI HSM
   generalize byt s a=c at *
   go_enter Try.func55,Try.ntmps55
   go_wp2_with fail
   refine HD1.out.mono ?_
   rintro e w2 ⟨rfl,rfl⟩
   go_wp2
   go_ret
   exact ⟨⟨true,rfl,fun _=>HB.out⟩,rfl⟩
 |false =>
   rw [hd] at HD1
   clear HBD hd
   have HG0:=hide (fun (h:0<s.size) (h0:a=0)=>(show (((s[0]'h).toNat:Nat):Int)=byt s a by subst h0;exact byt_get h))
   generalize byt s a=c at *
   cases hp:hasP ((numsS s).drop a) (numsS ⟨#[45]⟩) with
  |false =>
    rw [hp] at HST
    clear HBM hp HDI HSM
    go_enter Try.func55,Try.ntmps55
    go_wp2_with fail
    refine HD1.out.mono ?_
    rintro e w2 ⟨rfl,rfl⟩
    go_wp2_with fail
    refine HST.out.mono ?_
    rintro e w2 ⟨rfl,rfl⟩
    go_wp2
    go_ret
    exact ⟨⟨false,rfl,fun h=>by cases h⟩,rfl⟩
  |true =>
    rw [hp] at HST
    by_cases h1:a+1<s.size
    ·have h2:¬ (s.size:Int)≤(a:Int)+1:=by omega
     have HD2:=hide (HDI.out (((s[a+1]'h1).toNat:Nat):Int) w)
     cases hd:dgB (((s[a+1]'h1).toNat:Nat):Int) with
    |false =>
      rw [hd] at HD2
      clear HBM hp HDI HSM hd
      go_enter Try.func55,Try.ntmps55
      go_wp2_with fail
      refine HD1.out.mono ?_
      rintro e w2 ⟨rfl,rfl⟩
      go_wp2_with fail
      refine HST.out.mono ?_
      rintro e w2 ⟨rfl,rfl⟩
      go_wp2_with fail
      refine HD2.out.mono ?_
      rintro e w2 ⟨rfl,rfl⟩
      go_wp2
      go_ret
      exact ⟨⟨false,rfl,fun h=>by cases h⟩,rfl⟩
    |true =>
      rw [hd] at HD2
      have HB:=hide (HBM.out h1 hp (by rw [←byt_get h1];exact hd))
      clear HBM hp hd
      by_cases h0:a=0
      ·subst h0
       rw [←HG0.out hlt rfl] at HD1
       clear HDI HSM HG0 hx
       go_enter Try.func55,Try.ntmps55
       go_wp2_with fail
       refine HD1.out.mono ?_
       rintro e w2 ⟨rfl,rfl⟩
       go_wp2_with fail
       refine HST.out.mono ?_
       rintro e w2 ⟨rfl,rfl⟩
       go_wp2_with fail
       refine HD2.out.mono ?_
       rintro e w2 ⟨rfl,rfl⟩
       go_wp2
       go_ret
       exact ⟨⟨true,rfl,fun _=>HB.out⟩,rfl⟩
      ·have h3:a-1<s.size:=by omega
       have h4:((a:Int)==0)=false:=beq_eq_false_iff_ne.2 (by omega)
       have hpx:=fun W=>byt_run s (a-1) h3 W
       rw [show ((a-1:Nat):Int)=(a:Int)-1 by omega] at hpx
       generalize byt s (a-1)=d at *
       have HS2:=hide (HSM.out d w)
       have HD3:=hide (HDI.out d w)
       clear HDI HSM
       cases hs1:smB d with
      |true =>
        rw [hs1] at HS2
        go_enter Try.func55,Try.ntmps55
        go_wp2_with fail
        refine HD1.out.mono ?_
        rintro e w2 ⟨rfl,rfl⟩
        go_wp2_with fail
        refine HST.out.mono ?_
        rintro e w2 ⟨rfl,rfl⟩
        go_wp2_with fail
        refine HD2.out.mono ?_
        rintro e w2 ⟨rfl,rfl⟩
        go_wp2_with fail
        refine HS2.out.mono ?_
        rintro e w2 ⟨rfl,rfl⟩
        go_wp2
        go_ret
        exact ⟨⟨false,rfl,fun h=>by cases h⟩,rfl⟩
      |false =>
        rw [hs1] at HS2
        cases hd1:dgB d with
       |true =>
         rw [hd1] at HD3
         go_enter Try.func55,Try.ntmps55
         go_wp2_with fail
         refine HD1.out.mono ?_
         rintro e w2 ⟨rfl,rfl⟩
         go_wp2_with fail
         refine HST.out.mono ?_
         rintro e w2 ⟨rfl,rfl⟩
         go_wp2_with fail
         refine HD2.out.mono ?_
         rintro e w2 ⟨rfl,rfl⟩
         go_wp2_with fail
         refine HS2.out.mono ?_
         rintro e w2 ⟨rfl,rfl⟩
         go_wp2_with fail
         refine HD3.out.mono ?_
         rintro e w2 ⟨rfl,rfl⟩
         go_wp2
         go_ret
         exact ⟨⟨false,rfl,fun h=>by cases h⟩,rfl⟩
       |false =>
         rw [hd1] at HD3
         go_enter Try.func55,Try.ntmps55
         go_wp2_with fail
         refine HD1.out.mono ?_
         rintro e w2 ⟨rfl,rfl⟩
         go_wp2_with fail
         refine HST.out.mono ?_
         rintro e w2 ⟨rfl,rfl⟩
         go_wp2_with fail
         refine HD2.out.mono ?_
         rintro e w2 ⟨rfl,rfl⟩
         go_wp2_with fail
         refine HS2.out.mono ?_
         rintro e w2 ⟨rfl,rfl⟩
         go_wp2_with fail
         refine HD3.out.mono ?_
         rintro e w2 ⟨rfl,rfl⟩
         go_wp2
         all_goals go_ret
         all_goals exact ⟨⟨_,rfl,fun _=>HB.out⟩,rfl⟩
    ·have h2:(s.size:Int)≤(a:Int)+1:=by omega
     clear HBM hp HDI HSM
     go_enter Try.func55,Try.ntmps55
     go_wp2_with fail
     refine HD1.out.mono ?_
     rintro e w2 ⟨rfl,rfl⟩
     go_wp2_with fail
     refine HST.out.mono ?_
     rintro e w2 ⟨rfl,rfl⟩
     go_wp2
     go_ret
     exact ⟨⟨false,rfl,fun h=>by cases h⟩,rfl⟩
 ·have hlt2:¬ (a:Int)<(s.size:Int):=by omega
  have hp:hasP ((numsS s).drop a) (numsS ⟨#[45]⟩)=false:=starts_short s ⟨#[45]⟩ a (by show ¬ a+1≤s.size;omega) ha
  rw [hp] at HST
  clear HBM HBD hp HDI HSM
  go_enter Try.func55,Try.ntmps55
  go_wp2_with fail
  refine HST.out.mono ?_
  rintro e w2 ⟨rfl,rfl⟩
  go_wp2
  go_ret
  exact ⟨⟨false,rfl,fun h=>by cases h⟩,rfl⟩
set_option maxHeartbeats 16000000 in
theorem numbers56 (s:ByteArray) (a:Nat) (ha:a≤s.size) (hs:s.size≤8192) (hb0:begD (numsS mnB) ((numsS s).drop a)=true) (w:World) :
  Calls Try.prog 56 #[.string s,.int .i64 (a:Int)] w fun e w'=>GvSk s a w e w':=by
 have ht:mnB.size≤1000:=by decide
 obtain ⟨i0,hi,hz0,hz1,hz2⟩:=info_parts info2
 obtain ⟨W2,hW2⟩:∃ W2,(w.alloc (.cells #[.int .i64 0,.string ⟨#[]⟩,.slice none 0 0,.slice none 0 0,.int .i64 0] 43)).alloc (.cells #[.int .i64 1,.string ⟨#[]⟩,.slice none 0 0,.slice none 0 0,.int .i64 (a:Int)] 43)=W2:=⟨_,rfl⟩
 have hs1:(w.alloc (.cells #[.int .i64 0,.string ⟨#[]⟩,.slice none 0 0,.slice none 0 0,.int .i64 0] 43)).heap.size=w.heap.size+1:=by simp
 have b2:Below w.heap.size w W2:=by rw [←hW2];exact two_allocs _ _ _
 have s2:W2.heap.size=w.heap.size+2:=by rw [←hW2];simp
 have R2:Cs W2 w.heap.size [.int .i64 0,.string ⟨#[]⟩,.slice none 0 0,.slice none 0 0,.int .i64 0]:=by
  rw [←hW2]
  exact (Cs.new w [.int .i64 0,.string ⟨#[]⟩,.slice none 0 0,.slice none 0 0,.int .i64 0] 43).next (one_alloc _ _) (by simp)
 have D2:Cs W2 (w.heap.size+1) [.int .i64 1,.string ⟨#[]⟩,.slice none 0 0,.slice none 0 0,.int .i64 (a:Int)]:=by
  have h:=Cs.new (w.alloc (.cells #[.int .i64 0,.string ⟨#[]⟩,.slice none 0 0,.slice none 0 0,.int .i64 0] 43)) [.int .i64 1,.string ⟨#[]⟩,.slice none 0 0,.slice none 0 0,.int .i64 (a:Int)] 43
  rw [hs1] at h
  rw [←hW2]
  exact h
 have HSTATE:Hid (∀ wr,Below (w.heap.size+2) W2 wr→Cs wr w.heap.size [.int .i64 0,.string ⟨#[]⟩,.slice none 0 0,.slice none 0 0,.int .i64 0]∧Cs wr (w.heap.size+1) [.int .i64 1,.string ⟨#[]⟩,.slice none 0 0,.slice none 0 0,.int .i64 (a:Int)]∧Below w.heap.size w wr∧w.heap.size+2≤wr.heap.size):=fun wr h =>
  ⟨R2.next h (by omega),D2.next h (by omega),b2.trans (h.mono (by omega)),by have:=h.size;omega⟩
 have HNX:Hid (Below (w.heap.size+2) W2 W2):=Below.refl _ _
 have HOWN:Hid (W2.ownsRow (w.heap.size+2) 2 1 (.slice none 0 0) 0 (iv [])):=World.ownsRow_nil _ _ _ _
 have HNU:=hide (fun j (hj:j≤s.size) W=>number74 s mnB j hj (by omega) ht W)
 have HBL:=hide (fun j (hj:j≤s.size) W=>blanks24 s j hj (by omega) W)
 have HBE:=hide (fun j (hj:j≤s.size) W=>begins55 s j hj hs W)
 have HEP:=hide (fun j=>endD_pos (m:=numsS mnB) (l:=(numsS s).drop j))
 simp only [List.drop_drop,List.length_drop,numsS_len] at HEP
 have HLB:=hide (fun j=>lead_le blB ((numsS s).drop j))
 simp only [List.length_drop,numsS_len] at HLB
 obtain ⟨BG,hBG⟩:∃ BG:Nat→Bool,∀ j,begD (numsS mnB) ((numsS s).drop j)=BG j:=⟨_,fun _=>rfl⟩
 obtain ⟨EN,hEN⟩:∃ EN:Nat→Nat,∀ j,endD (numsS mnB) ((numsS s).drop j)=EN j:=⟨_,fun _=>rfl⟩
 obtain ⟨VA,hVA⟩:∃ VA:Nat→Int,∀ j,valD (numsS mnB) ((numsS s).drop j)=VA j:=⟨_,fun _=>rfl⟩
 obtain ⟨LD,hLD⟩:∃ LD:Nat→Nat,∀ j,lead blB ((numsS s).drop j)=LD j:=⟨_,fun _=>rfl⟩
 have HB0:=hide hb0
 simp only [hBG,hEN,hVA,hLD] at HNU HBL HBE HEP HLB HB0
 have HW2:=hide hW2
 have HA0:=hide ha
 have HSZ:=hide hs
 clear hBG hEN hVA hLD hW2 hs1 b2 s2 R2 D2 hb0 ha hs ht
 go_enter Try.func56,Try.ntmps56
 go_wp2
 rw [HW2.out]
 go_loopg [1,8] (s.size+1-a) (fun g av lv wr=>∃ (j:Nat) (xs:List Int),g+j=s.size+1∧j≤s.size∧a≤j∧xs.length≤j∧av=.int .i64 (j:Int)∧wr.ownsRow (w.heap.size+2) 2 1 lv xs.length (iv xs)∧Below (w.heap.size+2) W2 wr∧BG j=true)
 case atStart=>exact ⟨a,[],by have:=HA0.out;omega,HA0.out,Nat.le_refl _,by simp,rfl,HOWN.out,HNX.out,HB0.out⟩
 case round =>
  clear HOWN HNX HB0 HW2
  obtain ⟨j,xs,hg,hjs,haj,hxj,rfl,hown,hnx,hbg⟩:=hrel
  have HN:=hide (HNU.out j hjs)
  have HOW:=hide hown
  have HNX:=hide hnx
  have HBG:=hide hbg
  have hep:=HEP.out j hbg
  clear hown hnx hbg HNU
  go_wp2_with fail
  refine (HN.out _).mono ?_
  rintro e w1 ⟨⟨v,rfl,hv⟩,rfl⟩
  have HV:=hide hv
  clear hv HN
  cases hf:fits (VA j) with
 |false =>
   obtain ⟨hrs,hwd,hbw,hl2⟩:=HSTATE.out w1 HNX.out
   have c0:=hwd.c 0 _ rfl
   have c1:=hwd.c 1 _ rfl
   have c2:=hwd.c 2 _ rfl
   have c3:=hwd.c 3 _ rfl
   have c4:=hwd.c 4 _ rfl
   obtain ⟨W9,hW9⟩:∃ W9,w1.setCells w.heap.size 0 [.int .i64 1,.string ⟨#[]⟩,.slice none 0 0,.slice none 0 0,.int .i64 (a:Int)]=W9:=⟨_,rfl⟩
   have HW9:Hid (w1.setCells w.heap.size 0 (#[.int .i64 1,.string ⟨#[]⟩,.slice none 0 0,.slice none 0 0,.int .i64 (a:Int)]:Array Value).toList=W9):=hW9
   obtain ⟨C9,B9⟩:=hrs.put (us:=[.int .i64 1,.string ⟨#[]⟩,.slice none 0 0,.slice none 0 0,.int .i64 (a:Int)]) (by simp) hW9
   have HTH:=hide (hrs.there (n:=5) (by simp))
   have HC9:=hide C9
   have HB9:=hide (hbw.trans (B9.below hbw.size fun k hk=>by omega))
   clear HSTATE HEP HLB HBL HBE HNX HOW HBG HV hrs hwd hbw hl2 C9 B9 hW9
   go_wp2_with (first|(refine wpList_store_mid rfl 43 (.tmp 4) (.tmp 24) rfl w.heap.size 0 #[.int .i64 1,.string ⟨#[]⟩,.slice none 0 0,.slice none 0 0,.int .i64 (a:Int)] rfl rfl HTH.out (by kernel_rfl) (by simp [Value.oneCell']) ?_;rw [HW9.out]))
   have r0:=HC9.out.c 0 _ rfl
   have r1:=HC9.out.c 1 _ rfl
   have r2:=HC9.out.c 2 _ rfl
   have r3:=HC9.out.c 3 _ rfl
   have r4:=HC9.out.c 4 _ rfl
   exact bodyPost_ret (v:=.tuple #[.agg #[.int .i64 1,.string ⟨#[]⟩,.slice none 0 0,.slice none 0 0,.int .i64 (a:Int)],.int .i64 (j:Int),.int .i64 (j:Int)]) (by simp [results,Try.results56,go_sem,r0,r1,r2,r3,r4]) rfl (by
    refine ⟨(xs,j-a,some (j-a)),⟨HB9.out,?_⟩,fun h=>by cases h⟩
    show _=Ending.returned (.tuple #[.agg #[.int .i64 1,.string ⟨#[]⟩,.slice none 0 0,.slice none 0 0,.int .i64 (a:Int)],.int .i64 ((a+(j-a):Nat):Int),.int .i64 ((a+(j-a):Nat):Int)])
    rw [show a+(j-a)=j by omega])
 |true =>
   have hv:=HV.out hf
   subst hv
   have hown2:=HOW.out
   have hlt2:=(HSTATE.out w1 HNX.out).2.2.2
   obtain ⟨st,hst⟩:∃ st,j+EN j=st:=⟨_,rfl⟩
   have hst1:j<st∧st≤s.size:=by omega
   have HBS:=hide (HBL.out st hst1.2)
   have HSZ':=HSZ.out
   have hld:=HLB.out st
   generalize hv:VA j=v at *
   clear hf hv HEP HLB HBL hep HV HOW
   go_wp2_with (at_builtin;refine wpList_append_own _ rfl _ _ 109 rfl (w.heap.size+2) 2 i0 (.int .i64 0) 1 8 Try.underlying109 hi hz0 hz1 hz2 rfl (by decide) _ _ _ rfl (hown2.alloc _) ⟨w1.heap.size,0,none⟩ 1 1 [.int .i64 v] rfl rfl ?c1 ?c2 ?c3 ?c4 ?c5 ?_)
   case c1 =>
    intro j u hj
    match j,hj with
   |0,hj=>simp at hj;subst hj;simp [Addr.add]
   case c2=>intro u hu;simp at hu;subst hu;rfl
   case c3=>unfold maxLen;omega
   case c4=>omega
   case c5=>simp;omega
   intro v' w3 hown' hgrow _
   have hown3:w3.ownsRow (w.heap.size+2) 2 1 v' (xs++[v]).length (iv (xs++[v])):=by
    rw [List.length_append,show iv (xs++[v])=iv xs++[.int .i64 v] from List.map_append];exact hown'
   have HNX3:=hide ((HNX.out.alloc (show w.heap.size+2≤w1.heap.size by omega) _).grown hgrow (by simp;omega) (fun q hq=>(hown2.lt q hq).1))
   have HOW3:=hide hown3
   clear hown' hgrow hown2 HNX hown3
   obtain ⟨xs2,hxs2⟩:∃ xs2,xs++[v]=xs2:=⟨_,rfl⟩
   have hxl2:xs2.length≤st:=by rw [←hxs2,List.length_append];simp;omega
   have HXE:=hide hxs2
   rw [hxs2] at HOW3
   have hlt3:=(HSTATE.out w3 HNX3.out).2.2.2
   go_wp2_with fail
   refine (HBS.out _).mono ?_
   rintro e w4 ⟨rfl,rfl⟩
   clear HBS
   obtain ⟨nx,hnx⟩:∃ nx,st+LD st=nx:=⟨_,rfl⟩
   have hnx2:st≤nx∧nx≤s.size:=by omega
   simp only [hnx]
   clear hld hnx
   have HBN:=hide (HBE.out nx hnx2.2)
   by_cases heq:nx=st
   ·subst heq
    have hxl3:xs2.length≤8192:=by omega
    clear HBN
    have HFT:=hide (show 1≤nx-a∧a+(nx-a)≤s.size from by omega)
    obtain ⟨pa,pc,rfl,hrow⟩:=row_owned (lo:=w.heap.size+2) HOW3.out (by omega) (Nat.le_refl _)
    obtain ⟨hrs,hwd,hbw,hl2⟩:=HSTATE.out w4 HNX3.out
    have HRS:=hide hrs
    have HWD:=hide hwd
    have HBW:=hide hbw
    have HL2:=hide hl2
    clear hrs hwd hbw hl2 HSTATE HNX3 HOW3
    have HNM:=hide (rnums_any 0 xs2 pa pc w4 hrow (by omega))
    by_cases hx1:xs2.length=1
    ·obtain ⟨z,hz⟩:∃ z,xs2=[z]:=List.length_eq_one_iff.1 hx1
     obtain ⟨g,off,hpa,hgo,hgl,hcz⟩:∃ g off,pa=some ⟨g,off,none⟩∧w.heap.size+2≤g∧g<w4.heap.size∧w4.cell? ⟨g,off,none⟩=some (.int .i64 z):=by
      rcases hrow.2 with h|⟨g,off,h1,h0,h2,h3⟩
      ·rw [h] at hz;cases hz
      ·exact ⟨g,off,h1,h0,h2,by have:=h3 0 (by omega);rw [hz] at this;exact this⟩
     subst hpa
     have HLT:=hide (show litD xs2=atomA z by unfold litD;rw [if_pos hx1,hz];rfl)
     have HGL:=hide hgl
     have HGO:=hide hgo
     have HCZ:=hide hcz
     have hnl:(numsA xs2).cells.length=1:=by simp [numsA,Ar.cells,numCs_len,hz]
     have HNL:=hide hnl
     rw [hx1] at HNM
     have HX1:=hide hx1
     have HAT:=hide (fun V=>ratom_any 0 z V)
     clear hrow hz hgl hgo hcz hnl
     rw [hx1]
     clear hx1
     go_wp2_with fail
     refine HNM.out.mono ?_
     rintro e w5 ⟨⟨vv,rfl,hin⟩,hb5⟩
     clear HNM
     obtain ⟨z1,m1,z2,m2,hvv,-⟩:=hin
     have hv2:vv=.agg #[.slice z1 1 m1,.slice z2 1 m2]:=by rw [hvv,HNL.out];rfl
     subst hv2
     have D5:=HWD.out.next hb5 HWD.out.lt
     obtain ⟨D6,B6⟩:=D5.set2 (b2:=.slice z1 1 m1) (b3:=.slice z2 1 m2)
     have hcz6:=(B6.cell (p:=⟨g,off,none⟩) (Nat.lt_of_lt_of_le HGL.out hb5.size) (by have:=HGO.out;show ¬ g=w.heap.size+1;omega)).trans ((hb5.cell (p:=⟨g,off,none⟩) HGL.out).trans HCZ.out)
     have R5:=HRS.out.next hb5 HRS.out.lt
     have R6:=R5.but B6 (by omega)
     have HBW6:=hide ((HBW.out.trans (hb5.mono HBW.out.size)).trans (B6.below (by have:=HL2.out;have:=hb5.size;omega) fun k hk=>by omega))
     have hs6:w.heap.size+2≤((w5.setCell ⟨w.heap.size+1,2,none⟩ (.slice z1 1 m1)).setCell ⟨w.heap.size+1,3,none⟩ (.slice z2 1 m2)).heap.size:=by have:=B6.size;have:=hb5.size;have:=HL2.out;omega
     have c2:=D5.c 2 _ rfl
     have c3:=D5.c 3 _ rfl
     have f2:=D5.z 2
     have f3:=D5.z 3
     obtain ⟨W6,hW6⟩:∃ W6,(w5.setCell ⟨w.heap.size+1,2,none⟩ (.slice z1 1 m1)).setCell ⟨w.heap.size+1,3,none⟩ (.slice z2 1 m2)=W6:=⟨_,rfl⟩
     rw [hW6] at D6 B6 hcz6 R6 HBW6 hs6
     have HD6:=hide D6
     have HR6:=hide R6
     have HS6:=hide hs6
     clear D5 R5 D6 R6 B6 hb5 HWD HRS HBW hvv hs6
     go_wp2_with fail
     refine (HAT.out _).mono ?_
     rintro e w7 ⟨⟨vv,rfl,hin⟩,hb7⟩
     have HIN:=hide hin
     obtain ⟨y1,n1,y2,n2,hvv,-⟩:=hin
     have hv2:vv=.agg #[.slice y1 0 n1,.slice y2 1 n2]:=hvv
     subst hv2
     clear c2 c3 f2 f3 hW6
     have D7:=HD6.out.next hb7 HD6.out.lt
     obtain ⟨D8,B8⟩:=D7.set2 (b2:=.slice y1 0 n1) (b3:=.slice y2 1 n2)
     have R7:=HR6.out.next hb7 HR6.out.lt
     have R8:=R7.but B8 (by omega)
     have HBW8:=hide ((HBW6.out.trans (hb7.mono HBW6.out.size)).trans (B8.below (by have:=HS6.out;have:=hb7.size;omega) fun k hk=>by omega))
     have e2:=D7.c 2 _ rfl
     have e3:=D7.c 3 _ rfl
     have h2:=D7.z 2
     have h3:=D7.z 3
     obtain ⟨W8,hW8⟩:∃ W8,(w7.setCell ⟨w.heap.size+1,2,none⟩ (.slice y1 0 n1)).setCell ⟨w.heap.size+1,3,none⟩ (.slice y2 1 n2)=W8:=⟨_,rfl⟩
     rw [hW8] at D8 B8 R8 HBW8
     have c0:=D8.c 0 _ rfl
     have c1:=D8.c 1 _ rfl
     have c2':=D8.c 2 _ rfl
     have c3':=D8.c 3 _ rfl
     have c4:=D8.c 4 _ rfl
     obtain ⟨W9,hW9⟩:∃ W9,W8.setCells w.heap.size 0 [.int .i64 1,.string ⟨#[]⟩,.slice y1 0 n1,.slice y2 1 n2,.int .i64 (a:Int)]=W9:=⟨_,rfl⟩
     have HW9:Hid (W8.setCells w.heap.size 0 (#[.int .i64 1,.string ⟨#[]⟩,.slice y1 0 n1,.slice y2 1 n2,.int .i64 (a:Int)]:Array Value).toList=W9):=hW9
     obtain ⟨C9,B9⟩:=R8.put (us:=[.int .i64 1,.string ⟨#[]⟩,.slice y1 0 n1,.slice y2 1 n2,.int .i64 (a:Int)]) (by simp) hW9
     have HTH:=hide (R8.there (n:=5) (by simp))
     have HC9:=hide C9
     have HINN:Hid (ArIn 1 w.heap.size W9 (atomA z) (.agg #[.slice y1 0 n1,.slice y2 1 n2])):=by
      have hs7:=hb7.size
      exact arIn_low ((HIN.out.keeps (but_keeps B8 (by have:=HS6.out;omega))).keeps (but_keeps B9 (by have:=HS6.out;omega))) (by have:=HS6.out;omega)
     have HB9:=hide (HBW8.out.trans (B9.below HBW8.out.size fun k hk=>by omega))
     clear D7 D8 B8 R7 R8 hb7 HD6 HR6 HIN C9 B9 hW9 HBW6 HBW8 hvv
     go_wp2_with (first|(refine wpList_store_mid rfl 43 (.tmp 4) (.tmp 56) rfl w.heap.size 0 #[.int .i64 1,.string ⟨#[]⟩,.slice y1 0 n1,.slice y2 1 n2,.int .i64 (a:Int)] rfl rfl HTH.out (by kernel_rfl) (by simp [Value.oneCell']) ?_;rw [HW9.out]))
     have r0:=HC9.out.c 0 _ rfl
     have r1:=HC9.out.c 1 _ rfl
     have r2:=HC9.out.c 2 _ rfl
     have r3:=HC9.out.c 3 _ rfl
     have r4:=HC9.out.c 4 _ rfl
     exact bodyPost_ret (v:=.tuple #[.agg #[.int .i64 1,.string ⟨#[]⟩,.slice y1 0 n1,.slice y2 1 n2,.int .i64 (a:Int)],.int .i64 (nx:Int),.int .i64 (-1)]) (by simp [results,Try.results56,go_sem,r0,r1,r2,r3,r4]) rfl (by
      refine ⟨(xs2,nx-a,none),⟨HB9.out,y1,n1,y2,n2,?_,?_⟩,fun _=>HFT.out⟩
      ·rw [show litD (xs2,nx-a,(none:Option Nat)).1=atomA z from HLT.out,show ((a+(xs2,nx-a,(none:Option Nat)).2.1:Nat):Int)=(nx:Int) by show ((a+(nx-a):Nat):Int)=_;omega]
       rfl
      ·rw [show litD (xs2,nx-a,(none:Option Nat)).1=atomA z from HLT.out];exact HINN.out)
    ·have hx1':((xs2.length:Int)==1)=false:=beq_eq_false_iff_ne.2 (by omega)
     have HLT:=hide (show litD xs2=numsA xs2 by unfold litD;rw [if_neg hx1])
     have hnl:(numsA xs2).cells.length=xs2.length:=by simp [numsA,Ar.cells,numCs_len]
     have HNL:=hide hnl
     have HS6:=hide HL2.out
     have HD6:=hide HWD.out
     have HR6:=hide HRS.out
     have HBW6:=hide HBW.out
     clear hrow hx1 hnl HWD HRS HBW
     obtain ⟨XL,hXL⟩:∃ XL,xs2.length=XL:=⟨_,rfl⟩
     rw [hXL] at HNM HNL hx1'
     simp only [hXL]
     clear hXL
     go_wp2_with fail
     refine HNM.out.mono ?_
     rintro e w7 ⟨⟨vv,rfl,hin⟩,hb7⟩
     clear HNM
     have HIN:=hide hin
     obtain ⟨y1,n1,y2,n2,hvv,-⟩:=hin
     have hv2:vv=.agg #[.slice y1 1 n1,.slice y2 XL n2]:=by rw [hvv,HNL.out];rfl
     subst hv2
     have D7:=HD6.out.next hb7 HD6.out.lt
     obtain ⟨D8,B8⟩:=D7.set2 (b2:=.slice y1 1 n1) (b3:=.slice y2 XL n2)
     have R7:=HR6.out.next hb7 HR6.out.lt
     have R8:=R7.but B8 (by omega)
     have HBW8:=hide ((HBW6.out.trans (hb7.mono HBW6.out.size)).trans (B8.below (by have:=HS6.out;have:=hb7.size;omega) fun k hk=>by omega))
     have e2:=D7.c 2 _ rfl
     have e3:=D7.c 3 _ rfl
     have h2:=D7.z 2
     have h3:=D7.z 3
     obtain ⟨W8,hW8⟩:∃ W8,(w7.setCell ⟨w.heap.size+1,2,none⟩ (.slice y1 1 n1)).setCell ⟨w.heap.size+1,3,none⟩ (.slice y2 XL n2)=W8:=⟨_,rfl⟩
     rw [hW8] at D8 B8 R8 HBW8
     have c0:=D8.c 0 _ rfl
     have c1:=D8.c 1 _ rfl
     have c2':=D8.c 2 _ rfl
     have c3':=D8.c 3 _ rfl
     have c4:=D8.c 4 _ rfl
     obtain ⟨W9,hW9⟩:∃ W9,W8.setCells w.heap.size 0 [.int .i64 1,.string ⟨#[]⟩,.slice y1 1 n1,.slice y2 XL n2,.int .i64 (a:Int)]=W9:=⟨_,rfl⟩
     have HW9:Hid (W8.setCells w.heap.size 0 (#[.int .i64 1,.string ⟨#[]⟩,.slice y1 1 n1,.slice y2 XL n2,.int .i64 (a:Int)]:Array Value).toList=W9):=hW9
     obtain ⟨C9,B9⟩:=R8.put (us:=[.int .i64 1,.string ⟨#[]⟩,.slice y1 1 n1,.slice y2 XL n2,.int .i64 (a:Int)]) (by simp) hW9
     have HTH:=hide (R8.there (n:=5) (by simp))
     have HC9:=hide C9
     have HINN:Hid (ArIn 1 w.heap.size W9 (numsA xs2) (.agg #[.slice y1 1 n1,.slice y2 XL n2])):=by
      have hs7:=hb7.size
      exact arIn_low ((HIN.out.keeps (but_keeps B8 (by have:=HS6.out;omega))).keeps (but_keeps B9 (by have:=HS6.out;omega))) (by have:=HS6.out;omega)
     have HB9:=hide (HBW8.out.trans (B9.below HBW8.out.size fun k hk=>by omega))
     clear D7 D8 B8 R7 R8 hb7 HD6 HR6 HIN C9 B9 hW9 HBW6 HBW8 hvv
     go_wp2_with (first|(refine wpList_store_mid rfl 43 (.tmp 4) (.tmp 56) rfl w.heap.size 0 #[.int .i64 1,.string ⟨#[]⟩,.slice y1 1 n1,.slice y2 XL n2,.int .i64 (a:Int)] rfl rfl HTH.out (by kernel_rfl) (by simp [Value.oneCell']) ?_;rw [HW9.out]))
     have r0:=HC9.out.c 0 _ rfl
     have r1:=HC9.out.c 1 _ rfl
     have r2:=HC9.out.c 2 _ rfl
     have r3:=HC9.out.c 3 _ rfl
     have r4:=HC9.out.c 4 _ rfl
     exact bodyPost_ret (v:=.tuple #[.agg #[.int .i64 1,.string ⟨#[]⟩,.slice y1 1 n1,.slice y2 XL n2,.int .i64 (a:Int)],.int .i64 (nx:Int),.int .i64 (-1)]) (by simp [results,Try.results56,go_sem,r0,r1,r2,r3,r4]) rfl (by
      refine ⟨(xs2,nx-a,none),⟨HB9.out,y1,n1,y2,n2,?_,?_⟩,fun _=>HFT.out⟩
      ·rw [show litD (xs2,nx-a,(none:Option Nat)).1=numsA xs2 from HLT.out,show ((a+(xs2,nx-a,(none:Option Nat)).2.1:Nat):Int)=(nx:Int) by show ((a+(nx-a):Nat):Int)=_;omega,HNL.out]
       rfl
      ·rw [show litD (xs2,nx-a,(none:Option Nat)).1=numsA xs2 from HLT.out,HNL.out];exact HINN.out)
   ·have heq':((nx:Int)==(st:Int))=false:=beq_eq_false_iff_ne.2 (by omega)
    go_wp2_with fail
    refine (HBN.out _).mono ?_
    rintro e w5 ⟨⟨b,rfl,hbt⟩,rfl⟩
    clear HBN
    cases b with
   |false =>
     clear hbt
     have hxl3:xs2.length≤8192:=by omega
     have HFT:=hide (show 1≤st-a∧a+(st-a)≤s.size from by omega)
     obtain ⟨pa,pc,rfl,hrow⟩:=row_owned (lo:=w.heap.size+2) HOW3.out (by omega) (Nat.le_refl _)
     obtain ⟨hrs,hwd,hbw,hl2⟩:=HSTATE.out w5 HNX3.out
     have HRS:=hide hrs
     have HWD:=hide hwd
     have HBW:=hide hbw
     have HL2:=hide hl2
     clear hrs hwd hbw hl2 HSTATE HNX3 HOW3
     have HNM:=hide (rnums_any 0 xs2 pa pc w5 hrow (by omega))
     by_cases hx1:xs2.length=1
     ·obtain ⟨z,hz⟩:∃ z,xs2=[z]:=List.length_eq_one_iff.1 hx1
      obtain ⟨g,off,hpa,hgo,hgl,hcz⟩:∃ g off,pa=some ⟨g,off,none⟩∧w.heap.size+2≤g∧g<w5.heap.size∧w5.cell? ⟨g,off,none⟩=some (.int .i64 z):=by
       rcases hrow.2 with h|⟨g,off,h1,h0,h2,h3⟩
       ·rw [h] at hz;cases hz
       ·exact ⟨g,off,h1,h0,h2,by have:=h3 0 (by omega);rw [hz] at this;exact this⟩
      subst hpa
      have HLT:=hide (show litD xs2=atomA z by unfold litD;rw [if_pos hx1,hz];rfl)
      have HGL:=hide hgl
      have HGO:=hide hgo
      have HCZ:=hide hcz
      have hnl:(numsA xs2).cells.length=1:=by simp [numsA,Ar.cells,numCs_len,hz]
      have HNL:=hide hnl
      rw [hx1] at HNM
      have HX1:=hide hx1
      have HAT:=hide (fun V=>ratom_any 0 z V)
      clear hrow hz hgl hgo hcz hnl
      rw [hx1]
      clear hx1
      go_wp2_with fail
      refine HNM.out.mono ?_
      rintro e w6 ⟨⟨vv,rfl,hin⟩,hb5⟩
      clear HNM
      obtain ⟨z1,m1,z2,m2,hvv,-⟩:=hin
      have hv2:vv=.agg #[.slice z1 1 m1,.slice z2 1 m2]:=by rw [hvv,HNL.out];rfl
      subst hv2
      have D5:=HWD.out.next hb5 HWD.out.lt
      obtain ⟨D6,B6⟩:=D5.set2 (b2:=.slice z1 1 m1) (b3:=.slice z2 1 m2)
      have hcz6:=(B6.cell (p:=⟨g,off,none⟩) (Nat.lt_of_lt_of_le HGL.out hb5.size) (by have:=HGO.out;show ¬ g=w.heap.size+1;omega)).trans ((hb5.cell (p:=⟨g,off,none⟩) HGL.out).trans HCZ.out)
      have R5:=HRS.out.next hb5 HRS.out.lt
      have R6:=R5.but B6 (by omega)
      have HBW6:=hide ((HBW.out.trans (hb5.mono HBW.out.size)).trans (B6.below (by have:=HL2.out;have:=hb5.size;omega) fun k hk=>by omega))
      have hs6:w.heap.size+2≤((w6.setCell ⟨w.heap.size+1,2,none⟩ (.slice z1 1 m1)).setCell ⟨w.heap.size+1,3,none⟩ (.slice z2 1 m2)).heap.size:=by have:=B6.size;have:=hb5.size;have:=HL2.out;omega
      have c2:=D5.c 2 _ rfl
      have c3:=D5.c 3 _ rfl
      have f2:=D5.z 2
      have f3:=D5.z 3
      obtain ⟨W6,hW6⟩:∃ W6,(w6.setCell ⟨w.heap.size+1,2,none⟩ (.slice z1 1 m1)).setCell ⟨w.heap.size+1,3,none⟩ (.slice z2 1 m2)=W6:=⟨_,rfl⟩
      rw [hW6] at D6 B6 hcz6 R6 HBW6 hs6
      have HD6:=hide D6
      have HR6:=hide R6
      have HS6:=hide hs6
      clear D5 R5 D6 R6 B6 hb5 HWD HRS HBW hvv hs6
      go_wp2_with fail
      refine (HAT.out _).mono ?_
      rintro e w7 ⟨⟨vv,rfl,hin⟩,hb7⟩
      have HIN:=hide hin
      obtain ⟨y1,n1,y2,n2,hvv,-⟩:=hin
      have hv2:vv=.agg #[.slice y1 0 n1,.slice y2 1 n2]:=hvv
      subst hv2
      clear c2 c3 f2 f3 hW6
      have D7:=HD6.out.next hb7 HD6.out.lt
      obtain ⟨D8,B8⟩:=D7.set2 (b2:=.slice y1 0 n1) (b3:=.slice y2 1 n2)
      have R7:=HR6.out.next hb7 HR6.out.lt
      have R8:=R7.but B8 (by omega)
      have HBW8:=hide ((HBW6.out.trans (hb7.mono HBW6.out.size)).trans (B8.below (by have:=HS6.out;have:=hb7.size;omega) fun k hk=>by omega))
      have e2:=D7.c 2 _ rfl
      have e3:=D7.c 3 _ rfl
      have h2:=D7.z 2
      have h3:=D7.z 3
      obtain ⟨W8,hW8⟩:∃ W8,(w7.setCell ⟨w.heap.size+1,2,none⟩ (.slice y1 0 n1)).setCell ⟨w.heap.size+1,3,none⟩ (.slice y2 1 n2)=W8:=⟨_,rfl⟩
      rw [hW8] at D8 B8 R8 HBW8
      have c0:=D8.c 0 _ rfl
      have c1:=D8.c 1 _ rfl
      have c2':=D8.c 2 _ rfl
      have c3':=D8.c 3 _ rfl
      have c4:=D8.c 4 _ rfl
      obtain ⟨W9,hW9⟩:∃ W9,W8.setCells w.heap.size 0 [.int .i64 1,.string ⟨#[]⟩,.slice y1 0 n1,.slice y2 1 n2,.int .i64 (a:Int)]=W9:=⟨_,rfl⟩
      have HW9:Hid (W8.setCells w.heap.size 0 (#[.int .i64 1,.string ⟨#[]⟩,.slice y1 0 n1,.slice y2 1 n2,.int .i64 (a:Int)]:Array Value).toList=W9):=hW9
      obtain ⟨C9,B9⟩:=R8.put (us:=[.int .i64 1,.string ⟨#[]⟩,.slice y1 0 n1,.slice y2 1 n2,.int .i64 (a:Int)]) (by simp) hW9
      have HTH:=hide (R8.there (n:=5) (by simp))
      have HC9:=hide C9
      have HINN:Hid (ArIn 1 w.heap.size W9 (atomA z) (.agg #[.slice y1 0 n1,.slice y2 1 n2])):=by
       have hs7:=hb7.size
       exact arIn_low ((HIN.out.keeps (but_keeps B8 (by have:=HS6.out;omega))).keeps (but_keeps B9 (by have:=HS6.out;omega))) (by have:=HS6.out;omega)
      have HB9:=hide (HBW8.out.trans (B9.below HBW8.out.size fun k hk=>by omega))
      clear D7 D8 B8 R7 R8 hb7 HD6 HR6 HIN C9 B9 hW9 HBW6 HBW8 hvv
      go_wp2_with (first|(refine wpList_store_mid rfl 43 (.tmp 4) (.tmp 56) rfl w.heap.size 0 #[.int .i64 1,.string ⟨#[]⟩,.slice y1 0 n1,.slice y2 1 n2,.int .i64 (a:Int)] rfl rfl HTH.out (by kernel_rfl) (by simp [Value.oneCell']) ?_;rw [HW9.out]))
      have r0:=HC9.out.c 0 _ rfl
      have r1:=HC9.out.c 1 _ rfl
      have r2:=HC9.out.c 2 _ rfl
      have r3:=HC9.out.c 3 _ rfl
      have r4:=HC9.out.c 4 _ rfl
      exact bodyPost_ret (v:=.tuple #[.agg #[.int .i64 1,.string ⟨#[]⟩,.slice y1 0 n1,.slice y2 1 n2,.int .i64 (a:Int)],.int .i64 (st:Int),.int .i64 (-1)]) (by simp [results,Try.results56,go_sem,r0,r1,r2,r3,r4]) rfl (by
       refine ⟨(xs2,st-a,none),⟨HB9.out,y1,n1,y2,n2,?_,?_⟩,fun _=>HFT.out⟩
       ·rw [show litD (xs2,st-a,(none:Option Nat)).1=atomA z from HLT.out,show ((a+(xs2,st-a,(none:Option Nat)).2.1:Nat):Int)=(st:Int) by show ((a+(st-a):Nat):Int)=_;omega]
        rfl
       ·rw [show litD (xs2,st-a,(none:Option Nat)).1=atomA z from HLT.out];exact HINN.out)
     ·have hx1':((xs2.length:Int)==1)=false:=beq_eq_false_iff_ne.2 (by omega)
      have HLT:=hide (show litD xs2=numsA xs2 by unfold litD;rw [if_neg hx1])
      have hnl:(numsA xs2).cells.length=xs2.length:=by simp [numsA,Ar.cells,numCs_len]
      have HNL:=hide hnl
      have HS6:=hide HL2.out
      have HD6:=hide HWD.out
      have HR6:=hide HRS.out
      have HBW6:=hide HBW.out
      clear hrow hx1 hnl HWD HRS HBW
      obtain ⟨XL,hXL⟩:∃ XL,xs2.length=XL:=⟨_,rfl⟩
      rw [hXL] at HNM HNL hx1'
      simp only [hXL]
      clear hXL
      go_wp2_with fail
      refine HNM.out.mono ?_
      rintro e w7 ⟨⟨vv,rfl,hin⟩,hb7⟩
      clear HNM
      have HIN:=hide hin
      obtain ⟨y1,n1,y2,n2,hvv,-⟩:=hin
      have hv2:vv=.agg #[.slice y1 1 n1,.slice y2 XL n2]:=by rw [hvv,HNL.out];rfl
      subst hv2
      have D7:=HD6.out.next hb7 HD6.out.lt
      obtain ⟨D8,B8⟩:=D7.set2 (b2:=.slice y1 1 n1) (b3:=.slice y2 XL n2)
      have R7:=HR6.out.next hb7 HR6.out.lt
      have R8:=R7.but B8 (by omega)
      have HBW8:=hide ((HBW6.out.trans (hb7.mono HBW6.out.size)).trans (B8.below (by have:=HS6.out;have:=hb7.size;omega) fun k hk=>by omega))
      have e2:=D7.c 2 _ rfl
      have e3:=D7.c 3 _ rfl
      have h2:=D7.z 2
      have h3:=D7.z 3
      obtain ⟨W8,hW8⟩:∃ W8,(w7.setCell ⟨w.heap.size+1,2,none⟩ (.slice y1 1 n1)).setCell ⟨w.heap.size+1,3,none⟩ (.slice y2 XL n2)=W8:=⟨_,rfl⟩
      rw [hW8] at D8 B8 R8 HBW8
      have c0:=D8.c 0 _ rfl
      have c1:=D8.c 1 _ rfl
      have c2':=D8.c 2 _ rfl
      have c3':=D8.c 3 _ rfl
      have c4:=D8.c 4 _ rfl
      obtain ⟨W9,hW9⟩:∃ W9,W8.setCells w.heap.size 0 [.int .i64 1,.string ⟨#[]⟩,.slice y1 1 n1,.slice y2 XL n2,.int .i64 (a:Int)]=W9:=⟨_,rfl⟩
      have HW9:Hid (W8.setCells w.heap.size 0 (#[.int .i64 1,.string ⟨#[]⟩,.slice y1 1 n1,.slice y2 XL n2,.int .i64 (a:Int)]:Array Value).toList=W9):=hW9
      obtain ⟨C9,B9⟩:=R8.put (us:=[.int .i64 1,.string ⟨#[]⟩,.slice y1 1 n1,.slice y2 XL n2,.int .i64 (a:Int)]) (by simp) hW9
      have HTH:=hide (R8.there (n:=5) (by simp))
      have HC9:=hide C9
      have HINN:Hid (ArIn 1 w.heap.size W9 (numsA xs2) (.agg #[.slice y1 1 n1,.slice y2 XL n2])):=by
       have hs7:=hb7.size
       exact arIn_low ((HIN.out.keeps (but_keeps B8 (by have:=HS6.out;omega))).keeps (but_keeps B9 (by have:=HS6.out;omega))) (by have:=HS6.out;omega)
      have HB9:=hide (HBW8.out.trans (B9.below HBW8.out.size fun k hk=>by omega))
      clear D7 D8 B8 R7 R8 hb7 HD6 HR6 HIN C9 B9 hW9 HBW6 HBW8 hvv
      go_wp2_with (first|(refine wpList_store_mid rfl 43 (.tmp 4) (.tmp 56) rfl w.heap.size 0 #[.int .i64 1,.string ⟨#[]⟩,.slice y1 1 n1,.slice y2 XL n2,.int .i64 (a:Int)] rfl rfl HTH.out (by kernel_rfl) (by simp [Value.oneCell']) ?_;rw [HW9.out]))
      have r0:=HC9.out.c 0 _ rfl
      have r1:=HC9.out.c 1 _ rfl
      have r2:=HC9.out.c 2 _ rfl
      have r3:=HC9.out.c 3 _ rfl
      have r4:=HC9.out.c 4 _ rfl
      exact bodyPost_ret (v:=.tuple #[.agg #[.int .i64 1,.string ⟨#[]⟩,.slice y1 1 n1,.slice y2 XL n2,.int .i64 (a:Int)],.int .i64 (st:Int),.int .i64 (-1)]) (by simp [results,Try.results56,go_sem,r0,r1,r2,r3,r4]) rfl (by
       refine ⟨(xs2,st-a,none),⟨HB9.out,y1,n1,y2,n2,?_,?_⟩,fun _=>HFT.out⟩
       ·rw [show litD (xs2,st-a,(none:Option Nat)).1=numsA xs2 from HLT.out,show ((a+(xs2,st-a,(none:Option Nat)).2.1:Nat):Int)=(st:Int) by show ((a+(st-a):Nat):Int)=_;omega,HNL.out]
        rfl
       ·rw [show litD (xs2,st-a,(none:Option Nat)).1=numsA xs2 from HLT.out,HNL.out];exact HINN.out)
   |true =>
     have HBT:=hide (hbt rfl)
     clear hbt
     go_wp2
     go_roundg (s.size+1-nx)
     case rel=>exact ⟨nx,xs2,by omega,hnx2.2,by omega,by omega,rfl,HOW3.out,HNX3.out,HBT.out⟩
     case measure=>omega
def GvQk (s:ByteArray) (a:Nat) (w:World) (e:Ending) (w':World):Prop:=∃ T,GvQ T a w e w'∧(T.2.2=0→a+1+T.2.1+1≤s.size)
theorem one72 (C:ByteArray) (hs:C.size≤140737488355328) (w:World):Calls Try.prog 72 #[.slice (some ⟨w.heap.size,0,none⟩) C.size (grownCap w C.size 0 5)] (Lib.bytesWorld w 5 C) fun e w'=>(∃ (n:Int) (k:Nat),e=.returned (.tuple #[.int .i64 n,.int .i64 (k:Int)])∧k≤C.size)∧Below w.heap.size w w':=by
 have h:=oneR_walk (numsS C) w.heap.size 0 (grownCap w C.size 0 5) (Lib.bytesWorld w 5 C) (numsS_byte C) (by rw [numsS_len];omega) (by rw [Lib.bytesWorld_size];omega) (by rw [numsS_len];exact Go.grownCap_ge w C.size 0 5) (fun i hi=>by
  rw [numsS_len] at hi
  rw [Nat.zero_add,Lib.bytesWorld_cell w 5 C i hi,numsS_at C i hi]
  unfold byt
  rw [dif_pos hi]
  simp [List.getD_eq_getElem?_getD,ByteArray.getElem_eq_getElem_data,hi])
 rw [numsS_len] at h
 refine h.mono fun e w' ⟨⟨n,k,he,hk⟩,hb⟩=>?_
 obtain ⟨rfl,rfl⟩:=isOne_eq (numsS_byte C) hk
 refine ⟨⟨_,oneK (numsS C),he,?_⟩,(below_bytes w 5 C).trans (hb.mono (below_bytes w 5 C).size)⟩
 unfold oneK
 cases ho:oneF (numsS C) with
|none=>exact Nat.zero_le _
|some p =>
  have:=oneF_len ho
  rw [numsS_len] at this
  exact this.2
theorem cut_end (s:ByteArray) (a:Nat) (h1:a≤s.size) (w:World):(Instr.slice 9 (.string s) (some (.int .i64 (a:Int))) none none).run Try.prog w=.ok (.string (cutS s a s.size)) w:=by
 have ht:Try.prog.underlying 9=some .string:=Try.underlying9
 have h:=run_slice_string_l (P:=Try.prog) (t:=9) (s:=s) (w:=w) (kl:=.i64) (l:=(a:Int)) (ht:=ht) (h0:=by omega) (h1:=by omega)
 rw [h]
 simp [cutS]
set_option maxHeartbeats 16000000 in
theorem quoted57 (s:ByteArray) (a:Nat) (ha:a<s.size) (hs:s.size≤8192) (w:World) :
  Calls Try.prog 57 #[.string s,.int .i64 (a:Int)] w fun e w'=>GvQk s a w e w':=by
 obtain ⟨i0,hi,hz0,hz1,hz2⟩:=info_parts info2
 obtain ⟨W3,hW3⟩:∃ W3,((w.alloc (.cells #[.int .i64 0,.string ⟨#[]⟩,.slice none 0 0,.slice none 0 0,.int .i64 0] 43)).alloc (.cells #[.int .i64 0,.int .i64 0,.int .i64 0] 28)).alloc (.cells #[.int .i64 2,.string ⟨#[]⟩,.slice none 0 0,.slice none 0 0,.int .i64 (a:Int)] 43)=W3:=⟨_,rfl⟩
 have hs1:(w.alloc (.cells #[.int .i64 0,.string ⟨#[]⟩,.slice none 0 0,.slice none 0 0,.int .i64 0] 43)).heap.size=w.heap.size+1:=by simp
 have hs2:((w.alloc (.cells #[.int .i64 0,.string ⟨#[]⟩,.slice none 0 0,.slice none 0 0,.int .i64 0] 43)).alloc (.cells #[.int .i64 0,.int .i64 0,.int .i64 0] 28)).heap.size=w.heap.size+2:=by simp
 have b3:Below w.heap.size w W3:=by rw [←hW3];exact (two_allocs _ _ _).trans ((one_alloc _ _).mono (by omega))
 have s3:W3.heap.size=w.heap.size+3:=by rw [←hW3];simp
 have R3:Cs W3 w.heap.size [.int .i64 0,.string ⟨#[]⟩,.slice none 0 0,.slice none 0 0,.int .i64 0]:=by
  rw [←hW3]
  exact ((Cs.new w [.int .i64 0,.string ⟨#[]⟩,.slice none 0 0,.slice none 0 0,.int .i64 0] 43).next (one_alloc _ _) (by simp)).next (one_alloc _ _) (by omega)
 have F3:Cs W3 (w.heap.size+1) [.int .i64 0,.int .i64 0,.int .i64 0]:=by
  have h:=Cs.new (w.alloc (.cells #[.int .i64 0,.string ⟨#[]⟩,.slice none 0 0,.slice none 0 0,.int .i64 0] 43)) [.int .i64 0,.int .i64 0,.int .i64 0] 28
  rw [hs1] at h
  rw [←hW3]
  exact h.next (one_alloc _ _) (by omega)
 have D3:Cs W3 (w.heap.size+2) [.int .i64 2,.string ⟨#[]⟩,.slice none 0 0,.slice none 0 0,.int .i64 (a:Int)]:=by
  have h:=Cs.new ((w.alloc (.cells #[.int .i64 0,.string ⟨#[]⟩,.slice none 0 0,.slice none 0 0,.int .i64 0] 43)).alloc (.cells #[.int .i64 0,.int .i64 0,.int .i64 0] 28)) [.int .i64 2,.string ⟨#[]⟩,.slice none 0 0,.slice none 0 0,.int .i64 (a:Int)] 43
  rw [hs2] at h
  rw [←hW3]
  exact h
 have HSTATE:Hid (∀ wr,Below (w.heap.size+3) W3 wr→Cs wr w.heap.size [.int .i64 0,.string ⟨#[]⟩,.slice none 0 0,.slice none 0 0,.int .i64 0]∧Cs wr (w.heap.size+1) [.int .i64 0,.int .i64 0,.int .i64 0]∧Cs wr (w.heap.size+2) [.int .i64 2,.string ⟨#[]⟩,.slice none 0 0,.slice none 0 0,.int .i64 (a:Int)]∧Below w.heap.size w wr∧w.heap.size+3≤wr.heap.size):=fun wr h =>
  ⟨R3.next h (by omega),F3.next h (by omega),D3.next h (by omega),b3.trans (h.mono (by omega)),by have:=h.size;omega⟩
 have HNX0:Hid (Below (w.heap.size+3) W3 W3):=Below.refl _ _
 have HOWN:Hid (W3.ownsRow (w.heap.size+3) 2 1 (.slice none 0 0) 0 (iv [])):=World.ownsRow_nil _ _ _ _
 have HQ1:=hide (fun j (hj:j≤s.size) W=>starts25 s ⟨#[92,92]⟩ j hj (by omega) (by decide) W)
 have HQ2:=hide (fun j (hj:j≤s.size) W=>starts25 s ⟨#[92,34]⟩ j hj (by omega) (by decide) W)
 have HH1:=hide (fun j (hj:j≤s.size) h=>hasP_size (s:=s) (t:=⟨#[92,92]⟩) (a:=j) hj h)
 have HH2:=hide (fun j (hj:j≤s.size) h=>hasP_size (s:=s) (t:=⟨#[92,34]⟩) (a:=j) hj h)
 have HCUT:=hide (fun j (hj:j≤s.size) W=>cut_end s j hj W)
 have HCS:=hide (fun j (hj:j≤s.size)=>cutS_size s j s.size hj (Nat.le_refl _))
 have HW3:=hide hW3
 have HA0:=hide ha
 have HSZ:=hide hs
 have ha9:a≤8192:=by omega
 clear hW3 hs1 hs2 b3 s3 R3 F3 D3 ha hs
 go_enter Try.func57,Try.ntmps57
 go_wp2
 rw [HW3.out]
 go_loopg [8,9] (s.size-a) (fun g lv iv' wr=>∃ (j:Nat) (xs:List Int),g+j=s.size+1∧j≤s.size∧a+1≤j∧xs.length≤j∧iv'=.int .i64 (j:Int)∧wr.ownsRow (w.heap.size+3) 2 1 lv xs.length (iv xs)∧Below (w.heap.size+3) W3 wr)
 case atStart=>exact ⟨a+1,[],by have:=HA0.out;omega,HA0.out,Nat.le_refl _,by simp,by go_num,HOWN.out,HNX0.out⟩
 case round =>
  clear HOWN HNX0 HW3
  obtain ⟨j,xs,hg,hjs,haj,hxj,rfl,hown,hnx⟩:=hrel
  have hs9:=HSZ.out
  have HOW:=hide hown
  have HNX:=hide hnx
  clear hown hnx
  by_cases hlt:j<s.size
  ·have hlt2:(j:Int)<(s.size:Int):=by omega
   have hcut:=HCUT.out j hjs wr
   have hcs:=HCS.out j hjs
   obtain ⟨C,hC⟩:∃ C,cutS s j s.size=C:=⟨_,rfl⟩
   rw [hC] at hcut hcs
   have HCZ:=hide hcs
   have hcv:=Lib.run_convert_string_bytes (P:=Try.prog) wr 9 108 5 C Try.underlying9 Try.underlying108 Try.underlying5
   have HO:=hide (one72 C (by omega) wr)
   clear hcs
   obtain ⟨X,hX⟩:∃ X,Lib.bytesWorld wr 5 C=X:=⟨_,rfl⟩
   rw [hX] at HO hcv
   have HP1:=hide (HQ1.out j hjs)
   have HP2:=hide (HQ2.out j hjs)
   have HG1:=hide (HH1.out j hjs)
   have HG2:=hide (HH2.out j hjs)
   clear HQ1 HQ2 HH1 HH2 HCUT HCS hC hX
   go_wp2_with fail
   refine HO.out.mono ?_
   rintro e w1 ⟨⟨n,k,rfl,hk⟩,hb1⟩
   have hks:j+k≤s.size:=by have:=HCZ.out;omega
   have HNX:=hide (HNX.out.trans (hb1.mono (HSTATE.out _ HNX.out).2.2.2.2))
   have HOW:=hide (owns_next HOW.out hb1)
   clear hb1 HO hcut hcv HCZ hk
   by_cases hk0:k=0
   ·subst hk0
    clear HP1 HP2 HG1 HG2
    obtain ⟨hRX,hFX,hwd,hBX,hl3⟩:=HSTATE.out w1 HNX.out
    have c0:=hwd.c 0 _ rfl
    have c1:=hwd.c 1 _ rfl
    have c2:=hwd.c 2 _ rfl
    have c3:=hwd.c 3 _ rfl
    have c4:=hwd.c 4 _ rfl
    clear HSTATE hwd hl3 HOW
    obtain ⟨W8,hW8⟩:∃ W8,w1.setCells w.heap.size 0 [.int .i64 2,.string ⟨#[]⟩,.slice none 0 0,.slice none 0 0,.int .i64 (a:Int)]=W8:=⟨_,rfl⟩
    obtain ⟨W9,hW9⟩:∃ W9,W8.setCells (w.heap.size+1) 0 [.int .i64 3,.int .i64 (j:Int),.int .i64 0]=W9:=⟨_,rfl⟩
    have HW8:Hid (w1.setCells w.heap.size 0 (#[.int .i64 2,.string ⟨#[]⟩,.slice none 0 0,.slice none 0 0,.int .i64 (a:Int)]:Array Value).toList=W8):=hW8
    have HW9:Hid (W8.setCells (w.heap.size+1) 0 (#[.int .i64 3,.int .i64 (j:Int),.int .i64 0]:Array Value).toList=W9):=hW9
    obtain ⟨t8,t9,C9,D9,B9,K9⟩:=put53 hRX hFX (by simp) (by simp) hBX hW8 hW9
    have HT8:=hide t8
    have HT9:=hide t9
    have HC9:=hide C9
    have HD9:=hide D9
    have HB9:=hide B9
    clear t8 t9 C9 D9 B9 K9 hW8 hW9 hRX hFX hBX HNX
    go_wp2_with (first|(refine wpList_store_mid rfl 43 (.tmp 4) (.tmp 30) rfl w.heap.size 0 #[.int .i64 2,.string ⟨#[]⟩,.slice none 0 0,.slice none 0 0,.int .i64 (a:Int)] rfl rfl HT8.out (by kernel_rfl) (by simp [Value.oneCell']) ?_;rw [HW8.out])|(refine wpList_store_mid rfl 28 (.tmp 6) (.tmp 33) rfl (w.heap.size+1) 0 #[.int .i64 3,.int .i64 (j:Int),.int .i64 0] rfl rfl HT9.out (by kernel_rfl) (by simp [Value.oneCell']) ?_;rw [HW9.out]))
    have r0:=HC9.out.c 0 _ rfl
    have r1:=HC9.out.c 1 _ rfl
    have r2:=HC9.out.c 2 _ rfl
    have r3:=HC9.out.c 3 _ rfl
    have r4:=HC9.out.c 4 _ rfl
    have q0:=HD9.out.c 0 _ rfl
    have q1:=HD9.out.c 1 _ rfl
    have q2:=HD9.out.c 2 _ rfl
    exact bodyPost_ret (v:=.tuple #[.agg #[.int .i64 2,.string ⟨#[]⟩,.slice none 0 0,.slice none 0 0,.int .i64 (a:Int)],.int .i64 (j:Int),.agg #[.int .i64 3,.int .i64 (j:Int),.int .i64 0]]) (by simp [results,Try.results57,go_sem,r0,r1,r2,r3,r4,q0,q1,q2]) rfl (by
     refine ⟨(xs,j-(a+1),3),⟨HB9.out,?_⟩,fun h=>by cases h⟩
     rw [if_neg (by show ¬ ((3:Int)=0);decide)]
     refine ⟨j,?_,?_⟩
     ·rw [if_neg (by show ¬ ((3:Int)=-1);decide),show a+1+(j-(a+1))=j by omega]
     ·rw [if_neg (by show ¬ ((3:Int)=-1);decide)];show j=a+1+(j-(a+1));omega)
   ·have hk0':((k:Int)==0)=false:=beq_eq_false_iff_ne.2 (by omega)
    by_cases h34:n=34
    ·subst h34
     clear HP1 HP2 HG1 HG2
     obtain ⟨pa,pc,rfl,hrow⟩:=row_owned (lo:=w.heap.size+3) HOW.out (by omega) (Nat.le_refl _)
     have HTX:=hide (rtext_any 0 xs pa pc w1 hrow (by omega))
     obtain ⟨hrt,hrf,hwd,hbw,hl3⟩:=HSTATE.out w1 HNX.out
     have HRT:=hide hrt
     have HRF:=hide hrf
     have HWD:=hide hwd
     have HBW:=hide hbw
     have HL3:=hide hl3
     have HFT:=hide (show a+1+(j-(a+1))+1≤s.size by omega)
     clear hrt hrf hwd hbw hl3 HSTATE HNX HOW hrow
     go_wp2_with fail
     refine HTX.out.mono ?_
     rintro e w7 ⟨⟨vv,rfl,hin⟩,hb7⟩
     clear HTX
     have HIN:=hide hin
     obtain ⟨y1,n1,y2,n2,hvv,-⟩:=hin
     obtain ⟨SH,hSH⟩:∃ SH,(textA xs).shape.length=SH:=⟨_,rfl⟩
     obtain ⟨CL,hCL⟩:∃ CL,(textA xs).cells.length=CL:=⟨_,rfl⟩
     have HSH:=hide hSH
     have HCL:=hide hCL
     have hv2:vv=.agg #[.slice y1 SH n1,.slice y2 CL n2]:=by rw [←hSH,← hCL];exact hvv
     subst hv2
     clear hSH hCL hvv
     have D7:=HWD.out.next hb7 HWD.out.lt
     obtain ⟨D8,B8⟩:=D7.set2 (b2:=.slice y1 SH n1) (b3:=.slice y2 CL n2)
     have R8:=(HRT.out.next hb7 HRT.out.lt).but B8 (by omega)
     have F8:=(HRF.out.next hb7 HRF.out.lt).but B8 (by omega)
     have HBW8:=hide ((HBW.out.trans (hb7.mono HBW.out.size)).trans (B8.below (by have:=HL3.out;have:=hb7.size;omega) fun k hk=>by omega))
     have hl8:w.heap.size+3≤((w7.setCell ⟨w.heap.size+2,2,none⟩ (.slice y1 SH n1)).setCell ⟨w.heap.size+2,3,none⟩ (.slice y2 CL n2)).heap.size:=by have:=B8.size;have:=hb7.size;have:=HL3.out;omega
     have e2:=D7.c 2 _ rfl
     have e3:=D7.c 3 _ rfl
     have h2:=D7.z 2
     have h3:=D7.z 3
     obtain ⟨W6,hW6⟩:∃ W6,(w7.setCell ⟨w.heap.size+2,2,none⟩ (.slice y1 SH n1)).setCell ⟨w.heap.size+2,3,none⟩ (.slice y2 CL n2)=W6:=⟨_,rfl⟩
     rw [hW6] at D8 B8 R8 F8 HBW8 hl8
     have c0:=D8.c 0 _ rfl
     have c1:=D8.c 1 _ rfl
     have c2:=D8.c 2 _ rfl
     have c3:=D8.c 3 _ rfl
     have c4:=D8.c 4 _ rfl
     obtain ⟨W8,hW8⟩:∃ W8,W6.setCells w.heap.size 0 [.int .i64 2,.string ⟨#[]⟩,.slice y1 SH n1,.slice y2 CL n2,.int .i64 (a:Int)]=W8:=⟨_,rfl⟩
     have HW8:Hid (W6.setCells w.heap.size 0 (#[.int .i64 2,.string ⟨#[]⟩,.slice y1 SH n1,.slice y2 CL n2,.int .i64 (a:Int)]:Array Value).toList=W8):=hW8
     obtain ⟨C9,B9⟩:=R8.put (us:=[.int .i64 2,.string ⟨#[]⟩,.slice y1 SH n1,.slice y2 CL n2,.int .i64 (a:Int)]) (by simp) hW8
     have F9:=F8.but B9 (by omega)
     obtain ⟨W9,hW9⟩:∃ W9,W8.setCells (w.heap.size+1) 0 [.int .i64 0,.int .i64 0,.int .i64 0]=W9:=⟨_,rfl⟩
     have HW9:Hid (W8.setCells (w.heap.size+1) 0 (#[.int .i64 0,.int .i64 0,.int .i64 0]:Array Value).toList=W9):=hW9
     obtain ⟨G9,B10⟩:=F9.put (us:=[.int .i64 0,.int .i64 0,.int .i64 0]) (by simp) hW9
     have E9:=C9.but B10 (by omega)
     have HTH8:=hide (R8.there (n:=5) (by simp))
     have HTH9:=hide (F9.there (n:=3) (by simp))
     have HC9:=hide G9
     have HD9:=hide E9
     have HINN:Hid (ArIn 1 w.heap.size W9 (textA xs) (.agg #[.slice y1 SH n1,.slice y2 CL n2])):=by
      have hs7:=hb7.size
      exact arIn_low (((HIN.out.keeps (but_keeps B8 (by have:=HL3.out;omega))).keeps (but_keeps B9 (by have:=HL3.out;omega))).keeps (but_keeps B10 (by have:=HL3.out;omega))) (by have:=HL3.out;omega)
     have HB9:=hide ((HBW8.out.trans (B9.below HBW8.out.size fun k hk=>by omega)).trans (B10.below (by have:=HBW8.out.size;have:=B9.size;omega) fun k hk=>by omega))
     clear D7 D8 B8 R8 F8 hb7 HRT HRF HWD HIN C9 B9 F9 G9 B10 E9 hW8 hW9 HBW HBW8 hl8
     go_wp2_with (first|(refine wpList_store_mid rfl 43 (.tmp 4) (.tmp 39) rfl w.heap.size 0 #[.int .i64 2,.string ⟨#[]⟩,.slice y1 SH n1,.slice y2 CL n2,.int .i64 (a:Int)] rfl rfl HTH8.out (by kernel_rfl) (by simp [Value.oneCell']) ?_;rw [HW8.out])|(refine wpList_store_mid rfl 28 (.tmp 6) (.tmp 42) rfl (w.heap.size+1) 0 #[.int .i64 0,.int .i64 0,.int .i64 0] rfl rfl HTH9.out (by kernel_rfl) (by simp [Value.oneCell']) ?_;rw [HW9.out]))
     have r0:=HD9.out.c 0 _ rfl
     have r1:=HD9.out.c 1 _ rfl
     have r2:=HD9.out.c 2 _ rfl
     have r3:=HD9.out.c 3 _ rfl
     have r4:=HD9.out.c 4 _ rfl
     have q0:=HC9.out.c 0 _ rfl
     have q1:=HC9.out.c 1 _ rfl
     have q2:=HC9.out.c 2 _ rfl
     exact bodyPost_ret (v:=.tuple #[.agg #[.int .i64 2,.string ⟨#[]⟩,.slice y1 SH n1,.slice y2 CL n2,.int .i64 (a:Int)],.int .i64 ((j:Int)+1),.agg #[.int .i64 0,.int .i64 0,.int .i64 0]]) (by simp [results,Try.results57,go_sem,r0,r1,r2,r3,r4,q0,q1,q2]) rfl (by
      refine ⟨(xs,j-(a+1),0),⟨HB9.out,?_⟩,fun _=>HFT.out⟩
      rw [if_pos (show ((0:Int)=0) from rfl)]
      refine ⟨y1,n1,y2,n2,?_,?_⟩
      ·show _=Ending.returned (.tuple #[.agg #[.int .i64 2,.string ⟨#[]⟩,.slice y1 (textA xs).shape.length n1,.slice y2 (textA xs).cells.length n2,.int .i64 (a:Int)],.int .i64 ((a+1+(j-(a+1)):Nat)+1:Int),.agg #[.int .i64 0,.int .i64 0,.int .i64 0]])
       rw [HSH.out,HCL.out,show a+1+(j-(a+1))=j by omega]
      ·show ArIn 1 w.heap.size W9 (textA xs) (.agg #[.slice y1 (textA xs).shape.length n1,.slice y2 (textA xs).cells.length n2])
       rw [HSH.out,HCL.out];exact HINN.out)
    ·have h34':(n==34)=false:=beq_eq_false_iff_ne.2 h34
     by_cases h92:n=92
     ·subst h92
      have HS1:=hide (HP1.out w1)
      have HS2:=hide (HP2.out w1)
      clear HP1 HP2
      cases p2:hasP ((numsS s).drop j) (numsS ⟨#[92,34]⟩) with
     |true =>
       have hs2:j+2≤s.size:=HG2.out p2
       rw [p2] at HS2
       cases p1:hasP ((numsS s).drop j) (numsS ⟨#[92,92]⟩) with
      |true =>
        rw [p1] at HS1
        clear HG1 HG2 p1 p2
        go_wp2_with fail
        refine HS1.out.mono ?_
        rintro e w2 ⟨rfl,rfl⟩
        clear HS1
        go_wp2_with fail
        refine HS2.out.mono ?_
        rintro e w5 ⟨rfl,rfl⟩
        clear HS2
        have hown2:=HOW.out
        have hlt3:=(HSTATE.out w5 HNX.out).2.2.2.2
        go_wp2_with (at_builtin;refine wpList_append_own _ rfl _ _ 109 rfl (w.heap.size+3) 2 i0 (.int .i64 0) 1 8 Try.underlying109 hi hz0 hz1 hz2 rfl (by decide) _ _ _ rfl (hown2.alloc _) ⟨w5.heap.size,0,none⟩ 1 1 [.int .i64 34] rfl rfl ?c1 ?c2 ?c3 ?c4 ?c5 ?_)
        case c1 =>
         intro j u hj
         match j,hj with
        |0,hj=>simp at hj;subst hj;simp [Addr.add]
        case c2=>intro u hu;simp at hu;subst hu;rfl
        case c3=>unfold maxLen;omega
        case c4=>omega
        case c5=>simp;omega
        intro v' w3 hown' hgrow _
        have hown3:w3.ownsRow (w.heap.size+3) 2 1 v' (xs++[34]).length (iv (xs++[34])):=by
         rw [List.length_append,show iv (xs++[34])=iv xs++[.int .i64 34] from List.map_append];exact hown'
        have HNX3:=hide ((HNX.out.alloc (show w.heap.size+3≤w5.heap.size by omega) _).grown hgrow (by simp;omega) (fun q hq=>(hown2.lt q hq).1))
        have HOW3:=hide hown3
        clear hown' hgrow hown2 HNX HOW hown3
        go_wp2
        go_roundg (s.size+1-(j+2))
        case rel=>exact ⟨j+2,xs++[34],by omega,hs2,by omega,by rw [List.length_append];simp;omega,by go_num,HOW3.out,HNX3.out⟩
        case measure=>omega
      |false =>
        rw [p1] at HS1
        clear HG1 HG2 p1 p2
        go_wp2_with fail
        refine HS1.out.mono ?_
        rintro e w2 ⟨rfl,rfl⟩
        clear HS1
        go_wp2_with fail
        refine HS2.out.mono ?_
        rintro e w5 ⟨rfl,rfl⟩
        clear HS2
        have hown2:=HOW.out
        have hlt3:=(HSTATE.out w5 HNX.out).2.2.2.2
        go_wp2_with (at_builtin;refine wpList_append_own _ rfl _ _ 109 rfl (w.heap.size+3) 2 i0 (.int .i64 0) 1 8 Try.underlying109 hi hz0 hz1 hz2 rfl (by decide) _ _ _ rfl (hown2.alloc _) ⟨w5.heap.size,0,none⟩ 1 1 [.int .i64 34] rfl rfl ?c1 ?c2 ?c3 ?c4 ?c5 ?_)
        case c1 =>
         intro j u hj
         match j,hj with
        |0,hj=>simp at hj;subst hj;simp [Addr.add]
        case c2=>intro u hu;simp at hu;subst hu;rfl
        case c3=>unfold maxLen;omega
        case c4=>omega
        case c5=>simp;omega
        intro v' w3 hown' hgrow _
        have hown3:w3.ownsRow (w.heap.size+3) 2 1 v' (xs++[34]).length (iv (xs++[34])):=by
         rw [List.length_append,show iv (xs++[34])=iv xs++[.int .i64 34] from List.map_append];exact hown'
        have HNX3:=hide ((HNX.out.alloc (show w.heap.size+3≤w5.heap.size by omega) _).grown hgrow (by simp;omega) (fun q hq=>(hown2.lt q hq).1))
        have HOW3:=hide hown3
        clear hown' hgrow hown2 HNX HOW hown3
        go_wp2
        go_roundg (s.size+1-(j+2))
        case rel=>exact ⟨j+2,xs++[34],by omega,hs2,by omega,by rw [List.length_append];simp;omega,by go_num,HOW3.out,HNX3.out⟩
        case measure=>omega
     |false =>
       rw [p2] at HS2
       cases p1:hasP ((numsS s).drop j) (numsS ⟨#[92,92]⟩) with
      |true =>
        have hs2:j+2≤s.size:=HG1.out p1
        rw [p1] at HS1
        clear HG1 HG2 p1 p2
        go_wp2_with fail
        refine HS1.out.mono ?_
        rintro e w2 ⟨rfl,rfl⟩
        clear HS1
        go_wp2_with fail
        refine HS2.out.mono ?_
        rintro e w5 ⟨rfl,rfl⟩
        clear HS2
        have hown2:=HOW.out
        have hlt3:=(HSTATE.out w5 HNX.out).2.2.2.2
        go_wp2_with (at_builtin;refine wpList_append_own _ rfl _ _ 109 rfl (w.heap.size+3) 2 i0 (.int .i64 0) 1 8 Try.underlying109 hi hz0 hz1 hz2 rfl (by decide) _ _ _ rfl (hown2.alloc _) ⟨w5.heap.size,0,none⟩ 1 1 [.int .i64 92] rfl rfl ?c1 ?c2 ?c3 ?c4 ?c5 ?_)
        case c1 =>
         intro j u hj
         match j,hj with
        |0,hj=>simp at hj;subst hj;simp [Addr.add]
        case c2=>intro u hu;simp at hu;subst hu;rfl
        case c3=>unfold maxLen;omega
        case c4=>omega
        case c5=>simp;omega
        intro v' w3 hown' hgrow _
        have hown3:w3.ownsRow (w.heap.size+3) 2 1 v' (xs++[92]).length (iv (xs++[92])):=by
         rw [List.length_append,show iv (xs++[92])=iv xs++[.int .i64 92] from List.map_append];exact hown'
        have HNX3:=hide ((HNX.out.alloc (show w.heap.size+3≤w5.heap.size by omega) _).grown hgrow (by simp;omega) (fun q hq=>(hown2.lt q hq).1))
        have HOW3:=hide hown3
        clear hown' hgrow hown2 HNX HOW hown3
        go_wp2
        go_roundg (s.size+1-(j+2))
        case rel=>exact ⟨j+2,xs++[92],by omega,hs2,by omega,by rw [List.length_append];simp;omega,by go_num,HOW3.out,HNX3.out⟩
        case measure=>omega
      |false =>
        rw [p1] at HS1
        clear HG1 HG2 p1 p2
        go_wp2_with fail
        refine HS1.out.mono ?_
        rintro e w2 ⟨rfl,rfl⟩
        clear HS1
        go_wp2_with fail
        refine HS2.out.mono ?_
        rintro e w5 ⟨rfl,rfl⟩
        clear HS2
        obtain ⟨hRX,hFX,hwd,hBX,hl3⟩:=HSTATE.out w5 HNX.out
        have c0:=hwd.c 0 _ rfl
        have c1:=hwd.c 1 _ rfl
        have c2:=hwd.c 2 _ rfl
        have c3:=hwd.c 3 _ rfl
        have c4:=hwd.c 4 _ rfl
        clear HSTATE hwd hl3 HOW
        obtain ⟨W8,hW8⟩:∃ W8,w5.setCells w.heap.size 0 [.int .i64 2,.string ⟨#[]⟩,.slice none 0 0,.slice none 0 0,.int .i64 (a:Int)]=W8:=⟨_,rfl⟩
        obtain ⟨W9,hW9⟩:∃ W9,W8.setCells (w.heap.size+1) 0 [.int .i64 2,.int .i64 (j:Int),.int .i64 0]=W9:=⟨_,rfl⟩
        have HW8:Hid (w5.setCells w.heap.size 0 (#[.int .i64 2,.string ⟨#[]⟩,.slice none 0 0,.slice none 0 0,.int .i64 (a:Int)]:Array Value).toList=W8):=hW8
        have HW9:Hid (W8.setCells (w.heap.size+1) 0 (#[.int .i64 2,.int .i64 (j:Int),.int .i64 0]:Array Value).toList=W9):=hW9
        obtain ⟨t8,t9,C9,D9,B9,K9⟩:=put53 hRX hFX (by simp) (by simp) hBX hW8 hW9
        have HT8:=hide t8
        have HT9:=hide t9
        have HC9:=hide C9
        have HD9:=hide D9
        have HB9:=hide B9
        clear t8 t9 C9 D9 B9 K9 hW8 hW9 hRX hFX hBX HNX
        go_wp2_with (first|(refine wpList_store_mid rfl 43 (.tmp 4) (.tmp 57) rfl w.heap.size 0 #[.int .i64 2,.string ⟨#[]⟩,.slice none 0 0,.slice none 0 0,.int .i64 (a:Int)] rfl rfl HT8.out (by kernel_rfl) (by simp [Value.oneCell']) ?_;rw [HW8.out])|(refine wpList_store_mid rfl 28 (.tmp 6) (.tmp 60) rfl (w.heap.size+1) 0 #[.int .i64 2,.int .i64 (j:Int),.int .i64 0] rfl rfl HT9.out (by kernel_rfl) (by simp [Value.oneCell']) ?_;rw [HW9.out]))
        have r0:=HC9.out.c 0 _ rfl
        have r1:=HC9.out.c 1 _ rfl
        have r2:=HC9.out.c 2 _ rfl
        have r3:=HC9.out.c 3 _ rfl
        have r4:=HC9.out.c 4 _ rfl
        have q0:=HD9.out.c 0 _ rfl
        have q1:=HD9.out.c 1 _ rfl
        have q2:=HD9.out.c 2 _ rfl
        exact bodyPost_ret (v:=.tuple #[.agg #[.int .i64 2,.string ⟨#[]⟩,.slice none 0 0,.slice none 0 0,.int .i64 (a:Int)],.int .i64 (j:Int),.agg #[.int .i64 2,.int .i64 (j:Int),.int .i64 0]]) (by simp [results,Try.results57,go_sem,r0,r1,r2,r3,r4,q0,q1,q2]) rfl (by
         refine ⟨(xs,j-(a+1),2),⟨HB9.out,?_⟩,fun h=>by cases h⟩
         rw [if_neg (by show ¬ ((2:Int)=0);decide)]
         refine ⟨j,?_,?_⟩
         ·rw [if_neg (by show ¬ ((2:Int)=-1);decide),show a+1+(j-(a+1))=j by omega]
         ·rw [if_neg (by show ¬ ((2:Int)=-1);decide)];show j=a+1+(j-(a+1));omega)
     ·have h92':(n==92)=false:=beq_eq_false_iff_ne.2 h92
      clear HP1 HP2 HG1 HG2
      by_cases hlow:n<32
      ·clear h34 h92
       obtain ⟨hRX,hFX,hwd,hBX,hl3⟩:=HSTATE.out w1 HNX.out
       have c0:=hwd.c 0 _ rfl
       have c1:=hwd.c 1 _ rfl
       have c2:=hwd.c 2 _ rfl
       have c3:=hwd.c 3 _ rfl
       have c4:=hwd.c 4 _ rfl
       clear HSTATE hwd hl3 HOW
       obtain ⟨W8,hW8⟩:∃ W8,w1.setCells w.heap.size 0 [.int .i64 2,.string ⟨#[]⟩,.slice none 0 0,.slice none 0 0,.int .i64 (a:Int)]=W8:=⟨_,rfl⟩
       obtain ⟨W9,hW9⟩:∃ W9,W8.setCells (w.heap.size+1) 0 [.int .i64 2,.int .i64 (j:Int),.int .i64 0]=W9:=⟨_,rfl⟩
       have HW8:Hid (w1.setCells w.heap.size 0 (#[.int .i64 2,.string ⟨#[]⟩,.slice none 0 0,.slice none 0 0,.int .i64 (a:Int)]:Array Value).toList=W8):=hW8
       have HW9:Hid (W8.setCells (w.heap.size+1) 0 (#[.int .i64 2,.int .i64 (j:Int),.int .i64 0]:Array Value).toList=W9):=hW9
       obtain ⟨t8,t9,C9,D9,B9,K9⟩:=put53 hRX hFX (by simp) (by simp) hBX hW8 hW9
       have HT8:=hide t8
       have HT9:=hide t9
       have HC9:=hide C9
       have HD9:=hide D9
       have HB9:=hide B9
       clear t8 t9 C9 D9 B9 K9 hW8 hW9 hRX hFX hBX HNX
       go_wp2_with (first|(refine wpList_store_mid rfl 43 (.tmp 4) (.tmp 57) rfl w.heap.size 0 #[.int .i64 2,.string ⟨#[]⟩,.slice none 0 0,.slice none 0 0,.int .i64 (a:Int)] rfl rfl HT8.out (by kernel_rfl) (by simp [Value.oneCell']) ?_;rw [HW8.out])|(refine wpList_store_mid rfl 28 (.tmp 6) (.tmp 60) rfl (w.heap.size+1) 0 #[.int .i64 2,.int .i64 (j:Int),.int .i64 0] rfl rfl HT9.out (by kernel_rfl) (by simp [Value.oneCell']) ?_;rw [HW9.out]))
       have r0:=HC9.out.c 0 _ rfl
       have r1:=HC9.out.c 1 _ rfl
       have r2:=HC9.out.c 2 _ rfl
       have r3:=HC9.out.c 3 _ rfl
       have r4:=HC9.out.c 4 _ rfl
       have q0:=HD9.out.c 0 _ rfl
       have q1:=HD9.out.c 1 _ rfl
       have q2:=HD9.out.c 2 _ rfl
       exact bodyPost_ret (v:=.tuple #[.agg #[.int .i64 2,.string ⟨#[]⟩,.slice none 0 0,.slice none 0 0,.int .i64 (a:Int)],.int .i64 (j:Int),.agg #[.int .i64 2,.int .i64 (j:Int),.int .i64 0]]) (by simp [results,Try.results57,go_sem,r0,r1,r2,r3,r4,q0,q1,q2]) rfl (by
        refine ⟨(xs,j-(a+1),2),⟨HB9.out,?_⟩,fun h=>by cases h⟩
        rw [if_neg (by show ¬ ((2:Int)=0);decide)]
        refine ⟨j,?_,?_⟩
        ·rw [if_neg (by show ¬ ((2:Int)=-1);decide),show a+1+(j-(a+1))=j by omega]
        ·rw [if_neg (by show ¬ ((2:Int)=-1);decide)];show j=a+1+(j-(a+1));omega)
      ·by_cases h127:n=127
       ·subst h127
        obtain ⟨hRX,hFX,hwd,hBX,hl3⟩:=HSTATE.out w1 HNX.out
        have c0:=hwd.c 0 _ rfl
        have c1:=hwd.c 1 _ rfl
        have c2:=hwd.c 2 _ rfl
        have c3:=hwd.c 3 _ rfl
        have c4:=hwd.c 4 _ rfl
        clear HSTATE hwd hl3 HOW
        obtain ⟨W8,hW8⟩:∃ W8,w1.setCells w.heap.size 0 [.int .i64 2,.string ⟨#[]⟩,.slice none 0 0,.slice none 0 0,.int .i64 (a:Int)]=W8:=⟨_,rfl⟩
        obtain ⟨W9,hW9⟩:∃ W9,W8.setCells (w.heap.size+1) 0 [.int .i64 2,.int .i64 (j:Int),.int .i64 0]=W9:=⟨_,rfl⟩
        have HW8:Hid (w1.setCells w.heap.size 0 (#[.int .i64 2,.string ⟨#[]⟩,.slice none 0 0,.slice none 0 0,.int .i64 (a:Int)]:Array Value).toList=W8):=hW8
        have HW9:Hid (W8.setCells (w.heap.size+1) 0 (#[.int .i64 2,.int .i64 (j:Int),.int .i64 0]:Array Value).toList=W9):=hW9
        obtain ⟨t8,t9,C9,D9,B9,K9⟩:=put53 hRX hFX (by simp) (by simp) hBX hW8 hW9
        have HT8:=hide t8
        have HT9:=hide t9
        have HC9:=hide C9
        have HD9:=hide D9
        have HB9:=hide B9
        clear t8 t9 C9 D9 B9 K9 hW8 hW9 hRX hFX hBX HNX
        go_wp2_with (first|(refine wpList_store_mid rfl 43 (.tmp 4) (.tmp 57) rfl w.heap.size 0 #[.int .i64 2,.string ⟨#[]⟩,.slice none 0 0,.slice none 0 0,.int .i64 (a:Int)] rfl rfl HT8.out (by kernel_rfl) (by simp [Value.oneCell']) ?_;rw [HW8.out])|(refine wpList_store_mid rfl 28 (.tmp 6) (.tmp 60) rfl (w.heap.size+1) 0 #[.int .i64 2,.int .i64 (j:Int),.int .i64 0] rfl rfl HT9.out (by kernel_rfl) (by simp [Value.oneCell']) ?_;rw [HW9.out]))
        have r0:=HC9.out.c 0 _ rfl
        have r1:=HC9.out.c 1 _ rfl
        have r2:=HC9.out.c 2 _ rfl
        have r3:=HC9.out.c 3 _ rfl
        have r4:=HC9.out.c 4 _ rfl
        have q0:=HD9.out.c 0 _ rfl
        have q1:=HD9.out.c 1 _ rfl
        have q2:=HD9.out.c 2 _ rfl
        exact bodyPost_ret (v:=.tuple #[.agg #[.int .i64 2,.string ⟨#[]⟩,.slice none 0 0,.slice none 0 0,.int .i64 (a:Int)],.int .i64 (j:Int),.agg #[.int .i64 2,.int .i64 (j:Int),.int .i64 0]]) (by simp [results,Try.results57,go_sem,r0,r1,r2,r3,r4,q0,q1,q2]) rfl (by
         refine ⟨(xs,j-(a+1),2),⟨HB9.out,?_⟩,fun h=>by cases h⟩
         rw [if_neg (by show ¬ ((2:Int)=0);decide)]
         refine ⟨j,?_,?_⟩
         ·rw [if_neg (by show ¬ ((2:Int)=-1);decide),show a+1+(j-(a+1))=j by omega]
         ·rw [if_neg (by show ¬ ((2:Int)=-1);decide)];show j=a+1+(j-(a+1));omega)
       ·have h127':(n==127)=false:=beq_eq_false_iff_ne.2 h127
        have hk1:1≤k:=by omega
        have hown2:=HOW.out
        have hlt3:=(HSTATE.out w1 HNX.out).2.2.2.2
        go_wp2_with (at_builtin;refine wpList_append_own _ rfl _ _ 109 rfl (w.heap.size+3) 2 i0 (.int .i64 0) 1 8 Try.underlying109 hi hz0 hz1 hz2 rfl (by decide) _ _ _ rfl (hown2.alloc _) ⟨w1.heap.size,0,none⟩ 1 1 [.int .i64 n] rfl rfl ?c1 ?c2 ?c3 ?c4 ?c5 ?_)
        case c1 =>
         intro j u hj
         match j,hj with
        |0,hj=>simp at hj;subst hj;simp [Addr.add]
        case c2=>intro u hu;simp at hu;subst hu;rfl
        case c3=>unfold maxLen;omega
        case c4=>omega
        case c5=>simp;omega
        intro v' w3 hown' hgrow _
        have hown3:w3.ownsRow (w.heap.size+3) 2 1 v' (xs++[n]).length (iv (xs++[n])):=by
         rw [List.length_append,show iv (xs++[n])=iv xs++[.int .i64 n] from List.map_append];exact hown'
        have HNX3:=hide ((HNX.out.alloc (show w.heap.size+3≤w1.heap.size by omega) _).grown hgrow (by simp;omega) (fun q hq=>(hown2.lt q hq).1))
        have HOW3:=hide hown3
        clear hown' hgrow hown2 HNX HOW hown3
        go_wp2
        go_roundg (s.size+1-(j+k))
        case rel=>exact ⟨j+k,xs++[n],by omega,hks,by omega,by rw [List.length_append];simp;omega,by go_num,HOW3.out,HNX3.out⟩
        case measure=>omega
  ·have hlt2:¬ (j:Int)<(s.size:Int):=by omega
   clear HQ1 HQ2 HH1 HH2 HCUT HCS
   obtain ⟨hRX,hFX,hwd,hBX,hl3⟩:=HSTATE.out wr HNX.out
   have c0:=hwd.c 0 _ rfl
   have c1:=hwd.c 1 _ rfl
   have c2:=hwd.c 2 _ rfl
   have c3:=hwd.c 3 _ rfl
   have c4:=hwd.c 4 _ rfl
   clear HSTATE hwd hl3 HOW
   obtain ⟨W8,hW8⟩:∃ W8,wr.setCells w.heap.size 0 [.int .i64 2,.string ⟨#[]⟩,.slice none 0 0,.slice none 0 0,.int .i64 (a:Int)]=W8:=⟨_,rfl⟩
   obtain ⟨W9,hW9⟩:∃ W9,W8.setCells (w.heap.size+1) 0 [.int .i64 2,.int .i64 (a:Int),.int .i64 0]=W9:=⟨_,rfl⟩
   have HW8:Hid (wr.setCells w.heap.size 0 (#[.int .i64 2,.string ⟨#[]⟩,.slice none 0 0,.slice none 0 0,.int .i64 (a:Int)]:Array Value).toList=W8):=hW8
   have HW9:Hid (W8.setCells (w.heap.size+1) 0 (#[.int .i64 2,.int .i64 (a:Int),.int .i64 0]:Array Value).toList=W9):=hW9
   obtain ⟨t8,t9,C9,D9,B9,K9⟩:=put53 hRX hFX (by simp) (by simp) hBX hW8 hW9
   have HT8:=hide t8
   have HT9:=hide t9
   have HC9:=hide C9
   have HD9:=hide D9
   have HB9:=hide B9
   clear t8 t9 C9 D9 B9 K9 hW8 hW9 hRX hFX hBX HNX
   go_wp2_with (first|(refine wpList_store_mid rfl 43 (.tmp 4) (.tmp 68) rfl w.heap.size 0 #[.int .i64 2,.string ⟨#[]⟩,.slice none 0 0,.slice none 0 0,.int .i64 (a:Int)] rfl rfl HT8.out (by kernel_rfl) (by simp [Value.oneCell']) ?_;rw [HW8.out])|(refine wpList_store_mid rfl 28 (.tmp 6) (.tmp 71) rfl (w.heap.size+1) 0 #[.int .i64 2,.int .i64 (a:Int),.int .i64 0] rfl rfl HT9.out (by kernel_rfl) (by simp [Value.oneCell']) ?_;rw [HW9.out]))
   have r0:=HC9.out.c 0 _ rfl
   have r1:=HC9.out.c 1 _ rfl
   have r2:=HC9.out.c 2 _ rfl
   have r3:=HC9.out.c 3 _ rfl
   have r4:=HC9.out.c 4 _ rfl
   have q0:=HD9.out.c 0 _ rfl
   have q1:=HD9.out.c 1 _ rfl
   have q2:=HD9.out.c 2 _ rfl
   exact bodyPost_ret (v:=.tuple #[.agg #[.int .i64 2,.string ⟨#[]⟩,.slice none 0 0,.slice none 0 0,.int .i64 (a:Int)],.int .i64 (j:Int),.agg #[.int .i64 2,.int .i64 (a:Int),.int .i64 0]]) (by simp [results,Try.results57,go_sem,r0,r1,r2,r3,r4,q0,q1,q2]) rfl (by
    refine ⟨(xs,j-(a+1),-1),⟨HB9.out,?_⟩,fun h=>by cases h⟩
    rw [if_neg (by show ¬ ((-1:Int)=0);decide)]
    refine ⟨a,?_,?_⟩
    ·rw [if_pos (show ((-1:Int)=-1) from rfl),show a+1+(j-(a+1))=j by omega]
    ·rw [if_pos (show ((-1:Int)=-1) from rfl)])
set_option maxHeartbeats 16000000 in
theorem one28 (s:ByteArray) (a:Nat) (ha:a<s.size) (hs:s.size≤8192) (w:World) :
  Calls Try.prog 28 #[.string s,.int .i64 (a:Int)] w fun e w'=>GvU s a w e w':=by
 obtain ⟨W2,hW2⟩:∃ W2,((w.alloc (.cells #[.int .i64 0,.string ⟨#[]⟩,.slice none 0 0,.slice none 0 0,.int .i64 0] 43)).alloc (.cells #[.int .i64 0,.int .i64 0,.int .i64 0] 28)).alloc (.cells #[.int .i64 2,.int .i64 (a:Int),.int .i64 0] 28)=W2:=⟨_,rfl⟩
 have hs1:(w.alloc (.cells #[.int .i64 0,.string ⟨#[]⟩,.slice none 0 0,.slice none 0 0,.int .i64 0] 43)).heap.size=w.heap.size+1:=by simp
 have hs2:((w.alloc (.cells #[.int .i64 0,.string ⟨#[]⟩,.slice none 0 0,.slice none 0 0,.int .i64 0] 43)).alloc (.cells #[.int .i64 0,.int .i64 0,.int .i64 0] 28)).heap.size=w.heap.size+2:=by simp
 have b2:Below w.heap.size w W2:=by rw [←hW2];exact bel_to (two_allocs _ _ _) (one_alloc _ _)
 have s2:W2.heap.size=w.heap.size+3:=by rw [←hW2];simp
 have R2:Cs W2 w.heap.size [.int .i64 0,.string ⟨#[]⟩,.slice none 0 0,.slice none 0 0,.int .i64 0]:=by rw [←hW2];exact (Cs.new w [.int .i64 0,.string ⟨#[]⟩,.slice none 0 0,.slice none 0 0,.int .i64 0] 43).next (two_allocs _ _ _) (by simp)
 have F2:Cs W2 (w.heap.size+1) [.int .i64 0,.int .i64 0,.int .i64 0]:=by
  have h:=(Cs.new (w.alloc (.cells #[.int .i64 0,.string ⟨#[]⟩,.slice none 0 0,.slice none 0 0,.int .i64 0] 43)) [.int .i64 0,.int .i64 0,.int .i64 0] 28).next (one_alloc _ (.cells #[.int .i64 2,.int .i64 (a:Int),.int .i64 0] 28)) (by simp)
  rw [hs1] at h
  rw [←hW2];exact h
 have G2:Cs W2 (w.heap.size+2) [.int .i64 2,.int .i64 (a:Int),.int .i64 0]:=by
  have h:=Cs.new ((w.alloc (.cells #[.int .i64 0,.string ⟨#[]⟩,.slice none 0 0,.slice none 0 0,.int .i64 0] 43)).alloc (.cells #[.int .i64 0,.int .i64 0,.int .i64 0] 28)) [.int .i64 2,.int .i64 (a:Int),.int .i64 0] 28
  rw [hs2] at h
  rw [←hW2];exact h
 have HB2:=hide b2
 have HS2:=hide s2
 have HR2:=hide R2
 have HF2:=hide F2
 have HG2:=hide G2
 have HW2:=hide hW2
 have HSG:=hide (sign45 s a (by omega) (by omega) W2)
 have HBE:=hide (fun W=>begins55 s a (by omega) hs W)
 have HST:=hide (fun hb W=>numbers56 s a (by omega) hs hb W)
 have HQU:=hide (fun W=>quoted57 s a ha hs W)
 have HLE:=hide (fun W=>small58 (byt s a) W)
 have HWO:=hide (fun h W=>word59 s a ha hs h W)
 have HFI:=hide (fun W=>fixed60 s a (by omega) hs W)
 have HX:=hide (fun W=>byt_run s a ha W)
 have hln:((numsS s).drop a).length=s.size-a:=by rw [List.length_drop,numsS_len]
 have hl1:((numsS s).drop (a+1)).length=s.size-(a+1):=by rw [List.length_drop,numsS_len]
 have HLN:=hide (And.intro hln hl1)
 have hbnd:a≤8192:=by omega
 have HA:=hide ha
 have hs9:=hs
 clear hW2 hs1 hs2 b2 s2 R2 F2 G2 ha hln hl1 hs
 go_enter Try.func28,Try.ntmps28
 go_upto_region 2 with fail
 rw [HW2.out]
 clear HW2
 generalize oneN ((numsS s).drop a)=on at *
 generalize hok:oneK ((numsS s).drop a)=ok at *
 clear hok
 go_wp2_with fail
 refine HSG.out.mono ?_
 rintro e U ⟨rfl,hbu⟩
 have HBU:=hide hbu
 clear HSG hbu
 by_cases h0:ok=0
 ·subst h0
  have hRX:=HR2.out.next HBU.out HR2.out.lt
  have hFX:=HF2.out.next HBU.out HF2.out.lt
  have hBX:=bel_to HB2.out HBU.out
  clear HBE HST HQU HLE HWO HFI HX
  obtain ⟨W8,hW8⟩:∃ W8,U.setCells w.heap.size 0 [.int .i64 0,.string ⟨#[]⟩,.slice none 0 0,.slice none 0 0,.int .i64 0]=W8:=⟨_,rfl⟩
  obtain ⟨W9,hW9⟩:∃ W9,W8.setCells (w.heap.size+1) 0 [.int .i64 3,.int .i64 (a:Int),.int .i64 0]=W9:=⟨_,rfl⟩
  have HW8:Hid (U.setCells w.heap.size 0 (#[.int .i64 0,.string ⟨#[]⟩,.slice none 0 0,.slice none 0 0,.int .i64 0]:Array Value).toList=W8):=hW8
  have HW9:Hid (W8.setCells (w.heap.size+1) 0 (#[.int .i64 3,.int .i64 (a:Int),.int .i64 0]:Array Value).toList=W9):=hW9
  obtain ⟨t8,t9,C9,D9,B9,K9⟩:=put53 hRX hFX (by simp) (by simp) hBX hW8 hW9
  have HT8:=hide t8
  have HT9:=hide t9
  have HC9:=hide C9
  have HD9:=hide D9
  have HB9:=hide B9
  clear t8 t9 C9 D9 B9 K9 hW8 hW9 hRX hFX hBX
  go_wp2_with (first|(refine wpList_store_mid rfl 43 (.tmp 4) (.tmp 28) rfl w.heap.size 0 #[.int .i64 0,.string ⟨#[]⟩,.slice none 0 0,.slice none 0 0,.int .i64 0] rfl rfl HT8.out (by kernel_rfl) (by simp [Value.oneCell']) ?_;rw [HW8.out])|(refine wpList_store_mid rfl 28 (.tmp 6) (.tmp 31) rfl (w.heap.size+1) 0 #[.int .i64 3,.int .i64 (a:Int),.int .i64 0] rfl rfl HT9.out (by kernel_rfl) (by simp [Value.oneCell']) ?_;rw [HW9.out]))
  have r0:=HC9.out.c 0 _ rfl
  have r1:=HC9.out.c 1 _ rfl
  have r2:=HC9.out.c 2 _ rfl
  have r3:=HC9.out.c 3 _ rfl
  have r4:=HC9.out.c 4 _ rfl
  have q0:=HD9.out.c 0 _ rfl
  have q1:=HD9.out.c 1 _ rfl
  have q2:=HD9.out.c 2 _ rfl
  exact bodyPost_ret (v:=.tuple #[.agg #[.int .i64 0,.string ⟨#[]⟩,.slice none 0 0,.slice none 0 0,.int .i64 0],.int .i64 (a:Int),.agg #[.int .i64 3,.int .i64 (a:Int),.int .i64 0]]) (by simp [results,Try.results28,go_sem,r0,r1,r2,r3,r4,q0,q1,q2]) rfl (⟨⟨0,nilT,nilA,0,3,a⟩,GvO.bad HB9.out rfl (by decide) rfl,fun h=>by cases h⟩)
 ·have hk0:((ok:Int)==0)=false:=beq_eq_false_iff_ne.2 (by omega)
  have HBE1:=hide (HBE.out U)
  clear HBE
  go_wp2_with fail
  refine HBE1.out.mono ?_
  rintro e w1 ⟨⟨b,rfl,hbt⟩,rfl⟩
  clear HBE1
  cases b with
 |true =>
   have HST1:=hide (HST.out (hbt rfl) w1)
   clear HST HQU HLE HWO HFI HX hbt
   go_wp2_with fail
   refine HST1.out.mono ?_
   rintro e w3 ⟨T,⟨hb3,hT⟩,hend⟩
   have HB3:=hide (bel_to HBU.out hb3)
   have HB3L:=hide (bel_to HBU.out hb3).size
   have HTT:=hide hT
   have HLO:=hide (show w.heap.size+3≤w1.heap.size by have:=HS2.out;have:=HBU.out.size;omega)
   clear HST1 hb3 hT
   obtain ⟨xs,st,bd⟩:=T
   cases bd with
  |some j =>
    obtain rfl:=HTT.out
    obtain ⟨X,hX⟩:∃ X,w3.alloc (.cells #[.int .i64 1,.string ⟨#[]⟩,.slice none 0 0,.slice none 0 0,.int .i64 (a:Int)] 43)=X:=⟨_,rfl⟩
    have bq:Below w3.heap.size w3 X:=by rw [←hX];exact one_alloc _ _
    have DX:Cs X w3.heap.size [.int .i64 1,.string ⟨#[]⟩,.slice none 0 0,.slice none 0 0,.int .i64 (a:Int)]:=by rw [←hX];exact Cs.new w3 [.int .i64 1,.string ⟨#[]⟩,.slice none 0 0,.slice none 0 0,.int .i64 (a:Int)] 43
    have c0:=DX.c 0 _ rfl
    have c1:=DX.c 1 _ rfl
    have c2:=DX.c 2 _ rfl
    have c3:=DX.c 3 _ rfl
    have c4:=DX.c 4 _ rfl
    have HBQ:=hide bq
    have HB4:=hide (bel_to HB3.out bq)
    clear bq DX HB3
    have hRX:=HR2.out.next HB4.out HR2.out.lt
    have hFX:=HF2.out.next HB4.out HF2.out.lt
    have hBX:=bel_to HB2.out HB4.out
    obtain ⟨W8,hW8⟩:∃ W8,X.setCells w.heap.size 0 [.int .i64 1,.string ⟨#[]⟩,.slice none 0 0,.slice none 0 0,.int .i64 (a:Int)]=W8:=⟨_,rfl⟩
    obtain ⟨W9,hW9⟩:∃ W9,W8.setCells (w.heap.size+1) 0 [.int .i64 2,.int .i64 ((a+j:Nat):Int),.int .i64 0]=W9:=⟨_,rfl⟩
    have HW8:Hid (X.setCells w.heap.size 0 (#[.int .i64 1,.string ⟨#[]⟩,.slice none 0 0,.slice none 0 0,.int .i64 (a:Int)]:Array Value).toList=W8):=hW8
    have HW9:Hid (W8.setCells (w.heap.size+1) 0 (#[.int .i64 2,.int .i64 ((a+j:Nat):Int),.int .i64 0]:Array Value).toList=W9):=hW9
    obtain ⟨t8,t9,C9,D9,B9,K9⟩:=put53 hRX hFX (by simp) (by simp) hBX hW8 hW9
    have HT8:=hide t8
    have HT9:=hide t9
    have HC9:=hide C9
    have HD9:=hide D9
    have HB9:=hide B9
    clear t8 t9 C9 D9 B9 K9 hW8 hW9 hRX hFX hBX
    go_wp2_with (first|(refine wpList_store_mid rfl 43 (.tmp 4) (.tmp 44) rfl w.heap.size 0 #[.int .i64 1,.string ⟨#[]⟩,.slice none 0 0,.slice none 0 0,.int .i64 (a:Int)] rfl rfl HT8.out (by kernel_rfl) (by simp [Value.oneCell']) ?_;rw [HW8.out])|(refine wpList_store_mid rfl 28 (.tmp 6) (.tmp 47) rfl (w.heap.size+1) 0 #[.int .i64 2,.int .i64 ((a+j:Nat):Int),.int .i64 0] rfl rfl HT9.out (by kernel_rfl) (by simp [Value.oneCell']) ?_;rw [HW9.out]))
    have r0:=HC9.out.c 0 _ rfl
    have r1:=HC9.out.c 1 _ rfl
    have r2:=HC9.out.c 2 _ rfl
    have r3:=HC9.out.c 3 _ rfl
    have r4:=HC9.out.c 4 _ rfl
    have q0:=HD9.out.c 0 _ rfl
    have q1:=HD9.out.c 1 _ rfl
    have q2:=HD9.out.c 2 _ rfl
    exact bodyPost_ret (v:=.tuple #[.agg #[.int .i64 1,.string ⟨#[]⟩,.slice none 0 0,.slice none 0 0,.int .i64 (a:Int)],.int .i64 ((a+j:Nat):Int),.agg #[.int .i64 2,.int .i64 ((a+j:Nat):Int),.int .i64 0]]) (by simp [results,Try.results28,go_sem,r0,r1,r2,r3,r4,q0,q1,q2]) rfl (⟨⟨1,nilT,nilA,0,2,a+j⟩,GvO.bad HB9.out rfl (by decide) rfl,fun h=>by cases h⟩)
  |none =>
    obtain ⟨z1,m1,z2,m2,rfl,hin⟩:=HTT.out
    have HIN:=hide hin
    have hse:=hend rfl
    simp only at hse
    have HFT:=hide (show a<a+st∧a+st≤s.size∧nilT.size≤s.size from ⟨by omega,by omega,by show 0≤_;omega⟩)
    obtain ⟨l1,hl1⟩:∃ l1,(litD xs).shape.length=l1:=⟨_,rfl⟩
    obtain ⟨l2,hl2⟩:∃ l2,(litD xs).cells.length=l2:=⟨_,rfl⟩
    have HL1:=hide hl1
    have HL2:=hide hl2
    simp only [hl1,hl2] at HIN ⊢
    clear hin hl1 hl2 hse HTT hend
    obtain ⟨X,hX⟩:∃ X,w3.alloc (.cells #[.int .i64 1,.string ⟨#[]⟩,.slice z1 l1 m1,.slice z2 l2 m2,.int .i64 (a:Int)] 43)=X:=⟨_,rfl⟩
    have bq:Below w3.heap.size w3 X:=by rw [←hX];exact one_alloc _ _
    have DX:Cs X w3.heap.size [.int .i64 1,.string ⟨#[]⟩,.slice z1 l1 m1,.slice z2 l2 m2,.int .i64 (a:Int)]:=by rw [←hX];exact Cs.new w3 [.int .i64 1,.string ⟨#[]⟩,.slice z1 l1 m1,.slice z2 l2 m2,.int .i64 (a:Int)] 43
    have c0:=DX.c 0 _ rfl
    have c1:=DX.c 1 _ rfl
    have c2:=DX.c 2 _ rfl
    have c3:=DX.c 3 _ rfl
    have c4:=DX.c 4 _ rfl
    have HBQ:=hide bq
    have HB4:=hide (bel_to HB3.out bq)
    clear bq DX HB3
    have hRX:=HR2.out.next HB4.out HR2.out.lt
    have hFX:=HF2.out.next HB4.out HF2.out.lt
    have hBX:=bel_to HB2.out HB4.out
    obtain ⟨W8,hW8⟩:∃ W8,X.setCells w.heap.size 0 [.int .i64 1,.string ⟨#[]⟩,.slice z1 l1 m1,.slice z2 l2 m2,.int .i64 (a:Int)]=W8:=⟨_,rfl⟩
    obtain ⟨W9,hW9⟩:∃ W9,W8.setCells (w.heap.size+1) 0 [.int .i64 0,.int .i64 0,.int .i64 0]=W9:=⟨_,rfl⟩
    have HW8:Hid (X.setCells w.heap.size 0 (#[.int .i64 1,.string ⟨#[]⟩,.slice z1 l1 m1,.slice z2 l2 m2,.int .i64 (a:Int)]:Array Value).toList=W8):=hW8
    have HW9:Hid (W8.setCells (w.heap.size+1) 0 (#[.int .i64 0,.int .i64 0,.int .i64 0]:Array Value).toList=W9):=hW9
    obtain ⟨t8,t9,C9,D9,B9,K9⟩:=put53 hRX hFX (by simp) (by simp) hBX hW8 hW9
    have HT8:=hide t8
    have HT9:=hide t9
    have HC9:=hide C9
    have HD9:=hide D9
    have HB9:=hide B9
    have HINN:Hid (ArIn 1 w.heap.size W9 (litD xs) (.agg #[.slice z1 l1 m1,.slice z2 l2 m2])):=hide (arIn_low ((HIN.out.next HBQ.out).keeps (K9 _ (by have:=HLO.out;omega))) (by have:=HLO.out;omega))
    clear t8 t9 C9 D9 B9 K9 hW8 hW9 hRX hFX hBX
    go_wp2_with (first|(refine wpList_store_mid rfl 43 (.tmp 4) (.tmp 48) rfl w.heap.size 0 #[.int .i64 1,.string ⟨#[]⟩,.slice z1 l1 m1,.slice z2 l2 m2,.int .i64 (a:Int)] rfl rfl HT8.out (by kernel_rfl) (by simp [Value.oneCell']) ?_;rw [HW8.out])|(refine wpList_store_mid rfl 28 (.tmp 6) (.tmp 50) rfl (w.heap.size+1) 0 #[.int .i64 0,.int .i64 0,.int .i64 0] rfl rfl HT9.out (by kernel_rfl) (by simp [Value.oneCell']) ?_;rw [HW9.out]))
    have r0:=HC9.out.c 0 _ rfl
    have r1:=HC9.out.c 1 _ rfl
    have r2:=HC9.out.c 2 _ rfl
    have r3:=HC9.out.c 3 _ rfl
    have r4:=HC9.out.c 4 _ rfl
    have q0:=HD9.out.c 0 _ rfl
    have q1:=HD9.out.c 1 _ rfl
    have q2:=HD9.out.c 2 _ rfl
    exact bodyPost_ret (v:=.tuple #[.agg #[.int .i64 1,.string ⟨#[]⟩,.slice z1 l1 m1,.slice z2 l2 m2,.int .i64 (a:Int)],.int .i64 ((a+st:Nat):Int),.agg #[.int .i64 0,.int .i64 0,.int .i64 0]]) (by simp [results,Try.results28,go_sem,r0,r1,r2,r3,r4,q0,q1,q2]) rfl (⟨⟨1,nilT,litD xs,a+st,0,0⟩,GvO.good HB9.out rfl rfl rfl rfl HL1.out.symm HL2.out.symm HINN.out,fun _=>HFT.out⟩)
 |false =>
   clear HST hbt
   have hx:=HX.out
   clear HX
   by_cases h39:byt s a=34
   ·rw [h39] at hx
    have HQ1:=hide (HQU.out w1)
    clear HQU HLE HWO HFI h39
    go_wp2_with fail
    refine HQ1.out.mono ?_
    rintro e w3 ⟨T,⟨hb3,hT⟩,hend⟩
    have HB3:=hide (bel_to HBU.out hb3)
    have HB3L:=hide (bel_to HBU.out hb3).size
    have HTT:=hide hT
    have HLO:=hide (show w.heap.size+3≤w1.heap.size by have:=HS2.out;have:=HBU.out.size;omega)
    clear HQ1 hb3 hT
    obtain ⟨xs,st,er⟩:=T
    by_cases he0:er=0
    ·subst he0
     have hq:=HTT.out
     rw [if_pos rfl] at hq
     obtain ⟨z1,m1,z2,m2,rfl,hin⟩:=hq
     have HIN:=hide hin
     have hse:=hend rfl
     simp only at hse
     have HFT:=hide (show a<a+1+st+1∧a+1+st+1≤s.size∧nilT.size≤s.size from ⟨by omega,by have:=HA.out;omega,by show 0≤_;omega⟩)
     obtain ⟨l1,hl1⟩:∃ l1,(textA xs).shape.length=l1:=⟨_,rfl⟩
     obtain ⟨l2,hl2⟩:∃ l2,(textA xs).cells.length=l2:=⟨_,rfl⟩
     have HL1:=hide hl1
     have HL2:=hide hl2
     simp only [hl1,hl2] at HIN ⊢
     clear hin hl1 hl2 hse HTT hend
     have hRX:=HR2.out.next HB3.out HR2.out.lt
     have hFX:=HF2.out.next HB3.out HF2.out.lt
     have hBX:=bel_to HB2.out HB3.out
     obtain ⟨W8,hW8⟩:∃ W8,w3.setCells w.heap.size 0 [.int .i64 2,.string ⟨#[]⟩,.slice z1 l1 m1,.slice z2 l2 m2,.int .i64 (a:Int)]=W8:=⟨_,rfl⟩
     obtain ⟨W9,hW9⟩:∃ W9,W8.setCells (w.heap.size+1) 0 [.int .i64 0,.int .i64 0,.int .i64 0]=W9:=⟨_,rfl⟩
     have HW8:Hid (w3.setCells w.heap.size 0 (#[.int .i64 2,.string ⟨#[]⟩,.slice z1 l1 m1,.slice z2 l2 m2,.int .i64 (a:Int)]:Array Value).toList=W8):=hW8
     have HW9:Hid (W8.setCells (w.heap.size+1) 0 (#[.int .i64 0,.int .i64 0,.int .i64 0]:Array Value).toList=W9):=hW9
     obtain ⟨t8,t9,C9,D9,B9,K9⟩:=put53 hRX hFX (by simp) (by simp) hBX hW8 hW9
     have HT8:=hide t8
     have HT9:=hide t9
     have HC9:=hide C9
     have HD9:=hide D9
     have HB9:=hide B9
     have HINN:Hid (ArIn 1 w.heap.size W9 (textA xs) (.agg #[.slice z1 l1 m1,.slice z2 l2 m2])):=hide (arIn_low (HIN.out.keeps (K9 _ (by have:=HLO.out;omega))) (by have:=HLO.out;omega))
     clear t8 t9 C9 D9 B9 K9 hW8 hW9 hRX hFX hBX
     go_wp2_with (first|(refine wpList_store_mid rfl 43 (.tmp 4) (.tmp 58) rfl w.heap.size 0 #[.int .i64 2,.string ⟨#[]⟩,.slice z1 l1 m1,.slice z2 l2 m2,.int .i64 (a:Int)] rfl rfl HT8.out (by kernel_rfl) (by simp [Value.oneCell']) ?_;rw [HW8.out])|(refine wpList_store_mid rfl 28 (.tmp 6) (.tmp 60) rfl (w.heap.size+1) 0 #[.int .i64 0,.int .i64 0,.int .i64 0] rfl rfl HT9.out (by kernel_rfl) (by simp [Value.oneCell']) ?_;rw [HW9.out]))
     have r0:=HC9.out.c 0 _ rfl
     have r1:=HC9.out.c 1 _ rfl
     have r2:=HC9.out.c 2 _ rfl
     have r3:=HC9.out.c 3 _ rfl
     have r4:=HC9.out.c 4 _ rfl
     have q0:=HD9.out.c 0 _ rfl
     have q1:=HD9.out.c 1 _ rfl
     have q2:=HD9.out.c 2 _ rfl
     exact bodyPost_ret (v:=.tuple #[.agg #[.int .i64 2,.string ⟨#[]⟩,.slice z1 l1 m1,.slice z2 l2 m2,.int .i64 (a:Int)],.int .i64 ((a+1+st:Nat)+1:Int),.agg #[.int .i64 0,.int .i64 0,.int .i64 0]]) (by simp [results,Try.results28,go_sem,r0,r1,r2,r3,r4,q0,q1,q2]) rfl (⟨⟨2,nilT,textA xs,a+1+st+1,0,0⟩,GvO.good HB9.out rfl rfl rfl (by push_cast;rfl) HL1.out.symm HL2.out.symm HINN.out,fun _=>HFT.out⟩)
    ·have hq:=HTT.out
     rw [if_neg he0] at hq
     obtain ⟨pl,rfl,hpl⟩:=hq
     have HPL:=hide hpl
     have HE0:=hide (show ¬ (if er=-1 then (2:Int) else er)=0 by split<;>omega)
     clear HTT hpl he0 hend
     generalize hER:(if er=-1 then (2:Int) else er)=ER at *
     generalize hPP:(if er=-1 then a else a+1+st)=PP at *
     clear hER hPP
     have hRX:=HR2.out.next HB3.out HR2.out.lt
     have hFX:=HF2.out.next HB3.out HF2.out.lt
     have hBX:=bel_to HB2.out HB3.out
     obtain ⟨W8,hW8⟩:∃ W8,w3.setCells w.heap.size 0 [.int .i64 2,.string ⟨#[]⟩,.slice none 0 0,.slice none 0 0,.int .i64 (a:Int)]=W8:=⟨_,rfl⟩
     obtain ⟨W9,hW9⟩:∃ W9,W8.setCells (w.heap.size+1) 0 [.int .i64 ER,.int .i64 (pl:Int),.int .i64 0]=W9:=⟨_,rfl⟩
     have HW8:Hid (w3.setCells w.heap.size 0 (#[.int .i64 2,.string ⟨#[]⟩,.slice none 0 0,.slice none 0 0,.int .i64 (a:Int)]:Array Value).toList=W8):=hW8
     have HW9:Hid (W8.setCells (w.heap.size+1) 0 (#[.int .i64 ER,.int .i64 (pl:Int),.int .i64 0]:Array Value).toList=W9):=hW9
     obtain ⟨t8,t9,C9,D9,B9,K9⟩:=put53 hRX hFX (by simp) (by simp) hBX hW8 hW9
     have HT8:=hide t8
     have HT9:=hide t9
     have HC9:=hide C9
     have HD9:=hide D9
     have HB9:=hide B9
     clear t8 t9 C9 D9 B9 K9 hW8 hW9 hRX hFX hBX
     go_wp2_with (first|(refine wpList_store_mid rfl 43 (.tmp 4) (.tmp 58) rfl w.heap.size 0 #[.int .i64 2,.string ⟨#[]⟩,.slice none 0 0,.slice none 0 0,.int .i64 (a:Int)] rfl rfl HT8.out (by kernel_rfl) (by simp [Value.oneCell']) ?_;rw [HW8.out])|(refine wpList_store_mid rfl 28 (.tmp 6) (.tmp 60) rfl (w.heap.size+1) 0 #[.int .i64 ER,.int .i64 (pl:Int),.int .i64 0] rfl rfl HT9.out (by kernel_rfl) (by simp [Value.oneCell']) ?_;rw [HW9.out]))
     have r0:=HC9.out.c 0 _ rfl
     have r1:=HC9.out.c 1 _ rfl
     have r2:=HC9.out.c 2 _ rfl
     have r3:=HC9.out.c 3 _ rfl
     have r4:=HC9.out.c 4 _ rfl
     have q0:=HD9.out.c 0 _ rfl
     have q1:=HD9.out.c 1 _ rfl
     have q2:=HD9.out.c 2 _ rfl
     exact bodyPost_ret (v:=.tuple #[.agg #[.int .i64 2,.string ⟨#[]⟩,.slice none 0 0,.slice none 0 0,.int .i64 (a:Int)],.int .i64 ((a+1+st:Nat):Int),.agg #[.int .i64 ER,.int .i64 (pl:Int),.int .i64 0]]) (by simp [results,Try.results28,go_sem,r0,r1,r2,r3,r4,q0,q1,q2]) rfl (⟨⟨2,nilT,nilA,0,ER,PP⟩,GvO.bad HB9.out rfl HE0.out (congrArg Int.ofNat HPL.out),fun h=>absurd h HE0.out⟩)
   ·have h39':(byt s a==34)=false:=beq_eq_false_iff_ne.2 h39
    have HLE1:=hide (HLE.out w1)
    clear HQU HLE h39
    cases hlt:smB (byt s a) with
   |true =>
     rw [hlt] at HLE1
     have HW1:=hide (HWO.out hlt w1)
     clear HWO HFI hlt
     generalize byt s a=ch at *
     go_wp2_with fail
     refine HLE1.out.mono ?_
     rintro e w1 ⟨rfl,rfl⟩
     clear HLE1
     go_wp2_with fail
     refine HW1.out.mono ?_
     rintro e w3 ⟨hb3,kd,tx,st,okw,rfl,hst1,hst2,htx⟩
     have HB3:=hide (bel_to HBU.out hb3)
     have HB3L:=hide (bel_to HBU.out hb3).size
     have HFT:=hide (And.intro hst1 (And.intro hst2 htx))
     clear HW1 hb3 hst1 hst2 htx
     cases okw with
    |false =>
      go_upto_region 15 with fail
      obtain ⟨X,hX⟩:∃ X,w3.alloc (.cells #[.int .i64 kd,.string tx,.slice none 0 0,.slice none 0 0,.int .i64 (a:Int)] 43)=X:=⟨_,rfl⟩
      have bq:Below w3.heap.size w3 X:=by rw [←hX];exact one_alloc _ _
      have DX:Cs X w3.heap.size [.int .i64 kd,.string tx,.slice none 0 0,.slice none 0 0,.int .i64 (a:Int)]:=by rw [←hX];exact Cs.new w3 [.int .i64 kd,.string tx,.slice none 0 0,.slice none 0 0,.int .i64 (a:Int)] 43
      have c0:=DX.c 0 _ rfl
      have c1:=DX.c 1 _ rfl
      have c2:=DX.c 2 _ rfl
      have c3:=DX.c 3 _ rfl
      have c4:=DX.c 4 _ rfl
      have HBQ:=hide bq
      have HB4:=hide (bel_to HB3.out bq)
      clear bq DX HB3
      have hRX:=HR2.out.next HB4.out HR2.out.lt
      have hFX:=HF2.out.next HB4.out HF2.out.lt
      have hBX:=bel_to HB2.out HB4.out
      rw [hX]
      clear hX
      have z0:=hRX.c 0 _ rfl
      have z1:=hRX.c 1 _ rfl
      have z2:=hRX.c 2 _ rfl
      have z3:=hRX.c 3 _ rfl
      have z4:=hRX.c 4 _ rfl
      have y0:=hFX.c 0 _ rfl
      have y1:=hFX.c 1 _ rfl
      have y2:=hFX.c 2 _ rfl
      have hGX:=HG2.out.next HB4.out HG2.out.lt
      have x0:=hGX.c 0 _ rfl
      have x1:=hGX.c 1 _ rfl
      have x2:=hGX.c 2 _ rfl
      have zz:=hRX.z
      have yz:=hFX.z
      have zl:=hRX.lt
      have yl:=hFX.lt
      clear hGX
      have hq3:w.heap.size+1<w3.heap.size:=by have:=HB3L.out;have:=HS2.out;omega
      go_region
      obtain ⟨W9,hW9,C9,D9,B9⟩:=fin8 hRX hFX (by simp) (by simp) hBX (.int .i64 kd) (.string tx) (.slice none 0 0) (.slice none 0 0) (.int .i64 (a:Int)) (.int .i64 2) (.int .i64 (a:Int)) (.int .i64 0)
      rw [hW9]
      have HC9:=hide C9
      have HD9:=hide D9
      have HB9:=hide B9
      clear C9 D9 B9 hW9 hRX hFX hBX
      go_wp2
      have r0:=HC9.out.c 0 _ rfl
      have r1:=HC9.out.c 1 _ rfl
      have r2:=HC9.out.c 2 _ rfl
      have r3:=HC9.out.c 3 _ rfl
      have r4:=HC9.out.c 4 _ rfl
      have q0:=HD9.out.c 0 _ rfl
      have q1:=HD9.out.c 1 _ rfl
      have q2:=HD9.out.c 2 _ rfl
      exact bodyPost_ret (v:=.tuple #[.agg #[.int .i64 kd,.string tx,.slice none 0 0,.slice none 0 0,.int .i64 (a:Int)],.int .i64 (st:Int),.agg #[.int .i64 2,.int .i64 (a:Int),.int .i64 0]]) (by simp [results,Try.results28,go_sem,r0,r1,r2,r3,r4,q0,q1,q2]) rfl (⟨⟨kd,tx,nilA,0,2,a⟩,GvO.bad HB9.out rfl (by decide) rfl,fun h=>by cases h⟩)
    |true =>
      obtain ⟨X,hX⟩:∃ X,w3.alloc (.cells #[.int .i64 kd,.string tx,.slice none 0 0,.slice none 0 0,.int .i64 (a:Int)] 43)=X:=⟨_,rfl⟩
      have bq:Below w3.heap.size w3 X:=by rw [←hX];exact one_alloc _ _
      have DX:Cs X w3.heap.size [.int .i64 kd,.string tx,.slice none 0 0,.slice none 0 0,.int .i64 (a:Int)]:=by rw [←hX];exact Cs.new w3 [.int .i64 kd,.string tx,.slice none 0 0,.slice none 0 0,.int .i64 (a:Int)] 43
      have c0:=DX.c 0 _ rfl
      have c1:=DX.c 1 _ rfl
      have c2:=DX.c 2 _ rfl
      have c3:=DX.c 3 _ rfl
      have c4:=DX.c 4 _ rfl
      have HBQ:=hide bq
      have HB4:=hide (bel_to HB3.out bq)
      clear bq DX HB3
      have hRX:=HR2.out.next HB4.out HR2.out.lt
      have hFX:=HF2.out.next HB4.out HF2.out.lt
      have hBX:=bel_to HB2.out HB4.out
      obtain ⟨W8,hW8⟩:∃ W8,X.setCells w.heap.size 0 [.int .i64 kd,.string tx,.slice none 0 0,.slice none 0 0,.int .i64 (a:Int)]=W8:=⟨_,rfl⟩
      obtain ⟨W9,hW9⟩:∃ W9,W8.setCells (w.heap.size+1) 0 [.int .i64 0,.int .i64 0,.int .i64 0]=W9:=⟨_,rfl⟩
      have HW8:Hid (X.setCells w.heap.size 0 (#[.int .i64 kd,.string tx,.slice none 0 0,.slice none 0 0,.int .i64 (a:Int)]:Array Value).toList=W8):=hW8
      have HW9:Hid (W8.setCells (w.heap.size+1) 0 (#[.int .i64 0,.int .i64 0,.int .i64 0]:Array Value).toList=W9):=hW9
      obtain ⟨t8,t9,C9,D9,B9,K9⟩:=put53 hRX hFX (by simp) (by simp) hBX hW8 hW9
      have HT8:=hide t8
      have HT9:=hide t9
      have HC9:=hide C9
      have HD9:=hide D9
      have HB9:=hide B9
      clear t8 t9 C9 D9 B9 K9 hW8 hW9 hRX hFX hBX
      go_wp2_with (first|(refine wpList_store_mid rfl 43 (.tmp 4) (.tmp 77) rfl w.heap.size 0 #[.int .i64 kd,.string tx,.slice none 0 0,.slice none 0 0,.int .i64 (a:Int)] rfl rfl HT8.out (by kernel_rfl) (by simp [Value.oneCell']) ?_;rw [HW8.out])|(refine wpList_store_mid rfl 28 (.tmp 6) (.tmp 79) rfl (w.heap.size+1) 0 #[.int .i64 0,.int .i64 0,.int .i64 0] rfl rfl HT9.out (by kernel_rfl) (by simp [Value.oneCell']) ?_;rw [HW9.out]))
      have r0:=HC9.out.c 0 _ rfl
      have r1:=HC9.out.c 1 _ rfl
      have r2:=HC9.out.c 2 _ rfl
      have r3:=HC9.out.c 3 _ rfl
      have r4:=HC9.out.c 4 _ rfl
      have q0:=HD9.out.c 0 _ rfl
      have q1:=HD9.out.c 1 _ rfl
      have q2:=HD9.out.c 2 _ rfl
      exact bodyPost_ret (v:=.tuple #[.agg #[.int .i64 kd,.string tx,.slice none 0 0,.slice none 0 0,.int .i64 (a:Int)],.int .i64 (st:Int),.agg #[.int .i64 0,.int .i64 0,.int .i64 0]]) (by simp [results,Try.results28,go_sem,r0,r1,r2,r3,r4,q0,q1,q2]) rfl (⟨⟨kd,tx,nilA,st,0,0⟩,GvO.good HB9.out rfl rfl rfl rfl rfl rfl (nilA_in 0 _ _),fun _=>HFT.out⟩)
   |false =>
     rw [hlt] at HLE1
     have HF1:=hide (HFI.out w1)
     clear HWO HFI hlt
     generalize byt s a=ch at *
     go_wp2_with fail
     refine HLE1.out.mono ?_
     rintro e w1 ⟨rfl,rfl⟩
     clear HLE1
     go_wp2_with fail
     refine HF1.out.mono ?_
     rintro e w3 ⟨hb3,kd,tx,pp,okw,rfl,hk⟩
     have HB3:=hide (bel_to HBU.out hb3)
     have HB3L:=hide (bel_to HBU.out hb3).size
     have HK:=hide hk
     clear HF1 hb3 hk
     cases okw with
    |false =>
      go_upto_region 19 with fail
      obtain ⟨X,hX⟩:∃ X,w3.alloc (.cells #[.int .i64 kd,.string tx,.slice none 0 0,.slice none 0 0,.int .i64 pp] 43)=X:=⟨_,rfl⟩
      have bq:Below w3.heap.size w3 X:=by rw [←hX];exact one_alloc _ _
      have DX:Cs X w3.heap.size [.int .i64 kd,.string tx,.slice none 0 0,.slice none 0 0,.int .i64 pp]:=by rw [←hX];exact Cs.new w3 [.int .i64 kd,.string tx,.slice none 0 0,.slice none 0 0,.int .i64 pp] 43
      have c0:=DX.c 0 _ rfl
      have c1:=DX.c 1 _ rfl
      have c2:=DX.c 2 _ rfl
      have c3:=DX.c 3 _ rfl
      have c4:=DX.c 4 _ rfl
      have HBQ:=hide bq
      have HB4:=hide (bel_to HB3.out bq)
      clear bq DX HB3
      have hRX:=HR2.out.next HB4.out HR2.out.lt
      have hFX:=HF2.out.next HB4.out HF2.out.lt
      have hBX:=bel_to HB2.out HB4.out
      rw [hX]
      clear hX
      have z0:=hRX.c 0 _ rfl
      have z1:=hRX.c 1 _ rfl
      have z2:=hRX.c 2 _ rfl
      have z3:=hRX.c 3 _ rfl
      have z4:=hRX.c 4 _ rfl
      have y0:=hFX.c 0 _ rfl
      have y1:=hFX.c 1 _ rfl
      have y2:=hFX.c 2 _ rfl
      have hGX:=HG2.out.next HB4.out HG2.out.lt
      have x0:=hGX.c 0 _ rfl
      have x1:=hGX.c 1 _ rfl
      have x2:=hGX.c 2 _ rfl
      have zz:=hRX.z
      have yz:=hFX.z
      have zl:=hRX.lt
      have yl:=hFX.lt
      clear hGX
      have hq3:w.heap.size+1<w3.heap.size:=by have:=HB3L.out;have:=HS2.out;omega
      go_region
      obtain ⟨W9,hW9,C9,D9,B9⟩:=fin8 hRX hFX (by simp) (by simp) hBX (.int .i64 kd) (.string tx) (.slice none 0 0) (.slice none 0 0) (.int .i64 pp) (.int .i64 2) (.int .i64 (a:Int)) (.int .i64 0)
      rw [hW9]
      have HC9:=hide C9
      have HD9:=hide D9
      have HB9:=hide B9
      clear C9 D9 B9 hW9 hRX hFX hBX
      go_wp2
      have r0:=HC9.out.c 0 _ rfl
      have r1:=HC9.out.c 1 _ rfl
      have r2:=HC9.out.c 2 _ rfl
      have r3:=HC9.out.c 3 _ rfl
      have r4:=HC9.out.c 4 _ rfl
      have q0:=HD9.out.c 0 _ rfl
      have q1:=HD9.out.c 1 _ rfl
      have q2:=HD9.out.c 2 _ rfl
      exact bodyPost_ret (v:=.tuple #[.agg #[.int .i64 kd,.string tx,.slice none 0 0,.slice none 0 0,.int .i64 pp],.int .i64 (a:Int),.agg #[.int .i64 2,.int .i64 (a:Int),.int .i64 0]]) (by simp [results,Try.results28,go_sem,r0,r1,r2,r3,r4,q0,q1,q2]) rfl (⟨⟨kd,tx,nilA,0,2,a⟩,GvO.bad HB9.out rfl (by decide) rfl,fun h=>by cases h⟩)
    |true =>
      obtain ⟨rfl,hk1,hk2⟩:=HK.out rfl
      have HFT:=hide (show a<a+1∧a+1≤s.size∧tx.size≤s.size from ⟨by omega,HA.out,by omega⟩)
      have htb:tx.size≤8192:=by omega
      clear hk1 hk2 HK
      obtain ⟨X,hX⟩:∃ X,w3.alloc (.cells #[.int .i64 kd,.string tx,.slice none 0 0,.slice none 0 0,.int .i64 (a:Int)] 43)=X:=⟨_,rfl⟩
      have bq:Below w3.heap.size w3 X:=by rw [←hX];exact one_alloc _ _
      have DX:Cs X w3.heap.size [.int .i64 kd,.string tx,.slice none 0 0,.slice none 0 0,.int .i64 (a:Int)]:=by rw [←hX];exact Cs.new w3 [.int .i64 kd,.string tx,.slice none 0 0,.slice none 0 0,.int .i64 (a:Int)] 43
      have c0:=DX.c 0 _ rfl
      have c1:=DX.c 1 _ rfl
      have c2:=DX.c 2 _ rfl
      have c3:=DX.c 3 _ rfl
      have c4:=DX.c 4 _ rfl
      have HBQ:=hide bq
      have HB4:=hide (bel_to HB3.out bq)
      clear bq DX HB3
      have hRX:=HR2.out.next HB4.out HR2.out.lt
      have hFX:=HF2.out.next HB4.out HF2.out.lt
      have hBX:=bel_to HB2.out HB4.out
      obtain ⟨W8,hW8⟩:∃ W8,X.setCells w.heap.size 0 [.int .i64 kd,.string tx,.slice none 0 0,.slice none 0 0,.int .i64 (a:Int)]=W8:=⟨_,rfl⟩
      obtain ⟨W9,hW9⟩:∃ W9,W8.setCells (w.heap.size+1) 0 [.int .i64 0,.int .i64 0,.int .i64 0]=W9:=⟨_,rfl⟩
      have HW8:Hid (X.setCells w.heap.size 0 (#[.int .i64 kd,.string tx,.slice none 0 0,.slice none 0 0,.int .i64 (a:Int)]:Array Value).toList=W8):=hW8
      have HW9:Hid (W8.setCells (w.heap.size+1) 0 (#[.int .i64 0,.int .i64 0,.int .i64 0]:Array Value).toList=W9):=hW9
      obtain ⟨t8,t9,C9,D9,B9,K9⟩:=put53 hRX hFX (by simp) (by simp) hBX hW8 hW9
      have HT8:=hide t8
      have HT9:=hide t9
      have HC9:=hide C9
      have HD9:=hide D9
      have HB9:=hide B9
      clear t8 t9 C9 D9 B9 K9 hW8 hW9 hRX hFX hBX
      go_wp2_with (first|(refine wpList_store_mid rfl 43 (.tmp 4) (.tmp 91) rfl w.heap.size 0 #[.int .i64 kd,.string tx,.slice none 0 0,.slice none 0 0,.int .i64 (a:Int)] rfl rfl HT8.out (by kernel_rfl) (by simp [Value.oneCell']) ?_;rw [HW8.out])|(refine wpList_store_mid rfl 28 (.tmp 6) (.tmp 94) rfl (w.heap.size+1) 0 #[.int .i64 0,.int .i64 0,.int .i64 0] rfl rfl HT9.out (by kernel_rfl) (by simp [Value.oneCell']) ?_;rw [HW9.out]))
      have r0:=HC9.out.c 0 _ rfl
      have r1:=HC9.out.c 1 _ rfl
      have r2:=HC9.out.c 2 _ rfl
      have r3:=HC9.out.c 3 _ rfl
      have r4:=HC9.out.c 4 _ rfl
      have q0:=HD9.out.c 0 _ rfl
      have q1:=HD9.out.c 1 _ rfl
      have q2:=HD9.out.c 2 _ rfl
      exact bodyPost_ret (v:=.tuple #[.agg #[.int .i64 kd,.string tx,.slice none 0 0,.slice none 0 0,.int .i64 (a:Int)],.int .i64 ((a:Int)+1),.agg #[.int .i64 0,.int .i64 0,.int .i64 0]]) (by simp [results,Try.results28,go_sem,r0,r1,r2,r3,r4,q0,q1,q2]) rfl (⟨⟨kd,tx,nilA,a+1,0,0⟩,GvO.good HB9.out rfl rfl rfl (by push_cast;rfl) rfl rfl (nilA_in 0 _ _),fun _=>HFT.out⟩)
set_option maxHeartbeats 16000000 in
theorem lex16 (s:ByteArray) (w:World) :
  Calls Try.prog 16 #[.string s] w fun e w'=>∃ F,GvX F w e w':=by
 obtain ⟨i0,hi,hz0,hz1,hz2⟩:=info_parts info43
 obtain ⟨W1,hW1⟩:∃ W1,w.alloc (.cells #[.int .i64 0,.int .i64 0,.int .i64 0] 28)=W1:=⟨_,rfl⟩
 have b1:Below w.heap.size w W1:=by rw [←hW1];exact one_alloc _ _
 have s1:W1.heap.size=w.heap.size+1:=by rw [←hW1];simp
 have R1:Cs W1 w.heap.size [.int .i64 0,.int .i64 0,.int .i64 0]:=by rw [←hW1];exact Cs.new w [.int .i64 0,.int .i64 0,.int .i64 0] 28
 by_cases hlong:8192<s.size
 ·have hlong':(8192:Int)<(s.size:Int):=by omega
  have hrf:=R1
  have hbw:=b1
  have HW1:=hide hW1
  clear hlong b1 s1 R1 hW1
  go_enter Try.func16,Try.ntmps16
  go_upto_region 2 with fail
  rw [HW1.out]
  obtain ⟨W9,hW9⟩:∃ W9,W1.setCells w.heap.size 0 [.int .i64 14,.int .i64 0,.int .i64 0]=W9:=⟨_,rfl⟩
  have HW9:Hid (W1.setCells w.heap.size 0 (#[.int .i64 14,.int .i64 0,.int .i64 0]:Array Value).toList=W9):=hW9
  obtain ⟨C9,B9⟩:=hrf.put (us:=[.int .i64 14,.int .i64 0,.int .i64 0]) (by simp) hW9
  have HTH9:=hide (hrf.there (n:=3) (by simp))
  have HC9:=hide C9
  have HB9:=hide (hbw.trans (B9.below hbw.size fun k hk=>by omega))
  clear hrf hbw C9 B9 hW9
  go_wp2_with (first|(refine wpList_store_mid rfl 28 (.tmp 3) (.tmp 12) rfl w.heap.size 0 #[.int .i64 14,.int .i64 0,.int .i64 0] rfl rfl HTH9.out (by kernel_rfl) (by simp [Value.oneCell']) ?_;rw [HW9.out]))
  have q0:=HC9.out.c 0 _ rfl
  have q1:=HC9.out.c 1 _ rfl
  have q2:=HC9.out.c 2 _ rfl
  exact bodyPost_ret (v:=.tuple #[.slice none 0 0,.agg #[.int .i64 14,.int .i64 0,.int .i64 0]]) (by simp [results,Try.results16,go_sem,q0,q1,q2]) rfl ⟨.bad 14 0,HB9.out,rfl⟩
 ·have hL:s.size≤8192:=by omega
  have hlong':¬ (8192:Int)<(s.size:Int):=by omega
  have HSTATE:Hid (∀ wr,Below (w.heap.size+1) W1 wr→Cs wr w.heap.size [.int .i64 0,.int .i64 0,.int .i64 0]∧Below w.heap.size w wr∧w.heap.size+1≤wr.heap.size):=fun wr h =>
   ⟨R1.next h (by omega),b1.trans (h.mono (by omega)),by have:=h.size;omega⟩
  have HNX0:Hid (Below (w.heap.size+1) W1 W1):=Below.refl _ _
  have HOWN:Hid (W1.ownsRow (w.heap.size+1) 43 5 (.slice none 0 0) 0 []):=World.ownsRow_nil _ _ _ _
  have hll:=lead_le blB (numsS s)
  rw [numsS_len] at hll
  have HBL:=hide (fun j (hj:j≤s.size) W=>blanks24 s j hj (by omega) W)
  have hb0:=HBL.out 0 (Nat.zero_le _) W1
  rw [List.drop_zero,Nat.zero_add] at hb0
  have HB0:=hide hb0
  have HRM:Hid (∀ j,j<s.size→∀ W,(Instr.index 9 (.string s) (.int .i64 (j:Int))).run Try.prog W=.ok (.int .u8 (byt s j)) W):=fun j h W=>byt_run s j h W
  have HON:=hide (fun j (hj:j<s.size) W=>one28 s j hj hL W)
  have HW1:=hide hW1
  have HL:=hide hL
  have HLB:=hide (fun j=>(show lead blB ((numsS s).drop j)≤s.size-j by have:=lead_le blB ((numsS s).drop j);rwa [List.length_drop,numsS_len] at this))
  clear hlong b1 s1 R1 hW1 hb0
  go_enter Try.func16,Try.ntmps16
  go_upto_region 4 with fail
  rw [HW1.out]
  go_wp2_with fail
  refine HB0.out.mono ?_
  rintro e w0 ⟨rfl,rfl⟩
  clear HB0 HW1
  generalize lead blB (numsS s)=q0 at *
  go_wp2
  go_loopg [5,4] (s.size+1-q0) (fun g nv lv wr=>∃ (q:Nat) (ts:List Wo) (vs:List Value),g+q=s.size+1∧q≤s.size∧nv=.int .i64 (q:Int)∧wr.ownsRow (w.heap.size+1) 43 5 lv ts.length vs∧TkL w.heap.size lv.ownBlock wr ts vs∧Below (w.heap.size+1) w0 wr∧ts.length≤2048)
  case atStart=>exact ⟨q0,[],[],by omega,hll,rfl,HOWN.out,TkL.nil _ _ _,HNX0.out,by simp⟩
  case round =>
   clear HNX0 HOWN hll
   obtain ⟨q,ts,vs,hg,hq,rfl,hown,htkl,hnx,htl⟩:=hrel
   have hL2:=HL.out
   have HOW:=hide hown
   have HTK:=hide htkl
   have HNX:=hide hnx
   clear hown htkl hnx
   by_cases hlt:q<s.size
   ·have hlt':(q:Int)<(s.size:Int):=by omega
    have hx:=HRM.out q hlt wr
    by_cases hc:byt s q=47
    ·rw [hc] at hx
     by_cases h0:q=0
     ·have h0':((q:Int)==0)=true:=by simp [h0]
      clear HRM hc h0
      clear HBL HON HLB
      obtain ⟨pa,pc,rfl,hpc,htk⟩:=tkIn_of (s:=w.heap.size) (by omega) HOW.out HTK.out
      obtain ⟨hrf,hbw,hl2⟩:=HSTATE.out wr HNX.out
      obtain ⟨W9,hW9⟩:∃ W9,wr.setCells w.heap.size 0 [.int .i64 0,.int .i64 0,.int .i64 0]=W9:=⟨_,rfl⟩
      have HW9:Hid (wr.setCells w.heap.size 0 (#[.int .i64 0,.int .i64 0,.int .i64 0]:Array Value).toList=W9):=hW9
      obtain ⟨C9,B9⟩:=hrf.put (us:=[.int .i64 0,.int .i64 0,.int .i64 0]) (by simp) hW9
      have HTH9:=hide (hrf.there (n:=3) (by simp))
      have HC9:=hide C9
      have HB9:=hide (hbw.trans (B9.below hbw.size fun k hk=>by omega))
      have HPC:=hide hpc
      have HTKI:=hide (show WoK w.heap.size W9 pa ts from fun W h1 h2=>htk W (Nat.le_trans B9.size h1) fun k hs hk=>(h2 k (Nat.le_of_lt hs) (Nat.lt_of_lt_of_le hk B9.size)).trans (B9.block hk (fun he=>by omega)))
      clear hrf hbw hl2 hpc htk HSTATE HNX HOW HTK C9 B9 hW9
      generalize hTL:ts.length=TL at *
      have HTL:=hide hTL
      clear hTL
      go_wp2_with (first|(refine wpList_store_mid rfl 28 (.tmp 3) (.tmp 58) rfl w.heap.size 0 #[.int .i64 0,.int .i64 0,.int .i64 0] rfl rfl HTH9.out (by kernel_rfl) (by simp [Value.oneCell']) ?_;rw [HW9.out]))
      have q0:=HC9.out.c 0 _ rfl
      have q1:=HC9.out.c 1 _ rfl
      have q2:=HC9.out.c 2 _ rfl
      exact bodyPost_ret (v:=.tuple #[.slice pa TL pc,.agg #[.int .i64 0,.int .i64 0,.int .i64 0]]) (by simp [results,Try.results16,go_sem,q0,q1,q2]) rfl ⟨.ok ts,HB9.out,pa,pc,by rw [HTL.out],by rw [HTL.out];exact HPC.out,HTKI.out⟩
     ·have h0':((q:Int)==0)=false:=beq_eq_false_iff_ne.2 (by omega)
      have hx2:=HRM.out (q-1) (by omega) wr
      rw [show ((q-1:Nat):Int)=(q:Int)-1 by omega] at hx2
      clear HRM hc
      by_cases hd:byt s (q-1)=32
      ·rw [hd] at hx2
       clear hd
       clear HBL HON HLB
       obtain ⟨pa,pc,rfl,hpc,htk⟩:=tkIn_of (s:=w.heap.size) (by omega) HOW.out HTK.out
       obtain ⟨hrf,hbw,hl2⟩:=HSTATE.out wr HNX.out
       obtain ⟨W9,hW9⟩:∃ W9,wr.setCells w.heap.size 0 [.int .i64 0,.int .i64 0,.int .i64 0]=W9:=⟨_,rfl⟩
       have HW9:Hid (wr.setCells w.heap.size 0 (#[.int .i64 0,.int .i64 0,.int .i64 0]:Array Value).toList=W9):=hW9
       obtain ⟨C9,B9⟩:=hrf.put (us:=[.int .i64 0,.int .i64 0,.int .i64 0]) (by simp) hW9
       have HTH9:=hide (hrf.there (n:=3) (by simp))
       have HC9:=hide C9
       have HB9:=hide (hbw.trans (B9.below hbw.size fun k hk=>by omega))
       have HPC:=hide hpc
       have HTKI:=hide (show WoK w.heap.size W9 pa ts from fun W h1 h2=>htk W (Nat.le_trans B9.size h1) fun k hs hk=>(h2 k (Nat.le_of_lt hs) (Nat.lt_of_lt_of_le hk B9.size)).trans (B9.block hk (fun he=>by omega)))
       clear hrf hbw hl2 hpc htk HSTATE HNX HOW HTK C9 B9 hW9
       generalize hTL:ts.length=TL at *
       have HTL:=hide hTL
       clear hTL
       go_wp2_with (first|(refine wpList_store_mid rfl 28 (.tmp 3) (.tmp 58) rfl w.heap.size 0 #[.int .i64 0,.int .i64 0,.int .i64 0] rfl rfl HTH9.out (by kernel_rfl) (by simp [Value.oneCell']) ?_;rw [HW9.out]))
       have q0:=HC9.out.c 0 _ rfl
       have q1:=HC9.out.c 1 _ rfl
       have q2:=HC9.out.c 2 _ rfl
       exact bodyPost_ret (v:=.tuple #[.slice pa TL pc,.agg #[.int .i64 0,.int .i64 0,.int .i64 0]]) (by simp [results,Try.results16,go_sem,q0,q1,q2]) rfl ⟨.ok ts,HB9.out,pa,pc,by rw [HTL.out],by rw [HTL.out];exact HPC.out,HTKI.out⟩
      ·have hd':(byt s (q-1)==32)=false:=beq_eq_false_iff_ne.2 hd
       clear hd
       generalize byt s (q-1)=dd at *
       have HO1:=hide (HON.out q hlt wr)
       clear HON
       by_cases h48:ts.length=2048
       ·have h48':((ts.length:Int)==2048)=true:=by simp [h48]
        obtain ⟨la,lc,hla⟩:=owns_slice HOW.out
        subst hla
        obtain ⟨hrf,hbw,hl2⟩:=HSTATE.out wr HNX.out
        clear HBL HLB HO1 HSTATE HTK HNX HOW h48
        generalize ts.length=TL at *
        obtain ⟨W9,hW9⟩:∃ W9,wr.setCells w.heap.size 0 [.int .i64 14,.int .i64 (q:Int),.int .i64 0]=W9:=⟨_,rfl⟩
        have HW9:Hid (wr.setCells w.heap.size 0 (#[.int .i64 14,.int .i64 (q:Int),.int .i64 0]:Array Value).toList=W9):=hW9
        obtain ⟨C9,B9⟩:=hrf.put (us:=[.int .i64 14,.int .i64 (q:Int),.int .i64 0]) (by simp) hW9
        have HTH9:=hide (hrf.there (n:=3) (by simp))
        have HC9:=hide C9
        have HB9:=hide (hbw.trans (B9.below hbw.size fun k hk=>by omega))
        clear hrf hbw C9 B9 hW9
        go_wp2_with (first|(refine wpList_store_mid rfl 28 (.tmp 3) (.tmp 38) rfl w.heap.size 0 #[.int .i64 14,.int .i64 (q:Int),.int .i64 0] rfl rfl HTH9.out (by kernel_rfl) (by simp [Value.oneCell']) ?_;rw [HW9.out]))
        have q0:=HC9.out.c 0 _ rfl
        have q1:=HC9.out.c 1 _ rfl
        have q2:=HC9.out.c 2 _ rfl
        exact bodyPost_ret (v:=.tuple #[.slice none 0 0,.agg #[.int .i64 14,.int .i64 (q:Int),.int .i64 0]]) (by simp [results,Try.results16,go_sem,q0,q1,q2]) rfl ⟨.bad 14 (q:Int),HB9.out,rfl⟩
       ·have h48':((ts.length:Int)==2048)=false:=beq_eq_false_iff_ne.2 (by omega)
        obtain ⟨la,lc,hla⟩:=owns_slice HOW.out
        subst hla
        have HLTG:=hide (fun k hk=>(HOW.out.lt k hk).2)
        obtain ⟨TL,hTL⟩:∃ TL,ts.length=TL:=⟨_,rfl⟩
        have HTL:=hide hTL
        rw [hTL] at HOW HLTG htl h48'
        simp only [hTL]
        have HL2:=hide (HSTATE.out wr HNX.out).2.2
        have htl2:TL<2048:=by omega
        clear h48 hTL
        go_wp2_with fail
        refine HO1.out.mono ?_
        rintro e w2 ⟨r,⟨hb2,kd,tx,z1,z2,l1,m1,l2,m2,at',st,pl,rfl,hok,hbad⟩,hend⟩
        have HEND:=hide hend
        clear hend
        obtain ⟨er,her0⟩:∃ er,r.err=er:=⟨_,rfl⟩
        have HER:=hide her0
        rw [her0] at hok hbad HEND ⊢
        clear her0
        have HOK:=hide hok
        have HBD:=hide hbad
        have HB2:=hide hb2
        obtain ⟨W3,hW3⟩:∃ W3,(w2.alloc (.cells #[.int .i64 kd,.string tx,.slice z1 l1 m1,.slice z2 l2 m2,.int .i64 at'] 43)).alloc (.cells #[.int .i64 er,.int .i64 pl,.int .i64 0] 28)=W3:=⟨_,rfl⟩
        have hb3:Below w2.heap.size w2 W3:=by rw [←hW3];exact two_allocs _ _ _
        have D3:Cs W3 w2.heap.size [.int .i64 kd,.string tx,.slice z1 l1 m1,.slice z2 l2 m2,.int .i64 at']:=by rw [←hW3];exact (Cs.new w2 [.int .i64 kd,.string tx,.slice z1 l1 m1,.slice z2 l2 m2,.int .i64 at'] 43).next (one_alloc _ _) (by simp)
        have E3:Cs W3 (w2.heap.size+1) [.int .i64 er,.int .i64 pl,.int .i64 0]:=by
         have hs:(w2.alloc (.cells #[.int .i64 kd,.string tx,.slice z1 l1 m1,.slice z2 l2 m2,.int .i64 at'] 43)).heap.size=w2.heap.size+1:=by simp
         have h:=Cs.new (w2.alloc (.cells #[.int .i64 kd,.string tx,.slice z1 l1 m1,.slice z2 l2 m2,.int .i64 at'] 43)) [.int .i64 er,.int .i64 pl,.int .i64 0] 28
         rw [hs] at h
         rw [←hW3];exact h
        have HNX2:=hide (HNX.out.trans (hb2.mono HL2.out))
        have hl2':=(HSTATE.out w2 HNX2.out).2.2
        have HNX3:=hide (HNX2.out.trans (hb3.mono hl2'))
        have HOW3:=hide (owns_next (owns_next HOW.out hb2) hb3)
        have HTK3:=hide ((HTK.out.next hb2).next hb3)
        have HB3:=hide hb3
        have HW3:=hide hW3
        have e0:=E3.c 0 _ rfl
        have e1:=E3.c 1 _ rfl
        have e2:=E3.c 2 _ rfl
        have t0:=D3.c 0 _ rfl
        have t1:=D3.c 1 _ rfl
        have t2:=D3.c 2 _ rfl
        have t3:=D3.c 3 _ rfl
        have t4:=D3.c 4 _ rfl
        clear hok hbad hb2 hb3 hW3 HNX HOW HTK HO1 HNX2 D3 E3
        by_cases her:er=0
        ·obtain ⟨hk,htx,rfl,rfl,rfl,hn1,hn2,hin⟩:=HOK.out her
         obtain ⟨hs1,hs2,hs3⟩:=HEND.out her
         subst her
         have HIN:=hide hin
         have HEQ:=hide (And.intro hk (And.intro htx (And.intro hn1 hn2)))
         have HTZ:=hide hs3
         obtain ⟨so,hso⟩:∃ so,r.stop=so:=⟨_,rfl⟩
         rw [hso] at hs1 hs2
         simp only [hso] at HW3 ⊢
         clear HOK HBD HEND hk htx hn1 hn2 hin hs3 hso
         go_upto_region 10 with fail
         rw [HW3.out]
         have hown3:=HOW3.out
         have hx3:=HNX3.out.size
         have hl3:=(HSTATE.out W3 HNX3.out).2.2
         go_wp2_with (at_builtin;refine wpList_append_at rfl _ _ 25 rfl (w.heap.size+1) 43 i0 (.agg #[.int .i64 0,.string ⟨#[]⟩,.slice none 0 0,.slice none 0 0,.int .i64 0]) 5 80 Try.underlying25 hi hz0 hz1 hz2 rfl (by decide) _ _ _ rfl (hown3.alloc _) ⟨W3.heap.size,0,none⟩ 1 1 [.int .i64 kd,.string tx,.slice z1 l1 m1,.slice z2 l2 m2,.int .i64 (q:Int)] rfl rfl ?c1 ?c2 ?c3 ?c4 ?c5 ?_)
         case c1 =>
          intro j u hj
          match j,hj with
         |0,hj=>simp at hj;subst hj;simp [Addr.add]
         |1,hj=>simp at hj;subst hj;simp [Addr.add]
         |2,hj=>simp at hj;subst hj;simp [Addr.add]
         |3,hj=>simp at hj;subst hj;simp [Addr.add]
         |4,hj=>simp at hj;subst hj;simp [Addr.add]
         case c2=>intro u hu;simp at hu;rcases hu with rfl|rfl|rfl|rfl|rfl<;>rfl
         case c3=>unfold maxLen;omega
         case c4=>omega
         case c5=>simp;omega
         intro v' w4 hown4 hgrow hwhere
         obtain ⟨WA,hWA⟩:∃ WA,W3.alloc (.cells #[.int .i64 kd,.string tx,.slice z1 l1 m1,.slice z2 l2 m2,.int .i64 (q:Int)] 43)=WA:=⟨_,rfl⟩
         rw [hWA] at hgrow
         have hsa:WA.heap.size=W3.heap.size+1:=by rw [←hWA];simp
         rw [←hsa] at hwhere
         have hba:Below W3.heap.size W3 WA:=by rw [←hWA];exact one_alloc _ _
         have HOW4:=hide hown4
         have HTK4:Hid (TkL w.heap.size v'.ownBlock w4 (ts++[⟨r.kind,r.text,r.lit,(q:Int)⟩]) (vs++[.int .i64 kd,.string tx,.slice z1 l1 m1,.slice z2 l2 m2,.int .i64 (q:Int)])):=by
          obtain ⟨hk,htx,hn1,hn2⟩:=HEQ.out
          have hlit:LitIn w.heap.size (Value.slice la TL lc).ownBlock WA r.lit (.agg #[.slice z1 r.lit.shape.length m1,.slice z2 r.lit.cells.length m2]):=by
           rw [←hn1,← hn2]
           exact ((LitIn.of HIN.out (by have:=HL2.out;omega) (fun k hk=>HLTG.out k hk)).next HB3.out).next hba
          have htk3:=HTK3.out
          rw [HTL.out] at htk3
          have:=(htk3.next hba).snoc (t:=⟨r.kind,r.text,r.lit,(q:Int)⟩) (by have:=HTZ.out;show r.text.size≤_;omega) (by rw [HTL.out];exact hown3.1) hlit hgrow hwhere
          rw [hk,htx,hn1,hn2]
          exact this
         have HNX4:=hide ((HNX3.out.trans (hba.mono (by omega))).grown hgrow (by have:=hba.size;omega) (fun k hk=>(hown3.lt k hk).1))
         clear hown4 hgrow hwhere hWA hba hown3 HTK3 HOW3 HIN HB2 HB3 HLTG HEQ e0 e1 e2 t0 t1 t2 t3 t4
         have HPB:=hide (HBL.out so hs2)
         have hlb:=HLB.out so
         obtain ⟨nx,hnx⟩:∃ nx,so+lead blB ((numsS s).drop so)=nx:=⟨_,rfl⟩
         rw [hnx] at HPB
         have hle:nx≤s.size∧q<nx:=by omega
         clear hnx hlb
         go_wp2_with fail
         refine (HPB.out _).mono ?_
         rintro e w5 ⟨rfl,rfl⟩
         clear HPB
         go_wp2
         go_roundg (s.size+1-nx)
         case rel=>exact ⟨nx,ts++[⟨r.kind,r.text,r.lit,(q:Int)⟩],_,by omega,hle.1,rfl,by rw [List.length_append,HTL.out];exact HOW4.out,HTK4.out,HNX4.out,by rw [List.length_append,HTL.out];simp;omega⟩
         case measure=>omega
        ·have hpl:=HBD.out her
         subst hpl
         have her':(er != 0)=true:=bne_iff_ne.2 her
         obtain ⟨hrf,hbw,hl3⟩:=HSTATE.out W3 HNX3.out
         obtain ⟨W9,hW9⟩:∃ W9,W3.setCells w.heap.size 0 [.int .i64 er,.int .i64 (r.ea:Int),.int .i64 0]=W9:=⟨_,rfl⟩
         have HX9:Hid (((W3.setCell ⟨w.heap.size,0,none⟩ (.int .i64 er)).setCell ⟨w.heap.size,1,none⟩ (.int .i64 (r.ea:Int))).setCell ⟨w.heap.size,2,none⟩ (.int .i64 0)=W9):=by rw [←hW9];rfl
         obtain ⟨C9,B9⟩:=hrf.put (us:=[.int .i64 er,.int .i64 (r.ea:Int),.int .i64 0]) (by simp) hW9
         have HC9:=hide (C9.next (B:=W9.heap.size) (w9drew W9) C9.lt)
         have HB9:=hide ((hbw.trans (B9.below hbw.size fun k hk=>by omega)).trans ((w9drew W9).mono (by have:=hbw.size;have:=B9.size;omega)))
         have f0:=hrf.c 0 _ rfl
         have f1:=hrf.c 1 _ rfl
         have f2:=hrf.c 2 _ rfl
         have fz:=hrf.z
         have hlt3:w.heap.size<w2.heap.size:=by have:=HB2.out.size;have:=HL2.out;omega
         clear HOK HBD HEND her hrf hbw hl3 C9 B9 hW9 HSTATE HTK3 HOW3 HNX3 HB2 HB3 HLTG HBL HLB HER
         go_upto_region 10 with fail
         rw [HW3.out]
         go_upto_region 11 with fail
         go_region_with (fail)
         all_goals
          rw [HX9.out]
          go_wp2
          have q0:=HC9.out.c 0 _ rfl
          have q1:=HC9.out.c 1 _ rfl
          have q2:=HC9.out.c 2 _ rfl
          exact bodyPost_ret (v:=.tuple #[.slice none 0 0,.agg #[.int .i64 er,.int .i64 (r.ea:Int),.int .i64 0]]) (by simp [results,Try.results16,go_sem,q0,q1,q2]) rfl ⟨.bad er (r.ea:Int),HB9.out,rfl⟩
    ·have hc':(byt s q==47)=false:=beq_eq_false_iff_ne.2 hc
     clear HRM hc
     generalize byt s q=cc at *
     have HO1:=hide (HON.out q hlt wr)
     clear HON
     by_cases h48:ts.length=2048
     ·have h48':((ts.length:Int)==2048)=true:=by simp [h48]
      obtain ⟨la,lc,hla⟩:=owns_slice HOW.out
      subst hla
      obtain ⟨hrf,hbw,hl2⟩:=HSTATE.out wr HNX.out
      clear HBL HLB HO1 HSTATE HTK HNX HOW h48
      generalize ts.length=TL at *
      obtain ⟨W9,hW9⟩:∃ W9,wr.setCells w.heap.size 0 [.int .i64 14,.int .i64 (q:Int),.int .i64 0]=W9:=⟨_,rfl⟩
      have HW9:Hid (wr.setCells w.heap.size 0 (#[.int .i64 14,.int .i64 (q:Int),.int .i64 0]:Array Value).toList=W9):=hW9
      obtain ⟨C9,B9⟩:=hrf.put (us:=[.int .i64 14,.int .i64 (q:Int),.int .i64 0]) (by simp) hW9
      have HTH9:=hide (hrf.there (n:=3) (by simp))
      have HC9:=hide C9
      have HB9:=hide (hbw.trans (B9.below hbw.size fun k hk=>by omega))
      clear hrf hbw C9 B9 hW9
      go_wp2_with (first|(refine wpList_store_mid rfl 28 (.tmp 3) (.tmp 38) rfl w.heap.size 0 #[.int .i64 14,.int .i64 (q:Int),.int .i64 0] rfl rfl HTH9.out (by kernel_rfl) (by simp [Value.oneCell']) ?_;rw [HW9.out]))
      have q0:=HC9.out.c 0 _ rfl
      have q1:=HC9.out.c 1 _ rfl
      have q2:=HC9.out.c 2 _ rfl
      exact bodyPost_ret (v:=.tuple #[.slice none 0 0,.agg #[.int .i64 14,.int .i64 (q:Int),.int .i64 0]]) (by simp [results,Try.results16,go_sem,q0,q1,q2]) rfl ⟨.bad 14 (q:Int),HB9.out,rfl⟩
     ·have h48':((ts.length:Int)==2048)=false:=beq_eq_false_iff_ne.2 (by omega)
      obtain ⟨la,lc,hla⟩:=owns_slice HOW.out
      subst hla
      have HLTG:=hide (fun k hk=>(HOW.out.lt k hk).2)
      obtain ⟨TL,hTL⟩:∃ TL,ts.length=TL:=⟨_,rfl⟩
      have HTL:=hide hTL
      rw [hTL] at HOW HLTG htl h48'
      simp only [hTL]
      have HL2:=hide (HSTATE.out wr HNX.out).2.2
      have htl2:TL<2048:=by omega
      clear h48 hTL
      go_wp2_with fail
      refine HO1.out.mono ?_
      rintro e w2 ⟨r,⟨hb2,kd,tx,z1,z2,l1,m1,l2,m2,at',st,pl,rfl,hok,hbad⟩,hend⟩
      have HEND:=hide hend
      clear hend
      obtain ⟨er,her0⟩:∃ er,r.err=er:=⟨_,rfl⟩
      have HER:=hide her0
      rw [her0] at hok hbad HEND ⊢
      clear her0
      have HOK:=hide hok
      have HBD:=hide hbad
      have HB2:=hide hb2
      obtain ⟨W3,hW3⟩:∃ W3,(w2.alloc (.cells #[.int .i64 kd,.string tx,.slice z1 l1 m1,.slice z2 l2 m2,.int .i64 at'] 43)).alloc (.cells #[.int .i64 er,.int .i64 pl,.int .i64 0] 28)=W3:=⟨_,rfl⟩
      have hb3:Below w2.heap.size w2 W3:=by rw [←hW3];exact two_allocs _ _ _
      have D3:Cs W3 w2.heap.size [.int .i64 kd,.string tx,.slice z1 l1 m1,.slice z2 l2 m2,.int .i64 at']:=by rw [←hW3];exact (Cs.new w2 [.int .i64 kd,.string tx,.slice z1 l1 m1,.slice z2 l2 m2,.int .i64 at'] 43).next (one_alloc _ _) (by simp)
      have E3:Cs W3 (w2.heap.size+1) [.int .i64 er,.int .i64 pl,.int .i64 0]:=by
       have hs:(w2.alloc (.cells #[.int .i64 kd,.string tx,.slice z1 l1 m1,.slice z2 l2 m2,.int .i64 at'] 43)).heap.size=w2.heap.size+1:=by simp
       have h:=Cs.new (w2.alloc (.cells #[.int .i64 kd,.string tx,.slice z1 l1 m1,.slice z2 l2 m2,.int .i64 at'] 43)) [.int .i64 er,.int .i64 pl,.int .i64 0] 28
       rw [hs] at h
       rw [←hW3];exact h
      have HNX2:=hide (HNX.out.trans (hb2.mono HL2.out))
      have hl2':=(HSTATE.out w2 HNX2.out).2.2
      have HNX3:=hide (HNX2.out.trans (hb3.mono hl2'))
      have HOW3:=hide (owns_next (owns_next HOW.out hb2) hb3)
      have HTK3:=hide ((HTK.out.next hb2).next hb3)
      have HB3:=hide hb3
      have HW3:=hide hW3
      have e0:=E3.c 0 _ rfl
      have e1:=E3.c 1 _ rfl
      have e2:=E3.c 2 _ rfl
      have t0:=D3.c 0 _ rfl
      have t1:=D3.c 1 _ rfl
      have t2:=D3.c 2 _ rfl
      have t3:=D3.c 3 _ rfl
      have t4:=D3.c 4 _ rfl
      clear hok hbad hb2 hb3 hW3 HNX HOW HTK HO1 HNX2 D3 E3
      by_cases her:er=0
      ·obtain ⟨hk,htx,rfl,rfl,rfl,hn1,hn2,hin⟩:=HOK.out her
       obtain ⟨hs1,hs2,hs3⟩:=HEND.out her
       subst her
       have HIN:=hide hin
       have HEQ:=hide (And.intro hk (And.intro htx (And.intro hn1 hn2)))
       have HTZ:=hide hs3
       obtain ⟨so,hso⟩:∃ so,r.stop=so:=⟨_,rfl⟩
       rw [hso] at hs1 hs2
       simp only [hso] at HW3 ⊢
       clear HOK HBD HEND hk htx hn1 hn2 hin hs3 hso
       go_upto_region 10 with fail
       rw [HW3.out]
       have hown3:=HOW3.out
       have hx3:=HNX3.out.size
       have hl3:=(HSTATE.out W3 HNX3.out).2.2
       go_wp2_with (at_builtin;refine wpList_append_at rfl _ _ 25 rfl (w.heap.size+1) 43 i0 (.agg #[.int .i64 0,.string ⟨#[]⟩,.slice none 0 0,.slice none 0 0,.int .i64 0]) 5 80 Try.underlying25 hi hz0 hz1 hz2 rfl (by decide) _ _ _ rfl (hown3.alloc _) ⟨W3.heap.size,0,none⟩ 1 1 [.int .i64 kd,.string tx,.slice z1 l1 m1,.slice z2 l2 m2,.int .i64 (q:Int)] rfl rfl ?c1 ?c2 ?c3 ?c4 ?c5 ?_)
       case c1 =>
        intro j u hj
        match j,hj with
       |0,hj=>simp at hj;subst hj;simp [Addr.add]
       |1,hj=>simp at hj;subst hj;simp [Addr.add]
       |2,hj=>simp at hj;subst hj;simp [Addr.add]
       |3,hj=>simp at hj;subst hj;simp [Addr.add]
       |4,hj=>simp at hj;subst hj;simp [Addr.add]
       case c2=>intro u hu;simp at hu;rcases hu with rfl|rfl|rfl|rfl|rfl<;>rfl
       case c3=>unfold maxLen;omega
       case c4=>omega
       case c5=>simp;omega
       intro v' w4 hown4 hgrow hwhere
       obtain ⟨WA,hWA⟩:∃ WA,W3.alloc (.cells #[.int .i64 kd,.string tx,.slice z1 l1 m1,.slice z2 l2 m2,.int .i64 (q:Int)] 43)=WA:=⟨_,rfl⟩
       rw [hWA] at hgrow
       have hsa:WA.heap.size=W3.heap.size+1:=by rw [←hWA];simp
       rw [←hsa] at hwhere
       have hba:Below W3.heap.size W3 WA:=by rw [←hWA];exact one_alloc _ _
       have HOW4:=hide hown4
       have HTK4:Hid (TkL w.heap.size v'.ownBlock w4 (ts++[⟨r.kind,r.text,r.lit,(q:Int)⟩]) (vs++[.int .i64 kd,.string tx,.slice z1 l1 m1,.slice z2 l2 m2,.int .i64 (q:Int)])):=by
        obtain ⟨hk,htx,hn1,hn2⟩:=HEQ.out
        have hlit:LitIn w.heap.size (Value.slice la TL lc).ownBlock WA r.lit (.agg #[.slice z1 r.lit.shape.length m1,.slice z2 r.lit.cells.length m2]):=by
         rw [←hn1,← hn2]
         exact ((LitIn.of HIN.out (by have:=HL2.out;omega) (fun k hk=>HLTG.out k hk)).next HB3.out).next hba
        have htk3:=HTK3.out
        rw [HTL.out] at htk3
        have:=(htk3.next hba).snoc (t:=⟨r.kind,r.text,r.lit,(q:Int)⟩) (by have:=HTZ.out;show r.text.size≤_;omega) (by rw [HTL.out];exact hown3.1) hlit hgrow hwhere
        rw [hk,htx,hn1,hn2]
        exact this
       have HNX4:=hide ((HNX3.out.trans (hba.mono (by omega))).grown hgrow (by have:=hba.size;omega) (fun k hk=>(hown3.lt k hk).1))
       clear hown4 hgrow hwhere hWA hba hown3 HTK3 HOW3 HIN HB2 HB3 HLTG HEQ e0 e1 e2 t0 t1 t2 t3 t4
       have HPB:=hide (HBL.out so hs2)
       have hlb:=HLB.out so
       obtain ⟨nx,hnx⟩:∃ nx,so+lead blB ((numsS s).drop so)=nx:=⟨_,rfl⟩
       rw [hnx] at HPB
       have hle:nx≤s.size∧q<nx:=by omega
       clear hnx hlb
       go_wp2_with fail
       refine (HPB.out _).mono ?_
       rintro e w5 ⟨rfl,rfl⟩
       clear HPB
       go_wp2
       go_roundg (s.size+1-nx)
       case rel=>exact ⟨nx,ts++[⟨r.kind,r.text,r.lit,(q:Int)⟩],_,by omega,hle.1,rfl,by rw [List.length_append,HTL.out];exact HOW4.out,HTK4.out,HNX4.out,by rw [List.length_append,HTL.out];simp;omega⟩
       case measure=>omega
      ·have hpl:=HBD.out her
       subst hpl
       have her':(er != 0)=true:=bne_iff_ne.2 her
       obtain ⟨hrf,hbw,hl3⟩:=HSTATE.out W3 HNX3.out
       obtain ⟨W9,hW9⟩:∃ W9,W3.setCells w.heap.size 0 [.int .i64 er,.int .i64 (r.ea:Int),.int .i64 0]=W9:=⟨_,rfl⟩
       have HX9:Hid (((W3.setCell ⟨w.heap.size,0,none⟩ (.int .i64 er)).setCell ⟨w.heap.size,1,none⟩ (.int .i64 (r.ea:Int))).setCell ⟨w.heap.size,2,none⟩ (.int .i64 0)=W9):=by rw [←hW9];rfl
       obtain ⟨C9,B9⟩:=hrf.put (us:=[.int .i64 er,.int .i64 (r.ea:Int),.int .i64 0]) (by simp) hW9
       have HC9:=hide (C9.next (B:=W9.heap.size) (w9drew W9) C9.lt)
       have HB9:=hide ((hbw.trans (B9.below hbw.size fun k hk=>by omega)).trans ((w9drew W9).mono (by have:=hbw.size;have:=B9.size;omega)))
       have f0:=hrf.c 0 _ rfl
       have f1:=hrf.c 1 _ rfl
       have f2:=hrf.c 2 _ rfl
       have fz:=hrf.z
       have hlt3:w.heap.size<w2.heap.size:=by have:=HB2.out.size;have:=HL2.out;omega
       clear HOK HBD HEND her hrf hbw hl3 C9 B9 hW9 HSTATE HTK3 HOW3 HNX3 HB2 HB3 HLTG HBL HLB HER
       go_upto_region 10 with fail
       rw [HW3.out]
       go_upto_region 11 with fail
       go_region_with (fail)
       all_goals
        rw [HX9.out]
        go_wp2
        have q0:=HC9.out.c 0 _ rfl
        have q1:=HC9.out.c 1 _ rfl
        have q2:=HC9.out.c 2 _ rfl
        exact bodyPost_ret (v:=.tuple #[.slice none 0 0,.agg #[.int .i64 er,.int .i64 (r.ea:Int),.int .i64 0]]) (by simp [results,Try.results16,go_sem,q0,q1,q2]) rfl ⟨.bad er (r.ea:Int),HB9.out,rfl⟩
   ·have hlt':¬ (q:Int)<(s.size:Int):=by omega
    clear HBL HRM HON HLB
    obtain ⟨pa,pc,rfl,hpc,htk⟩:=tkIn_of (s:=w.heap.size) (by omega) HOW.out HTK.out
    obtain ⟨hrf,hbw,hl2⟩:=HSTATE.out wr HNX.out
    obtain ⟨W9,hW9⟩:∃ W9,wr.setCells w.heap.size 0 [.int .i64 0,.int .i64 0,.int .i64 0]=W9:=⟨_,rfl⟩
    have HW9:Hid (wr.setCells w.heap.size 0 (#[.int .i64 0,.int .i64 0,.int .i64 0]:Array Value).toList=W9):=hW9
    obtain ⟨C9,B9⟩:=hrf.put (us:=[.int .i64 0,.int .i64 0,.int .i64 0]) (by simp) hW9
    have HTH9:=hide (hrf.there (n:=3) (by simp))
    have HC9:=hide C9
    have HB9:=hide (hbw.trans (B9.below hbw.size fun k hk=>by omega))
    have HPC:=hide hpc
    have HTKI:=hide (show WoK w.heap.size W9 pa ts from fun W h1 h2=>htk W (Nat.le_trans B9.size h1) fun k hs hk=>(h2 k (Nat.le_of_lt hs) (Nat.lt_of_lt_of_le hk B9.size)).trans (B9.block hk (fun he=>by omega)))
    clear hrf hbw hl2 hpc htk HSTATE HNX HOW HTK C9 B9 hW9
    generalize hTL:ts.length=TL at *
    have HTL:=hide hTL
    clear hTL
    go_wp2_with (first|(refine wpList_store_mid rfl 28 (.tmp 3) (.tmp 58) rfl w.heap.size 0 #[.int .i64 0,.int .i64 0,.int .i64 0] rfl rfl HTH9.out (by kernel_rfl) (by simp [Value.oneCell']) ?_;rw [HW9.out]))
    have q0:=HC9.out.c 0 _ rfl
    have q1:=HC9.out.c 1 _ rfl
    have q2:=HC9.out.c 2 _ rfl
    exact bodyPost_ret (v:=.tuple #[.slice pa TL pc,.agg #[.int .i64 0,.int .i64 0,.int .i64 0]]) (by simp [results,Try.results16,go_sem,q0,q1,q2]) rfl ⟨.ok ts,HB9.out,pa,pc,by rw [HTL.out],by rw [HTL.out];exact HPC.out,HTKI.out⟩
def aplG:Gr where
 verbs:=[⟨#[43]⟩,⟨#[45]⟩,⟨#[195,151]⟩,⟨#[124]⟩,⟨#[126]⟩,⟨#[226,141,179]⟩,⟨#[226,141,180]⟩,⟨#[226,137,162]⟩,⟨#[44]⟩,⟨#[226,138,150]⟩,⟨#[226,140,189]⟩,⟨#[226,141,137]⟩,⟨#[226,141,139]⟩,⟨#[226,141,146]⟩,⟨#[226,136,170]⟩,⟨#[226,138,130]⟩,⟨#[226,138,131]⟩,⟨#[195,183]⟩,⟨#[226,140,138]⟩,⟨#[226,140,136]⟩,⟨#[61]⟩,⟨#[226,137,160]⟩,⟨#[60]⟩,⟨#[62]⟩,⟨#[226,137,164]⟩,⟨#[226,137,165]⟩,⟨#[226,134,145]⟩,⟨#[226,134,147]⟩,⟨#[226,141,170]⟩,⟨#[226,136,138]⟩,⟨#[226,140,183]⟩]
 adverbs:=[⟨#[47]⟩,⟨#[226,140,191]⟩,⟨#[92]⟩,⟨#[226,141,128]⟩,⟨#[226,141,168]⟩]
 behind:=[⟨#[47]⟩,⟨#[226,140,191]⟩]
 outer:=⟨#[226,136,152,46]⟩
 power:=⟨#[226,141,163]⟩
 opn:=⟨#[123]⟩
 cls:=⟨#[125]⟩
 left:=⟨#[226,141,186]⟩
 right:=⟨#[226,141,181]⟩
 trains:=false
 lone:=false
 square:=true
theorem strs_new {w w':World} {B:Nat} (l:List ByteArray) (hl:l.length≤1000) (hs:w.heap.size<B) (hb:Below B (w.alloc (.cells (l.map Value.string).toArray 9)) w'):StrsIn w' (some ⟨w.heap.size,0,none⟩) l:=⟨hl,fun j hj=>by
 have h:=Cs.new w (l.map Value.string) 9
 have h2:=h.next hb hs
 have hz:w.heap.size<w'.heap.size:=h2.lt
 refine ⟨w.heap.size,0,rfl,hz,?_⟩
 rw [Nat.zero_add]
 exact h2.c _ _ (by simp [sAt,List.getElem?_eq_getElem hj])⟩
def GvA (G:Gr) (w:World) (e:Ending) (w':World):Prop:=Below w.heap.size w w'∧∃ R:Raw,e=.returned (gV G R)∧StrsIn w' R.av G.verbs∧StrsIn w' R.aa G.adverbs∧StrsIn w' R.ab G.behind
set_option maxHeartbeats 4000000 in
theorem apl13 {w:World}:Calls Try.prog 13 #[] w fun e w'=>GvA aplG w e w':=by
 have H:∀ g,g=aplG→∀ W1 W2 W3 W4:World,w.alloc (.cells #[.slice (some ⟨w.heap.size+1,0,none⟩) 31 31,.slice (some ⟨w.heap.size+1+1,0,none⟩) 5 5,.slice (some ⟨w.heap.size+1+1+1,0,none⟩) 2 2,.string g.outer,.string g.power,.string g.opn,.string g.cls,.string g.left,.string g.right,.string ⟨#[194,175]⟩,.string ⟨#[39]⟩,.bool false,.bool false,.bool true] 24)=W1→W1.alloc (.cells (g.verbs.map Value.string).toArray 9)=W2→W2.alloc (.cells (g.adverbs.map Value.string).toArray 9)=W3→W3.alloc (.cells (g.behind.map Value.string).toArray 9)=W4→
   (Below w.heap.size w W4∧StrsIn W4 (some ⟨w.heap.size+1,0,none⟩) g.verbs∧StrsIn W4 (some ⟨w.heap.size+1+1,0,none⟩) g.adverbs∧StrsIn W4 (some ⟨w.heap.size+1+1+1,0,none⟩) g.behind)∧W4.rangeAt w.heap.size 0 [.slice (some ⟨w.heap.size+1,0,none⟩) 31 31,.slice (some ⟨w.heap.size+1+1,0,none⟩) 5 5,.slice (some ⟨w.heap.size+1+1+1,0,none⟩) 2 2,.string g.outer,.string g.power,.string g.opn,.string g.cls,.string g.left,.string g.right,.string ⟨#[194,175]⟩,.string ⟨#[39]⟩,.bool false,.bool false,.bool true]:=by
  intro g hg W1 W2 W3 W4 h1 h2 h3 h4
  have b1:Below w.heap.size w W1:=by rw [←h1];exact one_alloc _ _
  have b2:Below W1.heap.size W1 W2:=by rw [←h2];exact one_alloc _ _
  have b3:Below W2.heap.size W2 W3:=by rw [←h3];exact one_alloc _ _
  have b4:Below W3.heap.size W3 W4:=by rw [←h4];exact one_alloc _ _
  have s1:W1.heap.size=w.heap.size+1:=by rw [←h1];simp
  have s2:W2.heap.size=w.heap.size+1+1:=by rw [←h2];simp [s1]
  have s3:W3.heap.size=w.heap.size+1+1+1:=by rw [←h3];simp [s2]
  have b24:Below W2.heap.size W2 W4:=b3.trans (b4.mono b3.size)
  have b14:Below W1.heap.size W1 W4:=b2.trans (b24.mono b2.size)
  have c:=Cs.new w [.slice (some ⟨w.heap.size+1,0,none⟩) 31 31,.slice (some ⟨w.heap.size+1+1,0,none⟩) 5 5,.slice (some ⟨w.heap.size+1+1+1,0,none⟩) 2 2,.string g.outer,.string g.power,.string g.opn,.string g.cls,.string g.left,.string g.right,.string ⟨#[194,175]⟩,.string ⟨#[39]⟩,.bool false,.bool false,.bool true] 24
  have c4:=(show Cs W1 w.heap.size _ from h1▸c).next b14 (by omega)
  have lv:g.verbs.length≤1000:=by subst hg;decide
  have la:g.adverbs.length≤1000:=by subst hg;decide
  have lb:g.behind.length≤1000:=by subst hg;decide
  refine ⟨⟨b1.trans (b14.mono b1.size),?_,?_,?_⟩,fun k v hv=>by rw [Nat.zero_add];exact c4.c _ _ hv⟩
  ·rw [←s1]
   exact strs_new (B:=W2.heap.size) _ lv (by omega) (by rw [h2];exact b24)
  ·rw [←s2]
   exact strs_new (B:=W3.heap.size) _ la (by omega) (by rw [h3];exact b4)
  ·rw [←s3]
   exact strs_new (B:=W4.heap.size) _ lb (by rw [←h4];simp) (by rw [h4];exact Below.refl _ _)
 go_enter Try.func13,Try.ntmps13
 go_wp2
 obtain ⟨⟨k1,k2,k3,k4⟩,kr⟩:=H aplG rfl _ _ _ _ rfl rfl rfl rfl
 clear H
 refine bodyPost_ret (v:=.agg #[.slice (some ⟨w.heap.size+1,0,none⟩) 31 31,.slice (some ⟨w.heap.size+1+1,0,none⟩) 5 5,.slice (some ⟨w.heap.size+1+1+1,0,none⟩) 2 2,.string aplG.outer,.string aplG.power,.string aplG.opn,.string aplG.cls,.string aplG.left,.string aplG.right,.string ⟨#[194,175]⟩,.string ⟨#[39]⟩,.bool false,.bool false,.bool true]) (results_cell_mid rfl _ _ w.heap.size 0 rfl [.slice (some ⟨w.heap.size+1,0,none⟩) 31 31,.slice (some ⟨w.heap.size+1+1,0,none⟩) 5 5,.slice (some ⟨w.heap.size+1+1+1,0,none⟩) 2 2,.string aplG.outer,.string aplG.power,.string aplG.opn,.string aplG.cls,.string aplG.left,.string aplG.right,.string ⟨#[194,175]⟩,.string ⟨#[39]⟩,.bool false,.bool false,.bool true] _ kr Try.underlying24 rfl (by kernel_rfl)) rfl ?_
 exact ⟨k1,⟨some ⟨w.heap.size+1,0,none⟩,31,some ⟨w.heap.size+1+1,0,none⟩,5,some ⟨w.heap.size+1+1+1,0,none⟩,2,⟨#[194,175]⟩,⟨#[39]⟩,none,0⟩,rfl,k2,k3,k4⟩
end Go.Proofs.Ytnaejfoighmfeaa.Rn
