import Derived.Test.YtnaejfoighmfeaaM0
import Derived.Laws.BitsAllLaws
import Derived.Lib.Bits
import Derived.Test.YtnaejfoighmfeaaChecked
import GoSem.Claim
import GoSem.ClaimJoined
import GoSem.ClaimMapViews
import Derived.JoinedTies
import Derived.KernelRfl
import Derived.WalkKit
import Derived.ProofKit
import Derived.Below
import Derived.Deep.QuietTactic
import Derived.BigQuiet
import Derived.Lib.SlBytesConst
import Derived.Laws.BytesArg
import Derived.Laws.MakeOwn
import Derived.Deep.RegionHeld3
import Derived.Laws.AppendOwnNone
import Derived.BigFrame
import Derived.OpenShut
import Derived.ChangeOld
import Derived.SizedLaws
import Derived.Deep.DeepHandedRow
import Derived.Lib.LaidTab
import Derived.Deep.OwnRows
import Derived.Deep.RegionWith
import Derived.Deep.Slices
import Derived.Deep.Strs
import Derived.Deep.LoopGhost
import Derived.Lib.ConvBytes
import Derived.Deep.RegionLaw
import Derived.Deep.CutRange
import Derived.Lib.SliceRun
import Derived.WalkLawsBesides
import Derived.Maps.AppendAt
import Derived.Deep.MidRow
import Derived.Defers
import Derived.Recover
import Derived.Deep.Cut
import Derived.ChangeMaps5
namespace Go.Proofs.Ytnaejfoighmfeaa.Rn
open Go.ChangeShapes Go.WideShapes Go.ChangeAt Go.RowKit
set_option maxRecDepth 100000
set_option linter.unusedVariables false
set_option linter.unusedSimpArgs false
def digD (m l:List Int):List Int:=(l.drop (offD m l)).take (lead dgB (l.drop (offD m l)))
def valD (m l:List Int):Int:=if hasP l m then - decV (digD m l) else decV (digD m l)
def endD (m l:List Int):Nat:=offD m l+lead dgB (l.drop (offD m l))
theorem decV_snoc (l:List Int) (c:Int):decV (l ++ [c])=decV l * 10+(c - 48):=by simp [decV]
theorem quo_ten (d:Int) (h0:0≤d) (h1:d≤9) (n:Int):n < (-9223372036854775808+d).tdiv 10 ↔ n * 10 - d < -9223372036854775808:=by
 have e:(-9223372036854775808+d).tdiv 10=-((9223372036854775808 - d) / 10):=by
  rw [show (-9223372036854775808+d)=-(9223372036854775808 - d) by omega,Int.neg_tdiv,Int.tdiv_eq_ediv_of_nonneg (by omega)]
 rw [e]
 omega
theorem quo_rng (d:Int) (h0:0≤d) (h1:d≤9):-1000000000000000000≤(-9223372036854775808+d).tdiv 10∧(-9223372036854775808+d).tdiv 10≤0:=by
 have e:(-9223372036854775808+d).tdiv 10=-((9223372036854775808 - d) / 10):=by
  rw [show (-9223372036854775808+d)=-(9223372036854775808 - d) by omega,Int.neg_tdiv,Int.tdiv_eq_ediv_of_nonneg (by omega)]
 rw [e]
 omega
theorem digits_step (s:ByteArray) (p:Nat):(∀ j,j < lead dgB ((numsS s).drop p)→p+j < s.size∧dgB (byt s (p+j))=true∧decV (((numsS s).drop p).take (j+1))=decV (((numsS s).drop p).take j) * 10+(byt s (p+j) - 48))∧(p+lead dgB ((numsS s).drop p) < s.size→dgB (byt s (p+lead dgB ((numsS s).drop p)))=false):=by
 have hle:=lead_le dgB ((numsS s).drop p)
 rw [List.length_drop,numsS_len] at hle
 refine ⟨fun j hj=>?_,fun h=>?_⟩
 ·have hlt:p+j < s.size:=by omega
  have hk:((numsS s).drop p)[j]?=some (byt s (p+j)):=by rw [List.getElem?_drop]; exact numsS_at s (p+j) hlt
  have hd:∀ (l:List Int) (j:Nat) (c:Int),j < lead dgB l→l[j]?=some c→dgB c=true:=by
   intro l
   induction l with
   | nil=>intro j c h; simp [lead] at h
   | cons x t ih =>
    intro j c h hc
    simp only [lead] at h
    split at h
    ·cases j with
     | zero=>simp at hc; subst hc; assumption
     | succ j=>exact ih j c (by omega) (by simpa using hc)
    ·omega
  refine ⟨hlt,hd _ j _ hj hk,?_⟩
  obtain ⟨hl,he⟩:=List.getElem?_eq_some_iff.1 hk
  rw [List.take_succ_eq_append_getElem hl,decV_snoc,he]
 ·have:=lead_stop dgB ((numsS s).drop p) (byt s (p+lead dgB ((numsS s).drop p))) ((numsS s).drop (p+lead dgB ((numsS s).drop p)+1)) (by rw [List.drop_drop]; exact numsS_drop s _ h)
  exact this
def GvNu (v:Int) (q:Nat) (e:Ending):Prop:=∃ n:Int,e=.returned (.tuple #[.int .i64 n,.int .i64 (q:Int),.bool (fits v)])∧(fits v=true→n=v)
set_option maxHeartbeats 8000000 in
theorem number74 (s t:ByteArray) (a:Nat) (ha:a≤s.size) (hs:s.size≤140737488355328) (ht:t.size≤1000) (w:World) :
  Calls Try.prog 74 #[.string s,.int .i64 (a:Int),.string t] w fun e w'=>GvNu (valD (numsS t) ((numsS s).drop a)) (a+endD (numsS t) ((numsS s).drop a)) e∧w'=w:=by
 have H1:=hide (starts25 s t a ha hs ht w)
 obtain ⟨p,hp⟩:∃ p:Nat,p=if hasP ((numsS s).drop a) (numsS t) then a+t.size else a:=⟨_,rfl⟩
 have hpl:p≤s.size:=by
  split at hp
  ·rename_i h
   have:=hasP_len h
   rw [List.length_drop,numsS_len,numsS_len] at this
   omega
  ·omega
 have hdp:((numsS s).drop a).drop (offD (numsS t) ((numsS s).drop a))=(numsS s).drop p:=by
  rw [List.drop_drop]; unfold offD; rw [hp]
  split <;> simp [numsS_len]
 have hE:=hide (show a+endD (numsS t) ((numsS s).drop a)=p+lead dgB ((numsS s).drop p) by
  unfold endD; rw [hdp]; unfold offD; rw [hp]
  split <;> simp [numsS_len] <;> omega)
 have hV:=hide (show valD (numsS t) ((numsS s).drop a)=if hasP ((numsS s).drop a) (numsS t) then - decV (((numsS s).drop p).take (lead dgB ((numsS s).drop p))) else decV (((numsS s).drop p).take (lead dgB ((numsS s).drop p))) by
  unfold valD digD; rw [hdp])
 obtain ⟨hS,hN⟩:=digits_step s p
 have hle:=lead_le dgB ((numsS s).drop p)
 rw [List.length_drop,numsS_len] at hle
 have HX:Hid (∀ j,j < s.size→∀ W,(Instr.index 9 (.string s) (.int .i64 (j:Int))).run Try.prog W=.ok (.int .u8 (byt s j)) W):=fun j h W=>byt_run s j h W
 have hD0:decV (((numsS s).drop p).take 0)=0:=by simp [decV]
 obtain ⟨D,hD⟩:∃ D:Nat→Int,∀ j,decV (((numsS s).drop p).take j)=D j:=⟨_,fun _=>rfl⟩
 simp only [hD] at hS hV hD0
 obtain ⟨k,hk⟩:∃ k,lead dgB ((numsS s).drop p)=k:=⟨_,rfl⟩
 rw [hk] at hE hV hS hN hle
 have HS:=hide hS
 have HN:=hide hN
 rw [hE.out]
 generalize valD (numsS t) ((numsS s).drop a)=V at *
 have HB:=hide (fun c W=>digit73 c W)
 clear hD hk hS hN hdp hE
 cases hh:hasP ((numsS s).drop a) (numsS t) with
 | true =>
  rw [hh] at H1 hp hV
  simp only [if_true] at hp
  have hp2:(p:Int)=(a:Int)+(t.size:Int):=by omega
  have HP2:=hide hp2
  clear hh hp hp2
  go_enter Try.func74,Try.ntmps74
  go_wp2_with fail
  refine H1.out.mono ?_
  rintro e w1 ⟨rfl,rfl⟩
  clear H1
  go_wp2
  go_loopg [1,10,11] (k+1) (fun g av nv bv wr=>∃ (j q:Nat) (n:Int) (b:Bool),g+j=k+1∧j≤k∧Hid (q=p+j)∧av=.int .i64 (q:Int)∧nv=.int .i64 n∧bv=.bool b∧-9223372036854775808≤n∧n≤0∧(if b then n=- D j else 9223372036854775808 < D j)∧0≤D j∧wr=w1)
  case atStart=>exact ⟨0,p,0,true,by omega,by omega,hide (by omega),by rw [HP2.out],rfl,rfl,by omega,by omega,by simp [hD0],by omega,rfl⟩
  case round =>
   obtain ⟨j,q,n,b,hg,hjk,HQE,rfl,rfl,rfl,hn0,hn1,hb,hDj,rfl⟩:=hrel
   have HBB:=hide hb
   clear hb hD0
   by_cases hj:j < k
   ·obtain ⟨h1,h2,h3⟩:=HS.out j hj
    rw [←HQE.out] at h1 h2 h3
    have hx:=HX.out q h1
    have HDD:=hide h3
    have hlt:(q:Int) < (s.size:Int):=by omega
    have HC:=hide (HB.out (byt s q))
    have hdg:=h2
    unfold dgB at hdg
    simp only [Bool.and_eq_true,decide_eq_true_eq] at hdg
    clear h1 h3 HX HS HN HB
    generalize byt s q=c at *
    simp only [h2] at HC
    obtain ⟨d,hd⟩:∃ d,c - 48=d:=⟨_,rfl⟩
    rw [hd] at HDD
    have q1:=quo_ten d (by omega) (by omega) n
    have q2:=quo_rng d (by omega) (by omega)
    obtain ⟨Q,hQ⟩:∃ Q,(-9223372036854775808+d).tdiv 10=Q:=⟨_,rfl⟩
    rw [hQ] at q1 q2
    have HQ1:=hide q1
    have hwq:IntKind.i64.wrap Q=Q:=IntWalk.i64_in _ ⟨by omega,by omega⟩
    clear q1 h2
    by_cases hlq:n < Q
    ·have hovf:=HQ1.out.1 hlq
     have HNEW:=hide (show 9223372036854775808 < D (j+1) by
      have:=HBB.out
      have:=HDD.out
      cases b <;> simp at * <;> omega)
     clear HQ1
     go_wp2_with fail
     refine (HC.out _).mono ?_
     rintro e w2 ⟨rfl,rfl⟩
     clear HC
     go_wp2
     go_roundg (k+1 - (j+1))
     case rel=>exact ⟨j+1,q+1,- d,false,by omega,by omega,hide (by have:=HQE.out; omega),by go_num,by go_num,rfl,by omega,by omega,by simpa using HNEW.out,by have:=HNEW.out; omega,rfl⟩
     case measure=>omega
    ·have hfit:-9223372036854775808≤n * 10 - d:=by
      have:=HQ1.out
      have:¬ (n * 10 - d < -9223372036854775808):=fun h=>hlq (HQ1.out.2 h)
      omega
     have HNEW:=hide (show (if b then n * 10 - d=- D (j+1) else 9223372036854775808 < D (j+1))∧0≤D (j+1) by
      have:=HBB.out
      have:=HDD.out
      cases b <;> simp at * <;> omega)
     have hw1:IntKind.i64.wrap (n * 10)=n * 10:=IntWalk.i64_in _ ⟨by omega,by omega⟩
     have hw2:IntKind.i64.wrap (n * 10 - d)=n * 10 - d:=IntWalk.i64_in _ ⟨by omega,by omega⟩
     clear HQ1
     go_wp2_with fail
     refine (HC.out _).mono ?_
     rintro e w2 ⟨rfl,rfl⟩
     clear HC
     go_wp2
     go_roundg (k+1 - (j+1))
     case rel=>exact ⟨j+1,q+1,n * 10 - d,b,by omega,by omega,hide (by have:=HQE.out; omega),by go_num,by go_num,rfl,hfit,by omega,HNEW.out.1,HNEW.out.2,rfl⟩
     case measure=>omega
   ·obtain rfl:j=k:=by omega
    have HFIN:=hide (show fits V=b∧(b=true→n=V) by
     have h1:=HBB.out
     have h2:=hV.out
     simp only [if_true] at h2
     subst h2
     cases b <;> simp [fits] at * <;> omega)
    rw [←HQE.out] at HN
    have HGL:=hide HQE.out
    by_cases hlt0:q < s.size
    ·have hx:=HX.out q hlt0
     have hnd:=HN.out hlt0
     have hlt:(q:Int) < (s.size:Int):=by omega
     have HC:=hide (HB.out (byt s q))
     simp only [hnd] at HC
     clear HX HS HN HB hnd
     generalize byt s q=c at *
     go_wp2_with fail
     refine (HC.out _).mono ?_
     rintro e w2 ⟨rfl,rfl⟩
     clear HC
     go_wp2
     go_ret3
     exact ⟨⟨n,by rw [HFIN.out.1,HGL.out]; rfl,fun h=>HFIN.out.2 (HFIN.out.1 ▸ h)⟩,rfl⟩
    ·have hlt:¬ (q:Int) < (s.size:Int):=by omega
     clear HX HS HN HB
     go_wp2
     go_ret3
     exact ⟨⟨n,by rw [HFIN.out.1,HGL.out]; rfl,fun h=>HFIN.out.2 (HFIN.out.1 ▸ h)⟩,rfl⟩
 | false =>
  rw [hh] at H1 hp hV
  simp only [Bool.false_eq_true,if_false] at hp
  clear hh
  subst hp
  go_enter Try.func74,Try.ntmps74
  go_wp2_with fail
  refine H1.out.mono ?_
  rintro e w1 ⟨rfl,rfl⟩
  clear H1
  go_wp2
  go_loopg [1,10,11] (k+1) (fun g av nv bv wr=>∃ (j q:Nat) (n:Int) (b:Bool),g+j=k+1∧j≤k∧Hid (q=p+j)∧av=.int .i64 (q:Int)∧nv=.int .i64 n∧bv=.bool b∧-9223372036854775808≤n∧n≤0∧(if b then n=- D j else 9223372036854775808 < D j)∧0≤D j∧wr=w1)
  case atStart=>exact ⟨0,p,0,true,by omega,by omega,hide (by omega),rfl,rfl,rfl,by omega,by omega,by simp [hD0],by omega,rfl⟩
  case round =>
   obtain ⟨j,q,n,b,hg,hjk,HQE,rfl,rfl,rfl,hn0,hn1,hb,hDj,rfl⟩:=hrel
   have HBB:=hide hb
   clear hb hD0
   by_cases hj:j < k
   ·obtain ⟨h1,h2,h3⟩:=HS.out j hj
    rw [←HQE.out] at h1 h2 h3
    have hx:=HX.out q h1
    have HDD:=hide h3
    have hlt:(q:Int) < (s.size:Int):=by omega
    have HC:=hide (HB.out (byt s q))
    have hdg:=h2
    unfold dgB at hdg
    simp only [Bool.and_eq_true,decide_eq_true_eq] at hdg
    clear h1 h3 HX HS HN HB
    generalize byt s q=c at *
    simp only [h2] at HC
    obtain ⟨d,hd⟩:∃ d,c - 48=d:=⟨_,rfl⟩
    rw [hd] at HDD
    have q1:=quo_ten d (by omega) (by omega) n
    have q2:=quo_rng d (by omega) (by omega)
    obtain ⟨Q,hQ⟩:∃ Q,(-9223372036854775808+d).tdiv 10=Q:=⟨_,rfl⟩
    rw [hQ] at q1 q2
    have HQ1:=hide q1
    have hwq:IntKind.i64.wrap Q=Q:=IntWalk.i64_in _ ⟨by omega,by omega⟩
    clear q1 h2
    by_cases hlq:n < Q
    ·have hovf:=HQ1.out.1 hlq
     have HNEW:=hide (show 9223372036854775808 < D (j+1) by
      have:=HBB.out
      have:=HDD.out
      cases b <;> simp at * <;> omega)
     clear HQ1
     go_wp2_with fail
     refine (HC.out _).mono ?_
     rintro e w2 ⟨rfl,rfl⟩
     clear HC
     go_wp2
     go_roundg (k+1 - (j+1))
     case rel=>exact ⟨j+1,q+1,- d,false,by omega,by omega,hide (by have:=HQE.out; omega),by go_num,by go_num,rfl,by omega,by omega,by simpa using HNEW.out,by have:=HNEW.out; omega,rfl⟩
     case measure=>omega
    ·have hfit:-9223372036854775808≤n * 10 - d:=by
      have:=HQ1.out
      have:¬ (n * 10 - d < -9223372036854775808):=fun h=>hlq (HQ1.out.2 h)
      omega
     have HNEW:=hide (show (if b then n * 10 - d=- D (j+1) else 9223372036854775808 < D (j+1))∧0≤D (j+1) by
      have:=HBB.out
      have:=HDD.out
      cases b <;> simp at * <;> omega)
     have hw1:IntKind.i64.wrap (n * 10)=n * 10:=IntWalk.i64_in _ ⟨by omega,by omega⟩
     have hw2:IntKind.i64.wrap (n * 10 - d)=n * 10 - d:=IntWalk.i64_in _ ⟨by omega,by omega⟩
     clear HQ1
     go_wp2_with fail
     refine (HC.out _).mono ?_
     rintro e w2 ⟨rfl,rfl⟩
     clear HC
     go_wp2
     go_roundg (k+1 - (j+1))
     case rel=>exact ⟨j+1,q+1,n * 10 - d,b,by omega,by omega,hide (by have:=HQE.out; omega),by go_num,by go_num,rfl,hfit,by omega,HNEW.out.1,HNEW.out.2,rfl⟩
     case measure=>omega
   ·obtain rfl:j=k:=by omega
    have HFIN:=hide (show (n=-9223372036854775808→fits V=false)∧(n ≠ -9223372036854775808→fits V=b∧(b=true→- n=V)) by
     have h1:=HBB.out
     have h2:=hV.out
     simp only [Bool.false_eq_true,if_false] at h2
     subst h2
     cases b <;> simp [fits] at * <;> omega)
    rw [←HQE.out] at HN
    have HGL:=hide HQE.out
    by_cases hlt0:q < s.size
    ·have hx:=HX.out q hlt0
     have hnd:=HN.out hlt0
     have hlt:(q:Int) < (s.size:Int):=by omega
     have HC:=hide (HB.out (byt s q))
     simp only [hnd] at HC
     clear HX HS HN HB hnd
     generalize byt s q=c at *
     go_wp2_with fail
     refine (HC.out _).mono ?_
     rintro e w2 ⟨rfl,rfl⟩
     clear HC
     by_cases hmin:n=-9223372036854775808
     ·have HF1:=hide (HFIN.out.1 hmin)
      clear HFIN
      subst hmin
      go_wp2
      go_ret3
      exact ⟨⟨0,by rw [HF1.out,HGL.out]; rfl,fun h=>by rw [HF1.out] at h; cases h⟩,rfl⟩
     ·have HF2:=hide (HFIN.out.2 hmin)
      clear HFIN
      have hmin2:(n == -9223372036854775808)=false:=by simpa using hmin
      go_wp2
      go_ret3
      exact ⟨⟨-n,by rw [HF2.out.1,HGL.out]; rfl,fun h=>HF2.out.2 (HF2.out.1 ▸ h)⟩,rfl⟩
    ·have hlt:¬ (q:Int) < (s.size:Int):=by omega
     clear HX HS HN HB
     by_cases hmin:n=-9223372036854775808
     ·have HF1:=hide (HFIN.out.1 hmin)
      clear HFIN
      subst hmin
      go_wp2
      go_ret3
      exact ⟨⟨0,by rw [HF1.out,HGL.out]; rfl,fun h=>by rw [HF1.out] at h; cases h⟩,rfl⟩
     ·have HF2:=hide (HFIN.out.2 hmin)
      clear HFIN
      have hmin2:(n == -9223372036854775808)=false:=by simpa using hmin
      go_wp2
      go_ret3
      exact ⟨⟨-n,by rw [HF2.out.1,HGL.out]; rfl,fun h=>HF2.out.2 (HF2.out.1 ▸ h)⟩,rfl⟩
end Go.Proofs.Ytnaejfoighmfeaa.Rn
namespace Go.Proofs.Ytnaejfoighmfeaa
open Go.ChangeShapes Go.WideShapes Go.ChangeAt Go.RowKit
set_option maxRecDepth 100000
set_option linter.unusedVariables false
structure Wo where
 kind:Int
 text:ByteArray
 lit:Ar
 pos:Int
structure Gr where
 verbs:List ByteArray
 adverbs:List ByteArray
 behind:List ByteArray
 outer:ByteArray
 power:ByteArray
 opn:ByteArray
 cls:ByteArray
 left:ByteArray
 right:ByteArray
 trains:Bool
 lone:Bool
 square:Bool
def bs (l:List UInt8):ByteArray:=⟨l.toArray⟩
def isT (k:Int) (t:ByteArray):List Wo→Bool
 | []=>false
 | x :: _=>decide (x.kind=k) && ((x.text.toList == t.toList) && !(t.toList == []))
def inL (L:List ByteArray) (t:ByteArray):Bool:=L.any fun u=>t.toList == u.toList
def signT (L:List ByteArray):List Wo→Bool
 | []=>false
 | x :: _=>isT 4 x.text [x] && inL L x.text
def oftB (a:Ar):Bool:=decide (a.shape.length=0) && (decide (a.cells.length=1) && (decide ((cAt a.cells 0).1=0) && (decide (0≤(cAt a.cells 0).2.1) && decide ((cAt a.cells 0).2.1≤4096))))
def oftN (a:Ar):Int:=if oftB a then (cAt a.cells 0).2.1 else 0
def powT (g:Gr):List Wo→Bool
 | x :: y :: _=>isT 4 g.power [x] && (decide (y.kind=1) && oftB y.lit)
 | _=>false
def tailR (g:Gr):List Wo→Nat
 | []=>0
 | [x]=>if signT g.adverbs [x] then 1 else 0
 | x :: y :: r=>if signT g.adverbs [x] then tailR g (y :: r)+1 else if powT g (x :: y :: r) then tailR g r+2 else 0
def addk (k r:Nat):Nat:=if r=0 then 0 else r+k
def clo:Nat→List Wo→Nat
 | _,[]=>0
 | d,x :: r=>if x.kind=5 then addk 1 (clo (d+1) r) else if x.kind=6 then (if d=1 then 1 else addk 1 (clo (d - 1) r)) else addk 1 (clo d r)
def chainR (W:List Wo→Nat):Nat→List Wo→Nat × Nat
 | 0,_=>(0,0)
 | m+1,l=>if W l=0 then (0,0) else ((chainR W m (l.drop (W l))).1+1,W l+(chainR W m (l.drop (W l))).2)
def most (g:Gr):Nat:=if g.trains then 3 else 1
def ro:ByteArray:=bs [40]
def rc:ByteArray:=bs [41]
def so:ByteArray:=bs [91]
def sc:ByteArray:=bs [93]
def brackR (g:Gr) (W:List Wo→Nat) (l:List Wo):Nat :=
 if (chainR W (most g) l.tail).1=0 then 0 else if isT 6 rc (l.tail.drop (chainR W (most g) l.tail).2) then (chainR W (most g) l.tail).2+2 else 0
def wholeS (g:Gr) (S:Bool→List Wo→Nat) (b:Bool) (l:List Wo):Nat :=
 if isT 4 g.outer l && decide (0 < S false l.tail) then (S false l.tail+1)+tailR g (l.drop (S false l.tail+1))
 else if S b l=0 then 0 else S b l+tailR g (l.drop (S b l))
def stemB (g:Gr) (W:List Wo→Nat) (b:Bool) (l:List Wo):Nat :=
 if signT g.verbs l || (b && signT g.behind l) then 1 else if isT 5 g.opn l then clo 0 l else if isT 5 ro l then brackR g W l else 0
def stemF (g:Gr):Nat→Bool→List Wo→Nat
 | 0,_,_=>0
 | f+1,b,l=>stemB g (wholeS g (stemF g f) b) b l
def stemR (g:Gr) (b:Bool) (l:List Wo):Nat:=stemF g (l.length+1) b l
def wholeR (g:Gr) (b:Bool) (l:List Wo):Nat:=wholeS g (stemR g) b l
theorem chain_congr {W V:List Wo→Nat} {n:Nat} (h:∀ l,l.length < n→W l=V l) (m:Nat) (l:List Wo) (hl:l.length < n):chainR W m l=chainR V m l:=by
 induction m generalizing l with
 | zero=>rfl
 | succ m ih =>
  simp only [chainR]
  rw [h l hl]
  split
  ·rfl
  ·rw [ih _ (by rw [List.length_drop]; omega)]
theorem isT_kind {k:Int} {t:ByteArray} {l:List Wo} (h:isT k t l=true):∃ x r,l=x :: r∧x.kind=k:=by
 cases l with
 | nil=>cases h
 | cons x r=>simp only [isT,Bool.and_eq_true,decide_eq_true_eq] at h; exact ⟨x,r,rfl,h.1⟩
theorem signT_kind {L:List ByteArray} {l:List Wo} (h:signT L l=true):∃ x r,l=x :: r∧x.kind=4:=by
 cases l with
 | nil=>cases h
 | cons x r=>simp only [signT,isT,Bool.and_eq_true,decide_eq_true_eq] at h; exact ⟨x,r,rfl,h.1.1⟩
theorem stemB_congr {g:Gr} {W V:List Wo→Nat} {b:Bool} {l:List Wo} (h:∀ m,m.length < l.length→W m=V m):stemB g W b l=stemB g V b l:=by
 unfold stemB
 split
 ·rfl
 split
 ·rfl
 split
 ·rename_i h0
  obtain ⟨x,r,rfl,-⟩:=isT_kind h0
  unfold brackR
  rw [chain_congr h (most g) (x :: r).tail (by simp)]
 ·rfl
theorem wholeS_congr {g:Gr} {S T:Bool→List Wo→Nat} {b:Bool} {l:List Wo} (h:∀ b m,m.length≤l.length→S b m=T b m):wholeS g S b l=wholeS g T b l:=by
 unfold wholeS
 rw [h false l.tail (by simp),h b l (Nat.le_refl _)]
theorem stem_fuel {g:Gr} (f f':Nat) (b:Bool) (l:List Wo) (h:l.length < f) (h':l.length < f'):stemF g f b l=stemF g f' b l:=by
 induction f generalizing f' b l with
 | zero=>omega
 | succ f ih =>
  obtain ⟨f',rfl⟩:∃ k,f'=k+1:=⟨f' - 1,by omega⟩
  simp only [stemF]
  exact stemB_congr fun m hm=>wholeS_congr fun c k hk=>ih f' c k (by omega) (by omega)
theorem stemR_eq (g:Gr) (b:Bool) (l:List Wo):stemR g b l=stemB g (wholeR g b) b l:=by
 show stemF g (l.length+1) b l=_
 simp only [stemF]
 exact stemB_congr fun m hm=>wholeS_congr fun c k hk=>stem_fuel _ _ _ _ (by omega) (by omega)
theorem stemR_nil (g:Gr) (b:Bool):stemR g b []=0:=by rw [stemR_eq]; simp [stemB,signT,isT]
theorem wholeR_nil (g:Gr) (b:Bool):wholeR g b []=0:=by simp [wholeR,wholeS,stemR_nil,isT]
inductive Rs (α:Type) where
 | ok (a:α)
 | bad (e p:Int)
 | stuck
def Rs.bind {α β:Type} (x:Rs α) (f:α→Rs β):Rs β :=
 match x with
 | .ok a=>f a
 | .bad e p=>.bad e p
 | .stuck=>.stuck
def placeR (e:Int):List Wo→Int
 | []=>e
 | x :: _=>x.pos
def overR:List Wo→Bool
 | []=>true
 | x :: _=>decide (x.kind=6)
def node (k o:Int) (s:ByteArray) (ks:List Nd) (p:Int):Nd:=.mk k o s (.mk [] []) ks p
def nost:ByteArray:=⟨#[]⟩
def mo1 (f x:Nd):Nd:=node 5 0 nost [f,x] f.pos
def renT:Nd→Nd
 | .mk k o s l ks p=>if k=3 then .mk 4 o s l ks p else if k=22 ∨ k=23 then .mk k o s l ks p else .mk k o s l (ks.map renT) p
theorem renT_eq (k o:Int) (s:ByteArray) (l:Ar) (ks:List Nd) (p:Int):renT (.mk k o s l ks p)=if k=3 then .mk 4 o s l ks p else if k=22 ∨ k=23 then .mk k o s l ks p else .mk k o s l (ks.map renT) p:=by
 rw [renT]
theorem map_at (f:Nd→Nd) (l:List Nd) (j:Nat) (h:j < l.length):nAt (l.map f) j=f (nAt l j):=by simp [nAt,h]
abbrev Nm:=Bool × Bool
def orN (a b:Nm):Nm:=(a.1 || b.1,a.2 || b.2)
def wordS (g:Gr) (e:Int) (inn:Bool):List Wo→Rs (Nd × Nm)
 | []=>.bad 2 e
 | x :: _=>if x.kind=1 ∨ x.kind=2 then .ok (.mk 1 0 nost x.lit [] x.pos,false,false)
  else if inn && isT 3 g.left [x] then .ok (node 3 0 nost [] x.pos,true,false)
  else if inn && isT 3 g.right [x] then .ok (node 4 0 nost [] x.pos,false,true)
  else if x.kind=3∧nameB x.text=true then .ok (node 2 0 x.text [] x.pos,false,false)
  else .bad 2 x.pos
abbrev ET:=Bool→List Wo→Rs (Nd × List Wo × Nm)
abbrev FT:=List Wo→Rs (Nd × List Wo)
def closeS (e:Int) (t:ByteArray) (l:List Wo):Rs (List Wo):=if isT 6 t l then .ok l.tail else .bad 2 (placeR e l)
def bareS (g:Gr) (e:Int) (E:ET) (inn:Bool) (l:List Wo):Rs (Nd × List Wo × Nm) :=
 if isT 5 ro l then (E inn l.tail).bind fun q=>(closeS e rc q.2.1).bind fun r=>.ok (q.1,r,q.2.2)
 else (wordS g e inn l).bind fun q=>.ok (q.1,l.tail,q.2)
def sqS (g:Gr) (e:Int) (E:ET) (inn:Bool) (p:Int):Nat→Nd→List Wo→Nm→Rs (Nd × List Wo × Nm)
 | 0,_,_,_=>.stuck
 | f+1,n,l,nm=>if g.square && isT 5 so l then (E inn l.tail).bind fun q=>(closeS e sc q.2.1).bind fun r=>sqS g e E inn p f (node 8 0 nost [n,q.1] p) r (orN nm q.2.2)
  else .ok (n,l,nm)
def operS (g:Gr) (e:Int) (E:ET) (inn:Bool) (l:List Wo):Rs (Nd × List Wo × Nm) :=
 (bareS g e E inn l).bind fun q=>sqS g e E inn (placeR e l) (l.length+1) q.1 q.2.1 q.2.2
def repB (g:Gr) (x f:Nd):Bool:=g.lone && (decide (x.kind=1) && (decide (f.kind=24) && ((f.name.toList == [47]) && decide ((nAt f.kids 0).kind=22))))
def exprS (g:Gr) (e:Int) (E:ET) (F:FT) (inn:Bool) (l:List Wo):Rs (Nd × List Wo × Nm) :=
 if wholeR g false l=0 then (operS g e E inn l).bind fun q =>
   if overR q.2.1 then .ok q
   else if wholeR g true q.2.1=0 then .bad 2 (placeR e q.2.1)
   else (F q.2.1).bind fun f=>if repB g q.1 f.1 then (if oftB q.1.lit then (E inn f.2).bind fun y=>.ok (mo1 (node 26 (oftN q.1.lit) nost f.1.kids f.1.pos) y.1,y.2.1,orN q.2.2 y.2.2) else .bad 2 f.1.pos)
    else (E inn f.2).bind fun y=>.ok (node 6 0 nost [f.1,q.1,y.1] (placeR e l),y.2.1,orN q.2.2 y.2.2)
 else (F l).bind fun f=>(E inn f.2).bind fun x=>.ok (mo1 f.1 x.1,x.2.1,x.2.2)
def advR (g:Gr) (p:Int):Nd→List Wo→Nd × List Wo
 | f,[]=>(f,[])
 | f,[x]=>if signT g.adverbs [x] then (node 24 0 x.text [f] p,[]) else (f,[x])
 | f,x :: y :: r=>if signT g.adverbs [x] then advR g p (node 24 0 x.text [f] p) (y :: r) else if powT g (x :: y :: r) then advR g p (node 26 (oftN y.lit) nost [f] p) r else (f,x :: y :: r)
def textS (g:Gr) (e:Int) (E:ET) (l:List Wo):Rs (Nd × List Wo) :=
 (E true l.tail).bind fun q=>(closeS e g.cls q.2.1).bind fun r =>
  if q.2.2.1 && q.2.2.2 then .ok (node 23 0 nost [q.1] (placeR e l),r)
  else if (q.2.2.1 != q.2.2.2) && (q.2.2.1 != g.lone) then .bad 2 (placeR e l)
  else .ok (node 22 0 nost [if q.2.2.1 then renT q.1 else q.1] (placeR e l),r)
def trS (F:FT):Nat→List Nd→List Wo→Rs (List Nd × List Wo)
 | 0,_,_=>.stuck
 | f+1,ps,l=>if overR l then (match l with
   | []=>.stuck
   | _ :: r=>.ok (ps,r))
  else (F l).bind fun q=>trS F f (ps ++ [q.1]) q.2
def trainN (ps:List Nd) (p:Int):Nd:=if ps.length=1 then nAt ps 0 else if ps.length=2 then node 28 0 nost ps p else node 27 0 nost ps p
def trainS (e:Int) (F:FT) (l:List Wo):Rs (Nd × List Wo):=(trS F (l.length+1) [] l.tail).bind fun q=>.ok (trainN q.1 (placeR e l),q.2)
def stemS (g:Gr) (e:Int) (E:ET) (F:FT) (l:List Wo):Rs (Nd × List Wo) :=
 if isT 5 g.opn l then textS g e E l else if isT 5 ro l then trainS e F l else match l with
  | []=>.stuck
  | x :: r=>.ok (node 21 0 x.text [] x.pos,r)
def outR (g:Gr) (l:List Wo):Bool:=isT 4 g.outer l && decide (0 < stemR g false l.tail)
def funS (g:Gr) (e:Int) (E:ET) (F:FT) (l:List Wo):Rs (Nd × List Wo) :=
 (stemS g e E F (if outR g l then l.tail else l)).bind fun q=>.ok (advR g (placeR e l) (if outR g l then node 25 0 nost [q.1] (placeR e l) else q.1) q.2)
def EF (g:Gr) (e:Int):Nat→ET × FT
 | 0=>(fun _ l=>.bad 15 (placeR e l),fun l=>.bad 15 (placeR e l))
 | d+1=>(exprS g e (EF g e d).1 (EF g e d).2,funS g e (EF g e d).1 (EF g e d).2)
def parseS (g:Gr) (e:Int) (l:List Wo):Rs Nd :=
 ((EF g e 24).1 false l).bind fun q=>match q.2.1 with
  | []=>.ok q.1
  | x :: r=>.bad 2 x.pos
end Go.Proofs.Ytnaejfoighmfeaa
namespace Go.Proofs.Ytnaejfoighmfeaa
open Go.ChangeShapes Go.WideShapes Go.ChangeAt Go.RowKit
set_option maxRecDepth 100000
set_option linter.unusedVariables false
theorem Rs.bind_ok {α β:Type} {x:Rs α} {f:α→Rs β} {b:β} (h:x.bind f=.ok b):∃ a,x=.ok a∧f a=.ok b:=by
 cases x with
 | ok a=>exact ⟨a,rfl,h⟩
 | bad e p=>cases h
 | stuck=>cases h
theorem Rs.bind_stuck {α β:Type} {x:Rs α} {f:α→Rs β} (h:x.bind f=.stuck):x=.stuck ∨ ∃ a,x=.ok a∧f a=.stuck:=by
 cases x with
 | ok a=>exact Or.inr ⟨a,rfl,h⟩
 | bad e p=>cases h
 | stuck=>exact Or.inl rfl
theorem addk_addk (a b r:Nat):addk a (addk b r)=addk (b+a) r:=by
 unfold addk
 by_cases h:r=0
 ·simp [h]
 ·rw [if_neg h,if_neg (by omega),if_neg h]; omega
theorem addk_zero (r:Nat):addk 0 r=r:=by unfold addk; split <;> omega
def Neu (l r:List Wo):Prop:=∃ k,r=l.drop k∧k≤l.length∧∀ d,1≤d→clo d l=addk k (clo d r)
theorem Neu.refl (l:List Wo):Neu l l:=⟨0,rfl,Nat.zero_le _,fun d _=>(addk_zero _).symm⟩
theorem Neu.trans {a b c:List Wo} (h:Neu a b) (h':Neu b c):Neu a c:=by
 obtain ⟨k,rfl,hk,hd⟩:=h
 obtain ⟨j,rfl,hj,hd'⟩:=h'
 refine ⟨k+j,by rw [List.drop_drop],by rw [List.length_drop] at hj; omega,fun d h=>?_⟩
 rw [hd d h,hd' d h,addk_addk,Nat.add_comm]
theorem Neu.one {x:Wo} {r:List Wo} (h5:x.kind ≠ 5) (h6:x.kind ≠ 6):Neu (x :: r) r :=
 ⟨1,rfl,by simp,fun d _=>by simp [clo,h5,h6]⟩
theorem Neu.wrap {x y:Wo} {r s:List Wo} (h5:x.kind=5) (h:Neu r (y :: s)) (h6:y.kind=6):Neu (x :: r) s∧(clo 0 (x :: r) ≠ 0∧s=(x :: r).drop (clo 0 (x :: r))):=by
 obtain ⟨k,hr,hk,hd⟩:=h
 have hs:s=r.drop (k+1):=by rw [show r.drop (k+1)=(r.drop k).tail by simp,← hr]; rfl
 have hl:k < r.length:=by
  rcases Nat.lt_or_ge k r.length with h | h
  ·exact h
  ·rw [List.drop_eq_nil_of_le h] at hr; cases hr
 refine ⟨⟨k+2,by rw [hs]; rfl,by simp; omega,fun d h=>?_⟩,?_⟩
 ·simp only [clo,h5,if_true]
  rw [hd (d+1) (by omega)]
  simp only [clo,h6,if_true]
  rw [if_neg (by decide),if_neg (by omega),show d+1 - 1=d by omega,addk_addk,addk_addk]
  congr 1; omega
 ·have:clo 0 (x :: r)=k+2:=by
   simp only [clo,h5,if_true]
   rw [hd 1 (by omega)]
   simp only [clo,h6,if_true]
   simp [addk]; omega
  rw [this]
  exact ⟨by omega,by rw [hs]; rfl⟩
theorem closeS_ok {e:Int} {t:ByteArray} {l r:List Wo} (h:closeS e t l=.ok r):∃ y,l=y :: r∧y.kind=6:=by
 unfold closeS at h
 split at h
 ·rename_i h0
  obtain ⟨x,q,rfl,hk⟩:=isT_kind h0
  cases h
  exact ⟨x,rfl,hk⟩
 ·cases h
theorem wordS_ok {g:Gr} {e:Int} {inn:Bool} {l:List Wo} {q:Nd × Nm} (h:wordS g e inn l=.ok q):∃ x r,l=x :: r∧x.kind ≠ 5∧x.kind ≠ 6:=by
 cases l with
 | nil=>cases h
 | cons x r =>
  refine ⟨x,r,rfl,?_⟩
  simp only [wordS] at h
  split at h
  ·omega
  split at h
  ·rename_i h0
   simp only [isT,Bool.and_eq_true,decide_eq_true_eq] at h0
   omega
  split at h
  ·rename_i h0
   simp only [isT,Bool.and_eq_true,decide_eq_true_eq] at h0
   omega
  split at h
  ·omega
  ·cases h
theorem wordS_nst {g:Gr} {e:Int} {inn:Bool} {l:List Wo}:wordS g e inn l ≠ .stuck:=by
 cases l with
 | nil=>simp [wordS]
 | cons x r =>
  simp only [wordS]
  split
  ·simp
  split
  ·simp
  split
  ·simp
  split
  ·simp
  ·simp
theorem closeS_nst {e:Int} {t:ByteArray} {l:List Wo}:closeS e t l ≠ .stuck:=by unfold closeS; split <;> simp
theorem tail_adv (g:Gr) (p:Int) (f:Nd) (l:List Wo):(advR g p f l).2=l.drop (tailR g l)∧Neu l (advR g p f l).2:=by
 induction f,l using advR.induct g p with
 | case1 f=>exact ⟨rfl,Neu.refl _⟩
 | case2 f x h =>
  simp only [advR,tailR,h,if_true]
  obtain ⟨y,r,hh,hk⟩:=signT_kind h
  cases hh
  exact ⟨rfl,Neu.one (by omega) (by omega)⟩
 | case3 f x h=>simp only [advR,tailR,h]; exact ⟨rfl,Neu.refl _⟩
 | case4 f x y r h ih =>
  simp only [advR,tailR,h,if_true]
  obtain ⟨z,r',hh,hk⟩:=signT_kind h
  cases hh
  exact ⟨ih.1,(Neu.one (by omega) (by omega)).trans ih.2⟩
 | case5 f x y r h h2 ih =>
  simp only [advR,tailR,h,h2,if_true]
  simp only [powT,isT,Bool.and_eq_true,decide_eq_true_eq] at h2
  exact ⟨ih.1,(Neu.one (x:=x) (by omega) (by omega)).trans ((Neu.one (x:=y) (by omega) (by omega)).trans ih.2)⟩
 | case6 f x y r h h2=>simp only [advR,tailR,h,h2]; exact ⟨rfl,Neu.refl _⟩
def GoodE (E:ET):Prop:=∀ inn l,E inn l ≠ .stuck∧∀ q,E inn l=.ok q→Neu l q.2.1
def GoodF (g:Gr) (F:FT):Prop:=∀ b l,wholeR g b l ≠ 0→F l ≠ .stuck∧∀ q,F l=.ok q→Neu l q.2∧q.2=l.drop (wholeR g b l)
theorem whole_head {g:Gr} {b:Bool} {l:List Wo} (h:wholeR g b l ≠ 0):∃ x r,l=x :: r∧(x.kind=4 ∨ x.kind=5):=by
 unfold wholeR wholeS at h
 split at h
 ·rename_i h0
  simp only [Bool.and_eq_true] at h0
  obtain ⟨x,r,rfl,hk⟩:=isT_kind h0.1
  exact ⟨x,r,rfl,Or.inl hk⟩
 split at h
 ·exact absurd rfl h
 rename_i h0
 rw [stemR_eq] at h0
 unfold stemB at h0
 split at h0
 ·rename_i h1
  rcases (by simpa using h1:signT g.verbs l=true ∨ b=true∧signT g.behind l=true) with h1 | ⟨-,h1⟩ <;>
  ·obtain ⟨x,r,rfl,hk⟩:=signT_kind h1
   exact ⟨x,r,rfl,Or.inl hk⟩
 split at h0
 ·rename_i h1
  obtain ⟨x,r,rfl,hk⟩:=isT_kind h1
  exact ⟨x,r,rfl,Or.inr hk⟩
 split at h0
 ·rename_i h1
  obtain ⟨x,r,rfl,hk⟩:=isT_kind h1
  exact ⟨x,r,rfl,Or.inr hk⟩
 ·exact absurd rfl h0
theorem textS_good {g:Gr} {e:Int} {E:ET} (hE:GoodE E) {l:List Wo} (hl:isT 5 g.opn l=true):textS g e E l ≠ .stuck∧∀ q,textS g e E l=.ok q→Neu l q.2∧q.2=l.drop (clo 0 l):=by
 obtain ⟨x,r,rfl,hk⟩:=isT_kind hl
 constructor
 ·intro h
  unfold textS at h
  rcases Rs.bind_stuck h with h | ⟨q,h1,h⟩
  ·exact (hE _ _).1 h
  rcases Rs.bind_stuck h with h | ⟨r',h2,h⟩
  ·exact closeS_nst h
  ·revert h; repeat' split <;> simp
 ·intro q h
  unfold textS at h
  obtain ⟨a,h1,h⟩:=Rs.bind_ok h
  obtain ⟨r',h2,h⟩:=Rs.bind_ok h
  obtain ⟨y,hy,h6⟩:=closeS_ok h2
  have hn:=(hE _ _).2 _ h1
  rw [hy] at hn
  have hw:=Neu.wrap hk hn h6
  have hq:q.2=r':=by
   revert h
   split
   ·intro h; cases h; rfl
   split
   ·intro h; cases h
   ·intro h; cases h; rfl
  rw [hq]
  exact ⟨hw.1,hw.2.2⟩
theorem trS_chain {g:Gr} {F:FT} (hF:GoodF g F) (b:Bool) (m:Nat) (f:Nat) (ps:List Nd) (l:List Wo) (hf:l.length < f) (hc:isT 6 rc (l.drop (chainR (wholeR g b) m l).2)=true) :
  trS F f ps l ≠ .stuck∧∀ q,trS F f ps l=.ok q→∃ y,Neu l (y :: q.2)∧y.kind=6∧y :: q.2=l.drop (chainR (wholeR g b) m l).2:=by
 induction m generalizing f ps l with
 | zero =>
  obtain ⟨f,rfl⟩:∃ k,f=k+1:=⟨f - 1,by omega⟩
  simp only [chainR,List.drop_zero] at hc ⊢
  obtain ⟨x,r,rfl,hk⟩:=isT_kind hc
  simp only [trS,overR,hk,decide_true,if_true]
  exact ⟨by simp,fun q h=>by cases h; exact ⟨x,Neu.refl _,hk,rfl⟩⟩
 | succ m ih =>
  obtain ⟨f,rfl⟩:∃ k,f=k+1:=⟨f - 1,by omega⟩
  simp only [chainR] at hc ⊢
  by_cases h0:wholeR g b l=0
  ·simp only [h0,if_true,List.drop_zero] at hc ⊢
   obtain ⟨x,r,rfl,hk⟩:=isT_kind hc
   simp only [trS,overR,hk,decide_true,if_true]
   exact ⟨by simp,fun q h=>by cases h; exact ⟨x,Neu.refl _,hk,rfl⟩⟩
  ·simp only [h0,if_false] at hc ⊢
   have hG:=hF b l h0
   obtain ⟨x,r,hl,hk⟩:=whole_head h0
   have ho:overR l=false:=by rw [hl]; simp [overR]; omega
   simp only [trS,ho]
   rw [←List.drop_drop] at hc ⊢
   have hlen:(l.drop (wholeR g b l)).length < f:=by
    have h9:l.length=r.length+1:=by rw [hl]; rfl
    rw [List.length_drop]
    omega
   constructor
   ·intro h
    rcases Rs.bind_stuck h with h | ⟨q,h1,h⟩
    ·exact hG.1 h
    ·have:=(hG.2 q h1).2
     rw [this] at h
     exact (ih f _ _ hlen hc).1 h
   ·intro q h
    obtain ⟨a,h1,h⟩:=Rs.bind_ok h
    have h2:=hG.2 a h1
    rw [h2.2] at h
    obtain ⟨y,h3,h4,h5⟩:=(ih f _ _ hlen hc).2 q h
    exact ⟨y,(h2.2 ▸ h2.1).trans h3,h4,h5⟩
theorem stemS_good {g:Gr} {e:Int} {E:ET} {F:FT} (hE:GoodE E) (hF:GoodF g F) (b:Bool) {l:List Wo} (h:stemR g b l ≠ 0):stemS g e E F l ≠ .stuck∧∀ q,stemS g e E F l=.ok q→Neu l q.2∧q.2=l.drop (stemR g b l):=by
 rw [stemR_eq] at h ⊢
 unfold stemB at h ⊢
 by_cases h1:(signT g.verbs l || (b && signT g.behind l))=true
 ·rw [if_pos h1]
  have:∃ x r,l=x :: r∧x.kind=4:=by
   rcases (by simpa using h1:signT g.verbs l=true ∨ b=true∧signT g.behind l=true) with h1 | ⟨-,h1⟩ <;> exact signT_kind h1
  obtain ⟨x,r,rfl,hk⟩:=this
  have e1:∀ t,isT 5 t (x :: r)=false:=fun t=>by simp [isT,hk]
  simp only [stemS,e1]
  exact ⟨by simp,fun q h=>by cases h; exact ⟨Neu.one (by omega) (by omega),rfl⟩⟩
 ·rw [if_neg h1] at h ⊢
  by_cases h2:isT 5 g.opn l=true
  ·rw [if_pos h2] at h ⊢
   simp only [stemS,h2,if_true]
   exact textS_good hE h2
  ·rw [if_neg h2] at h ⊢
   by_cases h3:isT 5 ro l=true
   ·rw [if_pos h3] at h ⊢
    simp only [stemS,h2,h3,if_true]
    obtain ⟨x,r,rfl,hk⟩:=isT_kind h3
    unfold brackR at h ⊢
    split at h
    ·exact absurd rfl h
    rename_i h4
    split at h
    ·rename_i h5
     rw [if_neg h4,if_pos h5]
     have T:=trS_chain hF b (most g) ((x :: r).length+1) [] (x :: r).tail (by simp; omega) h5
     constructor
     ·intro h
      unfold trainS at h
      rcases Rs.bind_stuck h with h | ⟨q,h1,h⟩
      ·exact T.1 h
      ·cases h
     ·intro q h
      unfold trainS at h
      obtain ⟨a,h6,h⟩:=Rs.bind_ok h
      cases h
      obtain ⟨y,h7,h8,h9⟩:=T.2 a h6
      refine ⟨(Neu.wrap hk h7 h8).1,?_⟩
      have:a.2=(y :: a.2).tail:=rfl
      rw [this,h9]
      simp
    ·exact absurd rfl h
   ·rw [if_neg h3] at h
    exact absurd rfl h
theorem funS_good {g:Gr} {e:Int} {E:ET} {F:FT} (hE:GoodE E) (hF:GoodF g F):GoodF g (funS g e E F):=by
 intro b l h
 unfold wholeR wholeS at h ⊢
 by_cases h0:(isT 4 g.outer l && decide (0 < stemR g false l.tail))=true
 ·rw [if_pos h0] at h ⊢
  have ho:outR g l=true:=h0
  have hs:stemR g false l.tail ≠ 0:=by simp only [Bool.and_eq_true,decide_eq_true_eq] at h0; omega
  obtain ⟨x,r,rfl,hk⟩:=isT_kind (by simp only [Bool.and_eq_true] at h0; exact h0.1)
  have S:=stemS_good (e:=e) hE hF false hs
  constructor
  ·intro hh
   unfold funS at hh
   rw [ho] at hh
   rcases Rs.bind_stuck hh with hh | ⟨q,h1,hh⟩
   ·exact S.1 hh
   ·cases hh
  ·intro q hh
   unfold funS at hh
   rw [ho] at hh
   obtain ⟨a,h1,hh⟩:=Rs.bind_ok hh
   cases hh
   have h2:=S.2 a h1
   have h3:=tail_adv g (placeR e (x :: r)) (node 25 0 nost [a.1] (placeR e (x :: r))) a.2
   refine ⟨(Neu.one (by omega) (by omega)).trans (h2.1.trans h3.2),?_⟩
   show (advR g _ _ a.2).2=_
   have e2:a.2=(x :: r).drop (stemR g false (x :: r).tail+1):=h2.2
   rw [if_pos rfl,h3.1,e2,List.drop_drop]
 ·rw [if_neg h0] at h ⊢
  have ho:outR g l=false:=by simpa [outR] using h0
  split at h
  ·exact absurd rfl h
  rename_i hs
  have S:=stemS_good (e:=e) hE hF b hs
  rw [if_neg hs]
  constructor
  ·intro hh
   unfold funS at hh
   rw [ho] at hh
   rcases Rs.bind_stuck hh with hh | ⟨q,h1,hh⟩
   ·exact S.1 hh
   ·cases hh
  ·intro q hh
   unfold funS at hh
   rw [ho] at hh
   obtain ⟨a,h1,hh⟩:=Rs.bind_ok hh
   cases hh
   have h2:=S.2 a h1
   have h3:=tail_adv g (placeR e l) a.1 a.2
   refine ⟨h2.1.trans h3.2,?_⟩
   show (advR g _ _ a.2).2=_
   rw [if_neg (by simp),h3.1,h2.2,List.drop_drop]
theorem bareS_good {g:Gr} {e:Int} {E:ET} (hE:GoodE E):GoodE (bareS g e E):=by
 intro inn l
 unfold bareS
 split
 ·rename_i h0
  obtain ⟨x,r,rfl,hk⟩:=isT_kind h0
  constructor
  ·intro h
   rcases Rs.bind_stuck h with h | ⟨q,h1,h⟩
   ·exact (hE _ _).1 h
   rcases Rs.bind_stuck h with h | ⟨q,h1,h⟩
   ·exact closeS_nst h
   ·cases h
  ·intro q h
   obtain ⟨a,h1,h⟩:=Rs.bind_ok h
   obtain ⟨r',h2,h⟩:=Rs.bind_ok h
   cases h
   obtain ⟨y,hy,h6⟩:=closeS_ok h2
   have hn:=(hE _ _).2 _ h1
   rw [hy] at hn
   exact (Neu.wrap hk hn h6).1
 ·constructor
  ·intro h
   rcases Rs.bind_stuck h with h | ⟨q,h1,h⟩
   ·exact wordS_nst h
   ·cases h
  ·intro q h
   obtain ⟨a,h1,h⟩:=Rs.bind_ok h
   cases h
   obtain ⟨x,r,rfl,h5,h6⟩:=wordS_ok h1
   exact Neu.one h5 h6
theorem Neu.len {l r:List Wo} (h:Neu l r):r.length≤l.length:=by
 obtain ⟨k,rfl,hk,-⟩:=h
 rw [List.length_drop]; omega
theorem sqS_good {g:Gr} {e:Int} {E:ET} (hE:GoodE E) (inn:Bool) (p:Int) (f:Nat) (n:Nd) (l:List Wo) (nm:Nm) (hf:l.length < f):sqS g e E inn p f n l nm ≠ .stuck∧∀ q,sqS g e E inn p f n l nm=.ok q→Neu l q.2.1:=by
 induction f generalizing n l nm with
 | zero=>omega
 | succ f ih =>
  simp only [sqS]
  split
  ·rename_i h0
   simp only [Bool.and_eq_true] at h0
   obtain ⟨x,r,rfl,hk⟩:=isT_kind h0.2
   constructor
   ·intro h
    rcases Rs.bind_stuck h with h | ⟨q,h1,h⟩
    ·exact (hE _ _).1 h
    rcases Rs.bind_stuck h with h | ⟨r',h2,h⟩
    ·exact closeS_nst h
    ·obtain ⟨y,hy,h6⟩:=closeS_ok h2
     have hn:=(hE _ _).2 _ h1
     rw [hy] at hn
     have:=hn.len
     exact (ih _ _ _ (by simp at this hf ⊢; omega)).1 h
   ·intro q h
    obtain ⟨a,h1,h⟩:=Rs.bind_ok h
    obtain ⟨r',h2,h⟩:=Rs.bind_ok h
    obtain ⟨y,hy,h6⟩:=closeS_ok h2
    have hn:=(hE _ _).2 _ h1
    rw [hy] at hn
    have:=hn.len
    exact (Neu.wrap hk hn h6).1.trans ((ih _ _ _ (by simp at this hf ⊢; omega)).2 q h)
  ·exact ⟨by simp,fun q h=>by cases h; exact Neu.refl _⟩
theorem operS_good {g:Gr} {e:Int} {E:ET} (hE:GoodE E):GoodE (operS g e E):=by
 intro inn l
 unfold operS
 have B:=bareS_good (g:=g) (e:=e) hE inn l
 constructor
 ·intro h
  rcases Rs.bind_stuck h with h | ⟨q,h1,h⟩
  ·exact B.1 h
  ·have:=(B.2 q h1).len
   exact (sqS_good hE _ _ _ _ _ _ (by omega)).1 h
 ·intro q h
  obtain ⟨a,h1,h⟩:=Rs.bind_ok h
  have h2:=B.2 a h1
  have:=h2.len
  exact h2.trans ((sqS_good hE _ _ _ _ _ _ (by omega)).2 q h)
theorem exprS_good {g:Gr} {e:Int} {E:ET} {F:FT} (hE:GoodE E) (hF:GoodF g F):GoodE (exprS g e E F):=by
 intro inn l
 unfold exprS
 split
 ·have O:=operS_good (g:=g) (e:=e) hE inn l
  constructor
  ·intro h
   rcases Rs.bind_stuck h with h | ⟨q,h1,h⟩
   ·exact O.1 h
   split at h
   ·cases h
   split at h
   ·cases h
   rename_i hw
   rcases Rs.bind_stuck h with h | ⟨f,h2,h⟩
   ·exact (hF _ _ hw).1 h
   split at h
   ·split at h
    ·rcases Rs.bind_stuck h with h | ⟨y,h3,h⟩
     ·exact (hE _ _).1 h
     ·cases h
    ·cases h
   ·rcases Rs.bind_stuck h with h | ⟨y,h3,h⟩
    ·exact (hE _ _).1 h
    ·cases h
  ·intro z h
   obtain ⟨q,h1,h⟩:=Rs.bind_ok h
   have n1:=O.2 q h1
   split at h
   ·cases h; exact n1
   split at h
   ·cases h
   rename_i hw
   obtain ⟨f,h2,h⟩:=Rs.bind_ok h
   have n2:=((hF _ _ hw).2 f h2).1
   split at h
   ·split at h
    ·obtain ⟨y,h3,h⟩:=Rs.bind_ok h
     cases h
     exact n1.trans (n2.trans ((hE _ _).2 y h3))
    ·cases h
   ·obtain ⟨y,h3,h⟩:=Rs.bind_ok h
    cases h
    exact n1.trans (n2.trans ((hE _ _).2 y h3))
 ·rename_i hw
  constructor
  ·intro h
   rcases Rs.bind_stuck h with h | ⟨f,h2,h⟩
   ·exact (hF _ _ hw).1 h
   rcases Rs.bind_stuck h with h | ⟨y,h3,h⟩
   ·exact (hE _ _).1 h
   ·cases h
  ·intro z h
   obtain ⟨f,h2,h⟩:=Rs.bind_ok h
   obtain ⟨y,h3,h⟩:=Rs.bind_ok h
   cases h
   exact (((hF _ _ hw).2 f h2).1).trans ((hE _ _).2 y h3)
theorem EF_good (g:Gr) (e:Int) (d:Nat):GoodE (EF g e d).1∧GoodF g (EF g e d).2:=by
 induction d with
 | zero=>exact ⟨fun inn l=>⟨by simp [EF],fun q h=>by cases h⟩,fun b l _=>⟨by simp [EF],fun q h=>by cases h⟩⟩
 | succ d ih=>exact ⟨exprS_good ih.1 ih.2,funS_good ih.1 ih.2⟩
end Go.Proofs.Ytnaejfoighmfeaa
namespace Go.Proofs.Ytnaejfoighmfeaa
open Go.ChangeShapes Go.WideShapes Go.ChangeAt Go.RowKit
set_option maxRecDepth 100000
set_option linter.unusedVariables false
theorem sumUp_front (f:Nat→Nat) (n:Nat):sumUp f (n+1)=f 0+sumUp (fun i=>f (i+1)) n:=by
 induction n with
 | zero=>simp [sumUp]
 | succ n ih =>
  rw [sumUp,ih]
  simp only [sumUp]
  omega
theorem sum_list (f:Nd→Nat) (ks:List Nd):sumUp (fun i=>f (nAt ks i)) ks.length=(ks.map f).sum:=by
 induction ks with
 | nil=>rfl
 | cons x r ih =>
  rw [List.length_cons,sumUp_front,List.map_cons,List.sum_cons,← ih]
  rfl
theorem size_mk (m:Nat) (k o:Int) (s:ByteArray) (l:Ar) (ks:List Nd) (p:Int):sizeN (m+1) (.mk k o s l ks p)=1+(ks.map (sizeN m)).sum:=by
 rw [←sum_list]; rfl
theorem size_le (m:Nat) (x:Nd) (b:Nat) (hb:1≤b) (h:∀ j,1+(x.kids.map (sizeN j)).sum≤b):sizeN m x≤b:=by
 cases m with
 | zero=>simp [sizeN]
 | succ m =>
  obtain ⟨k,o,s,l,ks,p⟩:=x
  rw [size_mk]; exact h m
theorem size_ren (m:Nat) (x:Nd):sizeN m (renT x)=sizeN m x:=by
 induction m generalizing x with
 | zero=>rfl
 | succ m ih =>
  obtain ⟨k,o,s,l,ks,p⟩:=x
  rw [renT_eq]
  split
  ·rw [size_mk,size_mk]
  split
  ·rfl
  ·rw [size_mk,size_mk,List.map_map]
   congr 2
   exact List.map_congr_left fun y _=>ih y
def SzE (E:ET):Prop:=∀ inn l q m,E inn l=.ok q→sizeN m q.1+1+2 * q.2.1.length≤2 * l.length
def SzF (F:FT):Prop:=∀ l q m,F l=.ok q→sizeN m q.1+1+2 * q.2.length≤2 * l.length
theorem size_leaf (m:Nat) (k o:Int) (s:ByteArray) (l:Ar) (p:Int):sizeN m (.mk k o s l [] p)≤1:=size_le m _ 1 (by omega) fun j=>by simp [Nd.kids]
theorem wordS_size {g:Gr} {e:Int} {inn:Bool} {l:List Wo} {q:Nd × Nm} (m:Nat) (h:wordS g e inn l=.ok q):sizeN m q.1≤1:=by
 cases l with
 | nil=>cases h
 | cons x r =>
  simp only [wordS] at h
  split at h
  ·cases h; exact size_leaf ..
  split at h
  ·cases h; exact size_leaf ..
  split at h
  ·cases h; exact size_leaf ..
  split at h
  ·cases h; exact size_leaf ..
  ·cases h
theorem adv_size (g:Gr) (p:Int) (f:Nd) (l:List Wo) (b:Nat) (hb:∀ m,sizeN m f≤b) (h1:1≤b) (m:Nat):sizeN m (advR g p f l).1+1+2 * (advR g p f l).2.length≤b+1+2 * l.length:=by
 induction f,l using advR.induct g p generalizing b with
 | case1 f=>simp only [advR]; have:=hb m; omega
 | case2 f x h =>
  simp only [advR,h,if_true]
  have:=size_le m (node 24 0 x.text [f] p) (b+1) (by omega) fun j=>by simp [Nd.kids,node]; have:=hb j; omega
  simp; omega
 | case3 f x h=>simp only [advR,h]; have:=hb m; simp; omega
 | case4 f x y r h ih =>
  simp only [advR,h,if_true]
  have:=ih (b+1) (fun m=>size_le m _ (b+1) (by omega) fun j=>by simp [Nd.kids,node]; have:=hb j; omega) (by omega)
  simp at this ⊢; omega
 | case5 f x y r h h2 ih =>
  simp only [advR,h,h2,if_true]
  have:=ih (b+1) (fun m=>size_le m _ (b+1) (by omega) fun j=>by simp [Nd.kids,node]; have:=hb j; omega) (by omega)
  simp at this ⊢; omega
 | case6 f x y r h h2=>simp only [advR,h,h2]; have:=hb m; simp; omega
theorem closeS_len {e:Int} {t:ByteArray} {l r:List Wo} (h:closeS e t l=.ok r):l.length=r.length+1:=by
 obtain ⟨y,rfl,-⟩:=closeS_ok h; rfl
theorem isT_len {k:Int} {t:ByteArray} {l:List Wo} (h:isT k t l=true):l.length=l.tail.length+1:=by
 obtain ⟨x,r,rfl,-⟩:=isT_kind h; rfl
theorem bareS_size {g:Gr} {e:Int} {E:ET} (hE:SzE E):SzE (bareS g e E):=by
 intro inn l q m h
 unfold bareS at h
 split at h
 ·rename_i h0
  obtain ⟨a,h1,h⟩:=Rs.bind_ok h
  obtain ⟨r',h2,h⟩:=Rs.bind_ok h
  cases h
  have:=hE _ _ _ m h1
  have:=closeS_len h2
  have:=isT_len h0
  simp only [] at *
  omega
 ·obtain ⟨a,h1,h⟩:=Rs.bind_ok h
  cases h
  obtain ⟨x,r,rfl,-⟩:=wordS_ok h1
  have:=wordS_size m h1
  simp only [List.tail_cons,List.length_cons]
  omega
theorem sqS_size {g:Gr} {e:Int} {E:ET} (hE:SzE E) (inn:Bool) (p:Int) (f:Nat) (n:Nd) (l:List Wo) (nm:Nm) (b:Nat) (hb:∀ m,sizeN m n≤b) (h1:1≤b) (q:Nd × List Wo × Nm) (m:Nat) (h:sqS g e E inn p f n l nm=.ok q):sizeN m q.1+1+2 * q.2.1.length≤b+1+2 * l.length:=by
 induction f generalizing n l nm b with
 | zero=>cases h
 | succ f ih =>
  simp only [sqS] at h
  split at h
  ·rename_i h0
   simp only [Bool.and_eq_true] at h0
   obtain ⟨a,h2,h⟩:=Rs.bind_ok h
   obtain ⟨r',h3,h⟩:=Rs.bind_ok h
   have l1:=closeS_len h3
   have l2:=isT_len h0.2
   have hz:∀ m,sizeN m a.1+1+2 * a.2.1.length≤2 * l.tail.length:=fun m=>hE _ _ _ m h2
   have:=ih _ _ _ (b+2 * (l.tail.length - a.2.1.length)) (fun m=>size_le m _ _ (by omega) fun j=>by
    simp [Nd.kids,node]
    have:=hb j; have:=hz j
    simp only [List.length_tail] at *
    omega) (by omega) h
   have:=hz 0
   omega
  ·cases h
   have:=hb m
   simp only []
   omega
theorem operS_size {g:Gr} {e:Int} {E:ET} (hE:SzE E):SzE (operS g e E):=by
 intro inn l q m h
 unfold operS at h
 obtain ⟨a,h1,h⟩:=Rs.bind_ok h
 have B:∀ m,sizeN m a.1+1+2 * a.2.1.length≤2 * l.length:=fun m=>bareS_size (g:=g) (e:=e) hE inn l a m h1
 have B0:=B 0
 have:=sqS_size hE inn _ _ _ _ _ (2 * l.length - 1 - 2 * a.2.1.length) (fun m=>by have:=B m; omega) (by omega) q m h
 omega
theorem textS_size {g:Gr} {e:Int} {E:ET} (hE:SzE E) {l:List Wo} (hl:isT 5 g.opn l=true) (q:Nd × List Wo) (m:Nat) (h:textS g e E l=.ok q):sizeN m q.1+1+2 * q.2.length≤2 * l.length:=by
 unfold textS at h
 obtain ⟨a,h1,h⟩:=Rs.bind_ok h
 obtain ⟨r',h2,h⟩:=Rs.bind_ok h
 have l1:=closeS_len h2
 have l2:=isT_len hl
 have hz:∀ m,sizeN m a.1+1+2 * a.2.1.length≤2 * l.tail.length:=fun m=>hE _ _ _ m h1
 have h0:=hz 0
 have key:∀ (y:Nd) (k:Int),(∀ m,sizeN m y=sizeN m a.1)→sizeN m (node k 0 nost [y] (placeR e l))+1+2 * r'.length≤2 * l.length:=fun y k hy=>by
  have:=size_le m (node k 0 nost [y] (placeR e l)) (2 * l.length - 1 - 2 * r'.length) (by omega) fun j=>by
   simp [Nd.kids,node]
   rw [hy]
   have:=hz j
   simp only [List.length_tail] at *
   omega
  omega
 split at h
 ·cases h; exact key _ _ fun _=>rfl
 split at h
 ·cases h
 ·cases h
  refine key _ _ fun m=>?_
  split
  ·exact size_ren m _
  ·rfl
theorem trS_size {F:FT} (hF:SzF F) (f:Nat) (ps:List Nd) (l:List Wo) (q:List Nd × List Wo) (h:trS F f ps l=.ok q) (m:Nat):(q.1.map (sizeN m)).sum+q.1.length+2 * q.2.length+2≤(ps.map (sizeN m)).sum+ps.length+2 * l.length:=by
 induction f generalizing ps l with
 | zero=>cases h
 | succ f ih =>
  simp only [trS] at h
  split at h
  ·cases l with
   | nil=>cases h
   | cons x r=>cases h; simp; omega
  ·obtain ⟨a,h1,h⟩:=Rs.bind_ok h
   have:=ih _ _ h
   have:=hF _ _ m h1
   simp at *
   omega
theorem stemS_size {g:Gr} {e:Int} {E:ET} {F:FT} (hE:SzE E) (hF:SzF F):SzF (stemS g e E F):=by
 intro l q m h
 unfold stemS at h
 split at h
 ·exact textS_size hE ‹_› q m h
 split at h
 ·rename_i h0
  have l2:=isT_len h0
  unfold trainS at h
  obtain ⟨a,h1,h⟩:=Rs.bind_ok h
  cases h
  have T:=fun m=>trS_size hF _ _ _ _ h1 m
  have T0:=T m
  simp only [List.map_nil,List.sum_nil,List.length_nil] at T T0
  simp only []
  have key:∀ k,1≤a.1.length ∨ a.1.length=0→sizeN m (node k 0 nost a.1 (placeR e l))+1+2 * a.2.length≤2 * l.length:=fun k _=>by
   have:=size_le m (node k 0 nost a.1 (placeR e l)) (2 * l.length - 1 - 2 * a.2.length) (by omega) fun j=>by
    simp only [Nd.kids,node]
    have:=T j
    omega
   omega
  unfold trainN
  split
  ·rename_i h3
   obtain ⟨y,hy⟩:∃ y,a.1=[y]:=by
    match h4:a.1,h3 with
    | [y],_=>exact ⟨y,rfl⟩
   rw [hy] at T0 ⊢
   simp [nAt] at T0 ⊢
   omega
  split
  ·exact key _ (by omega)
  ·exact key _ (by omega)
 cases l with
 | nil=>cases h
 | cons x r=>cases h; have:=size_leaf m 21 0 x.text (.mk [] []) x.pos; simp [node]; omega
theorem funS_size {g:Gr} {e:Int} {E:ET} {F:FT} (hE:SzE E) (hF:SzF F):SzF (funS g e E F):=by
 intro l q m h
 unfold funS at h
 obtain ⟨a,h1,h⟩:=Rs.bind_ok h
 cases h
 have S:=fun m=>stemS_size (g:=g) (e:=e) hE hF _ a m h1
 have S0:=S 0
 by_cases ho:outR g l=true
 ·rw [if_pos ho] at S S0 ⊢
  have l2:l.length=l.tail.length+1:=isT_len (k:=4) (t:=g.outer) (by simp only [outR,Bool.and_eq_true] at ho; exact ho.1)
  have:=adv_size g (placeR e l) (node 25 0 nost [a.1] (placeR e l)) a.2 (2 * l.length - 1 - 2 * a.2.length) (fun m=>size_le m _ _ (by omega) fun j=>by
   simp [Nd.kids,node]
   have:=S j
   simp only [List.length_tail] at *
   omega) (by omega) m
  omega
 ·rw [if_neg ho] at S S0 ⊢
  have:=adv_size g (placeR e l) a.1 a.2 (2 * l.length - 1 - 2 * a.2.length) (fun m=>by have:=S m; omega) (by omega) m
  omega
theorem mo1_size (m:Nat) (f x:Nd) (b c:Nat) (hb:∀ m,sizeN m f≤b) (hc:∀ m,sizeN m x≤c):sizeN m (mo1 f x)≤1+b+c:=size_le m _ _ (by omega) fun j=>by
 simp [Nd.kids,mo1,node]
 have:=hb j; have:=hc j; omega
theorem exprS_size {g:Gr} {e:Int} {E:ET} {F:FT} (hE:SzE E) (hF:SzF F):SzE (exprS g e E F):=by
 intro inn l z m h
 unfold exprS at h
 split at h
 ·obtain ⟨q,h1,h⟩:=Rs.bind_ok h
  have Z1:=fun m=>operS_size (g:=g) (e:=e) hE inn l q m h1
  have Z10:=Z1 0
  split at h
  ·cases h; exact Z1 m
  split at h
  ·cases h
  obtain ⟨f,h2,h⟩:=Rs.bind_ok h
  have Z2:=fun m=>hF _ _ m h2
  have Z20:=Z2 0
  split at h
  ·split at h
   ·obtain ⟨y,h3,h⟩:=Rs.bind_ok h
    cases h
    have Z3:=fun m=>hE _ _ _ m h3
    have Z30:=Z3 0
    have:=mo1_size m (node 26 (oftN q.1.lit) nost f.1.kids f.1.pos) y.1 (2 * q.2.1.length - 1 - 2 * f.2.length) (2 * f.2.length - 1 - 2 * y.2.1.length) (fun m=>by
     have hm:sizeN m (node 26 (oftN q.1.lit) nost f.1.kids f.1.pos)=sizeN m f.1:=by
      cases m with
      | zero=>rfl
      | succ m=>rfl
     rw [hm]; have:=Z2 m; omega) (fun m=>by have:=Z3 m; omega)
    simp only []
    omega
   ·cases h
  ·obtain ⟨y,h3,h⟩:=Rs.bind_ok h
   cases h
   have Z3:=fun m=>hE _ _ _ m h3
   have Z30:=Z3 0
   have:=size_le m (node 6 0 nost [f.1,q.1,y.1] (placeR e l)) (2 * l.length - 1 - 2 * y.2.1.length) (by omega) fun j=>by
    simp [Nd.kids,node]
    have:=Z1 j; have:=Z2 j; have:=Z3 j
    omega
   simp only []
   omega
 ·obtain ⟨f,h2,h⟩:=Rs.bind_ok h
  obtain ⟨y,h3,h⟩:=Rs.bind_ok h
  cases h
  have Z2:=fun m=>hF _ _ m h2
  have Z3:=fun m=>hE _ _ _ m h3
  have Z20:=Z2 0
  have Z30:=Z3 0
  have:=mo1_size m f.1 y.1 (2 * l.length - 1 - 2 * f.2.length) (2 * f.2.length - 1 - 2 * y.2.1.length) (fun m=>by have:=Z2 m; omega) (fun m=>by have:=Z3 m; omega)
  simp only []
  omega
theorem EF_size (g:Gr) (e:Int) (d:Nat):SzE (EF g e d).1∧SzF (EF g e d).2:=by
 induction d with
 | zero=>exact ⟨(fun inn l q m h=>by cases h),(fun l q m h=>by cases h)⟩
 | succ d ih=>exact ⟨exprS_size ih.1 ih.2,funS_size ih.1 ih.2⟩
end Go.Proofs.Ytnaejfoighmfeaa
namespace Go.Proofs.Ytnaejfoighmfeaa
open Go.ChangeShapes Go.WideShapes Go.ChangeAt Go.RowKit
set_option linter.unusedVariables false
theorem step_append_own {P:Program} {w:World} {ops:Array Oper} {o:Oper} {a:Act} {K:Act→World→Prop} {Q:Exit→Act→World→Prop} {E:Prop} (hg:o.guard=none) (s x:Operand) (t:TypeId)
  (ho:o.op=.call { callee:=.builtin .append,args:=#[s,x],argTypes:=#[t,t] })
  (base:Nat) (e:TypeId) (i:TypeInfo) (z:Value) (size bytes:Nat) (ht:P.underlying t=some (.slice e)) (hi:P.info? e=some i) (hz:i.zero=some z)
  (hsize:i.size=size) (hby:i.bytes=bytes) (hzs:z.cells.size=size) (hsz:0 < size)
  (v:Value) (n:Nat) (xs:List Value) (hs:a.eval s=v) (hown:w.ownsRow base e size v n xs)
  (ad:Addr) (m c:Nat) (news:List Value) (hx:a.eval x=.slice (some ad) m c) (hl:news.length=m * size) (hnews:∀ j u,news[j]?=some u→w.cell? (ad.add j)=some u) (h1:∀ u ∈ news,u.oneCell'=true)
  (h63:n+m≤maxLen) (hbytes:(n+m) * bytes≤140737488355328) (hbase:base≤w.heap.size)
  (h:∀ v' w',w'.ownsRow base e size v' (n+m) (xs ++ news)→Below base w w'→K (a.put o.dst v') w'):if Region.wanted o (yielded ops a.tmps)=true then Oper.wp P o a w K Q else E:=by
 have hw:Region.wanted o (yielded ops a.tmps)=true:=by simp [Region.wanted,hg]
 rw [if_pos hw]
 refine wp_append_own w s x t ho base e i z size bytes ht hi hz hsize hby hzs hsz v n xs hs hown ad m c news hx hl hnews h1 h63 hbytes hbase ?_
 intro v' w' hown' hgrow _
 exact h v' w' hown' ((Below.refl _ _).grown hgrow hbase (fun q hq=>(hown.lt q hq).1))
def rowF (k:Int) (l:List Int) (j:Nat):List Value:=(List.range (j * 3)).map (numF k l l.length)
theorem rowF_step (k:Int) (l:List Int) (j:Nat) (hj:j < l.length):rowF k l (j+1)=rowF k l j ++ [.int .i64 k,.int .i64 (l[j]?.getD 0),.slice none 0 0]:=by
 unfold rowF
 have e:(j+1) * 3=j * 3+1+1+1:=by omega
 rw [e,List.range_succ,List.range_succ,List.range_succ]
 simp only [List.map_append,List.map_cons,List.map_nil,List.append_assoc,List.cons_append,List.nil_append]
 have f0:numF k l l.length (j * 3)=.int .i64 k:=by
  unfold numF; rw [if_pos (by omega),if_pos (by omega)]
 have f1:numF k l l.length (j * 3+1)=.int .i64 (l[j]?.getD 0):=by
  unfold numF; rw [if_pos (by omega),if_neg (by omega),if_pos (by omega),show (j * 3+1) / 3=j by omega]
 have f2:numF k l l.length (j * 3+1+1)=.slice none 0 0:=by
  unfold numF; rw [if_pos (by omega),if_neg (by omega),if_neg (by omega)]
 rw [f0,f1,f2]
theorem owns_form {w:World} {base n:Nat} {e:TypeId} {v:Value} {xs:List Value} (h:w.ownsRow base e 3 v n xs) (hn:0 < n):∃ g cap,v=.slice (some ⟨g,0,none⟩) n cap∧base≤g∧g < w.heap.size:=by
 obtain ⟨h1,h2⟩:=h
 rcases h2 with ⟨rfl,h2⟩ | ⟨g,cap,cur,rfl,hb,hg,-⟩
 ·omega
 ·exact ⟨g,cap,rfl,hb,lt_of_block hg⟩
theorem owns_cells {w:World} {base lo n:Nat} {v:Value} (k:Int) (l:List Int) (h:w.ownsRow base 84 3 v l.length (rowF k l l.length)) (hlo:lo≤base) :
  ∃ a2 cap,v=.slice a2 l.length cap∧CellsIn n lo w (numCs k l) a2:=by
 have h':=h
 obtain ⟨h1,h2⟩:=h'
 rcases h2 with ⟨rfl,h2⟩ | ⟨g,cap,cur,rfl,hb,hg,-⟩
 ·have e:l=[]:=List.eq_nil_of_length_eq_zero h2
  subst e
  exact ⟨none,0,rfl,Or.inl rfl⟩
 ·refine ⟨_,cap,rfl,Or.inr ⟨g,0,rfl,by omega,lt_of_block hg,?_⟩⟩
  intro i hi
  rw [numCs_len] at hi
  rw [numCs_at k l i hi]
  have hc:∀ m,m < l.length * 3→w.cell? ⟨g,m,none⟩=some (numF k l l.length m):=by
   intro m hm
   have:=h.cellAt m (by simpa [rowF] using hm)
   rw [this]
   simp [rowF,hm]
  have f0:numF k l l.length (i * 3)=.int .i64 k:=by
   unfold numF; rw [if_pos (by omega),if_pos (by omega)]
  have f1:numF k l l.length (i * 3+1)=.int .i64 (l[i]?.getD 0):=by
   unfold numF; rw [if_pos (by omega),if_neg (by omega),if_pos (by omega),show (i * 3+1) / 3=i by omega]
  have f2:numF k l l.length (i * 3+2)=.slice none 0 0:=by
   unfold numF; rw [if_pos (by omega),if_neg (by omega),if_neg (by omega)]
  have h0:=hc (i * 3) (by omega)
  have h1:=hc (i * 3+1) (by omega)
  have h2:=hc (i * 3+2) (by omega)
  rw [f0] at h0
  rw [f1] at h1
  rw [f2] at h2
  rw [Nat.zero_add]
  exact ⟨_,_,_,h0,h1,h2,rfl,rfl,none,0,rfl,by simp,Or.inl rfl⟩
end Go.Proofs.Ytnaejfoighmfeaa
namespace Go.Proofs.Ytnaejfoighmfeaa
open Go.ChangeShapes Go.WideShapes Go.ChangeAt Go.RowKit
set_option maxRecDepth 100000
set_option linter.unusedVariables false
set_option linter.unusedSimpArgs false
def sAt (l:List ByteArray) (j:Nat):ByteArray:=l[j]?.getD ⟨#[]⟩
def woNil:Wo:=⟨0,⟨#[]⟩,.mk [] [],0⟩
def wAt (l:List Wo) (j:Nat):Wo:=l[j]?.getD woNil
theorem drop_at {ws:List Wo} {i:Nat} (h:i < ws.length):ws.drop i=wAt ws i :: ws.drop (i+1):=by
 rw [List.drop_eq_getElem_cons h]; simp [wAt,h]
theorem drop_end {ws:List Wo} {i:Nat} (h:¬ i < ws.length):ws.drop i=[]:=List.drop_eq_nil_of_le (by omega)
structure Raw where
 av:Option Addr
 cv:Nat
 aa:Option Addr
 ca:Nat
 ab:Option Addr
 cb:Nat
 mi:ByteArray
 qu:ByteArray
 aw:Option Addr
 cw:Nat
def StrsIn (w:World) (a:Option Addr) (l:List ByteArray):Prop:=l.length≤1000∧∀ j,j < l.length→∃ b off,a=some ⟨b,off,none⟩∧b < w.heap.size∧w.cell? ⟨b,off+j,none⟩=some (.string (sAt l j))
def WoIn (n:Nat) (w:World) (a:Option Addr) (ws:List Wo):Prop:=ws.length≤1000∧∀ i,i < ws.length→∃ b off z1 m1 z2 m2,a=some ⟨b,off,none⟩∧b < w.heap.size∧w.cell? ⟨b,off+i * 5,none⟩=some (.int .i64 (wAt ws i).kind)∧w.cell? ⟨b,off+i * 5+1,none⟩=some (.string (wAt ws i).text)∧w.cell? ⟨b,off+i * 5+2,none⟩=some (.slice z1 (wAt ws i).lit.shape.length m1)∧w.cell? ⟨b,off+i * 5+3,none⟩=some (.slice z2 (wAt ws i).lit.cells.length m2)∧w.cell? ⟨b,off+i * 5+4,none⟩=some (.int .i64 (wAt ws i).pos)∧((wAt ws i).text.size≤140737488355328∧(wAt ws i).lit.shape.length≤5000∧(wAt ws i).lit.cells.length≤5000)∧ArIn n 0 w (wAt ws i).lit (.agg #[.slice z1 (wAt ws i).lit.shape.length m1,.slice z2 (wAt ws i).lit.cells.length m2])
structure Sn (n:Nat) (w0 w:World) (p:Nat) (g:Gr) (R:Raw) (ws:List Wo):Prop where
 old:Below w0.heap.size w0 w
 hp:w0.heap.size≤p
 hp2:p < w.heap.size
 c0:w.cell? ⟨p,0,none⟩=some (.slice R.av g.verbs.length R.cv)
 c1:w.cell? ⟨p,1,none⟩=some (.slice R.aa g.adverbs.length R.ca)
 c2:w.cell? ⟨p,2,none⟩=some (.slice R.ab g.behind.length R.cb)
 c3:w.cell? ⟨p,3,none⟩=some (.string g.outer)
 c4:w.cell? ⟨p,4,none⟩=some (.string g.power)
 c5:w.cell? ⟨p,5,none⟩=some (.string g.opn)
 c6:w.cell? ⟨p,6,none⟩=some (.string g.cls)
 c7:w.cell? ⟨p,7,none⟩=some (.string g.left)
 c8:w.cell? ⟨p,8,none⟩=some (.string g.right)
 c11:w.cell? ⟨p,11,none⟩=some (.bool g.trains)
 c12:w.cell? ⟨p,12,none⟩=some (.bool g.lone)
 c13:w.cell? ⟨p,13,none⟩=some (.bool g.square)
 c14:w.cell? ⟨p,14,none⟩=some (.slice R.aw ws.length R.cw)
 sv:StrsIn w0 R.av g.verbs
 sa:StrsIn w0 R.aa g.adverbs
 sb:StrsIn w0 R.ab g.behind
 wo:WoIn n w0 R.aw ws
theorem Sn.turn {n:Nat} {w0 w w':World} {p:Nat} {g:Gr} {R:Raw} {ws:List Wo} (h:Sn n w0 w p g R ws) (ho:Below w0.heap.size w0 w') (hs:p < w'.heap.size) (hc:∀ o,o < 15→w'.cell? ⟨p,o,none⟩=w.cell? ⟨p,o,none⟩):Sn n w0 w' p g R ws :=
 ⟨ho,h.hp,hs,(hc 0 (by omega)).trans h.c0,(hc 1 (by omega)).trans h.c1,(hc 2 (by omega)).trans h.c2,(hc 3 (by omega)).trans h.c3,(hc 4 (by omega)).trans h.c4,(hc 5 (by omega)).trans h.c5,(hc 6 (by omega)).trans h.c6,(hc 7 (by omega)).trans h.c7,(hc 8 (by omega)).trans h.c8,(hc 11 (by omega)).trans h.c11,(hc 12 (by omega)).trans h.c12,(hc 13 (by omega)).trans h.c13,(hc 14 (by omega)).trans h.c14,h.sv,h.sa,h.sb,h.wo⟩
theorem Sn.next {n:Nat} {w0 w w':World} {p:Nat} {g:Gr} {R:Raw} {ws:List Wo} (h:Sn n w0 w p g R ws) (hb:Below w.heap.size w w'):Sn n w0 w' p g R ws :=
 h.turn (h.old.trans (hb.mono h.old.size)) (Nat.lt_of_lt_of_le h.hp2 hb.size) fun o _=>hb.cell (p:=⟨p,o,none⟩) h.hp2
theorem Sn.word {n:Nat} {w0 w:World} {p:Nat} {g:Gr} {R:Raw} {ws:List Wo} (h:Sn n w0 w p g R ws) {i:Nat} (hi:i < ws.length):∃ b off z1 m1 z2 m2,R.aw=some ⟨b,off,none⟩∧w.cell? ⟨b,off+i * 5,none⟩=some (.int .i64 (wAt ws i).kind)∧w.cell? ⟨b,off+i * 5+1,none⟩=some (.string (wAt ws i).text)∧w.cell? ⟨b,off+i * 5+2,none⟩=some (.slice z1 (wAt ws i).lit.shape.length m1)∧w.cell? ⟨b,off+i * 5+3,none⟩=some (.slice z2 (wAt ws i).lit.cells.length m2)∧w.cell? ⟨b,off+i * 5+4,none⟩=some (.int .i64 (wAt ws i).pos)∧((wAt ws i).text.size≤140737488355328∧(wAt ws i).lit.shape.length≤5000∧(wAt ws i).lit.cells.length≤5000)∧ArIn n 0 w (wAt ws i).lit (.agg #[.slice z1 (wAt ws i).lit.shape.length m1,.slice z2 (wAt ws i).lit.cells.length m2]):=by
 obtain ⟨b,off,z1,m1,z2,m2,ha,hb,h0,h1,h2,h3,h4,hs,h5⟩:=h.wo.2 i hi
 exact ⟨b,off,z1,m1,z2,m2,ha,(h.old.cell (p:=⟨b,_,none⟩) hb).trans h0,(h.old.cell (p:=⟨b,_,none⟩) hb).trans h1,(h.old.cell (p:=⟨b,_,none⟩) hb).trans h2,(h.old.cell (p:=⟨b,_,none⟩) hb).trans h3,(h.old.cell (p:=⟨b,_,none⟩) hb).trans h4,hs,h5.next h.old⟩
theorem Sn.words {n:Nat} {w0 w:World} {p:Nat} {g:Gr} {R:Raw} {ws:List Wo} (h:Sn n w0 w p g R ws):ws.length≤1000:=h.wo.1
set_option maxHeartbeats 2000000 in
theorem is69 {n:Nat} {w0 w:World} {p:Nat} {g:Gr} {R:Raw} {ws:List Wo} (hS:Sn n w0 w p g R ws) (i:Nat) (k:Int) (t:ByteArray) (hi:i≤2000) :
  Calls Try.prog 69 #[.pointer (some ⟨p,0,none⟩),.int .i64 (i:Int),.int .i64 k,.string t] w fun e w'=>e=.returned (.bool (isT k t (ws.drop i)))∧w'=w:=by
 have c14:=hS.c14
 have hL:=hS.words
 by_cases hlt:i < ws.length
 ·rw [drop_at hlt]
  obtain ⟨b,off,z1,m1,z2,m2,ha,h0,h1,-⟩:=hS.word hlt
  rw [ha] at c14
  clear hS ha
  simp only [isT]
  generalize (wAt ws i).kind=K at *
  generalize (wAt ws i).text=S at *
  generalize ws.length=L at *
  generalize R.cw=cw at *
  by_cases hk:K=k
  ·subst hk
   cases e1:S.toList == t.toList with
   | true =>
    cases e2:t.toList == [] with
    | true =>
     go_enter Try.func69,Try.ntmps69
     go_wp2
     go_ret
     exact ⟨retB (by simp),rfl⟩
    | false =>
     go_enter Try.func69,Try.ntmps69
     go_wp2
     go_ret
     exact ⟨retB (by simp),rfl⟩
   | false =>
    go_enter Try.func69,Try.ntmps69
    go_wp2
    go_ret
    exact ⟨retB (by simp),rfl⟩
  ·have hk2:(K == k)=false:=by simpa using hk
   go_enter Try.func69,Try.ntmps69
   go_wp2
   go_ret
   exact ⟨retB (by simp [hk]),rfl⟩
 ·rw [drop_end hlt]
  clear hS
  generalize ws.length=L at *
  generalize R.aw=aw at *
  generalize R.cw=cw at *
  go_enter Try.func69,Try.ntmps69
  go_wp2
  go_ret
  exact ⟨retB rfl,rfl⟩
def idxS (l:List ByteArray) (t:ByteArray):Nat→Bool
 | 0=>false
 | m+1=>idxS l t m || (t.toList == (sAt l m).toList)
theorem idxS_any (l:List ByteArray) (t:ByteArray):idxS l t l.length=inL l t:=by
 have key:∀ m,m≤l.length→idxS l t m=(l.take m).any fun u=>t.toList == u.toList:=by
  intro m hm
  induction m with
  | zero=>simp [idxS]
  | succ m ih =>
   rw [idxS,ih (by omega),List.take_add_one,List.any_append]
   have:l[m]?=some l[m]:=by simp [show m < l.length by omega]
   simp [sAt,this]
 rw [key _ (Nat.le_refl _),List.take_length]; rfl
set_option maxHeartbeats 2000000 in
theorem index90 {w0 w:World} {a:Option Addr} {l:List ByteArray} (h:StrsIn w0 a l) (ho:Below w0.heap.size w0 w) (c:Nat) (t:ByteArray) :
  Calls Try.prog 90 #[.slice a l.length c,.string t] w fun e w'=>∃ r:Int,e=.returned (.int .i64 r)∧(decide (0≤r)=inL l t)∧w'=w:=by
 have hl:=h.1
 have HC:=hide (show ∀ j,j < l.length→∃ b off,a=some ⟨b,off,none⟩∧w.cell? ⟨b,off+j,none⟩=some (.string (sAt l j)) from fun j hj=>by
  obtain ⟨b,off,ha,hb,hc⟩:=h.2 j hj
  exact ⟨b,off,ha,(ho.cell (p:=⟨b,_,none⟩) hb).trans hc⟩)
 have HE:=hide (idxS_any l t)
 clear h ho
 generalize hL:l.length=L at *
 have HLL:=hide hL
 clear hL
 go_enter Try.func90,Try.ntmps90
 go_wp2
 go_loopg [8] L (fun gm i wr=>∃ j:Nat,gm+j=L∧i=.int .i64 (j:Int)∧idxS l t j=false∧wr=w)
 case atStart=>exact ⟨0,rfl,rfl,rfl,rfl⟩
 case round =>
  obtain ⟨j,hj,rfl,hi,rfl⟩:=hrel
  have HI:=hide hi
  clear hi
  by_cases hlt:j < L
  ·obtain ⟨b,off,rfl,hc⟩:=HC.out j hlt
   cases e1:t.toList == (sAt l j).toList with
   | true =>
    have HH:Hid (inL l t=true):=by
     have h1:idxS l t (j+1)=true:=by simp [idxS,e1]
     have h2:∀ m,j+1≤m→idxS l t m=true:=fun m hm=>by
      induction hm with
      | refl=>exact h1
      | step _ ih=>simp [idxS,ih]
     show inL l t=true
     rw [←HE.out]; exact h2 _ (by omega)
    clear HC HE HI
    generalize sAt l j=S at *
    go_wp2
    go_ret
    exact ⟨_,rfl,by rw [HH.out]; simp,rfl⟩
   | false =>
    have HI2:=hide (show idxS l t (j+1)=false by simp [idxS,HI.out,e1])
    clear HC HE HI
    generalize sAt l j=S at *
    go_wp2
    go_roundg (L - (j+1))
    case rel=>exact ⟨j+1,by omega,by go_num,HI2.out,rfl⟩
    case measure=>omega
  ·have hje:j=L:=by omega
   subst hje
   clear HC
   go_wp2
   go_ret
   exact ⟨_,rfl,by rw [←HE.out,HI.out]; simp,rfl⟩
set_option maxHeartbeats 2000000 in
theorem contains80 {w0 w:World} {a:Option Addr} {l:List ByteArray} (h:StrsIn w0 a l) (ho:Below w0.heap.size w0 w) (c:Nat) (t:ByteArray) :
  Calls Try.prog 80 #[.slice a l.length c,.string t] w fun e w'=>e=.returned (.bool (inL l t))∧w'=w:=by
 have HC:=hide (index90 h ho c t)
 clear h ho
 generalize l.length=L at *
 go_enter Try.func80,Try.ntmps80
 go_wp2_with fail
 refine HC.out.mono ?_
 rintro e w1 ⟨r,rfl,hr,rfl⟩
 have HR:=hide hr
 clear hr HC
 go_wp2
 go_ret
 exact ⟨retB HR.out,rfl⟩
set_option maxHeartbeats 2000000 in
theorem sign61 {n:Nat} {w0 w:World} {p:Nat} {g:Gr} {R:Raw} {ws:List Wo} (hS:Sn n w0 w p g R ws) (i:Nat) (hi:i≤2000) {a:Option Addr} {l:List ByteArray} (h:StrsIn w0 a l) (c:Nat) :
  Calls Try.prog 61 #[.pointer (some ⟨p,0,none⟩),.int .i64 (i:Int),.slice a l.length c] w fun e w'=>e=.returned (.bool (signT l (ws.drop i)))∧w'=w:=by
 have c14:=hS.c14
 have hL:=hS.words
 by_cases hlt:i < ws.length
 ·have HC:=hide (contains80 h hS.old c (wAt ws i).text)
  have HT:=hide (is69 hS i 4 (wAt ws i).text hi)
  rw [drop_at hlt] at HT ⊢
  have e0:isT 4 (wAt ws i).text (wAt ws i :: ws.drop (i+1))=isT 4 (wAt ws i).text [wAt ws i]:=rfl
  rw [e0] at HT
  obtain ⟨b,off,z1,m1,z2,m2,ha,h0,h1,-⟩:=hS.word hlt
  rw [ha] at c14
  clear hS ha h e0
  simp only [signT]
  generalize isT 4 (wAt ws i).text [wAt ws i]=T at *
  generalize (wAt ws i).kind=K at *
  generalize (wAt ws i).text=S at *
  generalize ws.length=L at *
  generalize R.cw=cw at *
  generalize inL l S=Q at *
  generalize l.length=M at *
  cases T with
  | true =>
   go_enter Try.func61,Try.ntmps61
   go_wp2_with fail
   refine HT.out.mono ?_
   rintro e w1 ⟨rfl,rfl⟩
   clear HT
   go_wp2_with fail
   refine HC.out.mono ?_
   rintro e w1 ⟨rfl,rfl⟩
   clear HC
   go_wp2
   go_ret
   exact ⟨retB (by simp),rfl⟩
  | false =>
   go_enter Try.func61,Try.ntmps61
   go_wp2_with fail
   refine HT.out.mono ?_
   rintro e w1 ⟨rfl,rfl⟩
   clear HT HC
   go_wp2
   go_ret
   exact ⟨retB (by simp),rfl⟩
 ·rw [drop_end hlt]
  clear hS h
  generalize ws.length=L at *
  generalize R.aw=aw at *
  generalize R.cw=cw at *
  generalize l.length=M at *
  go_enter Try.func61,Try.ntmps61
  go_wp2
  go_ret
  exact ⟨retB rfl,rfl⟩
theorem cell_at {n lo:Nat} {w:World} {x:Ar} {a1 a2:Option Addr} {c1 c2:Nat} (h:ArIn n lo w x (.agg #[.slice a1 x.shape.length c1,.slice a2 x.cells.length c2])) {i:Nat} (hi:i < x.cells.length):∃ b off K N s,a2=some ⟨b,off,none⟩∧b < w.heap.size∧(cAt x.cells i).1=K∧(cAt x.cells i).2.1=N∧w.cell? ⟨b,off+i * 3,none⟩=some (.int .i64 K)∧w.cell? ⟨b,off+i * 3+1,none⟩=some (.int .i64 N)∧w.cell? ⟨b,off+i * 3+2,none⟩=some s∧∃ a m c,s=.slice a m c:=by
 cases n with
 | zero=>exact h.elim
 | succ n =>
  obtain ⟨d1,e1,d2,e2,hv,-,hl,hc⟩:=h
  cases hv
  rcases hc with hc | ⟨b,off,ha,-,hb,hc⟩
  ·rw [hc] at hi; simp at hi
  obtain ⟨v0,v1,v2,h0,h1,h2,e0,e1,a,m,e2,-⟩:=hc i hi
  subst e0 e1
  exact ⟨b,off,_,_,_,ha,hb,rfl,rfl,h0,h1,h2,a,_,m,e2⟩
end Go.Proofs.Ytnaejfoighmfeaa
namespace Go.Proofs.Ytnaejfoighmfeaa
open Go.ChangeShapes Go.WideShapes Go.ChangeAt Go.RowKit
set_option maxRecDepth 100000
set_option linter.unusedVariables false
set_option linter.unusedSimpArgs false
theorem oft_no {x:Ar} (h:oftB x=false):oftN x=0:=by simp [oftN,h]
theorem retO {x:Ar} {a:Int} {b:Bool} (h1:oftN x=a) (h2:oftB x=b):Ending.returned (.tuple #[.int .i64 a,.bool b])=Ending.returned (.tuple #[.int .i64 (oftN x),.bool (oftB x)]):=by rw [h1,h2]
set_option maxHeartbeats 4000000 in
theorem often71 {n lo:Nat} {w:World} {x:Ar} {a1 a2:Option Addr} {c1 c2:Nat} (h:ArIn n lo w x (.agg #[.slice a1 x.shape.length c1,.slice a2 x.cells.length c2])) :
  Calls Try.prog 71 #[.agg #[.slice a1 x.shape.length c1,.slice a2 x.cells.length c2]] w fun e w'=>e=.returned (.tuple #[.int .i64 (oftN x),.bool (oftB x)])∧Below w.heap.size w w':=by
 have hb0:=one_alloc w (.cells #[.slice a1 x.shape.length c1,.slice a2 x.cells.length c2] 36)
 by_cases h0:x.shape.length=0
 ·by_cases h1:x.cells.length=1
  ·obtain ⟨b,off,K,N,s,rfl,hb,hK,hN,e0,e1,e2,sa,sm,scp,rfl⟩:=cell_at h (i:=0) (by omega)
   have hf:=hide (show oftB x=(decide (K=0) && (decide (0≤N) && decide (N≤4096))) by simp [oftB,h0,h1,hK,hN])
   have hg:=hide (show oftN x=if oftB x then N else 0 by simp [oftN,hN])
   clear hK hN h
   rw [h0,h1] at hb0 ⊢
   simp only [Nat.zero_mul,Nat.add_zero] at e0 e1 e2
   have f0:=cell_one e0 hb (.cells #[.slice a1 0 c1,.slice (some ⟨b,off,none⟩) 1 c2] 36)
   have f1:=cell_one e1 hb (.cells #[.slice a1 0 c1,.slice (some ⟨b,off,none⟩) 1 c2] 36)
   have f2:=cell_one e2 hb (.cells #[.slice a1 0 c1,.slice (some ⟨b,off,none⟩) 1 c2] 36)
   have q0:=cell_new0 w #[.slice a1 0 c1,.slice (some ⟨b,off,none⟩) 1 c2] 36 0 _ rfl
   have q1:=cell_new0 w #[.slice a1 0 c1,.slice (some ⟨b,off,none⟩) 1 c2] 36 1 _ rfl
   have HB:=hide (show ∀ v:Array Value,Below w.heap.size w ((w.alloc (.cells #[.slice a1 0 c1,.slice (some ⟨b,off,none⟩) 1 c2] 36)).alloc (.cells v 84)) from fun v=>hb0.alloc hb0.size _)
   clear h0 h1 e0 e1 e2 hb0
   by_cases hk:K=0
   ·subst hk
    by_cases hn:N < 0
    ·go_enter Try.func71,Try.ntmps71
     go_wp2
     exact bodyPost_ret (v:=.tuple #[.int .i64 0,.bool false]) (by simp [results,Try.results71,go_sem]) rfl ⟨retO (by rw [hg.out,hf.out]; simp <;> omega) (by rw [hf.out]; simp <;> omega),HB.out _⟩
    ·by_cases hm:4096 < N
     ·go_enter Try.func71,Try.ntmps71
      go_wp2
      exact bodyPost_ret (v:=.tuple #[.int .i64 0,.bool false]) (by simp [results,Try.results71,go_sem]) rfl ⟨retO (by rw [hg.out,hf.out]; simp <;> omega) (by rw [hf.out]; simp <;> omega),HB.out _⟩
     ·go_enter Try.func71,Try.ntmps71
      go_wp2
      exact bodyPost_ret (v:=.tuple #[.int .i64 N,.bool true]) (by simp [results,Try.results71,go_sem]) rfl ⟨retO (by rw [hg.out,hf.out]; simp <;> omega) (by rw [hf.out]; simp <;> omega),HB.out _⟩
   ·have hk2:(K == 0)=false:=by simpa using hk
    go_enter Try.func71,Try.ntmps71
    go_wp2
    exact bodyPost_ret (v:=.tuple #[.int .i64 0,.bool false]) (by simp [results,Try.results71,go_sem]) rfl ⟨retO (by rw [hg.out,hf.out]; simp [hk]) (by rw [hf.out]; simp [hk]),HB.out _⟩
  ·have hf:=hide (show oftB x=false by simp [oftB,h1])
   have HB:=hide hb0
   have h2:((x.cells.length:Int) == 1)=false:=by simp; omega
   clear h hb0
   rw [h0] at HB ⊢
   generalize x.cells.length=L at *
   go_enter Try.func71,Try.ntmps71
   go_wp2
   exact bodyPost_ret (v:=.tuple #[.int .i64 0,.bool false]) (by simp [results,Try.results71,go_sem]) rfl ⟨retO (oft_no hf.out) hf.out,HB.out⟩
 ·have hf:=hide (show oftB x=false by simp [oftB,h0])
  have HB:=hide hb0
  have h2:(0:Int) < x.shape.length:=by omega
  clear h hb0
  generalize x.cells.length=L at *
  generalize x.shape.length=M at *
  go_enter Try.func71,Try.ntmps71
  go_wp2
  exact bodyPost_ret (v:=.tuple #[.int .i64 0,.bool false]) (by simp [results,Try.results71,go_sem]) rfl ⟨retO (oft_no hf.out) hf.out,HB.out⟩
end Go.Proofs.Ytnaejfoighmfeaa
namespace Go.Proofs.Ytnaejfoighmfeaa
open Go.ChangeShapes Go.WideShapes Go.ChangeAt Go.RowKit
set_option maxRecDepth 100000
set_option linter.unusedVariables false
set_option linter.unusedSimpArgs false
def But (T:Nat→Prop) (w w':World):Prop:=w'.os=w.os∧w'.tape=w.tape∧w'.output=w.output∧w.heap.size≤w'.heap.size∧∀ k,k < w.heap.size→¬ T k→w'.heap[k]?=w.heap[k]?
theorem But.refl (T:Nat→Prop) (w:World):But T w w:=⟨rfl,rfl,rfl,Nat.le_refl _,fun _ _ _=>rfl⟩
theorem But.size {T:Nat→Prop} {w w':World} (h:But T w w'):w.heap.size≤w'.heap.size:=h.2.2.2.1
theorem But.trans {T T':Nat→Prop} {a b c:World} (h:But T a b) (k:But T' b c) (ht:∀ j,j < a.heap.size→T' j→T j):But T a c :=
 ⟨k.1.trans h.1,k.2.1.trans h.2.1,k.2.2.1.trans h.2.2.1,Nat.le_trans h.size k.size,fun j hj hn=>(k.2.2.2.2 j (Nat.lt_of_lt_of_le hj h.size) (fun hh=>hn (ht j hj hh))).trans (h.2.2.2.2 j hj hn)⟩
theorem But.of {T:Nat→Prop} {w w':World} (h:Below w.heap.size w w'):But T w w':=⟨h.os,h.tape,h.output,h.size,fun k hk _=>h.block k hk⟩
theorem But.below {T:Nat→Prop} {B:Nat} {w w':World} (h:But T w w') (hB:B≤w.heap.size) (hT:∀ k,T k→B≤k):Below B w w':=⟨h.1,h.2.1,h.2.2.1,h.size,fun k hk=>h.2.2.2.2 k (Nat.lt_of_lt_of_le hk hB) (fun ht=>by have:=hT k ht; omega)⟩
theorem But.block {T:Nat→Prop} {w w':World} (h:But T w w') {k:Nat} (hk:k < w.heap.size) (ht:¬ T k):w'.heap[k]?=w.heap[k]?:=h.2.2.2.2 k hk ht
theorem But.cell {T:Nat→Prop} {w w':World} (h:But T w w') {p:Addr} (hk:p.block < w.heap.size) (ht:¬ T p.block):w'.cell? p=w.cell? p:=World.cell?_of_block (w:=w) (h.block hk ht)
theorem But.mono {T T':Nat→Prop} {w w':World} (h:But T w w') (hT:∀ k,T k→T' k):But T' w w':=⟨h.1,h.2.1,h.2.2.1,h.size,fun k hk hn=>h.block hk fun t=>hn (hT k t)⟩
theorem is69W {n:Nat} {w0 w:World} {p:Nat} {g:Gr} {R:Raw} {ws:List Wo} (hS:Sn n w0 w p g R ws) (i:Nat) (k:Int) (t:ByteArray) (hi:i≤2000):∀ W,Below w.heap.size w W →
  Calls Try.prog 69 #[.pointer (some ⟨p,0,none⟩),.int .i64 (i:Int),.int .i64 k,.string t] W fun e w'=>e=.returned (.bool (isT k t (ws.drop i)))∧Below w.heap.size w w':=fun W hW =>
 (is69 (hS.next hW) i k t hi).mono fun e w' ⟨h1,h2⟩=>⟨h1,h2 ▸ hW⟩
theorem sign61W {n:Nat} {w0 w:World} {p:Nat} {g:Gr} {R:Raw} {ws:List Wo} (hS:Sn n w0 w p g R ws) (i:Nat) (hi:i≤2000) {a:Option Addr} {l:List ByteArray} (h:StrsIn w0 a l) (c:Nat):∀ W,Below w.heap.size w W →
  Calls Try.prog 61 #[.pointer (some ⟨p,0,none⟩),.int .i64 (i:Int),.slice a l.length c] W fun e w'=>e=.returned (.bool (signT l (ws.drop i)))∧Below w.heap.size w w':=fun W hW =>
 (sign61 (hS.next hW) i hi h c).mono fun e w' ⟨h1,h2⟩=>⟨h1,h2 ▸ hW⟩
set_option maxHeartbeats 4000000 in
theorem power62 {n:Nat} {w0 w:World} {p:Nat} {g:Gr} {R:Raw} {ws:List Wo} (hS:Sn n w0 w p g R ws) (i:Nat) (hi:i≤1900) :
  Calls Try.prog 62 #[.pointer (some ⟨p,0,none⟩),.int .i64 (i:Int)] w fun e w'=>e=.returned (.bool (powT g (ws.drop i)))∧Below w.heap.size w w':=by
 have c14:=hS.c14
 have c4:=hS.c4
 have hL:=hS.words
 have HT:=hide (is69 hS i 4 g.power (by omega))
 have HR:Hid (Below w.heap.size w w):=Below.refl _ _
 cases hT:isT 4 g.power (ws.drop i) with
 | false =>
  have hP:=hide (show powT g (ws.drop i)=false by
   by_cases h1:i < ws.length
   ·rw [drop_at h1] at hT ⊢
    by_cases h2:i+1 < ws.length
    ·rw [drop_at h2]
     have:isT 4 g.power [wAt ws i]=false:=hT
     simp [powT,this]
    ·rw [drop_end h2]; rfl
   ·rw [drop_end h1]; rfl)
  rw [hT] at HT
  clear hS hT
  generalize ws.length=L at *
  generalize R.aw=aw at *
  generalize R.cw=cw at *
  generalize g.power=GP at *
  go_enter Try.func62,Try.ntmps62
  go_wp2_with fail
  refine HT.out.mono ?_
  rintro e w1 ⟨rfl,rfl⟩
  clear HT
  go_wp2
  go_ret
  exact ⟨retB hP.out.symm,HR.out⟩
 | true =>
  have h1:i < ws.length:=by
   rcases Nat.lt_or_ge i ws.length with h | h
   ·exact h
   ·rw [drop_end (by omega)] at hT; cases hT
  rw [hT] at HT
  have hT':isT 4 g.power [wAt ws i]=true:=by rw [drop_at h1] at hT; exact hT
  by_cases h2:i+1 < ws.length
  ·have hP:=hide (show powT g (ws.drop i)=(decide ((wAt ws (i+1)).kind=1) && oftB (wAt ws (i+1)).lit) by
    rw [drop_at h1,drop_at h2]; simp [powT,hT'])
   obtain ⟨b,off,z1,m1,z2,m2,ha,h0,-,h3,h4,-,-,h5⟩:=hS.word h2
   have HO:=hide (often71 h5)
   rw [ha] at c14
   clear hS hT ha hT' h5
   generalize (wAt ws (i+1)).lit.shape.length=L1 at *
   generalize (wAt ws (i+1)).lit.cells.length=L2 at *
   generalize (wAt ws (i+1)).kind=K at *
   generalize oftB (wAt ws (i+1)).lit=OB at *
   generalize oftN (wAt ws (i+1)).lit=ON at *
   generalize powT g (ws.drop i)=PT at *
   have h6:((i:Int)+1 == (ws.length:Int))=false:=by simp; omega
   have h7:¬ (i:Int)+1=(ws.length:Int):=by omega
   generalize ws.length=L at *
   generalize R.cw=cw at *
   generalize g.power=GP at *
   by_cases hk:K=1
   ·subst hk
    go_enter Try.func62,Try.ntmps62
    go_wp2_with fail
    refine HT.out.mono ?_
    rintro e w1 ⟨rfl,rfl⟩
    clear HT
    go_wp2_with fail
    refine HO.out.mono ?_
    rintro e w2 ⟨rfl,hb⟩
    clear HO
    go_wp2
    go_ret
    exact ⟨retB (by rw [hP.out]; simp),hb⟩
   ·have hk2:(K == 1)=false:=by simpa using hk
    go_enter Try.func62,Try.ntmps62
    go_wp2_with fail
    refine HT.out.mono ?_
    rintro e w1 ⟨rfl,rfl⟩
    clear HT HO
    go_wp2
    go_ret
    exact ⟨retB (by rw [hP.out]; simp [hk]),HR.out⟩
  ·have hP:=hide (show powT g (ws.drop i)=false by rw [drop_at h1,drop_end h2]; rfl)
   have h6:(i:Int)+1=(ws.length:Int):=by omega
   clear hS hT hT'
   generalize ws.length=L at *
   generalize R.aw=aw at *
   generalize R.cw=cw at *
   generalize g.power=GP at *
   have h7:((i:Int)+1 == (L:Int))=true:=by simp; omega
   clear h6
   go_enter Try.func62,Try.ntmps62
   go_wp2_with fail
   refine HT.out.mono ?_
   rintro e w1 ⟨rfl,rfl⟩
   clear HT
   go_wp2
   go_ret
   exact ⟨retB hP.out.symm,HR.out⟩
set_option maxHeartbeats 4000000 in
theorem text81 {n:Nat} {w0 w:World} {p:Nat} {g:Gr} {R:Raw} {ws:List Wo} (hS:Sn n w0 w p g R ws) (i:Nat) (hi:i≤1900) :
  Calls Try.prog 81 #[.pointer (some ⟨p,0,none⟩),.int .i64 (i:Int)] w fun e w'=>e=.returned (.bool (isT 5 g.opn (ws.drop i)))∧Below w.heap.size w w':=by
 have HC:=hide (is69W hS i 5 g.opn (by omega))
 have hp2:=hS.hp2
 have c5:=hS.c5
 have KS:Hid (∀ W,Below w.heap.size w W→Below w.heap.size w W∧W.cell? ⟨p,5,none⟩=some (.string g.opn)):=fun W h=>⟨h,(h.cell (p:=⟨p,5,none⟩) hp2).trans c5⟩
 have HD0:Hid (Below w.heap.size w w.drew):=(Below.refl _ _).drew
 clear hS
 generalize g.opn=T at *
 generalize isT 5 T (ws.drop i)=B at *
 go_enter Try.func81,Try.ntmps81
 go_upto_region 1 with fail
 go_region_held3 (fun W=>Below w.heap.size w W∧W.cell? ⟨p,5,none⟩=some (.string T)) (first | with_reducible exact KS.out _ HD0.out | with_reducible exact KS.out _ (by with_reducible assumption)) (first | (go_at_call 69; refine (HC.out _ HD0.out).mono ?_; rintro e w6 ⟨rfl,hb6⟩))
 all_goals
  go_wp2
  go_ret
  exact ⟨rfl,by assumption⟩
end Go.Proofs.Ytnaejfoighmfeaa
namespace Go.Proofs.Ytnaejfoighmfeaa
open Go.ChangeShapes Go.WideShapes Go.ChangeAt Go.RowKit
set_option maxRecDepth 100000
set_option linter.unusedVariables false
theorem tailR_le (g:Gr) (l:List Wo):tailR g l≤l.length:=by
 induction l using tailR.induct g with
 | case1=>simp [tailR]
 | case2 x h=>simp [tailR,h]
 | case3 x h=>simp [tailR,h]
 | case4 x y r h ih=>simp only [tailR,h,if_true]; simp at ih ⊢; omega
 | case5 x y r h h2 ih=>simp only [tailR,h,h2,if_true]; simp at ih ⊢; omega
 | case6 x y r h h2=>simp [tailR,h,h2]
theorem clo_le (d:Nat) (l:List Wo):clo d l≤l.length:=by
 induction l generalizing d with
 | nil=>simp [clo]
 | cons x r ih =>
  simp only [clo,List.length_cons]
  have h1:=ih (d+1)
  have h2:=ih (d - 1)
  have h3:=ih d
  unfold addk
  repeat' split
  all_goals omega
theorem chain_le {W:List Wo→Nat} {n:Nat} (h:∀ l:List Wo,l.length < n→W l≤l.length) (m:Nat) (l:List Wo) (hl:l.length < n):(chainR W m l).2≤l.length:=by
 induction m generalizing l with
 | zero=>simp [chainR]
 | succ m ih =>
  simp only [chainR]
  split
  ·simp
  ·have:=ih (l.drop (W l)) (by rw [List.length_drop]; omega)
   have:=h l hl
   rw [List.length_drop] at *
   simp only []
   omega
theorem stemF_le (g:Gr) (f:Nat) (b:Bool) (l:List Wo):stemF g f b l≤l.length:=by
 induction f generalizing b l with
 | zero=>simp [stemF]
 | succ f ih =>
  have hw:∀ b l,wholeS g (stemF g f) b l≤l.length:=by
   intro b l
   unfold wholeS
   split
   ·rename_i h0
    simp only [Bool.and_eq_true] at h0
    have h1:=isT_len h0.1
    have h2:=ih false l.tail
    have h3:=tailR_le g (l.drop (stemF g f false l.tail+1))
    rw [List.length_drop] at h3
    omega
   split
   ·omega
   ·have h2:=ih b l
    have h3:=tailR_le g (l.drop (stemF g f b l))
    rw [List.length_drop] at h3
    omega
  simp only [stemF,stemB]
  split
  ·rename_i h1
   have:∃ x r,l=x :: r∧x.kind=4:=by
    rcases (by simpa using h1:signT g.verbs l=true ∨ b=true∧signT g.behind l=true) with h1 | ⟨-,h1⟩ <;> exact signT_kind h1
   obtain ⟨x,r,rfl,hk⟩:=this
   simp
  split
  ·exact clo_le 0 l
  split
  ·rename_i h0
   unfold brackR
   split
   ·omega
   split
   ·rename_i h3 h4
    have h5:=isT_len h4
    have h6:=isT_len h0
    rw [List.length_drop] at h5
    simp only [List.length_tail,List.length_drop] at *
    omega
   ·omega
  ·omega
theorem stemR_le (g:Gr) (b:Bool) (l:List Wo):stemR g b l≤l.length:=stemF_le g _ b l
theorem wholeR_le (g:Gr) (b:Bool) (l:List Wo):wholeR g b l≤l.length:=by
 unfold wholeR wholeS
 split
 ·rename_i h0
  simp only [Bool.and_eq_true] at h0
  have h1:=isT_len h0.1
  have h2:=stemR_le g false l.tail
  have h3:=tailR_le g (l.drop (stemR g false l.tail+1))
  rw [List.length_drop] at h3
  omega
 split
 ·omega
 ·have h2:=stemR_le g b l
  have h3:=tailR_le g (l.drop (stemR g b l))
  rw [List.length_drop] at h3
  omega
def enc (j r:Nat):Nat:=if r=0 then 0 else j+r
theorem enc_pos (j r:Nat):0 < enc j r ↔ r ≠ 0:=by unfold enc; split <;> omega
theorem chain_step {W:List Wo→Nat} {k:Nat} {l:List Wo} (h:W l ≠ 0):chainR W (k+1) l=((chainR W k (l.drop (W l))).1+1,W l+(chainR W k (l.drop (W l))).2):=by simp [chainR,h]
theorem chain_stop {W:List Wo→Nat} {k:Nat} {l:List Wo} (h:W l=0 ∨ k=0):chainR W k l=(0,0):=by
 cases k with
 | zero=>rfl
 | succ k =>
  rcases h with h | h
  ·simp [chainR,h]
  ·omega
end Go.Proofs.Ytnaejfoighmfeaa
namespace Go.Proofs.Ytnaejfoighmfeaa
open Go.ChangeShapes Go.WideShapes Go.ChangeAt Go.RowKit
set_option maxRecDepth 100000
set_option linter.unusedVariables false
set_option linter.unusedSimpArgs false
structure Ra where
 xc:Option Addr
 kc:Nat
 xt:Option Addr
 kt:Nat
 xa:Option Addr
 ka:Nat
 xb:Option Addr
 kb:Nat
def IntsIn (w:World) (p:Nat) (a:Option Addr) (f:Nat→Nat) (lo hi:Nat):Prop:=∀ j,lo≤j→j < hi→∃ b off,a=some ⟨b,off,none⟩∧b < w.heap.size∧b ≠ p∧w.cell? ⟨b,off+j,none⟩=some (.int .i64 (f j:Nat))
theorem IntsIn.next {w w':World} {p:Nat} {a:Option Addr} {f:Nat→Nat} {lo hi:Nat} (h:IntsIn w p a f lo hi) (hb:Below w.heap.size w w'):IntsIn w' p a f lo hi:=fun j h1 h2=>by
 obtain ⟨b,off,ha,hl,hn,hc⟩:=h j h1 h2
 exact ⟨b,off,ha,Nat.lt_of_lt_of_le hl hb.size,hn,(hb.cell (p:=⟨b,off+j,none⟩) hl).trans hc⟩
def cloV (ws:List Wo) (j:Nat):Nat:=if (wAt ws j).kind=5 then enc j (clo 0 (ws.drop j)) else 0
def tailV (g:Gr) (ws:List Wo) (j:Nat):Nat:=j+tailR g (ws.drop j)
def wholeV (g:Gr) (b:Bool) (ws:List Wo) (j:Nat):Nat:=enc j (wholeR g b (ws.drop j))
structure Sp (n:Nat) (w0 w:World) (p:Nat) (g:Gr) (R:Raw) (ws:List Wo) (A:Ra) (t a b:Nat):Prop where
 sn:Sn n w0 w p g R ws
 c15:w.cell? ⟨p,15,none⟩=some (.slice A.xc ws.length A.kc)
 c16:w.cell? ⟨p,16,none⟩=some (.slice A.xt (ws.length+1) A.kt)
 c17:w.cell? ⟨p,17,none⟩=some (.slice A.xa (ws.length+1) A.ka)
 c18:w.cell? ⟨p,18,none⟩=some (.slice A.xb (ws.length+1) A.kb)
 hc:IntsIn w p A.xc (cloV ws) 0 ws.length
 ht:IntsIn w p A.xt (tailV g ws) t (ws.length+1)
 ha:IntsIn w p A.xa (wholeV g false ws) a (ws.length+1)
 hb:IntsIn w p A.xb (wholeV g true ws) b (ws.length+1)
theorem Sp.next {n:Nat} {w0 w w':World} {p:Nat} {g:Gr} {R:Raw} {ws:List Wo} {A:Ra} {t a b:Nat} (h:Sp n w0 w p g R ws A t a b) (hb:Below w.heap.size w w'):Sp n w0 w' p g R ws A t a b :=
 ⟨h.sn.next hb,(hb.cell (p:=⟨p,15,none⟩) h.sn.hp2).trans h.c15,(hb.cell (p:=⟨p,16,none⟩) h.sn.hp2).trans h.c16,(hb.cell (p:=⟨p,17,none⟩) h.sn.hp2).trans h.c17,(hb.cell (p:=⟨p,18,none⟩) h.sn.hp2).trans h.c18,h.hc.next hb,h.ht.next hb,h.ha.next hb,h.hb.next hb⟩
def Ra.of (A:Ra) (b:Bool):Option Addr:=if b then A.xb else A.xa
def Ra.rm (A:Ra) (b:Bool):Nat:=if b then A.kb else A.ka
set_option maxHeartbeats 1000000 in
theorem fns65 {n:Nat} {w0 w:World} {p:Nat} {g:Gr} {R:Raw} {ws:List Wo} {A:Ra} {t a b:Nat} (hS:Sp n w0 w p g R ws A t a b) (q:Bool) :
  Calls Try.prog 65 #[.pointer (some ⟨p,0,none⟩),.bool q] w fun e w'=>e=.returned (.slice (A.of q) (ws.length+1) (A.rm q))∧w'=w:=by
 have c17:=hS.c17
 have c18:=hS.c18
 clear hS
 generalize ws.length+1=M at *
 cases q with
 | true =>
  generalize hx:A.xb=xb at *
  generalize hk:A.kb=kb at *
  have H1:=hide (show A.of true=xb from hx)
  have H2:=hide (show A.rm true=kb from hk)
  clear hx hk
  go_enter Try.func65,Try.ntmps65
  go_wp2
  go_ret
  exact ⟨by rw [H1.out,H2.out]; rfl,rfl⟩
 | false =>
  generalize hx:A.xa=xa at *
  generalize hk:A.ka=ka at *
  have H1:=hide (show A.of false=xa from hx)
  have H2:=hide (show A.rm false=ka from hk)
  clear hx hk
  go_enter Try.func65,Try.ntmps65
  go_wp2
  go_ret
  exact ⟨by rw [H1.out,H2.out]; rfl,rfl⟩
theorem Sp.row {n:Nat} {w0 w:World} {p:Nat} {g:Gr} {R:Raw} {ws:List Wo} {A:Ra} {t a b:Nat} (hS:Sp n w0 w p g R ws A t a b) (q:Bool) (lo:Nat) (hlo:(if q then b else a)≤lo):IntsIn w p (A.of q) (wholeV g q ws) lo (ws.length+1):=by
 cases q with
 | true=>exact fun j h1 h2=>hS.hb j (Nat.le_trans hlo h1) h2
 | false=>exact fun j h1 h2=>hS.ha j (Nat.le_trans hlo h1) h2
theorem ret0 {a b:Nat} (h:a=b):Ending.returned (.int .i64 (a:Int))=Ending.returned (.int .i64 (b:Int)):=by rw [h]
set_option maxHeartbeats 4000000 in
theorem brack82 {n:Nat} {w0 w:World} {p:Nat} {g:Gr} {R:Raw} {ws:List Wo} {A:Ra} {t a b:Nat} (hS:Sp n w0 w p g R ws A t a b) (q:Bool) (i:Nat) (hi:i < ws.length) (hlo:(if q then b else a)≤i+1) :
  Calls Try.prog 82 #[.pointer (some ⟨p,0,none⟩),.int .i64 (i:Int),.bool q] w fun e w'=>e=.returned (.int .i64 (enc i (brackR g (wholeR g q) (ws.drop i)):Nat))∧Below w.heap.size w w':=by
 have HF:=hide (fns65 hS q)
 have hrow:=hS.row q (i+1) hlo
 have HT:=hide (fun (j:Nat) (hj:j≤2000)=>is69 hS.sn j 6 rc hj)
 have c11:=hS.sn.c11
 have hL:=hS.sn.words
 have HR:Hid (Below w.heap.size w w):=Below.refl _ _
 clear hS
 have htl:(ws.drop i).tail=ws.drop (i+1):=by rw [List.tail_drop]
 have hdd:∀ c,(ws.drop (i+1)).drop c=ws.drop (i+1+c):=fun c=>by rw [List.drop_drop]
 have HROW:=hide (show ∀ j,i+1≤j→j≤ws.length→∃ b off,A.of q=some ⟨b,off,none⟩∧w.cell? ⟨b,off+j,none⟩=some (.int .i64 (enc j (wholeR g q (ws.drop j)):Nat)) from fun j h1 h2=>by
  obtain ⟨b,off,ha,-,-,hc⟩:=hrow j h1 (by omega)
  exact ⟨b,off,ha,hc⟩)
 clear hrow
 obtain ⟨M,hM⟩:∃ M:Nat,most g=M:=⟨_,rfl⟩
 have HBR:=hide (show brackR g (wholeR g q) (ws.drop i)=(if (chainR (wholeR g q) M (ws.drop (i+1))).1=0 then 0 else if isT 6 rc (ws.drop (i+1+(chainR (wholeR g q) M (ws.drop (i+1))).2)) then (chainR (wholeR g q) M (ws.drop (i+1))).2+2 else 0) by
  unfold brackR; rw [htl,hM,hdd])
 clear htl hdd
 have HLE:=hide (show ∀ j,wholeR g q (ws.drop j)≤ws.length - j from fun j=>by have:=wholeR_le g q (ws.drop j); rwa [List.length_drop] at this)
 have HST:=hide (show ∀ k j,wholeR g q (ws.drop j) ≠ 0→chainR (wholeR g q) (k+1) (ws.drop j)=((chainR (wholeR g q) k (ws.drop (j+wholeR g q (ws.drop j)))).1+1,wholeR g q (ws.drop j)+(chainR (wholeR g q) k (ws.drop (j+wholeR g q (ws.drop j)))).2) from fun k j h=>by rw [chain_step h,List.drop_drop])
 have HSP:=hide (show ∀ k j,wholeR g q (ws.drop j)=0 ∨ k=0→chainR (wholeR g q) k (ws.drop j)=(0,0) from fun k j h=>chain_stop h)
 obtain ⟨CH,hCH⟩:∃ CH:Nat→Nat→Nat × Nat,∀ k j,chainR (wholeR g q) k (ws.drop j)=CH k j:=⟨_,fun _ _=>rfl⟩
 obtain ⟨V,hV⟩:∃ V:Nat→Nat,∀ j,wholeR g q (ws.drop j)=V j:=⟨_,fun _=>rfl⟩
 obtain ⟨T,hT⟩:∃ T:Nat→Bool,∀ j,isT 6 rc (ws.drop j)=T j:=⟨_,fun _=>rfl⟩
 simp only [hCH,hV,hT] at HBR HLE HST HSP HROW HT
 generalize brackR g (wholeR g q) (ws.drop i)=RES at *
 clear hCH hV hT
 have hrc:rc=⟨#[41]⟩:=rfl
 rw [hrc] at HT
 clear hrc
 generalize A.of q=X at *
 generalize A.rm q=KX at *
 generalize ws.length=L at *
 cases hTR:g.trains with
 | true =>
  obtain rfl:M=3:=by rw [←hM]; simp [most,hTR]
  rw [hTR] at c11
  clear hM hTR
  go_enter Try.func82,Try.ntmps82
  go_wp2_with fail
  refine HF.out.mono ?_
  rintro e w1 ⟨rfl,rfl⟩
  clear HF
  go_wp2
  go_loopg [9,10] 3 (fun gm nx mn wr=>∃ (m x:Nat),gm+m=3∧nx=.int .i64 (x:Int)∧mn=.int .i64 (m:Int)∧i+1≤x∧x≤L∧CH 3 (i+1)=(m+(CH (3 - m) x).1,(x - (i+1))+(CH (3 - m) x).2)∧wr=w1)
  case atStart=>exact ⟨0,i+1,rfl,by go_num,rfl,Nat.le_refl _,by omega,by simp,rfl⟩
  case round =>
   obtain ⟨m,x,hm,rfl,rfl,h1,h2,h3,rfl⟩:=hrel
   obtain ⟨b',off,rfl,hc⟩:=HROW.out x h1 h2
   have H3:=hide h3
   have hle:=HLE.out x
   clear h3
   by_cases hmm:m < 3
   ·by_cases hv:V x=0
    ·have hen:enc x (V x)=0:=by simp [enc,hv]
     rw [hen] at hc
     have hex:=HSP.out (3 - m) x (Or.inl hv)
     have hfin:=H3.out
     rw [hex] at hfin
     have HE:=hide (show RES=if m=0 then 0 else if T (i+1+(x - (i+1))) then (x - (i+1))+2 else 0 by rw [HBR.out,hfin]; rfl)
     rw [show i+1+(x - (i+1))=x by omega] at HE
     clear hfin hex HBR HST HSP HROW H3 hle hen
     by_cases hm0:m=0
     ·subst hm0
      clear HT
      go_wp2
      go_ret
      exact ⟨ret0 (b:=enc i RES) (by rw [HE.out]; simp [enc]),HR.out⟩
     ·have HC:=hide (HT.out x (by omega))
      clear HT
      cases hTx:T x with
      | true =>
       rw [hTx] at HC
       go_wp2_with fail
       refine HC.out.mono ?_
       rintro e w2 ⟨rfl,rfl⟩
       clear HC
       go_wp2
       go_ret
       exact ⟨retI (by rw [HE.out,if_neg hm0,if_pos hTx]; simp [enc]; omega),HR.out⟩
      | false =>
       rw [hTx] at HC
       go_wp2_with fail
       refine HC.out.mono ?_
       rintro e w2 ⟨rfl,rfl⟩
       clear HC
       go_wp2
       go_ret
       exact ⟨ret0 (b:=enc i RES) (by rw [HE.out,hTx]; simp [enc]),HR.out⟩
    ·have hen:enc x (V x)=x+V x:=by simp [enc,hv]
     have hpos:(0:Int) < ((x+V x:Nat):Int):=by omega
     rw [hen] at hc
     have hst:=HST.out (3 - m - 1) x hv
     have H4:=hide (show CH 3 (i+1)=(m+1+(CH (3 - (m+1)) (x+V x)).1,(x+V x - (i+1))+(CH (3 - (m+1)) (x+V x)).2) by
      rw [H3.out,show 3 - m=3 - m - 1+1 by omega,hst,show 3 - m - 1=3 - (m+1) by omega]
      simp only [Prod.mk.injEq]
      omega)
     clear hst H3 HBR HST HSP HROW hen
     generalize hX:x+V x=x2 at *
     have hx2:x2≤L:=by omega
     have hx3:i+1≤x2:=by omega
     clear hX hle
     go_wp2
     go_roundg (3 - (m+1))
     case rel=>exact ⟨m+1,x2,by omega,rfl,by go_num,hx3,hx2,H4.out,rfl⟩
     case measure=>omega
   ·have hmm2:m=3:=by omega
    subst hmm2
    have hex:=HSP.out (3 - 3) x (Or.inr (by omega))
    have hfin:=H3.out
    rw [hex] at hfin
    have HE:=hide (show RES=if 3=0 then 0 else if T (i+1+(x - (i+1))) then (x - (i+1))+2 else 0 by rw [HBR.out,hfin]; rfl)
    rw [show i+1+(x - (i+1))=x by omega] at HE
    clear hfin hex HBR HST HSP HROW H3 hle
    have HC:=hide (HT.out x (by omega))
    clear HT
    cases hTx:T x with
    | true =>
     rw [hTx] at HC
     go_wp2_with fail
     refine HC.out.mono ?_
     rintro e w2 ⟨rfl,rfl⟩
     clear HC
     go_wp2
     go_ret
     exact ⟨retI (by rw [HE.out,if_neg (by omega),if_pos hTx]; simp [enc]; omega),HR.out⟩
    | false =>
     rw [hTx] at HC
     go_wp2_with fail
     refine HC.out.mono ?_
     rintro e w2 ⟨rfl,rfl⟩
     clear HC
     go_wp2
     go_ret
     exact ⟨ret0 (b:=enc i RES) (by rw [HE.out,hTx]; simp [enc]),HR.out⟩
 | false =>
  obtain rfl:M=1:=by rw [←hM]; simp [most,hTR]
  rw [hTR] at c11
  clear hM hTR
  go_enter Try.func82,Try.ntmps82
  go_wp2_with fail
  refine HF.out.mono ?_
  rintro e w1 ⟨rfl,rfl⟩
  clear HF
  go_wp2
  go_loopg [9,10] 1 (fun gm nx mn wr=>∃ (m x:Nat),gm+m=1∧nx=.int .i64 (x:Int)∧mn=.int .i64 (m:Int)∧i+1≤x∧x≤L∧CH 1 (i+1)=(m+(CH (1 - m) x).1,(x - (i+1))+(CH (1 - m) x).2)∧wr=w1)
  case atStart=>exact ⟨0,i+1,rfl,by go_num,rfl,Nat.le_refl _,by omega,by simp,rfl⟩
  case round =>
   obtain ⟨m,x,hm,rfl,rfl,h1,h2,h3,rfl⟩:=hrel
   obtain ⟨b',off,rfl,hc⟩:=HROW.out x h1 h2
   have H3:=hide h3
   have hle:=HLE.out x
   clear h3
   by_cases hmm:m < 1
   ·by_cases hv:V x=0
    ·have hen:enc x (V x)=0:=by simp [enc,hv]
     rw [hen] at hc
     have hex:=HSP.out (1 - m) x (Or.inl hv)
     have hfin:=H3.out
     rw [hex] at hfin
     have HE:=hide (show RES=if m=0 then 0 else if T (i+1+(x - (i+1))) then (x - (i+1))+2 else 0 by rw [HBR.out,hfin]; rfl)
     rw [show i+1+(x - (i+1))=x by omega] at HE
     clear hfin hex HBR HST HSP HROW H3 hle hen
     by_cases hm0:m=0
     ·subst hm0
      clear HT
      go_wp2
      go_ret
      exact ⟨ret0 (b:=enc i RES) (by rw [HE.out]; simp [enc]),HR.out⟩
     ·exact absurd (by omega) hm0
    ·have hen:enc x (V x)=x+V x:=by simp [enc,hv]
     have hpos:(0:Int) < ((x+V x:Nat):Int):=by omega
     rw [hen] at hc
     have hst:=HST.out (1 - m - 1) x hv
     have H4:=hide (show CH 1 (i+1)=(m+1+(CH (1 - (m+1)) (x+V x)).1,(x+V x - (i+1))+(CH (1 - (m+1)) (x+V x)).2) by
      rw [H3.out,show 1 - m=1 - m - 1+1 by omega,hst,show 1 - m - 1=1 - (m+1) by omega]
      simp only [Prod.mk.injEq]
      omega)
     clear hst H3 HBR HST HSP HROW hen
     generalize hX:x+V x=x2 at *
     have hx2:x2≤L:=by omega
     have hx3:i+1≤x2:=by omega
     clear hX hle
     go_wp2
     go_roundg (1 - (m+1))
     case rel=>exact ⟨m+1,x2,by omega,rfl,by go_num,hx3,hx2,H4.out,rfl⟩
     case measure=>omega
   ·have hmm2:m=1:=by omega
    subst hmm2
    have hex:=HSP.out (1 - 1) x (Or.inr (by omega))
    have hfin:=H3.out
    rw [hex] at hfin
    have HE:=hide (show RES=if 1=0 then 0 else if T (i+1+(x - (i+1))) then (x - (i+1))+2 else 0 by rw [HBR.out,hfin]; rfl)
    rw [show i+1+(x - (i+1))=x by omega] at HE
    clear hfin hex HBR HST HSP HROW H3 hle
    have HC:=hide (HT.out x (by omega))
    clear HT
    cases hTx:T x with
    | true =>
     rw [hTx] at HC
     go_wp2_with fail
     refine HC.out.mono ?_
     rintro e w2 ⟨rfl,rfl⟩
     clear HC
     go_wp2
     go_ret
     exact ⟨retI (by rw [HE.out,if_neg (by omega),if_pos hTx]; simp [enc]; omega),HR.out⟩
    | false =>
     rw [hTx] at HC
     go_wp2_with fail
     refine HC.out.mono ?_
     rintro e w2 ⟨rfl,rfl⟩
     clear HC
     go_wp2
     go_ret
     exact ⟨ret0 (b:=enc i RES) (by rw [HE.out,hTx]; simp [enc]),HR.out⟩
end Go.Proofs.Ytnaejfoighmfeaa
namespace Go.Proofs.Ytnaejfoighmfeaa
open Go.ChangeShapes Go.WideShapes Go.ChangeAt Go.RowKit
set_option maxRecDepth 100000
set_option linter.unusedVariables false
set_option linter.unusedSimpArgs false
set_option maxHeartbeats 8000000 in
theorem stem64 {n:Nat} {w0 w:World} {p:Nat} {g:Gr} {R:Raw} {ws:List Wo} {A:Ra} {t a b:Nat} (hS:Sp n w0 w p g R ws A t a b) (q:Bool) (i:Nat) (hi:i≤ws.length) (hlo:(if q then b else a)≤i+1) :
  Calls Try.prog 64 #[.pointer (some ⟨p,0,none⟩),.int .i64 (i:Int),.bool q] w fun e w'=>e=.returned (.int .i64 (enc i (stemR g q (ws.drop i)):Nat))∧Below w.heap.size w w':=by
 have hp2:=hS.sn.hp2
 have hL:=hS.sn.words
 have H1:=hide (sign61W hS.sn i (by omega) hS.sn.sv R.cv)
 have H2:=hide (sign61W hS.sn i (by omega) hS.sn.sb R.cb)
 have H3:=hide (fun W (hW:Below w.heap.size w W)=>(text81 (hS.sn.next hW) i (by omega)).mono fun e w' (h:_∧_)=>(⟨h.1,hW.trans (h.2.mono hW.size)⟩:_∧Below w.heap.size w w'))
 have H4:=hide (fun W (hW:Below w.heap.size w W)=>is69W (hS.sn.next hW) i 5 ro (by omega) W (Below.refl _ _))
 have H5:=hide (fun (h:i < ws.length) W (hW:Below w.heap.size w W)=>(brack82 (hS.next hW) q i h hlo).mono fun e w' (h:_∧_)=>(⟨h.1,hW.trans (h.2.mono hW.size)⟩:_∧Below w.heap.size w w'))
 have HST:=hide (stemR_eq g q (ws.drop i))
 have hro:ro=⟨#[40]⟩:=rfl
 rw [hro] at H4
 have c0:=hS.sn.c0
 have c2:=hS.sn.c2
 have c15:=hS.c15
 have HCL:=hide (show i < ws.length→(wAt ws i).kind=5→∃ b off,A.xc=some ⟨b,off,none⟩∧∀ W,Below w.heap.size w W→W.cell? ⟨b,off+i,none⟩=some (.int .i64 (enc i (clo 0 (ws.drop i)):Nat)) from fun h hk=>by
  obtain ⟨b,off,ha,hb,-,hc⟩:=hS.hc i (Nat.zero_le _) h
  refine ⟨b,off,ha,fun W hW=>(hW.cell (p:=⟨b,off+i,none⟩) hb).trans ?_⟩
  rw [hc]; simp [cloV,hk])
 have KS:Hid (∀ W,Below w.heap.size w W→Below w.heap.size w W∧W.cell? ⟨p,0,none⟩=some (.slice R.av g.verbs.length R.cv)∧W.cell? ⟨p,2,none⟩=some (.slice R.ab g.behind.length R.cb)∧W.cell? ⟨p,15,none⟩=some (.slice A.xc ws.length A.kc)):=fun W h=>⟨h,(h.cell (p:=⟨p,0,none⟩) hp2).trans c0,(h.cell (p:=⟨p,2,none⟩) hp2).trans c2,(h.cell (p:=⟨p,15,none⟩) hp2).trans c15⟩
 have HD0:Hid (Below w.heap.size w w.drew):=(Below.refl _ _).drew
 have HLT:=hide (show isT 5 g.opn (ws.drop i)=true ∨ isT 5 ro (ws.drop i)=true→i < ws.length from fun h=>by
  rcases Nat.lt_or_ge i ws.length with h' | h'
  ·exact h'
  ·rw [drop_end (by omega)] at h; rcases h with h | h <;> cases h)
 have HK5:=hide (show isT 5 g.opn (ws.drop i)=true→(wAt ws i).kind=5 from fun h=>by
  have h':=HLT.out (Or.inl h)
  rw [drop_at h'] at h
  simp only [isT,Bool.and_eq_true,decide_eq_true_eq] at h
  exact h.1)
 clear hS c0 c2 c15 hp2
 unfold stemB at HST
 rw [hro] at HST HLT
 clear hro
 generalize signT g.verbs (ws.drop i)=T1 at *
 generalize signT g.behind (ws.drop i)=T2 at *
 generalize isT 5 g.opn (ws.drop i)=T3 at *
 generalize isT 5 ⟨#[40]⟩ (ws.drop i)=T4 at *
 generalize clo 0 (ws.drop i)=CL at *
 generalize brackR g (wholeR g q) (ws.drop i)=BR at *
 generalize stemR g q (ws.drop i)=RES at *
 generalize (wAt ws i).kind=KI at *
 generalize g.verbs.length=LV at *
 generalize g.behind.length=LB at *
 generalize ws.length=L at *
 generalize R.av=av at *
 generalize R.cv=cv at *
 generalize R.ab=ab at *
 generalize R.cb=cb at *
 generalize A.xc=xc at *
 generalize A.kc=kc at *
 obtain ⟨-,c0,c2,c15⟩:=KS.out w (Below.refl _ _)
 cases T1 with
 | true =>
  have hE:=hide (show RES=1 by rw [HST.out]; simp)
  clear HST H2 H3 H4 H5 HCL HLT HK5
  go_enter Try.func64,Try.ntmps64
  go_upto_region 1 with fail
  go_region_held3 (fun W=>Below w.heap.size w W∧W.cell? ⟨p,0,none⟩=some (.slice av LV cv)∧W.cell? ⟨p,2,none⟩=some (.slice ab LB cb)∧W.cell? ⟨p,15,none⟩=some (.slice xc L kc)) (first | with_reducible exact KS.out _ HD0.out | with_reducible exact KS.out _ (by with_reducible assumption)) (first | (go_at_call 61; refine (H1.out _ HD0.out).mono ?_; rintro e w6 ⟨rfl,hb6⟩))
  all_goals
   go_wp2
   go_ret
   exact ⟨retI (by rw [hE.out]; simp [enc]),by assumption⟩
 | false =>
  cases q with
  | true =>
   cases T2 with
   | true =>
    have hE:=hide (show RES=1 by rw [HST.out]; simp)
    clear HST H3 H4 H5 HCL HLT HK5
    go_enter Try.func64,Try.ntmps64
    go_upto_region 1 with fail
    go_region_held3 (fun W=>Below w.heap.size w W∧W.cell? ⟨p,0,none⟩=some (.slice av LV cv)∧W.cell? ⟨p,2,none⟩=some (.slice ab LB cb)∧W.cell? ⟨p,15,none⟩=some (.slice xc L kc)) (first | with_reducible exact KS.out _ HD0.out | with_reducible exact KS.out _ (by with_reducible assumption)) (first | (go_at_call 61; refine (H1.out _ HD0.out).mono ?_; rintro e w6 ⟨rfl,hb6⟩))
    have HD6:=hide hb6
    have HD7:=hide (show Below w.heap.size w w6.drew from hb6.drew)
    clear H1
    obtain ⟨-,d0,d2,d15⟩:=KS.out w6 hb6
    go_upto_region 2 with fail
    go_region_held3 (fun W=>Below w.heap.size w W∧W.cell? ⟨p,0,none⟩=some (.slice av LV cv)∧W.cell? ⟨p,2,none⟩=some (.slice ab LB cb)∧W.cell? ⟨p,15,none⟩=some (.slice xc L kc)) (first | with_reducible exact KS.out _ HD7.out | with_reducible exact KS.out _ (by with_reducible assumption)) (first | (go_at_call 61; refine (H2.out _ HD7.out).mono ?_; rintro e w7 ⟨rfl,hb7⟩))
    have HBX:=hide hb7
    go_wp2
    go_ret
    exact ⟨retI (by rw [hE.out]; simp [enc]),HBX.out⟩
   | false =>
    cases T3 with
    | true =>
     have hlt:=HLT.out (Or.inl rfl)
     obtain ⟨b',off,rfl,hcl⟩:=HCL.out hlt (HK5.out rfl)
     have HCL2:=hide hcl
     have hE:=hide (show RES=CL by rw [HST.out]; simp)
     clear HST H4 H5 HLT HK5 HCL hcl
     go_enter Try.func64,Try.ntmps64
     go_upto_region 1 with fail
     go_region_held3 (fun W=>Below w.heap.size w W∧W.cell? ⟨p,0,none⟩=some (.slice av LV cv)∧W.cell? ⟨p,2,none⟩=some (.slice ab LB cb)∧W.cell? ⟨p,15,none⟩=some (.slice (some ⟨b',off,none⟩) L kc)) (first | with_reducible exact KS.out _ HD0.out | with_reducible exact KS.out _ (by with_reducible assumption)) (first | (go_at_call 61; refine (H1.out _ HD0.out).mono ?_; rintro e w6 ⟨rfl,hb6⟩))
     have HD6:=hide hb6
     have HD7:=hide (show Below w.heap.size w w6.drew from hb6.drew)
     clear H1
     obtain ⟨-,d0,d2,d15⟩:=KS.out w6 hb6
     go_upto_region 2 with fail
     go_region_held3 (fun W=>Below w.heap.size w W∧W.cell? ⟨p,0,none⟩=some (.slice av LV cv)∧W.cell? ⟨p,2,none⟩=some (.slice ab LB cb)∧W.cell? ⟨p,15,none⟩=some (.slice (some ⟨b',off,none⟩) L kc)) (first | with_reducible exact KS.out _ HD7.out | with_reducible exact KS.out _ (by with_reducible assumption)) (first | (go_at_call 61; refine (H2.out _ HD7.out).mono ?_; rintro e w7 ⟨rfl,hb7⟩))
     have HBX:=hide hb7
     go_wp2_with fail
     refine (H3.out _ HBX.out).mono ?_
     rintro e w8 ⟨rfl,hb8⟩
     have e9:=HCL2.out _ hb8
     obtain ⟨-,f0,f2,f15⟩:=KS.out _ hb8
     go_wp2
     go_ret
     exact ⟨ret0 (by rw [hE.out]),by assumption⟩
    | false =>
     cases T4 with
     | true =>
      have hlt:=HLT.out (Or.inr rfl)
      have hE:=hide (show RES=BR by rw [HST.out]; simp)
      have H6:=hide (H5.out hlt)
      clear HST HLT HK5 HCL H5
      go_enter Try.func64,Try.ntmps64
      go_upto_region 1 with fail
      go_region_held3 (fun W=>Below w.heap.size w W∧W.cell? ⟨p,0,none⟩=some (.slice av LV cv)∧W.cell? ⟨p,2,none⟩=some (.slice ab LB cb)∧W.cell? ⟨p,15,none⟩=some (.slice xc L kc)) (first | with_reducible exact KS.out _ HD0.out | with_reducible exact KS.out _ (by with_reducible assumption)) (first | (go_at_call 61; refine (H1.out _ HD0.out).mono ?_; rintro e w6 ⟨rfl,hb6⟩))
      have HD6:=hide hb6
      have HD7:=hide (show Below w.heap.size w w6.drew from hb6.drew)
      clear H1
      obtain ⟨-,d0,d2,d15⟩:=KS.out w6 hb6
      go_upto_region 2 with fail
      go_region_held3 (fun W=>Below w.heap.size w W∧W.cell? ⟨p,0,none⟩=some (.slice av LV cv)∧W.cell? ⟨p,2,none⟩=some (.slice ab LB cb)∧W.cell? ⟨p,15,none⟩=some (.slice xc L kc)) (first | with_reducible exact KS.out _ HD7.out | with_reducible exact KS.out _ (by with_reducible assumption)) (first | (go_at_call 61; refine (H2.out _ HD7.out).mono ?_; rintro e w7 ⟨rfl,hb7⟩))
      have HBX:=hide hb7
      go_wp2_with fail
      refine (H3.out _ HBX.out).mono ?_
      rintro e w8 ⟨rfl,hb8⟩
      clear H3
      have HB8:=hide hb8
      go_wp2_with fail
      refine (H4.out _ HB8.out).mono ?_
      rintro e w9 ⟨rfl,hb9⟩
      clear H4
      have HB9:=hide (HB8.out.trans (hb9.mono HB8.out.size))
      go_wp2_with fail
      refine (H6.out _ HB9.out).mono ?_
      rintro e w10 ⟨rfl,hb10⟩
      clear H6
      go_wp2
      go_ret
      exact ⟨ret0 (by rw [hE.out]),by assumption⟩
     | false =>
      have hE:=hide (show RES=0 by rw [HST.out]; simp)
      clear HST HLT HK5 HCL H5
      go_enter Try.func64,Try.ntmps64
      go_upto_region 1 with fail
      go_region_held3 (fun W=>Below w.heap.size w W∧W.cell? ⟨p,0,none⟩=some (.slice av LV cv)∧W.cell? ⟨p,2,none⟩=some (.slice ab LB cb)∧W.cell? ⟨p,15,none⟩=some (.slice xc L kc)) (first | with_reducible exact KS.out _ HD0.out | with_reducible exact KS.out _ (by with_reducible assumption)) (first | (go_at_call 61; refine (H1.out _ HD0.out).mono ?_; rintro e w6 ⟨rfl,hb6⟩))
      have HD6:=hide hb6
      have HD7:=hide (show Below w.heap.size w w6.drew from hb6.drew)
      clear H1
      obtain ⟨-,d0,d2,d15⟩:=KS.out w6 hb6
      go_upto_region 2 with fail
      go_region_held3 (fun W=>Below w.heap.size w W∧W.cell? ⟨p,0,none⟩=some (.slice av LV cv)∧W.cell? ⟨p,2,none⟩=some (.slice ab LB cb)∧W.cell? ⟨p,15,none⟩=some (.slice xc L kc)) (first | with_reducible exact KS.out _ HD7.out | with_reducible exact KS.out _ (by with_reducible assumption)) (first | (go_at_call 61; refine (H2.out _ HD7.out).mono ?_; rintro e w7 ⟨rfl,hb7⟩))
      have HBX:=hide hb7
      go_wp2_with fail
      refine (H3.out _ HBX.out).mono ?_
      rintro e w8 ⟨rfl,hb8⟩
      clear H3
      have HB8:=hide hb8
      go_wp2_with fail
      refine (H4.out _ HB8.out).mono ?_
      rintro e w9 ⟨rfl,hb9⟩
      clear H4
      have HB9:=hide (HB8.out.trans (hb9.mono HB8.out.size))
      go_wp2
      go_ret
      exact ⟨retI (by rw [hE.out]; simp [enc]),HB9.out⟩
  | false =>
   cases T3 with
   | true =>
    have hlt:=HLT.out (Or.inl rfl)
    obtain ⟨b',off,rfl,hcl⟩:=HCL.out hlt (HK5.out rfl)
    have HCL2:=hide hcl
    have hE:=hide (show RES=CL by rw [HST.out]; simp)
    clear HST H4 H5 HLT HK5 HCL hcl
    go_enter Try.func64,Try.ntmps64
    go_upto_region 1 with fail
    go_region_held3 (fun W=>Below w.heap.size w W∧W.cell? ⟨p,0,none⟩=some (.slice av LV cv)∧W.cell? ⟨p,2,none⟩=some (.slice ab LB cb)∧W.cell? ⟨p,15,none⟩=some (.slice (some ⟨b',off,none⟩) L kc)) (first | with_reducible exact KS.out _ HD0.out | with_reducible exact KS.out _ (by with_reducible assumption)) (first | (go_at_call 61; refine (H1.out _ HD0.out).mono ?_; rintro e w6 ⟨rfl,hb6⟩))
    clear H1 H2
    have HD6:=hide hb6
    have HD7:=hide (show Below w.heap.size w w6.drew from hb6.drew)
    obtain ⟨-,d0,d2,d15⟩:=KS.out w6 hb6
    go_upto_region 2 with fail
    go_quiet (fail)
    have HBX:=hide (show Below w.heap.size w _ from drewN_below HD6.out nq)
    go_wp2_with fail
    refine (H3.out _ HBX.out).mono ?_
    rintro e w8 ⟨rfl,hb8⟩
    have e9:=HCL2.out _ hb8
    obtain ⟨-,f0,f2,f15⟩:=KS.out _ hb8
    go_wp2
    go_ret
    exact ⟨ret0 (by rw [hE.out]),by assumption⟩
   | false =>
    cases T4 with
    | true =>
     have hlt:=HLT.out (Or.inr rfl)
     have hE:=hide (show RES=BR by rw [HST.out]; simp)
     have H6:=hide (H5.out hlt)
     clear HST HLT HK5 HCL H5
     go_enter Try.func64,Try.ntmps64
     go_upto_region 1 with fail
     go_region_held3 (fun W=>Below w.heap.size w W∧W.cell? ⟨p,0,none⟩=some (.slice av LV cv)∧W.cell? ⟨p,2,none⟩=some (.slice ab LB cb)∧W.cell? ⟨p,15,none⟩=some (.slice xc L kc)) (first | with_reducible exact KS.out _ HD0.out | with_reducible exact KS.out _ (by with_reducible assumption)) (first | (go_at_call 61; refine (H1.out _ HD0.out).mono ?_; rintro e w6 ⟨rfl,hb6⟩))
     clear H1 H2
     have HD6:=hide hb6
     have HD7:=hide (show Below w.heap.size w w6.drew from hb6.drew)
     obtain ⟨-,d0,d2,d15⟩:=KS.out w6 hb6
     go_upto_region 2 with fail
     go_quiet (fail)
     have HBX:=hide (show Below w.heap.size w _ from drewN_below HD6.out nq)
     go_wp2_with fail
     refine (H3.out _ HBX.out).mono ?_
     rintro e w8 ⟨rfl,hb8⟩
     clear H3
     have HB8:=hide hb8
     go_wp2_with fail
     refine (H4.out _ HB8.out).mono ?_
     rintro e w9 ⟨rfl,hb9⟩
     clear H4
     have HB9:=hide (HB8.out.trans (hb9.mono HB8.out.size))
     go_wp2_with fail
     refine (H6.out _ HB9.out).mono ?_
     rintro e w10 ⟨rfl,hb10⟩
     clear H6
     go_wp2
     go_ret
     exact ⟨ret0 (by rw [hE.out]),by assumption⟩
    | false =>
     have hE:=hide (show RES=0 by rw [HST.out]; simp)
     clear HST HLT HK5 HCL H5
     go_enter Try.func64,Try.ntmps64
     go_upto_region 1 with fail
     go_region_held3 (fun W=>Below w.heap.size w W∧W.cell? ⟨p,0,none⟩=some (.slice av LV cv)∧W.cell? ⟨p,2,none⟩=some (.slice ab LB cb)∧W.cell? ⟨p,15,none⟩=some (.slice xc L kc)) (first | with_reducible exact KS.out _ HD0.out | with_reducible exact KS.out _ (by with_reducible assumption)) (first | (go_at_call 61; refine (H1.out _ HD0.out).mono ?_; rintro e w6 ⟨rfl,hb6⟩))
     clear H1 H2
     have HD6:=hide hb6
     have HD7:=hide (show Below w.heap.size w w6.drew from hb6.drew)
     obtain ⟨-,d0,d2,d15⟩:=KS.out w6 hb6
     go_upto_region 2 with fail
     go_quiet (fail)
     have HBX:=hide (show Below w.heap.size w _ from drewN_below HD6.out nq)
     go_wp2_with fail
     refine (H3.out _ HBX.out).mono ?_
     rintro e w8 ⟨rfl,hb8⟩
     clear H3
     have HB8:=hide hb8
     go_wp2_with fail
     refine (H4.out _ HB8.out).mono ?_
     rintro e w9 ⟨rfl,hb9⟩
     clear H4
     have HB9:=hide (HB8.out.trans (hb9.mono HB8.out.size))
     go_wp2
     go_ret
     exact ⟨retI (by rw [hE.out]; simp [enc]),HB9.out⟩
end Go.Proofs.Ytnaejfoighmfeaa
namespace Go.Proofs.Ytnaejfoighmfeaa
open Go.ChangeShapes Go.WideShapes Go.ChangeAt Go.RowKit
set_option maxRecDepth 100000
set_option linter.unusedVariables false
set_option linter.unusedSimpArgs false
set_option maxHeartbeats 8000000 in
theorem outer63 {n:Nat} {w0 w:World} {p:Nat} {g:Gr} {R:Raw} {ws:List Wo} {A:Ra} {t a b:Nat} (hS:Sp n w0 w p g R ws A t a b) (i:Nat) (hi:i≤ws.length) (hlo:a≤i+2) :
  Calls Try.prog 63 #[.pointer (some ⟨p,0,none⟩),.int .i64 (i:Int)] w fun e w'=>e=.returned (.bool (outR g (ws.drop i)))∧Below w.heap.size w w':=by
 have hp2:=hS.sn.hp2
 have hL:=hS.sn.words
 have c3:=hS.sn.c3
 have KS:Hid (∀ W,Below w.heap.size w W→Below w.heap.size w W∧W.cell? ⟨p,3,none⟩=some (.string g.outer)):=fun W h=>⟨h,(h.cell (p:=⟨p,3,none⟩) hp2).trans c3⟩
 have HD0:Hid (Below w.heap.size w w.drew):=(Below.refl _ _).drew
 cases hT:isT 4 g.outer (ws.drop i) with
 | true =>
  have hlt:i < ws.length:=by
   rcases Nat.lt_or_ge i ws.length with h | h
   ·exact h
   ·rw [drop_end (by omega)] at hT; cases hT
  have H1:=hide (is69W hS.sn i 4 g.outer (by omega))
  rw [hT] at H1
  have H2:=hide (fun W (hW:Below w.heap.size w W)=>(stem64 (hS.next hW) false (i+1) (by omega) (by simpa using hlo)).mono fun e w' (h:_∧_)=>(⟨h.1,hW.trans (h.2.mono hW.size)⟩:_∧Below w.heap.size w w'))
  have hO:=hide (show outR g (ws.drop i)=decide (0 < stemR g false (ws.drop (i+1))) by unfold outR; rw [hT,List.tail_drop]; simp)
  have hi1:IntKind.i64.wrap ((i:Int)+1)=((i+1:Nat):Int):=(IntWalk.i64_in _ ⟨by omega,by omega⟩).trans (by simp)
  clear hS hT
  generalize stemR g false (ws.drop (i+1))=ST at *
  generalize outR g (ws.drop i)=OU at *
  generalize g.outer=GO at *
  generalize hj:i+1=j at *
  have hen:enc j ST=(if ST=0 then 0 else j+ST):=rfl
  have HEN:=hide hen
  generalize enc j ST=EN at *
  clear hj hen
  go_enter Try.func63,Try.ntmps63
  go_upto_region 1 with fail
  go_region_held3 (fun W=>Below w.heap.size w W∧W.cell? ⟨p,3,none⟩=some (.string GO)) (first | with_reducible exact KS.out _ HD0.out | with_reducible exact KS.out _ (by with_reducible assumption)) (first | (go_at_call 69; refine (H1.out _ HD0.out).mono ?_; rintro e w6 ⟨rfl,hb6⟩) | (go_at_call 64; refine (H2.out _ (by with_reducible assumption)).mono ?_; rintro e w7 ⟨rfl,hb7⟩))
  all_goals
   go_wp2
   go_ret
   exact ⟨retB (by rw [hO.out]; have:=HEN.out; by_cases h0:ST=0 <;> simp [h0] at this ⊢ <;> omega),by assumption⟩
 | false =>
  have H1:=hide (fun k=>is69 (hS.sn.next (drewN_below (Below.refl w.heap.size w) k)) i 4 g.outer (by omega))
  rw [hT] at H1
  have hO:=hide (show outR g (ws.drop i)=false by unfold outR; rw [hT]; simp)
  have HR:Hid (∀ k,Below w.heap.size w (w.drewN k)):=fun k=>drewN_below (Below.refl w.heap.size w) k
  have c3n:=fun k=>(KS.out _ (HR.out k)).2
  clear hS hT
  generalize outR g (ws.drop i)=OU at *
  generalize g.outer=GO at *
  go_enter Try.func63,Try.ntmps63
  go_upto_region 1 with fail
  go_quiet ((go_at_call 69; first | exact Calls.quiet_of_same (H1.out 0) | exact Calls.quiet_of_same (H1.out _)))
  go_wp2
  go_ret
  exact ⟨retB hO.out.symm,by first | exact HR.out _ | exact Below.refl _ _⟩
set_option maxHeartbeats 8000000 in
theorem tail31 {n:Nat} {w0 w:World} {p:Nat} {g:Gr} {R:Raw} {ws:List Wo} {A:Ra} {t a b:Nat} (hS:Sp n w0 w p g R ws A t a b) (i:Nat) (hi:i≤ws.length) (hlo:t≤i+1) :
  Calls Try.prog 31 #[.pointer (some ⟨p,0,none⟩),.int .i64 (i:Int)] w fun e w'=>e=.returned (.int .i64 (tailV g ws i:Nat))∧Below w.heap.size w w':=by
 have hp2:=hS.sn.hp2
 have hL:=hS.sn.words
 have c1:=hS.sn.c1
 have c16:=hS.c16
 have KS:Hid (∀ W,Below w.heap.size w W→Below w.heap.size w W∧W.cell? ⟨p,1,none⟩=some (.slice R.aa g.adverbs.length R.ca)∧W.cell? ⟨p,16,none⟩=some (.slice A.xt (ws.length+1) A.kt)):=fun W h=>⟨h,(h.cell (p:=⟨p,1,none⟩) hp2).trans c1,(h.cell (p:=⟨p,16,none⟩) hp2).trans c16⟩
 have HD0:Hid (Below w.heap.size w w.drew):=(Below.refl _ _).drew
 have H1:=hide (sign61W hS.sn i (by omega) hS.sn.sa R.ca)
 have H2:=hide (fun W (hW:Below w.heap.size w W)=>(power62 (hS.sn.next hW) i (by omega)).mono fun e w' (h:_∧_)=>(⟨h.1,hW.trans (h.2.mono hW.size)⟩:_∧Below w.heap.size w w'))
 have HROW:=hide (show ∀ j,i+1≤j→j≤ws.length→∃ b off,A.xt=some ⟨b,off,none⟩∧∀ W,Below w.heap.size w W→W.cell? ⟨b,off+j,none⟩=some (.int .i64 (tailV g ws j:Nat)) from fun j h1 h2=>by
  obtain ⟨b,off,ha,hb,-,hc⟩:=hS.ht j (by omega) (by omega)
  exact ⟨b,off,ha,fun W hW=>(hW.cell (p:=⟨b,off+j,none⟩) hb).trans hc⟩)
 clear hS c1 c16 hp2
 cases hT1:signT g.adverbs (ws.drop i) with
 | true =>
  rw [hT1] at H1
  have hlt:i < ws.length:=by
   rcases Nat.lt_or_ge i ws.length with h | h
   ·exact h
   ·rw [drop_end (by omega)] at hT1; cases hT1
  have hE:=hide (show tailV g ws i=tailV g ws (i+1) by
   unfold tailV
   rw [drop_at hlt] at hT1 ⊢
   have hs:signT g.adverbs [wAt ws i]=true:=by simpa [signT,isT] using hT1
   by_cases h2:i+1 < ws.length
   ·rw [drop_at h2]
    simp only [tailR,hs,if_true]
    omega
   ·rw [drop_end h2]
    simp [tailR,hs])
  obtain ⟨b',off,hx,hc⟩:=HROW.out (i+1) (Nat.le_refl _) (by omega)
  rw [hx] at KS
  have HC:=hide hc
  clear hc HROW H2 hT1
  generalize tailV g ws (i+1)=TV at *
  generalize tailV g ws i=RES at *
  generalize g.adverbs.length=LA at *
  generalize R.aa=aa at *
  generalize R.ca=ca at *
  generalize A.kt=kt at *
  generalize ws.length=L at *
  obtain ⟨-,c1,c16⟩:=KS.out w (Below.refl _ _)
  go_enter Try.func31,Try.ntmps31
  go_upto_region 1 with fail
  go_region_held3 (fun W=>Below w.heap.size w W∧W.cell? ⟨p,1,none⟩=some (.slice aa LA ca)∧W.cell? ⟨p,16,none⟩=some (.slice (some ⟨b',off,none⟩) (L+1) kt)) (first | with_reducible exact KS.out _ HD0.out | with_reducible exact KS.out _ (by with_reducible assumption)) (first | (go_at_call 61; refine (H1.out _ HD0.out).mono ?_; rintro e w6 ⟨rfl,hb6⟩))
  have e6:=HC.out _ hb6
  have HB6:=hide hb6
  obtain ⟨-,d1,d16⟩:=KS.out _ hb6
  go_wp2
  go_ret
  exact ⟨ret0 hE.out.symm,HB6.out⟩
 | false =>
  rw [hT1] at H1
  cases hT2:powT g (ws.drop i) with
  | true =>
   rw [hT2] at H2
   have hlt:i+1 < ws.length:=by
    rcases Nat.lt_or_ge (i+1) ws.length with h | h
    ·exact h
    ·by_cases h1:i < ws.length
     ·rw [drop_at h1,drop_end (by omega)] at hT2; cases hT2
     ·rw [drop_end h1] at hT2; cases hT2
   have hE:=hide (show tailV g ws i=tailV g ws (i+2) by
    unfold tailV
    rw [drop_at (i:=i) (by omega),drop_at hlt] at hT1 hT2 ⊢
    have hs:signT g.adverbs [wAt ws i]=false:=by simpa [signT,isT] using hT1
    simp only [tailR,hs,hT2,if_true]
    simp only [Bool.false_eq_true,if_false]
    rw [show i+1+1=i+2 from rfl]
    omega)
   obtain ⟨b',off,hx,hc⟩:=HROW.out (i+2) (by omega) (by omega)
   rw [hx] at KS
   have HC:=hide hc
   clear hc HROW hT1 hT2
   generalize tailV g ws (i+2)=TV at *
   generalize tailV g ws i=RES at *
   generalize g.adverbs.length=LA at *
   generalize R.aa=aa at *
   generalize R.ca=ca at *
   generalize A.kt=kt at *
   generalize ws.length=L at *
   obtain ⟨-,c1,c16⟩:=KS.out w (Below.refl _ _)
   go_enter Try.func31,Try.ntmps31
   go_upto_region 1 with fail
   go_region_held3 (fun W=>Below w.heap.size w W∧W.cell? ⟨p,1,none⟩=some (.slice aa LA ca)∧W.cell? ⟨p,16,none⟩=some (.slice (some ⟨b',off,none⟩) (L+1) kt)) (first | with_reducible exact KS.out _ HD0.out | with_reducible exact KS.out _ (by with_reducible assumption)) (first | (go_at_call 61; refine (H1.out _ HD0.out).mono ?_; rintro e w6 ⟨rfl,hb6⟩))
   have HB6:=hide hb6
   go_wp2_with fail
   refine (H2.out _ HB6.out).mono ?_
   rintro e w7 ⟨rfl,hb7⟩
   have e6:=HC.out _ hb7
   have HB7:=hide hb7
   obtain ⟨-,d1,d16⟩:=KS.out _ hb7
   go_wp2
   go_ret
   exact ⟨ret0 hE.out.symm,HB7.out⟩
  | false =>
   rw [hT2] at H2
   have hE:=hide (show tailV g ws i=i by
    unfold tailV
    by_cases h1:i < ws.length
    ·rw [drop_at h1] at hT1 hT2 ⊢
     have hs:signT g.adverbs [wAt ws i]=false:=by simpa [signT,isT] using hT1
     by_cases h2:i+1 < ws.length
     ·rw [drop_at h2] at hT2 ⊢
      simp [tailR,hs,hT2]
     ·rw [drop_end h2]
      simp [tailR,hs]
    ·rw [drop_end h1]; rfl)
   clear HROW hT1 hT2
   generalize tailV g ws i=RES at *
   generalize g.adverbs.length=LA at *
   generalize R.aa=aa at *
   generalize R.ca=ca at *
   generalize A.kt=kt at *
   generalize A.xt=xt at *
   generalize ws.length=L at *
   obtain ⟨-,c1,c16⟩:=KS.out w (Below.refl _ _)
   go_enter Try.func31,Try.ntmps31
   go_upto_region 1 with fail
   go_region_held3 (fun W=>Below w.heap.size w W∧W.cell? ⟨p,1,none⟩=some (.slice aa LA ca)∧W.cell? ⟨p,16,none⟩=some (.slice xt (L+1) kt)) (first | with_reducible exact KS.out _ HD0.out | with_reducible exact KS.out _ (by with_reducible assumption)) (first | (go_at_call 61; refine (H1.out _ HD0.out).mono ?_; rintro e w6 ⟨rfl,hb6⟩))
   have HB6:=hide hb6
   go_wp2_with fail
   refine (H2.out _ HB6.out).mono ?_
   rintro e w7 ⟨rfl,hb7⟩
   have HB7:=hide hb7
   go_wp2
   go_ret
   exact ⟨ret0 hE.out.symm,HB7.out⟩
end Go.Proofs.Ytnaejfoighmfeaa
namespace Go.Proofs.Ytnaejfoighmfeaa
open Go.ChangeShapes Go.WideShapes Go.ChangeAt Go.RowKit
set_option maxRecDepth 100000
set_option linter.unusedVariables false
set_option linter.unusedSimpArgs false
set_option maxHeartbeats 8000000 in
theorem whole32 {n:Nat} {w0 w:World} {p:Nat} {g:Gr} {R:Raw} {ws:List Wo} {A:Ra} {t a b:Nat} (hS:Sp n w0 w p g R ws A t a b) (q:Bool) (i:Nat) (hi:i≤ws.length) (hlo:(if q then b else a)≤i+1) (hla:a≤i+2) (hlt:t≤i+1) :
  Calls Try.prog 32 #[.pointer (some ⟨p,0,none⟩),.int .i64 (i:Int),.bool q] w fun e w'=>e=.returned (.int .i64 (wholeV g q ws i:Nat))∧Below w.heap.size w w':=by
 have hp2:=hS.sn.hp2
 have hL:=hS.sn.words
 have c16:=hS.c16
 have KS:Hid (∀ W,Below w.heap.size w W→Below w.heap.size w W∧W.cell? ⟨p,16,none⟩=some (.slice A.xt (ws.length+1) A.kt)):=fun W h=>⟨h,(h.cell (p:=⟨p,16,none⟩) hp2).trans c16⟩
 have H1:=hide (outer63 hS i hi hla)
 have HROW:=hide (show ∀ j,i+1≤j→j≤ws.length→∃ b off,A.xt=some ⟨b,off,none⟩∧∀ W,Below w.heap.size w W→W.cell? ⟨b,off+j,none⟩=some (.int .i64 (tailV g ws j:Nat)) from fun j h1 h2=>by
  obtain ⟨b,off,ha,hb,-,hc⟩:=hS.ht j (by omega) (by omega)
  exact ⟨b,off,ha,fun W hW=>(hW.cell (p:=⟨b,off+j,none⟩) hb).trans hc⟩)
 cases hT:outR g (ws.drop i) with
 | true =>
  rw [hT] at H1
  have hT':=hT
  simp only [outR,Bool.and_eq_true,decide_eq_true_eq] at hT'
  have hil:i < ws.length:=by
   rcases Nat.lt_or_ge i ws.length with h | h
   ·exact h
   ·rw [drop_end (by omega)] at hT'; exact absurd hT'.1 (by simp [isT])
  have hst:=hT'.2
  rw [List.tail_drop] at hst
  have hsl:=stemR_le g false (ws.drop (i+1))
  rw [List.length_drop] at hsl
  have hE:=hide (show wholeV g q ws i=tailV g ws (i+1+stemR g false (ws.drop (i+1))) by
   unfold wholeV wholeR wholeS tailV
   have:(isT 4 g.outer (ws.drop i) && decide (0 < stemR g false (ws.drop i).tail))=true:=hT
   rw [if_pos this,List.tail_drop,List.drop_drop]
   unfold enc
   rw [if_neg (by omega),show i+(stemR g false (ws.drop (i+1))+1)=i+1+stemR g false (ws.drop (i+1)) by omega]
   omega)
  have H2:=hide (fun W (hW:Below w.heap.size w W)=>(stem64 (hS.next hW) false (i+1) (by omega) (by simpa using hla)).mono fun e w' (h:_∧_)=>(⟨h.1,hW.trans (h.2.mono hW.size)⟩:_∧Below w.heap.size w w'))
  clear hS hT hT'
  have hen:enc (i+1) (stemR g false (ws.drop (i+1)))=i+1+stemR g false (ws.drop (i+1)):=by unfold enc; rw [if_neg (by omega)]
  rw [hen] at H2
  obtain ⟨b',off,hx,hc⟩:=HROW.out (i+1+stemR g false (ws.drop (i+1))) (by omega) (by omega)
  rw [hx] at KS
  have HC:=hide hc
  clear hc HROW hen c16 hp2
  have hi1:IntKind.i64.wrap ((i:Int)+1)=((i+1:Nat):Int):=(IntWalk.i64_in _ ⟨by omega,by omega⟩).trans (by simp)
  generalize wholeV g q ws i=RES at *
  generalize hJ:i+1+stemR g false (ws.drop (i+1))=J at *
  have hJ2:J < ws.length+1:=by omega
  generalize hj:i+1=j at *
  clear hJ hj hsl hst
  generalize tailV g ws J=TV at *
  generalize A.kt=kt at *
  have hJ4:¬ ((J:Int) < 0):=by omega
  generalize ws.length+1=M at *
  go_enter Try.func32,Try.ntmps32
  go_wp2_with fail
  refine H1.out.mono ?_
  rintro e w1 ⟨rfl,hb1⟩
  clear H1
  have HB1:=hide hb1
  have HD1:=hide (show Below w.heap.size w w1.drew from hb1.drew)
  obtain ⟨-,d16⟩:=KS.out _ hb1
  have KC:Hid (∀ W,Below w.heap.size w W→Below w.heap.size w W∧W.cell? ⟨p,16,none⟩=some (.slice (some ⟨b',off,none⟩) M kt)∧W.cell? ⟨b',off+J,none⟩=some (.int .i64 (TV:Nat))):=fun W h=>⟨h,(KS.out W h).2,HC.out W h⟩
  have e6:=HC.out _ hb1
  go_upto_region 2 with fail
  go_region_held3 (fun W=>Below w.heap.size w W∧W.cell? ⟨p,16,none⟩=some (.slice (some ⟨b',off,none⟩) M kt)∧W.cell? ⟨b',off+J,none⟩=some (.int .i64 (TV:Nat))) (first | with_reducible exact KC.out _ HD1.out | with_reducible exact KC.out _ (by with_reducible assumption)) (first | (go_at_call 64; refine (H2.out _ HD1.out).mono ?_; rintro e w6 ⟨rfl,hb6⟩))
  all_goals
   go_wp2
   go_ret
   exact ⟨ret0 hE.out.symm,by assumption⟩
 | false =>
  rw [hT] at H1
  have hsl:=stemR_le g q (ws.drop i)
  rw [List.length_drop] at hsl
  have H2:=hide (fun W (hW:Below w.heap.size w W)=>(stem64 (hS.next hW) q i hi hlo).mono fun e w' (h:_∧_)=>(⟨h.1,hW.trans (h.2.mono hW.size)⟩:_∧Below w.heap.size w w'))
  have hnot:¬ (isT 4 g.outer (ws.drop i) && decide (0 < stemR g false (ws.drop i).tail))=true:=by
   have:(isT 4 g.outer (ws.drop i) && decide (0 < stemR g false (ws.drop i).tail))=false:=hT
   rw [this]; simp
  by_cases h0:stemR g q (ws.drop i)=0
  ·have hE:=hide (show wholeV g q ws i=0 by
    unfold wholeV wholeR wholeS
    rw [if_neg hnot,if_pos h0]; rfl)
   have hen:enc i (stemR g q (ws.drop i))=0:=by simp [enc,h0]
   rw [hen] at H2
   clear hS hT hnot HROW h0 hen hsl KS c16
   generalize wholeV g q ws i=RES at *
   go_enter Try.func32,Try.ntmps32
   go_wp2_with fail
   refine H1.out.mono ?_
   rintro e w1 ⟨rfl,hb1⟩
   clear H1
   have HB1:=hide hb1
   go_wp2_with fail
   refine (H2.out _ HB1.out).mono ?_
   rintro e w2 ⟨rfl,hb2⟩
   have HB2:=hide hb2
   go_wp2
   go_ret
   exact ⟨retI (by rw [hE.out]; rfl),HB2.out⟩
  ·have hen:enc i (stemR g q (ws.drop i))=i+stemR g q (ws.drop i):=by simp [enc,h0]
   have hE:=hide (show wholeV g q ws i=tailV g ws (i+stemR g q (ws.drop i)) by
    unfold wholeV wholeR wholeS tailV
    rw [if_neg hnot,if_neg h0,List.drop_drop]
    unfold enc
    rw [if_neg (by omega)]
    omega)
   rw [hen] at H2
   obtain ⟨b',off,hx,hc⟩:=HROW.out (i+stemR g q (ws.drop i)) (by omega) (by omega)
   rw [hx] at KS
   have HC:=hide hc
   clear hc HROW hen hS hT hnot c16 hp2
   generalize wholeV g q ws i=RES at *
   generalize hJ:i+stemR g q (ws.drop i)=J at *
   have hJ2:J < ws.length+1:=by omega
   have hJ3:(0:Int) < (J:Int):=by omega
   clear hJ hsl h0
   generalize tailV g ws J=TV at *
   generalize A.kt=kt at *
   generalize ws.length=L at *
   go_enter Try.func32,Try.ntmps32
   go_wp2_with fail
   refine H1.out.mono ?_
   rintro e w1 ⟨rfl,hb1⟩
   clear H1
   have HB1:=hide hb1
   go_wp2_with fail
   refine (H2.out _ HB1.out).mono ?_
   rintro e w2 ⟨rfl,hb2⟩
   have HB2:=hide hb2
   obtain ⟨-,d16⟩:=KS.out _ hb2
   have e6:=HC.out _ hb2
   go_wp2
   go_ret
   exact ⟨ret0 hE.out.symm,HB2.out⟩
end Go.Proofs.Ytnaejfoighmfeaa
namespace Go.Proofs.Ytnaejfoighmfeaa
open Go.ChangeShapes Go.WideShapes Go.ChangeAt Go.RowKit
theorem cell_apart {w:World} {p q:Addr} {v:Value} (h:p.block ≠ q.block) (x:Value) (hc:w.cell? p=some v):(w.setCell q x).cell? p=some v:=by
 rw [World.cell?_of_block (w:=w) (Below.heap_setCell w q x p.block h)]
 exact hc
end Go.Proofs.Ytnaejfoighmfeaa
namespace Go.Proofs.Ytnaejfoighmfeaa
open Go.ChangeShapes Go.WideShapes Go.ChangeAt Go.RowKit
set_option linter.unusedVariables false
theorem row_nil (lo:Nat) (w:World) (a:Option Addr):Row lo w a []:=⟨by simp,Or.inl rfl⟩
theorem row_new (w:World) (zs:List Int) (e:TypeId) (m:Nat × Nat) (hz:zs.length≤140737488355328):Row w.heap.size (w.alloc (.cells (zs.map (Value.int .i64)).toArray e m)) (some ⟨w.heap.size,0,none⟩) zs:=by
 refine ⟨hz,Or.inr ⟨_,_,rfl,Nat.le_refl _,by simp,?_⟩⟩
 intro i hi
 refine cell_new w _ e m (0+i) _ ?_
 simp [List.getElem?_eq_getElem hi]
theorem atom_cells (n:Nat) (z:Int) (w:World) (o:Obj):ArIn (n+1) w.heap.size ((w.alloc o).alloc (.cells #[.int .i64 0,.int .i64 z,.slice none 0 0] 84)) (atomA z) (.agg #[.slice none 0 0,.slice (some ⟨w.heap.size+1,0,none⟩) 1 1]):=by
 refine arIn_mk (x:=atomA z) (row_nil _ _ _) (by simp [atomA,Ar.cells,numCs]) ?_ rfl (by simp [atomA,Ar.cells,numCs])
 refine Or.inr ⟨w.heap.size+1,0,rfl,by omega,by simp,?_⟩
 intro i hi
 have:i=0:=by simpa [atomA,Ar.cells,numCs] using hi
 subst this
 refine ⟨_,_,_,cell_new2 w #[.int .i64 0,.int .i64 z,.slice none 0 0] 84 (0,0) o 0 _ rfl,cell_new2 w #[.int .i64 0,.int .i64 z,.slice none 0 0] 84 (0,0) o 1 _ rfl,cell_new2 w #[.int .i64 0,.int .i64 z,.slice none 0 0] 84 (0,0) o 2 _ rfl,rfl,rfl,none,0,rfl,by simp [atomA,Ar.cells,numCs,cAt],Or.inl rfl⟩
set_option maxHeartbeats 1000000 in
theorem ratom_any (n:Nat) (z:Int) (w:World):Calls Try.prog 76 #[.int .i64 z] w fun e w'=>GivesA (n+1) (atomA z) w e w':=by
 go_enter Try.func76,Try.ntmps76
 go_wp2
 exact bodyPost_ret (v:=.agg #[.slice none 0 0,.slice (some ⟨w.heap.size+1,0,none⟩) 1 1]) (by simp [results,Try.results76,go_sem]) rfl ⟨⟨_,rfl,atom_cells n z w _⟩,two_allocs _ _ _⟩
end Go.Proofs.Ytnaejfoighmfeaa
