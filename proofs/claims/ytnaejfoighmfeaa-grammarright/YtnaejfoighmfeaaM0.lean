import Derived.Test.YtnaejfoighmfeaaRows
import Derived.Laws.BitsAllLaws
import Derived.Lib.Bits
import Derived.Test.YtnaejfoighmfeaaChecked
import GoSem.Claim
import GoSem.ClaimJoined
import GoSem.ClaimMapViews
import Derived.JoinedTies
import Derived.KernelRfl
import Derived.WalkKit
import Derived.ProofKit
import Derived.Below
import Derived.Deep.QuietTactic
import Derived.BigQuiet
import Derived.Lib.SlBytesConst
import Derived.Laws.BytesArg
import Derived.Laws.MakeOwn
import Derived.Deep.RegionHeld3
import Derived.Laws.AppendOwnNone
import Derived.BigFrame
import Derived.OpenShut
import Derived.ChangeOld
import Derived.SizedLaws
import Derived.Deep.DeepHandedRow
import Derived.Lib.LaidTab
import Derived.Deep.OwnRows
import Derived.Deep.RegionWith
import Derived.Deep.Slices
import Derived.Deep.Strs
import Derived.Deep.LoopGhost
import Derived.Lib.ConvBytes
import Derived.Deep.RegionLaw
import Derived.Deep.CutRange
import Derived.Lib.SliceRun
import Derived.WalkLawsBesides
import Derived.Maps.AppendAt
import Derived.Deep.MidRow
import Derived.Defers
import Derived.Recover
import Derived.Deep.Cut
import Derived.ChangeMaps5
namespace Go.Proofs.Ytnaejfoighmfeaa.Rn
def Good (n:Int):Prop:=(0≤n∧n < 55296) ∨ (57343 < n∧n < 1114112)
instance (n:Int):Decidable (Good n):=by unfold Good; infer_instance
def goodB (n:Int):Bool:=decide (Good n)
def wid (n:Int):Nat:=if n < 128 then 1 else if n < 2048 then 2 else if n < 65536 then 3 else 4
def put (n:Int):List Int :=
 if n < 128 then [n]
 else if n < 2048 then [192+n / 64,128+n % 64]
 else if n < 65536 then [224+n / 4096,128+n / 64 % 64,128+n % 64]
 else [240+n / 262144,128+n / 4096 % 64,128+n / 64 % 64,128+n % 64]
def enc (l:List Int):List Int:=l.flatMap put
def Byte (c:Int):Prop:=0≤c∧c < 256
theorem Good.rng {n:Int} (h:Good n):0≤n∧n < 1114112:=by unfold Good at h; omega
theorem put_length (n:Int):(put n).length=wid n:=by
 unfold put wid
 split <;> (try split) <;> (try split) <;> rfl
theorem wid_pos (n:Int):1≤wid n∧wid n≤4:=by
 unfold wid
 split <;> (try split) <;> (try split) <;> omega
theorem put_bytes {n:Int} (h:Good n):∀ c ∈ put n,Byte c:=by
 have:=h.rng
 unfold put Byte
 intro c hc
 split at hc
 ·simp at hc; omega
 ·split at hc
  ·simp at hc; omega
  ·split at hc
   ·simp at hc; omega
   ·simp at hc; omega
theorem put_ne {n:Int}:put n ≠ []:=by
 intro h
 have:=congrArg List.length h
 rw [put_length] at this
 have:=wid_pos n
 simp at *
 omega
def NoSign (b:List Int):Prop:=∀ m r,Good m→b ≠ put m ++ r
def Parse (b l r:List Int):Prop:=(∀ z ∈ l,Good z)∧b=enc l ++ r∧NoSign r
end Go.Proofs.Ytnaejfoighmfeaa.Rn
namespace Go.Proofs.Ytnaejfoighmfeaa.Rn
def fV (c:Int):Int:=if c < 128 then c else if c < 192 ∨ 248≤c then 0 else if 240≤c then c % 8 else if 224≤c then c % 16 else c % 32
def fM (c:Int):Int:=if c < 128 then 0 else if c < 192 ∨ 248≤c then -1 else if 240≤c then 3 else if 224≤c then 2 else 1
def least (k:Nat):Int:=[0,128,2048,65536].getD k 0
def acc (v:Int) (l:List Int):Int:=l.foldl (fun n c=>n * 64+(c - 128)) v
def Cont (c:Int):Prop:=128≤c∧c < 192
theorem yes_facts {c0 m:Int} {t r:List Int} (hm:Good m) (h:c0 :: t=put m ++ r) :
  fM c0=(wid m:Int) - 1∧wid m≤t.length+1∧(∀ j,j < wid m - 1→Cont (t.getD j 0))∧acc (fV c0) (t.take (wid m - 1))=m∧least (wid m - 1)≤m:=by
 have:=hm.rng
 unfold put at h
 by_cases h1:m < 128
 ·rw [if_pos h1] at h
  simp at h
  obtain ⟨rfl,rfl⟩:=h
  simp [wid,fM,fV,h1,acc,least]
  omega
 ·rw [if_neg h1] at h
  by_cases h2:m < 2048
  ·rw [if_pos h2] at h
   simp at h
   obtain ⟨rfl,rfl⟩:=h
   have a1:¬ (192+m / 64 < 128):=by omega
   have a2:¬ (192+m / 64 < 192 ∨ 248≤192+m / 64):=by omega
   have a3:¬ (240≤192+m / 64):=by omega
   have a4:¬ (224≤192+m / 64):=by omega
   simp only [wid,fM,fV,h1,h2,a1,a2,a3,a4,if_false,if_true,acc,least]
   refine ⟨by omega,by simp,?_,by simp; omega,by simp; omega⟩
   intro j hj
   have:j=0:=by omega
   subst this
   simp [Cont]; omega
  ·rw [if_neg h2] at h
   by_cases h3:m < 65536
   ·rw [if_pos h3] at h
    simp at h
    obtain ⟨rfl,rfl⟩:=h
    have a1:¬ (224+m / 4096 < 128):=by omega
    have a2:¬ (224+m / 4096 < 192 ∨ 248≤224+m / 4096):=by omega
    have a3:¬ (240≤224+m / 4096):=by omega
    have a4:(224≤224+m / 4096):=by omega
    simp only [wid,fM,fV,h1,h2,h3,a1,a2,a3,a4,if_false,if_true,acc,least]
    refine ⟨by omega,by simp,?_,by simp; omega,by simp; omega⟩
    intro j hj
    have:j=0 ∨ j=1:=by omega
    rcases this with rfl | rfl <;> simp [Cont] <;> omega
   ·rw [if_neg h3] at h
    simp at h
    obtain ⟨rfl,rfl⟩:=h
    have a1:¬ (240+m / 262144 < 128):=by omega
    have a2:¬ (240+m / 262144 < 192 ∨ 248≤240+m / 262144):=by omega
    have a3:(240≤240+m / 262144):=by omega
    simp only [wid,fM,fV,h1,h2,h3,a1,a2,a3,if_false,if_true,acc,least]
    refine ⟨by omega,by simp,?_,by simp; omega,by simp; omega⟩
    intro j hj
    have:j=0 ∨ j=1 ∨ j=2:=by omega
    rcases this with rfl | rfl | rfl <;> simp [Cont] <;> omega
theorem yes_of {c0:Int} {t:List Int} {M:Nat} (h0:0≤c0) (h1:c0 < 256) (hM:fM c0=M) (hlen:M≤t.length) (hc:∀ j,j < M→Cont (t.getD j 0)) (hn:least M≤acc (fV c0) (t.take M)) (hg:Good (acc (fV c0) (t.take M))) :
  c0 :: t=put (acc (fV c0) (t.take M)) ++ t.drop M∧wid (acc (fV c0) (t.take M))=M+1:=by
 have hrng:=hg.rng
 unfold fM at hM
 by_cases a1:c0 < 128
 ·rw [if_pos a1] at hM
  have:M=0:=by omega
  subst this
  simp [fV,a1,acc,put,wid]
 ·rw [if_neg a1] at hM
  by_cases a2:c0 < 192 ∨ 248≤c0
  ·rw [if_pos a2] at hM; omega
  ·rw [if_neg a2] at hM
   by_cases a3:240≤c0
   ·rw [if_pos a3] at hM
    have:M=3:=by omega
    subst this
    match t,hlen with
    | x :: y :: z :: t,_ =>
     have c1:=hc 0 (by omega)
     have c2:=hc 1 (by omega)
     have c3:=hc 2 (by omega)
     simp [Cont] at c1 c2 c3
     simp [fV,a1,a2,a3,acc,least] at hn hg hrng ⊢
     rw [show put (((c0 % 8 * 64+(x - 128)) * 64+(y - 128)) * 64+(z - 128))=[c0,x,y,z] by
      unfold put; rw [if_neg (by omega),if_neg (by omega),if_neg (by omega)]; congr 1; omega; congr 1; omega; congr 1; omega; congr 1; omega]
     refine ⟨rfl,?_⟩
     unfold wid
     rw [if_neg (by omega),if_neg (by omega),if_neg (by omega)]
   ·rw [if_neg a3] at hM
    by_cases a4:224≤c0
    ·rw [if_pos a4] at hM
     have:M=2:=by omega
     subst this
     match t,hlen with
     | x :: y :: t,_ =>
      have c1:=hc 0 (by omega)
      have c2:=hc 1 (by omega)
      simp [Cont] at c1 c2
      simp [fV,a1,a2,a3,a4,acc,least] at hn hg hrng ⊢
      rw [show put ((c0 % 16 * 64+(x - 128)) * 64+(y - 128))=[c0,x,y] by
       unfold put; rw [if_neg (by omega),if_neg (by omega),if_pos (by omega)]; congr 1; omega; congr 1; omega; congr 1; omega]
      refine ⟨rfl,?_⟩
      unfold wid
      rw [if_neg (by omega),if_neg (by omega),if_pos (by omega)]
    ·rw [if_neg a4] at hM
     have:M=1:=by omega
     subst this
     match t,hlen with
     | x :: t,_ =>
      have c1:=hc 0 (by omega)
      simp [Cont] at c1
      simp [fV,a1,a2,a3,a4,acc,least] at hn hg hrng ⊢
      rw [show put (c0 % 32 * 64+(x - 128))=[c0,x] by
       unfold put; rw [if_neg (by omega),if_pos (by omega)]; congr 1; omega; congr 1; omega]
      refine ⟨rfl,?_⟩
      unfold wid
      rw [if_neg (by omega),if_pos (by omega)]
theorem fM_rng (c:Int):fM c=-1 ∨ fM c=0 ∨ fM c=1 ∨ fM c=2 ∨ fM c=3:=by
 unfold fM
 split
 ·omega
 ·split
  ·omega
  ·split
   ·omega
   ·split <;> omega
end Go.Proofs.Ytnaejfoighmfeaa.Rn
namespace Go.Proofs.Ytnaejfoighmfeaa.Rn
open Go.ChangeShapes Go.WideShapes Go.ChangeAt Go.RowKit
set_option maxRecDepth 100000
set_option linter.unusedVariables false
set_option linter.unusedSimpArgs false
instance (n:Int):Decidable (Good n):=by unfold Good; infer_instance
theorem goodB_true {n:Int} (h:Good n):goodB n=true:=decide_eq_true h
theorem goodB_false {n:Int} (h:¬ Good n):goodB n=false:=decide_eq_false h
set_option maxHeartbeats 400000 in
theorem goodR_any (n:Int) (w:World):Calls Try.prog 87 #[.int .i64 n] w fun e w'=>e=.returned (.bool (goodB n))∧w'=w:=by
 by_cases h1:0≤n
 ·by_cases h3:n < 55296
  ·have e:goodB n=true:=goodB_true (by unfold Good; omega)
   rw [e]
   go_enter Try.func87,Try.ntmps87
   go_wp2
   go_ret
   exact ⟨rfl,rfl⟩
  ·by_cases h4:57343 < n
   ·by_cases h5:n < 1114112
    ·have e:goodB n=true:=goodB_true (by unfold Good; omega)
     rw [e]
     go_enter Try.func87,Try.ntmps87
     go_wp2
     go_ret
     exact ⟨rfl,rfl⟩
    ·have e:goodB n=false:=goodB_false (by unfold Good; omega)
     rw [e]
     go_enter Try.func87,Try.ntmps87
     go_wp2
     go_ret
     exact ⟨rfl,rfl⟩
   ·have e:goodB n=false:=goodB_false (by unfold Good; omega)
    rw [e]
    go_enter Try.func87,Try.ntmps87
    go_wp2
    go_ret
    exact ⟨rfl,rfl⟩
 ·have e:goodB n=false:=goodB_false (by unfold Good; omega)
  have h4:¬ 57343 < n:=by omega
  rw [e]
  go_enter Try.func87,Try.ntmps87
  go_wp2
  go_ret
  exact ⟨rfl,rfl⟩
theorem wid_any (n:Int) (w:World):Calls Try.prog 88 #[.int .i64 n] w fun e w'=>e=.returned (.int .i64 (wid n))∧w'=w:=by
 unfold wid
 by_cases h1:n < 128
 ·rw [if_pos h1]
  go_enter Try.func88,Try.ntmps88
  go_wp2
  go_ret
  exact ⟨rfl,rfl⟩
 ·rw [if_neg h1]
  by_cases h2:n < 2048
  ·rw [if_pos h2]
   go_enter Try.func88,Try.ntmps88
   go_wp2
   go_ret
   exact ⟨rfl,rfl⟩
  ·rw [if_neg h2]
   by_cases h3:n < 65536
   ·rw [if_pos h3]
    go_enter Try.func88,Try.ntmps88
    go_wp2
    go_ret
    exact ⟨rfl,rfl⟩
   ·rw [if_neg h3]
    go_enter Try.func88,Try.ntmps88
    go_wp2
    go_ret
    exact ⟨rfl,rfl⟩
def Row (k:IntKind) (w:World) (a:Option Addr) (zs:List Int):Prop :=
 zs.length≤140737488355328∧(zs=[] ∨ ∃ b off,a=some ⟨b,off,none⟩∧b < w.heap.size∧∀ i,i < zs.length→w.cell? ⟨b,off+i,none⟩=some (.int k (zs[i]?.getD 0)))
theorem Row.below {k:IntKind} {w w1:World} {a:Option Addr} {zs:List Int} {B:Nat} (h:Row k w a zs) (hb:Below B w w1) (hB:∀ x,a=some x→x.block < B):Row k w1 a zs:=by
 obtain ⟨h2,h3⟩:=h
 refine ⟨h2,?_⟩
 rcases h3 with h3 | ⟨b,off,ha,hbb,hc⟩
 ·exact Or.inl h3
 ·have hB':=hB _ ha
  exact Or.inr ⟨b,off,ha,Nat.lt_of_lt_of_le hbb hb.size,fun i hi=>(hb.cell (p:=⟨b,off+i,none⟩) hB').trans (hc i hi)⟩
def IsOne (bs:List Int) (n k:Int):Prop:=(n=0∧k=0∧NoSign bs) ∨ ∃ r,Good n∧bs=put n ++ r∧k=(wid n:Int)
theorem one_none {bs:List Int} (h:NoSign bs):IsOne bs 0 0:=Or.inl ⟨rfl,rfl,h⟩
theorem info5:(Try.prog.info? 5).map (fun i=>(i.zero,i.size,i.bytes))=some (some (.int .u8 0),1,1):=by kernel_rfl
abbrev bv (zs:List Int):List Value:=zs.map (Value.int .u8)
theorem str_of_row {w:World} {a:Option Addr} {zs:List Int} (R:Row .u8 w a zs) (n:Nat) (hn:zs.length=n) (c:Nat):(convert 108 9 (.slice a n c)).run Try.prog w=.ok (.string (strOfNums zs)) w:=by
 subst hn
 rcases R.2 with h | ⟨b,off,ha,hb,hc⟩
 ·subst h
  cases a with
  | none =>
   rw [run_convert_bytes_nil w 108 5 Try.underlying108 Try.underlying5 _ _ 9 Try.underlying9]
   rfl
  | some x =>
   rw [run_convert_bytes_string w 108 9 5 _ _ _ Try.underlying108 Try.underlying5 Try.underlying9]
   have:=run_bytesToString (P:=Try.prog) w x 0 c [] (run_loadCells_list w x [] (fun j v h=>by simp at h))
   exact this
 ·subst ha
  exact run_convert_bytes_arg w 108 5 Try.underlying108 Try.underlying5 b off zs.length c zs rfl (fun i hi=>by rw [hc i hi,List.getD_eq_getElem?_getD]) 9 Try.underlying9
theorem row_new (k:IntKind) (e:TypeId) (w:World) (zs:List Int) (m:Nat × Nat) (hz:zs.length≤140737488355328):Row k (w.alloc (.cells (zs.map (Value.int k)).toArray e m)) (some ⟨w.heap.size,0,none⟩) zs:=by
 refine ⟨hz,Or.inr ⟨_,_,rfl,by simp,?_⟩⟩
 intro i hi
 have:(w.alloc (.cells (zs.map (Value.int k)).toArray e m)).heap[w.heap.size]?=some (.cells (zs.map (Value.int k)).toArray e m):=by
  show (w.heap.push _)[w.heap.size]?=_
  simp
 unfold World.cell?
 simp only [this]
 simp [List.getElem?_eq_getElem hi]
theorem made (v:Value) (k:Nat):madeCells #[v] k=Array.replicate k v:=by
 apply Array.ext
 ·simp [madeCells]
 ·intro i h1 h2
  simp [madeCells,Nat.mod_one]
theorem make_run (k:Nat) (hk:k≤4) (w:World):(Instr.makeSlice 108 (.int .i64 (k:Int)) (.int .i64 (k:Int))).run Try.prog w=.ok (.slice (some ⟨w.heap.size,0,none⟩) k k) (w.alloc (.cells (Array.replicate k (.int .u8 0)) 5)):=by
 obtain ⟨i0,hi,hz0,hz1,hz2⟩:=info_parts info5
 have:=run_make (P:=Try.prog) w 108 5 i0 (.int .u8 0) Try.underlying108 hi hz0 .i64 .i64 k k (by omega) (Int.le_refl _) (by rw [hz2]; omega) (by omega)
 rw [this,hz1,show (Value.int .u8 0).cells=#[Value.int .u8 0] from rfl,made]
 simp
theorem make1 (w:World):(Instr.makeSlice 108 (.int .i64 1) (.int .i64 1)).run Try.prog w=.ok (.slice (some ⟨w.heap.size,0,none⟩) 1 1) (w.alloc (.cells #[.int .u8 0] 5)):=make_run 1 (by omega) w
theorem make2 (w:World):(Instr.makeSlice 108 (.int .i64 2) (.int .i64 2)).run Try.prog w=.ok (.slice (some ⟨w.heap.size,0,none⟩) 2 2) (w.alloc (.cells #[.int .u8 0,.int .u8 0] 5)):=make_run 2 (by omega) w
theorem make3 (w:World):(Instr.makeSlice 108 (.int .i64 3) (.int .i64 3)).run Try.prog w=.ok (.slice (some ⟨w.heap.size,0,none⟩) 3 3) (w.alloc (.cells #[.int .u8 0,.int .u8 0,.int .u8 0] 5)):=make_run 3 (by omega) w
theorem make4 (w:World):(Instr.makeSlice 108 (.int .i64 4) (.int .i64 4)).run Try.prog w=.ok (.slice (some ⟨w.heap.size,0,none⟩) 4 4) (w.alloc (.cells #[.int .u8 0,.int .u8 0,.int .u8 0,.int .u8 0] 5)):=make_run 4 (by omega) w
set_option maxHeartbeats 2000000 in
theorem put1 (n:Int) (w:World) (hn0:0≤n) (hn:n < 128) :
  Calls Try.prog 89 #[.int .i64 n] w fun e w'=>e=.returned (.slice (some ⟨w.heap.size,0,none⟩) 1 1)∧w'=w.alloc (.cells #[.int .u8 (n)] 5):=by
 have hw:wid n=1:=by unfold wid; rw [if_pos hn]
 have mk:=make1
 have dt:n < 128:=by omega
 go_enter Try.func89,Try.ntmps89
 go_wp2_with (go_at_call 88; refine (wid_any _ _).mono ?_; rintro e w' ⟨rfl,hw'⟩; rw [hw'])
 go_loopw [0,5] (fun m i wr=>(i=.int .i64 0∧m=.int .i64 (n)∧wr=w.alloc (.cells #[.int .u8 0] 5))) (fun _ i _=>(intOf i).toNat)
 case atStart=>exact ⟨rfl,rfl,rfl⟩
 case round =>
  obtain ⟨rfl,rfl,rfl⟩:=hrel
  go_wp2
  go_ret
  exact ⟨rfl,rfl⟩
set_option maxHeartbeats 2000000 in
theorem put2 (n:Int) (w:World) (hn0:128≤n) (hn:n < 2048) :
  Calls Try.prog 89 #[.int .i64 n] w fun e w'=>e=.returned (.slice (some ⟨w.heap.size,0,none⟩) 2 2)∧w'=w.alloc (.cells #[.int .u8 (192+n / 64),.int .u8 (128+n % 64)] 5):=by
 have hw:wid n=2:=by unfold wid; rw [if_neg (by omega),if_pos hn]
 have mk:=make2
 have d1:0≤n / 64:=by omega
 have dt:n / 64 < 64:=by omega
 go_enter Try.func89,Try.ntmps89
 go_wp2_with (go_at_call 88; refine (wid_any _ _).mono ?_; rintro e w' ⟨rfl,hw'⟩; rw [hw'])
 go_loopw [0,5] (fun m i wr=>(i=.int .i64 1∧m=.int .i64 (n)∧wr=w.alloc (.cells #[.int .u8 0,.int .u8 0] 5)) ∨ (i=.int .i64 0∧m=.int .i64 (n / 64)∧wr=w.alloc (.cells #[.int .u8 0,.int .u8 (128+n % 64)] 5))) (fun _ i _=>(intOf i).toNat)
 case atStart=>exact Or.inl ⟨rfl,rfl,rfl⟩
 case round =>
  rcases hrel with ⟨rfl,rfl,rfl⟩ | ⟨rfl,rfl,rfl⟩
  ·go_wp2
   go_roundw
   case rel=>exact Or.inr (⟨rfl,rfl,trivial⟩)
   case measure=>simp [intOf]
  ·go_wp2
   go_ret
   exact ⟨rfl,rfl⟩
set_option maxHeartbeats 2000000 in
theorem put3 (n:Int) (w:World) (hn0:2048≤n) (hn:n < 65536) :
  Calls Try.prog 89 #[.int .i64 n] w fun e w'=>e=.returned (.slice (some ⟨w.heap.size,0,none⟩) 3 3)∧w'=w.alloc (.cells #[.int .u8 (224+n / 64 / 64),.int .u8 (128+n / 64 % 64),.int .u8 (128+n % 64)] 5):=by
 have hw:wid n=3:=by unfold wid; rw [if_neg (by omega),if_neg (by omega),if_pos hn]
 have mk:=make3
 have d1:0≤n / 64:=by omega
 have d2:0≤n / 64 / 64:=by omega
 have dt:n / 64 / 64 < 32:=by omega
 go_enter Try.func89,Try.ntmps89
 go_wp2_with (go_at_call 88; refine (wid_any _ _).mono ?_; rintro e w' ⟨rfl,hw'⟩; rw [hw'])
 go_loopw [0,5] (fun m i wr=>(i=.int .i64 2∧m=.int .i64 (n)∧wr=w.alloc (.cells #[.int .u8 0,.int .u8 0,.int .u8 0] 5)) ∨ (i=.int .i64 1∧m=.int .i64 (n / 64)∧wr=w.alloc (.cells #[.int .u8 0,.int .u8 0,.int .u8 (128+n % 64)] 5)) ∨ (i=.int .i64 0∧m=.int .i64 (n / 64 / 64)∧wr=w.alloc (.cells #[.int .u8 0,.int .u8 (128+n / 64 % 64),.int .u8 (128+n % 64)] 5))) (fun _ i _=>(intOf i).toNat)
 case atStart=>exact Or.inl ⟨rfl,rfl,rfl⟩
 case round =>
  rcases hrel with ⟨rfl,rfl,rfl⟩ | ⟨rfl,rfl,rfl⟩ | ⟨rfl,rfl,rfl⟩
  ·go_wp2
   go_roundw
   case rel=>exact Or.inr (Or.inl ⟨rfl,rfl,trivial⟩)
   case measure=>simp [intOf]
  ·go_wp2
   go_roundw
   case rel=>exact Or.inr (Or.inr (⟨rfl,rfl,trivial⟩))
   case measure=>simp [intOf]
  ·go_wp2
   go_ret
   exact ⟨rfl,rfl⟩
set_option maxHeartbeats 2000000 in
theorem put4 (n:Int) (w:World) (hn0:65536≤n) (hn:n < 1114112) :
  Calls Try.prog 89 #[.int .i64 n] w fun e w'=>e=.returned (.slice (some ⟨w.heap.size,0,none⟩) 4 4)∧w'=w.alloc (.cells #[.int .u8 (240+n / 64 / 64 / 64),.int .u8 (128+n / 64 / 64 % 64),.int .u8 (128+n / 64 % 64),.int .u8 (128+n % 64)] 5):=by
 have hw:wid n=4:=by unfold wid; rw [if_neg (by omega),if_neg (by omega),if_neg (by omega)]
 have mk:=make4
 have d1:0≤n / 64:=by omega
 have d2:0≤n / 64 / 64:=by omega
 have d3:0≤n / 64 / 64 / 64:=by omega
 have dt:n / 64 / 64 / 64 < 16:=by omega
 go_enter Try.func89,Try.ntmps89
 go_wp2_with (go_at_call 88; refine (wid_any _ _).mono ?_; rintro e w' ⟨rfl,hw'⟩; rw [hw'])
 go_loopw [0,5] (fun m i wr=>(i=.int .i64 3∧m=.int .i64 (n)∧wr=w.alloc (.cells #[.int .u8 0,.int .u8 0,.int .u8 0,.int .u8 0] 5)) ∨ (i=.int .i64 2∧m=.int .i64 (n / 64)∧wr=w.alloc (.cells #[.int .u8 0,.int .u8 0,.int .u8 0,.int .u8 (128+n % 64)] 5)) ∨ (i=.int .i64 1∧m=.int .i64 (n / 64 / 64)∧wr=w.alloc (.cells #[.int .u8 0,.int .u8 0,.int .u8 (128+n / 64 % 64),.int .u8 (128+n % 64)] 5)) ∨ (i=.int .i64 0∧m=.int .i64 (n / 64 / 64 / 64)∧wr=w.alloc (.cells #[.int .u8 0,.int .u8 (128+n / 64 / 64 % 64),.int .u8 (128+n / 64 % 64),.int .u8 (128+n % 64)] 5))) (fun _ i _=>(intOf i).toNat)
 case atStart=>exact Or.inl ⟨rfl,rfl,rfl⟩
 case round =>
  rcases hrel with ⟨rfl,rfl,rfl⟩ | ⟨rfl,rfl,rfl⟩ | ⟨rfl,rfl,rfl⟩ | ⟨rfl,rfl,rfl⟩
  ·go_wp2
   go_roundw
   case rel=>exact Or.inr (Or.inl ⟨rfl,rfl,trivial⟩)
   case measure=>simp [intOf]
  ·go_wp2
   go_roundw
   case rel=>exact Or.inr (Or.inr (Or.inl ⟨rfl,rfl,trivial⟩))
   case measure=>simp [intOf]
  ·go_wp2
   go_roundw
   case rel=>exact Or.inr (Or.inr (Or.inr (⟨rfl,rfl,trivial⟩)))
   case measure=>simp [intOf]
  ·go_wp2
   go_ret
   exact ⟨rfl,rfl⟩
theorem put_any (n:Int) (w:World) (hn:Good n) :
  Calls Try.prog 89 #[.int .i64 n] w fun e w'=>e=.returned (.slice (some ⟨w.heap.size,0,none⟩) (wid n) (wid n))∧w'=w.alloc (.cells (bv (put n)).toArray 5):=by
 have hr:=hn.rng
 unfold wid put
 by_cases h1:n < 128
 ·rw [if_pos h1,if_pos h1]; exact put1 n w hr.1 h1
 ·rw [if_neg h1,if_neg h1]
  by_cases h2:n < 2048
  ·rw [if_pos h2,if_pos h2]; exact put2 n w (by omega) h2
  ·rw [if_neg h2,if_neg h2]
   by_cases h3:n < 65536
   ·rw [if_pos h3,if_pos h3]
    have e1:n / 64 / 64=n / 4096:=by omega
    have:=put3 n w (by omega) h3
    rw [e1] at this
    exact this
   ·rw [if_neg h3,if_neg h3]
    have e1:n / 64 / 64=n / 4096:=by omega
    have e2:n / 4096 / 64=n / 262144:=by omega
    have:=put4 n w (by omega) hr.2
    rw [e1,e2] at this
    exact this
def offs (M:Nat):Int:=[0,192,224,240].getD M 0
def valL (bs:List Int):Int:=match bs with
 | []=>0
 | c0 :: t=>acc (c0 - offs t.length) t
set_option maxHeartbeats 2000000 in
theorem value1 (c0:Int) (b off cap:Nat) (w:World) (h0:0≤c0) (k0:c0 < 256) (x0:w.cell? ⟨b,off,none⟩=some (.int .u8 c0)) :
  Calls Try.prog 86 #[.slice (some ⟨b,off,none⟩) 1 cap] w fun e w'=>e=.returned (.int .i64 (c0))∧w'=w:=by
 go_enter Try.func86,Try.ntmps86
 go_wp2
 go_loop [3,4] (fun m i=>(i=.int .i64 1∧m=.int .i64 (c0))) (fun _ i=>1 - (intOf i).toNat)
 case atStart=>exact ⟨rfl,rfl⟩
 case round =>
  obtain ⟨rfl,rfl⟩:=hrel
  go_wp2
  go_ret
  exact ⟨rfl,rfl⟩
set_option maxHeartbeats 2000000 in
theorem value2 (c0 c1:Int) (b off cap:Nat) (w:World) (h0:0≤c0) (k0:c0 < 256) (h1:0≤c1) (k1:c1 < 256) (x0:w.cell? ⟨b,off,none⟩=some (.int .u8 c0)) (x1:w.cell? ⟨b,off+1,none⟩=some (.int .u8 c1)) :
  Calls Try.prog 86 #[.slice (some ⟨b,off,none⟩) 2 cap] w fun e w'=>e=.returned (.int .i64 ((c0 - 192) * 64+c1 - 128))∧w'=w:=by
 go_enter Try.func86,Try.ntmps86
 go_wp2
 go_loop [3,4] (fun m i=>(i=.int .i64 1∧m=.int .i64 (c0 - 192)) ∨ (i=.int .i64 2∧m=.int .i64 ((c0 - 192) * 64+c1 - 128))) (fun _ i=>2 - (intOf i).toNat)
 case atStart=>exact Or.inl ⟨rfl,rfl⟩
 case round =>
  rcases hrel with ⟨rfl,rfl⟩ | ⟨rfl,rfl⟩
  ·go_wp2
   go_round
   case rel=>exact Or.inr (⟨rfl,rfl⟩)
   case measure=>simp [intOf]
  ·go_wp2
   go_ret
   exact ⟨rfl,rfl⟩
set_option maxHeartbeats 2000000 in
theorem value3 (c0 c1 c2:Int) (b off cap:Nat) (w:World) (h0:0≤c0) (k0:c0 < 256) (h1:0≤c1) (k1:c1 < 256) (h2:0≤c2) (k2:c2 < 256) (x0:w.cell? ⟨b,off,none⟩=some (.int .u8 c0)) (x1:w.cell? ⟨b,off+1,none⟩=some (.int .u8 c1)) (x2:w.cell? ⟨b,off+2,none⟩=some (.int .u8 c2)) :
  Calls Try.prog 86 #[.slice (some ⟨b,off,none⟩) 3 cap] w fun e w'=>e=.returned (.int .i64 (((c0 - 224) * 64+c1 - 128) * 64+c2 - 128))∧w'=w:=by
 go_enter Try.func86,Try.ntmps86
 go_wp2
 go_loop [3,4] (fun m i=>(i=.int .i64 1∧m=.int .i64 (c0 - 224)) ∨ (i=.int .i64 2∧m=.int .i64 ((c0 - 224) * 64+c1 - 128)) ∨ (i=.int .i64 3∧m=.int .i64 (((c0 - 224) * 64+c1 - 128) * 64+c2 - 128))) (fun _ i=>3 - (intOf i).toNat)
 case atStart=>exact Or.inl ⟨rfl,rfl⟩
 case round =>
  rcases hrel with ⟨rfl,rfl⟩ | ⟨rfl,rfl⟩ | ⟨rfl,rfl⟩
  ·go_wp2
   go_round
   case rel=>exact Or.inr (Or.inl ⟨rfl,rfl⟩)
   case measure=>simp [intOf]
  ·go_wp2
   go_round
   case rel=>exact Or.inr (Or.inr (⟨rfl,rfl⟩))
   case measure=>simp [intOf]
  ·go_wp2
   go_ret
   exact ⟨rfl,rfl⟩
set_option maxHeartbeats 2000000 in
theorem value4 (c0 c1 c2 c3:Int) (b off cap:Nat) (w:World) (h0:0≤c0) (k0:c0 < 256) (h1:0≤c1) (k1:c1 < 256) (h2:0≤c2) (k2:c2 < 256) (h3:0≤c3) (k3:c3 < 256) (x0:w.cell? ⟨b,off,none⟩=some (.int .u8 c0)) (x1:w.cell? ⟨b,off+1,none⟩=some (.int .u8 c1)) (x2:w.cell? ⟨b,off+2,none⟩=some (.int .u8 c2)) (x3:w.cell? ⟨b,off+3,none⟩=some (.int .u8 c3)) :
  Calls Try.prog 86 #[.slice (some ⟨b,off,none⟩) 4 cap] w fun e w'=>e=.returned (.int .i64 ((((c0 - 240) * 64+c1 - 128) * 64+c2 - 128) * 64+c3 - 128))∧w'=w:=by
 go_enter Try.func86,Try.ntmps86
 go_wp2
 go_loop [3,4] (fun m i=>(i=.int .i64 1∧m=.int .i64 (c0 - 240)) ∨ (i=.int .i64 2∧m=.int .i64 ((c0 - 240) * 64+c1 - 128)) ∨ (i=.int .i64 3∧m=.int .i64 (((c0 - 240) * 64+c1 - 128) * 64+c2 - 128)) ∨ (i=.int .i64 4∧m=.int .i64 ((((c0 - 240) * 64+c1 - 128) * 64+c2 - 128) * 64+c3 - 128))) (fun _ i=>4 - (intOf i).toNat)
 case atStart=>exact Or.inl ⟨rfl,rfl⟩
 case round =>
  rcases hrel with ⟨rfl,rfl⟩ | ⟨rfl,rfl⟩ | ⟨rfl,rfl⟩ | ⟨rfl,rfl⟩
  ·go_wp2
   go_round
   case rel=>exact Or.inr (Or.inl ⟨rfl,rfl⟩)
   case measure=>simp [intOf]
  ·go_wp2
   go_round
   case rel=>exact Or.inr (Or.inr (Or.inl ⟨rfl,rfl⟩))
   case measure=>simp [intOf]
  ·go_wp2
   go_round
   case rel=>exact Or.inr (Or.inr (Or.inr (⟨rfl,rfl⟩)))
   case measure=>simp [intOf]
  ·go_wp2
   go_ret
   exact ⟨rfl,rfl⟩
theorem value_any (bs:List Int) (n:Nat) (hn:bs.length=n) (h1:1≤n) (h4:n≤4) (b off cap:Nat) (w:World) (hB:∀ z ∈ bs,Byte z) (hc:∀ i,i < n→w.cell? ⟨b,off+i,none⟩=some (.int .u8 (bs[i]?.getD 0))) :
  Calls Try.prog 86 #[.slice (some ⟨b,off,none⟩) n cap] w fun e w'=>e=.returned (.int .i64 (valL bs))∧w'=w:=by
 subst hn
 match bs,h1,h4 with
 | [c0],_,_ =>
  have b0:=hB c0 (by simp)
  have q:=value1 c0 b off cap w b0.1 b0.2 (by have:=hc 0 (by simp); simpa using this)
  have e:valL [c0]=c0:=by simp [valL,acc,offs]
  rw [e]
  exact q
 | [c0,c1],_,_ =>
  have b0:=hB c0 (by simp)
  have b1:=hB c1 (by simp)
  have q:=value2 c0 c1 b off cap w b0.1 b0.2 b1.1 b1.2 (by have:=hc 0 (by simp); simpa using this) (by have:=hc 1 (by simp); simpa using this)
  have e:valL [c0,c1]=(c0 - 192) * 64+c1 - 128:=by simp [valL,acc,offs]; omega
  rw [e]
  exact q
 | [c0,c1,c2],_,_ =>
  have b0:=hB c0 (by simp)
  have b1:=hB c1 (by simp)
  have b2:=hB c2 (by simp)
  have q:=value3 c0 c1 c2 b off cap w b0.1 b0.2 b1.1 b1.2 b2.1 b2.2 (by have:=hc 0 (by simp); simpa using this) (by have:=hc 1 (by simp); simpa using this) (by have:=hc 2 (by simp); simpa using this)
  have e:valL [c0,c1,c2]=((c0 - 224) * 64+c1 - 128) * 64+c2 - 128:=by simp [valL,acc,offs]; omega
  rw [e]
  exact q
 | [c0,c1,c2,c3],_,_ =>
  have b0:=hB c0 (by simp)
  have b1:=hB c1 (by simp)
  have b2:=hB c2 (by simp)
  have b3:=hB c3 (by simp)
  have q:=value4 c0 c1 c2 c3 b off cap w b0.1 b0.2 b1.1 b1.2 b2.1 b2.2 b3.1 b3.2 (by have:=hc 0 (by simp); simpa using this) (by have:=hc 1 (by simp); simpa using this) (by have:=hc 2 (by simp); simpa using this) (by have:=hc 3 (by simp); simpa using this)
  have e:valL [c0,c1,c2,c3]=(((c0 - 240) * 64+c1 - 128) * 64+c2 - 128) * 64+c3 - 128:=by simp [valL,acc,offs]; omega
  rw [e]
  exact q
 | [],h,_=>simp at h
 | _ :: _ :: _ :: _ :: _ :: _,_,h=>simp at h
theorem val_put {m:Int} (h:Good m):valL (put m)=m:=by
 have:=h.rng
 unfold put
 by_cases h1:m < 128
 ·rw [if_pos h1]; simp [valL,acc,offs]
 ·rw [if_neg h1]
  by_cases h2:m < 2048
  ·rw [if_pos h2]; simp [valL,acc,offs]; omega
  ·rw [if_neg h2]
   by_cases h3:m < 65536
   ·rw [if_pos h3]; simp [valL,acc,offs]; omega
   ·rw [if_neg h3]; simp [valL,acc,offs]; omega
def Pass (bs:List Int) (k:Nat):Prop:=Good (valL (bs.take k))∧put (valL (bs.take k))=bs.take k
theorem pass_one {bs:List Int} {k:Nat} (hk:k≤bs.length) (h:Pass bs k):IsOne bs (valL (bs.take k)) (k:Int):=by
 refine Or.inr ⟨bs.drop k,h.1,by rw [h.2,List.take_append_drop],?_⟩
 have:=put_length (valL (bs.take k))
 rw [h.2,List.length_take] at this
 omega
theorem pass_none {bs:List Int} (h:∀ k,1≤k→k≤4→k≤bs.length→¬ Pass bs k):NoSign bs:=by
 intro m r hm e
 have hw:=wid_pos m
 have hl:=put_length m
 have ht:bs.take (wid m)=put m:=by rw [e,← hl,List.take_left]
 refine h (wid m) hw.1 hw.2 (by rw [e,List.length_append,hl]; omega) ?_
 unfold Pass
 rw [ht,val_put hm]
 exact ⟨hm,rfl⟩
theorem str_inj:∀ {xs ys:List Int},(∀ z ∈ xs,Byte z)→(∀ z ∈ ys,Byte z)→strOfNums xs=strOfNums ys→xs=ys:=by
 intro xs
 induction xs with
 | nil =>
  intro ys _ _ h
  have:=congrArg ByteArray.size h
  rw [strOfNums_size,strOfNums_size] at this
  exact (List.eq_nil_of_length_eq_zero (by simpa using this.symm)).symm
 | cons x xs ih =>
  intro ys hx hy h
  cases ys with
  | nil =>
   have:=congrArg ByteArray.size h
   rw [strOfNums_size,strOfNums_size] at this
   simp at this
  | cons y ys =>
   have h1:=congrArg (fun s:ByteArray=>s.data.toList) h
   simp only [strOfNums_data,List.map_cons,List.cons.injEq] at h1
   have bx:=hx x (by simp)
   have by':=hy y (by simp)
   unfold Byte at bx by'
   have h2:=congrArg UInt8.toNat h1.1
   simp only [UInt8.toNat_ofNat'] at h2
   have e:x=y:=by omega
   have e2:xs=ys:=ih (fun z hz=>hx z (by simp [hz])) (fun z hz=>hy z (by simp [hz])) (by
    unfold strOfNums
    rw [h1.2])
   rw [e,e2]
theorem ba_toList {a b:ByteArray} (h:a.toList=b.toList):a=b:=by
 have h1:a.data.toList=b.data.toList:=by rw [←ByteArray.toList_eq,← ByteArray.toList_eq]; exact h
 cases a with
 | mk x=>cases b with
  | mk y =>
   have h2:x=y:=Array.toList_inj.1 h1
   rw [h2]
theorem str_ne {xs ys:List Int} (hx:∀ z ∈ xs,Byte z) (hy:∀ z ∈ ys,Byte z) (h:xs ≠ ys):((strOfNums xs).toList == (strOfNums ys).toList)=false :=
 beq_eq_false_iff_ne.2 fun e=>h (str_inj hx hy (ba_toList e))
theorem wid_as {n:Int} {k:Nat} (h:wid n=k) (w:World):Calls Try.prog 88 #[.int .i64 n] w fun e w'=>e=.returned (.int .i64 (k:Int))∧w'=w:=by
 have:=wid_any n w
 rwa [h] at this
theorem drewN_below {B:Nat} {w wr:World} (h:Below B w wr) (m:Nat):Below B w (wr.drewN m):=by
 induction m with
 | zero=>exact h
 | succ m ih=>exact ih.drew
theorem goodR_yes {n:Int} (h:Good n) (w:World):Calls Try.prog 87 #[.int .i64 n] w fun e w'=>e=.returned (.bool true)∧w'=w:=by
 have:=goodR_any n w
 rwa [goodB_true h] at this
theorem goodR_no {n:Int} (h:¬ Good n) (w:World):Calls Try.prog 87 #[.int .i64 n] w fun e w'=>e=.returned (.bool false)∧w'=w:=by
 have:=goodR_any n w
 rwa [goodB_false h] at this
theorem not_next {bs:List Int} {k:Nat} (h:∀ q,1≤q→q < k→¬ Pass bs q) (hk:¬ Pass bs k):∀ q,1≤q→q < k+1→¬ Pass bs q:=fun x h1 h2=>by
 rcases Nat.lt_or_ge x k with h3 | h3
 ·exact h x h1 h3
 ·have:x=k:=by omega
  rw [this]; exact hk
set_option maxHeartbeats 4000000 in
theorem oneR_walk (bs:List Int) (b off cap:Nat) (w:World) (hB:∀ z ∈ bs,Byte z) (hl:bs.length≤140737488355328) (hb:b < w.heap.size) (hcap:bs.length≤cap)
  (hc:∀ i,i < bs.length→w.cell? ⟨b,off+i,none⟩=some (.int .u8 (bs[i]?.getD 0))) :
  Calls Try.prog 72 #[.slice (some ⟨b,off,none⟩) bs.length cap] w fun e w'=>(∃ n k:Int,e=.returned (.tuple #[.int .i64 n,.int .i64 k])∧IsOne bs n k)∧Below w.heap.size w w':=by
 go_enter Try.func72,Try.ntmps72
 go_wp2
 go_loopw [4] (fun i wr=>∃ k:Nat,1≤k∧k≤5∧i=.int .i64 k∧(∀ q,1≤q→q < k→¬ Pass bs q)∧Below w.heap.size w wr) (fun i _=>5 - (intOf i).toNat)
 case atStart=>exact ⟨1,by omega,by omega,rfl,fun q h1 h2=>by omega,Below.refl _ _⟩
 case round =>
  obtain ⟨k,hk1,hk5,rfl,hno,hnx⟩:=hrel
  by_cases hin:k≤4∧k≤bs.length
  ·obtain ⟨h4,hkl⟩:=hin
   have htl:(bs.take k).length=k:=by rw [List.length_take]; omega
   have hcw:∀ i,i < k→wr.cell? ⟨b,off+i,none⟩=some (.int .u8 ((bs.take k)[i]?.getD 0)):=by
    intro i hi
    rw [List.getElem?_take,if_pos hi]
    exact (hnx.cell (p:=⟨b,off+i,none⟩) hb).trans (hc i (by omega))
   have C:=value_any (bs.take k) k htl hk1 h4 b off cap wr (fun z hz=>hB z (List.mem_of_mem_take hz)) hcw
   have HP:Hid (Pass bs k→IsOne bs (valL (bs.take k)) (k:Int)):=fun h=>pass_one hkl h
   have HQ:Hid (Pass bs k ↔ Good (valL (bs.take k))∧put (valL (bs.take k))=bs.take k):=Iff.rfl
   have Rk:Hid (Row .u8 wr (some ⟨b,off,none⟩) (bs.take k)):=by
    refine ⟨by omega,Or.inr ⟨b,off,rfl,Nat.lt_of_lt_of_le hb hnx.size,fun i hi=>hcw i (by omega)⟩⟩
   obtain ⟨n,hn⟩:∃ n,valL (bs.take k)=n:=⟨_,rfl⟩
   obtain ⟨q,hq⟩:∃ q,bs.take k=q:=⟨_,rfl⟩
   rw [hn] at C HP HQ
   rw [hq] at HQ Rk htl
   have HTL:Hid (q.length=k):=htl
   have HN:Hid (∀ q,1≤q→q < k→¬ Pass bs q):=hno
   have HBq:Hid (∀ z ∈ q,Byte z):=by rw [←hq]; exact fun z hz=>hB z (List.mem_of_mem_take hz)
   clear hcw hn hq htl hno hc hB
   by_cases hg:Good n
   ·by_cases hwk:wid n=k
    ·have s1:=fun (v:World) (hv:Row .u8 v (some ⟨b,off,none⟩) q)=>str_of_row hv k HTL.out cap
     have r1:Row .u8 wr.drew (some ⟨b,off,none⟩) q:=Rk.out.below (B:=wr.heap.size) ((Below.refl _ _).drew) (fun x hx=>by cases hx; exact Nat.lt_of_lt_of_le hb hnx.size)
     have r2:∀ o,Row .u8 (wr.alloc o).drew (some ⟨b,off,none⟩) q:=fun o=>Rk.out.below (B:=wr.heap.size) (((Below.refl _ _).alloc (Nat.le_refl _) _).drew) (fun x hx=>by cases hx; exact Nat.lt_of_lt_of_le hb hnx.size)
     have t1:=s1 _ r1
     have t2:=fun o=>s1 _ (r2 o)
     have hpl:(put n).length=k:=by rw [put_length,hwk]
     have t3:(convert 108 9 (.slice (some ⟨wr.heap.size,0,none⟩) k k)).run Try.prog (wr.alloc (.cells (bv (put n)).toArray 5)).drew=.ok (.string (strOfNums (put n))) (wr.alloc (.cells (bv (put n)).toArray 5)).drew :=
      str_of_row (a:=some ⟨wr.heap.size,0,none⟩) ((row_new .u8 5 wr (put n) (0,0) (by omega)).below (B:=wr.heap.size+1) ((Below.refl _ _).drew) (fun x hx=>by cases hx; exact Nat.lt_succ_self _)) k hpl k
     have C2:∀ v:World,Calls Try.prog 89 #[.int .i64 n] v fun e w'=>e=.returned (.slice (some ⟨v.heap.size,0,none⟩) k k)∧w'=v.alloc (.cells (bv (put n)).toArray 5):=fun v=>by
      have:=put_any n v hg
      rwa [hwk] at this
     have HC2:Hid _:=C2
     have HG:Hid (Good n):=hg
     have HM:Hid (wid n=k):=hwk
     have hkk:((k:Int) == (k:Int))=true:=by simp
     clear s1 r1 r2 C2 hpl
     by_cases hpq:put n=q
     ·have HT:Hid (IsOne bs n k):=HP.out (HQ.out.2 ⟨hg,hpq⟩)
      clear hg hwk
      subst hpq
      go_wp2_with (go_at_call 86; refine C.mono ?_; rintro e w' ⟨rfl,hw⟩; rw [hw])
      go_region_with (first | (go_at_call 87; refine (goodR_yes HG.out _).mono ?_; rintro e w' ⟨rfl,hw⟩; rw [hw]) | (go_at_call 88; refine (wid_as HM.out _).mono ?_; rintro e w' ⟨rfl,hw⟩; rw [hw]) | (go_at_call 89; refine (HC2.out _).mono ?_; rintro e w' ⟨rfl,hw⟩; rw [hw]))
      all_goals go_wp2
      all_goals go_ret2
      all_goals exact ⟨⟨_,_,rfl,HT.out⟩,(hnx.alloc hnx.size _).drew⟩
     ·have HF:Hid (¬ Pass bs k):=fun h=>hpq (HQ.out.1 h).2
      have hse:=str_ne (put_bytes hg) HBq.out hpq
      clear hg hwk hpq
      go_wp2_with (go_at_call 86; refine C.mono ?_; rintro e w' ⟨rfl,hw⟩; rw [hw])
      go_region_with (first | (go_at_call 87; refine (goodR_yes HG.out _).mono ?_; rintro e w' ⟨rfl,hw⟩; rw [hw]) | (go_at_call 88; refine (wid_as HM.out _).mono ?_; rintro e w' ⟨rfl,hw⟩; rw [hw]) | (go_at_call 89; refine (HC2.out _).mono ?_; rintro e w' ⟨rfl,hw⟩; rw [hw]))
      all_goals go_wp2
      all_goals
       go_roundw
       case rel=>exact ⟨k+1,by omega,by omega,by go_num,not_next HN.out HF.out,(hnx.alloc hnx.size _).drew⟩
       case measure=>simp [intOf]; omega
    ·have HF:Hid (¬ Pass bs k):=fun h=>by
      have h1:=(HQ.out.1 h).2
      have h2:=put_length n
      have h3:=HTL.out
      rw [h1] at h2
      omega
     have hne:((wid n:Int) == (k:Int))=false:=beq_eq_false_iff_ne.2 (by omega)
     have HG:Hid (Good n):=hg
     obtain ⟨m,hm⟩:∃ m,wid n=m:=⟨_,rfl⟩
     have HM:Hid (wid n=m):=hm
     rw [hm] at hne
     clear hg hwk hm
     go_wp2_with (go_at_call 86; refine C.mono ?_; rintro e w' ⟨rfl,hw⟩; rw [hw])
     go_quiet (first | (go_at_call 87; exact Calls.quiet_of_same (goodR_yes HG.out _)) | (go_at_call 88; exact Calls.quiet_of_same (wid_as HM.out _)))
     go_wp2
     go_roundw
     case rel=>exact ⟨k+1,by omega,by omega,by go_num,not_next HN.out HF.out,drewN_below hnx _⟩
     case measure=>simp [intOf]; omega
   ·have hgb:=goodB_false hg
    have HF:Hid (¬ Pass bs k):=fun h=>hg (HQ.out.1 h).1
    have HG:Hid (¬ Good n):=hg
    clear hg hgb
    go_wp2_with (go_at_call 86; refine C.mono ?_; rintro e w' ⟨rfl,hw⟩; rw [hw])
    go_quiet ((go_at_call 87; exact Calls.quiet_of_same (goodR_no HG.out _)))
    go_wp2
    go_roundw
    case rel=>exact ⟨k+1,by omega,by omega,by go_num,not_next HN.out HF.out,drewN_below hnx _⟩
    case measure=>simp [intOf]; omega
  ·have N:Hid (IsOne bs 0 0):=one_none (pass_none fun q h1 h2 h3=>hno q h1 (by omega))
   clear hno hc hB
   by_cases h4:k≤4
   ·have h5:¬ k≤bs.length:=fun h=>hin ⟨h4,h⟩
    have h6:bs.length < k:=by omega
    clear hin h5
    go_wp2
    go_ret2
    exact ⟨⟨0,0,rfl,N.out⟩,hnx⟩
   ·have h5:4 < k:=by omega
    clear hin
    go_wp2
    go_ret2
    exact ⟨⟨0,0,rfl,N.out⟩,hnx⟩
end Go.Proofs.Ytnaejfoighmfeaa.Rn
namespace Go.Proofs.Ytnaejfoighmfeaa.Rn
set_option linter.unusedVariables false
def oneF:List Int→Option (Int × Nat)
 | []=>none
 | c :: t=>if fM c=-1 then none else if t.length < (fM c).toNat then none else
  if ((t.take (fM c).toNat).all fun d=>decide (128≤d) && decide (d < 192)) && decide (least (fM c).toNat≤acc (fV c) (t.take (fM c).toNat)) && decide (Good (acc (fV c) (t.take (fM c).toNat))) then some (acc (fV c) (t.take (fM c).toNat),(fM c).toNat+1) else none
theorem oneF_put {m:Int} {r:List Int} (hm:Good m):oneF (put m ++ r)=some (m,wid m):=by
 obtain ⟨c,t,hct⟩:∃ c t,put m ++ r=c :: t:=by
  cases h:put m ++ r with
  | nil=>exact absurd (List.append_eq_nil_iff.1 h).1 put_ne
  | cons c t=>exact ⟨c,t,rfl⟩
 obtain ⟨h1,h2,h3,h4,h5⟩:=yes_facts hm hct.symm
 have hw:=wid_pos m
 have e:(fM c).toNat=wid m - 1:=by omega
 have hall:(t.take (wid m - 1)).all (fun d=>decide (128≤d) && decide (d < 192))=true:=by
  rw [List.all_eq_true]
  intro d hd
  obtain ⟨j,hj,rfl⟩:=List.getElem_of_mem hd
  have hj':j < wid m - 1∧j < t.length:=by
   have:=hj
   simp at this
   omega
  have:=h3 j hj'.1
  rw [List.getD_eq_getElem?_getD,List.getElem?_eq_getElem hj'.2] at this
  simp only [List.getElem_take,Option.getD_some] at this ⊢
  have:=this
  simp [Cont] at this
  simp [this]
 rw [hct]
 simp only [oneF]
 rw [if_neg (by omega),e,if_neg (by omega),hall,h4]
 simp [h5,hm]
 omega
theorem oneF_none {l:List Int} (hl:∀ z ∈ l,Byte z) (h:NoSign l):oneF l=none:=by
 cases l with
 | nil=>rfl
 | cons c t =>
  have hc:=hl c (by simp)
  simp only [oneF]
  split
  ·rfl
  ·rename_i h1
   split
   ·rfl
   ·rename_i h2
    split
    ·rename_i h3
     exfalso
     simp only [Bool.and_eq_true,List.all_eq_true,decide_eq_true_eq] at h3
     obtain ⟨⟨h3,h4⟩,h5⟩:=h3
     have hr:=fM_rng c
     have hM:fM c=((fM c).toNat:Int):=by omega
     have hcont:∀ j,j < (fM c).toNat→Cont (t.getD j 0):=by
      intro j hj
      have hjt:j < t.length:=by omega
      have:=h3 (t.getD j 0) (by
       rw [List.getD_eq_getElem?_getD,List.getElem?_eq_getElem hjt]
       simp only [Option.getD_some]
       exact List.mem_of_getElem? (i:=j) (by rw [List.getElem?_take,if_pos hj,List.getElem?_eq_getElem hjt]))
      exact this
     exact h _ _ h5 (yes_of hc.1 hc.2 hM (by omega) hcont h4 h5).1
    ·rfl
theorem oneF_some {l:List Int} (hl:∀ z ∈ l,Byte z) {n:Int} {k:Nat} (h:oneF l=some (n,k)):Good n∧k=wid n∧∃ r,l=put n ++ r:=by
 by_cases hs:NoSign l
 ·rw [oneF_none hl hs] at h; cases h
 ·unfold NoSign at hs
  have hs:∃ m r,Good m∧l=put m ++ r:=by
   refine Classical.byContradiction fun hn=>hs fun m r hm e=>hn ⟨m,r,hm,e⟩
  obtain ⟨m,r,hm,rfl⟩:=hs
  rw [oneF_put hm] at h
  cases h
  exact ⟨hm,rfl,r,rfl⟩
def dgB (c:Int):Bool:=decide (48≤c) && decide (c≤57)
def ltB (c:Int):Bool:=decide (97≤c) && decide (c≤119)
def blB (c:Int):Bool:=decide (c=32)
def nmB (c:Int):Bool:=ltB c || dgB c
def lead (p:Int→Bool):List Int→Nat
 | []=>0
 | c :: t=>if p c then lead p t+1 else 0
theorem lead_le (p:Int→Bool) (l:List Int):lead p l≤l.length:=by
 induction l with
 | nil=>simp [lead]
 | cons c t ih=>simp only [lead]; split <;> simp <;> omega
theorem lead_stop (p:Int→Bool) (l:List Int) (c:Int) (t:List Int) (h:l.drop (lead p l)=c :: t):p c=false:=by
 induction l with
 | nil=>simp [lead] at h
 | cons d s ih =>
  simp only [lead] at h
  split at h
  ·exact ih (by simpa using h)
  ·rename_i hd
   simp at h
   rw [←h.1]
   simpa using hd
def minL:List Int:=[194,175]
def remL:List Int:=[226,141,157]
def hasP (l w:List Int):Bool:=w.isPrefixOf l
theorem hasP_iff {l w:List Int}:hasP l w=true ↔ ∃ r,l=w ++ r:=by
 unfold hasP
 rw [List.isPrefixOf_iff_prefix]
 exact ⟨fun ⟨r,h⟩=>⟨r,h.symm⟩,fun ⟨r,h⟩=>⟨r,h.symm⟩⟩
theorem hasP_len {l w:List Int} (h:hasP l w=true):w.length≤l.length:=by
 obtain ⟨r,rfl⟩:=hasP_iff.1 h
 simp
def decV (ds:List Int):Int:=ds.foldl (fun n c=>n * 10+(c - 48)) 0
def fits (z:Int):Bool:=decide (-9223372036854775808≤z) && decide (z≤9223372036854775807)
end Go.Proofs.Ytnaejfoighmfeaa.Rn
namespace Go.Proofs.Ytnaejfoighmfeaa
def prodL:List Int→Int
 | []=>1
 | z :: r=>z * prodL r
theorem prodL_pos {l:List Int} (h:∀ z ∈ l,0 < z):1≤prodL l:=by
 induction l with
 | nil=>simp [prodL]
 | cons x l ih =>
  have h1:=ih fun z hz=>h z (List.mem_cons_of_mem _ hz)
  have h2:=h x List.mem_cons_self
  have:=Int.mul_le_mul (a:=1) (b:=1) (c:=x) (d:=prodL l) (by omega) h1 (by omega) (by omega)
  simpa [prodL] using this
def hasNeg (l:List Int):Prop:=∃ z ∈ l,z < 0
def hasZero (l:List Int):Prop:=∃ z ∈ l,z=0
instance (l:List Int):Decidable (hasNeg l):=inferInstanceAs (Decidable (∃ z ∈ l,z < 0))
instance (l:List Int):Decidable (hasZero l):=inferInstanceAs (Decidable (∃ z ∈ l,z=0))
def sizeV (l:List Int):Int:=if 8 < l.length ∨ hasNeg l ∨ hasZero l ∨ 16384 < prodL l then 0 else prodL l
def sizeE (l:List Int):Int:=if 8 < l.length then 6 else if hasNeg l then 1 else if hasZero l then 0 else if 16384 < prodL l then 12 else 0
theorem all_pos {l:List Int} (h1:¬ hasNeg l) (h2:¬ hasZero l):∀ z ∈ l,0 < z:=by
 intro z hz
 have a:¬ z < 0:=fun h=>h1 ⟨z,hz,h⟩
 have b:¬ z=0:=fun h=>h2 ⟨z,hz,h⟩
 omega
theorem size_zero {l:List Int} (h:¬ 8 < l.length) (h1:¬ hasNeg l) (h2:hasZero l):sizeV l=0∧sizeE l=0:=by simp [sizeV,sizeE,h,h1,h2]
theorem size_ok {l:List Int} (h:¬ 8 < l.length) (h1:¬ hasNeg l) (h2:¬ hasZero l) (h3:¬ 16384 < prodL l):sizeV l=prodL l∧sizeE l=0:=by simp [sizeV,sizeE,h,h1,h2,h3]
def hasLong (l:List Int):Prop:=∃ z ∈ l,16384 < z
instance (l:List Int):Decidable (hasLong l):=inferInstanceAs (Decidable (∃ z ∈ l,16384 < z))
def inAxes:List Int→List Int→Prop
 | s :: ss,a :: ms=>(0≤a∧a < s)∧inAxes ss ms
 | [],[]=>True
 | _,_=>False
def place:List Int→List Int→Int
 | _ :: ss,a :: ms=>a * prodL ss+place ss ms
 | _,_=>0
theorem place_bound {l at':List Int} (h:inAxes l at'):(∀ z ∈ l,0 < z)∧0≤place l at'∧place l at' < prodL l∧at'.length=l.length:=by
 induction l generalizing at' with
 | nil =>
  cases at' with
  | nil=>simp [place,prodL]
  | cons a ms=>simp [inAxes] at h
 | cons s ss ih =>
  cases at' with
  | nil=>simp [inAxes] at h
  | cons a ms =>
   simp only [inAxes] at h
   obtain ⟨⟨h1,h2⟩,h3⟩:=h
   obtain ⟨i1,i2,i3,i4⟩:=ih h3
   have hp:=prodL_pos i1
   have a1:0≤a * prodL ss:=Int.mul_nonneg h1 (by omega)
   have a2:(a+1) * prodL ss≤s * prodL ss:=Int.mul_le_mul_of_nonneg_right (by omega) (by omega)
   rw [Int.add_mul] at a2
   refine ⟨?_,?_,?_,by simp [i4]⟩
   ·intro z hz
    rcases List.mem_cons.1 hz with rfl | hz
    ·omega
    ·exact i1 z hz
   ·simp only [place]; omega
   ·simp only [place,prodL]; omega
def digits:List Int→Int→List Int
 | [],_=>[]
 | _ :: ss,n=>n / prodL ss :: digits ss (n % prodL ss)
theorem digits_length (l:List Int) (n:Int):(digits l n).length=l.length:=by
 induction l generalizing n with
 | nil=>rfl
 | cons s ss ih=>simp [digits,ih]
theorem digits_in {l:List Int} (h:∀ z ∈ l,0 < z) {n:Int} (h0:0≤n) (h1:n < prodL l):inAxes l (digits l n)∧place l (digits l n)=n:=by
 induction l generalizing n with
 | nil=>simp [prodL] at h1; simp [digits,inAxes,place]; omega
 | cons s ss ih =>
  have hp:=prodL_pos (l:=ss) fun z hz=>h z (List.mem_cons_of_mem _ hz)
  have m0:=Int.emod_nonneg n (show prodL ss ≠ 0 by omega)
  have m1:=Int.emod_lt_of_pos n (show 0 < prodL ss by omega)
  obtain ⟨i1,i2⟩:=ih (fun z hz=>h z (List.mem_cons_of_mem _ hz)) m0 m1
  have d0:0≤n / prodL ss:=Int.ediv_nonneg h0 (by omega)
  have d1:n / prodL ss < s:=by
   apply Int.ediv_lt_of_lt_mul (by omega)
   simpa [prodL] using h1
  refine ⟨⟨⟨d0,d1⟩,i1⟩,?_⟩
  simp only [digits,place,i2]
  have:=Int.mul_ediv_add_emod n (prodL ss)
  rw [Int.mul_comm] at this
  exact this
theorem digits_place {l at':List Int} (h:inAxes l at'):digits l (place l at')=at':=by
 induction l generalizing at' with
 | nil =>
  cases at' with
  | nil=>rfl
  | cons a ms=>simp [inAxes] at h
 | cons s ss ih =>
  cases at' with
  | nil=>simp [inAxes] at h
  | cons a ms =>
   simp only [inAxes] at h
   obtain ⟨h1,h3⟩:=h
   obtain ⟨i1,i2,i3,i4⟩:=place_bound h3
   have hp:=prodL_pos i1
   have e:a * prodL ss+place ss ms=place ss ms+prodL ss * a:=by rw [Int.mul_comm]; omega
   simp only [digits,place]
   rw [e,Int.add_mul_ediv_left _ _ (by omega),Int.ediv_eq_zero_of_lt i2 i3,Int.add_mul_emod_self_left,Int.emod_eq_of_lt i2 i3,ih h3]
   simp
end Go.Proofs.Ytnaejfoighmfeaa
namespace Go.Proofs.Ytnaejfoighmfeaa
open Go.ChangeShapes Go.WideShapes Go.ChangeAt Go.RowKit
def Row (lo:Nat) (w:World) (a:Option Addr) (zs:List Int):Prop :=
 zs.length≤140737488355328∧(zs=[] ∨ ∃ b off,a=some ⟨b,off,none⟩∧lo≤b∧b < w.heap.size∧∀ i,i < zs.length→w.cell? ⟨b,off+i,none⟩=some (.int .i64 (zs[i]?.getD 0)))
theorem Row.next {lo:Nat} {w w1:World} {a:Option Addr} {zs:List Int} (h:Row lo w a zs) (hb:Below w.heap.size w w1):Row lo w1 a zs:=by
 obtain ⟨h2,h3⟩:=h
 refine ⟨h2,?_⟩
 rcases h3 with h3 | ⟨b,off,ha,hlo,hbb,hc⟩
 ·exact Or.inl h3
 ·exact Or.inr ⟨b,off,ha,hlo,Nat.lt_of_lt_of_le hbb hb.size,fun i hi=>(hb.cell (p:=⟨b,off+i,none⟩) hbb).trans (hc i hi)⟩
theorem Row.low {lo lo':Nat} {w:World} {a:Option Addr} {zs:List Int} (h:Row lo w a zs) (hl:lo'≤lo):Row lo' w a zs:=by
 obtain ⟨h2,h3⟩:=h
 refine ⟨h2,?_⟩
 rcases h3 with h3 | ⟨b,off,ha,hlo,hbb,hc⟩
 ·exact Or.inl h3
 ·exact Or.inr ⟨b,off,ha,Nat.le_trans hl hlo,hbb,hc⟩
theorem row_at {lo:Nat} {w:World} {a:Option Addr} {l:List Int} (R:Row lo w a l) {j:Nat} (h:j < l.length):∃ b off,a=some ⟨b,off,none⟩∧b < w.heap.size∧w.cell? ⟨b,off+j,none⟩=some (.int .i64 (l[j]?.getD 0)):=by
 rcases R.2 with h0 | ⟨b,off,ha,_,hb,hc⟩
 ·subst h0; simp at h
 ·exact ⟨b,off,ha,hb,hc j h⟩
theorem retB {a b:Bool} (h:a=b):Ending.returned (.bool a)=.returned (.bool b):=by rw [h]
theorem retI {k:IntKind} {a b:Int} (h:a=b):Ending.returned (.int k a)=.returned (.int k b):=by rw [h]
end Go.Proofs.Ytnaejfoighmfeaa
namespace Go.Proofs.Ytnaejfoighmfeaa
open Go.ChangeShapes Go.WideShapes Go.ChangeAt Go.RowKit
inductive Ar where
 | mk (shape:List Int) (cells:List (Int × Int × List Ar))
abbrev Ce:=Int × Int × List Ar
def Ar.shape:Ar→List Int
 | .mk s _=>s
def Ar.cells:Ar→List Ce
 | .mk _ c=>c
instance:Inhabited Ar:=⟨.mk [] []⟩
def I64 (a:Int):Prop:=-9223372036854775808≤a∧a≤9223372036854775807
inductive Snd:Ar→Prop where
 | mk {s:List Int} {cs:List (Int × Int × List Ar)} (hs:∀ z ∈ s,I64 z) (hn:∀ c ∈ cs,I64 c.1∧I64 c.2.1) (hb:∀ c ∈ cs,∀ y ∈ c.2.2,Snd y):Snd (.mk s cs)
def SndC (c:Ce):Prop:=I64 c.1∧I64 c.2.1∧∀ y ∈ c.2.2,Snd y
theorem Snd.of {s:List Int} {cs:List Ce} (hs:∀ z ∈ s,I64 z) (hc:∀ c ∈ cs,SndC c):Snd (.mk s cs):=.mk hs (fun c h=>⟨(hc c h).1,(hc c h).2.1⟩) fun c h=>(hc c h).2.2
theorem Snd.cell {x:Ar} (h:Snd x) {c:Ce} (hc:c ∈ x.cells):SndC c:=by
 cases h with
 | mk hs hn hb=>exact ⟨(hn c hc).1,(hn c hc).2,hb c hc⟩
theorem Snd.axis {x:Ar} (h:Snd x) {z:Int} (hz:z ∈ x.shape):I64 z:=by
 cases h with
 | mk hs hn hb=>exact hs z hz
def cAt (l:List Ce) (i:Nat):Ce:=l[i]?.getD (0,0,[])
def bAt (l:List Ar) (i:Nat):Ar:=l[i]?.getD (.mk [] [])
def CeIn (P:Ar→Value→Prop) (lo:Nat) (w:World) (c:Ce) (v0 v1 v2:Value):Prop :=
 v0=.int .i64 c.1∧v1=.int .i64 c.2.1∧∃ a cap,v2=.slice a c.2.2.length cap∧c.2.2.length≤5864062014805∧(c.2.2=[] ∨ ∃ b off,a=some ⟨b,off,none⟩∧lo≤b∧b < w.heap.size ∧
  ∀ j,j < c.2.2.length→∃ u0 u1,w.cell? ⟨b,off+j * 2,none⟩=some u0∧w.cell? ⟨b,off+j * 2+1,none⟩=some u1∧P (bAt c.2.2 j) (.agg #[u0,u1]))
def ArIn:Nat→Nat→World→Ar→Value→Prop
 | 0,_,_,_,_=>False
 | n+1,lo,w,x,v=>∃ a1 c1 a2 c2,v=.agg #[.slice a1 x.shape.length c1,.slice a2 x.cells.length c2]∧Row lo w a1 x.shape∧x.cells.length≤5864062014805∧(x.cells=[] ∨ ∃ b off,a2=some ⟨b,off,none⟩∧lo≤b∧b < w.heap.size ∧
   ∀ i,i < x.cells.length→∃ v0 v1 v2,w.cell? ⟨b,off+i * 3,none⟩=some v0∧w.cell? ⟨b,off+i * 3+1,none⟩=some v1∧w.cell? ⟨b,off+i * 3+2,none⟩=some v2∧CeIn (ArIn n lo w) lo w (cAt x.cells i) v0 v1 v2)
theorem CeIn.mono {P Q:Ar→Value→Prop} {lo lo':Nat} {w w':World} {c:Ce} {v0 v1 v2:Value} (h:CeIn P lo w c v0 v1 v2) (hl:lo'≤lo) (hb:Below w.heap.size w w') (hPQ:∀ x v,P x v→Q x v):CeIn Q lo' w' c v0 v1 v2:=by
 obtain ⟨h0,h1,a,cap,h2,h3,h4⟩:=h
 refine ⟨h0,h1,a,cap,h2,h3,?_⟩
 rcases h4 with h4 | ⟨b,off,ha,hlo,hbb,hc⟩
 ·exact Or.inl h4
 ·refine Or.inr ⟨b,off,ha,Nat.le_trans hl hlo,Nat.lt_of_lt_of_le hbb hb.size,fun j hj=>?_⟩
  obtain ⟨u0,u1,e0,e1,e2⟩:=hc j hj
  exact ⟨u0,u1,(hb.cell (p:=⟨b,off+j * 2,none⟩) hbb).trans e0,(hb.cell (p:=⟨b,off+j * 2+1,none⟩) hbb).trans e1,hPQ _ _ e2⟩
theorem ArIn.mono {n lo lo':Nat} {w w':World} {x:Ar} {v:Value} (h:ArIn n lo w x v) (hl:lo'≤lo) (hb:Below w.heap.size w w'):ArIn n lo' w' x v:=by
 induction n generalizing x v with
 | zero=>exact h.elim
 | succ n ih =>
  obtain ⟨a1,c1,a2,c2,hv,hR,hlen,hc⟩:=h
  refine ⟨a1,c1,a2,c2,hv,(hR.next hb).low hl,hlen,?_⟩
  rcases hc with hc | ⟨b,off,ha,hlo,hbb,hc⟩
  ·exact Or.inl hc
  ·refine Or.inr ⟨b,off,ha,Nat.le_trans hl hlo,Nat.lt_of_lt_of_le hbb hb.size,fun i hi=>?_⟩
   obtain ⟨v0,v1,v2,e0,e1,e2,e3⟩:=hc i hi
   exact ⟨v0,v1,v2,(hb.cell (p:=⟨b,off+i * 3,none⟩) hbb).trans e0,(hb.cell (p:=⟨b,off+i * 3+1,none⟩) hbb).trans e1,(hb.cell (p:=⟨b,off+i * 3+2,none⟩) hbb).trans e2,e3.mono hl hb fun x v h=>ih h⟩
theorem ArIn.next {n lo:Nat} {w w':World} {x:Ar} {v:Value} (h:ArIn n lo w x v) (hb:Below w.heap.size w w'):ArIn n lo w' x v:=h.mono (Nat.le_refl _) hb
theorem CeIn.deeper {P Q:Ar→Value→Prop} {lo:Nat} {w:World} {c:Ce} {v0 v1 v2:Value} (h:CeIn P lo w c v0 v1 v2) (hPQ:∀ x v,P x v→Q x v):CeIn Q lo w c v0 v1 v2:=h.mono (Nat.le_refl _) (Below.refl _ _) hPQ
theorem ArIn.deeper {n lo:Nat} {w:World} {x:Ar} {v:Value} (h:ArIn n lo w x v):ArIn (n+1) lo w x v:=by
 induction n generalizing x v with
 | zero=>exact h.elim
 | succ n ih =>
  obtain ⟨a1,c1,a2,c2,hv,hR,hlen,hc⟩:=h
  refine ⟨a1,c1,a2,c2,hv,hR,hlen,?_⟩
  rcases hc with hc | ⟨b,off,ha,hlo,hbb,hc⟩
  ·exact Or.inl hc
  ·refine Or.inr ⟨b,off,ha,hlo,hbb,fun i hi=>?_⟩
   obtain ⟨v0,v1,v2,e0,e1,e2,e3⟩:=hc i hi
   exact ⟨v0,v1,v2,e0,e1,e2,e3.deeper fun x v h=>ih h⟩
theorem ArIn.deep {n m lo:Nat} {w:World} {x:Ar} {v:Value} (h:ArIn n lo w x v) (hm:n≤m):ArIn m lo w x v:=by
 induction hm with
 | refl=>exact h
 | step _ ih=>exact ih.deeper
def cmp3 (a b:Int):Int:=if a < b then -1 else if b < a then 1 else 0
def firstUp (f:Nat→Int):Nat→Int
 | 0=>0
 | m+1=>if firstUp f m=0 then f m else firstUp f m
theorem firstUp_stays {f:Nat→Int} {j:Nat} (h:firstUp f j ≠ 0) (m:Nat) (hm:j≤m):firstUp f m=firstUp f j:=by
 induction hm with
 | refl=>rfl
 | step _ ih=>simp only [firstUp]; rw [ih,if_neg h]
theorem firstUp_step {f:Nat→Int} {j:Nat} (h0:firstUp f j=0):firstUp f (j+1)=f j:=by simp [firstUp,h0]
def cmpC (f:Ar→Ar→Int) (c d:Ce):Int :=
 if cmp3 c.1 d.1 ≠ 0 then cmp3 c.1 d.1 else if cmp3 c.2.1 d.2.1 ≠ 0 then cmp3 c.2.1 d.2.1
 else if 0 < c.2.2.length∧0 < d.2.2.length then f (bAt c.2.2 0) (bAt d.2.2 0) else cmp3 c.2.2.length d.2.2.length
def axF (x y:Ar) (i:Nat):Int:=cmp3 (x.shape[i]?.getD 0) (y.shape[i]?.getD 0)
def ceF (f:Ar→Ar→Int) (x y:Ar) (i:Nat):Int:=cmpC f (cAt x.cells i) (cAt y.cells i)
def cmpA:Nat→Ar→Ar→Int
 | 0,_,_=>0
 | n+1,x,y =>
  if cmp3 x.shape.length y.shape.length ≠ 0 then cmp3 x.shape.length y.shape.length
  else if firstUp (axF x y) x.shape.length ≠ 0 then firstUp (axF x y) x.shape.length
  else if firstUp (ceF (cmpA n) x y) (min x.cells.length y.cells.length) ≠ 0 then firstUp (ceF (cmpA n) x y) (min x.cells.length y.cells.length)
  else cmp3 x.cells.length y.cells.length
end Go.Proofs.Ytnaejfoighmfeaa
namespace Go.Proofs.Ytnaejfoighmfeaa
open Go.ChangeShapes Go.WideShapes Go.ChangeAt Go.RowKit
set_option linter.unusedVariables false
theorem info33:(Try.prog.info? 84).map (fun i=>(i.zero,i.size,i.bytes))=some (some (.agg #[.int .i64 0,.int .i64 0,.slice none 0 0]),3,40):=by kernel_rfl
def zero3 (m:Nat):Value:=if m % 3=0 then .int .i64 0 else if m % 3=1 then .int .i64 0 else .slice none 0 0
def CellsIn (n lo:Nat) (w:World) (cs:List Ce) (a2:Option Addr):Prop :=
 cs=[] ∨ ∃ b off,a2=some ⟨b,off,none⟩∧lo≤b∧b < w.heap.size ∧
  ∀ i,i < cs.length→∃ v0 v1 v2,w.cell? ⟨b,off+i * 3,none⟩=some v0∧w.cell? ⟨b,off+i * 3+1,none⟩=some v1∧w.cell? ⟨b,off+i * 3+2,none⟩=some v2∧CeIn (ArIn n lo w) lo w (cAt cs i) v0 v1 v2
theorem arIn_mk {n lo:Nat} {w:World} {x:Ar} {a1 a2:Option Addr} {c1 c2 k1 k2:Nat} (R:Row lo w a1 x.shape) (hl:x.cells.length≤5864062014805) (hc:CellsIn n lo w x.cells a2) (e1:x.shape.length=k1) (e2:x.cells.length=k2):ArIn (n+1) lo w x (.agg #[.slice a1 k1 c1,.slice a2 k2 c2]):=by
 subst e1
 subst e2
 exact ⟨a1,c1,a2,c2,rfl,R,hl,hc⟩
def numCs (k:Int) (l:List Int):List Ce:=l.map fun z=>(k,z,[])
theorem numCs_len (k:Int) (l:List Int):(numCs k l).length=l.length:=by simp [numCs]
theorem numCs_at (k:Int) (l:List Int) (i:Nat) (hi:i < l.length):cAt (numCs k l) i=(k,l[i]?.getD 0,[]):=by simp [cAt,numCs,hi]
def numF (k:Int) (l:List Int) (j m:Nat):Value:=if m < j * 3 then (if m % 3=0 then .int .i64 k else if m % 3=1 then .int .i64 (l[m / 3]?.getD 0) else .slice none 0 0) else zero3 m
def GivesA (n:Nat) (x:Ar) (w:World) (e:Ending) (w':World):Prop:=(∃ v,e=.returned v∧ArIn n w.heap.size w' x v)∧Below w.heap.size w w'
def numsA (l:List Int):Ar:=.mk [(l.length:Int)] (numCs 0 l)
def atomA (z:Int):Ar:=.mk [] (numCs 0 [z])
def textA (l:List Int):Ar:=if l.length=1 then .mk [] (numCs 1 l) else .mk [(l.length:Int)] (numCs 1 l)
theorem row_one {lo:Nat} {w:World} {b:Nat} {z:Int} (hb:b < w.heap.size) (hlo:lo≤b) (h:w.cell? ⟨b,0,none⟩=some (.int .i64 z)):Row lo w (some ⟨b,0,none⟩) [z]:=by
 refine ⟨by simp,Or.inr ⟨b,0,rfl,hlo,hb,?_⟩⟩
 intro i hi
 have:i=0:=by simpa using hi
 subst this
 simpa using h
theorem CeIn.low {P Q:Ar→Value→Prop} {lo lo':Nat} {w:World} {c:Ce} {v0 v1 v2:Value} (h:CeIn P lo w c v0 v1 v2) (hl:lo'≤lo) (hPQ:∀ x v,P x v→Q x v):CeIn Q lo' w c v0 v1 v2:=h.mono hl (Below.refl _ _) hPQ
theorem CellsIn.mono {n lo lo':Nat} {w w':World} {cs:List Ce} {a2:Option Addr} (h:CellsIn n lo w cs a2) (hl:lo'≤lo) (hb:Below w.heap.size w w'):CellsIn n lo' w' cs a2:=by
 rcases h with hc | ⟨b,off,ha,hlo,hbb,hc⟩
 ·exact Or.inl hc
 ·refine Or.inr ⟨b,off,ha,Nat.le_trans hl hlo,Nat.lt_of_lt_of_le hbb hb.size,fun i hi=>?_⟩
  obtain ⟨v0,v1,v2,e0,e1,e2,e3⟩:=hc i hi
  exact ⟨v0,v1,v2,(hb.cell (p:=⟨b,off+i * 3,none⟩) hbb).trans e0,(hb.cell (p:=⟨b,off+i * 3+1,none⟩) hbb).trans e1,(hb.cell (p:=⟨b,off+i * 3+2,none⟩) hbb).trans e2,e3.mono hl hb fun x v h=>h.mono hl hb⟩
def Keeps (lo:Nat) (w w':World):Prop:=w.heap.size≤w'.heap.size∧∀ b,lo≤b→b < w.heap.size→w'.heap[b]?=w.heap[b]?
theorem Keeps.refl (lo:Nat) (w:World):Keeps lo w w:=⟨Nat.le_refl _,fun _ _ _=>rfl⟩
theorem Keeps.setCell {lo:Nat} {w w':World} (h:Keeps lo w w') {p:Addr} (hp:p.block < lo) (v:Value):Keeps lo w (w'.setCell p v):=by
 refine ⟨?_,fun b h1 h2=>?_⟩
 ·have:(w'.setCell p v).heap.size=w'.heap.size:=by simp
  rw [this]; exact h.1
 ·rw [Below.heap_setCell w' p v b (by omega)]
  exact h.2 b h1 h2
theorem Keeps.cell {lo:Nat} {w w':World} (h:Keeps lo w w') {p:Addr} (h1:lo≤p.block) (h2:p.block < w.heap.size):w'.cell? p=w.cell? p:=World.cell?_of_block (w:=w) (h.2 p.block h1 h2)
theorem Row.keeps {lo:Nat} {w w':World} {a:Option Addr} {zs:List Int} (h:Row lo w a zs) (hk:Keeps lo w w'):Row lo w' a zs:=by
 obtain ⟨h2,h3⟩:=h
 refine ⟨h2,?_⟩
 rcases h3 with h3 | ⟨b,off,ha,hlo,hbb,hc⟩
 ·exact Or.inl h3
 ·exact Or.inr ⟨b,off,ha,hlo,Nat.lt_of_lt_of_le hbb hk.1,fun i hi=>(hk.cell (p:=⟨b,off+i,none⟩) hlo hbb).trans (hc i hi)⟩
theorem CeIn.keeps {P Q:Ar→Value→Prop} {lo:Nat} {w w':World} {c:Ce} {v0 v1 v2:Value} (h:CeIn P lo w c v0 v1 v2) (hk:Keeps lo w w') (hPQ:∀ x v,P x v→Q x v):CeIn Q lo w' c v0 v1 v2:=by
 obtain ⟨h0,h1,a,cap,h2,h3,h4⟩:=h
 refine ⟨h0,h1,a,cap,h2,h3,?_⟩
 rcases h4 with h4 | ⟨b,off,ha,hlo,hbb,hc⟩
 ·exact Or.inl h4
 ·refine Or.inr ⟨b,off,ha,hlo,Nat.lt_of_lt_of_le hbb hk.1,fun j hj=>?_⟩
  obtain ⟨u0,u1,e0,e1,e2⟩:=hc j hj
  exact ⟨u0,u1,(hk.cell (p:=⟨b,off+j * 2,none⟩) hlo hbb).trans e0,(hk.cell (p:=⟨b,off+j * 2+1,none⟩) hlo hbb).trans e1,hPQ _ _ e2⟩
theorem ArIn.keeps {n lo:Nat} {w w':World} {x:Ar} {v:Value} (h:ArIn n lo w x v) (hk:Keeps lo w w'):ArIn n lo w' x v:=by
 induction n generalizing x v with
 | zero=>exact h.elim
 | succ n ih =>
  obtain ⟨a1,c1,a2,c2,hv,hR,hlen,hc⟩:=h
  refine ⟨a1,c1,a2,c2,hv,hR.keeps hk,hlen,?_⟩
  rcases hc with hc | ⟨b,off,ha,hlo,hbb,hc⟩
  ·exact Or.inl hc
  ·refine Or.inr ⟨b,off,ha,hlo,Nat.lt_of_lt_of_le hbb hk.1,fun i hi=>?_⟩
   obtain ⟨v0,v1,v2,e0,e1,e2,e3⟩:=hc i hi
   exact ⟨v0,v1,v2,(hk.cell (p:=⟨b,off+i * 3,none⟩) hlo hbb).trans e0,(hk.cell (p:=⟨b,off+i * 3+1,none⟩) hlo hbb).trans e1,(hk.cell (p:=⟨b,off+i * 3+2,none⟩) hlo hbb).trans e2,e3.keeps hk fun x v h=>ih h⟩
theorem CellsIn.keeps {n lo:Nat} {w w':World} {cs:List Ce} {a2:Option Addr} (h:CellsIn n lo w cs a2) (hk:Keeps lo w w'):CellsIn n lo w' cs a2:=by
 rcases h with hc | ⟨b,off,ha,hlo,hbb,hc⟩
 ·exact Or.inl hc
 ·refine Or.inr ⟨b,off,ha,hlo,Nat.lt_of_lt_of_le hbb hk.1,fun i hi=>?_⟩
  obtain ⟨v0,v1,v2,e0,e1,e2,e3⟩:=hc i hi
  exact ⟨v0,v1,v2,(hk.cell (p:=⟨b,off+i * 3,none⟩) hlo hbb).trans e0,(hk.cell (p:=⟨b,off+i * 3+1,none⟩) hlo hbb).trans e1,(hk.cell (p:=⟨b,off+i * 3+2,none⟩) hlo hbb).trans e2,e3.keeps hk fun x v h=>h.keeps hk⟩
theorem frozen_new (w:World) (cs:Array Value) (t:TypeId) (i:Nat):(w.alloc (.cells cs t)).frozen? ⟨w.heap.size,i,none⟩=false:=by
 have:(w.alloc (.cells cs t)).heap[w.heap.size]?=some (.cells cs t):=by
  show (w.heap.push _)[w.heap.size]?=_
  simp
 unfold World.frozen?
 simp only [this]
 simp
theorem set_two {w:World} {s:Nat} {u v:Value} (h0:w.cell? ⟨s,0,none⟩=some u) (h1:w.cell? ⟨s,1,none⟩=some v) (x y:Value):(w.setCell ⟨s,0,none⟩ x).cell? ⟨s,0,none⟩=some x∧((w.setCell ⟨s,0,none⟩ x).setCell ⟨s,1,none⟩ y).cell? ⟨s,1,none⟩=some y:=by
 refine ⟨World.cell?_setCell_same' _ _ _ (by rw [h0]; rfl),World.cell?_setCell_same' _ _ _ ?_⟩
 rw [World.cell?_setCell_other _ _ _ _ (by simp),h1]
 rfl
end Go.Proofs.Ytnaejfoighmfeaa
namespace Go.Proofs.Ytnaejfoighmfeaa
open Go.ChangeShapes Go.WideShapes Go.ChangeAt Go.RowKit
set_option linter.unusedVariables false
def CmpC (k n:Nat):Prop:=∀ x y lo lo' va vb w,ArIn n lo w x va→ArIn n lo' w y vb→Calls Try.prog k #[va,vb] w fun e w'=>e=.returned (.int .i64 (cmpA n x y))∧Below w.heap.size w w'
theorem two_allocs (w:World) (o1 o2:Obj):Below w.heap.size w ((w.alloc o1).alloc o2):=((Below.refl _ _).alloc (Nat.le_refl _) _).alloc (by simp) _
theorem cell_two {w:World} {b off:Nat} {v:Value} (h:w.cell? ⟨b,off,none⟩=some v) (hb:b < w.heap.size) (o1 o2:Obj):((w.alloc o1).alloc o2).cell? ⟨b,off,none⟩=some v :=
 ((two_allocs w o1 o2).cell (p:=⟨b,off,none⟩) hb).trans h
theorem cmp3_self (a:Int):cmp3 a a=0:=by simp [cmp3]
theorem cmp3_ne {a b:Int}:cmp3 a b ≠ 0 ↔ a ≠ b:=by
 unfold cmp3
 constructor
 ·intro h e; subst e; simp at h
 ·intro h
  by_cases h1:a < b
  ·simp [h1]
  ·have:b < a:=by omega
   simp [h1,this]
end Go.Proofs.Ytnaejfoighmfeaa
namespace Go.Proofs.Ytnaejfoighmfeaa
open Go.ChangeShapes Go.WideShapes Go.ChangeAt Go.RowKit
set_option linter.unusedVariables false
def softO:Obj→Prop
 | .cells _ _ f=>f=(0,0)
 | _=>True
def Fz (w w':World):Prop:=w.heap.size≤w'.heap.size∧(∀ p:Addr,p.block < w.heap.size→w'.frozen? p=w.frozen? p)∧∀ p:Addr,w.heap.size≤p.block→w'.frozen? p=false
theorem frozen_end {w:World} {p:Addr} (h:w.heap.size≤p.block):w.frozen? p=false:=by
 unfold World.frozen?
 rw [Array.getElem?_eq_none h]
theorem Fz.refl (w:World):Fz w w:=⟨Nat.le_refl _,fun _ _=>rfl,fun _ h=>frozen_end h⟩
theorem Fz.trans {a b c:World} (h:Fz a b) (k:Fz b c):Fz a c:=by
 refine ⟨Nat.le_trans h.1 k.1,fun p hp=>(k.2.1 p (Nat.lt_of_lt_of_le hp h.1)).trans (h.2.1 p hp),fun p hp=>?_⟩
 by_cases hb:p.block < b.heap.size
 ·exact (k.2.1 p hb).trans (h.2.2 p hp)
 ·exact k.2.2 p (by omega)
theorem Fz.setCell (w:World) (q:Addr) (v:Value):Fz w (w.setCell q v):=⟨by simp,fun p _=>by simp,fun p hp=>by simpa using frozen_end hp⟩
theorem Fz.alloc (w:World) (o:Obj) (ho:softO o):Fz w (w.alloc o):=by
 refine ⟨by simp,fun p hp=>World.frozen?_of_block (w:=w) (Below.heap_alloc w o _ hp),fun p hp=>?_⟩
 unfold World.frozen?
 have e:(w.alloc o).heap[p.block]?=if p.block=w.heap.size then some o else w.heap[p.block]?:=by
  show (w.heap.push o)[p.block]?=_
  rw [Array.getElem?_push]
 rw [e]
 by_cases h:p.block=w.heap.size
 ·rw [if_pos h]
  cases o with
  | cells c t f=>have:f=(0,0):=ho; subst this; simp
  | _=>rfl
 ·rw [if_neg h,Array.getElem?_eq_none hp]
structure BelowS (B:Nat) (w w':World):Prop where
 b:Below B w w'
 z:Fz w w'
instance {B:Nat} {w w':World}:Coe (BelowS B w w') (Below B w w'):=⟨BelowS.b⟩
namespace BelowS
variable {B B':Nat} {a b c w w':World}
theorem refl (B:Nat) (w:World):BelowS B w w:=⟨Below.refl _ _,Fz.refl _⟩
theorem trans (h:BelowS B a b) (k:BelowS B b c):BelowS B a c:=⟨h.b.trans k.b,h.z.trans k.z⟩
theorem mono (h:BelowS B w w') (hB:B'≤B):BelowS B' w w':=⟨h.b.mono hB,h.z⟩
theorem drew (h:BelowS B a w):BelowS B a w.drew:=⟨h.b.drew,h.z⟩
theorem heap_setCell (w:World) (a:Addr) (u:Value) (k:Nat) (h:k ≠ a.block):(w.setCell a u).heap[k]?=w.heap[k]?:=Below.heap_setCell w a u k h
theorem alloc (h:BelowS B a w) (hB:B≤w.heap.size) (o:Obj) (ho:softO o:=by exact rfl):BelowS B a (w.alloc o):=⟨h.b.alloc hB o,h.z.trans (Fz.alloc w o ho)⟩
theorem setCell (h:BelowS B a w) {p:Addr} (hp:B≤p.block) (u:Value):BelowS B a (w.setCell p u):=⟨h.b.setCell hp u,h.z.trans (Fz.setCell w p u)⟩
theorem size (h:BelowS B w w'):w.heap.size≤w'.heap.size:=h.b.size
theorem block (h:BelowS B w w'):∀ k,k < B→w'.heap[k]?=w.heap[k]?:=h.b.block
theorem cell (h:BelowS B w w') {p:Addr} (hp:p.block < B):w'.cell? p=w.cell? p:=h.b.cell hp
theorem frozen (h:BelowS B w w') {p:Addr} (hp:p.block < B):w'.frozen? p=w.frozen? p:=h.b.frozen hp
end BelowS
end Go.Proofs.Ytnaejfoighmfeaa
namespace Go.Proofs.Ytnaejfoighmfeaa
open Go.ChangeShapes Go.WideShapes Go.ChangeAt Go.RowKit
set_option linter.unusedVariables false
set_option linter.unusedSimpArgs false
def frm (n a b:Int):Bool:=decide (a≤n∧n≤b)
theorem frm_yes {n a b:Int} (h1:a≤n) (h2:n≤b):frm n a b=true:=decide_eq_true ⟨h1,h2⟩
theorem frm_lo {n a b:Int} (h1:¬ a≤n):frm n a b=false:=decide_eq_false fun h=>h1 h.1
theorem frm_hi {n a b:Int} (h2:¬ n≤b):frm n a b=false:=decide_eq_false fun h=>h2 h.2
theorem letter35 (n:Int) (w:World):Calls Try.prog 96 #[.int .u8 n] w fun e w'=>e=.returned (.bool (frm n 97 119))∧Below w.heap.size w w':=by
 by_cases h1:97≤n
 ·by_cases h2:n≤119
  ·rw [frm_yes h1 h2]
   go_enter Try.func96,Try.ntmps96
   go_wp2
   go_ret
   exact ⟨rfl,Below.refl _ _⟩
  ·rw [frm_hi h2]
   go_enter Try.func96,Try.ntmps96
   go_wp2
   go_ret
   exact ⟨rfl,Below.refl _ _⟩
 ·rw [frm_lo h1]
  go_enter Try.func96,Try.ntmps96
  go_wp2
  go_ret
  exact ⟨rfl,Below.refl _ _⟩
theorem digit36 (n:Int) (w:World):Calls Try.prog 97 #[.int .u8 n] w fun e w'=>e=.returned (.bool (frm n 48 57))∧Below w.heap.size w w':=by
 by_cases h1:48≤n
 ·by_cases h2:n≤57
  ·rw [frm_yes h1 h2]
   go_enter Try.func97,Try.ntmps97
   go_wp2
   go_ret
   exact ⟨rfl,Below.refl _ _⟩
  ·rw [frm_hi h2]
   go_enter Try.func97,Try.ntmps97
   go_wp2
   go_ret
   exact ⟨rfl,Below.refl _ _⟩
 ·rw [frm_lo h1]
  go_enter Try.func97,Try.ntmps97
  go_wp2
  go_ret
  exact ⟨rfl,Below.refl _ _⟩
end Go.Proofs.Ytnaejfoighmfeaa
namespace Go.Proofs.Ytnaejfoighmfeaa
open Go.ChangeShapes Go.WideShapes Go.ChangeAt Go.RowKit
noncomputable instance (l at':List Int):Decidable (inAxes l at'):=Classical.propDecidable _
noncomputable def plcV (l m:List Int):Int:=if sizeE l=0∧inAxes l m then place l m else 0
noncomputable def plcE (l m:List Int):Int:=if sizeE l ≠ 0 then sizeE l else if m.length ≠ l.length then 6 else if inAxes l m then 0 else 8
theorem sizeE_ok {l:List Int} (h:sizeE l=0):¬ 8 < l.length∧¬ hasNeg l∧(hasZero l ∨ (¬ hasZero l∧prodL l≤16384)):=by
 unfold sizeE at h
 by_cases h8:8 < l.length
 ·simp [h8] at h
 ·by_cases hn:hasNeg l
  ·simp [h8,hn] at h
  ·by_cases hz:hasZero l
   ·exact ⟨h8,hn,Or.inl hz⟩
   ·by_cases hm:16384 < prodL l
    ·simp [h8,hn,hz,hm] at h
    ·exact ⟨h8,hn,Or.inr ⟨hz,by omega⟩⟩
end Go.Proofs.Ytnaejfoighmfeaa
namespace Go.Proofs.Ytnaejfoighmfeaa
open Go.ChangeShapes Go.WideShapes Go.ChangeAt Go.RowKit
theorem drewN_below {B:Nat} {w wr:World} (h:Below B w wr) (m:Nat):Below B w (wr.drewN m):=⟨h.os,h.tape,h.output,h.size,h.block⟩
theorem int3:(Try.prog.info? 3).map (fun i=>(i.zero,i.size,i.bytes))=some (some (.int .i64 0),1,8):=by kernel_rfl
theorem sizeV_in {l:List Int} {n:Int} (hs:sizeE l=0) (h0:0≤n) (h1:n < sizeV l):¬ 8 < l.length∧(∀ z ∈ l,0 < z)∧sizeV l=prodL l∧prodL l≤16384:=by
 obtain ⟨a,b,c⟩:=sizeE_ok hs
 rcases c with c | ⟨c,d⟩
 ·rw [(size_zero a b c).1] at h1
  omega
 ·exact ⟨a,all_pos b c,(size_ok a b c (by omega)).1,d⟩
end Go.Proofs.Ytnaejfoighmfeaa
namespace Go.Proofs.Ytnaejfoighmfeaa
open Go.ChangeShapes Go.WideShapes Go.ChangeAt Go.RowKit
set_option linter.unusedVariables false
theorem cell_new (w:World) (cs:Array Value) (t:TypeId) (fr:Nat × Nat) (i:Nat) (v:Value) (h:cs[i]?=some v):(w.alloc (.cells cs t fr)).cell? ⟨w.heap.size,i,none⟩=some v:=by
 have:(w.alloc (.cells cs t fr)).heap[w.heap.size]?=some (.cells cs t fr):=by
  show (w.heap.push _)[w.heap.size]?=_
  simp
 unfold World.cell?
 simp only [this,h]
 rfl
theorem cell_new1 (w:World) (cs:Array Value) (t:TypeId) (fr:Nat × Nat) (o2:Obj) (i:Nat) (v:Value) (h:cs[i]?=some v):((w.alloc (.cells cs t fr)).alloc o2).cell? ⟨w.heap.size,i,none⟩=some v :=
 (((Below.refl _ _).alloc (Nat.le_refl _) o2).cell (p:=⟨w.heap.size,i,none⟩) (by simp)).trans (cell_new w cs t fr i v h)
theorem cell_new2 (w:World) (cs:Array Value) (t:TypeId) (fr:Nat × Nat) (o1:Obj) (i:Nat) (v:Value) (h:cs[i]?=some v):((w.alloc o1).alloc (.cells cs t fr)).cell? ⟨w.heap.size+1,i,none⟩=some v:=by
 have:=cell_new (w.alloc o1) cs t fr i v h
 simpa using this
theorem size_two (w:World) (o1 o2:Obj):((w.alloc o1).alloc o2).heap.size=w.heap.size+2:=by simp
end Go.Proofs.Ytnaejfoighmfeaa
namespace Go.Proofs.Ytnaejfoighmfeaa
open Go.ChangeShapes Go.WideShapes Go.ChangeAt Go.RowKit
set_option maxHeartbeats 1000000 in
theorem ref_ints (a b:Int) (w:World):Calls Try.prog 43 #[.int .i64 a,.int .i64 b] w fun e w'=>e=.returned (.int .i64 (cmp3 a b))∧w'=w:=by
 have e1:a < b→cmp3 a b=-1:=fun h=>by simp [cmp3,h]
 have e2:b < a→cmp3 a b=1:=fun h=>by simp [cmp3,h,Int.not_lt.2 (Int.le_of_lt h)]
 have e3:¬ a < b→¬ b < a→cmp3 a b=0:=fun h h'=>by simp [cmp3,h,h']
 by_cases h1:a < b
 ·rw [e1 h1]
  go_enter Try.func43,Try.ntmps43
  go_wp2
  go_ret
  exact ⟨rfl,rfl⟩
 ·by_cases h2:b < a
  ·rw [e2 h2]
   go_enter Try.func43,Try.ntmps43
   go_wp2
   go_ret
   exact ⟨rfl,rfl⟩
  ·rw [e3 h1 h2]
   go_enter Try.func43,Try.ntmps43
   go_wp2
   go_ret
   exact ⟨rfl,rfl⟩
end Go.Proofs.Ytnaejfoighmfeaa
namespace Go.Proofs.Ytnaejfoighmfeaa
open Go.ChangeShapes Go.WideShapes Go.ChangeAt Go.RowKit
set_option linter.unusedVariables false
set_option maxHeartbeats 1000000 in
theorem rcell_any (n:Nat) (IH:CmpC 23 n) (c d:Ce) (lo lo':Nat) (w:World) (v0 v1 v2 u0 u1 u2:Value) (hc:CeIn (ArIn n lo w) lo w c v0 v1 v2) (hd:CeIn (ArIn n lo' w) lo' w d u0 u1 u2) :
  Calls Try.prog 44 #[.agg #[v0,v1,v2],.agg #[u0,u1,u2]] w fun e w'=>e=.returned (.int .i64 (cmpC (cmpA n) c d))∧Below w.heap.size w w':=by
 obtain ⟨rfl,rfl,a,cap,rfl,hl,hx⟩:=hc
 obtain ⟨rfl,rfl,a',cap',rfl,hl',hx'⟩:=hd
 obtain ⟨k,N,box⟩:=c
 obtain ⟨k',N',box'⟩:=d
 simp only at hl hl' hx hx' ⊢
 have K1:Hid (cmp3 k k' ≠ 0→cmpC (cmpA n) (k,N,box) (k',N',box')=cmp3 k k'):=fun h=>by simp [cmpC,h]
 have K2:Hid (¬ cmp3 k k' ≠ 0→cmp3 N N' ≠ 0→cmpC (cmpA n) (k,N,box) (k',N',box')=cmp3 N N'):=fun h h'=>by simp [cmpC,h,h']
 have K3:Hid (¬ cmp3 k k' ≠ 0→¬ cmp3 N N' ≠ 0→0 < box.length∧0 < box'.length→cmpC (cmpA n) (k,N,box) (k',N',box')=cmpA n (bAt box 0) (bAt box' 0)):=fun h h' h''=>by
  unfold cmpC; rw [if_neg h,if_neg h',if_pos h'']
 have K4:Hid (¬ cmp3 k k' ≠ 0→¬ cmp3 N N' ≠ 0→¬ (0 < box.length∧0 < box'.length)→cmpC (cmpA n) (k,N,box) (k',N',box')=cmp3 box.length box'.length):=fun h h' h''=>by
  unfold cmpC; rw [if_neg h,if_neg h',if_neg h'']
 generalize cmpC (cmpA n) (k,N,box) (k',N',box')=r at K1 K2 K3 K4
 by_cases h1:cmp3 k k' ≠ 0
 ·have hr:Hid (r=cmp3 k k'):=K1.out h1
  clear K1 K2 K3 K4 hx hx'
  generalize box.length=B1
  generalize box'.length=B2
  go_enter Try.func44,Try.ntmps44
  go_wp2_with fail
  refine (ref_ints _ _ _).mono ?_
  rintro e w1 ⟨rfl,hw⟩
  rw [hw]
  clear hw
  go_wp2
  go_ret
  exact ⟨retI hr.out.symm,two_allocs _ _ _⟩
 ·have H1:Hid (¬ cmp3 k k' ≠ 0):=h1
  have z1:cmp3 k k'=0:=by simpa using h1
  clear h1 K1
  by_cases h2:cmp3 N N' ≠ 0
  ·have hr:Hid (r=cmp3 N N'):=K2.out H1.out h2
   clear K2 K3 K4 hx hx'
   generalize box.length=B1
   generalize box'.length=B2
   go_enter Try.func44,Try.ntmps44
   go_wp2_with fail
   refine (ref_ints _ _ _).mono ?_
   rintro e w1 ⟨rfl,hw⟩
   rw [hw,z1]
   clear hw
   go_wp2_with fail
   refine (ref_ints _ _ _).mono ?_
   rintro e w1 ⟨rfl,hw⟩
   rw [hw]
   clear hw
   go_wp2
   go_ret
   exact ⟨retI hr.out.symm,two_allocs _ _ _⟩
  ·have H2:Hid (¬ cmp3 N N' ≠ 0):=h2
   have z2:cmp3 N N'=0:=by simpa using h2
   clear h2 K2
   by_cases h3:0 < box.length∧0 < box'.length
   ·have hr:Hid (r=cmpA n (bAt box 0) (bAt box' 0)):=K3.out H1.out H2.out h3
    rcases hx with hx | ⟨b,off,rfl,hlo,hb,hx⟩
    ·rw [hx] at h3; simp at h3
    rcases hx' with hx' | ⟨b',off',rfl,hlo',hb',hx'⟩
    ·rw [hx'] at h3; simp at h3
    obtain ⟨s0,s1,e0,e1,e2⟩:=hx 0 h3.1
    obtain ⟨t0,t1,f0,f1,f2⟩:=hx' 0 h3.2
    simp only [Nat.zero_mul,Nat.add_zero] at e0 e1 f0 f1
    have g0:=cell_two e0 hb
    have g1:=cell_two e1 hb
    have j0:=cell_two f0 hb'
    have j1:=cell_two f1 hb'
    obtain ⟨h3a,h3b⟩:=h3
    have HX:Hid (Calls Try.prog 23 #[.agg #[s0,s1],.agg #[t0,t1]] ((w.alloc (.cells #[.int .i64 k,.int .i64 N,.slice (some ⟨b,off,none⟩) box.length cap] 84)).alloc (.cells #[.int .i64 k',.int .i64 N',.slice (some ⟨b',off',none⟩) box'.length cap'] 84)).drew fun e w'=>e=.returned (.int .i64 r)∧Below w.heap.size w w'):=by
     have hbel:=(two_allocs w (.cells #[.int .i64 k,.int .i64 N,.slice (some ⟨b,off,none⟩) box.length cap] 84) (.cells #[.int .i64 k',.int .i64 N',.slice (some ⟨b',off',none⟩) box'.length cap'] 84)).drew
     refine (IH _ _ lo lo' _ _ _ (e2.next hbel) (f2.next hbel)).mono ?_
     rintro e w1 ⟨rfl,hb1⟩
     exact ⟨retI hr.out.symm,hbel.trans (hb1.mono hbel.size)⟩
    clear K3 K4 hx hx' IH e2 f2 e0 e1 f0 f1 hr H1 H2
    generalize box.length=B1 at h3a hl HX
    generalize box'.length=B2 at h3b hl' HX
    go_enter Try.func44,Try.ntmps44
    go_wp2_with fail
    refine (ref_ints _ _ _).mono ?_
    rintro e w1 ⟨rfl,hw⟩
    rw [hw,z1]
    clear hw
    go_wp2_with fail
    refine (ref_ints _ _ _).mono ?_
    rintro e w1 ⟨rfl,hw⟩
    rw [hw,z2]
    clear hw z1 z2
    go_wp2
    go_region_with (go_at_call 23; refine HX.out.mono ?_; rintro e w1 ⟨rfl,hb1⟩)
    all_goals go_wp2
    all_goals go_ret
    all_goals exact ⟨rfl,hb1⟩
   ·have hr:Hid (r=cmp3 box.length box'.length):=K4.out H1.out H2.out h3
    clear K3 K4 hx hx' IH H1 H2
    generalize box.length=B1 at h3 hl hr
    generalize box'.length=B2 at h3 hl' hr
    by_cases h4:0 < B1
    ·have h5:B2=0:=by omega
     subst h5
     clear h3
     go_enter Try.func44,Try.ntmps44
     go_wp2_with fail
     refine (ref_ints _ _ _).mono ?_
     rintro e w1 ⟨rfl,hw⟩
     rw [hw,z1]
     clear hw
     go_wp2_with fail
     refine (ref_ints _ _ _).mono ?_
     rintro e w1 ⟨rfl,hw⟩
     rw [hw,z2]
     clear hw z1 z2
     go_wp2_with fail
     refine (ref_ints _ _ _).mono ?_
     rintro e w1 ⟨rfl,hw⟩
     rw [hw]
     clear hw
     go_wp2
     go_ret
     exact ⟨retI hr.out.symm,two_allocs _ _ _⟩
    ·have h5:B1=0:=by omega
     subst h5
     clear h3 h4
     go_enter Try.func44,Try.ntmps44
     go_wp2_with fail
     refine (ref_ints _ _ _).mono ?_
     rintro e w1 ⟨rfl,hw⟩
     rw [hw,z1]
     clear hw
     go_wp2_with fail
     refine (ref_ints _ _ _).mono ?_
     rintro e w1 ⟨rfl,hw⟩
     rw [hw,z2]
     clear hw z1 z2
     go_wp2_with fail
     refine (ref_ints _ _ _).mono ?_
     rintro e w1 ⟨rfl,hw⟩
     rw [hw]
     clear hw
     go_wp2
     go_ret
     exact ⟨retI hr.out.symm,two_allocs _ _ _⟩
end Go.Proofs.Ytnaejfoighmfeaa
namespace Go.Proofs.Ytnaejfoighmfeaa
open Go.ChangeShapes Go.WideShapes Go.ChangeAt Go.RowKit
set_option linter.unusedVariables false
theorem hide {p:Prop} (h:p):Hid p:=h
theorem firstUp_zero {f:Nat→Int} {m:Nat} (h:firstUp f m=0) (j:Nat) (hj:j≤m):firstUp f j=0 :=
 Decidable.byContradiction fun h'=>h' (by rw [←firstUp_stays h' m hj]; exact h)
set_option maxHeartbeats 2000000 in
theorem rcmp_any (n:Nat):CmpC 23 n:=by
 induction n with
 | zero=>intro x y lo lo' va vb w hx; exact hx.elim
 | succ n IH =>
  intro x y lo lo' va vb w hx hy
  obtain ⟨a1,c1,a2,c2,rfl,R,hl,hc⟩:=hx
  obtain ⟨b1,d1,b2,d2,rfl,R',hl',hd⟩:=hy
  have hlR:=R.1
  have hlR':=R'.1
  have K1:Hid (cmp3 x.shape.length y.shape.length ≠ 0→cmpA (n+1) x y=cmp3 x.shape.length y.shape.length):=fun h=>by simp only [cmpA]; rw [if_pos h]
  have K2:Hid (¬ cmp3 x.shape.length y.shape.length ≠ 0→firstUp (axF x y) x.shape.length ≠ 0→cmpA (n+1) x y=firstUp (axF x y) x.shape.length):=fun h h'=>by simp only [cmpA]; rw [if_neg h,if_pos h']
  have K3:Hid (¬ cmp3 x.shape.length y.shape.length ≠ 0→¬ firstUp (axF x y) x.shape.length ≠ 0→firstUp (ceF (cmpA n) x y) (min x.cells.length y.cells.length) ≠ 0→cmpA (n+1) x y=firstUp (ceF (cmpA n) x y) (min x.cells.length y.cells.length)):=fun h h' h''=>by simp only [cmpA]; rw [if_neg h,if_neg h',if_pos h'']
  have K4:Hid (¬ cmp3 x.shape.length y.shape.length ≠ 0→¬ firstUp (axF x y) x.shape.length ≠ 0→¬ firstUp (ceF (cmpA n) x y) (min x.cells.length y.cells.length) ≠ 0→cmpA (n+1) x y=cmp3 x.cells.length y.cells.length):=fun h h' h''=>by simp only [cmpA]; rw [if_neg h,if_neg h',if_neg h'']
  generalize cmpA (n+1) x y=r at K1 K2 K3 K4
  have hb0:=two_allocs w (.cells #[.slice a1 x.shape.length c1,.slice a2 x.cells.length c2] 36) (.cells #[.slice b1 y.shape.length d1,.slice b2 y.cells.length d2] 36)
  have sz:=size_two w (.cells #[.slice a1 x.shape.length c1,.slice a2 x.cells.length c2] 36) (.cells #[.slice b1 y.shape.length d1,.slice b2 y.cells.length d2] 36)
  have A0:=cell_new1 w #[.slice a1 x.shape.length c1,.slice a2 x.cells.length c2] 36 (0,0) (.cells #[.slice b1 y.shape.length d1,.slice b2 y.cells.length d2] 36) 0 _ rfl
  have A1:=cell_new1 w #[.slice a1 x.shape.length c1,.slice a2 x.cells.length c2] 36 (0,0) (.cells #[.slice b1 y.shape.length d1,.slice b2 y.cells.length d2] 36) 1 _ rfl
  have B0:=cell_new2 w #[.slice b1 y.shape.length d1,.slice b2 y.cells.length d2] 36 (0,0) (.cells #[.slice a1 x.shape.length c1,.slice a2 x.cells.length c2] 36) 0 _ rfl
  have B1:=cell_new2 w #[.slice b1 y.shape.length d1,.slice b2 y.cells.length d2] 36 (0,0) (.cells #[.slice a1 x.shape.length c1,.slice a2 x.cells.length c2] 36) 1 _ rfl
  obtain ⟨W2,eW⟩:∃ W2,W2=(w.alloc (.cells #[.slice a1 x.shape.length c1,.slice a2 x.cells.length c2] 36)).alloc (.cells #[.slice b1 y.shape.length d1,.slice b2 y.cells.length d2] 36):=⟨_,rfl⟩
  rw [←eW] at hb0 sz A0 A1 B0 B1
  have HA:Hid (∀ wr,Below (w.heap.size+2) W2 wr→wr.cell? ⟨w.heap.size,0,none⟩=some (.slice a1 x.shape.length c1)∧wr.cell? ⟨w.heap.size,1,none⟩=some (.slice a2 x.cells.length c2)∧wr.cell? ⟨w.heap.size+1,0,none⟩=some (.slice b1 y.shape.length d1)∧wr.cell? ⟨w.heap.size+1,1,none⟩=some (.slice b2 y.cells.length d2)):=by
   intro wr hb
   exact ⟨(hb.cell (p:=⟨w.heap.size,0,none⟩) (by show w.heap.size < _; omega)).trans A0,(hb.cell (p:=⟨w.heap.size,1,none⟩) (by show w.heap.size < _; omega)).trans A1,(hb.cell (p:=⟨w.heap.size+1,0,none⟩) (by show w.heap.size+1 < _; omega)).trans B0,(hb.cell (p:=⟨w.heap.size+1,1,none⟩) (by show w.heap.size+1 < _; omega)).trans B1⟩
  have HW:Hid (∀ wr,Below (w.heap.size+2) W2 wr→Below w.heap.size w wr):=fun wr hb=>hb0.trans (hb.mono (by omega))
  have HS:Hid (∀ i,i < x.shape.length→i < y.shape.length→∃ b off b' off' s t,a1=some ⟨b,off,none⟩∧b1=some ⟨b',off',none⟩∧axF x y i=cmp3 s t∧∀ wr,Below (w.heap.size+2) W2 wr→wr.cell? ⟨b,off+i,none⟩=some (.int .i64 s)∧wr.cell? ⟨b',off'+i,none⟩=some (.int .i64 t)):=by
   intro i hi hi'
   obtain ⟨b,off,ha,hb,hck⟩:=row_at R hi
   obtain ⟨b',off',ha',hb',hck'⟩:=row_at R' hi'
   exact ⟨b,off,b',off',_,_,ha,ha',rfl,fun wr hw=>⟨((HW.out wr hw).cell (p:=⟨b,off+i,none⟩) hb).trans hck,((HW.out wr hw).cell (p:=⟨b',off'+i,none⟩) hb').trans hck'⟩⟩
  have HC:Hid (∀ i,i < x.cells.length→i < y.cells.length→∃ b off b' off' v0 v1 v2 u0 u1 u2,a2=some ⟨b,off,none⟩∧b2=some ⟨b',off',none⟩∧∀ wr,Below (w.heap.size+2) W2 wr→(wr.cell? ⟨b,off+i * 3,none⟩=some v0∧wr.cell? ⟨b,off+i * 3+1,none⟩=some v1∧wr.cell? ⟨b,off+i * 3+2,none⟩=some v2)∧(wr.cell? ⟨b',off'+i * 3,none⟩=some u0∧wr.cell? ⟨b',off'+i * 3+1,none⟩=some u1∧wr.cell? ⟨b',off'+i * 3+2,none⟩=some u2) ∧
    Calls Try.prog 44 #[.agg #[v0,v1,v2],.agg #[u0,u1,u2]] wr.drew fun e w'=>e=.returned (.int .i64 (ceF (cmpA n) x y i))∧Below (w.heap.size+2) W2 w'):=by
   intro i hi hi'
   rcases hc with hc | ⟨b,off,ha,hlo,hb,hc⟩
   ·rw [hc] at hi; simp at hi
   rcases hd with hd | ⟨b',off',ha',hlo',hb',hd⟩
   ·rw [hd] at hi'; simp at hi'
   obtain ⟨v0,v1,v2,e0,e1,e2,e3⟩:=hc i hi
   obtain ⟨u0,u1,u2,f0,f1,f2,f3⟩:=hd i hi'
   refine ⟨b,off,b',off',v0,v1,v2,u0,u1,u2,ha,ha',?_⟩
   intro wr hw
   have hbw:=HW.out wr hw
   refine ⟨⟨(hbw.cell (p:=⟨b,off+i * 3,none⟩) hb).trans e0,(hbw.cell (p:=⟨b,off+i * 3+1,none⟩) hb).trans e1,(hbw.cell (p:=⟨b,off+i * 3+2,none⟩) hb).trans e2⟩,
    ⟨(hbw.cell (p:=⟨b',off'+i * 3,none⟩) hb').trans f0,(hbw.cell (p:=⟨b',off'+i * 3+1,none⟩) hb').trans f1,(hbw.cell (p:=⟨b',off'+i * 3+2,none⟩) hb').trans f2⟩,?_⟩
   have hbm:=hbw.drew
   refine (rcell_any n IH _ _ lo lo' wr.drew _ _ _ _ _ _ (e3.mono (Nat.le_refl _) hbm fun x v h=>h.next hbm) (f3.mono (Nat.le_refl _) hbm fun x v h=>h.next hbm)).mono ?_
   rintro e w2 ⟨he,hb2⟩
   have hws:=hw.size
   exact ⟨he,hw.drew.trans (hb2.mono (by show w.heap.size+2≤wr.heap.size; omega))⟩
  have HR:Hid (Below (w.heap.size+2) W2 W2):=Below.refl _ _
  clear hc hd R R' IH A0 B0 A1 B1 hb0 sz
  have HZ1:Hid (firstUp (axF x y) 0=0∧firstUp (ceF (cmpA n) x y) 0=0):=⟨rfl,rfl⟩
  have HE:Hid (¬ cmp3 x.shape.length y.shape.length ≠ 0→x.shape.length=y.shape.length):=fun h1=>Decidable.byContradiction fun h=>h1 (cmp3_ne.2 (by omega))
  generalize axF x y=ax at *
  generalize ceF (cmpA n) x y=ce at *
  generalize x.shape.length=SA at *
  generalize y.shape.length=SB at *
  generalize x.cells.length=CA at *
  generalize y.cells.length=CB at *
  obtain ⟨r1,er1⟩:∃ r1,cmp3 SA SB=r1:=⟨_,rfl⟩
  rw [er1] at K1 K2 K3 K4 HE
  by_cases h1:r1 ≠ 0
  ·have hr:Hid (r=r1):=K1.out h1
   clear K1 K2 K3 K4 HS HC
   go_enter Try.func23,Try.ntmps23
   go_wp2_with fail
   refine (ref_ints _ _ _).mono ?_
   rintro e w1 ⟨rfl,hw⟩
   rw [hw,er1,← eW]
   clear hw eW
   go_wp2
   go_loopw [5,6] (fun o i wr=>o=.int .i64 r1∧i=.int .i64 0∧Below (w.heap.size+2) W2 wr) (fun _ i _=>0)
   case atStart=>exact ⟨rfl,rfl,HR.out⟩
   case round =>
    obtain ⟨rfl,rfl,hnx⟩:=hrel
    obtain ⟨q0,q1,q2,q3⟩:=HA.out _ hnx
    have HX:Hid (Below (w.heap.size+2) W2 wr):=hnx
    by_cases gS:0 < SA
    ·go_wp2
     clear q0 q1 q2 q3 hnx
     go_loopw [5,7] (fun o i wr=>o=.int .i64 r1∧i=.int .i64 0∧Below (w.heap.size+2) W2 wr) (fun _ i _=>0)
     case atStart=>exact ⟨rfl,rfl,HX.out⟩
     case round =>
      obtain ⟨rfl,rfl,hnx⟩:=hrel
      obtain ⟨q0,q1,q2,q3⟩:=HA.out _ hnx
      by_cases gA:0 < CA
      ·by_cases gB:0 < CB
       ·go_wp2
        go_ret
        exact ⟨retI hr.out.symm,HW.out _ hnx⟩
       ·have gB0:CB=0:=by omega
        subst gB0
        go_wp2
        go_ret
        exact ⟨retI hr.out.symm,HW.out _ hnx⟩
      ·have gA0:CA=0:=by omega
       subst gA0
       go_wp2
       go_ret
       exact ⟨retI hr.out.symm,HW.out _ hnx⟩
    ·have gS0:SA=0:=by omega
     subst gS0
     go_wp2
     clear q0 q1 q2 q3 hnx
     go_loopw [5,7] (fun o i wr=>o=.int .i64 r1∧i=.int .i64 0∧Below (w.heap.size+2) W2 wr) (fun _ i _=>0)
     case atStart=>exact ⟨rfl,rfl,HX.out⟩
     case round =>
      obtain ⟨rfl,rfl,hnx⟩:=hrel
      obtain ⟨q0,q1,q2,q3⟩:=HA.out _ hnx
      by_cases gA:0 < CA
      ·by_cases gB:0 < CB
       ·go_wp2
        go_ret
        exact ⟨retI hr.out.symm,HW.out _ hnx⟩
       ·have gB0:CB=0:=by omega
        subst gB0
        go_wp2
        go_ret
        exact ⟨retI hr.out.symm,HW.out _ hnx⟩
      ·have gA0:CA=0:=by omega
       subst gA0
       go_wp2
       go_ret
       exact ⟨retI hr.out.symm,HW.out _ hnx⟩
  ·have H1:Hid (¬ r1 ≠ 0):=h1
   have hS:=HE.out h1
   have z1:r1=0:=by simpa using h1
   subst z1
   subst hS
   clear h1 K1 HE
   obtain ⟨F1,eF1⟩:∃ F1,firstUp ax SA=F1:=⟨_,rfl⟩
   have HF1:Hid (firstUp ax SA=F1):=eF1
   rw [eF1] at K2 K3 K4
   clear eF1
   by_cases h2:F1 ≠ 0
   ·have hr:Hid (r=F1):=K2.out H1.out h2
    have HN:Hid (F1 ≠ 0):=h2
    clear K2 K3 K4 H1 HC
    go_enter Try.func23,Try.ntmps23
    go_wp2_with fail
    refine (ref_ints _ _ _).mono ?_
    rintro e w1 ⟨rfl,hw⟩
    rw [hw,er1,← eW]
    clear hw eW er1
    go_wp2
    go_loopw [5,6] (fun o i wr=>∃ j:Nat,j≤SA∧i=.int .i64 (j:Int)∧o=.int .i64 (firstUp ax j)∧Below (w.heap.size+2) W2 wr) (fun _ i _=>SA - (intOf i).toNat)
    case atStart=>exact ⟨0,Nat.zero_le _,rfl,by rw [HZ1.out.1],HR.out⟩
    case round =>
     obtain ⟨j,hj,rfl,rfl,hnx⟩:=hrel
     by_cases hz:firstUp ax j=0
     ·have hlt:j < SA:=by
       rcases Nat.lt_or_eq_of_le hj with h | h
       ·exact h
       ·subst h; rw [HF1.out] at hz; exact absurd hz HN.out
      obtain ⟨b,off,b',off',s,t,rfl,rfl,hst,hcs⟩:=HS.out j hlt (by omega)
      obtain ⟨k0,k1⟩:=hcs wr hnx
      obtain ⟨q0,q1,q2,q3⟩:=HA.out _ hnx
      have HST:Hid (firstUp ax (j+1)=cmp3 s t):=by rw [firstUp_step hz]; exact hst
      rw [hz]
      clear hst hcs hz HS HF1
      go_wp2
      go_quiet ((go_at_call 43; exact Calls.quiet_of_same (ref_ints _ _ _)))
      go_wp2
      go_roundw
      case rel=>exact ⟨j+1,by omega,by go_num,by rw [HST.out],drewN_below hnx _⟩
      case measure=>simp [intOf]; omega
     ·have hF:firstUp ax j=F1:=by rw [←HF1.out]; exact (firstUp_stays hz SA hj).symm
      rw [hF]
      obtain ⟨q0,q1,q2,q3⟩:=HA.out _ hnx
      have HX:Hid (Below (w.heap.size+2) W2 wr):=hnx
      clear hz hF HF1 HS
      by_cases gS:j < SA
      ·go_wp2
       clear q0 q1 q2 q3 hnx
       go_loopw [5,7] (fun o i wr=>o=.int .i64 F1∧i=.int .i64 0∧Below (w.heap.size+2) W2 wr) (fun _ i _=>0)
       case atStart=>exact ⟨rfl,rfl,HX.out⟩
       case round =>
        obtain ⟨rfl,rfl,hnx⟩:=hrel
        obtain ⟨q0,q1,q2,q3⟩:=HA.out _ hnx
        by_cases gA:0 < CA
        ·by_cases gB:0 < CB
         ·go_wp2
          go_ret
          exact ⟨retI hr.out.symm,HW.out _ hnx⟩
         ·have gB0:CB=0:=by omega
          subst gB0
          go_wp2
          go_ret
          exact ⟨retI hr.out.symm,HW.out _ hnx⟩
        ·have gA0:CA=0:=by omega
         subst gA0
         go_wp2
         go_ret
         exact ⟨retI hr.out.symm,HW.out _ hnx⟩
      ·go_wp2
       clear q0 q1 q2 q3 hnx
       go_loopw [5,7] (fun o i wr=>o=.int .i64 F1∧i=.int .i64 0∧Below (w.heap.size+2) W2 wr) (fun _ i _=>0)
       case atStart=>exact ⟨rfl,rfl,HX.out⟩
       case round =>
        obtain ⟨rfl,rfl,hnx⟩:=hrel
        obtain ⟨q0,q1,q2,q3⟩:=HA.out _ hnx
        by_cases gA:0 < CA
        ·by_cases gB:0 < CB
         ·go_wp2
          go_ret
          exact ⟨retI hr.out.symm,HW.out _ hnx⟩
         ·have gB0:CB=0:=by omega
          subst gB0
          go_wp2
          go_ret
          exact ⟨retI hr.out.symm,HW.out _ hnx⟩
        ·have gA0:CA=0:=by omega
         subst gA0
         go_wp2
         go_ret
         exact ⟨retI hr.out.symm,HW.out _ hnx⟩
   ·have H2:Hid (¬ F1 ≠ 0):=h2
    have z2:F1=0:=by simpa using h2
    subst z2
    clear h2 K2
    obtain ⟨F2,eF2⟩:∃ F2,firstUp ce (min CA CB)=F2:=⟨_,rfl⟩
    have HF2:Hid (firstUp ce (min CA CB)=F2):=eF2
    rw [eF2] at K3 K4
    clear eF2
    go_enter Try.func23,Try.ntmps23
    go_wp2_with fail
    refine (ref_ints _ _ _).mono ?_
    rintro e w1 ⟨rfl,hw⟩
    rw [hw,er1,← eW]
    clear hw eW er1
    go_wp2
    go_loopw [5,6] (fun o i wr=>∃ j:Nat,j≤SA∧i=.int .i64 (j:Int)∧o=.int .i64 0∧Below (w.heap.size+2) W2 wr) (fun _ i _=>SA - (intOf i).toNat)
    case atStart=>exact ⟨0,Nat.zero_le _,rfl,rfl,HR.out⟩
    case round =>
     obtain ⟨j,hj,rfl,rfl,hnx⟩:=hrel
     by_cases hlt:j < SA
     ·clear HC HF2 K3 K4 H1 H2
      obtain ⟨b,off,b',off',s,t,rfl,rfl,hst,hcs⟩:=HS.out j hlt (by omega)
      obtain ⟨k0,k1⟩:=hcs wr hnx
      obtain ⟨q0,q1,q2,q3⟩:=HA.out _ hnx
      have hst0:cmp3 s t=0:=by
       rw [←hst,← firstUp_step (firstUp_zero HF1.out j hj)]
       exact firstUp_zero HF1.out (j+1) hlt
      clear hst hcs HS HF1
      go_wp2
      go_quiet ((go_at_call 43; exact Calls.quiet_of_same (ref_ints _ _ _)))
      go_wp2
      go_roundw
      case rel=>exact ⟨j+1,by omega,by go_num,by rw [hst0],drewN_below hnx _⟩
      case measure=>simp [intOf]; omega
     ·obtain ⟨q0,q1,q2,q3⟩:=HA.out _ hnx
      have HX:Hid (Below (w.heap.size+2) W2 wr):=hnx
      clear HS HF1
      by_cases h3:F2 ≠ 0
      ·have hr:Hid (r=F2):=K3.out H1.out H2.out h3
       have HN:Hid (F2 ≠ 0):=h3
       clear K3 K4 H1 H2
       go_wp2
       clear q0 q1 q2 q3 hnx
       go_loopw [5,7] (fun o i wr=>∃ j:Nat,j≤min CA CB∧i=.int .i64 (j:Int)∧o=.int .i64 (firstUp ce j)∧Below (w.heap.size+2) W2 wr) (fun _ i _=>min CA CB - (intOf i).toNat)
       case atStart=>exact ⟨0,Nat.zero_le _,rfl,by rw [HZ1.out.2],HX.out⟩
       case round =>
        clear HX
        obtain ⟨k,hk,rfl,rfl,hnx⟩:=hrel
        obtain ⟨q0,q1,q2,q3⟩:=HA.out _ hnx
        by_cases hz:firstUp ce k=0
        ·have hlt:k < min CA CB:=by
          rcases Nat.lt_or_eq_of_le hk with h | h
          ·exact h
          ·subst h; rw [HF2.out] at hz; exact absurd hz HN.out
         have gA:k < CA:=by omega
         have gB:k < CB:=by omega
         obtain ⟨b,off,b',off',v0,v1,v2,u0,u1,u2,rfl,rfl,hcs⟩:=HC.out k gA gB
         obtain ⟨⟨k0,k1,k2⟩,⟨k3,k4,k5⟩,C⟩:=hcs wr hnx
         have HST:Hid (firstUp ce (k+1)=ce k):=firstUp_step hz
         rw [hz]
         have HCC:=hide C
         clear C hcs hz HC HF2
         go_wp2
         go_region_with (go_at_call 44; refine HCC.out.mono ?_; rintro e w1 ⟨rfl,hb1⟩)
         all_goals go_wp2
         all_goals
          go_roundw
          case rel=>exact ⟨k+1,by omega,by go_num,by rw [HST.out],hb1⟩
          case measure=>simp [intOf]; omega
        ·have hF:firstUp ce k=F2:=by rw [←HF2.out]; exact (firstUp_stays hz _ hk).symm
         rw [hF]
         clear hz hF HF2 HC
         by_cases gA:k < CA
         ·by_cases gB:k < CB
          ·go_wp2
           go_ret
           exact ⟨retI hr.out.symm,HW.out _ hnx⟩
          ·go_wp2
           go_ret
           exact ⟨retI hr.out.symm,HW.out _ hnx⟩
         ·go_wp2
          go_ret
          exact ⟨retI hr.out.symm,HW.out _ hnx⟩
      ·have hr:Hid (r=cmp3 CA CB):=K4.out H1.out H2.out h3
       have z3:F2=0:=by simpa using h3
       subst z3
       clear K3 K4 H1 H2 h3
       go_wp2
       clear q0 q1 q2 q3 hnx
       go_loopw [5,7] (fun o i wr=>∃ j:Nat,j≤min CA CB∧i=.int .i64 (j:Int)∧o=.int .i64 0∧Below (w.heap.size+2) W2 wr) (fun _ i _=>min CA CB - (intOf i).toNat)
       case atStart=>exact ⟨0,Nat.zero_le _,rfl,rfl,HX.out⟩
       case round =>
        clear HX
        obtain ⟨k,hk,rfl,rfl,hnx⟩:=hrel
        obtain ⟨q0,q1,q2,q3⟩:=HA.out _ hnx
        by_cases hlt:k < min CA CB
        ·have gA:k < CA:=by omega
         have gB:k < CB:=by omega
         obtain ⟨b,off,b',off',v0,v1,v2,u0,u1,u2,rfl,rfl,hcs⟩:=HC.out k gA gB
         obtain ⟨⟨k0,k1,k2⟩,⟨k3,k4,k5⟩,C⟩:=hcs wr hnx
         have hst0:ce k=0:=by
          rw [←firstUp_step (firstUp_zero HF2.out k hk)]
          exact firstUp_zero HF2.out (k+1) hlt
         rw [hst0] at C
         have HCC:=hide C
         clear C hcs HC HF2 hst0
         go_wp2
         go_region_with (go_at_call 44; refine HCC.out.mono ?_; rintro e w1 ⟨rfl,hb1⟩)
         all_goals go_wp2
         all_goals
          go_roundw
          case rel=>exact ⟨k+1,by omega,by go_num,rfl,hb1⟩
          case measure=>simp [intOf]; omega
        ·clear HF2 HC
         by_cases gA:k < CA
         ·have gB:¬ k < CB:=by omega
          go_wp2_with fail
          refine (ref_ints _ _ _).mono ?_
          rintro e w1 ⟨rfl,hw⟩
          rw [hw]
          clear hw
          go_wp2
          go_ret
          exact ⟨retI hr.out.symm,HW.out _ hnx⟩
         ·go_wp2_with fail
          refine (ref_ints _ _ _).mono ?_
          rintro e w1 ⟨rfl,hw⟩
          rw [hw]
          clear hw
          go_wp2
          go_ret
          exact ⟨retI hr.out.symm,HW.out _ hnx⟩
end Go.Proofs.Ytnaejfoighmfeaa
namespace Go.Proofs.Ytnaejfoighmfeaa
open Go.ChangeShapes Go.WideShapes Go.ChangeAt Go.RowKit
set_option linter.unusedVariables false
def Good (z:Int):Prop:=(0≤z∧z < 55296) ∨ (57343 < z∧z < 1114112)
instance (z:Int):Decidable (Good z):=inferInstanceAs (Decidable (_ ∨ _))
theorem one_alloc (w:World) (o:Obj):Below w.heap.size w (w.alloc o):=(Below.refl _ _).alloc (Nat.le_refl _) _
theorem cell_one {w:World} {b off:Nat} {v:Value} (h:w.cell? ⟨b,off,none⟩=some v) (hb:b < w.heap.size) (o:Obj):(w.alloc o).cell? ⟨b,off,none⟩=some v :=
 ((one_alloc w o).cell (p:=⟨b,off,none⟩) hb).trans h
end Go.Proofs.Ytnaejfoighmfeaa
namespace Go.Proofs.Ytnaejfoighmfeaa
open Go.ChangeShapes Go.WideShapes Go.ChangeAt Go.RowKit
set_option linter.unusedVariables false
theorem cell_new0 (w:World) (cs:Array Value) (t:TypeId) (i:Nat) (v:Value) (h:cs[i]?=some v):(w.alloc (.cells cs t)).cell? ⟨w.heap.size,i,none⟩=some v:=cell_new w cs t (0,0) i v h
end Go.Proofs.Ytnaejfoighmfeaa
namespace Go.Proofs.Ytnaejfoighmfeaa
open Go.ChangeShapes Go.WideShapes Go.ChangeAt Go.RowKit
set_option maxRecDepth 100000
set_option linter.unusedVariables false
theorem boxes_at {n lo:Nat} {w:World} {x:Ar} {a2:Option Addr} (hc:CellsIn n lo w x.cells a2) (i:Nat) (hi:i < x.cells.length) :
  ∃ b off ab cb,a2=some ⟨b,off,none⟩∧(cAt x.cells i).2.2.length≤5864062014805∧(∀ wr,Below w.heap.size w wr→wr.cell? ⟨b,off+i * 3+2,none⟩=some (.slice ab (cAt x.cells i).2.2.length cb)) ∧
   ∀ k,k < (cAt x.cells i).2.2.length→∃ bb ob u0 u1,ab=some ⟨bb,ob,none⟩∧∀ wr,Below w.heap.size w wr→wr.cell? ⟨bb,ob+k * 2,none⟩=some u0∧wr.cell? ⟨bb,ob+k * 2+1,none⟩=some u1∧ArIn n lo wr (bAt (cAt x.cells i).2.2 k) (.agg #[u0,u1]):=by
 rcases hc with hc | ⟨b,off,ha,hlo,hb,hc⟩
 ·rw [hc] at hi; simp at hi
 obtain ⟨v0,v1,v2,e0,e1,e2,rfl,rfl,ab,cb,rfl,hl,hx⟩:=hc i hi
 refine ⟨b,off,ab,cb,ha,hl,fun wr hw=>(hw.cell (p:=⟨b,off+i * 3+2,none⟩) hb).trans e2,?_⟩
 intro k hk
 rcases hx with hx | ⟨bb,ob,rfl,hlo',hbb,hx⟩
 ·rw [hx] at hk; simp at hk
 obtain ⟨u0,u1,g0,g1,g2⟩:=hx k hk
 exact ⟨bb,ob,u0,u1,rfl,fun wr hw=>⟨(hw.cell (p:=⟨bb,ob+k * 2,none⟩) hbb).trans g0,(hw.cell (p:=⟨bb,ob+k * 2+1,none⟩) hbb).trans g1,g2.next hw⟩⟩
end Go.Proofs.Ytnaejfoighmfeaa
namespace Go.Proofs.Ytnaejfoighmfeaa
open Go.ChangeShapes Go.WideShapes Go.ChangeAt Go.RowKit
set_option maxRecDepth 100000
set_option linter.unusedVariables false
inductive Nd where
 | mk (k o:Int) (s:ByteArray) (l:Ar) (ks:List Nd) (p:Int)
def Nd.kind:Nd→Int
 | .mk k _ _ _ _ _=>k
def Nd.op:Nd→Int
 | .mk _ o _ _ _ _=>o
def Nd.name:Nd→ByteArray
 | .mk _ _ s _ _ _=>s
def Nd.lit:Nd→Ar
 | .mk _ _ _ l _ _=>l
def Nd.kids:Nd→List Nd
 | .mk _ _ _ _ ks _=>ks
def Nd.pos:Nd→Int
 | .mk _ _ _ _ _ p=>p
def nNil:Nd:=.mk 0 0 ⟨#[]⟩ (.mk [] []) [] 0
def nAt (l:List Nd) (i:Nat):Nd:=l[i]?.getD nNil
def ndV (x:Nd) (a1:Option Addr) (c1:Nat) (a2:Option Addr) (c2:Nat) (ak:Option Addr) (ck:Nat):Value :=
 .agg #[.int .i64 x.kind,.int .i64 x.op,.string x.name,.slice a1 x.lit.shape.length c1,.slice a2 x.lit.cells.length c2,.slice ak x.kids.length ck,.int .i64 x.pos]
def Seven (w:World) (b o:Nat) (x:Nd) (a1:Option Addr) (c1:Nat) (a2:Option Addr) (c2:Nat) (ak:Option Addr) (ck:Nat):Prop :=
 w.cell? ⟨b,o,none⟩=some (.int .i64 x.kind)∧w.cell? ⟨b,o+1,none⟩=some (.int .i64 x.op)∧w.cell? ⟨b,o+2,none⟩=some (.string x.name) ∧
 w.cell? ⟨b,o+3,none⟩=some (.slice a1 x.lit.shape.length c1)∧w.cell? ⟨b,o+4,none⟩=some (.slice a2 x.lit.cells.length c2) ∧
 w.cell? ⟨b,o+5,none⟩=some (.slice ak x.kids.length ck)∧w.cell? ⟨b,o+6,none⟩=some (.int .i64 x.pos)
def NdIn:Nat→Nat→Nat→World→Nd→Value→Prop
 | 0,_,_,_,_,_=>False
 | m+1,n,lo,w,x,v=>∃ a1 c1 a2 c2 ak ck,v=ndV x a1 c1 a2 c2 ak ck∧ArIn n lo w x.lit (.agg #[.slice a1 x.lit.shape.length c1,.slice a2 x.lit.cells.length c2])∧x.kids.length≤1256584717421∧x.name.size≤140737488355328∧(x.kids=[] ∨ ∃ b off,ak=some ⟨b,off,none⟩∧lo≤b∧b < w.heap.size ∧
   ∀ j,j < x.kids.length→∃ d1 e1 d2 e2 dk ek,Seven w b (off+j * 7) (nAt x.kids j) d1 e1 d2 e2 dk ek∧NdIn m n lo w (nAt x.kids j) (ndV (nAt x.kids j) d1 e1 d2 e2 dk ek))
theorem Seven.next {B:Nat} {w w':World} {b o:Nat} {x:Nd} {a1 a2 ak:Option Addr} {c1 c2 ck:Nat} (h:Seven w b o x a1 c1 a2 c2 ak ck) (hb:Below B w w') (hl:b < B):Seven w' b o x a1 c1 a2 c2 ak ck:=by
 obtain ⟨h0,h1,h2,h3,h4,h5,h6⟩:=h
 exact ⟨(hb.cell (p:=⟨b,_,none⟩) hl).trans h0,(hb.cell (p:=⟨b,_,none⟩) hl).trans h1,(hb.cell (p:=⟨b,_,none⟩) hl).trans h2,(hb.cell (p:=⟨b,_,none⟩) hl).trans h3,(hb.cell (p:=⟨b,_,none⟩) hl).trans h4,(hb.cell (p:=⟨b,_,none⟩) hl).trans h5,(hb.cell (p:=⟨b,_,none⟩) hl).trans h6⟩
theorem NdIn.mono {m n lo lo':Nat} {w w':World} {x:Nd} {v:Value} (h:NdIn m n lo w x v) (hl:lo'≤lo) (hb:Below w.heap.size w w'):NdIn m n lo' w' x v:=by
 induction m generalizing x v with
 | zero=>exact h.elim
 | succ m ih =>
  obtain ⟨a1,c1,a2,c2,ak,ck,hv,hA,hlen,hs,hc⟩:=h
  refine ⟨a1,c1,a2,c2,ak,ck,hv,hA.mono hl hb,hlen,hs,?_⟩
  rcases hc with hc | ⟨b,off,ha,hlo,hbb,hc⟩
  ·exact Or.inl hc
  ·refine Or.inr ⟨b,off,ha,Nat.le_trans hl hlo,Nat.lt_of_lt_of_le hbb hb.size,fun j hj=>?_⟩
   obtain ⟨d1,e1,d2,e2,dk,ek,hs7,hk⟩:=hc j hj
   exact ⟨d1,e1,d2,e2,dk,ek,hs7.next hb hbb,ih hk⟩
theorem NdIn.next {m n lo:Nat} {w w':World} {x:Nd} {v:Value} (h:NdIn m n lo w x v) (hb:Below w.heap.size w w'):NdIn m n lo w' x v:=h.mono (Nat.le_refl _) hb
theorem NdIn.deeper {m n lo:Nat} {w:World} {x:Nd} {v:Value} (h:NdIn m n lo w x v):NdIn (m+1) n lo w x v:=by
 induction m generalizing x v with
 | zero=>exact h.elim
 | succ m ih =>
  obtain ⟨a1,c1,a2,c2,ak,ck,hv,hA,hlen,hs,hc⟩:=h
  refine ⟨a1,c1,a2,c2,ak,ck,hv,hA,hlen,hs,?_⟩
  rcases hc with hc | ⟨b,off,ha,hlo,hbb,hc⟩
  ·exact Or.inl hc
  ·refine Or.inr ⟨b,off,ha,hlo,hbb,fun j hj=>?_⟩
   obtain ⟨d1,e1,d2,e2,dk,ek,hs7,hk⟩:=hc j hj
   exact ⟨d1,e1,d2,e2,dk,ek,hs7,ih hk⟩
theorem NdIn.deep {m m' n lo:Nat} {w:World} {x:Nd} {v:Value} (h:NdIn m n lo w x v) (hm:m≤m'):NdIn m' n lo w x v:=by
 induction hm with
 | refl=>exact h
 | step _ ih=>exact ih.deeper
theorem NdIn.boxes {m n n' lo:Nat} {w:World} {x:Nd} {v:Value} (h:NdIn m n lo w x v) (hn:n≤n'):NdIn m n' lo w x v:=by
 induction m generalizing x v with
 | zero=>exact h.elim
 | succ m ih =>
  obtain ⟨a1,c1,a2,c2,ak,ck,hv,hA,hlen,hs,hc⟩:=h
  refine ⟨a1,c1,a2,c2,ak,ck,hv,hA.deep hn,hlen,hs,?_⟩
  rcases hc with hc | ⟨b,off,ha,hlo,hbb,hc⟩
  ·exact Or.inl hc
  ·refine Or.inr ⟨b,off,ha,hlo,hbb,fun j hj=>?_⟩
   obtain ⟨d1,e1,d2,e2,dk,ek,hs7,hk⟩:=hc j hj
   exact ⟨d1,e1,d2,e2,dk,ek,hs7,ih hk⟩
def KidsIn (m n lo:Nat) (w:World) (ks:List Nd) (ak:Option Addr):Prop :=
 ks=[] ∨ ∃ b off,ak=some ⟨b,off,none⟩∧lo≤b∧b < w.heap.size ∧
   ∀ j,j < ks.length→∃ d1 e1 d2 e2 dk ek,Seven w b (off+j * 7) (nAt ks j) d1 e1 d2 e2 dk ek∧NdIn m n lo w (nAt ks j) (ndV (nAt ks j) d1 e1 d2 e2 dk ek)
theorem kid_at {m n lo:Nat} {w:World} {ks:List Nd} {ak:Option Addr} (h:KidsIn m n lo w ks ak) {j:Nat} (hj:j < ks.length) :
  ∃ b off d1 e1 d2 e2 dk ek,ak=some ⟨b,off,none⟩∧lo≤b∧b < w.heap.size∧∀ wr,Below w.heap.size w wr→Seven wr b (off+j * 7) (nAt ks j) d1 e1 d2 e2 dk ek∧NdIn m n lo wr (nAt ks j) (ndV (nAt ks j) d1 e1 d2 e2 dk ek):=by
 rcases h with h | ⟨b,off,ha,hlo,hb,hc⟩
 ·rw [h] at hj; simp at hj
 obtain ⟨d1,e1,d2,e2,dk,ek,hs,hk⟩:=hc j hj
 exact ⟨b,off,d1,e1,d2,e2,dk,ek,ha,hlo,hb,fun wr hw=>⟨hs.next hw hb,hk.next hw⟩⟩
theorem KidsIn.mono {m n lo lo':Nat} {w w':World} {ks:List Nd} {ak:Option Addr} (h:KidsIn m n lo w ks ak) (hl:lo'≤lo) (hb:Below w.heap.size w w'):KidsIn m n lo' w' ks ak:=by
 rcases h with h | ⟨b,off,ha,hlo,hbb,hc⟩
 ·exact Or.inl h
 ·refine Or.inr ⟨b,off,ha,Nat.le_trans hl hlo,Nat.lt_of_lt_of_le hbb hb.size,fun j hj=>?_⟩
  obtain ⟨d1,e1,d2,e2,dk,ek,hs,hk⟩:=hc j hj
  exact ⟨d1,e1,d2,e2,dk,ek,hs.next hb hbb,hk.mono hl hb⟩
theorem NdIn.form {m n lo:Nat} {w:World} {x:Nd} {v:Value} (h:NdIn m n lo w x v) :
  ∃ m',m=m'+1∧∃ a1 c1 a2 c2 ak ck,v=ndV x a1 c1 a2 c2 ak ck∧ArIn n lo w x.lit (.agg #[.slice a1 x.lit.shape.length c1,.slice a2 x.lit.cells.length c2])∧x.kids.length≤1256584717421∧x.name.size≤140737488355328∧KidsIn m' n lo w x.kids ak:=by
 cases m with
 | zero=>exact h.elim
 | succ m =>
  obtain ⟨a1,c1,a2,c2,ak,ck,hv,hA,hlen,hs,hc⟩:=h
  exact ⟨m,rfl,a1,c1,a2,c2,ak,ck,hv,hA,hlen,hs,hc⟩
def sumUp (f:Nat→Nat):Nat→Nat
 | 0=>0
 | m+1=>sumUp f m+f m
def sizeN:Nat→Nd→Nat
 | 0,_=>0
 | m+1,x=>1+sumUp (fun i=>sizeN m (nAt x.kids i)) x.kids.length
def anyUp (f:Nat→Bool):Nat→Bool
 | 0=>false
 | m+1=>anyUp f m || f m
theorem anyUp_none {f:Nat→Bool} {m:Nat}:anyUp f m=false ↔ ∀ i,i < m→f i=false:=by
 induction m with
 | zero=>simp [anyUp]
 | succ m ih =>
  simp only [anyUp,Bool.or_eq_false_iff,ih]
  constructor
  ·rintro ⟨h,h'⟩ i hi
   rcases Nat.lt_succ_iff_lt_or_eq.1 hi with hi | rfl
   ·exact h i hi
   ·exact h'
  ·exact fun h=>⟨fun i hi=>h i (by omega),h m (by omega)⟩
theorem anyUp_hit {f:Nat→Bool} {i m:Nat} (hi:i < m) (h:f i=true):anyUp f m=true:=by
 cases hh:anyUp f m with
 | true=>rfl
 | false=>rw [anyUp_none] at hh; rw [hh i hi] at h; cases h
end Go.Proofs.Ytnaejfoighmfeaa
namespace Go.Proofs.Ytnaejfoighmfeaa
open Go.ChangeShapes Go.WideShapes Go.ChangeAt Go.RowKit
set_option maxRecDepth 100000
set_option linter.unusedVariables false
set_option linter.unusedSimpArgs false
def byt (s:ByteArray) (j:Nat):Int:=if h:j < s.size then ((s[j]'h).toNat:Int) else 0
theorem byt_run (s:ByteArray) (j:Nat) (h:j < s.size) (w:World):(Instr.index 9 (.string s) (.int .i64 (j:Int))).run Try.prog w=.ok (.int .u8 (byt s j)) w:=by
 rw [run_index_string w 9 s .i64 _ (by kernel_rfl),dif_pos ⟨by omega,by omega⟩]
 unfold byt
 rw [dif_pos h]
 rfl
def badB (s:ByteArray) (j:Nat):Bool:=!frm (byt s j) 97 119 && (decide (j=0) || !frm (byt s j) 48 57)
def nameB (s:ByteArray):Bool:=decide (1≤s.size∧s.size≤8) && !anyUp (badB s) s.size
theorem nameB_out {s:ByteArray} (h:¬ (1≤s.size∧s.size≤8)):nameB s=false:=by simp [nameB,h]
theorem nameB_in {s:ByteArray} (h:1≤s.size∧s.size≤8):nameB s=!anyUp (badB s) s.size:=by simp [nameB,h]
set_option maxHeartbeats 2000000 in
theorem name15 (s:ByteArray) (w:World):Calls Try.prog 93 #[.string s] w fun e w'=>e=.returned (.bool (nameB s))∧Below w.heap.size w w':=by
 by_cases h1:(s.size:Int)=0
 ·rw [nameB_out (by omega)]
  go_enter Try.func93,Try.ntmps93
  go_wp2
  go_ret
  exact ⟨rfl,Below.refl _ _⟩
 by_cases h2:8 < (s.size:Int)
 ·rw [nameB_out (by omega)]
  have h3:((s.size:Int) == 0)=false:=beq_eq_false_iff_ne.2 h1
  have h4:¬ (s.size:Int) < 1:=by omega
  have h5:decide ((s.size:Int) < 1)=false:=by simp [h4]
  go_enter Try.func93,Try.ntmps93
  go_wp2
  go_ret
  exact ⟨rfl,Below.refl _ _⟩
 rw [nameB_in (by omega)]
 have HHIT:Hid (∀ j,j < s.size→badB s j=true→anyUp (badB s) s.size=true):=fun j hj h=>anyUp_hit hj h
 have HNO:Hid ((∀ j,j < s.size→badB s j=false)→anyUp (badB s) s.size=false):=fun h=>anyUp_none.2 h
 have HX:Hid (∀ j,j < s.size→∀ w,(Instr.index 9 (.string s) (.int .i64 (j:Int))).run Try.prog w=.ok (.int .u8 (byt s j)) w):=fun j h w=>byt_run s j h w
 have HBAD:Hid (∀ j,badB s j=(!frm (byt s j) 97 119 && (decide (j=0) || !frm (byt s j) 48 57))):=fun j=>rfl
 generalize anyUp (badB s) s.size=Z at *
 generalize badB s=F at *
 have h3:((s.size:Int) == 0)=false:=beq_eq_false_iff_ne.2 h1
 have h4:¬ (s.size:Int) < 1:=by omega
 have h5:decide ((s.size:Int) < 1)=false:=by simp [h4]
 have h6:¬ 8 < (s.size:Int):=by omega
 have h7:decide (8 < (s.size:Int))=false:=by simp [h6]
 obtain ⟨L,hL⟩:∃ L,L=s.size:=⟨_,rfl⟩
 have HL:=hide hL
 go_enter Try.func93,Try.ntmps93
 go_wp2
 go_loopg [14] L (fun g i wr=>∃ (j:Nat),g+j=L∧i=.int .i64 (j:Int)∧(∀ i,i < j→F i=false)∧Below w.heap.size w wr)
 case atStart=>exact ⟨0,by omega,rfl,(by intro i hi; omega),Below.refl _ _⟩
 case round =>
  obtain ⟨j,hj,rfl,hno,hnx⟩:=hrel
  have HN:=hide hno
  clear hno
  by_cases hlt:(j:Int) < (s.size:Int)
  ·have hx:=HX.out j (by omega)
   have HFJ:=hide (HBAD.out j)
   have HH:=hide (HHIT.out j (by omega))
   clear HX HBAD HHIT HNO
   generalize byt s j=B at *
   have CL:∀ w,Calls Try.prog 96 #[.int .u8 B] w fun e w'=>e=.returned (.bool (frm B 97 119))∧Below w.heap.size w w':=letter35 B
   have CD:∀ w,Calls Try.prog 97 #[.int .u8 B] w fun e w'=>e=.returned (.bool (frm B 48 57))∧Below w.heap.size w w':=digit36 B
   generalize frm B 97 119=LT at *
   generalize frm B 48 57=DG at *
   have HCL:=hide CL
   have HCD:=hide CD
   clear CL CD
   cases LT
   ·by_cases h0:(j:Int)=0
    ·have hFJ:F j=true:=by rw [HFJ.out]; simp [show j=0 by omega]
     have HZ:=hide (HH.out hFJ)
     clear hFJ HFJ HH HN
     have hx0:∀ w,(Instr.index 9 (.string s) (.int .i64 0)).run Try.prog w=.ok (.int .u8 B) w:=by rw [←h0]; exact hx
     go_wp2_with fail
     refine (HCL.out _).mono ?_
     rintro e w1 ⟨rfl,hb1⟩
     clear HCL
     go_wp2
     go_ret
     exact ⟨retB (by rw [HZ.out]; rfl),hnx.trans (hb1.mono hnx.size)⟩
    ·have h0':((j:Int) == 0)=false:=beq_eq_false_iff_ne.2 h0
     cases DG
     ·have hFJ:F j=true:=by rw [HFJ.out]; simp
      have HZ:=hide (HH.out hFJ)
      clear hFJ HFJ HH HN
      go_wp2_with fail
      refine (HCL.out _).mono ?_
      rintro e w1 ⟨rfl,hb1⟩
      clear HCL
      go_wp2_with fail
      refine (HCD.out _).mono ?_
      rintro e w2 ⟨rfl,hb2⟩
      clear HCD
      go_wp2
      go_ret
      exact ⟨retB (by rw [HZ.out]; rfl),(hnx.trans (hb1.mono hnx.size)).trans (hb2.mono (Nat.le_trans hnx.size hb1.size))⟩
     ·have hFJ:F j=false:=by rw [HFJ.out]; simp [show ¬ j=0 by omega]
      have HFJ2:=hide hFJ
      clear hFJ HFJ HH
      go_wp2_with fail
      refine (HCL.out _).mono ?_
      rintro e w1 ⟨rfl,hb1⟩
      clear HCL
      go_wp2_with fail
      refine (HCD.out _).mono ?_
      rintro e w2 ⟨rfl,hb2⟩
      clear HCD
      go_wp2
      go_roundg (L - (j+1))
      case rel =>
       refine ⟨j+1,by omega,by go_num,fun i hi=>?_,(hnx.trans (hb1.mono hnx.size)).trans (hb2.mono (Nat.le_trans hnx.size hb1.size))⟩
       rcases Nat.lt_succ_iff_lt_or_eq.1 hi with hi | rfl
       ·exact HN.out i hi
       ·exact HFJ2.out
      case measure=>omega
   ·have hFJ:F j=false:=by rw [HFJ.out]; simp
    have HFJ2:=hide hFJ
    clear hFJ HFJ HH
    go_wp2_with fail
    refine (HCL.out _).mono ?_
    rintro e w1 ⟨rfl,hb1⟩
    clear HCL
    go_wp2
    go_roundg (L - (j+1))
    case rel =>
     refine ⟨j+1,by omega,by go_num,fun i hi=>?_,hnx.trans (hb1.mono hnx.size)⟩
     rcases Nat.lt_succ_iff_lt_or_eq.1 hi with hi | rfl
     ·exact HN.out i hi
     ·exact HFJ2.out
    case measure=>omega
  ·have HZ:=hide (HNO.out (fun i hi=>HN.out i (by omega)))
   clear HX HBAD HHIT HNO HN
   go_wp2
   go_ret
   exact ⟨retB (by rw [HZ.out]; rfl),hnx⟩
end Go.Proofs.Ytnaejfoighmfeaa
namespace Go.Proofs.Ytnaejfoighmfeaa.Rn
open Go.ChangeShapes Go.WideShapes Go.ChangeAt Go.RowKit
set_option maxRecDepth 100000
set_option linter.unusedVariables false
set_option linter.unusedSimpArgs false
def numsS (s:ByteArray):List Int:=s.data.toList.map fun c=>(c.toNat:Int)
theorem numsS_len (s:ByteArray):(numsS s).length=s.size:=by simp [numsS]
theorem numsS_byte (s:ByteArray):∀ z ∈ numsS s,Byte z:=by
 intro z hz
 obtain ⟨c,-,rfl⟩:=List.mem_map.1 hz
 have:=c.toNat_lt
 exact ⟨by omega,by omega⟩
theorem numsS_at (s:ByteArray) (i:Nat) (hi:i < s.size):(numsS s)[i]?=some (byt s i):=by
 unfold numsS byt
 rw [dif_pos hi,List.getElem?_map,List.getElem?_eq_getElem (by simpa using hi)]
 rfl
theorem numsS_drop (s:ByteArray) (i:Nat) (hi:i < s.size):(numsS s).drop i=byt s i :: (numsS s).drop (i+1):=by
 have h:i < (numsS s).length:=by rw [numsS_len]; exact hi
 rw [List.drop_eq_getElem_cons h]
 congr 1
 have:=numsS_at s i hi
 rw [List.getElem?_eq_getElem h] at this
 simpa using this
theorem nat_inj {a b:List UInt8} (h:a.map (fun c=>(c.toNat:Int))=b.map fun c=>(c.toNat:Int)):a=b:=by
 induction a generalizing b with
 | nil=>cases b with
  | nil=>rfl
  | cons=>simp at h
 | cons x a ih=>cases b with
  | nil=>simp at h
  | cons y b =>
   simp only [List.map_cons,List.cons.injEq] at h
   rw [ih h.2,UInt8.toNat_inj.1 (by omega:x.toNat=y.toNat)]
def cutS (s:ByteArray) (a b:Nat):ByteArray:=s.extract a b
theorem cutS_nums (s:ByteArray) (a b:Nat):numsS (cutS s a b)=((numsS s).drop a).take (b - a):=by
 unfold numsS cutS
 rw [ByteArray.data_extract,Array.toList_extract]
 simp [List.extract_eq_take_drop,List.map_take,List.map_drop]
theorem str_eq (a b:ByteArray):(a.toList == b.toList)=decide (numsS a=numsS b):=by
 rw [ByteArray.toList_eq,ByteArray.toList_eq]
 by_cases h:a.data.toList=b.data.toList
 ·rw [h]; simp [numsS,h]
 ·have h2:¬ numsS a=numsS b:=fun e=>h (nat_inj e)
  rw [decide_eq_false h2]
  simpa using h
theorem starts_eq (s t:ByteArray) (a:Nat) (h:a+t.size≤s.size):((cutS s a (a+t.size)).toList == t.toList)=hasP ((numsS s).drop a) (numsS t):=by
 rw [str_eq,cutS_nums,show a+t.size - a=t.size by omega]
 have hl:(numsS t).length=t.size:=numsS_len t
 rw [←hl]
 by_cases hp:hasP ((numsS s).drop a) (numsS t)=true
 ·obtain ⟨r,hr⟩:=hasP_iff.1 hp
  rw [hp,hr,List.take_left]; simp
 ·rw [Bool.not_eq_true] at hp
  rw [hp,decide_eq_false]
  intro e
  have:hasP ((numsS s).drop a) (numsS t)=true:=hasP_iff.2 ⟨((numsS s).drop a).drop (numsS t).length,by
   conv=>lhs; rw [←List.take_append_drop (numsS t).length ((numsS s).drop a)]
   rw [e]⟩
  rw [this] at hp
  cases hp
theorem starts_short (s t:ByteArray) (a:Nat) (h:¬ a+t.size≤s.size) (ha:a≤s.size):hasP ((numsS s).drop a) (numsS t)=false:=by
 cases hp:hasP ((numsS s).drop a) (numsS t) with
 | false=>rfl
 | true =>
  have:=hasP_len hp
  rw [List.length_drop,numsS_len,numsS_len] at this
  omega
theorem cut_run (s:ByteArray) (a b:Nat) (h1:a≤b) (h2:b≤s.size) (ka kb:Int) (ea:ka=(a:Int)) (eb:kb=(b:Int)) (w:World):(Instr.slice 9 (.string s) (some (.int .i64 ka)) (some (.int .i64 kb)) none).run Try.prog w=.ok (.string (cutS s a b)) w:=by
 subst ea eb
 rw [run_slice_string w 9 s .i64 .i64 _ _ (by kernel_rfl) (by omega) (by omega) (by omega)]
 simp [cutS]
set_option maxHeartbeats 2000000 in
theorem starts25 (s t:ByteArray) (a:Nat) (ha:a≤s.size) (hs:s.size≤140737488355328) (ht:t.size≤1000) (w:World) :
  Calls Try.prog 25 #[.string s,.int .i64 (a:Int),.string t] w fun e w'=>e=.returned (.bool (hasP ((numsS s).drop a) (numsS t)))∧w'=w:=by
 have HW:IntKind.i64.wrap ((a:Int)+(t.size:Int))=(a:Int)+(t.size:Int):=IntWalk.i64_in _ ⟨by omega,by omega⟩
 by_cases h:a+t.size≤s.size
 ·have HC:=fun W=>cut_run s a (a+t.size) (by omega) h (a:Int) ((a:Int)+(t.size:Int)) rfl (by omega) W
  have HE:=starts_eq s t a h
  have h1:(a:Int)+(t.size:Int)≤(s.size:Int):=by omega
  generalize cutS s a (a+t.size)=C at *
  generalize hasP ((numsS s).drop a) (numsS t)=B at *
  go_enter Try.func25,Try.ntmps25
  go_wp2
  go_ret
  exact ⟨retB (by simp [HE]),rfl⟩
 ·rw [starts_short s t a h ha]
  have h1:¬ (a:Int)+(t.size:Int)≤(s.size:Int):=by omega
  go_enter Try.func25,Try.ntmps25
  go_wp2
  go_ret
  exact ⟨retB (by simp),rfl⟩
set_option maxHeartbeats 1000000 in
theorem digit73 (c:Int) (w:World):Calls Try.prog 73 #[.int .u8 c] w fun e w'=>e=.returned (.bool (dgB c))∧w'=w:=by
 unfold dgB
 by_cases h1:48≤c
 ·by_cases h2:c≤57
  ·go_enter Try.func73,Try.ntmps73
   go_wp2
   go_ret
   exact ⟨retB (by simp [h1,h2]),rfl⟩
  ·go_enter Try.func73,Try.ntmps73
   go_wp2
   go_ret
   exact ⟨retB (by simp [h1,h2]),rfl⟩
 ·go_enter Try.func73,Try.ntmps73
  go_wp2
  go_ret
  exact ⟨retB (by simp; omega),rfl⟩
set_option maxHeartbeats 1000000 in
theorem letter49 (c:Int) (w:World):Calls Try.prog 49 #[.int .u8 c] w fun e w'=>e=.returned (.bool (ltB c))∧w'=w:=by
 unfold ltB
 by_cases h1:97≤c
 ·by_cases h2:c≤119
  ·go_enter Try.func49,Try.ntmps49
   go_wp2
   go_ret
   exact ⟨retB (by simp [h1,h2]),rfl⟩
  ·go_enter Try.func49,Try.ntmps49
   go_wp2
   go_ret
   exact ⟨retB (by simp [h1,h2]),rfl⟩
 ·go_enter Try.func49,Try.ntmps49
  go_wp2
  go_ret
  exact ⟨retB (by simp; omega),rfl⟩
theorem lead_at (s:ByteArray) (p:Int→Bool) (i:Nat) (hi:i < s.size):lead p ((numsS s).drop i)=if p (byt s i) then lead p ((numsS s).drop (i+1))+1 else 0:=by
 rw [numsS_drop s i hi]; rfl
theorem lead_end (s:ByteArray) (p:Int→Bool) (i:Nat) (hi:¬ i < s.size):lead p ((numsS s).drop i)=0:=by
 rw [List.drop_eq_nil_of_le (by rw [numsS_len]; omega)]; rfl
set_option maxHeartbeats 2000000 in
theorem blanks24 (s:ByteArray) (a:Nat) (ha:a≤s.size) (hs:s.size≤140737488355328) (w:World) :
  Calls Try.prog 24 #[.string s,.int .i64 (a:Int)] w fun e w'=>e=.returned (.int .i64 ((a+lead blB ((numsS s).drop a):Nat):Int))∧w'=w:=by
 have HX:Hid (∀ j,j < s.size→∀ W,(Instr.index 9 (.string s) (.int .i64 (j:Int))).run Try.prog W=.ok (.int .u8 (byt s j)) W):=fun j h W=>byt_run s j h W
 have HY:=hide (fun j hj=>lead_at s blB j hj)
 have HZ:=hide (fun j hj=>lead_end s blB j hj)
 obtain ⟨F,hF⟩:∃ F:Nat→Nat,∀ j,lead blB ((numsS s).drop j)=F j:=⟨_,fun _=>rfl⟩
 simp only [hF] at HY HZ ⊢
 clear hF
 generalize hB:byt s=Bt at *
 clear hB
 obtain ⟨L,hL⟩:∃ L,L=s.size:=⟨_,rfl⟩
 have HL:=hide hL
 rw [←hL] at HX HY HZ ha hs
 go_enter Try.func24,Try.ntmps24
 go_wp2
 go_loopg [1] (L - a) (fun g i wr=>∃ (j:Nat),g+j=L∧i=.int .i64 (j:Int)∧j+F j=a+F a∧wr=w)
 case atStart=>exact ⟨a,by omega,rfl,rfl,rfl⟩
 case round =>
  obtain ⟨j,hj,rfl,hF,rfl⟩:=hrel
  have HF:=hide hF
  clear hF
  by_cases hlt:j < L
  ·have hx:=HX.out j hlt
   have hy:=HY.out j hlt
   have hlt2:(j:Int) < (s.size:Int):=by omega
   clear HX HY HZ
   generalize Bt j=c at *
   by_cases hc:c=32
   ·subst hc
    have HG:=hide (show j+1+F (j+1)=a+F a by rw [←HF.out,hy]; simp [blB]; omega)
    clear hy HF hL
    go_wp2
    go_roundg (L - (j+1))
    case rel=>exact ⟨j+1,by omega,by go_num,HG.out,rfl⟩
    case measure=>omega
   ·have hc2:(c == 32)=false:=by simpa using hc
    have HG:=hide (show j=a+F a by rw [←HF.out,hy]; simp [blB,hc])
    clear hy HF hL
    go_wp2
    go_ret
    exact ⟨retI (by have:=HG.out; omega),rfl⟩
  ·have hz:=HZ.out j hlt
   have hlt2:¬ (j:Int) < (s.size:Int):=by omega
   have HG:=hide (show j=a+F a by rw [←HF.out,hz]; rfl)
   clear HX HY HZ hz HF hL
   go_wp2
   go_ret
   exact ⟨retI (by have:=HG.out; omega),rfl⟩
end Go.Proofs.Ytnaejfoighmfeaa.Rn
namespace Go.Proofs.Ytnaejfoighmfeaa.Rn
open Go.ChangeShapes Go.WideShapes Go.ChangeAt Go.RowKit
set_option maxRecDepth 100000
set_option linter.unusedVariables false
set_option linter.unusedSimpArgs false
def oneN (l:List Int):Int:=match oneF l with
 | none=>0
 | some (n,_)=>n
def oneK (l:List Int):Nat:=match oneF l with
 | none=>0
 | some (_,k)=>k
theorem isOne_eq {bs:List Int} {n k:Int} (hB:∀ z ∈ bs,Byte z) (h:IsOne bs n k):n=oneN bs∧k=(oneK bs:Int):=by
 unfold oneN oneK
 rcases h with ⟨rfl,rfl,h⟩ | ⟨r,hg,hr,hk⟩
 ·rw [oneF_none hB h]; exact ⟨rfl,rfl⟩
 ·rw [hr,oneF_put hg]; exact ⟨rfl,hk⟩
theorem one_take {l:List Int} (hl:∀ z ∈ l,Byte z) (q:Nat) (hq:4≤q ∨ l.length≤q):oneF (l.take q)=oneF l:=by
 cases h:oneF l with
 | some p =>
  obtain ⟨n,k⟩:=p
  obtain ⟨hg,hk,r,hr⟩:=oneF_some hl h
  have hw:=wid_pos n
  have hp:=put_length n
  have:(put n).length≤q:=by
   rcases hq with hq | hq
   ·omega
   ·rw [hr,List.length_append] at hq; omega
  rw [hr,List.take_append,List.take_of_length_le this,oneF_put hg,hk]
 | none =>
  refine oneF_none (fun z hz=>hl z (List.mem_of_mem_take hz)) fun m r hm e=>?_
  have h2:l=put m ++ (r ++ l.drop q):=by
   rw [←List.append_assoc,← e,List.take_append_drop]
  rw [h2,oneF_put hm] at h
  cases h
theorem below_bytes (w:World) (e:TypeId) (s:ByteArray):Below w.heap.size w (Lib.bytesWorld w e s) :=
 ⟨rfl,rfl,rfl,by rw [Lib.bytesWorld_size]; omega,fun k hk=>Lib.bytesWorld_at_old w e s k hk⟩
set_option maxHeartbeats 2000000 in
theorem sign45 (s:ByteArray) (a:Nat) (ha:a≤s.size) (hs:s.size≤140737488355328) (w:World) :
  Calls Try.prog 45 #[.string s,.int .i64 (a:Int)] w fun e w'=>e=.returned (.tuple #[.int .i64 (oneN ((numsS s).drop a)),.int .i64 (oneK ((numsS s).drop a):Nat)])∧Below w.heap.size w w':=by
 obtain ⟨q,hq⟩:∃ q:Nat,q=if a+4≤s.size then a+4 else s.size:=⟨_,rfl⟩
 have hq1:a≤q∧q≤s.size:=by split at hq <;> omega
 have hT:oneF (((numsS s).drop a).take (q - a))=oneF ((numsS s).drop a):=one_take (fun z hz=>numsS_byte s z (List.mem_of_mem_drop hz)) _ (by
  rw [List.length_drop,numsS_len]; split at hq <;> omega)
 have HR:=hide (show oneN (numsS (cutS s a q))=oneN ((numsS s).drop a)∧oneK (numsS (cutS s a q))=oneK ((numsS s).drop a) by
  unfold oneN oneK; rw [cutS_nums,hT]; exact ⟨rfl,rfl⟩)
 have hcut:=fun (qi:Int) (h:qi=(q:Int)) W=>cut_run s a q hq1.1 hq1.2 (a:Int) qi rfl h W
 have hcl:(cutS s a q).size=q - a:=by
  have:=numsS_len (cutS s a q)
  rw [cutS_nums,List.length_take,List.length_drop,numsS_len] at this
  omega
 generalize hC:cutS s a q=C at *
 have cv:=fun W=>Lib.run_convert_string_bytes (P:=Try.prog) W 9 108 5 C Try.underlying9 Try.underlying108 Try.underlying5
 have HB:=hide (below_bytes w 5 C)
 have HO:Hid (Calls Try.prog 72 #[.slice (some ⟨w.heap.size,0,none⟩) C.size (grownCap w C.size 0 5)] (Lib.bytesWorld w 5 C) fun e w'=>e=.returned (.tuple #[.int .i64 (oneN (numsS C)),.int .i64 (oneK (numsS C):Nat)])∧Below w.heap.size w w'):=by
  have h:=oneR_walk (numsS C) w.heap.size 0 (grownCap w C.size 0 5) (Lib.bytesWorld w 5 C) (numsS_byte C) (by rw [numsS_len]; omega) (by rw [Lib.bytesWorld_size]; omega) (by rw [numsS_len]; exact Go.grownCap_ge w C.size 0 5) (fun i hi=>by
   rw [numsS_len] at hi
   rw [Nat.zero_add,Lib.bytesWorld_cell w 5 C i hi,numsS_at C i hi]
   unfold byt
   rw [dif_pos hi]
   simp [List.getD_eq_getElem?_getD,ByteArray.getElem_eq_getElem_data,hi])
  rw [numsS_len] at h
  refine h.mono fun e w' ⟨⟨n,k,he,hk⟩,hb⟩=>?_
  obtain ⟨rfl,rfl⟩:=isOne_eq (numsS_byte C) hk
  exact ⟨he,HB.out.trans (hb.mono HB.out.size)⟩
 rw [HR.out.1,HR.out.2] at HO
 clear hT hC HR HB
 generalize oneN ((numsS s).drop a)=ON at *
 generalize oneK ((numsS s).drop a)=OK at *
 obtain ⟨X,hX⟩:∃ X,Lib.bytesWorld w 5 C=X:=⟨_,rfl⟩
 have hcv:=cv w
 rw [hX] at HO hcv
 clear cv hX
 by_cases h4:a+4≤s.size
 ·rw [if_pos h4] at hq
  have hc:=hcut ((a:Int)+4) (by omega)
  have h5:¬ (s.size:Int) < (a:Int)+4:=by omega
  clear hcut hcl
  go_enter Try.func45,Try.ntmps45
  go_wp2_with fail
  refine HO.out.mono ?_
  rintro e w1 ⟨rfl,hb⟩
  go_wp2
  go_ret2
  exact ⟨rfl,hb⟩
 ·rw [if_neg h4] at hq
  have hc:=hcut (s.size:Int) (by omega)
  have h5:(s.size:Int) < (a:Int)+4:=by omega
  clear hcut hcl
  go_enter Try.func45,Try.ntmps45
  go_wp2_with fail
  refine HO.out.mono ?_
  rintro e w1 ⟨rfl,hb⟩
  go_wp2
  go_ret2
  exact ⟨rfl,hb⟩
def offD (m l:List Int):Nat:=if hasP l m then m.length else 0
def begD (m l:List Int):Bool:=match l.drop (offD m l) with
 | []=>false
 | c :: _=>dgB c
set_option maxHeartbeats 2000000 in
theorem begins46 (s t:ByteArray) (a:Nat) (ha:a≤s.size) (hs:s.size≤140737488355328) (ht:t.size≤1000) (w:World) :
  Calls Try.prog 46 #[.string s,.int .i64 (a:Int),.string t] w fun e w'=>e=.returned (.bool (begD (numsS t) ((numsS s).drop a)))∧w'=w:=by
 have H1:=hide (starts25 s t a ha hs ht w)
 obtain ⟨p,hp⟩:∃ p:Nat,p=if hasP ((numsS s).drop a) (numsS t) then a+t.size else a:=⟨_,rfl⟩
 have hpl:p≤s.size:=by
  split at hp
  ·rename_i h
   have:=hasP_len h
   rw [List.length_drop,numsS_len,numsS_len] at this
   omega
  ·omega
 have HB:=hide (show begD (numsS t) ((numsS s).drop a)=if p < s.size then dgB (byt s p) else false by
  have:((numsS s).drop a).drop (offD (numsS t) ((numsS s).drop a))=(numsS s).drop p:=by
   rw [List.drop_drop]; unfold offD; rw [hp]
   split <;> simp [numsS_len]
  unfold begD
  rw [this]
  split
  ·rename_i h
   rw [if_neg]
   have:=congrArg List.length h
   rw [List.length_drop,numsS_len] at this
   simp at this
   omega
  ·rename_i c r h
   have hlt:p < s.size:=by
    have:=congrArg List.length h
    rw [List.length_drop,numsS_len] at this
    simp at this
    omega
   rw [if_pos hlt]
   rw [numsS_drop s p hlt] at h
   simp only [List.cons.injEq] at h
   rw [h.1])
 generalize begD (numsS t) ((numsS s).drop a)=RES at *
 cases hh:hasP ((numsS s).drop a) (numsS t) with
 | true =>
  rw [hh] at H1 hp
  simp only [if_true] at hp
  have hp2:(p:Int)=(a:Int)+(t.size:Int):=by omega
  clear hh
  by_cases hlt:p < s.size
  ·have hx:=byt_run s p hlt
   rw [hp2] at hx
   have hlt2:(a:Int)+(t.size:Int) < (s.size:Int):=by omega
   rw [if_pos hlt] at HB
   have HD:=hide (digit73 (byt s p) w)
   rw [←HB.out] at HD
   clear HB
   generalize byt s p=c at *
   have HX:=hide hx
   clear hp2
   go_enter Try.func46,Try.ntmps46
   go_wp2_with fail
   refine H1.out.mono ?_
   rintro e w1 ⟨rfl,rfl⟩
   go_wp2_with fail
   refine HD.out.mono ?_
   rintro e w1 ⟨rfl,rfl⟩
   go_wp2
   go_ret
   exact ⟨retB (by simp),rfl⟩
  ·have hlt2:¬ (a:Int)+(t.size:Int) < (s.size:Int):=by omega
   rw [if_neg hlt] at HB
   clear hp2
   go_enter Try.func46,Try.ntmps46
   go_wp2_with fail
   refine H1.out.mono ?_
   rintro e w1 ⟨rfl,rfl⟩
   go_wp2
   go_ret
   exact ⟨retB (by rw [HB.out]),rfl⟩
 | false =>
  rw [hh] at H1 hp
  simp only [Bool.false_eq_true,if_false] at hp
  subst hp
  clear hh
  by_cases hlt:p < s.size
  ·have hx:=byt_run s p hlt
   have hlt2:(p:Int) < (s.size:Int):=by omega
   rw [if_pos hlt] at HB
   have HD:=hide (digit73 (byt s p) w)
   rw [←HB.out] at HD
   clear HB
   generalize byt s p=c at *
   go_enter Try.func46,Try.ntmps46
   go_wp2_with fail
   refine H1.out.mono ?_
   rintro e w1 ⟨rfl,rfl⟩
   go_wp2_with fail
   refine HD.out.mono ?_
   rintro e w1 ⟨rfl,rfl⟩
   go_wp2
   go_ret
   exact ⟨retB (by simp),rfl⟩
  ·have hlt2:¬ (p:Int) < (s.size:Int):=by omega
   rw [if_neg hlt] at HB
   go_enter Try.func46,Try.ntmps46
   go_wp2_with fail
   refine H1.out.mono ?_
   rintro e w1 ⟨rfl,rfl⟩
   go_wp2
   go_ret
   exact ⟨retB (by rw [HB.out]),rfl⟩
end Go.Proofs.Ytnaejfoighmfeaa.Rn
