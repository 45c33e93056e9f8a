import Derived.Test.YtnaejfoighmfeaaM4
import Derived.Laws.BitsAllLaws
import Derived.Lib.Bits
import Derived.Test.YtnaejfoighmfeaaChecked
import GoSem.Claim
import GoSem.ClaimJoined
import GoSem.ClaimMapViews
import Derived.JoinedTies
import Derived.KernelRfl
import Derived.WalkKit
import Derived.ProofKit
import Derived.Below
import Derived.Deep.QuietTactic
import Derived.BigQuiet
import Derived.Lib.SlBytesConst
import Derived.Laws.BytesArg
import Derived.Laws.MakeOwn
import Derived.Deep.RegionHeld3
import Derived.Laws.AppendOwnNone
import Derived.BigFrame
import Derived.OpenShut
import Derived.ChangeOld
import Derived.SizedLaws
import Derived.Deep.DeepHandedRow
import Derived.Lib.LaidTab
import Derived.Deep.OwnRows
import Derived.Deep.RegionWith
import Derived.Deep.Slices
import Derived.Deep.Strs
import Derived.Deep.LoopGhost
import Derived.Lib.ConvBytes
import Derived.Deep.RegionLaw
import Derived.Deep.CutRange
import Derived.Lib.SliceRun
import Derived.WalkLawsBesides
import Derived.Maps.AppendAt
import Derived.Deep.MidRow
import Derived.Defers
import Derived.Recover
import Derived.Deep.Cut
import Derived.ChangeMaps5
namespace Go.Proofs.Ytnaejfoighmfeaa
open Go.ChangeShapes Go.WideShapes Go.ChangeAt Go.RowKit
set_option maxRecDepth 100000
set_option linter.unusedVariables false
set_option linter.unusedSimpArgs false
def nsz:Nd→Nat
 | .mk _ _ _ _ ks _=>1+(ks.map nsz).sum
theorem nsz_eq (x:Nd):nsz x=1+(x.kids.map nsz).sum:=by
 obtain ⟨k,o,s,l,ks,p⟩:=x
 rw [nsz]; rfl
def nszL (ks:List Nd):Nat:=(ks.map nsz).sum
theorem nAt_get {ks:List Nd} {j:Nat} (hj:j < ks.length):nAt ks j=ks[j]:=by simp [nAt,hj]
theorem nszL_take {ks:List Nd} {j:Nat} (hj:j < ks.length):nszL (ks.take (j+1))=nszL (ks.take j)+nsz (nAt ks j):=by
 unfold nszL
 rw [List.take_succ_eq_append_getElem hj,List.map_append,List.sum_append,nAt_get hj]; simp
theorem trd_size {n B m:Nat} {D:Nat→Prop} {w:World} {x:Nd} {v:Value} (h:TrD n B m D w x v):nsz x=sizeN m x:=by
 induction m generalizing D x v with
 | zero=>exact h.elim
 | succ m ih =>
  obtain ⟨a1,c1,a2,c2,ak,ck,hv,hA,hl,hs,hc⟩:=h
  obtain ⟨k,o,s,l,ks,p⟩:=x
  rw [size_mk,nsz]
  have hc':TrK (TrD n B m) D w ks ak:=hc
  rcases hc' with hc' | ⟨b,F,-,-,-,-,-,h5⟩
  ·subst hc'; rfl
  ·congr 2
   refine List.map_congr_left fun y hy=>?_
   obtain ⟨j,hj,rfl⟩:=List.getElem_of_mem hy
   obtain ⟨d1,e1,d2,e2,dk,ek,-,h7⟩:=h5 j hj
   rw [←nAt_get hj]
   exact ih h7
theorem TrK.keep {n B m:Nat} {D:Nat→Prop} {w W:World} {ks:List Nd} {ak:Option Addr} (h:TrK (TrD n B m) D w ks ak) (hk:KpD B D w W):TrK (TrD n B m) D W ks ak :=
 h.map hk.1.size hk.2 fun F x v h1 hP=>hP.keep (hk.less h1)
structure Sl where
 m:Nat
 ks:List Nd
 ak:Option Addr
 ck:Nat
 D:Nat→Prop
def Sl.v (s:Sl):Value:=.slice s.ak s.ks.length s.ck
def mu (St:List Sl):Nat:=(St.map fun s=>1+nszL s.ks).sum
theorem mu_cons (s:Sl) (St:List Sl):mu (s :: St)=1+nszL s.ks+mu St:=by simp [mu]
theorem mu_append (a b:List Sl):mu (a ++ b)=mu a+mu b:=by simp [mu]
theorem mu_len (St:List Sl):St.length≤mu St:=by
 induction St with
 | nil=>simp [mu]
 | cons s St ih=>rw [mu_cons,List.length_cons]; omega
def Waits (n B:Nat) (w:World) (s:Sl):Prop:=TrK (TrD n B s.m) s.D w s.ks s.ak
def Named (n B:Nat) (w:World) (s:Sl):Prop:=TrK (TrD n B s.m) s.D w (s.ks.map renT) s.ak
structure RnI (n B m:Nat) (D:Nat→Prop) (ks:List Nd) (ak:Option Addr) (w:World) (St:List Sl) (wr:World):Prop where
 but:But D w wr
 st:∀ s ∈ St,Waits n B wr s∧∀ k,s.D k→D k
 pw:St.Pairwise fun a b=>∀ k,a.D k→¬ b.D k
 root:∀ W,Below B wr W→(∀ k,D k→(∀ s ∈ St,¬ s.D k)→W.heap[k]?=wr.heap[k]?)→(∀ s ∈ St,Named n B W s)→TrK (TrD n B m) D W (ks.map renT) ak
theorem but_base {T:Nat→Prop} {w a b:World} (h:But T w a) (hb:Below w.heap.size a b):But T w b :=
 h.trans (⟨hb.os,hb.tape,hb.output,hb.size,fun k hk hn=>hb.block k (by omega)⟩:But (fun k=>w.heap.size≤k) a b) fun j hj hh=>by omega
section
variable {n B m:Nat} {D:Nat→Prop} {ks:List Nd} {ak:Option Addr} {w:World} {St:List Sl} {wr wr':World}
theorem RnI.next (h:RnI n B m D ks ak w St wr) (hD:∀ k,D k→B≤k∧k < w.heap.size) (hB:B≤w.heap.size) (hb:Below w.heap.size wr wr'):RnI n B m D ks ak w St wr':=by
 refine ⟨but_base h.but hb,fun s hs=>⟨TrK.keep (h.st s hs).1 ⟨hb.mono hB,fun k hk=>hb.block k (hD k ((h.st s hs).2 k hk)).2⟩,(h.st s hs).2⟩,h.pw,fun W hW hk hn=>h.root W ((hb.mono hB).trans hW) (fun k h1 h2=>(hk k h1 h2).trans (hb.block k (hD k h1).2)) hn⟩
theorem RnI.start (hk:TrK (TrD n B m) D w ks ak) (ck:Nat):RnI n B m D ks ak w [⟨m,ks,ak,ck,D⟩] w :=
 ⟨But.refl _ _,fun s hs=>by rw [List.mem_singleton.1 hs]; exact ⟨hk,fun k h=>h⟩,by simp,fun W hW hk hn=>hn ⟨m,ks,ak,ck,D⟩ (by simp)⟩
theorem RnI.fin (h:RnI n B m D ks ak w [] wr):But D w wr∧TrK (TrD n B m) D wr (ks.map renT) ak :=
 ⟨h.but,h.root wr (Below.refl _ _) (fun _ _ _=>rfl) (fun s hs=>by cases hs)⟩
theorem RnI.pop0 {c:Sl} (h:RnI n B m D ks ak w (c :: St) wr) (h0:c.ks=[]):RnI n B m D ks ak w St wr:=by
 refine ⟨h.but,fun s hs=>h.st s (by simp [hs]),(List.pairwise_cons.1 h.pw).2,fun W hW hk hn=>h.root W hW (fun k h1 h2=>hk k h1 fun s hs=>h2 s (by simp [hs])) fun s hs=>?_⟩
 rcases List.mem_cons.1 hs with rfl | hs
 ·exact Or.inl (by rw [h0]; rfl)
 ·exact hn s hs
end
structure RnC (n B m:Nat) (D0:Nat→Prop) (ks0:List Nd) (b:Nat) (F:Nat→Nat→Prop) (i:Nat) (ps:List Sl) (wr:World):Prop where
 hb:D0 b
 lt:b < wr.heap.size
 fz:∀ o,wr.frozen? ⟨b,o,none⟩=false
 dj:∀ j,j < ks0.length→(∀ k,F j k→D0 k∧k ≠ b)∧∀ i,i < ks0.length→i ≠ j→∀ k,F i k→¬ F j k
 rest:∀ j,i≤j→j < ks0.length→∃ d1 e1 d2 e2 dk ek,Seven wr b (j * 7) (nAt ks0 j) d1 e1 d2 e2 dk ek∧TrD n B m (F j) wr (nAt ks0 j) (ndV (nAt ks0 j) d1 e1 d2 e2 dk ek)
 done:∀ j,j < i→j < ks0.length→∃ d1 e1 d2 e2 dk ek,Seven wr b (j * 7) (renT (nAt ks0 j)) d1 e1 d2 e2 dk ek∧∀ W,Below B wr W→(∀ k,F j k→(∀ s ∈ ps,¬ s.D k)→W.heap[k]?=wr.heap[k]?)→(∀ s ∈ ps,Named n B W s)→TrD n B m (F j) W (renT (nAt ks0 j)) (ndV (renT (nAt ks0 j)) d1 e1 d2 e2 dk ek)
 wt:∀ s ∈ ps,Waits n B wr s∧∃ j,j < i∧j < ks0.length∧∀ k,s.D k→F j k
 pw:ps.Pairwise fun a b=>∀ k,a.D k→¬ b.D k
section
variable {n B m:Nat} {D0:Nat→Prop} {ks0:List Nd} {b:Nat} {F:Nat→Nat→Prop} {i:Nat} {ps:List Sl} {wr wr':World}
theorem RnC.next (h:RnC n B m D0 ks0 b F i ps wr) (hB:Below B wr wr') (hk:∀ k,D0 k→wr'.heap[k]?=wr.heap[k]?):RnC n B m D0 ks0 b F i ps wr':=by
 have hF:∀ j,j < ks0.length→∀ k,F j k→wr'.heap[k]?=wr.heap[k]?:=fun j hj k hF=>hk k ((h.dj j hj).1 k hF).1
 refine ⟨h.hb,Nat.lt_of_lt_of_le h.lt hB.size,fun o=>(frozen_block (hk b h.hb) o).trans (h.fz o),h.dj,fun j h1 h2=>?_,fun j h1 h2=>?_,fun s hs=>?_,h.pw⟩
 ·obtain ⟨d1,e1,d2,e2,dk,ek,h6,h7⟩:=h.rest j h1 h2
  exact ⟨d1,e1,d2,e2,dk,ek,h6.block (hk b h.hb),h7.keep ⟨hB,hF j h2⟩⟩
 ·obtain ⟨d1,e1,d2,e2,dk,ek,h6,h7⟩:=h.done j h1 h2
  exact ⟨d1,e1,d2,e2,dk,ek,h6.block (hk b h.hb),fun W hW hk2 hn=>h7 W (hB.trans hW) (fun k h3 h4=>(hk2 k h3 h4).trans (hF j h2 k h3)) hn⟩
 ·obtain ⟨h1,j,h2,h3,h4⟩:=h.wt s hs
  exact ⟨TrK.keep h1 ⟨hB,fun k hk3=>hF j h3 k (h4 k hk3)⟩,j,h2,h3,h4⟩
theorem RnC.off (h:RnC n B m D0 ks0 b F i ps wr) (hi:i < ks0.length) {s:Sl} (hs:s ∈ ps) {k:Nat} (hk:F i k):¬ s.D k:=fun hD=>by
 obtain ⟨-,j,h2,h3,h4⟩:=h.wt s hs
 exact (h.dj i hi).2 j h3 (by omega) k (h4 k hD) hk
theorem seven_off {W:World} {b o o':Nat} {x:Nd} {a1 a2 ak:Option Addr} {c1 c2 ck:Nat} (h:Seven W b o x a1 c1 a2 c2 ak ck) (u:Value) (ho:o' < o ∨ o+7≤o'):Seven (W.setCell ⟨b,o',none⟩ u) b o x a1 c1 a2 c2 ak ck:=by
 obtain ⟨h0,h1,h2,h3,h4,h5,h6⟩:=h
 exact ⟨cs_off (by omega) h0,cs_off (by omega) h1,cs_off (by omega) h2,cs_off (by omega) h3,cs_off (by omega) h4,cs_off (by omega) h5,cs_off (by omega) h6⟩
theorem RnC.left (h:RnC n B m D0 ks0 b F i ps wr) (hi:i < ks0.length) (hk3:(nAt ks0 i).kind=3) (hBb:B≤b):RnC n B m D0 ks0 b F (i+1) ps (wr.setCell ⟨b,i * 7,none⟩ (.int .i64 4)):=by
 have hB:Below B wr (wr.setCell ⟨b,i * 7,none⟩ (.int .i64 4)):=(Below.refl _ _).setCell hBb _
 have hne:∀ k,k ≠ b→(wr.setCell ⟨b,i * 7,none⟩ (.int .i64 4)).heap[k]?=wr.heap[k]?:=fun k hk=>Below.heap_setCell _ _ _ _ hk
 have hF:∀ j,j < ks0.length→∀ k,F j k→(wr.setCell ⟨b,i * 7,none⟩ (.int .i64 4)).heap[k]?=wr.heap[k]?:=fun j hj k hF=>hne k ((h.dj j hj).1 k hF).2
 refine ⟨h.hb,Nat.lt_of_lt_of_le h.lt hB.size,fun o=>fs_any (h.fz o),h.dj,fun j h1 h2=>?_,fun j h1 h2=>?_,fun s hs=>?_,h.pw⟩
 ·obtain ⟨d1,e1,d2,e2,dk,ek,h6,h7⟩:=h.rest j (by omega) h2
  exact ⟨d1,e1,d2,e2,dk,ek,seven_off h6 _ (by omega),h7.keep ⟨hB,hF j h2⟩⟩
 ·by_cases hj:j=i
  ·subst hj
   obtain ⟨d1,e1,d2,e2,dk,ek,h6,h7⟩:=h.rest j (Nat.le_refl _) h2
   refine ⟨d1,e1,d2,e2,dk,ek,?_,fun W hW hk2 hn=>?_⟩
   ·obtain ⟨g0,g1,g2,g3,g4,g5,g6⟩:=h6
    generalize nAt ks0 j=x at *
    obtain ⟨K,o,s,l,ks,p⟩:=x
    have hK:K=3:=hk3
    subst hK
    rw [renT_eq,if_pos rfl]
    exact ⟨cs_same g0,cs_off (by omega) g1,cs_off (by omega) g2,cs_off (by omega) g3,cs_off (by omega) g4,cs_off (by omega) g5,cs_off (by omega) g6⟩
   ·have t:=h7.keep (⟨hB.trans hW,fun k hk=>(hk2 k hk fun s hs=>h.off h2 hs hk).trans (hF j h2 k hk)⟩:KpD B (F j) wr W)
    clear h7 h6
    generalize nAt ks0 j=x at *
    obtain ⟨K,o,s,l,ks,p⟩:=x
    have hK:K=3:=hk3
    subst hK
    rw [renT_eq,if_pos rfl]
    cases m with
    | zero=>exact t.elim
    | succ m =>
     obtain ⟨a1,c1,a2,c2,ak,ck,hv,hA,hl,hs,hc⟩:=t
     cases hv
     exact ⟨d1,e1,d2,e2,dk,ek,rfl,hA,hl,hs,hc⟩
  ·obtain ⟨d1,e1,d2,e2,dk,ek,h6,h7⟩:=h.done j (by omega) h2
   exact ⟨d1,e1,d2,e2,dk,ek,seven_off h6 _ (by omega),fun W hW hk2 hn=>h7 W (hB.trans hW) (fun k h3 h4=>(hk2 k h3 h4).trans (hF j h2 k h3)) hn⟩
 ·obtain ⟨h1,j,h2,h3,h4⟩:=h.wt s hs
  exact ⟨TrK.keep h1 ⟨hB,fun k hk3=>hF j h3 k (h4 k hk3)⟩,j,by omega,h3,h4⟩
theorem RnC.skip (h:RnC n B m D0 ks0 b F i ps wr) (hi:i < ks0.length) (hk3:(nAt ks0 i).kind=22 ∨ (nAt ks0 i).kind=23):RnC n B m D0 ks0 b F (i+1) ps wr:=by
 refine ⟨h.hb,h.lt,h.fz,h.dj,fun j h1 h2=>h.rest j (by omega) h2,fun j h1 h2=>?_,fun s hs=>?_,h.pw⟩
 ·by_cases hj:j=i
  ·subst hj
   obtain ⟨d1,e1,d2,e2,dk,ek,h6,h7⟩:=h.rest j (Nat.le_refl _) h2
   have e:renT (nAt ks0 j)=nAt ks0 j:=by
    generalize nAt ks0 j=x at *
    obtain ⟨K,o,s,l,ks,p⟩:=x
    have hK:K=22 ∨ K=23:=hk3
    rw [renT_eq,if_neg (by omega),if_pos hK]
   rw [e]
   exact ⟨d1,e1,d2,e2,dk,ek,h6,fun W hW hk2 hn=>h7.keep ⟨hW,fun k hk=>hk2 k hk fun s hs=>h.off h2 hs hk⟩⟩
  ·exact h.done j (by omega) h2
 ·obtain ⟨h1,j,h2,h3,h4⟩:=h.wt s hs
  exact ⟨h1,j,by omega,h3,h4⟩
end
theorem litD_any (n B:Nat) (D:Nat→Prop) (w:World) (l:Ar) (hl:l=.mk [] []) (a1 a2:Option Addr) (c1 c2:Nat):LitD (n+1) B D w l (.agg #[.slice a1 l.shape.length c1,.slice a2 l.cells.length c2]):=fun W _=>by
 subst hl
 exact ⟨a1,c1,a2,c2,rfl,⟨by simp [Ar.shape],Or.inl rfl⟩,by simp [Ar.cells],Or.inl rfl⟩
section
variable {n B m:Nat} {D0:Nat→Prop} {ks0:List Nd} {b:Nat} {F:Nat→Nat→Prop} {i:Nat} {ps:List Sl} {wr wr':World}
def stD (ks:List Nd) (D:Nat→Prop) (k:Nat):Prop:=ks ≠ []∧D k
theorem RnC.push (h:RnC (n+1) B (m+1) D0 ks0 b F i ps wr) (hi:i < ks0.length) (hk3:(nAt ks0 i).kind ≠ 3∧(nAt ks0 i).kind ≠ 22∧(nAt ks0 i).kind ≠ 23) {dk:Option Addr} {ek:Nat} {L:Nat} (hc:wr.cell? ⟨b,i * 7+5,none⟩=some (.slice dk L ek)) :
  RnC (n+1) B (m+1) D0 ks0 b F (i+1) (⟨m,(nAt ks0 i).kids,dk,ek,stD (nAt ks0 i).kids (F i)⟩ :: ps) wr:=by
 obtain ⟨d1,e1,d2,e2,dk',ek',h6,h7⟩:=h.rest i (Nat.le_refl _) hi
 obtain ⟨rfl,rfl,rfl⟩:dk=dk'∧L=(nAt ks0 i).kids.length∧ek=ek':=by
  have:=hc.symm.trans h6.2.2.2.2.2.1
  simp only [Option.some.injEq,Value.slice.injEq] at this
  exact this
 have hkeep:=fun W (hW:Below B wr W) (hk:∀ k,F i k→W.heap[k]?=wr.heap[k]?)=>h7.keep (⟨hW,hk⟩:KpD B (F i) wr W)
 have h70:=h7
 obtain ⟨a1,c1,a2,c2,ak,ck,hv,hA,hl,hs,hcK⟩:=h7
 cases hv
 refine ⟨h.hb,h.lt,h.fz,h.dj,fun j h1 h2=>h.rest j (by omega) h2,fun j h1 h2=>?_,fun s hs'=>?_,?_⟩
 ·by_cases hj:j=i
  ·subst hj
   refine ⟨d1,e1,d2,e2,dk,ek,?_,fun W hW hk2 hn=>?_⟩
   ·obtain ⟨g0,g1,g2,g3,g4,g5,g6⟩:=h6
    generalize nAt ks0 j=x at *
    obtain ⟨K,o,s,l,ks,p⟩:=x
    have hK:K ≠ 3∧K ≠ 22∧K ≠ 23:=hk3
    rw [renT_eq,if_neg hK.1,if_neg (by omega)]
    refine ⟨g0,g1,g2,g3,g4,?_,g6⟩
    have:(ks.map renT).length=ks.length:=by simp
    show wr.cell? _=some (.slice dk (ks.map renT).length ek)
    rw [this]; exact g5
   ·have hn0:=hn ⟨m,(nAt ks0 j).kids,dk,ek,stD (nAt ks0 j).kids (F j)⟩ (by simp)
    have hA':LitD (n+1) B (F j) W (nAt ks0 j).lit (.agg #[.slice d1 (nAt ks0 j).lit.shape.length e1,.slice d2 (nAt ks0 j).lit.cells.length e2]):=by
     rcases hl.2 with h0 | h0
     ·intro W' hW'
      refine hA W' ⟨hW.trans hW'.1,fun k hk=>(hW'.2 k hk).trans (hk2 k hk fun s hs'=>?_)⟩
      rcases List.mem_cons.1 hs' with rfl | hs'
      ·exact fun hh=>hh.1 h0
      ·exact h.off h2 hs' hk
     ·exact litD_any n B _ W _ h0 _ _ _ _
    clear hkeep h70 hA hcK h6 hn hk2
    generalize nAt ks0 j=x at *
    obtain ⟨K,o,s,l,ks,p⟩:=x
    have hK:K ≠ 3∧K ≠ 22∧K ≠ 23:=hk3
    rw [renT_eq,if_neg hK.1,if_neg (by omega)]
    have hlen:(ks.map renT).length=ks.length:=by simp
    refine ⟨d1,e1,d2,e2,dk,ek,rfl,hA',⟨by show (ks.map renT).length≤_; rw [hlen]; exact hl.1,?_⟩,hs,?_⟩
    ·rcases hl.2 with h0 | h0
     ·have h0':ks=[]:=h0
      exact Or.inl (by show ks.map renT=[]; rw [h0']; rfl)
     ·exact Or.inr h0
    ·have hn1:TrK (TrD (n+1) B m) (stD ks (F j)) W (ks.map renT) dk:=hn0
     show TrK (TrD (n+1) B m) (F j) W (ks.map renT) dk
     rcases hn1 with h0 | ⟨b',G,ha,g1,g3,gf,g4,g5⟩
     ·exact Or.inl h0
     ·exact Or.inr ⟨b',G,ha,g1.2,g3,gf,fun j' hj'=>⟨fun k hk=>⟨((g4 j' hj').1 k hk).1.2,((g4 j' hj').1 k hk).2⟩,(g4 j' hj').2⟩,g5⟩
  ·obtain ⟨d1,e1,d2,e2,dk',ek',h6',h7'⟩:=h.done j (by omega) h2
   refine ⟨d1,e1,d2,e2,dk',ek',h6',fun W hW hk2 hn=>h7' W hW (fun k h3 h4=>hk2 k h3 fun s hs'=>?_) fun s hs'=>hn s (by simp [hs'])⟩
   rcases List.mem_cons.1 hs' with rfl | hs'
   ·exact fun hh=>(h.dj j h2).2 i hi (Ne.symm hj) k hh.2 h3
   ·exact h4 s hs'
 ·rcases List.mem_cons.1 hs' with rfl | hs'
  ·refine ⟨?_,i,by omega,hi,fun k hk=>hk.2⟩
   show TrK (TrD (n+1) B m) (stD (nAt ks0 i).kids (F i)) wr (nAt ks0 i).kids dk
   by_cases h0:(nAt ks0 i).kids=[]
   ·exact Or.inl h0
   ·rcases hcK with h1 | ⟨b',G,ha,g1,g3,gf,g4,g5⟩
    ·exact absurd h1 h0
    ·exact Or.inr ⟨b',G,ha,⟨h0,g1⟩,g3,gf,fun j' hj'=>⟨fun k hk=>⟨⟨h0,((g4 j' hj').1 k hk).1⟩,((g4 j' hj').1 k hk).2⟩,(g4 j' hj').2⟩,g5⟩
  ·obtain ⟨h1,j,h2,h3,h4⟩:=h.wt s hs'
   exact ⟨h1,j,by omega,h3,h4⟩
 ·refine List.pairwise_cons.2 ⟨fun s hs' k hk hh=>h.off hi hs' hk.2 hh,h.pw⟩
end
section
variable {n B m m0:Nat} {D:Nat→Prop} {ks:List Nd} {ak:Option Addr} {w wp wr:World} {St ps:List Sl} {c:Sl} {b:Nat} {F:Nat→Nat→Prop}
theorem RnI.take (h:RnI n B m D ks ak w (c :: St) wp) (h0:c.ks ≠ []):∃ b F,c.ak=some ⟨b,0,none⟩∧RnC n B c.m c.D c.ks b F 0 [] wp:=by
 have hc:TrK (TrD n B c.m) c.D wp c.ks c.ak:=(h.st c (by simp)).1
 rcases hc with h1 | ⟨b,F,ha,h1,h3,hf,h4,h5⟩
 ·exact absurd h1 h0
 ·exact ⟨b,F,ha,h1,h3,hf,h4,fun j _ hj=>h5 j hj,fun j hj=>by omega,(fun s hs=>by cases hs),List.Pairwise.nil⟩
theorem RnI.put (h:RnI n B m D ks ak w (c :: St) wp) (hD:∀ k,D k→B≤k∧k < w.heap.size) (hB:B≤w.heap.size) (hc:RnC n B c.m c.D c.ks b F c.ks.length ps wr) (hak:c.ak=some ⟨b,0,none⟩) (hb:But (fun k=>k=b ∨ w.heap.size≤k) wp wr):RnI n B m D ks ak w (ps ++ St) wr:=by
 have hcD:=(h.st c (by simp)).2
 have hcS:∀ s ∈ St,∀ k,c.D k→¬ s.D k:=(List.pairwise_cons.1 h.pw).1
 have hps:∀ s ∈ ps,∀ k,s.D k→c.D k∧k ≠ b:=fun s hs k hk=>by
  obtain ⟨-,j,h2,h3,h4⟩:=hc.wt s hs
  exact (hc.dj j h3).1 k (h4 k hk)
 have hwp:=h.but.size
 have hBB:Below B wp wr:=hb.below (by omega) fun k hk=>by
  rcases hk with rfl | hk
  ·exact (hD _ (hcD _ hc.hb)).1
  ·omega
 have hsame:∀ k,D k→k ≠ b→wr.heap[k]?=wp.heap[k]?:=fun k hk hn=>hb.block (by have:=(hD k hk).2; omega) fun hh=>by
  have:=(hD k hk).2
  rcases hh with hh | hh
  ·exact hn hh
  ·omega
 refine ⟨h.but.trans hb fun j hj hh=>?_,fun s hs=>?_,?_,fun W hW hk hn=>?_⟩
 ·rcases hh with rfl | hh
  ·exact hcD _ hc.hb
  ·omega
 ·rcases List.mem_append.1 hs with hs | hs
  ·exact ⟨(hc.wt s hs).1,fun k hk=>hcD k (hps s hs k hk).1⟩
  ·have:=h.st s (by simp [hs])
   exact ⟨TrK.keep this.1 ⟨hBB,fun k hk=>hsame k (this.2 k hk) fun e=>hcS s hs k (e ▸ hc.hb) hk⟩,this.2⟩
 ·exact List.pairwise_append.2 ⟨hc.pw,(List.pairwise_cons.1 h.pw).2,fun a ha s hs k hk=>hcS s hs k (hps a ha k hk).1⟩
 ·refine h.root W (hBB.trans hW) (fun k h1 h2=>?_) fun s hs=>?_
  ·have hnb:¬ c.D k:=h2 c (by simp)
   refine (hk k h1 fun s hs=>?_).trans (hsame k h1 fun e=>hnb (e ▸ hc.hb))
   rcases List.mem_append.1 hs with hs | hs
   ·exact fun hh=>hnb (hps s hs k hh).1
   ·exact h2 s (by simp [hs])
  ·rcases List.mem_cons.1 hs with rfl | hs
   ·have hbk:∀ k,s.D k→(∀ t ∈ ps,¬ t.D k)→W.heap[k]?=wr.heap[k]?:=fun k hk1 hk2=>hk k (hcD k hk1) fun t ht=>by
     rcases List.mem_append.1 ht with ht | ht
     ·exact hk2 t ht
     ·exact hcS t ht k hk1
    have hbb:=hbk b hc.hb fun t ht hh=>(hps t ht b hh).2 rfl
    refine Or.inr ⟨b,F,hak,hc.hb,Nat.lt_of_lt_of_le hc.lt hW.size,fun o=>(frozen_block hbb o).trans (hc.fz o),fun j hj=>?_,fun j hj=>?_⟩
    ·rw [List.length_map] at hj
     exact ⟨(hc.dj j hj).1,fun i hi=>(hc.dj j hj).2 i (by rw [List.length_map] at hi; exact hi)⟩
    ·rw [List.length_map] at hj
     obtain ⟨d1,e1,d2,e2,dk,ek,h6,h7⟩:=hc.done j hj hj
     rw [map_at renT s.ks j hj]
     exact ⟨d1,e1,d2,e2,dk,ek,h6.block hbb,h7 W hW (fun k h3 h4=>hbk k ((hc.dj j hj).1 k h3).1 h4) fun t ht=>hn t (by simp [ht])⟩
   ·exact hn s (by simp [hs])
end
end Go.Proofs.Ytnaejfoighmfeaa
namespace Go.Proofs.Ytnaejfoighmfeaa
open Go.ChangeShapes Go.WideShapes Go.ChangeAt Go.RowKit
set_option maxRecDepth 100000
set_option linter.unusedVariables false
set_option linter.unusedSimpArgs false
theorem inf37:(Try.prog.info? 37).map (fun i=>(i.zero,i.size,i.bytes))=some (some (.slice none 0 0),1,24):=by kernel_rfl
theorem sz37:(Try.prog.info? 37).map (·.size)=some 1:=by kernel_rfl
theorem info37':∃ i,Try.prog.info? 37=some i∧i.zero=some (.slice none 0 0)∧i.size=1∧i.bytes=24:=by
 obtain ⟨i,hi,hzz⟩:=Option.map_eq_some_iff.1 inf37
 simp only [Prod.mk.injEq] at hzz
 exact ⟨i,hi,hzz.1,hzz.2.1,hzz.2.2⟩
theorem ownsS_form {w:World} {base:Nat} {v:Value} {n:Nat} {xs:List Value} (h:w.ownsRow base 37 1 v n xs):∃ va vc,v=.slice va n vc:=by
 rcases h.2 with ⟨hv,h0⟩ | ⟨g,cap,cur,hv,-⟩
 ·exact ⟨none,0,by rw [hv,h0]⟩
 ·exact ⟨_,cap,hv⟩
theorem owns_popS {w:World} {base:Nat} {v:Value} {x:Sl} {st:List Sl} (h:w.ownsRow base 37 1 v (x :: st).length ((x :: st).reverse.map Sl.v)):∃ g cap,v=.slice (some ⟨g,0,none⟩) (st.length+1) cap∧base≤g∧g < w.heap.size∧st.length≤cap∧w.cell? ⟨g,st.length,none⟩=some x.v∧∀ W:World,W.heap[g]?=w.heap[g]?→W.ownsRow base 37 1 (.slice (some ⟨g,0,none⟩) st.length cap) st.length (st.reverse.map Sl.v):=by
 have h':=h
 obtain ⟨h1,h2⟩:=h
 rcases h2 with ⟨-,h2⟩ | ⟨g,cap,cur,rfl,hb,hg,hn,hm,hs,ht⟩
 ·simp at h2
 ·simp only [List.length_cons] at hn hs ht
  refine ⟨g,cap,rfl,hb,lt_of_block hg,by omega,?_,fun W hW=>⟨by simp,Or.inr ⟨g,cap,cur,rfl,hb,hW.trans hg,by omega,hm,hs,?_⟩⟩⟩
  ·have:=h'.cellAt st.length (by simp)
   simpa using this
  ·have e:cur.toList.take (st.length * 1)=(cur.toList.take ((st.length+1) * 1)).take (st.length * 1):=by rw [List.take_take]; congr 1; omega
   rw [e,ht]
   simp [List.take_append]
theorem owns_keep37 {w W:World} {base n:Nat} {v:Value} {xs:List Value} (h:w.ownsRow base 37 1 v n xs) (hk:∀ g,base≤g→g < w.heap.size→W.heap[g]?=w.heap[g]?):W.ownsRow base 37 1 v n xs:=by
 obtain ⟨h1,h2⟩:=h
 refine ⟨h1,?_⟩
 rcases h2 with h2 | ⟨g,cap,cur,hv,hbg,hg,r⟩
 ·exact Or.inl h2
 ·exact Or.inr ⟨g,cap,cur,hv,hbg,(hk g hbg (lt_of_block hg)).trans hg,r⟩
theorem nsz_pos (x:Nd):1≤nsz x:=by rw [nsz_eq]; omega
theorem len_nszL (ks:List Nd):ks.length≤nszL ks:=by
 induction ks with
 | nil=>simp
 | cons x r ih =>
  have h1:=nsz_pos x
  have h2:nszL (x :: r)=nsz x+nszL r:=by simp [nszL]
  rw [h2,List.length_cons]; omega
theorem nszL_take_le (ks:List Nd) (j:Nat):nszL (ks.take j)≤nszL ks:=by
 have h:nszL ks=nszL (ks.take j)+nszL (ks.drop j):=by
  unfold nszL
  rw [←List.sum_append,← List.map_append,List.take_append_drop]
 omega
def RnR (n B m:Nat) (D:Nat→Prop) (ks:List Nd) (ak:Option Addr) (w wp:World) (St:List Sl) (c:Sl) (j:Nat) (ps:List Sl) (v:Value) (wr:World):Prop :=
 mu ps≤nszL (c.ks.take j)∧wr.ownsRow w.heap.size 37 1 v (ps ++ St).length ((ps ++ St).reverse.map Sl.v) ∧
 ((c.ks=[]∧RnI n B m D ks ak w (ps ++ St) wr) ∨ ∃ b F,c.ak=some ⟨b,0,none⟩∧RnC n B c.m c.D c.ks b F j ps wr∧But (fun k=>k=b ∨ w.heap.size≤k) wp wr)
set_option maxHeartbeats 8000000 in
theorem rename91 {n B m:Nat} {w:World} {D:Nat→Prop} {ks:List Nd} {ak:Option Addr} {ck:Nat} (hk:TrK (TrD (n+1) B m) D w ks ak) (hD:∀ k,D k→B≤k∧k < w.heap.size) (hB:B≤w.heap.size) (hsz:1+nszL ks≤4000) :
  Calls Try.prog 91 #[.slice ak ks.length ck] w fun en w'=>en=.returned (.tuple #[])∧But D w w'∧TrK (TrD (n+1) B m) D w' (ks.map renT) ak:=by
 obtain ⟨i37,hi37,hz0,hz1,hz2⟩:=info37'
 have b1:=one_alloc w (.cells #[.slice ak ks.length ck] 37)
 have RI0:Hid (RnI (n+1) B m D ks ak w [⟨m,ks,ak,ck,D⟩] (w.alloc (.cells #[.slice ak ks.length ck] 37))):=(RnI.start hk ck).next hD hB b1
 have OW0:Hid ((w.alloc (.cells #[.slice ak ks.length ck] 37)).ownsRow w.heap.size 37 1 (.slice (some ⟨w.heap.size,0,none⟩) 1 1) 1 [.slice ak ks.length ck]) :=
  ⟨rfl,Or.inr ⟨w.heap.size,1,#[.slice ak ks.length ck],rfl,Nat.le_refl _,by unfold World.alloc; exact Array.getElem?_push_size,by omega,by unfold maxLen; omega,rfl,rfl⟩⟩
 have MU0:Hid (mu [⟨m,ks,ak,ck,D⟩]≤4000):=by
  have h0:mu ([]:List Sl)=0:=rfl
  show mu _≤_
  rw [mu_cons,h0]
  show 1+nszL ks+0≤4000
  omega
 have HDD:=hide hD
 have HBB:=hide hB
 clear hk hD b1 hsz hB
 go_enter Try.func91,Try.ntmps91
 go_wp2
 go_loopg [2] (mu [⟨m,ks,ak,ck,D⟩]) (fun gm v wr=>∃ St:List Sl,gm=mu St∧mu St≤4000∧wr.ownsRow w.heap.size 37 1 v St.length (St.reverse.map Sl.v)∧RnI (n+1) B m D ks ak w St wr)
 case atStart=>exact ⟨_,rfl,MU0.out,OW0.out,RI0.out⟩
 case round =>
  clear RI0 OW0 MU0
  obtain ⟨St,rfl,hmu,hown,hri⟩:=hrel
  cases St with
  | nil =>
   have HF:=hide hri.fin
   obtain ⟨va,vc,rfl⟩:=ownsS_form hown
   clear hown hri
   go_wp2
   first
    | exact bodyPost_ret (v:=.tuple #[]) (by simp [results,Try.results91,go_sem]) rfl ⟨rfl,HF.out⟩
    | (go_end0; exact ⟨rfl,HF.out⟩)
  | cons c St =>
   obtain ⟨g,cap,rfl,hg1,hg2,hcap,hgc,hpop⟩:=owns_popS hown
   have hlen:=mu_len St
   have hmc:=mu_cons c St
   have hsl:=fun W=>part_h (P:=Try.prog) (t:=129) (e:=37) (sz:=1) Try.underlying129 sz37 (some ⟨g,0,none⟩) (St.length+1) cap St.length (St.length:Int) rfl hcap W
   have hM4:St.length≤4000:=by omega
   have HRI:=hide hri
   have HPOP:=hide hpop
   have HMC:=hide hmc
   have hge:(0:Int)≤(St.length:Int):=by omega
   have hgcn:=fun k=>(show (wr.drewN k).cell? ⟨g,St.length,none⟩=some (.slice c.ak c.ks.length c.ck) from hgc)
   have hgc0:wr.cell? ⟨g,St.length,none⟩=some (.slice c.ak c.ks.length c.ck):=hgc
   clear hown hri hpop hmc hgc
   generalize hM:St.length=M at *
   have HM:=hide hM
   clear hM hlen
   have e1:IntKind.i64.wrap (((M+1:Nat):Int) - 1)=(M:Int):=(IntWalk.i64_in _ ⟨by omega,by omega⟩).trans (by omega)
   go_upto_region 2 with fail
   go_quiet (fail)
   obtain ⟨wp,hwp⟩:∃ wp,wr.drewN nq=wp:=⟨_,rfl⟩
   have hbp:Below wr.heap.size wr wp:=by rw [←hwp]; exact drewN_below (Below.refl _ _) _
   rw [hwp]
   have HRP:=hide (HRI.out.next HDD.out HBB.out (hbp.mono HRI.out.but.size))
   have hbp2:=hbp.block g hg2
   have OWP:=hide (HPOP.out wp hbp2)
   have HMU:=hide hmu
   clear hwp HRI HPOP hbp2 hbp hgc0 hgcn hsl hcap hmu e1
   have CR0:Hid (RnR (n+1) B m D ks ak w wp St c 0 [] (.slice (some ⟨g,0,none⟩) M cap) wp):=by
    refine ⟨by simp [mu],by rw [List.nil_append,HM.out]; exact OWP.out,?_⟩
    by_cases h0:c.ks=[]
    ·exact Or.inl ⟨h0,HRP.out.pop0 h0⟩
    ·obtain ⟨b,F,h1,h2⟩:=HRP.out.take h0
     exact Or.inr ⟨b,F,h1,h2,But.refl _ _⟩
   clear OWP
   obtain ⟨L,hL⟩:∃ L,c.ks.length=L:=⟨_,rfl⟩
   have HL:=hide hL
   obtain ⟨a0,ha0⟩:∃ a0,c.ak=a0:=⟨_,rfl⟩
   have HA0:=hide ha0
   have hLs:L≤4000:=by
    have h1:=len_nszL c.ks
    have h2:=HMC.out
    have h3:=HMU.out
    omega
   rw [hL,ha0]
   clear hL ha0
   generalize c.ck=c0 at *
   go_wp2
   go_loopg [2,22] L (fun gm v ix wr=>∃ (j:Nat) (ps:List Sl),gm+j=L∧ix=.int .i64 (j:Int)∧RnR (n+1) B m D ks ak w wp St c j ps v wr)
   case atStart=>exact ⟨0,[],by omega,rfl,CR0.out⟩
   case round =>
    obtain ⟨j,ps,hj,rfl,hmp,hown,hor⟩:=hrel
    clear CR0
    have hPL:(ps ++ St).length≤4000:=by
     have h1:=mu_len (ps ++ St)
     have h2:=HMC.out
     have h3:=HMU.out
     have h4:=nszL_take_le c.ks j
     rw [mu_append] at h1
     omega
    by_cases hlt:j < L
    ·have hjl:j < c.ks.length:=by rw [HL.out]; exact hlt
     have hne:c.ks ≠ []:=fun h=>by rw [h] at hjl; simp at hjl
     obtain ⟨b,F,hak,hc,hbt⟩:=hor.resolve_left (fun h=>hne h.1)
     obtain rfl:a0=some ⟨b,0,none⟩:=HA0.out.symm.trans hak
     obtain ⟨d1,e1,d2,e2,dk,ek,h6,h7⟩:=hc.rest j (Nat.le_refl _) hjl
     obtain ⟨m',hm',-⟩:=h7.form
     obtain ⟨g0,-,-,-,-,g5,-⟩:=h6
     have hcD:=(HRP.out.st c (by simp)).2
     have hbD:=HDD.out b (hcD b hc.hb)
     have fz:=hc.fz (j * 7)
     have hnt:=nszL_take hjl
     obtain ⟨K,hK⟩:∃ K,(nAt c.ks j).kind=K:=⟨_,rfl⟩
     rw [hK] at g0
     obtain ⟨va,vc,rfl⟩:=ownsS_form hown
     generalize hPQ:(ps ++ St).length=PQ at *
     have HPQ:=hide hPQ
     clear hPQ
     by_cases h3:K=3
     ·subst h3
      have HN:Hid (RnR (n+1) B m D ks ak w wp St c (j+1) ps (.slice va PQ vc) (wr.setCell ⟨b,j * 7,none⟩ (.int .i64 4))) :=
       ⟨by omega,by rw [HPQ.out]; exact owns_keep37 hown (fun g hg1 hg2=>Below.heap_setCell _ _ _ _ (by simp; omega)),Or.inr ⟨b,F,hak,hc.left hjl hK hbD.1,butS hbt (Or.inl rfl)⟩⟩
      clear hmp hown hor hc hbt hak h7 hne HDD HBB HRP HM hK hcD hbD hnt HPQ hjl HL HA0 g5 HMC HMU
      go_wp2
      go_roundg (L - (j+1))
      case rel=>exact ⟨j+1,ps,by omega,by go_num,HN.out⟩
      case measure=>omega
     ·have k3:(K == 3)=false:=by simpa using h3
      by_cases h22:K=22
      ·subst h22
       have HN:Hid (RnR (n+1) B m D ks ak w wp St c (j+1) ps (.slice va PQ vc) wr) :=
        ⟨by omega,by rw [HPQ.out]; exact hown,Or.inr ⟨b,F,hak,hc.skip hjl (Or.inl hK),hbt⟩⟩
       clear hmp hown hor hc hbt hak h7 hne HDD HBB HRP HM hK hcD hbD hnt HPQ hjl HL HA0 g5 HMC HMU h3 k3 fz
       go_wp2
       go_roundg (L - (j+1))
       case rel=>exact ⟨j+1,ps,by omega,by go_num,HN.out⟩
       case measure=>omega
      ·have k22:(K == 22)=false:=by simpa using h22
       by_cases h23:K=23
       ·subst h23
        have HN:Hid (RnR (n+1) B m D ks ak w wp St c (j+1) ps (.slice va PQ vc) wr) :=
         ⟨by omega,by rw [HPQ.out]; exact hown,Or.inr ⟨b,F,hak,hc.skip hjl (Or.inr hK),hbt⟩⟩
        clear hmp hown hor hc hbt hak h7 hne HDD HBB HRP HM hK hcD hbD hnt HPQ hjl HL HA0 g5 HMC HMU h3 k3 fz h22 k22
        go_wp2
        go_roundg (L - (j+1))
        case rel=>exact ⟨j+1,ps,by omega,by go_num,HN.out⟩
        case measure=>omega
       ·have k23:(K == 23)=false:=by simpa using h23
        have hps:RnC (n+1) B c.m c.D c.ks b F (j+1) (⟨m',(nAt c.ks j).kids,dk,ek,stD (nAt c.ks j).kids (F j)⟩ :: ps) wr:=by
         rw [hm'] at hc ⊢
         exact hc.push hjl ⟨by rw [hK]; exact h3,by rw [hK]; exact h22,by rw [hK]; exact h23⟩ g5
        have hsv:Sl.v ⟨m',(nAt c.ks j).kids,dk,ek,stD (nAt c.ks j).kids (F j)⟩=.slice dk (nAt c.ks j).kids.length ek:=rfl
        have hsm:mu (⟨m',(nAt c.ks j).kids,dk,ek,stD (nAt c.ks j).kids (F j)⟩ :: ps)=nsz (nAt c.ks j)+mu ps:=by
         rw [mu_cons,nsz_eq (nAt c.ks j)]; rfl
        generalize (⟨m',(nAt c.ks j).kids,dk,ek,stD (nAt c.ks j).kids (F j)⟩:Sl)=sN at *
        obtain ⟨KL,hKL⟩:∃ KL,(nAt c.ks j).kids.length=KL:=⟨_,rfl⟩
        rw [hKL] at hsv g5
        have b1:=one_alloc wr (.cells #[.slice dk KL ek] 37)
        have hwrs:w.heap.size≤wr.heap.size:=Nat.le_trans HRP.out.but.size hbt.size
        have OWN:=hown.alloc (.cells #[.slice dk KL ek] 37)
        have HNW:Hid (∀ i u,[Value.slice dk KL ek][i]?=some u→(wr.alloc (.cells #[.slice dk KL ek] 37)).cell? ((⟨wr.heap.size,0,none⟩:Addr).add i)=some u):=by
         intro i u hu
         rw [add_off,Nat.zero_add]
         exact cell_new0 wr #[.slice dk KL ek] 37 i u (by simpa using hu)
        have HZZ:Hid (w.heap.size≤(wr.alloc (.cells #[.slice dk KL ek] 37)).heap.size):=Nat.le_trans hwrs b1.size
        have HN:Hid (∀ v' w3,w3.ownsRow w.heap.size 37 1 v' (PQ+1) ((ps ++ St).reverse.map Sl.v ++ [.slice dk KL ek])→Below w.heap.size (wr.alloc (.cells #[.slice dk KL ek] 37)) w3→RnR (n+1) B m D ks ak w wp St c (j+1) (sN :: ps) v' w3):=fun v' w3 ho hb3=>by
         have hb:Below w.heap.size wr w3:=(b1.mono hwrs).trans hb3
         refine ⟨by omega,?_,Or.inr ⟨b,F,hak,hps.next (hb.mono HBB.out) (fun k hk=>hb.block k (HDD.out k (hcD k hk)).2),?_⟩⟩
         ·have e:(sN :: ps ++ St).length=PQ+1:=by rw [List.cons_append,List.length_cons,HPQ.out]
          rw [e,List.cons_append,List.reverse_cons,List.map_append,List.map_cons,List.map_nil,hsv]
          exact ho
         ·exact hbt.trans (⟨hb.os,hb.tape,hb.output,hb.size,fun k hk hn=>hb.block k (by omega)⟩:But (fun k=>w.heap.size≤k) wr w3) fun k _ hk=>Or.inr hk
        generalize (ps ++ St).reverse.map Sl.v=XS at *
        clear hmp hown hor hc hbt hak h7 hne HDD HBB HRP HM hK hcD hbD hnt HPQ hjl HL HA0 HMC HMU h3 h22 h23 fz hps hsv hsm hKL b1 hwrs hm'
        go_wp2_with (at_builtin; refine wpList_append_B rfl _ _ 129 rfl w.heap.size 37 i37 (.slice none 0 0) 1 24 Try.underlying129 hi37 hz0 hz1 hz2 rfl (by decide) _ _ _ rfl OWN ⟨wr.heap.size,0,none⟩ 1 1 [.slice dk KL ek] rfl rfl HNW.out ?c2 ?c3 ?c4 HZZ.out ?_)
        case c2 =>
         intro u hu
         simp at hu
         subst hu
         rfl
        case c3=>unfold maxLen; omega
        case c4=>omega
        intro v' w3 hown3 hb3
        have HN3:=hide (HN.out v' w3 hown3 hb3)
        clear hown3 hb3 HN OWN HNW HZZ
        go_wp2
        go_roundg (L - (j+1))
        case rel=>exact ⟨j+1,sN :: ps,by omega,by go_num,HN3.out⟩
        case measure=>omega
    ·have hjL:j=L:=by omega
     subst hjL
     have HN:Hid (RnI (n+1) B m D ks ak w (ps ++ St) wr):=by
      rcases hor with h | ⟨b,F,hak,hc,hbt⟩
      ·exact h.2
      ·rw [←HL.out] at hc
       exact HRP.out.put HDD.out HBB.out hc hak hbt
     have HMM:Hid (mu (ps ++ St) < mu (c :: St)):=by
      have h4:=nszL_take_le c.ks j
      show mu (ps ++ St) < mu (c :: St)
      rw [mu_cons,mu_append]
      omega
     have HOW:=hide hown
     obtain ⟨va,vc,rfl⟩:=ownsS_form hown
     clear hmp hown hor HRP
     generalize hPQ:(ps ++ St).length=PQ at *
     have HPQ:=hide hPQ
     clear hPQ
     go_wp2
     go_roundg (mu (ps ++ St))
     case rel=>exact ⟨ps ++ St,rfl,by have:=HMM.out; have:=HMU.out; omega,by rw [HPQ.out]; exact HOW.out,HN.out⟩
     case measure=>exact HMM.out
end Go.Proofs.Ytnaejfoighmfeaa
namespace Go.Proofs.Ytnaejfoighmfeaa
open Go.ChangeShapes Go.WideShapes Go.ChangeAt Go.RowKit
set_option maxRecDepth 100000
set_option linter.unusedVariables false
set_option linter.unusedSimpArgs false
theorem gf_fin {n:Nat} {w0 w X wf:World} {p:Nat} {g:Gr} {R:Raw} {ws:List Wo} {A:Ra} {e:Int} {x:Nd} {rest:List Wo} {v:Value} {m j:Nat} {D:Nat→Prop} (hX:But (·=p) w X) (hr:Rd (n+1) w0 X p g R ws A j e) (hl:rest=ws.drop j) (ht:TrD (n+1) w0.heap.size m D X x v) (hD:∀ k,D k→w.heap.size < k∧k < X.heap.size) (hp:p < w.heap.size) (hB:w0.heap.size≤w.heap.size) (hf:But (·=w.heap.size) X wf) :
  GvF n w0 w p g R ws A e (.ok (x,rest)) (.returned v) wf:=by
 have hs:=hX.size
 have hfs:=hf.size
 refine ⟨hX.trans hf fun j hj hh=>by omega,v,m,j,rfl,hl,hr.upto (hf.below (by omega) fun k hk=>by omega),?_⟩
 have tf:=ht.keep (KpD.but hf (by omega) (fun k hk=>(hD k hk).2) fun k hk=>⟨by omega,fun hh=>by have:=(hD k hh).1; omega⟩)
 exact tf.wide fun k hk=>⟨by have:=(hD k hk).1; omega,by have:=(hD k hk).2; omega⟩
set_option maxHeartbeats 8000000 in
theorem text83 {n:Nat} {w0 w:World} {p:Nat} {g:Gr} {R:Raw} {ws:List Wo} {A:Ra} {i:Nat} {e:Int} (d:Nat) (hd:d≤24) (IE:CE n w0 p g R ws A e d) (h:Rd (n+1) w0 w p g R ws A i e) (hT:isT 5 g.opn (ws.drop i)=true) :
  Calls Try.prog 83 #[.pointer (some ⟨p,0,none⟩),.int .i64 ((24 - d:Nat):Int)] w fun en w'=>GvF n w0 w p g R ws A e (textS g e (EF g e d).1 (ws.drop i)) en w':=by
 obtain ⟨PL,hPL⟩:∃ PL,placeR e (ws.drop i)=PL:=⟨_,rfl⟩
 have hb:textS g e (EF g e d).1 (ws.drop i)=((EF g e d).1 true (ws.drop (i+1))).bind fun q=>(closeS e g.cls q.2.1).bind fun r =>
   if q.2.2.1 && q.2.2.2 then .ok (node 23 0 nost [q.1] PL,r)
   else if (q.2.2.1 != q.2.2.2) && (q.2.2.1 != g.lone) then .bad 2 PL
   else .ok (node 22 0 nost [if q.2.2.1 then renT q.1 else q.1] PL,r):=by unfold textS; rw [hPL,List.tail_drop]
 obtain ⟨RES,hRES⟩:∃ RES,textS g e (EF g e d).1 (ws.drop i)=RES:=⟨_,rfl⟩
 rw [hRES]
 rw [hRES] at hb
 have HRES:=hide hb
 clear hb hRES
 have hlt:i < ws.length:=by
  rcases Nat.lt_or_ge i ws.length with hh | hh
  ·exact hh
  ·rw [drop_end (by omega)] at hT; cases hT
 obtain ⟨W1,e1⟩:∃ W1,w.alloc (.cells #[.int .i64 0,.int .i64 0,.string ⟨#[]⟩,.slice none 0 0,.slice none 0 0,.slice none 0 0,.int .i64 0] 39)=W1:=⟨_,rfl⟩
 have b1:Below w.heap.size w W1:=by rw [←e1]; exact one_alloc _ _
 have s1:W1.heap.size=w.heap.size+1:=by rw [←e1]; simp
 have rv1:Rv W1 w.heap.size:=by rw [←e1]; exact Rv.new w
 have HDN:Hid (∀ k,Below W1.heap.size W1 (W1.drewN k)):=fun k=>drewN_below (Below.refl W1.heap.size W1) k
 have HRD:Hid (∀ k,Rd (n+1) w0 (W1.drewN k) p g R ws A i e):=fun k=>(h.next b1).next (HDN.out k)
 have hL:=h.sp.sn.words
 have hpw:=h.sp.sn.hp2
 have hBw:=h.sp.sn.old.size
 have hB0:=h.sp.sn.hp
 have HP:=hide (place37 (h.next b1))
 rw [hPL] at HP
 have HE:=hide e1
 have HB1:=hide b1
 have HRV1:=hide rv1
 have HIE:=hide IE
 have HGE:=hide ((EF_good g e d).1 true (ws.drop (i+1)))
 have HSZ:=hide ((EF_size g e d).1)
 clear hT e1 h b1 rv1 IE hPL
 have hD1:IntKind.i64.wrap (((24 - d:Nat):Int)+1)=((25 - d:Nat):Int):=(IntWalk.i64_in _ ⟨by omega,by omega⟩).trans (by omega)
 generalize ((24 - d:Nat):Int)=DD at *
 go_enter Try.func83,Try.ntmps83
 go_upto_region 1 with fail
 rw [HE.out]
 go_wp2_with fail
 refine HP.out.mono ?_
 rintro en w2 ⟨rfl,k2,rfl⟩
 clear HP
 have HRQ:=HRD.out k2
 have HDQ:=hide (HDN.out k2)
 have sq:(W1.drewN k2).heap.size=w.heap.size+1:=s1
 clear HRD HDN
 generalize W1.drewN k2=wq at *
 have rd3:=HRQ.move (i+1) hlt
 have bm3:=HRQ.moved (i+1)
 have hcast:((i+1:Nat):Int)=(i:Int)+1:=by simp
 rw [hcast] at rd3 bm3
 obtain ⟨W3,hW3⟩:∃ W3,wq.setCell ⟨p,19,none⟩ (.int .i64 ((i:Int)+1))=W3:=⟨_,rfl⟩
 rw [hW3] at rd3 bm3
 have HE3:=hide hW3
 have s3:W3.heap.size=w.heap.size+1:=by rw [←hW3]; simpa using sq
 obtain ⟨W4,hW4⟩:∃ W4,W3.alloc (.cells #[.bool false,.bool false] 125)=W4:=⟨_,rfl⟩
 have b4:Below W3.heap.size W3 W4:=by rw [←hW4]; exact one_alloc _ _
 have s4:W4.heap.size=w.heap.size+2:=by rw [←hW4]; simp; omega
 have nq4:Nq W4 p (w.heap.size+1) (false,false):=by
  have z0:=cell_new0 W3 #[.bool false,.bool false] 125 0 _ rfl
  have z1:=cell_new0 W3 #[.bool false,.bool false] 125 1 _ rfl
  have y0:(W3.alloc (.cells #[.bool false,.bool false] 125)).frozen? ⟨W3.heap.size,0,none⟩=false:=frozen_new _ _ _ _
  have y1:(W3.alloc (.cells #[.bool false,.bool false] 125)).frozen? ⟨W3.heap.size,1,none⟩=false:=frozen_new _ _ _ _
  rw [hW4,s3] at z0 z1 y0 y1
  exact ⟨by omega,by omega,z0,z1,y0,y1⟩
 have HE4:=hide hW4
 have HC:=hide (HIE.out W4 (w.heap.size+1) (i+1) true (false,false) (rd3.next b4) (fun _=>nq4))
 have hnv:namV true (w.heap.size+1)=.pointer (some ⟨w.heap.size+1,0,none⟩):=rfl
 rw [hnv] at HC
 have HB4:Hid (But (·=p) w W4):=((But.of (HB1.out.trans (HDQ.out.mono HB1.out.size))).trans bm3 fun j _ hj=>hj).trans (But.of b4) fun j _ hj=>hj
 have HRV4:Hid (Rv W4 w.heap.size):=(((HRV1.out.block HDQ.out.size (HDQ.out.block _ (by omega))).but bm3 (by omega))).block b4.size (b4.block _ (by omega))
 have c19:=HRQ.c19
 have f19:=HRQ.fz
 clear hW3 bm3 rd3 HRQ HIE hcast nq4 b4 hW4 HRV1 HB1 hnv HDQ
 go_upto_region 3 with fail
 rw [HE3.out]
 clear c19 f19
 go_upto_region 4 with fail
 rw [HE4.out]
 go_wp2_with fail
 refine HC.out.mono ?_
 rintro en w5 ⟨hbut,hres⟩
 clear HC
 have HBT:Hid (But (·=p) w w5):=HB4.out.trans hbut fun j hj hh=>by
  rcases hh with hh | ⟨-,hh⟩
  ·exact hh
  ·omega
 have rv5:Rv w5 w.heap.size:=HRV4.out.but hbut (by rintro (hh | ⟨-,hh⟩) <;> omega)
 cases hwd:(EF g e d).1 true (ws.drop (i+1)) with
 | bad er pl =>
  rw [hwd] at hres
  simp only at hres
  subst hres
  obtain rfl:RES=.bad er pl:=by rw [HRES.out,hwd]; rfl
  go_wp2
  exact ⟨rfl,HBT.out,rfl⟩
 | stuck=>exact absurd hwd HGE.out.1
 | ok r =>
  obtain ⟨nd,rs,NL,NR⟩:=r
  rw [hwd] at hres
  obtain ⟨v,m,i',rfl,hrs,hrd,htr,hnq⟩:=hres
  simp only at hrs
  subst hrs
  have HSN:Hid (1+nszL [nd]≤4000):=by
   have h1:sizeN m nd+1+2 * (ws.drop i').length≤2 * (ws.drop (i+1)).length:=HSZ.out _ _ _ m hwd
   have h2:nsz nd=sizeN m nd:=trd_size htr
   have h3:nszL [nd]=nsz nd:=by simp [nszL]
   simp only [List.length_drop] at h1
   show 1+nszL [nd]≤4000
   omega
  have HTR:=hide htr
  obtain ⟨m',hm',a1,c1,a2,c2,ak,ck,rfl,-⟩:=htr.form
  obtain ⟨W6,hW6⟩:∃ W6,w5.alloc (.cells #[.int .i64 nd.kind,.int .i64 nd.op,.string nd.name,.slice a1 nd.lit.shape.length c1,.slice a2 nd.lit.cells.length c2,.slice ak nd.kids.length ck,.int .i64 nd.pos] 39)=W6:=⟨_,rfl⟩
  have b6:Below w5.heap.size w5 W6:=by rw [←hW6]; exact one_alloc _ _
  have s6:W6.heap.size=w5.heap.size+1:=by rw [←hW6]; simp
  have vn6:Vn W6 w5.heap.size nd.kind nd.op nd.name (.slice a1 nd.lit.shape.length c1) (.slice a2 nd.lit.cells.length c2) (.slice ak nd.kids.length ck) nd.pos:=by rw [←hW6]; exact Vn.new _ _ _ _ _ _ _ _
  have HCL:=hide (close70 (hrd.next b6) g.cls)
  have c6:=(hrd.next b6).sp.sn.c6
  have h5:=hbut.size
  have HE6:=hide hW6
  have HB6:=hide b6
  have HVN:=hide vn6
  have HRV6:=hide (rv5.block b6.size (b6.block _ rv5.lt))
  have HNQ:=hide ((hnq rfl).next b6)
  clear hrd hnq htr b6 vn6 hbut rv5 hW6 HRV4
  generalize hCLS:g.cls=CLS at *
  go_upto_region 5 with fail
  rw [HE6.out]
  go_wp2_with fail
  refine HCL.out.mono ?_
  rintro en w8 ⟨hb8,hres⟩
  clear HCL c6
  cases hcl:isT 6 CLS (ws.drop i') with
  | false =>
   rw [hcl] at hres
   simp only [Bool.false_eq_true,if_false] at hres
   subst hres
   obtain rfl:RES=.bad 2 (placeR e (ws.drop i')):=by rw [HRES.out,hwd]; simp [Rs.bind,closeS,hcl]
   go_wp2
   exact ⟨rfl,(HBT.out.trans (But.of HB6.out) fun j _ hj=>hj).trans hb8 fun j _ hj=>hj,rfl⟩
  | true =>
   rw [hcl] at hres
   simp only [if_true] at hres
   obtain ⟨rfl,hi8,rd8⟩:=hres
   have HT8:Hid (But (·=p) w w8):=(HBT.out.trans (But.of HB6.out) fun j _ hj=>hj).trans hb8 fun j _ hj=>hj
   have vn8:=HVN.out.but hb8 (by omega)
   have rv8:=HRV6.out.but hb8 (by omega)
   have hs8:=hb8.size
   have nq8:=HNQ.out.block hb8.size (hb8.block HNQ.out.lt (by omega))
   have tr8:=HTR.out.keep ((Kp.of HB6.out (by omega) (Nat.le_refl _)).trans (Kp.but hb8 (by omega) (by omega) fun k hk=>⟨by omega,Or.inl (by omega)⟩))
   have c12:=rd8.sp.sn.c12
   have hR2:=HRES.out
   rw [hwd] at hR2
   simp only [Rs.bind,closeS,hCLS,hcl,if_true] at hR2
   obtain ⟨LO,hLO⟩:∃ LO,g.lone=LO:=⟨_,rfl⟩
   rw [hLO] at c12 hR2
   have HDZ:Hid (∀ k,Below w8.heap.size w8 (w8.drewN k)):=fun k=>drewN_below (Below.refl w8.heap.size w8) k
   have HR8:=hide rd8
   have HTR8:=hide tr8
   have HVN8:=hide vn8
   have HRV8:=hide rv8
   have HNQ8:=hide nq8
   have HRS:=hide hR2
   clear HBT HB6 HVN HRV6 HNQ HTR rd8 hb8 vn8 rv8 tr8 hR2 HRES hwd hcl hLO hCLS
   cases NL with
   | true =>
    cases NR with
    | true =>
     have nq8:=HNQ8.out
     obtain ⟨-,-,n0,n1,-,-⟩:=nq8
     simp only [orN,Bool.false_or,Bool.or_false] at n0 n1
     have HRS2:=hide (show RES=.ok (node 23 0 nost [nd] PL,(ws.drop i').tail) by rw [HRS.out]; rfl)
     obtain ⟨W9,hW9⟩:∃ W9,w8.alloc (.cells #[.int .i64 nd.kind,.int .i64 nd.op,.string nd.name,.slice a1 nd.lit.shape.length c1,.slice a2 nd.lit.cells.length c2,.slice ak nd.kids.length ck,.int .i64 nd.pos] 39)=W9:=⟨_,rfl⟩
     have b9:Below w8.heap.size w8 W9:=by rw [←hW9]; exact one_alloc _ _
     have s9:W9.heap.size=w8.heap.size+1:=by rw [←hW9]; simp
     have hk9:=hide (trk1 (B:=w0.heap.size) (n:=n+1) (by omega) (fun k hk=>by have:=hk.2; omega) HTR8.out 39)
     rw [hW9] at hk9
     have HTX:Hid (But (·=p) w W9):=HT8.out.trans (But.of b9) fun j _ hj=>hj
     have HRX:=hide (HR8.out.next b9)
     have HRV:=hide (HRV8.out.block b9.size (b9.block _ HRV8.out.lt))
     have HFIN:Hid (∀ wf,But (·=w.heap.size) W9 wf→GvF n w0 w p g R ws A e RES (.returned (.agg #[.int .i64 23,.int .i64 0,.string ⟨#[]⟩,.slice none 0 0,.slice none 0 0,.slice (some ⟨w8.heap.size,0,none⟩) 1 1,.int .i64 PL])) wf):=fun wf hf=>by
      have tp:=TrD.put (ck:=1) 23 0 nost PL (Nat.zero_le _) (by simp) hk9.out
      have:=gf_fin (rest:=(ws.drop i').tail) HTX.out HRX.out (by simp) tp (fun k hk=>Or.elim hk (fun h=>by have:=h.1; have:=h.2; omega) (fun h=>by omega)) hpw hBw hf
      rw [HRS2.out]; exact this
     obtain ⟨-,v0,v1,v2,v3,v4,v5,v6⟩:=HVN8.out
     clear b9 hk9 HTX HRX HT8 HR8 HTR8 HVN8 HRV8 HNQ8 HRS HDZ HRS2 c12 HGE HSZ HSN
     go_upto_region 7 with fail
     have RV:=HRV.out
     obtain ⟨r0,Q0⟩:=RV.c 0 (by omega)
     have F0:=RV.f 0
     obtain ⟨r1,Q1⟩:=RV.c 1 (by omega)
     have F1:=RV.f 1
     obtain ⟨r2,Q2⟩:=RV.c 2 (by omega)
     have F2:=RV.f 2
     obtain ⟨r3,Q3⟩:=RV.c 3 (by omega)
     have F3:=RV.f 3
     obtain ⟨r4,Q4⟩:=RV.c 4 (by omega)
     have F4:=RV.f 4
     obtain ⟨r5,Q5⟩:=RV.c 5 (by omega)
     have F5:=RV.f 5
     obtain ⟨r6,Q6⟩:=RV.c 6 (by omega)
     have F6:=RV.f 6
     clear RV HRV
     go_wp2
     refine bodyPost_ret (v:=.agg #[.int .i64 23,.int .i64 0,.string ⟨#[]⟩,.slice none 0 0,.slice none 0 0,.slice (some ⟨w8.heap.size,0,none⟩) 1 1,.int .i64 PL]) (by simp [results,Try.results83,go_sem,Q0,Q1,Q2,Q3,Q4,Q5,Q6]) rfl (HFIN.out _ ?_)
     repeat' first | with_reducible exact But.refl _ _ | with_reducible rfl | with_reducible refine butS ?_ ?_
    | false =>
     cases LO with
     | true =>
      have nq8:=HNQ8.out
      obtain ⟨-,-,n0,n1,-,-⟩:=nq8
      simp only [orN,Bool.false_or,Bool.or_false] at n0 n1
      have n0n:=fun k=>(show (w8.drewN k).cell? ⟨w.heap.size+1,0,none⟩=some (.bool true) from n0)
      have n1n:=fun k=>(show (w8.drewN k).cell? ⟨w.heap.size+1,1,none⟩=some (.bool false) from n1)
      have c12n:=fun k=>(show (w8.drewN k).cell? ⟨p,12,none⟩=some (.bool true) from c12)
      go_upto_region 8 with fail
      go_quiet (fail)
      obtain ⟨wz,hwz⟩:∃ wz,w8.drewN nq=wz:=⟨_,rfl⟩
      have bz:Below w8.heap.size w8 wz:=by rw [←hwz]; exact HDZ.out _
      have sz:wz.heap.size=w8.heap.size:=by rw [←hwz]; rfl
      have HRS2:=hide (show RES=.ok (node 22 0 nost [renT nd] PL,(ws.drop i').tail) by rw [HRS.out]; rfl)
      have vnz:=HVN8.out.block bz.size (bz.block _ HVN8.out.lt)
      have trz:=HTR8.out.keep (Kp.of bz (by omega) (by omega))
      obtain ⟨W9,hW9⟩:∃ W9,wz.alloc (.cells #[.int .i64 nd.kind,.int .i64 nd.op,.string nd.name,.slice a1 nd.lit.shape.length c1,.slice a2 nd.lit.cells.length c2,.slice ak nd.kids.length ck,.int .i64 nd.pos] 39)=W9:=⟨_,rfl⟩
      have b9:Below wz.heap.size wz W9:=by rw [←hW9]; exact one_alloc _ _
      have s9:W9.heap.size=w8.heap.size+1:=by rw [←hW9]; simp; omega
      have hk9:=hide (trk1 (B:=w0.heap.size) (n:=n+1) (by omega) (fun k hk=>by have:=hk.2; omega) trz 39)
      rw [hW9,sz] at hk9
      have HTX0:Hid (But (·=p) w W9):=(HT8.out.trans (But.of bz) fun j _ hj=>hj).trans (But.of b9) fun j _ hj=>hj
      have HRX0:=hide ((HR8.out.next bz).next b9)
      have HRV0:=hide ((HRV8.out.block bz.size (bz.block _ HRV8.out.lt)).block b9.size (b9.block _ (by have:=HRV8.out.lt; omega)))
      have m0:W9.cell? ⟨w.heap.size+1,0,none⟩=some (.bool true):=cell_keep b9 (cell_keep bz n0)
      obtain ⟨-,v0,v1,v2,v3,v4,v5,v6⟩:=vnz
      clear n0n n1n c12n n0 n1 c12
      go_upto_region 10 with fail
      rw [hwz]
      clear hwz bz b9 HTR8 HVN8 HRV8 HNQ8 HRS HDZ HT8 HR8 trz
      have HD9:Hid (∀ k,(Iv W4.heap.size w5.heap.size k ∨ k=w8.heap.size)→w0.heap.size≤k∧k < W9.heap.size):=fun k hk=>by
       rcases hk with hk | hk
       ·have h1:=hk.1; have h2:=hk.2; omega
       ·omega
      have H91:=hide (rename91 (ck:=1) hk9.out HD9.out (by omega) HSN.out)
      go_upto_region 12 with fail
      go_wp2_with fail
      refine H91.out.mono ?_
      rintro en wx ⟨rfl,hbx,hkx⟩
      have sx:=hbx.size
      have HKX:=hide hkx
      have HTX:Hid (But (·=p) w wx):=HTX0.out.trans hbx fun j hj hk=>by
       rcases hk with hk | hk
       ·have h1:=hk.1; omega
       ·omega
      have HRX:=hide (HRX0.out.upto (hbx.below (by omega) fun k hk=>by
       rcases hk with hk | hk
       ·have h1:=hk.1; omega
       ·omega))
      have HRV:=hide (HRV0.out.but hbx (by
       rintro (hk | hk)
       ·have h1:=hk.1; omega
       ·omega))
      have HFIN:Hid (∀ wf,But (·=w.heap.size) wx wf→GvF n w0 w p g R ws A e RES (.returned (.agg #[.int .i64 22,.int .i64 0,.string ⟨#[]⟩,.slice none 0 0,.slice none 0 0,.slice (some ⟨w8.heap.size,0,none⟩) 1 1,.int .i64 PL])) wf):=fun wf hf=>by
       have tp:=TrD.put (ck:=1) 22 0 nost PL (Nat.zero_le _) (by simp) HKX.out
       have:=gf_fin (rest:=(ws.drop i').tail) HTX.out HRX.out (by simp) tp (fun k hk=>Or.elim hk (fun h=>by have:=h.1; have:=h.2; omega) (fun h=>by omega)) hpw hBw hf
       rw [HRS2.out]; exact this
      clear HTX HRX HTX0 HRX0 HRV0 HKX hkx hbx H91 HD9 hk9 HRS2 HGE HSZ HSN m0 v0 v1 v2 v3 v4 v5 v6 hW9
      go_upto_region 13 with fail
      have RV:=HRV.out
      obtain ⟨r0,Q0⟩:=RV.c 0 (by omega)
      have F0:=RV.f 0
      obtain ⟨r1,Q1⟩:=RV.c 1 (by omega)
      have F1:=RV.f 1
      obtain ⟨r2,Q2⟩:=RV.c 2 (by omega)
      have F2:=RV.f 2
      obtain ⟨r3,Q3⟩:=RV.c 3 (by omega)
      have F3:=RV.f 3
      obtain ⟨r4,Q4⟩:=RV.c 4 (by omega)
      have F4:=RV.f 4
      obtain ⟨r5,Q5⟩:=RV.c 5 (by omega)
      have F5:=RV.f 5
      obtain ⟨r6,Q6⟩:=RV.c 6 (by omega)
      have F6:=RV.f 6
      clear RV HRV
      go_wp2
      refine bodyPost_ret (v:=.agg #[.int .i64 22,.int .i64 0,.string ⟨#[]⟩,.slice none 0 0,.slice none 0 0,.slice (some ⟨w8.heap.size,0,none⟩) 1 1,.int .i64 PL]) (by simp [results,Try.results83,go_sem,Q0,Q1,Q2,Q3,Q4,Q5,Q6]) rfl (HFIN.out _ ?_)
      repeat' first | with_reducible exact But.refl _ _ | with_reducible rfl | with_reducible refine butS ?_ ?_
     | false =>
      have nq8:=HNQ8.out
      obtain ⟨-,-,n0,n1,-,-⟩:=nq8
      simp only [orN,Bool.false_or,Bool.or_false] at n0 n1
      have n0n:=fun k=>(show (w8.drewN k).cell? ⟨w.heap.size+1,0,none⟩=some (.bool true) from n0)
      have n1n:=fun k=>(show (w8.drewN k).cell? ⟨w.heap.size+1,1,none⟩=some (.bool false) from n1)
      have c12n:=fun k=>(show (w8.drewN k).cell? ⟨p,12,none⟩=some (.bool false) from c12)
      go_upto_region 8 with fail
      go_quiet (fail)
      obtain ⟨wz,hwz⟩:∃ wz,w8.drewN nq=wz:=⟨_,rfl⟩
      have bz:Below w8.heap.size w8 wz:=by rw [←hwz]; exact HDZ.out _
      have sz:wz.heap.size=w8.heap.size:=by rw [←hwz]; rfl
      obtain rfl:RES=.bad 2 PL:=by rw [HRS.out]; rfl
      have H42:=hide (throw42 2 PL wz)
      have HFT:Hid (But (·=p) w wz):=HT8.out.trans (But.of bz) fun j _ hj=>hj
      clear HTR8 HVN8 HRV8 HNQ8 HRS HDZ HR8 HT8 n0n n1n c12n n0 n1 c12
      go_upto_region 9 with fail
      rw [hwz]
      go_wp2_with fail
      refine H42.out.mono ?_
      rintro en w1 ⟨rfl,rfl⟩
      go_wp2
      exact ⟨rfl,HFT.out,rfl⟩
   | false =>
    cases NR with
    | true =>
     cases LO with
     | true =>
      have nq8:=HNQ8.out
      obtain ⟨-,-,n0,n1,-,-⟩:=nq8
      simp only [orN,Bool.false_or,Bool.or_false] at n0 n1
      have n0n:=fun k=>(show (w8.drewN k).cell? ⟨w.heap.size+1,0,none⟩=some (.bool false) from n0)
      have n1n:=fun k=>(show (w8.drewN k).cell? ⟨w.heap.size+1,1,none⟩=some (.bool true) from n1)
      have c12n:=fun k=>(show (w8.drewN k).cell? ⟨p,12,none⟩=some (.bool true) from c12)
      go_upto_region 8 with fail
      go_quiet (fail)
      obtain ⟨wz,hwz⟩:∃ wz,w8.drewN nq=wz:=⟨_,rfl⟩
      have bz:Below w8.heap.size w8 wz:=by rw [←hwz]; exact HDZ.out _
      have sz:wz.heap.size=w8.heap.size:=by rw [←hwz]; rfl
      obtain rfl:RES=.bad 2 PL:=by rw [HRS.out]; rfl
      have H42:=hide (throw42 2 PL wz)
      have HFT:Hid (But (·=p) w wz):=HT8.out.trans (But.of bz) fun j _ hj=>hj
      clear HTR8 HVN8 HRV8 HNQ8 HRS HDZ HR8 HT8 n0n n1n c12n n0 n1 c12
      go_upto_region 9 with fail
      rw [hwz]
      go_wp2_with fail
      refine H42.out.mono ?_
      rintro en w1 ⟨rfl,rfl⟩
      go_wp2
      exact ⟨rfl,HFT.out,rfl⟩
     | false =>
      have nq8:=HNQ8.out
      obtain ⟨-,-,n0,n1,-,-⟩:=nq8
      simp only [orN,Bool.false_or,Bool.or_false] at n0 n1
      have n0n:=fun k=>(show (w8.drewN k).cell? ⟨w.heap.size+1,0,none⟩=some (.bool false) from n0)
      have n1n:=fun k=>(show (w8.drewN k).cell? ⟨w.heap.size+1,1,none⟩=some (.bool true) from n1)
      have c12n:=fun k=>(show (w8.drewN k).cell? ⟨p,12,none⟩=some (.bool false) from c12)
      go_upto_region 8 with fail
      go_quiet (fail)
      obtain ⟨wz,hwz⟩:∃ wz,w8.drewN nq=wz:=⟨_,rfl⟩
      have bz:Below w8.heap.size w8 wz:=by rw [←hwz]; exact HDZ.out _
      have sz:wz.heap.size=w8.heap.size:=by rw [←hwz]; rfl
      have HRS2:=hide (show RES=.ok (node 22 0 nost [nd] PL,(ws.drop i').tail) by rw [HRS.out]; rfl)
      have vnz:=HVN8.out.block bz.size (bz.block _ HVN8.out.lt)
      have trz:=HTR8.out.keep (Kp.of bz (by omega) (by omega))
      obtain ⟨W9,hW9⟩:∃ W9,wz.alloc (.cells #[.int .i64 nd.kind,.int .i64 nd.op,.string nd.name,.slice a1 nd.lit.shape.length c1,.slice a2 nd.lit.cells.length c2,.slice ak nd.kids.length ck,.int .i64 nd.pos] 39)=W9:=⟨_,rfl⟩
      have b9:Below wz.heap.size wz W9:=by rw [←hW9]; exact one_alloc _ _
      have s9:W9.heap.size=w8.heap.size+1:=by rw [←hW9]; simp; omega
      have hk9:=hide (trk1 (B:=w0.heap.size) (n:=n+1) (by omega) (fun k hk=>by have:=hk.2; omega) trz 39)
      rw [hW9,sz] at hk9
      have HTX0:Hid (But (·=p) w W9):=(HT8.out.trans (But.of bz) fun j _ hj=>hj).trans (But.of b9) fun j _ hj=>hj
      have HRX0:=hide ((HR8.out.next bz).next b9)
      have HRV0:=hide ((HRV8.out.block bz.size (bz.block _ HRV8.out.lt)).block b9.size (b9.block _ (by have:=HRV8.out.lt; omega)))
      have m0:W9.cell? ⟨w.heap.size+1,0,none⟩=some (.bool false):=cell_keep b9 (cell_keep bz n0)
      obtain ⟨-,v0,v1,v2,v3,v4,v5,v6⟩:=vnz
      clear n0n n1n c12n n0 n1 c12
      go_upto_region 10 with fail
      rw [hwz]
      clear hwz bz b9 HTR8 HVN8 HRV8 HNQ8 HRS HDZ HT8 HR8 trz
      have HTX:=HTX0
      have HRX:=HRX0
      have HRV:=HRV0
      have HFIN:Hid (∀ wf,But (·=w.heap.size) W9 wf→GvF n w0 w p g R ws A e RES (.returned (.agg #[.int .i64 22,.int .i64 0,.string ⟨#[]⟩,.slice none 0 0,.slice none 0 0,.slice (some ⟨w8.heap.size,0,none⟩) 1 1,.int .i64 PL])) wf):=fun wf hf=>by
       have tp:=TrD.put (ck:=1) 22 0 nost PL (Nat.zero_le _) (by simp) hk9.out
       have:=gf_fin (rest:=(ws.drop i').tail) HTX.out HRX.out (by simp) tp (fun k hk=>Or.elim hk (fun h=>by have:=h.1; have:=h.2; omega) (fun h=>by omega)) hpw hBw hf
       rw [HRS2.out]; exact this
      clear HTX HRX HTX0 HRX0 HRV0 hk9 HRS2 HGE HSZ HSN
      have RV:=HRV.out
      obtain ⟨r0,Q0⟩:=RV.c 0 (by omega)
      have F0:=RV.f 0
      obtain ⟨r1,Q1⟩:=RV.c 1 (by omega)
      have F1:=RV.f 1
      obtain ⟨r2,Q2⟩:=RV.c 2 (by omega)
      have F2:=RV.f 2
      obtain ⟨r3,Q3⟩:=RV.c 3 (by omega)
      have F3:=RV.f 3
      obtain ⟨r4,Q4⟩:=RV.c 4 (by omega)
      have F4:=RV.f 4
      obtain ⟨r5,Q5⟩:=RV.c 5 (by omega)
      have F5:=RV.f 5
      obtain ⟨r6,Q6⟩:=RV.c 6 (by omega)
      have F6:=RV.f 6
      clear RV HRV
      go_wp2
      refine bodyPost_ret (v:=.agg #[.int .i64 22,.int .i64 0,.string ⟨#[]⟩,.slice none 0 0,.slice none 0 0,.slice (some ⟨w8.heap.size,0,none⟩) 1 1,.int .i64 PL]) (by simp [results,Try.results83,go_sem,Q0,Q1,Q2,Q3,Q4,Q5,Q6]) rfl (HFIN.out _ ?_)
      repeat' first | with_reducible exact But.refl _ _ | with_reducible rfl | with_reducible refine butS ?_ ?_
    | false =>
     have nq8:=HNQ8.out
     obtain ⟨-,-,n0,n1,-,-⟩:=nq8
     simp only [orN,Bool.false_or,Bool.or_false] at n0 n1
     have n0n:=fun k=>(show (w8.drewN k).cell? ⟨w.heap.size+1,0,none⟩=some (.bool false) from n0)
     have n1n:=fun k=>(show (w8.drewN k).cell? ⟨w.heap.size+1,1,none⟩=some (.bool false) from n1)
     have c12n:=fun k=>(show (w8.drewN k).cell? ⟨p,12,none⟩=some (.bool LO) from c12)
     go_upto_region 8 with fail
     go_quiet (fail)
     obtain ⟨wz,hwz⟩:∃ wz,w8.drewN nq=wz:=⟨_,rfl⟩
     have bz:Below w8.heap.size w8 wz:=by rw [←hwz]; exact HDZ.out _
     have sz:wz.heap.size=w8.heap.size:=by rw [←hwz]; rfl
     have HRS2:=hide (show RES=.ok (node 22 0 nost [nd] PL,(ws.drop i').tail) by rw [HRS.out]; rfl)
     have vnz:=HVN8.out.block bz.size (bz.block _ HVN8.out.lt)
     have trz:=HTR8.out.keep (Kp.of bz (by omega) (by omega))
     obtain ⟨W9,hW9⟩:∃ W9,wz.alloc (.cells #[.int .i64 nd.kind,.int .i64 nd.op,.string nd.name,.slice a1 nd.lit.shape.length c1,.slice a2 nd.lit.cells.length c2,.slice ak nd.kids.length ck,.int .i64 nd.pos] 39)=W9:=⟨_,rfl⟩
     have b9:Below wz.heap.size wz W9:=by rw [←hW9]; exact one_alloc _ _
     have s9:W9.heap.size=w8.heap.size+1:=by rw [←hW9]; simp; omega
     have hk9:=hide (trk1 (B:=w0.heap.size) (n:=n+1) (by omega) (fun k hk=>by have:=hk.2; omega) trz 39)
     rw [hW9,sz] at hk9
     have HTX0:Hid (But (·=p) w W9):=(HT8.out.trans (But.of bz) fun j _ hj=>hj).trans (But.of b9) fun j _ hj=>hj
     have HRX0:=hide ((HR8.out.next bz).next b9)
     have HRV0:=hide ((HRV8.out.block bz.size (bz.block _ HRV8.out.lt)).block b9.size (b9.block _ (by have:=HRV8.out.lt; omega)))
     have m0:W9.cell? ⟨w.heap.size+1,0,none⟩=some (.bool false):=cell_keep b9 (cell_keep bz n0)
     obtain ⟨-,v0,v1,v2,v3,v4,v5,v6⟩:=vnz
     clear n0n n1n c12n n0 n1 c12
     go_upto_region 10 with fail
     rw [hwz]
     clear hwz bz b9 HTR8 HVN8 HRV8 HNQ8 HRS HDZ HT8 HR8 trz
     have HTX:=HTX0
     have HRX:=HRX0
     have HRV:=HRV0
     have HFIN:Hid (∀ wf,But (·=w.heap.size) W9 wf→GvF n w0 w p g R ws A e RES (.returned (.agg #[.int .i64 22,.int .i64 0,.string ⟨#[]⟩,.slice none 0 0,.slice none 0 0,.slice (some ⟨w8.heap.size,0,none⟩) 1 1,.int .i64 PL])) wf):=fun wf hf=>by
      have tp:=TrD.put (ck:=1) 22 0 nost PL (Nat.zero_le _) (by simp) hk9.out
      have:=gf_fin (rest:=(ws.drop i').tail) HTX.out HRX.out (by simp) tp (fun k hk=>Or.elim hk (fun h=>by have:=h.1; have:=h.2; omega) (fun h=>by omega)) hpw hBw hf
      rw [HRS2.out]; exact this
     clear HTX HRX HTX0 HRX0 HRV0 hk9 HRS2 HGE HSZ HSN
     have RV:=HRV.out
     obtain ⟨r0,Q0⟩:=RV.c 0 (by omega)
     have F0:=RV.f 0
     obtain ⟨r1,Q1⟩:=RV.c 1 (by omega)
     have F1:=RV.f 1
     obtain ⟨r2,Q2⟩:=RV.c 2 (by omega)
     have F2:=RV.f 2
     obtain ⟨r3,Q3⟩:=RV.c 3 (by omega)
     have F3:=RV.f 3
     obtain ⟨r4,Q4⟩:=RV.c 4 (by omega)
     have F4:=RV.f 4
     obtain ⟨r5,Q5⟩:=RV.c 5 (by omega)
     have F5:=RV.f 5
     obtain ⟨r6,Q6⟩:=RV.c 6 (by omega)
     have F6:=RV.f 6
     clear RV HRV
     go_wp2
     refine bodyPost_ret (v:=.agg #[.int .i64 22,.int .i64 0,.string ⟨#[]⟩,.slice none 0 0,.slice none 0 0,.slice (some ⟨w8.heap.size,0,none⟩) 1 1,.int .i64 PL]) (by simp [results,Try.results83,go_sem,Q0,Q1,Q2,Q3,Q4,Q5,Q6]) rfl (HFIN.out _ ?_)
     repeat' first | with_reducible exact But.refl _ _ | with_reducible rfl | with_reducible refine butS ?_ ?_
end Go.Proofs.Ytnaejfoighmfeaa
namespace Go.Proofs.Ytnaejfoighmfeaa
open Go.ChangeShapes Go.WideShapes Go.ChangeAt Go.RowKit
set_option maxRecDepth 100000
set_option linter.unusedVariables false
set_option linter.unusedSimpArgs false
theorem wpList_append_at {P:Program} {w:World} {ops:Array Oper} {rest:List Oper} {o:Oper} {a:Act} {Q:Exit→Act→World→Prop} (hgd:o.guard=none) (s x:Operand) (t:TypeId)
  (ho:o.op=.call { callee:=.builtin .append,args:=#[s,x],argTypes:=#[t,t] })
  (base:Nat) (e:TypeId) (i:TypeInfo) (z:Value) (size bytes:Nat) (ht:P.underlying t=some (.slice e)) (hi:P.info? e=some i) (hz:i.zero=some z)
  (hsize:i.size=size) (hby:i.bytes=bytes) (hzs:z.cells.size=size) (hsz:0 < size)
  (v:Value) (n:Nat) (xs:List Value) (hs:a.eval s=v) (hown:w.ownsRow base e size v n xs)
  (ad:Addr) (m c:Nat) (news:List Value) (hx:a.eval x=.slice (some ad) m c) (hl:news.length=m * size) (hnews:∀ j u,news[j]?=some u→w.cell? (ad.add j)=some u) (h1:∀ u ∈ news,u.oneCell'=true)
  (h63:n+m≤maxLen) (hbytes:(n+m) * bytes≤140737488355328) (hbase:base≤w.heap.size)
  (h:∀ v' w',w'.ownsRow base e size v' (n+m) (xs ++ news)→w.grownBy w' v.ownBlock→(v'.ownBlock=v.ownBlock ∨ v'.ownBlock=some w.heap.size)→wpList P ops Q rest (a.put o.dst v') w'):wpList P ops Q (o :: rest) a w:=by
 refine wpList_plain hgd fun _ hK=>?_
 obtain ⟨v',w',hr,h2,h3,-,h5⟩:=run_append_own_at (P:=P) w base t o.type e i z size bytes ht hi hz hsize hby hzs hsz v n xs hown ad m c news hl hnews h1 h63 hbytes hbase
 unfold Oper.wp execOp
 simp only [ho,resolve,invoke,builtin,Sem.run_bind,Sem.run_pure,Result.andThen_ok,List.map_toArray,List.map_cons,List.map_nil,hs,hx,hr]
 exact hK _ _ (h v' w' h2 h3 h5)
structure Pt where
 x:Nd
 a1:Option Addr
 c1:Nat
 a2:Option Addr
 c2:Nat
 ak:Option Addr
 ck:Nat
 D:Nat→Prop
def Pt.cs (t:Pt):List Value:=[.int .i64 t.x.kind,.int .i64 t.x.op,.string t.x.name,.slice t.a1 t.x.lit.shape.length t.c1,.slice t.a2 t.x.lit.cells.length t.c2,.slice t.ak t.x.kids.length t.ck,.int .i64 t.x.pos]
def Pt.v (t:Pt):Value:=ndV t.x t.a1 t.c1 t.a2 t.c2 t.ak t.ck
def cs7 (pts:List Pt):List Value:=pts.flatMap Pt.cs
theorem cs7_at (pts:List Pt) (j o:Nat) (hj:j < pts.length) (ho:o < 7):(cs7 pts)[j * 7+o]?=(pts[j]).cs[o]?:=by
 induction pts generalizing j with
 | nil=>simp at hj
 | cons t r ih =>
  have hl:t.cs.length=7:=rfl
  show (t.cs ++ cs7 r)[j * 7+o]?=_
  cases j with
  | zero=>rw [List.getElem?_append_left (by omega)]; simp
  | succ j =>
   rw [List.getElem?_append_right (by omega),show (j+1) * 7+o - t.cs.length=j * 7+o by omega]
   simpa using ih j (by simpa using hj)
structure Prt (n B m lo:Nat) (pts:List Pt) (v:Value) (wr:World):Prop where
 own:wr.ownsRow lo 39 7 v pts.length (cs7 pts)
 tr:∀ t ∈ pts,TrD n B m t.D wr t.x t.v
 dd:∀ t ∈ pts,∀ k,t.D k→lo≤k∧k < wr.heap.size∧v.ownBlock ≠ some k
 pw:pts.Pairwise fun a b=>∀ k,a.D k→¬ b.D k
section
variable {n B m lo:Nat} {pts:List Pt} {v:Value} {wr wr':World}
theorem Prt.start (n B m lo:Nat) (w:World):Prt n B m lo [] (.slice none 0 0) w:=⟨World.ownsRow_nil _ _ _ _,(fun t ht=>by cases ht),(fun t ht=>by cases ht),List.Pairwise.nil⟩
theorem Prt.deep {m':Nat} (h:Prt n B m lo pts v wr) (hm:m≤m'):Prt n B m' lo pts v wr:=⟨h.own,fun t ht=>(h.tr t ht).deep hm,h.dd,h.pw⟩
theorem Prt.but {T:Nat→Prop} (h:Prt n B m lo pts v wr) (hb:But T wr wr') (hT:∀ k,T k→B≤k∧k < lo) (hB:B≤wr.heap.size):Prt n B m lo pts v wr':=by
 refine ⟨?_,fun t ht=>(h.tr t ht).keep (KpD.but hb hB (fun k hk=>(h.dd t ht k hk).2.1) fun k hk=>⟨(hT k hk).1,fun hh=>by have:=(h.dd t ht k hh).1; have:=(hT k hk).2; omega⟩),fun t ht k hk=>⟨(h.dd t ht k hk).1,Nat.lt_of_lt_of_le (h.dd t ht k hk).2.1 hb.size,(h.dd t ht k hk).2.2⟩,h.pw⟩
 obtain ⟨h1,h2⟩:=h.own
 refine ⟨h1,?_⟩
 rcases h2 with h2 | ⟨g,cap,cur,hv,hbg,hg,r⟩
 ·exact Or.inl h2
 ·exact Or.inr ⟨g,cap,cur,hv,hbg,(hb.block (lt_of_block hg) (fun hh=>by have:=(hT g hh).2; omega)).trans hg,r⟩
theorem Prt.next (h:Prt n B m lo pts v wr) (hb:Below wr.heap.size wr wr') (hB:B≤wr.heap.size):Prt n B m lo pts v wr':=h.but (T:=fun _=>False) (But.of hb) (fun k hk=>hk.elim) hB
theorem frozen_own {w:World} {g:Nat} {cur:Array Value} {t:TypeId} (h:w.heap[g]?=some (.cells cur t (0,0))) (o:Nat):w.frozen? ⟨g,o,none⟩=false:=by
 unfold World.frozen?
 simp [h]
theorem Prt.trk (h:Prt n B m lo pts v wr):∃ ak ck,v=.slice ak pts.length ck∧TrK (TrD n B m) (Iv lo wr.heap.size) wr (pts.map Pt.x) ak:=by
 have hown:=h.own
 obtain ⟨h1,h2⟩:=h.own
 rcases h2 with ⟨hv,h0⟩ | ⟨g,cap,cur,hv,hbg,hg,hn,hm,hs,ht⟩
 ·have:pts=[]:=List.eq_nil_of_length_eq_zero h0
  subst this
  exact ⟨none,0,hv,Or.inl rfl⟩
 ·refine ⟨_,cap,hv,Or.inr ⟨g,fun j=>(pts[j]?.map Pt.D).getD (fun _=>False),rfl,⟨hbg,lt_of_block hg⟩,lt_of_block hg,frozen_own hg,fun j hj=>?_,fun j hj=>?_⟩⟩
  ·rw [List.length_map] at hj
   simp only [hj,List.getElem?_eq_getElem,Option.map_some,Option.getD_some]
   refine ⟨fun k hk=>?_,fun i hi hij k hk hk2=>?_⟩
   ·have:=h.dd pts[j] (List.getElem_mem hj) k hk
    refine ⟨⟨this.1,this.2.1⟩,fun e=>this.2.2 ?_⟩
    rw [hv,e]; rfl
   ·rw [List.length_map] at hi
    simp only [hi,List.getElem?_eq_getElem,Option.map_some,Option.getD_some] at hk
    have P:=List.pairwise_iff_getElem.1 h.pw
    rcases Nat.lt_or_gt_of_ne hij with hl | hl
    ·exact P i j hi hj hl k hk hk2
    ·exact P j i hj hi hl k hk2 hk
  ·rw [List.length_map] at hj
   simp only [hj,List.getElem?_eq_getElem,Option.map_some,Option.getD_some]
   have e:nAt (pts.map Pt.x) j=pts[j].x:=by simp [nAt,hj]
   rw [e]
   have hc:∀ o (ho:o < 7),wr.cell? ⟨g,j * 7+o,none⟩=pts[j].cs[o]?:=fun o ho=>by
    have h9:=hown.cells (g:=g) (by rw [hv]; rfl) (j * 7+o) (pts[j].cs[o]'(by show o < 7; exact ho)) (by rw [cs7_at pts j o hj ho]; exact List.getElem?_eq_getElem _)
    rw [add_off,Nat.zero_add] at h9
    rw [h9,List.getElem?_eq_getElem]
   exact ⟨pts[j].a1,pts[j].c1,pts[j].a2,pts[j].c2,pts[j].ak,pts[j].ck,⟨hc 0 (by omega),hc 1 (by omega),hc 2 (by omega),hc 3 (by omega),hc 4 (by omega),hc 5 (by omega),hc 6 (by omega)⟩,h.tr _ (List.getElem_mem hj)⟩
theorem Prt.push {X:World} {t:Pt} {v':Value} (h:Prt n B m lo pts v wr) (ht:TrD n B m t.D wr t.x t.v) (hd:∀ k,t.D k→lo≤k∧k < wr.heap.size∧v.ownBlock ≠ some k∧∀ s ∈ pts,¬ s.D k) (hB:B≤lo) (hlo:lo≤wr.heap.size)
  (ho:X.ownsRow lo 39 7 v' (pts.length+1) (cs7 pts ++ t.cs)) (hg:wr.grownBy X v.ownBlock) (hv:v'.ownBlock=v.ownBlock ∨ v'.ownBlock=some wr.heap.size):Prt n B m lo (pts ++ [t]) v' X:=by
 have hX:∀ k,k < wr.heap.size→v.ownBlock ≠ some k→X.heap[k]?=wr.heap[k]?:=fun k hk hne=>hg.block k hk (fun e=>hne e.symm)
 have hBX:Below B wr X:=(Below.refl _ _).grown hg (by omega) fun k hk=>by have:=(h.own.lt k hk).1; omega
 have hsz:=hg.size
 have hne:∀ k,k < wr.heap.size→v.ownBlock ≠ some k→v'.ownBlock ≠ some k:=fun k hk h1=>by
  rcases hv with e | e
  ·rw [e]; exact h1
  ·rw [e]; intro e2; cases e2; omega
 refine ⟨?_,fun s hs=>?_,fun s hs k hk=>?_,?_⟩
 ·have e:cs7 (pts ++ [t])=cs7 pts ++ t.cs:=by simp [cs7]
  rw [e,List.length_append]; exact ho
 ·rcases List.mem_append.1 hs with hs | hs
  ·exact (h.tr s hs).keep ⟨hBX,fun k hk=>hX k (h.dd s hs k hk).2.1 (h.dd s hs k hk).2.2⟩
  ·rw [List.mem_singleton.1 hs]
   exact ht.keep ⟨hBX,fun k hk=>hX k (hd k hk).2.1 (hd k hk).2.2.1⟩
 ·rcases List.mem_append.1 hs with hs | hs
  ·have:=h.dd s hs k hk
   exact ⟨this.1,by omega,hne k this.2.1 this.2.2⟩
  ·rw [List.mem_singleton.1 hs] at hk
   have:=hd k hk
   exact ⟨this.1,by omega,hne k this.2.1 this.2.2.1⟩
 ·refine List.pairwise_append.2 ⟨h.pw,by simp,fun a ha b hb k hk=>?_⟩
  rw [List.mem_singleton.1 hb]
  exact fun hh=>(hd k hh).2.2.2 a ha hk
end
end Go.Proofs.Ytnaejfoighmfeaa
namespace Go.Proofs.Ytnaejfoighmfeaa
open Go.ChangeShapes Go.WideShapes Go.ChangeAt Go.RowKit
set_option maxRecDepth 100000
set_option linter.unusedVariables false
set_option linter.unusedSimpArgs false
theorem TrD.putA {n B m:Nat} {D:Nat→Prop} {w:World} {ks:List Nd} {ak:Option Addr} {ck L:Nat} (hL:ks.length=L) (k o:Int) (s:ByteArray) (p:Int) (hs:s.size≤140737488355328) (hl:ks.length≤100000) (h:TrK (TrD (n+1) B m) D w ks ak):TrD (n+1) B (m+1) D w (node k o s ks p) (.agg #[.int .i64 k,.int .i64 o,.string s,.slice none 0 0,.slice none 0 0,.slice ak L ck,.int .i64 p]):=by
 subst hL
 exact ⟨none,0,none,0,ak,ck,rfl,LitD.nil n B D w,⟨by simp [node,Nd.kids]; omega,Or.inr rfl⟩,hs,h⟩
theorem inf39:(Try.prog.info? 39).map (fun i=>(i.zero,i.size,i.bytes))=some (some (.agg #[.int .i64 0,.int .i64 0,.string ⟨#[]⟩,.slice none 0 0,.slice none 0 0,.slice none 0 0,.int .i64 0]),7,112):=by kernel_rfl
theorem info39':∃ i,Try.prog.info? 39=some i∧i.zero=some (.agg #[.int .i64 0,.int .i64 0,.string ⟨#[]⟩,.slice none 0 0,.slice none 0 0,.slice none 0 0,.int .i64 0])∧i.size=7∧i.bytes=112:=by
 obtain ⟨i,hi,hzz⟩:=Option.map_eq_some_iff.1 inf39
 simp only [Prod.mk.injEq] at hzz
 exact ⟨i,hi,hzz.1,hzz.2.1,hzz.2.2⟩
def Closed (g:Gr) (b:Bool) (mm:Nat) (l:List Wo):Prop:=isT 6 rc (l.drop (chainR (wholeR g b) mm l).2)=true
theorem closed_over {g:Gr} {b:Bool} {mm:Nat} {l:List Wo} (h:Closed g b mm l) (ho:overR l=false):∃ m',mm=m'+1∧wholeR g b l ≠ 0∧Closed g b m' (l.drop (wholeR g b l)):=by
 have key:isT 6 rc l ≠ true:=fun hh=>by
  obtain ⟨x,r,rfl,hk⟩:=isT_kind hh
  simp [overR,hk] at ho
 unfold Closed at h
 cases mm with
 | zero=>simp only [chainR,List.drop_zero] at h; exact absurd h key
 | succ m' =>
  by_cases h0:wholeR g b l=0
  ·simp only [chainR,h0,if_true,List.drop_zero] at h; exact absurd h key
  ·refine ⟨m',rfl,h0,?_⟩
   simp only [chainR,h0,if_false] at h
   rw [←List.drop_drop] at h
   exact h
theorem closed_ne {g:Gr} {b:Bool} {mm:Nat} {l:List Wo} (h:Closed g b mm l):l ≠ []:=fun e=>by
 subst e
 unfold Closed at h
 rw [List.drop_nil] at h
 cases h
structure Tn (n:Nat) (w0 w:World) (p:Nat) (g:Gr) (R:Raw) (ws:List Wo) (A:Ra) (e:Int) (b:Bool) (i' mm m:Nat) (pts:List Pt) (v:Value) (wr:World):Prop where
 but:But (·=p) w wr
 rd:Rd (n+1) w0 wr p g R ws A i' e
 prt:Prt (n+1) w0.heap.size m (w.heap.size+1) pts v wr
 rv:Rv wr w.heap.size
 cl:Closed g b mm (ws.drop i')
 le:pts.length≤i'
 sz:w.heap.size+1≤wr.heap.size
theorem owns7_form {w:World} {base:Nat} {v:Value} {n:Nat} {xs:List Value} (h:w.ownsRow base 39 7 v n xs):∃ va vc,v=.slice va n vc:=by
 rcases h.2 with ⟨hv,h0⟩ | ⟨g,cap,cur,hv,-⟩
 ·exact ⟨none,0,by rw [hv,h0]⟩
 ·exact ⟨_,cap,hv⟩
set_option maxHeartbeats 8000000 in
theorem train84 {n:Nat} {w0 w:World} {p:Nat} {g:Gr} {R:Raw} {ws:List Wo} {A:Ra} {i:Nat} {e:Int} (d:Nat) (hd:d≤24) (IF:CF n w0 p g R ws A e d) (h:Rd (n+1) w0 w p g R ws A i e) (hT:isT 5 ro (ws.drop i)=true) (b:Bool) (mm:Nat) (hc:Closed g b mm (ws.drop (i+1))) :
  Calls Try.prog 84 #[.pointer (some ⟨p,0,none⟩),.int .i64 ((24 - d:Nat):Int)] w fun en w'=>GvF n w0 w p g R ws A e (trainS e (EF g e d).2 (ws.drop i)) en w':=by
 obtain ⟨i39,hi39,hz0,hz1,hz2⟩:=info39'
 obtain ⟨PL,hPL⟩:∃ PL,placeR e (ws.drop i)=PL:=⟨_,rfl⟩
 have hb:trainS e (EF g e d).2 (ws.drop i)=(trS (EF g e d).2 ((ws.drop i).length+1) (([]:List Pt).map Pt.x) (ws.drop (i+1))).bind fun q=>.ok (trainN q.1 PL,q.2):=by unfold trainS; rw [hPL,List.tail_drop]; rfl
 obtain ⟨RES,hRES⟩:∃ RES,trainS e (EF g e d).2 (ws.drop i)=RES:=⟨_,rfl⟩
 rw [hRES]
 rw [hRES] at hb
 have HRES:=hide hb
 clear hb hRES
 have hlt:i < ws.length:=by
  rcases Nat.lt_or_ge i ws.length with hh | hh
  ·exact hh
  ·rw [drop_end (by omega)] at hT; cases hT
 obtain ⟨W1,e1⟩:∃ W1,w.alloc (.cells #[.int .i64 0,.int .i64 0,.string ⟨#[]⟩,.slice none 0 0,.slice none 0 0,.slice none 0 0,.int .i64 0] 39)=W1:=⟨_,rfl⟩
 have b1:Below w.heap.size w W1:=by rw [←e1]; exact one_alloc _ _
 have s1:W1.heap.size=w.heap.size+1:=by rw [←e1]; simp
 have rv1:Rv W1 w.heap.size:=by rw [←e1]; exact Rv.new w
 have HDN:Hid (∀ k,Below W1.heap.size W1 (W1.drewN k)):=fun k=>drewN_below (Below.refl W1.heap.size W1) k
 have HRD:Hid (∀ k,Rd (n+1) w0 (W1.drewN k) p g R ws A i e):=fun k=>(h.next b1).next (HDN.out k)
 have hL:=h.sp.sn.words
 have hpw:=h.sp.sn.hp2
 have hBw:=h.sp.sn.old.size
 have hB0:=h.sp.sn.hp
 have HP:=hide (place37 (h.next b1))
 rw [hPL] at HP
 have HE:=hide e1
 have HB1:=hide b1
 have HRV1:=hide rv1
 have HIF:=hide IF
 have HGF:=hide ((EF_good g e d).2)
 have HCL:=hide hc
 clear hT e1 h b1 rv1 IF hPL hc
 have hD1:IntKind.i64.wrap (((24 - d:Nat):Int)+1)=((25 - d:Nat):Int):=(IntWalk.i64_in _ ⟨by omega,by omega⟩).trans (by omega)
 generalize ((24 - d:Nat):Int)=DD at *
 go_enter Try.func84,Try.ntmps84
 go_upto_region 1 with fail
 rw [HE.out]
 go_wp2_with fail
 refine HP.out.mono ?_
 rintro en w2 ⟨rfl,k2,rfl⟩
 clear HP
 have HRQ:=HRD.out k2
 have HDQ:=hide (HDN.out k2)
 have sq:(W1.drewN k2).heap.size=w.heap.size+1:=s1
 clear HRD HDN
 generalize W1.drewN k2=wq at *
 have rd3:=HRQ.move (i+1) hlt
 have bm3:=HRQ.moved (i+1)
 have hcast:((i+1:Nat):Int)=(i:Int)+1:=by simp
 rw [hcast] at rd3 bm3
 obtain ⟨W3,hW3⟩:∃ W3,wq.setCell ⟨p,19,none⟩ (.int .i64 ((i:Int)+1))=W3:=⟨_,rfl⟩
 rw [hW3] at rd3 bm3
 have HE3:=hide hW3
 have s3:W3.heap.size=w.heap.size+1:=by rw [←hW3]; simpa using sq
 have TN0:Hid (Tn n w0 w p g R ws A e b (i+1) mm 0 [] (.slice none 0 0) W3):=⟨(But.of (HB1.out.trans (HDQ.out.mono HB1.out.size))).trans bm3 fun j _ hj=>hj,rd3,Prt.start _ _ _ _ _,((HRV1.out.block HDQ.out.size (HDQ.out.block _ (by omega))).but bm3 (by omega)),HCL.out,Nat.zero_le _,by omega⟩
 have hFL:(ws.drop (i+1)).length < (ws.drop i).length+1:=by simp only [List.length_drop]; omega
 have c19:=HRQ.c19
 have f19:=HRQ.fz
 clear hW3 bm3 rd3 HRQ hcast HRV1 HB1 HDQ HCL
 go_upto_region 3 with fail
 rw [HE3.out]
 clear c19 f19 HE HE3
 go_wp2_with fail
 go_loopg [6] (ws.length+1 - (i+1)) (fun gm v wr=>∃ (i' f mm m:Nat) (pts:List Pt),gm=ws.length+1 - i'∧RES=((trS (EF g e d).2 f (pts.map Pt.x) (ws.drop i')).bind fun q=>.ok (trainN q.1 PL,q.2))∧(ws.drop i').length < f∧Tn n w0 w p g R ws A e b i' mm m pts v wr)
 case atStart=>exact ⟨i+1,_,mm,0,[],rfl,HRES.out,hFL,TN0.out⟩
 case round =>
  clear TN0 HRES hFL
  obtain ⟨i',f,mm,m,pts,rfl,hres,hfl,htn⟩:=hrel
  obtain ⟨f,rfl⟩:∃ f',f=f'+1:=⟨f - 1,by omega⟩
  obtain ⟨va,vc,rfl⟩:=owns7_form htn.prt.own
  have hi':=htn.rd.hi
  have hle:=htn.le
  have HTN:=hide htn
  have HOV:=hide (over39 htn.rd)
  have HRS:=hide hres
  have hne:=closed_ne htn.cl
  have hlt':i' < ws.length:=by
   rcases Nat.lt_or_ge i' ws.length with hh | hh
   ·exact hh
   ·exact absurd (drop_end (by omega)) hne
  have hplen:pts.length≤1000:=by omega
  clear hres htn hne
  obtain ⟨L,hLp⟩:∃ L,pts.length=L:=⟨_,rfl⟩
  rw [hLp] at hplen HTN ⊢
  have HL:=hide hLp
  clear hLp hle
  cases hO:overR (ws.drop i') with
  | true =>
   rw [hO] at HOV
   obtain ⟨ps,hps⟩:∃ ps,pts.map Pt.x=ps:=⟨_,rfl⟩
   obtain rfl:RES=.ok (trainN ps PL,ws.drop (i'+1)):=by
    rw [HRS.out,hps]
    simp only [trS,hO,if_true]
    rw [drop_at hlt']
    rfl
   go_wp2_with fail
   refine HOV.out.mono ?_
   rintro en w2 ⟨rfl,k2,rfl⟩
   have bz:Below wr.heap.size wr (wr.drewN k2):=drewN_below (Below.refl _ _) _
   generalize wr.drewN k2=wz at *
   have hsz:=HTN.out.sz
   have hzs:=bz.size
   have rdz:=HTN.out.rd.next bz
   have rd7:=rdz.move (i'+1) hlt'
   have bm7:=rdz.moved (i'+1)
   rw [show ((i'+1:Nat):Int)=(i':Int)+1 by simp] at rd7 bm7
   obtain ⟨W7,hW7⟩:∃ W7,wz.setCell ⟨p,19,none⟩ (.int .i64 ((i':Int)+1))=W7:=⟨_,rfl⟩
   rw [hW7] at rd7 bm7
   have h7s:=bm7.size
   have prt7:=(HTN.out.prt.next bz (by omega)).but bm7 (fun k hk=>⟨by omega,by omega⟩) (by omega)
   obtain ⟨ak,ck,hva,hK⟩:=prt7.trk
   rw [HL.out] at hva
   rw [hps] at hK
   cases hva
   have HT7:Hid (But (·=p) w W7):=(HTN.out.but.trans (But.of bz) fun j _ hj=>hj).trans bm7 fun j _ hj=>hj
   have HR7:=hide rd7
   have HRV:=hide ((HTN.out.rv.block bz.size (bz.block _ HTN.out.rv.lt)).but bm7 (by omega))
   have HE7:=hide hW7
   have HK:=hide hK
   have c19:=rdz.c19
   have f19:=rdz.fz
   have hkl:ps.length=L:=by rw [←hps,List.length_map,HL.out]
   clear hps
   clear hW7 rd7 bm7 rdz prt7 hK HTN HOV HRS bz HIF HGF
   go_upto_region 7 with fail
   rw [HE7.out]
   clear c19 f19 HE7
   by_cases hL1:L=1
   ·subst hL1
    rcases HK.out with h0 | ⟨bk,F,rfl,hbk,-,hfz,hdj,h5⟩
    ·rw [h0] at hkl; cases hkl
    have hdj0:=hdj 0 (by omega)
    obtain ⟨a1,c1,a2,c2,xk,y_k,h6,h7⟩:=h5 0 (by omega)
    have e1:trainN ps PL=nAt ps 0:=by simp [trainN,hkl]
    obtain ⟨nd,hnd⟩:∃ nd,nAt ps 0=nd:=⟨_,rfl⟩
    rw [hnd] at h6 h7 e1
    obtain ⟨v0,v1,v2,v3,v4,v5,v6⟩:=h6
    simp only [Nat.zero_mul,Nat.zero_add] at v0 v1 v2 v3 v4 v5 v6
    have HFIN:Hid (∀ wf,But (·=w.heap.size) W7 wf→GvF n w0 w p g R ws A e (.ok (trainN ps PL,ws.drop (i'+1))) (.returned (.agg #[.int .i64 nd.kind,.int .i64 nd.op,.string nd.name,.slice a1 nd.lit.shape.length c1,.slice a2 nd.lit.cells.length c2,.slice xk nd.kids.length y_k,.int .i64 nd.pos])) wf):=fun wf hf=>by
     rw [e1]
     exact gf_fin HT7.out HR7.out rfl h7 (fun k hk=>by have:=(hdj0.1 k hk).1; have h1:=this.1; have h2:=this.2; omega) hpw hBw hf
    clear HK hdj hdj0 h5 h7 e1 hfz hbk HT7 HR7 hnd
    have RV:=HRV.out
    obtain ⟨r0,Q0⟩:=RV.c 0 (by omega)
    have F0:=RV.f 0
    obtain ⟨r1,Q1⟩:=RV.c 1 (by omega)
    have F1:=RV.f 1
    obtain ⟨r2,Q2⟩:=RV.c 2 (by omega)
    have F2:=RV.f 2
    obtain ⟨r3,Q3⟩:=RV.c 3 (by omega)
    have F3:=RV.f 3
    obtain ⟨r4,Q4⟩:=RV.c 4 (by omega)
    have F4:=RV.f 4
    obtain ⟨r5,Q5⟩:=RV.c 5 (by omega)
    have F5:=RV.f 5
    obtain ⟨r6,Q6⟩:=RV.c 6 (by omega)
    have F6:=RV.f 6
    clear RV HRV
    go_wp2
    refine bodyPost_ret (v:=.agg #[.int .i64 nd.kind,.int .i64 nd.op,.string nd.name,.slice a1 nd.lit.shape.length c1,.slice a2 nd.lit.cells.length c2,.slice xk nd.kids.length y_k,.int .i64 nd.pos]) (by simp [results,Try.results84,go_sem,Q0,Q1,Q2,Q3,Q4,Q5,Q6]) rfl (HFIN.out _ ?_)
    repeat' first | with_reducible exact But.refl _ _ | with_reducible rfl | with_reducible refine butS ?_ ?_
   ·by_cases hL2:L=2
    ·subst hL2
     have HFIN:Hid (∀ wf,But (·=w.heap.size) W7 wf→GvF n w0 w p g R ws A e (.ok (trainN ps PL,ws.drop (i'+1))) (.returned (.agg #[.int .i64 28,.int .i64 0,.string ⟨#[]⟩,.slice none 0 0,.slice none 0 0,.slice va 2 vc,.int .i64 PL])) wf):=fun wf hf=>by
      have e1:trainN ps PL=node 28 0 nost ps PL:=by simp [trainN,hkl]
      rw [e1]
      exact gf_fin HT7.out HR7.out rfl (TrD.putA hkl 28 0 nost PL (Nat.zero_le _) (by omega) HK.out) (fun k hk=>by have h1:=hk.1; have h2:=hk.2; omega) hpw hBw hf
     clear HK HT7 HR7 hkl
     have RV:=HRV.out
     obtain ⟨r0,Q0⟩:=RV.c 0 (by omega)
     have F0:=RV.f 0
     obtain ⟨r1,Q1⟩:=RV.c 1 (by omega)
     have F1:=RV.f 1
     obtain ⟨r2,Q2⟩:=RV.c 2 (by omega)
     have F2:=RV.f 2
     obtain ⟨r3,Q3⟩:=RV.c 3 (by omega)
     have F3:=RV.f 3
     obtain ⟨r4,Q4⟩:=RV.c 4 (by omega)
     have F4:=RV.f 4
     obtain ⟨r5,Q5⟩:=RV.c 5 (by omega)
     have F5:=RV.f 5
     obtain ⟨r6,Q6⟩:=RV.c 6 (by omega)
     have F6:=RV.f 6
     clear RV HRV
     go_wp2
     refine bodyPost_ret (v:=.agg #[.int .i64 28,.int .i64 0,.string ⟨#[]⟩,.slice none 0 0,.slice none 0 0,.slice va 2 vc,.int .i64 PL]) (by simp [results,Try.results84,go_sem,Q0,Q1,Q2,Q3,Q4,Q5,Q6]) rfl (HFIN.out _ ?_)
     repeat' first | with_reducible exact But.refl _ _ | with_reducible rfl | with_reducible refine butS ?_ ?_
    ·have k1:((L:Int) == 1)=false:=by simp; omega
     have k2:((L:Int) == 2)=false:=by simp; omega
     have HFIN:Hid (∀ wf,But (·=w.heap.size) W7 wf→GvF n w0 w p g R ws A e (.ok (trainN ps PL,ws.drop (i'+1))) (.returned (.agg #[.int .i64 27,.int .i64 0,.string ⟨#[]⟩,.slice none 0 0,.slice none 0 0,.slice va L vc,.int .i64 PL])) wf):=fun wf hf=>by
      have e1:trainN ps PL=node 27 0 nost ps PL:=by simp [trainN,hkl,hL1,hL2]
      rw [e1]
      exact gf_fin HT7.out HR7.out rfl (TrD.putA hkl 27 0 nost PL (Nat.zero_le _) (by omega) HK.out) (fun k hk=>by have h1:=hk.1; have h2:=hk.2; omega) hpw hBw hf
     clear HK HT7 HR7 hkl
     have RV:=HRV.out
     obtain ⟨r0,Q0⟩:=RV.c 0 (by omega)
     have F0:=RV.f 0
     obtain ⟨r1,Q1⟩:=RV.c 1 (by omega)
     have F1:=RV.f 1
     obtain ⟨r2,Q2⟩:=RV.c 2 (by omega)
     have F2:=RV.f 2
     obtain ⟨r3,Q3⟩:=RV.c 3 (by omega)
     have F3:=RV.f 3
     obtain ⟨r4,Q4⟩:=RV.c 4 (by omega)
     have F4:=RV.f 4
     obtain ⟨r5,Q5⟩:=RV.c 5 (by omega)
     have F5:=RV.f 5
     obtain ⟨r6,Q6⟩:=RV.c 6 (by omega)
     have F6:=RV.f 6
     clear RV HRV
     go_wp2
     refine bodyPost_ret (v:=.agg #[.int .i64 27,.int .i64 0,.string ⟨#[]⟩,.slice none 0 0,.slice none 0 0,.slice va L vc,.int .i64 PL]) (by simp [results,Try.results84,go_sem,Q0,Q1,Q2,Q3,Q4,Q5,Q6]) rfl (HFIN.out _ ?_)
     repeat' first | with_reducible exact But.refl _ _ | with_reducible rfl | with_reducible refine butS ?_ ?_
  | false =>
   rw [hO] at HOV
   obtain ⟨m',rfl,hW0,hcl2⟩:=closed_over HTN.out.cl hO
   go_wp2_with fail
   refine HOV.out.mono ?_
   rintro en w2 ⟨rfl,k2,rfl⟩
   have bz:Below wr.heap.size wr (wr.drewN k2):=drewN_below (Below.refl _ _) _
   generalize wr.drewN k2=wz at *
   have hsz:=HTN.out.sz
   have hzs:=bz.size
   have HC:=hide (HIF.out wz i' b (HTN.out.rd.next bz) hW0)
   have HBZ:=hide bz
   clear HOV bz
   go_wp2_with fail
   refine HC.out.mono ?_
   rintro en w5 ⟨hbut,hres⟩
   clear HC
   have HBT:Hid (But (·=p) w w5):=(HTN.out.but.trans (But.of HBZ.out) fun j _ hj=>hj).trans hbut fun j _ hj=>hj
   have h5s:=hbut.size
   cases hwd:(EF g e d).2 (ws.drop i') with
   | bad er pl =>
    rw [hwd] at hres
    simp only at hres
    subst hres
    obtain rfl:RES=.bad er pl:=by
     rw [HRS.out]
     simp only [trS,hO,Bool.false_eq_true,if_false]
     rw [hwd]; rfl
    go_wp2
    exact ⟨rfl,HBT.out,rfl⟩
   | stuck=>exact absurd hwd (HGF.out b _ hW0).1
   | ok r =>
    obtain ⟨nd,rs⟩:=r
    have hgr:rs=(ws.drop i').drop (wholeR g b (ws.drop i')):=((HGF.out b _ hW0).2 _ hwd).2
    rw [hwd] at hres
    obtain ⟨v,m2,i2,rfl,hrs,hrd,htr⟩:=hres
    have hrs':rs=ws.drop i2:=hrs
    subst hrs'
    have hi2:=hrd.hi
    have hii:i' < i2:=by
     have h9:=congrArg List.length hgr
     simp only [List.length_drop] at h9
     omega
    rw [←hgr] at hcl2
    have HR2:=hide (show RES=((trS (EF g e d).2 f ((pts.map Pt.x) ++ [nd]) (ws.drop i2)).bind fun q=>.ok (trainN q.1 PL,q.2)) by
     rw [HRS.out]
     simp only [trS,hO,Bool.false_eq_true,if_false]
     rw [hwd]; rfl)
    have hfl2:(ws.drop i2).length < f:=by simp only [List.length_drop] at hfl ⊢; omega
    have htr':Tr (n+1) w0.heap.size m2 wz.heap.size w5.heap.size w5 nd v:=htr
    obtain ⟨m3,hm3,a1,c1,a2,c2,ak,ck,rfl,-⟩:=htr'.form
    have b6:=one_alloc w5 (.cells #[.int .i64 nd.kind,.int .i64 nd.op,.string nd.name,.slice a1 nd.lit.shape.length c1,.slice a2 nd.lit.cells.length c2,.slice ak nd.kids.length ck,.int .i64 nd.pos] 39)
    have s6:(w5.alloc (.cells #[.int .i64 nd.kind,.int .i64 nd.op,.string nd.name,.slice a1 nd.lit.shape.length c1,.slice a2 nd.lit.cells.length c2,.slice ak nd.kids.length ck,.int .i64 nd.pos] 39)).heap.size=w5.heap.size+1:=by simp
    have hown0:=HTN.out.prt.own
    have prt6:=(((HTN.out.prt.next HBZ.out (by omega)).but hbut (fun k hk=>⟨by omega,by omega⟩) (by omega)).next b6 (by omega)).deep (Nat.le_add_right m m2)
    have ht6:=(TrD.keep htr' (Kp.of b6 (by omega) (Nat.le_refl _)).d).deep (Nat.le_add_left m2 m)
    have OWN:=prt6.own
    rw [HL.out] at OWN hown0
    have HNW:Hid (∀ i u,(Pt.cs ⟨nd,a1,c1,a2,c2,ak,ck,Iv wz.heap.size w5.heap.size⟩)[i]?=some u→(w5.alloc (.cells #[.int .i64 nd.kind,.int .i64 nd.op,.string nd.name,.slice a1 nd.lit.shape.length c1,.slice a2 nd.lit.cells.length c2,.slice ak nd.kids.length ck,.int .i64 nd.pos] 39)).cell? ((⟨w5.heap.size,0,none⟩:Addr).add i)=some u):=by
     intro i u hu
     rw [add_off,Nat.zero_add]
     exact cell_new0 w5 #[.int .i64 nd.kind,.int .i64 nd.op,.string nd.name,.slice a1 nd.lit.shape.length c1,.slice a2 nd.lit.cells.length c2,.slice ak nd.kids.length ck,.int .i64 nd.pos] 39 i u (by simpa [Pt.cs] using hu)
    have HZZ:Hid (w.heap.size+1≤(w5.alloc (.cells #[.int .i64 nd.kind,.int .i64 nd.op,.string nd.name,.slice a1 nd.lit.shape.length c1,.slice a2 nd.lit.cells.length c2,.slice ak nd.kids.length ck,.int .i64 nd.pos] 39)).heap.size):=by show _≤_; omega
    have HN:Hid (∀ v' w7,w7.ownsRow (w.heap.size+1) 39 7 v' (L+1) (cs7 pts ++ Pt.cs ⟨nd,a1,c1,a2,c2,ak,ck,Iv wz.heap.size w5.heap.size⟩)→(w5.alloc (.cells #[.int .i64 nd.kind,.int .i64 nd.op,.string nd.name,.slice a1 nd.lit.shape.length c1,.slice a2 nd.lit.cells.length c2,.slice ak nd.kids.length ck,.int .i64 nd.pos] 39)).grownBy w7 (Value.ownBlock (.slice va L vc))→(v'.ownBlock=Value.ownBlock (.slice va L vc) ∨ v'.ownBlock=some (w5.heap.size+1))→Tn n w0 w p g R ws A e b i2 m' (m+m2) (pts ++ [⟨nd,a1,c1,a2,c2,ak,ck,Iv wz.heap.size w5.heap.size⟩]) v' w7):=fun v' w7 ho hg hv=>by
     have hrow:∀ k,Value.ownBlock (.slice va L vc)=some k→w.heap.size+1≤k∧k < wr.heap.size:=hown0.lt
     have hg7:But (fun k=>w.heap.size+1≤k) (w5.alloc (.cells #[.int .i64 nd.kind,.int .i64 nd.op,.string nd.name,.slice a1 nd.lit.shape.length c1,.slice a2 nd.lit.cells.length c2,.slice ak nd.kids.length ck,.int .i64 nd.pos] 39)) w7:=⟨hg.os,hg.tape,hg.output,hg.size,fun k hk hn=>hg.block k hk fun e=>hn (hrow k e.symm).1⟩
     have h7:=hg.size
     refine ⟨(HBT.out.trans (But.of b6) fun j _ hj=>hj).trans hg7 fun j hj hh=>by omega,(hrd.next b6).upto (hg7.below (by omega) fun k hk=>by omega),?_,((HTN.out.rv.block HBZ.out.size (HBZ.out.block _ HTN.out.rv.lt)).but hbut (by omega)).block (Nat.le_trans b6.size h7) ((hg7.block (by omega) (by omega)).trans (b6.block _ (by omega))),hcl2,by rw [List.length_append,HL.out]; have h8:=HTN.out.le; rw [HL.out] at h8; simp; omega,by omega⟩
     refine prt6.push ht6 (fun k hk=>?_) (by omega) (by omega) (by rw [HL.out]; exact ho) hg (by rw [s6]; exact hv)
     have h1:=hk.1
     have h2:=hk.2
     refine ⟨by omega,by omega,fun e=>by have:=(hrow k e).2; omega,fun s hs hh=>by have:=(HTN.out.prt.dd s hs k hh).2.1; omega⟩
    generalize cs7 pts=XS at *
    clear HTN HBZ hgr hwd hrs hrd htr htr' hbut HBT prt6 ht6 hown0 HRS HIF HGF hW0 hcl2 hm3 b6
    go_wp2_with (at_builtin; refine wpList_append_at rfl _ _ 37 rfl (w.heap.size+1) 39 i39 (.agg #[.int .i64 0,.int .i64 0,.string ⟨#[]⟩,.slice none 0 0,.slice none 0 0,.slice none 0 0,.int .i64 0]) 7 112 Try.underlying37 hi39 hz0 hz1 hz2 rfl (by decide) _ _ _ rfl OWN ⟨w5.heap.size,0,none⟩ 1 1 (Pt.cs ⟨nd,a1,c1,a2,c2,ak,ck,Iv wz.heap.size w5.heap.size⟩) rfl rfl HNW.out ?c2 ?c3 ?c4 HZZ.out ?_)
    case c2 =>
     intro u hu
     simp [Pt.cs] at hu
     rcases hu with rfl | rfl | rfl | rfl | rfl | rfl | rfl <;> rfl
    case c3=>unfold maxLen; omega
    case c4=>omega
    intro v' w7 ho hg hv
    have HN3:=hide (HN.out v' w7 ho hg hv)
    clear ho hg hv HN OWN HNW HZZ s6
    go_wp2
    go_roundg (ws.length+1 - i2)
    case rel=>exact ⟨i2,f,m',m+m2,pts ++ [⟨nd,a1,c1,a2,c2,ak,ck,Iv wz.heap.size w5.heap.size⟩],rfl,by rw [HR2.out,List.map_append]; rfl,hfl2,HN3.out⟩
    case measure=>omega
end Go.Proofs.Ytnaejfoighmfeaa
namespace Go.Proofs.Ytnaejfoighmfeaa
open Go.ChangeShapes Go.WideShapes Go.ChangeAt Go.RowKit
set_option maxRecDepth 100000
set_option linter.unusedVariables false
set_option linter.unusedSimpArgs false
theorem stem_brack {g:Gr} {b:Bool} {l:List Wo} (h:stemR g b l ≠ 0) (h1:isT 5 g.opn l=false) (h2:isT 5 ro l=true):Closed g b (most g) l.tail:=by
 obtain ⟨x,r,rfl,hk⟩:=isT_kind h2
 have hs:∀ L,signT L (x :: r)=false:=fun L=>by simp [signT,isT,hk]
 rw [stemR_eq] at h
 unfold stemB at h
 simp only [hs,Bool.and_false,Bool.or_false,Bool.false_eq_true,if_false,h1,h2,if_true] at h
 unfold brackR at h
 split at h
 ·exact absurd rfl h
 split at h
 ·assumption
 ·exact absurd rfl h
theorem stem_word {g:Gr} {b:Bool} {l:List Wo} (h:stemR g b l ≠ 0):l ≠ []:=fun e=>by
 subst e
 exact h (stemR_nil g b)
set_option maxHeartbeats 8000000 in
theorem stemmed66 {n:Nat} {w0 w:World} {p:Nat} {g:Gr} {R:Raw} {ws:List Wo} {A:Ra} {i:Nat} {e:Int} (d:Nat) (hd:d≤24) (IE:CE n w0 p g R ws A e d) (IF:CF n w0 p g R ws A e d) (h:Rd (n+1) w0 w p g R ws A i e) (b:Bool) (hS:stemR g b (ws.drop i) ≠ 0) :
  Calls Try.prog 66 #[.pointer (some ⟨p,0,none⟩),.int .i64 ((24 - d:Nat):Int)] w fun en w'=>GvF n w0 w p g R ws A e (stemS g e (EF g e d).1 (EF g e d).2 (ws.drop i)) en w':=by
 obtain ⟨RES,hRES⟩:∃ RES,stemS g e (EF g e d).1 (EF g e d).2 (ws.drop i)=RES:=⟨_,rfl⟩
 rw [hRES]
 have hlt:i < ws.length:=by
  rcases Nat.lt_or_ge i ws.length with hh | hh
  ·exact hh
  ·exact absurd (drop_end (by omega)) (stem_word hS)
 obtain ⟨W1,e1⟩:∃ W1,w.alloc (.cells #[.int .i64 0,.int .i64 0,.string ⟨#[]⟩,.slice none 0 0,.slice none 0 0,.slice none 0 0,.int .i64 0] 39)=W1:=⟨_,rfl⟩
 have b1:Below w.heap.size w W1:=by rw [←e1]; exact one_alloc _ _
 have s1:W1.heap.size=w.heap.size+1:=by rw [←e1]; simp
 have rv1:Rv W1 w.heap.size:=by rw [←e1]; exact Rv.new w
 have hL:=h.sp.sn.words
 have hpw:=h.sp.sn.hp2
 have hBw:=h.sp.sn.old.size
 have hB0:=h.sp.sn.hp
 have rd1:=h.next b1
 have KS:Hid (∀ W,Below W1.heap.size W1 W→Below W1.heap.size W1 W∧W.cell? ⟨p,19,none⟩=some (.int .i64 (i:Int))):=fun W hW=>⟨hW,(rd1.next hW).c19⟩
 have HD0:Hid (Below W1.heap.size W1 W1.drew):=(Below.refl _ _).drew
 have H81:=hide (fun W (hW:Below W1.heap.size W1 W)=>(text81 (rd1.next hW).sp.sn i (by omega)).mono fun e w' (h:_∧_)=>(⟨h.1,hW.trans (h.2.mono hW.size)⟩:_∧Below W1.heap.size W1 w'))
 obtain ⟨-,c19⟩:=KS.out W1 (Below.refl _ _)
 have HE:=hide e1
 have HB1:=hide b1
 have HRV1:=hide rv1
 have HRD1:=hide rd1
 have HSS:=hide hS
 have HIE:=hide IE
 have HIF:=hide IF
 clear e1 h b1 rv1 rd1 hS IE IF
 cases hT1:isT 5 g.opn (ws.drop i) with
 | true =>
  have HRES:=hide (show RES=textS g e (EF g e d).1 (ws.drop i) by rw [←hRES]; unfold stemS; rw [hT1]; rfl)
  clear hRES
  simp only [hT1] at H81
  go_enter Try.func66,Try.ntmps66
  go_upto_region 1 with fail
  rw [HE.out]
  go_region_held3 (fun W=>Below W1.heap.size W1 W∧W.cell? ⟨p,19,none⟩=some (.int .i64 (i:Int))) (first | with_reducible exact KS.out _ HD0.out | with_reducible exact KS.out _ (by with_reducible assumption)) (first | (go_at_call 81; refine (H81.out _ HD0.out).mono ?_; rintro e w6 ⟨rfl,hb6⟩))
  have HRDZ:=hide (HRD1.out.next hb6)
  have HBW:Hid (But (·=p) w w6):=But.of (HB1.out.trans (hb6.mono HB1.out.size))
  have HRVZ:=hide (HRV1.out.block hb6.size (hb6.block _ HRV1.out.lt))
  have h6s:=hb6.size
  clear hb6 H81 KS HD0 c19 HRD1 HRV1 HB1
  have HC:=hide (text83 d hd HIE.out HRDZ.out hT1)
  go_wp2_with fail
  refine HC.out.mono ?_
  rintro en w5 ⟨hbut,hres⟩
  clear HC
  have h5s:=hbut.size
  have HBT:Hid (But (·=p) w w5):=HBW.out.trans hbut fun j _ hj=>hj
  have HRV:=hide (HRVZ.out.but hbut (by omega))
  cases hwd:textS g e (EF g e d).1 (ws.drop i) with
  | bad er pl =>
   rw [hwd] at hres
   simp only at hres
   subst hres
   obtain rfl:RES=.bad er pl:=by rw [HRES.out,hwd]
   go_wp2
   exact ⟨rfl,HBT.out,rfl⟩
  | stuck =>
   rw [hwd] at hres
   exact hres.elim
  | ok r =>
   obtain ⟨nd,rs⟩:=r
   rw [hwd] at hres
   obtain ⟨v,m2,i2,rfl,hrs,hrd,htr⟩:=hres
   have htr':Tr (n+1) w0.heap.size m2 w6.heap.size w5.heap.size w5 nd v:=htr
   obtain ⟨m3,hm3,a1,c1,a2,c2,ak,ck,rfl,-⟩:=htr'.form
   obtain rfl:RES=.ok (nd,rs):=by rw [HRES.out,hwd]
   have HFIN:Hid (∀ wf,But (·=w.heap.size) w5 wf→GvF n w0 w p g R ws A e (.ok (nd,rs)) (.returned (.agg #[.int .i64 nd.kind,.int .i64 nd.op,.string nd.name,.slice a1 nd.lit.shape.length c1,.slice a2 nd.lit.cells.length c2,.slice ak nd.kids.length ck,.int .i64 nd.pos])) wf):=fun wf hf =>
    gf_fin HBT.out hrd hrs htr' (fun k hk=>by have h1:=hk.1; have h2:=hk.2; omega) hpw hBw hf
   clear hwd hrs hrd htr htr' hbut HBT hm3 HRES HRVZ HRDZ
   have RV:=HRV.out
   obtain ⟨r0,Q0⟩:=RV.c 0 (by omega)
   have F0:=RV.f 0
   obtain ⟨r1,Q1⟩:=RV.c 1 (by omega)
   have F1:=RV.f 1
   obtain ⟨r2,Q2⟩:=RV.c 2 (by omega)
   have F2:=RV.f 2
   obtain ⟨r3,Q3⟩:=RV.c 3 (by omega)
   have F3:=RV.f 3
   obtain ⟨r4,Q4⟩:=RV.c 4 (by omega)
   have F4:=RV.f 4
   obtain ⟨r5,Q5⟩:=RV.c 5 (by omega)
   have F5:=RV.f 5
   obtain ⟨r6,Q6⟩:=RV.c 6 (by omega)
   have F6:=RV.f 6
   clear RV HRV
   go_wp2
   refine bodyPost_ret (v:=.agg #[.int .i64 nd.kind,.int .i64 nd.op,.string nd.name,.slice a1 nd.lit.shape.length c1,.slice a2 nd.lit.cells.length c2,.slice ak nd.kids.length ck,.int .i64 nd.pos]) (by simp [results,Try.results66,go_sem,Q0,Q1,Q2,Q3,Q4,Q5,Q6]) rfl (HFIN.out _ ?_)
   repeat' first | with_reducible exact But.refl _ _ | with_reducible rfl | with_reducible refine butS ?_ ?_
 | false =>
  simp only [hT1] at H81
  have HIS:=hide (fun W (hR:Rd (n+1) w0 W p g R ws A i e) k=>is69 (hR.next (drewN_below (Below.refl W.heap.size W) k)).sp.sn i 5 ro (by omega))
  have hro:ro=⟨#[40]⟩:=rfl
  cases hT2:isT 5 ro (ws.drop i) with
  | true =>
   have HRES:=hide (show RES=trainS e (EF g e d).2 (ws.drop i) by rw [←hRES]; unfold stemS; rw [hT1,hT2]; rfl)
   have HCLO:Hid (Closed g b (most g) (ws.drop (i+1))):=by
    have:=stem_brack HSS.out hT1 hT2
    rw [List.tail_drop] at this
    exact this
   clear hRES
   simp only [hT2] at HIS
   rw [hro] at HIS
   go_enter Try.func66,Try.ntmps66
   go_upto_region 1 with fail
   rw [HE.out]
   go_region_held3 (fun W=>Below W1.heap.size W1 W∧W.cell? ⟨p,19,none⟩=some (.int .i64 (i:Int))) (first | with_reducible exact KS.out _ HD0.out | with_reducible exact KS.out _ (by with_reducible assumption)) (first | (go_at_call 81; refine (H81.out _ HD0.out).mono ?_; rintro e w6 ⟨rfl,hb6⟩))
   have rd6:=HRD1.out.next hb6
   have H69:=hide (HIS.out w6 rd6)
   have c19':=rd6.c19
   have c19n:=fun k=>(rd6.next (drewN_below (Below.refl w6.heap.size w6) k)).c19
   have HB6:=hide hb6
   clear hb6 H81 KS HD0 c19 HIS rd6
   go_upto_region 3 with fail
   go_quiet ((go_at_call 69; first | exact Calls.quiet_of_same (H69.out 0) | exact Calls.quiet_of_same (H69.out _)))
   go_upto_region 4 with fail
   obtain ⟨wz,hwz⟩:∃ wz,w6.drewN nq=wz:=⟨_,rfl⟩
   have bz0:Below w6.heap.size w6 wz:=by rw [←hwz]; exact drewN_below (Below.refl _ _) _
   have bz:Below W1.heap.size W1 wz:=HB6.out.trans (bz0.mono HB6.out.size)
   rw [hwz]
   have HRDZ:=hide (HRD1.out.next bz)
   have HBW:Hid (But (·=p) w wz):=But.of (HB1.out.trans (bz.mono HB1.out.size))
   have HRVZ:=hide (HRV1.out.block bz.size (bz.block _ HRV1.out.lt))
   have h6s:=bz.size
   clear bz bz0 hwz H69 c19' c19n HB6 HRD1 HRV1 HB1
   have HC:=hide (train84 d hd HIF.out HRDZ.out hT2 b (most g) HCLO.out)
   go_wp2_with fail
   refine HC.out.mono ?_
   rintro en w5 ⟨hbut,hres⟩
   clear HC
   have h5s:=hbut.size
   have HBT:Hid (But (·=p) w w5):=HBW.out.trans hbut fun j _ hj=>hj
   have HRV:=hide (HRVZ.out.but hbut (by omega))
   cases hwd:trainS e (EF g e d).2 (ws.drop i) with
   | bad er pl =>
    rw [hwd] at hres
    simp only at hres
    subst hres
    obtain rfl:RES=.bad er pl:=by rw [HRES.out,hwd]
    go_wp2
    exact ⟨rfl,HBT.out,rfl⟩
   | stuck =>
    rw [hwd] at hres
    exact hres.elim
   | ok r =>
    obtain ⟨nd,rs⟩:=r
    rw [hwd] at hres
    obtain ⟨v,m2,i2,rfl,hrs,hrd,htr⟩:=hres
    have htr':Tr (n+1) w0.heap.size m2 wz.heap.size w5.heap.size w5 nd v:=htr
    obtain ⟨m3,hm3,a1,c1,a2,c2,ak,ck,rfl,-⟩:=htr'.form
    obtain rfl:RES=.ok (nd,rs):=by rw [HRES.out,hwd]
    have HFIN:Hid (∀ wf,But (·=w.heap.size) w5 wf→GvF n w0 w p g R ws A e (.ok (nd,rs)) (.returned (.agg #[.int .i64 nd.kind,.int .i64 nd.op,.string nd.name,.slice a1 nd.lit.shape.length c1,.slice a2 nd.lit.cells.length c2,.slice ak nd.kids.length ck,.int .i64 nd.pos])) wf):=fun wf hf =>
     gf_fin HBT.out hrd hrs htr' (fun k hk=>by have h1:=hk.1; have h2:=hk.2; omega) hpw hBw hf
    clear hwd hrs hrd htr htr' hbut HBT hm3 HRES HRVZ HRDZ
    have RV:=HRV.out
    obtain ⟨r0,Q0⟩:=RV.c 0 (by omega)
    have F0:=RV.f 0
    obtain ⟨r1,Q1⟩:=RV.c 1 (by omega)
    have F1:=RV.f 1
    obtain ⟨r2,Q2⟩:=RV.c 2 (by omega)
    have F2:=RV.f 2
    obtain ⟨r3,Q3⟩:=RV.c 3 (by omega)
    have F3:=RV.f 3
    obtain ⟨r4,Q4⟩:=RV.c 4 (by omega)
    have F4:=RV.f 4
    obtain ⟨r5,Q5⟩:=RV.c 5 (by omega)
    have F5:=RV.f 5
    obtain ⟨r6,Q6⟩:=RV.c 6 (by omega)
    have F6:=RV.f 6
    clear RV HRV
    go_wp2
    refine bodyPost_ret (v:=.agg #[.int .i64 nd.kind,.int .i64 nd.op,.string nd.name,.slice a1 nd.lit.shape.length c1,.slice a2 nd.lit.cells.length c2,.slice ak nd.kids.length ck,.int .i64 nd.pos]) (by simp [results,Try.results66,go_sem,Q0,Q1,Q2,Q3,Q4,Q5,Q6]) rfl (HFIN.out _ ?_)
    repeat' first | with_reducible exact But.refl _ _ | with_reducible rfl | with_reducible refine butS ?_ ?_
  | false =>
   have HRES:=hide (show RES=.ok (node 21 0 (wAt ws i).text [] (wAt ws i).pos,ws.drop (i+1)) by rw [←hRES]; unfold stemS; rw [hT1,hT2,drop_at hlt]; rfl)
   clear hRES
   simp only [hT2] at HIS
   rw [hro] at HIS
   go_enter Try.func66,Try.ntmps66
   go_upto_region 1 with fail
   rw [HE.out]
   go_region_held3 (fun W=>Below W1.heap.size W1 W∧W.cell? ⟨p,19,none⟩=some (.int .i64 (i:Int))) (first | with_reducible exact KS.out _ HD0.out | with_reducible exact KS.out _ (by with_reducible assumption)) (first | (go_at_call 81; refine (H81.out _ HD0.out).mono ?_; rintro e w6 ⟨rfl,hb6⟩))
   have rd6:=HRD1.out.next hb6
   have H69:=hide (HIS.out w6 rd6)
   have c19':=rd6.c19
   have c19n:=fun k=>(rd6.next (drewN_below (Below.refl w6.heap.size w6) k)).c19
   have HB6:=hide hb6
   clear hb6 H81 KS HD0 c19 HIS rd6
   go_upto_region 3 with fail
   go_quiet ((go_at_call 69; first | exact Calls.quiet_of_same (H69.out 0) | exact Calls.quiet_of_same (H69.out _)))
   go_upto_region 5 with fail
   obtain ⟨wz,hwz⟩:∃ wz,w6.drewN nq=wz:=⟨_,rfl⟩
   have bz0:Below w6.heap.size w6 wz:=by rw [←hwz]; exact drewN_below (Below.refl _ _) _
   have bz:Below W1.heap.size W1 wz:=HB6.out.trans (bz0.mono HB6.out.size)
   rw [hwz]
   have rdz:=HRD1.out.next bz
   have HRDZ:=hide rdz
   have HBW:Hid (But (·=p) w wz):=But.of (HB1.out.trans (bz.mono HB1.out.size))
   have HRVZ:=hide (HRV1.out.block bz.size (bz.block _ HRV1.out.lt))
   have h6s:=bz.size
   clear bz bz0 hwz H69 c19' c19n HB6 HRD1 HRV1 HB1
   obtain ⟨b',off,z1,m1,z2,m2,ha,g0,g1,-,-,-,hts,-⟩:=rdz.sp.sn.word hlt
   have c14:=rdz.sp.sn.c14
   rw [ha] at c14
   obtain ⟨LW,hLW⟩:∃ LW,ws.length=LW:=⟨_,rfl⟩
   rw [hLW] at c14
   have hltW:i < LW:=by omega
   have H37:=hide (fun W (hW:Below wz.heap.size wz W)=>(place37 (rdz.next hW)).mono fun e w' (h:_∧_)=>(⟨h.1,by obtain ⟨m,hm⟩:=h.2; rw [hm]; exact drewN_below hW m⟩:_∧Below wz.heap.size wz w'))
   have H37D:=hide (fun W (hW:Below wz.heap.size wz W) (hs:W.heap.size=wz.heap.size+1)=>(place37 (rdz.next hW)).mono fun e w' (h:_∧_)=>(⟨h.1,by obtain ⟨m,hm⟩:=h.2; rw [hm]; exact drewN_below (Below.refl _ _) m⟩:_∧Below (wz.heap.size+1) W w'))
   have hpl:placeR e (ws.drop i)=(wAt ws i).pos:=by rw [drop_at hlt]; rfl
   rw [hpl] at H37 H37D
   have KS:Hid (∀ W,Below wz.heap.size wz W→Below wz.heap.size wz W∧W.cell? ⟨p,14,none⟩=some (.slice (some ⟨b',off,none⟩) LW R.cw)∧W.cell? ⟨p,19,none⟩=some (.int .i64 (i:Int))∧W.cell? ⟨b',off+i * 5+1,none⟩=some (.string (wAt ws i).text)):=fun W hW=>⟨hW,cell_keep hW c14,(rdz.next hW).c19,cell_keep hW g1⟩
   have HD0:Hid (Below wz.heap.size wz wz.drew):=(Below.refl _ _).drew
   have HTS:=hide hts.1
   clear rdz hts g0 c14 ha g1 hLW hpl
   generalize (wAt ws i).text=TX at *
   generalize (wAt ws i).pos=PP at *
   generalize R.cw=cw at *
   obtain ⟨-,c14,c19,g1⟩:=KS.out wz (Below.refl _ _)
   obtain rfl:RES=.ok (node 21 0 TX [] PP,ws.drop (i+1)):=HRES.out
   have HT:Hid (∀ X vb,Below wz.heap.size wz X→wz.heap.size≤vb→Vn X vb 21 0 TX (.slice none 0 0) (.slice none 0 0) (.slice none 0 0) PP→X.cell? ⟨p,19,none⟩=some (.int .i64 (i:Int))∧X.frozen? ⟨p,19,none⟩=false∧Vn (X.setCell ⟨p,19,none⟩ (.int .i64 ((i:Int)+1))) vb 21 0 TX (.slice none 0 0) (.slice none 0 0) (.slice none 0 0) PP∧Rv (X.setCell ⟨p,19,none⟩ (.int .i64 ((i:Int)+1))) w.heap.size∧∀ wf,But (·=w.heap.size) (X.setCell ⟨p,19,none⟩ (.int .i64 ((i:Int)+1))) wf→GvF n w0 w p g R ws A e (.ok (node 21 0 TX [] PP,ws.drop (i+1))) (.returned (.agg #[.int .i64 21,.int .i64 0,.string TX,.slice none 0 0,.slice none 0 0,.slice none 0 0,.int .i64 PP])) wf):=fun X vb hX hvb hv=>by
    have hxs:=hX.size
    have rdx:=HRDZ.out.next hX
    have rd7:=rdx.move (i+1) hlt
    have bm7:=rdx.moved (i+1)
    rw [show ((i+1:Nat):Int)=(i:Int)+1 by simp] at rd7 bm7
    refine ⟨rdx.c19,rdx.fz,hv.but bm7 (by omega),(HRVZ.out.block hX.size (hX.block _ HRVZ.out.lt)).but bm7 (by omega),fun wf hf=>?_⟩
    exact gf_fin (m:=1) (D:=Iv (w.heap.size+1) (w.heap.size+1)) ((HBW.out.trans (But.of hX) fun j _ hj=>hj).trans bm7 fun j _ hj=>hj) rd7 rfl (Tr.leaf n _ _ _ _ 21 0 TX PP HTS.out) (fun k hk=>by have h1:=hk.1; have h2:=hk.2; omega) hpw hBw hf
   have HA1:Hid (Below wz.heap.size wz (wz.alloc (.cells #[.int .i64 0,.int .i64 0,.string ⟨#[]⟩,.slice none 0 0,.slice none 0 0,.slice none 0 0,.int .i64 0] 39)).drew):=(one_alloc _ _).drew
   have HA3:Hid (∀ W,Below wz.heap.size wz W→Below wz.heap.size wz (W.alloc (.cells #[.int .i64 21,.int .i64 0,.string TX,.slice none 0 0,.slice none 0 0,.slice none 0 0,.int .i64 PP] 39))):=fun W hW=>hW.trans ((one_alloc _ _).mono hW.size)
   have HA2:Hid (∀ W,Below wz.heap.size wz W→Below wz.heap.size wz (W.alloc (.cells #[.int .i64 0,.int .i64 0,.string ⟨#[]⟩,.slice none 0 0,.slice none 0 0,.slice none 0 0,.int .i64 0] 39))):=fun W hW=>hW.trans ((one_alloc _ _).mono hW.size)
   have HA4:Hid (∀ W,Below wz.heap.size wz W→Below wz.heap.size wz (((((((W.setCell ⟨wz.heap.size,0,none⟩ (.int .i64 21)).setCell ⟨wz.heap.size,1,none⟩ (.int .i64 0)).setCell ⟨wz.heap.size,2,none⟩ (.string TX)).setCell ⟨wz.heap.size,3,none⟩ (.slice none 0 0)).setCell ⟨wz.heap.size,4,none⟩ (.slice none 0 0)).setCell ⟨wz.heap.size,5,none⟩ (.slice none 0 0)).setCell ⟨wz.heap.size,6,none⟩ (.int .i64 PP))):=fun W hW=>((((((hW.setCell (p:=⟨wz.heap.size,0,none⟩) (Nat.le_refl _) _).setCell (p:=⟨wz.heap.size,1,none⟩) (Nat.le_refl _) _).setCell (p:=⟨wz.heap.size,2,none⟩) (Nat.le_refl _) _).setCell (p:=⟨wz.heap.size,3,none⟩) (Nat.le_refl _) _).setCell (p:=⟨wz.heap.size,4,none⟩) (Nat.le_refl _) _).setCell (p:=⟨wz.heap.size,5,none⟩) (Nat.le_refl _) _).setCell (p:=⟨wz.heap.size,6,none⟩) (Nat.le_refl _) _
   have H37B:Hid (Calls Try.prog 37 #[.pointer (some ⟨p,0,none⟩)] (wz.alloc (.cells #[.int .i64 0,.int .i64 0,.string ⟨#[]⟩,.slice none 0 0,.slice none 0 0,.slice none 0 0,.int .i64 0] 39)).drew fun e w7=>e=.returned (.int .i64 PP)∧Below wz.heap.size wz w7∧Below (wz.heap.size+1) (wz.alloc (.cells #[.int .i64 0,.int .i64 0,.string ⟨#[]⟩,.slice none 0 0,.slice none 0 0,.slice none 0 0,.int .i64 0] 39)).drew w7):=(H37D.out _ (one_alloc wz _).drew (by simp)).mono fun e w' h=>⟨h.1,(one_alloc _ _).drew.trans (h.2.mono (by simp)),h.2⟩
   have HZC:Hid (∀ w7,Below (wz.heap.size+1) (wz.alloc (.cells #[.int .i64 0,.int .i64 0,.string ⟨#[]⟩,.slice none 0 0,.slice none 0 0,.slice none 0 0,.int .i64 0] 39)).drew w7→(∀ k v,#[.int .i64 0,.int .i64 0,.string ⟨#[]⟩,.slice none 0 0,.slice none 0 0,.slice none 0 0,.int .i64 0][k]?=some v→w7.cell? ⟨wz.heap.size,k,none⟩=some v)∧(∀ k,w7.frozen? ⟨wz.heap.size,k,none⟩=false)∧wz.heap.size < w7.heap.size):=fun w7 hb =>
    ⟨fun k v hv=>(hb.cell (p:=⟨wz.heap.size,k,none⟩) (Nat.lt_succ_self _)).trans (cell_new0 wz #[.int .i64 0,.int .i64 0,.string ⟨#[]⟩,.slice none 0 0,.slice none 0 0,.slice none 0 0,.int .i64 0] 39 k v hv),fun k=>(hb.frozen (p:=⟨wz.heap.size,k,none⟩) (Nat.lt_succ_self _)).trans (frozen_new _ _ _ _),Nat.lt_of_lt_of_le (by simp) hb.size⟩
   go_region_held3 (fun W=>Below wz.heap.size wz W∧W.cell? ⟨p,14,none⟩=some (.slice (some ⟨b',off,none⟩) LW cw)∧W.cell? ⟨p,19,none⟩=some (.int .i64 (i:Int))∧W.cell? ⟨b',off+i * 5+1,none⟩=some (.string TX)) (first | with_reducible exact KS.out _ HD0.out | with_reducible exact KS.out _ HA1.out | with_reducible exact KS.out _ (by with_reducible assumption) | with_reducible exact KS.out _ (HA2.out _ (by with_reducible assumption)) | with_reducible exact KS.out _ (HA3.out _ (by with_reducible assumption)) | with_reducible exact KS.out _ (HA4.out _ (by with_reducible assumption)) | with_reducible exact KS.out _ (HA2.out _ HD0.out)) (first | (go_at_call 37; ((with_reducible refine (H37.out _ HD0.out).mono ?_)); rintro e w7 ⟨rfl,hb7⟩) | (go_at_call 37; ((with_reducible refine H37B.out.mono ?_)); rintro e w7 ⟨rfl,hb7,hb8⟩; obtain ⟨hz,hf,hl7⟩:=HZC.out w7 hb8; have y0:=hz 0 _ rfl; have y1:=hz 1 _ rfl; have y2:=hz 2 _ rfl; have y3:=hz 3 _ rfl; have y4:=hz 4 _ rfl; have y5:=hz 5 _ rfl; have y6:=hz 6 _ rfl; have z0:=hf 0; have z1:=hf 1; have z2:=hf 2; have z3:=hf 3; have z4:=hf 4; have z5:=hf 5; have z6:=hf 6))
   ·obtain ⟨X,hX⟩:∃ X,w7.alloc (.cells #[.int .i64 21,.int .i64 0,.string TX,.slice none 0 0,.slice none 0 0,.slice none 0 0,.int .i64 PP] 39)=X:=⟨_,rfl⟩
    have hs7:=hb7.size
    obtain ⟨d19,f19,hv,hr,hfin⟩:=HT.out X w7.heap.size (by rw [←hX]; exact HA3.out _ hb7) hs7 (by rw [←hX]; exact Vn.new _ _ _ _ _ _ _ _)
    have y0c:=hb7
    clear hb7
    have HE6:=hide hX
    have HFIN:=hide hfin
    have HRV:=hide hr
    clear hX hfin hr y0c HT HA1 HA2 HA3 HA4 H37B HZC HD0 KS H37 H37D c14 c19 g1 HRDZ HBW HRVZ HTS HRES HIE HIF HSS HE
    go_upto_region 6 with fail
    rw [HE6.out]
    clear HE6
    obtain ⟨-,v0,v1,v2,v3,v4,v5,v6⟩:=hv
    go_upto_region 7 with fail
    generalize X.setCell ⟨p,19,none⟩ (.int .i64 ((i:Int)+1))=W7 at *
    have RV:=HRV.out
    obtain ⟨r0,Q0⟩:=RV.c 0 (by omega)
    have F0:=RV.f 0
    obtain ⟨r1,Q1⟩:=RV.c 1 (by omega)
    have F1:=RV.f 1
    obtain ⟨r2,Q2⟩:=RV.c 2 (by omega)
    have F2:=RV.f 2
    obtain ⟨r3,Q3⟩:=RV.c 3 (by omega)
    have F3:=RV.f 3
    obtain ⟨r4,Q4⟩:=RV.c 4 (by omega)
    have F4:=RV.f 4
    obtain ⟨r5,Q5⟩:=RV.c 5 (by omega)
    have F5:=RV.f 5
    obtain ⟨r6,Q6⟩:=RV.c 6 (by omega)
    have F6:=RV.f 6
    clear RV HRV
    go_wp2
    refine bodyPost_ret (v:=.agg #[.int .i64 21,.int .i64 0,.string TX,.slice none 0 0,.slice none 0 0,.slice none 0 0,.int .i64 PP]) (by simp [results,Try.results66,go_sem,Q0,Q1,Q2,Q3,Q4,Q5,Q6]) rfl (HFIN.out _ ?_)
    repeat' first | with_reducible exact But.refl _ _ | with_reducible rfl | with_reducible refine butS ?_ ?_
   ·obtain ⟨X,hX⟩:∃ X,(((((((w7.setCell ⟨wz.heap.size,0,none⟩ (.int .i64 21)).setCell ⟨wz.heap.size,1,none⟩ (.int .i64 0)).setCell ⟨wz.heap.size,2,none⟩ (.string TX)).setCell ⟨wz.heap.size,3,none⟩ (.slice none 0 0)).setCell ⟨wz.heap.size,4,none⟩ (.slice none 0 0)).setCell ⟨wz.heap.size,5,none⟩ (.slice none 0 0)).setCell ⟨wz.heap.size,6,none⟩ (.int .i64 PP))=X:=⟨_,rfl⟩
    have hs7:=hb7.size
    have vz:Vn w7 wz.heap.size 0 0 ⟨#[]⟩ (.slice none 0 0) (.slice none 0 0) (.slice none 0 0) 0:=⟨hl7,y0,y1,y2,y3,y4,y5,y6⟩
    obtain ⟨d19,f19,hv,hr,hfin⟩:=HT.out X wz.heap.size (by rw [←hX]; exact HA4.out _ hb7) (Nat.le_refl _) (by rw [←hX]; exact st7_vn vz 21 0 TX (.slice none 0 0) (.slice none 0 0) (.slice none 0 0) PP)
    have y0c:=hb7
    clear hb7 hb8 vz hz hf y0 y1 y2 y3 y4 y5 y6 z0 z1 z2 z3 z4 z5 z6
    have HE6:=hide hX
    have HFIN:=hide hfin
    have HRV:=hide hr
    clear hX hfin hr y0c HT HA1 HA2 HA3 HA4 H37B HZC HD0 KS H37 H37D c14 c19 g1 HRDZ HBW HRVZ HTS HRES HIE HIF HSS HE
    go_upto_region 6 with fail
    rw [HE6.out]
    clear HE6
    obtain ⟨-,v0,v1,v2,v3,v4,v5,v6⟩:=hv
    go_upto_region 7 with fail
    generalize X.setCell ⟨p,19,none⟩ (.int .i64 ((i:Int)+1))=W7 at *
    have RV:=HRV.out
    obtain ⟨r0,Q0⟩:=RV.c 0 (by omega)
    have F0:=RV.f 0
    obtain ⟨r1,Q1⟩:=RV.c 1 (by omega)
    have F1:=RV.f 1
    obtain ⟨r2,Q2⟩:=RV.c 2 (by omega)
    have F2:=RV.f 2
    obtain ⟨r3,Q3⟩:=RV.c 3 (by omega)
    have F3:=RV.f 3
    obtain ⟨r4,Q4⟩:=RV.c 4 (by omega)
    have F4:=RV.f 4
    obtain ⟨r5,Q5⟩:=RV.c 5 (by omega)
    have F5:=RV.f 5
    obtain ⟨r6,Q6⟩:=RV.c 6 (by omega)
    have F6:=RV.f 6
    clear RV HRV
    go_wp2
    refine bodyPost_ret (v:=.agg #[.int .i64 21,.int .i64 0,.string TX,.slice none 0 0,.slice none 0 0,.slice none 0 0,.int .i64 PP]) (by simp [results,Try.results66,go_sem,Q0,Q1,Q2,Q3,Q4,Q5,Q6]) rfl (HFIN.out _ ?_)
    repeat' first | with_reducible exact But.refl _ _ | with_reducible rfl | with_reducible refine butS ?_ ?_
end Go.Proofs.Ytnaejfoighmfeaa
namespace Go.Proofs.Ytnaejfoighmfeaa
open Go.ChangeShapes Go.WideShapes Go.ChangeAt Go.RowKit
set_option maxRecDepth 100000
set_option linter.unusedVariables false
set_option linter.unusedSimpArgs false
theorem whole_stem {g:Gr} {b:Bool} {l:List Wo} (h:wholeR g b l ≠ 0) (ho:outR g l=false):stemR g b l ≠ 0:=fun e=>by
 unfold wholeR wholeS at h
 have h':(isT 4 g.outer l && decide (0 < stemR g false l.tail))=false:=ho
 rw [h',e] at h
 simp at h
set_option maxHeartbeats 16000000 in
theorem fun_step {n:Nat} {w0:World} {p:Nat} {g:Gr} {R:Raw} {ws:List Wo} {A:Ra} {e:Int} (d:Nat) (hd:d≤24) (IE:CE n w0 p g R ws A e d) (IF:CF n w0 p g R ws A e d):CF n w0 p g R ws A e (d+1):=by
 intro w i b h hW
 obtain ⟨PL,hPL⟩:∃ PL,placeR e (ws.drop i)=PL:=⟨_,rfl⟩
 have hf:(EF g e (d+1)).2 (ws.drop i)=(stemS g e (EF g e d).1 (EF g e d).2 (if outR g (ws.drop i) then (ws.drop i).tail else ws.drop i)).bind fun q=>.ok (advR g PL (if outR g (ws.drop i) then node 25 0 nost [q.1] PL else q.1) q.2):=by
  show funS g e (EF g e d).1 (EF g e d).2 (ws.drop i)=_
  unfold funS; rw [hPL]
 obtain ⟨RES,hRES⟩:∃ RES,(EF g e (d+1)).2 (ws.drop i)=RES:=⟨_,rfl⟩
 rw [hRES]
 rw [hRES] at hf
 clear hRES
 obtain ⟨W1,e1⟩:∃ W1,w.alloc (.cells #[.int .i64 0,.int .i64 0,.string ⟨#[]⟩,.slice none 0 0,.slice none 0 0,.slice none 0 0,.int .i64 0] 39)=W1:=⟨_,rfl⟩
 have b1:Below w.heap.size w W1:=by rw [←e1]; exact one_alloc _ _
 have s1:W1.heap.size=w.heap.size+1:=by rw [←e1]; simp
 have rv1:Rv W1 w.heap.size:=by rw [←e1]; exact Rv.new w
 have hL:=h.sp.sn.words
 have hpw:=h.sp.sn.hp2
 have hBw:=h.sp.sn.old.size
 have hB0:=h.sp.sn.hp
 have hile:=h.hi
 have rd1:=h.next b1
 have HEN:Hid (Calls Try.prog 33 #[.pointer (some ⟨p,0,none⟩),.int .i64 ((25 - (d+1):Nat):Int)] W1 fun en w'=>en=.returned (.tuple #[])∧Below W1.heap.size W1 w'):=(enter33 rd1 (d+1) (by omega)).mono fun en w' hh=>by
  rw [if_neg (by omega)] at hh; exact hh
 have HP:=hide (fun W (hW:Below W1.heap.size W1 W)=>(place37 (rd1.next hW)).mono fun e w' (h:_∧_)=>(⟨h.1,by obtain ⟨m,hm⟩:=h.2; rw [hm]; exact drewN_below hW m⟩:_∧Below W1.heap.size W1 w'))
 rw [hPL] at HP
 have KS:Hid (∀ W,Below W1.heap.size W1 W→Below W1.heap.size W1 W∧W.cell? ⟨p,19,none⟩=some (.int .i64 (i:Int))):=fun W hW=>⟨hW,(rd1.next hW).c19⟩
 have H63:=hide (fun W (hW:Below W1.heap.size W1 W)=>(outer63 (rd1.next hW).sp i hile (by omega)).mono fun e w' (h:_∧_)=>(⟨h.1,hW.trans (h.2.mono hW.size)⟩:_∧Below W1.heap.size W1 w'))
 have HE:=hide e1
 have HB1:=hide b1
 have HRV1:=hide rv1
 have HRD1:=hide rd1
 have HWW:=hide hW
 have HIE:=hide IE
 have HIF:=hide IF
 have hdd:(25 - (d+1):Nat)=24 - d:=by omega
 rw [hdd] at HEN ⊢
 clear e1 h b1 rv1 rd1 hW IE IF hPL hdd
 cases hO:outR g (ws.drop i) with
 | true =>
  have hO':(isT 4 g.outer (ws.drop i) && decide (0 < stemR g false (ws.drop i).tail))=true:=hO
  simp only [Bool.and_eq_true,decide_eq_true_eq] at hO'
  have hlt:i < ws.length:=by
   rcases Nat.lt_or_ge i ws.length with hh | hh
   ·exact hh
   ·rw [drop_end (by omega)] at hO'; cases hO'.1
  have HST:Hid (stemR g false (ws.drop (i+1)) ≠ 0):=by
   have:=hO'.2
   rw [List.tail_drop] at this
   exact Nat.ne_of_gt this
  simp only [hO,if_true,List.tail_drop] at hf H63
  have HRES:=hide hf
  clear hf hO hO'
  go_enter Try.func35,Try.ntmps35
  go_upto_region 1 with fail
  rw [HE.out]
  go_wp2_with fail
  refine HEN.out.mono ?_
  rintro en w2 ⟨rfl,hb2⟩
  clear HEN
  go_wp2_with fail
  refine (HP.out _ hb2).mono ?_
  rintro en w3 ⟨rfl,hb3⟩
  have HD0:Hid (Below W1.heap.size W1 w3.drew):=hb3.drew
  obtain ⟨-,c19⟩:=KS.out w3 hb3
  go_upto_region 3 with fail
  go_region_held3 (fun W=>Below W1.heap.size W1 W∧W.cell? ⟨p,19,none⟩=some (.int .i64 (i:Int))) (first | with_reducible exact KS.out _ HD0.out | with_reducible exact KS.out _ (by with_reducible assumption)) (first | (go_at_call 63; refine (H63.out _ HD0.out).mono ?_; rintro e w6 ⟨rfl,hb6⟩))
  have rd6:=HRD1.out.next hb6
  have rd7:=rd6.move (i+1) hlt
  have bm7:=rd6.moved (i+1)
  rw [show ((i+1:Nat):Int)=(i:Int)+1 by simp] at rd7 bm7
  obtain ⟨W7,hW7⟩:∃ W7,w6.setCell ⟨p,19,none⟩ (.int .i64 ((i:Int)+1))=W7:=⟨_,rfl⟩
  rw [hW7] at rd7 bm7
  have h6s:=hb6.size
  have h7s:=bm7.size
  have HRD7:=hide rd7
  have HBW:Hid (But (·=p) w W7):=(But.of (HB1.out.trans (hb6.mono HB1.out.size))).trans bm7 fun j _ hj=>hj
  have HRV7:=hide ((HRV1.out.block hb6.size (hb6.block _ HRV1.out.lt)).but bm7 (by omega))
  have HE7:=hide hW7
  have d19:=rd6.c19
  have f19:=rd6.fz
  clear hW7 rd6 rd7 bm7 hb6 hb3 hb2 KS H63 c19 HB1 HRV1 HRD1 HP
  go_upto_region 6 with fail
  rw [HE7.out]
  clear d19 f19 HE7
  have HC:=hide (stemmed66 d hd HIE.out HIF.out HRD7.out false HST.out)
  go_wp2_with fail
  refine HC.out.mono ?_
  rintro en w8 ⟨hbut,hres⟩
  clear HC
  have h8s:=hbut.size
  have HBT:Hid (But (·=p) w w8):=HBW.out.trans hbut fun j _ hj=>hj
  have rv8:=HRV7.out.but hbut (by omega)
  cases hwd:stemS g e (EF g e d).1 (EF g e d).2 (ws.drop (i+1)) with
  | bad er pl =>
   rw [hwd] at hres
   simp only at hres
   subst hres
   obtain rfl:RES=.bad er pl:=by rw [HRES.out,hwd]; rfl
   go_wp2
   exact ⟨rfl,HBT.out,rfl⟩
  | stuck =>
   rw [hwd] at hres
   exact hres.elim
  | ok r =>
   obtain ⟨nd,rs⟩:=r
   rw [hwd] at hres
   obtain ⟨v,m2,i2,rfl,hrs,hrd,htr⟩:=hres
   have hrs':rs=ws.drop i2:=hrs
   subst hrs'
   have htr':Tr (n+1) w0.heap.size m2 W7.heap.size w8.heap.size w8 nd v:=htr
   obtain ⟨m3,hm3,a1,c1,a2,c2,ak,ck,rfl,-⟩:=htr'.form
   obtain ⟨W9,hW9⟩:∃ W9,w8.alloc (.cells #[.int .i64 nd.kind,.int .i64 nd.op,.string nd.name,.slice a1 nd.lit.shape.length c1,.slice a2 nd.lit.cells.length c2,.slice ak nd.kids.length ck,.int .i64 nd.pos] 39)=W9:=⟨_,rfl⟩
   have b9:Below w8.heap.size w8 W9:=by rw [←hW9]; exact one_alloc _ _
   have s9:W9.heap.size=w8.heap.size+1:=by rw [←hW9]; simp
   have vn9:Vn W9 w8.heap.size nd.kind nd.op nd.name (.slice a1 nd.lit.shape.length c1) (.slice a2 nd.lit.cells.length c2) (.slice ak nd.kids.length ck) nd.pos:=by rw [←hW9]; exact Vn.new _ _ _ _ _ _ _ _
   have tr9:=TrD.keep htr' (Kp.of b9 (by omega) (Nat.le_refl _)).d
   have rd9:=hrd.next b9
   have rv9:=rv8.block b9.size (b9.block _ rv8.lt)
   have HT9:Hid (But (·=p) w W9):=HBT.out.trans (But.of b9) fun j _ hj=>hj
   have HE9:=hide hW9
   have fz9:∀ o,W9.frozen? ⟨w8.heap.size,o,none⟩=false:=fun o=>by rw [←hW9]; exact frozen_new _ _ _ _
   have HRS:=hide (show RES=.ok (advR g PL (node 25 0 nost [nd] PL) (ws.drop i2)) by rw [HRES.out,hwd]; rfl)
   obtain ⟨W10,hW10⟩:∃ W10,W9.alloc (.cells #[.int .i64 nd.kind,.int .i64 nd.op,.string nd.name,.slice a1 nd.lit.shape.length c1,.slice a2 nd.lit.cells.length c2,.slice ak nd.kids.length ck,.int .i64 nd.pos] 39)=W10:=⟨_,rfl⟩
   have b10:Below W9.heap.size W9 W10:=by rw [←hW10]; exact one_alloc _ _
   have s10:W10.heap.size=w8.heap.size+2:=by rw [←hW10]; simp; omega
   have hk10:=trk1 (B:=w0.heap.size) (n:=n+1) (by omega) (fun k hk=>by have:=hk.2; omega) tr9 39
   rw [hW10,s9] at hk10
   have tp10:=TrD.put (ck:=1) 25 0 nost PL (Nat.zero_le _) (by simp) hk10
   have vn10:=vn9.block b10.size (b10.block _ vn9.lt)
   have fz10:∀ o,W10.frozen? ⟨w8.heap.size,o,none⟩=false:=fun o=>(frozen_block (b10.block _ (by omega)) o).trans (fz9 o)
   have bst:=st7_but W10 w8.heap.size 25 0 nost (.slice none 0 0) (.slice none 0 0) (.slice (some ⟨w8.heap.size+1,0,none⟩) 1 1) PL
   have vst:=st7_vn vn10 25 0 nost (.slice none 0 0) (.slice none 0 0) (.slice (some ⟨w8.heap.size+1,0,none⟩) 1 1) PL
   obtain ⟨W11,hW11⟩:∃ W11,((((((W10.setCell ⟨w8.heap.size,0,none⟩ (.int .i64 25)).setCell ⟨w8.heap.size,1,none⟩ (.int .i64 0)).setCell ⟨w8.heap.size,2,none⟩ (.string ⟨#[]⟩)).setCell ⟨w8.heap.size,3,none⟩ (.slice none 0 0)).setCell ⟨w8.heap.size,4,none⟩ (.slice none 0 0)).setCell ⟨w8.heap.size,5,none⟩ (.slice (some ⟨w8.heap.size+1,0,none⟩) 1 1)).setCell ⟨w8.heap.size,6,none⟩ (.int .i64 PL)=W11:=⟨_,rfl⟩
   have bst':But (·=w8.heap.size) W10 W11:=by rw [←hW11]; exact bst
   have vst':Vn W11 w8.heap.size 25 0 nost (.slice none 0 0) (.slice none 0 0) (.slice (some ⟨w8.heap.size+1,0,none⟩) 1 1) PL:=by rw [←hW11]; exact vst
   have s11:=bst'.size
   have hDD:∀ k,(Iv W7.heap.size w8.heap.size k ∨ k=w8.heap.size+1)→w.heap.size < k∧k < W10.heap.size∧k ≠ w8.heap.size:=fun k hk=>by
    rcases hk with hk | hk
    ·have h1:=hk.1; have h2:=hk.2; omega
    ·omega
   have tp11:=tp10.keep (KpD.but bst' (by omega) (fun k hk=>(hDD k hk).2.1) fun k hk=>⟨by omega,fun hh=>(hDD k hh).2.2 hk⟩)
   have rd11:=(rd9.next b10).upto (bst'.below (by omega) fun k hk=>by omega)
   have HT11:Hid (But (·=p) w W11):=(HT9.out.trans (But.of b10) fun j _ hj=>hj).trans bst' fun j hj hh=>by omega
   have rv11:=(rv9.block b10.size (b10.block _ rv9.lt)).but bst' (by omega)
   have HADV:=hide (adverbs67 (PL:=PL) rd11 (fun k hk=>⟨by have:=hDD k hk; omega,by have:=hDD k hk; omega⟩) tp11)
   have HE11:=hide hW11
   have HV11:=hide vst'
   have HD2:Hid (∀ k,(Iv W7.heap.size w8.heap.size k ∨ k=w8.heap.size+1)→w.heap.size < k∧k < W11.heap.size):=fun k hk=>by have:=hDD k hk; omega
   obtain ⟨-,v0,v1,v2,v3,v4,v5,v6⟩:=vn9
   obtain ⟨-,u0,u1,u2,u3,u4,u5,u6⟩:=vn10
   have f0:=fz10 0
   have f1:=fz10 1
   have f2:=fz10 2
   have f3:=fz10 3
   have f4:=fz10 4
   have f5:=fz10 5
   have f6:=fz10 6
   clear hW9 b9 tr9 rd9 rv9 HT9 fz9 b10 hk10 tp10 fz10 bst vst bst' vst' hDD tp11 rd11 hW11 htr htr' hrd hbut hrs hwd HRES rv8 HBT hm3
   go_upto_region 7 with fail
   rw [HE9.out]
   go_upto_region 9 with fail
   rw [HE11.out]
   clear v0 v1 v2 v3 v4 v5 v6 u0 u1 u2 u3 u4 u5 u6 f0 f1 f2 f3 f4 f5 f6 HE9 HE11 hW10
   obtain ⟨-,v0,v1,v2,v3,v4,v5,v6⟩:=HV11.out
   clear HV11
   go_wp2_with fail
   refine HADV.out.mono ?_
   rintro en w12 ⟨hb12,v,m4,i4,rfl,hl4,rd12,tr12⟩
   clear HADV v0 v1 v2 v3 v4 v5 v6
   have s12:=hb12.size
   have HRV:=hide (rv11.but hb12 (by omega))
   obtain ⟨RR,hRR⟩:∃ RR,advR g PL (node 25 0 nost [nd] PL) (ws.drop i2)=RR:=⟨_,rfl⟩
   rw [hRR] at tr12 hl4 HRS
   clear hRR
   obtain ⟨m5,hm5,d1,e1,d2,e2,dk,ek,rfl,-⟩:=tr12.form
   have HFIN:Hid (∀ wf,But (·=w.heap.size) w12 wf→GvF n w0 w p g R ws A e RES (.returned (.agg #[.int .i64 RR.1.kind,.int .i64 RR.1.op,.string RR.1.name,.slice d1 RR.1.lit.shape.length e1,.slice d2 RR.1.lit.cells.length e2,.slice dk RR.1.kids.length ek,.int .i64 RR.1.pos])) wf):=fun wf hf=>by
    rw [HRS.out]
    exact gf_fin (rest:=RR.2) (x:=RR.1) (HT11.out.trans hb12 fun j _ hj=>hj) rd12 hl4 tr12 (fun k hk=>Or.elim hk (fun h=>by have:=HD2.out k h; omega) (fun h=>by have h1:=h.1; have h2:=h.2; omega)) hpw hBw hf
   clear HRS hb12 hl4 rd12 tr12 HT11 HD2 hm5 rv11
   have RV:=HRV.out
   obtain ⟨r0,Q0⟩:=RV.c 0 (by omega)
   have F0:=RV.f 0
   obtain ⟨r1,Q1⟩:=RV.c 1 (by omega)
   have F1:=RV.f 1
   obtain ⟨r2,Q2⟩:=RV.c 2 (by omega)
   have F2:=RV.f 2
   obtain ⟨r3,Q3⟩:=RV.c 3 (by omega)
   have F3:=RV.f 3
   obtain ⟨r4,Q4⟩:=RV.c 4 (by omega)
   have F4:=RV.f 4
   obtain ⟨r5,Q5⟩:=RV.c 5 (by omega)
   have F5:=RV.f 5
   obtain ⟨r6,Q6⟩:=RV.c 6 (by omega)
   have F6:=RV.f 6
   clear RV HRV
   go_wp2
   refine bodyPost_ret (v:=.agg #[.int .i64 RR.1.kind,.int .i64 RR.1.op,.string RR.1.name,.slice d1 RR.1.lit.shape.length e1,.slice d2 RR.1.lit.cells.length e2,.slice dk RR.1.kids.length ek,.int .i64 RR.1.pos]) (by simp [results,Try.results35,go_sem,Q0,Q1,Q2,Q3,Q4,Q5,Q6]) rfl (HFIN.out _ ?_)
   repeat' first | with_reducible exact But.refl _ _ | with_reducible rfl | with_reducible refine butS ?_ ?_
 | false =>
  have HST:=hide (whole_stem HWW.out hO)
  simp only [hO,Bool.false_eq_true,if_false] at hf H63
  have HRES:=hide hf
  clear hf hO
  go_enter Try.func35,Try.ntmps35
  go_upto_region 1 with fail
  rw [HE.out]
  go_wp2_with fail
  refine HEN.out.mono ?_
  rintro en w2 ⟨rfl,hb2⟩
  clear HEN
  go_wp2_with fail
  refine (HP.out _ hb2).mono ?_
  rintro en w3 ⟨rfl,hb3⟩
  have HD0:Hid (Below W1.heap.size W1 w3.drew):=hb3.drew
  obtain ⟨-,c19⟩:=KS.out w3 hb3
  go_upto_region 3 with fail
  go_region_held3 (fun W=>Below W1.heap.size W1 W∧W.cell? ⟨p,19,none⟩=some (.int .i64 (i:Int))) (first | with_reducible exact KS.out _ HD0.out | with_reducible exact KS.out _ (by with_reducible assumption)) (first | (go_at_call 63; refine (H63.out _ HD0.out).mono ?_; rintro e w6 ⟨rfl,hb6⟩))
  obtain ⟨W7,hW7⟩:∃ W7,w6=W7:=⟨_,rfl⟩
  rw [hW7] at hb6 ⊢
  have h6s:=hb6.size
  have HRD7:=hide (HRD1.out.next hb6)
  have HBW:Hid (But (·=p) w W7):=But.of (HB1.out.trans (hb6.mono HB1.out.size))
  have HRV7:=hide (HRV1.out.block hb6.size (hb6.block _ HRV1.out.lt))
  clear hW7 hb6 hb3 hb2 KS H63 c19 HB1 HRV1 HRD1 HP
  have HC:=hide (stemmed66 d hd HIE.out HIF.out HRD7.out b HST.out)
  go_wp2_with fail
  refine HC.out.mono ?_
  rintro en w8 ⟨hbut,hres⟩
  clear HC
  have h8s:=hbut.size
  have HBT:Hid (But (·=p) w w8):=HBW.out.trans hbut fun j _ hj=>hj
  have rv8:=HRV7.out.but hbut (by omega)
  cases hwd:stemS g e (EF g e d).1 (EF g e d).2 (ws.drop i) with
  | bad er pl =>
   rw [hwd] at hres
   simp only at hres
   subst hres
   obtain rfl:RES=.bad er pl:=by rw [HRES.out,hwd]; rfl
   go_wp2
   exact ⟨rfl,HBT.out,rfl⟩
  | stuck =>
   rw [hwd] at hres
   exact hres.elim
  | ok r =>
   obtain ⟨nd,rs⟩:=r
   rw [hwd] at hres
   obtain ⟨v,m2,i2,rfl,hrs,hrd,htr⟩:=hres
   have hrs':rs=ws.drop i2:=hrs
   subst hrs'
   have htr':Tr (n+1) w0.heap.size m2 W7.heap.size w8.heap.size w8 nd v:=htr
   obtain ⟨m3,hm3,a1,c1,a2,c2,ak,ck,rfl,-⟩:=htr'.form
   obtain ⟨W9,hW9⟩:∃ W9,w8.alloc (.cells #[.int .i64 nd.kind,.int .i64 nd.op,.string nd.name,.slice a1 nd.lit.shape.length c1,.slice a2 nd.lit.cells.length c2,.slice ak nd.kids.length ck,.int .i64 nd.pos] 39)=W9:=⟨_,rfl⟩
   have b9:Below w8.heap.size w8 W9:=by rw [←hW9]; exact one_alloc _ _
   have s9:W9.heap.size=w8.heap.size+1:=by rw [←hW9]; simp
   have vn9:Vn W9 w8.heap.size nd.kind nd.op nd.name (.slice a1 nd.lit.shape.length c1) (.slice a2 nd.lit.cells.length c2) (.slice ak nd.kids.length ck) nd.pos:=by rw [←hW9]; exact Vn.new _ _ _ _ _ _ _ _
   have tr9:=TrD.keep htr' (Kp.of b9 (by omega) (Nat.le_refl _)).d
   have rd9:=hrd.next b9
   have rv9:=rv8.block b9.size (b9.block _ rv8.lt)
   have HT9:Hid (But (·=p) w W9):=HBT.out.trans (But.of b9) fun j _ hj=>hj
   have HE9:=hide hW9
   have fz9:∀ o,W9.frozen? ⟨w8.heap.size,o,none⟩=false:=fun o=>by rw [←hW9]; exact frozen_new _ _ _ _
   have HRS:=hide (show RES=.ok (advR g PL nd (ws.drop i2)) by rw [HRES.out,hwd]; rfl)
   have HADV:=hide (adverbs67 (PL:=PL) rd9 (fun k hk=>⟨by have:=hk.2; omega,by have:=hk.1; omega⟩) tr9)
   have HD2:Hid (∀ k,Iv W7.heap.size w8.heap.size k→w.heap.size < k∧k < W9.heap.size):=fun k hk=>by have h1:=hk.1; have h2:=hk.2; omega
   have rv11:=rv9
   obtain ⟨-,v0,v1,v2,v3,v4,v5,v6⟩:=vn9
   clear hW9 b9 tr9 rd9 rv9 fz9 htr htr' hrd hbut hrs hwd HRES rv8 HBT hm3
   go_upto_region 7 with fail
   rw [HE9.out]
   go_upto_region 9 with fail
   clear HE9
   go_wp2_with fail
   refine HADV.out.mono ?_
   rintro en w12 ⟨hb12,v,m4,i4,rfl,hl4,rd12,tr12⟩
   clear HADV v0 v1 v2 v3 v4 v5 v6
   have s12:=hb12.size
   have HRV:=hide (rv11.but hb12 (by omega))
   obtain ⟨RR,hRR⟩:∃ RR,advR g PL nd (ws.drop i2)=RR:=⟨_,rfl⟩
   rw [hRR] at tr12 hl4 HRS
   clear hRR
   obtain ⟨m5,hm5,d1,e1,d2,e2,dk,ek,rfl,-⟩:=tr12.form
   have HFIN:Hid (∀ wf,But (·=w.heap.size) w12 wf→GvF n w0 w p g R ws A e RES (.returned (.agg #[.int .i64 RR.1.kind,.int .i64 RR.1.op,.string RR.1.name,.slice d1 RR.1.lit.shape.length e1,.slice d2 RR.1.lit.cells.length e2,.slice dk RR.1.kids.length ek,.int .i64 RR.1.pos])) wf):=fun wf hf=>by
    rw [HRS.out]
    exact gf_fin (rest:=RR.2) (x:=RR.1) (HT9.out.trans hb12 fun j _ hj=>hj) rd12 hl4 tr12 (fun k hk=>Or.elim hk (fun h=>by have:=HD2.out k h; omega) (fun h=>by have h1:=h.1; have h2:=h.2; omega)) hpw hBw hf
   clear HRS hb12 hl4 rd12 tr12 HT9 HD2 hm5 rv11
   have RV:=HRV.out
   obtain ⟨r0,Q0⟩:=RV.c 0 (by omega)
   have F0:=RV.f 0
   obtain ⟨r1,Q1⟩:=RV.c 1 (by omega)
   have F1:=RV.f 1
   obtain ⟨r2,Q2⟩:=RV.c 2 (by omega)
   have F2:=RV.f 2
   obtain ⟨r3,Q3⟩:=RV.c 3 (by omega)
   have F3:=RV.f 3
   obtain ⟨r4,Q4⟩:=RV.c 4 (by omega)
   have F4:=RV.f 4
   obtain ⟨r5,Q5⟩:=RV.c 5 (by omega)
   have F5:=RV.f 5
   obtain ⟨r6,Q6⟩:=RV.c 6 (by omega)
   have F6:=RV.f 6
   clear RV HRV
   go_wp2
   refine bodyPost_ret (v:=.agg #[.int .i64 RR.1.kind,.int .i64 RR.1.op,.string RR.1.name,.slice d1 RR.1.lit.shape.length e1,.slice d2 RR.1.lit.cells.length e2,.slice dk RR.1.kids.length ek,.int .i64 RR.1.pos]) (by simp [results,Try.results35,go_sem,Q0,Q1,Q2,Q3,Q4,Q5,Q6]) rfl (HFIN.out _ ?_)
   repeat' first | with_reducible exact But.refl _ _ | with_reducible rfl | with_reducible refine butS ?_ ?_
end Go.Proofs.Ytnaejfoighmfeaa
namespace Go.Proofs.Ytnaejfoighmfeaa
open Go.ChangeShapes Go.WideShapes Go.ChangeAt Go.RowKit
set_option maxRecDepth 100000
set_option linter.unusedVariables false
theorem all_deep {n:Nat} {w0:World} {p:Nat} {g:Gr} {R:Raw} {ws:List Wo} {A:Ra} {e:Int} (d:Nat) (hd:d≤24):CE n w0 p g R ws A e d∧CF n w0 p g R ws A e d:=by
 induction d with
 | zero=>exact ⟨expr_deep,fun_deep⟩
 | succ d ih =>
  obtain ⟨h1,h2⟩:=ih (by omega)
  exact ⟨expr_step d (by omega) h1 h2,fun_step d (by omega) h1 h2⟩
end Go.Proofs.Ytnaejfoighmfeaa
namespace Go.Proofs.Ytnaejfoighmfeaa
open Go.ChangeShapes Go.WideShapes Go.ChangeAt Go.RowKit
set_option maxRecDepth 100000
set_option linter.unusedVariables false
set_option linter.unusedSimpArgs false
abbrev raOf (bc bt ba bb L:Nat):Ra:=⟨some ⟨bc,0,none⟩,L,some ⟨bt,0,none⟩,L+1,some ⟨ba,0,none⟩,L+1,some ⟨bb,0,none⟩,L+1⟩
theorem IntsIn.other {w:World} {p b c k:Nat} {f:Nat→Nat} {lo hi:Nat} {u:Value} (h:IntsIn w p (some ⟨b,0,none⟩) f lo hi) (hn:b ≠ c):IntsIn (w.setCell ⟨c,k,none⟩ u) p (some ⟨b,0,none⟩) f lo hi:=fun j h1 h2=>by
 obtain ⟨b',off,ha,hl,hp,hc⟩:=h j h1 h2
 cases ha
 exact ⟨b,0,rfl,by simpa using hl,hp,cs_off (by omega) hc⟩
theorem IntsIn.more {w:World} {p b i:Nat} {f:Nat→Nat} {hi:Nat} {u:Value} (h:IntsIn w p (some ⟨b,0,none⟩) f (i+1) hi) (hc:w.cell? ⟨b,i,none⟩=some u) (hl:b < w.heap.size) (hp:b ≠ p):IntsIn (w.setCell ⟨b,i,none⟩ (.int .i64 (f i:Nat))) p (some ⟨b,0,none⟩) f i hi:=fun j h1 h2=>by
 by_cases e:j=i
 ·subst e
  exact ⟨b,0,rfl,by simpa using hl,hp,by rw [Nat.zero_add]; exact cs_same hc⟩
 ·obtain ⟨b',off,ha,hl',hp',hc'⟩:=h j (by omega) h2
  cases ha
  exact ⟨b,0,rfl,by simpa using hl',hp',cs_off (by omega) hc'⟩
structure Ms (n:Nat) (w0 w:World) (g:Gr) (R:Raw) (ws:List Wo) (pm bc bt ba bb t a b:Nat) (wr:World):Prop where
 old:Below w.heap.size w wr
 sp:Sp n w0 wr pm g R ws (raOf bc bt ba bb ws.length) t a b
 rt:∃ f,NRow wr bt (ws.length+1) f
 ra:∃ f,NRow wr ba (ws.length+1) f
 rb:∃ f,NRow wr bb (ws.length+1) f
 rv:wr.there (w.heap.size+1) 0 19
 lc:bc < wr.heap.size
 c9:wr.cell? ⟨pm,9,none⟩=some (.string R.mi)
 c10:wr.cell? ⟨pm,10,none⟩=some (.string R.qu)
 ne:(bt ≠ pm∧ba ≠ pm∧bb ≠ pm)∧(bc ≠ bt∧bc ≠ ba∧bc ≠ bb)∧(bt ≠ ba∧bt ≠ bb∧ba ≠ bb)∧(w.heap.size+2≤bc∧w.heap.size+2≤bt∧w.heap.size+2≤ba∧w.heap.size+2≤bb∧w.heap.size+2≤pm)∧w0.heap.size≤w.heap.size
section
variable {n:Nat} {w0 w:World} {g:Gr} {R:Raw} {ws:List Wo} {pm bc bt ba bb t a b:Nat} {wr wr':World}
theorem there_next {b':Nat} (h:wr.there b' 0 19) (hl:b' < wr.heap.size) (hb:Below wr.heap.size wr wr'):wr'.there b' 0 19:=fun j hj=>by
 obtain ⟨h1,h2⟩:=h j hj
 exact ⟨by rw [hb.cell (p:=⟨b',0+j,none⟩) hl]; exact h1,(hb.frozen (p:=⟨b',0+j,none⟩) hl).trans h2⟩
theorem there_lt {b':Nat} (h:wr.there b' 0 19):b' < wr.heap.size:=by
 obtain ⟨h1,-⟩:=h 0 (by omega)
 obtain ⟨v,hv⟩:=Option.isSome_iff_exists.1 h1
 exact lt_of_cell0 hv
theorem Ms.next (h:Ms n w0 w g R ws pm bc bt ba bb t a b wr) (hb:Below wr.heap.size wr wr'):Ms n w0 w g R ws pm bc bt ba bb t a b wr' :=
 ⟨h.old.trans (hb.mono h.old.size),h.sp.next hb,h.rt.imp fun f hf=>hf.keep hb hf.1,h.ra.imp fun f hf=>hf.keep hb hf.1,h.rb.imp fun f hf=>hf.keep hb hf.1,there_next h.rv (there_lt h.rv) hb,Nat.lt_of_lt_of_le h.lc hb.size,(hb.cell (p:=⟨pm,9,none⟩) h.sp.sn.hp2).trans h.c9,(hb.cell (p:=⟨pm,10,none⟩) h.sp.sn.hp2).trans h.c10,h.ne⟩
theorem there_set {b' c k:Nat} {u:Value} (h:wr.there b' 0 19) (hn:b' ≠ c):(wr.setCell ⟨c,k,none⟩ u).there b' 0 19:=fun j hj=>by
 obtain ⟨h1,h2⟩:=h j hj
 obtain ⟨v,hv⟩:=Option.isSome_iff_exists.1 h1
 exact ⟨by rw [cs_off (u:=u) (b:=c) (o:=k) (by omega) hv]; rfl,fs_any h2⟩
theorem Ms.sn_set {c k:Nat} {u:Value} (h:Ms n w0 w g R ws pm bc bt ba bb t a b wr) (hc:c ≠ pm) (hl:w.heap.size+2≤c):Sn n w0 (wr.setCell ⟨c,k,none⟩ u) pm g R ws:=by
 have hne:=h.ne
 refine h.sp.sn.turn (h.sp.sn.old.setCell (p:=⟨c,k,none⟩) (by show w0.heap.size≤c; omega) _) (by simpa using h.sp.sn.hp2) fun o _=>?_
 exact World.cell?_of_block (a:=⟨pm,o,none⟩) (Below.heap_setCell _ _ _ _ (fun e=>hc e.symm))
theorem Ms.putt {i:Nat} (h:Ms n w0 w g R ws pm bc bt ba bb (i+1) a b wr) (hi:i≤ws.length):(∃ u,wr.cell? ⟨bt,i,none⟩=some u)∧wr.frozen? ⟨bt,i,none⟩=false∧Ms n w0 w g R ws pm bc bt ba bb i a b (wr.setCell ⟨bt,i,none⟩ (.int .i64 (tailV g ws i:Nat))):=by
 obtain ⟨f,hf⟩:=h.rt
 obtain ⟨h1,h2⟩:=hf.2 i (by omega)
 have hne:=h.ne
 have c15:=h.sp.c15
 have cc:∀ o,(wr.setCell ⟨bt,i,none⟩ (.int .i64 (tailV g ws i:Nat))).cell? ⟨pm,o,none⟩=wr.cell? ⟨pm,o,none⟩:=fun o=>World.cell?_of_block (a:=⟨pm,o,none⟩) (Below.heap_setCell _ _ _ _ (by show pm ≠ bt; omega))
 refine ⟨⟨_,h1⟩,h2,h.old.setCell (p:=⟨bt,i,none⟩) (by show w.heap.size≤bt; omega) _,⟨h.sn_set (by omega) (by omega),(cc 15).trans h.sp.c15,(cc 16).trans h.sp.c16,(cc 17).trans h.sp.c17,(cc 18).trans h.sp.c18,IntsIn.other h.sp.hc (by omega),IntsIn.more h.sp.ht h1 hf.1 (by omega),IntsIn.other h.sp.ha (by omega),IntsIn.other h.sp.hb (by omega)⟩,⟨_,hf.set i _⟩,h.ra.imp (fun f hf=>⟨by simpa using hf.1,fun k hk=>⟨cs_off (by omega) (hf.2 k hk).1,fs_any (hf.2 k hk).2⟩⟩),h.rb.imp (fun f hf=>⟨by simpa using hf.1,fun k hk=>⟨cs_off (by omega) (hf.2 k hk).1,fs_any (hf.2 k hk).2⟩⟩),there_set h.rv (by omega),by simpa using h.lc,(cc 9).trans h.c9,(cc 10).trans h.c10,h.ne⟩
theorem Ms.puta {i:Nat} (h:Ms n w0 w g R ws pm bc bt ba bb t (i+1) b wr) (hi:i≤ws.length):(∃ u,wr.cell? ⟨ba,i,none⟩=some u)∧wr.frozen? ⟨ba,i,none⟩=false∧Ms n w0 w g R ws pm bc bt ba bb t i b (wr.setCell ⟨ba,i,none⟩ (.int .i64 (wholeV g false ws i:Nat))):=by
 obtain ⟨f,hf⟩:=h.ra
 obtain ⟨h1,h2⟩:=hf.2 i (by omega)
 have hne:=h.ne
 have c15:=h.sp.c15
 have cc:∀ o,(wr.setCell ⟨ba,i,none⟩ (.int .i64 (wholeV g false ws i:Nat))).cell? ⟨pm,o,none⟩=wr.cell? ⟨pm,o,none⟩:=fun o=>World.cell?_of_block (a:=⟨pm,o,none⟩) (Below.heap_setCell _ _ _ _ (by show pm ≠ ba; omega))
 refine ⟨⟨_,h1⟩,h2,h.old.setCell (p:=⟨ba,i,none⟩) (by show w.heap.size≤ba; omega) _,⟨h.sn_set (by omega) (by omega),(cc 15).trans h.sp.c15,(cc 16).trans h.sp.c16,(cc 17).trans h.sp.c17,(cc 18).trans h.sp.c18,IntsIn.other h.sp.hc (by omega),IntsIn.other h.sp.ht (by omega),IntsIn.more h.sp.ha h1 hf.1 (by omega),IntsIn.other h.sp.hb (by omega)⟩,h.rt.imp (fun f hf=>⟨by simpa using hf.1,fun k hk=>⟨cs_off (by omega) (hf.2 k hk).1,fs_any (hf.2 k hk).2⟩⟩),⟨_,hf.set i _⟩,h.rb.imp (fun f hf=>⟨by simpa using hf.1,fun k hk=>⟨cs_off (by omega) (hf.2 k hk).1,fs_any (hf.2 k hk).2⟩⟩),there_set h.rv (by omega),by simpa using h.lc,(cc 9).trans h.c9,(cc 10).trans h.c10,h.ne⟩
theorem Ms.putb {i:Nat} (h:Ms n w0 w g R ws pm bc bt ba bb t a (i+1) wr) (hi:i≤ws.length):(∃ u,wr.cell? ⟨bb,i,none⟩=some u)∧wr.frozen? ⟨bb,i,none⟩=false∧Ms n w0 w g R ws pm bc bt ba bb t a i (wr.setCell ⟨bb,i,none⟩ (.int .i64 (wholeV g true ws i:Nat))):=by
 obtain ⟨f,hf⟩:=h.rb
 obtain ⟨h1,h2⟩:=hf.2 i (by omega)
 have hne:=h.ne
 have c15:=h.sp.c15
 have cc:∀ o,(wr.setCell ⟨bb,i,none⟩ (.int .i64 (wholeV g true ws i:Nat))).cell? ⟨pm,o,none⟩=wr.cell? ⟨pm,o,none⟩:=fun o=>World.cell?_of_block (a:=⟨pm,o,none⟩) (Below.heap_setCell _ _ _ _ (by show pm ≠ bb; omega))
 refine ⟨⟨_,h1⟩,h2,h.old.setCell (p:=⟨bb,i,none⟩) (by show w.heap.size≤bb; omega) _,⟨h.sn_set (by omega) (by omega),(cc 15).trans h.sp.c15,(cc 16).trans h.sp.c16,(cc 17).trans h.sp.c17,(cc 18).trans h.sp.c18,IntsIn.other h.sp.hc (by omega),IntsIn.other h.sp.ht (by omega),IntsIn.other h.sp.ha (by omega),IntsIn.more h.sp.hb h1 hf.1 (by omega)⟩,h.rt.imp (fun f hf=>⟨by simpa using hf.1,fun k hk=>⟨cs_off (by omega) (hf.2 k hk).1,fs_any (hf.2 k hk).2⟩⟩),h.ra.imp (fun f hf=>⟨by simpa using hf.1,fun k hk=>⟨cs_off (by omega) (hf.2 k hk).1,fs_any (hf.2 k hk).2⟩⟩),⟨_,hf.set i _⟩,there_set h.rv (by omega),by simpa using h.lc,(cc 9).trans h.c9,(cc 10).trans h.c10,h.ne⟩
end
end Go.Proofs.Ytnaejfoighmfeaa
